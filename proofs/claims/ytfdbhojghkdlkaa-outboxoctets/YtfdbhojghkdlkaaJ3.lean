/-
  Trees that may be: plain mathematics.
-/
import Derived.Test.YtfdbhojghkdlkaaVaRefWalk
import Derived.Test.YtfdbhojghkdlkaaVaFrame
import Derived.Test.YtfdbhojghkdlkaaJ2
namespace Go.Proofs.Ytfdbhojghkdlkaa
open Go.ChangeShapes Go.WideShapes Go.ChangeAt Go.RowKit
open Fl

theorem less_trans : ∀ x y z : List UInt8, Op.bytesLess x y = true → Op.bytesLess y z = true → Op.bytesLess x z = true
  | _, _, [], _, h => by simp [Op.bytesLess] at h
  | [], _, c :: z, _, _ => rfl
  | _ :: _, [], _ :: _, h, _ => by simp [Op.bytesLess] at h
  | a :: x, b :: y, c :: z, h1, h2 => by
    simp only [Op.bytesLess, Bool.or_eq_true, Bool.and_eq_true, decide_eq_true_eq, beq_iff_eq] at h1 h2 ⊢
    rcases h1 with h1 | ⟨rfl, h1⟩
    · rcases h2 with h2 | ⟨rfl, h2⟩
      · exact Or.inl (UInt8.lt_trans h1 h2)
      · exact Or.inl h1
    · rcases h2 with h2 | ⟨rfl, h2⟩
      · exact Or.inl h2
      · exact Or.inr ⟨rfl, less_trans x y z h1 h2⟩

theorem less_eq {x y : List UInt8} (h1 : Op.bytesLess x y = false) (h2 : Op.bytesLess y x = false) : x = y := by
  have := less_turn x y
  rw [h1, h2] at this
  simp at this
  exact this.symm

theorem less_asymm {x y : List UInt8} (h : Op.bytesLess x y = true) : Op.bytesLess y x = false := by
  cases e : Op.bytesLess y x with
  | false => rfl
  | true => have := less_trans x y x h e; rw [less_self] at this; cases this

def okV : (n : Nat) → V n → Prop
  | 0, _ => False
  | n + 1, (k, b, t, ks, its) => mayB k b t ks its.length = true ∧ ∀ u ∈ its, okV n u

theorem foldE_mem {α S : Type} {f : α → S → Except Int S} : ∀ (l : List α) (s s' : S), foldE f l s = .ok s' → ∀ a ∈ l, ∃ s1 s2, f a s1 = .ok s2
  | [], _, _, _, _, h => by cases h
  | x :: l, s, s', h, a, ha => by
    simp only [foldE] at h
    cases hfx : f x s with
    | error e => rw [hfx] at h; cases h
    | ok s1 =>
      rw [hfx] at h
      rcases List.mem_cons.1 ha with rfl | ha
      · exact ⟨s, s1, hfx⟩
      · exact foldE_mem l s1 s' h a ha

theorem ok_of_wk (n : Nat) : ∀ (v : V n) (l : Int) (s s' : Nat × Int), wk n v l s = .ok s' → okV n v := by
  induction n with
  | zero => intro v; exact v.elim
  | succ n ih =>
    rintro ⟨k, b, t, ks, its⟩ l ⟨c, d⟩ s' h
    simp only [wk] at h
    split at h
    · cases h
    · split at h
      · cases h
      · split at h
        · rename_i hm
          refine ⟨hm, fun u hu => ?_⟩
          obtain ⟨s1, s2, h1⟩ := foldE_mem its _ s' h u hu
          exact ih u (l + 1) s1 s2 h1
        · cases h

theorem ok_of_chk {n : Nat} {v : V n} (h : chk v = 0) : okV n v := by
  unfold chk at h
  cases hw : wk n v 1 (0, 0) with
  | error e =>
    rw [hw] at h
    simp only [msr] at h
    rcases wk_err n _ _ _ _ hw with e1 | e1 | e1 <;> omega
  | ok s => exact ok_of_wk n v 1 _ s hw

theorem chk_pos {n : Nat} (v : V n) : 0 ≤ chk v := by
  unfold chk
  cases hw : wk n v 1 (0, 0) with
  | error e =>
    simp only [msr]
    rcases wk_err n _ _ _ _ hw with e1 | e1 | e1 <;> omega
  | ok s => obtain ⟨c, d⟩ := s; simp [msr]
end Go.Proofs.Ytfdbhojghkdlkaa

/-
  Values as octets: plain mathematics.
-/
namespace Go.Proofs.Ytfdbhojghkdlkaa
open Go.ChangeShapes Go.WideShapes Go.ChangeAt Go.RowKit
open Fl

/-- An octet of a number, the highest first. -/
def oct (b : Int) (i : Nat) : UInt8 := UInt8.ofNat (b.toNat / 2 ^ (8 * (7 - i)))
def octs (b : Int) : List UInt8 := (List.range 8).map (oct b)

/-- A text's octets. -/
def txt (t : ByteArray) : List UInt8 := UInt8.ofNat t.size :: t.toList

/-- The octets of items, each with its key if there are keys. -/
def pcs (k : Int) (ks : List ByteArray) (es : List (List UInt8)) : List (List UInt8) := if k = 5 then List.zipWith (fun s e => txt s ++ e) ks es else es

/-- A value's octets. -/
def enc : (n : Nat) → V n → List UInt8
  | 0, v => v.elim
  | n + 1, (k, b, t, ks, its) =>
    if k = 0 then [0] else if k = 1 then [UInt8.ofNat (1 + b.toNat)] else if k = 2 then 3 :: octs b else if k = 3 then 4 :: txt t
    else (if k = 4 then 5 else 6) :: UInt8.ofNat its.length :: (pcs k ks (its.map (enc n))).flatten

/-- So many octets. -/
def nxtN (m : Nat) (l : List UInt8) : Except Int (List UInt8 × List UInt8) := if l.length < m then .error 8 else .ok (l.take m, l.drop m)

/-- A number of octets, the highest first. -/
def numO (l : List UInt8) : Int := l.foldl (fun n o => n * 256 + (o.toNat : Int)) 0

def rdBits (l : List UInt8) : Except Int (Int × List UInt8) := match nxtN 8 l with
  | .error e => .error e
  | .ok (a, r) => if can (numO a) = numO a then .ok (numO a, r) else .error 1

def rdText (lo hi : Nat) (l : List UInt8) : Except Int (ByteArray × List UInt8) := match l with
  | [] => .error 8
  | o :: r => if o.toNat < lo ∨ hi < o.toNat then .error 5 else match nxtN o.toNat r with
    | .error e => .error e
    | .ok (a, r') => .ok (⟨a.toArray⟩, r')

def rdCount (l : List UInt8) : Except Int (Nat × List UInt8) := match l with
  | [] => .error 8
  | o :: r => if 32 < o.toNat then .error 3 else .ok (o.toNat, r)

/-- A step, so many times. -/
def iterE {S : Type} (f : S → Except Int S) : Nat → S → Except Int S
  | 0, s => .ok s
  | m + 1, s => match f s with
    | .error e => .error e
    | .ok s' => iterE f m s'

/-- What is left, and how many parts were begun. -/
abbrev RS := List UInt8 × Nat

def stepI {α : Type} (f : RS → Except Int (α × RS)) (s : List α × RS) : Except Int (List α × RS) := match f s.2 with
  | .error e => .error e
  | .ok (a, r) => .ok (s.1 ++ [a], r)

/-- A key above the one ahead. -/
def okNext (last : Option ByteArray) (key : ByteArray) : Bool := match last with
  | none => true
  | some l => Op.bytesLess l.toList key.toList

def stepF {α : Type} (f : RS → Except Int (α × RS)) (s : List ByteArray × List α × RS) : Except Int (List ByteArray × List α × RS) := match rdText 1 16 s.2.2.1 with
  | .error e => .error e
  | .ok (key, r) => if okNext s.1.getLast? key = false then .error 32 else match f (r, s.2.2.2) with
    | .error e => .error e
    | .ok (a, r') => .ok (s.1 ++ [key], s.2.1 ++ [a], r')

/-- A part is read. -/
def rd : (n : Nat) → RS → Except Int (V n × RS)
  | 0, _ => .error 10
  | n + 1, (l, p) => match l with
    | [] => .error 8
    | o :: r =>
      if o.toNat = 0 then .ok ((0, 0, ⟨#[]⟩, [], []), (r, p + 1))
      else if o.toNat = 1 ∨ o.toNat = 2 then .ok ((1, (o.toNat : Int) - 1, ⟨#[]⟩, [], []), (r, p + 1))
      else if o.toNat = 3 then match rdBits r with
        | .error e => .error e
        | .ok (b, r') => .ok ((2, b, ⟨#[]⟩, [], []), (r', p + 1))
      else if o.toNat = 4 then match rdText 0 128 r with
        | .error e => .error e
        | .ok (t, r') => .ok ((3, 0, t, [], []), (r', p + 1))
      else if o.toNat = 5 then match rdCount r with
        | .error e => .error e
        | .ok (m, r') => match iterE (stepI (rd n)) m ([], (r', p + 1)) with
          | .error e => .error e
          | .ok (its, s) => .ok ((4, 0, ⟨#[]⟩, [], its), s)
      else if o.toNat = 6 then match rdCount r with
        | .error e => .error e
        | .ok (m, r') => match iterE (stepF (rd n)) m ([], [], (r', p + 1)) with
          | .error e => .error e
          | .ok (ks, its, s) => .ok ((5, 0, ⟨#[]⟩, ks, its), s)
      else .error 22

/-- Bits that are bits. -/
def bitsV : (n : Nat) → V n → Prop
  | 0, _ => False
  | n + 1, (_, b, _, _, its) => U b ∧ ∀ u ∈ its, bitsV n u

theorem iterE_add {S : Type} (f : S → Except Int S) : ∀ (m m' : Nat) (s : S), iterE f (m + m') s = match iterE f m s with | .error e => .error e | .ok s' => iterE f m' s'
  | 0, m', s => by simp [iterE]
  | m + 1, m', s => by
    rw [show m + 1 + m' = (m + m') + 1 by omega]
    simp only [iterE]
    cases f s with
    | error e => rfl
    | ok s' => exact iterE_add f m m' s'

/-- The octets of a number tell it. -/
theorem numO_octs {b : Int} (h : U b) : numO (octs b) = b := by
  unfold U at h
  obtain ⟨n, rfl⟩ : ∃ n : Nat, b = n := ⟨b.toNat, by omega⟩
  simp only [octs, numO, List.range, List.range.loop, List.map_cons, List.map_nil, List.foldl_cons, List.foldl_nil, oct, UInt8.toNat_ofNat', Int.toNat_natCast]
  simp only [show 8 * (7 - 0) = 56 by rfl, show 8 * (7 - 1) = 48 by rfl, show 8 * (7 - 2) = 40 by rfl, show 8 * (7 - 3) = 32 by rfl, show 8 * (7 - 4) = 24 by rfl, show 8 * (7 - 5) = 16 by rfl, show 8 * (7 - 6) = 8 by rfl, show 8 * (7 - 7) = 0 by rfl]
  omega

theorem octs_length (b : Int) : (octs b).length = 8 := by simp [octs]
end Go.Proofs.Ytfdbhojghkdlkaa

/-
  A value comes back from its octets; octets that are read are a value's: plain mathematics.
-/
namespace Go.Proofs.Ytfdbhojghkdlkaa
open Go.ChangeShapes Go.WideShapes Go.ChangeAt Go.RowKit
open Fl

/-- What each kind of part that may be keeps to. -/
inductive May : Int → Int → ByteArray → List ByteArray → Nat → Prop
  | nothing : May 0 0 ⟨#[]⟩ [] 0
  | truth (b : Int) : b ≤ 1 → May 1 b ⟨#[]⟩ [] 0
  | number (b : Int) : can b = b → May 2 b ⟨#[]⟩ [] 0
  | text (t : ByteArray) : t.size ≤ 128 → May 3 0 t [] 0
  | list (il : Nat) : il ≤ 32 → May 4 0 ⟨#[]⟩ [] il
  | record (ks : List ByteArray) : ks.length ≤ 32 → keysB ks = true → May 5 0 ⟨#[]⟩ ks ks.length

theorem bytes_nil {t : ByteArray} (h : t.toList.isEmpty = true) : t = ⟨#[]⟩ := by
  refine bytes_ext ?_
  rw [List.isEmpty_iff.1 h, ByteArray.toList_eq]

theorem may_iff {k b : Int} {t : ByteArray} {ks : List ByteArray} {il : Nat} : mayB k b t ks il = true ↔ May k b t ks il := by
  constructor
  · intro h
    have nil0 : ∀ {ks : List ByteArray}, ((ks.length : Int) == 0) = true → ks = [] := fun h => List.eq_nil_of_length_eq_zero (by simpa using h)
    have z0 : ((il : Int) == 0) = true → il = 0 := fun h => by simpa using h
    unfold mayB at h
    split at h
    · rename_i e; subst e
      simp only [Bool.and_eq_true] at h
      obtain ⟨h1, h2, h3, h4⟩ := h
      rw [bytes_nil h2, nil0 h3, z0 h4, show b = 0 by simpa using h1]
      exact .nothing
    · split at h
      · rename_i e; subst e
        simp only [Bool.and_eq_true] at h
        obtain ⟨h1, h2, h3, h4⟩ := h
        rw [bytes_nil h2, nil0 h3, z0 h4]
        exact .truth b (by simpa using h1)
      · split at h
        · rename_i e; subst e
          simp only [Bool.and_eq_true] at h
          obtain ⟨h1, h2, h3, h4⟩ := h
          rw [bytes_nil h2, nil0 h3, z0 h4]
          exact .number b (by simpa using h1)
        · split at h
          · rename_i e; subst e
            simp only [Bool.and_eq_true] at h
            obtain ⟨h1, h2, h3, h4⟩ := h
            rw [nil0 h3, z0 h4, show b = 0 by simpa using h1]
            exact .text t (by simp at h2; omega)
          · split at h
            · rename_i e; subst e
              simp only [Bool.and_eq_true] at h
              obtain ⟨h1, h2, h3, h4⟩ := h
              rw [bytes_nil h2, nil0 h3, show b = 0 by simpa using h1]
              exact .list il (by simp at h4; omega)
            · split at h
              · rename_i e; subst e
                simp only [Bool.and_eq_true] at h
                obtain ⟨h1, h2, h3, h4, h5⟩ := h
                have h6 : ks.length = il := by simp at h4; omega
                subst h6
                rw [bytes_nil h2, show b = 0 by simpa using h1]
                exact .record ks (by simp at h3; omega) h5
              · cases h
  · intro h
    cases h with
    | nothing => simp [mayB]
    | truth b h => simpa [mayB] using h
    | number b h => simpa [mayB] using h
    | text t h => simp [mayB]; omega
    | list il h => simp [mayB]; omega
    | record ks h1 h2 => simp [mayB, h2]; omega

/-- How many parts. -/
def prts : (n : Nat) → V n → Nat
  | 0, _ => 0
  | n + 1, (_, _, _, _, its) => 1 + (its.map (prts n)).sum

/-- Keys that may be, and rise. -/
def rise : Option ByteArray → List ByteArray → Prop
  | _, [] => True
  | last, k :: ks => keyB k = true ∧ okNext last k = true ∧ rise (some k) ks

theorem rise_drop {ks : List ByteArray} (h : keysB ks = true) : ∀ (i : Nat) (l : List ByteArray), ks.drop i = l → rise (if i = 0 then none else ks[i - 1]?) l
  | i, [], _ => trivial
  | i, k :: l, hd => by
    have hlt : i < ks.length := by
      have := congrArg List.length hd
      simp at this
      omega
    have hk : ks[i] = k := by
      rw [List.drop_eq_getElem_cons hlt] at hd
      exact (List.cons.inj hd).1
    have hl : ks.drop (i + 1) = l := by
      rw [List.drop_eq_getElem_cons hlt] at hd
      exact (List.cons.inj hd).2
    have hg := List.all_eq_true.1 h i (List.mem_range.2 hlt)
    have hn := rise_drop h (i + 1) l hl
    rw [if_neg (by omega), show i + 1 - 1 = i by omega, List.getElem?_eq_getElem hlt, hk] at hn
    by_cases h0 : i = 0
    · subst h0
      rw [goodAt_zero hlt, hk] at hg
      exact ⟨hg, rfl, hn⟩
    · rw [goodAt_succ hlt (by omega), hk, Bool.and_eq_true] at hg
      refine ⟨hg.1, ?_, hn⟩
      rw [if_neg h0, List.getElem?_eq_getElem (by omega)]
      exact hg.2

theorem rise_of_keys {ks : List ByteArray} (h : keysB ks = true) : rise none ks := by simpa using rise_drop h 0 ks rfl

/-- Keys to which one that may be is added. -/
theorem keys_snoc {ks : List ByteArray} {k : ByteArray} (h : keysB ks = true) (hk : keyB k = true) (hn : okNext ks.getLast? k = true) : keysB (ks ++ [k]) = true := by
  refine keysB_true fun j hj => ?_
  rw [List.length_append, List.length_singleton] at hj
  by_cases e : j < ks.length
  · have hg := List.all_eq_true.1 h j (List.mem_range.2 e)
    have d1 : (ks ++ [k]).getD j ⟨#[]⟩ = ks.getD j ⟨#[]⟩ := by simp only [List.getD, List.getElem?_append_left e]
    have d2 : (ks ++ [k]).getD (j - 1) ⟨#[]⟩ = ks.getD (j - 1) ⟨#[]⟩ := by simp only [List.getD, List.getElem?_append_left (show j - 1 < ks.length by omega)]
    unfold goodAt
    rw [d1, d2]
    exact hg
  · have ej : j = ks.length := by omega
    subst ej
    have d1 : (ks ++ [k]).getD ks.length ⟨#[]⟩ = k := by simp [List.getD]
    unfold goodAt
    rw [d1, hk]
    by_cases h0 : ks.length = 0
    · simp [h0]
    · have hlt : ks.length - 1 < ks.length := by omega
      have d2 : (ks ++ [k]).getD (ks.length - 1) ⟨#[]⟩ = ks[ks.length - 1] := by simp only [List.getD, List.getElem?_append_left hlt, List.getElem?_eq_getElem hlt, Option.getD_some]
      rw [d2]
      rw [List.getLast?_eq_getElem?, List.getElem?_eq_getElem hlt] at hn
      simp only [okNext] at hn
      simp [hn]

theorem txt_back (t : ByteArray) (lo hi : Nat) (h1 : lo ≤ t.size) (h2 : t.size ≤ hi) (h3 : t.size < 256) (r : List UInt8) : rdText lo hi (txt t ++ r) = .ok (t, r) := by
  have hs : (UInt8.ofNat t.size).toNat = t.size := by simp; omega
  have hl : t.toList.length = t.size := by rw [ByteArray.toList_eq]; rfl
  simp only [txt, List.cons_append, rdText, hs]
  rw [if_neg (by omega)]
  unfold nxtN
  rw [if_neg (by simp only [List.length_append]; omega)]
  simp only
  rw [List.take_append_of_le_length (by omega), List.take_of_length_le (by omega), ← hl, List.drop_left]
  have : (⟨t.toList.toArray⟩ : ByteArray) = t := bytes_ext (by simp)
  rw [this]

theorem bits_back {b : Int} (h : U b) (hc : can b = b) (r : List UInt8) : rdBits (octs b ++ r) = .ok (b, r) := by
  have hl := octs_length b
  unfold rdBits nxtN
  rw [if_neg (by simp only [List.length_append]; omega)]
  simp only
  rw [List.take_append_of_le_length (by omega), List.take_of_length_le (by omega), numO_octs h, if_pos hc]
  rw [← hl, List.drop_left]

theorem count_back (m : Nat) (h : m ≤ 32) (r : List UInt8) : rdCount (UInt8.ofNat m :: r) = .ok (m, r) := by
  have hs : (UInt8.ofNat m).toNat = m := by simp; omega
  simp only [rdCount, hs]
  rw [if_neg (by omega)]

theorem key_le {k : ByteArray} (h : keyB k = true) : 1 ≤ k.size ∧ k.size ≤ 16 := by simpa [keyB] using h

theorem items_back {n : Nat} (hrd : ∀ u : V n, okV n u → bitsV n u → ∀ r p, rd n (enc n u ++ r, p) = .ok (u, (r, p + prts n u))) :
    ∀ (its acc : List (V n)) (r : List UInt8) (p : Nat), (∀ u ∈ its, okV n u) → (∀ u ∈ its, bitsV n u) → iterE (stepI (rd n)) its.length (acc, ((its.map (enc n)).flatten ++ r, p)) = .ok (acc ++ its, (r, p + (its.map (prts n)).sum))
  | [], acc, r, p, _, _ => by simp [iterE]
  | u :: its, acc, r, p, ho, hb => by
    have h1 := hrd u (ho u (by simp)) (hb u (by simp)) ((its.map (enc n)).flatten ++ r) p
    simp only [List.length_cons, iterE, stepI, List.map_cons, List.flatten_cons, List.append_assoc, h1]
    rw [items_back hrd its (acc ++ [u]) r (p + prts n u) (fun v hv => ho v (by simp [hv])) (fun v hv => hb v (by simp [hv]))]
    simp [Nat.add_assoc]

theorem fields_back {n : Nat} (hrd : ∀ u : V n, okV n u → bitsV n u → ∀ r p, rd n (enc n u ++ r, p) = .ok (u, (r, p + prts n u))) :
    ∀ (ks : List ByteArray) (its : List (V n)) (ka : List ByteArray) (acc : List (V n)) (r : List UInt8) (p : Nat), ks.length = its.length → rise ka.getLast? ks → (∀ u ∈ its, okV n u) → (∀ u ∈ its, bitsV n u) →
      iterE (stepF (rd n)) its.length (ka, acc, ((List.zipWith (fun s e => txt s ++ e) ks (its.map (enc n))).flatten ++ r, p)) = .ok (ka ++ ks, acc ++ its, (r, p + (its.map (prts n)).sum))
  | [], [], ka, acc, r, p, _, _, _, _ => by simp [iterE]
  | [], _ :: _, _, _, _, _, h, _, _, _ => by simp at h
  | _ :: _, [], _, _, _, _, h, _, _, _ => by simp at h
  | k :: ks, u :: its, ka, acc, r, p, hl, hr, ho, hb => by
    obtain ⟨r1, r2, r3⟩ := hr
    have h1 := hrd u (ho u (by simp)) (hb u (by simp)) ((List.zipWith (fun s e => txt s ++ e) ks (its.map (enc n))).flatten ++ r) p
    have h2 := txt_back k 1 16 (key_le r1).1 (key_le r1).2 (by have := (key_le r1).2; omega) (enc n u ++ ((List.zipWith (fun s e => txt s ++ e) ks (its.map (enc n))).flatten ++ r))
    simp only [List.length_cons, iterE, stepF, List.map_cons, List.zipWith_cons_cons, List.flatten_cons, List.append_assoc, h2, r2, h1, Bool.true_eq_false, if_false]
    rw [fields_back hrd ks its (ka ++ [k]) (acc ++ [u]) r (p + prts n u) (by simpa using hl) (by simpa using r3) (fun v hv => ho v (by simp [hv])) (fun v hv => hb v (by simp [hv]))]
    simp [Nat.add_assoc]

/-- A value comes back from its octets, whatever stands behind. -/
theorem rd_enc : ∀ (n : Nat) (u : V n), okV n u → bitsV n u → ∀ r p, rd n (enc n u ++ r, p) = .ok (u, (r, p + prts n u))
  | 0, u, _, _, _, _ => u.elim
  | n + 1, u, ho, hb, r, p => by
    obtain ⟨k, b, t, ks, its⟩ := u
    obtain ⟨hm, hos⟩ := ho
    obtain ⟨hU, hbs⟩ := hb
    have hm' := may_iff.1 hm
    have hit : ∀ {l : List (V n)}, l.length = 0 → l = [] := fun h => List.eq_nil_of_length_eq_zero h
    generalize hil : its.length = il at hm'
    cases hm' with
    | nothing => rw [hit hil]; simp [enc, rd, prts]
    | truth b h =>
      rw [hit hil]
      have hb01 : b = 0 ∨ b = 1 := by have := hU.1; omega
      rcases hb01 with rfl | rfl <;> simp [enc, rd, prts]
    | number b h =>
      rw [hit hil]
      simp only [enc, show ¬ (2 : Int) = 0 by decide, show ¬ (2 : Int) = 1 by decide, if_false, if_true, List.cons_append, rd, show (3 : UInt8).toNat = 3 by rfl, show ¬ (3 : Nat) = 0 by decide, show ¬ ((3 : Nat) = 1 ∨ (3 : Nat) = 2) by decide, bits_back hU h]
      simp [prts]
    | text t h =>
      rw [hit hil]
      simp only [enc, show ¬ (3 : Int) = 0 by decide, show ¬ (3 : Int) = 1 by decide, show ¬ (3 : Int) = 2 by decide, if_false, if_true, List.cons_append, rd, show (4 : UInt8).toNat = 4 by rfl, show ¬ (4 : Nat) = 0 by decide, show ¬ ((4 : Nat) = 1 ∨ (4 : Nat) = 2) by decide, show ¬ (4 : Nat) = 3 by decide, txt_back t 0 128 (by omega) h (by omega)]
      simp [prts]
    | list _ h =>
      subst hil
      have h1 := items_back (fun u => rd_enc n u) its [] r (p + 1) hos hbs
      simp only [enc, pcs, show ¬ (4 : Int) = 0 by decide, show ¬ (4 : Int) = 1 by decide, show ¬ (4 : Int) = 2 by decide, show ¬ (4 : Int) = 3 by decide, show ¬ (4 : Int) = 5 by decide, if_false, if_true, List.cons_append, rd, show (5 : UInt8).toNat = 5 by rfl, show ¬ (5 : Nat) = 0 by decide, show ¬ ((5 : Nat) = 1 ∨ (5 : Nat) = 2) by decide, show ¬ (5 : Nat) = 3 by decide, show ¬ (5 : Nat) = 4 by decide, count_back its.length h, h1]
      simp [prts, Nat.add_assoc]
    | record _ h hk =>
      have h1 := fields_back (fun u => rd_enc n u) ks its [] [] r (p + 1) hil.symm (rise_of_keys hk) hos hbs
      simp only [enc, pcs, show ¬ (5 : Int) = 0 by decide, show ¬ (5 : Int) = 1 by decide, show ¬ (5 : Int) = 2 by decide, show ¬ (5 : Int) = 3 by decide, show ¬ (5 : Int) = 4 by decide, if_false, if_true, List.cons_append, rd, show (6 : UInt8).toNat = 6 by rfl, show ¬ (6 : Nat) = 0 by decide, show ¬ ((6 : Nat) = 1 ∨ (6 : Nat) = 2) by decide, show ¬ (6 : Nat) = 3 by decide, show ¬ (6 : Nat) = 4 by decide, show ¬ (6 : Nat) = 5 by decide, count_back its.length (by omega), h1]
      simp [prts, Nat.add_assoc]
end Go.Proofs.Ytfdbhojghkdlkaa
