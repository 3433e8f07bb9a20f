/-
  A box read of octets, as mathematics: the program's reading and the page's, and both ways.
-/
import Derived.Test.YtfdbhojghkdlkaaJ11
namespace Go.Proofs.Ytfdbhojghkdlkaa
open Go.ChangeShapes Go.WideShapes Go.ChangeAt Go.RowKit
open Fl

/-- A number of eight octets, as the program has it, and as the page has it. -/
def nmK (l : List UInt8) : Int := wrap64 (numO l)
def nmQ (l : List UInt8) : Int := if 4611686018427387904 < numO l then -1 else numO l

/-- How long an item's name is. -/
def lenI (l : List UInt8) : Nat := match l[8]? with
  | some o => o.toNat
  | none => 0

/-- An item is read. -/
def rdIt (f : List UInt8 → Int) (l : List UInt8) : Except Int (Tm 8 × List UInt8) :=
  if l.length < 9 ∨ l.length < 9 + lenI l then .error 8 else match rd 8 (l.drop (9 + lenI l), 0) with
  | .error e => .error e
  | .ok (v, (r, p)) => if 512 < p then .error 3 else .ok ((f (l.take 8), ⟨((l.drop 9).take (lenI l)).toArray⟩, v), r)

def stIt (f : List UInt8 → Int) (s : List (Tm 8) × List UInt8) : Except Int (List (Tm 8) × List UInt8) := match rdIt f s.2 with
  | .error e => .error e
  | .ok (t, r) => .ok (s.1 ++ [t], r)

/-- How many items a box's octets tell. -/
def cntB (x : List UInt8) : Nat := (numO ((x.drop 8).take 2)).toNat

/-- Decode: the error, the number, the items. -/
def decB (f : List UInt8 → Int) (x : List UInt8) : Int × Int × List (Tm 8) :=
  if x.length < 10 then (8, 0, []) else if 256 < cntB x then (3, 0, []) else match iterE (stIt f) (cntB x) ([], x.drop 10) with
  | .error e => (e, 0, [])
  | .ok (its, r) => if 0 < r.length then (23, 0, []) else if chkB (f (x.take 8)) its = 0 then (0, f (x.take 8), its) else (9, 0, [])

theorem rdIt_short {f : List UInt8 → Int} {l : List UInt8} (h : l.length < 9 ∨ l.length < 9 + lenI l) : rdIt f l = .error 8 := by
  unfold rdIt; rw [if_pos h]
theorem rdIt_err {f : List UInt8 → Int} {l : List UInt8} (h : ¬ (l.length < 9 ∨ l.length < 9 + lenI l)) (h0 : (takeR (l.drop (9 + lenI l))).1 ≠ 0) : rdIt f l = .error (takeR (l.drop (9 + lenI l))).1 := by
  unfold rdIt
  rw [if_neg h]
  unfold takeR at h0 ⊢
  cases h1 : rd 8 (l.drop (9 + lenI l), 0) with
  | error e => rfl
  | ok q =>
    obtain ⟨v, r, p⟩ := q
    rw [h1] at h0
    simp only at h0 ⊢
    by_cases h5 : 512 < p
    · rw [if_pos h5, if_pos h5]
    · rw [if_neg h5] at h0; simp at h0
theorem rdIt_ok {f : List UInt8 → Int} {l : List UInt8} (h : ¬ (l.length < 9 ∨ l.length < 9 + lenI l)) (h0 : (takeR (l.drop (9 + lenI l))).1 = 0) :
    ∃ (v : V 8) (m : Nat), takeR (l.drop (9 + lenI l)) = (0, ⟨8, v⟩, m) ∧ m ≤ (l.drop (9 + lenI l)).length ∧ rdIt f l = .ok ((f (l.take 8), ⟨((l.drop 9).take (lenI l)).toArray⟩, v), (l.drop (9 + lenI l)).drop m) := by
  unfold rdIt
  rw [if_neg h]
  have hp := fun e => rd_pos 8 (l.drop (9 + lenI l), 0) e
  have hq := enc_rd 8 (l.drop (9 + lenI l)) 0
  generalize l.drop (9 + lenI l) = R at *
  unfold takeR at h0 ⊢
  cases h1 : rd 8 (R, 0) with
  | error e => rw [h1] at h0; simp only at h0; have := hp _ h1; omega
  | ok q =>
    obtain ⟨v, r, p⟩ := q
    rw [h1] at h0
    simp only at h0 ⊢
    obtain ⟨e1, e2, e3, e4⟩ := hq _ _ _ h1
    by_cases h5 : 512 < p
    · rw [if_pos h5] at h0; simp at h0
    · rw [if_neg h5, if_neg h5]
      refine ⟨v, R.length - r.length, rfl, by omega, ?_⟩
      have : R.drop (R.length - r.length) = r := by
        rw [e1, List.length_append, Nat.add_sub_cancel, List.drop_left]
      rw [this]

theorem iterE_one {S : Type} {f : S → Except Int S} {m : Nat} {s s' s'' : S} (h : iterE f m s = .ok s') (h1 : f s' = .ok s'') : iterE f (m + 1) s = .ok s'' := by
  rw [iterE_add, h]
  simp [iterE, h1]
theorem iterE_bad {S : Type} {f : S → Except Int S} {m n : Nat} {s s' : S} {e : Int} (h : iterE f m s = .ok s') (h1 : f s' = .error e) (hmn : m < n) : iterE f n s = .error e := by
  obtain ⟨k, rfl⟩ : ∃ k, n = m + (k + 1) := ⟨n - m - 1, by omega⟩
  rw [iterE_add, h]
  simp [iterE, h1]
theorem stIt_ok {f : List UInt8 → Int} {a : List (Tm 8)} {l r : List UInt8} {t : Tm 8} (h : rdIt f l = .ok (t, r)) : stIt f (a, l) = .ok (a ++ [t], r) := by
  unfold stIt; simp only [h]
theorem stIt_err {f : List UInt8 → Int} {a : List (Tm 8)} {l : List UInt8} {e : Int} (h : rdIt f l = .error e) : stIt f (a, l) = .error e := by
  unfold stIt; simp only [h]

/-- The program's number and the page's: one where either may be. -/
theorem nm_rel {l : List UInt8} (h : l.length = 8) : (0 ≤ nmK l → nmK l < 4611686018427387904 → nmK l = nmQ l) ∧ (0 ≤ nmQ l → nmQ l < 4611686018427387904 → nmK l = nmQ l) := by
  have hb := numO_bound 8 l h
  unfold nmK nmQ wrap64
  generalize numO l = y at *
  constructor
  · intro h1 h2
    split <;> omega
  · intro h1 h2
    split at h1 <;> split at h2 <;> split <;> omega

def RelI (a b : Tm 8) : Prop := (∃ l : List UInt8, l.length = 8 ∧ a.1 = nmK l ∧ b.1 = nmQ l) ∧ a.2 = b.2

theorem rdIt_rel (l : List UInt8) : (∃ e, rdIt nmK l = .error e ∧ rdIt nmQ l = .error e) ∨ ∃ t t' r, rdIt nmK l = .ok (t, r) ∧ rdIt nmQ l = .ok (t', r) ∧ RelI t t' := by
  by_cases h : l.length < 9 ∨ l.length < 9 + lenI l
  · exact Or.inl ⟨8, rdIt_short h, rdIt_short h⟩
  · by_cases h0 : (takeR (l.drop (9 + lenI l))).1 = 0
    · obtain ⟨v, m, h1, h2, h3⟩ := rdIt_ok (f := nmK) h h0
      obtain ⟨v', m', h1', h2', h3'⟩ := rdIt_ok (f := nmQ) h h0
      rw [h1] at h1'
      simp only [Prod.mk.injEq, true_and, Sigma.mk.injEq, heq_eq_eq] at h1'
      obtain ⟨rfl, rfl⟩ := h1'
      exact Or.inr ⟨_, _, _, h3, h3', ⟨_, by rw [List.length_take]; omega, rfl, rfl⟩, rfl⟩
    · exact Or.inl ⟨_, rdIt_err h h0, rdIt_err h h0⟩

def RelL : List (Tm 8) → List (Tm 8) → Prop
  | [], [] => True
  | a :: x, b :: y => RelI a b ∧ RelL x y
  | _, _ => False
theorem RelL.snoc {a b : Tm 8} (h : RelI a b) : ∀ {x y : List (Tm 8)}, RelL x y → RelL (x ++ [a]) (y ++ [b])
  | [], [], _ => ⟨h, trivial⟩
  | _ :: _, _ :: _, ⟨h1, h2⟩ => ⟨h1, RelL.snoc h h2⟩
theorem RelL.eqK : ∀ {x y : List (Tm 8)}, RelL x y → (∀ u ∈ x, 0 ≤ u.1 ∧ u.1 < 4611686018427387904) → x = y
  | [], [], _, _ => rfl
  | a :: x, b :: y, ⟨⟨⟨l, hl, h1, h2⟩, h3⟩, h4⟩, hx => by
    have h5 := hx a List.mem_cons_self
    have h6 := (nm_rel hl).1 (by omega) (by omega)
    rw [RelL.eqK h4 fun u hu => hx u (List.mem_cons_of_mem _ hu)]
    rw [show a = b from Prod.ext (by omega) h3]
theorem RelL.eqQ : ∀ {x y : List (Tm 8)}, RelL x y → (∀ u ∈ y, 0 ≤ u.1 ∧ u.1 < 4611686018427387904) → x = y
  | [], [], _, _ => rfl
  | a :: x, b :: y, ⟨⟨⟨l, hl, h1, h2⟩, h3⟩, h4⟩, hx => by
    have h5 := hx b List.mem_cons_self
    have h6 := (nm_rel hl).2 (by omega) (by omega)
    rw [RelL.eqQ h4 fun u hu => hx u (List.mem_cons_of_mem _ hu)]
    rw [show a = b from Prod.ext (by omega) h3]

theorem iter_rel : ∀ (m : Nat) (a a' : List (Tm 8)) (l : List UInt8), RelL a a' → (∃ e, iterE (stIt nmK) m (a, l) = .error e ∧ iterE (stIt nmQ) m (a', l) = .error e) ∨ ∃ b b' r, iterE (stIt nmK) m (a, l) = .ok (b, r) ∧ iterE (stIt nmQ) m (a', l) = .ok (b', r) ∧ RelL b b'
  | 0, a, a', l, h => Or.inr ⟨a, a', l, rfl, rfl, h⟩
  | m + 1, a, a', l, h => by
    rcases rdIt_rel l with ⟨e, h1, h2⟩ | ⟨t, t', r, h1, h2, h3⟩
    · exact Or.inl ⟨e, by simp [iterE, stIt_err h1], by simp [iterE, stIt_err h2]⟩
    · have := iter_rel m (a ++ [t]) (a' ++ [t']) r (h.snoc h3)
      simpa [iterE, stIt_ok h1, stIt_ok h2] using this

theorem chkB_ids {L : Int} {its : List (Tm 8)} (h : chkB L its = 0) : 0 ≤ L ∧ L < 4611686018427387904 ∧ ∀ u ∈ its, 0 ≤ u.1 ∧ u.1 < 4611686018427387904 := by
  obtain ⟨h1, h2, h3, h4⟩ := chkB_ok h
  refine ⟨h1, by omega, fun u hu => ?_⟩
  have := okT_mem h4 u hu
  omega

theorem decB_same (x : List UInt8) : decB nmK x = decB nmQ x := by
  unfold decB
  by_cases h1 : x.length < 10
  · rw [if_pos h1, if_pos h1]
  rw [if_neg h1, if_neg h1]
  by_cases h2 : 256 < cntB x
  · rw [if_pos h2, if_pos h2]
  rw [if_neg h2, if_neg h2]
  have hl : (x.take 8).length = 8 := by rw [List.length_take]; omega
  rcases iter_rel (cntB x) [] [] (x.drop 10) trivial with ⟨e, e1, e2⟩ | ⟨b, b', r, e1, e2, hr⟩
  · rw [e1, e2]
  · rw [e1, e2]
    simp only
    by_cases h3 : 0 < r.length
    · rw [if_pos h3, if_pos h3]
    rw [if_neg h3, if_neg h3]
    by_cases hk : chkB (nmK (x.take 8)) b = 0
    · obtain ⟨k1, k2, k3⟩ := chkB_ids hk
      have e3 := (nm_rel hl).1 k1 k2
      have e4 := hr.eqK k3
      subst e4
      rw [← e3]
    · by_cases hq : chkB (nmQ (x.take 8)) b' = 0
      · obtain ⟨k1, k2, k3⟩ := chkB_ids hq
        have e3 := (nm_rel hl).2 k1 k2
        have e4 := hr.eqQ k3
        subst e4
        rw [← e3] at hq
        exact absurd hq hk
      · rw [if_neg hk, if_neg hq]

/-- What is answered is a box's, or nothing. -/
theorem decB_err {f : List UInt8 → Int} {x : List UInt8} (h : (decB f x).1 ≠ 0) : (decB f x).2 = (0, []) := by
  unfold decB at h ⊢
  by_cases h1 : x.length < 10
  · rw [if_pos h1]
  rw [if_neg h1] at h ⊢
  by_cases h2 : 256 < cntB x
  · rw [if_pos h2]
  rw [if_neg h2] at h ⊢
  cases h3 : iterE (stIt f) (cntB x) ([], x.drop 10) with
  | error e => rfl
  | ok q =>
    obtain ⟨its, r⟩ := q
    rw [h3] at h
    simp only at h ⊢
    by_cases h4 : 0 < r.length
    · rw [if_pos h4]
    rw [if_neg h4] at h ⊢
    by_cases h5 : chkB (f (x.take 8)) its = 0
    · rw [if_pos h5] at h; simp at h
    · rw [if_neg h5]

theorem nmK_octs {b : Int} (h0 : 0 ≤ b) (h1 : b < 4611686018427387904) : nmK (octs b) = b := by
  unfold nmK
  rw [numO_octs (by unfold U; omega), wrap64]
  omega
theorem octs_nmK {l : List UInt8} (h : l.length = 8) (h0 : 0 ≤ nmK l) : octs (nmK l) = l := by
  have hb := numO_bound 8 l h
  have : nmK l = numO l := by
    unfold nmK wrap64 at h0 ⊢
    omega
  rw [this]
  exact (octs_numO h).1

theorem toList_back (t : ByteArray) : (⟨t.toList.toArray⟩ : ByteArray) = t := bytes_ext (by simp)

/-- An item's octets are read as it. -/
theorem rdIt_back {u : Tm 8} (h0 : 0 ≤ u.1) (h1 : u.1 < 4611686018427387904) (he : effE u.2.1 u.2.2 = 0) (hb : bitsV 8 u.2.2) (r : List UInt8) : rdIt nmK (encI u ++ r) = .ok (u, r) := by
  obtain ⟨h2, h3, h4⟩ := effE_chk he
  obtain ⟨i, nm, v⟩ := u
  simp only at *
  have hl := octs_length i
  have ht : nm.toList.length = nm.size := toList_length _
  have e0 : encI (i, nm, v) ++ r = octs i ++ (UInt8.ofNat nm.size :: (nm.toList ++ (enc 8 v ++ r))) := by simp [encI, txt, List.append_assoc]
  rw [e0]
  have e1 : (octs i ++ (UInt8.ofNat nm.size :: (nm.toList ++ (enc 8 v ++ r))))[8]? = some (UInt8.ofNat nm.size) := by
    rw [List.getElem?_append_right (by omega), hl]; rfl
  have e2 : lenI (octs i ++ (UInt8.ofNat nm.size :: (nm.toList ++ (enc 8 v ++ r)))) = nm.size := by
    unfold lenI; rw [e1]; simp; omega
  unfold rdIt
  rw [e2]
  rw [if_neg (by simp only [List.length_append, List.length_cons]; omega)]
  have e3 : (octs i ++ (UInt8.ofNat nm.size :: (nm.toList ++ (enc 8 v ++ r)))).drop 9 = nm.toList ++ (enc 8 v ++ r) := by
    rw [show (9 : Nat) = (octs i).length + 1 by omega, ← List.drop_drop, List.drop_left]; rfl
  have e4 : (octs i ++ (UInt8.ofNat nm.size :: (nm.toList ++ (enc 8 v ++ r)))).drop (9 + nm.size) = enc 8 v ++ r := by
    rw [← List.drop_drop, e3, ← ht, List.drop_left]
  have e5 : (octs i ++ (UInt8.ofNat nm.size :: (nm.toList ++ (enc 8 v ++ r)))).take 8 = octs i := by
    exact List.take_left' hl
  rw [e4, e3, e5, rd_enc 8 v (ok_of_chk h2) hb r 0]
  have h5 := cnt_of_chk h2
  simp only [Nat.zero_add]
  rw [if_neg (by omega), ← ht, List.take_left, toList_back, nmK_octs h0 h1]

theorem iter_back : ∀ (its a : List (Tm 8)) (r : List UInt8), (∀ u ∈ its, 0 ≤ u.1 ∧ u.1 < 4611686018427387904 ∧ effE u.2.1 u.2.2 = 0 ∧ bitsV 8 u.2.2) → iterE (stIt nmK) its.length (a, encIs its ++ r) = .ok (a ++ its, r)
  | [], a, r, _ => by simp [iterE, encIs]
  | u :: its, a, r, h => by
    obtain ⟨h1, h2, h3, h4⟩ := h u List.mem_cons_self
    have := iter_back its (a ++ [u]) r fun x hx => h x (List.mem_cons_of_mem _ hx)
    simp only [List.length_cons, iterE, encIs, List.append_assoc]
    rw [stIt_ok (rdIt_back h1 h2 h3 h4 _)]
    simpa using this

theorem octsK_two {k : Nat} (h : k ≤ 256) : numO (octsK 2 (k : Int)) = k := by
  simp only [octsK, octK, numO, List.range, List.range.loop, List.map_cons, List.map_nil, List.foldl_cons, List.foldl_nil, UInt8.toNat_ofNat', Int.toNat_natCast]
  simp only [show 8 * (2 - 1 - 0) = 8 by rfl, show 8 * (2 - 1 - 1) = 0 by rfl]
  omega
theorem two_octsK {l : List UInt8} (h : l.length = 2) : octsK 2 (((numO l).toNat : Nat) : Int) = l := by
  match l, h with
  | [a, b], _ =>
    have h0 := a.toNat_lt
    have h1 := b.toNat_lt
    have e : (numO [a, b]).toNat = a.toNat * 256 + b.toNat := by
      simp only [numO, List.foldl_cons, List.foldl_nil]
      omega
    rw [e]
    simp only [octsK, octK, List.range, List.range.loop, List.map_cons, List.map_nil, Int.toNat_natCast]
    simp only [show 8 * (2 - 1 - 0) = 8 by rfl, show 8 * (2 - 1 - 1) = 0 by rfl]
    simp only [List.cons.injEq, and_true]
    refine ⟨?_, ?_⟩ <;> (apply UInt8.toNat_inj.1; rw [UInt8.toNat_ofNat']; omega)

/-- A box comes back from its octets. -/
theorem decB_encB {L : Int} {its : List (Tm 8)} (h : chkB L its = 0) (hb : ∀ u ∈ its, bitsV 8 u.2.2) : decB nmK (encB L its) = (0, L, its) := by
  obtain ⟨h1, h2, h3⟩ := chkB_ids h
  obtain ⟨_, _, h4, h5⟩ := chkB_ok h
  have hl := octs_length L
  have hk := octsK_length 2 (its.length : Int)
  have e1 : (encB L its).take 8 = octs L := by unfold encB; exact List.take_left' hl
  have e2 : (encB L its).drop 8 = octsK 2 (its.length : Int) ++ encIs its := by unfold encB; exact List.drop_left' hl
  have e3 : (encB L its).drop 10 = encIs its := by
    rw [show (10 : Nat) = 8 + 2 by rfl, ← List.drop_drop, e2]
    exact List.drop_left' hk
  have e4 : cntB (encB L its) = its.length := by
    unfold cntB
    rw [e2, List.take_left' hk, octsK_two h4]
    omega
  have hlen : ¬ (encB L its).length < 10 := by
    unfold encB; simp only [List.length_append, hl, hk]; omega
  unfold decB
  rw [if_neg hlen, e4, if_neg (by omega), e3, e1]
  have := iter_back its [] [] fun u hu => ⟨(h3 u hu).1, (h3 u hu).2, (okT_mem h5 u hu).2.2, hb u hu⟩
  rw [List.append_nil, List.nil_append] at this
  rw [this, nmK_octs h1 h2]
  simp [h]

theorem rdIt_fwd {u : Tm 8} {l r : List UInt8} (h : rdIt nmK l = .ok (u, r)) (h0 : 0 ≤ u.1) : l = encI u ++ r ∧ bitsV 8 u.2.2 := by
  by_cases hs : l.length < 9 ∨ l.length < 9 + lenI l
  · rw [rdIt_short hs] at h; cases h
  by_cases ht : (takeR (l.drop (9 + lenI l))).1 = 0
  · obtain ⟨v, m, h1, h2, h3⟩ := rdIt_ok (f := nmK) hs ht
    rw [h3] at h
    simp only [Except.ok.injEq, Prod.mk.injEq] at h
    obtain ⟨rfl, rfl⟩ := h
    obtain ⟨v', r', k1, k2, k3, k4⟩ := take_back ht
    rw [h1] at k1
    simp only [Prod.mk.injEq, true_and, Sigma.mk.injEq, heq_eq_eq] at k1
    obtain ⟨rfl, rfl⟩ := k1
    refine ⟨?_, k4⟩
    simp only at h0
    have hl8 : (l.take 8).length = 8 := by rw [List.length_take]; omega
    have e1 := octs_nmK hl8 h0
    have hlt : 8 < l.length := by omega
    have e2 : l[8]? = some l[8] := by simp [hlt]
    have e3 : lenI l = l[8].toNat := by unfold lenI; rw [e2]
    have hsz : (⟨((l.drop 9).take (lenI l)).toArray⟩ : ByteArray).size = lenI l := by
      show ((l.drop 9).take (lenI l)).length = _
      rw [List.length_take, List.length_drop]; omega
    have hto : (⟨((l.drop 9).take (lenI l)).toArray⟩ : ByteArray).toList = (l.drop 9).take (lenI l) := by
      rw [ByteArray.toList_eq]
    unfold encI txt
    simp only
    rw [e1, hsz, hto]
    have e4 : UInt8.ofNat (lenI l) = l[8] := by rw [e3]; apply UInt8.toNat_inj.1; rw [UInt8.toNat_ofNat']; have := l[8].toNat_lt; omega
    have e5 : enc 8 v ++ (l.drop (9 + lenI l)).drop ((l.drop (9 + lenI l)).length - r'.length) = l.drop (9 + lenI l) := by
      conv => rhs; rw [k2]
      congr 1
      rw [k2, List.length_append, Nat.add_sub_cancel, List.drop_left]
    rw [e4]
    simp only [List.append_assoc, List.cons_append]
    rw [e5, ← List.drop_drop, List.take_append_drop]
    conv => lhs; rw [← List.take_append_drop 8 l]
    congr 1
    rw [List.drop_eq_getElem_cons hlt]
  · rw [rdIt_err hs ht] at h; cases h

theorem iter_fwd : ∀ (m : Nat) (a b : List (Tm 8)) (l r : List UInt8), iterE (stIt nmK) m (a, l) = .ok (b, r) → ∃ c, b = a ++ c ∧ c.length = m ∧ ((∀ u ∈ c, 0 ≤ u.1) → l = encIs c ++ r ∧ ∀ u ∈ c, bitsV 8 u.2.2)
  | 0, a, b, l, r, h => by
    simp only [iterE, Except.ok.injEq, Prod.mk.injEq] at h
    obtain ⟨rfl, rfl⟩ := h
    exact ⟨[], by simp, rfl, fun _ => ⟨rfl, fun u hu => by simp at hu⟩⟩
  | m + 1, a, b, l, r, h => by
    cases h1 : rdIt nmK l with
    | error e => simp [iterE, stIt_err h1] at h
    | ok q =>
      obtain ⟨t, r1⟩ := q
      simp only [iterE, stIt_ok h1] at h
      obtain ⟨c, rfl, h2, h3⟩ := iter_fwd m _ _ _ _ h
      refine ⟨t :: c, by simp, by simp [h2], fun hu => ?_⟩
      obtain ⟨k1, k2⟩ := rdIt_fwd h1 (hu t List.mem_cons_self)
      obtain ⟨k3, k4⟩ := h3 fun u hc => hu u (List.mem_cons_of_mem _ hc)
      refine ⟨by rw [k1, k3]; simp [encIs], fun u hm => ?_⟩
      rcases List.mem_cons.1 hm with rfl | hm
      · exact k2
      · exact k4 u hm

/-- What is read is built again of what was read. -/
theorem encB_decB {x : List UInt8} (h : (decB nmK x).1 = 0) : chkB (decB nmK x).2.1 (decB nmK x).2.2 = 0 ∧ encB (decB nmK x).2.1 (decB nmK x).2.2 = x ∧ ∀ u ∈ (decB nmK x).2.2, bitsV 8 u.2.2 := by
  unfold decB at h ⊢
  by_cases h1 : x.length < 10
  · rw [if_pos h1] at h; simp at h
  rw [if_neg h1] at h ⊢
  by_cases h2 : 256 < cntB x
  · rw [if_pos h2] at h; simp at h
  rw [if_neg h2] at h ⊢
  cases h3 : iterE (stIt nmK) (cntB x) ([], x.drop 10) with
  | error e =>
    rw [h3] at h
    simp only at h
    exfalso
    obtain ⟨m, s', hm1, hm2⟩ : ∃ s : List (Tm 8) × List UInt8, ∃ e', stIt nmK s = .error e' ∧ e' = e := by
      clear h h1 h2
      generalize ([], x.drop 10) = s at h3
      generalize cntB x = k at h3
      induction k generalizing s with
      | zero => cases h3
      | succ k ih =>
        simp only [iterE] at h3
        cases h4 : stIt nmK s with
        | error e' => rw [h4] at h3; simp only [Except.error.injEq] at h3; exact ⟨s, e', h4, h3⟩
        | ok s1 => rw [h4] at h3; exact ih s1 h3
    subst hm2
    obtain ⟨a, l⟩ := m
    by_cases hs : l.length < 9 ∨ l.length < 9 + lenI l
    · rw [stIt_err (rdIt_short hs)] at hm1; simp only [Except.error.injEq] at hm1; omega
    by_cases ht : (takeR (l.drop (9 + lenI l))).1 = 0
    · obtain ⟨v, m, h1, h2, h3⟩ := rdIt_ok (f := nmK) hs ht
      rw [stIt_ok h3] at hm1; cases hm1
    · rw [stIt_err (rdIt_err hs ht)] at hm1; simp only [Except.error.injEq] at hm1; exact ht (hm1.trans h)
  | ok q =>
    obtain ⟨its, r⟩ := q
    rw [h3] at h
    simp only at h ⊢
    by_cases h4 : 0 < r.length
    · rw [if_pos h4] at h; simp at h
    rw [if_neg h4] at h ⊢
    by_cases h5 : chkB (nmK (x.take 8)) its = 0
    · rw [if_pos h5]
      obtain ⟨k1, k2, k3⟩ := chkB_ids h5
      obtain ⟨c, rfl, hc, hf⟩ := iter_fwd _ _ _ _ _ h3
      obtain ⟨e1, e2⟩ := hf fun u hu => (k3 u hu).1
      refine ⟨h5, ?_, e2⟩
      have hr : r = [] := List.eq_nil_of_length_eq_zero (by omega)
      subst hr
      rw [List.append_nil] at e1
      have hl8 : (x.take 8).length = 8 := by rw [List.length_take]; omega
      unfold encB
      simp only
      rw [octs_nmK hl8 k1, hc, ← e1]
      unfold cntB
      rw [two_octsK (by rw [List.length_take, List.length_drop]; omega)]
      rw [show x.drop 10 = (x.drop 8).drop 2 by rw [List.drop_drop], List.take_append_drop, List.take_append_drop]
    · rw [if_neg h5] at h; simp at h
end Go.Proofs.Ytfdbhojghkdlkaa
