/-
  Displays, as mathematics: nodes by their numbers, what may be.
-/
import Derived.Test.YtcdnakcojanaeabGreatDoInts
namespace Go.Proofs.YtcdnakcojanaeabGreat
open Go.ChangeShapes Go.WideShapes Go.ChangeAt Go.RowKit Go.Deep

namespace Do
/-- A node. -/
structure Nd where
  id : Int
  par : Int
  tag : ByteArray
  key : ByteArray
  txt : ByteArray
  ats : List Atr
  kids : List Int

/-- A display. -/
structure Ds where
  nodes : List Nd
  root : Int
  next : Int

/-- Where a node is: the first with its number. -/
def pl : List Nd → Int → Option Nat
  | [], _ => none
  | n :: r, x => if n.id = x then some 0 else (pl r x).map (· + 1)

theorem pl_some : ∀ {ns : List Nd} {x : Int} {p : Nat}, pl ns x = some p → ∃ n, ns[p]? = some n ∧ n.id = x
  | [], x, p, h => by simp [pl] at h
  | n :: r, x, p, h => by
    simp only [pl] at h
    split at h
    · rename_i hx
      cases h
      exact ⟨n, by simp, hx⟩
    · cases hp : pl r x with
      | none => rw [hp] at h; cases h
      | some q =>
        rw [hp] at h
        simp only [Option.map_some, Option.some.injEq] at h
        subst h
        obtain ⟨m, h1, h2⟩ := pl_some hp
        exact ⟨m, by simpa using h1, h2⟩

theorem pl_none : ∀ {ns : List Nd} {x : Int}, pl ns x = none → ∀ n ∈ ns, n.id ≠ x
  | [], x, _, n, hn => by cases hn
  | m :: r, x, h, n, hn => by
    simp only [pl] at h
    split at h
    · cases h
    · rename_i hx
      rcases List.mem_cons.1 hn with rfl | hn
      · exact hx
      · exact pl_none (by simpa using h) n hn

/-- Numbers that rise. -/
def Up (ns : List Nd) : Prop := ∀ (i j : Nat) (a b : Nd), i < j → ns[i]? = some a → ns[j]? = some b → a.id < b.id

theorem Up.pl_eq {ns : List Nd} (h : Up ns) {p : Nat} {n : Nd} (hp : ns[p]? = some n) : pl ns n.id = some p := by
  cases e : pl ns n.id with
  | none => exact absurd rfl (pl_none e n (List.mem_of_getElem? hp))
  | some q =>
    obtain ⟨m, h1, h2⟩ := pl_some e
    rcases Nat.lt_trichotomy p q with h3 | h3 | h3
    · have := h p q n m h3 hp h1; omega
    · rw [h3]
    · have := h q p m n h3 h1 hp; omega

/-- How many numbers, from the first on, lie below x. -/
def lw : List Nd → Int → Nat
  | [], _ => 0
  | n :: r, x => if n.id < x then lw r x + 1 else 0

theorem lw_eq : ∀ (ns : List Nd) (x : Int) (i : Nat), i ≤ ns.length → (∀ (m : Nat) (n : Nd), m < i → ns[m]? = some n → n.id < x) → (∀ n : Nd, ns[i]? = some n → x ≤ n.id) → lw ns x = i
  | [], _, i, h, _, _ => by simp at h; simp [lw, h]
  | s :: l, x, 0, _, _, h2 => by
    have := h2 s (by simp)
    have : ¬ s.id < x := by omega
    simp [lw, this]
  | s :: l, x, i + 1, h, h1, h2 => by
    have e := h1 0 s (by omega) (by simp)
    have := lw_eq l x i (by simpa using h) (fun m s' hm hs => h1 (m + 1) s' (by omega) (by simpa using hs)) (fun s' hs => h2 s' (by simpa using hs))
    simp [lw, e, this]

theorem lw_le (ns : List Nd) (x : Int) : lw ns x ≤ ns.length := by
  induction ns with
  | nil => exact Nat.le_refl _
  | cons n r ih => simp only [lw, List.length_cons]; split <;> omega

theorem lw_lt : ∀ (ns : List Nd) (x : Int) (m : Nat) (n : Nd), m < lw ns x → ns[m]? = some n → n.id < x
  | [], _, _, _, h, _ => by simp [lw] at h
  | s :: l, x, m, n, hm, hn => by
    simp only [lw] at hm
    split at hm
    · rename_i hs
      cases m with
      | zero => simp at hn; subst hn; exact hs
      | succ m => exact lw_lt l x m n (by omega) (by simpa using hn)
    · omega

theorem lw_ge : ∀ (ns : List Nd) (x : Int) (n : Nd), ns[lw ns x]? = some n → x ≤ n.id
  | [], _, _, h => by simp at h
  | s :: l, x, n, hn => by
    simp only [lw] at hn
    split at hn
    · exact lw_ge l x n (by simpa using hn)
    · rename_i hs
      simp at hn
      subst hn
      omega

/-- What a search by halves tells of numbers that rise. -/
theorem pl_lw {ns : List Nd} (h : Up ns) (x : Int) : pl ns x = match ns[lw ns x]? with
    | none => none
    | some n => if n.id = x then some (lw ns x) else none := by
  cases e : ns[lw ns x]? with
  | none =>
    simp only
    cases ep : pl ns x with
    | none => rfl
    | some q =>
      obtain ⟨m, h1, h2⟩ := pl_some ep
      have hq : q < ns.length := (List.getElem?_eq_some_iff.1 h1).1
      have hl : ns.length ≤ lw ns x := by
        rcases Nat.lt_or_ge (lw ns x) ns.length with h' | h'
        · rw [List.getElem?_eq_getElem h'] at e; cases e
        · exact h'
      have := lw_lt ns x q m (by omega) h1
      omega
  | some n =>
    simp only
    have hge := lw_ge ns x n e
    split
    · rename_i hx
      subst hx
      exact h.pl_eq e
    · rename_i hx
      cases ep : pl ns x with
      | none => rfl
      | some q =>
        obtain ⟨m, h1, h2⟩ := pl_some ep
        rcases Nat.lt_trichotomy q (lw ns x) with h3 | h3 | h3
        · have := lw_lt ns x q m h3 h1; omega
        · rw [h3, e] at h1; cases h1; exact absurd h2 hx
        · have := h (lw ns x) q n m h3 e h1; omega

/-- The place as a whole number: -1 for none. -/
def plI (ns : List Nd) (x : Int) : Int := match pl ns x with
  | some p => (p : Int)
  | none => -1

/-- Do numbers rise from behind 'last' on, up to below 'next'? -/
def idsB (next : Int) : List Nd → Int → Bool
  | [], last => decide (last < next)
  | n :: r, last => if n.id ≤ last then false else idsB next r n.id

theorem idsB_all {next : Int} : ∀ {ns : List Nd} {last : Int}, idsB next ns last = true → (∀ (i : Nat) (n : Nd), ns[i]? = some n → last < n.id ∧ n.id < next) ∧ Up ns ∧ last < next
  | [], last, h => ⟨fun i n hn => by simp at hn, fun i j a b _ ha => by simp at ha, by simpa [idsB] using h⟩
  | m :: r, last, h => by
    simp only [idsB] at h
    split at h
    · cases h
    · rename_i hm
      obtain ⟨h1, h2, h3⟩ := idsB_all h
      refine ⟨fun i n hn => ?_, fun i j a b hij ha hb => ?_, by omega⟩
      · cases i with
        | zero => simp at hn; subst hn; omega
        | succ i => have := h1 i n (by simpa using hn); omega
      · cases j with
        | zero => omega
        | succ j =>
          cases i with
          | zero =>
            simp at ha hb
            subst ha
            exact (h1 j b hb).1
          | succ i => exact h2 i j a b (by omega) (by simpa using ha) (by simpa using hb)

theorem idsB_of {next : Int} : ∀ {ns : List Nd} {last : Int}, last < next → (∀ (i : Nat) (n : Nd), ns[i]? = some n → last < n.id ∧ n.id < next) → Up ns → idsB next ns last = true
  | [], last, h, _, _ => by simp [idsB, h]
  | m :: r, last, h, h1, h2 => by
    have h0 := h1 0 m (by simp)
    simp only [idsB]
    rw [if_neg (by omega)]
    refine idsB_of h0.2 (fun i n hn => ⟨?_, (h1 (i + 1) n (by simpa using hn)).2⟩) fun i j a b hij ha hb => h2 (i + 1) (j + 1) a b (by omega) (by simpa using ha) (by simpa using hb)
    exact h2 0 (i + 1) m n (by omega) (by simp) (by simpa using hn)

/-- May the kid at i be? -/
def kidB (ns : List Nd) (n : Nd) (i : Nat) : Bool := match n.kids[i]? with
  | none => true
  | some k => match pl ns k with
    | none => false
    | some p => match ns[p]? with
      | none => false
      | some m => decide (m.par = n.id) && !(n.kids.take i).contains k
def kidsB (ns : List Nd) (n : Nd) : Bool := (List.range n.kids.length).all (kidB ns n)

/-- May the parent be? -/
def parB (ns : List Nd) (n : Nd) : Bool := decide (n.par = 0) || (match pl ns n.par with
  | none => false
  | some p => match ns[p]? with
    | none => false
    | some m => m.kids.contains n.id)

/-- May a node be by itself? -/
def aloneB (n : Nd) : Bool := plainB n.tag n.key n.txt n.ats && (if n.tag.size = 0 then decide (n.kids.length = 0) else decide (n.kids.length ≤ 32))

def fitB (ns : List Nd) (n : Nd) : Bool := aloneB n && kidsB ns n && parB ns n

/-- Where parents are. -/
def above (ns : List Nd) : List Int := ns.map fun n => plI ns n.par
/-- Up k steps. -/
def ups (ab : List Int) : Nat → Int → Int
  | 0, a => a
  | k + 1, a => if a < 0 then a else ups ab k (ab.getD a.toNat 0)
def outB (ab : List Int) (a : Int) : Bool := decide (ups ab ab.length a < 0)
/-- Does each come out? -/
def allOut (ns : List Nd) : Bool := (List.range ns.length).all fun i => outB (above ns) i

def rootB (s : Ds) : Bool := decide (s.root = 0) || (match pl s.nodes s.root with
  | none => false
  | some p => match s.nodes[p]? with
    | none => false
    | some m => decide (¬ m.tag.size = 0) && decide (m.par = 0))

/-- May a display be? -/
def okD (s : Ds) : Bool := decide (1 ≤ s.next) && decide (s.next ≤ 2147483647) && decide (s.nodes.length ≤ 1024) && idsB s.next s.nodes 0 && s.nodes.all (fitB s.nodes) && allOut s.nodes && rootB s
def chkD (s : Ds) : Int := if okD s = true then 0 else 9
end Do
end Go.Proofs.YtcdnakcojanaeabGreat
