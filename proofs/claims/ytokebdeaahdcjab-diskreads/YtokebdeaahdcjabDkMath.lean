/-
  A disk as mathematics: what may be, writes laid into sectors, Do, Crash, Read.
-/
import Derived.Test.YtokebdeaahdcjabOcCopy
namespace Go.Proofs.Ytokebdeaahdcjab
namespace Dk

/-- A write. -/
structure Wr where
  fl : Bool
  sec : Int
  d : List UInt8

/-- A state. -/
structure St where
  secs : List (List UInt8)
  cache : List Wr

def need (d : List UInt8) : Nat := (d.length + 47) / 48

/-- Why a write that is no barrier does not fit. -/
def misfit (x : Wr) (n : Nat) : Int := if x.sec < 0 ∨ (0 < need x.d ∧ (n : Int) - x.sec < need x.d) then 4 else if need x.d = 0 ∨ x.d.length % 48 ≠ 0 then 1 else 0

def okB (s : St) : Bool := decide (1 ≤ s.secs.length) && decide (s.secs.length ≤ 4096) && decide (s.cache.length ≤ 4096) && s.secs.all (fun l => l.length == 48) && s.cache.all (fun x => !x.fl && misfit x s.secs.length == 0)

def chk (s : St) : Int := if okB s then 0 else 9

def refusal (s : St) (x : Wr) : Int :=
  if x.fl then (if x.sec ≠ 0 ∨ x.d.length ≠ 0 then 1 else 0) else if misfit x s.secs.length ≠ 0 then misfit x s.secs.length else if s.cache.length = 4096 then 51 else 0

/-- A sector is written over; a row of no octets stays. -/
def putS (ss : List (List UInt8)) (a : Nat) (x : List UInt8) : List (List UInt8) := ss.set a (if ss.getD a [] = [] then [] else x)

/-- The first k sectors of octets, from a on. -/
def lay1 : Nat → List (List UInt8) → Nat → List UInt8 → List (List UInt8)
  | 0, ss, _, _ => ss
  | k + 1, ss, a, d => if d = [] then ss else lay1 k (putS ss a (d.take 48)) (a + 1) (d.drop 48)

/-- All writes, one after another. -/
def layA : (Nat → Int) → Nat → List (List UInt8) → List Wr → List (List UInt8)
  | _, _, ss, [] => ss
  | kp, i, ss, x :: xs => layA kp (i + 1) (lay1 (kp i).toNat ss x.sec.toNat x.d) xs

def full (s : St) : List (List UInt8) := layA (fun _ => 4096) 0 s.secs s.cache

def doR (s : St) (x : Wr) : Int × St :=
  if chk s ≠ 0 then (chk s, ⟨[], []⟩) else if refusal s x ≠ 0 then (refusal s x, ⟨[], []⟩) else (0, if x.fl then ⟨full s, []⟩ else ⟨s.secs, s.cache ++ [⟨false, x.sec, x.d⟩]⟩)

def crashR (s : St) (keep : List Int) : Int × St := if chk s ≠ 0 then (chk s, ⟨[], []⟩) else (0, ⟨layA (fun i => keep.getD i 0) 0 s.secs s.cache, []⟩)

def readR (s : St) (sector n : Int) : Int × List UInt8 :=
  if chk s ≠ 0 then (chk s, []) else if sector < 0 ∨ n < 0 ∨ (s.secs.length : Int) - sector < n then (4, []) else (0, (((full s).drop sector.toNat).take n.toNat).flatten)

def newR (n : Int) : Int × St := if n < 1 ∨ 4096 < n then (4, ⟨[], []⟩) else (0, ⟨List.replicate n.toNat (List.replicate 48 0), []⟩)

def padR (b : List UInt8) : List UInt8 := b ++ List.replicate (48 * need b - b.length) 0

/-- A write that may wait. -/
def OkW (n : Nat) (x : Wr) : Prop := x.fl = false ∧ 0 ≤ x.sec ∧ 0 < x.d.length ∧ x.d.length % 48 = 0 ∧ x.sec.toNat + x.d.length / 48 ≤ n

theorem misfit_zero {x : Wr} {n : Nat} : misfit x n = 0 ↔ 0 ≤ x.sec ∧ 0 < x.d.length ∧ x.d.length % 48 = 0 ∧ x.sec.toNat + x.d.length / 48 ≤ n := by
  unfold misfit need
  constructor
  · intro h
    split at h
    · simp at h
    · split at h
      · simp at h
      · omega
  · intro h
    rw [if_neg (by omega), if_neg (by omega)]

structure Ok (s : St) : Prop where
  lo : 1 ≤ s.secs.length
  hi : s.secs.length ≤ 4096
  few : s.cache.length ≤ 4096
  rows : ∀ l ∈ s.secs, l.length = 48
  fits : ∀ x ∈ s.cache, OkW s.secs.length x

theorem okB_iff {s : St} : okB s = true ↔ Ok s := by
  unfold okB
  simp only [Bool.and_eq_true, decide_eq_true_eq, List.all_eq_true, beq_iff_eq, Bool.not_eq_true', misfit_zero]
  constructor
  · rintro ⟨⟨⟨⟨h1, h2⟩, h3⟩, h4⟩, h5⟩
    exact ⟨h1, h2, h3, h4, fun x hx => ⟨(h5 x hx).1, (h5 x hx).2⟩⟩
  · rintro ⟨h1, h2, h3, h4, h5⟩
    exact ⟨⟨⟨⟨h1, h2⟩, h3⟩, h4⟩, fun x hx => ⟨(h5 x hx).1, (h5 x hx).2⟩⟩

theorem chk_zero {s : St} : chk s = 0 ↔ Ok s := by
  unfold chk
  rw [← okB_iff]
  cases okB s <;> simp

theorem chk_or (s : St) : chk s = 0 ∨ chk s = 9 := by
  unfold chk
  cases okB s <;> simp

theorem putS_length (ss : List (List UInt8)) (a : Nat) (x : List UInt8) : (putS ss a x).length = ss.length := by simp [putS]

theorem putS_get (ss : List (List UInt8)) (a : Nat) (x : List UInt8) (i : Nat) : (putS ss a x)[i]? = if i = a then ss[i]?.map (fun l => if l = [] then [] else x) else ss[i]? := by
  unfold putS
  rw [List.getElem?_set]
  by_cases h : a = i
  · subst h
    rw [if_pos rfl, if_pos rfl]
    by_cases h2 : a < ss.length
    · rw [if_pos h2, List.getElem?_eq_getElem h2]
      simp [List.getD_eq_getElem?_getD, List.getElem?_eq_getElem h2]
    · rw [if_neg h2, List.getElem?_eq_none (by omega)]
      rfl
  · rw [if_neg h, if_neg (fun e => h e.symm)]

theorem lay1_length : ∀ (k : Nat) (ss : List (List UInt8)) (a : Nat) (d : List UInt8), (lay1 k ss a d).length = ss.length
  | 0, _, _, _ => rfl
  | k + 1, ss, a, d => by
    unfold lay1
    split
    · rfl
    · rw [lay1_length k, putS_length]

theorem layA_length : ∀ (ws : List Wr) (kp : Nat → Int) (i : Nat) (ss : List (List UInt8)), (layA kp i ss ws).length = ss.length
  | [], _, _, _ => rfl
  | x :: xs, kp, i, ss => by
    unfold layA
    rw [layA_length xs, lay1_length]

/-- Each row behind a write. -/
theorem lay1_get : ∀ (k m : Nat) (ss : List (List UInt8)) (a : Nat) (d : List UInt8), (∀ l ∈ ss, l.length = 48) → d.length = 48 * m → ∀ i, i < ss.length →
    (lay1 k ss a d)[i]? = if a ≤ i ∧ i < a + min k m then some ((d.drop (48 * (i - a))).take 48) else ss[i]?
  | 0, m, ss, a, d, _, _, i, _ => by
    rw [if_neg (by omega)]
    rfl
  | k + 1, m, ss, a, d, hr, hd, i, hi => by
    unfold lay1
    by_cases h0 : d = []
    · subst h0
      simp at hd
      rw [if_pos rfl, if_neg (by omega)]
    · have hpos : 0 < d.length := List.length_pos_iff.2 h0
      rw [if_neg h0]
      have hr2 : ∀ l ∈ putS ss a (d.take 48), l.length = 48 := by
        intro l hl
        obtain ⟨j, hj⟩ := List.mem_iff_getElem?.1 hl
        rw [putS_get] at hj
        split at hj
        · rw [Option.map_eq_some_iff] at hj
          obtain ⟨l', h1, h2⟩ := hj
          have h3 := hr l' (List.mem_of_getElem? h1)
          rw [if_neg (by intro e; rw [e] at h3; simp at h3)] at h2
          rw [← h2, List.length_take]
          omega
        · exact hr l (List.mem_of_getElem? hj)
      rw [lay1_get k (m - 1) _ (a + 1) (d.drop 48) hr2 (by rw [List.length_drop]; omega) i (by rw [putS_length]; exact hi)]
      by_cases h1 : i = a
      · subst h1
        rw [if_neg (by omega), if_pos (by omega), putS_get, if_pos rfl, List.getElem?_eq_getElem hi]
        have h3 := hr _ (List.getElem_mem hi)
        simp only [Option.map_some, Nat.sub_self, Nat.mul_zero, List.drop_zero]
        rw [if_neg (by intro e; rw [e] at h3; simp at h3)]
      · by_cases h2 : a + 1 ≤ i ∧ i < a + 1 + min k (m - 1)
        · rw [if_pos h2, if_pos (by omega), List.drop_drop]
          have : 48 + 48 * (i - (a + 1)) = 48 * (i - a) := by omega
          rw [this]
        · rw [if_neg h2, if_neg (by omega), putS_get, if_neg h1]

theorem lay1_rows (k m : Nat) (ss : List (List UInt8)) (a : Nat) (d : List UInt8) (hr : ∀ l ∈ ss, l.length = 48) (hd : d.length = 48 * m) : ∀ l ∈ lay1 k ss a d, l.length = 48 := by
  intro l hl
  obtain ⟨j, hj⟩ := List.mem_iff_getElem?.1 hl
  have hlt : j < ss.length := by
    have := (List.getElem?_eq_some_iff.1 hj).1
    rw [lay1_length] at this
    exact this
  rw [lay1_get k m ss a d hr hd j hlt] at hj
  split at hj
  · rename_i h
    simp only [Option.some.injEq] at hj
    rw [← hj, List.length_take, List.length_drop, hd]
    omega
  · exact hr l (List.mem_of_getElem? hj)

theorem layA_rows : ∀ (ws : List Wr) (kp : Nat → Int) (i : Nat) (ss : List (List UInt8)), (∀ l ∈ ss, l.length = 48) → (∀ x ∈ ws, x.d.length % 48 = 0) → ∀ l ∈ layA kp i ss ws, l.length = 48
  | [], _, _, _, h, _ => h
  | x :: xs, kp, i, ss, h, hw => by
    unfold layA
    have := hw x List.mem_cons_self
    exact layA_rows xs kp (i + 1) _ (lay1_rows _ (x.d.length / 48) _ _ _ h (by omega)) (fun y hy => hw y (List.mem_cons_of_mem _ hy))

theorem layA_snoc : ∀ (ws : List Wr) (kp : Nat → Int) (i : Nat) (ss : List (List UInt8)) (x : Wr), layA kp i ss (ws ++ [x]) = lay1 (kp (i + ws.length)).toNat (layA kp i ss ws) x.sec.toNat x.d
  | [], _, _, _, _ => rfl
  | y :: ys, kp, i, ss, x => by
    simp only [List.cons_append, layA]
    rw [layA_snoc ys kp (i + 1) _ x, List.length_cons]
    have : i + 1 + ys.length = i + (ys.length + 1) := by omega
    rw [this]

/-- Rows outside are let go. -/
def mask (lo n : Nat) (ss : List (List UInt8)) : List (List UInt8) := (List.range ss.length).map fun i => if lo ≤ i ∧ i < lo + n then ss.getD i [] else []

theorem mask_length (lo n : Nat) (ss : List (List UInt8)) : (mask lo n ss).length = ss.length := by simp [mask]

theorem mask_get (lo n : Nat) (ss : List (List UInt8)) (i : Nat) : (mask lo n ss)[i]? = if lo ≤ i ∧ i < lo + n then ss[i]? else ss[i]?.map fun _ => [] := by
  unfold mask
  rw [List.getElem?_map]
  by_cases h : i < ss.length
  · rw [List.getElem?_range h]
    simp only [Option.map_some, List.getD_eq_getElem?_getD, List.getElem?_eq_getElem h]
    split <;> rfl
  · rw [List.getElem?_eq_none (by simp; omega), List.getElem?_eq_none (by omega)]
    split <;> rfl

theorem mask_put (lo n : Nat) (ss : List (List UInt8)) (a : Nat) (x : List UInt8) : putS (mask lo n ss) a x = mask lo n (putS ss a x) := by
  refine List.ext_getElem? fun i => ?_
  rw [putS_get, mask_get, mask_get, putS_get]
  by_cases h : i = a
  · subst h
    rw [if_pos rfl, if_pos rfl]
    by_cases h2 : lo ≤ i ∧ i < lo + n
    · rw [if_pos h2, if_pos h2]
    · rw [if_neg h2, if_neg h2]
      cases ss[i]? <;> simp
  · rw [if_neg h, if_neg h]

theorem lay1_mask (lo n : Nat) : ∀ (k m : Nat) (ss : List (List UInt8)) (a : Nat) (d : List UInt8), (∀ l ∈ ss, l.length = 48) → d.length = 48 * m → lay1 k (mask lo n ss) a d = mask lo n (lay1 k ss a d)
  | 0, _, _, _, _, _, _ => rfl
  | k + 1, m, ss, a, d, hr, hd => by
    unfold lay1
    by_cases h0 : d = []
    · rw [if_pos h0, if_pos h0]
    · rw [if_neg h0, if_neg h0, mask_put lo n ss]
      have hpos : 0 < d.length := List.length_pos_iff.2 h0
      have h1 : lay1 1 ss a d = putS ss a (d.take 48) := by simp [lay1, h0]
      refine lay1_mask lo n k (m - 1) _ _ _ ?_ (by rw [List.length_drop]; omega)
      rw [← h1]
      exact lay1_rows 1 m ss a d hr hd

theorem layA_mask (lo n : Nat) : ∀ (ws : List Wr) (kp : Nat → Int) (i : Nat) (ss : List (List UInt8)), (∀ l ∈ ss, l.length = 48) → (∀ x ∈ ws, x.d.length % 48 = 0) → layA kp i (mask lo n ss) ws = mask lo n (layA kp i ss ws)
  | [], _, _, _, _, _ => rfl
  | x :: xs, kp, i, ss, h, hw => by
    unfold layA
    have := hw x List.mem_cons_self
    rw [lay1_mask lo n _ (x.d.length / 48) ss _ _ h (by omega)]
    exact layA_mask lo n xs kp (i + 1) _ (lay1_rows _ (x.d.length / 48) _ _ _ h (by omega)) (fun y hy => hw y (List.mem_cons_of_mem _ hy))

end Dk
end Go.Proofs.Ytokebdeaahdcjab
