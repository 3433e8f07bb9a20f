/-
  Snapshots as mathematics: which may be, their slots, what a slot tells, the newest of two.
-/
import Derived.Test.YtocodkoanjcmkacSeBk
import Derived.Test.YtocodkoanjcmkacOcOcts
namespace Go.Proofs.Ytocodkoanjcmkac
open Go.ChangeShapes Go.WideShapes Go.ChangeAt Go.RowKit Go.Deep
open Se

/-- A snapshot: its epoch, its number, its octets. -/
abbrev Sn := Int × Int × List UInt8
/-- Check's answer. -/
def chkS (e q : Int) (n : Nat) : Int := if e < 0 ∨ 1099511627776 < e ∨ q < 0 ∨ 1099511627776 < q then 4 else if 8000 < n then 5 else 0
/-- What stands in a slot's frame. -/
def inner (e q : Int) (d : List UInt8) : List UInt8 := octs e ++ (octs q ++ d)
def sfr (e q : Int) (d : List UInt8) : List UInt8 := frame 3 (inner e q d)
/-- A slot. -/
def slotO (e q : Int) (d : List UInt8) : List UInt8 := sfr e q d ++ List.replicate (8136 - d.length) 0
/-- Encode's answer. -/
def encR (e q : Int) (d : List UInt8) : Int × List UInt8 := if chkS e q d.length = 0 then (0, slotO e q d) else (chkS e q d.length, [])
/-- Nothing but zeros. -/
def allZ (l : List UInt8) : Prop := ∀ o ∈ l, o = 0
instance (l : List UInt8) : Decidable (allZ l) := by unfold allZ; infer_instance
/-- What a frame's octets tell. -/
def inS (g : List UInt8) : Int × Sn :=
  if g.length < 16 then (8, 0, 0, []) else if 1099511627776 < numO (g.take 8) ∨ 1099511627776 < numO ((g.take 16).drop 8) then (4, 0, 0, []) else if 8000 < g.length - 16 then (5, 0, 0, []) else (0, numO (g.take 8), numO ((g.take 16).drop 8), g.drop 16)
/-- Decode's answer. -/
def decR (l : List UInt8) : Int × Sn :=
  if l.length ≠ 8160 then (3, 0, 0, []) else if (getR l).1 ≠ 0 then ((getR l).1, 0, 0, []) else if (getR l).2.1 ≠ 3 then (22, 0, 0, [])
  else if (inS (getR l).2.2.1).1 ≠ 0 then ((inS (getR l).2.2.1).1, 0, 0, []) else if ¬ allZ (l.drop (getR l).2.2.2) then (23, 0, 0, []) else (0, (inS (getR l).2.2.1).2)
/-- Newest's answer: the error, the place, the snapshot. -/
def newR (x y : Int × Sn) : Int × Nat × Sn :=
  if x.1 ≠ 0 ∧ y.1 ≠ 0 then (71, 0, 0, 0, []) else if x.1 ≠ 0 ∨ (y.1 = 0 ∧ x.2.1 < y.2.1) then (0, 1, y.2) else (0, 0, x.2)

theorem inner_length (e q : Int) (d : List UInt8) : (inner e q d).length = 16 + d.length := by
  rw [inner, List.length_append, List.length_append, octs_length, octs_length]
  omega
theorem sfr_length (e q : Int) (d : List UInt8) : (sfr e q d).length = 24 + d.length := by
  rw [sfr, frame_length, inner_length]
  omega
theorem slotO_length {e q : Int} {d : List UInt8} (h : d.length ≤ 8000) : (slotO e q d).length = 8160 := by
  rw [slotO, List.length_append, sfr_length, List.length_replicate]
  omega
theorem chk_ok {e q : Int} {n : Nat} (h : chkS e q n = 0) : (0 ≤ e ∧ e ≤ 1099511627776) ∧ (0 ≤ q ∧ q ≤ 1099511627776) ∧ n ≤ 8000 := by
  unfold chkS at h
  split at h
  · cases h
  · split at h
    · cases h
    · omega
theorem chk_of {e q : Int} {n : Nat} (h : (0 ≤ e ∧ e ≤ 1099511627776) ∧ (0 ≤ q ∧ q ≤ 1099511627776) ∧ n ≤ 8000) : chkS e q n = 0 := by
  unfold chkS
  rw [if_neg (by omega), if_neg (by omega)]
theorem put_sfr {e q : Int} {d : List UInt8} (h : d.length ≤ 8000) : putR 3 (inner e q d) = (0, sfr e q d) := put_ok (by decide) (by rw [inner_length]; omega)

theorem inner_take (e q : Int) (d : List UInt8) : (inner e q d).take 8 = octs e := by
  have := List.take_left (l₁ := octs e) (l₂ := octs q ++ d)
  rwa [octs_length] at this
theorem inner_mid (e q : Int) (d : List UInt8) : ((inner e q d).take 16).drop 8 = octs q := by
  have h1 : (inner e q d).take 16 = octs e ++ octs q := by
    rw [inner, ← List.append_assoc]
    have := List.take_left (l₁ := octs e ++ octs q) (l₂ := d)
    rwa [List.length_append, octs_length, octs_length] at this
  rw [h1]
  have := List.drop_left (l₁ := octs e) (l₂ := octs q)
  rwa [octs_length] at this
theorem inner_drop (e q : Int) (d : List UInt8) : (inner e q d).drop 16 = d := by
  rw [inner, ← List.append_assoc]
  have := List.drop_left (l₁ := octs e ++ octs q) (l₂ := d)
  rwa [List.length_append, octs_length, octs_length] at this

theorem inS_inner {e q : Int} {d : List UInt8} (h : chkS e q d.length = 0) : inS (inner e q d) = (0, e, q, d) := by
  obtain ⟨h1, h2, h3⟩ := chk_ok h
  have hl := inner_length e q d
  unfold inS
  rw [inner_take, inner_mid, inner_drop, numO_octs h1.1 (by omega), numO_octs h2.1 (by omega), if_neg (by omega), if_neg (by omega), if_neg (by omega)]

theorem allZ_zeros (n : Nat) : allZ (List.replicate n 0) := fun _ ho => (List.mem_replicate.1 ho).2

/-- Decode of Encode is the snapshot. -/
theorem dec_slot {e q : Int} {d : List UInt8} (h : chkS e q d.length = 0) : decR (slotO e q d) = (0, e, q, d) := by
  obtain ⟨h1, h2, h3⟩ := chk_ok h
  have hg : getR (slotO e q d) = (0, 3, inner e q d, (sfr e q d).length) := get_put (by decide) (by rw [inner_length]; omega) _
  have hd : (slotO e q d).drop (sfr e q d).length = List.replicate (8136 - d.length) 0 := List.drop_left
  unfold decR
  rw [if_neg (by rw [slotO_length h3]; simp), hg]
  simp only [ne_eq, not_true_eq_false, if_false]
  rw [inS_inner h, hd]
  simp [allZ_zeros]

theorem enc_ok {e q : Int} {d : List UInt8} (h : chkS e q d.length = 0) : encR e q d = (0, slotO e q d) := if_pos h
theorem enc_bad {e q : Int} {d : List UInt8} (h : chkS e q d.length ≠ 0) : encR e q d = (chkS e q d.length, []) := if_neg h
theorem chk_cases (e q : Int) (n : Nat) : chkS e q n = 0 ∨ chkS e q n = 4 ∨ chkS e q n = 5 := by
  unfold chkS
  split
  · exact Or.inr (Or.inl rfl)
  · split
    · exact Or.inr (Or.inr rfl)
    · exact Or.inl rfl

/-- What Decode tells may be. -/
theorem inS_ok {g : List UInt8} (h : (inS g).1 = 0) : 16 ≤ g.length ∧ g.length ≤ 8016 ∧ numO (g.take 8) ≤ 1099511627776 ∧ numO ((g.take 16).drop 8) ≤ 1099511627776 ∧ inS g = (0, numO (g.take 8), numO ((g.take 16).drop 8), g.drop 16) := by
  unfold inS at h ⊢
  split at h
  · cases h
  · split at h
    · cases h
    · split at h
      · cases h
      · rename_i h1 h2 h3
        rw [if_neg h1, if_neg h2, if_neg h3]
        exact ⟨by omega, by omega, by omega, by omega, rfl⟩
theorem inS_cases (g : List UInt8) : (inS g).1 = 0 ∨ (inS g).2 = (0, 0, []) := by
  unfold inS
  split
  · exact Or.inr rfl
  · split
    · exact Or.inr rfl
    · split
      · exact Or.inr rfl
      · exact Or.inl rfl
theorem dec_small (l : List UInt8) : (decR l).2.2.2.length ≤ 8000 := by
  unfold decR
  split
  · simp
  · split
    · simp
    · split
      · simp
      · split
        · simp
        · split
          · simp
          · rename_i h _
            have h0 : (inS (getR l).2.2.1).1 = 0 := by simpa using h
            obtain ⟨h1, h2, -, -, h3⟩ := inS_ok h0
            rw [h3]
            simp
            omega
end Go.Proofs.Ytocodkoanjcmkac
