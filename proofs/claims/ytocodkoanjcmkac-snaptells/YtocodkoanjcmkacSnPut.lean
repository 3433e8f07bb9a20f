/-
  The program's putNumber.
-/
import Derived.Test.YtocodkoanjcmkacSnSmall
namespace Go.Proofs.Ytocodkoanjcmkac
open Go.ChangeShapes Go.WideShapes Go.ChangeAt Go.RowKit Go.Deep
open Se

/-- A row into which the last m of eight cells have been laid. -/
def laidE (L : List Value) (off : Nat) (X : List Value) (m : Nat) : List Value := splice L (off + (8 - m)) (X.drop (8 - m))
theorem laidE_zero (L : List Value) (off : Nat) (X : List Value) (hX : X.length = 8) : laidE L off X 0 = L := by
  have : X.drop (8 - 0) = [] := List.drop_eq_nil_of_le (by omega)
  rw [laidE, this]
  simp [splice]
theorem laidE_eight (L : List Value) (off : Nat) (X : List Value) : laidE L off X 8 = splice L off X := rfl
theorem laidE_length {L : List Value} {off : Nat} {X : List Value} {m : Nat} (hX : X.length = 8) (hf : off + 8 ≤ L.length) (_hm : m ≤ 8) : (laidE L off X m).length = L.length := by
  rw [laidE, length_splice]
  rw [List.length_drop]
  omega
theorem laidE_get {L : List Value} {off : Nat} {X : List Value} {m : Nat} (hf : off + 8 ≤ L.length) (hm : m < 8) : (laidE L off X m)[off + (7 - m)]? = L[off + (7 - m)]? := by
  rw [laidE, splice, List.getElem?_append_left (by rw [List.length_take]; omega), List.getElem?_take_of_lt (by omega)]
theorem laidE_succ {L : List Value} {off : Nat} {X : List Value} {m : Nat} (hX : X.length = 8) (hf : off + 8 ≤ L.length) (hm : m < 8) (x : Value) (hx : X[7 - m]? = some x) : (laidE L off X m).set (off + (7 - m)) x = laidE L off X (m + 1) := by
  have e1 : X.drop (8 - (m + 1)) = x :: X.drop (8 - m) := by
    obtain ⟨h1, h2⟩ := List.getElem?_eq_some_iff.1 hx
    rw [show 8 - (m + 1) = 7 - m by omega, List.drop_eq_getElem_cons h1, h2, show 7 - m + 1 = 8 - m by omega]
  have e2 : L.take (off + (8 - m)) = L.take (off + (7 - m)) ++ [L[off + (7 - m)]] := by
    rw [show off + (8 - m) = off + (7 - m) + 1 by omega, List.take_succ_eq_append_getElem (by omega)]
  have hl : (L.take (off + (7 - m))).length = off + (7 - m) := by rw [List.length_take]; omega
  rw [laidE, laidE, splice, splice, e1, e2, show off + (8 - (m + 1)) = off + (7 - m) by omega, List.append_assoc, List.set_append_right _ _ (by omega), hl, Nat.sub_self]
  simp only [List.set_cons_zero, List.cons_append, List.nil_append, List.length_cons, List.length_drop]
  rw [show off + (8 - m) + (X.length - (8 - m)) = off + (7 - m) + (X.length - (8 - m) + 1) by omega]

set_option maxRecDepth 100000 in
set_option maxHeartbeats 1600000 in
theorem putNumber_any (g off c : Nat) (cur : List Value) (t : TypeId) (n : Int) (w : World) (hg : w.heap[g]? = some (.cells cur.toArray t (0, 0))) (hfit : off + 8 ≤ cur.length) (hu : ∀ (j : Nat) (v : Value), cur[j]? = some v → ∃ z : Int, v = .int .u8 z ∧ 0 ≤ z ∧ z ≤ 255) (h0 : 0 ≤ n) (h1 : n ≤ 9223372036854775807) :
    Calls Try.prog 33 #[.slice (some ⟨g, off, none⟩) 8 c, .int .i64 n] w fun e w' => e = .returned (.tuple #[]) ∧ w'.heap[g]? = some (.cells (splice cur off (cellsO (octs n))).toArray t (0, 0)) ∧ Kept (fun b => b = g) w w' := by
  have HG : Hid (w.heap[g]? = some (.cells cur.toArray t (0, 0))) := hg
  have HU : Hid (∀ (j : Nat) (v : Value), cur[j]? = some v → ∃ z : Int, v = .int .u8 z ∧ 0 ≤ z ∧ z ≤ 255) := hu
  clear hg hu
  have HX : Hid ((cellsO (octs n)).length = 8) := by show _ = _; rw [cellsO_length, octs_length]
  have HXV : Hid (∀ m, m < 8 → (cellsO (octs n))[7 - m]? = some (.int .u8 (n / 2 ^ (8 * m) % 256))) := by
    intro m hm
    have h := oct_val h0 (7 - m)
    rw [show 7 - (7 - m) = m by omega] at h
    rw [h]
    simp [cellsO, octs, show 7 - m < 8 by omega]
  generalize cellsO (octs n) = X at *
  go_enter Try.func33, Try.ntmps33
  go_wp2_with fail
  have HN : Hid (0 ≤ n) := h0
  go_loopw [1, 4] (fun b i wr => ∃ (m : Nat) (nb : Int), m ≤ 8 ∧ i = .int .i64 (7 - (m : Int)) ∧ b = .int .i64 nb ∧ (0 ≤ nb ∧ nb ≤ 9223372036854775807) ∧ Hid (nb = n / 2 ^ (8 * m)) ∧ Hid (wr.heap[g]? = some (.cells (laidE cur off X m).toArray t (0, 0))) ∧ Hid (Kept (fun b => b = g) w wr)) (fun _ i _ => (intOf i + 1).toNat)
  case atStart => exact ⟨0, n, by omega, rfl, rfl, ⟨h0, h1⟩, by show _ = _; simp, by show _ = _; rw [laidE_zero _ _ _ HX.out]; exact HG.out, Kept.refl _ _⟩
  case round =>
    obtain ⟨m, nb, hm, rfl, rfl, hnb, HNB, HR, HK⟩ := hrel
    by_cases hlt : m < 8
    · have hm1 : (0 : Int) ≤ 7 - (m : Int) := by omega
      have hm2 : (7 : Int) - (m : Int) < 8 := by omega
      have e1 : ((7 : Int) - (m : Int)).toNat = 7 - m := by omega
      obtain ⟨v, hv⟩ : ∃ v, cur[off + (7 - m)]? = some v := ⟨_, List.getElem?_eq_getElem (by omega)⟩
      obtain ⟨z, rfl, hz⟩ := HU.out _ _ hv
      have hc0 : wr.cell? ⟨g, off + (7 - m), none⟩ = some (.int .u8 z) := (cell_of HR.out _).1.trans (by rw [List.getElem?_toArray, laidE_get hfit hlt]; exact hv)
      have hf0 := (cell_of HR.out (off + (7 - m))).2
      have HS : Hid ((wr.setCell ⟨g, off + (7 - m), none⟩ (.int .u8 (nb % 256))).heap[g]? = some (.cells (laidE cur off X (m + 1)).toArray t (0, 0))) := by
        show _ = _
        rw [set_one_cell HR.out, HNB.out]
        rw [List.setIfInBounds_toArray, laidE_succ HX.out hfit hlt _ (HXV.out m hlt)]
      have HK2 : Hid (Kept (fun b => b = g) w (wr.setCell ⟨g, off + (7 - m), none⟩ (.int .u8 (nb % 256)))) := HK.out.setCell _ rfl
      have HN2 : Hid (nb / 256 = n / 2 ^ (8 * (m + 1))) := by
        show _ = _
        rw [HNB.out, show 8 * (m + 1) = 8 * m + 8 by omega, Int.pow_add, Int.ediv_ediv_of_nonneg (Int.pow_nonneg (by decide))]
        rfl
      clear hv
      go_wp2_with fail
      refine ⟨⟨m + 1, nb / 256, by omega, by congr 1; omega, rfl, by omega, HN2.out, HS.out, HK2.out⟩, ?_⟩
      simp [intOf]
      omega
    · have hme : m = 8 := by omega
      subst hme
      go_wp2_with fail
      go_end0
      have := HR.out
      rw [laidE_eight] at this
      exact ⟨rfl, this, HK.out⟩
end Go.Proofs.Ytocodkoanjcmkac
