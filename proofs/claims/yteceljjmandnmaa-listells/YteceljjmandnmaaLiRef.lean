/-
  The page's from.
-/
import Derived.Test.YteceljjmandnmaaLiRefM
import Derived.BigRegion
namespace Go.Proofs.Yteceljjmandnmaa
open Go.ChangeShapes Go.WideShapes Go.ChangeAt Go.RowKit Go.Deep
open Li

/-- The page's row while place i is reckoned, k numbers behind it done. -/
def rowAt (ks : List Int) (i k : Nat) : List Int := (fsOf ks (i + 1)).set i (bm (ks.getD i 0) (ks.drop (i + 1)) k : Int)

theorem rowAt_length {ks : List Int} {i k : Nat} (h : i < ks.length) : (rowAt ks i k).length = ks.length := by
  unfold rowAt
  rw [List.length_set, fsOf_length (by omega)]

theorem rowAt_end {ks : List Int} {i : Nat} (h : i < ks.length) : rowAt ks i (ks.length - (i + 1)) = fsOf ks i := by
  have e : ks.getD i 0 = ks[i] := by simp [List.getD, h]
  have e2 := bm_all ks[i] (ks.drop (i + 1))
  rw [List.length_drop] at e2
  unfold rowAt
  rw [e, e2, ← fsOf_step h]
  simp

theorem rowAt_set {ks : List Int} {i k : Nat} (v : Int) : (rowAt ks i k).set i v = (fsOf ks (i + 1)).set i v := by
  unfold rowAt
  rw [List.set_set]

theorem rowAt_i {ks : List Int} {i k : Nat} (h : i < ks.length) : (rowAt ks i k)[i]? = some (bm (ks.getD i 0) (ks.drop (i + 1)) k : Int) := by
  unfold rowAt
  rw [List.getElem?_set_self (by rw [fsOf_length (by omega)]; exact h)]

theorem rowAt_k {ks : List Int} {i k m : Nat} (hm : i + 1 + m < ks.length) : (rowAt ks i k)[i + 1 + m]? = some (((fr (ks.drop (i + 1))).getD m 0 : Nat) : Int) := by
  unfold rowAt
  rw [List.getElem?_set_ne (by omega)]
  unfold fsOf
  rw [List.getElem?_append_right (by simp), List.length_replicate]
  have e : i + 1 + m - (i + 1) = m := by omega
  have hl : m < (fr (ks.drop (i + 1))).length := by rw [fr_length, List.length_drop]; omega
  rw [e, List.getElem?_map, List.getElem?_eq_getElem hl]
  simp [List.getD, hl]

theorem bm_bound {ks : List Int} {i k : Nat} (hk : k ≤ ks.length - (i + 1)) : 1 ≤ bm (ks.getD i 0) (ks.drop (i + 1)) k ∧ bm (ks.getD i 0) (ks.drop (i + 1)) k ≤ ks.length + 1 := by
  have h1 := bm_le (ks.getD i 0) (ks.drop (i + 1)) k (by rw [List.length_drop]; exact hk)
  have h2 := srch_le (heads (ks.drop (i + 1))) (ks.getD i 0)
  have h3 := heads_le (ks.drop (i + 1))
  have h4 := bm_mono (ks.getD i 0) (ks.drop (i + 1)) 0 k
  rw [Nat.zero_add] at h4
  simp only [bm] at h4
  rw [List.length_drop] at h3
  omega

set_option maxRecDepth 100000 in
set_option maxHeartbeats 1600000 in
theorem rfrom_any (ks : List Int) (la : Option Addr) (c : Nat) (w : World) (hl : LayI w la ks) (hn : ks.length ≤ 256) :
    Calls Try.prog 20 #[.slice la ks.length c] w fun e w' => e = .returned (.slice (some ⟨w.heap.size, 0, none⟩) ks.length ks.length) ∧ OwnI w' w.heap.size (.slice (some ⟨w.heap.size, 0, none⟩) ks.length ks.length) (fsOf ks 0) ∧ Below w.heap.size w w' := by
  have HL : Hid (LayI w la ks) := hl
  clear hl
  go_enter Try.func20, Try.ntmps20
  go_wp2_with (refine wpList_mkI _ rfl (.tmp 7) (.tmp 7) rfl ks.length rfl rfl (by omega) ?_; intro w1 H1 H2 H3)
  have HO1 : Hid (OwnI w1 w.heap.size (.slice (some ⟨w.heap.size, 0, none⟩) ks.length ks.length) (fsOf ks ks.length)) := by
    show OwnI _ _ _ _
    rw [fsOf_end]
    refine ⟨by simp, Or.inr ⟨w.heap.size, ks.length, _, by simp, Nat.le_refl _, H1.out, by simp, by unfold maxLen; omega, by simp, ?_⟩⟩
    rw [List.take_of_length_le (by simp)]
  clear H1 H2
  go_loopw [4] (fun v4 wr => ∃ p : Nat, p ≤ ks.length ∧ v4 = .int .i64 ((p : Int) - 1) ∧ Hid (OwnI wr w.heap.size (.slice (some ⟨w.heap.size, 0, none⟩) ks.length ks.length) (fsOf ks p)) ∧ Hid (Below w.heap.size w wr)) (fun v4 _ => (intOf v4 + 1).toNat)
  case atStart => exact ⟨ks.length, Nat.le_refl _, by go_num, HO1.out, H3.out⟩
  case round =>
    obtain ⟨p, hp, rfl, HO, HB⟩ := hrel
    clear HO1 H3
    obtain ⟨W4, hW4⟩ : ∃ W, W = wr := ⟨_, rfl⟩
    subst hW4
    cases p with
    | zero =>
      have e : ((0 : Nat) : Int) - 1 = -1 := by omega
      rw [e]
      go_wp2_with fail
      go_ret
      exact ⟨rfl, HO.out, HB.out⟩
    | succ i =>
      have e : ((i + 1 : Nat) : Int) - 1 = (i : Int) := by omega
      rw [e]
      have hi : i < ks.length := by omega
      obtain ⟨r1, r2⟩ := HO.out.cell (j := i) (by rw [fsOf_length (by omega)]; exact hi)
      have HO5 : Hid (OwnI (W4.setCell ⟨w.heap.size, i, none⟩ (.int .i64 1)) w.heap.size (.slice (some ⟨w.heap.size, 0, none⟩) ks.length ks.length) (rowAt ks i 0)) := by
        show OwnI _ _ _ _
        have := HO.out.set i 1
        unfold rowAt
        simpa [bm] using this
      have HB5 : Hid (Below w.heap.size w (W4.setCell ⟨w.heap.size, i, none⟩ (.int .i64 1))) := ⟨HB.out.os, HB.out.tape, HB.out.output, by have := HB.out.size; simpa [World.setCell] using this, fun j hj => (heap_set_other _ (by omega)).trans (HB.out.block j hj)⟩
      clear HO HB
      go_wp2_with fail
      clear r1 r2
      generalize W4.setCell ⟨w.heap.size, i, none⟩ (.int .i64 1) = W5 at *
      go_loopw [5] (fun v5 wr => ∃ m : Nat, i + 1 + m ≤ ks.length ∧ v5 = .int .i64 ((i + 1 + m : Nat) : Int) ∧ Hid (OwnI wr w.heap.size (.slice (some ⟨w.heap.size, 0, none⟩) ks.length ks.length) (rowAt ks i m)) ∧ Hid (Below w.heap.size w wr)) (fun v5 _ => ks.length - (intOf v5).toNat)
      case atStart => exact ⟨0, by omega, by go_num, HO5.out, HB5.out⟩
      case round =>
        obtain ⟨m, hm, rfl, HOm, HBm⟩ := hrel
        clear HO5 HB5
        obtain ⟨k, hk⟩ : ∃ k, i + 1 + m = k := ⟨_, rfl⟩
        by_cases hlt : k < ks.length
        · rw [hk]
          obtain ⟨b1, o1, ha1, s1, _⟩ := HL.out.below HBm.out k ks[k] (List.getElem?_eq_getElem hlt)
          subst ha1
          obtain ⟨b2, o2, ha2, s2, _⟩ := HL.out.below HBm.out i ks[i] (List.getElem?_eq_getElem hi)
          cases ha2
          have ex : ks.getD i 0 = ks[i] := by simp [List.getD, hi]
          have ey : (ks.drop (i + 1)).getD m 0 = ks[k] := by subst hk; simp [List.getD, List.getElem?_drop, hlt]
          by_cases hxy : ks[i] < ks[k]
          · have HBK : Hid (bm (ks.getD i 0) (ks.drop (i + 1)) (m + 1) = max (bm (ks.getD i 0) (ks.drop (i + 1)) m) ((fr (ks.drop (i + 1))).getD m 0 + 1)) := by
              show _ = _
              simp only [bm]
              rw [ey, ex, if_pos hxy]
            have ri := rowAt_i (k := m) hi
            have rk := rowAt_k (k := m) (show i + 1 + m < ks.length by omega)
            have hbb := bm_bound (ks := ks) (i := i) (k := m) (by omega)
            have hff : (fr (ks.drop (i + 1))).getD m 0 ≤ ks.length := by
              have hfl : m < (fr (ks.drop (i + 1))).length := by rw [fr_length, List.length_drop]; omega
              have := (fr_pos (ks.drop (i + 1)) hfl).2
              rw [List.length_drop] at this
              simp only [List.getD, List.getElem?_eq_getElem hfl, Option.getD_some]
              omega
            rw [hk] at rk
            have HRI : Hid ((rowAt ks i m)[i]? = some (bm (ks.getD i 0) (ks.drop (i + 1)) m : Int) ∧ (rowAt ks i m)[k]? = some (((fr (ks.drop (i + 1))).getD m 0 : Nat) : Int)) := ⟨ri, rk⟩
            have HRS : Hid (rowAt ks i (m + 1) = (rowAt ks i m).set i (bm (ks.getD i 0) (ks.drop (i + 1)) (m + 1) : Int)) := by
              show _ = _
              rw [rowAt_set]
              rfl
            rw [HBK.out] at HRS
            have hrl := rowAt_length (k := m) hi
            clear HBK ri rk ex ey
            generalize bm (ks.getD i 0) (ks.drop (i + 1)) m = b at *
            generalize (fr (ks.drop (i + 1))).getD m 0 = f at *
            obtain ⟨q1, q2⟩ := HOm.out.cell (j := i) (by omega)
            obtain ⟨q3, q4⟩ := HOm.out.cell (j := k) (by omega)
            have e1 : (rowAt ks i m)[i] = (b : Int) := by have := HRI.out.1; rw [List.getElem?_eq_getElem (by omega)] at this; exact Option.some.inj this
            have e2 : (rowAt ks i m)[k] = (f : Int) := by have := HRI.out.2; rw [List.getElem?_eq_getElem (by omega)] at this; exact Option.some.inj this
            rw [e1] at q1
            rw [e2] at q3
            clear e1 e2 HRI
            by_cases hbf : b < f + 1
            · have HMX : Hid (max b (f + 1) = f + 1) := by show _ = _; omega
              go_wp2_with fail
              go_quiet (fail)
              go_wp2_with fail
              have HOq : Hid (OwnI (wr.drewN nq) w.heap.size (.slice (some ⟨w.heap.size, 0, none⟩) ks.length ks.length) (rowAt ks i m)) := HOm.out
              have HBq : Hid (Below w.heap.size w (wr.drewN nq)) := nxt HBm.out (Below_drewN _ _ _)
              replace q1 : (wr.drewN nq).cell? ⟨w.heap.size, i, none⟩ = some (.int .i64 (b : Int)) := q1
              replace q2 : (wr.drewN nq).frozen? ⟨w.heap.size, i, none⟩ = false := q2
              replace q3 : (wr.drewN nq).cell? ⟨w.heap.size, k, none⟩ = some (.int .i64 (f : Int)) := q3
              clear HOm HBm s1 s2 q4
              generalize wr.drewN nq = W6 at *
              go_region
              go_wp2_with fail
              go_roundw
              case rel =>
                refine ⟨m + 1, by omega, by go_num, ?_, ?_⟩
                · have h := HOq.out.set i ((f + 1 : Nat) : Int)
                  rw [HRS.out, HMX.out]
                  first | exact h | (simpa using h)
                · exact ⟨HBq.out.os, HBq.out.tape, HBq.out.output, by have := HBq.out.size; simpa [World.setCell, World.drewN] using this, fun j hj => (heap_set_other _ (by omega)).trans (HBq.out.block j hj)⟩
              case measure => simp [intOf]; omega
            · have HMX : Hid (max b (f + 1) = b) := by show _ = _; omega
              go_wp2_with fail
              go_quiet (fail)
              go_wp2_with fail
              have HOq : Hid (OwnI (wr.drewN nq) w.heap.size (.slice (some ⟨w.heap.size, 0, none⟩) ks.length ks.length) (rowAt ks i m)) := HOm.out
              have HBq : Hid (Below w.heap.size w (wr.drewN nq)) := nxt HBm.out (Below_drewN _ _ _)
              replace q1 : (wr.drewN nq).cell? ⟨w.heap.size, i, none⟩ = some (.int .i64 (b : Int)) := q1
              replace q2 : (wr.drewN nq).frozen? ⟨w.heap.size, i, none⟩ = false := q2
              replace q3 : (wr.drewN nq).cell? ⟨w.heap.size, k, none⟩ = some (.int .i64 (f : Int)) := q3
              clear HOm HBm s1 s2 q4
              generalize wr.drewN nq = W6 at *
              go_region
              go_wp2_with fail
              go_roundw
              case rel =>
                refine ⟨m + 1, by omega, by go_num, ?_, ?_⟩
                · have h := HOq.out.set i ((b : Nat) : Int)
                  rw [HRS.out, HMX.out]
                  first | exact h | (simpa using h)
                · exact ⟨HBq.out.os, HBq.out.tape, HBq.out.output, by have := HBq.out.size; simpa [World.setCell, World.drewN] using this, fun j hj => (heap_set_other _ (by omega)).trans (HBq.out.block j hj)⟩
              case measure => simp [intOf]; omega
          · have HBK : Hid (rowAt ks i (m + 1) = rowAt ks i m) := by
              show _ = _
              unfold rowAt
              simp only [bm]
              rw [ey, ex, if_neg hxy]
            clear ex ey
            go_wp2_with fail
            go_quiet (fail)
            go_wp2_with fail
            go_roundw
            case rel => exact ⟨m + 1, by omega, by go_num, by rw [HBK.out]; exact HOm.out, nxt HBm.out (Below_drewN _ _ _)⟩
            case measure => simp [intOf]; omega
        · rw [hk]
          have HRE : Hid (rowAt ks i m = fsOf ks i) := by
            show _ = _
            rw [← rowAt_end hi]
            congr 1
            omega
          go_wp2_with fail
          go_roundw
          case rel => exact ⟨i, by omega, by go_num, by rw [← HRE.out]; exact HOm.out, HBm.out⟩
          case measure => simp [intOf]
end Go.Proofs.Yteceljjmandnmaa
