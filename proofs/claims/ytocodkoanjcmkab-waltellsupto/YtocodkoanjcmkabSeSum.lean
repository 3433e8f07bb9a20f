/-
  The program's sum.
-/
import Derived.Test.YtocodkoanjcmkabSeMath
import Derived.Test.YtocodkoanjcmkabOcCopy
import Derived.Laws.BitsAll
import Derived.Laws.Shifts
namespace Go.Proofs.Ytocodkoanjcmkab
open Go.ChangeShapes Go.WideShapes Go.ChangeAt Go.RowKit Go.Deep
open Se

set_option maxRecDepth 100000 in
set_option maxHeartbeats 1600000 in
theorem shift_any (c : Nat) (hc : c < 4294967296) (w : World) : Calls Try.prog 55 #[.int .u32 c] w fun e w' => e = .returned (.int .u32 (shn 8 c : Nat)) ∧ Below w.heap.size w w' := by
  go_enter Try.func55, Try.ntmps55
  go_wp2_with fail
  have X0 : Hid ((w.alloc (.cells #[.int .u32 0, .int .u32 1972956183, .int .u32 3945912366, .int .u32 2661889081] 101)).heap[w.heap.size]? = some (.cells #[.int .u32 0, .int .u32 1972956183, .int .u32 3945912366, .int .u32 2661889081] 101 (0, 0))) := heap_alloc_new _ _
  have B0 : Hid (Below w.heap.size w (w.alloc (.cells #[.int .u32 0, .int .u32 1972956183, .int .u32 3945912366, .int .u32 2661889081] 101))) := below_one _ _
  generalize w.alloc (.cells #[.int .u32 0, .int .u32 1972956183, .int .u32 3945912366, .int .u32 2661889081] 101) = W at *
  have HC : Hid (c < 4294967296) := hc
  go_loopw [0, 5] (fun r i wr => ∃ m : Nat, m ≤ 4 ∧ i = .int .i64 m ∧ r = .int .u32 (shn (2 * m) c : Nat) ∧ Hid (wr = W)) (fun _ i _ => 4 - (intOf i).toNat)
  case atStart => exact ⟨0, by omega, rfl, rfl, rfl⟩
  case round =>
    obtain ⟨m, hm, rfl, rfl, hw⟩ := hrel
    obtain rfl : wr = W := hw
    obtain ⟨x0, -⟩ := cell_of X0.out 0
    obtain ⟨x1, -⟩ := cell_of X0.out 1
    obtain ⟨x2, -⟩ := cell_of X0.out 2
    obtain ⟨x3, -⟩ := cell_of X0.out 3
    simp at x0 x1 x2 x3
    have hr : shn (2 * m) c < 4294967296 := shn_lt HC.out
    have HS : Hid (sh (sh (shn (2 * m) c)) = shn (2 * (m + 1)) c) := by
      show sh (sh (shn (2 * m) c)) = shn (2 * (m + 1)) c
      rw [show 2 * (m + 1) = 2 * m + 2 by omega, shn_add]
      rfl
    by_cases hlt : m < 4
    · have hm1 : (m : Int) < 4 := by omega
      generalize shn (2 * m) c = r at *
      have ha : bits .and .u32 (r : Int) 3 = ((r % 4 : Nat) : Int) := by
        have := u32_and_nat r 3 hr (by decide)
        rw [nat_mask2] at this
        exact this
      obtain ⟨tt, htt⟩ : ∃ tt, tt = tab (r % 4) := ⟨_, rfl⟩
      have hcell : wr.cell? ⟨w.heap.size, (bits .and .u32 (r : Int) 3).toNat, none⟩ = some (.int .u32 (tt : Int)) := by
        rw [ha, htt]
        have hk : r % 4 = 0 ∨ r % 4 = 1 ∨ r % 4 = 2 ∨ r % 4 = 3 := by omega
        rcases hk with hk | hk | hk | hk <;> rw [hk] <;> first | exact x0 | exact x1 | exact x2 | exact x3
      have hbd : 0 ≤ bits .and .u32 (r : Int) 3 ∧ bits .and .u32 (r : Int) 3 < 4 := by rw [ha]; omega
      have HE : Hid (bits .xor .u32 ((r : Int) / 4) (tt : Int) = ((shn (2 * (m + 1)) c : Nat) : Int)) := by
        show bits .xor .u32 ((r : Int) / 4) (tt : Int) = ((shn (2 * (m + 1)) c : Nat) : Int)
        rw [show (r : Int) / 4 = ((r / 4 : Nat) : Int) by omega, u32_xor_nat _ _ (by omega) (by rw [htt]; exact tab_lt _), htt, ← sh_two, HS.out]
      clear ha htt x0 x1 x2 x3 hr hc HS
      go_wp2_with fail
      go_roundw
      case rel => exact ⟨m + 1, by omega, by go_num, by rw [HE.out], by first | rfl | exact True.intro⟩
      case measure => simp [intOf]; omega
    · have hme : m = 4 := by omega
      subst hme
      clear hr hc HS x0 x1 x2 x3
      go_wp2_with fail
      go_ret
      exact ⟨rfl, B0.out⟩

theorem le4_cell {s m : Nat} (h : m < 4) : (cellsO (le4 s))[m]? = some (.int .u8 ((s : Int) / 2 ^ (8 * m) % 256)) := by
  have e : m = 0 ∨ m = 1 ∨ m = 2 ∨ m = 3 := by omega
  rcases e with rfl | rfl | rfl | rfl <;> simp [cellsO, le4] <;> omega

theorem layB_get {w : World} {a : Option Addr} {l : List UInt8} (h : LayB w a l) {i : Nat} (hi : i < l.length) : ∃ b off, a = some ⟨b, off, none⟩ ∧ w.cell? ⟨b, off + i, none⟩ = some (.int .u8 ((l[i]).toNat : Int)) := h i _ (List.getElem?_eq_getElem hi)

theorem u32_not {x : Nat} (h : x < 4294967296) : bits .xor .u32 4294967295 (x : Int) = ((4294967295 - x : Nat) : Int) := by
  have := u32_xor_nat 4294967295 x (by decide) h
  rw [Nat.xor_comm, ← ones_xor h] at this
  exact this

set_option maxRecDepth 100000 in
set_option maxHeartbeats 1600000 in
theorem sum_any (a : Option Addr) (c : Nat) (l : List UInt8) (w : World) (hl : LayB w a l) (hlen : l.length ≤ 200000000000000) :
    Calls Try.prog 54 #[.slice a l.length c] w fun e w' => e = .returned (.int .u32 (sum l : Nat)) ∧ Below w.heap.size w w' := by
  have HL : Hid (LayB w a l) := hl
  clear hl
  go_enter Try.func54, Try.ntmps54
  go_wp2_with fail
  go_loopw [3, 8] (fun r i wr => ∃ m : Nat, m ≤ l.length ∧ i = .int .i64 m ∧ r = .int .u32 (reg 4294967295 (l.take m) : Nat) ∧ Hid (Below w.heap.size w wr)) (fun _ i _ => l.length - (intOf i).toNat)
  case atStart => exact ⟨0, by omega, rfl, rfl, Below.refl _ _⟩
  case round =>
    obtain ⟨m, hm, rfl, rfl, HB⟩ := hrel
    have hr : reg 4294967295 (l.take m) < 4294967296 := reg_lt (by decide)
    by_cases hlt : m < l.length
    · have hm1 : (m : Int) < l.length := by omega
      obtain ⟨b, off, rfl, hc⟩ := layB_get (HL.out.below HB.out) hlt
      have HS : Hid (fo (reg 4294967295 (l.take m)) l[m] = reg 4294967295 (l.take (m + 1))) := by
        show _ = _
        rw [List.take_succ_eq_append_getElem hlt, reg_append]
        rfl
      have HF : Hid (fo (reg 4294967295 (l.take m)) l[m] = shn 8 (reg 4294967295 (l.take m) ^^^ (l[m]).toNat)) := rfl
      have ho := u8_lt l[m]
      generalize hR : reg 4294967295 (l.take m) = r at *
      generalize hO : (l[m]).toNat = o at *
      have hx : bits .xor .u32 (r : Int) (o : Int) = ((r ^^^ o : Nat) : Int) := u32_xor_nat _ _ hr (by omega)
      have HX : Hid (r ^^^ o < 4294967296) := Nat.xor_lt_two_pow (n := 32) hr (by omega)
      clear hR hO hr
      go_wp2_with fail
      refine (shift_any _ HX.out _).mono ?_
      rintro e w1 ⟨rfl, hb1⟩
      have HB1 : Hid (Below w.heap.size w w1) := nxt HB.out hb1
      clear hb1
      go_wp2_with fail
      go_roundw
      case rel => exact ⟨m + 1, by omega, by go_num, by rw [← HS.out, HF.out], HB1.out⟩
      case measure => simp [intOf]; omega
    · have hme : m = l.length := by omega
      subst hme
      rw [List.take_of_length_le (Nat.le_refl _)] at hr ⊢
      have hn : bits .xor .u32 IntKind.u32.max (reg 4294967295 l : Nat) = ((sum l : Nat) : Int) := u32_not hr
      go_wp2_with fail
      go_ret
      exact ⟨rfl, HB.out⟩

set_option maxRecDepth 100000 in
set_option maxHeartbeats 1600000 in
theorem sealOf_any (a : Option Addr) (c : Nat) (l : List UInt8) (w : World) (hl : LayB w a l) (hlen : l.length ≤ 200000000000000) :
    Calls Try.prog 52 #[.slice a l.length c] w fun e w' => e = .returned (.agg (cellsO (le4 (sum l))).toArray) ∧ Below w.heap.size w w' := by
  have HL : Hid (LayB w a l) := hl
  clear hl
  go_enter Try.func52, Try.ntmps52
  go_wp2_with fail
  refine (sum_any a c l _ (HL.out.below (below_one _ _)) hlen).mono ?_
  rintro e w1 ⟨rfl, hb1⟩
  have R1 : Hid (w1.heap[w.heap.size]? = some (.cells #[.int .u8 0, .int .u8 0, .int .u8 0, .int .u8 0] 97 (0, 0))) := (hb1.block _ (by simp)).trans (heap_alloc_new _ _)
  have B1 : Hid (Below w.heap.size w w1) := nxt (below_one _ _) hb1
  clear hb1
  have hs := sum_lt l
  generalize hS : sum l = s at *
  have HS : Hid (sum l = s) := hS
  clear hS
  go_wp2_with fail
  have X2 : Hid ((w1.alloc (.cells #[.int .u8 0, .int .u8 0, .int .u8 0, .int .u8 0] 97)).heap[w1.heap.size]? = some (.cells #[.int .u8 0, .int .u8 0, .int .u8 0, .int .u8 0] 97 (0, 0))) := heap_alloc_new _ _
  have R2 : Hid ((w1.alloc (.cells #[.int .u8 0, .int .u8 0, .int .u8 0, .int .u8 0] 97)).heap[w.heap.size]? = some (.cells #[.int .u8 0, .int .u8 0, .int .u8 0, .int .u8 0] 97 (0, 0))) := ((below_one w1 _).block _ (lt_of_block R1.out)).trans R1.out
  have B2 : Hid (Below w.heap.size w (w1.alloc (.cells #[.int .u8 0, .int .u8 0, .int .u8 0, .int .u8 0] 97))) := nxt B1.out (below_one _ _)
  have hne : w.heap.size < w1.heap.size := lt_of_block R1.out
  generalize w1.alloc (.cells #[.int .u8 0, .int .u8 0, .int .u8 0, .int .u8 0] 97) = w2 at *
  go_loopw [8] (fun i wr => ∃ m : Nat, ∃ cur : Array Value, m ≤ 4 ∧ i = .int .i64 m ∧ Hid (wr.heap[w1.heap.size]? = some (.cells cur 97 (0, 0))) ∧ Hid (cur.size = 4 ∧ ∀ j, j < m → cur[j]? = (cellsO (le4 s))[j]?)
      ∧ Hid (wr.heap[w.heap.size]? = some (.cells #[.int .u8 0, .int .u8 0, .int .u8 0, .int .u8 0] 97 (0, 0))) ∧ Hid (Below w.heap.size w wr)) (fun i _ => 4 - (intOf i).toNat)
  case atStart => exact ⟨0, _, by omega, rfl, X2.out, ⟨rfl, fun j h => absurd h (Nat.not_lt_zero _)⟩, R2.out, B2.out⟩
  case round =>
    obtain ⟨m, cur, hm, rfl, HX, HC, HR, HB⟩ := hrel
    by_cases hlt : m < 4
    · have hm1 : (m : Int) < 4 := by omega
      have hc := (cell_of HX.out m).1
      rw [Array.getElem?_eq_getElem (by have := HC.out.1; omega)] at hc
      have hf := (cell_of HX.out m).2
      have HN : Hid (∀ v, (wr.setCell ⟨w1.heap.size, m, none⟩ v).heap[w1.heap.size]? = some (.cells (cur.setIfInBounds m v) 97 (0, 0))) := fun v => set_one_cell HX.out v
      go_wp2_with fail
      refine ⟨⟨m + 1, _, by omega, by go_num, HN.out _, ⟨by simpa using HC.out.1, fun j hj => ?_⟩, ?_, HB.out.setCell (by show w.heap.size ≤ w1.heap.size; omega) _⟩, by simp [intOf]; omega⟩
      · by_cases hjm : j = m
        · subst hjm
          rw [Array.getElem?_setIfInBounds_self_of_lt (by have := HC.out.1; omega), le4_cell hlt]
        · rw [Array.getElem?_setIfInBounds_ne (by omega)]
          exact HC.out.2 j (by omega)
      · exact (Below.heap_setCell _ _ _ _ (by show w.heap.size ≠ w1.heap.size; omega)).trans HR.out
    · have hme : m = 4 := by omega
      subst hme
      obtain ⟨r0, q0⟩ := cell_of HR.out 0
      obtain ⟨r1, q1⟩ := cell_of HR.out 1
      obtain ⟨r2, q2⟩ := cell_of HR.out 2
      obtain ⟨r3, q3⟩ := cell_of HR.out 3
      have y0 := (cell_of HX.out 0).1.trans ((HC.out.2 0 (by omega)).trans (le4_cell (by omega)))
      have y1 := (cell_of HX.out 1).1.trans ((HC.out.2 1 (by omega)).trans (le4_cell (by omega)))
      have y2 := (cell_of HX.out 2).1.trans ((HC.out.2 2 (by omega)).trans (le4_cell (by omega)))
      have y3 := (cell_of HX.out 3).1.trans ((HC.out.2 3 (by omega)).trans (le4_cell (by omega)))
      simp at r0 r1 r2 r3
      have HV : Hid ((cellsO (le4 s)).toArray = #[.int .u8 ((s : Int) % 256), .int .u8 ((s : Int) / 256 % 256), .int .u8 ((s : Int) / 65536 % 256), .int .u8 ((s : Int) / 16777216 % 256)]) := by
        show _ = _
        simp [cellsO, le4]
      go_wp2_with fail
      refine bodyPost_ret (v := .agg #[.int .u8 ((s : Int) % 256), .int .u8 ((s : Int) / 256 % 256), .int .u8 ((s : Int) / 65536 % 256), .int .u8 ((s : Int) / 16777216 % 256)]) (by simp [results, Try.results52, go_sem, r0, r1, r2, r3]) rfl ⟨by rw [HS.out, HV.out], ?_⟩
      exact (((HB.out.setCell (Nat.le_refl _) _).setCell (Nat.le_refl _) _).setCell (Nat.le_refl _) _).setCell (Nat.le_refl _) _
end Go.Proofs.Ytocodkoanjcmkab
