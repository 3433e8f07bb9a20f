/-
  The program's Decode.
-/
import Derived.Test.YtocodkoanjcmkacSnDec
import Derived.Test.YtocodkoanjcmkacSeSpot
namespace Go.Proofs.Ytocodkoanjcmkac
open Go.ChangeShapes Go.WideShapes Go.ChangeAt Go.RowKit Go.Deep
open Se

theorem chk_in {g : List UInt8} (h : 16 ≤ g.length) : chkS (sgn (numO (g.take 8))) (sgn (numO ((g.take 16).drop 8))) (g.length - 16) = (inS g).1 := by
  have b1 := numO_bound 8 (g.take 8) (by rw [List.length_take]; omega)
  have b2 := numO_bound 8 ((g.take 16).drop 8) (by rw [List.length_drop, List.length_take]; omega)
  have e : (256 : Int) ^ 8 = 18446744073709551616 := by decide
  rw [e] at b1 b2
  unfold inS chkS
  rw [if_neg (show ¬ g.length < 16 by omega)]
  generalize numO (g.take 8) = x at *
  generalize numO ((g.take 16).drop 8) = y at *
  by_cases h4 : 1099511627776 < x ∨ 1099511627776 < y
  · rw [if_pos (by unfold sgn; omega), if_pos h4]
  · rw [if_neg (by unfold sgn; omega), if_neg h4]
    by_cases h5 : 8000 < g.length - 16
    · rw [if_pos h5, if_pos h5]
    · rw [if_neg h5, if_neg h5]

/-- What Decode leaves. -/
def DecPost (w : World) (R : Int × Sn) (x : Ending) (w' : World) : Prop :=
  ∃ a2 c2, x = .returned (.tuple #[.agg #[.int .i64 R.2.1, .int .i64 R.2.2.1, .slice a2 R.2.2.2.length c2], .int .i64 R.1]) ∧ Oct w' a2 c2 R.2.2.2 ∧ (∀ ad, a2 = some ad → w.heap.size ≤ ad.block) ∧ Below w.heap.size w w'
theorem DecPost.err {w w' : World} {R : Int × Sn} (e : Int) (h : R = (e, 0, 0, [])) (hb : Below w.heap.size w w') : DecPost w R (.returned (.tuple #[.agg #[.int .i64 0, .int .i64 0, .slice none 0 0], .int .i64 e])) w' := by
  subst h
  exact ⟨none, 0, rfl, Oct.none _ _, (fun _ h => by cases h), hb⟩

set_option maxRecDepth 100000 in
set_option maxHeartbeats 6400000 in
theorem decode_any (a : Option Addr) (c : Nat) (l : List UInt8) (w : World) (ho : Oct w a c l) :
    Calls Try.prog 12 #[.slice a l.length c] w (DecPost w (decR l)) := by
  have HO : Hid (Oct w a c l) := ho
  obtain ⟨R, hR⟩ : ∃ R, decR l = R := ⟨_, rfl⟩
  rw [hR]
  unfold decR at hR
  by_cases h1 : l.length ≠ 8160
  · rw [if_pos h1] at hR
    have HR : Hid (R = (3, 0, 0, [])) := hR.symm
    have h1' : ((l.length : Int) != 8160) = true := by simp; omega
    clear hR h1
    go_enter Try.func12, Try.ntmps12
    go_wp2_with fail
    exact bodyPost_ret (v := .tuple #[.agg #[.int .i64 0, .int .i64 0, .slice none 0 0], .int .i64 3]) (by simp [results, Try.results12, go_sem]) rfl (DecPost.err _ HR.out (below_one _ _))
  rw [if_neg h1] at hR
  have HL : Hid (l.length = 8160) := by show _ = _; omega
  have h1' : ((l.length : Int) != 8160) = false := by simp; omega
  clear h1
  have HG0 : Hid (∀ W, Below w.heap.size w W → Calls Try.prog 27 #[.slice a l.length c] W fun e w' => ∃ s, e = .returned (.tuple #[.agg #[.int .i64 (getR l).2.1, s], .int .i64 (getR l).2.2.2, .int .i64 (getR l).1]) ∧ Bs w' W.heap.size s (getR l).2.2.1 ∧ Below W.heap.size W w') := fun W hb => get_any a c l W (HO.out.below hb)
  have HGN : Hid ((getR l).1 = 0 → 8 ≤ (getR l).2.2.2 ∧ (getR l).2.2.2 ≤ l.length ∧ (getR l).2.2.1.length ≤ 65536) := fun h => getR_ok h
  obtain ⟨⟨ge, gk, gd, gn⟩, hG⟩ : ∃ G, getR l = G := ⟨_, rfl⟩
  rw [hG] at HG0 HGN hR
  simp only at HG0 HGN hR
  clear hG
  by_cases h2 : ge ≠ 0
  · rw [if_pos h2] at hR
    have HR : Hid (R = (ge, 0, 0, [])) := hR.symm
    have h2' : (ge != 0) = true := by simpa using h2
    clear hR h2 HGN
    go_enter Try.func12, Try.ntmps12
    go_wp2_with fail
    refine (HG0.out _ (below_one _ _)).mono ?_
    rintro x w1 ⟨s1, rfl, hs1, hb1⟩
    obtain ⟨a1, c1, rfl⟩ := hs1.shape
    have S2 : Hid (Bs (w1.alloc (.cells #[.int .i64 gk, .slice a1 gd.length c1] 58)) (w.heap.size + 1) (.slice a1 gd.length c1) gd) := by have h := hs1.below (below_one _ (.cells #[.int .i64 gk, .slice a1 gd.length c1] 58)); exact h.up fun g hg => by have := (hs1.base g hg).1; simpa using this
    have X2 : Hid ((w1.alloc (.cells #[.int .i64 gk, .slice a1 gd.length c1] 58)).heap[w.heap.size]? = some (.cells #[.int .i64 0, .int .i64 0, .slice none 0 0] 25 (0, 0))) := ((nxt hb1 (below_one _ _)).block _ (by simp)).trans (heap_alloc_new _ _)
    have Y2 : Hid ((w1.alloc (.cells #[.int .i64 gk, .slice a1 gd.length c1] 58)).heap[w1.heap.size]? = some (.cells #[.int .i64 gk, .slice a1 gd.length c1] 58 (0, 0))) := heap_alloc_new _ _
    have B2 : Hid (Below w.heap.size w (w1.alloc (.cells #[.int .i64 gk, .slice a1 gd.length c1] 58))) := nxt (nxt (below_one _ _) hb1) (below_one _ _)
    have hsz : w.heap.size < w1.heap.size := Nat.lt_of_lt_of_le (by simp) hb1.size
    clear hs1 hb1
    go_upto_region 4 with fail
    generalize w1.alloc (.cells #[.int .i64 gk, .slice a1 gd.length c1] 58) = w2 at *
    generalize w1.heap.size = gf at *
    obtain ⟨y0, -⟩ := cell_of Y2.out 0
    obtain ⟨y1, -⟩ := cell_of Y2.out 1
    obtain ⟨x0, f0⟩ := cell_of X2.out 0
    obtain ⟨x1, f1⟩ := cell_of X2.out 1
    obtain ⟨x2, f2⟩ := cell_of X2.out 2
    simp at y0 y1 x0 x1 x2
    go_wp2_with fail
    have S3 := boxed3 X2.out (.int .i64 0) (.int .i64 0) (.slice none 0 0)
    have s0 := (cell_of S3 0).1
    have s1 := (cell_of S3 1).1
    have s2 := (cell_of S3 2).1
    simp at s0 s1 s2
    refine bodyPost_ret (v := .tuple #[.agg #[.int .i64 0, .int .i64 0, .slice none 0 0], .int .i64 ge]) (by simp [results, Try.results12, go_sem, s0, s1, s2]) rfl ?_
    exact DecPost.err _ HR.out (Below.box3 B2.out (Nat.le_refl _) _ _ _)
  rw [if_neg h2] at hR
  have h2' : (ge != 0) = false := by simpa using h2
  have hge : ge = 0 := by simpa using h2
  obtain ⟨hn1, hn2, hn3⟩ := HGN.out hge
  subst hge
  clear h2 HGN
  by_cases h3 : gk ≠ 3
  · rw [if_pos h3] at hR
    have HR : Hid (R = (22, 0, 0, [])) := hR.symm
    have h3' : (gk != 3) = true := by simpa using h3
    clear hR h3 hn1 hn2 hn3
    go_enter Try.func12, Try.ntmps12
    go_wp2_with fail
    refine (HG0.out _ (below_one _ _)).mono ?_
    rintro x w1 ⟨s1, rfl, hs1, hb1⟩
    obtain ⟨a1, c1, rfl⟩ := hs1.shape
    have S2 : Hid (Bs (w1.alloc (.cells #[.int .i64 gk, .slice a1 gd.length c1] 58)) (w.heap.size + 1) (.slice a1 gd.length c1) gd) := by have h := hs1.below (below_one _ (.cells #[.int .i64 gk, .slice a1 gd.length c1] 58)); exact h.up fun g hg => by have := (hs1.base g hg).1; simpa using this
    have X2 : Hid ((w1.alloc (.cells #[.int .i64 gk, .slice a1 gd.length c1] 58)).heap[w.heap.size]? = some (.cells #[.int .i64 0, .int .i64 0, .slice none 0 0] 25 (0, 0))) := ((nxt hb1 (below_one _ _)).block _ (by simp)).trans (heap_alloc_new _ _)
    have Y2 : Hid ((w1.alloc (.cells #[.int .i64 gk, .slice a1 gd.length c1] 58)).heap[w1.heap.size]? = some (.cells #[.int .i64 gk, .slice a1 gd.length c1] 58 (0, 0))) := heap_alloc_new _ _
    have B2 : Hid (Below w.heap.size w (w1.alloc (.cells #[.int .i64 gk, .slice a1 gd.length c1] 58))) := nxt (nxt (below_one _ _) hb1) (below_one _ _)
    have hsz : w.heap.size < w1.heap.size := Nat.lt_of_lt_of_le (by simp) hb1.size
    clear hs1 hb1
    go_upto_region 4 with fail
    generalize w1.alloc (.cells #[.int .i64 gk, .slice a1 gd.length c1] 58) = w2 at *
    generalize w1.heap.size = gf at *
    obtain ⟨y0, -⟩ := cell_of Y2.out 0
    obtain ⟨y1, -⟩ := cell_of Y2.out 1
    obtain ⟨x0, f0⟩ := cell_of X2.out 0
    obtain ⟨x1, f1⟩ := cell_of X2.out 1
    obtain ⟨x2, f2⟩ := cell_of X2.out 2
    simp at y0 y1 x0 x1 x2
    go_wp2_with fail
    have S3 := boxed3 X2.out (.int .i64 0) (.int .i64 0) (.slice none 0 0)
    have s0 := (cell_of S3 0).1
    have s1 := (cell_of S3 1).1
    have s2 := (cell_of S3 2).1
    simp at s0 s1 s2
    refine bodyPost_ret (v := .tuple #[.agg #[.int .i64 0, .int .i64 0, .slice none 0 0], .int .i64 22]) (by simp [results, Try.results12, go_sem, s0, s1, s2]) rfl ?_
    exact DecPost.err _ HR.out (Below.box3 B2.out (Nat.le_refl _) _ _ _)
  rw [if_neg h3] at hR
  have h3' : (gk != 3) = false := by simpa using h3
  have HS8 : Hid (gd.length < 16 → inS gd = (8, 0, 0, [])) := fun h => by unfold inS; rw [if_pos h]
  by_cases h4 : gd.length < 16
  · have HR : Hid (R = (8, 0, 0, [])) := by have := hR; rw [HS8.out h4] at this; simp at this; exact this.symm
    have h4' : (gd.length : Int) < 16 := by omega
    clear hR h3 h4 HS8 hn1 hn2 hn3
    go_enter Try.func12, Try.ntmps12
    go_wp2_with fail
    refine (HG0.out _ (below_one _ _)).mono ?_
    rintro x w1 ⟨s1, rfl, hs1, hb1⟩
    obtain ⟨a1, c1, rfl⟩ := hs1.shape
    have S2 : Hid (Bs (w1.alloc (.cells #[.int .i64 gk, .slice a1 gd.length c1] 58)) (w.heap.size + 1) (.slice a1 gd.length c1) gd) := by have h := hs1.below (below_one _ (.cells #[.int .i64 gk, .slice a1 gd.length c1] 58)); exact h.up fun g hg => by have := (hs1.base g hg).1; simpa using this
    have X2 : Hid ((w1.alloc (.cells #[.int .i64 gk, .slice a1 gd.length c1] 58)).heap[w.heap.size]? = some (.cells #[.int .i64 0, .int .i64 0, .slice none 0 0] 25 (0, 0))) := ((nxt hb1 (below_one _ _)).block _ (by simp)).trans (heap_alloc_new _ _)
    have Y2 : Hid ((w1.alloc (.cells #[.int .i64 gk, .slice a1 gd.length c1] 58)).heap[w1.heap.size]? = some (.cells #[.int .i64 gk, .slice a1 gd.length c1] 58 (0, 0))) := heap_alloc_new _ _
    have B2 : Hid (Below w.heap.size w (w1.alloc (.cells #[.int .i64 gk, .slice a1 gd.length c1] 58))) := nxt (nxt (below_one _ _) hb1) (below_one _ _)
    have hsz : w.heap.size < w1.heap.size := Nat.lt_of_lt_of_le (by simp) hb1.size
    clear hs1 hb1
    go_upto_region 4 with fail
    generalize w1.alloc (.cells #[.int .i64 gk, .slice a1 gd.length c1] 58) = w2 at *
    generalize w1.heap.size = gf at *
    obtain ⟨y0, -⟩ := cell_of Y2.out 0
    obtain ⟨y1, -⟩ := cell_of Y2.out 1
    obtain ⟨x0, f0⟩ := cell_of X2.out 0
    obtain ⟨x1, f1⟩ := cell_of X2.out 1
    obtain ⟨x2, f2⟩ := cell_of X2.out 2
    simp at y0 y1 x0 x1 x2
    go_wp2_with fail
    have S3 := boxed3 X2.out (.int .i64 0) (.int .i64 0) (.slice none 0 0)
    have s0 := (cell_of S3 0).1
    have s1 := (cell_of S3 1).1
    have s2 := (cell_of S3 2).1
    simp at s0 s1 s2
    refine bodyPost_ret (v := .tuple #[.agg #[.int .i64 0, .int .i64 0, .slice none 0 0], .int .i64 8]) (by simp [results, Try.results12, go_sem, s0, s1, s2]) rfl ?_
    exact DecPost.err _ HR.out (Below.box3 B2.out (Nat.le_refl _) _ _ _)
  have h4' : ¬ (gd.length : Int) < 16 := by omega
  have hck := chk_in (show 16 ≤ gd.length by omega)
  have HGL : Hid (16 ≤ gd.length ∧ gd.length ≤ 65536) := ⟨by omega, hn3⟩
  have hD : gd.length - 16 = (gd.drop 16).length := by rw [List.length_drop]
  have HSN : Hid (∀ W a1 c1, Oct W a1 c1 gd → Calls Try.prog 28 #[.slice a1 gd.length c1] W fun x w' => ∃ a2 c2, x = .returned (.agg #[.int .i64 (sgn (numO (gd.take 8))), .int .i64 (sgn (numO ((gd.take 16).drop 8))), .slice a2 (gd.drop 16).length c2]) ∧ Oct w' a2 c2 (gd.drop 16) ∧ (∀ ad, a2 = some ad → ∃ ad', a1 = some ad' ∧ ad'.block = ad.block) ∧ Below W.heap.size W w') := by
    intro W a1 c1 h
    have := snapOf_any a1 c1 gd W h (by omega) (by omega)
    rw [hD] at this
    exact this
  have HCK : Hid (∀ W a2 c2, Calls Try.prog 19 #[.agg #[.int .i64 (sgn (numO (gd.take 8))), .int .i64 (sgn (numO ((gd.take 16).drop 8))), .slice a2 (gd.drop 16).length c2]] W fun x w' => x = .returned (.int .i64 (inS gd).1) ∧ Below W.heap.size W w') := by
    intro W a2 c2
    have := check_any (sgn (numO (gd.take 8))) (sgn (numO ((gd.take 16).drop 8))) a2 (gd.drop 16).length c2 W
    rw [← hD, hck, hD] at this
    exact this
  have HIN : Hid ((inS gd).1 = 0 → (inS gd).2 = (sgn (numO (gd.take 8)), sgn (numO ((gd.take 16).drop 8)), gd.drop 16)) := by
    intro h
    obtain ⟨k1, k2, k3, k4, k5⟩ := inS_ok h
    have b1 := numO_bound 8 (gd.take 8) (by rw [List.length_take]; omega)
    have b2 := numO_bound 8 ((gd.take 16).drop 8) (by rw [List.length_drop, List.length_take]; omega)
    rw [k5, sgn_small b1.1 (by omega), sgn_small b2.1 (by omega)]
  generalize sgn (numO (gd.take 8)) = n1 at *
  generalize sgn (numO ((gd.take 16).drop 8)) = n2 at *
  generalize gd.drop 16 = D at *
  obtain ⟨⟨ck, sn⟩, hS⟩ : ∃ S, inS gd = S := ⟨_, rfl⟩
  rw [hS] at HCK HIN hR
  simp only at HCK HIN hR
  clear hS hck hD HS8 h3
  by_cases h5 : ck ≠ 0
  · rw [if_pos h5] at hR
    have HR : Hid (R = (ck, 0, 0, [])) := hR.symm
    have h5' : (ck != 0) = true := by simpa using h5
    clear hR h5 h4 hn1 hn2 hn3
    go_enter Try.func12, Try.ntmps12
    go_wp2_with fail
    refine (HG0.out _ (below_one _ _)).mono ?_
    rintro x w1 ⟨s1, rfl, hs1, hb1⟩
    obtain ⟨a1, c1, rfl⟩ := hs1.shape
    have S2 : Hid (Bs (w1.alloc (.cells #[.int .i64 gk, .slice a1 gd.length c1] 58)) (w.heap.size + 1) (.slice a1 gd.length c1) gd) := by have h := hs1.below (below_one _ (.cells #[.int .i64 gk, .slice a1 gd.length c1] 58)); exact h.up fun g hg => by have := (hs1.base g hg).1; simpa using this
    have X2 : Hid ((w1.alloc (.cells #[.int .i64 gk, .slice a1 gd.length c1] 58)).heap[w.heap.size]? = some (.cells #[.int .i64 0, .int .i64 0, .slice none 0 0] 25 (0, 0))) := ((nxt hb1 (below_one _ _)).block _ (by simp)).trans (heap_alloc_new _ _)
    have Y2 : Hid ((w1.alloc (.cells #[.int .i64 gk, .slice a1 gd.length c1] 58)).heap[w1.heap.size]? = some (.cells #[.int .i64 gk, .slice a1 gd.length c1] 58 (0, 0))) := heap_alloc_new _ _
    have B2 : Hid (Below w.heap.size w (w1.alloc (.cells #[.int .i64 gk, .slice a1 gd.length c1] 58))) := nxt (nxt (below_one _ _) hb1) (below_one _ _)
    have hsz : w.heap.size < w1.heap.size := Nat.lt_of_lt_of_le (by simp) hb1.size
    clear hs1 hb1
    go_upto_region 4 with fail
    generalize w1.alloc (.cells #[.int .i64 gk, .slice a1 gd.length c1] 58) = w2 at *
    generalize w1.heap.size = gf at *
    obtain ⟨y0, -⟩ := cell_of Y2.out 0
    obtain ⟨y1, -⟩ := cell_of Y2.out 1
    obtain ⟨x0, f0⟩ := cell_of X2.out 0
    obtain ⟨x1, f1⟩ := cell_of X2.out 1
    obtain ⟨x2, f2⟩ := cell_of X2.out 2
    simp at y0 y1 x0 x1 x2
    go_wp2_with fail
    refine (HSN.out w2 a1 c1 (S2.out.oct (by have := HGL.out; omega))).mono ?_
    rintro x w3 ⟨a3, c3, rfl, ho3, hbk3, hb3⟩
    have O4 : Hid (Oct (w3.alloc (.cells #[.int .i64 n1, .int .i64 n2, .slice a3 D.length c3] 25)) a3 c3 D) := ho3.below (below_one _ _)
    have K4 : Hid (∀ ad, a3 = some ad → w.heap.size ≤ ad.block) := fun ad h => by
      obtain ⟨ad', e1, e2⟩ := hbk3 ad h
      subst e1
      obtain ⟨g, hg1, hg2⟩ := S2.out.spot (by have := HGL.out; omega)
      cases hg1
      have : g = ad.block := e2
      omega
    have X4 : Hid ((w3.alloc (.cells #[.int .i64 n1, .int .i64 n2, .slice a3 D.length c3] 25)).heap[w.heap.size]? = some (.cells #[.int .i64 0, .int .i64 0, .slice none 0 0] 25 (0, 0))) := ((nxt hb3 (below_one _ _)).block _ (lt_of_block X2.out)).trans X2.out
    have Y4 : Hid ((w3.alloc (.cells #[.int .i64 n1, .int .i64 n2, .slice a3 D.length c3] 25)).heap[w3.heap.size]? = some (.cells #[.int .i64 n1, .int .i64 n2, .slice a3 D.length c3] 25 (0, 0))) := heap_alloc_new _ _
    have B4 : Hid (Below w.heap.size w (w3.alloc (.cells #[.int .i64 n1, .int .i64 n2, .slice a3 D.length c3] 25))) := nxt (nxt B2.out hb3) (below_one _ _)
    have hsz3 : w.heap.size < w3.heap.size := Nat.lt_of_lt_of_le (lt_of_block X2.out) hb3.size
    clear ho3 hbk3 hb3 X2 Y2 B2 S2 x0 x1 x2 f0 f1 f2 y0 y1 HSN
    go_upto_region 11 with fail
    generalize w3.alloc (.cells #[.int .i64 n1, .int .i64 n2, .slice a3 D.length c3] 25) = w4 at *
    generalize w3.heap.size = gs at *
    obtain ⟨y0, -⟩ := cell_of Y4.out 0
    obtain ⟨y1, -⟩ := cell_of Y4.out 1
    obtain ⟨y2, -⟩ := cell_of Y4.out 2
    simp at y0 y1 y2
    go_wp2_with fail
    refine (HCK.out w4 a3 c3).mono ?_
    rintro x w5 ⟨rfl, hb5⟩
    have O5 : Hid (Oct w5 a3 c3 D) := O4.out.below hb5
    have X5 : Hid (w5.heap[w.heap.size]? = some (.cells #[.int .i64 0, .int .i64 0, .slice none 0 0] 25 (0, 0))) := (hb5.block _ (lt_of_block X4.out)).trans X4.out
    have Y5 : Hid (w5.heap[gs]? = some (.cells #[.int .i64 n1, .int .i64 n2, .slice a3 D.length c3] 25 (0, 0))) := (hb5.block _ (lt_of_block Y4.out)).trans Y4.out
    have B5 : Hid (Below w.heap.size w w5) := nxt B4.out hb5
    clear hb5 X4 Y4 B4 O4 y0 y1 y2 HCK
    obtain ⟨y0, -⟩ := cell_of Y5.out 0
    obtain ⟨y1, -⟩ := cell_of Y5.out 1
    obtain ⟨y2, -⟩ := cell_of Y5.out 2
    obtain ⟨x0, f0⟩ := cell_of X5.out 0
    obtain ⟨x1, f1⟩ := cell_of X5.out 1
    obtain ⟨x2, f2⟩ := cell_of X5.out 2
    simp at y0 y1 y2 x0 x1 x2
    go_wp2_with fail
    have S3 := boxed3 X5.out (.int .i64 0) (.int .i64 0) (.slice none 0 0)
    have s0 := (cell_of S3 0).1
    have s1 := (cell_of S3 1).1
    have s2 := (cell_of S3 2).1
    simp at s0 s1 s2
    refine bodyPost_ret (v := .tuple #[.agg #[.int .i64 0, .int .i64 0, .slice none 0 0], .int .i64 ck]) (by simp [results, Try.results12, go_sem, s0, s1, s2]) rfl ?_
    exact DecPost.err _ HR.out (Below.box3 B5.out (Nat.le_refl _) _ _ _)
  rw [if_neg h5] at hR
  have h5' : (ck != 0) = false := by simpa using h5
  have hsn := HIN.out (by simpa using h5)
  rw [hsn] at hR
  obtain ⟨b, off, rfl, -⟩ := layB_get ho.1 (show 0 < l.length by have := HL.out; omega)
  have HBL : Hid (∀ W a' c', LayB W a' (l.drop gn) → Calls Try.prog 29 #[.slice a' (l.length - gn) c'] W fun e w' => e = .returned (.bool (decide (allZ (l.drop gn)))) ∧ w' = W) := by
    intro W a' c' h
    have := blank_any a' c' (l.drop gn) W h (by rw [List.length_drop]; have := HL.out; omega)
    rw [List.length_drop] at this
    exact this
  have HB0 : Hid (∀ W a' c', Calls Try.prog 29 #[.slice a' 0 c'] W fun e w' => e = .returned (.bool true) ∧ w' = W) := fun W a' c' => blank_any a' c' [] W (fun i o h => by simp at h) (by simp)
  have hck0 : ck = 0 := by simpa using h5
  subst hck0
  have hcl : l.length ≤ c := ho.2.1
  have hc63 : c ≤ 9223372036854775807 := ho.2.2.1
  have hgi : (gn : Int) ≤ l.length := by omega
  clear hsn HIN h5 h4 ho
  have hgl : l.length ≤ 8160 := by have := HL.out; omega
  by_cases hz : allZ (l.drop gn)
  · rw [if_neg (by simpa using hz)] at hR
    have HR : Hid (R = (0, n1, n2, D)) := hR.symm
    have hzb : decide (allZ (l.drop gn)) = true := by simpa using hz
    rw [hzb] at HBL
    clear hR hz hzb
    by_cases hcg : c = gn
    · subst hcg
      go_enter Try.func12, Try.ntmps12
      go_wp2_with fail
      refine (HG0.out _ (below_one _ _)).mono ?_
      rintro x w1 ⟨s1, rfl, hs1, hb1⟩
      obtain ⟨a1, c1, rfl⟩ := hs1.shape
      have S2 : Hid (Bs (w1.alloc (.cells #[.int .i64 gk, .slice a1 gd.length c1] 58)) (w.heap.size + 1) (.slice a1 gd.length c1) gd) := by have h := hs1.below (below_one _ (.cells #[.int .i64 gk, .slice a1 gd.length c1] 58)); exact h.up fun g hg => by have := (hs1.base g hg).1; simpa using this
      have X2 : Hid ((w1.alloc (.cells #[.int .i64 gk, .slice a1 gd.length c1] 58)).heap[w.heap.size]? = some (.cells #[.int .i64 0, .int .i64 0, .slice none 0 0] 25 (0, 0))) := ((nxt hb1 (below_one _ _)).block _ (by simp)).trans (heap_alloc_new _ _)
      have Y2 : Hid ((w1.alloc (.cells #[.int .i64 gk, .slice a1 gd.length c1] 58)).heap[w1.heap.size]? = some (.cells #[.int .i64 gk, .slice a1 gd.length c1] 58 (0, 0))) := heap_alloc_new _ _
      have B2 : Hid (Below w.heap.size w (w1.alloc (.cells #[.int .i64 gk, .slice a1 gd.length c1] 58))) := nxt (nxt (below_one _ _) hb1) (below_one _ _)
      have hsz : w.heap.size < w1.heap.size := Nat.lt_of_lt_of_le (by simp) hb1.size
      clear hs1 hb1
      go_upto_region 4 with fail
      generalize w1.alloc (.cells #[.int .i64 gk, .slice a1 gd.length c1] 58) = w2 at *
      generalize w1.heap.size = gf at *
      obtain ⟨y0, -⟩ := cell_of Y2.out 0
      obtain ⟨y1, -⟩ := cell_of Y2.out 1
      obtain ⟨x0, f0⟩ := cell_of X2.out 0
      obtain ⟨x1, f1⟩ := cell_of X2.out 1
      obtain ⟨x2, f2⟩ := cell_of X2.out 2
      simp at y0 y1 x0 x1 x2
      go_wp2_with fail
      refine (HSN.out w2 a1 c1 (S2.out.oct (by have := HGL.out; omega))).mono ?_
      rintro x w3 ⟨a3, c3, rfl, ho3, hbk3, hb3⟩
      have O4 : Hid (Oct (w3.alloc (.cells #[.int .i64 n1, .int .i64 n2, .slice a3 D.length c3] 25)) a3 c3 D) := ho3.below (below_one _ _)
      have K4 : Hid (∀ ad, a3 = some ad → w.heap.size ≤ ad.block) := fun ad h => by
        obtain ⟨ad', e1, e2⟩ := hbk3 ad h
        subst e1
        obtain ⟨g, hg1, hg2⟩ := S2.out.spot (by have := HGL.out; omega)
        cases hg1
        have : g = ad.block := e2
        omega
      have X4 : Hid ((w3.alloc (.cells #[.int .i64 n1, .int .i64 n2, .slice a3 D.length c3] 25)).heap[w.heap.size]? = some (.cells #[.int .i64 0, .int .i64 0, .slice none 0 0] 25 (0, 0))) := ((nxt hb3 (below_one _ _)).block _ (lt_of_block X2.out)).trans X2.out
      have Y4 : Hid ((w3.alloc (.cells #[.int .i64 n1, .int .i64 n2, .slice a3 D.length c3] 25)).heap[w3.heap.size]? = some (.cells #[.int .i64 n1, .int .i64 n2, .slice a3 D.length c3] 25 (0, 0))) := heap_alloc_new _ _
      have B4 : Hid (Below w.heap.size w (w3.alloc (.cells #[.int .i64 n1, .int .i64 n2, .slice a3 D.length c3] 25))) := nxt (nxt B2.out hb3) (below_one _ _)
      have hsz3 : w.heap.size < w3.heap.size := Nat.lt_of_lt_of_le (lt_of_block X2.out) hb3.size
      clear ho3 hbk3 hb3 X2 Y2 B2 S2 x0 x1 x2 f0 f1 f2 y0 y1 HSN
      go_upto_region 11 with fail
      generalize w3.alloc (.cells #[.int .i64 n1, .int .i64 n2, .slice a3 D.length c3] 25) = w4 at *
      generalize w3.heap.size = gs at *
      obtain ⟨y0, -⟩ := cell_of Y4.out 0
      obtain ⟨y1, -⟩ := cell_of Y4.out 1
      obtain ⟨y2, -⟩ := cell_of Y4.out 2
      simp at y0 y1 y2
      go_wp2_with fail
      refine (HCK.out w4 a3 c3).mono ?_
      rintro x w5 ⟨rfl, hb5⟩
      have O5 : Hid (Oct w5 a3 c3 D) := O4.out.below hb5
      have X5 : Hid (w5.heap[w.heap.size]? = some (.cells #[.int .i64 0, .int .i64 0, .slice none 0 0] 25 (0, 0))) := (hb5.block _ (lt_of_block X4.out)).trans X4.out
      have Y5 : Hid (w5.heap[gs]? = some (.cells #[.int .i64 n1, .int .i64 n2, .slice a3 D.length c3] 25 (0, 0))) := (hb5.block _ (lt_of_block Y4.out)).trans Y4.out
      have B5 : Hid (Below w.heap.size w w5) := nxt B4.out hb5
      clear hb5 X4 Y4 B4 O4 y0 y1 y2 HCK
      obtain ⟨y0, -⟩ := cell_of Y5.out 0
      obtain ⟨y1, -⟩ := cell_of Y5.out 1
      obtain ⟨y2, -⟩ := cell_of Y5.out 2
      obtain ⟨x0, f0⟩ := cell_of X5.out 0
      obtain ⟨x1, f1⟩ := cell_of X5.out 1
      obtain ⟨x2, f2⟩ := cell_of X5.out 2
      simp at y0 y1 y2 x0 x1 x2
      go_wp2_with fail
      refine (HB0.out w5 _ _).mono ?_
      rintro x w6 ⟨rfl, hw6⟩
      subst w6
      go_wp2_with fail
      have S3 := boxed3 X5.out (.int .i64 n1) (.int .i64 n2) (.slice a3 D.length c3)
      have s0 := (cell_of S3 0).1
      have s1 := (cell_of S3 1).1
      have s2 := (cell_of S3 2).1
      simp at s0 s1 s2
      refine bodyPost_ret (v := .tuple #[.agg #[.int .i64 n1, .int .i64 n2, .slice a3 D.length c3], .int .i64 0]) (by simp [results, Try.results12, go_sem, s0, s1, s2]) rfl ?_
      have hBB := Below.box3 B5.out (Nat.le_refl _) (.int .i64 n1) (.int .i64 n2) (.slice a3 D.length c3)
      rw [HR.out]
      refine ⟨a3, c3, rfl, ⟨fun i o hi => ?_, O5.out.2⟩, K4.out, hBB⟩
      obtain ⟨b', off', e', hc⟩ := O5.out.1 i o hi
      subst e'
      refine ⟨b', off', rfl, ?_⟩
      have hne : b' ≠ w.heap.size := by
        intro e
        subst e
        have h := hc
        simp only [World.cell?, X5.out] at h
        simp at h
        have h' := List.mem_of_getElem? h
        simp at h'
      simp only [World.cell?] at hc ⊢
      rw [Below.heap_setCell _ _ _ _ (by show b' ≠ w.heap.size; exact hne), Below.heap_setCell _ _ _ _ (by show b' ≠ w.heap.size; exact hne), Below.heap_setCell _ _ _ _ (by show b' ≠ w.heap.size; exact hne)]
      exact hc
    · have hcg' : ¬ gn = c := fun e => hcg e.symm
      go_enter Try.func12, Try.ntmps12
      go_wp2_with fail
      refine (HG0.out _ (below_one _ _)).mono ?_
      rintro x w1 ⟨s1, rfl, hs1, hb1⟩
      obtain ⟨a1, c1, rfl⟩ := hs1.shape
      have S2 : Hid (Bs (w1.alloc (.cells #[.int .i64 gk, .slice a1 gd.length c1] 58)) (w.heap.size + 1) (.slice a1 gd.length c1) gd) := by have h := hs1.below (below_one _ (.cells #[.int .i64 gk, .slice a1 gd.length c1] 58)); exact h.up fun g hg => by have := (hs1.base g hg).1; simpa using this
      have X2 : Hid ((w1.alloc (.cells #[.int .i64 gk, .slice a1 gd.length c1] 58)).heap[w.heap.size]? = some (.cells #[.int .i64 0, .int .i64 0, .slice none 0 0] 25 (0, 0))) := ((nxt hb1 (below_one _ _)).block _ (by simp)).trans (heap_alloc_new _ _)
      have Y2 : Hid ((w1.alloc (.cells #[.int .i64 gk, .slice a1 gd.length c1] 58)).heap[w1.heap.size]? = some (.cells #[.int .i64 gk, .slice a1 gd.length c1] 58 (0, 0))) := heap_alloc_new _ _
      have B2 : Hid (Below w.heap.size w (w1.alloc (.cells #[.int .i64 gk, .slice a1 gd.length c1] 58))) := nxt (nxt (below_one _ _) hb1) (below_one _ _)
      have hsz : w.heap.size < w1.heap.size := Nat.lt_of_lt_of_le (by simp) hb1.size
      clear hs1 hb1
      go_upto_region 4 with fail
      generalize w1.alloc (.cells #[.int .i64 gk, .slice a1 gd.length c1] 58) = w2 at *
      generalize w1.heap.size = gf at *
      obtain ⟨y0, -⟩ := cell_of Y2.out 0
      obtain ⟨y1, -⟩ := cell_of Y2.out 1
      obtain ⟨x0, f0⟩ := cell_of X2.out 0
      obtain ⟨x1, f1⟩ := cell_of X2.out 1
      obtain ⟨x2, f2⟩ := cell_of X2.out 2
      simp at y0 y1 x0 x1 x2
      go_wp2_with fail
      refine (HSN.out w2 a1 c1 (S2.out.oct (by have := HGL.out; omega))).mono ?_
      rintro x w3 ⟨a3, c3, rfl, ho3, hbk3, hb3⟩
      have O4 : Hid (Oct (w3.alloc (.cells #[.int .i64 n1, .int .i64 n2, .slice a3 D.length c3] 25)) a3 c3 D) := ho3.below (below_one _ _)
      have K4 : Hid (∀ ad, a3 = some ad → w.heap.size ≤ ad.block) := fun ad h => by
        obtain ⟨ad', e1, e2⟩ := hbk3 ad h
        subst e1
        obtain ⟨g, hg1, hg2⟩ := S2.out.spot (by have := HGL.out; omega)
        cases hg1
        have : g = ad.block := e2
        omega
      have X4 : Hid ((w3.alloc (.cells #[.int .i64 n1, .int .i64 n2, .slice a3 D.length c3] 25)).heap[w.heap.size]? = some (.cells #[.int .i64 0, .int .i64 0, .slice none 0 0] 25 (0, 0))) := ((nxt hb3 (below_one _ _)).block _ (lt_of_block X2.out)).trans X2.out
      have Y4 : Hid ((w3.alloc (.cells #[.int .i64 n1, .int .i64 n2, .slice a3 D.length c3] 25)).heap[w3.heap.size]? = some (.cells #[.int .i64 n1, .int .i64 n2, .slice a3 D.length c3] 25 (0, 0))) := heap_alloc_new _ _
      have B4 : Hid (Below w.heap.size w (w3.alloc (.cells #[.int .i64 n1, .int .i64 n2, .slice a3 D.length c3] 25))) := nxt (nxt B2.out hb3) (below_one _ _)
      have hsz3 : w.heap.size < w3.heap.size := Nat.lt_of_lt_of_le (lt_of_block X2.out) hb3.size
      clear ho3 hbk3 hb3 X2 Y2 B2 S2 x0 x1 x2 f0 f1 f2 y0 y1 HSN
      go_upto_region 11 with fail
      generalize w3.alloc (.cells #[.int .i64 n1, .int .i64 n2, .slice a3 D.length c3] 25) = w4 at *
      generalize w3.heap.size = gs at *
      obtain ⟨y0, -⟩ := cell_of Y4.out 0
      obtain ⟨y1, -⟩ := cell_of Y4.out 1
      obtain ⟨y2, -⟩ := cell_of Y4.out 2
      simp at y0 y1 y2
      go_wp2_with fail
      refine (HCK.out w4 a3 c3).mono ?_
      rintro x w5 ⟨rfl, hb5⟩
      have O5 : Hid (Oct w5 a3 c3 D) := O4.out.below hb5
      have X5 : Hid (w5.heap[w.heap.size]? = some (.cells #[.int .i64 0, .int .i64 0, .slice none 0 0] 25 (0, 0))) := (hb5.block _ (lt_of_block X4.out)).trans X4.out
      have Y5 : Hid (w5.heap[gs]? = some (.cells #[.int .i64 n1, .int .i64 n2, .slice a3 D.length c3] 25 (0, 0))) := (hb5.block _ (lt_of_block Y4.out)).trans Y4.out
      have B5 : Hid (Below w.heap.size w w5) := nxt B4.out hb5
      clear hb5 X4 Y4 B4 O4 y0 y1 y2 HCK
      obtain ⟨y0, -⟩ := cell_of Y5.out 0
      obtain ⟨y1, -⟩ := cell_of Y5.out 1
      obtain ⟨y2, -⟩ := cell_of Y5.out 2
      obtain ⟨x0, f0⟩ := cell_of X5.out 0
      obtain ⟨x1, f1⟩ := cell_of X5.out 1
      obtain ⟨x2, f2⟩ := cell_of X5.out 2
      simp at y0 y1 y2 x0 x1 x2
      go_wp2_with fail
      refine (HBL.out w5 _ _ (by have := (Oct.part (HO.out.below B5.out) gn l.length (by omega) (Nat.le_refl _)).1; rw [List.take_length] at this; exact this)).mono ?_
      rintro x w6 ⟨rfl, hw6⟩
      subst w6
      go_wp2_with fail
      have S3 := boxed3 X5.out (.int .i64 n1) (.int .i64 n2) (.slice a3 D.length c3)
      have s0 := (cell_of S3 0).1
      have s1 := (cell_of S3 1).1
      have s2 := (cell_of S3 2).1
      simp at s0 s1 s2
      refine bodyPost_ret (v := .tuple #[.agg #[.int .i64 n1, .int .i64 n2, .slice a3 D.length c3], .int .i64 0]) (by simp [results, Try.results12, go_sem, s0, s1, s2]) rfl ?_
      have hBB := Below.box3 B5.out (Nat.le_refl _) (.int .i64 n1) (.int .i64 n2) (.slice a3 D.length c3)
      rw [HR.out]
      refine ⟨a3, c3, rfl, ⟨fun i o hi => ?_, O5.out.2⟩, K4.out, hBB⟩
      obtain ⟨b', off', e', hc⟩ := O5.out.1 i o hi
      subst e'
      refine ⟨b', off', rfl, ?_⟩
      have hne : b' ≠ w.heap.size := by
        intro e
        subst e
        have h := hc
        simp only [World.cell?, X5.out] at h
        simp at h
        have h' := List.mem_of_getElem? h
        simp at h'
      simp only [World.cell?] at hc ⊢
      rw [Below.heap_setCell _ _ _ _ (by show b' ≠ w.heap.size; exact hne), Below.heap_setCell _ _ _ _ (by show b' ≠ w.heap.size; exact hne), Below.heap_setCell _ _ _ _ (by show b' ≠ w.heap.size; exact hne)]
      exact hc
  · rw [if_pos (by simpa using hz)] at hR
    have HR : Hid (R = (23, 0, 0, [])) := hR.symm
    have hzb : decide (allZ (l.drop gn)) = false := by simpa using hz
    have HNG : Hid (¬ gn = c) := fun e => hz (by have e' : l.drop gn = [] := List.drop_eq_nil_of_le (by omega); rw [e']; intro o h; simp at h)
    rw [hzb] at HBL
    clear hR hz hzb
    have hcg' : ¬ gn = c := HNG.out
    go_enter Try.func12, Try.ntmps12
    go_wp2_with fail
    refine (HG0.out _ (below_one _ _)).mono ?_
    rintro x w1 ⟨s1, rfl, hs1, hb1⟩
    obtain ⟨a1, c1, rfl⟩ := hs1.shape
    have S2 : Hid (Bs (w1.alloc (.cells #[.int .i64 gk, .slice a1 gd.length c1] 58)) (w.heap.size + 1) (.slice a1 gd.length c1) gd) := by have h := hs1.below (below_one _ (.cells #[.int .i64 gk, .slice a1 gd.length c1] 58)); exact h.up fun g hg => by have := (hs1.base g hg).1; simpa using this
    have X2 : Hid ((w1.alloc (.cells #[.int .i64 gk, .slice a1 gd.length c1] 58)).heap[w.heap.size]? = some (.cells #[.int .i64 0, .int .i64 0, .slice none 0 0] 25 (0, 0))) := ((nxt hb1 (below_one _ _)).block _ (by simp)).trans (heap_alloc_new _ _)
    have Y2 : Hid ((w1.alloc (.cells #[.int .i64 gk, .slice a1 gd.length c1] 58)).heap[w1.heap.size]? = some (.cells #[.int .i64 gk, .slice a1 gd.length c1] 58 (0, 0))) := heap_alloc_new _ _
    have B2 : Hid (Below w.heap.size w (w1.alloc (.cells #[.int .i64 gk, .slice a1 gd.length c1] 58))) := nxt (nxt (below_one _ _) hb1) (below_one _ _)
    have hsz : w.heap.size < w1.heap.size := Nat.lt_of_lt_of_le (by simp) hb1.size
    clear hs1 hb1
    go_upto_region 4 with fail
    generalize w1.alloc (.cells #[.int .i64 gk, .slice a1 gd.length c1] 58) = w2 at *
    generalize w1.heap.size = gf at *
    obtain ⟨y0, -⟩ := cell_of Y2.out 0
    obtain ⟨y1, -⟩ := cell_of Y2.out 1
    obtain ⟨x0, f0⟩ := cell_of X2.out 0
    obtain ⟨x1, f1⟩ := cell_of X2.out 1
    obtain ⟨x2, f2⟩ := cell_of X2.out 2
    simp at y0 y1 x0 x1 x2
    go_wp2_with fail
    refine (HSN.out w2 a1 c1 (S2.out.oct (by have := HGL.out; omega))).mono ?_
    rintro x w3 ⟨a3, c3, rfl, ho3, hbk3, hb3⟩
    have O4 : Hid (Oct (w3.alloc (.cells #[.int .i64 n1, .int .i64 n2, .slice a3 D.length c3] 25)) a3 c3 D) := ho3.below (below_one _ _)
    have K4 : Hid (∀ ad, a3 = some ad → w.heap.size ≤ ad.block) := fun ad h => by
      obtain ⟨ad', e1, e2⟩ := hbk3 ad h
      subst e1
      obtain ⟨g, hg1, hg2⟩ := S2.out.spot (by have := HGL.out; omega)
      cases hg1
      have : g = ad.block := e2
      omega
    have X4 : Hid ((w3.alloc (.cells #[.int .i64 n1, .int .i64 n2, .slice a3 D.length c3] 25)).heap[w.heap.size]? = some (.cells #[.int .i64 0, .int .i64 0, .slice none 0 0] 25 (0, 0))) := ((nxt hb3 (below_one _ _)).block _ (lt_of_block X2.out)).trans X2.out
    have Y4 : Hid ((w3.alloc (.cells #[.int .i64 n1, .int .i64 n2, .slice a3 D.length c3] 25)).heap[w3.heap.size]? = some (.cells #[.int .i64 n1, .int .i64 n2, .slice a3 D.length c3] 25 (0, 0))) := heap_alloc_new _ _
    have B4 : Hid (Below w.heap.size w (w3.alloc (.cells #[.int .i64 n1, .int .i64 n2, .slice a3 D.length c3] 25))) := nxt (nxt B2.out hb3) (below_one _ _)
    have hsz3 : w.heap.size < w3.heap.size := Nat.lt_of_lt_of_le (lt_of_block X2.out) hb3.size
    clear ho3 hbk3 hb3 X2 Y2 B2 S2 x0 x1 x2 f0 f1 f2 y0 y1 HSN
    go_upto_region 11 with fail
    generalize w3.alloc (.cells #[.int .i64 n1, .int .i64 n2, .slice a3 D.length c3] 25) = w4 at *
    generalize w3.heap.size = gs at *
    obtain ⟨y0, -⟩ := cell_of Y4.out 0
    obtain ⟨y1, -⟩ := cell_of Y4.out 1
    obtain ⟨y2, -⟩ := cell_of Y4.out 2
    simp at y0 y1 y2
    go_wp2_with fail
    refine (HCK.out w4 a3 c3).mono ?_
    rintro x w5 ⟨rfl, hb5⟩
    have O5 : Hid (Oct w5 a3 c3 D) := O4.out.below hb5
    have X5 : Hid (w5.heap[w.heap.size]? = some (.cells #[.int .i64 0, .int .i64 0, .slice none 0 0] 25 (0, 0))) := (hb5.block _ (lt_of_block X4.out)).trans X4.out
    have Y5 : Hid (w5.heap[gs]? = some (.cells #[.int .i64 n1, .int .i64 n2, .slice a3 D.length c3] 25 (0, 0))) := (hb5.block _ (lt_of_block Y4.out)).trans Y4.out
    have B5 : Hid (Below w.heap.size w w5) := nxt B4.out hb5
    clear hb5 X4 Y4 B4 O4 y0 y1 y2 HCK
    obtain ⟨y0, -⟩ := cell_of Y5.out 0
    obtain ⟨y1, -⟩ := cell_of Y5.out 1
    obtain ⟨y2, -⟩ := cell_of Y5.out 2
    obtain ⟨x0, f0⟩ := cell_of X5.out 0
    obtain ⟨x1, f1⟩ := cell_of X5.out 1
    obtain ⟨x2, f2⟩ := cell_of X5.out 2
    simp at y0 y1 y2 x0 x1 x2
    go_wp2_with fail
    refine (HBL.out w5 _ _ (by have := (Oct.part (HO.out.below B5.out) gn l.length (by omega) (Nat.le_refl _)).1; rw [List.take_length] at this; exact this)).mono ?_
    rintro x w6 ⟨rfl, hw6⟩
    subst w6
    go_wp2_with fail
    have S3 := boxed3 X5.out (.int .i64 0) (.int .i64 0) (.slice none 0 0)
    have s0 := (cell_of S3 0).1
    have s1 := (cell_of S3 1).1
    have s2 := (cell_of S3 2).1
    simp at s0 s1 s2
    refine bodyPost_ret (v := .tuple #[.agg #[.int .i64 0, .int .i64 0, .slice none 0 0], .int .i64 23]) (by simp [results, Try.results12, go_sem, s0, s1, s2]) rfl ?_
    exact DecPost.err _ HR.out (Below.box3 B5.out (Nat.le_refl _) _ _ _)
end Go.Proofs.Ytocodkoanjcmkac
