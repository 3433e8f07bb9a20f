/-
  The page's Encode, Decode, Newest.
-/
import Derived.Test.YtocodkoanjcmkacSnLaw
import Derived.Test.YtocodkoanjcmkacSeRfP
import Derived.Test.YtocodkoanjcmkacSeRfG
import Derived.Test.YtocodkoanjcmkacOcZero
namespace Go.Proofs.Ytocodkoanjcmkac
open Go.ChangeShapes Go.WideShapes Go.ChangeAt Go.RowKit Go.Deep
open Se

set_option maxRecDepth 100000 in
set_option maxHeartbeats 1600000 in
theorem rencode_any (e q : Int) (a : Option Addr) (c : Nat) (d : List UInt8) (w : World) (ho : Oct w a c d) :
    Calls Try.prog 11 #[.agg #[.int .i64 e, .int .i64 q, .slice a d.length c]] w fun x w' => ∃ s, x = .returned (.tuple #[s, .int .i64 (encR e q d).1]) ∧ Bs w' w.heap.size s (encR e q d).2 ∧ Below w.heap.size w w' := by
  have HO : Hid (Oct w a c d) := ho
  clear ho
  have X0 : Hid ((w.alloc (.cells #[.int .i64 e, .int .i64 q, .slice a d.length c] 24)).heap[w.heap.size]? = some (.cells #[.int .i64 e, .int .i64 q, .slice a d.length c] 24 (0, 0))) := heap_alloc_new _ _
  have B0 : Hid (Below w.heap.size w (w.alloc (.cells #[.int .i64 e, .int .i64 q, .slice a d.length c] 24))) := below_one _ _
  have HCK : Hid (∀ W, Calls Try.prog 20 #[.agg #[.int .i64 e, .int .i64 q, .slice a d.length c]] W fun x w' => x = .returned (.int .i64 (chkS e q d.length)) ∧ Below W.heap.size W w') := fun W => rcheck_any e q a d.length c W
  by_cases hck : chkS e q d.length = 0
  · rw [enc_ok hck]
    obtain ⟨h1, h2, h3⟩ := chk_ok hck
    rw [hck] at HCK
    clear hck
    go_enter Try.func11, Try.ntmps11
    go_wp2_with fail
    refine (HCK.out _).mono ?_
    rintro x w1 ⟨rfl, hb1⟩
    have X1 : Hid (w1.heap[w.heap.size]? = some (.cells #[.int .i64 e, .int .i64 q, .slice a d.length c] 24 (0, 0))) := (hb1.block _ (lt_of_block X0.out)).trans X0.out
    have B1 : Hid (Below w.heap.size w w1) := nxt B0.out hb1
    clear hb1 X0 B0 HCK
    have hw1 : IntKind.u64.wrap e = e := by rw [IntKind.wrap_u64]; omega
    have hw2 : IntKind.u64.wrap q = q := by rw [IntKind.wrap_u64]; omega
    have HOC : Hid (∀ W b, 0 ≤ b → Calls Try.prog 25 #[.int .u64 b, .int .i64 8] W fun e w' => ∃ s, e = .returned s ∧ Bs w' W.heap.size s (octs b) ∧ Below W.heap.size W w') := fun W b h => roct8_any b W h
    have HL1 : Hid ((octs e).length = 8 ∧ (octs q).length = 8) := ⟨octs_length e, octs_length q⟩
    have HIN : Hid (octs e ++ octs q ++ d = inner e q d) := by show _ = _; rw [inner, List.append_assoc]
    have HPT : Hid (putR 3 (inner e q d) = (0, sfr e q d)) := put_sfr h3
    have HSL : Hid ((sfr e q d).length = 24 + d.length) := sfr_length e q d
    have HSO : Hid (sfr e q d ++ List.replicate (8136 - d.length) 0 = slotO e q d) := rfl
    have HIL : Hid ((inner e q d).length = 16 + d.length) := inner_length e q d
    generalize sfr e q d = FR at *
    obtain ⟨x0, -⟩ := cell_of X1.out 0
    obtain ⟨x1, -⟩ := cell_of X1.out 1
    simp at x0 x1
    have x0' : w1.drew.cell? ⟨w.heap.size, 0, none⟩ = some (.int .i64 e) := x0
    have x1' : w1.drew.cell? ⟨w.heap.size, 1, none⟩ = some (.int .i64 q) := x1
    have HE0 : Hid (0 ≤ e ∧ 0 ≤ q) := ⟨h1.1, h2.1⟩
    go_wp2_with fail
    go_region_held3 (fun w' => w'.cell? ⟨w.heap.size, 0, none⟩ = some (.int .i64 e) ∧ w'.cell? ⟨w.heap.size, 1, none⟩ = some (.int .i64 q)) (go_keep) (first
      | (go_at_call_of 25 (Value.int .u64 e); refine (HOC.out w1.drew e HE0.out.1).mono ?_; rintro x w2 ⟨s2, rfl, hs2, hb2⟩; have y0 := keepc hb2 _ _ x0'; have y1 := keepc hb2 _ _ x1'; obtain ⟨a2, c2, rfl⟩ := hs2.shape)
      | (go_at_call_of 25 (Value.int .u64 q); refine (HOC.out w2 q HE0.out.2).mono ?_; rintro x w3 ⟨s3, rfl, hs3, hb3⟩; have z0 := keepc hb3 _ _ y0; have z1 := keepc hb3 _ _ y1; obtain ⟨a3, c3, rfl⟩ := hs3.shape; obtain ⟨g3, rfl, hg3⟩ := hs3.spot (by have := HL1.out.2; omega))
      | (refine step_app rfl _ _ rfl w1.heap.size (.slice a2 (octs e).length c2) (octs e) (octs q) rfl (hs2.below hb3) ⟨g3, 0, none⟩ c3 rfl (fun j u hj => by rw [add_plain, Nat.zero_add]; exact (hs3.cell hj).1) (by have := HL1.out; omega) (by have := hb2.size; have := hb3.size; have e : w1.drew.heap.size = w1.heap.size := rfl; omega) ?_; intro s4 w4 hs4 hr4
         have X3' : w3.heap[w.heap.size]? = some (.cells #[.int .i64 e, .int .i64 q, .slice a d.length c] 24 (0, 0)) := ((nxt hb2 hb3).block _ (show w.heap.size < w1.heap.size from lt_of_block X1.out)).trans X1.out
         have X4 : w4.heap[w.heap.size]? = some (.cells #[.int .i64 e, .int .i64 q, .slice a d.length c] 24 (0, 0)) := (hr4.block (lt_of_block X3') (fun h => by have h1 := (hs2.base _ h).1; have h2 := lt_of_block X1.out; have e : w1.drew.heap.size = w1.heap.size := rfl; omega)).trans X3'
         have u0 := (cell_of X4 0).1
         have u1 := (cell_of X4 1).1
         simp at u0 u1))
    have B4 : Hid (Below w.heap.size w w4) := by
      have h0 := lt_of_block X1.out
      have e : w1.drew.heap.size = w1.heap.size := rfl
      have hb13 : Below w1.drew.heap.size w1.drew w3 := nxt hb2 hb3
      have h1 : Below w1.heap.size w1 w4 := ((Below.refl _ w1).drew.trans hb13).trans (hr4.below (by have := hb13.size; omega) fun g hg => (hs2.base g hg).1)
      exact nxt B1.out h1
    have S4 : Hid (Bs w4 w1.heap.size s4 (octs e ++ octs q)) := hs4
    have X4h : Hid (w4.heap[w.heap.size]? = some (.cells #[.int .i64 e, .int .i64 q, .slice a d.length c] 24 (0, 0))) := X4
    have hw14 : w.heap.size < w1.heap.size := lt_of_block X1.out
    have hw44 : w1.heap.size ≤ w4.heap.size := by have h1 := hb2.size; have h2 := hb3.size; have h3 := hr4.grown.size; have e : w1.drew.heap.size = w1.heap.size := rfl; omega
    clear hs2 hb2 hs3 hb3 hs4 hr4 X3' X4 X1 B1 x0 x1 x0' x1' y0 y1 z0 z1 u0 u1 HOC hg3
    have HL4 : Hid ((octs e ++ octs q).length = 16) := by show _ = _; rw [List.length_append, HL1.out.1, HL1.out.2]
    generalize octs e ++ octs q = H at *
    obtain ⟨a4, c4, rfl⟩ := S4.out.shape
    obtain ⟨x2, -⟩ := cell_of X4h.out 2
    simp at x2
    go_wp2_with (at_builtin; refine wpList_appO _ rfl _ _ rfl w1.heap.size _ H d rfl S4.out a c rfl (HO.out.below B4.out) ?d0 ?d1 ?_)
    case d0 => have := HL4.out; omega
    case d1 => omega
    intro s5 w5 hs5 hr5
    rw [HIN.out] at hs5
    obtain ⟨a5, c5, rfl⟩ := hs5.shape
    have O5 : Hid (Oct w5 a5 c5 (inner e q d)) := hs5.oct (by have := HIL.out; omega)
    have B5 : Hid (Below w.heap.size w w5) := B4.out.trans ((hr5.below hw44 fun g hg => (S4.out.base g hg).1).mono (by omega))
    have HC : Hid (Calls Try.prog 26 #[.agg #[.int .i64 3, .slice a5 (inner e q d).length c5]] w5 fun x w' => ∃ s, x = .returned (.tuple #[s, .int .i64 0]) ∧ Bs w' w5.heap.size s FR ∧ Below w5.heap.size w5 w') := by
      have := rput_any 3 a5 c5 (inner e q d) w5 O5.out
      rw [HPT.out] at this
      exact this
    clear hs5 hr5 S4 B4 X4h x2
    generalize (inner e q d).length = l5 at *
    go_wp2_with fail
    refine HC.out.mono ?_
    rintro x w6 ⟨s6, rfl, hs6, hb6⟩
    obtain ⟨a6, c6, rfl⟩ := hs6.shape
    have S6 : Hid (Bs w6 w.heap.size (.slice a6 FR.length c6) FR) := hs6.up fun g hg => by have h1 := (hs6.base g hg).1; have h2 := B5.out.size; omega
    have B6 : Hid (Below w.heap.size w w6) := nxt B5.out hb6
    have hfl : (8160 : Int) - (FR.length : Int) = ((8136 - d.length : Nat) : Int) := by have := HSL.out; omega
    have HFL : Hid ((8160 : Int) - (FR.length : Int) = ((8136 - d.length : Nat) : Int)) := hfl
    have hfb : FR.length ≤ 8160 := by have := HSL.out; omega
    clear hs6 hb6 O5 B5 HC hfl
    go_wp2_with (at_builtin; refine wpList_zeros _ rfl _ _ rfl w.heap.size _ FR rfl S6.out _ (8136 - d.length) rfl ?e0 ?e1 ?e2 ?e3 ?_)
    case e0 => exact HFL.out
    case e1 => omega
    case e2 => omega
    case e3 => exact B6.out.size
    intro s7 w7 hs7 hr7
    rw [HSO.out] at hs7
    have S7 : Hid (Bs w7 w.heap.size s7 (slotO e q d)) := hs7
    have B7 : Hid (Below w.heap.size w w7) := B6.out.trans (hr7.below B6.out.size fun g hg => (S6.out.base g hg).1)
    clear hs7 hr7 S6 B6
    go_wp2_with fail
    exact bodyPost_ret (v := .tuple #[s7, .int .i64 0]) (by simp [results, Try.results11, go_sem]) rfl ⟨_, rfl, S7.out, B7.out⟩
  · rw [enc_bad hck]
    have hne : (chkS e q d.length == 0) = false := by simpa using hck
    have hne' : (chkS e q d.length != 0) = true := by simpa using hck
    clear hck
    generalize chkS e q d.length = ck at *
    go_enter Try.func11, Try.ntmps11
    go_wp2_with fail
    refine (HCK.out _).mono ?_
    rintro x w1 ⟨rfl, hb1⟩
    have B1 : Hid (Below w.heap.size w w1) := nxt B0.out hb1
    clear hb1 B0 HCK
    go_wp2_with fail
    exact bodyPost_ret (v := .tuple #[.slice none 0 0, .int .i64 ck]) (by simp [results, Try.results11, go_sem]) rfl ⟨_, rfl, Bs.nil _ _, B1.out⟩

/-- What the page's Decode leaves: octets of its own. -/
def RDecPost (w : World) (R : Int × Sn) (x : Ending) (w' : World) : Prop :=
  ∃ a2 c2, x = .returned (.tuple #[.agg #[.int .i64 R.2.1, .int .i64 R.2.2.1, .slice a2 R.2.2.2.length c2], .int .i64 R.1]) ∧ Oct w' a2 c2 R.2.2.2 ∧ Below w.heap.size w w'
theorem RDecPost.err {w w' : World} {R : Int × Sn} (e : Int) (h : R = (e, 0, 0, [])) (hb : Below w.heap.size w w') : RDecPost w R (.returned (.tuple #[.agg #[.int .i64 0, .int .i64 0, .slice none 0 0], .int .i64 e])) w' := by
  subst h
  exact ⟨none, 0, rfl, Oct.none _ _, hb⟩

set_option maxRecDepth 100000 in
set_option maxHeartbeats 6400000 in
theorem rdecode_any (a : Option Addr) (c : Nat) (l : List UInt8) (w : World) (ho : Oct w a c l) :
    Calls Try.prog 13 #[.slice a l.length c] w (RDecPost w (decR l)) := by
  have HO : Hid (Oct w a c l) := ho
  obtain ⟨R, hR⟩ : ∃ R, decR l = R := ⟨_, rfl⟩
  rw [hR]
  unfold decR at hR
  by_cases h1 : l.length ≠ 8160
  · rw [if_pos h1] at hR
    have HR : Hid (R = (3, 0, 0, [])) := hR.symm
    have h1' : ((l.length : Int) != 8160) = true := by simp; omega
    clear hR h1
    go_enter Try.func13, Try.ntmps13
    go_wp2_with fail
    exact bodyPost_ret (v := .tuple #[.agg #[.int .i64 0, .int .i64 0, .slice none 0 0], .int .i64 3]) (by simp [results, Try.results13, go_sem]) rfl (RDecPost.err _ HR.out (below_one _ _))
  rw [if_neg h1] at hR
  have HL : Hid (l.length = 8160) := by show _ = _; omega
  have h1' : ((l.length : Int) != 8160) = false := by simp; omega
  clear h1
  have HG0 : Hid (∀ W, Below w.heap.size w W → Calls Try.prog 30 #[.slice a l.length c] W fun e w' => ∃ s, e = .returned (.tuple #[.agg #[.int .i64 (getR l).2.1, s], .int .i64 (getR l).2.2.2, .int .i64 (getR l).1]) ∧ Bs w' W.heap.size s (getR l).2.2.1 ∧ Below W.heap.size W w') := fun W hb => rget_any a c l W (HO.out.below hb)
  have HGN : Hid ((getR l).1 = 0 → 8 ≤ (getR l).2.2.2 ∧ (getR l).2.2.2 ≤ l.length ∧ (getR l).2.2.1.length ≤ 65536) := fun h => getR_ok h
  obtain ⟨⟨ge, gk, gd, gn⟩, hG⟩ : ∃ G, getR l = G := ⟨_, rfl⟩
  rw [hG] at HG0 HGN hR
  simp only at HG0 HGN hR
  clear hG
  by_cases h2 : ge ≠ 0
  · rw [if_pos h2] at hR
    have HR : Hid (R = (ge, 0, 0, [])) := hR.symm
    have h2' : (ge != 0) = true := by simpa using h2
    clear hR h2 HGN
    go_enter Try.func13, Try.ntmps13
    go_wp2_with fail
    refine (HG0.out _ (below_one _ _)).mono ?_
    rintro x w1 ⟨s1, rfl, hs1, hb1⟩
    obtain ⟨a1, c1, rfl⟩ := hs1.shape
    have S2 : Hid (Bs (w1.alloc (.cells #[.int .i64 gk, .slice a1 gd.length c1] 57)) (w.heap.size + 1) (.slice a1 gd.length c1) gd) := by have h := hs1.below (below_one _ (.cells #[.int .i64 gk, .slice a1 gd.length c1] 57)); exact h.up fun g hg => by have := (hs1.base g hg).1; simpa using this
    have X2 : Hid ((w1.alloc (.cells #[.int .i64 gk, .slice a1 gd.length c1] 57)).heap[w.heap.size]? = some (.cells #[.int .i64 0, .int .i64 0, .slice none 0 0] 24 (0, 0))) := ((nxt hb1 (below_one _ _)).block _ (by simp)).trans (heap_alloc_new _ _)
    have Y2 : Hid ((w1.alloc (.cells #[.int .i64 gk, .slice a1 gd.length c1] 57)).heap[w1.heap.size]? = some (.cells #[.int .i64 gk, .slice a1 gd.length c1] 57 (0, 0))) := heap_alloc_new _ _
    have B2 : Hid (Below w.heap.size w (w1.alloc (.cells #[.int .i64 gk, .slice a1 gd.length c1] 57))) := nxt (nxt (below_one _ _) hb1) (below_one _ _)
    have hsz : w.heap.size < w1.heap.size := Nat.lt_of_lt_of_le (by simp) hb1.size
    clear hs1 hb1
    go_upto_region 4 with fail
    generalize w1.alloc (.cells #[.int .i64 gk, .slice a1 gd.length c1] 57) = w2 at *
    generalize w1.heap.size = gf at *
    obtain ⟨y0, -⟩ := cell_of Y2.out 0
    obtain ⟨y1, -⟩ := cell_of Y2.out 1
    obtain ⟨x0, f0⟩ := cell_of X2.out 0
    obtain ⟨x1, f1⟩ := cell_of X2.out 1
    obtain ⟨x2, f2⟩ := cell_of X2.out 2
    simp at y0 y1 x0 x1 x2
    go_wp2_with fail
    have S3 := boxed3 X2.out (.int .i64 0) (.int .i64 0) (.slice none 0 0)
    have s0 := (cell_of S3 0).1
    have s1 := (cell_of S3 1).1
    have s2 := (cell_of S3 2).1
    simp at s0 s1 s2
    refine bodyPost_ret (v := .tuple #[.agg #[.int .i64 0, .int .i64 0, .slice none 0 0], .int .i64 ge]) (by simp [results, Try.results13, go_sem, s0, s1, s2]) rfl ?_
    exact RDecPost.err _ HR.out (Below.box3 B2.out (Nat.le_refl _) _ _ _)
  rw [if_neg h2] at hR
  have h2' : (ge != 0) = false := by simpa using h2
  have hge : ge = 0 := by simpa using h2
  obtain ⟨hn1, hn2, hn3⟩ := HGN.out hge
  subst hge
  clear h2 HGN
  by_cases h3 : gk ≠ 3
  · rw [if_pos h3] at hR
    have HR : Hid (R = (22, 0, 0, [])) := hR.symm
    have h3' : (gk != 3) = true := by simpa using h3
    clear hR h3 hn1 hn2 hn3
    go_enter Try.func13, Try.ntmps13
    go_wp2_with fail
    refine (HG0.out _ (below_one _ _)).mono ?_
    rintro x w1 ⟨s1, rfl, hs1, hb1⟩
    obtain ⟨a1, c1, rfl⟩ := hs1.shape
    have S2 : Hid (Bs (w1.alloc (.cells #[.int .i64 gk, .slice a1 gd.length c1] 57)) (w.heap.size + 1) (.slice a1 gd.length c1) gd) := by have h := hs1.below (below_one _ (.cells #[.int .i64 gk, .slice a1 gd.length c1] 57)); exact h.up fun g hg => by have := (hs1.base g hg).1; simpa using this
    have X2 : Hid ((w1.alloc (.cells #[.int .i64 gk, .slice a1 gd.length c1] 57)).heap[w.heap.size]? = some (.cells #[.int .i64 0, .int .i64 0, .slice none 0 0] 24 (0, 0))) := ((nxt hb1 (below_one _ _)).block _ (by simp)).trans (heap_alloc_new _ _)
    have Y2 : Hid ((w1.alloc (.cells #[.int .i64 gk, .slice a1 gd.length c1] 57)).heap[w1.heap.size]? = some (.cells #[.int .i64 gk, .slice a1 gd.length c1] 57 (0, 0))) := heap_alloc_new _ _
    have B2 : Hid (Below w.heap.size w (w1.alloc (.cells #[.int .i64 gk, .slice a1 gd.length c1] 57))) := nxt (nxt (below_one _ _) hb1) (below_one _ _)
    have hsz : w.heap.size < w1.heap.size := Nat.lt_of_lt_of_le (by simp) hb1.size
    clear hs1 hb1
    go_upto_region 4 with fail
    generalize w1.alloc (.cells #[.int .i64 gk, .slice a1 gd.length c1] 57) = w2 at *
    generalize w1.heap.size = gf at *
    obtain ⟨y0, -⟩ := cell_of Y2.out 0
    obtain ⟨y1, -⟩ := cell_of Y2.out 1
    obtain ⟨x0, f0⟩ := cell_of X2.out 0
    obtain ⟨x1, f1⟩ := cell_of X2.out 1
    obtain ⟨x2, f2⟩ := cell_of X2.out 2
    simp at y0 y1 x0 x1 x2
    go_wp2_with fail
    have S3 := boxed3 X2.out (.int .i64 0) (.int .i64 0) (.slice none 0 0)
    have s0 := (cell_of S3 0).1
    have s1 := (cell_of S3 1).1
    have s2 := (cell_of S3 2).1
    simp at s0 s1 s2
    refine bodyPost_ret (v := .tuple #[.agg #[.int .i64 0, .int .i64 0, .slice none 0 0], .int .i64 22]) (by simp [results, Try.results13, go_sem, s0, s1, s2]) rfl ?_
    exact RDecPost.err _ HR.out (Below.box3 B2.out (Nat.le_refl _) _ _ _)
  rw [if_neg h3] at hR
  have h3' : (gk != 3) = false := by simpa using h3
  have HS8 : Hid (gd.length < 16 → inS gd = (8, 0, 0, [])) := fun h => by unfold inS; rw [if_pos h]
  by_cases h4 : gd.length < 16
  · have HR : Hid (R = (8, 0, 0, [])) := by have := hR; rw [HS8.out h4] at this; simp at this; exact this.symm
    have h4' : (gd.length : Int) < 16 := by omega
    clear hR h3 h4 HS8 hn1 hn2 hn3
    go_enter Try.func13, Try.ntmps13
    go_wp2_with fail
    refine (HG0.out _ (below_one _ _)).mono ?_
    rintro x w1 ⟨s1, rfl, hs1, hb1⟩
    obtain ⟨a1, c1, rfl⟩ := hs1.shape
    have S2 : Hid (Bs (w1.alloc (.cells #[.int .i64 gk, .slice a1 gd.length c1] 57)) (w.heap.size + 1) (.slice a1 gd.length c1) gd) := by have h := hs1.below (below_one _ (.cells #[.int .i64 gk, .slice a1 gd.length c1] 57)); exact h.up fun g hg => by have := (hs1.base g hg).1; simpa using this
    have X2 : Hid ((w1.alloc (.cells #[.int .i64 gk, .slice a1 gd.length c1] 57)).heap[w.heap.size]? = some (.cells #[.int .i64 0, .int .i64 0, .slice none 0 0] 24 (0, 0))) := ((nxt hb1 (below_one _ _)).block _ (by simp)).trans (heap_alloc_new _ _)
    have Y2 : Hid ((w1.alloc (.cells #[.int .i64 gk, .slice a1 gd.length c1] 57)).heap[w1.heap.size]? = some (.cells #[.int .i64 gk, .slice a1 gd.length c1] 57 (0, 0))) := heap_alloc_new _ _
    have B2 : Hid (Below w.heap.size w (w1.alloc (.cells #[.int .i64 gk, .slice a1 gd.length c1] 57))) := nxt (nxt (below_one _ _) hb1) (below_one _ _)
    have hsz : w.heap.size < w1.heap.size := Nat.lt_of_lt_of_le (by simp) hb1.size
    clear hs1 hb1
    go_upto_region 4 with fail
    generalize w1.alloc (.cells #[.int .i64 gk, .slice a1 gd.length c1] 57) = w2 at *
    generalize w1.heap.size = gf at *
    obtain ⟨y0, -⟩ := cell_of Y2.out 0
    obtain ⟨y1, -⟩ := cell_of Y2.out 1
    obtain ⟨x0, f0⟩ := cell_of X2.out 0
    obtain ⟨x1, f1⟩ := cell_of X2.out 1
    obtain ⟨x2, f2⟩ := cell_of X2.out 2
    simp at y0 y1 x0 x1 x2
    go_wp2_with fail
    have S3 := boxed3 X2.out (.int .i64 0) (.int .i64 0) (.slice none 0 0)
    have s0 := (cell_of S3 0).1
    have s1 := (cell_of S3 1).1
    have s2 := (cell_of S3 2).1
    simp at s0 s1 s2
    refine bodyPost_ret (v := .tuple #[.agg #[.int .i64 0, .int .i64 0, .slice none 0 0], .int .i64 8]) (by simp [results, Try.results13, go_sem, s0, s1, s2]) rfl ?_
    exact RDecPost.err _ HR.out (Below.box3 B2.out (Nat.le_refl _) _ _ _)
  have h4' : ¬ (gd.length : Int) < 16 := by omega
  have HGL : Hid (16 ≤ gd.length ∧ gd.length ≤ 65536) := ⟨by omega, hn3⟩
  have b1 := numO_bound 8 (gd.take 8) (by rw [List.length_take]; omega)
  have b2 := numO_bound 8 ((gd.take 16).drop 8) (by rw [List.length_drop, List.length_take]; omega)
  have e8 : (gd.take 8).length = 8 := by rw [List.length_take]; omega
  have e8' : ((gd.take 16).drop 8).length = 8 := by rw [List.length_drop, List.length_take]; omega
  obtain ⟨N, hN0, hN8⟩ : ∃ N : Nat → Int, N 0 = numO (gd.take 8) ∧ N 8 = numO ((gd.take 16).drop 8) := ⟨fun o => if o = 0 then numO (gd.take 8) else numO ((gd.take 16).drop 8), rfl, rfl⟩
  have HNU : Hid (∀ (g1 : Nat) (W : World) (o k : Nat), LayB W (some ⟨g1, 0, none⟩) gd → (o = 0 ∨ o = 8) → Calls Try.prog 31 #[.slice (some ⟨g1, o, none⟩) 8 k] W fun x w' => x = .returned (.int .u64 (N o)) ∧ w' = W) := by
    intro g1 W o k hl ho
    rcases ho with rfl | rfl
    · have := rnumber_any (some ⟨g1, 0, none⟩) k (gd.take 8) W (fun j o hj => hl j o (by rw [List.getElem?_take] at hj; split at hj; exact hj; cases hj)) (by omega)
      rw [e8, ← hN0] at this
      exact this
    · have := rnumber_any (some ⟨g1, 8, none⟩) k ((gd.take 16).drop 8) W (fun j o hj => by
        rw [List.getElem?_drop, List.getElem?_take] at hj
        split at hj
        · obtain ⟨b', off', e', hc⟩ := hl _ o hj
          cases e'
          exact ⟨_, _, rfl, by rw [Nat.zero_add] at hc; exact hc⟩
        · cases hj) (by omega)
      rw [e8', ← hN8] at this
      exact this
  have hIS : inS gd = if 1099511627776 < N 0 ∨ 1099511627776 < N 8 then (4, 0, 0, []) else if 8000 < gd.length - 16 then (5, 0, 0, []) else (0, N 0, N 8, gd.drop 16) := by
    unfold inS
    rw [if_neg h4, hN0, hN8]
  rw [← hN0] at b1
  rw [← hN8] at b2
  rw [hIS] at hR
  clear hN0 hN8 hIS e8 e8' h3 HS8
  have hp8 : (256 : Int) ^ 8 = 18446744073709551616 := by decide
  rw [hp8] at b1 b2
  clear hp8
  by_cases h5 : 1099511627776 < N 0 ∨ 1099511627776 < N 8
  · rw [if_pos h5] at hR
    have HR : Hid (R = (4, 0, 0, [])) := by simp at hR; exact hR.symm
    have h5' : (1099511627776 < N 0) ∨ (¬ 1099511627776 < N 0 ∧ 1099511627776 < N 8) := by omega
    clear hR h5 h4 hn1 hn2 hn3
    rcases h5' with h5 | ⟨h5, h6⟩
    all_goals
      go_enter Try.func13, Try.ntmps13
      go_wp2_with fail
      refine (HG0.out _ (below_one _ _)).mono ?_
      rintro x w1 ⟨s1, rfl, hs1, hb1⟩
      obtain ⟨a1, c1, rfl⟩ := hs1.shape
      have S2 : Hid (Bs (w1.alloc (.cells #[.int .i64 gk, .slice a1 gd.length c1] 57)) (w.heap.size + 1) (.slice a1 gd.length c1) gd) := by have h := hs1.below (below_one _ (.cells #[.int .i64 gk, .slice a1 gd.length c1] 57)); exact h.up fun g hg => by have := (hs1.base g hg).1; simpa using this
      have X2 : Hid ((w1.alloc (.cells #[.int .i64 gk, .slice a1 gd.length c1] 57)).heap[w.heap.size]? = some (.cells #[.int .i64 0, .int .i64 0, .slice none 0 0] 24 (0, 0))) := ((nxt hb1 (below_one _ _)).block _ (by simp)).trans (heap_alloc_new _ _)
      have Y2 : Hid ((w1.alloc (.cells #[.int .i64 gk, .slice a1 gd.length c1] 57)).heap[w1.heap.size]? = some (.cells #[.int .i64 gk, .slice a1 gd.length c1] 57 (0, 0))) := heap_alloc_new _ _
      have B2 : Hid (Below w.heap.size w (w1.alloc (.cells #[.int .i64 gk, .slice a1 gd.length c1] 57))) := nxt (nxt (below_one _ _) hb1) (below_one _ _)
      have hsz : w.heap.size < w1.heap.size := Nat.lt_of_lt_of_le (by simp) hb1.size
      clear hs1 hb1
      go_upto_region 4 with fail
      generalize w1.alloc (.cells #[.int .i64 gk, .slice a1 gd.length c1] 57) = w2 at *
      generalize w1.heap.size = gf at *
      obtain ⟨y0, -⟩ := cell_of Y2.out 0
      obtain ⟨y1, -⟩ := cell_of Y2.out 1
      obtain ⟨x0, f0⟩ := cell_of X2.out 0
      obtain ⟨x1, f1⟩ := cell_of X2.out 1
      obtain ⟨x2, f2⟩ := cell_of X2.out 2
      simp at y0 y1 x0 x1 x2
      obtain ⟨g1, rfl, hg1⟩ := S2.out.spot (by have := HGL.out; omega)
      have O2 : Hid (Oct w2 (some ⟨g1, 0, none⟩) c1 gd) := S2.out.oct (by have := HGL.out; omega)
      have hc16 : 16 ≤ c1 := by have := O2.out.2.1; have := HGL.out; omega
      have hc63 : c1 ≤ 9223372036854775807 := O2.out.2.2.1
      have HNN : Hid (∀ (W : World) (o k : Nat), LayB W (some ⟨g1, 0, none⟩) gd → (o = 0 ∨ o = 8) → Calls Try.prog 31 #[.slice (some ⟨g1, o, none⟩) 8 k] W fun x w' => x = .returned (.int .u64 (N o)) ∧ w' = W) := fun W o k h ho => HNU.out g1 W o k h ho
      go_upto_region 10 with fail
      go_quiet ((go_at_call 31; exact Calls.quiet_of_same (HNN.out _ _ _ (show LayB _ _ _ from O2.out.1) (by first | exact Or.inl rfl | exact Or.inr rfl))))
      have O3 : Hid (Oct (w2.drewN nq) (some ⟨g1, 0, none⟩) c1 gd) := O2.out
      have X3 : Hid ((w2.drewN nq).heap[w.heap.size]? = some (.cells #[.int .i64 0, .int .i64 0, .slice none 0 0] 24 (0, 0))) := X2.out
      have Y3 : Hid ((w2.drewN nq).heap[gf]? = some (.cells #[.int .i64 gk, .slice (some ⟨g1, 0, none⟩) gd.length c1] 57 (0, 0))) := Y2.out
      have B3 : Hid (Below w.heap.size w (w2.drewN nq)) := B2.out.trans (Below_drewN _ _ _)
      clear X2 Y2 B2 O2 S2 x0 x1 x2 f0 f1 f2 y0 y1 HNN
      generalize w2.drewN nq = w3 at *
      obtain ⟨y0, -⟩ := cell_of Y3.out 0
      obtain ⟨y1, -⟩ := cell_of Y3.out 1
      obtain ⟨x0, f0⟩ := cell_of X3.out 0
      obtain ⟨x1, f1⟩ := cell_of X3.out 1
      obtain ⟨x2, f2⟩ := cell_of X3.out 2
      simp at y0 y1 x0 x1 x2
      go_wp2_with fail
      have S3 := boxed3 X3.out (.int .i64 0) (.int .i64 0) (.slice none 0 0)
      have s0 := (cell_of S3 0).1
      have s1 := (cell_of S3 1).1
      have s2 := (cell_of S3 2).1
      simp at s0 s1 s2
      refine bodyPost_ret (v := .tuple #[.agg #[.int .i64 0, .int .i64 0, .slice none 0 0], .int .i64 4]) (by simp [results, Try.results13, go_sem, s0, s1, s2]) rfl ?_
      exact RDecPost.err _ HR.out (Below.box3 B3.out (Nat.le_refl _) _ _ _)
  rw [if_neg h5] at hR
  have h51 : ¬ 1099511627776 < N 0 := by omega
  have h52 : ¬ 1099511627776 < N 8 := by omega
  have hw1 : IntKind.i64.wrap (N 0) = N 0 := by rw [IntKind.wrap_i64]; omega
  have hw2 : IntKind.i64.wrap (N 8) = N 8 := by rw [IntKind.wrap_i64]; omega
  clear h5
  have hD : gd.length - 16 = (gd.drop 16).length := by rw [List.length_drop]
  have HCK : Hid (∀ W a2 c2, Calls Try.prog 20 #[.agg #[.int .i64 (N 0), .int .i64 (N 8), .slice a2 (gd.drop 16).length c2]] W fun x w' => x = .returned (.int .i64 (if 8000 < (gd.drop 16).length then 5 else 0)) ∧ Below W.heap.size W w') := by
    intro W a2 c2
    have := rcheck_any (N 0) (N 8) a2 (gd.drop 16).length c2 W
    unfold chkS at this
    rw [if_neg (by omega)] at this
    exact this
  have HCP : Hid (∀ (W : World) (g1 c1 : Nat), Oct W (some ⟨g1, 0, none⟩) c1 gd → ∀ a' c', (a' = some ⟨g1, 16, none⟩ ∧ c' = c1 - 16) ∨ (c' = 0 ∧ gd.length = 16) → Calls Try.prog 32 #[.slice a' (gd.length - 16) c'] W fun e w' => ∃ s, e = .returned s ∧ Bs w' W.heap.size s (gd.drop 16) ∧ Below W.heap.size W w') := by
    intro W g1 c1 h a' c' hc
    have hO : Oct W a' c' (gd.drop 16) := by
      rcases hc with ⟨rfl, rfl⟩ | ⟨rfl, hl⟩
      · have := Oct.part h 16 gd.length (by omega) (Nat.le_refl _)
        rw [List.take_length, Nat.zero_add] at this
        exact this
      · have e : gd.drop 16 = [] := List.drop_eq_nil_of_le (by omega)
        rw [e]
        exact Oct.none _ _
    have := copied_any a' c' (gd.drop 16) W hO (by rw [List.length_drop]; omega)
    rw [← hD] at this
    exact this
  have HD : Hid ((gd.drop 16).length = gd.length - 16) := hD.symm
  generalize gd.drop 16 = D at *
  by_cases h6 : 8000 < D.length
  · have HR : Hid (R = (5, 0, 0, [])) := by
      have := hR
      rw [if_pos (show 8000 < gd.length - 16 by rw [hD]; exact h6)] at this
      simp at this
      exact this.symm
    rw [if_pos h6] at HCK
    clear hR h6 h4 hn1 hn2 hD
    go_enter Try.func13, Try.ntmps13
    go_wp2_with fail
    refine (HG0.out _ (below_one _ _)).mono ?_
    rintro x w1 ⟨s1, rfl, hs1, hb1⟩
    obtain ⟨a1, c1, rfl⟩ := hs1.shape
    have S2 : Hid (Bs (w1.alloc (.cells #[.int .i64 gk, .slice a1 gd.length c1] 57)) (w.heap.size + 1) (.slice a1 gd.length c1) gd) := by have h := hs1.below (below_one _ (.cells #[.int .i64 gk, .slice a1 gd.length c1] 57)); exact h.up fun g hg => by have := (hs1.base g hg).1; simpa using this
    have X2 : Hid ((w1.alloc (.cells #[.int .i64 gk, .slice a1 gd.length c1] 57)).heap[w.heap.size]? = some (.cells #[.int .i64 0, .int .i64 0, .slice none 0 0] 24 (0, 0))) := ((nxt hb1 (below_one _ _)).block _ (by simp)).trans (heap_alloc_new _ _)
    have Y2 : Hid ((w1.alloc (.cells #[.int .i64 gk, .slice a1 gd.length c1] 57)).heap[w1.heap.size]? = some (.cells #[.int .i64 gk, .slice a1 gd.length c1] 57 (0, 0))) := heap_alloc_new _ _
    have B2 : Hid (Below w.heap.size w (w1.alloc (.cells #[.int .i64 gk, .slice a1 gd.length c1] 57))) := nxt (nxt (below_one _ _) hb1) (below_one _ _)
    have hsz : w.heap.size < w1.heap.size := Nat.lt_of_lt_of_le (by simp) hb1.size
    clear hs1 hb1
    go_upto_region 4 with fail
    generalize w1.alloc (.cells #[.int .i64 gk, .slice a1 gd.length c1] 57) = w2 at *
    generalize w1.heap.size = gf at *
    obtain ⟨y0, -⟩ := cell_of Y2.out 0
    obtain ⟨y1, -⟩ := cell_of Y2.out 1
    obtain ⟨x0, f0⟩ := cell_of X2.out 0
    obtain ⟨x1, f1⟩ := cell_of X2.out 1
    obtain ⟨x2, f2⟩ := cell_of X2.out 2
    simp at y0 y1 x0 x1 x2
    obtain ⟨g1, rfl, hg1⟩ := S2.out.spot (by have := HGL.out; omega)
    have O2 : Hid (Oct w2 (some ⟨g1, 0, none⟩) c1 gd) := S2.out.oct (by have := HGL.out; omega)
    have hc16 : 16 ≤ c1 := by have := O2.out.2.1; have := HGL.out; omega
    have hc63 : c1 ≤ 9223372036854775807 := O2.out.2.2.1
    have HNN : Hid (∀ (W : World) (o k : Nat), LayB W (some ⟨g1, 0, none⟩) gd → (o = 0 ∨ o = 8) → Calls Try.prog 31 #[.slice (some ⟨g1, o, none⟩) 8 k] W fun x w' => x = .returned (.int .u64 (N o)) ∧ w' = W) := fun W o k h ho => HNU.out g1 W o k h ho
    go_upto_region 10 with fail
    go_quiet ((go_at_call 31; exact Calls.quiet_of_same (HNN.out _ _ _ (show LayB _ _ _ from O2.out.1) (by first | exact Or.inl rfl | exact Or.inr rfl))))
    have O3 : Hid (Oct (w2.drewN nq) (some ⟨g1, 0, none⟩) c1 gd) := O2.out
    have X3 : Hid ((w2.drewN nq).heap[w.heap.size]? = some (.cells #[.int .i64 0, .int .i64 0, .slice none 0 0] 24 (0, 0))) := X2.out
    have Y3 : Hid ((w2.drewN nq).heap[gf]? = some (.cells #[.int .i64 gk, .slice (some ⟨g1, 0, none⟩) gd.length c1] 57 (0, 0))) := Y2.out
    have B3 : Hid (Below w.heap.size w (w2.drewN nq)) := B2.out.trans (Below_drewN _ _ _)
    clear X2 Y2 B2 O2 S2 x0 x1 x2 f0 f1 f2 y0 y1 HNN
    generalize w2.drewN nq = w3 at *
    obtain ⟨y0, -⟩ := cell_of Y3.out 0
    obtain ⟨y1, -⟩ := cell_of Y3.out 1
    obtain ⟨x0, f0⟩ := cell_of X3.out 0
    obtain ⟨x1, f1⟩ := cell_of X3.out 1
    obtain ⟨x2, f2⟩ := cell_of X3.out 2
    simp at y0 y1 x0 x1 x2
    have hcx : c1 = 16 ∨ ¬ (16 : Nat) = c1 := by omega
    have HLE : Hid (gd.length ≤ c1) := O3.out.2.1
    rcases hcx with hcx | hcx
    all_goals
      first
        | subst hcx
        | have hcx' : ¬ c1 = 16 := fun e => hcx e.symm
      go_wp2_with fail
      first
        | refine (HCP.out w3 g1 16 O3.out _ _ (Or.inr ⟨rfl, by have h1 := HLE.out; have h2 := HGL.out; omega⟩)).mono ?_
        | refine (HCP.out w3 g1 c1 O3.out _ _ (Or.inl ⟨rfl, rfl⟩)).mono ?_
      rintro x w4 ⟨s4, rfl, hs4, hb4⟩
      obtain ⟨a4, c4, rfl⟩ := hs4.shape
      have O5 : Hid (Oct (w4.alloc (.cells #[.int .i64 (N 0), .int .i64 (N 8), .slice a4 D.length c4] 24)) a4 c4 (D)) := (hs4.oct (by have h1 := HD.out; have h2 := HGL.out; omega)).below (below_one _ _)
      have X5 : Hid ((w4.alloc (.cells #[.int .i64 (N 0), .int .i64 (N 8), .slice a4 D.length c4] 24)).heap[w.heap.size]? = some (.cells #[.int .i64 0, .int .i64 0, .slice none 0 0] 24 (0, 0))) := ((nxt hb4 (below_one _ _)).block _ (lt_of_block X3.out)).trans X3.out
      have Y5 : Hid ((w4.alloc (.cells #[.int .i64 (N 0), .int .i64 (N 8), .slice a4 D.length c4] 24)).heap[w4.heap.size]? = some (.cells #[.int .i64 (N 0), .int .i64 (N 8), .slice a4 D.length c4] 24 (0, 0))) := heap_alloc_new _ _
      have B5 : Hid (Below w.heap.size w (w4.alloc (.cells #[.int .i64 (N 0), .int .i64 (N 8), .slice a4 D.length c4] 24))) := nxt (nxt B3.out hb4) (below_one _ _)
      have hsz4 : w.heap.size < w4.heap.size := Nat.lt_of_lt_of_le (lt_of_block X3.out) hb4.size
      clear hs4 hb4 X3 Y3 B3 O3 x0 x1 x2 f0 f1 f2 y0 y1
      go_upto_region 14 with fail
      generalize w4.alloc (.cells #[.int .i64 (N 0), .int .i64 (N 8), .slice a4 D.length c4] 24) = w5 at *
      generalize w4.heap.size = gs at *
      obtain ⟨y0, -⟩ := cell_of Y5.out 0
      obtain ⟨y1, -⟩ := cell_of Y5.out 1
      obtain ⟨y2, -⟩ := cell_of Y5.out 2
      simp at y0 y1 y2
      go_wp2_with fail
      refine (HCK.out w5 a4 c4).mono ?_
      rintro x w6 ⟨rfl, hb6⟩
      have O6 : Hid (Oct w6 a4 c4 (D)) := O5.out.below hb6
      have X6 : Hid (w6.heap[w.heap.size]? = some (.cells #[.int .i64 0, .int .i64 0, .slice none 0 0] 24 (0, 0))) := (hb6.block _ (lt_of_block X5.out)).trans X5.out
      have Y6 : Hid (w6.heap[gs]? = some (.cells #[.int .i64 (N 0), .int .i64 (N 8), .slice a4 D.length c4] 24 (0, 0))) := (hb6.block _ (lt_of_block Y5.out)).trans Y5.out
      have B6 : Hid (Below w.heap.size w w6) := nxt B5.out hb6
      clear hb6 X5 Y5 B5 O5 y0 y1 y2
      obtain ⟨y0, -⟩ := cell_of Y6.out 0
      obtain ⟨y1, -⟩ := cell_of Y6.out 1
      obtain ⟨y2, -⟩ := cell_of Y6.out 2
      obtain ⟨x0, f0⟩ := cell_of X6.out 0
      obtain ⟨x1, f1⟩ := cell_of X6.out 1
      obtain ⟨x2, f2⟩ := cell_of X6.out 2
      simp at y0 y1 y2 x0 x1 x2
      go_wp2_with fail
      have S3 := boxed3 X6.out (.int .i64 0) (.int .i64 0) (.slice none 0 0)
      have s0 := (cell_of S3 0).1
      have s1 := (cell_of S3 1).1
      have s2 := (cell_of S3 2).1
      simp at s0 s1 s2
      refine bodyPost_ret (v := .tuple #[.agg #[.int .i64 0, .int .i64 0, .slice none 0 0], .int .i64 5]) (by simp [results, Try.results13, go_sem, s0, s1, s2]) rfl ?_
      exact RDecPost.err _ HR.out (Below.box3 B6.out (Nat.le_refl _) _ _ _)
  rw [if_neg h6] at HCK
  have HZ1 : Hid (allZ (l.drop gn) → R = (0, N 0, N 8, D)) := fun hz => by
    have := hR
    rw [if_neg (show ¬ 8000 < gd.length - 16 by rw [hD]; exact h6)] at this
    simp [hz] at this
    exact this.symm
  have HZ2 : Hid (¬ allZ (l.drop gn) → R = (23, 0, 0, [])) := fun hz => by
    have := hR
    rw [if_neg (show ¬ 8000 < gd.length - 16 by rw [hD]; exact h6)] at this
    simp [hz] at this
    exact this.symm
  have hgl : gn ≤ 8160 := by have := HL.out; omega
  clear hR h6 h4 hn1 hn2 hD
  obtain ⟨b, off, rfl, -⟩ := layB_get ho.1 (show 0 < l.length by have := HL.out; omega)
  have hll : 8160 ≤ l.length := by have := HL.out; omega
  clear ho
  · skip
    go_enter Try.func13, Try.ntmps13
    go_wp2_with fail
    refine (HG0.out _ (below_one _ _)).mono ?_
    rintro x w1 ⟨s1, rfl, hs1, hb1⟩
    obtain ⟨a1, c1, rfl⟩ := hs1.shape
    have S2 : Hid (Bs (w1.alloc (.cells #[.int .i64 gk, .slice a1 gd.length c1] 57)) (w.heap.size + 1) (.slice a1 gd.length c1) gd) := by have h := hs1.below (below_one _ (.cells #[.int .i64 gk, .slice a1 gd.length c1] 57)); exact h.up fun g hg => by have := (hs1.base g hg).1; simpa using this
    have X2 : Hid ((w1.alloc (.cells #[.int .i64 gk, .slice a1 gd.length c1] 57)).heap[w.heap.size]? = some (.cells #[.int .i64 0, .int .i64 0, .slice none 0 0] 24 (0, 0))) := ((nxt hb1 (below_one _ _)).block _ (by simp)).trans (heap_alloc_new _ _)
    have Y2 : Hid ((w1.alloc (.cells #[.int .i64 gk, .slice a1 gd.length c1] 57)).heap[w1.heap.size]? = some (.cells #[.int .i64 gk, .slice a1 gd.length c1] 57 (0, 0))) := heap_alloc_new _ _
    have B2 : Hid (Below w.heap.size w (w1.alloc (.cells #[.int .i64 gk, .slice a1 gd.length c1] 57))) := nxt (nxt (below_one _ _) hb1) (below_one _ _)
    have hsz : w.heap.size < w1.heap.size := Nat.lt_of_lt_of_le (by simp) hb1.size
    clear hs1 hb1
    go_upto_region 4 with fail
    generalize w1.alloc (.cells #[.int .i64 gk, .slice a1 gd.length c1] 57) = w2 at *
    generalize w1.heap.size = gf at *
    obtain ⟨y0, -⟩ := cell_of Y2.out 0
    obtain ⟨y1, -⟩ := cell_of Y2.out 1
    obtain ⟨x0, f0⟩ := cell_of X2.out 0
    obtain ⟨x1, f1⟩ := cell_of X2.out 1
    obtain ⟨x2, f2⟩ := cell_of X2.out 2
    simp at y0 y1 x0 x1 x2
    obtain ⟨g1, rfl, hg1⟩ := S2.out.spot (by have := HGL.out; omega)
    have O2 : Hid (Oct w2 (some ⟨g1, 0, none⟩) c1 gd) := S2.out.oct (by have := HGL.out; omega)
    have hc16 : 16 ≤ c1 := by have := O2.out.2.1; have := HGL.out; omega
    have hc63 : c1 ≤ 9223372036854775807 := O2.out.2.2.1
    have HNN : Hid (∀ (W : World) (o k : Nat), LayB W (some ⟨g1, 0, none⟩) gd → (o = 0 ∨ o = 8) → Calls Try.prog 31 #[.slice (some ⟨g1, o, none⟩) 8 k] W fun x w' => x = .returned (.int .u64 (N o)) ∧ w' = W) := fun W o k h ho => HNU.out g1 W o k h ho
    go_upto_region 10 with fail
    go_quiet ((go_at_call 31; exact Calls.quiet_of_same (HNN.out _ _ _ (show LayB _ _ _ from O2.out.1) (by first | exact Or.inl rfl | exact Or.inr rfl))))
    have O3 : Hid (Oct (w2.drewN nq) (some ⟨g1, 0, none⟩) c1 gd) := O2.out
    have X3 : Hid ((w2.drewN nq).heap[w.heap.size]? = some (.cells #[.int .i64 0, .int .i64 0, .slice none 0 0] 24 (0, 0))) := X2.out
    have Y3 : Hid ((w2.drewN nq).heap[gf]? = some (.cells #[.int .i64 gk, .slice (some ⟨g1, 0, none⟩) gd.length c1] 57 (0, 0))) := Y2.out
    have B3 : Hid (Below w.heap.size w (w2.drewN nq)) := B2.out.trans (Below_drewN _ _ _)
    clear X2 Y2 B2 O2 S2 x0 x1 x2 f0 f1 f2 y0 y1 HNN
    generalize w2.drewN nq = w3 at *
    obtain ⟨y0, -⟩ := cell_of Y3.out 0
    obtain ⟨y1, -⟩ := cell_of Y3.out 1
    obtain ⟨x0, f0⟩ := cell_of X3.out 0
    obtain ⟨x1, f1⟩ := cell_of X3.out 1
    obtain ⟨x2, f2⟩ := cell_of X3.out 2
    simp at y0 y1 x0 x1 x2
    have hcx : c1 = 16 ∨ ¬ (16 : Nat) = c1 := by omega
    have HLE : Hid (gd.length ≤ c1) := O3.out.2.1
    rcases hcx with hcx | hcx
    all_goals
      first
        | subst hcx
        | have hcx' : ¬ c1 = 16 := fun e => hcx e.symm
      go_wp2_with fail
      first
        | refine (HCP.out w3 g1 16 O3.out _ _ (Or.inr ⟨rfl, by have h1 := HLE.out; have h2 := HGL.out; omega⟩)).mono ?_
        | refine (HCP.out w3 g1 c1 O3.out _ _ (Or.inl ⟨rfl, rfl⟩)).mono ?_
      rintro x w4 ⟨s4, rfl, hs4, hb4⟩
      obtain ⟨a4, c4, rfl⟩ := hs4.shape
      have O5 : Hid (Oct (w4.alloc (.cells #[.int .i64 (N 0), .int .i64 (N 8), .slice a4 D.length c4] 24)) a4 c4 (D)) := (hs4.oct (by have h1 := HD.out; have h2 := HGL.out; omega)).below (below_one _ _)
      have X5 : Hid ((w4.alloc (.cells #[.int .i64 (N 0), .int .i64 (N 8), .slice a4 D.length c4] 24)).heap[w.heap.size]? = some (.cells #[.int .i64 0, .int .i64 0, .slice none 0 0] 24 (0, 0))) := ((nxt hb4 (below_one _ _)).block _ (lt_of_block X3.out)).trans X3.out
      have Y5 : Hid ((w4.alloc (.cells #[.int .i64 (N 0), .int .i64 (N 8), .slice a4 D.length c4] 24)).heap[w4.heap.size]? = some (.cells #[.int .i64 (N 0), .int .i64 (N 8), .slice a4 D.length c4] 24 (0, 0))) := heap_alloc_new _ _
      have B5 : Hid (Below w.heap.size w (w4.alloc (.cells #[.int .i64 (N 0), .int .i64 (N 8), .slice a4 D.length c4] 24))) := nxt (nxt B3.out hb4) (below_one _ _)
      have hsz4 : w.heap.size < w4.heap.size := Nat.lt_of_lt_of_le (lt_of_block X3.out) hb4.size
      clear hs4 hb4 X3 Y3 B3 O3 x0 x1 x2 f0 f1 f2 y0 y1
      go_upto_region 14 with fail
      generalize w4.alloc (.cells #[.int .i64 (N 0), .int .i64 (N 8), .slice a4 D.length c4] 24) = w5 at *
      generalize w4.heap.size = gs at *
      obtain ⟨y0, -⟩ := cell_of Y5.out 0
      obtain ⟨y1, -⟩ := cell_of Y5.out 1
      obtain ⟨y2, -⟩ := cell_of Y5.out 2
      simp at y0 y1 y2
      go_wp2_with fail
      refine (HCK.out w5 a4 c4).mono ?_
      rintro x w6 ⟨rfl, hb6⟩
      have O6 : Hid (Oct w6 a4 c4 (D)) := O5.out.below hb6
      have X6 : Hid (w6.heap[w.heap.size]? = some (.cells #[.int .i64 0, .int .i64 0, .slice none 0 0] 24 (0, 0))) := (hb6.block _ (lt_of_block X5.out)).trans X5.out
      have Y6 : Hid (w6.heap[gs]? = some (.cells #[.int .i64 (N 0), .int .i64 (N 8), .slice a4 D.length c4] 24 (0, 0))) := (hb6.block _ (lt_of_block Y5.out)).trans Y5.out
      have B6 : Hid (Below w.heap.size w w6) := nxt B5.out hb6
      clear hb6 X5 Y5 B5 O5 y0 y1 y2
      obtain ⟨y0, -⟩ := cell_of Y6.out 0
      obtain ⟨y1, -⟩ := cell_of Y6.out 1
      obtain ⟨y2, -⟩ := cell_of Y6.out 2
      obtain ⟨x0, f0⟩ := cell_of X6.out 0
      obtain ⟨x1, f1⟩ := cell_of X6.out 1
      obtain ⟨x2, f2⟩ := cell_of X6.out 2
      simp at y0 y1 y2 x0 x1 x2
      go_wp2_with fail
      go_loopw [10] (fun i wr => ∃ m : Nat, gn ≤ m ∧ m ≤ 8160 ∧ i = .int .i64 m ∧ Hid (allZ ((l.take m).drop gn)) ∧ Hid (wr = w6)) (fun i _ => 8160 - (intOf i).toNat)
      case atStart => exact ⟨gn, Nat.le_refl _, hgl, rfl, (fun o h => by rw [List.drop_eq_nil_of_le (by rw [List.length_take]; omega)] at h; simp at h), rfl⟩
      case round =>
        obtain ⟨m, hm0, hm, rfl, HZ, HW⟩ := hrel
        obtain rfl := HW.out
        by_cases hlt : m < 8160
        · have hlt1 : (m : Int) < 8160 := by omega
          have hlt2 : (m : Int) < (l.length : Int) := by omega
          obtain ⟨o, ho⟩ : ∃ o, l[m]? = some o := ⟨l[m], List.getElem?_eq_getElem (by omega)⟩
          obtain ⟨b', off', e', q⟩ := (HO.out.below B6.out).1 m o ho
          cases e'
          have HT : Hid ((l.take (m + 1)).drop gn = (l.take m).drop gn ++ [o]) := by
            show _ = _
            obtain ⟨h1, h2⟩ := List.getElem?_eq_some_iff.1 ho
            rw [List.take_succ_eq_append_getElem h1, h2, List.drop_append_of_le_length (by rw [List.length_take]; omega)]
          have HM : Hid (o ∈ l.drop gn) := by
            have : (l.drop gn)[m - gn]? = some o := by rw [List.getElem?_drop, show gn + (m - gn) = m by omega]; exact ho
            exact List.mem_of_getElem? this
          clear ho
          by_cases hz : o = 0
          · have hzb : (((o.toNat : Nat) : Int) != 0) = false := by rw [hz]; decide
            have HA : Hid (allZ ((l.take (m + 1)).drop gn)) := by
              intro x hx
              rw [HT.out] at hx
              rcases List.mem_append.1 hx with h | h
              · exact HZ.out x h
              · simp at h; rw [h, hz]
            clear hz
            go_wp2_with fail
            exact ⟨⟨m + 1, by omega, by omega, by go_num, HA.out, trivial⟩, by simp [intOf]; omega⟩
          · have hzb : (((o.toNat : Nat) : Int) != 0) = true := by
              have : o.toNat ≠ 0 := fun e => hz (UInt8.toNat_inj.1 (by simpa using e))
              simpa using this
            have HR : Hid (R = (23, 0, 0, [])) := HZ2.out fun h => hz (h o HM.out)
            clear hz
            go_wp2_with fail
            have S3 := boxed3 X6.out (.int .i64 0) (.int .i64 0) (.slice none 0 0)
            have s0 := (cell_of S3 0).1
            have s1 := (cell_of S3 1).1
            have s2 := (cell_of S3 2).1
            simp at s0 s1 s2
            refine bodyPost_ret (v := .tuple #[.agg #[.int .i64 0, .int .i64 0, .slice none 0 0], .int .i64 23]) (by simp [results, Try.results13, go_sem, s0, s1, s2]) rfl ?_
            exact RDecPost.err _ HR.out (Below.box3 B6.out (Nat.le_refl _) _ _ _)
        · have hme : m = 8160 := by omega
          subst hme
          have HR : Hid (R = (0, N 0, N 8, D)) := HZ1.out (by have h := HZ.out; rwa [List.take_of_length_le (by have := HL.out; omega)] at h)
          go_wp2_with fail
          have S3 := boxed3 X6.out (.int .i64 (N 0)) (.int .i64 (N 8)) (.slice a4 D.length c4)
          have s0 := (cell_of S3 0).1
          have s1 := (cell_of S3 1).1
          have s2 := (cell_of S3 2).1
          simp at s0 s1 s2
          refine bodyPost_ret (v := .tuple #[.agg #[.int .i64 (N 0), .int .i64 (N 8), .slice a4 D.length c4], .int .i64 0]) (by simp [results, Try.results13, go_sem, s0, s1, s2]) rfl ?_
          rw [HR.out]
          exact ⟨_, _, rfl, oct_box3 O6.out X6.out (fun o h => by simp at h) _ _ _, Below.box3 B6.out (Nat.le_refl _) _ _ _⟩
end Go.Proofs.Ytocodkoanjcmkac
