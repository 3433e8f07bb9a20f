/-
  WalOwn (Upto) holds for every log and all octets up to the bound: the log that follows shares nothing with what was handed in.
-/
import Derived.Test.YtocodkoanjcmkabWlArgU
import Derived.Deep.CondSized
import Derived.Test.YtocodkoanjcmkabWlPApp
import Derived.Test.YtocodkoanjcmkabWlOf
namespace Go.Proofs.Ytocodkoanjcmkab.walOwn
open Go.ChangeShapes Go.WideShapes Go.ChangeAt Go.RowKit Go.Deep
open Se

theorem appR_len (ss : List (List UInt8)) (nx : Int) (d : List UInt8) : (appR ss nx d).2.2.length ≤ ss.length + 1 := by
  unfold appR
  split
  · simp
  · split
    · simp
    · split
      · simp
      · simp only [addS]
        split
        · split
          · simp
          · simp
        · simp
theorem kept_below {F : Nat → Prop} {w w' : World} {B : Nat} (h : Kept F w w') (hB : B ≤ w.heap.size) (hF : ∀ b, F b → B ≤ b) : Below B w w' := ⟨h.os, h.tape, h.output, h.size, fun k hk => h.block k (by omega) fun e => by have := hF k e; omega⟩
/-- Segments stay where only older blocks are written over. -/
theorem OwnS.high {W W' : World} {B : Nat} {v : Value} {ss : List (List UInt8)} (h : OwnS W B v ss) (hb : ∀ b, B ≤ b → b < W.heap.size → W'.heap[b]? = W.heap[b]?) : OwnS W' B v ss := by
  obtain ⟨xs, h1, h2, h3⟩ := h
  refine ⟨xs, ownsRow_same h1 fun g hg => hb g (h1.lt g hg).1 (h1.lt g hg).2, fun j l hj => ?_, h3⟩
  obtain ⟨a, c, k1, k2, k3⟩ := h2 j l hj
  exact ⟨a, c, k1, ownsRow_same k2 fun g hg => hb g (k2.base g hg).1 (k2.base g hg).2, k3⟩
/-- A row's cell. -/
theorem row_cell {W : World} {B : Nat} {oa : Option Addr} {oc n : Nat} {xs : List Value} (h : W.ownsRow B 25 1 (.slice oa n oc) n xs) {m : Nat} {x : Value} (hm : m < n) (hx : xs[m]? = some x) : ∃ g, oa = some ⟨g, 0, none⟩ ∧ W.cell? ⟨g, m, none⟩ = some x := by
  have hown := h
  obtain ⟨h1, h2⟩ := h
  rcases h2 with ⟨h3, h4⟩ | ⟨g, cap, cur, h3, h4, h5⟩
  · omega
  · simp only [Value.slice.injEq] at h3
    obtain ⟨rfl, -, rfl⟩ := h3
    have := hown.cells (g := g) rfl m _ hx
    rw [add_plain, Nat.zero_add] at this
    exact ⟨g, rfl, this⟩

set_option maxRecDepth 100000 in
set_option maxHeartbeats 6400000 in
theorem walk (s : List (List UInt8) × Int) (x : Value) (d : List UInt8) (xd : Value) (w : World) (hs : LgIs w x s) (hd : BytesIs w xd d) (hsm : ∀ l ∈ s.1, l.length ≤ 2000000) (hsl : s.1.length ≤ 2000000) :
    Calls Try.prog 8 #[x, xd] w fun e w' => e = .returned (.bool true) ∧ Below w.heap.size w w' := by
  obtain ⟨ss, nx⟩ := s
  obtain ⟨a, c, rfl, hS, hn, h1, h2⟩ := hs
  obtain ⟨ad, cd, rfl, hO, hdl⟩ := hd
  simp only at hS hn h1 h2 hsm hsl ⊢
  have HS : Hid (LayS w a ss) := hS
  have HD : Hid (Oct w ad cd d) := hO
  have HSM : Hid (∀ l ∈ ss, l.length ≤ 2000000) := hsm
  clear hS hO hsm
  obtain ⟨R, hR⟩ : ∃ R, appR ss nx d = R := ⟨_, rfl⟩
  obtain ⟨ny, hny⟩ : ∃ ny, nxtR ss nx d = ny := ⟨_, rfl⟩
  have HOF : Hid (∀ W, Below w.heap.size w W → Calls Try.prog 9 #[.agg #[.slice a ss.length c, .int .i64 nx]] W fun e w' => ∃ v, e = .returned (.agg #[v, .int .i64 nx]) ∧ OwnS w' W.heap.size v ss ∧ Below W.heap.size W w') := fun W hb => of_any ss nx a c W (HS.out.below hb) (by omega)
  have HAP : Hid (∀ W oa oc sa sc, LayS W oa ss → Oct W sa sc d → Calls Try.prog 11 #[.agg #[.slice oa ss.length oc, .int .i64 nx], .slice sa d.length sc] W (AppPost W R ny)) := fun W oa oc sa sc k1 k2 => by
    have := append_any ss nx oa oc d sa sc W k1 (by omega) h1 h2 k2
    rw [hR, hny] at this
    exact this
  have HRA : Hid (∀ W, Below w.heap.size w W → Calls Try.prog 12 #[.agg #[.slice a ss.length c, .int .i64 nx], .slice ad d.length cd] W (AppPost W R ny)) := fun W hb => by
    have := rappend_any ss nx a c d ad cd W (HS.out.below hb) (by omega) HSM.out h1 h2 (HD.out.below hb)
    rw [hR, hny] at this
    exact this
  have HRL : Hid (R.2.2.length ≤ 2000001) := by show _ ≤ _; rw [← hR]; have := appR_len ss nx d; omega
  clear hR hny
  obtain ⟨er, pl, rs⟩ := R
  have X0 : Hid ((w.alloc (.cells #[.slice a ss.length c, .int .i64 nx] 24)).heap[w.heap.size]? = some (.cells #[.slice a ss.length c, .int .i64 nx] 24 (0, 0))) := heap_alloc_new _ _
  have B0 : Hid (Below w.heap.size w (w.alloc (.cells #[.slice a ss.length c, .int .i64 nx] 24))) := below_one _ _
  go_enter Try.func8, Try.ntmps8
  go_wp2_with fail
  refine (alive_any _).mono ?_
  rintro e w1 ⟨rfl, hb1⟩
  have X1 : Hid (w1.heap[w.heap.size]? = some (.cells #[.slice a ss.length c, .int .i64 nx] 24 (0, 0))) := (hb1.block _ (lt_of_block X0.out)).trans X0.out
  have B1 : Hid (Below w.heap.size w w1) := nxt B0.out hb1
  clear X0 B0 hb1
  obtain ⟨x0, -⟩ := cell_of X1.out 0
  obtain ⟨x1, -⟩ := cell_of X1.out 1
  simp at x0 x1
  go_wp2_with fail
  refine (HOF.out _ B1.out).mono ?_
  rintro e w2 ⟨v2, rfl, ho2, hb2⟩
  obtain ⟨oa, oc, rfl⟩ := ho2.shape
  have HO2 : Hid (OwnS w2 w1.heap.size (.slice oa ss.length oc) ss) := ho2
  obtain ⟨xs, hxr, hxi, hxa⟩ := ho2
  have HXR : Hid (w2.ownsRow w1.heap.size 25 1 (.slice oa ss.length oc) ss.length xs) := hxr
  have HXI : Hid (SItems w2 w1.heap.size ss xs) := hxi
  have HXA : Hid (ApartV xs) := hxa
  have HWB : Hid (w1.heap.size ≤ w2.heap.size) := hb2.size
  have HXL : Hid (xs.length = ss.length) := by have := hxr.1; show _ = _; omega
  clear hxr hxi hxa
  have X2 : Hid (w2.heap[w.heap.size]? = some (.cells #[.slice a ss.length c, .int .i64 nx] 24 (0, 0))) := (hb2.block _ (lt_of_block X1.out)).trans X1.out
  have B2 : Hid (Below w.heap.size w w2) := nxt B1.out hb2
  clear hb2 x0 x1
  go_wp2_with fail
  refine (copyB_any ad cd d w2 (HD.out.below B2.out) hdl).mono ?_
  rintro e w3 ⟨s3, rfl, hs3, hb3⟩
  obtain ⟨sa, sc, rfl⟩ := hs3.shape
  have O4 : Hid (OwnS (w3.alloc (.cells #[.slice oa ss.length oc, .int .i64 nx] 26)) w1.heap.size (.slice oa ss.length oc) ss) := (HO2.out.below hb3).below (below_one _ _)
  have S4 : Hid (Bs (w3.alloc (.cells #[.slice oa ss.length oc, .int .i64 nx] 26)) w2.heap.size (.slice sa d.length sc) d) := hs3.below (below_one _ _)
  have X4 : Hid ((w3.alloc (.cells #[.slice oa ss.length oc, .int .i64 nx] 26)).heap[w.heap.size]? = some (.cells #[.slice a ss.length c, .int .i64 nx] 24 (0, 0))) := ((nxt hb3 (below_one w3 _)).block _ (lt_of_block X2.out)).trans X2.out
  have Y4 : Hid ((w3.alloc (.cells #[.slice oa ss.length oc, .int .i64 nx] 26)).heap[w3.heap.size]? = some (.cells #[.slice oa ss.length oc, .int .i64 nx] 26 (0, 0))) := heap_alloc_new _ _
  have B4 : Hid (Below w.heap.size w (w3.alloc (.cells #[.slice oa ss.length oc, .int .i64 nx] 26))) := nxt (nxt B2.out hb3) (below_one _ _)
  have B24 : Hid (Below w2.heap.size w2 (w3.alloc (.cells #[.slice oa ss.length oc, .int .i64 nx] 26))) := nxt hb3 (below_one _ _)
  have hw12 : w.heap.size ≤ w1.heap.size := B1.out.size
  have HW12 : Hid (w1.heap.size ≤ w2.heap.size) := HWB.out
  have hx1 : w.heap.size < w1.heap.size := lt_of_block X1.out
  have hw13 : w.heap.size ≤ w2.heap.size := B2.out.size
  clear hs3 hb3 HO2 X1 X2 B1 B2
  go_wp2_with fail
  generalize w3.alloc (.cells #[.slice oa ss.length oc, .int .i64 nx] 26) = w4 at *
  generalize w3.heap.size = Bo at *
  refine (HAP.out w4 oa oc sa sc O4.out.lay (S4.out.oct (by omega))).mono ?_
  rintro e w5 ⟨v5, rfl, ho5, hb5⟩
  obtain ⟨pa, pc, rfl⟩ := ho5.shape
  simp only at ho5
  have hb6 : Below w4.heap.size w4 (w5.alloc (.cells #[.slice pa rs.length pc, .int .i64 ny] 26)) := nxt hb5 (below_one _ _)
  have P6 : Hid (OwnS (w5.alloc (.cells #[.slice pa rs.length pc, .int .i64 ny] 26)) w4.heap.size (.slice pa rs.length pc) rs) := ho5.below (below_one _ _)
  have Z6 : Hid ((w5.alloc (.cells #[.slice pa rs.length pc, .int .i64 ny] 26)).heap[w5.heap.size]? = some (.cells #[.slice pa rs.length pc, .int .i64 ny] 26 (0, 0))) := heap_alloc_new _ _
  have BB6 : Hid (Below w4.heap.size w4 (w5.alloc (.cells #[.slice pa rs.length pc, .int .i64 ny] 26))) := hb6
  have hw45 := hb5.size
  have X6 : Hid ((w5.alloc (.cells #[.slice pa rs.length pc, .int .i64 ny] 26)).heap[w.heap.size]? = some (.cells #[.slice a ss.length c, .int .i64 nx] 24 (0, 0))) := (BB6.out.block _ (lt_of_block X4.out)).trans X4.out
  have hc5 := (hb5.block _ (lt_of_block X4.out)).trans X4.out
  obtain ⟨x0, -⟩ := cell_of hc5 0
  obtain ⟨x1, -⟩ := cell_of hc5 1
  simp at x0 x1
  have x0' : ∀ o, (w5.alloc o).cell? ⟨w.heap.size, 0, none⟩ = _ := fun o => keepc (below_one w5 o) _ _ x0
  have x1' : ∀ o, (w5.alloc o).cell? ⟨w.heap.size, 1, none⟩ = _ := fun o => keepc (below_one w5 o) _ _ x1
  have hlw : w.heap.size < w5.heap.size := lt_of_block hc5
  clear ho5 hb5 hb6 HAP hc5
  go_wp2_with fail
  clear x0 x1 x0' x1' hlw
  generalize w5.alloc (.cells #[.slice pa rs.length pc, .int .i64 ny] 26) = w6 at *
  generalize w5.heap.size = Ba at *
  refine (HRA.out w6 (nxt B4.out BB6.out)).mono ?_
  rintro e w7 ⟨v7, rfl, ho7, hb7⟩
  obtain ⟨qa, qc, rfl⟩ := ho7.shape
  simp only at ho7
  have BB8 : Hid (Below w4.heap.size w4 (w7.alloc (.cells #[.slice qa rs.length qc, .int .i64 ny] 24))) := nxt (nxt BB6.out hb7) (below_one _ _)
  have P8 : Hid (OwnS (w7.alloc (.cells #[.slice qa rs.length qc, .int .i64 ny] 24)) w4.heap.size (.slice pa rs.length pc) rs) := (P6.out.below hb7).below (below_one _ _)
  have Q8 : Hid (OwnS (w7.alloc (.cells #[.slice qa rs.length qc, .int .i64 ny] 24)) w4.heap.size (.slice qa rs.length qc) rs) := (ho7.below (below_one _ _)).base BB6.out.size
  have Z8 : Hid ((w7.alloc (.cells #[.slice qa rs.length qc, .int .i64 ny] 24)).heap[Ba]? = some (.cells #[.slice pa rs.length pc, .int .i64 ny] 26 (0, 0))) := ((nxt hb7 (below_one w7 _)).block _ (lt_of_block Z6.out)).trans Z6.out
  have V8 : Hid ((w7.alloc (.cells #[.slice qa rs.length qc, .int .i64 ny] 24)).heap[w7.heap.size]? = some (.cells #[.slice qa rs.length qc, .int .i64 ny] 24 (0, 0))) := heap_alloc_new _ _
  have hw47 : w4.heap.size ≤ w7.heap.size := by have h1 := BB6.out.size; have h2 := hb7.size; omega
  clear ho7 hb7 P6 Z6 BB6 X6 HRA X4 HOF
  go_wp2_with fail
  generalize w7.alloc (.cells #[.slice qa rs.length qc, .int .i64 ny] 24) = w8 at *
  generalize w7.heap.size = Bb at *
  have S8 : Hid (Bs w8 w2.heap.size (.slice sa d.length sc) d) := S4.out.below BB8.out
  have O8 : Hid (OwnS w8 w1.heap.size (.slice oa ss.length oc) ss) := O4.out.below BB8.out
  have Y8 : Hid (w8.heap[Bo]? = some (.cells #[.slice oa ss.length oc, .int .i64 nx] 26 (0, 0))) := (BB8.out.block _ (lt_of_block Y4.out)).trans Y4.out
  have B28 : Hid (Below w2.heap.size w2 w8) := nxt B24.out BB8.out
  have HSA : Hid (∀ g, (Value.slice sa d.length sc).ownBlock = some g → w2.heap.size ≤ g ∧ g < w4.heap.size) := fun g hg => S4.out.base g hg
  have X8 : Hid (Below w.heap.size w w8) := nxt B4.out BB8.out
  have hw24 : w2.heap.size ≤ w4.heap.size := B24.out.size
  have hw122 : w1.heap.size ≤ w2.heap.size := HW12.out
  clear O4 S4 Y4 B4 B24 BB8
  obtain ⟨F, hF⟩ : ∃ F : Nat → Prop, F = fun b => w1.heap.size ≤ b ∧ b < w4.heap.size ∧ ∃ cur, w8.heap[b]? = some (.cells cur 5 (0, 0)) := ⟨_, rfl⟩
  have HF : Hid (∀ b, F b ↔ (w1.heap.size ≤ b ∧ b < w4.heap.size ∧ ∃ cur, w8.heap[b]? = some (.cells cur 5 (0, 0)))) := fun b => by rw [hF]
  clear hF
  have HXB : Hid (∀ (j : Nat) (x : Value) (g : Nat), xs[j]? = some x → x.ownBlock = some g → F g ∧ g < w2.heap.size) := fun j x g hx hg => by
    obtain ⟨h1, h2, cur, h3⟩ := HXI.out.lt HXL.out hx hg
    exact ⟨(HF.out g).2 ⟨h1, by omega, cur, (B28.out.block g h2).trans h3⟩, h2⟩
  have HX8 : Hid (∀ (j : Nat) (l : List UInt8), ss[j]? = some l → ∃ a c, xs[j]? = some (Value.slice a l.length c) ∧ Bs w8 w1.heap.size (.slice a l.length c) l ∧ l.length ≤ 140737488351232) := HXI.out.kpb (KpB.below B28.out)
  have HR8 : Hid (w8.ownsRow w1.heap.size 25 1 (.slice oa ss.length oc) ss.length xs) := ownsRow_same HXR.out fun g hg => B28.out.block g (HXR.out.lt g hg).2
  have HRB : Hid (∀ g, (Value.slice oa ss.length oc).ownBlock = some g → g < w8.heap.size ∧ ¬ F g) := fun g hg => by
    refine ⟨(HR8.out.lt g hg).2, fun h => ?_⟩
    obtain ⟨-, -, cur, h3⟩ := (HF.out g).1 h
    obtain ⟨-, -, cur', h4⟩ := O8.out.row g hg
    rw [h4] at h3
    simp at h3
  have NBo : Hid (¬ F Bo) := fun h => by
    obtain ⟨-, -, cur, h3⟩ := (HF.out Bo).1 h
    rw [Y8.out] at h3
    simp at h3
  have NHi : Hid (∀ b, F b → b < w4.heap.size) := fun b h => ((HF.out b).1 h).2.1
  have NLo : Hid (∀ b, F b → w1.heap.size ≤ b) := fun b h => ((HF.out b).1 h).1
  refine (spoilB_any w2.heap.size _ d w8 S8.out hdl).mono ?_
  rintro e w9 ⟨rfl, hk9⟩
  have K9 : Hid (Kept F w8 w9) := hk9.mono fun b hb => by
    have h1 := HSA.out b hb
    refine (HF.out b).2 ⟨by omega, by omega, ?_⟩
    rcases S8.out.2 with ⟨h4, -⟩ | ⟨g', cap, cur, h4, h5, h6, -⟩
    · rw [h4] at hb; simp [Value.ownBlock] at hb
    · rw [h4] at hb
      simp only [Value.ownBlock, Option.some.injEq] at hb
      subst hb
      exact ⟨cur, h6⟩
  have HX9 : Hid (∀ (j : Nat) (l : List UInt8), 0 ≤ j → ss[j]? = some l → ∃ a c, xs[j]? = some (Value.slice a l.length c) ∧ Bs w9 w1.heap.size (.slice a l.length c) l ∧ l.length ≤ 140737488351232) := fun j l _ hj => by
    obtain ⟨a', c', h1, h2, h3⟩ := HX8.out j l hj
    refine ⟨a', c', h1, ownsRow_same h2 fun g hg => hk9.block g (h2.base g hg).2 fun h => ?_, h3⟩
    have q1 := (HSA.out g h).1
    have q2 := (HXB.out j _ g h1 hg).2
    omega
  clear hk9 HX8 S8
  go_wp2_with fail
  go_loopw [13] (fun i wr => ∃ m : Nat, m ≤ ss.length ∧ i = .int .i64 m ∧ Hid (Kept F w8 wr) ∧ Hid (∀ (j : Nat) (l : List UInt8), m ≤ j → ss[j]? = some l → ∃ a c, xs[j]? = some (Value.slice a l.length c) ∧ Bs wr w1.heap.size (.slice a l.length c) l ∧ l.length ≤ 140737488351232)) (fun i _ => ss.length - (intOf i).toNat)
  case atStart => exact ⟨0, by omega, rfl, K9.out, HX9.out⟩
  case round =>
    obtain ⟨m, hm, rfl, HK, HX⟩ := hrel
    have hyr := (HK.out.block Bo (lt_of_block Y8.out) NBo.out).trans Y8.out
    obtain ⟨y0, -⟩ := cell_of hyr 0
    obtain ⟨y1, -⟩ := cell_of hyr 1
    simp at y0 y1
    by_cases hlt : m < ss.length
    · have hltb : (m : Int) < (ss.length : Int) := by omega
      obtain ⟨l, hl⟩ : ∃ l, ss[m]? = some l := ⟨_, List.getElem?_eq_getElem hlt⟩
      obtain ⟨a1, c1, k1, k2, k3⟩ := HX.out m l (Nat.le_refl _) hl
      obtain ⟨g, rfl, q1⟩ := row_cell (ownsRow_same HR8.out fun g hg => HK.out.block g (HRB.out g hg).1 (HRB.out g hg).2) hlt k1
      have HSP : Hid (Calls Try.prog 29 #[.slice a1 l.length c1] wr _) := spoilB_any w1.heap.size (.slice a1 l.length c1) l wr k2 k3
      have HK1 : Hid (xs[m]? = some (.slice a1 l.length c1)) := k1
      clear k1 k2 hl
      go_wp2_with (go_at_call 29; refine HSP.out.mono ?_; rintro e w10 ⟨rfl, hk10⟩; have K10 : Hid (Kept (fun b => (Value.slice a1 l.length c1).ownBlock = some b) wr w10) := hk10; clear hk10)
      refine ⟨⟨m + 1, by omega, by go_num, HK.out.trans (K10.out.mono fun b hb => (HXB.out m _ b HK1.out hb).1), fun j l' hj hl' => ?_⟩, by simp [intOf]; omega⟩
      obtain ⟨a2, c2, j1, j2, j3⟩ := HX.out j l' (by omega) hl'
      exact ⟨a2, c2, j1, ownsRow_same j2 fun g hg => K10.out.block g (j2.base g hg).2 (fun h => HXA.out m j _ _ g (by omega) HK1.out j1 h hg), j3⟩
    · have hme : m = ss.length := by omega
      subst hme
      have PR : Hid (LayS wr pa rs) := (OwnS.high P8.out fun b h1 h2 => HK.out.block b h2 fun h => by have := NHi.out b h; omega).lay
      have QR : Hid (LayS wr qa rs) := (OwnS.high Q8.out fun b h1 h2 => HK.out.block b h2 fun h => by have := NHi.out b h; omega).lay
      have zr := (HK.out.block Ba (lt_of_block Z8.out) (fun h => by have := NHi.out _ h; omega)).trans Z8.out
      have vr := (HK.out.block Bb (lt_of_block V8.out) (fun h => by have := NHi.out _ h; omega)).trans V8.out
      obtain ⟨z0, -⟩ := cell_of zr 0
      obtain ⟨z1, -⟩ := cell_of zr 1
      obtain ⟨v0, -⟩ := cell_of vr 0
      obtain ⟨v1, -⟩ := cell_of vr 1
      simp at z0 z1 v0 v1
      have BR : Hid (Below w.heap.size w wr) := X8.out.trans (kept_below HK.out X8.out.size fun b h => by have := NLo.out b h; omega)
      have HAL : Hid (Calls Try.prog 17 #[.agg #[.slice pa rs.length pc, .int .i64 ny], .agg #[.slice qa rs.length qc, .int .i64 ny]] wr fun e w' => e = .returned (.int .i64 0) ∧ Below wr.heap.size wr w') := by
        have := alike_any rs rs ny ny pa qa pc qc wr PR.out QR.out (by have h : rs.length ≤ 2000001 := HRL.out; omega)
        rw [if_pos ⟨rfl, rfl⟩] at this
        exact this
      clear zr vr hyr HX
      go_wp2_with (first
        | (go_at_call 18; refine (num_any _ _).mono ?_; rintro e w10 ⟨rfl, hw10⟩; subst w10)
        | (go_at_call 17; refine HAL.out.mono ?_; rintro e w11 ⟨rfl, hb11⟩; have B11 : Hid (Below w.heap.size w w11) := nxt BR.out hb11; clear hb11))
      go_ret
      exact ⟨rfl, B11.out⟩
set_option maxRecDepth 100000 in
set_option maxHeartbeats 1600000 in
theorem lifted (os : Os) (started : os.Started) (H : Type) (enc : TypeId × Value → H) (F : Stop.Interp) :
    ReturnsInHanded {} Try.checked os 8 .any ((Rows.OpenSpec.upto Rows.walOwnSpec).pre6 enc Try.prog Try.f8 Rows.walOwnUptoRow.domain false) (((Rows.OpenSpec.upto Rows.walOwnSpec).at F).post enc Try.prog Try.f8 false true false false) := by
  refine returnsInHanded_of_cond_sized (C := Try.checked) (s := Rows.OpenSpec.upto Rows.walOwnSpec) (k := Rows.uptoSmall) rfl Try.own started (by kernel_rfl) Try.func8
    (OpenSpec.witness (enc := enc) (C := Try.checked) (s := Rows.OpenSpec.upto Rows.walOwnSpec) (k := Rows.uptoSmall) rfl false ⟨#[], #[.agg #[.slice none 0 0, .int .i64 0], .slice none 0 0], []⟩ 8 (by kernel_rfl) (by kernel_rfl) (by kernel_rfl)
      (x := ([.agg [.nil, .lit (.int .i64 0)], .nil], [], [])) (by kernel_rfl) rfl (by kernel_rfl)) ?_
  intro W base args ds gs before hval0 hW _ hk hsz0 _
  have hsz : (DataW.weightsEach Try.prog (Try.f8.params.toList ++ Rows.walOwnSpec.plain.varTypes Try.prog) (ds ++ gs)).all (· ≤ reachBytes) = true := hsz0
  have hval : ∀ (j : Nat) t v, Try.f8.params[j]? = some t → args[j]? = some v → Value.okWide Try.prog W .any base t v := hval0
  have hW' := hW
  obtain ⟨p, q, hA0, hV, rfl, hfz, hnd⟩ := hW'
  have hA : DataW.TrodAll enc Try.prog W 0 (fun _ => true) true Try.f8.params.toList args.toList ds p := hA0
  rw [Try.params8] at hA hval hsz
  obtain ⟨v0, vs0, d0, ds0, p0, q0, hargs, rfl, rfl, h0, r0⟩ := trodAll_cons hA
  obtain ⟨v1, vs1, d1, ds1, p1, q1, rfl, rfl, rfl, h1, r1⟩ := trodAll_cons r0
  obtain ⟨rfl, rfl, rfl⟩ := trodAll_nil r1
  obtain rfl : args = #[v0, v1] := by cases args; simp_all
  obtain ⟨rfl, rfl⟩ := trodVars_none hV
  clear hA0 hval0
  have hW' := hW
  simp only [List.append_nil] at hW' hsz hk
  have hlt : ∀ x ∈ p0 ++ p1, x.block < W.heap.size := fun x hx => hW'.lt x (by simpa using hx)
  have hall : ∀ x ∈ DataW.weightsEach Try.prog [24, 25] [d0, d1], x ≤ reachBytes := fun x hx => of_decide_eq_true (List.all_eq_true.1 hsz x hx)
  have hb := of_decide_eq_true hk
  simp only [Rows.uptoBulkAll] at hb
  have g0 : ∀ x ∈ d0.weights Try.prog 24, x ≤ reachBytes := fun x hx => hall x (DataW.weights_mem_each (j := 0) rfl rfl x hx)
  obtain ⟨u0, l0, m0, m0'⟩ := lg_bulk_arg (hval 0 _ v0 rfl rfl) h0 g0
  have g1 : ∀ x ∈ d1.weights Try.prog 25, x ≤ reachBytes := fun x hx => hall x (DataW.weights_mem_each (j := 1) rfl rfl x hx)
  obtain ⟨u1, l1⟩ := bytes_of_arg (hval 1 _ v1 rfl rfl) h1 g1
  refine (walk u0 v0 u1 v1 W l0 l1 (fun l hl => by have := m0 l hl; omega) (by omega)).mono fun e W' ⟨he, bel⟩ => ?_
  subst he
  exact ⟨_, rfl, _, _, _, [], _, [], hW', trodAll_mk1 (shut_bool Try.underlying4 _), (trodAll_cons_mk (Below.trod Try.laidOut (by kernel_rfl) (of_decide_eq_true (by kernel_rfl)) h0 bel (fun x hx => hlt x (by simp [hx]))) (trodAll_cons_mk (Below.trod Try.laidOut (by kernel_rfl) (of_decide_eq_true (by kernel_rfl)) h1 bel (fun x hx => hlt x (by simp [hx]))) trodAll_mk0)), rfl, bel.frame _, fun h => by cases h⟩

/-- THE STATEMENT. -/
theorem proved : Rows.WalOwnUptoSaid :=
  OpenClaim.holds_of_cond 8 Try.f8 rfl rfl rfl rfl rfl rfl rfl ⟨rfl, rfl, rfl, rfl, rfl⟩ rfl rfl rfl rfl rfl (by kernel_rfl) Try.func8 (by kernel_rfl)
    (of_decide_eq_true (by kernel_rfl)) (by unfold Func.isWrapper; first | (rw [if_pos (by decide +kernel)]; kernel_rfl) | (rw [if_neg (by decide +kernel)]; exact ⟨rfl, rfl⟩))
    (fun os started H enc _ F => lifted os started H enc F)
#print axioms proved
end Go.Proofs.Ytocodkoanjcmkab.walOwn
