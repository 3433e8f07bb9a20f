/-
  OutboxOwn: for every box, every number and every list of effects: what Add and Next answer shares nothing with what was handed in: it is the page's answer also behind the spoiling of all that was handed in. No condition.
-/
import Derived.Test.YtpeghhkhohnkiaaObSpoil
import Derived.Test.YtpeghhkhohnkiaaObArg
namespace Go.Proofs.Ytpeghhkhohnkiaa.outboxOwn
open Go.ChangeShapes Go.WideShapes Go.ChangeAt Go.RowKit Go.Deep

set_option maxRecDepth 100000 in
set_option maxHeartbeats 12800000 in
theorem walk (n : Nat) (bx : Int × List (Tm n)) (x0 : Value) (s : Int) (l : List (Ef n)) (x2 : Value) (w : World) (hb : BoxArg w n x0 bx) (_hs : (Lit.int .i64 s).wf = true) (hl : EffsArg w n x2 l) :
    Calls Try.prog 7 #[x0, .int .i64 s, x2] w fun e w' => e = .returned (.bool true) ∧ Below w.heap.size w w' := by
  obtain ⟨L, its⟩ := bx
  obtain ⟨ia, ic, rfl, hT, -, -⟩ := hb
  obtain ⟨ea, ec, rfl, hE⟩ := hl
  simp only at hT ⊢
  have HT : Hid (TIs w n ia ic its) := hT
  have HE : Hid (EIs w n ea ec l) := hE
  have HOK : Hid ((∀ u ∈ its, TmOk u) ∧ its.length * 104 ≤ 140737488351232) := ⟨hT.2.2.2.2.2.1, hT.2.2.1⟩
  have HEK : Hid ((∀ u ∈ l, EfOk u) ∧ l.length * 96 ≤ 140737488351232) := ⟨hE.2.2.2.2.2.1, hE.2.2.1⟩
  have hlT := hT.2.2.1
  have hlE := hE.2.2.1
  clear hT hE
  obtain ⟨⟨er, Lr, ir⟩, hR⟩ : ∃ R, addR L its s l = R := ⟨_, rfl⟩
  obtain ⟨⟨en, ix⟩, hN⟩ : ∃ R, nextR L its 1000 = R := ⟨_, rfl⟩
  have HIR : Hid ((∀ u ∈ ir, TmOk u) ∧ ir.length * 104 ≤ 140737488351232) := by have := addR_list L s its l; rwa [hR] at this
  have HIX : Hid ((∀ u ∈ ix, TmOk u) ∧ ix.length * 104 ≤ 140737488351232) := by have := nextR_list L 1000 its; rwa [hN] at this
  have CA : Hid (∀ W' a c a' c', TIs W' n a c its → EIs W' n a' c' l → Calls Try.prog 11 #[.agg #[.int .i64 L, .slice a its.length c], .int .i64 s, .slice a' l.length c'] W' (BoxPost W' (er, Lr, ir))) := fun W' a c a' c' h1 h2 => by have := add_any L s its a c l a' c' W' h1 h2; rwa [hR] at this
  have CP : Hid (∀ W' a c a' c', TIs W' n a c its → EIs W' n a' c' l → Calls Try.prog 12 #[.agg #[.int .i64 L, .slice a its.length c], .int .i64 s, .slice a' l.length c'] W' (BoxPost W' (er, Lr, ir))) := fun W' a c a' c' h1 h2 => by have := radd_any L s its a c l a' c' W' h1 h2; rwa [hR] at this
  have CN : Hid (∀ W' a c, TIs W' n a c its → Calls Try.prog 15 #[.agg #[.int .i64 L, .slice a its.length c], .int .i64 1000] W' (ListPost W' (en, ix))) := fun W' a c h1 => by have := next_box L 1000 its a c W' h1 (by decide); rwa [hN] at this
  have CM : Hid (∀ W' a c, TIs W' n a c its → Calls Try.prog 16 #[.agg #[.int .i64 L, .slice a its.length c], .int .i64 1000] W' (ListPost W' (en, ix))) := fun W' a c h1 => by have := rnext_any L 1000 its a c W' h1 (by decide); rwa [hN] at this
  clear hR hN
  have X0 : Hid ((w.alloc (.cells #[.int .i64 L, .slice ia its.length ic] 24)).heap[w.heap.size]? = some (.cells #[.int .i64 L, .slice ia its.length ic] 24 (0, 0))) := heap_alloc_new _ _
  have B0 : Hid (Below w.heap.size w (w.alloc (.cells #[.int .i64 L, .slice ia its.length ic] 24))) := below_one _ _
  go_enter Try.func7, Try.ntmps7
  go_wp2_with fail
  refine (alive_any _).mono ?_
  rintro e w1 ⟨rfl, hb1⟩
  have X1 : Hid (w1.heap[w.heap.size]? = some (.cells #[.int .i64 L, .slice ia its.length ic] 24 (0, 0))) := (hb1.block _ (lt_of_block X0.out)).trans X0.out
  have B1 : Hid (Below w.heap.size w w1) := nxt B0.out hb1
  clear hb1 X0 B0
  obtain ⟨p0, -⟩ := cell_of X1.out 0
  obtain ⟨p1, -⟩ := cell_of X1.out 1
  simp only [List.getElem?_toArray, List.getElem?_cons_zero, List.getElem?_cons_succ] at p0 p1
  go_wp2_with fail
  refine (of_any L its ia ic w1 (HT.out.below B1.out)).mono ?_
  rintro e w2 ⟨v2, H2, rfl, h2⟩
  obtain ⟨a2, c2, rfl⟩ := h2.1.shape
  have H2' : Hid (CopyInv (shT n) w1 w2 (.slice a2 its.length c2) its H2) := h2
  clear h2
  go_wp2_with fail
  refine (copyEffects_any l ea ec w2 (HE.out.below (nxt B1.out H2'.out.2.2))).mono ?_
  rintro e w3 ⟨v3, H3, rfl, h3⟩
  obtain ⟨a3, c3, rfl⟩ := h3.1.shape
  have H3' : Hid (CopyInv (shE n) w2 w3 (.slice a3 l.length c3) l H3) := h3
  clear h3
  have Q4 : Hid ((w3.alloc (.cells #[.int .i64 L, .slice a2 its.length c2] 26)).heap[w3.heap.size]? = some (.cells #[.int .i64 L, .slice a2 its.length c2] 26 (0, 0))) := heap_alloc_new _ _
  have B4 : Hid (Below w3.heap.size w3 (w3.alloc (.cells #[.int .i64 L, .slice a2 its.length c2] 26))) := below_one _ _
  go_wp2_with fail
  generalize w3.alloc (.cells #[.int .i64 L, .slice a2 its.length c2] 26) = W4 at *
  have S2 : Hid (w2.heap.size ≤ w3.heap.size ∧ w1.heap.size ≤ w2.heap.size ∧ w3.heap.size < W4.heap.size) := ⟨H3'.out.2.2.size, H2'.out.2.2.size, lt_of_block Q4.out⟩
  have G2 : Hid (∀ W', Below W4.heap.size W4 W' → OwnR (shT n) W' (.slice a2 its.length c2) its H2) := fun W' hW' => CopyInv.keep H2'.out fun b _ hb => (hW'.block b (by have := S2.out; omega)).trans ((B4.out.block b (by have := S2.out; omega)).trans (H3'.out.2.2.block b hb))
  have G3 : Hid (∀ W', Below W4.heap.size W4 W' → OwnR (shE n) W' (.slice a3 l.length c3) l H3) := fun W' hW' => CopyInv.keep H3'.out fun b _ hb => (hW'.block b (by have := S2.out; omega)).trans (B4.out.block b hb)
  have GT : Hid (∀ W', Below W4.heap.size W4 W' → TIs W' n a2 c2 its) := fun W' hW' => by
    obtain ⟨a, c, e, t⟩ := (G2.out W' hW').tis HOK.out.2 HOK.out.1
    simp only [Value.slice.injEq] at e
    obtain ⟨rfl, -, rfl⟩ := e
    exact t
  have GE : Hid (EIs W4 n a3 c3 l) := by
    obtain ⟨a, c, e, t⟩ := CopyInv.eis (G3.out W4 (Below.refl _ _)) HEK.out.2 HEK.out.1
    simp only [Value.slice.injEq] at e
    obtain ⟨rfl, -, rfl⟩ := e
    exact t
  have B14 : Hid (Below w1.heap.size w1 W4) := nxt H2'.out.2.2 (nxt H3'.out.2.2 B4.out)
  refine (CA.out W4 a2 c2 a3 c3 (GT.out _ (Below.refl _ _)) GE.out).mono ?_
  rintro e w5 ⟨v5, H5, rfl, h5⟩
  obtain ⟨a5, c5, rfl⟩ := h5.1.shape
  have H5' : Hid (CopyInv (shT n) W4 w5 (.slice a5 ir.length c5) ir H5) := h5
  clear h5
  have Q6 : Hid ((w5.alloc (.cells #[.int .i64 Lr, .slice a5 ir.length c5] 26)).heap[w5.heap.size]? = some (.cells #[.int .i64 Lr, .slice a5 ir.length c5] 26 (0, 0))) := heap_alloc_new _ _
  have B6 : Hid (Below w5.heap.size w5 (w5.alloc (.cells #[.int .i64 Lr, .slice a5 ir.length c5] 26))) := below_one _ _
  have XC : Hid (∀ W', Below w1.heap.size w1 W' → W'.cell? ⟨w.heap.size, 0, none⟩ = some (.int .i64 L) ∧ W'.cell? ⟨w.heap.size, 1, none⟩ = some (.slice ia its.length ic)) := fun W' hW' => by
    have h := (hW'.block _ (lt_of_block X1.out)).trans X1.out
    exact ⟨(cell_of h 0).1, (cell_of h 1).1⟩
  obtain ⟨p0, p1⟩ := XC.out _ (nxt B14.out (nxt H5'.out.2.2 B6.out))
  simp only
  go_wp2_with fail
  generalize w5.alloc (.cells #[.int .i64 Lr, .slice a5 ir.length c5] 26) = W6 at *
  have B46 : Hid (Below W4.heap.size W4 W6) := nxt H5'.out.2.2 B6.out
  have B16 : Hid (Below w1.heap.size w1 W6) := nxt B14.out B46.out
  clear p0 p1
  refine (CP.out W6 ia ic ea ec (HT.out.below (nxt B1.out B16.out)) (HE.out.below (nxt B1.out B16.out))).mono ?_
  rintro e w7 ⟨v7, H7, rfl, h7⟩
  obtain ⟨a7, c7, rfl⟩ := h7.1.shape
  have H7' : Hid (CopyInv (shT n) W6 w7 (.slice a7 ir.length c7) ir H7) := h7
  clear h7
  have Q8 : Hid ((w7.alloc (.cells #[.int .i64 Lr, .slice a7 ir.length c7] 24)).heap[w7.heap.size]? = some (.cells #[.int .i64 Lr, .slice a7 ir.length c7] 24 (0, 0))) := heap_alloc_new _ _
  have B8 : Hid (Below w7.heap.size w7 (w7.alloc (.cells #[.int .i64 Lr, .slice a7 ir.length c7] 24))) := below_one _ _
  have OC : Hid (∀ W', Below W4.heap.size W4 W' → W'.cell? ⟨w3.heap.size, 0, none⟩ = some (.int .i64 L) ∧ W'.cell? ⟨w3.heap.size, 1, none⟩ = some (.slice a2 its.length c2)) := fun W' hW' => by
    have h := (hW'.block _ (lt_of_block Q4.out)).trans Q4.out
    exact ⟨(cell_of h 0).1, (cell_of h 1).1⟩
  obtain ⟨p0, p1⟩ := OC.out _ (nxt B46.out (nxt H7'.out.2.2 B8.out))
  simp only
  go_wp2_with fail
  generalize w7.alloc (.cells #[.int .i64 Lr, .slice a7 ir.length c7] 24) = W8 at *
  have B68 : Hid (Below W6.heap.size W6 W8) := nxt H7'.out.2.2 B8.out
  have B48 : Hid (Below W4.heap.size W4 W8) := nxt B46.out B68.out
  clear p0 p1
  refine (CN.out W8 a2 c2 (GT.out _ B48.out)).mono ?_
  rintro e w9 ⟨v9, H9, rfl, h9⟩
  obtain ⟨a9, c9, rfl⟩ := h9.1.shape
  have H9' : Hid (CopyInv (shT n) W8 w9 (.slice a9 ix.length c9) ix H9) := h9
  clear h9
  obtain ⟨p0, p1⟩ := XC.out _ (nxt B16.out (nxt B68.out H9'.out.2.2))
  simp only
  go_wp2_with fail
  clear p0 p1
  refine (CM.out w9 ia ic (HT.out.below (nxt B1.out (nxt B16.out (nxt B68.out H9'.out.2.2))))).mono ?_
  rintro e w10 ⟨v10, H10, rfl, h10⟩
  obtain ⟨a10, c10, rfl⟩ := h10.1.shape
  have H10' : Hid (CopyInv (shT n) w9 w10 (.slice a10 ix.length c10) ix H10) := h10
  clear h10
  have B410 : Hid (Below W4.heap.size W4 w10) := nxt B48.out (nxt H9'.out.2.2 H10'.out.2.2)
  have SZ : Hid (W4.heap.size ≤ w5.heap.size ∧ w5.heap.size < W6.heap.size ∧ W6.heap.size ≤ w7.heap.size ∧ w7.heap.size < W8.heap.size ∧ W8.heap.size ≤ w9.heap.size ∧ w9.heap.size ≤ w10.heap.size) := ⟨H5'.out.2.2.size, lt_of_block Q6.out, H7'.out.2.2.size, lt_of_block Q8.out, H9'.out.2.2.size, H10'.out.2.2.size⟩
  -- what stands behind W4 stays while what is ahead of it is spoilt
  have KEEP : Hid (∀ W', (∀ b, W4.heap.size ≤ b → b < w10.heap.size → W'.heap[b]? = w10.heap[b]?) → (W'.heap[w5.heap.size]? = some (.cells #[.int .i64 Lr, .slice a5 ir.length c5] 26 (0, 0)) ∧ W'.heap[w7.heap.size]? = some (.cells #[.int .i64 Lr, .slice a7 ir.length c7] 24 (0, 0)) ∧ TIs W' n a5 c5 ir ∧ TIs W' n a7 c7 ir ∧ TIs W' n a9 c9 ix ∧ TIs W' n a10 c10 ix)) := by
    intro W' hW'
    have z := SZ.out
    have k9 : ∀ b, b < w9.heap.size → w10.heap[b]? = w9.heap[b]? := fun b hb => H10'.out.2.2.block b hb
    have k8 : ∀ b, b < W8.heap.size → w10.heap[b]? = W8.heap[b]? := fun b hb => (k9 b (by omega)).trans (H9'.out.2.2.block b hb)
    have k7 : ∀ b, b < w7.heap.size → w10.heap[b]? = w7.heap[b]? := fun b hb => (k8 b (by omega)).trans (B8.out.block b hb)
    have k6 : ∀ b, b < W6.heap.size → w10.heap[b]? = W6.heap[b]? := fun b hb => (k7 b (by omega)).trans (H7'.out.2.2.block b hb)
    have k5 : ∀ b, b < w5.heap.size → w10.heap[b]? = w5.heap[b]? := fun b hb => (k6 b (by omega)).trans (B6.out.block b hb)
    have tis : ∀ {W1 W2 : World} {a : Option Addr} {c : Nat} {il : List (Tm n)} {H : Nat → Prop}, CopyInv (shT n) W1 W2 (.slice a il.length c) il H → W4.heap.size ≤ W1.heap.size → W2.heap.size ≤ w10.heap.size → (∀ b, b < W2.heap.size → w10.heap[b]? = W2.heap[b]?) → (∀ u ∈ il, TmOk u) ∧ il.length * 104 ≤ 140737488351232 → TIs W' n a c il := by
      intro W1 W2 a c il H h g1 g2 g3 g4
      obtain ⟨a', c', e, t⟩ := (CopyInv.keep (w3 := W') h fun b k1 k2 => (hW' b (by omega) (by omega)).trans (g3 b k2)).tis g4.2 g4.1
      simp only [Value.slice.injEq] at e
      obtain ⟨rfl, -, rfl⟩ := e
      exact t
    exact ⟨(hW' _ (by omega) (by omega)).trans ((k6 _ (by omega)).trans Q6.out), (hW' _ (by omega) (by omega)).trans ((k8 _ (by omega)).trans Q8.out), tis H5'.out (by omega) (by omega) k5 HIR.out, tis H7'.out (by omega) (by omega) k7 HIR.out, tis H9'.out (by omega) (by omega) k9 HIX.out, tis H10'.out (by omega) (by omega) (fun _ _ => rfl) HIX.out⟩
  have BW10 : Hid (Below w.heap.size w w10) := nxt B1.out (nxt B14.out B410.out)
  have W1S : Hid (w.heap.size ≤ w1.heap.size) := B1.out.size
  obtain ⟨xs2, g2, OX2⟩ : ∃ xs g, OwnX (shT n) w10 (.slice a2 its.length c2) its H2 xs g := G2.out _ B410.out
  have OX : Hid (OwnX (shT n) w10 (.slice a2 its.length c2) its H2 xs2 g2) := OX2
  have HB2 : Hid (∀ b, H2 b → w1.heap.size ≤ b ∧ b < w2.heap.size) := H2'.out.2.1
  have HB3 : Hid (∀ b, H3 b → w2.heap.size ≤ b ∧ b < w3.heap.size) := H3'.out.2.1
  have O3 : Hid (OwnR (shE n) w10 (.slice a3 l.length c3) l H3) := G3.out _ B410.out
  have QP : Hid (w10.heap[w3.heap.size]? = some (.cells #[.int .i64 L, .slice a2 its.length c2] 26 (0, 0))) := (B410.out.block _ (lt_of_block Q4.out)).trans Q4.out
  clear OX2 G2 G3 GT GE B14 B46 B16 B68 B48 B410 Q4 Q6 Q8 B4 B6 B8 H2' H3' H5' H7' H9' H10' XC OC CA CP CN CM X1 B1 HT HE HOK HEK HIR HIX
  simp only
  go_wp2_with fail
  go_loopw [17] (fun i wr => ∃ m : Nat, m ≤ its.length ∧ i = .int .i64 m ∧ Hid (SpR (shT n) w10 wr (.slice a2 its.length c2) its xs2 g2 m)) (fun i _ => its.length - (intOf i).toNat)
  case atStart => exact ⟨0, Nat.zero_le _, rfl, SpR.start OX.out⟩
  case round =>
    obtain ⟨m, hm, rfl, HR⟩ := hrel
    have KP := SpR.kept OX.out HR.out hm
    have hP : Hid (wr.heap[w3.heap.size]? = some (.cells #[.int .i64 L, .slice a2 its.length c2] 26 (0, 0))) := (KP.block _ (lt_of_block QP.out) (fun e => by have := (HB2.out _ e).2; have := S2.out; omega)).trans QP.out
    have y1 : wr.cell? ⟨w3.heap.size, 1, none⟩ = some (.slice a2 its.length c2) := (cell_of hP.out 1).1
    have HKP : Hid (Kept H2 w10 wr) := KP
    clear KP
    by_cases hlt : m < its.length
    · have hm1 : (m : Int) < (its.length : Int) := by omega
      obtain ⟨g, c, k, bb, t, ka, kl, kc, ja, jl, jc, ev, d0, d1, d2, d3, d4, ho, hG, hnx⟩ := SpR.round OX.out rfl (by show 0 < 2; decide) (fun b hb => by have := (HB2.out b hb).2; have := lt_of_block QP.out; have := S2.out; omega) HR.out hlt
      simp only [Value.slice.injEq] at ev
      obtain ⟨rfl, -, rfl⟩ := ev
      have e0 : wr.cell? ⟨g, m * 7 + 2, none⟩ = some (.int .i64 k) := d0
      have e1 : wr.cell? ⟨g, m * 7 + 3, none⟩ = some (.int .u64 bb) := d1
      have e2 : wr.cell? ⟨g, m * 7 + 4, none⟩ = some (.string t) := d2
      have e3 : wr.cell? ⟨g, m * 7 + 5, none⟩ = some (.slice ka kl kc) := d3
      have e4 : wr.cell? ⟨g, m * 7 + 6, none⟩ = some (.slice ja jl jc) := d4
      have HC : Hid (Calls Try.prog 32 #[mk k bb t ka kl kc ja jl jc] wr fun e w' => e = .returned (.tuple #[]) ∧ Kept (g2 m) wr w') := spoil_any n _ _ _ wr ho hG
      have HNX : Hid (∀ w2, Kept (g2 m) wr w2 → (∃ z, w2.cell? ⟨g, m * 7, none⟩ = some z) ∧ w2.frozen? ⟨g, m * 7, none⟩ = false ∧ SpR (shT n) w10 w2 (.slice (some ⟨g, 0, none⟩) its.length c2) its xs2 g2 (m + 1) ∧ ∀ y, SpR (shT n) w10 (w2.setCell ⟨g, m * 7, none⟩ y) (.slice (some ⟨g, 0, none⟩) its.length c2) its xs2 g2 (m + 1)) := hnx
      have HPG : Hid (¬ g2 m w3.heap.size) := fun e => by have := (HB2.out _ (OX.out.2.2.2.1 m _ hlt e).1).2; have := S2.out; omega
      clear d0 d1 d2 d3 d4 ho hG hnx
      go_wp2_with fail
      refine HC.out.mono ?_
      rintro e w11 ⟨rfl, hk⟩
      obtain ⟨⟨z, hz⟩, hf, -, hsp⟩ := HNX.out w11 hk
      have hP2 := (hk.block _ (lt_of_block hP.out) HPG.out).trans hP.out
      have y2 : w11.cell? ⟨w3.heap.size, 1, none⟩ = some (.slice (some ⟨g, 0, none⟩) its.length c2) := (cell_of hP2 1).1
      have SN : Hid _ := hsp (.int .i64 (-1))
      clear hsp hk hP2 e0 e1 e2 e3 e4 y1
      go_wp2_with fail
      go_roundw
      case rel => exact ⟨m + 1, by omega, by go_num, SN.out⟩
      case measure => simp [intOf]; omega
    · obtain ⟨WA, hWA⟩ : ∃ W, W = wr := ⟨_, rfl⟩
      subst hWA
      have O3A : Hid (OwnR (shE n) WA (.slice a3 l.length c3) l H3) := O3.out.same fun b hb => HKP.out.block b (by have := (HB3.out b hb).2; have := lt_of_block QP.out; have := S2.out; omega) (fun e => by have := (HB2.out b e).2; have := (HB3.out b hb).1; omega)
      obtain ⟨xs3, g3, OY0⟩ : ∃ xs g, OwnX (shE n) WA (.slice a3 l.length c3) l H3 xs g := O3A.out
      have OY : Hid (OwnX (shE n) WA (.slice a3 l.length c3) l H3 xs3 g3) := OY0
      have HAS : Hid (w10.heap.size ≤ WA.heap.size) := HKP.out.size
      clear OY0 O3A O3
      go_wp2_with fail
      go_loopw [18] (fun i wr => ∃ m : Nat, m ≤ l.length ∧ i = .int .i64 m ∧ Hid (SpR (shE n) WA wr (.slice a3 l.length c3) l xs3 g3 m)) (fun i _ => l.length - (intOf i).toNat)
      case atStart => exact ⟨0, Nat.zero_le _, rfl, SpR.start OY.out⟩
      case round =>
        obtain ⟨m2, hm2, rfl, HR2⟩ := hrel
        by_cases hlt2 : m2 < l.length
        · have hm1 : (m2 : Int) < (l.length : Int) := by omega
          obtain ⟨g, c, k, bb, t, ka, kl, kc, ja, jl, jc, ev, d0, d1, d2, d3, d4, ho, hG, hnx⟩ := SpR.round OY.out rfl (by show 0 < 1; decide) (fun b hb => by have := (HB3.out b hb).2; have := lt_of_block QP.out; have := S2.out; have := HAS.out; omega) HR2.out hlt2
          simp only [Value.slice.injEq] at ev
          obtain ⟨rfl, -, rfl⟩ := ev
          have e0 : wr.cell? ⟨g, m2 * 6 + 1, none⟩ = some (.int .i64 k) := d0
          have e1 : wr.cell? ⟨g, m2 * 6 + 2, none⟩ = some (.int .u64 bb) := d1
          have e2 : wr.cell? ⟨g, m2 * 6 + 3, none⟩ = some (.string t) := d2
          have e3 : wr.cell? ⟨g, m2 * 6 + 4, none⟩ = some (.slice ka kl kc) := d3
          have e4 : wr.cell? ⟨g, m2 * 6 + 5, none⟩ = some (.slice ja jl jc) := d4
          have HC : Hid (Calls Try.prog 32 #[mk k bb t ka kl kc ja jl jc] wr fun e w' => e = .returned (.tuple #[]) ∧ Kept (g3 m2) wr w') := spoil_any n _ _ _ wr ho hG
          have HNX : Hid (∀ w2, Kept (g3 m2) wr w2 → SpR (shE n) WA w2 (.slice (some ⟨g, 0, none⟩) l.length c3) l xs3 g3 (m2 + 1)) := fun w2 hk => (hnx w2 hk).2.2.1
          clear d0 d1 d2 d3 d4 ho hG hnx
          go_wp2_with fail
          refine HC.out.mono ?_
          rintro e w11 ⟨rfl, hk⟩
          have SN : Hid _ := HNX.out w11 hk
          clear hk e0 e1 e2 e3 e4
          go_wp2_with fail
          go_roundw
          case rel => exact ⟨m2 + 1, by omega, by go_num, SN.out⟩
          case measure => simp [intOf]; omega
        · have K2 := SpR.kept OY.out HR2.out hm2
          have hKW : ∀ b, W4.heap.size ≤ b → b < w10.heap.size → wr.heap[b]? = w10.heap[b]? := fun b k1 k2 => (K2.block b (by have := HAS.out; omega) (fun e => by have := (HB3.out b e).2; have := S2.out; omega)).trans (HKP.out.block b k2 (fun e => by have := (HB2.out b e).2; have := S2.out; omega))
          obtain ⟨q1, q2, t5, t7, t9, t10⟩ := KEEP.out wr hKW
          have BF : Hid (Below w.heap.size w wr) := by
            refine ⟨K2.os.trans (HKP.out.os.trans BW10.out.os), K2.tape.trans (HKP.out.tape.trans BW10.out.tape), K2.output.trans (HKP.out.output.trans BW10.out.output), Nat.le_trans BW10.out.size (Nat.le_trans HKP.out.size K2.size), fun b hb => ?_⟩
            have z := W1S.out
            rw [K2.block b (by have := BW10.out.size; have := HAS.out; omega) (fun e => by have := (HB3.out b e).1; have := S2.out; omega), HKP.out.block b (by have := BW10.out.size; omega) (fun e => by have := (HB2.out b e).1; omega)]
            exact BW10.out.block b hb
          obtain ⟨y0, -⟩ := cell_of q1 0
          obtain ⟨y1', -⟩ := cell_of q1 1
          obtain ⟨z0, -⟩ := cell_of q2 0
          obtain ⟨z1, -⟩ := cell_of q2 1
          simp only [List.getElem?_toArray, List.getElem?_cons_zero, List.getElem?_cons_succ] at y0 y1' z0 z1
          have CL : Hid (Calls Try.prog 17 #[.agg #[.int .i64 Lr, .slice a5 ir.length c5], .agg #[.int .i64 Lr, .slice a7 ir.length c7]] wr _) := alike_any Lr Lr ir ir a5 a7 c5 c7 wr t5 t7
          rw [alk_same] at CL
          have CS : Hid (∀ w', Below wr.heap.size wr w' → Calls Try.prog 19 #[.slice a9 ix.length c9, .slice a10 ix.length c10] w' fun e w'' => e = .returned (.bool true) ∧ Below w'.heap.size w' w'') := fun w' hb => by
            have := sameItems_any ix ix a9 a10 c9 c10 w' (t9.below hb) (t10.below hb)
            rwa [one_true rfl] at this
          clear q1 q2 t5 t7 t9 t10 K2 hKW y1
          go_wp2_with (first
            | (go_at_call 18; refine (num_any _ _).mono ?_; rintro e w12 ⟨rfl, hw12⟩; subst w12)
            | (go_at_call 17; refine CL.out.mono ?_; rintro e w13 ⟨rfl, hb13⟩)
            | (go_at_call 19; refine (CS.out _ hb13).mono ?_; rintro e w14 ⟨rfl, hb14⟩))
          go_ret
          exact ⟨ret_bool (by simp), nxt BF.out (nxt hb13 hb14)⟩

set_option maxRecDepth 100000 in
set_option maxHeartbeats 1600000 in
theorem lifted (os : Os) (started : os.Started) (H : Type) (enc : TypeId × Value → H) :
    ReturnsInHanded {} Try.checked os 7 .any (Rows.outboxOwnSpec.pre6 enc Try.prog Try.f7 Rows.outboxOwnRow.domain false) (Rows.outboxOwnSpec.post enc Try.prog Try.f7 false true false false) := by
  refine returnsInHanded_of_change_sized (C := Try.checked) Try.own started (by kernel_rfl) Try.func7
    (ChangeSpec.witness6 (enc := enc) (C := Try.checked) false ⟨#[], #[.agg #[.int .i64 0, .slice none 0 0], .int .i64 0, .slice none 0 0], []⟩ 8 (by kernel_rfl) (by kernel_rfl) (by kernel_rfl) (by kernel_rfl)) ?_
  intro W base args ds gs before hval0 hW _ hsz0 _
  have hsz : (DataW.weightsEach Try.prog (Try.f7.params.toList ++ Rows.outboxOwnSpec.plain.varTypes Try.prog) (ds ++ gs)).all (· ≤ reachBytes) = true := hsz0
  have hval : ∀ (j : Nat) t v, Try.f7.params[j]? = some t → args[j]? = some v → Value.okWide Try.prog W .any base t v := hval0
  have hW' := hW
  obtain ⟨p, q, hA0, hV, rfl, hfz, hnd⟩ := hW
  have hA : DataW.TrodAll enc Try.prog W 0 (fun _ => true) true Try.f7.params.toList args.toList ds p := hA0
  rw [Try.params7] at hA hval hsz
  obtain ⟨v0, vs0, d0, ds0, p0, q0, hargs, rfl, rfl, h0, r0⟩ := trodAll_cons hA
  obtain ⟨v1, vs1, d1, ds1, p1, q1, rfl, rfl, rfl, h1, r1⟩ := trodAll_cons r0
  obtain ⟨v2, vs2, d2, ds2, p2, q2, rfl, rfl, rfl, h2, r2⟩ := trodAll_cons r1
  obtain ⟨rfl, rfl, rfl⟩ := trodAll_nil r2
  obtain rfl : args = #[v0, v1, v2] := by cases args; simp_all
  obtain ⟨rfl, rfl⟩ := trodVars_none hV
  clear hA0 hval0
  simp only [List.append_nil] at hW' hsz
  have hlt : ∀ x ∈ p0 ++ p1 ++ p2, x.block < W.heap.size := fun x hx => hW'.lt x (by simpa using hx)
  have hall : ∀ x ∈ DataW.weightsEach Try.prog [24, 3, 25] [d0, d1, d2], x ≤ reachBytes := fun x hx => of_decide_eq_true (List.all_eq_true.1 hsz x hx)
  have g0 : ∀ x ∈ d0.weights Try.prog 24, x ≤ reachBytes := fun x hx => hall x (DataW.weights_mem_each (j := 0) rfl rfl x hx)
  obtain ⟨u0, l0⟩ := box_of_arg (k := SizeOf.sizeOf d0 + SizeOf.sizeOf d2) (hval 0 _ v0 rfl rfl) h0 (by omega) g0
  obtain ⟨a1, rfl, rfl, rfl, w1⟩ := open_int Try.underlying3 (hval 1 3 v1 rfl rfl) h1
  have g2 : ∀ x ∈ d2.weights Try.prog 25, x ≤ reachBytes := fun x hx => hall x (DataW.weights_mem_each (j := 2) rfl rfl x hx)
  obtain ⟨u2, l2⟩ := effs_of_arg (k := SizeOf.sizeOf d0 + SizeOf.sizeOf d2) (hval 2 _ v2 rfl rfl) h2 (by omega) g2
  refine (walk _ u0 v0 a1 u2 v2 W l0 w1 l2).mono fun e W' ⟨he, bel⟩ => ?_
  subst he
  exact ⟨_, rfl, _, _, _, [], _, [], hW', trodAll_mk1 (shut_bool Try.underlying4 _), (trodAll_cons_mk (Below.trod Try.laidOut (by kernel_rfl) (of_decide_eq_true (by kernel_rfl)) h0 bel (fun x hx => hlt x (by simp [hx]))) (trodAll_cons_mk (shut_int Try.underlying3 w1) (trodAll_cons_mk (Below.trod Try.laidOut (by kernel_rfl) (of_decide_eq_true (by kernel_rfl)) h2 bel (fun x hx => hlt x (by simp [hx]))) trodAll_mk0))), rfl, bel.frame _, fun h => by cases h⟩

theorem over : Rows.outboxOwnRow.holds Try.pinned (OpenSpec.ofChange Rows.outboxOwnSpec) :=
  OpenClaim.holds_of_wide 7 Try.f7 rfl rfl rfl rfl rfl rfl rfl ⟨rfl, rfl, rfl, rfl, rfl⟩ rfl rfl rfl rfl rfl (by kernel_rfl) Try.func7 (by kernel_rfl)
    (of_decide_eq_true (by kernel_rfl)) (by unfold Func.isWrapper; first | (rw [if_pos (by decide +kernel)]; kernel_rfl) | (rw [if_neg (by decide +kernel)]; exact ⟨rfl, rfl⟩))
    (fun os started H enc _ => lifted os started H enc)

/-- THE STATEMENT. -/
theorem proved : Rows.OutboxOwnSaid := over
#print axioms proved
end Go.Proofs.Ytpeghhkhohnkiaa.outboxOwn
