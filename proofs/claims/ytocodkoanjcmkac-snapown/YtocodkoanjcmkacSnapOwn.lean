/-
  SnapOwn holds for every snapshot: what is answered is its holder's: it stays when what was handed in is written over. No condition.
-/
import Derived.Test.YtocodkoanjcmkacSnLaw
namespace Go.Proofs.Ytocodkoanjcmkac.snapOwn
open Go.ChangeShapes Go.WideShapes Go.ChangeAt Go.RowKit Go.Deep
open Se

/-- Octets stay where other blocks are written over. -/
theorem oct_kept {F : Nat → Prop} {W W' : World} {a : Option Addr} {c : Nat} {d : List UInt8} (h : Oct W a c d) (hk : Kept F W W') (hF : ∀ ad, a = some ad → ¬ F ad.block) : Oct W' a c d := by
  refine ⟨fun i o hi => ?_, h.2⟩
  obtain ⟨b, off, e, hc⟩ := h.1 i o hi
  subst e
  refine ⟨b, off, rfl, ?_⟩
  have hl : b < W.heap.size := lt_of_cell hc
  have hb := hk.block b hl (hF _ rfl)
  simp only [World.cell?] at hc ⊢
  rw [hb]
  exact hc

set_option maxRecDepth 100000 in
set_option maxHeartbeats 6400000 in
theorem walk (s : Sn) (x : Value) (w : World) (hs : SnIs w x s) :
    Calls Try.prog 7 #[x] w fun e w' => e = .returned (.bool true) ∧ Below w.heap.size w w' := by
  obtain ⟨e, q, d⟩ := s
  obtain ⟨a, c, rfl, hkb, ho, hdl⟩ := hs
  simp only at hkb ho hdl ⊢
  have HO : Hid (Oct w a c d) := ho
  clear ho
  have X0 : Hid ((w.alloc (.cells #[.int .i64 e, .int .i64 q, .slice a d.length c] 24)).heap[w.heap.size]? = some (.cells #[.int .i64 e, .int .i64 q, .slice a d.length c] 24 (0, 0))) := heap_alloc_new _ _
  have B0 : Hid (Below w.heap.size w (w.alloc (.cells #[.int .i64 e, .int .i64 q, .slice a d.length c] 24))) := below_one _ _
  go_enter Try.func7, Try.ntmps7
  go_wp2_with fail
  refine (alive_any _).mono ?_
  rintro y w1 ⟨rfl, hb1⟩
  have X1 : Hid (w1.heap[w.heap.size]? = some (.cells #[.int .i64 e, .int .i64 q, .slice a d.length c] 24 (0, 0))) := (hb1.block _ (lt_of_block X0.out)).trans X0.out
  have B1 : Hid (Below w.heap.size w w1) := nxt B0.out hb1
  clear hb1 X0 B0
  obtain ⟨x0, -⟩ := cell_of X1.out 0
  obtain ⟨x1, -⟩ := cell_of X1.out 1
  obtain ⟨x2, -⟩ := cell_of X1.out 2
  simp at x0 x1 x2
  go_wp2_with fail
  refine (of_any e q a c d w1 (HO.out.below B1.out) hdl).mono ?_
  rintro y w2 ⟨s2, rfl, hs2, hb2⟩
  obtain ⟨a2, c2, rfl⟩ := hs2.shape
  have S3 : Hid (Bs (w2.alloc (.cells #[.int .i64 e, .int .i64 q, .slice a2 d.length c2] 25)) (w.heap.size + 1) (.slice a2 d.length c2) d) := (hs2.below (below_one _ _)).up fun g hg => by have := (hs2.base g hg).1; have := lt_of_block X1.out; omega
  have S3' : Hid (∀ g, (Value.slice a2 d.length c2).ownBlock = some g → g < w2.heap.size) := fun g hg => (hs2.base g hg).2
  have X3 : Hid ((w2.alloc (.cells #[.int .i64 e, .int .i64 q, .slice a2 d.length c2] 25)).heap[w.heap.size]? = some (.cells #[.int .i64 e, .int .i64 q, .slice a d.length c] 24 (0, 0))) := ((nxt hb2 (below_one _ _)).block _ (lt_of_block X1.out)).trans X1.out
  have Y3 : Hid ((w2.alloc (.cells #[.int .i64 e, .int .i64 q, .slice a2 d.length c2] 25)).heap[w2.heap.size]? = some (.cells #[.int .i64 e, .int .i64 q, .slice a2 d.length c2] 25 (0, 0))) := heap_alloc_new _ _
  have B3 : Hid (Below w.heap.size w (w2.alloc (.cells #[.int .i64 e, .int .i64 q, .slice a2 d.length c2] 25))) := nxt (nxt B1.out hb2) (below_one _ _)
  have hw12 : w.heap.size < w2.heap.size := Nat.lt_of_lt_of_le (lt_of_block X1.out) hb2.size
  clear hs2 hb2 X1 B1 x0 x1 x2
  go_upto_region 4 with fail
  generalize w2.alloc (.cells #[.int .i64 e, .int .i64 q, .slice a2 d.length c2] 25) = w3 at *
  generalize w2.heap.size = g2 at *
  obtain ⟨y0, -⟩ := cell_of Y3.out 0
  obtain ⟨y1, -⟩ := cell_of Y3.out 1
  obtain ⟨y2, -⟩ := cell_of Y3.out 2
  simp at y0 y1 y2
  go_wp2_with fail
  by_cases hck : chkS e q d.length = 0
  · refine (encode_ok (S3.out.oct (by omega)) hck).mono ?_
    rintro y w4 ⟨a4, c4, rfl, hs4, hb4⟩
    have HDS : Hid (decR (slotO e q d) = (0, e, q, d)) := dec_slot hck
    have HLS : Hid ((slotO e q d).length = 8160) := slotO_length (chk_ok hck).2.2
    clear hck
    generalize slotO e q d = S at *
    have S4 : Hid (Bs w4 w3.heap.size (.slice a4 8160 c4) S) := hs4
    have D4 : Hid (Bs w4 (w.heap.size + 1) (.slice a2 d.length c2) d) := S3.out.below hb4
    have X4 : Hid (w4.heap[w.heap.size]? = some (.cells #[.int .i64 e, .int .i64 q, .slice a d.length c] 24 (0, 0))) := (hb4.block _ (lt_of_block X3.out)).trans X3.out
    have Y4 : Hid (w4.heap[g2]? = some (.cells #[.int .i64 e, .int .i64 q, .slice a2 d.length c2] 25 (0, 0))) := (hb4.block _ (lt_of_block Y3.out)).trans Y3.out
    have B4 : Hid (Below w.heap.size w w4) := nxt B3.out hb4
    have HW : Hid (g2 < w3.heap.size) := lt_of_block Y3.out
    have H34 : Hid (w3.heap.size ≤ w4.heap.size) := hb4.size
    clear hs4 hb4 X3 Y3 B3 S3 y0 y1 y2
    obtain ⟨y0, -⟩ := cell_of Y4.out 0
    obtain ⟨y1, -⟩ := cell_of Y4.out 1
    obtain ⟨y2, -⟩ := cell_of Y4.out 2
    simp at y0 y1 y2
    go_wp2_with (go_at_call 17; refine (num_any _ _).mono ?_; rintro y w5 ⟨rfl, hw5⟩; subst w5)
    refine (spoilB_any (w.heap.size + 1) _ d w4 D4.out hdl).mono ?_
    rintro y w5 ⟨rfl, hk5⟩
    have S5 : Hid (Bs w5 w3.heap.size (.slice a4 8160 c4) S) := ownsRow_same S4.out fun g hg => hk5.block g (S4.out.base g hg).2 fun e => by have h1 := (S4.out.base g hg).1; have h2 := S3'.out g e; have h3 := HW.out; omega
    have K5 : Below (w.heap.size + 1) w4 w5 := kept_below hk5 (by have := lt_of_block X4.out; omega) fun b e => (D4.out.base b e).1
    have X5 : Hid (w5.heap[w.heap.size]? = some (.cells #[.int .i64 e, .int .i64 q, .slice a d.length c] 24 (0, 0))) := (K5.block _ (by omega)).trans X4.out
    have B5 : Hid (Below w.heap.size w w5) := B4.out.trans (K5.mono (by omega))
    clear hk5 K5 X4 Y4 B4 S4 D4 y0 y1 y2
    have HD5 : Hid (Calls Try.prog 12 #[.slice a4 8160 c4] w5 (DecPost w5 (0, e, q, d))) := by
      have := decode_any a4 c4 S w5 (S5.out.oct (by rw [HLS.out]; omega))
      rw [HDS.out, HLS.out] at this
      exact this
    go_wp2_with fail
    refine HD5.out.mono ?_
    rintro y w6 ⟨a6, c6, rfl, ho6, hbk6, hb6⟩
    simp only at ho6 ⊢
    have O7 : Hid (Oct (w6.alloc (.cells #[.int .i64 e, .int .i64 q, .slice a6 d.length c6] 25)) a6 c6 d) := ho6.below (below_one _ _)
    have K7 : Hid (∀ ad, a6 = some ad → w5.heap.size ≤ ad.block) := hbk6
    have F7 : Hid (Bs (w6.alloc (.cells #[.int .i64 e, .int .i64 q, .slice a6 d.length c6] 25)) w3.heap.size (.slice a4 8160 c4) S) := (S5.out.below hb6).below (below_one _ _)
    have F7' : Hid (∀ g, (Value.slice a4 8160 c4).ownBlock = some g → w3.heap.size ≤ g ∧ g < w5.heap.size) := fun g hg => S5.out.base g hg
    have X7 : Hid ((w6.alloc (.cells #[.int .i64 e, .int .i64 q, .slice a6 d.length c6] 25)).heap[w.heap.size]? = some (.cells #[.int .i64 e, .int .i64 q, .slice a d.length c] 24 (0, 0))) := ((nxt hb6 (below_one _ _)).block _ (lt_of_block X5.out)).trans X5.out
    have Y7 : Hid ((w6.alloc (.cells #[.int .i64 e, .int .i64 q, .slice a6 d.length c6] 25)).heap[w6.heap.size]? = some (.cells #[.int .i64 e, .int .i64 q, .slice a6 d.length c6] 25 (0, 0))) := heap_alloc_new _ _
    have B7 : Hid (Below w.heap.size w (w6.alloc (.cells #[.int .i64 e, .int .i64 q, .slice a6 d.length c6] 25))) := nxt (nxt B5.out hb6) (below_one _ _)
    have HW6 : Hid (w5.heap.size ≤ w6.heap.size) := hb6.size
    clear ho6 hbk6 hb6 X5 B5 S5 HD5
    go_upto_region 9 with fail
    generalize w6.alloc (.cells #[.int .i64 e, .int .i64 q, .slice a6 d.length c6] 25) = w7 at *
    generalize w6.heap.size = g6 at *
    go_wp2_with fail
    have HSP : Hid (Calls Try.prog 23 #[.slice a4 8160 c4] w7 fun e w' => e = .returned (.tuple #[]) ∧ Kept (fun b => (Value.slice a4 8160 c4).ownBlock = some b) w7 w') := spoilB_any w3.heap.size (.slice a4 8160 c4) S w7 F7.out (by rw [HLS.out]; omega)
    refine HSP.out.mono ?_
    rintro y w8 ⟨rfl, hk8⟩
    have O8 : Hid (Oct w8 a6 c6 d) := oct_kept O7.out hk8 fun ad h e => by have h1 := K7.out ad h; have h2 := F7'.out _ e; omega
    have hg26 := HW.out
    have X8 : Hid (w8.heap[w.heap.size]? = some (.cells #[.int .i64 e, .int .i64 q, .slice a d.length c] 24 (0, 0))) := (hk8.block _ (lt_of_block X7.out) (fun e => by have := (F7'.out _ e).1; omega)).trans X7.out
    have Y8 : Hid (w8.heap[g6]? = some (.cells #[.int .i64 e, .int .i64 q, .slice a6 d.length c6] 25 (0, 0))) := (hk8.block _ (lt_of_block Y7.out) (fun e => by have := (F7'.out _ e).2; have := HW6.out; omega)).trans Y7.out
    have B8 : Hid (Below w.heap.size w w8) := B7.out.trans (kept_below hk8 B7.out.size fun b e => by have := (F7'.out _ e).1; omega)
    clear hk8 O7 K7 F7 F7' X7 Y7 B7 HSP
    obtain ⟨y0, -⟩ := cell_of Y8.out 0
    obtain ⟨y1, -⟩ := cell_of Y8.out 1
    obtain ⟨y2, -⟩ := cell_of Y8.out 2
    obtain ⟨x0, -⟩ := cell_of X8.out 0
    obtain ⟨x1, -⟩ := cell_of X8.out 1
    obtain ⟨x2, -⟩ := cell_of X8.out 2
    simp at y0 y1 y2 x0 x1 x2
    go_wp2_with (go_at_call 17; refine (num_any _ _).mono ?_; rintro y w9 ⟨rfl, hw9⟩; subst w9)
    have CS := same_any e q e q a6 a c6 c d d w8 O8.out.1 (HO.out.below B8.out).1
    simp only [beq_self_eq_true, Bool.and_self] at CS
    refine CS.mono ?_
    rintro y w9 ⟨rfl, hb9⟩
    have B9 : Hid (Below w.heap.size w w9) := nxt B8.out hb9
    clear CS hb9 O8 X8 Y8 B8 x0 x1 x2 y0 y1 y2
    go_wp2_with fail
    go_ret
    exact ⟨rfl, B9.out⟩
  · have HE := encode_any e q a2 c2 d w3 (S3.out.oct (by omega))
    rw [enc_bad hck] at HE
    have hne : (chkS e q d.length == 0) = false := by simpa using hck
    have hne' : (chkS e q d.length != 0) = true := by simpa using hck
    clear hck
    generalize chkS e q d.length = ck at *
    refine HE.mono ?_
    rintro y w4 ⟨s4, rfl, hs4, hb4⟩
    obtain ⟨a4, c4, rfl⟩ := hs4.shape
    have B4 : Hid (Below w.heap.size w w4) := nxt B3.out hb4
    clear hs4 hb4 HE B3 X3 Y3 S3 y0 y1 y2
    go_wp2_with (go_at_call 17; refine (num_any _ _).mono ?_; rintro y w5 ⟨rfl, hw5⟩; subst w5)
    go_ret
    exact ⟨rfl, B4.out⟩

set_option maxRecDepth 100000 in
set_option maxHeartbeats 1600000 in
theorem lifted (os : Os) (started : os.Started) (H : Type) (enc : TypeId × Value → H) :
    ReturnsInHanded {} Try.checked os 7 .any (Rows.snapOwnSpec.pre6 enc Try.prog Try.f7 Rows.snapOwnRow.domain false) (Rows.snapOwnSpec.post enc Try.prog Try.f7 false true false false) := by
  refine returnsInHanded_of_change_sized (C := Try.checked) Try.own started (by kernel_rfl) Try.func7
    (ChangeSpec.witness6 (enc := enc) (C := Try.checked) false ⟨#[], #[.agg #[.int .i64 0, .int .i64 0, .slice none 0 0]], []⟩ 8 (by kernel_rfl) (by kernel_rfl) (by kernel_rfl) (by kernel_rfl)) ?_
  intro W base args ds gs before hval0 hW _ hsz0 _
  have hsz : (DataW.weightsEach Try.prog (Try.f7.params.toList ++ Rows.snapOwnSpec.plain.varTypes Try.prog) (ds ++ gs)).all (· ≤ reachBytes) = true := hsz0
  have hval : ∀ (j : Nat) t v, Try.f7.params[j]? = some t → args[j]? = some v → Value.okWide Try.prog W .any base t v := hval0
  have hW' := hW
  obtain ⟨p, q, hA0, hV, rfl, hfz, hnd⟩ := hW
  have hA : DataW.TrodAll enc Try.prog W 0 (fun _ => true) true Try.f7.params.toList args.toList ds p := hA0
  rw [Try.params7] at hA hval hsz
  obtain ⟨v0, vs0, d0, ds0, p0, q0, hargs, rfl, rfl, h0, r0⟩ := trodAll_cons hA
  obtain ⟨rfl, rfl, rfl⟩ := trodAll_nil r0
  obtain rfl : args = #[v0] := by cases args; simp_all
  obtain ⟨rfl, rfl⟩ := trodVars_none hV
  clear hA0 hval0
  simp only [List.append_nil] at hW' hsz
  have hlt : ∀ x ∈ p0, x.block < W.heap.size := fun x hx => hW'.lt x (by simpa using hx)
  have hall : ∀ x ∈ DataW.weightsEach Try.prog [24] [d0], x ≤ reachBytes := fun x hx => of_decide_eq_true (List.all_eq_true.1 hsz x hx)
  have g0 : ∀ x ∈ d0.weights Try.prog 24, x ≤ reachBytes := fun x hx => hall x (DataW.weights_mem_each (j := 0) rfl rfl x hx)
  obtain ⟨u0, l0⟩ := sn_of_arg (hval 0 _ v0 rfl rfl) h0 g0
  refine (walk u0 v0 W l0).mono fun e W' ⟨he, bel⟩ => ?_
  subst he
  exact ⟨_, rfl, _, _, _, [], _, [], hW', trodAll_mk1 (shut_bool Try.underlying4 _), (trodAll_cons_mk (Below.trod Try.laidOut (by kernel_rfl) (of_decide_eq_true (by kernel_rfl)) h0 bel (fun x hx => hlt x (by simp [hx]))) trodAll_mk0), rfl, bel.frame _, fun h => by cases h⟩

theorem over : Rows.snapOwnRow.holds Try.pinned (OpenSpec.ofChange Rows.snapOwnSpec) :=
  OpenClaim.holds_of_wide 7 Try.f7 rfl rfl rfl rfl rfl rfl rfl ⟨rfl, rfl, rfl, rfl, rfl⟩ rfl rfl rfl rfl rfl (by kernel_rfl) Try.func7 (by kernel_rfl)
    (of_decide_eq_true (by kernel_rfl)) (by unfold Func.isWrapper; first | (rw [if_pos (by decide +kernel)]; kernel_rfl) | (rw [if_neg (by decide +kernel)]; exact ⟨rfl, rfl⟩))
    (fun os started H enc _ => lifted os started H enc)

/-- THE STATEMENT. -/
theorem proved : Rows.SnapOwnSaid := over
#print axioms proved
end Go.Proofs.Ytocodkoanjcmkac.snapOwn
