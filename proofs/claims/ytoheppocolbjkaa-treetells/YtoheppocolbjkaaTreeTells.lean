/-
  TreeTells: for every tree: whether it may be, its size, its print and its texts are as the page says; it stays. No condition.
-/
import Derived.Test.YtoheppocolbjkaaTrRPrint
import Derived.Test.YtoheppocolbjkaaTrCopy
import Derived.Test.YtoheppocolbjkaaTrSame
import Derived.Test.YtoheppocolbjkaaTrPair
namespace Go.Proofs.Ytoheppocolbjkaa.treeTells
open Go.ChangeShapes Go.WideShapes Go.ChangeAt Go.RowKit

set_option maxRecDepth 100000 in
set_option maxHeartbeats 12800000 in
theorem walk (n : Nat) (v : T n) (x : Value) (w : World) (hv : LayT w n x v) :
    Calls Try.prog 3 #[x] w fun e w' => e = .returned (.bool true) ∧ Below w.heap.size w w' := by
  obtain ⟨g, k, t, aa, al, ac, ia, il, ic, rfl⟩ := LayT.shape n hv
  have HV : Hid (LayT w n (mkT g k t aa al ac ia il ic) v) := hv
  clear hv
  go_enter Try.func3, Try.ntmps3
  go_wp2_with fail
  refine (copyT_any n v _ _ (HV.out.below n (below_one _ _))).mono ?_
  rintro e w1 ⟨y, F, rfl, ho, -, hb1⟩
  have hl := OwnT.lay n ho
  obtain ⟨g2, k2, t2, aa2, al2, ac2, ia2, il2, ic2, rfl⟩ := LayT.shape n hl
  have X1 := boxed hb1
  have B1 := nxt (below_one _ _) hb1
  have HB2 : Hid (Below w.heap.size w (w1.alloc (.cells #[.string g2, .string k2, .string t2, .slice aa2 al2 ac2, .slice ia2 il2 ic2] 25))) := nxt B1 (below_one _ _)
  have XA : Hid ((w1.alloc (.cells #[.string g2, .string k2, .string t2, .slice aa2 al2 ac2, .slice ia2 il2 ic2] 25)).heap[w.heap.size]? = some (.cells #[.string g, .string k, .string t, .slice aa al ac, .slice ia il ic] 25 (0, 0))) := ((below_one w1 _).block _ (lt_of_block X1)).trans X1
  have XB : Hid ((w1.alloc (.cells #[.string g2, .string k2, .string t2, .slice aa2 al2 ac2, .slice ia2 il2 ic2] 25)).heap[w1.heap.size]? = some (.cells #[.string g2, .string k2, .string t2, .slice aa2 al2 ac2, .slice ia2 il2 ic2] 25 (0, 0))) := heap_alloc_new _ _
  have HL : Hid (LayT (w1.alloc (.cells #[.string g2, .string k2, .string t2, .slice aa2 al2 ac2, .slice ia2 il2 ic2] 25)) n (mkT g2 k2 t2 aa2 al2 ac2 ia2 il2 ic2) v) := hl.below n (below_one _ _)
  clear ho hl hb1 X1 B1
  have XC : Hid (∀ W, Below (w1.alloc (.cells #[.string g2, .string k2, .string t2, .slice aa2 al2 ac2, .slice ia2 il2 ic2] 25)).heap.size (w1.alloc (.cells #[.string g2, .string k2, .string t2, .slice aa2 al2 ac2, .slice ia2 il2 ic2] 25)) W → W.heap[w.heap.size]? = some (.cells #[.string g, .string k, .string t, .slice aa al ac, .slice ia il ic] 25 (0, 0)) ∧ W.heap[w1.heap.size]? = some (.cells #[.string g2, .string k2, .string t2, .slice aa2 al2 ac2, .slice ia2 il2 ic2] 25 (0, 0)) ∧ Below w.heap.size w W ∧ LayT W n (mkT g k t aa al ac ia il ic) v ∧ LayT W n (mkT g2 k2 t2 aa2 al2 ac2 ia2 il2 ic2) v) :=
    fun W h => ⟨(h.block _ (lt_of_block XA.out)).trans XA.out, (h.block _ (lt_of_block XB.out)).trans XB.out, nxt HB2.out h, HV.out.below n (nxt HB2.out h), HL.out.below n h⟩
  clear HV HL
  obtain ⟨y0, y1, y2, y3, y4, -⟩ := box_cells XB.out
  generalize hW2 : w1.alloc (.cells #[.string g2, .string k2, .string t2, .slice aa2 al2 ac2, .slice ia2 il2 ic2] 25) = W2 at *
  go_wp2_with fail
  clear hW2
  have D0 : Hid (Below W2.heap.size W2 W2) := Below.refl _ _
  refine (size_any n v _ _ (XC.out _ D0.out).2.2.2.2).mono ?_
  rintro e v1 ⟨rfl, hb1⟩
  have D1 : Hid (Below W2.heap.size W2 v1) := nxt D0.out hb1
  clear hb1 y0 y1 y2 y3 y4
  obtain ⟨y0, y1, y2, y3, y4, -⟩ := box_cells (XC.out _ D1.out).1
  go_wp2_with fail
  refine (rsize_any n v _ _ (XC.out _ D1.out).2.2.2.1).mono ?_
  rintro e v2 ⟨rfl, hb2⟩
  have D2 : Hid (Below W2.heap.size W2 v2) := nxt D1.out hb2
  clear hb2 y0 y1 y2 y3 y4
  obtain ⟨y0, y1, y2, y3, y4, -⟩ := box_cells (XC.out _ D2.out).2.1
  go_wp2_with fail
  refine (print_any n v _ _ (XC.out _ D2.out).2.2.2.2).mono ?_
  rintro e v3 ⟨rfl, hb3⟩
  have D3 : Hid (Below W2.heap.size W2 v3) := nxt D2.out hb3
  clear hb3 y0 y1 y2 y3 y4
  obtain ⟨y0, y1, y2, y3, y4, -⟩ := box_cells (XC.out _ D3.out).1
  go_wp2_with fail
  refine (rPrint_any n v _ _ (XC.out _ D3.out).2.2.2.1).mono ?_
  rintro e v4 ⟨rfl, hb4⟩
  have D4 : Hid (Below W2.heap.size W2 v4) := nxt D3.out hb4
  clear hb4 y0 y1 y2 y3 y4
  obtain ⟨y0, y1, y2, y3, y4, -⟩ := box_cells (XC.out _ D4.out).2.1
  go_wp2_with fail
  refine (texts_any n v _ _ (XC.out _ D4.out).2.2.2.2).mono ?_
  rintro e v5 ⟨rfl, hb5⟩
  have D5 : Hid (Below W2.heap.size W2 v5) := nxt D4.out hb5
  clear hb5 y0 y1 y2 y3 y4
  obtain ⟨y0, y1, y2, y3, y4, -⟩ := box_cells (XC.out _ D5.out).1
  go_wp2_with fail
  refine (rTexts_any n v _ _ (XC.out _ D5.out).2.2.2.1).mono ?_
  rintro e v6 ⟨rfl, hb6⟩
  have D6 : Hid (Below W2.heap.size W2 v6) := nxt D5.out hb6
  clear hb6 y0 y1 y2 y3 y4
  have C1 : Hid (∀ W, Below v6.heap.size v6 W → Calls Try.prog 17 #[mkT g2 k2 t2 aa2 al2 ac2 ia2 il2 ic2] W fun e w' => e = .returned (.int .i64 (sizeT v).1) ∧ Below W.heap.size W w') := fun W h => check_any n v _ W (XC.out _ (nxt D6.out h)).2.2.2.2
  have C2 : Hid (∀ W, Below v6.heap.size v6 W → Calls Try.prog 18 #[mkT g k t aa al ac ia il ic] W fun e w' => e = .returned (.int .i64 (sizeT v).1) ∧ Below W.heap.size W w') := fun W h => rcheck_any n v _ W (XC.out _ (nxt D6.out h)).2.2.2.1
  have C3 : Hid (∀ W, Below v6.heap.size v6 W → Calls Try.prog 19 #[mkT g2 k2 t2 aa2 al2 ac2 ia2 il2 ic2, mkT g k t aa al ac ia il ic] W fun e w' => e = .returned (.bool true) ∧ Below W.heap.size W w') := fun W h => by
    have := sameT_any n v v _ _ W (XC.out _ (nxt D6.out h)).2.2.2.2 (XC.out _ (nxt D6.out h)).2.2.2.1
    rw [one_true rfl] at this
    exact this
  have p0 : ∀ s : Cls v6, s.1.cell? ⟨w.heap.size, 0, none⟩ = some (.string g) := fun s => (box_cells (XC.out _ (nxt D6.out s.2)).1).1
  have p1 : ∀ s : Cls v6, s.1.cell? ⟨w.heap.size, 1, none⟩ = some (.string k) := fun s => (box_cells (XC.out _ (nxt D6.out s.2)).1).2.1
  have p2 : ∀ s : Cls v6, s.1.cell? ⟨w.heap.size, 2, none⟩ = some (.string t) := fun s => (box_cells (XC.out _ (nxt D6.out s.2)).1).2.2.1
  have p3 : ∀ s : Cls v6, s.1.cell? ⟨w.heap.size, 3, none⟩ = some (.slice aa al ac) := fun s => (box_cells (XC.out _ (nxt D6.out s.2)).1).2.2.2.1
  have p4 : ∀ s : Cls v6, s.1.cell? ⟨w.heap.size, 4, none⟩ = some (.slice ia il ic) := fun s => (box_cells (XC.out _ (nxt D6.out s.2)).1).2.2.2.2.1
  have q0 : ∀ s : Cls v6, s.1.cell? ⟨w1.heap.size, 0, none⟩ = some (.string g2) := fun s => (box_cells (XC.out _ (nxt D6.out s.2)).2.1).1
  have q1 : ∀ s : Cls v6, s.1.cell? ⟨w1.heap.size, 1, none⟩ = some (.string k2) := fun s => (box_cells (XC.out _ (nxt D6.out s.2)).2.1).2.1
  have q2 : ∀ s : Cls v6, s.1.cell? ⟨w1.heap.size, 2, none⟩ = some (.string t2) := fun s => (box_cells (XC.out _ (nxt D6.out s.2)).2.1).2.2.1
  have q3 : ∀ s : Cls v6, s.1.cell? ⟨w1.heap.size, 3, none⟩ = some (.slice aa2 al2 ac2) := fun s => (box_cells (XC.out _ (nxt D6.out s.2)).2.1).2.2.2.1
  have q4 : ∀ s : Cls v6, s.1.cell? ⟨w1.heap.size, 4, none⟩ = some (.slice ia2 il2 ic2) := fun s => (box_cells (XC.out _ (nxt D6.out s.2)).2.1).2.2.2.2.1
  have inst : Nonempty (Cls v6) := ⟨⟨_, Below.refl _ _⟩⟩
  have HF : Hid (∀ s : Cls v6, Below w.heap.size w s.1) := fun s => (XC.out _ (nxt D6.out s.2)).2.2.1
  clear XA XB XC D0 D1 D2 D3 D4 D5 D6 HB2
  generalize (sizeT v).1 = er at *
  generalize (sizeT v).2.1 = cr at *
  generalize (sizeT v).2.2 = dr at *
  generalize prB v = pr at *
  generalize txB v = tx at *
  go_wp2_with fail
  refine wp_region_cls (by kernel_rfl) (by kernel_rfl) ?_
  repeat (go_big_quiet_step (first | (go_at_call 17; exact Calls.cls (C1.out _ (Subtype.property _))) | (go_at_call 16; exact Calls.cls_same (num_any _ _)) | (go_at_call 18; exact Calls.cls (C2.out _ (Subtype.property _))) | (go_at_call 19; exact Calls.cls (C3.out _ (Subtype.property _))) | (go_at_call 20; exact Calls.cls (alive_any _))))
  refine wpQuiet_nil ?_
  intro _ hw'
  obtain ⟨s, hw''⟩ := hw'
  subst hw''
  go_wp2_with fail
  go_ret
  exact ⟨ret_bool (by simp), HF.out s⟩

set_option maxRecDepth 100000 in
set_option maxHeartbeats 1600000 in
theorem lifted (os : Os) (started : os.Started) (H : Type) (enc : TypeId × Value → H) :
    ReturnsInHanded {} Try.checked os 3 .any (Rows.treeTellsSpec.pre6 enc Try.prog Try.f3 Rows.treeTellsRow.domain false) (Rows.treeTellsSpec.post enc Try.prog Try.f3 false true false false) := by
  refine returnsInHanded_of_change_sized (C := Try.checked) Try.own started (by kernel_rfl) Try.func3
    (ChangeSpec.witness6 (enc := enc) (C := Try.checked) false ⟨#[], #[.agg #[.string ⟨#[]⟩, .string ⟨#[]⟩, .string ⟨#[]⟩, .slice none 0 0, .slice none 0 0]], []⟩ 8 (by kernel_rfl) (by kernel_rfl) (by kernel_rfl) (by kernel_rfl)) ?_
  intro W base args ds gs before hval0 hW _ hsz0 _
  have hsz : (DataW.weightsEach Try.prog (Try.f3.params.toList ++ Rows.treeTellsSpec.plain.varTypes Try.prog) (ds ++ gs)).all (· ≤ reachBytes) = true := hsz0
  have hval : ∀ (j : Nat) t v, Try.f3.params[j]? = some t → args[j]? = some v → Value.okWide Try.prog W .any base t v := hval0
  have hW' := hW
  obtain ⟨p, q, hA0, hV, rfl, hfz, hnd⟩ := hW
  have hA : DataW.TrodAll enc Try.prog W 0 (fun _ => true) true Try.f3.params.toList args.toList ds p := hA0
  rw [Try.params3] at hA hval hsz
  obtain ⟨v0, vs0, d0, ds0, p0, q0, hargs, rfl, rfl, h0, r0⟩ := trodAll_cons hA
  obtain ⟨rfl, rfl, rfl⟩ := trodAll_nil r0
  obtain rfl : args = #[v0] := by cases args; simp_all
  obtain ⟨rfl, rfl⟩ := trodVars_none hV
  clear hA0 hval0
  simp only [List.append_nil] at hW' hsz
  have hlt : ∀ x ∈ p0, x.block < W.heap.size := fun x hx => hW'.lt x (by simpa using hx)
  have hall : ∀ x ∈ DataW.weightsEach Try.prog [25] [d0], x ≤ reachBytes := fun x hx => of_decide_eq_true (List.all_eq_true.1 hsz x hx)
  have g0 : ∀ x ∈ d0.weights Try.prog 25, x ≤ reachBytes := fun x hx => hall x (DataW.weights_mem_each (j := 0) rfl rfl x hx)
  obtain ⟨u0, l0⟩ := tree_of_arg (k := SizeOf.sizeOf d0) (hval 0 _ v0 rfl rfl) h0 (by omega) g0
  refine (walk _ u0 v0 W l0).mono fun e W' ⟨he, bel⟩ => ?_
  subst he
  exact ⟨_, rfl, _, _, _, [], _, [], hW', trodAll_mk1 (shut_bool Try.underlying4 _), (trodAll_cons_mk (Below.trod Try.laidOut (by kernel_rfl) (of_decide_eq_true (by kernel_rfl)) h0 bel (fun x hx => hlt x (by simp [hx]))) trodAll_mk0), rfl, bel.frame _, fun h => by cases h⟩

theorem over : Rows.treeTellsRow.holds Try.pinned (OpenSpec.ofChange Rows.treeTellsSpec) :=
  OpenClaim.holds_of_wide 3 Try.f3 rfl rfl rfl rfl rfl rfl rfl ⟨rfl, rfl, rfl, rfl, rfl⟩ rfl rfl rfl rfl rfl (by kernel_rfl) Try.func3 (by kernel_rfl)
    (of_decide_eq_true (by kernel_rfl)) (by unfold Func.isWrapper; first | (rw [if_pos (by decide +kernel)]; kernel_rfl) | (rw [if_neg (by decide +kernel)]; exact ⟨rfl, rfl⟩))
    (fun os started H enc _ => lifted os started H enc)

/-- THE STATEMENT. -/
theorem proved : Rows.TreeTellsSaid := over
#print axioms proved
end Go.Proofs.Ytoheppocolbjkaa.treeTells
