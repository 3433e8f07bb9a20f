/-
  TreePrints: for every two trees: trees without empty texts, texts side by side, and attributes named key, have one print just if they are one. No condition.
-/
import Derived.Test.YtoheppocolbjkaaTrInj
namespace Go.Proofs.Ytoheppocolbjkaa.treePrints
open Go.ChangeShapes Go.WideShapes Go.ChangeAt Go.RowKit Go.Deep

theorem prB_bad {n : Nat} {v : T n} (h : ¬ (sizeT v).1 = 0) : (prB v).toList.isEmpty = true := by
  unfold prB
  rw [if_neg h]
  exact empty_true rfl

/-- One print just for one tree. -/
theorem prints {n : Nat} {a b : T n} (ha : (sizeT a).1 = 0) (hb : (sizeT b).1 = 0) (l1 : looseT a = false) (l2 : looseT b = false) (n1 : namedT a = false) (n2 : namedT b = false) : ((prB a).toList == (prB b).toList) = one a b := by
  have ga : Gd a := ⟨(print_ok ha).1, l1, n1⟩
  have gb : Gd b := ⟨(print_ok hb).1, l2, n2⟩
  have ea : (prB a).toList = prt a := by unfold prB; rw [if_pos ha, ByteArray.toList_eq]
  have eb : (prB b).toList = prt b := by unfold prB; rw [if_pos hb, ByteArray.toList_eq]
  rw [ea, eb]
  by_cases h : prt a = prt b
  · have := (prt_inj n a b [] [] ga gb (size_ok ha).1 (size_ok hb).1 (by rw [h])).1
    rw [one_true this, h]
    simp
  · rw [one_false (fun e => h (by rw [e]))]
    simpa using h

set_option maxRecDepth 100000 in
set_option maxHeartbeats 6400000 in
theorem walk (n : Nat) (a : T n) (x : Value) (b : T n) (y : Value) (w : World) (hx : LayT w n x a) (hy : LayT w n y b) :
    Calls Try.prog 5 #[x, y] w fun e w' => e = .returned (.bool true) ∧ Below w.heap.size w w' := by
  have HX : Hid (LayT w n x a) := hx
  have HY : Hid (LayT w n y b) := hy
  obtain ⟨g1, k1, t1, aa1, al1, ac1, ia1, il1, ic1, rfl⟩ := LayT.shape n hx
  obtain ⟨g2, k2, t2, aa2, al2, ac2, ia2, il2, ic2, rfl⟩ := LayT.shape n hy
  clear hx hy
  have P1 : Hid (∀ W, Below w.heap.size w W → Calls Try.prog 12 #[mkT g1 k1 t1 aa1 al1 ac1 ia1 il1 ic1] W fun e w' => e = .returned (.tuple #[.string (prB a), .int .i64 (sizeT a).1]) ∧ Below W.heap.size W w') := fun W h => print_any n a _ W (HX.out.below n h)
  have P2 : Hid (∀ W, Below w.heap.size w W → Calls Try.prog 12 #[mkT g2 k2 t2 aa2 al2 ac2 ia2 il2 ic2] W fun e w' => e = .returned (.tuple #[.string (prB b), .int .i64 (sizeT b).1]) ∧ Below W.heap.size W w') := fun W h => print_any n b _ W (HY.out.below n h)
  have L1 : Hid (∀ W, Below w.heap.size w W → Calls Try.prog 23 #[mkT g1 k1 t1 aa1 al1 ac1 ia1 il1 ic1] W fun e w' => e = .returned (.bool (looseT a)) ∧ Below W.heap.size W w') := fun W h => loose_any n a _ W (HX.out.below n h)
  have L2 : Hid (∀ W, Below w.heap.size w W → Calls Try.prog 23 #[mkT g2 k2 t2 aa2 al2 ac2 ia2 il2 ic2] W fun e w' => e = .returned (.bool (looseT b)) ∧ Below W.heap.size W w') := fun W h => loose_any n b _ W (HY.out.below n h)
  have N1 : Hid (∀ W, Below w.heap.size w W → Calls Try.prog 24 #[mkT g1 k1 t1 aa1 al1 ac1 ia1 il1 ic1] W fun e w' => e = .returned (.bool (namedT a)) ∧ Below W.heap.size W w') := fun W h => named_any n a _ W (HX.out.below n h)
  have N2 : Hid (∀ W, Below w.heap.size w W → Calls Try.prog 24 #[mkT g2 k2 t2 aa2 al2 ac2 ia2 il2 ic2] W fun e w' => e = .returned (.bool (namedT b)) ∧ Below W.heap.size W w') := fun W h => named_any n b _ W (HY.out.below n h)
  have SM : Hid (∀ W, Below w.heap.size w W → Calls Try.prog 19 #[mkT g1 k1 t1 aa1 al1 ac1 ia1 il1 ic1, mkT g2 k2 t2 aa2 al2 ac2 ia2 il2 ic2] W fun e w' => e = .returned (.bool (one a b)) ∧ Below W.heap.size W w') := fun W h => sameT_any n a b _ _ W (HX.out.below n h) (HY.out.below n h)
  have HB1 : Hid (¬ (sizeT a).1 = 0 → (prB a).toList.isEmpty = true) := prB_bad
  have HB2 : Hid (¬ (sizeT b).1 = 0 → (prB b).toList.isEmpty = true) := prB_bad
  have HF : Hid ((sizeT a).1 = 0 → (sizeT b).1 = 0 → looseT a = false → looseT b = false → namedT a = false → namedT b = false → ((prB a).toList == (prB b).toList) = one a b) := prints
  generalize prB a = pa at *
  generalize prB b = pb at *
  generalize (sizeT a).1 = ea at *
  generalize (sizeT b).1 = eb at *
  generalize looseT a = la at *
  generalize looseT b = lb at *
  generalize namedT a = na at *
  generalize namedT b = nb at *
  generalize one a b = ab at *
  clear HX HY
  go_enter Try.func5, Try.ntmps5
  go_wp2_with (go_at_call 20; refine (alive_any _).mono ?_; rintro e w1 ⟨rfl, hb1⟩; obtain ⟨x1, x2⟩ := boxed2 hb1; obtain ⟨p0, p1, p2, p3, p4, -⟩ := box_cells x1)
  have B1 := nxt (below2 _ _ _) hb1
  refine (P1.out _ B1).mono ?_
  rintro e w2 ⟨rfl, hb2⟩
  have X1 := (hb2.block _ (lt_of_block x1)).trans x1
  have X2 := (hb2.block _ (lt_of_block x2)).trans x2
  have B2 := nxt B1 hb2
  obtain ⟨q0, q1, q2, q3, q4, -⟩ := box_cells X2
  clear p0 p1 p2 p3 p4
  go_wp2_with fail
  refine (P2.out _ B2).mono ?_
  rintro e w3 ⟨rfl, hb3⟩
  have Y1 : Hid (w3.heap[w.heap.size]? = _) := (hb3.block _ (lt_of_block X1)).trans X1
  have Y2 : Hid (w3.heap[w.heap.size + 1]? = _) := (hb3.block _ (lt_of_block X2)).trans X2
  have B3 : Hid (Below w.heap.size w w3) := nxt B2 hb3
  clear x1 x2 X1 X2 B1 B2 hb1 hb2 hb3 q0 q1 q2 q3 q4
  obtain ⟨p0, p1, p2, p3, p4, -⟩ := box_cells Y1.out
  obtain ⟨q0, q1, q2, q3, q4, -⟩ := box_cells Y2.out
  by_cases he : ea = 0
  · subst he
    by_cases hf : eb = 0
    · subst hf
      have Z1 := Y1
      have Z2 := Y2
      clear Y1 Y2 HB1 HB2
      go_wp2_with (go_at_call 16; refine (num_any _ _).mono ?_; rintro e w6 ⟨rfl, hw6⟩; subst w6)
      refine (L1.out _ B3.out).mono ?_
      rintro e w4 ⟨rfl, hb4⟩
      have B4 : Hid (Below w.heap.size w w4) := nxt B3.out hb4
      have Y13 : Hid (w4.heap[w.heap.size]? = _) := (hb4.block _ (lt_of_block Z1.out)).trans Z1.out
      have Y23 : Hid (w4.heap[w.heap.size + 1]? = _) := (hb4.block _ (lt_of_block Z2.out)).trans Z2.out
      clear p0 p1 p2 p3 p4 q0 q1 q2 q3 q4 Z1 Z2 hb4
      have Z1 := Y13
      have Z2 := Y23
      clear Y13 Y23
      obtain ⟨p0, p1, p2, p3, p4, -⟩ := box_cells Z1.out
      obtain ⟨q0, q1, q2, q3, q4, -⟩ := box_cells Z2.out
      cases la
      rotate_left
      · go_wp2_with fail
        go_ret
        exact ⟨rfl, B4.out⟩
      go_wp2_with fail
      refine (L2.out _ B4.out).mono ?_
      rintro e w5 ⟨rfl, hb5⟩
      have B5 : Hid (Below w.heap.size w w5) := nxt B4.out hb5
      have Y14 : Hid (w5.heap[w.heap.size]? = _) := (hb5.block _ (lt_of_block Z1.out)).trans Z1.out
      have Y24 : Hid (w5.heap[w.heap.size + 1]? = _) := (hb5.block _ (lt_of_block Z2.out)).trans Z2.out
      clear p0 p1 p2 p3 p4 q0 q1 q2 q3 q4 Z1 Z2 hb5
      have Z1 := Y14
      have Z2 := Y24
      clear Y14 Y24
      obtain ⟨p0, p1, p2, p3, p4, -⟩ := box_cells Z1.out
      obtain ⟨q0, q1, q2, q3, q4, -⟩ := box_cells Z2.out
      cases lb
      rotate_left
      · go_wp2_with fail
        go_ret
        exact ⟨rfl, B5.out⟩
      go_wp2_with fail
      refine (N1.out _ B5.out).mono ?_
      rintro e w6 ⟨rfl, hb6⟩
      have B6 : Hid (Below w.heap.size w w6) := nxt B5.out hb6
      have Y15 : Hid (w6.heap[w.heap.size]? = _) := (hb6.block _ (lt_of_block Z1.out)).trans Z1.out
      have Y25 : Hid (w6.heap[w.heap.size + 1]? = _) := (hb6.block _ (lt_of_block Z2.out)).trans Z2.out
      clear p0 p1 p2 p3 p4 q0 q1 q2 q3 q4 Z1 Z2 hb6
      have Z1 := Y15
      have Z2 := Y25
      clear Y15 Y25
      obtain ⟨p0, p1, p2, p3, p4, -⟩ := box_cells Z1.out
      obtain ⟨q0, q1, q2, q3, q4, -⟩ := box_cells Z2.out
      cases na
      rotate_left
      · go_wp2_with fail
        go_ret
        exact ⟨rfl, B6.out⟩
      go_wp2_with fail
      refine (N2.out _ B6.out).mono ?_
      rintro e w7 ⟨rfl, hb7⟩
      have B7 : Hid (Below w.heap.size w w7) := nxt B6.out hb7
      have Y16 : Hid (w7.heap[w.heap.size]? = _) := (hb7.block _ (lt_of_block Z1.out)).trans Z1.out
      have Y26 : Hid (w7.heap[w.heap.size + 1]? = _) := (hb7.block _ (lt_of_block Z2.out)).trans Z2.out
      clear p0 p1 p2 p3 p4 q0 q1 q2 q3 q4 Z1 Z2 hb7
      have Z1 := Y16
      have Z2 := Y26
      clear Y16 Y26
      obtain ⟨p0, p1, p2, p3, p4, -⟩ := box_cells Z1.out
      obtain ⟨q0, q1, q2, q3, q4, -⟩ := box_cells Z2.out
      cases nb
      rotate_left
      · go_wp2_with fail
        go_ret
        exact ⟨rfl, B7.out⟩
      go_wp2_with fail
      refine (SM.out _ B7.out).mono ?_
      rintro e w8 ⟨rfl, hb8⟩
      have hE := HF.out (by trivial) (by trivial) (by trivial) (by trivial) (by trivial) (by trivial)
      have HE : Hid ((pa.toList == pb.toList) = ab) := hE
      clear hE HF
      go_wp2_with fail
      go_ret
      exact ⟨ret_bool (by rw [HE.out]; simp), nxt B7.out hb8⟩
    · have hd1 : (eb == 0) = false := by simpa using hf
      have hd2 : (eb != 0) = true := by simpa using hf
      have hE := HB2.out hf
      clear hf HB1 HB2 HF
      cases hpa : pa.toList.isEmpty
      all_goals
        go_wp2_with (go_at_call 16; refine (num_any _ _).mono ?_; rintro e w6 ⟨rfl, hw6⟩; subst w6)
        go_ret
        exact ⟨rfl, B3.out⟩
  · have hd1 : (ea == 0) = false := by simpa using he
    have hd2 : (ea != 0) = true := by simpa using he
    have hE := HB1.out he
    clear he HB1 HB2 HF
    go_wp2_with (go_at_call 16; refine (num_any _ _).mono ?_; rintro e w6 ⟨rfl, hw6⟩; subst w6)
    go_ret
    exact ⟨rfl, B3.out⟩

set_option maxRecDepth 100000 in
set_option maxHeartbeats 1600000 in
theorem lifted (os : Os) (started : os.Started) (H : Type) (enc : TypeId × Value → H) :
    ReturnsInHanded {} Try.checked os 5 .any (Rows.treePrintsSpec.pre6 enc Try.prog Try.f5 Rows.treePrintsRow.domain false) (Rows.treePrintsSpec.post enc Try.prog Try.f5 false true false false) := by
  refine returnsInHanded_of_change_sized (C := Try.checked) Try.own started (by kernel_rfl) Try.func5
    (ChangeSpec.witness6 (enc := enc) (C := Try.checked) false ⟨#[], #[.agg #[.string ⟨#[]⟩, .string ⟨#[]⟩, .string ⟨#[]⟩, .slice none 0 0, .slice none 0 0], .agg #[.string ⟨#[]⟩, .string ⟨#[]⟩, .string ⟨#[]⟩, .slice none 0 0, .slice none 0 0]], []⟩ 8 (by kernel_rfl) (by kernel_rfl) (by kernel_rfl) (by kernel_rfl)) ?_
  intro W base args ds gs before hval0 hW _ hsz0 _
  have hsz : (DataW.weightsEach Try.prog (Try.f5.params.toList ++ Rows.treePrintsSpec.plain.varTypes Try.prog) (ds ++ gs)).all (· ≤ reachBytes) = true := hsz0
  have hval : ∀ (j : Nat) t v, Try.f5.params[j]? = some t → args[j]? = some v → Value.okWide Try.prog W .any base t v := hval0
  have hW' := hW
  obtain ⟨p, q, hA0, hV, rfl, hfz, hnd⟩ := hW
  have hA : DataW.TrodAll enc Try.prog W 0 (fun _ => true) true Try.f5.params.toList args.toList ds p := hA0
  rw [Try.params5] at hA hval hsz
  obtain ⟨v0, vs0, d0, ds0, p0, q0, hargs, rfl, rfl, h0, r0⟩ := trodAll_cons hA
  obtain ⟨v1, vs1, d1, ds1, p1, q1, rfl, rfl, rfl, h1, r1⟩ := trodAll_cons r0
  obtain ⟨rfl, rfl, rfl⟩ := trodAll_nil r1
  obtain rfl : args = #[v0, v1] := by cases args; simp_all
  obtain ⟨rfl, rfl⟩ := trodVars_none hV
  clear hA0 hval0
  simp only [List.append_nil] at hW' hsz
  have hlt : ∀ x ∈ p0 ++ p1, x.block < W.heap.size := fun x hx => hW'.lt x (by simpa using hx)
  have hall : ∀ x ∈ DataW.weightsEach Try.prog [25, 25] [d0, d1], x ≤ reachBytes := fun x hx => of_decide_eq_true (List.all_eq_true.1 hsz x hx)
  have g0 : ∀ x ∈ d0.weights Try.prog 25, x ≤ reachBytes := fun x hx => hall x (DataW.weights_mem_each (j := 0) rfl rfl x hx)
  obtain ⟨u0, l0⟩ := tree_of_arg (k := SizeOf.sizeOf d0 + SizeOf.sizeOf d1) (hval 0 _ v0 rfl rfl) h0 (by omega) g0
  have g1 : ∀ x ∈ d1.weights Try.prog 25, x ≤ reachBytes := fun x hx => hall x (DataW.weights_mem_each (j := 1) rfl rfl x hx)
  obtain ⟨u1, l1⟩ := tree_of_arg (k := SizeOf.sizeOf d0 + SizeOf.sizeOf d1) (hval 1 _ v1 rfl rfl) h1 (by omega) g1
  refine (walk _ u0 v0 u1 v1 W l0 l1).mono fun e W' ⟨he, bel⟩ => ?_
  subst he
  exact ⟨_, rfl, _, _, _, [], _, [], hW', trodAll_mk1 (shut_bool Try.underlying4 _), (trodAll_cons_mk (Below.trod Try.laidOut (by kernel_rfl) (of_decide_eq_true (by kernel_rfl)) h0 bel (fun x hx => hlt x (by simp [hx]))) (trodAll_cons_mk (Below.trod Try.laidOut (by kernel_rfl) (of_decide_eq_true (by kernel_rfl)) h1 bel (fun x hx => hlt x (by simp [hx]))) trodAll_mk0)), rfl, bel.frame _, fun h => by cases h⟩

theorem over : Rows.treePrintsRow.holds Try.pinned (OpenSpec.ofChange Rows.treePrintsSpec) :=
  OpenClaim.holds_of_wide 5 Try.f5 rfl rfl rfl rfl rfl rfl rfl ⟨rfl, rfl, rfl, rfl, rfl⟩ rfl rfl rfl rfl rfl (by kernel_rfl) Try.func5 (by kernel_rfl)
    (of_decide_eq_true (by kernel_rfl)) (by unfold Func.isWrapper; first | (rw [if_pos (by decide +kernel)]; kernel_rfl) | (rw [if_neg (by decide +kernel)]; exact ⟨rfl, rfl⟩))
    (fun os started H enc _ => lifted os started H enc)

/-- THE STATEMENT. -/
theorem proved : Rows.TreePrintsSaid := over
#print axioms proved
end Go.Proofs.Ytoheppocolbjkaa.treePrints
