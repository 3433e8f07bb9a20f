/-
  TreeWithin: for every tree: a kid of a tree that may be, if it is an element, may be, and is smaller; the nodes of all kids and the root are as many as the tree has. No condition.
-/
import Derived.Test.YtoheppocolbjkaaTrShift
namespace Go.Proofs.Ytoheppocolbjkaa.treeWithin
open Go.ChangeShapes Go.WideShapes Go.ChangeAt Go.RowKit Go.Deep

set_option maxRecDepth 100000 in
set_option maxHeartbeats 6400000 in
theorem walk (n : Nat) (v : T n) (x : Value) (w : World) (hv : LayT w n x v) :
    Calls Try.prog 6 #[x] w fun e w' => e = .returned (.bool true) ∧ Below w.heap.size w w' := by
  cases n with
  | zero => exact v.elim
  | succ n =>
    have HV : Hid (LayT w (n + 1) x v) := hv
    have CS : Hid (∀ W, Below w.heap.size w W → Calls Try.prog 10 #[x] W fun e w' => e = .returned (.tuple #[.int .i64 ((sizeT v).2.1 : Int), .int .i64 ((sizeT v).2.2 : Int), .int .i64 (sizeT v).1]) ∧ Below W.heap.size W w') := fun W h => size_any (n + 1) v x W (hv.below _ h)
    obtain ⟨g, k, t, ats, its⟩ := v
    have HS0 : Hid ((sizeT (n := n + 1) (g, k, t, ats, its)).1 = 0 → sizeT (n := n + 1) (g, k, t, ats, its) = wk (n := n + 1) (g, k, t, ats, its) 1 0) := fun e => (size_ok e).2.2
    have HS1 : Hid (¬ (sizeT (n := n + 1) (g, k, t, ats, its)).1 = 0 → (sizeT (n := n + 1) (g, k, t, ats, its)).2.1 = 0 ∧ (sizeT (n := n + 1) (g, k, t, ats, its)).2.2 = 0) := fun e => by
      rw [sizeT_node] at e ⊢
      by_cases h0 : g.size = 0
      · rw [if_pos h0]; exact ⟨rfl, rfl⟩
      · rw [if_neg h0] at e ⊢
        by_cases h1 : (wk (n := n + 1) (g, k, t, ats, its) 1 0).1 = 0
        · rw [if_pos h1] at e; exact absurd h1 e
        · rw [if_neg h1]; exact ⟨rfl, rfl⟩
    have HWO : Hid (_ ∧ _) := wk_ok (n + 1) (g, k, t, ats, its) 1 0 (by omega) (by omega)
    have HWK : Hid (∀ a b, wk (n := n + 1) (g, k, t, ats, its) 1 0 = (0, a, b) → wkK (fun u c' => wk u 2 c') its 1 1 = (0, a, b)) := fun a b e => (wk_kids e).1
    obtain ⟨aa, ac, ia, ic, rfl, hfit, -, -, -, hI⟩ := hv
    have hi1 := hfit.2.2.2.2.2.2.2.2
    have HI : Hid (LayI w (LayT w n) ia its) := hI
    generalize wk (n := n + 1) (g, k, t, ats, its) 1 0 = R at *
    generalize sizeT (n := n + 1) (g, k, t, ats, its) = S at *
    obtain ⟨er, cr, dr⟩ := S
    clear hI hfit HV
    by_cases he : er = 0
    · subst he
      obtain rfl := HS0.out rfl
      have HK : Hid (wkK (fun u c' => wk u 2 c') its 1 1 = (0, cr, dr)) := HWK.out _ _ rfl
      have hcr : cr ≤ 256 := HWO.out.1
      have hdr : dr ≤ 9 := HWO.out.2.2.1
      clear HS0 HS1 HWO HWK
      go_enter Try.func6, Try.ntmps6
      go_wp2_with (first
        | (go_at_call 20; refine (alive_any _).mono ?_; rintro e w1 ⟨rfl, hb1⟩; have X1 := boxed hb1; obtain ⟨y0, y1, y2, y3, y4, -⟩ := box_cells X1; have B1 := nxt (below_one _ _) hb1)
        | (go_at_call 10; refine (CS.out _ B1).mono ?_; rintro e w2 ⟨rfl, hb2⟩)
        | (go_at_call 16; refine (num_any _ _).mono ?_; rintro e w3 ⟨rfl, hw3⟩; subst w3))
      have X2 : Hid (w2.heap[w.heap.size]? = _) := (hb2.block _ (lt_of_block X1)).trans X1
      have B2 : Hid (Below w.heap.size w w2) := nxt B1 hb2
      clear X1 y0 y1 y2 y3 y4 B1 hb1 hb2
      go_loopw [6, 7] (fun u6 u7 wr => ∃ m c' d' : Nat, m ≤ its.length ∧ u7 = .int .i64 m ∧ u6 = .int .i64 c' ∧ c' ≤ 256 ∧ Hid (wkK (fun u c' => wk u 2 c') (its.take m) 1 1 = (0, c', d')) ∧ Hid (wr.heap[w.heap.size]? = some (.cells #[.string g, .string k, .string t, .slice aa ats.length ac, .slice ia its.length ic] 25 (0, 0))) ∧ Hid (Below w.heap.size w wr)) (fun _ i _ => its.length - (intOf i).toNat)
      case atStart => exact ⟨0, 1, 1, Nat.zero_le _, rfl, rfl, by omega, rfl, X2.out, B2.out⟩
      case round =>
        obtain ⟨m, c', d', hm, rfl, rfl, hc', HP, HX, HB⟩ := hrel
        obtain ⟨y0, y1, y2, y3, y4, -⟩ := box_cells HX.out
        by_cases hlt : m < its.length
        · obtain ⟨b, o, g1, k1, t1, aa1, al1, ac1, ja, jl, jc, rfl, q0, q1, q2, q3, q4, hl, hg1, -, -⟩ := (LayI.below HI.out HB.out).at m hlt
          have hm1 : (m : Int) < (its.length : Int) := by omega
          obtain ⟨a2, b2, hk, hk2, hle1, hle2, hlt1, hb2, hc1⟩ := kid_at (L := 1) HK.out hlt HP.out (by omega) (by omega) (by omega)
          have HK2 : Hid (wkK (fun u c' => wk u 2 c') (its.take (m + 1)) 1 1 = (0, a2, max d' b2)) := hk2
          have B3 : Hid (Below w.heap.size w (wr.alloc (.cells #[.string g1, .string k1, .string t1, .slice aa1 al1 ac1, .slice ja jl jc] 25))) := nxt HB.out (below_one _ _)
          have X3 : Hid ((wr.alloc (.cells #[.string g1, .string k1, .string t1, .slice aa1 al1 ac1, .slice ja jl jc] 25)).heap[w.heap.size]? = some (.cells #[.string g, .string k, .string t, .slice aa ats.length ac, .slice (some ⟨b, o, none⟩) its.length ic] 25 (0, 0))) := ((below_one _ _).block _ (lt_of_block HX.out)).trans HX.out
          by_cases hz : g1.size = 0
          · have hd := empty_true hz
            obtain ⟨rfl, -⟩ := wk_text (by rw [hg1]; exact hz) hk
            clear hk hk2 hl hg1
            go_wp2_with fail
            go_roundw
            case rel => exact ⟨m + 1, c' + 1, _, by omega, by go_num, by go_num, by omega, HK2.out, X3.out, B3.out⟩
            case measure => simp [intOf]; omega
          · have hd := empty_false hz
            obtain ⟨mk, dk, rfl, rfl, hsz⟩ := wk_elem (L := 1) (by rw [hg1]; exact hz) hk
            have hck := size_any n its[m] _ (wr.alloc (.cells #[.string g1, .string k1, .string t1, .slice aa1 al1 ac1, .slice ja jl jc] 25)) (hl.below _ (below_one _ _))
            rw [hsz] at hck
            have CK : Hid (Calls Try.prog 10 #[mkT g1 k1 t1 aa1 al1 ac1 ja jl jc] (wr.alloc (.cells #[.string g1, .string k1, .string t1, .slice aa1 al1 ac1, .slice ja jl jc] 25)) fun e w' => e = .returned (.tuple #[.int .i64 (mk : Int), .int .i64 (dk : Int), .int .i64 0]) ∧ Below (wr.alloc (.cells #[.string g1, .string k1, .string t1, .slice aa1 al1 ac1, .slice ja jl jc] 25)).heap.size (wr.alloc (.cells #[.string g1, .string k1, .string t1, .slice aa1 al1 ac1, .slice ja jl jc] 25)) w') := hck
            have z1 : decide ((cr : Int) ≤ (mk : Int)) = false := decide_eq_false (by omega)
            have z2 : decide ((dr : Int) ≤ (dk : Int)) = false := decide_eq_false (by omega)
            clear hk hk2 hl hg1 hsz hck hz
            go_wp2_with (first
              | (go_at_call 10; refine CK.out.mono ?_; rintro e w5 ⟨rfl, hb5⟩)
              | (go_at_call 16; refine (num_any _ _).mono ?_; rintro e w6 ⟨rfl, hw6⟩; subst w6))
            go_roundw
            case rel => exact ⟨m + 1, mk + c', _, by omega, by go_num, by go_num, by omega, HK2.out, (hb5.block _ (lt_of_block X3.out)).trans X3.out, nxt B3.out hb5⟩
            case measure => simp [intOf]; omega
        · have hme : m = its.length := by omega
          subst hme
          have h1 := HP.out
          rw [List.take_length, HK.out] at h1
          simp only [Prod.mk.injEq, true_and] at h1
          obtain ⟨rfl, -⟩ := h1
          go_wp2_with fail
          go_ret
          exact ⟨ret_bool (by simp), HB.out⟩
    · obtain ⟨rfl, rfl⟩ := HS1.out he
      have hd1 : (er == 0) = false := by simpa using he
      have hd2 : (er != 0) = true := by simpa using he
      clear HS0 HS1 he
      go_enter Try.func6, Try.ntmps6
      go_wp2_with (first
        | (go_at_call 20; refine (alive_any _).mono ?_; rintro e w1 ⟨rfl, hb1⟩; have X1 := boxed hb1; obtain ⟨y0, y1, y2, y3, y4, -⟩ := box_cells X1; have B1 := nxt (below_one _ _) hb1)
        | (go_at_call 10; refine (CS.out _ B1).mono ?_; rintro e w2 ⟨rfl, hb2⟩)
        | (go_at_call 16; refine (num_any _ _).mono ?_; rintro e w3 ⟨rfl, hw3⟩; subst w3))
      go_ret
      exact ⟨ret_bool (by simp), nxt B1 hb2⟩

set_option maxRecDepth 100000 in
set_option maxHeartbeats 1600000 in
theorem lifted (os : Os) (started : os.Started) (H : Type) (enc : TypeId × Value → H) :
    ReturnsInHanded {} Try.checked os 6 .any (Rows.treeWithinSpec.pre6 enc Try.prog Try.f6 Rows.treeWithinRow.domain false) (Rows.treeWithinSpec.post enc Try.prog Try.f6 false true false false) := by
  refine returnsInHanded_of_change_sized (C := Try.checked) Try.own started (by kernel_rfl) Try.func6
    (ChangeSpec.witness6 (enc := enc) (C := Try.checked) false ⟨#[], #[.agg #[.string ⟨#[]⟩, .string ⟨#[]⟩, .string ⟨#[]⟩, .slice none 0 0, .slice none 0 0]], []⟩ 8 (by kernel_rfl) (by kernel_rfl) (by kernel_rfl) (by kernel_rfl)) ?_
  intro W base args ds gs before hval0 hW _ hsz0 _
  have hsz : (DataW.weightsEach Try.prog (Try.f6.params.toList ++ Rows.treeWithinSpec.plain.varTypes Try.prog) (ds ++ gs)).all (· ≤ reachBytes) = true := hsz0
  have hval : ∀ (j : Nat) t v, Try.f6.params[j]? = some t → args[j]? = some v → Value.okWide Try.prog W .any base t v := hval0
  have hW' := hW
  obtain ⟨p, q, hA0, hV, rfl, hfz, hnd⟩ := hW
  have hA : DataW.TrodAll enc Try.prog W 0 (fun _ => true) true Try.f6.params.toList args.toList ds p := hA0
  rw [Try.params6] at hA hval hsz
  obtain ⟨v0, vs0, d0, ds0, p0, q0, hargs, rfl, rfl, h0, r0⟩ := trodAll_cons hA
  obtain ⟨rfl, rfl, rfl⟩ := trodAll_nil r0
  obtain rfl : args = #[v0] := by cases args; simp_all
  obtain ⟨rfl, rfl⟩ := trodVars_none hV
  clear hA0 hval0
  simp only [List.append_nil] at hW' hsz
  have hlt : ∀ x ∈ p0, x.block < W.heap.size := fun x hx => hW'.lt x (by simpa using hx)
  have hall : ∀ x ∈ DataW.weightsEach Try.prog [25] [d0], x ≤ reachBytes := fun x hx => of_decide_eq_true (List.all_eq_true.1 hsz x hx)
  have g0 : ∀ x ∈ d0.weights Try.prog 25, x ≤ reachBytes := fun x hx => hall x (DataW.weights_mem_each (j := 0) rfl rfl x hx)
  obtain ⟨u0, l0⟩ := tree_of_arg (k := SizeOf.sizeOf d0) (hval 0 _ v0 rfl rfl) h0 (by omega) g0
  refine (walk _ u0 v0 W l0).mono fun e W' ⟨he, bel⟩ => ?_
  subst he
  exact ⟨_, rfl, _, _, _, [], _, [], hW', trodAll_mk1 (shut_bool Try.underlying4 _), (trodAll_cons_mk (Below.trod Try.laidOut (by kernel_rfl) (of_decide_eq_true (by kernel_rfl)) h0 bel (fun x hx => hlt x (by simp [hx]))) trodAll_mk0), rfl, bel.frame _, fun h => by cases h⟩

theorem over : Rows.treeWithinRow.holds Try.pinned (OpenSpec.ofChange Rows.treeWithinSpec) :=
  OpenClaim.holds_of_wide 6 Try.f6 rfl rfl rfl rfl rfl rfl rfl ⟨rfl, rfl, rfl, rfl, rfl⟩ rfl rfl rfl rfl rfl (by kernel_rfl) Try.func6 (by kernel_rfl)
    (of_decide_eq_true (by kernel_rfl)) (by unfold Func.isWrapper; first | (rw [if_pos (by decide +kernel)]; kernel_rfl) | (rw [if_neg (by decide +kernel)]; exact ⟨rfl, rfl⟩))
    (fun os started H enc _ => lifted os started H enc)

/-- THE STATEMENT. -/
theorem proved : Rows.TreeWithinSaid := over
#print axioms proved
end Go.Proofs.Ytoheppocolbjkaa.treeWithin
