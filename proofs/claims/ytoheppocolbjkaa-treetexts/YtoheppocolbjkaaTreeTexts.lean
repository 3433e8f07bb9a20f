/-
  TreeTexts: for every tree: its texts are those of its kids, one behind the other; an element that is put around it changes nothing, or is refused where the tree has 256 nodes or is 8 deep. No condition.
-/
import Derived.Test.YtoheppocolbjkaaTrUp
import Derived.Test.YtoheppocolbjkaaTrRSize
import Derived.Laws.DeepStrings4
namespace Go.Proofs.Ytoheppocolbjkaa.treeTexts
open Go.ChangeShapes Go.WideShapes Go.ChangeAt Go.RowKit Go.Deep

theorem ar_lay {n : Nat} {w : World} {b : Nat} {g k t : ByteArray} {aa : Option Addr} {al ac : Nat} {ia : Option Addr} {il ic : Nat} {v : T n} (hl : LayT w n (mkT g k t aa al ac ia il ic) v) (h : w.heap[b]? = some (.cells #[.string g, .string k, .string t, .slice aa al ac, .slice ia il ic] 25 (0, 0))) :
    LayT w (n + 1) (mkT ⟨#[98]⟩ ⟨#[]⟩ ⟨#[]⟩ none 0 0 (some ⟨b, 0, none⟩) 1 1) (arT v) := by
  have l1 : [v].length = 1 := rfl
  refine ⟨none, 0, some ⟨b, 0, none⟩, 1, rfl, ⟨by decide, by decide, by decide, by decide, by decide, by decide, by rw [l1]; decide, by decide, by rw [l1]; decide⟩, fun _ => ⟨rfl, rfl⟩, fun e => (by cases e), fun i s hi => (by simp at hi), ?_⟩
  intro i u hi
  match i, hi with
  | 0, hi =>
    simp only [List.getElem?_cons_zero, Option.some.injEq] at hi
    subst hi
    obtain ⟨x0, x1, x2, x3, x4, -⟩ := box_cells h
    exact ⟨b, 0, _, _, _, _, _, rfl, x0, x1, x2, x3, x4, hl⟩
  | i + 1, hi => simp at hi

theorem txt_text {n : Nat} {w : World} {g k t : ByteArray} {aa : Option Addr} {al ac : Nat} {ia : Option Addr} {il ic : Nat} {v : T n} (hl : LayT w n (mkT g k t aa al ac ia il ic) v) (hg : g.size = 0) : txt v = t.toList := by
  cases n with
  | zero => exact v.elim
  | succ n =>
    obtain ⟨g', k', t', ats, its⟩ := v
    obtain ⟨aa', ac', ia', ic', hx, -⟩ := hl
    simp only [mkT, Value.agg.injEq, Array.mk.injEq, List.cons.injEq, and_true, Value.string.injEq, Value.slice.injEq] at hx
    obtain ⟨rfl, rfl, rfl, -⟩ := hx
    rw [txt_node, if_pos hg]

theorem toList_append' (a b : ByteArray) : (a ++ b).toList = a.toList ++ b.toList := by
  simp [ByteArray.toList_eq]

set_option maxRecDepth 100000 in
set_option maxHeartbeats 6400000 in
theorem walk (n : Nat) (v : T n) (x : Value) (w : World) (hv : LayT w n x v) :
    Calls Try.prog 7 #[x] w fun e w' => e = .returned (.bool true) ∧ Below w.heap.size w w' := by
  cases n with
  | zero => exact v.elim
  | succ n =>
    have HV : Hid (LayT w (n + 1) x v) := hv
    have CT : Hid (∀ W, Below w.heap.size w W → Calls Try.prog 14 #[x] W fun e w' => e = .returned (.tuple #[.string (txB v), .int .i64 (sizeT v).1]) ∧ Below W.heap.size W w') := fun W h => texts_any (n + 1) v x W (hv.below _ h)
    have CS : Hid (∀ W, Below w.heap.size w W → Calls Try.prog 11 #[x] W fun e w' => e = .returned (.tuple #[.int .i64 ((sizeT v).2.1 : Int), .int .i64 ((sizeT v).2.2 : Int), .int .i64 (sizeT v).1]) ∧ Below W.heap.size W w') := fun W h => rsize_any (n + 1) v x W (hv.below _ h)
    by_cases he : (sizeT v).1 = 0
    · obtain ⟨hg0, -, hsw⟩ := size_ok he
      have HTX : Hid (txB v = ⟨(txt v).toArray⟩) := by show _ = _; unfold txB; rw [if_pos he]
      have HTL : Hid ((txt v).length ≤ 3328000) := Nat.le_trans (txt_le _ v) (print_ok he).2
      obtain ⟨⟨er, cr, dr⟩, hS⟩ : ∃ S, sizeT v = S := ⟨_, rfl⟩
      rw [hS] at he hsw CT CS
      simp only at he CT CS
      subst he
      have HAR := ar_size hS
      have CA : Hid (∀ W b, Below w.heap.size w W → ∀ g k t aa al ac ia il ic, x = mkT g k t aa al ac ia il ic → W.heap[b]? = some (.cells #[.string g, .string k, .string t, .slice aa al ac, .slice ia il ic] 25 (0, 0)) →
          Calls Try.prog 14 #[mkT ⟨#[98]⟩ ⟨#[]⟩ ⟨#[]⟩ none 0 0 (some ⟨b, 0, none⟩) 1 1] W fun e w' => e = .returned (.tuple #[.string (txB (arT v)), .int .i64 (sizeT (arT v)).1]) ∧ Below W.heap.size W w') := fun W b h g k t aa al ac ia il ic hx hb => by
        subst hx
        exact texts_any _ (arT v) _ W (ar_lay (hv.below _ h) hb)
      have HXA : Hid (if 256 ≤ cr ∨ 8 ≤ dr then ¬ (sizeT (arT v)).1 = 0 ∧ txB (arT v) = ⟨#[]⟩ else (sizeT (arT v)).1 = 0 ∧ txB (arT v) = txB v) := by
        show if _ then _ else _
        by_cases hcd : 256 ≤ cr ∨ 8 ≤ dr
        · rw [if_pos hcd] at HAR ⊢
          exact ⟨HAR, by unfold txB; rw [if_neg HAR]⟩
        · rw [if_neg hcd] at HAR ⊢
          refine ⟨HAR, ?_⟩
          rw [HTX.out]
          unfold txB
          rw [if_pos HAR, arT_txt]
      clear HAR
      generalize sizeT (arT v) = SA at *
      generalize txB (arT v) = TA at *
      obtain ⟨ea, ca, da⟩ := SA
      simp only at HXA CA
      obtain ⟨g, k, t, ats, its⟩ := v
      have hwo := wk_ok (n + 1) (g, k, t, ats, its) 1 0 (by omega) (by omega)
      rw [← hsw] at hwo
      simp only at hwo
      have HK : Hid (wkK (fun u c' => wk u 2 c') its 1 1 = (0, cr, dr)) := (wk_kids hsw.symm).1
      have hcr : cr ≤ 256 := hwo.1
      have hdr : dr ≤ 9 := hwo.2.2.1
      have htx : txt (n := n + 1) (g, k, t, ats, its) = cat txt its := by rw [txt_node]; exact if_neg hg0
      rw [htx] at HTX HTL
      obtain ⟨aa, ac, ia, ic, hx, hfit, -, -, -, hI⟩ := hv
      have hi1 := hfit.2.2.2.2.2.2.2.2
      have HI : Hid (LayI w (LayT w n) ia its) := hI
      generalize txB (n := n + 1) (g, k, t, ats, its) = TV at *
      have HX : Hid (x = mkT g k t aa ats.length ac ia its.length ic) := hx
      clear hI hfit HV hwo hsw hS htx
      subst hx
      go_enter Try.func7, Try.ntmps7
      go_wp2_with (first
        | (go_at_call 20; refine (alive_any _).mono ?_; rintro e w1 ⟨rfl, hb1⟩; have X1 := boxed hb1; obtain ⟨y0, y1, y2, y3, y4, -⟩ := box_cells X1; have B1 := nxt (below_one _ _) hb1)
        | (go_at_call 14; refine (CT.out _ B1).mono ?_; rintro e w2 ⟨rfl, hb2⟩)
        | (go_at_call 16; refine (num_any _ _).mono ?_; rintro e w3 ⟨rfl, hw3⟩; subst w3))
      have X2 : Hid (w2.heap[w.heap.size]? = _) := (hb2.block _ (lt_of_block X1)).trans X1
      have B2 : Hid (Below w.heap.size w w2) := nxt B1 hb2
      clear X1 y0 y1 y2 y3 y4 B1 hb1 hb2
      go_loopw [5, 6] (fun u5 u6 wr => ∃ (m : Nat) (S : ByteArray), m ≤ its.length ∧ u6 = .int .i64 m ∧ u5 = .string S ∧ Hid (S.toList = cat txt (its.take m)) ∧ Hid (wr.heap[w.heap.size]? = some (.cells #[.string g, .string k, .string t, .slice aa ats.length ac, .slice ia its.length ic] 25 (0, 0))) ∧ Hid (Below w.heap.size w wr)) (fun _ i _ => its.length - (intOf i).toNat)
      case atStart => exact ⟨0, ⟨#[]⟩, Nat.zero_le _, rfl, rfl, by show _ = _; rw [ByteArray.toList_eq]; rfl, X2.out, B2.out⟩
      case round =>
        obtain ⟨m, S, hm, rfl, rfl, HP, HXX, HB⟩ := hrel
        obtain ⟨y0, y1, y2, y3, y4, -⟩ := box_cells HXX.out
        by_cases hlt : m < its.length
        · obtain ⟨b, o, g1, k1, t1, aa1, al1, ac1, ja, jl, jc, rfl, q0, q1, q2, q3, q4, hl, hg1, -, -⟩ := (LayI.below HI.out HB.out).at m hlt
          have hm1 : (m : Int) < (its.length : Int) := by omega
          have HT : Hid (cat txt (its.take (m + 1)) = cat txt (its.take m) ++ txt its[m]) := cat_snoc hlt
          have hle := cat_take_le txt its (m + 1)
          rw [HT.out, List.length_append, ← HP.out, toList_len] at hle
          have hle2 := HTL.out
          have B3 : Hid (Below w.heap.size w (wr.alloc (.cells #[.string g1, .string k1, .string t1, .slice aa1 al1 ac1, .slice ja jl jc] 25))) := nxt HB.out (below_one _ _)
          have X3 : Hid ((wr.alloc (.cells #[.string g1, .string k1, .string t1, .slice aa1 al1 ac1, .slice ja jl jc] 25)).heap[w.heap.size]? = some (.cells #[.string g, .string k, .string t, .slice aa ats.length ac, .slice (some ⟨b, o, none⟩) its.length ic] 25 (0, 0))) := ((below_one _ _).block _ (lt_of_block HXX.out)).trans HXX.out
          by_cases hz : g1.size = 0
          · have hd := empty_true hz
            have HTT : Hid (txt its[m] = t1.toList) := txt_text hl hz
            rw [HTT.out, toList_len] at hle
            have hss : S.size + t1.size ≤ 3328000 := by omega
            clear hl hg1 hle hle2
            go_wp2_with fail
            go_roundw
            case rel => exact ⟨m + 1, _, by omega, by go_num, rfl, by show _ = _; rw [HT.out, HTT.out, toList_append', HP.out], X3.out, B3.out⟩
            case measure => simp [intOf]; omega
          · have hd := empty_false hz
            obtain ⟨c', d', hp⟩ := wkK_pre HK.out m
            obtain ⟨a2, b2, hk, -⟩ := kid_at (L := 1) HK.out hlt hp (by omega) (by omega) (by omega)
            obtain ⟨mk, dk, -, -, hsz⟩ := wk_elem (L := 1) (by rw [hg1]; exact hz) hk
            have hck := texts_any n its[m] _ (wr.alloc (.cells #[.string g1, .string k1, .string t1, .slice aa1 al1 ac1, .slice ja jl jc] 25)) (hl.below _ (below_one _ _))
            have htb : txB its[m] = ⟨(txt its[m]).toArray⟩ := by unfold txB; rw [hsz]; rfl
            rw [hsz, htb] at hck
            have CK : Hid (Calls Try.prog 14 #[mkT g1 k1 t1 aa1 al1 ac1 ja jl jc] (wr.alloc (.cells #[.string g1, .string k1, .string t1, .slice aa1 al1 ac1, .slice ja jl jc] 25)) fun e w' => e = .returned (.tuple #[.string ⟨(txt its[m]).toArray⟩, .int .i64 0]) ∧ Below (wr.alloc (.cells #[.string g1, .string k1, .string t1, .slice aa1 al1 ac1, .slice ja jl jc] 25)).heap.size (wr.alloc (.cells #[.string g1, .string k1, .string t1, .slice aa1 al1 ac1, .slice ja jl jc] 25)) w') := hck
            have hul : (⟨(txt its[m]).toArray⟩ : ByteArray).size = (txt its[m]).length := rfl
            have HUL : Hid ((⟨(txt its[m]).toArray⟩ : ByteArray).toList = txt its[m]) := by show _ = _; rw [ByteArray.toList_eq]
            have hss : S.size + (⟨(txt its[m]).toArray⟩ : ByteArray).size ≤ 3328000 := by rw [hul]; omega
            clear hl hg1 hsz hck hz hp hk htb hul hle hle2
            generalize (⟨(txt its[m]).toArray⟩ : ByteArray) = U at *
            go_wp2_with (first
              | (go_at_call 14; refine CK.out.mono ?_; rintro e w5 ⟨rfl, hb5⟩)
              | (go_at_call 16; refine (num_any _ _).mono ?_; rintro e w6 ⟨rfl, hw6⟩; subst w6))
            go_roundw
            case rel => exact ⟨m + 1, _, by omega, by go_num, rfl, by show _ = _; rw [HT.out, toList_append', HP.out, HUL.out], (hb5.block _ (lt_of_block X3.out)).trans X3.out, nxt B3.out hb5⟩
            case measure => simp [intOf]; omega
        · have hme : m = its.length := by omega
          subst hme
          have h1 := HP.out
          rw [List.take_length] at h1
          have HST : Hid (S.toList = TV.toList) := by show _ = _; rw [h1, HTX.out, ByteArray.toList_eq]
          clear HP h1 HTX HTL HK HI
          have B7 : Hid (Below w.heap.size w ((wr.alloc (.cells #[.string g, .string k, .string t, .slice aa ats.length ac, .slice ia its.length ic] 25)).alloc (.cells #[.string ⟨#[98]⟩, .string ⟨#[]⟩, .string ⟨#[]⟩, .slice none 0 0, .slice (some ⟨wr.heap.size, 0, none⟩) 1 1] 25))) := nxt HB.out (below2 _ _ _)
          have C7 : Hid (Calls Try.prog 14 #[mkT ⟨#[98]⟩ ⟨#[]⟩ ⟨#[]⟩ none 0 0 (some ⟨wr.heap.size, 0, none⟩) 1 1] ((wr.alloc (.cells #[.string g, .string k, .string t, .slice aa ats.length ac, .slice ia its.length ic] 25)).alloc (.cells #[.string ⟨#[98]⟩, .string ⟨#[]⟩, .string ⟨#[]⟩, .slice none 0 0, .slice (some ⟨wr.heap.size, 0, none⟩) 1 1] 25)) _) := CA.out _ wr.heap.size B7.out g k t aa ats.length ac ia its.length ic rfl (boxed2 (Below.refl _ _)).1
          go_wp2_with fail
          refine C7.out.mono ?_
          rintro e w7 ⟨rfl, hb7⟩
          have B8 : Hid (Below w.heap.size w w7) := nxt B7.out hb7
          have X7 : Hid (w7.heap[w.heap.size]? = some (.cells #[.string g, .string k, .string t, .slice aa ats.length ac, .slice ia its.length ic] 25 (0, 0))) := ((nxt (below2 wr _ _) hb7).block _ (lt_of_block HXX.out)).trans HXX.out
          clear y0 y1 y2 y3 y4 hb7 C7 CA CT HX X2 B2
          obtain ⟨y0, y1, y2, y3, y4, -⟩ := box_cells X7.out
          have hse : (TV.toList == S.toList) = true := by rw [HST.out]; simp
          have C8 : Hid (Calls Try.prog 11 #[mkT g k t aa ats.length ac ia its.length ic] w7 _) := CS.out w7 B8.out
          by_cases hcd : 256 ≤ cr ∨ 8 ≤ dr
          · have HXB := HXA.out
            rw [if_pos hcd] at HXB
            obtain ⟨hea, rfl⟩ := HXB
            have he1 : (ea == 0) = false := by simpa using hea
            have he2 : (ea != 0) = true := by simpa using hea
            clear hea
            by_cases hc : 256 ≤ cr
            · have hc1 : decide ((256 : Int) ≤ (cr : Int)) = true := decide_eq_true (by omega)
              go_wp2_with (first
                | (go_at_call 11; refine C8.out.mono ?_; rintro e w8 ⟨rfl, hb8⟩)
                | (go_at_call 16; refine (num_any _ _).mono ?_; rintro e w9 ⟨rfl, hw9⟩; subst w9))
              go_ret
              exact ⟨ret_bool (by simp), nxt B8.out hb8⟩
            · have hc1 : decide ((256 : Int) ≤ (cr : Int)) = false := decide_eq_false (by omega)
              have hc2 : decide ((8 : Int) ≤ (dr : Int)) = true := decide_eq_true (by omega)
              go_wp2_with (first
                | (go_at_call 11; refine C8.out.mono ?_; rintro e w8 ⟨rfl, hb8⟩)
                | (go_at_call 16; refine (num_any _ _).mono ?_; rintro e w9 ⟨rfl, hw9⟩; subst w9))
              go_ret
              exact ⟨ret_bool (by simp), nxt B8.out hb8⟩
          · have HXB := HXA.out
            rw [if_neg hcd] at HXB
            obtain ⟨rfl, rfl⟩ := HXB
            have hc1 : decide ((256 : Int) ≤ (cr : Int)) = false := decide_eq_false (by omega)
            have hc2 : decide ((8 : Int) ≤ (dr : Int)) = false := decide_eq_false (by omega)
            have hte : (TA.toList == TA.toList) = true := by simp
            go_wp2_with (first
              | (go_at_call 11; refine C8.out.mono ?_; rintro e w8 ⟨rfl, hb8⟩)
              | (go_at_call 16; refine (num_any _ _).mono ?_; rintro e w9 ⟨rfl, hw9⟩; subst w9))
            go_ret
            exact ⟨ret_bool (by simp), nxt B8.out hb8⟩
    · have hB : txB v = ⟨#[]⟩ := by unfold txB; rw [if_neg he]
      rw [hB] at CT
      have hd1 : ((sizeT v).1 == 0) = false := by simpa using he
      have hd2 : ((sizeT v).1 != 0) = true := by simpa using he
      obtain ⟨g, k, t, aa, al, ac, ia, il, ic, rfl⟩ := LayT.shape _ hv
      generalize (sizeT v).1 = er at *
      clear he hB hv HV CS
      go_enter Try.func7, Try.ntmps7
      go_wp2_with (first
        | (go_at_call 20; refine (alive_any _).mono ?_; rintro e w1 ⟨rfl, hb1⟩; have X1 := boxed hb1; obtain ⟨y0, y1, y2, y3, y4, -⟩ := box_cells X1; have B1 := nxt (below_one _ _) hb1)
        | (go_at_call 14; refine (CT.out _ B1).mono ?_; rintro e w2 ⟨rfl, hb2⟩)
        | (go_at_call 16; refine (num_any _ _).mono ?_; rintro e w3 ⟨rfl, hw3⟩; subst w3))
      go_ret
      exact ⟨ret_bool (by simp), nxt B1 hb2⟩

set_option maxRecDepth 100000 in
set_option maxHeartbeats 1600000 in
theorem lifted (os : Os) (started : os.Started) (H : Type) (enc : TypeId × Value → H) :
    ReturnsInHanded {} Try.checked os 7 .any (Rows.treeTextsSpec.pre6 enc Try.prog Try.f7 Rows.treeTextsRow.domain false) (Rows.treeTextsSpec.post enc Try.prog Try.f7 false true false false) := by
  refine returnsInHanded_of_change_sized (C := Try.checked) Try.own started (by kernel_rfl) Try.func7
    (ChangeSpec.witness6 (enc := enc) (C := Try.checked) false ⟨#[], #[.agg #[.string ⟨#[]⟩, .string ⟨#[]⟩, .string ⟨#[]⟩, .slice none 0 0, .slice none 0 0]], []⟩ 8 (by kernel_rfl) (by kernel_rfl) (by kernel_rfl) (by kernel_rfl)) ?_
  intro W base args ds gs before hval0 hW _ hsz0 _
  have hsz : (DataW.weightsEach Try.prog (Try.f7.params.toList ++ Rows.treeTextsSpec.plain.varTypes Try.prog) (ds ++ gs)).all (· ≤ reachBytes) = true := hsz0
  have hval : ∀ (j : Nat) t v, Try.f7.params[j]? = some t → args[j]? = some v → Value.okWide Try.prog W .any base t v := hval0
  have hW' := hW
  obtain ⟨p, q, hA0, hV, rfl, hfz, hnd⟩ := hW
  have hA : DataW.TrodAll enc Try.prog W 0 (fun _ => true) true Try.f7.params.toList args.toList ds p := hA0
  rw [Try.params7] at hA hval hsz
  obtain ⟨v0, vs0, d0, ds0, p0, q0, hargs, rfl, rfl, h0, r0⟩ := trodAll_cons hA
  obtain ⟨rfl, rfl, rfl⟩ := trodAll_nil r0
  obtain rfl : args = #[v0] := by cases args; simp_all
  obtain ⟨rfl, rfl⟩ := trodVars_none hV
  clear hA0 hval0
  simp only [List.append_nil] at hW' hsz
  have hlt : ∀ x ∈ p0, x.block < W.heap.size := fun x hx => hW'.lt x (by simpa using hx)
  have hall : ∀ x ∈ DataW.weightsEach Try.prog [25] [d0], x ≤ reachBytes := fun x hx => of_decide_eq_true (List.all_eq_true.1 hsz x hx)
  have g0 : ∀ x ∈ d0.weights Try.prog 25, x ≤ reachBytes := fun x hx => hall x (DataW.weights_mem_each (j := 0) rfl rfl x hx)
  obtain ⟨u0, l0⟩ := tree_of_arg (k := SizeOf.sizeOf d0) (hval 0 _ v0 rfl rfl) h0 (by omega) g0
  refine (walk _ u0 v0 W l0).mono fun e W' ⟨he, bel⟩ => ?_
  subst he
  exact ⟨_, rfl, _, _, _, [], _, [], hW', trodAll_mk1 (shut_bool Try.underlying4 _), (trodAll_cons_mk (Below.trod Try.laidOut (by kernel_rfl) (of_decide_eq_true (by kernel_rfl)) h0 bel (fun x hx => hlt x (by simp [hx]))) trodAll_mk0), rfl, bel.frame _, fun h => by cases h⟩

theorem over : Rows.treeTextsRow.holds Try.pinned (OpenSpec.ofChange Rows.treeTextsSpec) :=
  OpenClaim.holds_of_wide 7 Try.f7 rfl rfl rfl rfl rfl rfl rfl ⟨rfl, rfl, rfl, rfl, rfl⟩ rfl rfl rfl rfl rfl (by kernel_rfl) Try.func7 (by kernel_rfl)
    (of_decide_eq_true (by kernel_rfl)) (by unfold Func.isWrapper; first | (rw [if_pos (by decide +kernel)]; kernel_rfl) | (rw [if_neg (by decide +kernel)]; exact ⟨rfl, rfl⟩))
    (fun os started H enc _ => lifted os started H enc)

/-- THE STATEMENT. -/
theorem proved : Rows.TreeTextsSaid := over
#print axioms proved
end Go.Proofs.Ytoheppocolbjkaa.treeTexts
