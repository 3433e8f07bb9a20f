/-
  DomGone: what is taken away is a node and all within it; the rest stays.
-/
import Derived.Test.YtomhfndjnbhliaaDoPlaceJ
namespace Go.Proofs.Ytomhfndjnbhliaa
open Go.ChangeShapes Go.WideShapes Go.ChangeAt Go.RowKit Go.Deep
open Do
namespace domGone

def ptG (id : Int) : Pt := ⟨3, id, 0, 0, bE, bE, bE, bE, bE⟩

theorem ptG_ok (id : Int) (h : -9223372036854775808 ≤ id ∧ id ≤ 9223372036854775807) : PtOk (ptG id) := ⟨h, ⟨show (-9223372036854775808 : Int) ≤ 0 by decide, show (0 : Int) ≤ 9223372036854775807 by decide⟩, ⟨show (-9223372036854775808 : Int) ≤ 0 by decide, show (0 : Int) ≤ 9223372036854775807 by decide⟩, show (0 : Nat) ≤ 140737488351232 by decide, show (0 : Nat) ≤ 140737488351232 by decide, show (0 : Nat) ≤ 140737488351232 by decide, show (0 : Nat) ≤ 140737488351232 by decide, show (0 : Nat) ≤ 140737488351232 by decide⟩

/-- A row of one number, made anew. -/
theorem own_new1 (w : World) (k : Int) (B : Nat) (hB : B ≤ w.heap.size) : OwnZ (w.alloc (.cells #[.int .i64 k] 3)) B (.slice (some ⟨w.heap.size, 0, none⟩) 1 1) [k] :=
  ⟨rfl, Or.inr ⟨w.heap.size, 1, #[.int .i64 k], rfl, hB, heap_alloc_new _ _, Nat.le_refl 1, by decide, rfl, rfl⟩⟩

theorem take_contains {l : List Int} {k : Nat} (h : k < l.length) (x : Int) : (l.take (k + 1)).contains x = ((l.take k).contains x || l[k] == x) := by
  rw [List.take_add_one, List.getElem?_eq_getElem h, List.contains_eq_any_beq, List.contains_eq_any_beq, List.any_append]
  simp [Bool.beq_comm]

set_option maxRecDepth 100000 in
set_option maxHeartbeats 3200000 in
theorem walk (s : Ds) (x : Value) (id : Int) (w : World) (hx : DsArg w x s) (hwf : (Lit.int IntKind.i64 id).wf = true) :
    Calls Try.prog 6 #[x, .int .i64 id] w fun e w' => e = .returned (.bool true) ∧ Below w.heap.size w w' := by
  obtain ⟨a, c, rfl, hs⟩ := hx
  have hid : -9223372036854775808 ≤ id ∧ id ≤ 9223372036854775807 := by have := bounds_i64 hwf; omega
  clear hwf
  have HS : Hid (∀ W, Below w.heap.size w W → DsIs W s a c) := fun W hb => hs.below hb
  have HPO : Hid (PtOk (ptG id)) := ptG_ok id hid
  have HID : Hid (-9223372036854775808 ≤ id ∧ id ≤ 9223372036854775807) := hid
  have hlen0 := hs.len
  clear hs hid
  obtain ⟨W1, hW1⟩ : ∃ W : World, W = w.alloc (.cells #[.slice a s.nodes.length c, .int .i64 s.root, .int .i64 s.next] 35) := ⟨_, rfl⟩
  have B1 : Hid (Below w.heap.size w W1) := by show Below _ _ _; rw [hW1]; exact below_one _ _
  have Y0 : Hid (W1.heap[w.heap.size]? = some (.cells #[.slice a s.nodes.length c, .int .i64 s.root, .int .i64 s.next] 35 (0, 0))) := by show _ = _; rw [hW1]; exact heap_alloc_new _ _
  go_enter Try.func6, Try.ntmps6
  go_wp2_with fail
  rw [← hW1]
  clear hW1
  refine (aliveD_any W1).mono ?_
  rintro e w2 ⟨rfl, hb2⟩
  have B2 : Hid (Below w.heap.size w w2) := nxt B1.out hb2
  have S2 : Hid (w2.heap[w.heap.size]? = some (.cells #[.slice a s.nodes.length c, .int .i64 s.root, .int .i64 s.next] 35 (0, 0))) := (hb2.block _ (lt_of_block Y0.out)).trans Y0.out
  clear hb2 Y0 B1
  obtain ⟨r, hr⟩ : ∃ r, r = applyD s (ptG id) := ⟨_, rfl⟩
  have HR : Hid (r = applyD s (ptG id)) := hr
  have HOF : Hid (∀ W, Below w2.heap.size w2 W → Calls Try.prog 16 #[.agg #[.slice a s.nodes.length c, .int .i64 s.root, .int .i64 s.next]] W fun e w' => ∃ a3 c3, e = .returned (.agg #[.slice a3 s.nodes.length c3, .int .i64 s.root, .int .i64 s.next]) ∧ DsIs w' s a3 c3 ∧ Below W.heap.size W w') := fun W hb => (of_any s a c W (HS.out W (nxt B2.out hb))).mono fun e w' ⟨x, he, hx, hb'⟩ => by
    obtain ⟨a3, c3, rfl, h3⟩ := hx.isL (HS.out W (nxt B2.out hb)).len (HS.out W (nxt B2.out hb)).root (HS.out W (nxt B2.out hb)).next
    exact ⟨a3, c3, he, h3, hb'⟩
  have HAP : Hid (∀ W a3 c3, DsIs W s a3 c3 → Calls Try.prog 15 #[.agg #[.slice a3 s.nodes.length c3, .int .i64 s.root, .int .i64 s.next], .agg #[.int .i64 3, .int .i64 id, .int .i64 0, .int .i64 0, .string ⟨#[]⟩, .string ⟨#[]⟩, .string ⟨#[]⟩, .string ⟨#[]⟩, .string ⟨#[]⟩]] W fun e w' => ∃ a4 c4, e = .returned (.tuple #[.agg #[.slice a4 r.2.nodes.length c4, .int .i64 r.2.root, .int .i64 r.2.next], .int .i64 r.1]) ∧ DsOwn w' W.heap.size (.agg #[.slice a4 r.2.nodes.length c4, .int .i64 r.2.root, .int .i64 r.2.next]) r.2 ∧ Below W.heap.size W w') := fun W a3 c3 h3 => (apply_any s (ptG id) a3 c3 W h3 HPO.out).mono fun e w' ⟨x, he, hx, hb'⟩ => by
    rw [← hr] at he hx
    obtain ⟨a4, c4, rfl, h4⟩ := (show DsOwn w' W.heap.size x (applyD s (ptG id)).2 by rw [← hr]; exact hx).isA
    rw [← hr] at *
    exact ⟨a4, c4, he, hx, hb'⟩
  clear hr
  obtain ⟨er, D⟩ := r
  simp only at HAP
  obtain ⟨y0, y1, y2⟩ := three S2.out
  go_wp2_with fail
  refine (HOF.out w2 (Below.refl _ _)).mono ?_
  rintro e w3 ⟨a3, c3, rfl, h3, hb3⟩
  have H3 : Hid (DsIs w3 s a3 c3) := h3
  have B3 : Hid (Below w2.heap.size w2 w3) := hb3
  clear h3 hb3 HOF y0 y1 y2
  go_wp2_with fail
  refine (HAP.out w3 a3 c3 H3.out).mono ?_
  rintro e w4 ⟨a4, c4, rfl, h4, hb4⟩
  have HOW : Hid (∃ B, DsOwn (w4.alloc (.cells #[.slice a4 D.nodes.length c4, .int .i64 D.root, .int .i64 D.next] 29)) B (.agg #[.slice a4 D.nodes.length c4, .int .i64 D.root, .int .i64 D.next]) D) := ⟨_, h4.below (below_one _ _)⟩
  have HBC : Hid (Below w2.heap.size w2 (w4.alloc (.cells #[.slice a4 D.nodes.length c4, .int .i64 D.root, .int .i64 D.next] 29))) := nxt (nxt B3.out hb4) (below_one _ _)
  have HG : Hid ((w4.alloc (.cells #[.slice a4 D.nodes.length c4, .int .i64 D.root, .int .i64 D.next] 29)).heap[w4.heap.size]? = some (.cells #[.slice a4 D.nodes.length c4, .int .i64 D.root, .int .i64 D.next] 29 (0, 0))) := heap_alloc_new _ _
  clear h4 hb4 HAP H3 B3
  go_wp2_with fail
  generalize w4.alloc (.cells #[.slice a4 D.nodes.length c4, .int .i64 D.root, .int .i64 D.next] 29) = wc at *
  generalize w4.heap.size = g at *
  have B3 : Hid (Below w.heap.size w wc) := nxt B2.out HBC.out
  have S3 : Hid (wc.heap[w.heap.size]? = _) := (HBC.out.block _ (lt_of_block S2.out)).trans S2.out
  refine (numD_any _ _).mono ?_
  rintro e w9 ⟨rfl, h9⟩
  subst w9
  by_cases he : er = 0
  · subst he
    have HAZ : Hid ((applyD s (ptG id)).1 = 0 ∧ (applyD s (ptG id)).2 = D) := ⟨by rw [← HR.out], by rw [← HR.out]⟩
    obtain ⟨n, hgood, hnd, hnx, hdone⟩ := gone_ok (s := s) (p := ptG id) rfl HAZ.out.1
    rw [HAZ.out.2] at hnx hdone
    have HGD : Hid (Do.Good s.nodes) := hgood
    have HND : Hid (nd s.nodes id = some n) := hnd
    have HDN : Hid (∀ i gl, Bf s.nodes id i gl → gl.length ≤ i → D.nodes = (s.nodes.filter fun m => !(gl.contains m.id)).map fun m => offK n m.id m) := hdone
    have hs1024 : s.nodes.length ≤ 1024 := (apply_zero HAZ.out.1).1.len
    have HOK : Hid (OkD D) := by
      obtain ⟨h1, h2, h3⟩ := apply_zero HAZ.out.1
      have h4 := take_ok h1 (ptG id)
      have h5 : (takeD s (ptG id)).2 = D := by rw [← h3]; exact HAZ.out.2
      rw [h5] at h4
      exact h4.1
    have HDI : Hid (DsIs wc D a4 c4) := by
      obtain ⟨B, hB⟩ := HOW.out
      obtain ⟨a5, c5, e5, h5⟩ := hB.isL (by have := HOK.out.len; omega) (by
        rcases HOK.out.root with h0 | ⟨m, h1, -⟩
        · omega
        · obtain ⟨v, ab, kb, -, hO⟩ := hB
          have h2 := nd_some h1
          have h3 := (hO.fit m h2.1).id
          rw [h2.2] at h3
          exact h3) (by have := HOK.out.nx; omega)
      simp only [Value.agg.injEq, Array.mk.injEq, List.cons.injEq, Value.slice.injEq, and_true, true_and] at e5
      obtain ⟨rfl, rfl⟩ := e5
      exact h5
    have hlen : D.nodes.length ≤ 1024 := HOK.out.len
    rw [hnx] at HG
    clear hgood hnd hdone hnx HAZ HOK HOW HR HPO
    have HN0 : Hid (OwnZ (wc.alloc (.cells #[.int .i64 id] 3)) wc.heap.size (.slice (some ⟨wc.heap.size, 0, none⟩) 1 1) [id]) := own_new1 wc id _ (Nat.le_refl _)
    have HB0 : Hid (Below wc.heap.size wc (wc.alloc (.cells #[.int .i64 id] 3))) := below_one _ _
    go_wp2_with fail
    go_loopw [7, 8, 9] (fun v7 v8 _ wr => ∃ (i : Nat) (gl : List Int), v8 = .int .i64 (i : Int) ∧ Hid (OwnZ wr wc.heap.size v7 gl) ∧ Hid (Bf s.nodes id i gl) ∧ Hid (Below wc.heap.size wc wr)) (fun _ v8 _ _ => s.nodes.length - (intOf v8).toNat)
    case atStart => exact ⟨0, [id], rfl, HN0.out, Bf.start HND.out, HB0.out⟩
    case round =>
      obtain ⟨i, gl, rfl, HO, HF, HW⟩ := hrel
      obtain ⟨ga, gc, hv⟩ := HO.out.shape
      subst hv
      have hgl : gl.length ≤ s.nodes.length := HF.out.len
      obtain ⟨q0, q1, q2⟩ := three ((HW.out.block _ (lt_of_block S3.out)).trans S3.out)
      by_cases hlt : i < gl.length
      · have hlt2 : i < s.nodes.length := by omega
        obtain ⟨gb, hga, r0⟩ := HO.out.at i hlt
        subst hga
        obtain ⟨m, hm⟩ := HF.out.node gl[i] (List.getElem_mem hlt)
        obtain ⟨k, hk1, hk2⟩ := nd_at hm
        have hkl : k < s.nodes.length := (List.getElem?_eq_some_iff.1 hk2).1
        obtain ⟨b, o, aa, ac, ka, kc, ha, hN⟩ := (HS.out wr (nxt B3.out HW.out)).lay k m hk2
        subst ha
        have r6 := hN.c6
        have HNX : Hid (Bf s.nodes id (i + 1) (gl ++ m.kids)) := HF.out.next HGD.out (List.getElem?_eq_getElem hlt) hm
        have HPI : plI s.nodes gl[i] = (k : Int) := by unfold plI; rw [hk1]
        have HPL : Hid (∀ W, Below w.heap.size w W → Calls Try.prog 18 #[.agg #[.slice (some ⟨b, o, none⟩) s.nodes.length c, .int .i64 s.root, .int .i64 s.next], .int .i64 gl[i]] W fun e w' => e = .returned (.int .i64 (k : Int)) ∧ Below W.heap.size W w') := fun W hb => by
          rw [← HPI]
          exact rplace_any s gl[i] _ c W (HS.out W hb)
        have HKD : Hid (FitN m aa ac ka kc ∧ LayZ wr ka m.kids ∧ m.kids.length ≤ 32) := ⟨hN.fit, hN.kids, (alone_iff.1 (HGD.out.at hm).alone).2.2⟩
        have BR : Hid (Below w.heap.size w wr) := nxt B3.out HW.out
        clear hN hm hk1 hk2 HPI
        generalize gl[i] = y at *
        have e0 : ∀ z : Cls wr, z.1.cell? ⟨w.heap.size, 0, none⟩ = some (.slice (some ⟨b, o, none⟩) s.nodes.length c) := fun z => Cls.cell q0 z
        have e1 : ∀ z : Cls wr, z.1.cell? ⟨w.heap.size, 1, none⟩ = some (.int .i64 s.root) := fun z => Cls.cell q1 z
        have e2 : ∀ z : Cls wr, z.1.cell? ⟨w.heap.size, 2, none⟩ = some (.int .i64 s.next) := fun z => Cls.cell q2 z
        rw [Nat.zero_add] at r0
        have e3 : ∀ z : Cls wr, z.1.cell? ⟨gb, i, none⟩ = some (.int .i64 y) := fun z => Cls.cell r0 z
        have CP : Hid (∀ z : Cls wr, Calls Try.prog 18 #[.agg #[.slice (some ⟨b, o, none⟩) s.nodes.length c, .int .i64 s.root, .int .i64 s.next], .int .i64 y] z.1 fun e w' => e = .returned (.int .i64 (k : Int)) ∧ Below z.1.heap.size z.1 w') := fun z => HPL.out z.1 (nxt BR.out z.2)
        have inst : Nonempty (Cls wr) := ⟨⟨_, Below.refl _ _⟩⟩
        go_wp2_with fail
        have e6 : ∀ z : Cls wr, z.1.cell? ⟨b, o + k * 7 + 6, none⟩ = some (.slice ka m.kids.length kc) := fun z => Cls.cell r6 z
        clear q0 q1 q2 r0 r6
        refine wp_region_cls (by kernel_rfl) (by kernel_rfl) ?_
        repeat (go_big_quiet_step ((go_at_call 18; exact Calls.cls (CP.out _))))
        refine wpQuiet_nil ?_
        intro _ hw'
        obtain ⟨z, hw''⟩ := hw'
        subst hw''
        have t0 := e0 z
        have t6 := e6 z
        clear e0 e1 e2 e3 e6 CP
        have HOX : Hid (OwnZ z.1 wc.heap.size (.slice (some ⟨gb, 0, none⟩) gl.length gc) gl) := HO.out.below z.2
        have HBX : Hid (Below wc.heap.size wc z.1) := nxt HW.out z.2
        have HNN : Hid (ka = none → m.kids.length = 0 ∧ kc = 0) := fun h => by
          have := HKD.out.1.kids
          have h1 := this.2.2.2.1 h
          have h2 := this.1
          omega
        have HNW : Hid (∀ ad, ka = some ad → ∀ i k, m.kids[i]? = some k → z.1.cell? (ad.add i) = some (.int .i64 k)) := fun ad had i k hk => by
          obtain ⟨b', o', h1, h2, -⟩ := HKD.out.2.1.below z.2 i k hk
          rw [h1] at had
          cases had
          rw [add_plain]
          exact h2
        have HSZ : Hid ((gl.length + m.kids.length) * 8 ≤ 140737488355328 ∧ wc.heap.size ≤ z.1.heap.size) := ⟨by have := HKD.out.2.2; omega, HBX.out.size⟩
        go_wp2_with (refine wpList_appI _ rfl (.tmp 52) (.tmp 58) rfl wc.heap.size _ gl m.kids rfl HOX.out ka kc rfl HNN.out HNW.out HSZ.out.1 HSZ.out.2 ?_; intro v' w' q1 q2 q3; have OO : Hid (OwnZ w' wc.heap.size v' (gl ++ m.kids)) := q1; have BB : Hid (Below wc.heap.size wc w') := HBX.out.trans (grownB HOX.out q2 HSZ.out.2); clear q1 q2 q3)
        go_roundw
        case rel => exact ⟨i + 1, gl ++ m.kids, by go_num, OO.out, HNX.out, BB.out⟩
        case measure => simp [intOf]; omega
      · have HDQ : Hid (D.nodes = (s.nodes.filter fun m => !(gl.contains m.id)).map fun m => offK n m.id m) := HDN.out i gl HF.out (by omega)
        go_wp2_with fail
        clear q0 q1 q2
        obtain ⟨w3, hw3⟩ : ∃ W, W = wr := ⟨_, rfl⟩
        subst hw3
        go_loopw [10, 11, 12, 13] (fun v10 v11 _ _ wq => ∃ i : Nat, i ≤ s.nodes.length ∧ v10 = .int .i64 ((((s.nodes.take i).filter fun m => !(gl.contains m.id)).length : Nat) : Int) ∧ v11 = .int .i64 (i : Int) ∧ Hid (Below w3.heap.size w3 wq)) (fun _ v11 _ _ _ => s.nodes.length - (intOf v11).toNat)
        case atStart => exact ⟨0, Nat.zero_le _, rfl, rfl, Below.refl _ _⟩
        case round =>
          obtain ⟨i, hi, rfl, rfl, HQ⟩ := hrel
          have BQ : Hid (Below w.heap.size w wr) := nxt (nxt B3.out HW.out) HQ.out
          obtain ⟨q0, q1, q2⟩ := three ((nxt HW.out HQ.out).block _ (lt_of_block S3.out) |>.trans S3.out)
          by_cases hlt : i < s.nodes.length
          · obtain ⟨m, hm⟩ : ∃ m, s.nodes[i]? = some m := ⟨_, List.getElem?_eq_getElem hlt⟩
            have HM : Hid (s.nodes[i]? = some m) := hm
            obtain ⟨b, o, aa, ac, ka, kc, ha, hN⟩ := (HS.out wr BQ.out).lay i m hm
            subst ha
            have HN : Hid (NdAt wr b (o + i * 7) m aa ac ka kc) := hN
            clear hN hm
            go_wp2_with fail
            clear q0 q1 q2
            obtain ⟨w5, hw5⟩ : ∃ W, W = wr := ⟨_, rfl⟩
            subst hw5
            go_loopw [12, 13] (fun v12 v13 wq => ∃ k : Nat, k ≤ gl.length ∧ v12 = .bool ((gl.take k).contains m.id) ∧ v13 = .int .i64 (k : Int) ∧ Hid (Below w5.heap.size w5 wq)) (fun _ v13 _ => gl.length - (intOf v13).toNat)
            case atStart => exact ⟨0, Nat.zero_le _, rfl, rfl, Below.refl _ _⟩
            case round =>
              obtain ⟨k, hk, rfl, rfl, HK⟩ := hrel
              have BK : Hid (Below wc.heap.size wc wr) := nxt HW.out (nxt HQ.out HK.out)
              obtain ⟨q0, q1, q2⟩ := three (BK.out.block _ (lt_of_block S3.out) |>.trans S3.out)
              by_cases hkl : k < gl.length
              · obtain ⟨gb, hga, r0⟩ := HO.out.at k hkl
                subst hga
                rw [Nat.zero_add] at r0
                have r0 := keepc (nxt HQ.out HK.out) _ _ r0
                have r1 := keepc HK.out _ _ HN.out.c0
                have HTC : Hid ((gl.take (k + 1)).contains m.id = ((gl.take k).contains m.id || gl[k] == m.id)) := take_contains hkl m.id
                generalize gl[k] = y at *
                generalize (gl.take k).contains m.id = tb at *
                cases tb with
                | true =>
                  clear r0 r1 q1 q2
                  go_wp2_with fail
                  go_big_quiet (fail)
                  go_wp2_with fail
                  go_roundw
                  case rel => exact ⟨k + 1, by omega, by rw [HTC.out]; rfl, by go_num, nxt HK.out (Below_drewN _ _ _)⟩
                  case measure => simp [intOf]; omega
                | false =>
                  clear q1 q2
                  go_wp2_with fail
                  go_big_quiet (fail)
                  go_wp2_with fail
                  go_roundw
                  case rel => exact ⟨k + 1, by omega, by rw [HTC.out]; rfl, by go_num, nxt HK.out (Below_drewN _ _ _)⟩
                  case measure => simp [intOf]; omega
              · rw [show gl.take k = gl from List.take_of_length_le (by omega)]
                have BQ2 : Hid (Below w3.heap.size w3 wr) := nxt HQ.out HK.out
                cases hcf : gl.contains m.id with
                | true =>
                  have HTF : Hid (((s.nodes.take (i + 1)).filter fun m => !(gl.contains m.id)).length = ((s.nodes.take i).filter fun m => !(gl.contains m.id)).length) := by
                    show _ = _
                    rw [take_filter _ HM.out, if_neg (by simp only [hcf]; decide)]
                    rfl
                  clear hcf q0 q1 q2
                  go_wp2_with fail
                  go_roundw
                  case rel => exact ⟨i + 1, by omega, by rw [HTF.out], by go_num, BQ2.out⟩
                  case measure => simp [intOf]; omega
                | false =>
                  have hcf : (!(gl.contains m.id)) = true := by rw [hcf]; rfl
                  have hn1 := filter_at (fun m : Nd => !(gl.contains m.id)) HM.out hcf
                  obtain ⟨dm, hdm, hd1, hd2, hd3, hd4⟩ : ∃ dm, D.nodes[((s.nodes.take i).filter fun m => !(gl.contains m.id)).length]? = some dm ∧ dm.id = m.id ∧ dm.par = m.par ∧ dm.tag = m.tag ∧ dm.txt = m.txt := by
                    refine ⟨offK n m.id m, ?_, offK_id _ _ _, offK_par _ _ _, offK_tag _ _ _, offK_txt _ _ _⟩
                    rw [HDQ.out, List.getElem?_map, hn1]
                    rfl
                  have hnl := (List.getElem?_eq_some_iff.1 hdm).1
                  obtain ⟨db, d_o, daa, dac, dka, dkc, hda, hDN⟩ := HDI.out.lay.below BK.out _ dm hdm
                  subst hda
                  have HTF : Hid (((s.nodes.take (i + 1)).filter fun m => !(gl.contains m.id)).length = ((s.nodes.take i).filter fun m => !(gl.contains m.id)).length + 1) := by
                    show _ = _
                    rw [take_filter _ HM.out, if_pos hcf]
                  obtain ⟨t0, t1, t2⟩ := three (BK.out.block _ (lt_of_block HG.out) |>.trans HG.out)
                  have c0 := hDN.c0
                  have c1 := hDN.c1
                  have c2 := hDN.c2
                  have c4 := hDN.c4
                  rw [hd1] at c0
                  rw [hd2] at c1
                  rw [hd3] at c2
                  rw [hd4] at c4
                  have r0 := keepc HK.out _ _ HN.out.c0
                  have r1 := keepc HK.out _ _ HN.out.c1
                  have r2 := keepc HK.out _ _ HN.out.c2
                  have r4 := keepc HK.out _ _ HN.out.c4
                  have hnn : ((s.nodes.take i).filter fun m => !(gl.contains m.id)).length ≤ 1024 := by omega
                  have gge : decide (((D.nodes.length : Nat) : Int) ≤ ((((s.nodes.take i).filter fun m => !(gl.contains m.id)).length : Nat) : Int)) = false := decide_eq_false (by omega)
                  have gg2 : decide (D.nodes.length ≤ ((s.nodes.take i).filter fun m => !(gl.contains m.id)).length) = false := decide_eq_false (by omega)
                  have HTQ : Hid ((((((s.nodes.take i).filter fun m => !(gl.contains m.id)).length : Nat) : Int) + 1) = ((((s.nodes.take (i + 1)).filter fun m => !(gl.contains m.id)).length : Nat) : Int)) := by show _ = _; rw [HTF.out]; rfl
                  generalize ((s.nodes.take i).filter fun m => !(gl.contains m.id)).length = nn at *
                  have b0 : (m.id != m.id) = false := by simp
                  have b1 : (m.par != m.par) = false := by simp
                  generalize m.id = f0 at *
                  generalize m.par = f1 at *
                  generalize m.tag = f2 at *
                  generalize m.txt = f4 at *
                  clear hcf hn1 hdm hd1 hd2 hd3 hd4 hDN q1 q2 t1 t2
                  go_wp2_with fail
                  simp only [List.append]
                  go_big_quiet (fail)
                  go_wp2_with fail
                  go_roundw
                  case rel => exact ⟨i + 1, by omega, congrArg (Value.int .i64) HTQ.out, by go_num, nxt BQ2.out (Below_drewN _ _ _)⟩
                  case measure => simp [intOf]; omega
          · have HLN : Hid (((s.nodes.take i).filter fun m => !(gl.contains m.id)).length = D.nodes.length) := by
              show _ = _
              rw [show s.nodes.take i = s.nodes from List.take_of_length_le (by omega), HDQ.out, List.length_map]
            rw [HLN.out]
            obtain ⟨t0, t1, t2⟩ := three ((nxt HW.out HQ.out).block _ (lt_of_block HG.out) |>.trans HG.out)
            go_wp2_with fail
            go_ret
            exact ⟨by first | rfl | trivial, BQ.out⟩
  · have hD : D = noD := by
      have h1 : (applyD s (ptG id)).2 = D := by rw [← HR.out]
      rw [← h1]
      exact apply_err (by rw [← HR.out]; exact he)
    subst hD
    have HG0 : Hid (wc.heap[g]? = some (.cells #[.slice a4 0 c4, .int .i64 0, .int .i64 0] 29 (0, 0))) := HG.out
    have ge : (er != 0) = true := by simpa using he
    clear HG HOW HR he
    obtain ⟨t0, t1, t2⟩ := three HG0.out
    go_wp2_with fail
    go_ret
    exact ⟨rfl, B3.out⟩

set_option maxRecDepth 100000 in
set_option maxHeartbeats 1600000 in
theorem lifted (os : Os) (started : os.Started) (H : Type) (enc : TypeId × Value → H) :
    ReturnsInHanded {} Try.checked os 6 .any (Rows.domGoneSpec.pre6 enc Try.prog Try.f6 Rows.domGoneRow.domain false) (Rows.domGoneSpec.post enc Try.prog Try.f6 false true false false) := by
  refine returnsInHanded_of_change_sized (C := Try.checked) Try.own started (by kernel_rfl) Try.func6
    (ChangeSpec.witness6 (enc := enc) (C := Try.checked) false ⟨#[], #[.agg #[.slice none 0 0, .int .i64 0, .int .i64 0], .int .i64 0], []⟩ 8 (by kernel_rfl) (by kernel_rfl) (by kernel_rfl) (by kernel_rfl)) ?_
  intro W base args ds gs before hval0 hW _ hsz0 _
  have hsz : (DataW.weightsEach Try.prog (Try.f6.params.toList ++ Rows.domGoneSpec.plain.varTypes Try.prog) (ds ++ gs)).all (· ≤ reachBytes) = true := hsz0
  have hval : ∀ (j : Nat) t v, Try.f6.params[j]? = some t → args[j]? = some v → Value.okWide Try.prog W .any base t v := hval0
  have hW' := hW
  obtain ⟨p, q, hA0, hV, rfl, hfz, hnd⟩ := hW
  have hA : DataW.TrodAll enc Try.prog W 0 (fun _ => true) true Try.f6.params.toList args.toList ds p := hA0
  rw [Try.params6] at hA hval hsz
  obtain ⟨v0, vs0, d0, ds0, p0, q0, hargs, rfl, rfl, h0, r0⟩ := trodAll_cons hA
  obtain ⟨v1, vs1, d1, ds1, p1, q1, rfl, rfl, rfl, h1, r1⟩ := trodAll_cons r0
  obtain ⟨rfl, rfl, rfl⟩ := trodAll_nil r1
  obtain rfl : args = #[v0, v1] := by cases args; simp_all
  obtain ⟨rfl, rfl⟩ := trodVars_none hV
  clear hA0 hval0
  simp only [List.append_nil] at hW' hsz
  have hlt : ∀ x ∈ p0 ++ p1, x.block < W.heap.size := fun x hx => hW'.lt x (by simpa using hx)
  have hall : ∀ x ∈ DataW.weightsEach Try.prog [35, 3] [d0, d1], x ≤ reachBytes := fun x hx => of_decide_eq_true (List.all_eq_true.1 hsz x hx)
  have g0 : ∀ x ∈ d0.weights Try.prog 35, x ≤ reachBytes := fun x hx => hall x (DataW.weights_mem_each (j := 0) rfl rfl x hx)
  obtain ⟨u0, l0⟩ := ds_of_arg (hval 0 _ v0 rfl rfl) h0 g0
  obtain ⟨a1, rfl, rfl, rfl, w1⟩ := open_int Try.underlying3 (hval 1 3 v1 rfl rfl) h1
  refine (walk u0 v0 a1 W l0 w1).mono fun e W' ⟨he, bel⟩ => ?_
  subst he
  exact ⟨_, rfl, _, _, _, [], _, [], hW', trodAll_mk1 (shut_bool Try.underlying4 _), (trodAll_cons_mk (Below.trod Try.laidOut (by kernel_rfl) (of_decide_eq_true (by kernel_rfl)) h0 bel (fun x hx => hlt x (by simp [hx]))) (trodAll_cons_mk (shut_int Try.underlying3 w1) trodAll_mk0)), rfl, bel.frame _, fun h => by cases h⟩

theorem over : Rows.domGoneRow.holds Try.pinned (OpenSpec.ofChange Rows.domGoneSpec) :=
  OpenClaim.holds_of_wide 6 Try.f6 rfl rfl rfl rfl rfl rfl rfl ⟨rfl, rfl, rfl, rfl, rfl⟩ rfl rfl rfl rfl rfl (by kernel_rfl) Try.func6 (by kernel_rfl)
    (of_decide_eq_true (by kernel_rfl)) (by unfold Func.isWrapper; first | (rw [if_pos (by decide +kernel)]; kernel_rfl) | (rw [if_neg (by decide +kernel)]; exact ⟨rfl, rfl⟩))
    (fun os started H enc _ => lifted os started H enc)

/-- THE STATEMENT. -/
theorem proved : Rows.DomGoneSaid := over
#print axioms proved
end domGone
end Go.Proofs.Ytomhfndjnbhliaa
