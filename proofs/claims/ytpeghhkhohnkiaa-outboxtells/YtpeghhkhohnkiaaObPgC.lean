/-
  The page's Ack.
-/
import Derived.Test.YtpeghhkhohnkiaaObPgB
namespace Go.Proofs.Ytpeghhkhohnkiaa
open Go.ChangeShapes Go.WideShapes Go.ChangeAt Go.RowKit

theorem rem_snoc_eq {n : Nat} {id : Int} {l : List (Tm n)} {u : Tm n} (h : u.1 = id) : rem id (l ++ [u]) = rem id l := by simp [rem, List.filter_append, h]
theorem rem_snoc_ne {n : Nat} {id : Int} {l : List (Tm n)} {u : Tm n} (h : ¬ u.1 = id) : rem id (l ++ [u]) = rem id l ++ [u] := by simp [rem, List.filter_append, h]
theorem any_snoc {n : Nat} {id : Int} {l : List (Tm n)} {u : Tm n} : (l ++ [u]).any (fun u => decide (u.1 = id)) = (l.any (fun u => decide (u.1 = id)) || decide (u.1 = id)) := by simp

set_option maxRecDepth 100000 in
set_option maxHeartbeats 6400000 in
theorem rack_any {n : Nat} (L id : Int) (its : List (Tm n)) (ia : Option Addr) (ic : Nat) (w : World) (hT : TIs w n ia ic its) :
    Calls Try.prog 14 #[.agg #[.int .i64 L, .slice ia its.length ic], .int .i64 id] w (AckPost w (ackR L its id)) := by
  have HT : Hid (TIs w n ia ic its) := hT
  have hlT := hT.2.2.1
  have C1 : Hid (∀ w', Below w.heap.size w w' → Calls Try.prog 21 #[.agg #[.int .i64 L, .slice ia its.length ic]] w' fun e w'' => e = .returned (.int .i64 (chkB L its)) ∧ Below w'.heap.size w' w'') := fun w' hb => rbcheck_any L its ia ic w' (hT.below hb)
  clear hT
  by_cases h0 : chkB L its = 0
  · obtain ⟨e1, e2, e3, -⟩ := chkB_ok h0
    have HC0 : Hid (chkB L its = 0) := h0
    have ha : IntKind.i64.wrap (L + 1) = L + 1 := by rw [IntKind.wrap_i64]; omega
    have hb : IntKind.i64.wrap (32 * (L + 1)) = 32 * (L + 1) := by rw [IntKind.wrap_i64]; omega
    rw [h0] at C1
    clear h0
    by_cases f1 : id < 32
    · have hd1 : decide (id < 32) = true := by simpa using f1
      have E : Hid (ackR L its id = (4, false, 0, [])) := by show _ = _; unfold ackR; rw [if_pos HC0.out, if_neg (by omega)]
      go_enter Try.func14, Try.ntmps14
      go_wp2_with fail
      refine (C1.out _ (below_two _ _ _)).mono ?_
      rintro e w1 ⟨rfl, hb1⟩
      have T1 : Hid (Two w w1 _ _) := Two.new w _ _ hb1
      have B1 : Hid (Below w.heap.size w w1) := nxt (below_two _ _ _) hb1
      clear hb1
      obtain ⟨x0, x1, y0, y1, z0, z1⟩ := two_cells2 T1.out
      go_wp2_with fail
      refine bodyPost_ret (v := .tuple #[.agg #[.int .i64 0, .slice none 0 0], .bool false, .int .i64 4]) (by simp [results, Try.results14, go_sem, y0, y1]) rfl ?_
      rw [E.out]
      exact ⟨_, _, rfl, CopyInv.none2 _ B1.out (by omega) _ _⟩
    · have hd1 : decide (id < 32) = false := by simpa using f1
      by_cases f2 : 32 * (L + 1) ≤ id
      · have hd2 : decide (32 * (L + 1) ≤ id) = true := by simpa using f2
        have E : Hid (ackR L its id = (4, false, 0, [])) := by show _ = _; unfold ackR; rw [if_pos HC0.out, if_neg (by omega)]
        go_enter Try.func14, Try.ntmps14
        go_wp2_with fail
        refine (C1.out _ (below_two _ _ _)).mono ?_
        rintro e w1 ⟨rfl, hb1⟩
        have T1 : Hid (Two w w1 _ _) := Two.new w _ _ hb1
        have B1 : Hid (Below w.heap.size w w1) := nxt (below_two _ _ _) hb1
        clear hb1
        obtain ⟨x0, x1, y0, y1, z0, z1⟩ := two_cells2 T1.out
        go_wp2_with fail
        refine bodyPost_ret (v := .tuple #[.agg #[.int .i64 0, .slice none 0 0], .bool false, .int .i64 4]) (by simp [results, Try.results14, go_sem, y0, y1]) rfl ?_
        rw [E.out]
        exact ⟨_, _, rfl, CopyInv.none2 _ B1.out (by omega) _ _⟩
      · have hd2 : decide (32 * (L + 1) ≤ id) = false := by simpa using f2
        have E : Hid (ackR L its id = (0, its.any (fun u => decide (u.1 = id)), L, rem id its)) := by show _ = _; unfold ackR; rw [if_pos HC0.out, if_pos (by omega)]
        clear f1 f2
        go_enter Try.func14, Try.ntmps14
        go_wp2_with fail
        refine (C1.out _ (below_two _ _ _)).mono ?_
        rintro e w1 ⟨rfl, hb1⟩
        have T1 : Hid (Two w w1 _ _) := Two.new w _ _ hb1
        have B1 : Hid (Below w.heap.size w w1) := nxt (below_two _ _ _) hb1
        clear hb1
        obtain ⟨x0, x1, y0, y1, z0, z1⟩ := two_cells2 T1.out
        go_wp2_with fail
        have P2 : Hid (PgI (n := n) w1 (w1.alloc (.cells #[.int .i64 L, .slice none 0 0] 24)) w1.heap.size L (.slice none 0 0) [] (fun _ => False)) := PgI.start w1 L (OwnR.nil _ _) w1 (Below.refl _ _) (fun _ hb => hb.elim)
        clear x0 x1 y0 y1 z0 z1
        generalize w1.alloc (.cells #[.int .i64 L, .slice none 0 0] 24) = W3 at *
        go_loopw [8, 9] (fun vw i wr => ∃ (m : Nat) (v : Value) (H : Nat → Prop), m ≤ its.length ∧ i = .int .i64 m ∧ vw = .bool ((its.take m).any (fun u => decide (u.1 = id))) ∧ Hid (PgI w1 wr w1.heap.size L v (rem id (its.take m)) H)) (fun _ i _ => its.length - (intOf i).toNat)
        case atStart => exact ⟨0, _, fun _ => False, Nat.zero_le _, rfl, rfl, P2.out⟩
        case round =>
          obtain ⟨m, v, H, hm, rfl, rfl, HI⟩ := hrel
          obtain ⟨acc, hacc⟩ : ∃ acc, rem id (its.take m) = acc := ⟨_, rfl⟩
          rw [hacc] at HI
          have HACC : Hid (rem id (its.take m) = acc) := hacc
          have HAL : Hid (acc.length ≤ m) := by show _ ≤ _; rw [← hacc]; exact Nat.le_trans (List.length_filter_le _ _) (by rw [List.length_take]; omega)
          clear hacc
          obtain ⟨va, vc, rfl⟩ := HI.out.1.shape
          have HBW : Hid (Below w.heap.size w wr) := nxt B1.out HI.out.2.2.1
          have TW : Hid (Two w wr _ _) := T1.out.below HI.out.2.2.1
          obtain ⟨x0, x1, y0, y1, z0, z1⟩ := two_cells2 TW.out
          obtain ⟨t0, -⟩ := cell_of HI.out.2.2.2.2 0
          obtain ⟨t1, tf⟩ := cell_of HI.out.2.2.2.2 1
          simp only [List.getElem?_toArray, List.getElem?_cons_zero, List.getElem?_cons_succ] at t0 t1
          by_cases hlt : m < its.length
          · obtain ⟨b, o, k, bb, t, ka, kl, kc, ja, jl, jc, rfl, q0, q1, q2, q3, q4, q5, q6, hl, -⟩ := (HT.out.below HBW.out).at m hlt
            have hm1 : (m : Int) < (its.length : Int) := by omega
            have HL : Hid (Lay wr n (mk k bb t ka kl kc ja jl jc) its[m].2.2) := hl
            have HTK : Hid (its.take (m + 1) = its.take m ++ [its[m]]) := List.take_succ_eq_append_getElem hlt
            clear hl
            obtain ⟨⟨iv, nm, u⟩, hu⟩ : ∃ u : Tm n, its[m] = u := ⟨_, rfl⟩
            rw [hu] at q0 q1 HL HTK
            simp only at q0 q1 HL
            clear hu
            by_cases hid : iv = id
            · have hz : (iv == id) = true := by simpa using hid
              have HR2 : Hid (rem id (its.take (m + 1)) = acc) := by show _ = _; rw [HTK.out, rem_snoc_eq hid, HACC.out]
              have HA2 : Hid ((its.take (m + 1)).any (fun u => decide (u.1 = id)) = true) := by show _ = _; rw [HTK.out, any_snoc]; simp [hid]
              clear hid
              go_wp2_with fail
              go_roundw
              case rel => exact ⟨m + 1, _, H, by omega, by go_num, by rw [HA2.out], by rw [HR2.out]; exact HI.out⟩
              case measure => simp [intOf]; omega
            · have hz : (iv == id) = false := by simpa using hid
              have HR2 : Hid (rem id (its.take (m + 1)) = acc ++ [(iv, nm, u)]) := by show _ = _; rw [HTK.out, rem_snoc_ne hid, HACC.out]
              have HA2 : Hid ((its.take (m + 1)).any (fun u => decide (u.1 = id)) = (its.take m).any (fun u => decide (u.1 = id))) := by show _ = _; rw [HTK.out, any_snoc]; simp [hid]
              clear hid
              have HLEN : Hid ((acc.length + 1) * 104 ≤ 140737488355328) := by have := HAL.out; show _ ≤ _; omega
              generalize (its.take m).any (fun u => decide (u.1 = id)) = wz at *
              have x1d : wr.drew.cell? ⟨w.heap.size, 1, none⟩ = some (.slice (some ⟨b, o, none⟩) its.length ic) := x1
              have t1d : wr.drew.cell? ⟨w1.heap.size, 1, none⟩ = some (.slice va acc.length vc) := t1
              have q0d : wr.drew.cell? ⟨b, o + m * 7, none⟩ = some (.int .i64 iv) := q0
              have q1d : wr.drew.cell? ⟨b, o + m * 7 + 1, none⟩ = some (.string nm) := q1
              have q2d : wr.drew.cell? ⟨b, o + m * 7 + 2, none⟩ = some (.int .i64 k) := q2
              have q3d : wr.drew.cell? ⟨b, o + m * 7 + 3, none⟩ = some (.int .u64 bb) := q3
              have q4d : wr.drew.cell? ⟨b, o + m * 7 + 4, none⟩ = some (.string t) := q4
              have q5d : wr.drew.cell? ⟨b, o + m * 7 + 5, none⟩ = some (.slice ka kl kc) := q5
              have q6d : wr.drew.cell? ⟨b, o + m * 7 + 6, none⟩ = some (.slice ja jl jc) := q6
              clear y0 y1 z0 z1 t0 HAL HACC HTK
              go_wp2_with fail
              go_region_law (first
                | (refine step_call1 rfl 42 (by intros; go_simp) _ _ rfl (.agg #[.int .i64 iv, .string nm, .int .i64 k, .int .u64 bb, .string t, .slice ka kl kc, .slice ja jl jc]) (by first | (simp [Act.eval]; done) | simp [Act.eval, Act.put]) (fun y w' => OwnPost wr.drew iv nm u y w') (pown_any iv nm u k bb t ka kl kc ja jl jc _ (Lay.below n HL.out (Below.refl _ wr).drew)) ?_; intro y w6 hR; obtain ⟨k', b', t', ka', kl', kc', ja', jl', jc', F, rfl, ho, hF, hbel0⟩ := hR
                   have hbel : Below wr.heap.size wr w6 := nxt (Below.refl _ wr).drew hbel0
                   have t1w := keepc hbel _ _ t1
                   have t1a : ∀ o, (w6.alloc o).cell? ⟨w1.heap.size, 1, none⟩ = some (.slice va acc.length vc) := fun o => keepc (below_one w6 o) _ _ t1w
                   have SD := PgI.side HI.out hbel ho hF (.cells #[.int .i64 iv, .string nm, .int .i64 k', .int .u64 b', .string t', .slice ka' kl' kc', .slice ja' jl' jc'] 70))
                | (refine step_pushT rfl _ _ rfl (.slice va acc.length vc) acc H (by first | (simp [Act.eval]; done) | simp [Act.eval, Act.put]) SD.1 (iv, nm, u) F (.int .i64 k') (.int .u64 b') (.string t') (.slice ka' kl' kc') (.slice ja' jl' jc') SD.2.1 SD.2.2.1 SD.2.2.2.1 SD.2.2.2.2 ⟨w6.heap.size, 0, none⟩ 1 (by first | (simp [Act.eval]; done) | simp [Act.eval, Act.put]) (fun j y hj => newCells w6 _ _ j y (by simpa using hj)) HLEN.out ?_; intro v' w5 g1 g2 g3 g4
                   have NX := PgI.next HI.out hbel hF g1 g2 g3 g4
                   obtain ⟨c5, f5⟩ := cell_of NX.2.1 1
                   simp only [List.getElem?_toArray, List.getElem?_cons_zero, List.getElem?_cons_succ] at c5
                   obtain ⟨av', cv', rfl⟩ := g1.shape))
              all_goals
                have hle : (acc ++ [(iv, nm, u)]).length = acc.length + 1 := by simp
                have NX1 := NX.1
                rw [hle] at NX1
                have NX' : Hid _ := NX1
                clear NX1 NX hle
                go_wp2_with fail
                exact ⟨⟨m + 1, _, _, by omega, by go_num, by rw [HA2.out], by rw [HR2.out]; exact NX'.out⟩, by simp [intOf]; omega⟩
          · have hme : m = its.length := by omega
            subst hme
            have hacc := HACC.out
            rw [List.take_length] at hacc ⊢
            subst hacc
            clear HACC HAL
            generalize its.any (fun u => decide (u.1 = id)) = wz at *
            generalize rem id its = acc at *
            go_wp2_with fail
            refine bodyPost_ret (v := .tuple #[.agg #[.int .i64 L, .slice va acc.length vc], .bool wz, .int .i64 0]) (by simp [results, Try.results14, go_sem, y0, y1]) rfl ?_
            rw [E.out]
            exact ⟨_, H, rfl, PgI.out2 HI.out B1.out (by omega) (lt_of_block T1.out.2) _ _⟩
  · have E : Hid (ackR L its id = (9, false, 0, [])) := by show _ = _; unfold ackR; rw [if_neg h0]
    have h9 : chkB L its = 9 := (chkB_cases L its).resolve_left h0
    rw [h9] at C1
    clear h0 h9
    go_enter Try.func14, Try.ntmps14
    go_wp2_with fail
    refine (C1.out _ (below_two _ _ _)).mono ?_
    rintro e w1 ⟨rfl, hb1⟩
    have T1 : Hid (Two w w1 _ _) := Two.new w _ _ hb1
    have B1 : Hid (Below w.heap.size w w1) := nxt (below_two _ _ _) hb1
    clear hb1
    obtain ⟨x0, x1, y0, y1, z0, z1⟩ := two_cells2 T1.out
    go_wp2_with fail
    refine bodyPost_ret (v := .tuple #[.agg #[.int .i64 0, .slice none 0 0], .bool false, .int .i64 9]) (by simp [results, Try.results14, go_sem, y0, y1]) rfl ?_
    rw [E.out]
    exact ⟨_, _, rfl, CopyInv.none2 _ B1.out (by omega) _ _⟩
end Go.Proofs.Ytpeghhkhohnkiaa
