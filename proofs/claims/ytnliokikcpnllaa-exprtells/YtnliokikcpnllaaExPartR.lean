/-
  The program's reading of a part, and all within it.
-/
import Derived.Test.YtnliokikcpnllaaExKeep
import Derived.OrdersHeld
namespace Go.Proofs.Ytnliokikcpnllaa
open Go.ChangeShapes Go.WideShapes Go.ChangeAt Go.RowKit Go.Deep
open Fl

theorem RdX.bump {w : World} {p : Nat} {l : List UInt8} {q : Nat} (h : RdX w p (l, q)) : RdX (w.setCell ⟨p, 1, none⟩ (.int .i64 ((q : Int) + 1))) p (l, q + 1) ∧ w.grownBy (w.setCell ⟨p, 1, none⟩ (.int .i64 ((q : Int) + 1))) (some p) := by
  obtain ⟨a, c, h1, h2, h3⟩ := h
  have hg : w.grownBy (w.setCell ⟨p, 1, none⟩ (.int .i64 ((q : Int) + 1))) (some p) := ⟨rfl, rfl, rfl, by simp [World.setCell], fun k hk hne => Below.heap_setCell _ _ _ _ (fun e => hne (by rw [e]))⟩
  refine ⟨⟨a, c, ?_, ⟨h2.lay.grownX h1 hg, h2.cap, h2.len, h2.none_, h2.some_⟩, h3⟩, hg⟩
  simp [World.setCell, Array.getElem?_modify, h1]

set_option maxRecDepth 100000 in
set_option maxHeartbeats 6400000 in
theorem partX_rd (n : Nat) : ∀ (d : Int) (s : SX) (p : Nat) (w : World), d + (n : Int) = 9 → 1 ≤ d → RdX w p s → s.1.length + s.2 ≤ 1000000000000000 →
    Calls Try.prog 46 #[.pointer (some ⟨p, 0, none⟩), .int .i64 d] w (PartPost n (rdX n s) p w) := by
  induction n with
  | zero =>
    intro d s p w hdn hd1 hr hb
    have h8 : (8 : Int) < d := by omega
    go_enter Try.func46, Try.ntmps46
    go_wp2_with fail
    exact ⟨rfl, grown_of_belowX (below_one _ _), Or.inl ⟨10, rfl, rfl⟩⟩
  | succ n ih =>
    intro d s p w hdn hd1 hr hb
    obtain ⟨l, q⟩ := s
    have IH : Hid (∀ (d : Int) (s : SX) (p : Nat) (w : World), d + (n : Int) = 9 → 1 ≤ d → RdX w p s → s.1.length + s.2 ≤ 1000000000000000 →
      Calls Try.prog 46 #[.pointer (some ⟨p, 0, none⟩), .int .i64 d] w (PartPost n (rdX n s) p w)) := ih
    have h8 : decide ((8 : Int) < d) = false := by simp; omega
    have hq : (q : Int) ≤ 1000000000000000 := by simp only at hb; omega
    obtain ⟨hp, -⟩ : p < w.heap.size ∧ True := by
      obtain ⟨a, c, h1, -⟩ := hr
      exact ⟨lt_of_block h1, trivial⟩
    have hr1 := hr.below (below_one w (.cells #[.int .i64 0, .int .u64 0, .string ⟨#[]⟩, .slice none 0 0] 29))
    have x1 := rdX_cells hr1
    have xf : (w.alloc (.cells #[.int .i64 0, .int .u64 0, .string ⟨#[]⟩, .slice none 0 0] 29)).frozen? ⟨p, 1, none⟩ = false := by
      obtain ⟨a, c, h1, -⟩ := hr1
      exact (cell_of h1 1).2
    obtain ⟨hr2', hg2⟩ := hr.bump
    have hr2 := hr2'.below (below_one (w.setCell ⟨p, 1, none⟩ (.int .i64 ((q : Int) + 1))) (.cells #[.int .i64 0, .int .u64 0, .string ⟨#[]⟩, .slice none 0 0] 29))
    have hsz : (w.setCell ⟨p, 1, none⟩ (.int .i64 ((q : Int) + 1))).heap.size = w.heap.size := by simp [World.setCell]
    have HR2 : Hid (RdX ((w.setCell ⟨p, 1, none⟩ (.int .i64 ((q : Int) + 1))).alloc (.cells #[.int .i64 0, .int .u64 0, .string ⟨#[]⟩, .slice none 0 0] 29)) p (l, q + 1)) := hr2
    have HG2 : Hid (w.grownBy ((w.setCell ⟨p, 1, none⟩ (.int .i64 ((q : Int) + 1))).alloc (.cells #[.int .i64 0, .int .u64 0, .string ⟨#[]⟩, .slice none 0 0] 29)) (some p)) := grown_belowX hg2 (below_one _ _)
    have HE2 : Hid (((w.setCell ⟨p, 1, none⟩ (.int .i64 ((q : Int) + 1))).alloc (.cells #[.int .i64 0, .int .u64 0, .string ⟨#[]⟩, .slice none 0 0] 29)).heap[w.heap.size]? = some (.cells #[.int .i64 0, .int .u64 0, .string ⟨#[]⟩, .slice none 0 0] 29 (0, 0))) := by
      have := heap_alloc_new (w.setCell ⟨p, 1, none⟩ (.int .i64 ((q : Int) + 1))) (.cells #[.int .i64 0, .int .u64 0, .string ⟨#[]⟩, .slice none 0 0] 29)
      rw [hsz] at this
      exact this
    have HOP : Hid (Calls Try.prog 56 #[.pointer (some ⟨p, 0, none⟩)] ((w.setCell ⟨p, 1, none⟩ (.int .i64 ((q : Int) + 1))).alloc (.cells #[.int .i64 0, .int .u64 0, .string ⟨#[]⟩, .slice none 0 0] 29)) (RPost (opR (l, q + 1)) p I64 _)) := opX_rd p (l, q + 1) _ hr2
    have HRD : Hid (rdX (n + 1) (l, q) = match opR (l, q + 1) with
      | .error e => .error e
      | .ok (k, s1) => match headR k s1 with
        | .error e => .error e
        | .ok (b, t, s2) => match countR k s2 with
          | .error e => .error e
          | .ok (m, s3) => match iterX (rdX n) m.toNat s3 with
            | .error e => .error e
            | .ok (its, s4) => .ok ((k, b, t, its), s4)) := rfl
    have HB : Hid (l.length + q ≤ 1000000000000000) := hb
    clear hr hr1 hr2 hr2' hg2 ih hb hsz
    cases h1 : opR (l, q + 1) with
    | error er =>
      rw [h1] at HOP HRD
      clear h1
      go_enter Try.func46, Try.ntmps46
      go_wp2_with fail
      refine HOP.out.mono ?_
      intro e w3 hp3
      obtain ⟨rfl, hg⟩ := RPost.err hp3
      go_wp2_with fail
      exact ⟨rfl, grown_transX HG2.out hg, Or.inl ⟨er, HRD.out, rfl⟩⟩
    | ok ks =>
      obtain ⟨k, s1⟩ := ks
      have hk := opR_ok h1
      have hk0 : 0 ≤ k ∧ k ≤ 29 := hk.1
      have HS1 : Hid (s1.1.length + s1.2 = l.length + q ∧ s1.2 = q + 1) := by
        have q1 := hk.2.1
        have q2 := hk.2.2
        simp only at q1 q2
        exact ⟨by omega, q2⟩
      rw [h1] at HOP HRD
      simp only at HRD
      clear h1 hk
      go_enter Try.func46, Try.ntmps46
      go_wp2_with fail
      refine HOP.out.mono ?_
      intro e w3 hp3
      obtain ⟨rfl, hg3, hr3⟩ := RPost.ok hp3
      have HR4 : Hid (RdX (w3.alloc (.cells #[.int .i64 k, .int .u64 0, .string ⟨#[]⟩, .slice none 0 0] 29)) p s1) := hr3.below (below_one _ _)
      have HG4 : Hid (w.grownBy (w3.alloc (.cells #[.int .i64 k, .int .u64 0, .string ⟨#[]⟩, .slice none 0 0] 29)) (some p)) := grown_belowX (grown_transX HG2.out hg3) (below_one _ _)
      have HE3 : w3.heap[w.heap.size]? = _ := (hg3.block _ (lt_of_block HE2.out) (by simp; omega)).trans HE2.out
      have HE4 : Hid ((w3.alloc (.cells #[.int .i64 k, .int .u64 0, .string ⟨#[]⟩, .slice none 0 0] 29)).heap[w.heap.size]? = some (.cells #[.int .i64 0, .int .u64 0, .string ⟨#[]⟩, .slice none 0 0] 29 (0, 0))) := ((below_one _ _).block _ (lt_of_block HE3)).trans HE3
      have HX4 : Hid ((w3.alloc (.cells #[.int .i64 k, .int .u64 0, .string ⟨#[]⟩, .slice none 0 0] 29)).heap[w3.heap.size]? = some (.cells #[.int .i64 k, .int .u64 0, .string ⟨#[]⟩, .slice none 0 0] 29 (0, 0))) := heap_alloc_new _ _
      have hE : w.heap.size < w3.heap.size := lt_of_block HE3
      clear hp3 hg3 hr3 HE3 HE2 HG2 HR2 HOP x1 xf
      go_upto_region 5 with fail
      generalize w3.alloc (.cells #[.int .i64 k, .int .u64 0, .string ⟨#[]⟩, .slice none 0 0] 29) = W4 at *
      generalize w3.heap.size = E at *
      rename_i K1 hK1 K0 hK0
      have REST : Hid (∀ (b : Int) (t : ByteArray) (s2 : SX) (W5 : World) (u19 u20 u21 u22 u23 u24 u25 u26 u27 u28 u29 u30 u31 u32 u33 u34 u35 u36 u37 : Value), headR k s1 = .ok (b, t, s2) → RdX W5 p s2 → w.grownBy W5 (some p) → W5.heap[w.heap.size]? = some (.cells #[.int .i64 0, .int .u64 0, .string ⟨#[]⟩, .slice none 0 0] 29 (0, 0)) →
          W5.heap[E]? = some (.cells #[.int .i64 k, .int .u64 b, .string t, .slice none 0 0] 29 (0, 0)) → K1 { tmps := #[.pointer (some ⟨p, 0, none⟩), .int .i64 d, undef, undef, .pointer (some ⟨w.heap.size, 0, none⟩), .pointer (some ⟨E, 0, none⟩), .int .i64 d, .bool false, undef, .pointer (some ⟨p, 0, none⟩), .pointer (some ⟨p, 0, none⟩), .pointer (some ⟨p, 1, none⟩), .int .i64 (q : Int), .int .i64 ((q : Int) + 1), .pointer (some ⟨p, 0, none⟩), .pointer (some ⟨p, 1, none⟩), .pointer (some ⟨p, 0, none⟩), I64 k, .agg #[I64 k, .int .u64 0, .string ⟨#[]⟩, .slice none 0 0], u19, u20, u21, u22, u23, u24, u25, u26, u27, u28, u29, u30, u31, u32, u33, u34, u35, u36, u37, undef, undef, undef, undef, undef, undef, undef, undef, undef, undef, undef, undef, undef, undef, undef, undef, undef], defers := [] } W5) := by
        intro b t s2 W5 u19 u20 u21 u22 u23 u24 u25 u26 u27 u28 u29 u30 u31 u32 u33 u34 u35 u36 u37 hh hR5 hG5 hE5 hX5
        have hho := headR_ok hh
        have HBT : Hid (U b ∧ t.size ≤ 255) := ⟨hho.1, hho.2.1⟩
        have HS2 : Hid (s2.1.length + s2.2 ≤ 1000000000000000) := by
          have q1 := hho.2.2.1.1
          have q2 := HS1.out.1
          have q3 := HB.out
          show _ ≤ _
          omega
        rw [hh] at HRD
        simp only at HRD
        have HR5 : Hid (RdX W5 p s2) := hR5
        have HG5 : Hid (w.grownBy W5 (some p)) := hG5
        have HE5 : Hid (W5.heap[w.heap.size]? = some (.cells #[.int .i64 0, .int .u64 0, .string ⟨#[]⟩, .slice none 0 0] 29 (0, 0))) := hE5
        have HX5 : Hid (W5.heap[E]? = some (.cells #[.int .i64 k, .int .u64 b, .string t, .slice none 0 0] 29 (0, 0))) := hX5
        have HCN : Hid (Calls Try.prog 60 #[.pointer (some ⟨p, 0, none⟩), .int .i64 k] W5 (RPost (countR k s2) p I64 W5)) := countX_rd k p s2 W5 hR5
        clear hh hho hR5 hG5 hE5 hX5
        obtain ⟨x0, x1, x2, x3, -⟩ := box4 HX5.out
        apply hK1
        clear hK1 hK0 HR4 HG4 HE4 HX4
        cases hc : countR k s2 with
        | error er =>
          rw [hc] at HCN HRD
          clear hc
          go_wp2_with fail
          refine HCN.out.mono ?_
          intro e w6 hp6
          obtain ⟨rfl, hg⟩ := RPost.err hp6
          go_wp2_with fail
          exact ⟨rfl, grown_transX HG5.out hg, Or.inl ⟨er, HRD.out, rfl⟩⟩
        | ok ms =>
          obtain ⟨m, s3⟩ := ms
          have hco := countR_ok hc
          obtain ⟨M, hM, rfl⟩ : ∃ M : Nat, M ≤ 8 ∧ m = (M : Int) := ⟨m.toNat, by omega, by omega⟩
          have HS3 : Hid (s3.1.length + s3.2 ≤ 1000000000000000) := by
            have q1 := hco.2.1.1
            have q2 := HS2.out
            show _ ≤ _
            omega
          rw [hc] at HCN HRD
          simp only [Int.toNat_natCast] at HRD
          clear hc hco
          go_wp2_with fail
          refine HCN.out.mono ?_
          intro e w6 hp6
          obtain ⟨rfl, hg6, hr6⟩ := RPost.ok hp6
          have hX6 : w6.heap[E]? = _ := (hg6.block _ (lt_of_block HX5.out) (by simp; omega)).trans HX5.out
          have HE6 : Hid (w6.heap[w.heap.size]? = some (.cells #[.int .i64 0, .int .u64 0, .string ⟨#[]⟩, .slice none 0 0] 29 (0, 0))) := (hg6.block _ (lt_of_block HE5.out) (by simp; omega)).trans HE5.out
          have K6 : Hid (KidsI w p E n k b t w6 s3 ([] : List (X n)) none 0 0) := ⟨hX6, hr6, grown_transX HG5.out hg6, fun _ => ⟨rfl, [], fun _ _ => False, RowX.nil _ _ _ _⟩⟩
          clear hp6 hg6 hr6 hX6 x0 x1 x2 x3 HR5 HG5 HE5 HX5 HCN
          go_wp2_with fail
          go_loopw [42] (fun v42 wr => ∃ (j : Nat) (r : List (X n)) (s' : SX) (va : Option Addr) (vl vc : Nat), j ≤ M ∧ v42 = .int .i64 (j : Int) ∧ Hid (iterX (rdX n) j s3 = .ok (r, s')) ∧ Hid (KidsI w p E n k b t wr s' r va vl vc) ∧ Hid (wr.heap[w.heap.size]? = some (.cells #[.int .i64 0, .int .u64 0, .string ⟨#[]⟩, .slice none 0 0] 29 (0, 0)))) (fun v42 _ => M - (intOf v42).toNat)
          case atStart => exact ⟨0, [], s3, none, 0, 0, Nat.zero_le _, rfl, rfl, K6.out, HE6.out⟩
          case round =>
            obtain ⟨j, r, s', va, vl, vc, hj, rfl, HIT, HK, HEr⟩ := hrel
            clear K6 HE6
            by_cases hlt : j < M
            · have hj1 : (j : Int) < (M : Int) := by omega
              have hrl : r.length = j := iterX_len _ _ _ _ HIT.out
              have hbd : s'.1.length + s'.2 ≤ 1000000000000000 := by
                have q := (iterX_less (fun s a s' h => rdX_less n s s' a h) _ _ _ _ HIT.out).1
                have := HS3.out
                omega
              have CP : Hid (∀ W, RdX W p s' → Calls Try.prog 46 #[.pointer (some ⟨p, 0, none⟩), .int .i64 (d + 1)] W (PartPost n (rdX n s') p W)) := fun W h => IH.out (d + 1) s' p W (by omega) (by omega) h hbd
              have HSTOP : Hid (∀ er, iterX (rdX n) (j + 1) s3 = .error er → iterX (rdX n) M s3 = .error er) := fun er h => by
                have := iterX_stop h (M - (j + 1))
                rwa [show j + 1 + (M - (j + 1)) = M by omega] at this
              have HNX := iterX_next HIT.out
              obtain ⟨z0, z1, z2, z3, zf0, zf1, zf2, zf3⟩ := box4 HK.out.box
              have HS0 : (fun w' : World => w'.cell? ⟨E, 3, none⟩ = some (.slice va vl vc)) wr.drew := z3
              have HRW : Hid (RdX wr.drew p s') := HK.out.rd.below ((Below.refl _ _).drew)
              have hEp : p < E := by omega
              clear z0 z1 z2 z3 hbd IH
              cases hrd : rdX n s' with
              | error er =>
                rw [hrd] at CP HNX
                have HNE : Hid (rdX (n + 1) (l, q) = .error er) := by
                  show _ = _
                  rw [HRD.out, HSTOP.out er HNX]
                clear hrd HNX
                go_wp2_with fail
                refine Rg.Till.region (fun w' => w'.cell? ⟨E, 3, none⟩ = some (.slice va vl vc)) 9 (by kernel_rfl) ?_
                show Rg.Till _ _ _ _ _ 10 (Array.replicate 10 false) _ _
                refine Rg.Till.take (i := 0) (v := (.pointer (some ⟨p, 0, none⟩))) (some 44) rfl rfl (by kernel_rfl) (by kernel_rfl) (fun _ _ _ h => h) (by kernel_rfl) (by kernel_rfl) (Or.inl ⟨rfl, fun w' hS => ?_⟩) HS0 ?_
                · have y3 := hS; go_simp
                simp only [Act.put, List.setIfInBounds_toArray, List.set_cons_zero, List.set_cons_succ]
                refine Rg.Till.take (i := 1) (v := (.pointer (some ⟨E, 3, none⟩))) (some 45) rfl rfl (by kernel_rfl) (by kernel_rfl) (fun _ _ _ h => h) (by kernel_rfl) (by kernel_rfl) (Or.inl ⟨rfl, fun w' hS => ?_⟩) HS0 ?_
                · have y3 := hS; go_simp
                simp only [Act.put, List.setIfInBounds_toArray, List.set_cons_zero, List.set_cons_succ]
                refine Rg.Till.take (i := 2) (v := (.slice va vl vc)) (some 46) rfl rfl (by kernel_rfl) (by kernel_rfl) (fun _ _ _ h => h) (by kernel_rfl) (by kernel_rfl) (Or.inl ⟨rfl, fun w' hS => ?_⟩) HS0 ?_
                · have y3 := hS; go_simp
                simp only [Act.put, List.setIfInBounds_toArray, List.set_cons_zero, List.set_cons_succ]
                refine Rg.Till.take (i := 3) (v := (.pointer (some ⟨p, 0, none⟩))) (some 47) rfl rfl (by kernel_rfl) (by kernel_rfl) (fun _ _ _ h => h) (by kernel_rfl) (by kernel_rfl) (Or.inl ⟨rfl, fun w' hS => ?_⟩) HS0 ?_
                · have y3 := hS; go_simp
                simp only [Act.put, List.setIfInBounds_toArray, List.set_cons_zero, List.set_cons_succ]
                refine Rg.Till.take (i := 4) (v := (.int .i64 d)) (some 48) rfl rfl (by kernel_rfl) (by kernel_rfl) (fun _ _ _ h => h) (by kernel_rfl) (by kernel_rfl) (Or.inl ⟨rfl, fun w' hS => ?_⟩) HS0 ?_
                · have y3 := hS; go_simp
                simp only [Act.put, List.setIfInBounds_toArray, List.set_cons_zero, List.set_cons_succ]
                refine Rg.Till.take (i := 5) (v := (.int .i64 (d + 1))) (some 49) rfl rfl (by kernel_rfl) (by kernel_rfl) (fun _ _ _ h => h) (by kernel_rfl) (by kernel_rfl) (Or.inl ⟨rfl, fun w' hS => ?_⟩) HS0 ?_
                · have y3 := hS; go_simp; rw [IntKind.wrap_i64]; omega
                simp only [Act.put, List.setIfInBounds_toArray, List.set_cons_zero, List.set_cons_succ]
                refine Rg.Till.one (i := 6) (by kernel_rfl) rfl rfl ?_
                refine op_callP (d := some 50) rfl 46 (fun _ _ _ => rfl) _ _ _ rfl _ _ rfl rfl ?_
                refine (CP.out _ HRW.out).mono ?_
                intro e w7 hp7
                obtain ⟨rfl, hg7⟩ := PartPost.err hp7
                exact Or.inr ⟨_, rfl, rfl, grown_transX (grown_belowX HK.out.grown ((Below.refl _ _).drew)) hg7, Or.inl ⟨er, HNE.out, rfl⟩⟩
              | ok us =>
                obtain ⟨u, s5⟩ := us
                have hls : s'.2 ≤ s5.2 := (rdX_less n s' s5 u hrd).2
                rw [hrd] at CP HNX
                have HIT2 : Hid (iterX (rdX n) (j + 1) s3 = .ok (r ++ [u], s5)) := HNX
                clear hrd HNX HSTOP HIT
                go_wp2_with fail
                refine Rg.Till.region (fun w' => w'.cell? ⟨E, 3, none⟩ = some (.slice va vl vc)) 9 (by kernel_rfl) ?_
                show Rg.Till _ _ _ _ _ 10 (Array.replicate 10 false) _ _
                refine Rg.Till.take (i := 0) (v := (.pointer (some ⟨p, 0, none⟩))) (some 44) rfl rfl (by kernel_rfl) (by kernel_rfl) (fun _ _ _ h => h) (by kernel_rfl) (by kernel_rfl) (Or.inl ⟨rfl, fun w' hS => ?_⟩) HS0 ?_
                · have y3 := hS; go_simp
                simp only [Act.put, List.setIfInBounds_toArray, List.set_cons_zero, List.set_cons_succ]
                refine Rg.Till.take (i := 1) (v := (.pointer (some ⟨E, 3, none⟩))) (some 45) rfl rfl (by kernel_rfl) (by kernel_rfl) (fun _ _ _ h => h) (by kernel_rfl) (by kernel_rfl) (Or.inl ⟨rfl, fun w' hS => ?_⟩) HS0 ?_
                · have y3 := hS; go_simp
                simp only [Act.put, List.setIfInBounds_toArray, List.set_cons_zero, List.set_cons_succ]
                refine Rg.Till.take (i := 2) (v := (.slice va vl vc)) (some 46) rfl rfl (by kernel_rfl) (by kernel_rfl) (fun _ _ _ h => h) (by kernel_rfl) (by kernel_rfl) (Or.inl ⟨rfl, fun w' hS => ?_⟩) HS0 ?_
                · have y3 := hS; go_simp
                simp only [Act.put, List.setIfInBounds_toArray, List.set_cons_zero, List.set_cons_succ]
                refine Rg.Till.take (i := 3) (v := (.pointer (some ⟨p, 0, none⟩))) (some 47) rfl rfl (by kernel_rfl) (by kernel_rfl) (fun _ _ _ h => h) (by kernel_rfl) (by kernel_rfl) (Or.inl ⟨rfl, fun w' hS => ?_⟩) HS0 ?_
                · have y3 := hS; go_simp
                simp only [Act.put, List.setIfInBounds_toArray, List.set_cons_zero, List.set_cons_succ]
                refine Rg.Till.take (i := 4) (v := (.int .i64 d)) (some 48) rfl rfl (by kernel_rfl) (by kernel_rfl) (fun _ _ _ h => h) (by kernel_rfl) (by kernel_rfl) (Or.inl ⟨rfl, fun w' hS => ?_⟩) HS0 ?_
                · have y3 := hS; go_simp
                simp only [Act.put, List.setIfInBounds_toArray, List.set_cons_zero, List.set_cons_succ]
                refine Rg.Till.take (i := 5) (v := (.int .i64 (d + 1))) (some 49) rfl rfl (by kernel_rfl) (by kernel_rfl) (fun _ _ _ h => h) (by kernel_rfl) (by kernel_rfl) (Or.inl ⟨rfl, fun w' hS => ?_⟩) HS0 ?_
                · have y3 := hS; go_simp; rw [IntKind.wrap_i64]; omega
                simp only [Act.put, List.setIfInBounds_toArray, List.set_cons_zero, List.set_cons_succ]
                refine Rg.Till.one (i := 6) (by kernel_rfl) rfl rfl ?_
                refine op_callP (d := some 50) rfl 46 (fun _ _ _ => rfl) _ _ _ rfl _ _ rfl rfl ?_
                refine (CP.out _ HRW.out).mono ?_
                intro e w7 hp7
                obtain ⟨k2, b2, t2, ja, jl, jc, rfl, hg7, hr7, hO7⟩ := PartPost.ok hp7
                have hX7 : w7.heap[E]? = _ := (hg7.block E (lt_of_block HK.out.box) (by simp; omega)).trans HK.out.box
                have hE7 : w7.heap[w.heap.size]? = _ := (hg7.block _ (lt_of_block HEr.out) (by simp; omega)).trans HEr.out
                have HS7 : (fun w' : World => w'.cell? ⟨E, 3, none⟩ = some (.slice va vl vc)) w7 := (box4 hX7).2.2.2.1
                refine Or.inl ⟨_, rfl, fun _ => HS7, ?_⟩
                simp only [Act.put, List.setIfInBounds_toArray, List.set_cons_zero, List.set_cons_succ]
                have HKP : Calls Try.prog 61 #[.pointer (some ⟨p, 0, none⟩), .slice va vl vc, mkX k2 b2 t2 ja jl jc] w7 fun e w' => ∃ v', e = .returned v' ∧
                    ((64 < s5.2 ∧ v' = .slice none 0 0 ∧ Below w7.heap.size w7 w') ∨ (s5.2 ≤ 64 ∧ ∃ xs, (∃ G, RowX 29 wr (E + 1) (.slice va vl vc) n r r.length xs G) ∧ KeepPost w7 (E + 1) (.slice va vl vc) r.length xs k2 b2 t2 ja jl jc (.returned v') w')) := by
                  by_cases h64 : 64 < s5.2
                  · refine (keepX_nil p s5 (.slice va vl vc) _ k2 b2 t2 ja jl jc rfl w7 hr7 h64).mono ?_
                    rintro e w' ⟨rfl, hb⟩
                    exact ⟨_, rfl, Or.inl ⟨h64, rfl, hb⟩⟩
                  · obtain ⟨hvl, xs, G, hrow⟩ := HK.out.row (by omega)
                    have hrow7 : w7.ownsRow (E + 1) 29 4 (.slice va vl vc) r.length xs := ownsRow_same hrow.row fun g hg => hg7.block g (hrow.row.lt g hg).2 (by have := (hrow.row.lt g hg).1; simp; omega)
                    refine (keepX_row p s5 (E + 1) (.slice va vl vc) r.length xs k2 b2 t2 ja jl jc w7 hr7 (by omega) hrow7 (by omega) (by have := lt_of_block hX7; omega)).mono ?_
                    intro e w' hk
                    obtain ⟨v', w1, rfl, q⟩ := hk
                    exact ⟨v', rfl, Or.inr ⟨by omega, xs, ⟨G, hrow⟩, v', w1, rfl, q⟩⟩
                refine Rg.Till.one (i := 7) (by kernel_rfl) rfl rfl ?_
                refine op_call3X (d := some 51) rfl 61 (fun _ _ _ _ => rfl) _ _ _ _ rfl _ _ _ rfl rfl rfl ?_
                refine HKP.mono ?_
                rintro e w8 ⟨v', rfl, hk8⟩
                obtain ⟨hx8, hX8, va', vl', vc', rfl, hK8⟩ := HK.out.push hp (by omega) ((Below.refl _ wr).drew) hg7 hr7 (fun h => hO7 h) hk8
                have HK8 : Hid (KidsI w p E n k b t (w8.setCell ⟨E, 3, none⟩ (.slice va' vl' vc')) s5 (r ++ [u]) va' vl' vc') := hK8
                have HE8 : Hid ((w8.setCell ⟨E, 3, none⟩ (.slice va' vl' vc')).heap[w.heap.size]? = some (.cells #[.int .i64 0, .int .u64 0, .string ⟨#[]⟩, .slice none 0 0] 29 (0, 0))) := (Below.heap_setCell _ _ _ _ (show w.heap.size ≠ E by omega)).trans ((hx8 _ (by omega)).trans hE7)
                obtain ⟨-, -, -, z3, -, -, -, zf3⟩ := box4 hX8
                have HS0 : (fun w' : World => w'.cell? ⟨E, 3, none⟩ = some (.slice va vl vc)) w8 := z3
                clear hp7 hg7 hr7 hO7 hX7 hE7 HS7 HKP hk8 hx8 hX8 hK8
                refine ⟨_, rfl, fun _ => HS0, ?_⟩
                simp only [Act.put, List.setIfInBounds_toArray, List.set_cons_zero, List.set_cons_succ]
                refine Rg.Till.take (i := 8) (v := (.pointer (some ⟨E, 3, none⟩))) (some 52) rfl rfl (by kernel_rfl) (by kernel_rfl) (fun _ _ _ h => h) (by kernel_rfl) (by kernel_rfl) (Or.inl ⟨rfl, fun w' hS => ?_⟩) HS0 ?_
                · have y3 := hS; go_simp
                simp only [Act.put, List.setIfInBounds_toArray, List.set_cons_zero, List.set_cons_succ]
                refine Rg.Till.oneK (i := 9) (by kernel_rfl) rfl rfl fun K hK => ?_
                go_simp
                refine hK.out _ _ (fun h => absurd rfl h) ?_
                clear hK K
                refine Rg.Till.done (by kernel_rfl) ?_
                clear HS0 z3 zf3
                go_wp2_with fail
                go_roundw
                case rel => exact ⟨j + 1, _, _, _, _, _, by omega, by go_num, HIT2.out, HK8.out, HE8.out⟩
                case measure => simp [intOf]; omega
            · have hje : j = M := by omega
              subst hje
              have HOK : Hid (rdX (n + 1) (l, q) = .ok ((k, b, t, r), s')) := by
                show _ = _
                rw [HRD.out, HIT.out]
              have hrl : r.length ≤ 8 := by have := iterX_len _ _ _ _ HIT.out; omega
              obtain ⟨x0, x1, x2, x3, -⟩ := box4 HK.out.box
              obtain ⟨z0, z1, z2, z3, f0, f1, f2, f3⟩ := box4 HEr.out
              clear HRD HIT
              go_wp2_with fail
              have H5 : ((((wr.setCell ⟨w.heap.size, 0, none⟩ (.int .i64 k)).setCell ⟨w.heap.size, 1, none⟩ (.int .u64 b)).setCell ⟨w.heap.size, 2, none⟩ (.string t)).setCell ⟨w.heap.size, 3, none⟩ (.slice va vl vc)).heap[w.heap.size]? = some (.cells #[.int .i64 k, .int .u64 b, .string t, .slice va vl vc] 29 (0, 0)) := by
                simp [World.setCell, Array.getElem?_modify, HEr.out]
              have O5 : ∀ j, j ≠ w.heap.size → ((((wr.setCell ⟨w.heap.size, 0, none⟩ (.int .i64 k)).setCell ⟨w.heap.size, 1, none⟩ (.int .u64 b)).setCell ⟨w.heap.size, 2, none⟩ (.string t)).setCell ⟨w.heap.size, 3, none⟩ (.slice va vl vc)).heap[j]? = wr.heap[j]? := fun j hj => by
                rw [Below.heap_setCell _ _ _ _ hj, Below.heap_setCell _ _ _ _ hj, Below.heap_setCell _ _ _ _ hj, Below.heap_setCell _ _ _ _ hj]
              have S5 : ((((wr.setCell ⟨w.heap.size, 0, none⟩ (.int .i64 k)).setCell ⟨w.heap.size, 1, none⟩ (.int .u64 b)).setCell ⟨w.heap.size, 2, none⟩ (.string t)).setCell ⟨w.heap.size, 3, none⟩ (.slice va vl vc)).heap.size = wr.heap.size := by simp [World.setCell]
              have G5 : w.grownBy ((((wr.setCell ⟨w.heap.size, 0, none⟩ (.int .i64 k)).setCell ⟨w.heap.size, 1, none⟩ (.int .u64 b)).setCell ⟨w.heap.size, 2, none⟩ (.string t)).setCell ⟨w.heap.size, 3, none⟩ (.slice va vl vc)) (some p) := ⟨HK.out.grown.os, HK.out.grown.tape, HK.out.grown.output, by rw [S5]; exact HK.out.grown.size, fun j hj hne => (O5 j (by omega)).trans (HK.out.grown.block j hj hne)⟩
              generalize (((wr.setCell ⟨w.heap.size, 0, none⟩ (.int .i64 k)).setCell ⟨w.heap.size, 1, none⟩ (.int .u64 b)).setCell ⟨w.heap.size, 2, none⟩ (.string t)).setCell ⟨w.heap.size, 3, none⟩ (.slice va vl vc) = W9 at *
              clear z0 z1 z2 z3
              obtain ⟨z0, z1, z2, z3, -⟩ := box4 H5
              refine bodyPost_ret (v := mkX k b t va vl vc) (by simp [results, Try.results46, go_sem, z0, z1, z2, z3]) rfl ?_
              refine ⟨G5, Or.inr ⟨_, _, HOK.out, HK.out.rd.upto fun j hj => O5 j (by omega), k, b, t, va, vl, vc, rfl, fun h64 => ?_⟩⟩
              obtain ⟨hvl, xs, G, hrow⟩ := HK.out.row h64
              subst hvl
              exact ⟨_, hrow.own ⟨by omega, by omega⟩ HBT.out.1 (by have := HBT.out.2; omega) (by omega) (fun j hj _ => O5 j (by omega)), fun g hg => ⟨by omega, by rw [S5]; exact hg.2⟩⟩
      obtain ⟨x0, x1, x2, x3, f0, f1, f2, f3⟩ := box4 HX4.out
      by_cases k3 : k = 3
      · subst k3
        have HHD : Hid (headR 3 s1 = (match bitsR s1 with | .error e => .error e | .ok (b, s') => .ok (b, ⟨#[]⟩, s'))) := rfl
        have HC : Hid (Calls Try.prog 57 #[.pointer (some ⟨p, 0, none⟩)] W4 (RPost (bitsR s1) p (fun b => .int .u64 b) W4)) := bitsX_rd p s1.1 s1.2 W4 HR4.out
        cases hb : bitsR s1 with
        | error er =>
          rw [hb] at HC HHD
          rw [HHD.out] at HRD
          clear hb REST HHD hK1
          go_wp2_with fail
          refine HC.out.mono ?_
          intro e w6 hp6
          obtain ⟨rfl, hg⟩ := RPost.err hp6
          go_wp2_with fail
          exact ⟨rfl, grown_transX HG4.out hg, Or.inl ⟨er, HRD.out, rfl⟩⟩
        | ok bs =>
          obtain ⟨b, s2⟩ := bs
          rw [hb] at HC HHD
          clear hb hK1 HRD
          go_wp2_with fail
          refine HC.out.mono ?_
          intro e w6 hp6
          obtain ⟨rfl, hg, hr⟩ := RPost.ok hp6
          have hX6 : w6.heap[E]? = _ := (hg.block _ (lt_of_block HX4.out) (by simp; omega)).trans HX4.out
          have hE6 : w6.heap[w.heap.size]? = _ := (hg.block _ (lt_of_block HE4.out) (by simp; omega)).trans HE4.out
          have HR6 : Hid (RdX w6 p s2) := hr
          have HG6 : Hid (w.grownBy w6 (some p)) := grown_transX HG4.out hg
          have HX6 : Hid (w6.heap[E]? = some (.cells #[.int .i64 3, .int .u64 0, .string ⟨#[]⟩, .slice none 0 0] 29 (0, 0))) := hX6
          have HE6 : Hid (w6.heap[w.heap.size]? = some (.cells #[.int .i64 0, .int .u64 0, .string ⟨#[]⟩, .slice none 0 0] 29 (0, 0))) := hE6
          clear hp6 hg hr hX6 hE6 x0 x1 x2 x3 f0 f1 f2 f3
          obtain ⟨x0, x1, x2, x3, f0, f1, f2, f3⟩ := box4 HX6.out
          go_wp2_with fail
          have up : ∀ j, j ≠ E → (w6.setCell ⟨E, 1, none⟩ (.int .u64 b)).heap[j]? = w6.heap[j]? := fun j hj => Below.heap_setCell _ _ _ _ hj
          refine REST.out b ⟨#[]⟩ s2 _ _ _ _ _ _ _ _ _ _ _ _ _ _ _ _ _ _ _ _ HHD.out (HR6.out.upto fun j hj => up j (by omega)) ?_ ((up _ (by omega)).trans HE6.out) ?_
          · exact ⟨HG6.out.os, HG6.out.tape, HG6.out.output, by have := HG6.out.size; simpa [World.setCell] using this, fun j hj hne => (up j (by omega)).trans (HG6.out.block j hj hne)⟩
          · simp [World.setCell, Array.getElem?_modify, HX6.out]
      by_cases k4 : k = 4
      · subst k4
        have HHD : Hid (headR 4 s1 = (match textR (texB 4).1 (texB 4).2 s1 with | .error e => .error e | .ok (t, s') => .ok (0, t, s'))) := rfl
        have HTB := texb_any 4
        have HC : Hid (Calls Try.prog 58 #[.pointer (some ⟨p, 0, none⟩), .int .i64 (texB 4).1, .int .i64 (texB 4).2] W4 (RPost (textR (texB 4).1 (texB 4).2 s1) p Value.string W4)) := textX_rd _ _ p s1 W4 HR4.out
        generalize (texB 4).1 = tl at *
        generalize (texB 4).2 = tm at *
        cases hb : textR tl tm s1 with
        | error er =>
          rw [hb] at HC HHD
          rw [HHD.out] at HRD
          clear hb REST HHD hK1
          go_wp2_with (go_at_call 59; refine (HTB _).mono ?_; rintro e w2 ⟨rfl, rfl⟩)
          refine HC.out.mono ?_
          intro e w6 hp6
          obtain ⟨rfl, hg⟩ := RPost.err hp6
          go_wp2_with fail
          exact ⟨rfl, grown_transX HG4.out hg, Or.inl ⟨er, HRD.out, rfl⟩⟩
        | ok bs =>
          obtain ⟨b, s2⟩ := bs
          rw [hb] at HC HHD
          clear hb hK1 HRD
          go_wp2_with (go_at_call 59; refine (HTB _).mono ?_; rintro e w2 ⟨rfl, rfl⟩)
          refine HC.out.mono ?_
          intro e w6 hp6
          obtain ⟨rfl, hg, hr⟩ := RPost.ok hp6
          have hX6 : w6.heap[E]? = _ := (hg.block _ (lt_of_block HX4.out) (by simp; omega)).trans HX4.out
          have hE6 : w6.heap[w.heap.size]? = _ := (hg.block _ (lt_of_block HE4.out) (by simp; omega)).trans HE4.out
          have HR6 : Hid (RdX w6 p s2) := hr
          have HG6 : Hid (w.grownBy w6 (some p)) := grown_transX HG4.out hg
          have HX6 : Hid (w6.heap[E]? = some (.cells #[.int .i64 4, .int .u64 0, .string ⟨#[]⟩, .slice none 0 0] 29 (0, 0))) := hX6
          have HE6 : Hid (w6.heap[w.heap.size]? = some (.cells #[.int .i64 0, .int .u64 0, .string ⟨#[]⟩, .slice none 0 0] 29 (0, 0))) := hE6
          clear hp6 hg hr hX6 hE6 x0 x1 x2 x3 f0 f1 f2 f3
          obtain ⟨x0, x1, x2, x3, f0, f1, f2, f3⟩ := box4 HX6.out
          go_wp2_with fail
          have up : ∀ j, j ≠ E → (w6.setCell ⟨E, 2, none⟩ (.string b)).heap[j]? = w6.heap[j]? := fun j hj => Below.heap_setCell _ _ _ _ hj
          refine REST.out 0 b s2 _ _ _ _ _ _ _ _ _ _ _ _ _ _ _ _ _ _ _ _ HHD.out (HR6.out.upto fun j hj => up j (by omega)) ?_ ((up _ (by omega)).trans HE6.out) ?_
          · exact ⟨HG6.out.os, HG6.out.tape, HG6.out.output, by have := HG6.out.size; simpa [World.setCell] using this, fun j hj hne => (up j (by omega)).trans (HG6.out.block j hj hne)⟩
          · simp [World.setCell, Array.getElem?_modify, HX6.out]
      by_cases k8 : k = 8
      · subst k8
        have HHD : Hid (headR 8 s1 = (match textR (texB 8).1 (texB 8).2 s1 with | .error e => .error e | .ok (t, s') => .ok (0, t, s'))) := rfl
        have HTB := texb_any 8
        have HC : Hid (Calls Try.prog 58 #[.pointer (some ⟨p, 0, none⟩), .int .i64 (texB 8).1, .int .i64 (texB 8).2] W4 (RPost (textR (texB 8).1 (texB 8).2 s1) p Value.string W4)) := textX_rd _ _ p s1 W4 HR4.out
        generalize (texB 8).1 = tl at *
        generalize (texB 8).2 = tm at *
        cases hb : textR tl tm s1 with
        | error er =>
          rw [hb] at HC HHD
          rw [HHD.out] at HRD
          clear hb REST HHD hK1
          go_wp2_with (go_at_call 59; refine (HTB _).mono ?_; rintro e w2 ⟨rfl, rfl⟩)
          refine HC.out.mono ?_
          intro e w6 hp6
          obtain ⟨rfl, hg⟩ := RPost.err hp6
          go_wp2_with fail
          exact ⟨rfl, grown_transX HG4.out hg, Or.inl ⟨er, HRD.out, rfl⟩⟩
        | ok bs =>
          obtain ⟨b, s2⟩ := bs
          rw [hb] at HC HHD
          clear hb hK1 HRD
          go_wp2_with (go_at_call 59; refine (HTB _).mono ?_; rintro e w2 ⟨rfl, rfl⟩)
          refine HC.out.mono ?_
          intro e w6 hp6
          obtain ⟨rfl, hg, hr⟩ := RPost.ok hp6
          have hX6 : w6.heap[E]? = _ := (hg.block _ (lt_of_block HX4.out) (by simp; omega)).trans HX4.out
          have hE6 : w6.heap[w.heap.size]? = _ := (hg.block _ (lt_of_block HE4.out) (by simp; omega)).trans HE4.out
          have HR6 : Hid (RdX w6 p s2) := hr
          have HG6 : Hid (w.grownBy w6 (some p)) := grown_transX HG4.out hg
          have HX6 : Hid (w6.heap[E]? = some (.cells #[.int .i64 8, .int .u64 0, .string ⟨#[]⟩, .slice none 0 0] 29 (0, 0))) := hX6
          have HE6 : Hid (w6.heap[w.heap.size]? = some (.cells #[.int .i64 0, .int .u64 0, .string ⟨#[]⟩, .slice none 0 0] 29 (0, 0))) := hE6
          clear hp6 hg hr hX6 hE6 x0 x1 x2 x3 f0 f1 f2 f3
          obtain ⟨x0, x1, x2, x3, f0, f1, f2, f3⟩ := box4 HX6.out
          go_wp2_with fail
          have up : ∀ j, j ≠ E → (w6.setCell ⟨E, 2, none⟩ (.string b)).heap[j]? = w6.heap[j]? := fun j hj => Below.heap_setCell _ _ _ _ hj
          refine REST.out 0 b s2 _ _ _ _ _ _ _ _ _ _ _ _ _ _ _ _ _ _ _ _ HHD.out (HR6.out.upto fun j hj => up j (by omega)) ?_ ((up _ (by omega)).trans HE6.out) ?_
          · exact ⟨HG6.out.os, HG6.out.tape, HG6.out.output, by have := HG6.out.size; simpa [World.setCell] using this, fun j hj hne => (up j (by omega)).trans (HG6.out.block j hj hne)⟩
          · simp [World.setCell, Array.getElem?_modify, HX6.out]
      by_cases k25 : k = 25
      · subst k25
        have HHD : Hid (headR 25 s1 = (match textR (texB 25).1 (texB 25).2 s1 with | .error e => .error e | .ok (t, s') => .ok (0, t, s'))) := rfl
        have HTB := texb_any 25
        have HC : Hid (Calls Try.prog 58 #[.pointer (some ⟨p, 0, none⟩), .int .i64 (texB 25).1, .int .i64 (texB 25).2] W4 (RPost (textR (texB 25).1 (texB 25).2 s1) p Value.string W4)) := textX_rd _ _ p s1 W4 HR4.out
        generalize (texB 25).1 = tl at *
        generalize (texB 25).2 = tm at *
        cases hb : textR tl tm s1 with
        | error er =>
          rw [hb] at HC HHD
          rw [HHD.out] at HRD
          clear hb REST HHD hK1
          go_wp2_with (go_at_call 59; refine (HTB _).mono ?_; rintro e w2 ⟨rfl, rfl⟩)
          refine HC.out.mono ?_
          intro e w6 hp6
          obtain ⟨rfl, hg⟩ := RPost.err hp6
          go_wp2_with fail
          exact ⟨rfl, grown_transX HG4.out hg, Or.inl ⟨er, HRD.out, rfl⟩⟩
        | ok bs =>
          obtain ⟨b, s2⟩ := bs
          rw [hb] at HC HHD
          clear hb hK1 HRD
          go_wp2_with (go_at_call 59; refine (HTB _).mono ?_; rintro e w2 ⟨rfl, rfl⟩)
          refine HC.out.mono ?_
          intro e w6 hp6
          obtain ⟨rfl, hg, hr⟩ := RPost.ok hp6
          have hX6 : w6.heap[E]? = _ := (hg.block _ (lt_of_block HX4.out) (by simp; omega)).trans HX4.out
          have hE6 : w6.heap[w.heap.size]? = _ := (hg.block _ (lt_of_block HE4.out) (by simp; omega)).trans HE4.out
          have HR6 : Hid (RdX w6 p s2) := hr
          have HG6 : Hid (w.grownBy w6 (some p)) := grown_transX HG4.out hg
          have HX6 : Hid (w6.heap[E]? = some (.cells #[.int .i64 25, .int .u64 0, .string ⟨#[]⟩, .slice none 0 0] 29 (0, 0))) := hX6
          have HE6 : Hid (w6.heap[w.heap.size]? = some (.cells #[.int .i64 0, .int .u64 0, .string ⟨#[]⟩, .slice none 0 0] 29 (0, 0))) := hE6
          clear hp6 hg hr hX6 hE6 x0 x1 x2 x3 f0 f1 f2 f3
          obtain ⟨x0, x1, x2, x3, f0, f1, f2, f3⟩ := box4 HX6.out
          go_wp2_with fail
          have up : ∀ j, j ≠ E → (w6.setCell ⟨E, 2, none⟩ (.string b)).heap[j]? = w6.heap[j]? := fun j hj => Below.heap_setCell _ _ _ _ hj
          refine REST.out 0 b s2 _ _ _ _ _ _ _ _ _ _ _ _ _ _ _ _ _ _ _ _ HHD.out (HR6.out.upto fun j hj => up j (by omega)) ?_ ((up _ (by omega)).trans HE6.out) ?_
          · exact ⟨HG6.out.os, HG6.out.tape, HG6.out.output, by have := HG6.out.size; simpa [World.setCell] using this, fun j hj hne => (up j (by omega)).trans (HG6.out.block j hj hne)⟩
          · simp [World.setCell, Array.getElem?_modify, HX6.out]
      have d3 : (k == 3) = false := by simpa using k3
      have d4 : (k == 4) = false := by simpa using k4
      have d8 : (k == 8) = false := by simpa using k8
      have d25 : (k == 25) = false := by simpa using k25
      have HHD : Hid (headR k s1 = .ok (0, ⟨#[]⟩, s1)) := by
        show _ = _
        unfold headR
        rw [if_neg k3, if_neg (by omega)]
      clear k3 k4 k8 k25 hK1 HRD
      go_wp2_with fail
      exact REST.out 0 ⟨#[]⟩ s1 _ _ _ _ _ _ _ _ _ _ _ _ _ _ _ _ _ _ _ _ HHD.out HR4.out HG4.out HE4.out HX4.out
end Go.Proofs.Ytnliokikcpnllaa
