/-
  The page's Put.
-/
import Derived.Test.YtocodkoanjcmkabSeRfO
import Derived.Test.YtocodkoanjcmkabOcStep
import Derived.Test.YtocodkoanjcmkabSeSpot
namespace Go.Proofs.Ytocodkoanjcmkab
open Go.ChangeShapes Go.WideShapes Go.ChangeAt Go.RowKit Go.Deep
open Se

set_option maxRecDepth 100000 in
set_option maxHeartbeats 3200000 in
theorem rput_any (k : Int) (a : Option Addr) (c : Nat) (d : List UInt8) (w : World) (ho : Oct w a c d) :
    Calls Try.prog 45 #[.agg #[.int .i64 k, .slice a d.length c]] w fun e w' => ∃ s, e = .returned (.tuple #[s, .int .i64 (putR k d).1]) ∧ Bs w' w.heap.size s (putR k d).2 ∧ Below w.heap.size w w' := by
  have HO : Hid (Oct w a c d) := ho
  have hdl := ho.2.2.2.1
  clear ho
  unfold putR
  by_cases h1 : k < 1
  · rw [if_pos (Or.inl h1)]
    go_enter Try.func45, Try.ntmps45
    go_wp2_with fail
    refine bodyPost_ret (v := .tuple #[.slice none 0 0, .int .i64 22]) (by simp [results, Try.results45, go_sem]) rfl ⟨_, rfl, Bs.nil _ _, below_one _ _⟩
  by_cases h2 : 255 < k
  · rw [if_pos (Or.inr h2)]
    go_enter Try.func45, Try.ntmps45
    go_wp2_with fail
    refine bodyPost_ret (v := .tuple #[.slice none 0 0, .int .i64 22]) (by simp [results, Try.results45, go_sem]) rfl ⟨_, rfl, Bs.nil _ _, below_one _ _⟩
  rw [if_neg (by omega)]
  by_cases h3 : 65536 < d.length
  · rw [if_pos h3]
    have h3' : (65536 : Int) < d.length := by omega
    go_enter Try.func45, Try.ntmps45
    go_wp2_with fail
    refine bodyPost_ret (v := .tuple #[.slice none 0 0, .int .i64 5]) (by simp [results, Try.results45, go_sem]) rfl ⟨_, rfl, Bs.nil _ _, below_one _ _⟩
  rw [if_neg h3]
  have h3' : ¬ (65536 : Int) < d.length := by omega
  go_enter Try.func45, Try.ntmps45
  go_wp2_with fail
  have X1 : Hid ((w.alloc (.cells #[.int .i64 k, .slice a d.length c] 77)).heap[w.heap.size]? = some (.cells #[.int .i64 k, .slice a d.length c] 77 (0, 0))) := heap_alloc_new _ _
  have B1 : Hid (Below w.heap.size w (w.alloc (.cells #[.int .i64 k, .slice a d.length c] 77))) := below_one _ _
  generalize w.alloc (.cells #[.int .i64 k, .slice a d.length c] 77) = W at *
  obtain ⟨x0, -⟩ := cell_of X1.out 0
  obtain ⟨x1, -⟩ := cell_of X1.out 1
  simp at x0 x1
  have x0' : ∀ o, (W.alloc o).cell? ⟨w.heap.size, 0, none⟩ = some (.int .i64 k) := fun o => keepc (below_one _ _) _ _ x0
  have x1' : ∀ o, (W.alloc o).cell? ⟨w.heap.size, 1, none⟩ = some (.slice a d.length c) := fun o => keepc (below_one _ _) _ _ x1
  have y0 : W.drew.cell? ⟨w.heap.size, 0, none⟩ = some (.int .i64 k) := x0
  have y1 : W.drew.cell? ⟨w.heap.size, 1, none⟩ = some (.slice a d.length c) := x1
  have hkk : ((UInt8.ofNat k.toNat).toNat : Int) = k := by rw [UInt8.toNat_ofNat']; omega
  have HKK : Hid (cellsO [UInt8.ofNat k.toNat] = [.int .u8 k]) := by show _ = _; simp only [cellsO, List.map_cons, List.map_nil, hkk]
  clear hkk
  have hw64 : IntKind.u64.wrap (d.length : Int) = (d.length : Int) := by rw [IntKind.wrap_u64]; omega
  have hw8 : IntKind.u8.wrap k = k := by rw [IntKind.wrap_u8']; omega
  go_cut [4] (fun s4 wc => Hid (Bs wc W.heap.size s4 ([UInt8.ofNat k.toNat] ++ oct3 d.length)) ∧ Hid (Below W.heap.size W wc))
  case first =>
    go_region_law (first
      | (refine step_call2 rfl 46 (by intros; go_simp) _ _ _ rfl (.int .u64 (d.length : Nat)) (.int .i64 3) (by simp [Act.eval, Act.put]) (by simp [Act.eval]) _ ((roct3_any d.length (by omega) _).mono fun e w' h => h) ?_; intro s2 w2 h3; obtain ⟨h3, h4⟩ := h3
         have BW : Below W.heap.size W w2 := by first | exact ((Below.refl _ W).drew).trans h4 | exact ((below_one W _).drew).trans (h4.mono (by simp))
         have z0 := keepc BW _ _ x0
         have z1 := keepc BW _ _ x1
         have z0' : ∀ o, (w2.alloc o).cell? ⟨w.heap.size, 0, none⟩ = some (.int .i64 k) := fun o => keepc (below_one _ _) _ _ z0
         obtain ⟨a2, c2, rfl⟩ := h3.shape
         obtain ⟨g2, rfl, -⟩ := h3.spot (by simp [oct3]))
      | (refine step_app rfl _ _ rfl W.heap.size (.slice (some ⟨W.heap.size, 0, none⟩) 1 1) [UInt8.ofNat k.toNat] (oct3 d.length) (by simp [Act.eval]) ((((Bs.made W [UInt8.ofNat k.toNat] #[.int .u8 k] (by rw [HKK.out]) W.heap.size (Nat.le_refl _) (by simp)).below (Below.refl _ _).drew)).below h4) ⟨g2, 0, none⟩ c2 (by simp [Act.eval, oct3]) (fun j u hj => by rw [add_plain, Nat.zero_add]; exact (h3.cell hj).1) (by simp [oct3]) BW.size ?_; intro s4 w4 h5 h6
         have B4 : Below W.heap.size W w4 := BW.trans (h6.below BW.size fun g hg => by simp [Value.ownBlock] at hg; omega))
      | (refine step_app rfl _ _ rfl W.heap.size (.slice (some ⟨w2.heap.size, 0, none⟩) 1 1) [UInt8.ofNat k.toNat] (oct3 d.length) (by simp [Act.eval]) (Bs.made w2 [UInt8.ofNat k.toNat] #[.int .u8 k] (by rw [HKK.out]) W.heap.size BW.size (by simp)) ⟨g2, 0, none⟩ c2 (by simp [Act.eval, oct3]) (fun j u hj => by rw [add_plain, Nat.zero_add]; exact ((h3.below (below_one _ _)).cell hj).1) (by simp [oct3]) (by have := BW.size; simp; omega) ?_; intro s4 w4 h5 h6
         have B4 : Below W.heap.size W w4 := (nxt BW (below_one _ _)).trans (h6.below (by have := BW.size; simp; omega) fun g hg => by have := BW.size; simp [Value.ownBlock] at hg; omega)))
    all_goals
      go_wp2_with fail
      go_meet
      exact ⟨h5, B4⟩
  case rest =>
    obtain ⟨S4, B4⟩ := hcut
    have X4 : Hid (wc.heap[w.heap.size]? = some (.cells #[.int .i64 k, .slice a d.length c] 77 (0, 0))) := (B4.out.block _ (lt_of_block X1.out)).trans X1.out
    have BB : Hid (Below w.heap.size w wc) := nxt B1.out B4.out
    have hW4 : W.heap.size ≤ wc.heap.size := B4.out.size
    have hWw : w.heap.size < W.heap.size := lt_of_block X1.out
    clear B4 x0 x1 x0' x1' y0 y1 X1 B1 HKK
    obtain ⟨t0, -⟩ := cell_of X4.out 0
    obtain ⟨t1, -⟩ := cell_of X4.out 1
    simp at t0 t1
    go_wp2_with (at_builtin; refine wpList_appO _ rfl _ _ rfl W.heap.size _ ([UInt8.ofNat k.toNat] ++ oct3 d.length) d rfl S4.out a c rfl ?d0 ?d2 ?d3 ?_)
    case d0 => exact HO.out.below BB.out
    case d2 => simp [oct3]; omega
    case d3 => omega
    intro s5 w5 hs5 hr5
    have HH : Hid (UInt8.ofNat k.toNat :: (oct3 d.length ++ d) = hdr k d) := by show _ = _; simp [oct3, hdr]
    rw [HH.out] at hs5
    have S5 : Hid (Bs w5 W.heap.size s5 (hdr k d)) := hs5
    have hl5 : (hdr k d).length ≤ 100000 := by have := hdr_length k d; omega
    have BB5 : Hid (Below w.heap.size w w5) := BB.out.trans ((hr5.below hW4 fun g hg => (S4.out.base g hg).1).mono (by omega))
    have hW5 : W.heap.size ≤ w5.heap.size := Nat.le_trans hW4 hr5.grown.size
    clear hs5 hr5 S4 X4 BB t0 t1 hW4 HH
    obtain ⟨a5, c5, rfl⟩ := S5.out.shape
    have HSM : Hid (Calls Try.prog 51 #[.slice a5 (hdr k d).length c5] w5 _) := rsum_any a5 c5 (hdr k d) w5 S5.out.lay (by omega)
    have HFR : Hid (frame k d = hdr k d ++ le4 (sum (hdr k d))) := rfl
    generalize hdr k d = H at *
    go_wp2_with fail
    refine HSM.out.mono ?_
    rintro e w6 ⟨rfl, hw6⟩
    subst w6
    go_wp2_with fail
    refine (laid_any (sum H) (sum_lt H) w5).mono ?_
    rintro e w6 ⟨v6, rfl, hs6, hb6⟩
    obtain ⟨a6, c6, rfl⟩ := hs6.shape
    have O6 : Hid (Oct w6 a6 c6 (le4 (sum H))) := hs6.oct (by simp [le4])
    have S6 : Hid (Bs w6 W.heap.size (.slice a5 H.length c5) H) := S5.out.below hb6
    have BB6 : Hid (Below w.heap.size w w6) := nxt BB5.out hb6
    have hW6 : W.heap.size ≤ w6.heap.size := Nat.le_trans hW5 hb6.size
    clear hs6 hb6 HSM S5 BB5 hW5
    go_wp2_with (at_builtin; refine wpList_appO _ rfl _ _ rfl W.heap.size _ H (le4 (sum H)) rfl S6.out a6 c6 rfl O6.out ?d2 ?d3 ?_)
    case d2 => rw [le4_length]; omega
    case d3 => exact hW6
    intro s7 w7 hs7 hr7
    have S7 : Hid (Bs w7 W.heap.size s7 (H ++ le4 (sum H))) := hs7
    have BB7 : Hid (Below w.heap.size w w7) := BB6.out.trans ((hr7.below hW6 fun g hg => (S6.out.base g hg).1).mono (by omega))
    clear hs7 hr7 S6 BB6 O6
    go_wp2_with fail
    refine bodyPost_ret (v := .tuple #[s7, .int .i64 0]) (by simp [results, Try.results45, go_sem]) rfl ⟨_, rfl, ?_, BB7.out⟩
    rw [HFR.out]
    exact S7.out.up fun g hg => by have := (S7.out.base g hg).1; omega
end Go.Proofs.Ytocodkoanjcmkab
