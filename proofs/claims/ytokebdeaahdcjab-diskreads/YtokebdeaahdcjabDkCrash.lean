/-
  The program's Crash.
-/
import Derived.Test.YtokebdeaahdcjabDkDo
namespace Go.Proofs.Ytokebdeaahdcjab
open Go.ChangeShapes Go.WideShapes Go.ChangeAt Go.RowKit Go.Deep
open Dk (Wr St)

/-- Whole numbers that lie somewhere. -/
def LayI (w : World) (a : Option Addr) (ks : List Int) : Prop := ∀ i v, ks[i]? = some v → ∃ b off, a = some ⟨b, off, none⟩ ∧ w.cell? ⟨b, off + i, none⟩ = some (.int .i64 v) ∧ -9223372036854775808 ≤ v ∧ v ≤ 9223372036854775807

theorem LayI.below {w w' : World} {a : Option Addr} {ks : List Int} (h : LayI w a ks) (hb : Below w.heap.size w w') : LayI w' a ks := by
  intro i v hi
  obtain ⟨b, off, h1, h2, h3⟩ := h i v hi
  exact ⟨b, off, h1, keepc hb _ _ h2, h3⟩

set_option maxRecDepth 100000 in
theorem keep_any (ks : List Int) (ka : Option Addr) (kc kb i : Nat) (W : World) (hk : LayI W ka ks) (hb : W.cell? ⟨kb, 0, none⟩ = some (.slice ka ks.length kc)) :
    Calls Try.prog 38 #[.int .i64 (i : Nat), .pointer (some ⟨kb, 0, none⟩)] W fun e W' => e = .returned (.int .i64 (ks.getD i 0)) ∧ W' = W := by
  by_cases hlt : i < ks.length
  · have hltb : (i : Int) < (ks.length : Int) := by omega
    obtain ⟨v, hv⟩ : ∃ v, ks[i]? = some v := ⟨_, List.getElem?_eq_getElem hlt⟩
    obtain ⟨b, off, rfl, q1, -⟩ := hk i v hv
    have HV : Hid (ks.getD i 0 = v) := by show _ = _; rw [List.getD_eq_getElem?_getD, hv]; rfl
    clear hv hk
    go_enter Try.func38, Try.ntmps38
    go_wp2_with fail
    go_ret
    exact ⟨by rw [HV.out]; rfl, rfl⟩
  · have hltb : (ks.length : Int) ≤ (i : Int) := by omega
    have HV : Hid (ks.getD i 0 = 0) := by show _ = _; rw [List.getD_eq_getElem?_getD, List.getElem?_eq_none (by omega)]; rfl
    clear hk
    go_enter Try.func38, Try.ntmps38
    go_wp2_with fail
    go_ret
    exact ⟨by rw [HV.out]; rfl, rfl⟩

set_option maxRecDepth 100000 in
set_option maxHeartbeats 6400000 in
theorem crash_any (s : St) (ks : List Int) (a a' ka : Option Addr) (c c' kc : Nat) (w : World) (hS : LayS w a s.secs) (hW : LayW w a' s.cache) (hn : s.secs.length ≤ 200000000000000) (hm : s.cache.length ≤ 200000000000000) (hk : LayI w ka ks) :
    Calls Try.prog 13 #[.agg #[.slice a s.secs.length c, .slice a' s.cache.length c'], .slice ka ks.length kc] w fun e w' => ∃ r, e = .returned (.tuple #[r, .int .i64 (Dk.crashR s ks).1]) ∧ StRes w' r (Dk.crashR s ks).2 ∧ Below w.heap.size w w' := by
  have HS : Hid (LayS w a s.secs) := hS
  have HW : Hid (LayW w a' s.cache) := hW
  have HK : Hid (LayI w ka ks) := hk
  clear hS hW hk
  have HB : Hid (Below w.heap.size w (((w.alloc (.cells #[.slice a s.secs.length c, .slice a' s.cache.length c'] 30)).alloc (.cells #[.slice ka ks.length kc] 29)).alloc (.cells #[.slice none 0 0, .slice none 0 0] 30))) := nxt (nxt (below_one _ _) (below_one _ _)) (below_one _ _)
  have X0 : Hid ((((w.alloc (.cells #[.slice a s.secs.length c, .slice a' s.cache.length c'] 30)).alloc (.cells #[.slice ka ks.length kc] 29)).alloc (.cells #[.slice none 0 0, .slice none 0 0] 30)).heap[w.heap.size]? = some (.cells #[.slice a s.secs.length c, .slice a' s.cache.length c'] 30 (0, 0))) :=
    ((nxt (below_one _ _) (below_one _ _)).block _ (by simp)).trans (heap_alloc_new _ _)
  have V0 : Hid ((((w.alloc (.cells #[.slice a s.secs.length c, .slice a' s.cache.length c'] 30)).alloc (.cells #[.slice ka ks.length kc] 29)).alloc (.cells #[.slice none 0 0, .slice none 0 0] 30)).heap[w.heap.size + 1]? = some (.cells #[.slice ka ks.length kc] 29 (0, 0))) :=
    (Below.heap_alloc _ _ _ (by simp)).trans (heap_new2 _ _ _)
  have Y0 : Hid ((((w.alloc (.cells #[.slice a s.secs.length c, .slice a' s.cache.length c'] 30)).alloc (.cells #[.slice ka ks.length kc] 29)).alloc (.cells #[.slice none 0 0, .slice none 0 0] 30)).heap[w.heap.size + 1 + 1]? = some (.cells #[.slice none 0 0, .slice none 0 0] 30 (0, 0))) := by
    have h := heap_alloc_new ((w.alloc (.cells #[.slice a s.secs.length c, .slice a' s.cache.length c'] 30)).alloc (.cells #[.slice ka ks.length kc] 29)) (.cells #[.slice none 0 0, .slice none 0 0] 30)
    simp only [World.size_alloc] at h
    exact h
  have HCK : Hid (∀ W, Below w.heap.size w W → Calls Try.prog 20 #[.agg #[.slice a s.secs.length c, .slice a' s.cache.length c']] W fun e w' => e = .returned (.int .i64 (Dk.chk s)) ∧ Below W.heap.size W w') :=
    fun W hb => check_any s a a' c c' W (HS.out.below hb) (HW.out.below hb) hn hm
  by_cases hc : Dk.chk s = 0
  · have hok := Dk.chk_zero.1 hc
    rw [hc] at HCK
    have HD : Hid (Dk.crashR s ks = (0, ⟨Dk.layA (fun i => ks.getD i 0) 0 s.secs s.cache, []⟩)) := by
      show _ = _
      unfold Dk.crashR
      rw [if_neg (by rw [hc]; simp)]
    rw [HD.out]
    have HCS : Hid (∀ W, Below w.heap.size w W → Calls Try.prog 36 #[.slice a s.secs.length c] W _) := fun W hb => copyS_any a c s.secs W (HS.out.below hb) hok.rows hok.hi
    have HLAY : Hid (∀ (w0 W : World) (T c2 : Nat) (wins : List (Option (Nat × Nat))), Below w.heap.size w w0 → w0.cell? ⟨w.heap.size + 1, 0, none⟩ = some (.slice ka ks.length kc) → Below w0.heap.size w0 W → Wn W T wins s.secs → Apart wins → WinsUp w0.heap.size wins →
        Calls Try.prog 37 #[.slice (some ⟨T, 0, none⟩) s.secs.length c2, .slice a' s.cache.length c', .func (.func 38) #[] #[.pointer (some ⟨w.heap.size + 1, 0, none⟩)]] W fun e w' => e = .returned (.tuple #[]) ∧ Wn w' T wins (Dk.layA (fun i => ks.getD i 0) 0 s.secs s.cache) ∧ Below w0.heap.size w0 w' ∧ KpN W w') := by
      intro w0 W T c2 wins hb0 hcell hbW hwn hap hup
      refine lay_any 38 #[.pointer (some ⟨w.heap.size + 1, 0, none⟩)] (fun i => ks.getD i 0) w0 W T c2 wins s.secs s.cache a' c' (enters_of Try.func38 (by kernel_rfl) rfl) ?_ ?_ hbW hwn hap hup (HW.out.below hb0) hok.fits hok.hi hok.few
      · intro i W' hi hb'
        simpa using keep_any ks ka kc (w.heap.size + 1) i W' ((HK.out.below hb0).below hb') (keepc hb' _ _ hcell)
      · intro i
        rw [List.getD_eq_getElem?_getD]
        cases hv : ks[i]? with
        | none => simp
        | some v =>
          obtain ⟨-, -, -, -, h3⟩ := HK.out i v hv
          simpa using h3
    have HLEN : Hid ((Dk.layA (fun i => ks.getD i 0) 0 s.secs s.cache).length = s.secs.length ∧ s.secs.length ≤ 4096) := ⟨Dk.layA_length _ _ _ _, hok.hi⟩
    generalize Dk.layA (fun i => ks.getD i 0) 0 s.secs s.cache = RS at *
    obtain ⟨ss, ws⟩ := s
    simp only at *
    clear hok hc HD
    go_enter Try.func13, Try.ntmps13
    go_wp2_with (first
      | (go_at_call 20; refine (HCK.out _ HB.out).mono ?_; rintro e w1 ⟨rfl, hb1⟩; have HB1 : Hid (Below w.heap.size w w1) := nxt HB.out hb1; have X1 : Hid (_ = _) := (hb1.block _ (lt_of_block X0.out)).trans X0.out; have V1 : Hid (_ = _) := (hb1.block _ (lt_of_block V0.out)).trans V0.out; have Y1 : Hid (_ = _) := (hb1.block _ (lt_of_block Y0.out)).trans Y0.out; clear hb1 X0 V0 Y0; have c0 := (cell_of X1.out 0).1; simp at c0)
      | (go_at_call 36; refine (HCS.out _ HB1.out).mono ?_; rintro e w2 ⟨T, wins, rfl, k1, k2, k3, -, k4⟩; have HK1 : Hid (Wn w2 T wins ss) := k1; have HK2 : Hid (Apart wins) := k2; have HK3 : Hid (WinsUp w1.heap.size wins) := k3; have HK4 : Hid (Below w1.heap.size w1 w2) := k4; have X2 : Hid (_ = _) := (k4.block _ (lt_of_block X1.out)).trans X1.out; clear c0 k1 k2 k3 k4; have c1 := (cell_of X2.out 1).1; simp at c1)
      | (go_at_call 37; refine (HLAY.out w1 w2 T ss.length wins HB1.out (cell_of V1.out 0).1 HK4.out HK1.out HK2.out HK3.out).mono ?_; rintro e w3 ⟨rfl, k1, k2, k3⟩; have HJ1 : Hid (Wn w3 T wins RS) := k1; have HJ2 : Hid (Below w1.heap.size w1 w3) := k2; have Y3 : Hid (w3.heap[w.heap.size + 1 + 1]? = some (.cells #[.slice none 0 0, .slice none 0 0] 30 (0, 0))) := (k2.block _ (lt_of_block Y1.out)).trans Y1.out; clear c1 k1 k2 k3; have g0 := (cell_of Y3.out 0).1; have g1 := (cell_of Y3.out 1).1; have f0 := (cell_of Y3.out 0).2; have f1 := (cell_of Y3.out 1).2; simp at g0 g1))
    have hset1 := set_one_cell (o := 0) Y3.out (.slice (some ⟨T, 0, none⟩) ss.length ss.length)
    have hset2 := set_one_cell (o := 1) hset1 (.slice none 0 0)
    have r0 := (cell_of hset2 0).1
    have r1 := (cell_of hset2 1).1
    simp at r0 r1
    refine bodyPost_ret (v := .tuple #[.agg #[.slice (some ⟨T, 0, none⟩) ss.length ss.length, .slice none 0 0], .int .i64 0]) (by simp [results, Try.results13, go_sem, r0, r1]) rfl ?_
    have H3 : StOwn w3 (.agg #[.slice (some ⟨T, 0, none⟩) ss.length ss.length, .slice none 0 0]) ⟨RS, []⟩ := ⟨T, wins, ss.length, _, by simp only [HLEN.out.1], HJ1.out, OwnW.nil _ _⟩
    refine ⟨_, rfl, Or.inl ⟨(H3.set Y3.out (by decide) (by decide) (by decide) _).set hset1 (by decide) (by decide) (by decide) _, by simp only; rw [HLEN.out.1]; exact HLEN.out.2, by simp⟩, ?_⟩
    exact ((nxt HB1.out HJ2.out).setCell (by show w.heap.size ≤ w.heap.size + 1 + 1; omega) _).setCell (by show w.heap.size ≤ w.heap.size + 1 + 1; omega) _
  · have HDR : Hid (Dk.crashR s ks = (Dk.chk s, ⟨[], []⟩)) := by
      show _ = _
      unfold Dk.crashR
      rw [if_pos hc]
    rw [HDR.out]
    have hcb : (Dk.chk s != 0) = true := by simp [hc]
    generalize Dk.chk s = ck at *
    obtain ⟨ss, ws⟩ := s
    simp only at *
    clear hc
    go_enter Try.func13, Try.ntmps13
    go_wp2_with (first
      | (go_at_call 20; refine (HCK.out _ HB.out).mono ?_; rintro e w1 ⟨rfl, hb1⟩; have HB1 : Hid (Below w.heap.size w w1) := nxt HB.out hb1; have Y1 : Hid (w1.heap[w.heap.size + 1 + 1]? = some (.cells #[.slice none 0 0, .slice none 0 0] 30 (0, 0))) := (hb1.block _ (lt_of_block Y0.out)).trans Y0.out; clear hb1 X0 V0 Y0; have g0 := (cell_of Y1.out 0).1; have g1 := (cell_of Y1.out 1).1; have f0 := (cell_of Y1.out 0).2; have f1 := (cell_of Y1.out 1).2; simp at g0 g1))
    have hset1 := set_one_cell (o := 0) Y1.out (.slice none 0 0)
    have hset2 := set_one_cell (o := 1) hset1 (.slice none 0 0)
    have r0 := (cell_of hset2 0).1
    have r1 := (cell_of hset2 1).1
    simp at r0 r1
    refine bodyPost_ret (v := .tuple #[.agg #[.slice none 0 0, .slice none 0 0], .int .i64 ck]) (by simp [results, Try.results13, go_sem, r0, r1]) rfl ?_
    exact ⟨_, rfl, Or.inr ⟨rfl, rfl⟩, (HB1.out.setCell (by show w.heap.size ≤ w.heap.size + 1 + 1; omega) _).setCell (by show w.heap.size ≤ w.heap.size + 1 + 1; omega) _⟩
end Go.Proofs.Ytokebdeaahdcjab
