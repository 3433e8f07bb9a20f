/-
  The page's example.
-/
import Derived.Test.YtokebdeaahdcjabDkNew
namespace Go.Proofs.Ytokebdeaahdcjab
open Go.ChangeShapes Go.WideShapes Go.ChangeAt Go.RowKit Go.Deep
open Dk (Wr St)

def ex0 : St := ⟨List.replicate 2 (List.replicate 48 0), []⟩
def exW1 : Wr := ⟨false, 0, Dk.padR (List.replicate 49 0 ++ [7])⟩
def ex1 : St := (Dk.doR ex0 exW1).2
def exW2 : Wr := ⟨false, 0, Dk.padR [9]⟩
def ex2 : St := (Dk.doR ex1 exW2).2
def ex3 : St := (Dk.crashR ex2 [0, 1]).2
def exB : List UInt8 := (Dk.readR ex3 0 2).2

theorem ex_do1 : (Dk.doR ex0 exW1).1 = 0 := by decide +kernel
theorem ex_do2 : (Dk.doR ex1 exW2).1 = 0 := by decide +kernel
theorem ex_crash : (Dk.crashR ex2 [0, 1]).1 = 0 := by decide +kernel
theorem ex_read : (Dk.readR ex3 0 2).1 = 0 := by decide +kernel
theorem ex_len : exB.length = 96 := by decide +kernel
theorem ex_at0 : exB[0]? = some 9 := by decide +kernel
theorem ex_at49 : exB[49]? = some 0 := by decide +kernel
theorem ex_w1 : exW1.d.length = 96 := by decide +kernel
theorem ex_w2 : exW2.d.length = 48 := by decide +kernel

theorem StRes.below {w w' : World} {v : Value} {s : St} (h : StRes w v s) (hb : Below w.heap.size w w') : StRes w' v s := by
  rcases h with ⟨⟨T, wins, c, v', e, h1, h2⟩, h3⟩ | h
  · exact Or.inl ⟨⟨T, wins, c, v', e, h1.keep (KpC.below hb), h2.below hb⟩, h3⟩
  · exact Or.inr h

theorem do_st (s : St) (x : Wr) (v xv : Value) (w : World) (hs : StIs w v s) (hx : WrIs w xv x) : Calls Try.prog 11 #[v, xv] w fun e w' => ∃ r, e = .returned (.tuple #[r, .int .i64 (Dk.doR s x).1]) ∧ StRes w' r (Dk.doR s x).2 ∧ Below w.heap.size w w' := by
  obtain ⟨a, c, a', c', rfl, h1, h2, h3, h4⟩ := hs
  obtain ⟨b, xc, rfl, h5, h6, h7, h8⟩ := hx
  exact do_any s x a a' b c c' xc w h1 h2 h3 h4 h5 h6 h7 h8

theorem crash_st (s : St) (ks : List Int) (v : Value) (ka : Option Addr) (kc : Nat) (w : World) (hs : StIs w v s) (hk : LayI w ka ks) : Calls Try.prog 13 #[v, .slice ka ks.length kc] w fun e w' => ∃ r, e = .returned (.tuple #[r, .int .i64 (Dk.crashR s ks).1]) ∧ StRes w' r (Dk.crashR s ks).2 ∧ Below w.heap.size w w' := by
  obtain ⟨a, c, a', c', rfl, h1, h2, h3, h4⟩ := hs
  exact crash_any s ks a a' ka c c' kc w h1 h2 h3 h4 hk

theorem read_st (s : St) (sec n : Int) (v : Value) (w : World) (hs : StIs w v s) (h1 : -9223372036854775808 ≤ sec ∧ sec ≤ 9223372036854775807) (h2 : -9223372036854775808 ≤ n ∧ n ≤ 9223372036854775807) :
    Calls Try.prog 15 #[v, .int .i64 sec, .int .i64 n] w fun e w' => ∃ ra rc, e = .returned (.tuple #[.slice ra (Dk.readR s sec n).2.length rc, .int .i64 (Dk.readR s sec n).1]) ∧ Oct w' ra rc (Dk.readR s sec n).2 ∧ Below w.heap.size w w' := by
  obtain ⟨a, c, a', c', rfl, q1, q2, q3, q4⟩ := hs
  exact read_any s sec n a a' c c' w q1 q2 q3 q4 h1 h2

set_option maxRecDepth 100000 in
set_option maxHeartbeats 6400000 in
theorem alive_any (w : World) : Calls Try.prog 24 #[] w fun e w' => e = .returned (.bool true) ∧ Below w.heap.size w w' := by
  have HNEW : Hid (∀ W, Calls Try.prog 44 #[.int .i64 2] W fun e w' => ∃ r, e = .returned (.tuple #[r, .int .i64 0]) ∧ StRes w' r ex0 ∧ Below W.heap.size W w') := fun W => new_any 2 (by omega) (by omega) W
  have hmk : ∀ w, Sem.run Try.prog (Instr.makeSlice 26 (.int .i64 49) (.int .i64 49)) w = .ok (.slice (some ⟨w.heap.size, 0, none⟩) 49 49) (w.alloc (.cells (madeCells #[.int .u8 0] 49) 5)) :=
    fun w => run_make_row' (P := Try.prog) 26 5 (.int .u8 0) 1 Try.underlying26 Try.infoU8 rfl .i64 .i64 49 (by omega) (by omega) w
  go_enter Try.func24, Try.ntmps24
  go_wp2_with (go_at_call 44; refine (HNEW.out _).mono ?_; rintro e w1 ⟨r, rfl, hr, hb1⟩; obtain ⟨sa, sc, ta, tc, rfl⟩ := hr.shape; have HR : Hid (StRes w1 (.agg #[.slice sa ex0.secs.length sc, .slice ta ex0.cache.length tc]) ex0) := hr; have HB1 : Hid (Below w.heap.size w w1) := hb1; clear hr hb1)
  have X0 : Hid ((w1.alloc (.cells #[.slice sa ex0.secs.length sc, .slice ta ex0.cache.length tc] 30)).heap[w1.heap.size]? = some (.cells #[.slice sa ex0.secs.length sc, .slice ta ex0.cache.length tc] 30 (0, 0))) := heap_alloc_new _ _
  have R0 : Hid (StRes (w1.alloc (.cells #[.slice sa ex0.secs.length sc, .slice ta ex0.cache.length tc] 30)) (.agg #[.slice sa ex0.secs.length sc, .slice ta ex0.cache.length tc]) ex0) := HR.out.below (below_one _ _)
  have B0 : Hid (Below w.heap.size w (w1.alloc (.cells #[.slice sa ex0.secs.length sc, .slice ta ex0.cache.length tc] 30))) := nxt HB1.out (below_one _ _)
  have hBw : w.heap.size ≤ w1.heap.size := HB1.out.size
  generalize w1.alloc (.cells #[.slice sa ex0.secs.length sc, .slice ta ex0.cache.length tc] 30) = W at *
  generalize w1.heap.size = Bx at *
  clear HR HB1
  have hBx : Bx < W.heap.size := lt_of_block X0.out
  have x0 : W.cell? ⟨Bx, 0, none⟩ = some (.slice sa ex0.secs.length sc) := (cell_of X0.out 0).1
  have x1 : W.cell? ⟨Bx, 1, none⟩ = some (.slice ta ex0.cache.length tc) := (cell_of X0.out 1).1
  have x0d : W.drew.cell? ⟨Bx, 0, none⟩ = some (.slice sa ex0.secs.length sc) := x0
  have x1d : W.drew.cell? ⟨Bx, 1, none⟩ = some (.slice ta ex0.cache.length tc) := x1
  have x0a : ∀ o, (W.alloc o).drew.cell? ⟨Bx, 0, none⟩ = some (.slice sa ex0.secs.length sc) := fun o => keepc (below_one W o) _ _ x0
  have x1a : ∀ o, (W.alloc o).drew.cell? ⟨Bx, 1, none⟩ = some (.slice ta ex0.cache.length tc) := fun o => keepc (below_one W o) _ _ x1
  have x0b : ∀ o o', ((W.alloc o).alloc o').drew.cell? ⟨Bx, 0, none⟩ = some (.slice sa ex0.secs.length sc) := fun o o' => keepc (nxt (below_one W o) (below_one _ o')) _ _ x0
  have x1b : ∀ o o', ((W.alloc o).alloc o').drew.cell? ⟨Bx, 1, none⟩ = some (.slice ta ex0.cache.length tc) := fun o o' => keepc (nxt (below_one W o) (below_one _ o')) _ _ x1
  have h49 : (madeCells #[Value.int .u8 0] 49).toList = cellsO (List.replicate 49 0) := by rw [toList_madeCells_one]; simp [cellsO]
  have HA1 : Hid (Bs ((W.alloc (.cells (madeCells #[.int .u8 0] 49) 5)).alloc (.cells #[.int .u8 7] 5)).drew W.heap.size (.slice (some ⟨W.heap.size, 0, none⟩) 49 49) (List.replicate 49 0)) :=
    ((Bs.made W (List.replicate 49 0) _ h49 W.heap.size (Nat.le_refl _) (by simp)).below (below_one _ _)).below (Below.refl _ _).drew
  have HA2 : Hid (∀ (j : Nat) (u : UInt8), [(7 : UInt8)][j]? = some u → ((W.alloc (.cells (madeCells #[.int .u8 0] 49) 5)).alloc (.cells #[.int .u8 7] 5)).drew.cell? ((⟨W.heap.size + 1, 0, none⟩ : Addr).add j) = some (.int .u8 (u.toNat : Int))) := by
    have := new_octets (W.alloc (.cells (madeCells #[.int .u8 0] 49) 5)) 5 [7] #[.int .u8 7] rfl
    simp only [World.size_alloc] at this
    exact this
  have HC1 : Hid (Bs ((W.alloc (.cells #[.int .u8 7] 5)).alloc (.cells (madeCells #[.int .u8 0] 49) 5)).drew W.heap.size (.slice (some ⟨W.heap.size + 1, 0, none⟩) 49 49) (List.replicate 49 0)) := by
    have := (Bs.made (W.alloc (.cells #[.int .u8 7] 5)) (List.replicate 49 0) _ h49 W.heap.size (by simp) (by simp)).below (Below.refl _ _).drew
    simp only [World.size_alloc, List.length_replicate] at this
    exact this
  have HC2 : Hid (∀ (j : Nat) (u : UInt8), [(7 : UInt8)][j]? = some u → ((W.alloc (.cells #[.int .u8 7] 5)).alloc (.cells (madeCells #[.int .u8 0] 49) 5)).drew.cell? ((⟨W.heap.size, 0, none⟩ : Addr).add j) = some (.int .u8 (u.toNat : Int))) :=
    fun j u hj => keepc (below_one _ _) _ _ (new_octets W 5 [7] #[.int .u8 7] rfl j u hj)
  clear h49
  have HDO1 : Hid (∀ W' a3 c3, Oct W' a3 c3 exW1.d → StRes W' (.agg #[.slice sa ex0.secs.length sc, .slice ta ex0.cache.length tc]) ex0 → Calls Try.prog 11 #[.agg #[.slice sa ex0.secs.length sc, .slice ta ex0.cache.length tc], .agg #[.bool false, .int .i64 0, .slice a3 96 c3]] W' fun e w' => ∃ y, e = .returned y ∧ ∃ r, y = .tuple #[r, .int .i64 0] ∧ StRes w' r ex1 ∧ Below W'.heap.size W' w') := by
    intro W' a3 c3 h1 h2
    refine (do_st ex0 exW1 _ _ W' h2.is ⟨a3, c3, by rw [ex_w1]; rfl, h1, by rw [ex_w1]; omega, by decide, by decide⟩).mono ?_
    rintro e w' ⟨r, h3, h4, h5⟩
    rw [ex_do1] at h3
    exact ⟨_, h3, r, rfl, h4, h5⟩
  have HPD1 : Hid (∀ W' a2 c2, Oct W' a2 c2 (List.replicate 49 0 ++ [7]) → Calls Try.prog 22 #[.slice a2 50 c2] W' fun e w' => ∃ y, e = .returned y ∧ ∃ a3 c3, y = .slice a3 96 c3 ∧ Oct w' a3 c3 exW1.d ∧ Below W'.heap.size W' w') := by
    intro W' a2 c2 h1
    refine (pad_any a2 c2 (List.replicate 49 0 ++ [7]) W' h1 (by simp)).mono ?_
    rintro e w' ⟨a3, c3, h3, h4, h5⟩
    have hl : (Dk.padR (List.replicate 49 0 ++ [7])).length = 96 := ex_w1
    rw [hl] at h3
    exact ⟨_, h3, a3, c3, rfl, h4, h5⟩
  go_cut [3] (fun v3 wc => v3 = .int .i64 0 ∧ ∃ sa sc ta tc, Hid (wc.heap[Bx]? = some (.cells #[.slice sa ex1.secs.length sc, .slice ta ex1.cache.length tc] 30 (0, 0))) ∧ Hid (StRes wc (.agg #[.slice sa ex1.secs.length sc, .slice ta ex1.cache.length tc]) ex1) ∧ Hid (Below w.heap.size w wc))
  case first =>
    go_region_law (first
      | (refine step_app rfl _ _ rfl W.heap.size (.slice (some ⟨W.heap.size, 0, none⟩) 49 49) (List.replicate 49 0) [7] (by first | (simp [Act.eval]; done) | simp [Act.eval, Act.put]) HA1.out ⟨W.heap.size + 1, 0, none⟩ 1 (by first | (simp [Act.eval]; done) | simp [Act.eval, Act.put]) HA2.out (by simp) (by simp; omega) ?_; intro s2 w2 h1 h2
         have BW : Below W.heap.size W w2 := (nxt (below_one W _) (below_one _ _)).drew.trans (h2.below (by simp; omega) (fun g hg => by simp [Value.ownBlock] at hg; omega))
         obtain ⟨a2, c2, rfl⟩ := h1.shape
         have y0 := keepc BW _ _ x0
         have y1 := keepc BW _ _ x1)
      | (refine step_app rfl _ _ rfl W.heap.size (.slice (some ⟨W.heap.size + 1, 0, none⟩) 49 49) (List.replicate 49 0) [7] (by first | (simp [Act.eval]; done) | simp [Act.eval, Act.put]) HC1.out ⟨W.heap.size, 0, none⟩ 1 (by first | (simp [Act.eval]; done) | simp [Act.eval, Act.put]) HC2.out (by simp) (by simp; omega) ?_; intro s2 w2 h1 h2
         have BW : Below W.heap.size W w2 := (nxt (below_one W _) (below_one _ _)).drew.trans (h2.below (by simp; omega) (fun g hg => by simp [Value.ownBlock] at hg; omega))
         obtain ⟨a2, c2, rfl⟩ := h1.shape
         have y0 := keepc BW _ _ x0
         have y1 := keepc BW _ _ x1)
      | (refine step_call1 rfl 22 (by intros; go_simp) _ _ rfl (.slice a2 50 c2) (by first | (simp [Act.eval]; done) | simp [Act.eval, Act.put]) _ (HPD1.out w2 a2 c2 (h1.oct (by simp))) ?_; intro y w3 hR; obtain ⟨a3, c3, rfl, h3, h4⟩ := hR
         have z0 := keepc h4 _ _ y0
         have z1 := keepc h4 _ _ y1)
      | (refine step_call2 rfl 11 (by intros; go_simp) _ _ _ rfl (.agg #[.slice sa ex0.secs.length sc, .slice ta ex0.cache.length tc]) (.agg #[.bool false, .int .i64 0, .slice a3 96 c3]) (by first | (simp [Act.eval]; done) | simp [Act.eval, Act.put]) (by first | (simp [Act.eval]; done) | simp [Act.eval, Act.put]) _ (HDO1.out w3 a3 c3 h3 (R0.out.below (nxt BW h4))) ?_; intro y w4 hR; obtain ⟨r, rfl, h5, h6⟩ := hR
         obtain ⟨sa2, sc2, ta2, tc2, rfl⟩ := h5.shape
         have b4 := ((nxt (nxt BW h4) h6).block _ hBx).trans X0.out
         have g0 := (cell_of b4 0).1
         have g1 := (cell_of b4 1).1
         have f0 := (cell_of b4 0).2
         have f1 := (cell_of b4 1).2
         simp at g0 g1))
    all_goals
      go_wp2_with fail
      go_meet
      have hset1 := set_one_cell (o := 0) b4 (.slice sa2 ex1.secs.length sc2)
      have hset2 := set_one_cell (o := 1) hset1 (.slice ta2 ex1.cache.length tc2)
      refine ⟨rfl, sa2, sc2, ta2, tc2, ?_, (h5.set b4 (by decide) (by decide) (by decide) _).set hset1 (by decide) (by decide) (by decide) _, ?_⟩
      · show _ = _
        rw [hset2]
        simp
      · exact ((nxt B0.out (nxt (nxt BW h4) h6)).setCell (by show w.heap.size ≤ Bx; omega) _).setCell (by show w.heap.size ≤ Bx; omega) _
  case rest =>
    obtain ⟨rfl, sa', sc', ta', tc', X1, R1, B1⟩ := hcut
    clear x0 x1 x0d x1d x0a x1a x0b x1b HA1 HA2 HC1 HC2 HDO1 HPD1 X0 R0 B0 hmk HNEW hBx
    have hBx : Bx < wc.heap.size := lt_of_block X1.out
    have x0 : wc.cell? ⟨Bx, 0, none⟩ = some (.slice sa' ex1.secs.length sc') := (cell_of X1.out 0).1
    have x1 : wc.cell? ⟨Bx, 1, none⟩ = some (.slice ta' ex1.cache.length tc') := (cell_of X1.out 1).1
    have x0d : wc.drew.cell? ⟨Bx, 0, none⟩ = some (.slice sa' ex1.secs.length sc') := x0
    have x1d : wc.drew.cell? ⟨Bx, 1, none⟩ = some (.slice ta' ex1.cache.length tc') := x1
    have x0a : ∀ o, (wc.alloc o).drew.cell? ⟨Bx, 0, none⟩ = some (.slice sa' ex1.secs.length sc') := fun o => keepc (below_one wc o) _ _ x0
    have x1a : ∀ o, (wc.alloc o).drew.cell? ⟨Bx, 1, none⟩ = some (.slice ta' ex1.cache.length tc') := fun o => keepc (below_one wc o) _ _ x1
    have HA1 : Hid (Oct (wc.alloc (.cells #[.int .u8 9] 5)).drew (some ⟨wc.heap.size, 0, none⟩) 1 [9]) :=
      ((Bs.made wc [9] #[.int .u8 9] rfl wc.heap.size (Nat.le_refl _) (by simp)).below (Below.refl _ _).drew).oct (by simp)
    have HDO2 : Hid (∀ W' a3 c3, Oct W' a3 c3 exW2.d → StRes W' (.agg #[.slice sa' ex1.secs.length sc', .slice ta' ex1.cache.length tc']) ex1 → Calls Try.prog 11 #[.agg #[.slice sa' ex1.secs.length sc', .slice ta' ex1.cache.length tc'], .agg #[.bool false, .int .i64 0, .slice a3 48 c3]] W' fun e w' => ∃ y, e = .returned y ∧ ∃ r, y = .tuple #[r, .int .i64 0] ∧ StRes w' r ex2 ∧ Below W'.heap.size W' w') := by
      intro W' a3 c3 h1 h2
      refine (do_st ex1 exW2 _ _ W' h2.is ⟨a3, c3, by rw [ex_w2]; rfl, h1, by rw [ex_w2]; omega, by decide, by decide⟩).mono ?_
      rintro e w' ⟨r, h3, h4, h5⟩
      rw [ex_do2] at h3
      exact ⟨_, h3, r, rfl, h4, h5⟩
    have HPD2 : Hid (∀ W' a2 c2, Oct W' a2 c2 [9] → Calls Try.prog 22 #[.slice a2 1 c2] W' fun e w' => ∃ y, e = .returned y ∧ ∃ a3 c3, y = .slice a3 48 c3 ∧ Oct w' a3 c3 exW2.d ∧ Below W'.heap.size W' w') := by
      intro W' a2 c2 h1
      refine (pad_any a2 c2 [9] W' h1 (by simp)).mono ?_
      rintro e w' ⟨a3, c3, h3, h4, h5⟩
      have hl : (Dk.padR [9]).length = 48 := ex_w2
      rw [hl] at h3
      exact ⟨_, h3, a3, c3, rfl, h4, h5⟩
    go_wp2_with fail
    go_cut [4] (fun v3 wc => v3 = .int .i64 0 ∧ ∃ sa sc ta tc, Hid (wc.heap[Bx]? = some (.cells #[.slice sa ex2.secs.length sc, .slice ta ex2.cache.length tc] 30 (0, 0))) ∧ Hid (StRes wc (.agg #[.slice sa ex2.secs.length sc, .slice ta ex2.cache.length tc]) ex2) ∧ Hid (Below w.heap.size w wc))
    case first =>
      go_region_law (first
        | (refine step_call1 rfl 22 (by intros; go_simp) _ _ rfl (.slice (some ⟨wc.heap.size, 0, none⟩) 1 1) (by first | (simp [Act.eval]; done) | simp [Act.eval, Act.put]) _ (HPD2.out _ _ _ HA1.out) ?_; intro y w3 hR; obtain ⟨a3, c3, rfl, h3, h4⟩ := hR
           have BW : Below wc.heap.size wc w3 := ((below_one wc _).drew).trans (h4.mono (by simp))
           have z0 := keepc BW _ _ x0
           have z1 := keepc BW _ _ x1)
        | (refine step_call2 rfl 11 (by intros; go_simp) _ _ _ rfl (.agg #[.slice sa' ex1.secs.length sc', .slice ta' ex1.cache.length tc']) (.agg #[.bool false, .int .i64 0, .slice a3 48 c3]) (by first | (simp [Act.eval]; done) | simp [Act.eval, Act.put]) (by first | (simp [Act.eval]; done) | simp [Act.eval, Act.put]) _ (HDO2.out w3 a3 c3 h3 (R1.out.below BW)) ?_; intro y w4 hR; obtain ⟨r, rfl, h5, h6⟩ := hR
           obtain ⟨sa2, sc2, ta2, tc2, rfl⟩ := h5.shape
           have b4 := ((nxt BW h6).block _ hBx).trans X1.out
           have g0 := (cell_of b4 0).1
           have g1 := (cell_of b4 1).1
           have f0 := (cell_of b4 0).2
           have f1 := (cell_of b4 1).2
           simp at g0 g1))
      all_goals
        go_wp2_with fail
        go_meet
        have hset1 := set_one_cell (o := 0) b4 (.slice sa2 ex2.secs.length sc2)
        have hset2 := set_one_cell (o := 1) hset1 (.slice ta2 ex2.cache.length tc2)
        refine ⟨rfl, sa2, sc2, ta2, tc2, ?_, (h5.set b4 (by decide) (by decide) (by decide) _).set hset1 (by decide) (by decide) (by decide) _, ?_⟩
        · show _ = _
          rw [hset2]
          simp
        · exact ((nxt B1.out (nxt BW h6)).setCell (by show w.heap.size ≤ Bx; omega) _).setCell (by show w.heap.size ≤ Bx; omega) _
    case rest =>
      rename_i wo
      obtain ⟨rfl, sa2, sc2, ta2, tc2, X2, R2, B2⟩ := hcut
      clear x0 x1 x0d x1d x0a x1a HA1 HDO2 HPD2 X1 R1 B1 hBx
      have hBx : Bx < wc.heap.size := lt_of_block X2.out
      have HX3 : Hid ((wc.alloc (.cells #[.int .i64 0, .int .i64 1] 3)).heap[Bx]? = some (.cells #[.slice sa2 ex2.secs.length sc2, .slice ta2 ex2.cache.length tc2] 30 (0, 0))) := (Below.heap_alloc _ _ _ hBx).trans X2.out
      have x0 := (cell_of X2.out 0).1
      have x1 := (cell_of X2.out 1).1
      simp at x0 x1
      have HCR : Hid (Calls Try.prog 13 #[.agg #[.slice sa2 ex2.secs.length sc2, .slice ta2 ex2.cache.length tc2], .slice (some ⟨wc.heap.size, 0, none⟩) 2 2] (wc.alloc (.cells #[.int .i64 0, .int .i64 1] 3)) fun e w' => ∃ r, e = .returned (.tuple #[r, .int .i64 0]) ∧ StRes w' r ex3 ∧ Below wc.heap.size wc w') := by
        refine (crash_st ex2 [0, 1] _ (some ⟨wc.heap.size, 0, none⟩) 2 _ (R2.out.below (below_one _ _)).is ?_).mono ?_
        · intro i v hi
          have hn := newCells wc #[.int .i64 0, .int .i64 1] 3
          match i, hi with
          | 0, hi =>
            simp at hi
            subst hi
            exact ⟨wc.heap.size, 0, rfl, by have := hn 0 _ rfl; rw [add_plain] at this; exact this, by decide, by decide⟩
          | 1, hi =>
            simp at hi
            subst hi
            exact ⟨wc.heap.size, 0, rfl, by have := hn 1 _ rfl; rw [add_plain] at this; exact this, by decide, by decide⟩
          | i + 2, hi => simp at hi
        · rintro e w' ⟨r, h3, h4, h5⟩
          rw [ex_crash] at h3
          exact ⟨r, h3, h4, nxt (below_one _ _) h5⟩
      have HRD : Hid (∀ W' v, StRes W' v ex3 → Calls Try.prog 15 #[v, .int .i64 0, .int .i64 2] W' fun e w' => ∃ b off rc, e = .returned (.tuple #[.slice (some ⟨b, off, none⟩) 96 rc, .int .i64 0]) ∧ w'.cell? ⟨b, off, none⟩ = some (.int .u8 9) ∧ w'.cell? ⟨b, off + 49, none⟩ = some (.int .u8 0) ∧ Below W'.heap.size W' w') := by
        intro W' v h1
        refine (read_st ex3 0 2 v W' h1.is (by decide) (by decide)).mono ?_
        rintro e w' ⟨ra, rc, h3, h4, h5⟩
        have hl : (Dk.readR ex3 0 2).2.length = 96 := ex_len
        rw [ex_read, hl] at h3
        obtain ⟨b, off, e1, k1⟩ := h4.1 0 9 ex_at0
        obtain ⟨b', off', e2, k2⟩ := h4.1 49 0 ex_at49
        rw [e1] at e2
        cases e2
        exact ⟨b, off, rc, by rw [h3, e1], k1, k2, h5⟩
      go_wp2_with (first
        | (go_at_call 13; refine HCR.out.mono ?_; rintro e w5 ⟨r, rfl, h5, h6⟩; obtain ⟨sa3, sc3, ta3, tc3, rfl⟩ := h5.shape; have b4 := (h6.block _ hBx).trans X2.out; have HB4 : Hid (w5.heap[Bx]? = some (.cells #[.slice sa2 ex2.secs.length sc2, .slice ta2 ex2.cache.length tc2] 30 (0, 0))) := b4; have H5 : Hid (StRes w5 (.agg #[.slice sa3 ex3.secs.length sc3, .slice ta3 ex3.cache.length tc3]) ex3) := h5; have H6 : Hid (Below wc.heap.size wc w5) := h6; have g0 := (cell_of b4 0).1; have g1 := (cell_of b4 1).1; have f0 := (cell_of b4 0).2; have f1 := (cell_of b4 1).2; simp at g0 g1; clear h5 h6 b4)
        | (go_at_call 15; refine (HRD.out _ (.agg #[.slice sa3 ex3.secs.length sc3, .slice ta3 ex3.cache.length tc3]) ((H5.out.set HB4.out (by decide) (by decide) (by decide) _).set (set_one_cell (o := 0) HB4.out _) (by decide) (by decide) (by decide) _)).mono ?_; rintro e w6 ⟨b, off, rc, rfl, k1, k2, hb6⟩; have H7 : Hid (Below w.heap.size w w6) := nxt (((nxt B2.out H6.out).setCell (by show w.heap.size ≤ Bx; omega) _).setCell (by show w.heap.size ≤ Bx; omega) _) hb6; clear hb6)
        | (go_at_call 18; refine (num_any _ _).mono ?_; rintro e w9 ⟨rfl, h9⟩; subst w9))
      go_ret
      exact ⟨rfl, H7.out⟩
end Go.Proofs.Ytokebdeaahdcjab
