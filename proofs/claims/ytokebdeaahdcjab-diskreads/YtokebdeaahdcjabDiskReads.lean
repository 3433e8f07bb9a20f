/-
  DiskReads holds for every state and every write: what was written is read, waiting or not; elsewhere all stays; a write that is refused tells no state. No condition.
-/
import Derived.Test.YtokebdeaahdcjabDkReads
import Derived.Deep.RegionHeld3
namespace Go.Proofs.Ytokebdeaahdcjab.diskReads
open Go.ChangeShapes Go.WideShapes Go.ChangeAt Go.RowKit Go.Deep
open Dk (Wr St)

/-- A box that was written. -/
theorem boxed {w : World} {g : Nat} {x y : Value} (h : w.heap[g]? = some (.cells #[.slice none 0 0, .slice none 0 0] 30 (0, 0))) : ((w.setCell ⟨g, 0, none⟩ x).setCell ⟨g, 1, none⟩ y).heap[g]? = some (.cells #[x, y] 30 (0, 0)) := by
  rw [set_one_cell (o := 1) (set_one_cell (o := 0) h x) y]
  simp

theorem box_set {w : World} {g : Nat} {v x y : Value} {s : St} (hs : StRes w v s) (h : w.heap[g]? = some (.cells #[.slice none 0 0, .slice none 0 0] 30 (0, 0))) : StRes ((w.setCell ⟨g, 0, none⟩ x).setCell ⟨g, 1, none⟩ y) v s :=
  (hs.set h (by decide) (by decide) (by decide) _).set (set_one_cell (o := 0) h x) (by decide) (by decide) (by decide) _

set_option maxRecDepth 100000 in
set_option maxHeartbeats 6400000 in
theorem walk (s : St) (x : Value) (y : Wr) (xw : Value) (w : World) (hs : StArg w x s) (hx : WrIs w xw y) :
    Calls Try.prog 5 #[x, xw] w fun e w' => e = .returned (.bool true) ∧ Below w.heap.size w w' := by
  have HSA : Hid (StArg w x s) := hs
  obtain ⟨a, c, a', c', rfl, -, -, hn24, hm40⟩ := hs
  have HWA : Hid (WrIs w xw y) := hx
  obtain ⟨xa, xc, rfl, ho, hd, hy1, hy2⟩ := hx
  have HO : Hid (Oct w xa xc y.d) := ho
  clear ho
  have hlen : s.secs.length ≤ 200000000000000 := by omega
  have HDW : Hid ((Dk.doR s y).1 = 0 → y.fl = false → ∃ (a k : Nat) (P Q : List UInt8), y.sec = (a : Int) ∧ y.d.length / 48 = k ∧ a + k ≤ s.secs.length ∧ s.secs.length ≤ 4096 ∧
    Dk.readR (Dk.doR s y).2 a k = (0, y.d) ∧ Dk.readR s 0 a = (0, P) ∧ Dk.readR (Dk.doR s y).2 0 a = (0, P) ∧ Dk.readR s ((a + k : Nat) : Int) ((s.secs.length - a - k : Nat) : Int) = (0, Q) ∧ Dk.readR (Dk.doR s y).2 ((a + k : Nat) : Int) ((s.secs.length - a - k : Nat) : Int) = (0, Q)) := reads_all
  have HDE : Hid ((Dk.doR s y).1 ≠ 0 → (Dk.doR s y).2 = ⟨[], []⟩) := do_err
  have HDO : Hid (∀ W v, StIs W v s → Below w.heap.size w W → Calls Try.prog 11 #[v, .agg #[.bool y.fl, .int .i64 y.sec, .slice xa y.d.length xc]] W fun e w' => ∃ z, e = .returned z ∧ ∃ r, z = .tuple #[r, .int .i64 (Dk.doR s y).1] ∧ StRes w' r (Dk.doR s y).2 ∧ Below W.heap.size W w') := by
    intro W v h1 h2
    refine (do_st s y v _ W h1 (HWA.out.below h2)).mono ?_
    rintro e w' ⟨r, h3, h4, h5⟩
    exact ⟨_, h3, r, rfl, h4, h5⟩
  obtain ⟨fl, sec, d⟩ := y
  simp only at *
  generalize Dk.doR s ⟨fl, sec, d⟩ = R at *
  obtain ⟨ec, T⟩ := R
  simp only at *
  go_enter Try.func5, Try.ntmps5
  go_wp2_with fail
  refine (alive_any _).mono ?_
  rintro e w1 ⟨rfl, hb1⟩
  have X1 : Hid (w1.heap[w.heap.size]? = some (.cells #[.slice a s.secs.length c, .slice a' s.cache.length c'] 25 (0, 0))) := (hb1.block _ (by simp; omega)).trans ((Below.heap_alloc _ _ _ (by simp)).trans (heap_alloc_new _ _))
  have V1 : Hid (w1.heap[w.heap.size + 1]? = some (.cells #[.bool fl, .int .i64 sec, .slice xa d.length xc] 28 (0, 0))) := (hb1.block _ (by simp)).trans (heap_new2 _ _ _)
  have B1 : Hid (Below w.heap.size w w1) := nxt (nxt (below_one _ _) (below_one _ _)) hb1
  clear hb1
  go_wp2_with fail
  have p0 : w1.cell? ⟨w.heap.size, 0, none⟩ = some (.slice a s.secs.length c) := (cell_of X1.out 0).1
  have p1 : w1.cell? ⟨w.heap.size, 1, none⟩ = some (.slice a' s.cache.length c') := (cell_of X1.out 1).1
  have v0 : w1.cell? ⟨w.heap.size + 1, 0, none⟩ = some (.bool fl) := (cell_of V1.out 0).1
  have v1 : w1.cell? ⟨w.heap.size + 1, 1, none⟩ = some (.int .i64 sec) := (cell_of V1.out 1).1
  have v2 : w1.cell? ⟨w.heap.size + 1, 2, none⟩ = some (.slice xa d.length xc) := (cell_of V1.out 2).1
  have p0d : w1.drew.cell? ⟨w.heap.size, 0, none⟩ = _ := p0
  have p0a : ∀ o, (w1.alloc o).drew.cell? ⟨w.heap.size, 0, none⟩ = _ := fun o => keepc (below_one w1 o) _ _ p0
  have p1d : w1.drew.cell? ⟨w.heap.size, 1, none⟩ = _ := p1
  have p1a : ∀ o, (w1.alloc o).drew.cell? ⟨w.heap.size, 1, none⟩ = _ := fun o => keepc (below_one w1 o) _ _ p1
  have v0d : w1.drew.cell? ⟨w.heap.size + 1, 0, none⟩ = _ := v0
  have v0a : ∀ o, (w1.alloc o).drew.cell? ⟨w.heap.size + 1, 0, none⟩ = _ := fun o => keepc (below_one w1 o) _ _ v0
  have v1d : w1.drew.cell? ⟨w.heap.size + 1, 1, none⟩ = _ := v1
  have v1a : ∀ o, (w1.alloc o).drew.cell? ⟨w.heap.size + 1, 1, none⟩ = _ := fun o => keepc (below_one w1 o) _ _ v1
  have v2d : w1.drew.cell? ⟨w.heap.size + 1, 2, none⟩ = _ := v2
  have v2a : ∀ o, (w1.alloc o).drew.cell? ⟨w.heap.size + 1, 2, none⟩ = _ := fun o => keepc (below_one w1 o) _ _ v2
  have HBD : Hid (Below w.heap.size w w1.drew) := B1.out.drew
  have HBA : Hid (Below w.heap.size w (w1.alloc (.cells #[.slice none 0 0, .slice none 0 0] 30)).drew) := (nxt B1.out (below_one _ _)).drew
  have hZ : (w1.alloc (.cells #[.slice none 0 0, .slice none 0 0] 30)).drew.heap[w1.heap.size]? = some (.cells #[.slice none 0 0, .slice none 0 0] 30 (0, 0)) := heap_alloc_new _ _
  go_cut [5, 6] (fun v5 v6 wc => v6 = .int .i64 ec ∧ ∃ Bt ta tc ua uc, v5 = .pointer (some ⟨Bt, 0, none⟩) ∧ Hid (wc.heap[Bt]? = some (.cells #[.slice ta T.secs.length tc, .slice ua T.cache.length uc] 30 (0, 0))) ∧ Hid (StIs wc (.agg #[.slice ta T.secs.length tc, .slice ua T.cache.length uc]) T) ∧ Hid (Below w1.heap.size w1 wc))
  case first =>
    go_region_law (first
      | (refine step_call1 rfl 9 (by intros; go_simp) _ _ rfl (.agg #[.slice a s.secs.length c, .slice a' s.cache.length c']) (by first | rfl | (simp [Act.eval]; done)) _ (of_st s _ _ (by first | exact HSA.out.below HBD.out | exact HSA.out.below HBA.out)) ?_; intro y7 w7 hR; obtain ⟨hs7, hb7⟩ := hR
         have BW7 : Below w1.heap.size w1 w7 := by first | exact (Below.refl _ w1).drew.trans hb7 | exact ((below_one w1 _).drew).trans (hb7.mono (by simp))
         have u0 := keepc BW7 _ _ v0
         have u1 := keepc BW7 _ _ v1
         have u2 := keepc BW7 _ _ v2
         have u0a : ∀ o, (w7.alloc o).cell? ⟨w.heap.size + 1, 0, none⟩ = _ := fun o => keepc (below_one w7 o) _ _ u0
         have u1a : ∀ o, (w7.alloc o).cell? ⟨w.heap.size + 1, 1, none⟩ = _ := fun o => keepc (below_one w7 o) _ _ u1
         have u2a : ∀ o, (w7.alloc o).cell? ⟨w.heap.size + 1, 2, none⟩ = _ := fun o => keepc (below_one w7 o) _ _ u2)
      | (refine step_call2 rfl 11 (by intros; go_simp) _ _ _ rfl y7 (.agg #[.bool fl, .int .i64 sec, .slice xa d.length xc]) (by first | (simp [Act.eval]; done) | simp [Act.eval, Act.put]) (by first | (simp [Act.eval]; done) | simp [Act.eval, Act.put]) _ (HDO.out _ y7 (by first | exact hs7 | exact hs7.below (below_one _ _)) (by first | exact nxt B1.out BW7 | exact nxt (nxt B1.out BW7) (below_one _ _))) ?_; intro y8 w8 hR; obtain ⟨r, rfl, h5, h6⟩ := hR
         have BW8 : Below w7.heap.size w7 w8 := by first | exact h6 | exact nxt (below_one _ _) h6
         obtain ⟨sa2, sc2, ta2, tc2, rfl⟩ := h5.shape
         first
           | (have hz8 : w8.heap[w1.heap.size]? = some (.cells #[.slice none 0 0, .slice none 0 0] 30 (0, 0)) := (BW8.block _ (lt_of_block ((hb7.block _ (lt_of_block hZ)).trans hZ))).trans ((hb7.block _ (lt_of_block hZ)).trans hZ)
              have g0 := (cell_of hz8 0).1
              have g1 := (cell_of hz8 1).1
              have f0 := (cell_of hz8 0).2
              have f1 := (cell_of hz8 1).2
              simp at g0 g1)
           | (have hz8 : w8.heap[w7.heap.size]? = some (.cells #[.slice none 0 0, .slice none 0 0] 30 (0, 0)) := (h6.block _ (by simp)).trans (heap_alloc_new _ _)
              have g0 := (cell_of hz8 0).1
              have g1 := (cell_of hz8 1).1
              have f0 := (cell_of hz8 0).2
              have f1 := (cell_of hz8 1).2
              simp at g0 g1)
           | skip))
    all_goals
      go_wp2_with fail
      go_meet
      first
        | exact ⟨rfl, w8.heap.size, sa2, sc2, ta2, tc2, rfl, heap_alloc_new _ _, (h5.below (below_one _ _)).is, nxt (nxt BW7 BW8) (below_one _ _)⟩
        | exact ⟨rfl, w7.heap.size, sa2, sc2, ta2, tc2, rfl, boxed hz8, (box_set h5 hz8).is, ((nxt BW7 BW8).setCell BW7.size _).setCell BW7.size _⟩
        | exact ⟨rfl, w1.heap.size, sa2, sc2, ta2, tc2, rfl, boxed hz8, (box_set h5 hz8).is, ((nxt BW7 BW8).setCell (Nat.le_refl _) _).setCell (Nat.le_refl _) _⟩
  case rest =>
    obtain ⟨rfl, Bt, ta, tc, ua, uc, rfl, TB, TS, WB1⟩ := hcut
    have X2 : Hid (wc.heap[w.heap.size]? = some (.cells #[.slice a s.secs.length c, .slice a' s.cache.length c'] 25 (0, 0))) := (WB1.out.block _ (lt_of_block X1.out)).trans X1.out
    have V2 : Hid (wc.heap[w.heap.size + 1]? = some (.cells #[.bool fl, .int .i64 sec, .slice xa d.length xc] 28 (0, 0))) := (WB1.out.block _ (lt_of_block V1.out)).trans V1.out
    have B2 : Hid (Below w.heap.size w wc) := nxt B1.out WB1.out
    clear p0 p1 v0 v1 v2 p0d p1d v0d v1d v2d p0a p1a v0a v1a v2a X1 V1 B1 WB1 HBD HBA hZ HDO
    have u0 := (cell_of V2.out 0).1
    have u1 := (cell_of V2.out 1).1
    have u2 := (cell_of V2.out 2).1
    have t0 := (cell_of TB.out 0).1
    have t1 := (cell_of TB.out 1).1
    simp at u0 u1 u2 t0 t1
    by_cases hec : ec = 0
    · subst hec
      cases fl with
      | true =>
        go_wp2_with (first
          | (go_at_call 18; refine (num_any _ _).mono ?_; rintro e w10 ⟨rfl, h9⟩; subst w10))
        go_ret
        exact ⟨rfl, B2.out⟩
      | false =>
        obtain ⟨A, k, P, Q, rfl, hk, hak, h4096, r1, r2, r3, r4, r5⟩ := HDW.out rfl rfl
        have e1 : ((A + k : Nat) : Int) = (A : Int) + k := by omega
        have e2 : ((s.secs.length - A - k : Nat) : Int) = (s.secs.length : Int) - A - k := by omega
        rw [e1, e2] at r4 r5
        have R1 : Hid (Dk.readR T A k = (0, d)) := r1
        have R2 : Hid (Dk.readR s 0 A = (0, P)) := r2
        have R3 : Hid (Dk.readR T 0 A = (0, P)) := r3
        have R4 : Hid (Dk.readR s ((A : Int) + k) ((s.secs.length : Int) - A - k) = (0, Q)) := r4
        have R5 : Hid (Dk.readR T ((A : Int) + k) ((s.secs.length : Int) - A - k) = (0, Q)) := r5
        have hq : (d.length : Int) / 48 = (k : Int) := by omega
        have i1 : (A : Int) + k ≤ (s.secs.length : Int) := by omega
        have i2 : (s.secs.length : Int) ≤ 4096 := by omega
        have i3 : (0 : Int) ≤ (A : Int) := by omega
        have i4 : (0 : Int) ≤ (k : Int) := by omega
        have n1 : IntKind.i64.wrap ((A : Int) + k) = (A : Int) + k := by rw [IntKind.wrap_i64]; omega
        have n2 : IntKind.i64.wrap ((s.secs.length : Int) - A) = (s.secs.length : Int) - A := by rw [IntKind.wrap_i64]; omega
        have n3 : IntKind.i64.wrap ((s.secs.length : Int) - A - k) = (s.secs.length : Int) - A - k := by rw [IntKind.wrap_i64]; omega
        clear r1 r2 r3 r4 r5 e1 e2 HDW HDE hk
        go_wp2_with (first
          | (go_at_call 18; refine (num_any _ _).mono ?_; rintro e w10 ⟨rfl, h9⟩; subst w10)
          | (go_at_call 15; refine (read_st T A k _ wc TS.out (by omega) (by omega)).mono ?_; rintro e w3 ⟨r3a, r3c, rfl, k2, k3⟩; rw [R1.out] at k2 ⊢; have O3 : Hid (Oct w3 r3a r3c d) := k2; have B23 : Hid (Below wc.heap.size wc w3) := k3; clear k2 k3))
        have X3 : Hid (w3.heap[w.heap.size]? = some (.cells #[.slice a s.secs.length c, .slice a' s.cache.length c'] 25 (0, 0))) := (B23.out.block _ (lt_of_block X2.out)).trans X2.out
        have V3 : Hid (w3.heap[w.heap.size + 1]? = some (.cells #[.bool false, .int .i64 (A : Nat), .slice xa d.length xc] 28 (0, 0))) := (B23.out.block _ (lt_of_block V2.out)).trans V2.out
        have T3 : Hid (w3.heap[Bt]? = some (.cells #[.slice ta T.secs.length tc, .slice ua T.cache.length uc] 30 (0, 0))) := (B23.out.block _ (lt_of_block TB.out)).trans TB.out
        have S3 : Hid (StIs w3 (.agg #[.slice ta T.secs.length tc, .slice ua T.cache.length uc]) T) := TS.out.below B23.out
        have B3 : Hid (Below w.heap.size w w3) := nxt B2.out B23.out
        clear u0 u1 u2 t0 t1 X2 V2 TB TS B2 B23 hq
        have p0 : w3.drew.cell? ⟨w.heap.size, 0, none⟩ = some (.slice a s.secs.length c) := (cell_of X3.out 0).1
        have p1 : w3.drew.cell? ⟨w.heap.size, 1, none⟩ = some (.slice a' s.cache.length c') := (cell_of X3.out 1).1
        have q1 : w3.drew.cell? ⟨w.heap.size + 1, 1, none⟩ = some (.int .i64 (A : Nat)) := (cell_of V3.out 1).1
        have HBD : Hid (Below w.heap.size w w3.drew) := B3.out.drew
        go_cut [10, 11] (fun v1 v2 wc => v2 = .int .i64 0 ∧ ∃ ra rc, v1 = .slice ra P.length rc ∧ Hid (Oct wc ra rc P) ∧ Hid (Below w3.heap.size w3 wc))
        case first =>
          go_region_held3 (fun w' => w'.cell? ⟨w.heap.size, 0, none⟩ = some (.slice a s.secs.length c) ∧ w'.cell? ⟨w.heap.size, 1, none⟩ = some (.slice a' s.cache.length c') ∧ w'.cell? ⟨w.heap.size + 1, 1, none⟩ = some (.int .i64 (A : Nat))) (go_keep)
            (first
              | (go_at_call 9; refine (of_st s _ _ (HSA.out.below HBD.out)).mono ?_; rintro e w7 ⟨y7, rfl, hs7, hb7⟩; obtain ⟨sa7, sc7, ta7, tc7, rfl⟩ := hs7.shape; have hk7 := keepc hb7)
              | (go_at_call 15; refine (read_st s 0 (A : Nat) _ w7 hs7 (by omega) (by omega)).mono ?_; rintro e w8 ⟨ra, rc, rfl, k2, k3⟩; rw [R2.out] at k2 ⊢; have hk8 := keepc k3))
          all_goals
            go_wp2_with fail
            go_meet
            exact ⟨rfl, ra, rc, rfl, k2, (Below.refl _ w3).drew.trans (nxt hb7 k3)⟩
        case rest =>
          obtain ⟨rfl, pa, pc, rfl, O4, B34⟩ := hcut
          have X4 : Hid (wc.heap[w.heap.size]? = some (.cells #[.slice a s.secs.length c, .slice a' s.cache.length c'] 25 (0, 0))) := (B34.out.block _ (lt_of_block X3.out)).trans X3.out
          have V4 : Hid (wc.heap[w.heap.size + 1]? = some (.cells #[.bool false, .int .i64 (A : Nat), .slice xa d.length xc] 28 (0, 0))) := (B34.out.block _ (lt_of_block V3.out)).trans V3.out
          have T4 : Hid (wc.heap[Bt]? = some (.cells #[.slice ta T.secs.length tc, .slice ua T.cache.length uc] 30 (0, 0))) := (B34.out.block _ (lt_of_block T3.out)).trans T3.out
          have S4 : Hid (StIs wc (.agg #[.slice ta T.secs.length tc, .slice ua T.cache.length uc]) T) := S3.out.below B34.out
          have B4 : Hid (Below w.heap.size w wc) := nxt B3.out B34.out
          have O3' : Hid (Oct wc r3a r3c d) := O3.out.below B34.out
          clear p0 p1 q1 X3 V3 T3 S3 B3 B34 O3
          have u1 := (cell_of V4.out 1).1
          have t0 := (cell_of T4.out 0).1
          have t1 := (cell_of T4.out 1).1
          simp at u1 t0 t1
          go_wp2_with fail
          refine (read_st T 0 A _ wc S4.out (by omega) (by omega)).mono ?_
          rintro e w5 ⟨ga, gc, rfl, k2, k3⟩
          rw [R3.out] at k2 ⊢
          have O5 : Hid (Oct w5 ga gc P) := k2
          have O5p : Hid (Oct w5 pa pc P) := O4.out.below k3
          have O5d : Hid (Oct w5 r3a r3c d) := O3'.out.below k3
          have X5 : Hid (w5.heap[w.heap.size]? = some (.cells #[.slice a s.secs.length c, .slice a' s.cache.length c'] 25 (0, 0))) := (k3.block _ (lt_of_block X4.out)).trans X4.out
          have V5 : Hid (w5.heap[w.heap.size + 1]? = some (.cells #[.bool false, .int .i64 (A : Nat), .slice xa d.length xc] 28 (0, 0))) := (k3.block _ (lt_of_block V4.out)).trans V4.out
          have T5 : Hid (w5.heap[Bt]? = some (.cells #[.slice ta T.secs.length tc, .slice ua T.cache.length uc] 30 (0, 0))) := (k3.block _ (lt_of_block T4.out)).trans T4.out
          have S5 : Hid (StIs w5 (.agg #[.slice ta T.secs.length tc, .slice ua T.cache.length uc]) T) := S4.out.below k3
          have B5 : Hid (Below w.heap.size w w5) := nxt B4.out k3
          clear u1 t0 t1 k2 k3 X4 V4 T4 S4 B4 O3' O4
          go_wp2_with fail
          have p0 : w5.drew.cell? ⟨w.heap.size, 0, none⟩ = some (.slice a s.secs.length c) := (cell_of X5.out 0).1
          have p1 : w5.drew.cell? ⟨w.heap.size, 1, none⟩ = some (.slice a' s.cache.length c') := (cell_of X5.out 1).1
          have q1 : w5.drew.cell? ⟨w.heap.size + 1, 1, none⟩ = some (.int .i64 (A : Nat)) := (cell_of V5.out 1).1
          have HBD : Hid (Below w.heap.size w w5.drew) := B5.out.drew
          go_cut [14, 15] (fun v1 v2 wc => v2 = .int .i64 0 ∧ ∃ ra rc, v1 = .slice ra Q.length rc ∧ Hid (Oct wc ra rc Q) ∧ Hid (Below w5.heap.size w5 wc))
          case first =>
            go_region_held3 (fun w' => w'.cell? ⟨w.heap.size, 0, none⟩ = some (.slice a s.secs.length c) ∧ w'.cell? ⟨w.heap.size, 1, none⟩ = some (.slice a' s.cache.length c') ∧ w'.cell? ⟨w.heap.size + 1, 1, none⟩ = some (.int .i64 (A : Nat))) (go_keep)
              (first
                | (go_at_call 9; refine (of_st s _ _ (HSA.out.below HBD.out)).mono ?_; rintro e w7 ⟨y7, rfl, hs7, hb7⟩; obtain ⟨sa7, sc7, ta7, tc7, rfl⟩ := hs7.shape; have hk7 := keepc hb7)
                | (go_at_call 15; refine (read_st s ((A : Int) + k) ((s.secs.length : Int) - A - k) _ w7 hs7 (by omega) (by omega)).mono ?_; rintro e w8 ⟨ra, rc, rfl, k2, k3⟩; rw [R4.out] at k2 ⊢; have hk8 := keepc k3))
            all_goals
              go_wp2_with fail
              go_meet
              exact ⟨rfl, ra, rc, rfl, k2, (Below.refl _ w5).drew.trans (nxt hb7 k3)⟩
          case rest =>
            rename_i wo
            obtain ⟨rfl, qa, qc, rfl, O6, B56⟩ := hcut
            have X6 := (B56.out.block _ (lt_of_block X5.out)).trans X5.out
            have V6 : Hid (wc.heap[w.heap.size + 1]? = some (.cells #[.bool false, .int .i64 (A : Nat), .slice xa d.length xc] 28 (0, 0))) := (B56.out.block _ (lt_of_block V5.out)).trans V5.out
            have T6 := (B56.out.block _ (lt_of_block T5.out)).trans T5.out
            have S6 : Hid (StIs wc (.agg #[.slice ta T.secs.length tc, .slice ua T.cache.length uc]) T) := S5.out.below B56.out
            have B6 : Hid (Below w.heap.size w wc) := nxt B5.out B56.out
            have O6g : Hid (Oct wc ga gc P) := O5.out.below B56.out
            have O6p : Hid (Oct wc pa pc P) := O5p.out.below B56.out
            have O6d : Hid (Oct wc r3a r3c d) := O5d.out.below B56.out
            clear p0 p1 q1 X5 V5 T5 S5 B5 O5 O5p O5d B56
            have x0 := (cell_of X6 0).1
            have u1 := (cell_of V6.out 1).1
            have t0 := (cell_of T6 0).1
            have t1 := (cell_of T6 1).1
            simp at x0 u1 t0 t1
            clear X6 T6
            go_wp2_with fail
            refine (read_st T ((A : Int) + k) ((s.secs.length : Int) - A - k) _ wc S6.out (by omega) (by omega)).mono ?_
            rintro e w7 ⟨ha, hcc, rfl, k2, k3⟩
            rw [R5.out] at k2 ⊢
            have O7q : Hid (Oct w7 ha hcc Q) := k2
            have O7p : Hid (Oct w7 qa qc Q) := O6.out.below k3
            have O8g : Hid (Oct w7 ga gc P) := O6g.out.below k3
            have O8p : Hid (Oct w7 pa pc P) := O6p.out.below k3
            have O8d : Hid (Oct w7 r3a r3c d) := O6d.out.below k3
            have B7 : Hid (Below w.heap.size w w7) := nxt B6.out k3
            have O8w : Hid (Oct w7 xa xc d) := HO.out.below B7.out
            have V7 := (k3.block _ (lt_of_block V6.out)).trans V6.out
            have u2 := (cell_of V7 2).1
            simp at u2
            clear x0 u1 t0 t1 k2 k3 V6 V7
            go_wp2_with (first
              | (go_at_call 18; refine (num_any _ _).mono ?_; rintro e w10 ⟨rfl, h9⟩; subst w10)
              | (go_at_call_of 19 (Value.slice r3a d.length r3c); refine (sameB_any d d r3a xa r3c xc _ O8d.out.1 O8w.out.1).mono ?_; rintro e w10 ⟨rfl, h9⟩; subst w10)
              | (go_at_call_of 19 (Value.slice pa P.length pc); refine (sameB_any P P pa ga pc gc _ O8p.out.1 O8g.out.1).mono ?_; rintro e w10 ⟨rfl, h9⟩; subst w10)
              | (go_at_call_of 19 (Value.slice qa Q.length qc); refine (sameB_any Q Q qa ha qc hcc _ O7p.out.1 O7q.out.1).mono ?_; rintro e w10 ⟨rfl, h9⟩; subst w10))
            go_ret
            exact ⟨by simp, B7.out⟩
    · obtain rfl := HDE.out hec
      have hb1 : (ec != 0) = true := by simp [hec]
      have hb2 : (ec == 0) = false := by simp [hec]
      simp only [List.length_nil] at t0 t1
      clear hec HDW HDE
      go_wp2_with (first
        | (go_at_call 18; refine (num_any _ _).mono ?_; rintro e w10 ⟨rfl, h9⟩; subst w10))
      go_ret
      exact ⟨rfl, B2.out⟩

set_option maxRecDepth 100000 in
set_option maxHeartbeats 1600000 in
theorem lifted (os : Os) (started : os.Started) (H : Type) (enc : TypeId × Value → H) :
    ReturnsInHanded {} Try.checked os 5 .any (Rows.diskReadsSpec.pre6 enc Try.prog Try.f5 Rows.diskReadsRow.domain false) (Rows.diskReadsSpec.post enc Try.prog Try.f5 false true false false) := by
  refine returnsInHanded_of_change_sized (C := Try.checked) Try.own started (by kernel_rfl) Try.func5
    (ChangeSpec.witness6 (enc := enc) (C := Try.checked) false ⟨#[], #[.agg #[.slice none 0 0, .slice none 0 0], .agg #[.bool false, .int .i64 0, .slice none 0 0]], []⟩ 8 (by kernel_rfl) (by kernel_rfl) (by kernel_rfl) (by kernel_rfl)) ?_
  intro W base args ds gs before hval0 hW _ hsz0 _
  have hsz : (DataW.weightsEach Try.prog (Try.f5.params.toList ++ Rows.diskReadsSpec.plain.varTypes Try.prog) (ds ++ gs)).all (· ≤ reachBytes) = true := hsz0
  have hval : ∀ (j : Nat) t v, Try.f5.params[j]? = some t → args[j]? = some v → Value.okWide Try.prog W .any base t v := hval0
  have hW' := hW
  obtain ⟨p, q, hA0, hV, rfl, hfz, hnd⟩ := hW
  have hA : DataW.TrodAll enc Try.prog W 0 (fun _ => true) true Try.f5.params.toList args.toList ds p := hA0
  rw [Try.params5] at hA hval hsz
  obtain ⟨v0, vs0, d0, ds0, p0, q0, hargs, rfl, rfl, h0, r0⟩ := trodAll_cons hA
  obtain ⟨v1, vs1, d1, ds1, p1, q1, rfl, rfl, rfl, h1, r1⟩ := trodAll_cons r0
  obtain ⟨rfl, rfl, rfl⟩ := trodAll_nil r1
  obtain rfl : args = #[v0, v1] := by cases args; simp_all
  obtain ⟨rfl, rfl⟩ := trodVars_none hV
  clear hA0 hval0
  simp only [List.append_nil] at hW' hsz
  have hlt : ∀ x ∈ p0 ++ p1, x.block < W.heap.size := fun x hx => hW'.lt x (by simpa using hx)
  have hall : ∀ x ∈ DataW.weightsEach Try.prog [25, 28] [d0, d1], x ≤ reachBytes := fun x hx => of_decide_eq_true (List.all_eq_true.1 hsz x hx)
  have g0 : ∀ x ∈ d0.weights Try.prog 25, x ≤ reachBytes := fun x hx => hall x (DataW.weights_mem_each (j := 0) rfl rfl x hx)
  obtain ⟨u0, l0⟩ := st_of_arg (hval 0 _ v0 rfl rfl) h0 g0
  have g1 : ∀ x ∈ d1.weights Try.prog 28, x ≤ reachBytes := fun x hx => hall x (DataW.weights_mem_each (j := 1) rfl rfl x hx)
  obtain ⟨u1, l1⟩ := wr_of_arg (hval 1 _ v1 rfl rfl) h1 g1
  refine (walk u0 v0 u1 v1 W l0 l1).mono fun e W' ⟨he, bel⟩ => ?_
  subst he
  exact ⟨_, rfl, _, _, _, [], _, [], hW', trodAll_mk1 (shut_bool Try.underlying4 _), (trodAll_cons_mk (Below.trod Try.laidOut (by kernel_rfl) (of_decide_eq_true (by kernel_rfl)) h0 bel (fun x hx => hlt x (by simp [hx]))) (trodAll_cons_mk (Below.trod Try.laidOut (by kernel_rfl) (of_decide_eq_true (by kernel_rfl)) h1 bel (fun x hx => hlt x (by simp [hx]))) trodAll_mk0)), rfl, bel.frame _, fun h => by cases h⟩

theorem over : Rows.diskReadsRow.holds Try.pinned (OpenSpec.ofChange Rows.diskReadsSpec) :=
  OpenClaim.holds_of_wide 5 Try.f5 rfl rfl rfl rfl rfl rfl rfl ⟨rfl, rfl, rfl, rfl, rfl⟩ rfl rfl rfl rfl rfl (by kernel_rfl) Try.func5 (by kernel_rfl)
    (of_decide_eq_true (by kernel_rfl)) (by unfold Func.isWrapper; first | (rw [if_pos (by decide +kernel)]; kernel_rfl) | (rw [if_neg (by decide +kernel)]; exact ⟨rfl, rfl⟩))
    (fun os started H enc _ => lifted os started H enc)

/-- THE STATEMENT. -/
theorem proved : Rows.DiskReadsSaid := over
#print axioms proved
end Go.Proofs.Ytokebdeaahdcjab.diskReads
