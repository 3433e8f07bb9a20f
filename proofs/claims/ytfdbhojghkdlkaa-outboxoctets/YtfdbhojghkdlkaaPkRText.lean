/-
  The page's reader: a text.
-/
import Derived.Test.YtfdbhojghkdlkaaPkRNum
namespace Go.Proofs.Ytfdbhojghkdlkaa
open Go.ChangeShapes Go.WideShapes Go.ChangeAt Go.RowKit
open Fl

/-- Octets stay where a value's variable is written. -/
theorem LayB.apart {w : World} {a : Option Addr} {l : List UInt8} {g : Nat} (h : LayB w a l) (hb : w.heap[g]? = some (.cells #[.int .i64 0, .int .u64 0, .string ⟨#[]⟩, .slice none 0 0, .slice none 0 0] 50 (0, 0))) (v : Value) : LayB (w.setCell ⟨g, 0, none⟩ v) a l := by
  intro i o hi
  obtain ⟨b, off, e, hc⟩ := h i o hi
  refine ⟨b, off, e, ?_⟩
  by_cases hbg : b = g
  · subst hbg
    exfalso
    simp only [World.cell?, hb] at hc
    generalize off + i = k at hc
    match k, hc with
    | 0, hc => simp at hc
    | 1, hc => simp at hc
    | 2, hc => simp at hc
    | 3, hc => simp at hc
    | 4, hc => simp at hc
    | k + 5, hc => simp at hc
  · have := Below.heap_setCell w ⟨g, 0, none⟩ v b hbg
    simp only [World.cell?, this] at hc ⊢
    exact hc

theorem rdText_long {o : UInt8} {r : List UInt8} (h : 128 < o.toNat) : rdText 0 128 (o :: r) = .error 5 := by
  simp only [rdText]; rw [if_pos (Or.inr h)]
theorem rdText_cut {o : UInt8} {r : List UInt8} (h : ¬ 128 < o.toNat) (h1 : r.length < o.toNat) : rdText 0 128 (o :: r) = .error 8 := by
  simp only [rdText, nxtN]; rw [if_neg (by omega), if_pos h1]
theorem rdText_all {o : UInt8} {r : List UInt8} (h : ¬ 128 < o.toNat) (h1 : o.toNat ≤ r.length) : rdText 0 128 (o :: r) = .ok (⟨(r.take o.toNat).toArray⟩, r.drop o.toNat) := by
  simp only [rdText, nxtN]; rw [if_neg (by omega), if_neg (by omega)]

set_option maxRecDepth 100000 in
set_option maxHeartbeats 3200000 in
theorem rvalue_text0 (p : Nat) (a : Option Addr) (c : Nat) (bs l : List UInt8) (q : Nat) (d : Int) (w : World) (h : RAt w p a c bs (l, q)) (ho : Oct w a c bs) (hb : q + l.length ≤ 281474976710656) (n : Nat) (hd : d ≤ 8) (o : UInt8) (r : List UInt8) (hl : l = o :: r) (ho0 : o.toNat = 4) (hr0 : r = []) :
    Calls Try.prog 40 #[.pointer (some ⟨p, 0, none⟩), .int .i64 d] w (VPost (n + 1) (rd (n + 1) (l, q)) p a c bs w) := by
  have HRR : Hid (rd (n + 1) (l, q) = .error 8) := by
    show _ = _
    rw [hl, hr0]
    simp only [rd]
    rw [if_neg (by omega), if_neg (by omega), if_neg (by omega), if_pos ho0]
    rfl
  have hd8 : decide ((8 : Int) < d) = false := by simp; omega
  have ho0' : (o.toNat : Int) = 4 := by omega
  have HLN : Hid (l = o :: r) := hl
  have HR0 : Hid (r = []) := hr0
  clear hl hd ho0 hr0
  have hp : p < w.heap.size := by obtain ⟨i, _, _, h3⟩ := h; exact lt_of_block h3
  have RA1 : Hid (RAt (w.alloc (.cells #[.int .i64 0, .int .u64 0, .string ⟨#[]⟩, .slice none 0 0, .slice none 0 0] 50)) p a c bs (l, q)) := h.same (Below.heap_alloc _ _ _ hp)
  have HO1 : Hid (Oct (w.alloc (.cells #[.int .i64 0, .int .u64 0, .string ⟨#[]⟩, .slice none 0 0, .slice none 0 0] 50)) a c bs) := ho.below (below_one _ _)
  have XR0 : Hid ((w.alloc (.cells #[.int .i64 0, .int .u64 0, .string ⟨#[]⟩, .slice none 0 0, .slice none 0 0] 50)).heap[w.heap.size]? = some (.cells #[.int .i64 0, .int .u64 0, .string ⟨#[]⟩, .slice none 0 0, .slice none 0 0] 50 (0, 0))) := heap_alloc_new _ _
  have B1 : Hid (w.grownBy (w.alloc (.cells #[.int .i64 0, .int .u64 0, .string ⟨#[]⟩, .slice none 0 0, .slice none 0 0] 50)) (some p)) := grown_of_below (below_one _ _)
  have HPW : Hid (p < w.heap.size) := hp
  have HQ : Hid (q + l.length ≤ 281474976710656) := hb
  clear h ho hp hb
  go_enter Try.func40, Try.ntmps40
  go_upto_region 1 with fail
  generalize w.alloc (.cells #[.int .i64 0, .int .u64 0, .string ⟨#[]⟩, .slice none 0 0, .slice none 0 0] 50) = W0 at *
  go_wp2_with fail
  obtain ⟨i5, hi5, hri5, hblk5⟩ := RA1.out
  clear hi5 hri5
  refine (rfail_no p _ W0 hblk5).mono ?_
  clear hblk5
  rintro e w2 ⟨rfl, hw2⟩
  subst w2
  go_wp2_with fail
  refine (roctet_any p a c bs l q W0 RA1.out HO1.out).mono ?_
  rintro e w2 ⟨hg2, ⟨hl, rfl, hE1⟩ | ⟨o', r', hl, rfl, hA⟩⟩
  · rw [HLN.out] at hl; cases hl
  have hl2 := HLN.out.symm.trans hl
  cases hl2
  have RA2 : Hid (RAt w2 p a c bs (r, q)) := hA
  have G2 : Hid (w.grownBy w2 (some p)) := grown_trans B1.out hg2
  have XR2 : Hid (w2.heap[w.heap.size]? = some (.cells #[.int .i64 0, .int .u64 0, .string ⟨#[]⟩, .slice none 0 0, .slice none 0 0] 50 (0, 0))) := (hg2.block _ (lt_of_block XR0.out) (by have := HPW.out; simp; omega)).trans XR0.out
  have HO2 : Hid (Oct w2 a c bs) := HO1.out.grown4 RA1.out hg2
  clear hg2 hA RA1 XR0 B1 HO1 hl
  go_wp2_with fail
  obtain ⟨i5, hi5, hri5, hblk5⟩ := RA2.out
  refine (rfail_no p _ w2 hblk5).mono ?_
  rintro e w3 ⟨rfl, hw3⟩
  subst w3
  obtain ⟨y0, y1, y2, y3, f0, f1, f2, f3⟩ := rd4_cells hblk5
  have hq0 : q ≤ 281474976710656 := by have := HQ.out; omega
  have RA3 : Hid (RAt (w2.setCell ⟨p, 2, none⟩ (.int .i64 ((q : Int) + 1))) p a c bs (r, q + 1)) := ⟨i5, hi5, hri5, set4_two hblk5 _⟩
  clear hi5 hri5 hblk5
  go_upto_region 6 with fail
  have hpw := HPW.out
  have hww := lt_of_block XR2.out
  have hsz : (w2.setCell ⟨p, 2, none⟩ (.int .i64 ((q : Int) + 1))).heap.size = w2.heap.size := by simp [World.setCell]
  have bA := below_one (w2.setCell ⟨p, 2, none⟩ (.int .i64 ((q : Int) + 1))) (.cells #[.int .i64 0, .int .u64 0, .string ⟨#[]⟩, .slice none 0 0, .slice none 0 0] 50)
  have RA4 : Hid (RAt ((w2.setCell ⟨p, 2, none⟩ (.int .i64 ((q : Int) + 1))).alloc (.cells #[.int .i64 0, .int .u64 0, .string ⟨#[]⟩, .slice none 0 0, .slice none 0 0] 50)) p a c bs (r, q + 1)) := RA3.out.same (bA.block p (by rw [hsz]; omega))
  have XR4 : Hid (((w2.setCell ⟨p, 2, none⟩ (.int .i64 ((q : Int) + 1))).alloc (.cells #[.int .i64 0, .int .u64 0, .string ⟨#[]⟩, .slice none 0 0, .slice none 0 0] 50)).heap[w.heap.size]? = some (.cells #[.int .i64 0, .int .u64 0, .string ⟨#[]⟩, .slice none 0 0, .slice none 0 0] 50 (0, 0))) := (bA.block _ (by rw [hsz]; exact hww)).trans ((Below.heap_setCell _ _ _ _ (by simp only; omega)).trans XR2.out)
  have YV4 : Hid (((w2.setCell ⟨p, 2, none⟩ (.int .i64 ((q : Int) + 1))).alloc (.cells #[.int .i64 0, .int .u64 0, .string ⟨#[]⟩, .slice none 0 0, .slice none 0 0] 50)).heap[w2.heap.size]? = some (.cells #[.int .i64 0, .int .u64 0, .string ⟨#[]⟩, .slice none 0 0, .slice none 0 0] 50 (0, 0))) := by
    have := heap_alloc_new (w2.setCell ⟨p, 2, none⟩ (.int .i64 ((q : Int) + 1))) (.cells #[.int .i64 0, .int .u64 0, .string ⟨#[]⟩, .slice none 0 0, .slice none 0 0] 50)
    rw [hsz] at this
    exact this
  have G4 : Hid (w.grownBy ((w2.setCell ⟨p, 2, none⟩ (.int .i64 ((q : Int) + 1))).alloc (.cells #[.int .i64 0, .int .u64 0, .string ⟨#[]⟩, .slice none 0 0, .slice none 0 0] 50)) (some p)) := grown_below (grown_trans G2.out (grown_set _)) bA
  have HO4 : Hid (Oct ((w2.setCell ⟨p, 2, none⟩ (.int .i64 ((q : Int) + 1))).alloc (.cells #[.int .i64 0, .int .u64 0, .string ⟨#[]⟩, .slice none 0 0, .slice none 0 0] 50)) a c bs) := (HO2.out.grown4 RA2.out (grown_set _)).below bA
  have HQ4 : Hid (q + 1 + r.length ≤ 281474976710656) := by show _ ≤ _; have := HQ.out; rw [HLN.out] at this; simp only [List.length_cons] at this; omega
  have HV2 : Hid (w.heap.size < w2.heap.size) := hww
  clear bA hsz RA3 RA2 XR2 G2 HO2 y0 y1 y2 y3 f0 f1 f2 f3
  generalize ((w2.setCell ⟨p, 2, none⟩ (.int .i64 ((q : Int) + 1))).alloc (.cells #[.int .i64 0, .int .u64 0, .string ⟨#[]⟩, .slice none 0 0, .slice none 0 0] 50)) = W4 at *
  generalize w2.heap.size = V0 at *
  obtain ⟨z0, z1, z2, z3, z4, g0, g1, g2, g3, g4⟩ := box_cells XR4.out
  obtain ⟨v0, v1, v2, v3, v4, h0, h1, h2, h3, h4⟩ := box_cells YV4.out
  obtain ⟨i5, hi5, hri5, hblk5⟩ := RA4.out
  obtain ⟨y0, y1, y2, y3, f0, f1, f2, f3⟩ := rd4_cells hblk5
  clear hi5 hri5 hblk5
  go_wp2_with fail
  refine (roctet_any p a c bs r (q + 1) W4 RA4.out HO4.out).mono ?_
  rintro e W6 ⟨hg5, ⟨h5, rfl, hE⟩ | ⟨o', r', h5, rfl, hA⟩⟩
  rotate_left
  · rw [HR0.out] at h5; cases h5
  · have HE6 : Hid (RErr W6 p 281474976710660 8) := hE.mono (by have := HQ4.out; (try simp only at this ⊢); omega)
    have hV0 := HV2.out
    have YV6 : Hid (W6.heap[V0]? = some (.cells #[.int .i64 0, .int .u64 0, .string ⟨#[]⟩, .slice none 0 0, .slice none 0 0] 50 (0, 0))) := (hg5.block _ (lt_of_block YV4.out) (by simp; omega)).trans YV4.out
    have XR6 : Hid (W6.heap[w.heap.size]? = some (.cells #[.int .i64 0, .int .u64 0, .string ⟨#[]⟩, .slice none 0 0, .slice none 0 0] 50 (0, 0))) := (hg5.block _ (lt_of_block XR4.out) (by simp; omega)).trans XR4.out
    have G6 : Hid (w.grownBy W6 (some p)) := grown_trans G4.out hg5
    clear z0 z1 z2 z3 z4 g0 g1 g2 g3 g4 v0 v1 v2 v3 v4 h0 h1 h2 h3 h4 y0 y1 y2 y3 f0 f1 f2 f3
    clear hg5 hE h5 RA4 XR4 YV4 G4 HO4
    have HLL : Hid (([] : List UInt8).length = 0) := rfl
    have HC : Hid (Calls Try.prog 56 #[.pointer (some ⟨p, 0, none⟩), .int .i64 0] W6.drew fun e w3 => ∃ y, e = .returned y ∧ (W6.grownBy w3 (some p) ∧ ∃ a' c', y = .slice a' 0 c' ∧ LayB w3 a' [] ∧ RErr w3 p 281474976710660 8)) := (rtake_err p _ _ 0 W6.drew (HE6.out.same rfl)).mono fun e w3 hp => by
      obtain ⟨h1, h2⟩ := hp
      subst h2
      exact ⟨_, h1, grown_of_below (Below_drewN _ _ 1), none, 0, rfl, fun i o hi => by simp at hi, HE6.out.same rfl⟩
    go_wp2_with fail
    refine (rfail_err p _ _ _ _ W6 HE6.out).mono ?_
    rintro e w7 ⟨rfl, hw7⟩
    subst w7
    obtain ⟨v0, v1, v2, v3, v4, h0, h1, h2, h3, h4⟩ := box_cells YV6.out
    have HYV : Hid (∀ w', W6.grownBy w' (some p) → w'.heap[V0]? = some (.cells #[.int .i64 0, .int .u64 0, .string ⟨#[]⟩, .slice none 0 0, .slice none 0 0] 50 (0, 0))) := fun w' hg => (hg.block _ (lt_of_block YV6.out) (by simp; omega)).trans YV6.out
    have HS : Hid (∀ w' a' c', LayB w' a' ([]) → Sem.run Try.prog (convert 25 9 (.slice a' 0 c')) w' = .ok (.string ⟨#[]⟩) w') := fun w' a' c' h => by
      have := run_str (c := c') h
      rw [HLL.out] at this
      exact this
    go_wp2_with fail
    go_region_law (refine step_call2 rfl 56 (by intros; go_simp) _ _ _ rfl (.pointer (some ⟨p, 0, none⟩)) (.int .i64 0) (by first | (simp [Act.eval]; done) | simp [Act.eval, Act.put]) (by first | (simp [Act.eval]; done) | simp [Act.eval, Act.put]) _ HC.out ?_; intro y w3 hR; obtain ⟨hg3, a', c', rfl, hL3, hP3⟩ := hR; have hS3 := HS.out w3 a' c' hL3; have hS4 := HS.out _ a' c' (hL3.apart (HYV.out w3 hg3) (.int .i64 3)); obtain ⟨t0, t1, t2, t3, t4, s0, s1, s2, s3, s4⟩ := box_cells (HYV.out w3 hg3))
    all_goals
      have Y7 : ((w3.setCell ⟨V0, 0, none⟩ (.int .i64 3)).setCell ⟨V0, 2, none⟩ (.string ⟨#[]⟩)).heap[V0]? = some (.cells #[.int .i64 3, .int .u64 0, .string ⟨#[]⟩, .slice none 0 0, .slice none 0 0] 50 (0, 0)) := by
        have q0 := set_one_cell (o := 0) (HYV.out w3 hg3) (.int .i64 3)
        have q1 := set_one_cell (o := 2) q0 (.string ⟨#[]⟩)
        rw [q1]
        simp
      have kp7 : ∀ j, j ≠ V0 → ((w3.setCell ⟨V0, 0, none⟩ (.int .i64 3)).setCell ⟨V0, 2, none⟩ (.string ⟨#[]⟩)).heap[j]? = w3.heap[j]? := fun j hk => by rw [Below.heap_setCell _ _ _ _ hk, Below.heap_setCell _ _ _ _ hk]
      have X7 : ((w3.setCell ⟨V0, 0, none⟩ (.int .i64 3)).setCell ⟨V0, 2, none⟩ (.string ⟨#[]⟩)).heap[w.heap.size]? = some (.cells #[.int .i64 0, .int .u64 0, .string ⟨#[]⟩, .slice none 0 0, .slice none 0 0] 50 (0, 0)) := (kp7 _ (by omega)).trans ((hg3.block _ (lt_of_block XR6.out) (by simp; omega)).trans XR6.out)
      have g7 := grown_trans G6.out hg3
      have G7 : Hid (w.grownBy ((w3.setCell ⟨V0, 0, none⟩ (.int .i64 3)).setCell ⟨V0, 2, none⟩ (.string ⟨#[]⟩)) (some p)) := ⟨by simpa [World.setCell] using g7.os, by simpa [World.setCell] using g7.tape, by simpa [World.setCell] using g7.output, by simpa [World.setCell] using g7.size, fun k hk hn => (kp7 k (by omega)).trans (g7.block k hk hn)⟩
      have KP : Hid (RErr ((w3.setCell ⟨V0, 0, none⟩ (.int .i64 3)).setCell ⟨V0, 2, none⟩ (.string ⟨#[]⟩)) p 281474976710660 8) := hP3.same (kp7 _ (by omega))
      clear v0 v1 v2 v3 v4 h0 h1 h2 h3 h4 t0 t1 t2 t3 t4 s0 s1 s2 s3 s4 hg3 hP3 hL3 hS3 hS4 kp7 g7
      generalize ((w3.setCell ⟨V0, 0, none⟩ (.int .i64 3)).setCell ⟨V0, 2, none⟩ (.string ⟨#[]⟩)) = W7 at *
      obtain ⟨v0, v1, v2, v3, v4, h0, h1, h2, h3, h4⟩ := box_cells Y7
      obtain ⟨z0, z1, z2, z3, z4, g0, g1, g2, g3, g4⟩ := box_cells X7
      clear Y7 X7
      go_wp2_with fail
      refine bodyPost_ret (v := mk 3 0 ⟨#[]⟩ none 0 0 none 0 0) (by simp [results, Try.results40, go_sem, z0, z1, z2, z3, z4]) rfl ?_
      obtain ⟨e1, e2, e3, e4, e5⟩ := five_fin W7 w.heap.size (.int .i64 3) (.int .u64 0) (.string ⟨#[]⟩) (.slice none 0 0) (.slice none 0 0)
      generalize (((((W7.setCell ⟨w.heap.size, 0, none⟩ (.int .i64 3)).setCell ⟨w.heap.size, 1, none⟩ (.int .u64 0)).setCell ⟨w.heap.size, 2, none⟩ (.string ⟨#[]⟩)).setCell ⟨w.heap.size, 3, none⟩ (.slice none 0 0)).setCell ⟨w.heap.size, 4, none⟩ (.slice none 0 0)) = W8 at *
      have hg8 : w.grownBy W8 (some p) := ⟨e3.trans G7.out.os, e4.trans G7.out.tape, e5.trans G7.out.output, by have := G7.out.size; omega, fun k hk hn => (e1 k (by omega)).trans (G7.out.block k hk hn)⟩
      exact ⟨hg8, Or.inl ⟨8, HRR.out, KP.out.same (e1 p (by omega)), _, rfl, _, _, _, _, _, _, _, _, _, rfl⟩⟩

set_option maxRecDepth 100000 in
set_option maxHeartbeats 3200000 in
theorem rvalue_text1 (p : Nat) (a : Option Addr) (c : Nat) (bs l : List UInt8) (q : Nat) (d : Int) (w : World) (h : RAt w p a c bs (l, q)) (ho : Oct w a c bs) (hb : q + l.length ≤ 281474976710656) (n : Nat) (hd : d ≤ 8) (o : UInt8) (r : List UInt8) (hl : l = o :: r) (ho0 : o.toNat = 4) (k : UInt8) (r1 : List UInt8) (hr0 : r = k :: r1) (hk : 128 < k.toNat) :
    Calls Try.prog 40 #[.pointer (some ⟨p, 0, none⟩), .int .i64 d] w (VPost (n + 1) (rd (n + 1) (l, q)) p a c bs w) := by
  have HRR : Hid (rd (n + 1) (l, q) = .error 5) := by
    show _ = _
    rw [hl, hr0]
    simp only [rd]
    rw [if_neg (by omega), if_neg (by omega), if_neg (by omega), if_pos ho0, rdText_long hk]
  have hd8 : decide ((8 : Int) < d) = false := by simp; omega
  have ho0' : (o.toNat : Int) = 4 := by omega
  have HLN : Hid (l = o :: r) := hl
  have HR0 : Hid (r = k :: r1) := hr0
  have k256 := k.toNat_lt
  clear hl hd ho0 hr0
  have hk1 : decide ((128 : Int) < (k.toNat : Int)) = true := by simp; omega
  clear hk
  have hp : p < w.heap.size := by obtain ⟨i, _, _, h3⟩ := h; exact lt_of_block h3
  have RA1 : Hid (RAt (w.alloc (.cells #[.int .i64 0, .int .u64 0, .string ⟨#[]⟩, .slice none 0 0, .slice none 0 0] 50)) p a c bs (l, q)) := h.same (Below.heap_alloc _ _ _ hp)
  have HO1 : Hid (Oct (w.alloc (.cells #[.int .i64 0, .int .u64 0, .string ⟨#[]⟩, .slice none 0 0, .slice none 0 0] 50)) a c bs) := ho.below (below_one _ _)
  have XR0 : Hid ((w.alloc (.cells #[.int .i64 0, .int .u64 0, .string ⟨#[]⟩, .slice none 0 0, .slice none 0 0] 50)).heap[w.heap.size]? = some (.cells #[.int .i64 0, .int .u64 0, .string ⟨#[]⟩, .slice none 0 0, .slice none 0 0] 50 (0, 0))) := heap_alloc_new _ _
  have B1 : Hid (w.grownBy (w.alloc (.cells #[.int .i64 0, .int .u64 0, .string ⟨#[]⟩, .slice none 0 0, .slice none 0 0] 50)) (some p)) := grown_of_below (below_one _ _)
  have HPW : Hid (p < w.heap.size) := hp
  have HQ : Hid (q + l.length ≤ 281474976710656) := hb
  clear h ho hp hb
  go_enter Try.func40, Try.ntmps40
  go_upto_region 1 with fail
  generalize w.alloc (.cells #[.int .i64 0, .int .u64 0, .string ⟨#[]⟩, .slice none 0 0, .slice none 0 0] 50) = W0 at *
  go_wp2_with fail
  obtain ⟨i5, hi5, hri5, hblk5⟩ := RA1.out
  clear hi5 hri5
  refine (rfail_no p _ W0 hblk5).mono ?_
  clear hblk5
  rintro e w2 ⟨rfl, hw2⟩
  subst w2
  go_wp2_with fail
  refine (roctet_any p a c bs l q W0 RA1.out HO1.out).mono ?_
  rintro e w2 ⟨hg2, ⟨hl, rfl, hE1⟩ | ⟨o', r', hl, rfl, hA⟩⟩
  · rw [HLN.out] at hl; cases hl
  have hl2 := HLN.out.symm.trans hl
  cases hl2
  have RA2 : Hid (RAt w2 p a c bs (r, q)) := hA
  have G2 : Hid (w.grownBy w2 (some p)) := grown_trans B1.out hg2
  have XR2 : Hid (w2.heap[w.heap.size]? = some (.cells #[.int .i64 0, .int .u64 0, .string ⟨#[]⟩, .slice none 0 0, .slice none 0 0] 50 (0, 0))) := (hg2.block _ (lt_of_block XR0.out) (by have := HPW.out; simp; omega)).trans XR0.out
  have HO2 : Hid (Oct w2 a c bs) := HO1.out.grown4 RA1.out hg2
  clear hg2 hA RA1 XR0 B1 HO1 hl
  go_wp2_with fail
  obtain ⟨i5, hi5, hri5, hblk5⟩ := RA2.out
  refine (rfail_no p _ w2 hblk5).mono ?_
  rintro e w3 ⟨rfl, hw3⟩
  subst w3
  obtain ⟨y0, y1, y2, y3, f0, f1, f2, f3⟩ := rd4_cells hblk5
  have hq0 : q ≤ 281474976710656 := by have := HQ.out; omega
  have RA3 : Hid (RAt (w2.setCell ⟨p, 2, none⟩ (.int .i64 ((q : Int) + 1))) p a c bs (r, q + 1)) := ⟨i5, hi5, hri5, set4_two hblk5 _⟩
  clear hi5 hri5 hblk5
  go_upto_region 6 with fail
  have hpw := HPW.out
  have hww := lt_of_block XR2.out
  have hsz : (w2.setCell ⟨p, 2, none⟩ (.int .i64 ((q : Int) + 1))).heap.size = w2.heap.size := by simp [World.setCell]
  have bA := below_one (w2.setCell ⟨p, 2, none⟩ (.int .i64 ((q : Int) + 1))) (.cells #[.int .i64 0, .int .u64 0, .string ⟨#[]⟩, .slice none 0 0, .slice none 0 0] 50)
  have RA4 : Hid (RAt ((w2.setCell ⟨p, 2, none⟩ (.int .i64 ((q : Int) + 1))).alloc (.cells #[.int .i64 0, .int .u64 0, .string ⟨#[]⟩, .slice none 0 0, .slice none 0 0] 50)) p a c bs (r, q + 1)) := RA3.out.same (bA.block p (by rw [hsz]; omega))
  have XR4 : Hid (((w2.setCell ⟨p, 2, none⟩ (.int .i64 ((q : Int) + 1))).alloc (.cells #[.int .i64 0, .int .u64 0, .string ⟨#[]⟩, .slice none 0 0, .slice none 0 0] 50)).heap[w.heap.size]? = some (.cells #[.int .i64 0, .int .u64 0, .string ⟨#[]⟩, .slice none 0 0, .slice none 0 0] 50 (0, 0))) := (bA.block _ (by rw [hsz]; exact hww)).trans ((Below.heap_setCell _ _ _ _ (by simp only; omega)).trans XR2.out)
  have YV4 : Hid (((w2.setCell ⟨p, 2, none⟩ (.int .i64 ((q : Int) + 1))).alloc (.cells #[.int .i64 0, .int .u64 0, .string ⟨#[]⟩, .slice none 0 0, .slice none 0 0] 50)).heap[w2.heap.size]? = some (.cells #[.int .i64 0, .int .u64 0, .string ⟨#[]⟩, .slice none 0 0, .slice none 0 0] 50 (0, 0))) := by
    have := heap_alloc_new (w2.setCell ⟨p, 2, none⟩ (.int .i64 ((q : Int) + 1))) (.cells #[.int .i64 0, .int .u64 0, .string ⟨#[]⟩, .slice none 0 0, .slice none 0 0] 50)
    rw [hsz] at this
    exact this
  have G4 : Hid (w.grownBy ((w2.setCell ⟨p, 2, none⟩ (.int .i64 ((q : Int) + 1))).alloc (.cells #[.int .i64 0, .int .u64 0, .string ⟨#[]⟩, .slice none 0 0, .slice none 0 0] 50)) (some p)) := grown_below (grown_trans G2.out (grown_set _)) bA
  have HO4 : Hid (Oct ((w2.setCell ⟨p, 2, none⟩ (.int .i64 ((q : Int) + 1))).alloc (.cells #[.int .i64 0, .int .u64 0, .string ⟨#[]⟩, .slice none 0 0, .slice none 0 0] 50)) a c bs) := (HO2.out.grown4 RA2.out (grown_set _)).below bA
  have HQ4 : Hid (q + 1 + r.length ≤ 281474976710656) := by show _ ≤ _; have := HQ.out; rw [HLN.out] at this; simp only [List.length_cons] at this; omega
  have HV2 : Hid (w.heap.size < w2.heap.size) := hww
  clear bA hsz RA3 RA2 XR2 G2 HO2 y0 y1 y2 y3 f0 f1 f2 f3
  generalize ((w2.setCell ⟨p, 2, none⟩ (.int .i64 ((q : Int) + 1))).alloc (.cells #[.int .i64 0, .int .u64 0, .string ⟨#[]⟩, .slice none 0 0, .slice none 0 0] 50)) = W4 at *
  generalize w2.heap.size = V0 at *
  obtain ⟨z0, z1, z2, z3, z4, g0, g1, g2, g3, g4⟩ := box_cells XR4.out
  obtain ⟨v0, v1, v2, v3, v4, h0, h1, h2, h3, h4⟩ := box_cells YV4.out
  obtain ⟨i5, hi5, hri5, hblk5⟩ := RA4.out
  obtain ⟨y0, y1, y2, y3, f0, f1, f2, f3⟩ := rd4_cells hblk5
  clear hi5 hri5 hblk5
  go_wp2_with fail
  refine (roctet_any p a c bs r (q + 1) W4 RA4.out HO4.out).mono ?_
  rintro e W5 ⟨hg5, ⟨h5, rfl, hE⟩ | ⟨o', r', h5, rfl, hA⟩⟩
  · rw [HR0.out] at h5; cases h5
  · have hl3 := HR0.out.symm.trans h5
    cases hl3
    have HQ5 : Hid (q + 1 + r1.length ≤ 281474976710656) := by show _ ≤ _; have := HQ4.out; rw [HR0.out] at this; simp only [List.length_cons] at this; omega
    have RA5 : Hid (RAt W5 p a c bs (r1, q + 1)) := hA
    clear hA h5
    go_wp2_with fail
    refine (rfail_set p a c bs (r1, q + 1) 5 W5 RA5.out (by decide)).mono ?_
    rintro e W6 ⟨rfl, hg6, hE⟩
    have HE6 : Hid (RErr W6 p 281474976710660 5) := hE.mono (by have := HQ5.out; (try simp only at this ⊢); omega)
    replace hg5 := grown_trans hg5 hg6
    have hV0 := HV2.out
    have YV6 : Hid (W6.heap[V0]? = some (.cells #[.int .i64 0, .int .u64 0, .string ⟨#[]⟩, .slice none 0 0, .slice none 0 0] 50 (0, 0))) := (hg5.block _ (lt_of_block YV4.out) (by simp; omega)).trans YV4.out
    have XR6 : Hid (W6.heap[w.heap.size]? = some (.cells #[.int .i64 0, .int .u64 0, .string ⟨#[]⟩, .slice none 0 0, .slice none 0 0] 50 (0, 0))) := (hg5.block _ (lt_of_block XR4.out) (by simp; omega)).trans XR4.out
    have G6 : Hid (w.grownBy W6 (some p)) := grown_trans G4.out hg5
    clear z0 z1 z2 z3 z4 g0 g1 g2 g3 g4 v0 v1 v2 v3 v4 h0 h1 h2 h3 h4 y0 y1 y2 y3 f0 f1 f2 f3
    clear hg5 hg6 hE RA4 RA5 XR4 YV4 G4 HO4
    have HLL : Hid (([] : List UInt8).length = 0) := rfl
    have HC : Hid (Calls Try.prog 56 #[.pointer (some ⟨p, 0, none⟩), .int .i64 (k.toNat : Int)] W6.drew fun e w3 => ∃ y, e = .returned y ∧ (W6.grownBy w3 (some p) ∧ ∃ a' c', y = .slice a' 0 c' ∧ LayB w3 a' [] ∧ RErr w3 p 281474976710660 5)) := (rtake_err p _ _ _ W6.drew (HE6.out.same rfl)).mono fun e w3 hp => by
      obtain ⟨h1, h2⟩ := hp
      subst h2
      exact ⟨_, h1, grown_of_below (Below_drewN _ _ 1), none, 0, rfl, fun i o hi => by simp at hi, HE6.out.same rfl⟩
    obtain ⟨v0, v1, v2, v3, v4, h0, h1, h2, h3, h4⟩ := box_cells YV6.out
    have HYV : Hid (∀ w', W6.grownBy w' (some p) → w'.heap[V0]? = some (.cells #[.int .i64 0, .int .u64 0, .string ⟨#[]⟩, .slice none 0 0, .slice none 0 0] 50 (0, 0))) := fun w' hg => (hg.block _ (lt_of_block YV6.out) (by simp; omega)).trans YV6.out
    have HS : Hid (∀ w' a' c', LayB w' a' ([]) → Sem.run Try.prog (convert 25 9 (.slice a' 0 c')) w' = .ok (.string ⟨#[]⟩) w') := fun w' a' c' h => by
      have := run_str (c := c') h
      rw [HLL.out] at this
      exact this
    go_wp2_with fail
    go_region_law (refine step_call2 rfl 56 (by intros; go_simp) _ _ _ rfl (.pointer (some ⟨p, 0, none⟩)) (.int .i64 (k.toNat : Int)) (by first | (simp [Act.eval]; done) | simp [Act.eval, Act.put]) (by first | (simp [Act.eval]; done) | simp [Act.eval, Act.put]) _ HC.out ?_; intro y w3 hR; obtain ⟨hg3, a', c', rfl, hL3, hP3⟩ := hR; have hS3 := HS.out w3 a' c' hL3; have hS4 := HS.out _ a' c' (hL3.apart (HYV.out w3 hg3) (.int .i64 3)); obtain ⟨t0, t1, t2, t3, t4, s0, s1, s2, s3, s4⟩ := box_cells (HYV.out w3 hg3))
    all_goals
      have Y7 : ((w3.setCell ⟨V0, 0, none⟩ (.int .i64 3)).setCell ⟨V0, 2, none⟩ (.string ⟨#[]⟩)).heap[V0]? = some (.cells #[.int .i64 3, .int .u64 0, .string ⟨#[]⟩, .slice none 0 0, .slice none 0 0] 50 (0, 0)) := by
        have q0 := set_one_cell (o := 0) (HYV.out w3 hg3) (.int .i64 3)
        have q1 := set_one_cell (o := 2) q0 (.string ⟨#[]⟩)
        rw [q1]
        simp
      have kp7 : ∀ j, j ≠ V0 → ((w3.setCell ⟨V0, 0, none⟩ (.int .i64 3)).setCell ⟨V0, 2, none⟩ (.string ⟨#[]⟩)).heap[j]? = w3.heap[j]? := fun j hk => by rw [Below.heap_setCell _ _ _ _ hk, Below.heap_setCell _ _ _ _ hk]
      have X7 : ((w3.setCell ⟨V0, 0, none⟩ (.int .i64 3)).setCell ⟨V0, 2, none⟩ (.string ⟨#[]⟩)).heap[w.heap.size]? = some (.cells #[.int .i64 0, .int .u64 0, .string ⟨#[]⟩, .slice none 0 0, .slice none 0 0] 50 (0, 0)) := (kp7 _ (by omega)).trans ((hg3.block _ (lt_of_block XR6.out) (by simp; omega)).trans XR6.out)
      have g7 := grown_trans G6.out hg3
      have G7 : Hid (w.grownBy ((w3.setCell ⟨V0, 0, none⟩ (.int .i64 3)).setCell ⟨V0, 2, none⟩ (.string ⟨#[]⟩)) (some p)) := ⟨by simpa [World.setCell] using g7.os, by simpa [World.setCell] using g7.tape, by simpa [World.setCell] using g7.output, by simpa [World.setCell] using g7.size, fun k hk hn => (kp7 k (by omega)).trans (g7.block k hk hn)⟩
      have KP : Hid (RErr ((w3.setCell ⟨V0, 0, none⟩ (.int .i64 3)).setCell ⟨V0, 2, none⟩ (.string ⟨#[]⟩)) p 281474976710660 5) := hP3.same (kp7 _ (by omega))
      clear v0 v1 v2 v3 v4 h0 h1 h2 h3 h4 t0 t1 t2 t3 t4 s0 s1 s2 s3 s4 hg3 hP3 hL3 hS3 hS4 kp7 g7
      generalize ((w3.setCell ⟨V0, 0, none⟩ (.int .i64 3)).setCell ⟨V0, 2, none⟩ (.string ⟨#[]⟩)) = W7 at *
      obtain ⟨v0, v1, v2, v3, v4, h0, h1, h2, h3, h4⟩ := box_cells Y7
      obtain ⟨z0, z1, z2, z3, z4, g0, g1, g2, g3, g4⟩ := box_cells X7
      clear Y7 X7
      go_wp2_with fail
      refine bodyPost_ret (v := mk 3 0 ⟨#[]⟩ none 0 0 none 0 0) (by simp [results, Try.results40, go_sem, z0, z1, z2, z3, z4]) rfl ?_
      obtain ⟨e1, e2, e3, e4, e5⟩ := five_fin W7 w.heap.size (.int .i64 3) (.int .u64 0) (.string ⟨#[]⟩) (.slice none 0 0) (.slice none 0 0)
      generalize (((((W7.setCell ⟨w.heap.size, 0, none⟩ (.int .i64 3)).setCell ⟨w.heap.size, 1, none⟩ (.int .u64 0)).setCell ⟨w.heap.size, 2, none⟩ (.string ⟨#[]⟩)).setCell ⟨w.heap.size, 3, none⟩ (.slice none 0 0)).setCell ⟨w.heap.size, 4, none⟩ (.slice none 0 0)) = W8 at *
      have hg8 : w.grownBy W8 (some p) := ⟨e3.trans G7.out.os, e4.trans G7.out.tape, e5.trans G7.out.output, by have := G7.out.size; omega, fun k hk hn => (e1 k (by omega)).trans (G7.out.block k hk hn)⟩
      exact ⟨hg8, Or.inl ⟨5, HRR.out, KP.out.same (e1 p (by omega)), _, rfl, _, _, _, _, _, _, _, _, _, rfl⟩⟩

set_option maxRecDepth 100000 in
set_option maxHeartbeats 3200000 in
theorem rvalue_text2 (p : Nat) (a : Option Addr) (c : Nat) (bs l : List UInt8) (q : Nat) (d : Int) (w : World) (h : RAt w p a c bs (l, q)) (ho : Oct w a c bs) (hb : q + l.length ≤ 281474976710656) (n : Nat) (hd : d ≤ 8) (o : UInt8) (r : List UInt8) (hl : l = o :: r) (ho0 : o.toNat = 4) (k : UInt8) (r1 : List UInt8) (hr0 : r = k :: r1) (hk : ¬ 128 < k.toNat) (hk2 : r1.length < k.toNat) :
    Calls Try.prog 40 #[.pointer (some ⟨p, 0, none⟩), .int .i64 d] w (VPost (n + 1) (rd (n + 1) (l, q)) p a c bs w) := by
  have HRR : Hid (rd (n + 1) (l, q) = .error 8) := by
    show _ = _
    rw [hl, hr0]
    simp only [rd]
    rw [if_neg (by omega), if_neg (by omega), if_neg (by omega), if_pos ho0, rdText_cut hk hk2]
  have hd8 : decide ((8 : Int) < d) = false := by simp; omega
  have ho0' : (o.toNat : Int) = 4 := by omega
  have HLN : Hid (l = o :: r) := hl
  have HR0 : Hid (r = k :: r1) := hr0
  have k256 := k.toNat_lt
  clear hl hd ho0 hr0
  have hk1 : decide ((128 : Int) < (k.toNat : Int)) = false := by simp; omega
  have HK : Hid (k.toNat ≤ 128) := by show _ ≤ _; omega
  have HK2 : Hid (r1.length < k.toNat) := hk2
  clear hk hk2
  have hp : p < w.heap.size := by obtain ⟨i, _, _, h3⟩ := h; exact lt_of_block h3
  have RA1 : Hid (RAt (w.alloc (.cells #[.int .i64 0, .int .u64 0, .string ⟨#[]⟩, .slice none 0 0, .slice none 0 0] 50)) p a c bs (l, q)) := h.same (Below.heap_alloc _ _ _ hp)
  have HO1 : Hid (Oct (w.alloc (.cells #[.int .i64 0, .int .u64 0, .string ⟨#[]⟩, .slice none 0 0, .slice none 0 0] 50)) a c bs) := ho.below (below_one _ _)
  have XR0 : Hid ((w.alloc (.cells #[.int .i64 0, .int .u64 0, .string ⟨#[]⟩, .slice none 0 0, .slice none 0 0] 50)).heap[w.heap.size]? = some (.cells #[.int .i64 0, .int .u64 0, .string ⟨#[]⟩, .slice none 0 0, .slice none 0 0] 50 (0, 0))) := heap_alloc_new _ _
  have B1 : Hid (w.grownBy (w.alloc (.cells #[.int .i64 0, .int .u64 0, .string ⟨#[]⟩, .slice none 0 0, .slice none 0 0] 50)) (some p)) := grown_of_below (below_one _ _)
  have HPW : Hid (p < w.heap.size) := hp
  have HQ : Hid (q + l.length ≤ 281474976710656) := hb
  clear h ho hp hb
  go_enter Try.func40, Try.ntmps40
  go_upto_region 1 with fail
  generalize w.alloc (.cells #[.int .i64 0, .int .u64 0, .string ⟨#[]⟩, .slice none 0 0, .slice none 0 0] 50) = W0 at *
  go_wp2_with fail
  obtain ⟨i5, hi5, hri5, hblk5⟩ := RA1.out
  clear hi5 hri5
  refine (rfail_no p _ W0 hblk5).mono ?_
  clear hblk5
  rintro e w2 ⟨rfl, hw2⟩
  subst w2
  go_wp2_with fail
  refine (roctet_any p a c bs l q W0 RA1.out HO1.out).mono ?_
  rintro e w2 ⟨hg2, ⟨hl, rfl, hE1⟩ | ⟨o', r', hl, rfl, hA⟩⟩
  · rw [HLN.out] at hl; cases hl
  have hl2 := HLN.out.symm.trans hl
  cases hl2
  have RA2 : Hid (RAt w2 p a c bs (r, q)) := hA
  have G2 : Hid (w.grownBy w2 (some p)) := grown_trans B1.out hg2
  have XR2 : Hid (w2.heap[w.heap.size]? = some (.cells #[.int .i64 0, .int .u64 0, .string ⟨#[]⟩, .slice none 0 0, .slice none 0 0] 50 (0, 0))) := (hg2.block _ (lt_of_block XR0.out) (by have := HPW.out; simp; omega)).trans XR0.out
  have HO2 : Hid (Oct w2 a c bs) := HO1.out.grown4 RA1.out hg2
  clear hg2 hA RA1 XR0 B1 HO1 hl
  go_wp2_with fail
  obtain ⟨i5, hi5, hri5, hblk5⟩ := RA2.out
  refine (rfail_no p _ w2 hblk5).mono ?_
  rintro e w3 ⟨rfl, hw3⟩
  subst w3
  obtain ⟨y0, y1, y2, y3, f0, f1, f2, f3⟩ := rd4_cells hblk5
  have hq0 : q ≤ 281474976710656 := by have := HQ.out; omega
  have RA3 : Hid (RAt (w2.setCell ⟨p, 2, none⟩ (.int .i64 ((q : Int) + 1))) p a c bs (r, q + 1)) := ⟨i5, hi5, hri5, set4_two hblk5 _⟩
  clear hi5 hri5 hblk5
  go_upto_region 6 with fail
  have hpw := HPW.out
  have hww := lt_of_block XR2.out
  have hsz : (w2.setCell ⟨p, 2, none⟩ (.int .i64 ((q : Int) + 1))).heap.size = w2.heap.size := by simp [World.setCell]
  have bA := below_one (w2.setCell ⟨p, 2, none⟩ (.int .i64 ((q : Int) + 1))) (.cells #[.int .i64 0, .int .u64 0, .string ⟨#[]⟩, .slice none 0 0, .slice none 0 0] 50)
  have RA4 : Hid (RAt ((w2.setCell ⟨p, 2, none⟩ (.int .i64 ((q : Int) + 1))).alloc (.cells #[.int .i64 0, .int .u64 0, .string ⟨#[]⟩, .slice none 0 0, .slice none 0 0] 50)) p a c bs (r, q + 1)) := RA3.out.same (bA.block p (by rw [hsz]; omega))
  have XR4 : Hid (((w2.setCell ⟨p, 2, none⟩ (.int .i64 ((q : Int) + 1))).alloc (.cells #[.int .i64 0, .int .u64 0, .string ⟨#[]⟩, .slice none 0 0, .slice none 0 0] 50)).heap[w.heap.size]? = some (.cells #[.int .i64 0, .int .u64 0, .string ⟨#[]⟩, .slice none 0 0, .slice none 0 0] 50 (0, 0))) := (bA.block _ (by rw [hsz]; exact hww)).trans ((Below.heap_setCell _ _ _ _ (by simp only; omega)).trans XR2.out)
  have YV4 : Hid (((w2.setCell ⟨p, 2, none⟩ (.int .i64 ((q : Int) + 1))).alloc (.cells #[.int .i64 0, .int .u64 0, .string ⟨#[]⟩, .slice none 0 0, .slice none 0 0] 50)).heap[w2.heap.size]? = some (.cells #[.int .i64 0, .int .u64 0, .string ⟨#[]⟩, .slice none 0 0, .slice none 0 0] 50 (0, 0))) := by
    have := heap_alloc_new (w2.setCell ⟨p, 2, none⟩ (.int .i64 ((q : Int) + 1))) (.cells #[.int .i64 0, .int .u64 0, .string ⟨#[]⟩, .slice none 0 0, .slice none 0 0] 50)
    rw [hsz] at this
    exact this
  have G4 : Hid (w.grownBy ((w2.setCell ⟨p, 2, none⟩ (.int .i64 ((q : Int) + 1))).alloc (.cells #[.int .i64 0, .int .u64 0, .string ⟨#[]⟩, .slice none 0 0, .slice none 0 0] 50)) (some p)) := grown_below (grown_trans G2.out (grown_set _)) bA
  have HO4 : Hid (Oct ((w2.setCell ⟨p, 2, none⟩ (.int .i64 ((q : Int) + 1))).alloc (.cells #[.int .i64 0, .int .u64 0, .string ⟨#[]⟩, .slice none 0 0, .slice none 0 0] 50)) a c bs) := (HO2.out.grown4 RA2.out (grown_set _)).below bA
  have HQ4 : Hid (q + 1 + r.length ≤ 281474976710656) := by show _ ≤ _; have := HQ.out; rw [HLN.out] at this; simp only [List.length_cons] at this; omega
  have HV2 : Hid (w.heap.size < w2.heap.size) := hww
  clear bA hsz RA3 RA2 XR2 G2 HO2 y0 y1 y2 y3 f0 f1 f2 f3
  generalize ((w2.setCell ⟨p, 2, none⟩ (.int .i64 ((q : Int) + 1))).alloc (.cells #[.int .i64 0, .int .u64 0, .string ⟨#[]⟩, .slice none 0 0, .slice none 0 0] 50)) = W4 at *
  generalize w2.heap.size = V0 at *
  obtain ⟨z0, z1, z2, z3, z4, g0, g1, g2, g3, g4⟩ := box_cells XR4.out
  obtain ⟨v0, v1, v2, v3, v4, h0, h1, h2, h3, h4⟩ := box_cells YV4.out
  obtain ⟨i5, hi5, hri5, hblk5⟩ := RA4.out
  obtain ⟨y0, y1, y2, y3, f0, f1, f2, f3⟩ := rd4_cells hblk5
  clear hi5 hri5 hblk5
  go_wp2_with fail
  refine (roctet_any p a c bs r (q + 1) W4 RA4.out HO4.out).mono ?_
  rintro e W6 ⟨hg5, ⟨h5, rfl, hE⟩ | ⟨o', r', h5, rfl, hA⟩⟩
  · rw [HR0.out] at h5; cases h5
  · have hl3 := HR0.out.symm.trans h5
    cases hl3
    have HQ5 : Hid (q + 1 + r1.length ≤ 281474976710656) := by show _ ≤ _; have := HQ4.out; rw [HR0.out] at this; simp only [List.length_cons] at this; omega
    have hO5 : Hid (Oct W6 a c bs) := HO4.out.grown4 RA4.out hg5
    have RA5 : Hid (RAt W6 p a c bs (r1, q + 1)) := hA
    clear hA h5
    go_wp2_with fail
    obtain ⟨i5, hi5, hri5, hblk5⟩ := RA5.out
    clear hi5 hri5
    refine (rfail_no p _ W6 hblk5).mono ?_
    clear hblk5
    rintro e w7 ⟨rfl, hw7⟩
    subst w7
    have hV0 := HV2.out
    have YV6 : Hid (W6.heap[V0]? = some (.cells #[.int .i64 0, .int .u64 0, .string ⟨#[]⟩, .slice none 0 0, .slice none 0 0] 50 (0, 0))) := (hg5.block _ (lt_of_block YV4.out) (by simp; omega)).trans YV4.out
    have XR6 : Hid (W6.heap[w.heap.size]? = some (.cells #[.int .i64 0, .int .u64 0, .string ⟨#[]⟩, .slice none 0 0, .slice none 0 0] 50 (0, 0))) := (hg5.block _ (lt_of_block XR4.out) (by simp; omega)).trans XR4.out
    have G6 : Hid (w.grownBy W6 (some p)) := grown_trans G4.out hg5
    clear z0 z1 z2 z3 z4 g0 g1 g2 g3 g4 v0 v1 v2 v3 v4 h0 h1 h2 h3 h4 y0 y1 y2 y3 f0 f1 f2 f3
    clear hg5 RA4 XR4 YV4 G4 HO4
    have HLL : Hid (([] : List UInt8).length = 0) := rfl
    have HC : Hid (Calls Try.prog 56 #[.pointer (some ⟨p, 0, none⟩), .int .i64 (k.toNat : Int)] W6.drew fun e w3 => ∃ y, e = .returned y ∧ (W6.grownBy w3 (some p) ∧ ∃ a' c', y = .slice a' 0 c' ∧ LayB w3 a' ([]) ∧ RErr w3 p 281474976710660 8)) := (rtake_any k.toNat p a c bs (r1, q + 1) W6.drew (RA5.out.same rfl) (hO5.out.below (Below_drewN _ _ 1)) (by omega)).mono fun e w3 hp => by
      obtain ⟨hg, ⟨h1, h2, h3⟩ | ⟨h1, h2, a', c', h3, h4⟩⟩ := hp
      · exact ⟨_, h2, ⟨hg.os, hg.tape, hg.output, hg.size, hg.block⟩, none, 0, rfl, fun i o hi => by simp at hi, h3.mono (by have := HQ5.out; simp only; omega)⟩
      · exact absurd h1 (by have := HK2.out; simp only; omega)
    obtain ⟨v0, v1, v2, v3, v4, h0, h1, h2, h3, h4⟩ := box_cells YV6.out
    have HYV : Hid (∀ w', W6.grownBy w' (some p) → w'.heap[V0]? = some (.cells #[.int .i64 0, .int .u64 0, .string ⟨#[]⟩, .slice none 0 0, .slice none 0 0] 50 (0, 0))) := fun w' hg => (hg.block _ (lt_of_block YV6.out) (by simp; omega)).trans YV6.out
    have HS : Hid (∀ w' a' c', LayB w' a' ([]) → Sem.run Try.prog (convert 25 9 (.slice a' 0 c')) w' = .ok (.string ⟨#[]⟩) w') := fun w' a' c' h => by
      have := run_str (c := c') h
      rw [HLL.out] at this
      exact this
    go_wp2_with fail
    go_region_law (refine step_call2 rfl 56 (by intros; go_simp) _ _ _ rfl (.pointer (some ⟨p, 0, none⟩)) (.int .i64 (k.toNat : Int)) (by first | (simp [Act.eval]; done) | simp [Act.eval, Act.put]) (by first | (simp [Act.eval]; done) | simp [Act.eval, Act.put]) _ HC.out ?_; intro y w3 hR; obtain ⟨hg3, a', c', rfl, hL3, hP3⟩ := hR; have hS3 := HS.out w3 a' c' hL3; have hS4 := HS.out _ a' c' (hL3.apart (HYV.out w3 hg3) (.int .i64 3)); obtain ⟨t0, t1, t2, t3, t4, s0, s1, s2, s3, s4⟩ := box_cells (HYV.out w3 hg3))
    all_goals
      have Y7 : ((w3.setCell ⟨V0, 0, none⟩ (.int .i64 3)).setCell ⟨V0, 2, none⟩ (.string ⟨#[]⟩)).heap[V0]? = some (.cells #[.int .i64 3, .int .u64 0, .string ⟨#[]⟩, .slice none 0 0, .slice none 0 0] 50 (0, 0)) := by
        have q0 := set_one_cell (o := 0) (HYV.out w3 hg3) (.int .i64 3)
        have q1 := set_one_cell (o := 2) q0 (.string ⟨#[]⟩)
        rw [q1]
        simp
      have kp7 : ∀ j, j ≠ V0 → ((w3.setCell ⟨V0, 0, none⟩ (.int .i64 3)).setCell ⟨V0, 2, none⟩ (.string ⟨#[]⟩)).heap[j]? = w3.heap[j]? := fun j hk => by rw [Below.heap_setCell _ _ _ _ hk, Below.heap_setCell _ _ _ _ hk]
      have X7 : ((w3.setCell ⟨V0, 0, none⟩ (.int .i64 3)).setCell ⟨V0, 2, none⟩ (.string ⟨#[]⟩)).heap[w.heap.size]? = some (.cells #[.int .i64 0, .int .u64 0, .string ⟨#[]⟩, .slice none 0 0, .slice none 0 0] 50 (0, 0)) := (kp7 _ (by omega)).trans ((hg3.block _ (lt_of_block XR6.out) (by simp; omega)).trans XR6.out)
      have g7 := grown_trans G6.out hg3
      have G7 : Hid (w.grownBy ((w3.setCell ⟨V0, 0, none⟩ (.int .i64 3)).setCell ⟨V0, 2, none⟩ (.string ⟨#[]⟩)) (some p)) := ⟨by simpa [World.setCell] using g7.os, by simpa [World.setCell] using g7.tape, by simpa [World.setCell] using g7.output, by simpa [World.setCell] using g7.size, fun k hk hn => (kp7 k (by omega)).trans (g7.block k hk hn)⟩
      have KP : Hid (RErr ((w3.setCell ⟨V0, 0, none⟩ (.int .i64 3)).setCell ⟨V0, 2, none⟩ (.string ⟨#[]⟩)) p 281474976710660 8) := hP3.same (kp7 _ (by omega))
      clear v0 v1 v2 v3 v4 h0 h1 h2 h3 h4 t0 t1 t2 t3 t4 s0 s1 s2 s3 s4 hg3 hP3 hL3 hS3 hS4 kp7 g7
      generalize ((w3.setCell ⟨V0, 0, none⟩ (.int .i64 3)).setCell ⟨V0, 2, none⟩ (.string ⟨#[]⟩)) = W7 at *
      obtain ⟨v0, v1, v2, v3, v4, h0, h1, h2, h3, h4⟩ := box_cells Y7
      obtain ⟨z0, z1, z2, z3, z4, g0, g1, g2, g3, g4⟩ := box_cells X7
      clear Y7 X7
      go_wp2_with fail
      refine bodyPost_ret (v := mk 3 0 ⟨#[]⟩ none 0 0 none 0 0) (by simp [results, Try.results40, go_sem, z0, z1, z2, z3, z4]) rfl ?_
      obtain ⟨e1, e2, e3, e4, e5⟩ := five_fin W7 w.heap.size (.int .i64 3) (.int .u64 0) (.string ⟨#[]⟩) (.slice none 0 0) (.slice none 0 0)
      generalize (((((W7.setCell ⟨w.heap.size, 0, none⟩ (.int .i64 3)).setCell ⟨w.heap.size, 1, none⟩ (.int .u64 0)).setCell ⟨w.heap.size, 2, none⟩ (.string ⟨#[]⟩)).setCell ⟨w.heap.size, 3, none⟩ (.slice none 0 0)).setCell ⟨w.heap.size, 4, none⟩ (.slice none 0 0)) = W8 at *
      have hg8 : w.grownBy W8 (some p) := ⟨e3.trans G7.out.os, e4.trans G7.out.tape, e5.trans G7.out.output, by have := G7.out.size; omega, fun k hk hn => (e1 k (by omega)).trans (G7.out.block k hk hn)⟩
      exact ⟨hg8, Or.inl ⟨8, HRR.out, KP.out.same (e1 p (by omega)), _, rfl, _, _, _, _, _, _, _, _, _, rfl⟩⟩

set_option maxRecDepth 100000 in
set_option maxHeartbeats 3200000 in
theorem rvalue_text3 (p : Nat) (a : Option Addr) (c : Nat) (bs l : List UInt8) (q : Nat) (d : Int) (w : World) (h : RAt w p a c bs (l, q)) (ho : Oct w a c bs) (hb : q + l.length ≤ 281474976710656) (n : Nat) (hd : d ≤ 8) (o : UInt8) (r : List UInt8) (hl : l = o :: r) (ho0 : o.toNat = 4) (k : UInt8) (r1 : List UInt8) (hr0 : r = k :: r1) (hk : ¬ 128 < k.toNat) (hk2 : k.toNat ≤ r1.length) :
    Calls Try.prog 40 #[.pointer (some ⟨p, 0, none⟩), .int .i64 d] w (VPost (n + 1) (rd (n + 1) (l, q)) p a c bs w) := by
  have HRR : Hid (rd (n + 1) (l, q) = (.ok ((3, 0, ⟨(r1.take k.toNat).toArray⟩, [], []), (r1.drop k.toNat, q + 1)))) := by
    show _ = _
    rw [hl, hr0]
    simp only [rd]
    rw [if_neg (by omega), if_neg (by omega), if_neg (by omega), if_pos ho0, rdText_all hk hk2]
  have hd8 : decide ((8 : Int) < d) = false := by simp; omega
  have ho0' : (o.toNat : Int) = 4 := by omega
  have HLN : Hid (l = o :: r) := hl
  have HR0 : Hid (r = k :: r1) := hr0
  have k256 := k.toNat_lt
  clear hl hd ho0 hr0
  have hk1 : decide ((128 : Int) < (k.toNat : Int)) = false := by simp; omega
  have HK : Hid (k.toNat ≤ 128) := by show _ ≤ _; omega
  have HK2 : Hid (k.toNat ≤ r1.length) := hk2
  clear hk hk2
  have hp : p < w.heap.size := by obtain ⟨i, _, _, h3⟩ := h; exact lt_of_block h3
  have RA1 : Hid (RAt (w.alloc (.cells #[.int .i64 0, .int .u64 0, .string ⟨#[]⟩, .slice none 0 0, .slice none 0 0] 50)) p a c bs (l, q)) := h.same (Below.heap_alloc _ _ _ hp)
  have HO1 : Hid (Oct (w.alloc (.cells #[.int .i64 0, .int .u64 0, .string ⟨#[]⟩, .slice none 0 0, .slice none 0 0] 50)) a c bs) := ho.below (below_one _ _)
  have XR0 : Hid ((w.alloc (.cells #[.int .i64 0, .int .u64 0, .string ⟨#[]⟩, .slice none 0 0, .slice none 0 0] 50)).heap[w.heap.size]? = some (.cells #[.int .i64 0, .int .u64 0, .string ⟨#[]⟩, .slice none 0 0, .slice none 0 0] 50 (0, 0))) := heap_alloc_new _ _
  have B1 : Hid (w.grownBy (w.alloc (.cells #[.int .i64 0, .int .u64 0, .string ⟨#[]⟩, .slice none 0 0, .slice none 0 0] 50)) (some p)) := grown_of_below (below_one _ _)
  have HPW : Hid (p < w.heap.size) := hp
  have HQ : Hid (q + l.length ≤ 281474976710656) := hb
  clear h ho hp hb
  go_enter Try.func40, Try.ntmps40
  go_upto_region 1 with fail
  generalize w.alloc (.cells #[.int .i64 0, .int .u64 0, .string ⟨#[]⟩, .slice none 0 0, .slice none 0 0] 50) = W0 at *
  go_wp2_with fail
  obtain ⟨i5, hi5, hri5, hblk5⟩ := RA1.out
  clear hi5 hri5
  refine (rfail_no p _ W0 hblk5).mono ?_
  clear hblk5
  rintro e w2 ⟨rfl, hw2⟩
  subst w2
  go_wp2_with fail
  refine (roctet_any p a c bs l q W0 RA1.out HO1.out).mono ?_
  rintro e w2 ⟨hg2, ⟨hl, rfl, hE1⟩ | ⟨o', r', hl, rfl, hA⟩⟩
  · rw [HLN.out] at hl; cases hl
  have hl2 := HLN.out.symm.trans hl
  cases hl2
  have RA2 : Hid (RAt w2 p a c bs (r, q)) := hA
  have G2 : Hid (w.grownBy w2 (some p)) := grown_trans B1.out hg2
  have XR2 : Hid (w2.heap[w.heap.size]? = some (.cells #[.int .i64 0, .int .u64 0, .string ⟨#[]⟩, .slice none 0 0, .slice none 0 0] 50 (0, 0))) := (hg2.block _ (lt_of_block XR0.out) (by have := HPW.out; simp; omega)).trans XR0.out
  have HO2 : Hid (Oct w2 a c bs) := HO1.out.grown4 RA1.out hg2
  clear hg2 hA RA1 XR0 B1 HO1 hl
  go_wp2_with fail
  obtain ⟨i5, hi5, hri5, hblk5⟩ := RA2.out
  refine (rfail_no p _ w2 hblk5).mono ?_
  rintro e w3 ⟨rfl, hw3⟩
  subst w3
  obtain ⟨y0, y1, y2, y3, f0, f1, f2, f3⟩ := rd4_cells hblk5
  have hq0 : q ≤ 281474976710656 := by have := HQ.out; omega
  have RA3 : Hid (RAt (w2.setCell ⟨p, 2, none⟩ (.int .i64 ((q : Int) + 1))) p a c bs (r, q + 1)) := ⟨i5, hi5, hri5, set4_two hblk5 _⟩
  clear hi5 hri5 hblk5
  go_upto_region 6 with fail
  have hpw := HPW.out
  have hww := lt_of_block XR2.out
  have hsz : (w2.setCell ⟨p, 2, none⟩ (.int .i64 ((q : Int) + 1))).heap.size = w2.heap.size := by simp [World.setCell]
  have bA := below_one (w2.setCell ⟨p, 2, none⟩ (.int .i64 ((q : Int) + 1))) (.cells #[.int .i64 0, .int .u64 0, .string ⟨#[]⟩, .slice none 0 0, .slice none 0 0] 50)
  have RA4 : Hid (RAt ((w2.setCell ⟨p, 2, none⟩ (.int .i64 ((q : Int) + 1))).alloc (.cells #[.int .i64 0, .int .u64 0, .string ⟨#[]⟩, .slice none 0 0, .slice none 0 0] 50)) p a c bs (r, q + 1)) := RA3.out.same (bA.block p (by rw [hsz]; omega))
  have XR4 : Hid (((w2.setCell ⟨p, 2, none⟩ (.int .i64 ((q : Int) + 1))).alloc (.cells #[.int .i64 0, .int .u64 0, .string ⟨#[]⟩, .slice none 0 0, .slice none 0 0] 50)).heap[w.heap.size]? = some (.cells #[.int .i64 0, .int .u64 0, .string ⟨#[]⟩, .slice none 0 0, .slice none 0 0] 50 (0, 0))) := (bA.block _ (by rw [hsz]; exact hww)).trans ((Below.heap_setCell _ _ _ _ (by simp only; omega)).trans XR2.out)
  have YV4 : Hid (((w2.setCell ⟨p, 2, none⟩ (.int .i64 ((q : Int) + 1))).alloc (.cells #[.int .i64 0, .int .u64 0, .string ⟨#[]⟩, .slice none 0 0, .slice none 0 0] 50)).heap[w2.heap.size]? = some (.cells #[.int .i64 0, .int .u64 0, .string ⟨#[]⟩, .slice none 0 0, .slice none 0 0] 50 (0, 0))) := by
    have := heap_alloc_new (w2.setCell ⟨p, 2, none⟩ (.int .i64 ((q : Int) + 1))) (.cells #[.int .i64 0, .int .u64 0, .string ⟨#[]⟩, .slice none 0 0, .slice none 0 0] 50)
    rw [hsz] at this
    exact this
  have G4 : Hid (w.grownBy ((w2.setCell ⟨p, 2, none⟩ (.int .i64 ((q : Int) + 1))).alloc (.cells #[.int .i64 0, .int .u64 0, .string ⟨#[]⟩, .slice none 0 0, .slice none 0 0] 50)) (some p)) := grown_below (grown_trans G2.out (grown_set _)) bA
  have HO4 : Hid (Oct ((w2.setCell ⟨p, 2, none⟩ (.int .i64 ((q : Int) + 1))).alloc (.cells #[.int .i64 0, .int .u64 0, .string ⟨#[]⟩, .slice none 0 0, .slice none 0 0] 50)) a c bs) := (HO2.out.grown4 RA2.out (grown_set _)).below bA
  have HQ4 : Hid (q + 1 + r.length ≤ 281474976710656) := by show _ ≤ _; have := HQ.out; rw [HLN.out] at this; simp only [List.length_cons] at this; omega
  have HV2 : Hid (w.heap.size < w2.heap.size) := hww
  clear bA hsz RA3 RA2 XR2 G2 HO2 y0 y1 y2 y3 f0 f1 f2 f3
  generalize ((w2.setCell ⟨p, 2, none⟩ (.int .i64 ((q : Int) + 1))).alloc (.cells #[.int .i64 0, .int .u64 0, .string ⟨#[]⟩, .slice none 0 0, .slice none 0 0] 50)) = W4 at *
  generalize w2.heap.size = V0 at *
  obtain ⟨z0, z1, z2, z3, z4, g0, g1, g2, g3, g4⟩ := box_cells XR4.out
  obtain ⟨v0, v1, v2, v3, v4, h0, h1, h2, h3, h4⟩ := box_cells YV4.out
  obtain ⟨i5, hi5, hri5, hblk5⟩ := RA4.out
  obtain ⟨y0, y1, y2, y3, f0, f1, f2, f3⟩ := rd4_cells hblk5
  clear hi5 hri5 hblk5
  go_wp2_with fail
  refine (roctet_any p a c bs r (q + 1) W4 RA4.out HO4.out).mono ?_
  rintro e W6 ⟨hg5, ⟨h5, rfl, hE⟩ | ⟨o', r', h5, rfl, hA⟩⟩
  · rw [HR0.out] at h5; cases h5
  · have hl3 := HR0.out.symm.trans h5
    cases hl3
    have HQ5 : Hid (q + 1 + r1.length ≤ 281474976710656) := by show _ ≤ _; have := HQ4.out; rw [HR0.out] at this; simp only [List.length_cons] at this; omega
    have hO5 : Hid (Oct W6 a c bs) := HO4.out.grown4 RA4.out hg5
    have RA5 : Hid (RAt W6 p a c bs (r1, q + 1)) := hA
    clear hA h5
    go_wp2_with fail
    obtain ⟨i5, hi5, hri5, hblk5⟩ := RA5.out
    clear hi5 hri5
    refine (rfail_no p _ W6 hblk5).mono ?_
    clear hblk5
    rintro e w7 ⟨rfl, hw7⟩
    subst w7
    have hV0 := HV2.out
    have YV6 : Hid (W6.heap[V0]? = some (.cells #[.int .i64 0, .int .u64 0, .string ⟨#[]⟩, .slice none 0 0, .slice none 0 0] 50 (0, 0))) := (hg5.block _ (lt_of_block YV4.out) (by simp; omega)).trans YV4.out
    have XR6 : Hid (W6.heap[w.heap.size]? = some (.cells #[.int .i64 0, .int .u64 0, .string ⟨#[]⟩, .slice none 0 0, .slice none 0 0] 50 (0, 0))) := (hg5.block _ (lt_of_block XR4.out) (by simp; omega)).trans XR4.out
    have G6 : Hid (w.grownBy W6 (some p)) := grown_trans G4.out hg5
    clear z0 z1 z2 z3 z4 g0 g1 g2 g3 g4 v0 v1 v2 v3 v4 h0 h1 h2 h3 h4 y0 y1 y2 y3 f0 f1 f2 f3
    clear hg5 RA4 XR4 YV4 G4 HO4
    have HLL : Hid ((r1.take k.toNat : List UInt8).length = k.toNat) := by show _ = _; rw [List.length_take]; exact Nat.min_eq_left HK2.out
    have HC : Hid (Calls Try.prog 56 #[.pointer (some ⟨p, 0, none⟩), .int .i64 (k.toNat : Int)] W6.drew fun e w3 => ∃ y, e = .returned y ∧ (W6.grownBy w3 (some p) ∧ ∃ a' c', y = .slice a' (k.toNat) c' ∧ LayB w3 a' (r1.take k.toNat) ∧ RAt w3 p a c bs (r1.drop k.toNat, q + 1))) := (rtake_any k.toNat p a c bs (r1, q + 1) W6.drew (RA5.out.same rfl) (hO5.out.below (Below_drewN _ _ 1)) (by omega)).mono fun e w3 hp => by
      obtain ⟨hg, ⟨h1, h2, h3⟩ | ⟨h1, h2, a', c', h3, h4⟩⟩ := hp
      · exact absurd h1 (by have := HK2.out; simp only; omega)
      · exact ⟨_, h3, ⟨hg.os, hg.tape, hg.output, hg.size, hg.block⟩, a', c', rfl, h4, h2⟩
    obtain ⟨v0, v1, v2, v3, v4, h0, h1, h2, h3, h4⟩ := box_cells YV6.out
    have HYV : Hid (∀ w', W6.grownBy w' (some p) → w'.heap[V0]? = some (.cells #[.int .i64 0, .int .u64 0, .string ⟨#[]⟩, .slice none 0 0, .slice none 0 0] 50 (0, 0))) := fun w' hg => (hg.block _ (lt_of_block YV6.out) (by simp; omega)).trans YV6.out
    have HS : Hid (∀ w' a' c', LayB w' a' (r1.take k.toNat) → Sem.run Try.prog (convert 25 9 (.slice a' k.toNat c')) w' = .ok (.string ⟨(r1.take k.toNat).toArray⟩) w') := fun w' a' c' h => by
      have := run_str (c := c') h
      rw [HLL.out] at this
      exact this
    go_wp2_with fail
    go_region_law (refine step_call2 rfl 56 (by intros; go_simp) _ _ _ rfl (.pointer (some ⟨p, 0, none⟩)) (.int .i64 (k.toNat : Int)) (by first | (simp [Act.eval]; done) | simp [Act.eval, Act.put]) (by first | (simp [Act.eval]; done) | simp [Act.eval, Act.put]) _ HC.out ?_; intro y w3 hR; obtain ⟨hg3, a', c', rfl, hL3, hP3⟩ := hR; have hS3 := HS.out w3 a' c' hL3; have hS4 := HS.out _ a' c' (hL3.apart (HYV.out w3 hg3) (.int .i64 3)); obtain ⟨t0, t1, t2, t3, t4, s0, s1, s2, s3, s4⟩ := box_cells (HYV.out w3 hg3))
    all_goals
      have Y7 : ((w3.setCell ⟨V0, 0, none⟩ (.int .i64 3)).setCell ⟨V0, 2, none⟩ (.string ⟨(r1.take k.toNat).toArray⟩)).heap[V0]? = some (.cells #[.int .i64 3, .int .u64 0, .string ⟨(r1.take k.toNat).toArray⟩, .slice none 0 0, .slice none 0 0] 50 (0, 0)) := by
        have q0 := set_one_cell (o := 0) (HYV.out w3 hg3) (.int .i64 3)
        have q1 := set_one_cell (o := 2) q0 (.string ⟨(r1.take k.toNat).toArray⟩)
        rw [q1]
        simp
      have kp7 : ∀ j, j ≠ V0 → ((w3.setCell ⟨V0, 0, none⟩ (.int .i64 3)).setCell ⟨V0, 2, none⟩ (.string ⟨(r1.take k.toNat).toArray⟩)).heap[j]? = w3.heap[j]? := fun j hk => by rw [Below.heap_setCell _ _ _ _ hk, Below.heap_setCell _ _ _ _ hk]
      have X7 : ((w3.setCell ⟨V0, 0, none⟩ (.int .i64 3)).setCell ⟨V0, 2, none⟩ (.string ⟨(r1.take k.toNat).toArray⟩)).heap[w.heap.size]? = some (.cells #[.int .i64 0, .int .u64 0, .string ⟨#[]⟩, .slice none 0 0, .slice none 0 0] 50 (0, 0)) := (kp7 _ (by omega)).trans ((hg3.block _ (lt_of_block XR6.out) (by simp; omega)).trans XR6.out)
      have g7 := grown_trans G6.out hg3
      have G7 : Hid (w.grownBy ((w3.setCell ⟨V0, 0, none⟩ (.int .i64 3)).setCell ⟨V0, 2, none⟩ (.string ⟨(r1.take k.toNat).toArray⟩)) (some p)) := ⟨by simpa [World.setCell] using g7.os, by simpa [World.setCell] using g7.tape, by simpa [World.setCell] using g7.output, by simpa [World.setCell] using g7.size, fun k hk hn => (kp7 k (by omega)).trans (g7.block k hk hn)⟩
      have KP : Hid (RAt ((w3.setCell ⟨V0, 0, none⟩ (.int .i64 3)).setCell ⟨V0, 2, none⟩ (.string ⟨(r1.take k.toNat).toArray⟩)) p a c bs (r1.drop k.toNat, q + 1)) := hP3.same (kp7 _ (by omega))
      clear v0 v1 v2 v3 v4 h0 h1 h2 h3 h4 t0 t1 t2 t3 t4 s0 s1 s2 s3 s4 hg3 hP3 hL3 hS3 hS4 kp7 g7
      generalize ((w3.setCell ⟨V0, 0, none⟩ (.int .i64 3)).setCell ⟨V0, 2, none⟩ (.string ⟨(r1.take k.toNat).toArray⟩)) = W7 at *
      obtain ⟨v0, v1, v2, v3, v4, h0, h1, h2, h3, h4⟩ := box_cells Y7
      obtain ⟨z0, z1, z2, z3, z4, g0, g1, g2, g3, g4⟩ := box_cells X7
      clear Y7 X7
      go_wp2_with fail
      refine bodyPost_ret (v := mk 3 0 ⟨(r1.take k.toNat).toArray⟩ none 0 0 none 0 0) (by simp [results, Try.results40, go_sem, z0, z1, z2, z3, z4]) rfl ?_
      obtain ⟨e1, e2, e3, e4, e5⟩ := five_fin W7 w.heap.size (.int .i64 3) (.int .u64 0) (.string ⟨(r1.take k.toNat).toArray⟩) (.slice none 0 0) (.slice none 0 0)
      generalize (((((W7.setCell ⟨w.heap.size, 0, none⟩ (.int .i64 3)).setCell ⟨w.heap.size, 1, none⟩ (.int .u64 0)).setCell ⟨w.heap.size, 2, none⟩ (.string ⟨(r1.take k.toNat).toArray⟩)).setCell ⟨w.heap.size, 3, none⟩ (.slice none 0 0)).setCell ⟨w.heap.size, 4, none⟩ (.slice none 0 0)) = W8 at *
      have hg8 : w.grownBy W8 (some p) := ⟨e3.trans G7.out.os, e4.trans G7.out.tape, e5.trans G7.out.output, by have := G7.out.size; omega, fun k hk hn => (e1 k (by omega)).trans (G7.out.block k hk hn)⟩
      exact ⟨hg8, Or.inr ⟨_, _, HRR.out, KP.out.same (e1 p (by omega)), _, _, rfl, own_leaf W8 n (by omega) (by omega) (by have h1 := HLL.out; have h2 := HK.out; simp only [ByteArray.size, List.size_toArray]; omega), fun b hb => hb.elim⟩⟩


end Go.Proofs.Ytfdbhojghkdlkaa
