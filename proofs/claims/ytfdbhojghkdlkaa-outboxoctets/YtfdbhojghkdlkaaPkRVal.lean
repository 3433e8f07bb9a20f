/-
  The page's reader: a value.
-/
import Derived.Test.YtfdbhojghkdlkaaPkRRec
namespace Go.Proofs.Ytfdbhojghkdlkaa
open Go.ChangeShapes Go.WideShapes Go.ChangeAt Go.RowKit
open Fl

set_option maxRecDepth 100000 in
set_option maxHeartbeats 3200000 in
theorem rvalue_deep (p : Nat) (a : Option Addr) (c : Nat) (bs l : List UInt8) (q : Nat) (d : Int) (w : World) (h : RAt w p a c bs (l, q)) (ho : Oct w a c bs) (hb : q + l.length ≤ 281474976710656) (hd : d = 9) :
    Calls Try.prog 40 #[.pointer (some ⟨p, 0, none⟩), .int .i64 d] w (VPost 0 (rd 0 (l, q)) p a c bs w) := by
  subst hd
  have HRR : Hid (rd 0 (l, q) = .error 10) := rfl
  have hp : p < w.heap.size := by obtain ⟨i, _, _, h3⟩ := h; exact lt_of_block h3
  have RA1 : Hid (RAt (w.alloc (.cells #[.int .i64 0, .int .u64 0, .string ⟨#[]⟩, .slice none 0 0, .slice none 0 0] 50)) p a c bs (l, q)) := h.same (Below.heap_alloc _ _ _ hp)
  have HO1 : Hid (Oct (w.alloc (.cells #[.int .i64 0, .int .u64 0, .string ⟨#[]⟩, .slice none 0 0, .slice none 0 0] 50)) a c bs) := ho.below (below_one _ _)
  have XR0 : Hid ((w.alloc (.cells #[.int .i64 0, .int .u64 0, .string ⟨#[]⟩, .slice none 0 0, .slice none 0 0] 50)).heap[w.heap.size]? = some (.cells #[.int .i64 0, .int .u64 0, .string ⟨#[]⟩, .slice none 0 0, .slice none 0 0] 50 (0, 0))) := heap_alloc_new _ _
  have B1 : Hid (w.grownBy (w.alloc (.cells #[.int .i64 0, .int .u64 0, .string ⟨#[]⟩, .slice none 0 0, .slice none 0 0] 50)) (some p)) := grown_of_below (below_one _ _)
  have HPW : Hid (p < w.heap.size) := hp
  have HQ : Hid (q + l.length ≤ 281474976710656) := hb
  clear h ho hp hb
  go_enter Try.func40, Try.ntmps40
  go_upto_region 1 with fail
  generalize w.alloc (.cells #[.int .i64 0, .int .u64 0, .string ⟨#[]⟩, .slice none 0 0, .slice none 0 0] 50) = W0 at *
  go_wp2_with fail
  refine (rfail_set p a c bs (l, q) 10 W0 RA1.out (by decide)).mono ?_
  rintro e W1 ⟨rfl, hg1, hE1⟩
  have HE1 : Hid (RErr W1 p 281474976710657 10) := hE1.mono (by have := HQ.out; (try simp only at this ⊢); omega)
  have G1 : Hid (w.grownBy W1 (some p)) := grown_trans B1.out hg1
  have XR1 : Hid (W1.heap[w.heap.size]? = some (.cells #[.int .i64 0, .int .u64 0, .string ⟨#[]⟩, .slice none 0 0, .slice none 0 0] 50 (0, 0))) := (hg1.block _ (lt_of_block XR0.out) (by have := HPW.out; simp; omega)).trans XR0.out
  clear hg1 hE1 RA1 XR0 B1 HO1
  go_wp2_with fail
  refine (roctet_err p _ _ W1 HE1.out).mono ?_
  rintro e w2 ⟨rfl, hw2⟩
  subst w2
  go_wp2_with fail
  refine (rfail_err p _ _ _ _ W1 HE1.out).mono ?_
  rintro e w2 ⟨rfl, hw2⟩
  subst w2
  obtain ⟨q0, hq0, x2, x3, f2, hne, hne', hE2⟩ := HE1.out.more
  have HE2 : Hid (RErr _ p (281474976710657 + 1) (10 : Int)) := hE2
  have hq0' : q0 ≤ 281474976710657 := hq0
  clear hq0 hne
  clear hE2
  go_upto_region 6 with fail
  have hpW : p < W1.heap.size := lt_of_cell x2
  have hpw := HPW.out
  have hsz : (W1.setCell ⟨p, 2, none⟩ (.int .i64 ((q0 : Int) + 1))).heap.size = W1.heap.size := by simp [World.setCell]
  have bA := below_one (W1.setCell ⟨p, 2, none⟩ (.int .i64 ((q0 : Int) + 1))) (.cells #[.int .i64 0, .int .u64 0, .string ⟨#[]⟩, .slice none 0 0, .slice none 0 0] 50)
  have HE3 : Hid (RErr ((W1.setCell ⟨p, 2, none⟩ (.int .i64 ((q0 : Int) + 1))).alloc (.cells #[.int .i64 0, .int .u64 0, .string ⟨#[]⟩, .slice none 0 0, .slice none 0 0] 50)) p (281474976710657 + 1) (10 : Int)) := HE2.out.same (bA.block p (by rw [hsz]; exact hpW))
  have XR3 : Hid (((W1.setCell ⟨p, 2, none⟩ (.int .i64 ((q0 : Int) + 1))).alloc (.cells #[.int .i64 0, .int .u64 0, .string ⟨#[]⟩, .slice none 0 0, .slice none 0 0] 50)).heap[w.heap.size]? = some (.cells #[.int .i64 0, .int .u64 0, .string ⟨#[]⟩, .slice none 0 0, .slice none 0 0] 50 (0, 0))) := (bA.block _ (by rw [hsz]; exact lt_of_block XR1.out)).trans ((Below.heap_setCell _ _ _ _ (by simp only; omega)).trans XR1.out)
  have YV3 : Hid (((W1.setCell ⟨p, 2, none⟩ (.int .i64 ((q0 : Int) + 1))).alloc (.cells #[.int .i64 0, .int .u64 0, .string ⟨#[]⟩, .slice none 0 0, .slice none 0 0] 50)).heap[W1.heap.size]? = some (.cells #[.int .i64 0, .int .u64 0, .string ⟨#[]⟩, .slice none 0 0, .slice none 0 0] 50 (0, 0))) := by
    have := heap_alloc_new (W1.setCell ⟨p, 2, none⟩ (.int .i64 ((q0 : Int) + 1))) (.cells #[.int .i64 0, .int .u64 0, .string ⟨#[]⟩, .slice none 0 0, .slice none 0 0] 50)
    rw [hsz] at this
    exact this
  have G3 : Hid (w.grownBy ((W1.setCell ⟨p, 2, none⟩ (.int .i64 ((q0 : Int) + 1))).alloc (.cells #[.int .i64 0, .int .u64 0, .string ⟨#[]⟩, .slice none 0 0, .slice none 0 0] 50)) (some p)) := grown_below (grown_trans G1.out (grown_set _)) bA
  clear bA hsz x2 x3 f2 HE2
  generalize ((W1.setCell ⟨p, 2, none⟩ (.int .i64 ((q0 : Int) + 1))).alloc (.cells #[.int .i64 0, .int .u64 0, .string ⟨#[]⟩, .slice none 0 0, .slice none 0 0] 50)) = W3 at *
  obtain ⟨z0, z1, z2, z3, z4, g0, g1, g2, g3, g4⟩ := box_cells XR3.out
  obtain ⟨v0, v1, v2, v3, v4, -⟩ := box_cells YV3.out
  obtain ⟨_, _, _, x3, _, _, _, _⟩ := HE3.out.more
  go_wp2_with fail
  refine bodyPost_ret (v := mk 0 0 ⟨#[]⟩ none 0 0 none 0 0) (by simp [results, Try.results40, go_sem, z0, z1, z2, z3, z4]) rfl ?_
  obtain ⟨e1, e2, e3, e4, e5⟩ := five_fin W3 w.heap.size (.int .i64 0) (.int .u64 0) (.string ⟨#[]⟩) (.slice none 0 0) (.slice none 0 0)
  generalize (((((W3.setCell ⟨w.heap.size, 0, none⟩ (.int .i64 0)).setCell ⟨w.heap.size, 1, none⟩ (.int .u64 0)).setCell ⟨w.heap.size, 2, none⟩ (.string ⟨#[]⟩)).setCell ⟨w.heap.size, 3, none⟩ (.slice none 0 0)).setCell ⟨w.heap.size, 4, none⟩ (.slice none 0 0)) = W5 at *
  exact ⟨⟨e3.trans G3.out.os, e4.trans G3.out.tape, e5.trans G3.out.output, by have := G3.out.size; omega, fun k hk hn => (e1 k (by omega)).trans (G3.out.block k hk hn)⟩, Or.inl ⟨(10 : Int), HRR.out, (HE3.out.mono (by decide)).same (e1 p (by omega)), _, rfl, _, _, _, _, _, _, _, _, _, rfl⟩⟩

set_option maxRecDepth 100000 in
set_option maxHeartbeats 3200000 in
theorem rvalue_short (p : Nat) (a : Option Addr) (c : Nat) (bs l : List UInt8) (q : Nat) (d : Int) (w : World) (h : RAt w p a c bs (l, q)) (ho : Oct w a c bs) (hb : q + l.length ≤ 281474976710656) (n : Nat) (hd : d ≤ 8) (hl : l = []) :
    Calls Try.prog 40 #[.pointer (some ⟨p, 0, none⟩), .int .i64 d] w (VPost (n + 1) (rd (n + 1) (l, q)) p a c bs w) := by
  have HRR : Hid (rd (n + 1) (l, q) = .error 8) := by show _ = _; rw [hl]; rfl
  have hd8 : decide ((8 : Int) < d) = false := by simp; omega
  have HLN : Hid (l = []) := hl
  clear hl hd
  have hp : p < w.heap.size := by obtain ⟨i, _, _, h3⟩ := h; exact lt_of_block h3
  have RA1 : Hid (RAt (w.alloc (.cells #[.int .i64 0, .int .u64 0, .string ⟨#[]⟩, .slice none 0 0, .slice none 0 0] 50)) p a c bs (l, q)) := h.same (Below.heap_alloc _ _ _ hp)
  have HO1 : Hid (Oct (w.alloc (.cells #[.int .i64 0, .int .u64 0, .string ⟨#[]⟩, .slice none 0 0, .slice none 0 0] 50)) a c bs) := ho.below (below_one _ _)
  have XR0 : Hid ((w.alloc (.cells #[.int .i64 0, .int .u64 0, .string ⟨#[]⟩, .slice none 0 0, .slice none 0 0] 50)).heap[w.heap.size]? = some (.cells #[.int .i64 0, .int .u64 0, .string ⟨#[]⟩, .slice none 0 0, .slice none 0 0] 50 (0, 0))) := heap_alloc_new _ _
  have B1 : Hid (w.grownBy (w.alloc (.cells #[.int .i64 0, .int .u64 0, .string ⟨#[]⟩, .slice none 0 0, .slice none 0 0] 50)) (some p)) := grown_of_below (below_one _ _)
  have HPW : Hid (p < w.heap.size) := hp
  have HQ : Hid (q + l.length ≤ 281474976710656) := hb
  clear h ho hp hb
  go_enter Try.func40, Try.ntmps40
  go_upto_region 1 with fail
  generalize w.alloc (.cells #[.int .i64 0, .int .u64 0, .string ⟨#[]⟩, .slice none 0 0, .slice none 0 0] 50) = W0 at *
  go_wp2_with fail
  obtain ⟨i5, hi5, hri5, hblk5⟩ := RA1.out
  clear hi5 hri5
  refine (rfail_no p _ W0 hblk5).mono ?_
  clear hblk5
  rintro e w2 ⟨rfl, hw2⟩
  subst w2
  go_wp2_with fail
  refine (roctet_any p a c bs l q W0 RA1.out HO1.out).mono ?_
  rintro e W1 ⟨hg1, ⟨hl, rfl, hE1⟩ | ⟨o', r', hl, rfl, hA⟩⟩
  rotate_left
  · rw [HLN.out] at hl; cases hl
  have HE1 : Hid (RErr W1 p 281474976710657 8) := hE1.mono (by have := HQ.out; (try simp only at this ⊢); omega)
  have G1 : Hid (w.grownBy W1 (some p)) := grown_trans B1.out hg1
  have XR1 : Hid (W1.heap[w.heap.size]? = some (.cells #[.int .i64 0, .int .u64 0, .string ⟨#[]⟩, .slice none 0 0, .slice none 0 0] 50 (0, 0))) := (hg1.block _ (lt_of_block XR0.out) (by have := HPW.out; simp; omega)).trans XR0.out
  clear hg1 hE1 RA1 XR0 B1 HO1 hl
  go_wp2_with fail
  refine (rfail_err p _ _ _ _ W1 HE1.out).mono ?_
  rintro e w2 ⟨rfl, hw2⟩
  subst w2
  obtain ⟨q0, hq0, x2, x3, f2, hne, hne', hE2⟩ := HE1.out.more
  have HE2 : Hid (RErr _ p (281474976710657 + 1) (8 : Int)) := hE2
  have hq0' : q0 ≤ 281474976710657 := hq0
  clear hq0 hne
  clear hE2
  go_upto_region 6 with fail
  have hpW : p < W1.heap.size := lt_of_cell x2
  have hpw := HPW.out
  have hsz : (W1.setCell ⟨p, 2, none⟩ (.int .i64 ((q0 : Int) + 1))).heap.size = W1.heap.size := by simp [World.setCell]
  have bA := below_one (W1.setCell ⟨p, 2, none⟩ (.int .i64 ((q0 : Int) + 1))) (.cells #[.int .i64 0, .int .u64 0, .string ⟨#[]⟩, .slice none 0 0, .slice none 0 0] 50)
  have HE3 : Hid (RErr ((W1.setCell ⟨p, 2, none⟩ (.int .i64 ((q0 : Int) + 1))).alloc (.cells #[.int .i64 0, .int .u64 0, .string ⟨#[]⟩, .slice none 0 0, .slice none 0 0] 50)) p (281474976710657 + 1) (8 : Int)) := HE2.out.same (bA.block p (by rw [hsz]; exact hpW))
  have XR3 : Hid (((W1.setCell ⟨p, 2, none⟩ (.int .i64 ((q0 : Int) + 1))).alloc (.cells #[.int .i64 0, .int .u64 0, .string ⟨#[]⟩, .slice none 0 0, .slice none 0 0] 50)).heap[w.heap.size]? = some (.cells #[.int .i64 0, .int .u64 0, .string ⟨#[]⟩, .slice none 0 0, .slice none 0 0] 50 (0, 0))) := (bA.block _ (by rw [hsz]; exact lt_of_block XR1.out)).trans ((Below.heap_setCell _ _ _ _ (by simp only; omega)).trans XR1.out)
  have YV3 : Hid (((W1.setCell ⟨p, 2, none⟩ (.int .i64 ((q0 : Int) + 1))).alloc (.cells #[.int .i64 0, .int .u64 0, .string ⟨#[]⟩, .slice none 0 0, .slice none 0 0] 50)).heap[W1.heap.size]? = some (.cells #[.int .i64 0, .int .u64 0, .string ⟨#[]⟩, .slice none 0 0, .slice none 0 0] 50 (0, 0))) := by
    have := heap_alloc_new (W1.setCell ⟨p, 2, none⟩ (.int .i64 ((q0 : Int) + 1))) (.cells #[.int .i64 0, .int .u64 0, .string ⟨#[]⟩, .slice none 0 0, .slice none 0 0] 50)
    rw [hsz] at this
    exact this
  have G3 : Hid (w.grownBy ((W1.setCell ⟨p, 2, none⟩ (.int .i64 ((q0 : Int) + 1))).alloc (.cells #[.int .i64 0, .int .u64 0, .string ⟨#[]⟩, .slice none 0 0, .slice none 0 0] 50)) (some p)) := grown_below (grown_trans G1.out (grown_set _)) bA
  clear bA hsz x2 x3 f2 HE2
  generalize ((W1.setCell ⟨p, 2, none⟩ (.int .i64 ((q0 : Int) + 1))).alloc (.cells #[.int .i64 0, .int .u64 0, .string ⟨#[]⟩, .slice none 0 0, .slice none 0 0] 50)) = W3 at *
  obtain ⟨z0, z1, z2, z3, z4, g0, g1, g2, g3, g4⟩ := box_cells XR3.out
  obtain ⟨v0, v1, v2, v3, v4, -⟩ := box_cells YV3.out
  obtain ⟨_, _, _, x3, _, _, _, _⟩ := HE3.out.more
  go_wp2_with fail
  refine bodyPost_ret (v := mk 0 0 ⟨#[]⟩ none 0 0 none 0 0) (by simp [results, Try.results40, go_sem, z0, z1, z2, z3, z4]) rfl ?_
  obtain ⟨e1, e2, e3, e4, e5⟩ := five_fin W3 w.heap.size (.int .i64 0) (.int .u64 0) (.string ⟨#[]⟩) (.slice none 0 0) (.slice none 0 0)
  generalize (((((W3.setCell ⟨w.heap.size, 0, none⟩ (.int .i64 0)).setCell ⟨w.heap.size, 1, none⟩ (.int .u64 0)).setCell ⟨w.heap.size, 2, none⟩ (.string ⟨#[]⟩)).setCell ⟨w.heap.size, 3, none⟩ (.slice none 0 0)).setCell ⟨w.heap.size, 4, none⟩ (.slice none 0 0)) = W5 at *
  exact ⟨⟨e3.trans G3.out.os, e4.trans G3.out.tape, e5.trans G3.out.output, by have := G3.out.size; omega, fun k hk hn => (e1 k (by omega)).trans (G3.out.block k hk hn)⟩, Or.inl ⟨(8 : Int), HRR.out, (HE3.out.mono (by decide)).same (e1 p (by omega)), _, rfl, _, _, _, _, _, _, _, _, _, rfl⟩⟩

set_option maxRecDepth 100000 in
set_option maxHeartbeats 3200000 in
theorem rvalue_big (p : Nat) (a : Option Addr) (c : Nat) (bs l : List UInt8) (q : Nat) (d : Int) (w : World) (h : RAt w p a c bs (l, q)) (ho : Oct w a c bs) (hb : q + l.length ≤ 281474976710656) (n : Nat) (hd : d ≤ 8) (o : UInt8) (r : List UInt8) (hl : l = o :: r) (ho6 : 6 < o.toNat) :
    Calls Try.prog 40 #[.pointer (some ⟨p, 0, none⟩), .int .i64 d] w (VPost (n + 1) (rd (n + 1) (l, q)) p a c bs w) := by
  have HRR : Hid (rd (n + 1) (l, q) = .error 22) := by
    show _ = _
    rw [hl]
    simp only [rd]
    rw [if_neg (by omega), if_neg (by omega), if_neg (by omega), if_neg (by omega), if_neg (by omega), if_neg (by omega)]
  have hd8 : decide ((8 : Int) < d) = false := by simp; omega
  have h6 : decide ((6 : Int) < (o.toNat : Int)) = true := by simp; omega
  have HLN : Hid (l = o :: r) := hl
  clear hl hd ho6
  have hp : p < w.heap.size := by obtain ⟨i, _, _, h3⟩ := h; exact lt_of_block h3
  have RA1 : Hid (RAt (w.alloc (.cells #[.int .i64 0, .int .u64 0, .string ⟨#[]⟩, .slice none 0 0, .slice none 0 0] 50)) p a c bs (l, q)) := h.same (Below.heap_alloc _ _ _ hp)
  have HO1 : Hid (Oct (w.alloc (.cells #[.int .i64 0, .int .u64 0, .string ⟨#[]⟩, .slice none 0 0, .slice none 0 0] 50)) a c bs) := ho.below (below_one _ _)
  have XR0 : Hid ((w.alloc (.cells #[.int .i64 0, .int .u64 0, .string ⟨#[]⟩, .slice none 0 0, .slice none 0 0] 50)).heap[w.heap.size]? = some (.cells #[.int .i64 0, .int .u64 0, .string ⟨#[]⟩, .slice none 0 0, .slice none 0 0] 50 (0, 0))) := heap_alloc_new _ _
  have B1 : Hid (w.grownBy (w.alloc (.cells #[.int .i64 0, .int .u64 0, .string ⟨#[]⟩, .slice none 0 0, .slice none 0 0] 50)) (some p)) := grown_of_below (below_one _ _)
  have HPW : Hid (p < w.heap.size) := hp
  have HQ : Hid (q + l.length ≤ 281474976710656) := hb
  clear h ho hp hb
  go_enter Try.func40, Try.ntmps40
  go_upto_region 1 with fail
  generalize w.alloc (.cells #[.int .i64 0, .int .u64 0, .string ⟨#[]⟩, .slice none 0 0, .slice none 0 0] 50) = W0 at *
  go_wp2_with fail
  obtain ⟨i5, hi5, hri5, hblk5⟩ := RA1.out
  clear hi5 hri5
  refine (rfail_no p _ W0 hblk5).mono ?_
  clear hblk5
  rintro e w2 ⟨rfl, hw2⟩
  subst w2
  go_wp2_with fail
  refine (roctet_any p a c bs l q W0 RA1.out HO1.out).mono ?_
  rintro e w2 ⟨hg2, ⟨hl, rfl, hE1⟩ | ⟨o', r', hl, rfl, hA⟩⟩
  · rw [HLN.out] at hl; cases hl
  have hl2 := HLN.out.symm.trans hl
  cases hl2
  have RA2 : Hid (RAt w2 p a c bs (r, q)) := hA
  have G2 : Hid (w.grownBy w2 (some p)) := grown_trans B1.out hg2
  have XR2 : Hid (w2.heap[w.heap.size]? = some (.cells #[.int .i64 0, .int .u64 0, .string ⟨#[]⟩, .slice none 0 0, .slice none 0 0] 50 (0, 0))) := (hg2.block _ (lt_of_block XR0.out) (by have := HPW.out; simp; omega)).trans XR0.out
  clear hg2 hA RA1 XR0 B1 HO1 hl
  go_wp2_with fail
  refine (rfail_set p a c bs (r, q) 22 w2 RA2.out (by decide)).mono ?_
  rintro e W1 ⟨rfl, hg1, hE1⟩
  have HE1 : Hid (RErr W1 p 281474976710657 22) := hE1.mono (by have := HQ.out; (try simp only at this ⊢); omega)
  have G1 : Hid (w.grownBy W1 (some p)) := grown_trans G2.out hg1
  have XR1 : Hid (W1.heap[w.heap.size]? = some (.cells #[.int .i64 0, .int .u64 0, .string ⟨#[]⟩, .slice none 0 0, .slice none 0 0] 50 (0, 0))) := (hg1.block _ (lt_of_block XR2.out) (by have := HPW.out; simp; omega)).trans XR2.out
  clear hg1 hE1 RA2 XR2 G2
  obtain ⟨q0, hq0, x2, x3, f2, hne, hne', hE2⟩ := HE1.out.more
  have HE2 : Hid (RErr _ p (281474976710657 + 1) (22 : Int)) := hE2
  have hq0' : q0 ≤ 281474976710657 := hq0
  clear hq0 hne
  clear hE2
  go_upto_region 6 with fail
  have hpW : p < W1.heap.size := lt_of_cell x2
  have hpw := HPW.out
  have hsz : (W1.setCell ⟨p, 2, none⟩ (.int .i64 ((q0 : Int) + 1))).heap.size = W1.heap.size := by simp [World.setCell]
  have bA := below_one (W1.setCell ⟨p, 2, none⟩ (.int .i64 ((q0 : Int) + 1))) (.cells #[.int .i64 0, .int .u64 0, .string ⟨#[]⟩, .slice none 0 0, .slice none 0 0] 50)
  have HE3 : Hid (RErr ((W1.setCell ⟨p, 2, none⟩ (.int .i64 ((q0 : Int) + 1))).alloc (.cells #[.int .i64 0, .int .u64 0, .string ⟨#[]⟩, .slice none 0 0, .slice none 0 0] 50)) p (281474976710657 + 1) (22 : Int)) := HE2.out.same (bA.block p (by rw [hsz]; exact hpW))
  have XR3 : Hid (((W1.setCell ⟨p, 2, none⟩ (.int .i64 ((q0 : Int) + 1))).alloc (.cells #[.int .i64 0, .int .u64 0, .string ⟨#[]⟩, .slice none 0 0, .slice none 0 0] 50)).heap[w.heap.size]? = some (.cells #[.int .i64 0, .int .u64 0, .string ⟨#[]⟩, .slice none 0 0, .slice none 0 0] 50 (0, 0))) := (bA.block _ (by rw [hsz]; exact lt_of_block XR1.out)).trans ((Below.heap_setCell _ _ _ _ (by simp only; omega)).trans XR1.out)
  have YV3 : Hid (((W1.setCell ⟨p, 2, none⟩ (.int .i64 ((q0 : Int) + 1))).alloc (.cells #[.int .i64 0, .int .u64 0, .string ⟨#[]⟩, .slice none 0 0, .slice none 0 0] 50)).heap[W1.heap.size]? = some (.cells #[.int .i64 0, .int .u64 0, .string ⟨#[]⟩, .slice none 0 0, .slice none 0 0] 50 (0, 0))) := by
    have := heap_alloc_new (W1.setCell ⟨p, 2, none⟩ (.int .i64 ((q0 : Int) + 1))) (.cells #[.int .i64 0, .int .u64 0, .string ⟨#[]⟩, .slice none 0 0, .slice none 0 0] 50)
    rw [hsz] at this
    exact this
  have G3 : Hid (w.grownBy ((W1.setCell ⟨p, 2, none⟩ (.int .i64 ((q0 : Int) + 1))).alloc (.cells #[.int .i64 0, .int .u64 0, .string ⟨#[]⟩, .slice none 0 0, .slice none 0 0] 50)) (some p)) := grown_below (grown_trans G1.out (grown_set _)) bA
  clear bA hsz x2 x3 f2 HE2
  generalize ((W1.setCell ⟨p, 2, none⟩ (.int .i64 ((q0 : Int) + 1))).alloc (.cells #[.int .i64 0, .int .u64 0, .string ⟨#[]⟩, .slice none 0 0, .slice none 0 0] 50)) = W3 at *
  obtain ⟨z0, z1, z2, z3, z4, g0, g1, g2, g3, g4⟩ := box_cells XR3.out
  obtain ⟨v0, v1, v2, v3, v4, -⟩ := box_cells YV3.out
  obtain ⟨_, _, _, x3, _, _, _, _⟩ := HE3.out.more
  go_wp2_with fail
  refine bodyPost_ret (v := mk 0 0 ⟨#[]⟩ none 0 0 none 0 0) (by simp [results, Try.results40, go_sem, z0, z1, z2, z3, z4]) rfl ?_
  obtain ⟨e1, e2, e3, e4, e5⟩ := five_fin W3 w.heap.size (.int .i64 0) (.int .u64 0) (.string ⟨#[]⟩) (.slice none 0 0) (.slice none 0 0)
  generalize (((((W3.setCell ⟨w.heap.size, 0, none⟩ (.int .i64 0)).setCell ⟨w.heap.size, 1, none⟩ (.int .u64 0)).setCell ⟨w.heap.size, 2, none⟩ (.string ⟨#[]⟩)).setCell ⟨w.heap.size, 3, none⟩ (.slice none 0 0)).setCell ⟨w.heap.size, 4, none⟩ (.slice none 0 0)) = W5 at *
  exact ⟨⟨e3.trans G3.out.os, e4.trans G3.out.tape, e5.trans G3.out.output, by have := G3.out.size; omega, fun k hk hn => (e1 k (by omega)).trans (G3.out.block k hk hn)⟩, Or.inl ⟨(22 : Int), HRR.out, (HE3.out.mono (by decide)).same (e1 p (by omega)), _, rfl, _, _, _, _, _, _, _, _, _, rfl⟩⟩

/-- A value without keys and items. -/
theorem own_leaf (w : World) (n : Nat) {k b : Int} {t : ByteArray} (h1 : -9223372036854775808 ≤ k ∧ k ≤ 9223372036854775807) (h2 : 0 ≤ b ∧ b < 18446744073709551616) (h3 : t.size ≤ 140737488351232) : Own w (n + 1) (mk k b t none 0 0 none 0 0) (k, b, t, [], []) (fun _ => False) := by
  have := OwnL.part (w := w) (n := n) (k := k) (b := b) (t := t) (ka := none) (ia := none) (kc := 0) (ic := 0) (ks := []) (its := []) (OwnL.nil w n) (OwnK.nil w) (fun b hb => by simp [Value.ownBlock] at hb) h1 h2 h3 (by simp) (by simp) (by simp)
  exact this.more (n + 1) (fun b hb => by simp [Value.ownBlock] at hb)

set_option maxRecDepth 100000 in
set_option maxHeartbeats 3200000 in
theorem rvalue_zero (p : Nat) (a : Option Addr) (c : Nat) (bs l : List UInt8) (q : Nat) (d : Int) (w : World) (h : RAt w p a c bs (l, q)) (ho : Oct w a c bs) (hb : q + l.length ≤ 281474976710656) (n : Nat) (hd : d ≤ 8) (o : UInt8) (r : List UInt8) (hl : l = o :: r) (ho0 : o.toNat = 0) :
    Calls Try.prog 40 #[.pointer (some ⟨p, 0, none⟩), .int .i64 d] w (VPost (n + 1) (rd (n + 1) (l, q)) p a c bs w) := by
  have HRR : Hid (rd (n + 1) (l, q) = .ok ((0, 0, ⟨#[]⟩, [], []), (r, q + 1))) := by
    show _ = _
    rw [hl]
    simp only [rd]
    rw [if_pos ho0]
  have hd8 : decide ((8 : Int) < d) = false := by simp; omega
  have ho0' : (o.toNat : Int) = 0 := by omega
  have HLN : Hid (l = o :: r) := hl
  clear hl hd ho0
  have hp : p < w.heap.size := by obtain ⟨i, _, _, h3⟩ := h; exact lt_of_block h3
  have RA1 : Hid (RAt (w.alloc (.cells #[.int .i64 0, .int .u64 0, .string ⟨#[]⟩, .slice none 0 0, .slice none 0 0] 50)) p a c bs (l, q)) := h.same (Below.heap_alloc _ _ _ hp)
  have HO1 : Hid (Oct (w.alloc (.cells #[.int .i64 0, .int .u64 0, .string ⟨#[]⟩, .slice none 0 0, .slice none 0 0] 50)) a c bs) := ho.below (below_one _ _)
  have XR0 : Hid ((w.alloc (.cells #[.int .i64 0, .int .u64 0, .string ⟨#[]⟩, .slice none 0 0, .slice none 0 0] 50)).heap[w.heap.size]? = some (.cells #[.int .i64 0, .int .u64 0, .string ⟨#[]⟩, .slice none 0 0, .slice none 0 0] 50 (0, 0))) := heap_alloc_new _ _
  have B1 : Hid (w.grownBy (w.alloc (.cells #[.int .i64 0, .int .u64 0, .string ⟨#[]⟩, .slice none 0 0, .slice none 0 0] 50)) (some p)) := grown_of_below (below_one _ _)
  have HPW : Hid (p < w.heap.size) := hp
  have HQ : Hid (q + l.length ≤ 281474976710656) := hb
  clear h ho hp hb
  go_enter Try.func40, Try.ntmps40
  go_upto_region 1 with fail
  generalize w.alloc (.cells #[.int .i64 0, .int .u64 0, .string ⟨#[]⟩, .slice none 0 0, .slice none 0 0] 50) = W0 at *
  go_wp2_with fail
  obtain ⟨i5, hi5, hri5, hblk5⟩ := RA1.out
  clear hi5 hri5
  refine (rfail_no p _ W0 hblk5).mono ?_
  clear hblk5
  rintro e w2 ⟨rfl, hw2⟩
  subst w2
  go_wp2_with fail
  refine (roctet_any p a c bs l q W0 RA1.out HO1.out).mono ?_
  rintro e w2 ⟨hg2, ⟨hl, rfl, hE1⟩ | ⟨o', r', hl, rfl, hA⟩⟩
  · rw [HLN.out] at hl; cases hl
  have hl2 := HLN.out.symm.trans hl
  cases hl2
  have RA2 : Hid (RAt w2 p a c bs (r, q)) := hA
  have G2 : Hid (w.grownBy w2 (some p)) := grown_trans B1.out hg2
  have XR2 : Hid (w2.heap[w.heap.size]? = some (.cells #[.int .i64 0, .int .u64 0, .string ⟨#[]⟩, .slice none 0 0, .slice none 0 0] 50 (0, 0))) := (hg2.block _ (lt_of_block XR0.out) (by have := HPW.out; simp; omega)).trans XR0.out
  have HO2 : Hid (Oct w2 a c bs) := HO1.out.grown4 RA1.out hg2
  clear hg2 hA RA1 XR0 B1 HO1 hl
  go_wp2_with fail
  obtain ⟨i5, hi5, hri5, hblk5⟩ := RA2.out
  refine (rfail_no p _ w2 hblk5).mono ?_
  rintro e w3 ⟨rfl, hw3⟩
  subst w3
  obtain ⟨y0, y1, y2, y3, f0, f1, f2, f3⟩ := rd4_cells hblk5
  have hq0 : q ≤ 281474976710656 := by have := HQ.out; omega
  have RA3 : Hid (RAt (w2.setCell ⟨p, 2, none⟩ (.int .i64 ((q : Int) + 1))) p a c bs (r, q + 1)) := ⟨i5, hi5, hri5, set4_two hblk5 _⟩
  clear hi5 hri5 hblk5
  go_upto_region 6 with fail
  have hpw := HPW.out
  have hww := lt_of_block XR2.out
  have hsz : (w2.setCell ⟨p, 2, none⟩ (.int .i64 ((q : Int) + 1))).heap.size = w2.heap.size := by simp [World.setCell]
  have bA := below_one (w2.setCell ⟨p, 2, none⟩ (.int .i64 ((q : Int) + 1))) (.cells #[.int .i64 0, .int .u64 0, .string ⟨#[]⟩, .slice none 0 0, .slice none 0 0] 50)
  have RA4 : Hid (RAt ((w2.setCell ⟨p, 2, none⟩ (.int .i64 ((q : Int) + 1))).alloc (.cells #[.int .i64 0, .int .u64 0, .string ⟨#[]⟩, .slice none 0 0, .slice none 0 0] 50)) p a c bs (r, q + 1)) := RA3.out.same (bA.block p (by rw [hsz]; omega))
  have XR4 : Hid (((w2.setCell ⟨p, 2, none⟩ (.int .i64 ((q : Int) + 1))).alloc (.cells #[.int .i64 0, .int .u64 0, .string ⟨#[]⟩, .slice none 0 0, .slice none 0 0] 50)).heap[w.heap.size]? = some (.cells #[.int .i64 0, .int .u64 0, .string ⟨#[]⟩, .slice none 0 0, .slice none 0 0] 50 (0, 0))) := (bA.block _ (by rw [hsz]; exact hww)).trans ((Below.heap_setCell _ _ _ _ (by simp only; omega)).trans XR2.out)
  have YV4 : Hid (((w2.setCell ⟨p, 2, none⟩ (.int .i64 ((q : Int) + 1))).alloc (.cells #[.int .i64 0, .int .u64 0, .string ⟨#[]⟩, .slice none 0 0, .slice none 0 0] 50)).heap[w2.heap.size]? = some (.cells #[.int .i64 0, .int .u64 0, .string ⟨#[]⟩, .slice none 0 0, .slice none 0 0] 50 (0, 0))) := by
    have := heap_alloc_new (w2.setCell ⟨p, 2, none⟩ (.int .i64 ((q : Int) + 1))) (.cells #[.int .i64 0, .int .u64 0, .string ⟨#[]⟩, .slice none 0 0, .slice none 0 0] 50)
    rw [hsz] at this
    exact this
  have G4 : Hid (w.grownBy ((w2.setCell ⟨p, 2, none⟩ (.int .i64 ((q : Int) + 1))).alloc (.cells #[.int .i64 0, .int .u64 0, .string ⟨#[]⟩, .slice none 0 0, .slice none 0 0] 50)) (some p)) := grown_below (grown_trans G2.out (grown_set _)) bA
  have HO4 : Hid (Oct ((w2.setCell ⟨p, 2, none⟩ (.int .i64 ((q : Int) + 1))).alloc (.cells #[.int .i64 0, .int .u64 0, .string ⟨#[]⟩, .slice none 0 0, .slice none 0 0] 50)) a c bs) := (HO2.out.grown4 RA2.out (grown_set _)).below bA
  have HQ4 : Hid (q + 1 + r.length ≤ 281474976710656) := by show _ ≤ _; have := HQ.out; rw [HLN.out] at this; simp only [List.length_cons] at this; omega
  have HV2 : Hid (w.heap.size < w2.heap.size) := hww
  clear bA hsz RA3 RA2 XR2 G2 HO2 y0 y1 y2 y3 f0 f1 f2 f3
  generalize ((w2.setCell ⟨p, 2, none⟩ (.int .i64 ((q : Int) + 1))).alloc (.cells #[.int .i64 0, .int .u64 0, .string ⟨#[]⟩, .slice none 0 0, .slice none 0 0] 50)) = W4 at *
  generalize w2.heap.size = V0 at *
  obtain ⟨z0, z1, z2, z3, z4, g0, g1, g2, g3, g4⟩ := box_cells XR4.out
  obtain ⟨v0, v1, v2, v3, v4, h0, h1, h2, h3, h4⟩ := box_cells YV4.out
  obtain ⟨i5, hi5, hri5, hblk5⟩ := RA4.out
  obtain ⟨y0, y1, y2, y3, f0, f1, f2, f3⟩ := rd4_cells hblk5
  clear hi5 hri5 hblk5
  go_wp2_with fail
  refine bodyPost_ret (v := mk 0 0 ⟨#[]⟩ none 0 0 none 0 0) (by simp [results, Try.results40, go_sem, z0, z1, z2, z3, z4]) rfl ?_
  obtain ⟨e1, e2, e3, e4, e5⟩ := five_fin W4 w.heap.size (.int .i64 0) (.int .u64 0) (.string ⟨#[]⟩) (.slice none 0 0) (.slice none 0 0)
  generalize (((((W4.setCell ⟨w.heap.size, 0, none⟩ (.int .i64 0)).setCell ⟨w.heap.size, 1, none⟩ (.int .u64 0)).setCell ⟨w.heap.size, 2, none⟩ (.string ⟨#[]⟩)).setCell ⟨w.heap.size, 3, none⟩ (.slice none 0 0)).setCell ⟨w.heap.size, 4, none⟩ (.slice none 0 0)) = W5 at *
  exact ⟨⟨e3.trans G4.out.os, e4.trans G4.out.tape, e5.trans G4.out.output, by have := G4.out.size; omega, fun k hk hn => (e1 k (by omega)).trans (G4.out.block k hk hn)⟩, Or.inr ⟨_, _, HRR.out, RA4.out.same (e1 p (by omega)), _, _, rfl, own_leaf W5 n (by omega) (by omega) (by decide), fun b hb => hb.elim⟩⟩

set_option maxRecDepth 100000 in
set_option maxHeartbeats 3200000 in
theorem rvalue_bool1 (p : Nat) (a : Option Addr) (c : Nat) (bs l : List UInt8) (q : Nat) (d : Int) (w : World) (h : RAt w p a c bs (l, q)) (ho : Oct w a c bs) (hb : q + l.length ≤ 281474976710656) (n : Nat) (hd : d ≤ 8) (o : UInt8) (r : List UInt8) (hl : l = o :: r) (ho0 : o.toNat = 1) :
    Calls Try.prog 40 #[.pointer (some ⟨p, 0, none⟩), .int .i64 d] w (VPost (n + 1) (rd (n + 1) (l, q)) p a c bs w) := by
  have HRR : Hid (rd (n + 1) (l, q) = .ok ((1, 0, ⟨#[]⟩, [], []), (r, q + 1))) := by
    show _ = _
    rw [hl]
    simp only [rd]
    rw [if_neg (by omega), if_pos (by omega), ho0]
    rfl
  have hd8 : decide ((8 : Int) < d) = false := by simp; omega
  have ho0' : (o.toNat : Int) = 1 := by omega
  have HLN : Hid (l = o :: r) := hl
  clear hl hd ho0
  have hp : p < w.heap.size := by obtain ⟨i, _, _, h3⟩ := h; exact lt_of_block h3
  have RA1 : Hid (RAt (w.alloc (.cells #[.int .i64 0, .int .u64 0, .string ⟨#[]⟩, .slice none 0 0, .slice none 0 0] 50)) p a c bs (l, q)) := h.same (Below.heap_alloc _ _ _ hp)
  have HO1 : Hid (Oct (w.alloc (.cells #[.int .i64 0, .int .u64 0, .string ⟨#[]⟩, .slice none 0 0, .slice none 0 0] 50)) a c bs) := ho.below (below_one _ _)
  have XR0 : Hid ((w.alloc (.cells #[.int .i64 0, .int .u64 0, .string ⟨#[]⟩, .slice none 0 0, .slice none 0 0] 50)).heap[w.heap.size]? = some (.cells #[.int .i64 0, .int .u64 0, .string ⟨#[]⟩, .slice none 0 0, .slice none 0 0] 50 (0, 0))) := heap_alloc_new _ _
  have B1 : Hid (w.grownBy (w.alloc (.cells #[.int .i64 0, .int .u64 0, .string ⟨#[]⟩, .slice none 0 0, .slice none 0 0] 50)) (some p)) := grown_of_below (below_one _ _)
  have HPW : Hid (p < w.heap.size) := hp
  have HQ : Hid (q + l.length ≤ 281474976710656) := hb
  clear h ho hp hb
  go_enter Try.func40, Try.ntmps40
  go_upto_region 1 with fail
  generalize w.alloc (.cells #[.int .i64 0, .int .u64 0, .string ⟨#[]⟩, .slice none 0 0, .slice none 0 0] 50) = W0 at *
  go_wp2_with fail
  obtain ⟨i5, hi5, hri5, hblk5⟩ := RA1.out
  clear hi5 hri5
  refine (rfail_no p _ W0 hblk5).mono ?_
  clear hblk5
  rintro e w2 ⟨rfl, hw2⟩
  subst w2
  go_wp2_with fail
  refine (roctet_any p a c bs l q W0 RA1.out HO1.out).mono ?_
  rintro e w2 ⟨hg2, ⟨hl, rfl, hE1⟩ | ⟨o', r', hl, rfl, hA⟩⟩
  · rw [HLN.out] at hl; cases hl
  have hl2 := HLN.out.symm.trans hl
  cases hl2
  have RA2 : Hid (RAt w2 p a c bs (r, q)) := hA
  have G2 : Hid (w.grownBy w2 (some p)) := grown_trans B1.out hg2
  have XR2 : Hid (w2.heap[w.heap.size]? = some (.cells #[.int .i64 0, .int .u64 0, .string ⟨#[]⟩, .slice none 0 0, .slice none 0 0] 50 (0, 0))) := (hg2.block _ (lt_of_block XR0.out) (by have := HPW.out; simp; omega)).trans XR0.out
  have HO2 : Hid (Oct w2 a c bs) := HO1.out.grown4 RA1.out hg2
  clear hg2 hA RA1 XR0 B1 HO1 hl
  go_wp2_with fail
  obtain ⟨i5, hi5, hri5, hblk5⟩ := RA2.out
  refine (rfail_no p _ w2 hblk5).mono ?_
  rintro e w3 ⟨rfl, hw3⟩
  subst w3
  obtain ⟨y0, y1, y2, y3, f0, f1, f2, f3⟩ := rd4_cells hblk5
  have hq0 : q ≤ 281474976710656 := by have := HQ.out; omega
  have RA3 : Hid (RAt (w2.setCell ⟨p, 2, none⟩ (.int .i64 ((q : Int) + 1))) p a c bs (r, q + 1)) := ⟨i5, hi5, hri5, set4_two hblk5 _⟩
  clear hi5 hri5 hblk5
  go_upto_region 6 with fail
  have hpw := HPW.out
  have hww := lt_of_block XR2.out
  have hsz : (w2.setCell ⟨p, 2, none⟩ (.int .i64 ((q : Int) + 1))).heap.size = w2.heap.size := by simp [World.setCell]
  have bA := below_one (w2.setCell ⟨p, 2, none⟩ (.int .i64 ((q : Int) + 1))) (.cells #[.int .i64 0, .int .u64 0, .string ⟨#[]⟩, .slice none 0 0, .slice none 0 0] 50)
  have RA4 : Hid (RAt ((w2.setCell ⟨p, 2, none⟩ (.int .i64 ((q : Int) + 1))).alloc (.cells #[.int .i64 0, .int .u64 0, .string ⟨#[]⟩, .slice none 0 0, .slice none 0 0] 50)) p a c bs (r, q + 1)) := RA3.out.same (bA.block p (by rw [hsz]; omega))
  have XR4 : Hid (((w2.setCell ⟨p, 2, none⟩ (.int .i64 ((q : Int) + 1))).alloc (.cells #[.int .i64 0, .int .u64 0, .string ⟨#[]⟩, .slice none 0 0, .slice none 0 0] 50)).heap[w.heap.size]? = some (.cells #[.int .i64 0, .int .u64 0, .string ⟨#[]⟩, .slice none 0 0, .slice none 0 0] 50 (0, 0))) := (bA.block _ (by rw [hsz]; exact hww)).trans ((Below.heap_setCell _ _ _ _ (by simp only; omega)).trans XR2.out)
  have YV4 : Hid (((w2.setCell ⟨p, 2, none⟩ (.int .i64 ((q : Int) + 1))).alloc (.cells #[.int .i64 0, .int .u64 0, .string ⟨#[]⟩, .slice none 0 0, .slice none 0 0] 50)).heap[w2.heap.size]? = some (.cells #[.int .i64 0, .int .u64 0, .string ⟨#[]⟩, .slice none 0 0, .slice none 0 0] 50 (0, 0))) := by
    have := heap_alloc_new (w2.setCell ⟨p, 2, none⟩ (.int .i64 ((q : Int) + 1))) (.cells #[.int .i64 0, .int .u64 0, .string ⟨#[]⟩, .slice none 0 0, .slice none 0 0] 50)
    rw [hsz] at this
    exact this
  have G4 : Hid (w.grownBy ((w2.setCell ⟨p, 2, none⟩ (.int .i64 ((q : Int) + 1))).alloc (.cells #[.int .i64 0, .int .u64 0, .string ⟨#[]⟩, .slice none 0 0, .slice none 0 0] 50)) (some p)) := grown_below (grown_trans G2.out (grown_set _)) bA
  have HO4 : Hid (Oct ((w2.setCell ⟨p, 2, none⟩ (.int .i64 ((q : Int) + 1))).alloc (.cells #[.int .i64 0, .int .u64 0, .string ⟨#[]⟩, .slice none 0 0, .slice none 0 0] 50)) a c bs) := (HO2.out.grown4 RA2.out (grown_set _)).below bA
  have HQ4 : Hid (q + 1 + r.length ≤ 281474976710656) := by show _ ≤ _; have := HQ.out; rw [HLN.out] at this; simp only [List.length_cons] at this; omega
  have HV2 : Hid (w.heap.size < w2.heap.size) := hww
  clear bA hsz RA3 RA2 XR2 G2 HO2 y0 y1 y2 y3 f0 f1 f2 f3
  generalize ((w2.setCell ⟨p, 2, none⟩ (.int .i64 ((q : Int) + 1))).alloc (.cells #[.int .i64 0, .int .u64 0, .string ⟨#[]⟩, .slice none 0 0, .slice none 0 0] 50)) = W4 at *
  generalize w2.heap.size = V0 at *
  obtain ⟨z0, z1, z2, z3, z4, g0, g1, g2, g3, g4⟩ := box_cells XR4.out
  obtain ⟨v0, v1, v2, v3, v4, h0, h1, h2, h3, h4⟩ := box_cells YV4.out
  obtain ⟨i5, hi5, hri5, hblk5⟩ := RA4.out
  obtain ⟨y0, y1, y2, y3, f0, f1, f2, f3⟩ := rd4_cells hblk5
  clear hi5 hri5 hblk5
  go_upto_region 23 with fail
  have w0 := W4.heap.size
  have YV5 : Hid (((W4.setCell ⟨V0, 0, none⟩ (.int .i64 1)).setCell ⟨V0, 1, none⟩ (.int .u64 0)).heap[V0]? = some (.cells #[.int .i64 1, .int .u64 0, .string ⟨#[]⟩, .slice none 0 0, .slice none 0 0] 50 (0, 0))) := by
    have q0 := set_one_cell (o := 0) YV4.out (.int .i64 1)
    have q1 := set_one_cell (o := 1) q0 (.int .u64 0)
    show _ = _
    rw [q1]
    simp
  have kp5 : ∀ k, k ≠ V0 → ((W4.setCell ⟨V0, 0, none⟩ (.int .i64 1)).setCell ⟨V0, 1, none⟩ (.int .u64 0)).heap[k]? = W4.heap[k]? := fun k hk => by rw [Below.heap_setCell _ _ _ _ hk, Below.heap_setCell _ _ _ _ hk]
  have hV0 := HV2.out
  have XR5 : Hid (((W4.setCell ⟨V0, 0, none⟩ (.int .i64 1)).setCell ⟨V0, 1, none⟩ (.int .u64 0)).heap[w.heap.size]? = some (.cells #[.int .i64 0, .int .u64 0, .string ⟨#[]⟩, .slice none 0 0, .slice none 0 0] 50 (0, 0))) := (kp5 _ (by omega)).trans XR4.out
  have RA5 : Hid (RAt ((W4.setCell ⟨V0, 0, none⟩ (.int .i64 1)).setCell ⟨V0, 1, none⟩ (.int .u64 0)) p a c bs (r, q + 1)) := RA4.out.same (kp5 _ (by omega))
  have G5 : Hid (w.grownBy ((W4.setCell ⟨V0, 0, none⟩ (.int .i64 1)).setCell ⟨V0, 1, none⟩ (.int .u64 0)) (some p)) := ⟨by simpa [World.setCell] using G4.out.os, by simpa [World.setCell] using G4.out.tape, by simpa [World.setCell] using G4.out.output, by simpa [World.setCell] using G4.out.size, fun k hk hn => (kp5 k (by omega)).trans (G4.out.block k hk hn)⟩
  clear kp5 w0 z0 z1 z2 z3 z4 g0 g1 g2 g3 g4 v0 v1 v2 v3 v4 h0 h1 h2 h3 h4 y0 y1 y2 y3 f0 f1 f2 f3 RA4 XR4 YV4 G4 HO4
  generalize ((W4.setCell ⟨V0, 0, none⟩ (.int .i64 1)).setCell ⟨V0, 1, none⟩ (.int .u64 0)) = W5 at *
  obtain ⟨z0, z1, z2, z3, z4, g0, g1, g2, g3, g4⟩ := box_cells XR5.out
  obtain ⟨v0, v1, v2, v3, v4, h0, h1, h2, h3, h4⟩ := box_cells YV5.out
  go_wp2_with fail
  refine bodyPost_ret (v := mk 1 0 ⟨#[]⟩ none 0 0 none 0 0) (by simp [results, Try.results40, go_sem, z0, z1, z2, z3, z4]) rfl ?_
  obtain ⟨e1, e2, e3, e4, e5⟩ := five_fin W5 w.heap.size (.int .i64 1) (.int .u64 0) (.string ⟨#[]⟩) (.slice none 0 0) (.slice none 0 0)
  generalize (((((W5.setCell ⟨w.heap.size, 0, none⟩ (.int .i64 1)).setCell ⟨w.heap.size, 1, none⟩ (.int .u64 0)).setCell ⟨w.heap.size, 2, none⟩ (.string ⟨#[]⟩)).setCell ⟨w.heap.size, 3, none⟩ (.slice none 0 0)).setCell ⟨w.heap.size, 4, none⟩ (.slice none 0 0)) = W6 at *
  exact ⟨⟨e3.trans G5.out.os, e4.trans G5.out.tape, e5.trans G5.out.output, by have := G5.out.size; omega, fun k hk hn => (e1 k (by omega)).trans (G5.out.block k hk hn)⟩, Or.inr ⟨_, _, HRR.out, RA5.out.same (e1 p (by omega)), _, _, rfl, own_leaf W6 n (by omega) (by omega) (by decide), fun b hb => hb.elim⟩⟩

set_option maxRecDepth 100000 in
set_option maxHeartbeats 3200000 in
theorem rvalue_bool2 (p : Nat) (a : Option Addr) (c : Nat) (bs l : List UInt8) (q : Nat) (d : Int) (w : World) (h : RAt w p a c bs (l, q)) (ho : Oct w a c bs) (hb : q + l.length ≤ 281474976710656) (n : Nat) (hd : d ≤ 8) (o : UInt8) (r : List UInt8) (hl : l = o :: r) (ho0 : o.toNat = 2) :
    Calls Try.prog 40 #[.pointer (some ⟨p, 0, none⟩), .int .i64 d] w (VPost (n + 1) (rd (n + 1) (l, q)) p a c bs w) := by
  have HRR : Hid (rd (n + 1) (l, q) = .ok ((1, 1, ⟨#[]⟩, [], []), (r, q + 1))) := by
    show _ = _
    rw [hl]
    simp only [rd]
    rw [if_neg (by omega), if_pos (by omega), ho0]
    rfl
  have hd8 : decide ((8 : Int) < d) = false := by simp; omega
  have ho0' : (o.toNat : Int) = 2 := by omega
  have HLN : Hid (l = o :: r) := hl
  clear hl hd ho0
  have hp : p < w.heap.size := by obtain ⟨i, _, _, h3⟩ := h; exact lt_of_block h3
  have RA1 : Hid (RAt (w.alloc (.cells #[.int .i64 0, .int .u64 0, .string ⟨#[]⟩, .slice none 0 0, .slice none 0 0] 50)) p a c bs (l, q)) := h.same (Below.heap_alloc _ _ _ hp)
  have HO1 : Hid (Oct (w.alloc (.cells #[.int .i64 0, .int .u64 0, .string ⟨#[]⟩, .slice none 0 0, .slice none 0 0] 50)) a c bs) := ho.below (below_one _ _)
  have XR0 : Hid ((w.alloc (.cells #[.int .i64 0, .int .u64 0, .string ⟨#[]⟩, .slice none 0 0, .slice none 0 0] 50)).heap[w.heap.size]? = some (.cells #[.int .i64 0, .int .u64 0, .string ⟨#[]⟩, .slice none 0 0, .slice none 0 0] 50 (0, 0))) := heap_alloc_new _ _
  have B1 : Hid (w.grownBy (w.alloc (.cells #[.int .i64 0, .int .u64 0, .string ⟨#[]⟩, .slice none 0 0, .slice none 0 0] 50)) (some p)) := grown_of_below (below_one _ _)
  have HPW : Hid (p < w.heap.size) := hp
  have HQ : Hid (q + l.length ≤ 281474976710656) := hb
  clear h ho hp hb
  go_enter Try.func40, Try.ntmps40
  go_upto_region 1 with fail
  generalize w.alloc (.cells #[.int .i64 0, .int .u64 0, .string ⟨#[]⟩, .slice none 0 0, .slice none 0 0] 50) = W0 at *
  go_wp2_with fail
  obtain ⟨i5, hi5, hri5, hblk5⟩ := RA1.out
  clear hi5 hri5
  refine (rfail_no p _ W0 hblk5).mono ?_
  clear hblk5
  rintro e w2 ⟨rfl, hw2⟩
  subst w2
  go_wp2_with fail
  refine (roctet_any p a c bs l q W0 RA1.out HO1.out).mono ?_
  rintro e w2 ⟨hg2, ⟨hl, rfl, hE1⟩ | ⟨o', r', hl, rfl, hA⟩⟩
  · rw [HLN.out] at hl; cases hl
  have hl2 := HLN.out.symm.trans hl
  cases hl2
  have RA2 : Hid (RAt w2 p a c bs (r, q)) := hA
  have G2 : Hid (w.grownBy w2 (some p)) := grown_trans B1.out hg2
  have XR2 : Hid (w2.heap[w.heap.size]? = some (.cells #[.int .i64 0, .int .u64 0, .string ⟨#[]⟩, .slice none 0 0, .slice none 0 0] 50 (0, 0))) := (hg2.block _ (lt_of_block XR0.out) (by have := HPW.out; simp; omega)).trans XR0.out
  have HO2 : Hid (Oct w2 a c bs) := HO1.out.grown4 RA1.out hg2
  clear hg2 hA RA1 XR0 B1 HO1 hl
  go_wp2_with fail
  obtain ⟨i5, hi5, hri5, hblk5⟩ := RA2.out
  refine (rfail_no p _ w2 hblk5).mono ?_
  rintro e w3 ⟨rfl, hw3⟩
  subst w3
  obtain ⟨y0, y1, y2, y3, f0, f1, f2, f3⟩ := rd4_cells hblk5
  have hq0 : q ≤ 281474976710656 := by have := HQ.out; omega
  have RA3 : Hid (RAt (w2.setCell ⟨p, 2, none⟩ (.int .i64 ((q : Int) + 1))) p a c bs (r, q + 1)) := ⟨i5, hi5, hri5, set4_two hblk5 _⟩
  clear hi5 hri5 hblk5
  go_upto_region 6 with fail
  have hpw := HPW.out
  have hww := lt_of_block XR2.out
  have hsz : (w2.setCell ⟨p, 2, none⟩ (.int .i64 ((q : Int) + 1))).heap.size = w2.heap.size := by simp [World.setCell]
  have bA := below_one (w2.setCell ⟨p, 2, none⟩ (.int .i64 ((q : Int) + 1))) (.cells #[.int .i64 0, .int .u64 0, .string ⟨#[]⟩, .slice none 0 0, .slice none 0 0] 50)
  have RA4 : Hid (RAt ((w2.setCell ⟨p, 2, none⟩ (.int .i64 ((q : Int) + 1))).alloc (.cells #[.int .i64 0, .int .u64 0, .string ⟨#[]⟩, .slice none 0 0, .slice none 0 0] 50)) p a c bs (r, q + 1)) := RA3.out.same (bA.block p (by rw [hsz]; omega))
  have XR4 : Hid (((w2.setCell ⟨p, 2, none⟩ (.int .i64 ((q : Int) + 1))).alloc (.cells #[.int .i64 0, .int .u64 0, .string ⟨#[]⟩, .slice none 0 0, .slice none 0 0] 50)).heap[w.heap.size]? = some (.cells #[.int .i64 0, .int .u64 0, .string ⟨#[]⟩, .slice none 0 0, .slice none 0 0] 50 (0, 0))) := (bA.block _ (by rw [hsz]; exact hww)).trans ((Below.heap_setCell _ _ _ _ (by simp only; omega)).trans XR2.out)
  have YV4 : Hid (((w2.setCell ⟨p, 2, none⟩ (.int .i64 ((q : Int) + 1))).alloc (.cells #[.int .i64 0, .int .u64 0, .string ⟨#[]⟩, .slice none 0 0, .slice none 0 0] 50)).heap[w2.heap.size]? = some (.cells #[.int .i64 0, .int .u64 0, .string ⟨#[]⟩, .slice none 0 0, .slice none 0 0] 50 (0, 0))) := by
    have := heap_alloc_new (w2.setCell ⟨p, 2, none⟩ (.int .i64 ((q : Int) + 1))) (.cells #[.int .i64 0, .int .u64 0, .string ⟨#[]⟩, .slice none 0 0, .slice none 0 0] 50)
    rw [hsz] at this
    exact this
  have G4 : Hid (w.grownBy ((w2.setCell ⟨p, 2, none⟩ (.int .i64 ((q : Int) + 1))).alloc (.cells #[.int .i64 0, .int .u64 0, .string ⟨#[]⟩, .slice none 0 0, .slice none 0 0] 50)) (some p)) := grown_below (grown_trans G2.out (grown_set _)) bA
  have HO4 : Hid (Oct ((w2.setCell ⟨p, 2, none⟩ (.int .i64 ((q : Int) + 1))).alloc (.cells #[.int .i64 0, .int .u64 0, .string ⟨#[]⟩, .slice none 0 0, .slice none 0 0] 50)) a c bs) := (HO2.out.grown4 RA2.out (grown_set _)).below bA
  have HQ4 : Hid (q + 1 + r.length ≤ 281474976710656) := by show _ ≤ _; have := HQ.out; rw [HLN.out] at this; simp only [List.length_cons] at this; omega
  have HV2 : Hid (w.heap.size < w2.heap.size) := hww
  clear bA hsz RA3 RA2 XR2 G2 HO2 y0 y1 y2 y3 f0 f1 f2 f3
  generalize ((w2.setCell ⟨p, 2, none⟩ (.int .i64 ((q : Int) + 1))).alloc (.cells #[.int .i64 0, .int .u64 0, .string ⟨#[]⟩, .slice none 0 0, .slice none 0 0] 50)) = W4 at *
  generalize w2.heap.size = V0 at *
  obtain ⟨z0, z1, z2, z3, z4, g0, g1, g2, g3, g4⟩ := box_cells XR4.out
  obtain ⟨v0, v1, v2, v3, v4, h0, h1, h2, h3, h4⟩ := box_cells YV4.out
  obtain ⟨i5, hi5, hri5, hblk5⟩ := RA4.out
  obtain ⟨y0, y1, y2, y3, f0, f1, f2, f3⟩ := rd4_cells hblk5
  clear hi5 hri5 hblk5
  go_upto_region 23 with fail
  have w0 := W4.heap.size
  have YV5 : Hid (((W4.setCell ⟨V0, 0, none⟩ (.int .i64 1)).setCell ⟨V0, 1, none⟩ (.int .u64 1)).heap[V0]? = some (.cells #[.int .i64 1, .int .u64 1, .string ⟨#[]⟩, .slice none 0 0, .slice none 0 0] 50 (0, 0))) := by
    have q0 := set_one_cell (o := 0) YV4.out (.int .i64 1)
    have q1 := set_one_cell (o := 1) q0 (.int .u64 1)
    show _ = _
    rw [q1]
    simp
  have kp5 : ∀ k, k ≠ V0 → ((W4.setCell ⟨V0, 0, none⟩ (.int .i64 1)).setCell ⟨V0, 1, none⟩ (.int .u64 1)).heap[k]? = W4.heap[k]? := fun k hk => by rw [Below.heap_setCell _ _ _ _ hk, Below.heap_setCell _ _ _ _ hk]
  have hV0 := HV2.out
  have XR5 : Hid (((W4.setCell ⟨V0, 0, none⟩ (.int .i64 1)).setCell ⟨V0, 1, none⟩ (.int .u64 1)).heap[w.heap.size]? = some (.cells #[.int .i64 0, .int .u64 0, .string ⟨#[]⟩, .slice none 0 0, .slice none 0 0] 50 (0, 0))) := (kp5 _ (by omega)).trans XR4.out
  have RA5 : Hid (RAt ((W4.setCell ⟨V0, 0, none⟩ (.int .i64 1)).setCell ⟨V0, 1, none⟩ (.int .u64 1)) p a c bs (r, q + 1)) := RA4.out.same (kp5 _ (by omega))
  have G5 : Hid (w.grownBy ((W4.setCell ⟨V0, 0, none⟩ (.int .i64 1)).setCell ⟨V0, 1, none⟩ (.int .u64 1)) (some p)) := ⟨by simpa [World.setCell] using G4.out.os, by simpa [World.setCell] using G4.out.tape, by simpa [World.setCell] using G4.out.output, by simpa [World.setCell] using G4.out.size, fun k hk hn => (kp5 k (by omega)).trans (G4.out.block k hk hn)⟩
  clear kp5 w0 z0 z1 z2 z3 z4 g0 g1 g2 g3 g4 v0 v1 v2 v3 v4 h0 h1 h2 h3 h4 y0 y1 y2 y3 f0 f1 f2 f3 RA4 XR4 YV4 G4 HO4
  generalize ((W4.setCell ⟨V0, 0, none⟩ (.int .i64 1)).setCell ⟨V0, 1, none⟩ (.int .u64 1)) = W5 at *
  obtain ⟨z0, z1, z2, z3, z4, g0, g1, g2, g3, g4⟩ := box_cells XR5.out
  obtain ⟨v0, v1, v2, v3, v4, h0, h1, h2, h3, h4⟩ := box_cells YV5.out
  go_wp2_with fail
  refine bodyPost_ret (v := mk 1 1 ⟨#[]⟩ none 0 0 none 0 0) (by simp [results, Try.results40, go_sem, z0, z1, z2, z3, z4]) rfl ?_
  obtain ⟨e1, e2, e3, e4, e5⟩ := five_fin W5 w.heap.size (.int .i64 1) (.int .u64 1) (.string ⟨#[]⟩) (.slice none 0 0) (.slice none 0 0)
  generalize (((((W5.setCell ⟨w.heap.size, 0, none⟩ (.int .i64 1)).setCell ⟨w.heap.size, 1, none⟩ (.int .u64 1)).setCell ⟨w.heap.size, 2, none⟩ (.string ⟨#[]⟩)).setCell ⟨w.heap.size, 3, none⟩ (.slice none 0 0)).setCell ⟨w.heap.size, 4, none⟩ (.slice none 0 0)) = W6 at *
  exact ⟨⟨e3.trans G5.out.os, e4.trans G5.out.tape, e5.trans G5.out.output, by have := G5.out.size; omega, fun k hk hn => (e1 k (by omega)).trans (G5.out.block k hk hn)⟩, Or.inr ⟨_, _, HRR.out, RA5.out.same (e1 p (by omega)), _, _, rfl, own_leaf W6 n (by omega) (by omega) (by decide), fun b hb => hb.elim⟩⟩

end Go.Proofs.Ytfdbhojghkdlkaa
