/-
  The page's reader: a value that holds others.
-/
import Derived.Test.YtfdbhojghkdlkaaPkRVal
import Derived.Test.YtfdbhojghkdlkaaVaPair
namespace Go.Proofs.Ytfdbhojghkdlkaa
open Go.ChangeShapes Go.WideShapes Go.ChangeAt Go.RowKit
open Fl

theorem five_new {w : World} {g : Nat} {z0 z1 z2 z3 z4 : Value} {t : TypeId} (h : w.heap[g]? = some (.cells #[z0, z1, z2, z3, z4] t (0, 0))) (c0 c1 c2 c3 c4 : Value) :
    (((((w.setCell ⟨g, 0, none⟩ c0).setCell ⟨g, 1, none⟩ c1).setCell ⟨g, 2, none⟩ c2).setCell ⟨g, 3, none⟩ c3).setCell ⟨g, 4, none⟩ c4).heap[g]? = some (.cells #[c0, c1, c2, c3, c4] t (0, 0)) := by
  simp [World.setCell, Array.getElem?_modify, h]

theorem iterI_len {n : Nat} : ∀ (m : Nat) (acc : List (V n)) (s : RS) {its : List (V n)} {s' : RS}, iterE (stepI (rd n)) m (acc, s) = .ok (its, s') → its.length = acc.length + m
  | 0, acc, s, its, s', h => by
    simp only [iterE, Except.ok.injEq, Prod.mk.injEq] at h
    rw [h.1]; rfl
  | m + 1, acc, s, its, s', h => by
    simp only [iterE, stepI] at h
    cases hr : rd n s with
    | error e => rw [hr] at h; cases h
    | ok us =>
      rw [hr] at h
      have := iterI_len m _ _ h
      simp at this
      omega

theorem rdItems_len {n : Nat} {s : RS} {its : List (V n)} {s' : RS} (h : rdItems n s = .ok (its, s')) : its.length ≤ 32 := by
  simp only [rdItems] at h
  cases hc : rdCount s.1 with
  | error e => rw [hc] at h; cases h
  | ok mr =>
    obtain ⟨m, r⟩ := mr
    rw [hc] at h
    have h1 := iterI_len _ _ _ h
    have h2 := (rdCount_ok hc).2
    simp at h1
    omega

set_option maxRecDepth 100000 in
set_option maxHeartbeats 3200000 in
theorem rvalue_list (p : Nat) (a : Option Addr) (c : Nat) (bs l : List UInt8) (q : Nat) (d : Int) (w : World) (h : RAt w p a c bs (l, q)) (ho : Oct w a c bs) (hb : q + l.length ≤ 281474976710656) (n : Nat) (hv : ValAt n) (hd1 : 1 ≤ d) (hdn : d + 1 + n = 9) (o : UInt8) (r : List UInt8) (hl : l = o :: r) (ho0 : o.toNat = 5) :
    Calls Try.prog 40 #[.pointer (some ⟨p, 0, none⟩), .int .i64 d] w (VPost (n + 1) (rd (n + 1) (l, q)) p a c bs w) := by
  have HRR : Hid (rd (n + 1) (l, q) = (match rdItems n (r, q + 1) with | .error e => .error e | .ok (its, s) => .ok ((4, 0, ⟨#[]⟩, [], its), s))) := by
    show _ = _
    rw [hl]
    simp only [rd]
    rw [if_neg (by omega), if_neg (by omega), if_neg (by omega), if_neg (by omega), if_pos ho0]
    simp only [rdItems]
    cases rdCount r with
    | error e => rfl
    | ok mr => rfl
  have hd8 : decide ((8 : Int) < d) = false := by simp; omega
  have ho0' : (o.toNat : Int) = 5 := by omega
  have HLN : Hid (l = o :: r) := hl
  have HV : Hid (ValAt n) := hv
  have HD : Hid (d + 1 + (n : Int) = 9) := hdn
  have HRD : Hid (RAt w p a c bs (l, q)) := h
  have HO : Hid (Oct w a c bs) := ho
  clear hl ho0 hv hdn
  have hp : p < w.heap.size := by obtain ⟨i, _, _, h3⟩ := h; exact lt_of_block h3
  have RA1 : Hid (RAt (w.alloc (.cells #[.int .i64 0, .int .u64 0, .string ⟨#[]⟩, .slice none 0 0, .slice none 0 0] 50)) p a c bs (l, q)) := h.same (Below.heap_alloc _ _ _ hp)
  have HO1 : Hid (Oct (w.alloc (.cells #[.int .i64 0, .int .u64 0, .string ⟨#[]⟩, .slice none 0 0, .slice none 0 0] 50)) a c bs) := ho.below (below_one _ _)
  have XR0 : Hid ((w.alloc (.cells #[.int .i64 0, .int .u64 0, .string ⟨#[]⟩, .slice none 0 0, .slice none 0 0] 50)).heap[w.heap.size]? = some (.cells #[.int .i64 0, .int .u64 0, .string ⟨#[]⟩, .slice none 0 0, .slice none 0 0] 50 (0, 0))) := heap_alloc_new _ _
  have B1 : Hid (w.grownBy (w.alloc (.cells #[.int .i64 0, .int .u64 0, .string ⟨#[]⟩, .slice none 0 0, .slice none 0 0] 50)) (some p)) := grown_of_below (below_one _ _)
  have HPW : Hid (p < w.heap.size) := hp
  have HQ : Hid (q + l.length ≤ 281474976710656) := hb
  clear h ho hp hb
  go_enter Try.func40, Try.ntmps40
  go_upto_region 1 with fail
  generalize w.alloc (.cells #[.int .i64 0, .int .u64 0, .string ⟨#[]⟩, .slice none 0 0, .slice none 0 0] 50) = W0 at *
  go_wp2_with fail
  obtain ⟨i5, hi5, hri5, hblk5⟩ := RA1.out
  clear hi5 hri5
  refine (rfail_no p _ W0 hblk5).mono ?_
  clear hblk5
  rintro e w2 ⟨rfl, hw2⟩
  subst w2
  go_wp2_with fail
  refine (roctet_any p a c bs l q W0 RA1.out HO1.out).mono ?_
  rintro e w2 ⟨hg2, ⟨hl, rfl, hE1⟩ | ⟨o', r', hl, rfl, hA⟩⟩
  · rw [HLN.out] at hl; cases hl
  have hl2 := HLN.out.symm.trans hl
  cases hl2
  have RA2 : Hid (RAt w2 p a c bs (r, q)) := hA
  have G2 : Hid (w.grownBy w2 (some p)) := grown_trans B1.out hg2
  have XR2 : Hid (w2.heap[w.heap.size]? = some (.cells #[.int .i64 0, .int .u64 0, .string ⟨#[]⟩, .slice none 0 0, .slice none 0 0] 50 (0, 0))) := (hg2.block _ (lt_of_block XR0.out) (by have := HPW.out; simp; omega)).trans XR0.out
  have HO2 : Hid (Oct w2 a c bs) := HO1.out.grown4 RA1.out hg2
  clear hg2 hA RA1 XR0 B1 HO1 hl
  go_wp2_with fail
  obtain ⟨i5, hi5, hri5, hblk5⟩ := RA2.out
  refine (rfail_no p _ w2 hblk5).mono ?_
  rintro e w3 ⟨rfl, hw3⟩
  subst w3
  obtain ⟨y0, y1, y2, y3, f0, f1, f2, f3⟩ := rd4_cells hblk5
  have hq0 : q ≤ 281474976710656 := by have := HQ.out; omega
  have RA3 : Hid (RAt (w2.setCell ⟨p, 2, none⟩ (.int .i64 ((q : Int) + 1))) p a c bs (r, q + 1)) := ⟨i5, hi5, hri5, set4_two hblk5 _⟩
  clear hi5 hri5 hblk5
  go_upto_region 6 with fail
  have hpw := HPW.out
  have hww := lt_of_block XR2.out
  have hsz : (w2.setCell ⟨p, 2, none⟩ (.int .i64 ((q : Int) + 1))).heap.size = w2.heap.size := by simp [World.setCell]
  have bA := below_one (w2.setCell ⟨p, 2, none⟩ (.int .i64 ((q : Int) + 1))) (.cells #[.int .i64 0, .int .u64 0, .string ⟨#[]⟩, .slice none 0 0, .slice none 0 0] 50)
  have RA4 : Hid (RAt ((w2.setCell ⟨p, 2, none⟩ (.int .i64 ((q : Int) + 1))).alloc (.cells #[.int .i64 0, .int .u64 0, .string ⟨#[]⟩, .slice none 0 0, .slice none 0 0] 50)) p a c bs (r, q + 1)) := RA3.out.same (bA.block p (by rw [hsz]; omega))
  have XR4 : Hid (((w2.setCell ⟨p, 2, none⟩ (.int .i64 ((q : Int) + 1))).alloc (.cells #[.int .i64 0, .int .u64 0, .string ⟨#[]⟩, .slice none 0 0, .slice none 0 0] 50)).heap[w.heap.size]? = some (.cells #[.int .i64 0, .int .u64 0, .string ⟨#[]⟩, .slice none 0 0, .slice none 0 0] 50 (0, 0))) := (bA.block _ (by rw [hsz]; exact hww)).trans ((Below.heap_setCell _ _ _ _ (by simp only; omega)).trans XR2.out)
  have YV4 : Hid (((w2.setCell ⟨p, 2, none⟩ (.int .i64 ((q : Int) + 1))).alloc (.cells #[.int .i64 0, .int .u64 0, .string ⟨#[]⟩, .slice none 0 0, .slice none 0 0] 50)).heap[w2.heap.size]? = some (.cells #[.int .i64 0, .int .u64 0, .string ⟨#[]⟩, .slice none 0 0, .slice none 0 0] 50 (0, 0))) := by
    have := heap_alloc_new (w2.setCell ⟨p, 2, none⟩ (.int .i64 ((q : Int) + 1))) (.cells #[.int .i64 0, .int .u64 0, .string ⟨#[]⟩, .slice none 0 0, .slice none 0 0] 50)
    rw [hsz] at this
    exact this
  have G4 : Hid (w.grownBy ((w2.setCell ⟨p, 2, none⟩ (.int .i64 ((q : Int) + 1))).alloc (.cells #[.int .i64 0, .int .u64 0, .string ⟨#[]⟩, .slice none 0 0, .slice none 0 0] 50)) (some p)) := grown_below (grown_trans G2.out (grown_set _)) bA
  have HO4 : Hid (Oct ((w2.setCell ⟨p, 2, none⟩ (.int .i64 ((q : Int) + 1))).alloc (.cells #[.int .i64 0, .int .u64 0, .string ⟨#[]⟩, .slice none 0 0, .slice none 0 0] 50)) a c bs) := (HO2.out.grown4 RA2.out (grown_set _)).below bA
  have HQ4 : Hid (q + 1 + r.length ≤ 281474976710656) := by show _ ≤ _; have := HQ.out; rw [HLN.out] at this; simp only [List.length_cons] at this; omega
  have HV2 : Hid (w.heap.size < w2.heap.size) := hww
  clear bA hsz RA3 RA2 XR2 G2 HO2 y0 y1 y2 y3 f0 f1 f2 f3
  generalize ((w2.setCell ⟨p, 2, none⟩ (.int .i64 ((q : Int) + 1))).alloc (.cells #[.int .i64 0, .int .u64 0, .string ⟨#[]⟩, .slice none 0 0, .slice none 0 0] 50)) = W4 at *
  generalize w2.heap.size = V0 at *
  obtain ⟨z0, z1, z2, z3, z4, g0, g1, g2, g3, g4⟩ := box_cells XR4.out
  obtain ⟨v0, v1, v2, v3, v4, h0, h1, h2, h3, h4⟩ := box_cells YV4.out
  obtain ⟨i5, hi5, hri5, hblk5⟩ := RA4.out
  obtain ⟨y0, y1, y2, y3, f0, f1, f2, f3⟩ := rd4_cells hblk5
  clear hi5 hri5 hblk5
  go_upto_region 22 with fail
  have hV0 := HV2.out
  have YV5 : Hid ((W4.setCell ⟨V0, 0, none⟩ (.int .i64 4)).heap[V0]? = some (.cells #[.int .i64 4, .int .u64 0, .string ⟨#[]⟩, .slice none 0 0, .slice none 0 0] 50 (0, 0))) := by
    have q0 := set_one_cell (o := 0) YV4.out (.int .i64 4)
    show _ = _
    rw [q0]
    simp
  have kp5 : ∀ k, k ≠ V0 → (W4.setCell ⟨V0, 0, none⟩ (.int .i64 4)).heap[k]? = W4.heap[k]? := fun k hk => Below.heap_setCell _ _ _ _ hk
  have XR5 : Hid ((W4.setCell ⟨V0, 0, none⟩ (.int .i64 4)).heap[w.heap.size]? = some (.cells #[.int .i64 0, .int .u64 0, .string ⟨#[]⟩, .slice none 0 0, .slice none 0 0] 50 (0, 0))) := (kp5 _ (by omega)).trans XR4.out
  have RA5 : Hid (RAt (W4.setCell ⟨V0, 0, none⟩ (.int .i64 4)) p a c bs (r, q + 1)) := RA4.out.same (kp5 _ (by omega))
  have G5 : Hid (w.grownBy (W4.setCell ⟨V0, 0, none⟩ (.int .i64 4)) (some p)) := ⟨by simpa [World.setCell] using G4.out.os, by simpa [World.setCell] using G4.out.tape, by simpa [World.setCell] using G4.out.output, by simpa [World.setCell] using G4.out.size, fun k hk hn => (kp5 k (by omega)).trans (G4.out.block k hk hn)⟩
  have HO5 : Hid (Oct (W4.setCell ⟨V0, 0, none⟩ (.int .i64 4)) a c bs) := HO.out.grown4 HRD.out G5.out
  clear kp5 z0 z1 z2 z3 z4 g0 g1 g2 g3 g4 v0 v1 v2 v3 v4 h0 h1 h2 h3 h4 y0 y1 y2 y3 f0 f1 f2 f3 RA4 XR4 YV4 G4 HO4
  generalize (W4.setCell ⟨V0, 0, none⟩ (.int .i64 4)) = W5 at *
  obtain ⟨v0, v1, v2, v3, v4, h0, h1, h2, h3, h4⟩ := box_cells YV5.out
  go_wp2_with fail
  refine (ritems_any n HV.out (r, q + 1) p a c bs d W5 RA5.out HO5.out HQ4.out hd1 HD.out).mono ?_
  intro e W6 hpost
  obtain ⟨hg6, ⟨er, hit, hE, y, rfl, k5, b5, t5, ka5, kl5, kc5, ia5, il5, ic5, rfl⟩ | ⟨its, s', hit, hA, ia, ic, H, rfl, hL, hH⟩⟩ := hpost
  · have Y6 : Hid (W6.heap[V0]? = some (.cells #[.int .i64 4, .int .u64 0, .string ⟨#[]⟩, .slice none 0 0, .slice none 0 0] 50 (0, 0))) := (hg6.block _ (lt_of_block YV5.out) (by simp; omega)).trans YV5.out
    have X6 : Hid (W6.heap[w.heap.size]? = some (.cells #[.int .i64 0, .int .u64 0, .string ⟨#[]⟩, .slice none 0 0, .slice none 0 0] 50 (0, 0))) := (hg6.block _ (lt_of_block XR5.out) (by simp; omega)).trans XR5.out
    have G6 : Hid (w.grownBy W6 (some p)) := grown_trans G5.out hg6
    have HW5 : Hid (W5.heap.size ≤ W6.heap.size) := hg6.size
    have HV5 : Hid (V0 < W5.heap.size) := lt_of_block YV5.out
    have HE6 : Hid (RErr W6 p 281474976710660 er) := hE
    have HIT : Hid (rdItems n (r, q + 1) = .error er) := hit
    clear hE hit
    clear v0 v1 v2 v3 v4 h0 h1 h2 h3 h4 hg6
    obtain ⟨v0, v1, v2, v3, v4, h0, h1, h2, h3, h4⟩ := box_cells Y6.out
    go_upto_region 23 with fail
    have Y7 := five_new Y6.out (.int .i64 k5) (.int .u64 b5) (.string t5) (.slice ka5 kl5 kc5) (.slice ia5 il5 ic5)
    obtain ⟨c1, c2, c3, c4, c5⟩ := five_fin W6 V0 (.int .i64 k5) (.int .u64 b5) (.string t5) (.slice ka5 kl5 kc5) (.slice ia5 il5 ic5)
    clear v0 v1 v2 v3 v4 h0 h1 h2 h3 h4
    generalize (((((W6.setCell ⟨V0, 0, none⟩ (.int .i64 k5)).setCell ⟨V0, 1, none⟩ (.int .u64 b5)).setCell ⟨V0, 2, none⟩ (.string t5)).setCell ⟨V0, 3, none⟩ (.slice ka5 kl5 kc5)).setCell ⟨V0, 4, none⟩ (.slice ia5 il5 ic5)) = W7 at *
    have X7 := (c1 _ (by omega)).trans X6.out
    obtain ⟨v0, v1, v2, v3, v4, h0, h1, h2, h3, h4⟩ := box_cells Y7
    obtain ⟨z0, z1, z2, z3, z4, g0, g1, g2, g3, g4⟩ := box_cells X7
    have C1 : Hid (∀ k, k ≠ V0 → W7.heap[k]? = W6.heap[k]?) := c1
    have C2 : Hid (W7.heap.size = W6.heap.size) := c2
    have C3 : Hid (W7.os = W6.os) := c3
    have C4 : Hid (W7.tape = W6.tape) := c4
    have C5 : Hid (W7.output = W6.output) := c5
    clear c1 c2 c3 c4 c5 Y7 X7
    go_wp2_with fail
    refine bodyPost_ret (v := mk k5 b5 t5 ka5 kl5 kc5 ia5 il5 ic5) (by simp [results, Try.results40, go_sem, z0, z1, z2, z3, z4]) rfl ?_
    obtain ⟨e1, e2, e3, e4, e5⟩ := five_fin W7 w.heap.size (.int .i64 k5) (.int .u64 b5) (.string t5) (.slice ka5 kl5 kc5) (.slice ia5 il5 ic5)
    generalize (((((W7.setCell ⟨w.heap.size, 0, none⟩ (.int .i64 k5)).setCell ⟨w.heap.size, 1, none⟩ (.int .u64 b5)).setCell ⟨w.heap.size, 2, none⟩ (.string t5)).setCell ⟨w.heap.size, 3, none⟩ (.slice ka5 kl5 kc5)).setCell ⟨w.heap.size, 4, none⟩ (.slice ia5 il5 ic5)) = W8 at *
    have hkk : ∀ k, k ≠ V0 → k ≠ w.heap.size → W8.heap[k]? = W6.heap[k]? := fun k h1 h2 => (e1 k h2).trans (C1.out k h1)
    have hs8 : W8.heap.size = W6.heap.size := by have := C2.out; omega
    have hg8 : w.grownBy W8 (some p) := ⟨(e3.trans C3.out).trans G6.out.os, (e4.trans C4.out).trans G6.out.tape, (e5.trans C5.out).trans G6.out.output, by have := G6.out.size; omega, fun k hk hn => (hkk k (by omega) (by omega)).trans (G6.out.block k hk hn)⟩
    exact ⟨hg8, Or.inl ⟨er, by rw [HRR.out, HIT.out], HE6.out.same (hkk p (by omega) (by omega)), _, rfl, _, _, _, _, _, _, _, _, _, rfl⟩⟩
  · have Y6 : Hid (W6.heap[V0]? = some (.cells #[.int .i64 4, .int .u64 0, .string ⟨#[]⟩, .slice none 0 0, .slice none 0 0] 50 (0, 0))) := (hg6.block _ (lt_of_block YV5.out) (by simp; omega)).trans YV5.out
    have X6 : Hid (W6.heap[w.heap.size]? = some (.cells #[.int .i64 0, .int .u64 0, .string ⟨#[]⟩, .slice none 0 0, .slice none 0 0] 50 (0, 0))) := (hg6.block _ (lt_of_block XR5.out) (by simp; omega)).trans XR5.out
    have G6 : Hid (w.grownBy W6 (some p)) := grown_trans G5.out hg6
    have HW5 : Hid (W5.heap.size ≤ W6.heap.size) := hg6.size
    have HV5 : Hid (V0 < W5.heap.size) := lt_of_block YV5.out
    have RA6 : Hid (RAt W6 p a c bs s') := hA
    have HIT : Hid (rdItems n (r, q + 1) = .ok (its, s')) := hit
    have HL : Hid (OwnL W6 n (.slice ia its.length ic) its H) := hL
    have HH : Hid (∀ b, H b → W5.heap.size ≤ b ∧ b < W6.heap.size) := hH
    have HIL : Hid (its.length ≤ 32) := rdItems_len hit
    clear hA hit hL hH
    obtain ⟨il, hil⟩ : ∃ il, Hid (its.length = il) := ⟨_, rfl⟩
    rw [hil.out]
    clear v0 v1 v2 v3 v4 h0 h1 h2 h3 h4 hg6
    obtain ⟨v0, v1, v2, v3, v4, h0, h1, h2, h3, h4⟩ := box_cells Y6.out
    go_upto_region 23 with fail
    have Y7 := five_new Y6.out (.int .i64 4) (.int .u64 0) (.string ⟨#[]⟩) (.slice none 0 0) (.slice ia il ic)
    obtain ⟨c1, c2, c3, c4, c5⟩ := five_fin W6 V0 (.int .i64 4) (.int .u64 0) (.string ⟨#[]⟩) (.slice none 0 0) (.slice ia il ic)
    clear v0 v1 v2 v3 v4 h0 h1 h2 h3 h4
    generalize (((((W6.setCell ⟨V0, 0, none⟩ (.int .i64 4)).setCell ⟨V0, 1, none⟩ (.int .u64 0)).setCell ⟨V0, 2, none⟩ (.string ⟨#[]⟩)).setCell ⟨V0, 3, none⟩ (.slice none 0 0)).setCell ⟨V0, 4, none⟩ (.slice ia il ic)) = W7 at *
    have X7 := (c1 _ (by omega)).trans X6.out
    obtain ⟨v0, v1, v2, v3, v4, h0, h1, h2, h3, h4⟩ := box_cells Y7
    obtain ⟨z0, z1, z2, z3, z4, g0, g1, g2, g3, g4⟩ := box_cells X7
    have C1 : Hid (∀ k, k ≠ V0 → W7.heap[k]? = W6.heap[k]?) := c1
    have C2 : Hid (W7.heap.size = W6.heap.size) := c2
    have C3 : Hid (W7.os = W6.os) := c3
    have C4 : Hid (W7.tape = W6.tape) := c4
    have C5 : Hid (W7.output = W6.output) := c5
    clear c1 c2 c3 c4 c5 Y7 X7
    go_wp2_with fail
    refine bodyPost_ret (v := mk 4 0 ⟨#[]⟩ none 0 0 ia il ic) (by simp [results, Try.results40, go_sem, z0, z1, z2, z3, z4]) rfl ?_
    obtain ⟨e1, e2, e3, e4, e5⟩ := five_fin W7 w.heap.size (.int .i64 4) (.int .u64 0) (.string ⟨#[]⟩) (.slice none 0 0) (.slice ia il ic)
    generalize (((((W7.setCell ⟨w.heap.size, 0, none⟩ (.int .i64 4)).setCell ⟨w.heap.size, 1, none⟩ (.int .u64 0)).setCell ⟨w.heap.size, 2, none⟩ (.string ⟨#[]⟩)).setCell ⟨w.heap.size, 3, none⟩ (.slice none 0 0)).setCell ⟨w.heap.size, 4, none⟩ (.slice ia il ic)) = W8 at *
    have hkk : ∀ k, k ≠ V0 → k ≠ w.heap.size → W8.heap[k]? = W6.heap[k]? := fun k h1 h2 => (e1 k h2).trans (C1.out k h1)
    have hs8 : W8.heap.size = W6.heap.size := by have := C2.out; omega
    have hg8 : w.grownBy W8 (some p) := ⟨(e3.trans C3.out).trans G6.out.os, (e4.trans C4.out).trans G6.out.tape, (e5.trans C5.out).trans G6.out.output, by have := G6.out.size; omega, fun k hk hn => (hkk k (by omega) (by omega)).trans (G6.out.block k hk hn)⟩
    have HIL' := HIL.out
    have hsz := G5.out.size
    have hv5 := HV5.out
    have L8 : OwnL W8 n (.slice ia its.length ic) its H := HL.out.same fun b hb => hkk b (by have := (HH.out b hb).1; omega) (by have := (HH.out b hb).1; omega)
    have P8 := OwnL.part (k := 4) (b := 0) (t := ⟨#[]⟩) (ks := []) L8 (OwnK.nil W8) (fun b hb => by simp [Value.ownBlock] at hb) (by omega) (by omega) (by decide) (by simp) (by omega) (by simp)
    rw [hil.out] at P8
    exact ⟨hg8, Or.inr ⟨_, s', by rw [HRR.out, HIT.out], RA6.out.same (hkk p (by omega) (by omega)), _, _, rfl, P8, fun b hb => by
      rcases hb with hb | hb
      · have := HH.out b hb; omega
      · simp [Value.ownBlock] at hb⟩⟩

set_option maxRecDepth 100000 in
set_option maxHeartbeats 3200000 in
theorem rvalue_rec (p : Nat) (a : Option Addr) (c : Nat) (bs l : List UInt8) (q : Nat) (d : Int) (w : World) (h : RAt w p a c bs (l, q)) (ho : Oct w a c bs) (hb : q + l.length ≤ 281474976710656) (n : Nat) (hv : ValAt n) (hd1 : 1 ≤ d) (hdn : d + 1 + n = 9) (o : UInt8) (r : List UInt8) (hl : l = o :: r) (ho0 : o.toNat = 6) :
    Calls Try.prog 40 #[.pointer (some ⟨p, 0, none⟩), .int .i64 d] w (VPost (n + 1) (rd (n + 1) (l, q)) p a c bs w) := by
  have HRR : Hid (rd (n + 1) (l, q) = (match rdFields n (r, q + 1) with | .error e => .error e | .ok (ks, its, s) => .ok ((5, 0, ⟨#[]⟩, ks, its), s))) := by
    show _ = _
    rw [hl]
    simp only [rd]
    rw [if_neg (by omega), if_neg (by omega), if_neg (by omega), if_neg (by omega), if_neg (by omega), if_pos ho0]
    simp only [rdFields]
    cases rdCount r with
    | error e => rfl
    | ok mr => rfl
  have hd8 : decide ((8 : Int) < d) = false := by simp; omega
  have ho0' : (o.toNat : Int) = 6 := by omega
  have HLN : Hid (l = o :: r) := hl
  have HV : Hid (ValAt n) := hv
  have HD : Hid (d + 1 + (n : Int) = 9) := hdn
  have HRD : Hid (RAt w p a c bs (l, q)) := h
  have HO : Hid (Oct w a c bs) := ho
  clear hl ho0 hv hdn
  have hp : p < w.heap.size := by obtain ⟨i, _, _, h3⟩ := h; exact lt_of_block h3
  have RA1 : Hid (RAt (w.alloc (.cells #[.int .i64 0, .int .u64 0, .string ⟨#[]⟩, .slice none 0 0, .slice none 0 0] 50)) p a c bs (l, q)) := h.same (Below.heap_alloc _ _ _ hp)
  have HO1 : Hid (Oct (w.alloc (.cells #[.int .i64 0, .int .u64 0, .string ⟨#[]⟩, .slice none 0 0, .slice none 0 0] 50)) a c bs) := ho.below (below_one _ _)
  have XR0 : Hid ((w.alloc (.cells #[.int .i64 0, .int .u64 0, .string ⟨#[]⟩, .slice none 0 0, .slice none 0 0] 50)).heap[w.heap.size]? = some (.cells #[.int .i64 0, .int .u64 0, .string ⟨#[]⟩, .slice none 0 0, .slice none 0 0] 50 (0, 0))) := heap_alloc_new _ _
  have B1 : Hid (w.grownBy (w.alloc (.cells #[.int .i64 0, .int .u64 0, .string ⟨#[]⟩, .slice none 0 0, .slice none 0 0] 50)) (some p)) := grown_of_below (below_one _ _)
  have HPW : Hid (p < w.heap.size) := hp
  have HQ : Hid (q + l.length ≤ 281474976710656) := hb
  clear h ho hp hb
  go_enter Try.func40, Try.ntmps40
  go_upto_region 1 with fail
  generalize w.alloc (.cells #[.int .i64 0, .int .u64 0, .string ⟨#[]⟩, .slice none 0 0, .slice none 0 0] 50) = W0 at *
  go_wp2_with fail
  obtain ⟨i5, hi5, hri5, hblk5⟩ := RA1.out
  clear hi5 hri5
  refine (rfail_no p _ W0 hblk5).mono ?_
  clear hblk5
  rintro e w2 ⟨rfl, hw2⟩
  subst w2
  go_wp2_with fail
  refine (roctet_any p a c bs l q W0 RA1.out HO1.out).mono ?_
  rintro e w2 ⟨hg2, ⟨hl, rfl, hE1⟩ | ⟨o', r', hl, rfl, hA⟩⟩
  · rw [HLN.out] at hl; cases hl
  have hl2 := HLN.out.symm.trans hl
  cases hl2
  have RA2 : Hid (RAt w2 p a c bs (r, q)) := hA
  have G2 : Hid (w.grownBy w2 (some p)) := grown_trans B1.out hg2
  have XR2 : Hid (w2.heap[w.heap.size]? = some (.cells #[.int .i64 0, .int .u64 0, .string ⟨#[]⟩, .slice none 0 0, .slice none 0 0] 50 (0, 0))) := (hg2.block _ (lt_of_block XR0.out) (by have := HPW.out; simp; omega)).trans XR0.out
  have HO2 : Hid (Oct w2 a c bs) := HO1.out.grown4 RA1.out hg2
  clear hg2 hA RA1 XR0 B1 HO1 hl
  go_wp2_with fail
  obtain ⟨i5, hi5, hri5, hblk5⟩ := RA2.out
  refine (rfail_no p _ w2 hblk5).mono ?_
  rintro e w3 ⟨rfl, hw3⟩
  subst w3
  obtain ⟨y0, y1, y2, y3, f0, f1, f2, f3⟩ := rd4_cells hblk5
  have hq0 : q ≤ 281474976710656 := by have := HQ.out; omega
  have RA3 : Hid (RAt (w2.setCell ⟨p, 2, none⟩ (.int .i64 ((q : Int) + 1))) p a c bs (r, q + 1)) := ⟨i5, hi5, hri5, set4_two hblk5 _⟩
  clear hi5 hri5 hblk5
  go_upto_region 6 with fail
  have hpw := HPW.out
  have hww := lt_of_block XR2.out
  have hsz : (w2.setCell ⟨p, 2, none⟩ (.int .i64 ((q : Int) + 1))).heap.size = w2.heap.size := by simp [World.setCell]
  have bA := below_one (w2.setCell ⟨p, 2, none⟩ (.int .i64 ((q : Int) + 1))) (.cells #[.int .i64 0, .int .u64 0, .string ⟨#[]⟩, .slice none 0 0, .slice none 0 0] 50)
  have RA4 : Hid (RAt ((w2.setCell ⟨p, 2, none⟩ (.int .i64 ((q : Int) + 1))).alloc (.cells #[.int .i64 0, .int .u64 0, .string ⟨#[]⟩, .slice none 0 0, .slice none 0 0] 50)) p a c bs (r, q + 1)) := RA3.out.same (bA.block p (by rw [hsz]; omega))
  have XR4 : Hid (((w2.setCell ⟨p, 2, none⟩ (.int .i64 ((q : Int) + 1))).alloc (.cells #[.int .i64 0, .int .u64 0, .string ⟨#[]⟩, .slice none 0 0, .slice none 0 0] 50)).heap[w.heap.size]? = some (.cells #[.int .i64 0, .int .u64 0, .string ⟨#[]⟩, .slice none 0 0, .slice none 0 0] 50 (0, 0))) := (bA.block _ (by rw [hsz]; exact hww)).trans ((Below.heap_setCell _ _ _ _ (by simp only; omega)).trans XR2.out)
  have YV4 : Hid (((w2.setCell ⟨p, 2, none⟩ (.int .i64 ((q : Int) + 1))).alloc (.cells #[.int .i64 0, .int .u64 0, .string ⟨#[]⟩, .slice none 0 0, .slice none 0 0] 50)).heap[w2.heap.size]? = some (.cells #[.int .i64 0, .int .u64 0, .string ⟨#[]⟩, .slice none 0 0, .slice none 0 0] 50 (0, 0))) := by
    have := heap_alloc_new (w2.setCell ⟨p, 2, none⟩ (.int .i64 ((q : Int) + 1))) (.cells #[.int .i64 0, .int .u64 0, .string ⟨#[]⟩, .slice none 0 0, .slice none 0 0] 50)
    rw [hsz] at this
    exact this
  have G4 : Hid (w.grownBy ((w2.setCell ⟨p, 2, none⟩ (.int .i64 ((q : Int) + 1))).alloc (.cells #[.int .i64 0, .int .u64 0, .string ⟨#[]⟩, .slice none 0 0, .slice none 0 0] 50)) (some p)) := grown_below (grown_trans G2.out (grown_set _)) bA
  have HO4 : Hid (Oct ((w2.setCell ⟨p, 2, none⟩ (.int .i64 ((q : Int) + 1))).alloc (.cells #[.int .i64 0, .int .u64 0, .string ⟨#[]⟩, .slice none 0 0, .slice none 0 0] 50)) a c bs) := (HO2.out.grown4 RA2.out (grown_set _)).below bA
  have HQ4 : Hid (q + 1 + r.length ≤ 281474976710656) := by show _ ≤ _; have := HQ.out; rw [HLN.out] at this; simp only [List.length_cons] at this; omega
  have HV2 : Hid (w.heap.size < w2.heap.size) := hww
  clear bA hsz RA3 RA2 XR2 G2 HO2 y0 y1 y2 y3 f0 f1 f2 f3
  generalize ((w2.setCell ⟨p, 2, none⟩ (.int .i64 ((q : Int) + 1))).alloc (.cells #[.int .i64 0, .int .u64 0, .string ⟨#[]⟩, .slice none 0 0, .slice none 0 0] 50)) = W4 at *
  generalize w2.heap.size = V0 at *
  obtain ⟨z0, z1, z2, z3, z4, g0, g1, g2, g3, g4⟩ := box_cells XR4.out
  obtain ⟨v0, v1, v2, v3, v4, h0, h1, h2, h3, h4⟩ := box_cells YV4.out
  obtain ⟨i5, hi5, hri5, hblk5⟩ := RA4.out
  obtain ⟨y0, y1, y2, y3, f0, f1, f2, f3⟩ := rd4_cells hblk5
  clear hi5 hri5 hblk5
  go_upto_region 22 with fail
  have hV0 := HV2.out
  have YV5 : Hid ((W4.setCell ⟨V0, 0, none⟩ (.int .i64 5)).heap[V0]? = some (.cells #[.int .i64 5, .int .u64 0, .string ⟨#[]⟩, .slice none 0 0, .slice none 0 0] 50 (0, 0))) := by
    have q0 := set_one_cell (o := 0) YV4.out (.int .i64 5)
    show _ = _
    rw [q0]
    simp
  have kp5 : ∀ k, k ≠ V0 → (W4.setCell ⟨V0, 0, none⟩ (.int .i64 5)).heap[k]? = W4.heap[k]? := fun k hk => Below.heap_setCell _ _ _ _ hk
  have XR5 : Hid ((W4.setCell ⟨V0, 0, none⟩ (.int .i64 5)).heap[w.heap.size]? = some (.cells #[.int .i64 0, .int .u64 0, .string ⟨#[]⟩, .slice none 0 0, .slice none 0 0] 50 (0, 0))) := (kp5 _ (by omega)).trans XR4.out
  have RA5 : Hid (RAt (W4.setCell ⟨V0, 0, none⟩ (.int .i64 5)) p a c bs (r, q + 1)) := RA4.out.same (kp5 _ (by omega))
  have G5 : Hid (w.grownBy (W4.setCell ⟨V0, 0, none⟩ (.int .i64 5)) (some p)) := ⟨by simpa [World.setCell] using G4.out.os, by simpa [World.setCell] using G4.out.tape, by simpa [World.setCell] using G4.out.output, by simpa [World.setCell] using G4.out.size, fun k hk hn => (kp5 k (by omega)).trans (G4.out.block k hk hn)⟩
  have HO5 : Hid (Oct (W4.setCell ⟨V0, 0, none⟩ (.int .i64 5)) a c bs) := HO.out.grown4 HRD.out G5.out
  clear kp5 z0 z1 z2 z3 z4 g0 g1 g2 g3 g4 v0 v1 v2 v3 v4 h0 h1 h2 h3 h4 y0 y1 y2 y3 f0 f1 f2 f3 RA4 XR4 YV4 G4 HO4
  generalize (W4.setCell ⟨V0, 0, none⟩ (.int .i64 5)) = W5 at *
  obtain ⟨v0, v1, v2, v3, v4, h0, h1, h2, h3, h4⟩ := box_cells YV5.out
  go_wp2_with fail
  refine (rfields_any n HV.out (r, q + 1) p a c bs d W5 RA5.out HO5.out HQ4.out hd1 HD.out).mono ?_
  intro e W6 hpost
  obtain ⟨hg6, ⟨er, hit, hE, y, rfl, k5, b5, t5, ka5, kl5, kc5, ia5, il5, ic5, rfl⟩ | ⟨ks, its, s', hit, hA, ka, kc, ia, ic, H, rfl, hK, hL, hKH, hKS, hk32, hi32, hH, hKr⟩⟩ := hpost
  · have Y6 : Hid (W6.heap[V0]? = some (.cells #[.int .i64 5, .int .u64 0, .string ⟨#[]⟩, .slice none 0 0, .slice none 0 0] 50 (0, 0))) := (hg6.block _ (lt_of_block YV5.out) (by simp; omega)).trans YV5.out
    have X6 : Hid (W6.heap[w.heap.size]? = some (.cells #[.int .i64 0, .int .u64 0, .string ⟨#[]⟩, .slice none 0 0, .slice none 0 0] 50 (0, 0))) := (hg6.block _ (lt_of_block XR5.out) (by simp; omega)).trans XR5.out
    have G6 : Hid (w.grownBy W6 (some p)) := grown_trans G5.out hg6
    have HW5 : Hid (W5.heap.size ≤ W6.heap.size) := hg6.size
    have HV5 : Hid (V0 < W5.heap.size) := lt_of_block YV5.out
    have HE6 : Hid (RErr W6 p 281474976710660 er) := hE
    have HIT : Hid (rdFields n (r, q + 1) = .error er) := hit
    clear hE hit
    clear v0 v1 v2 v3 v4 h0 h1 h2 h3 h4 hg6
    obtain ⟨v0, v1, v2, v3, v4, h0, h1, h2, h3, h4⟩ := box_cells Y6.out
    go_upto_region 23 with fail
    have Y7 := five_new Y6.out (.int .i64 k5) (.int .u64 b5) (.string t5) (.slice ka5 kl5 kc5) (.slice ia5 il5 ic5)
    obtain ⟨c1, c2, c3, c4, c5⟩ := five_fin W6 V0 (.int .i64 k5) (.int .u64 b5) (.string t5) (.slice ka5 kl5 kc5) (.slice ia5 il5 ic5)
    clear v0 v1 v2 v3 v4 h0 h1 h2 h3 h4
    generalize (((((W6.setCell ⟨V0, 0, none⟩ (.int .i64 k5)).setCell ⟨V0, 1, none⟩ (.int .u64 b5)).setCell ⟨V0, 2, none⟩ (.string t5)).setCell ⟨V0, 3, none⟩ (.slice ka5 kl5 kc5)).setCell ⟨V0, 4, none⟩ (.slice ia5 il5 ic5)) = W7 at *
    have X7 := (c1 _ (by omega)).trans X6.out
    obtain ⟨v0, v1, v2, v3, v4, h0, h1, h2, h3, h4⟩ := box_cells Y7
    obtain ⟨z0, z1, z2, z3, z4, g0, g1, g2, g3, g4⟩ := box_cells X7
    have C1 : Hid (∀ k, k ≠ V0 → W7.heap[k]? = W6.heap[k]?) := c1
    have C2 : Hid (W7.heap.size = W6.heap.size) := c2
    have C3 : Hid (W7.os = W6.os) := c3
    have C4 : Hid (W7.tape = W6.tape) := c4
    have C5 : Hid (W7.output = W6.output) := c5
    clear c1 c2 c3 c4 c5 Y7 X7
    go_wp2_with fail
    refine bodyPost_ret (v := mk k5 b5 t5 ka5 kl5 kc5 ia5 il5 ic5) (by simp [results, Try.results40, go_sem, z0, z1, z2, z3, z4]) rfl ?_
    obtain ⟨e1, e2, e3, e4, e5⟩ := five_fin W7 w.heap.size (.int .i64 k5) (.int .u64 b5) (.string t5) (.slice ka5 kl5 kc5) (.slice ia5 il5 ic5)
    generalize (((((W7.setCell ⟨w.heap.size, 0, none⟩ (.int .i64 k5)).setCell ⟨w.heap.size, 1, none⟩ (.int .u64 b5)).setCell ⟨w.heap.size, 2, none⟩ (.string t5)).setCell ⟨w.heap.size, 3, none⟩ (.slice ka5 kl5 kc5)).setCell ⟨w.heap.size, 4, none⟩ (.slice ia5 il5 ic5)) = W8 at *
    have hkk : ∀ k, k ≠ V0 → k ≠ w.heap.size → W8.heap[k]? = W6.heap[k]? := fun k h1 h2 => (e1 k h2).trans (C1.out k h1)
    have hs8 : W8.heap.size = W6.heap.size := by have := C2.out; omega
    have hg8 : w.grownBy W8 (some p) := ⟨(e3.trans C3.out).trans G6.out.os, (e4.trans C4.out).trans G6.out.tape, (e5.trans C5.out).trans G6.out.output, by have := G6.out.size; omega, fun k hk hn => (hkk k (by omega) (by omega)).trans (G6.out.block k hk hn)⟩
    exact ⟨hg8, Or.inl ⟨er, by rw [HRR.out, HIT.out], HE6.out.same (hkk p (by omega) (by omega)), _, rfl, _, _, _, _, _, _, _, _, _, rfl⟩⟩
  · have Y6 : Hid (W6.heap[V0]? = some (.cells #[.int .i64 5, .int .u64 0, .string ⟨#[]⟩, .slice none 0 0, .slice none 0 0] 50 (0, 0))) := (hg6.block _ (lt_of_block YV5.out) (by simp; omega)).trans YV5.out
    have X6 : Hid (W6.heap[w.heap.size]? = some (.cells #[.int .i64 0, .int .u64 0, .string ⟨#[]⟩, .slice none 0 0, .slice none 0 0] 50 (0, 0))) := (hg6.block _ (lt_of_block XR5.out) (by simp; omega)).trans XR5.out
    have G6 : Hid (w.grownBy W6 (some p)) := grown_trans G5.out hg6
    have HW5 : Hid (W5.heap.size ≤ W6.heap.size) := hg6.size
    have HV5 : Hid (V0 < W5.heap.size) := lt_of_block YV5.out
    have RA6 : Hid (RAt W6 p a c bs s') := hA
    have HIT : Hid (rdFields n (r, q + 1) = .ok (ks, its, s')) := hit
    have HL : Hid (OwnL W6 n (.slice ia its.length ic) its H) := hL
    have HH : Hid (∀ b, H b → W5.heap.size ≤ b ∧ b < W6.heap.size) := hH
    have HK : Hid (OwnK W6 (.slice ka ks.length kc) ks) := hK
    have HKH : Hid (∀ b, (Value.slice ka ks.length kc).ownBlock = some b → ¬ H b) := hKH
    have HKR : Hid (∀ b, (Value.slice ka ks.length kc).ownBlock = some b → W5.heap.size ≤ b ∧ b < W6.heap.size) := hKr
    have HKS : Hid (∀ k ∈ ks, k.size ≤ 16) := hKS
    have HIL : Hid (its.length ≤ 32 ∧ ks.length ≤ 32) := ⟨hi32, hk32⟩
    clear hA hit hL hH hK hKH hKr hKS hk32 hi32
    obtain ⟨il, hil⟩ : ∃ il, Hid (its.length = il) := ⟨_, rfl⟩
    obtain ⟨kl, hkl⟩ : ∃ kl, Hid (ks.length = kl) := ⟨_, rfl⟩
    rw [hil.out, hkl.out]
    clear v0 v1 v2 v3 v4 h0 h1 h2 h3 h4 hg6
    obtain ⟨v0, v1, v2, v3, v4, h0, h1, h2, h3, h4⟩ := box_cells Y6.out
    go_upto_region 23 with fail
    have Y7 := five_new Y6.out (.int .i64 5) (.int .u64 0) (.string ⟨#[]⟩) (.slice ka kl kc) (.slice ia il ic)
    obtain ⟨c1, c2, c3, c4, c5⟩ := five_fin W6 V0 (.int .i64 5) (.int .u64 0) (.string ⟨#[]⟩) (.slice ka kl kc) (.slice ia il ic)
    clear v0 v1 v2 v3 v4 h0 h1 h2 h3 h4
    generalize (((((W6.setCell ⟨V0, 0, none⟩ (.int .i64 5)).setCell ⟨V0, 1, none⟩ (.int .u64 0)).setCell ⟨V0, 2, none⟩ (.string ⟨#[]⟩)).setCell ⟨V0, 3, none⟩ (.slice ka kl kc)).setCell ⟨V0, 4, none⟩ (.slice ia il ic)) = W7 at *
    have X7 := (c1 _ (by omega)).trans X6.out
    obtain ⟨v0, v1, v2, v3, v4, h0, h1, h2, h3, h4⟩ := box_cells Y7
    obtain ⟨z0, z1, z2, z3, z4, g0, g1, g2, g3, g4⟩ := box_cells X7
    have C1 : Hid (∀ k, k ≠ V0 → W7.heap[k]? = W6.heap[k]?) := c1
    have C2 : Hid (W7.heap.size = W6.heap.size) := c2
    have C3 : Hid (W7.os = W6.os) := c3
    have C4 : Hid (W7.tape = W6.tape) := c4
    have C5 : Hid (W7.output = W6.output) := c5
    clear c1 c2 c3 c4 c5 Y7 X7
    go_wp2_with fail
    refine bodyPost_ret (v := mk 5 0 ⟨#[]⟩ ka kl kc ia il ic) (by simp [results, Try.results40, go_sem, z0, z1, z2, z3, z4]) rfl ?_
    obtain ⟨e1, e2, e3, e4, e5⟩ := five_fin W7 w.heap.size (.int .i64 5) (.int .u64 0) (.string ⟨#[]⟩) (.slice ka kl kc) (.slice ia il ic)
    generalize (((((W7.setCell ⟨w.heap.size, 0, none⟩ (.int .i64 5)).setCell ⟨w.heap.size, 1, none⟩ (.int .u64 0)).setCell ⟨w.heap.size, 2, none⟩ (.string ⟨#[]⟩)).setCell ⟨w.heap.size, 3, none⟩ (.slice ka kl kc)).setCell ⟨w.heap.size, 4, none⟩ (.slice ia il ic)) = W8 at *
    have hkk : ∀ k, k ≠ V0 → k ≠ w.heap.size → W8.heap[k]? = W6.heap[k]? := fun k h1 h2 => (e1 k h2).trans (C1.out k h1)
    have hs8 : W8.heap.size = W6.heap.size := by have := C2.out; omega
    have hg8 : w.grownBy W8 (some p) := ⟨(e3.trans C3.out).trans G6.out.os, (e4.trans C4.out).trans G6.out.tape, (e5.trans C5.out).trans G6.out.output, by have := G6.out.size; omega, fun k hk hn => (hkk k (by omega) (by omega)).trans (G6.out.block k hk hn)⟩
    have HIL' := HIL.out
    have hsz := G5.out.size
    have hv5 := HV5.out
    have L8 : OwnL W8 n (.slice ia its.length ic) its H := HL.out.same fun b hb => hkk b (by have := (HH.out b hb).1; omega) (by have := (HH.out b hb).1; omega)
    have K8 : OwnK W8 (.slice ka ks.length kc) ks := HK.out.same fun b hb => hkk b (by have := (HKR.out b hb).1; omega) (by have := (HKR.out b hb).1; omega)
    have P8 := OwnL.part (k := 5) (b := 0) (t := ⟨#[]⟩) L8 K8 HKH.out (by omega) (by omega) (by decide) (by omega) (by omega) (fun k hk => by have := HKS.out k hk; omega)
    have hR8 : ∀ b, (H b ∨ (Value.slice ka ks.length kc).ownBlock = some b) → w.heap.size ≤ b ∧ b < W8.heap.size := fun b hb => by
      rcases hb with hb | hb
      · have := HH.out b hb; omega
      · have := HKR.out b hb; omega
    rw [hil.out, hkl.out] at P8
    rw [hkl.out] at hR8
    exact ⟨hg8, Or.inr ⟨_, s', by rw [HRR.out, HIT.out], RA6.out.same (hkk p (by omega) (by omega)), _, _, rfl, P8, hR8⟩⟩

end Go.Proofs.Ytfdbhojghkdlkaa
