/-
  The page's reader: a number, a text.
-/
import Derived.Test.YtfdbhojghkdlkaaPkRBox
namespace Go.Proofs.Ytfdbhojghkdlkaa
open Go.ChangeShapes Go.WideShapes Go.ChangeAt Go.RowKit
open Fl

set_option maxRecDepth 100000 in
set_option maxHeartbeats 3200000 in
theorem rvalue_num (p : Nat) (a : Option Addr) (c : Nat) (bs l : List UInt8) (q : Nat) (d : Int) (w : World) (h : RAt w p a c bs (l, q)) (ho : Oct w a c bs) (hb : q + l.length ≤ 281474976710656) (n : Nat) (hd : d ≤ 8) (o : UInt8) (r : List UInt8) (hl : l = o :: r) (ho0 : o.toNat = 3) :
    Calls Try.prog 40 #[.pointer (some ⟨p, 0, none⟩), .int .i64 d] w (VPost (n + 1) (rd (n + 1) (l, q)) p a c bs w) := by
  have HRR : Hid (rd (n + 1) (l, q) = (match rdBits r with | .error e => .error e | .ok (b, r') => .ok ((2, b, ⟨#[]⟩, [], []), (r', q + 1)))) := by
    show _ = _
    rw [hl]
    simp only [rd]
    rw [if_neg (by omega), if_neg (by omega), if_pos ho0]
    cases rdBits r with
    | error e => rfl
    | ok br => rfl
  have hd8 : decide ((8 : Int) < d) = false := by simp; omega
  have ho0' : (o.toNat : Int) = 3 := by omega
  have HLN : Hid (l = o :: r) := hl
  clear hl hd ho0
  have hp : p < w.heap.size := by obtain ⟨i, _, _, h3⟩ := h; exact lt_of_block h3
  have RA1 : Hid (RAt (w.alloc (.cells #[.int .i64 0, .int .u64 0, .string ⟨#[]⟩, .slice none 0 0, .slice none 0 0] 50)) p a c bs (l, q)) := h.same (Below.heap_alloc _ _ _ hp)
  have HO1 : Hid (Oct (w.alloc (.cells #[.int .i64 0, .int .u64 0, .string ⟨#[]⟩, .slice none 0 0, .slice none 0 0] 50)) a c bs) := ho.below (below_one _ _)
  have XR0 : Hid ((w.alloc (.cells #[.int .i64 0, .int .u64 0, .string ⟨#[]⟩, .slice none 0 0, .slice none 0 0] 50)).heap[w.heap.size]? = some (.cells #[.int .i64 0, .int .u64 0, .string ⟨#[]⟩, .slice none 0 0, .slice none 0 0] 50 (0, 0))) := heap_alloc_new _ _
  have B1 : Hid (w.grownBy (w.alloc (.cells #[.int .i64 0, .int .u64 0, .string ⟨#[]⟩, .slice none 0 0, .slice none 0 0] 50)) (some p)) := grown_of_below (below_one _ _)
  have HPW : Hid (p < w.heap.size) := hp
  have HQ : Hid (q + l.length ≤ 281474976710656) := hb
  clear h ho hp hb
  go_enter Try.func40, Try.ntmps40
  go_upto_region 1 with fail
  generalize w.alloc (.cells #[.int .i64 0, .int .u64 0, .string ⟨#[]⟩, .slice none 0 0, .slice none 0 0] 50) = W0 at *
  go_wp2_with fail
  obtain ⟨i5, hi5, hri5, hblk5⟩ := RA1.out
  clear hi5 hri5
  refine (rfail_no p _ W0 hblk5).mono ?_
  clear hblk5
  rintro e w2 ⟨rfl, hw2⟩
  subst w2
  go_wp2_with fail
  refine (roctet_any p a c bs l q W0 RA1.out HO1.out).mono ?_
  rintro e w2 ⟨hg2, ⟨hl, rfl, hE1⟩ | ⟨o', r', hl, rfl, hA⟩⟩
  · rw [HLN.out] at hl; cases hl
  have hl2 := HLN.out.symm.trans hl
  cases hl2
  have RA2 : Hid (RAt w2 p a c bs (r, q)) := hA
  have G2 : Hid (w.grownBy w2 (some p)) := grown_trans B1.out hg2
  have XR2 : Hid (w2.heap[w.heap.size]? = some (.cells #[.int .i64 0, .int .u64 0, .string ⟨#[]⟩, .slice none 0 0, .slice none 0 0] 50 (0, 0))) := (hg2.block _ (lt_of_block XR0.out) (by have := HPW.out; simp; omega)).trans XR0.out
  have HO2 : Hid (Oct w2 a c bs) := HO1.out.grown4 RA1.out hg2
  clear hg2 hA RA1 XR0 B1 HO1 hl
  go_wp2_with fail
  obtain ⟨i5, hi5, hri5, hblk5⟩ := RA2.out
  refine (rfail_no p _ w2 hblk5).mono ?_
  rintro e w3 ⟨rfl, hw3⟩
  subst w3
  obtain ⟨y0, y1, y2, y3, f0, f1, f2, f3⟩ := rd4_cells hblk5
  have hq0 : q ≤ 281474976710656 := by have := HQ.out; omega
  have RA3 : Hid (RAt (w2.setCell ⟨p, 2, none⟩ (.int .i64 ((q : Int) + 1))) p a c bs (r, q + 1)) := ⟨i5, hi5, hri5, set4_two hblk5 _⟩
  clear hi5 hri5 hblk5
  go_upto_region 6 with fail
  have hpw := HPW.out
  have hww := lt_of_block XR2.out
  have hsz : (w2.setCell ⟨p, 2, none⟩ (.int .i64 ((q : Int) + 1))).heap.size = w2.heap.size := by simp [World.setCell]
  have bA := below_one (w2.setCell ⟨p, 2, none⟩ (.int .i64 ((q : Int) + 1))) (.cells #[.int .i64 0, .int .u64 0, .string ⟨#[]⟩, .slice none 0 0, .slice none 0 0] 50)
  have RA4 : Hid (RAt ((w2.setCell ⟨p, 2, none⟩ (.int .i64 ((q : Int) + 1))).alloc (.cells #[.int .i64 0, .int .u64 0, .string ⟨#[]⟩, .slice none 0 0, .slice none 0 0] 50)) p a c bs (r, q + 1)) := RA3.out.same (bA.block p (by rw [hsz]; omega))
  have XR4 : Hid (((w2.setCell ⟨p, 2, none⟩ (.int .i64 ((q : Int) + 1))).alloc (.cells #[.int .i64 0, .int .u64 0, .string ⟨#[]⟩, .slice none 0 0, .slice none 0 0] 50)).heap[w.heap.size]? = some (.cells #[.int .i64 0, .int .u64 0, .string ⟨#[]⟩, .slice none 0 0, .slice none 0 0] 50 (0, 0))) := (bA.block _ (by rw [hsz]; exact hww)).trans ((Below.heap_setCell _ _ _ _ (by simp only; omega)).trans XR2.out)
  have YV4 : Hid (((w2.setCell ⟨p, 2, none⟩ (.int .i64 ((q : Int) + 1))).alloc (.cells #[.int .i64 0, .int .u64 0, .string ⟨#[]⟩, .slice none 0 0, .slice none 0 0] 50)).heap[w2.heap.size]? = some (.cells #[.int .i64 0, .int .u64 0, .string ⟨#[]⟩, .slice none 0 0, .slice none 0 0] 50 (0, 0))) := by
    have := heap_alloc_new (w2.setCell ⟨p, 2, none⟩ (.int .i64 ((q : Int) + 1))) (.cells #[.int .i64 0, .int .u64 0, .string ⟨#[]⟩, .slice none 0 0, .slice none 0 0] 50)
    rw [hsz] at this
    exact this
  have G4 : Hid (w.grownBy ((w2.setCell ⟨p, 2, none⟩ (.int .i64 ((q : Int) + 1))).alloc (.cells #[.int .i64 0, .int .u64 0, .string ⟨#[]⟩, .slice none 0 0, .slice none 0 0] 50)) (some p)) := grown_below (grown_trans G2.out (grown_set _)) bA
  have HO4 : Hid (Oct ((w2.setCell ⟨p, 2, none⟩ (.int .i64 ((q : Int) + 1))).alloc (.cells #[.int .i64 0, .int .u64 0, .string ⟨#[]⟩, .slice none 0 0, .slice none 0 0] 50)) a c bs) := (HO2.out.grown4 RA2.out (grown_set _)).below bA
  have HQ4 : Hid (q + 1 + r.length ≤ 281474976710656) := by show _ ≤ _; have := HQ.out; rw [HLN.out] at this; simp only [List.length_cons] at this; omega
  have HV2 : Hid (w.heap.size < w2.heap.size) := hww
  clear bA hsz RA3 RA2 XR2 G2 HO2 y0 y1 y2 y3 f0 f1 f2 f3
  generalize ((w2.setCell ⟨p, 2, none⟩ (.int .i64 ((q : Int) + 1))).alloc (.cells #[.int .i64 0, .int .u64 0, .string ⟨#[]⟩, .slice none 0 0, .slice none 0 0] 50)) = W4 at *
  generalize w2.heap.size = V0 at *
  obtain ⟨z0, z1, z2, z3, z4, g0, g1, g2, g3, g4⟩ := box_cells XR4.out
  obtain ⟨v0, v1, v2, v3, v4, h0, h1, h2, h3, h4⟩ := box_cells YV4.out
  obtain ⟨i5, hi5, hri5, hblk5⟩ := RA4.out
  obtain ⟨y0, y1, y2, y3, f0, f1, f2, f3⟩ := rd4_cells hblk5
  clear hi5 hri5 hblk5
  go_wp2_with fail
  refine (rtake_any 8 p a c bs (r, q + 1) W4 RA4.out HO4.out (by decide)).mono ?_
  rintro e W5 ⟨hg5, ⟨h5, rfl, hE⟩ | ⟨h5, h6, a', c', rfl, h7⟩⟩
  · have HBE : Hid (rdBits r = .error 8) := by show _ = _; simp only [rdBits, nxtN]; rw [if_pos h5]
    have HE5 : Hid (RErr W5 p 281474976710660 8) := hE.mono (by have := HQ4.out; (try simp only at this ⊢); omega)
    have hV0 := HV2.out
    have Y5 : Hid (W5.heap[V0]? = some (.cells #[.int .i64 0, .int .u64 0, .string ⟨#[]⟩, .slice none 0 0, .slice none 0 0] 50 (0, 0))) := (hg5.block _ (lt_of_block YV4.out) (by simp; omega)).trans YV4.out
    have X5 : Hid (W5.heap[w.heap.size]? = some (.cells #[.int .i64 0, .int .u64 0, .string ⟨#[]⟩, .slice none 0 0, .slice none 0 0] 50 (0, 0))) := (hg5.block _ (lt_of_block XR4.out) (by simp; omega)).trans XR4.out
    have G5 : Hid (w.grownBy W5 (some p)) := grown_trans G4.out hg5
    clear z0 z1 z2 z3 z4 g0 g1 g2 g3 g4 v0 v1 v2 v3 v4 h0 h1 h2 h3 h4 y0 y1 y2 y3 f0 f1 f2 f3
    obtain ⟨v0, v1, v2, v3, v4, h0, h1, h2, h3, h4⟩ := box_cells Y5.out
    clear hg5 hE h5 RA4 XR4 YV4 G4 HO4
    go_wp2_with fail
    refine (rnumber_any none 0 [] W5 (fun i o hi => by simp at hi) (by simp)).mono ?_
    rintro e w6 ⟨rfl, hw6⟩
    subst w6
    have hn0 : numO [] = 0 := rfl
    rw [hn0]
    clear hn0
    go_upto_region 14 with fail
    have YV6 : Hid (((W5.setCell ⟨V0, 0, none⟩ (.int .i64 2)).setCell ⟨V0, 1, none⟩ (.int .u64 0)).heap[V0]? = some (.cells #[.int .i64 2, .int .u64 0, .string ⟨#[]⟩, .slice none 0 0, .slice none 0 0] 50 (0, 0))) := by
      have q0 := set_one_cell (o := 0) Y5.out (.int .i64 2)
      have q1 := set_one_cell (o := 1) q0 (.int .u64 0)
      show _ = _
      rw [q1]
      simp
    have kp6 : ∀ k, k ≠ V0 → ((W5.setCell ⟨V0, 0, none⟩ (.int .i64 2)).setCell ⟨V0, 1, none⟩ (.int .u64 0)).heap[k]? = W5.heap[k]? := fun k hk => by rw [Below.heap_setCell _ _ _ _ hk, Below.heap_setCell _ _ _ _ hk]
    have XR6 : Hid (((W5.setCell ⟨V0, 0, none⟩ (.int .i64 2)).setCell ⟨V0, 1, none⟩ (.int .u64 0)).heap[w.heap.size]? = some (.cells #[.int .i64 0, .int .u64 0, .string ⟨#[]⟩, .slice none 0 0, .slice none 0 0] 50 (0, 0))) := (kp6 _ (by omega)).trans X5.out
    have kpp : ((W5.setCell ⟨V0, 0, none⟩ (.int .i64 2)).setCell ⟨V0, 1, none⟩ (.int .u64 0)).heap[p]? = W5.heap[p]? := kp6 _ (by omega)
    have G6 : Hid (w.grownBy ((W5.setCell ⟨V0, 0, none⟩ (.int .i64 2)).setCell ⟨V0, 1, none⟩ (.int .u64 0)) (some p)) := ⟨by simpa [World.setCell] using G5.out.os, by simpa [World.setCell] using G5.out.tape, by simpa [World.setCell] using G5.out.output, by simpa [World.setCell] using G5.out.size, fun k hk hn => (kp6 k (by omega)).trans (G5.out.block k hk hn)⟩
    have HE6 : Hid (RErr _ p 281474976710660 8) := HE5.out.same kpp
    clear v0 v1 v2 v3 v4 h0 h1 h2 h3 h4 kp6 kpp
    generalize ((W5.setCell ⟨V0, 0, none⟩ (.int .i64 2)).setCell ⟨V0, 1, none⟩ (.int .u64 0)) = W6 at *
    obtain ⟨v0, v1, v2, v3, v4, h0, h1, h2, h3, h4⟩ := box_cells YV6.out
    go_quiet (first | (go_at_call 57; exact Calls.quiet_of_same (rcanon_any 0 _ (by unfold U; omega))) | (go_at_call 41; exact Calls.quiet_of_same (rfail_err p _ _ _ _ _ (HE6.out.same rfl))))
    have Y7 : (W6.drewN nq).heap[V0]? = some (.cells #[.int .i64 2, .int .u64 0, .string ⟨#[]⟩, .slice none 0 0, .slice none 0 0] 50 (0, 0)) := YV6.out
    have X7 : (W6.drewN nq).heap[w.heap.size]? = some (.cells #[.int .i64 0, .int .u64 0, .string ⟨#[]⟩, .slice none 0 0, .slice none 0 0] 50 (0, 0)) := XR6.out
    have D7 : Hid (Below W6.heap.size W6 (W6.drewN nq)) := Below_drewN _ _ _
    have K7 : Hid (∀ k : Nat, (W6.drewN nq).heap[k]? = W6.heap[k]?) := fun _ => rfl
    generalize W6.drewN nq = W7 at *
    clear v0 v1 v2 v3 v4 h0 h1 h2 h3 h4
    obtain ⟨v0, v1, v2, v3, v4, h0, h1, h2, h3, h4⟩ := box_cells Y7
    obtain ⟨z0, z1, z2, z3, z4, g0, g1, g2, g3, g4⟩ := box_cells X7
    clear Y7 X7
    go_wp2_with fail
    refine bodyPost_ret (v := mk 2 0 ⟨#[]⟩ none 0 0 none 0 0) (by simp [results, Try.results40, go_sem, z0, z1, z2, z3, z4]) rfl ?_
    obtain ⟨e1, e2, e3, e4, e5⟩ := five_fin W7 w.heap.size (.int .i64 2) (.int .u64 0) (.string ⟨#[]⟩) (.slice none 0 0) (.slice none 0 0)
    generalize (((((W7.setCell ⟨w.heap.size, 0, none⟩ (.int .i64 2)).setCell ⟨w.heap.size, 1, none⟩ (.int .u64 0)).setCell ⟨w.heap.size, 2, none⟩ (.string ⟨#[]⟩)).setCell ⟨w.heap.size, 3, none⟩ (.slice none 0 0)).setCell ⟨w.heap.size, 4, none⟩ (.slice none 0 0)) = W8 at *
    have hkk : ∀ k, k ≠ w.heap.size → W8.heap[k]? = W6.heap[k]? := fun k h2 => (e1 k h2).trans (K7.out k)
    have hs8 : W6.heap.size ≤ W8.heap.size := by have := D7.out.size; omega
    have hg8 : w.grownBy W8 (some p) := ⟨(e3.trans D7.out.os).trans G6.out.os, (e4.trans D7.out.tape).trans G6.out.tape, (e5.trans D7.out.output).trans G6.out.output, by have := G6.out.size; omega, fun k hk hn => (hkk k (by omega)).trans (G6.out.block k hk hn)⟩
    exact ⟨hg8, Or.inl ⟨8, by rw [HRR.out, HBE.out], HE6.out.same (hkk p (by omega)), _, rfl, _, _, _, _, _, _, _, _, _, rfl⟩⟩
  · replace h5 : 8 ≤ r.length := h5
    have hlt' : (r.take 8).length = 8 := by rw [List.length_take]; exact Nat.min_eq_left h5
    have HNB : Hid (0 ≤ numO (r.take 8) ∧ numO (r.take 8) < 18446744073709551616) := by
      have := numO_bound 8 (r.take 8) hlt'
      exact ⟨this.1, by have := this.2; simpa using this⟩
    have HBO : Hid (rdBits r = if can (numO (r.take 8)) = numO (r.take 8) then .ok (numO (r.take 8), r.drop 8) else .error 1) := by show _ = _; simp only [rdBits, nxtN]; rw [if_neg (by omega)]
    have HL7 : Hid (LayB W5 a' (r.take 8)) := h7
    have RA5 : Hid (RAt W5 p a c bs (r.drop 8, q + 1)) := h6
    have hV0 := HV2.out
    have Y5 : Hid (W5.heap[V0]? = some (.cells #[.int .i64 0, .int .u64 0, .string ⟨#[]⟩, .slice none 0 0, .slice none 0 0] 50 (0, 0))) := (hg5.block _ (lt_of_block YV4.out) (by simp; omega)).trans YV4.out
    have X5 : Hid (W5.heap[w.heap.size]? = some (.cells #[.int .i64 0, .int .u64 0, .string ⟨#[]⟩, .slice none 0 0, .slice none 0 0] 50 (0, 0))) := (hg5.block _ (lt_of_block XR4.out) (by simp; omega)).trans XR4.out
    have G5 : Hid (w.grownBy W5 (some p)) := grown_trans G4.out hg5
    clear z0 z1 z2 z3 z4 g0 g1 g2 g3 g4 v0 v1 v2 v3 v4 h0 h1 h2 h3 h4 y0 y1 y2 y3 f0 f1 f2 f3
    obtain ⟨v0, v1, v2, v3, v4, h0, h1, h2, h3, h4⟩ := box_cells Y5.out
    clear hg5 h5 h6 h7 RA4 XR4 YV4 G4 HO4
    have HC8 : Hid (Calls Try.prog 23 #[.slice a' 8 c'] W5 fun e w' => e = .returned (.int .u64 (numO (r.take 8))) ∧ w' = W5) := by
      have := rnumber_any a' c' (r.take 8) W5 HL7.out (by omega)
      rw [hlt'] at this
      exact this
    clear hlt'
    generalize hB : numO (r.take 8) = B at *
    clear hB
    go_wp2_with fail
    refine HC8.out.mono ?_
    rintro e w6 ⟨rfl, hw6⟩
    subst w6
    go_upto_region 14 with fail
    have YV6 : Hid (((W5.setCell ⟨V0, 0, none⟩ (.int .i64 2)).setCell ⟨V0, 1, none⟩ (.int .u64 B)).heap[V0]? = some (.cells #[.int .i64 2, .int .u64 B, .string ⟨#[]⟩, .slice none 0 0, .slice none 0 0] 50 (0, 0))) := by
      have q0 := set_one_cell (o := 0) Y5.out (.int .i64 2)
      have q1 := set_one_cell (o := 1) q0 (.int .u64 B)
      show _ = _
      rw [q1]
      simp
    have kp6 : ∀ k, k ≠ V0 → ((W5.setCell ⟨V0, 0, none⟩ (.int .i64 2)).setCell ⟨V0, 1, none⟩ (.int .u64 B)).heap[k]? = W5.heap[k]? := fun k hk => by rw [Below.heap_setCell _ _ _ _ hk, Below.heap_setCell _ _ _ _ hk]
    have XR6 : Hid (((W5.setCell ⟨V0, 0, none⟩ (.int .i64 2)).setCell ⟨V0, 1, none⟩ (.int .u64 B)).heap[w.heap.size]? = some (.cells #[.int .i64 0, .int .u64 0, .string ⟨#[]⟩, .slice none 0 0, .slice none 0 0] 50 (0, 0))) := (kp6 _ (by omega)).trans X5.out
    have kpp : ((W5.setCell ⟨V0, 0, none⟩ (.int .i64 2)).setCell ⟨V0, 1, none⟩ (.int .u64 B)).heap[p]? = W5.heap[p]? := kp6 _ (by omega)
    have G6 : Hid (w.grownBy ((W5.setCell ⟨V0, 0, none⟩ (.int .i64 2)).setCell ⟨V0, 1, none⟩ (.int .u64 B)) (some p)) := ⟨by simpa [World.setCell] using G5.out.os, by simpa [World.setCell] using G5.out.tape, by simpa [World.setCell] using G5.out.output, by simpa [World.setCell] using G5.out.size, fun k hk hn => (kp6 k (by omega)).trans (G5.out.block k hk hn)⟩
    have RA6 : Hid (RAt _ p a c bs (r.drop 8, q + 1)) := RA5.out.same kpp
    clear v0 v1 v2 v3 v4 h0 h1 h2 h3 h4 kp6 kpp
    generalize ((W5.setCell ⟨V0, 0, none⟩ (.int .i64 2)).setCell ⟨V0, 1, none⟩ (.int .u64 B)) = W6 at *
    obtain ⟨v0, v1, v2, v3, v4, h0, h1, h2, h3, h4⟩ := box_cells YV6.out
    obtain ⟨i5, hi5, hri5, hblk5⟩ := RA6.out
    have HBK : Hid (W6.heap[p]? = _) := hblk5
    clear hi5 hri5 hblk5
    by_cases hcan : can B = B
    · have hcb : (can B != B) = false := by simp [hcan]
      have HBO2 : Hid (rdBits r = .ok (B, r.drop 8)) := by show _ = _; rw [HBO.out, if_pos hcan]
      have HCN : Hid (∀ w, Calls Try.prog 57 #[.int .u64 B] w fun e w' => e = .returned (.int .u64 B) ∧ w' = w) := fun w => by
        have := rcanon_any B w HNB.out
        rw [hcan] at this
        exact this
      clear hcan hcb
      have hbb : (B != B) = false := by simp
      go_quiet (first | (go_at_call 57; exact Calls.quiet_of_same (HCN.out _)) | (go_at_call 41; exact Calls.quiet_of_same (rfail_no p _ _ HBK.out)))
      have Y7 : (W6.drewN nq).heap[V0]? = some (.cells #[.int .i64 2, .int .u64 B, .string ⟨#[]⟩, .slice none 0 0, .slice none 0 0] 50 (0, 0)) := YV6.out
      have X7 : (W6.drewN nq).heap[w.heap.size]? = some (.cells #[.int .i64 0, .int .u64 0, .string ⟨#[]⟩, .slice none 0 0, .slice none 0 0] 50 (0, 0)) := XR6.out
      have D7 : Hid (Below W6.heap.size W6 (W6.drewN nq)) := Below_drewN _ _ _
      have K7 : Hid (∀ k : Nat, (W6.drewN nq).heap[k]? = W6.heap[k]?) := fun _ => rfl
      generalize W6.drewN nq = W7 at *
      clear v0 v1 v2 v3 v4 h0 h1 h2 h3 h4
      obtain ⟨v0, v1, v2, v3, v4, h0, h1, h2, h3, h4⟩ := box_cells Y7
      obtain ⟨z0, z1, z2, z3, z4, g0, g1, g2, g3, g4⟩ := box_cells X7
      clear Y7 X7
      go_wp2_with fail
      refine bodyPost_ret (v := mk 2 B ⟨#[]⟩ none 0 0 none 0 0) (by simp [results, Try.results40, go_sem, z0, z1, z2, z3, z4]) rfl ?_
      obtain ⟨e1, e2, e3, e4, e5⟩ := five_fin W7 w.heap.size (.int .i64 2) (.int .u64 B) (.string ⟨#[]⟩) (.slice none 0 0) (.slice none 0 0)
      generalize (((((W7.setCell ⟨w.heap.size, 0, none⟩ (.int .i64 2)).setCell ⟨w.heap.size, 1, none⟩ (.int .u64 B)).setCell ⟨w.heap.size, 2, none⟩ (.string ⟨#[]⟩)).setCell ⟨w.heap.size, 3, none⟩ (.slice none 0 0)).setCell ⟨w.heap.size, 4, none⟩ (.slice none 0 0)) = W8 at *
      have hkk : ∀ k, k ≠ w.heap.size → W8.heap[k]? = W6.heap[k]? := fun k h2 => (e1 k h2).trans (K7.out k)
      have hs8 : W6.heap.size ≤ W8.heap.size := by have := D7.out.size; omega
      have hg8 : w.grownBy W8 (some p) := ⟨(e3.trans D7.out.os).trans G6.out.os, (e4.trans D7.out.tape).trans G6.out.tape, (e5.trans D7.out.output).trans G6.out.output, by have := G6.out.size; omega, fun k hk hn => (hkk k (by omega)).trans (G6.out.block k hk hn)⟩
      have hnb := HNB.out
      exact ⟨hg8, Or.inr ⟨_, _, by rw [HRR.out, HBO2.out], RA6.out.same (hkk p (by omega)), _, _, rfl, own_leaf W8 n (by omega) hnb (by decide), fun b hb => hb.elim⟩⟩
    · have HBO2 : Hid (rdBits r = .error 1) := by show _ = _; rw [HBO.out, if_neg hcan]
      have hcb : (can B != B) = true := by simpa using hcan
      have HCN : Hid (∀ w, Calls Try.prog 57 #[.int .u64 B] w fun e w' => e = .returned (.int .u64 (can B)) ∧ w' = w) := fun w => rcanon_any B w HNB.out
      clear hcan HBO
      generalize can B = C at *
      go_region_with (first | (go_at_call 57; refine (HCN.out _).mono ?_; rintro e w7 ⟨rfl, hw7⟩; subst w7) | (go_at_call 41; refine (rfail_set p a c bs (r.drop 8, q + 1) 1 _ (by exact RA6.out.same rfl) (by decide)).mono ?_; rintro e W7 ⟨rfl, hg7, hE7⟩))
      all_goals
        have hg7' : W6.grownBy W7 (some p) := ⟨hg7.os, hg7.tape, hg7.output, hg7.size, hg7.block⟩
        have Y7 := (hg7'.block V0 (lt_of_block YV6.out) (by simp; omega)).trans YV6.out
        have X7 := (hg7'.block w.heap.size (lt_of_block XR6.out) (by simp; omega)).trans XR6.out
        have G7 : Hid (w.grownBy W7 (some p)) := grown_trans G6.out hg7'
        have HE7 : Hid (RErr W7 p 281474976710660 1) := hE7.mono (by have := HQ4.out; omega)
        clear v0 v1 v2 v3 v4 h0 h1 h2 h3 h4 hg7 hg7' hE7
        obtain ⟨v0, v1, v2, v3, v4, h0, h1, h2, h3, h4⟩ := box_cells Y7
        obtain ⟨z0, z1, z2, z3, z4, g0, g1, g2, g3, g4⟩ := box_cells X7
        clear Y7 X7
        go_wp2_with fail
        refine bodyPost_ret (v := mk 2 B ⟨#[]⟩ none 0 0 none 0 0) (by simp [results, Try.results40, go_sem, z0, z1, z2, z3, z4]) rfl ?_
        obtain ⟨e1, e2, e3, e4, e5⟩ := five_fin W7 w.heap.size (.int .i64 2) (.int .u64 B) (.string ⟨#[]⟩) (.slice none 0 0) (.slice none 0 0)
        generalize (((((W7.setCell ⟨w.heap.size, 0, none⟩ (.int .i64 2)).setCell ⟨w.heap.size, 1, none⟩ (.int .u64 B)).setCell ⟨w.heap.size, 2, none⟩ (.string ⟨#[]⟩)).setCell ⟨w.heap.size, 3, none⟩ (.slice none 0 0)).setCell ⟨w.heap.size, 4, none⟩ (.slice none 0 0)) = W8 at *
        exact ⟨⟨e3.trans G7.out.os, e4.trans G7.out.tape, e5.trans G7.out.output, by have := G7.out.size; omega, fun k hk hn => (e1 k (by omega)).trans (G7.out.block k hk hn)⟩, Or.inl ⟨1, by rw [HRR.out, HBO2.out], HE7.out.same (e1 p (by omega)), _, rfl, _, _, _, _, _, _, _, _, _, rfl⟩⟩

end Go.Proofs.Ytfdbhojghkdlkaa
