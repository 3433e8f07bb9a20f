/-
  The copy of a state.
-/
import Derived.Test.YtokebdeaahdcjabDkOwn
namespace Go.Proofs.Ytokebdeaahdcjab
open Go.ChangeShapes Go.WideShapes Go.ChangeAt Go.RowKit Go.Deep
open Dk (Wr St)

/-- Two worlds that agree up to B agree there still when both are written alike. -/
theorem below_set2 {A C : World} (h : Below A.heap.size A C) (g o : Nat) (v : Value) : Below (A.setCell ⟨g, o, none⟩ v).heap.size (A.setCell ⟨g, o, none⟩ v) (C.setCell ⟨g, o, none⟩ v) := by
  have hs : (A.setCell ⟨g, o, none⟩ v).heap.size = A.heap.size := by simp [World.setCell]
  refine ⟨h.os, h.tape, h.output, ?_, ?_⟩
  · have := h.size
    simpa [World.setCell] using this
  · intro j hj
    rw [hs] at hj
    have e := h.block j hj
    simp only [World.setCell, Array.getElem?_modify]
    rw [e]

set_option maxRecDepth 100000 in
set_option maxHeartbeats 3200000 in
theorem copyOf_any (s : St) (a a' : Option Addr) (c c' : Nat) (w : World) (hS : LayS w a s.secs) (hW : LayW w a' s.cache) (hok : Dk.Ok s) :
    Calls Try.prog 31 #[.agg #[.slice a s.secs.length c, .slice a' s.cache.length c']] w fun e w' => ∃ T wins aw cw w0, e = .returned (.agg #[.slice (some ⟨T, 0, none⟩) s.secs.length s.secs.length, .slice aw s.cache.length cw]) ∧
      Wn w' T wins s.secs ∧ Apart wins ∧ WinsUp w0.heap.size wins ∧ OwnW w' w.heap.size (.slice aw s.cache.length cw) s.cache ∧ LayW w0 aw s.cache ∧ Below w0.heap.size w0 w' ∧ Below w.heap.size w w' ∧ w.heap.size ≤ w0.heap.size := by
  obtain ⟨ss, ws⟩ := s
  have h1 := hok.lo
  have h2 := hok.hi
  have h3 := hok.few
  have HR : Hid (∀ l ∈ ss, l.length = 48) := hok.rows
  have HF : Hid (∀ x ∈ ws, x.fl = false) := fun x hx => (hok.fits x hx).1
  simp only at hS hW h1 h2 h3 ⊢
  have HS : Hid (LayS w a ss) := hS
  have HW : Hid (LayW w a' ws) := hW
  clear hS hW hok
  have B0 : Hid (Below w.heap.size w ((w.alloc (.cells #[.slice a ss.length c, .slice a' ws.length c'] 30)).alloc (.cells #[.slice none 0 0, .slice none 0 0] 30))) := nxt (below_one _ _) (below_one _ _)
  have X0 : Hid (((w.alloc (.cells #[.slice a ss.length c, .slice a' ws.length c'] 30)).alloc (.cells #[.slice none 0 0, .slice none 0 0] 30)).heap[w.heap.size]? = some (.cells #[.slice a ss.length c, .slice a' ws.length c'] 30 (0, 0))) := (Below.heap_alloc _ _ _ (by simp)).trans (heap_alloc_new _ _)
  have Y0 : Hid (((w.alloc (.cells #[.slice a ss.length c, .slice a' ws.length c'] 30)).alloc (.cells #[.slice none 0 0, .slice none 0 0] 30)).heap[w.heap.size + 1]? = some (.cells #[.slice none 0 0, .slice none 0 0] 30 (0, 0))) := heap_new2 _ _ _
  have Z0 : Hid (((w.alloc (.cells #[.slice a ss.length c, .slice a' ws.length c'] 30)).alloc (.cells #[.slice none 0 0, .slice none 0 0] 30)).heap.size = w.heap.size + 2) := by show _ = _; simp
  go_enter Try.func31, Try.ntmps31
  go_wp2_with fail
  generalize (w.alloc (.cells #[.slice a ss.length c, .slice a' ws.length c'] 30)).alloc (.cells #[.slice none 0 0, .slice none 0 0] 30) = W at *
  obtain ⟨i0, hi0, hz0, hz1, hz2⟩ := info_parts Try.infoWr
  go_loopw [3, 9] (fun v i wr => ∃ m : Nat, m ≤ ws.length ∧ i = .int .i64 m ∧ Hid (OwnW wr W.heap.size v (ws.take m)) ∧ Hid (Below W.heap.size W wr)) (fun _ i _ => ws.length - (intOf i).toNat)
  case atStart => exact ⟨0, by omega, rfl, by show OwnW _ _ _ _; simpa using OwnW.nil _ _, Below.refl _ _⟩
  case round =>
    obtain ⟨m, hm, rfl, HO, HB⟩ := hrel
    by_cases hlt : m < ws.length
    · have hlt1 : (m : Int) < (ws.length : Int) := by omega
      obtain ⟨x, hx⟩ : ∃ x, ws[m]? = some x := ⟨_, List.getElem?_eq_getElem hlt⟩
      obtain ⟨b, off, a1, c1, rfl, q0, q1, q2, q3, q4, q5, q6⟩ := (HW.out.below (nxt B0.out HB.out)) m x hx
      have HX : Hid (ws.take (m + 1) = ws.take m ++ [⟨false, x.sec, x.d⟩]) := by
        show _ = _
        have hf := HF.out x (List.mem_of_getElem? hx)
        rw [List.take_succ_eq_append_getElem hlt]
        rw [List.getElem?_eq_getElem hlt] at hx
        simp only [Option.some.injEq] at hx
        rw [hx, ← hf]
      have HFT : Hid (Fit ⟨false, x.sec, x.d⟩) := ⟨q4, q5, q6⟩
      have HQ : Hid (Oct wr a1 c1 x.d) := q3
      have HTL : Hid ((ws.take m).length = m) := by show _ = _; rw [List.length_take]; omega
      obtain ⟨xs, hr, hit⟩ := HO.out
      rw [HTL.out] at hr
      have HRW : Hid (wr.ownsRow W.heap.size 28 3 u3 m xs) := hr
      have HIT : Hid (WItems wr (ws.take m) xs) := hit
      clear hx q3 hr hit
      go_wp2_with (first
        | (go_at_call 45; refine (copyW_any x.fl x.sec a1 c1 x.d _ (HQ.out.below (below_one _ _)) q4).mono ?_; rintro e w1 ⟨s1, rfl, hs1, hb1⟩; obtain ⟨a2, c2, rfl⟩ := hs1.shape; have HS1 : Hid (Bs w1 0 (.slice a2 x.d.length c2) x.d) := hs1.up (fun g _ => Nat.zero_le _); have HB1 : Hid (Below wr.heap.size wr w1) := nxt (below_one _ _) hb1; clear hs1 hb1)
        | (at_builtin; refine wpList_append_apart _ rfl _ _ 23 rfl W.heap.size 28 i0 _ 3 40 Try.underlying23 hi0 hz0 hz1 hz2 rfl (by decide) u3 m xs rfl ?d0 (some ⟨w1.heap.size, 0, none⟩) 1 1 [.bool false, .int .i64 x.sec, .slice a2 x.d.length c2] rfl (by simp) rfl ?d1 ?d2 ?d3 ?d4 ?d5 ?_))
      case d0 => exact ownsRow_same HRW.out fun g hg => (nxt HB1.out (below_one w1 _)).block g (HRW.out.lt g hg).2
      case d1 =>
        intro ad e j u hj
        cases e
        exact newCells w1 _ _ j u (by rw [← Array.getElem?_toList]; exact hj)
      case d2 => simp [Value.oneCell']
      case d3 => unfold maxLen; omega
      case d4 => omega
      case d5 => have := HB.out.size; have := HB1.out.size; simp; omega
      intro v' w4 hrow hgr _
      have bX := nxt HB1.out (below_one w1 (.cells #[.bool false, .int .i64 x.sec, .slice a2 x.d.length c2] 28))
      have H4 : Hid (OwnW w4 W.heap.size v' (ws.take (m + 1))) := by
        show OwnW _ _ _ _
        rw [HX.out]
        have hr2 : (w1.alloc (.cells #[.bool false, .int .i64 x.sec, .slice a2 x.d.length c2] 28)).ownsRow W.heap.size 28 3 u3 (ws.take m).length xs := by
          rw [HTL.out]
          exact ownsRow_same HRW.out fun g hg => bX.block g (HRW.out.lt g hg).2
        refine OwnW.pushed (x := ⟨false, x.sec, x.d⟩) (a := a2) (c := c2) hr2 (HIT.out.kpb (KpB.below bX)) ?_ hgr (HS1.out.below (below_one _ _)) HFT.out
        rw [HTL.out]
        exact hrow
      have HB4 : Hid (Below W.heap.size W w4) := (nxt HB.out bX).grown hgr (by have := HB.out.size; have := bX.size; omega) (fun j e => (HRW.out.lt j e).1)
      clear hrow hgr bX
      go_wp2_with fail
      exact ⟨⟨m + 1, by omega, by go_num, H4.out, HB4.out⟩, by simp [intOf]; omega⟩
    · have hme : m = ws.length := by omega
      subst hme
      have HO2 : Hid (OwnW wr W.heap.size u3 ws) := by
        have := HO.out
        rw [List.take_length] at this
        exact this
      obtain ⟨aw, cw, rfl⟩ := HO2.out.shape
      obtain ⟨x0, -⟩ := cell_of ((HB.out.block _ (lt_of_block X0.out)).trans X0.out) 0
      simp at x0
      have hY := (HB.out.block _ (lt_of_block Y0.out)).trans Y0.out
      have HY : Hid (_ = _) := hY
      clear hY HO
      have HSS : Hid (LayS wr a ss) := HS.out.below (nxt B0.out HB.out)
      go_wp2_with (go_at_call 36; refine (copyS_any a c ss _ HSS.out HR.out h2).mono ?_; rintro e w1 ⟨T, wins, rfl, hwn, hap, hup, -, hb1⟩; have HWN : Hid (Wn w1 T wins ss) := hwn; have HAP : Hid (Apart wins) := hap; have HUP : Hid (WinsUp wr.heap.size wins) := hup; have HB1 : Hid (Below wr.heap.size wr w1) := hb1; have hy1 := (hb1.block _ (lt_of_block HY.out)).trans HY.out; have HY1 : Hid (w1.heap[w.heap.size + 1]? = some (.cells #[.slice none 0 0, .slice none 0 0] 30 (0, 0))) := hy1; obtain ⟨y0, f0⟩ := cell_of hy1 0; obtain ⟨y1, f1⟩ := cell_of hy1 1; simp at y0 y1; clear hwn hap hup hb1 hy1)
      have hset1 := set_one_cell (o := 0) HY1.out (.slice (some ⟨T, 0, none⟩) ss.length ss.length)
      have hset2 := set_one_cell (o := 1) hset1 (.slice aw ws.length cw)
      have r0 := (cell_of hset2 0).1
      have r1 := (cell_of hset2 1).1
      simp at r0 r1
      refine bodyPost_ret (v := .agg #[.slice (some ⟨T, 0, none⟩) ss.length ss.length, .slice aw ws.length cw]) (by simp [results, Try.results31, go_sem, r0, r1]) rfl ?_
      have hz := Z0.out
      have hs0 : ((wr.setCell ⟨w.heap.size + 1, 0, none⟩ (.slice (some ⟨T, 0, none⟩) ss.length ss.length)).setCell ⟨w.heap.size + 1, 1, none⟩ (.slice aw ws.length cw)).heap.size = wr.heap.size := by simp [World.setCell]
      have hw1 := set_one_cell (o := 0) HY.out (.slice (some ⟨T, 0, none⟩) ss.length ss.length)
      refine ⟨T, wins, aw, cw, (wr.setCell ⟨w.heap.size + 1, 0, none⟩ (.slice (some ⟨T, 0, none⟩) ss.length ss.length)).setCell ⟨w.heap.size + 1, 1, none⟩ (.slice aw ws.length cw), rfl, ?_, HAP.out, ?_, ?_, ?_, ?_, ?_, ?_⟩
      · exact (HWN.out.set HY1.out (by decide) (by decide) _).set hset1 (by decide) (by decide) _
      · rw [hs0]; exact HUP.out
      · exact (((HO2.out.below HB1.out).set HY1.out (by decide) (by decide) _).set hset1 (by decide) (by decide) _).base (by omega)
      · exact ((HO2.out.set HY.out (by decide) (by decide) _).set hw1 (by decide) (by decide) _).lay
      · exact below_set2 (below_set2 HB1.out _ _ _) _ _ _
      · exact ((nxt (nxt B0.out HB.out) HB1.out).setCell (by show w.heap.size ≤ w.heap.size + 1; omega) _).setCell (by show w.heap.size ≤ w.heap.size + 1; omega) _
      · rw [hs0]
        have := HB.out.size
        omega
end Go.Proofs.Ytokebdeaahdcjab
