/-
  What the statements make of a state: Of, CopyWrites.
-/
import Derived.Test.YtokebdeaahdcjabDkTakeW
namespace Go.Proofs.Ytokebdeaahdcjab
open Go.ChangeShapes Go.WideShapes Go.ChangeAt Go.RowKit Go.Deep
open Dk (Wr St)

set_option maxRecDepth 100000 in
set_option maxHeartbeats 6400000 in
theorem copyWs_any (ws : List Wr) (a : Option Addr) (c : Nat) (w : World) (hW : LayW w a ws) (hm : ws.length * 40 ≤ 140737488351232) :
    Calls Try.prog 28 #[.slice a ws.length c] w fun e w' => ∃ v, e = .returned v ∧ OwnW w' w.heap.size v ws ∧ Below w.heap.size w w' := by
  have HW : Hid (LayW w a ws) := hW
  clear hW
  go_enter Try.func28, Try.ntmps28
  go_wp2_with fail
  go_loopw [3, 4] (fun v i wr => ∃ m : Nat, m ≤ ws.length ∧ i = .int .i64 m ∧ Hid (OwnW wr w.heap.size v (ws.take m)) ∧ Hid (Below w.heap.size w wr)) (fun _ i _ => ws.length - (intOf i).toNat)
  case atStart => exact ⟨0, by omega, rfl, by show OwnW _ _ _ _; simpa using OwnW.nil _ _, Below.refl _ _⟩
  case round =>
    obtain ⟨m, hm1, rfl, HO, HB⟩ := hrel
    by_cases hlt : m < ws.length
    · have hlt1 : (m : Int) < (ws.length : Int) := by omega
      obtain ⟨x, hx⟩ : ∃ x, ws[m]? = some x := ⟨_, List.getElem?_eq_getElem hlt⟩
      obtain ⟨b, off, a1, c1, rfl, q0, q1, q2, q3, q4, q5, q6⟩ := (HW.out.below HB.out) m x hx
      have HX : Hid (ws.take (m + 1) = ws.take m ++ [x]) := by
        show _ = _
        rw [List.take_succ_eq_append_getElem hlt]
        rw [List.getElem?_eq_getElem hlt] at hx
        simp only [Option.some.injEq] at hx
        rw [hx]
      have HFT : Hid (Fit x) := ⟨q4, q5, q6⟩
      have HQ : Hid (Oct wr a1 c1 x.d) := q3
      obtain ⟨va, vc, rfl⟩ := HO.out.shape
      have p0 : wr.drew.cell? ⟨b, off + m * 3, none⟩ = some (.bool x.fl) := q0
      have p1 : wr.drew.cell? ⟨b, off + m * 3 + 1, none⟩ = some (.int .i64 x.sec) := q1
      have p2 : wr.drew.cell? ⟨b, off + m * 3 + 2, none⟩ = some (.slice a1 x.d.length c1) := q2
      have hlen40 : ((ws.take m).length + 1) * 40 ≤ 140737488355328 := by rw [List.length_take]; omega
      have HBD : Hid (Below w.heap.size w wr.drew) := HB.out.drew
      have HOD : Hid (OwnW wr.drew w.heap.size (.slice va (ws.take m).length vc) (ws.take m)) := HO.out.below (Below.refl _ _).drew
      generalize ws.take m = acc at *
      clear hx q0 q1 q2 q3
      go_wp2_with fail
      go_region_law (first
          | (refine step_call1 rfl 10 (by intros; go_simp) _ _ rfl (.slice a1 x.d.length c1) (by first | (simp [Act.eval]; done) | simp [Act.eval, Act.put]) (fun y w' => Bs w' wr.heap.size y x.d ∧ Below wr.heap.size wr.drew w') ((copyB_any a1 c1 x.d _ (HQ.out.below (Below.refl _ _).drew) q4).mono fun e w' ⟨s, k1, k2, k3⟩ => ⟨s, k1, k2, k3⟩) ?_; intro y w1 hR; obtain ⟨hs1, hb1⟩ := hR; obtain ⟨a2, c2, rfl⟩ := hs1.shape
             have z0 := keepc hb1 _ _ p0
             have z1 := keepc hb1 _ _ p1)
          | (refine step_pushW rfl _ _ rfl w.heap.size (.slice va acc.length vc) acc (by first | (simp [Act.eval]; done) | simp [Act.eval, Act.put]) (HOD.out.below (nxt hb1 (below_one _ _))) x a2 c2 ((hs1.up (fun g _ => Nat.zero_le _)).below (below_one _ _)) HFT.out ⟨w1.heap.size, 0, none⟩ (by first | (simp [Act.eval]; done) | simp [Act.eval, Act.put]) (fun j u hj => newCells w1 _ _ j u (by simpa using hj)) hlen40 (by have h1 := HBD.out.size; have h2 := hb1.size; simp; omega) ?_; intro v' w5 k1 k2
             obtain ⟨av', cv', rfl⟩ := k1.shape))
      all_goals
        have H1 : Hid (OwnW w5 w.heap.size (.slice av' (acc ++ [x]).length cv') (acc ++ [x])) := k1
        have H2 : Hid (Below w.heap.size w w5) := (nxt HBD.out (nxt hb1 (below_one _ _))).trans (k2.below (by have h1 := HBD.out.size; have h2 := hb1.size; simp; omega) (fun g hg => (HOD.out.row g hg).1))
        clear p0 p1 p2 k1 k2 hs1 hb1 z0 z1
        go_wp2_with fail
        refine ⟨⟨m + 1, by omega, by go_num, ?_, H2.out⟩, by simp [intOf]; omega⟩
        show OwnW _ _ _ _
        rw [HX.out]
        first | exact H1.out | simpa using H1.out
    · have hme : m = ws.length := by omega
      subst hme
      go_wp2_with fail
      go_ret
      have h := HO.out
      rw [List.take_length] at h
      exact ⟨_, rfl, h, HB.out⟩
end Go.Proofs.Ytokebdeaahdcjab
