/-
  The program's Decode.
-/
import Derived.Test.YtnliokikcpnllaaExPartR
import Derived.Test.YtnliokikcpnllaaExCaught
namespace Go.Proofs.Ytnliokikcpnllaa
open Go.ChangeShapes Go.WideShapes Go.ChangeAt Go.RowKit
open Fl

/-- What octets are as an expression. -/
def decR (s : SX) : Except Int (X 8) := match rdX 8 s with
  | .error e => .error e
  | .ok (v, s') => if 0 < s'.1.length then .error 23 else if 64 < s'.2 then .error 3 else .ok v

/-- What the reading of all leaves. -/
def WholePost (r : Except Int (X 8)) (p : Nat) (w : World) (e : Ending) (w' : World) : Prop :=
  w.grownBy w' (some p) ∧ ((∃ er, r = .error er ∧ e = panX er) ∨ (∃ v k b t ia il ic F, r = .ok v ∧ e = .returned (mkX k b t ia il ic) ∧ OwnX 29 w' 8 (mkX k b t ia il ic) v F ∧ ∀ b, F b → w.heap.size ≤ b ∧ b < w'.heap.size))

set_option maxRecDepth 100000 in
set_option maxHeartbeats 1600000 in
theorem whole_any (p : Nat) (s : SX) (w : World) (hr : RdX w p s) (hb : s.1.length + s.2 ≤ 1000000000000000) : Calls Try.prog 32 #[.pointer (some ⟨p, 0, none⟩)] w (WholePost (decR s) p w) := by
  have HP : Hid (Calls Try.prog 46 #[.pointer (some ⟨p, 0, none⟩), .int .i64 1] (w.alloc (.cells #[.int .i64 0, .int .u64 0, .string ⟨#[]⟩, .slice none 0 0] 29)) (PartPost 8 (rdX 8 s) p _)) := partX_rd 8 1 s p _ (by decide) (by decide) (hr.below (below_one _ _)) hb
  have hp : p < w.heap.size := by obtain ⟨a, c, h1, -⟩ := hr; exact lt_of_block h1
  have HR0 : Hid ((w.alloc (.cells #[.int .i64 0, .int .u64 0, .string ⟨#[]⟩, .slice none 0 0] 29)).heap[w.heap.size]? = some (.cells #[.int .i64 0, .int .u64 0, .string ⟨#[]⟩, .slice none 0 0] 29 (0, 0))) := heap_alloc_new _ _
  have HD : Hid (decR s = match rdX 8 s with
    | .error e => .error e
    | .ok (v, s') => if 0 < s'.1.length then .error 23 else if 64 < s'.2 then .error 3 else .ok v) := rfl
  clear hr hb
  cases h1 : rdX 8 s with
  | error er =>
    rw [h1] at HP HD
    clear h1
    go_enter Try.func32, Try.ntmps32
    go_wp2_with fail
    refine HP.out.mono ?_
    intro e w1 h
    obtain ⟨rfl, hg⟩ := PartPost.err h
    go_wp2_with fail
    exact ⟨rfl, below_grownX (below_one _ _) hg, Or.inl ⟨er, HD.out, rfl⟩⟩
  | ok vs =>
    obtain ⟨v, s'⟩ := vs
    rw [h1] at HP HD
    simp only at HD
    clear h1
    have start : ∀ (w1 : World) (k b : Int) (t : ByteArray) (ia : Option Addr) (il ic : Nat), RdX w1 p s' → ∃ a c, (w1.alloc (.cells #[.int .i64 k, .int .u64 b, .string t, .slice ia il ic] 29)).cell? ⟨p, 0, none⟩ = some (.slice a s'.1.length c) ∧ (w1.alloc (.cells #[.int .i64 k, .int .u64 b, .string t, .slice ia il ic] 29)).cell? ⟨p, 1, none⟩ = some (.int .i64 (s'.2 : Int)) := fun w1 k b t ia il ic h => by
      obtain ⟨a, c, h1, -⟩ := h.below (below_one w1 (.cells #[.int .i64 k, .int .u64 b, .string t, .slice ia il ic] 29))
      exact ⟨a, c, by simpa using (cell_of h1 0).1, by simpa using (cell_of h1 1).1⟩
    have HST : Hid (∀ (w1 : World) (k b : Int) (t : ByteArray) (ia : Option Addr) (il ic : Nat), RdX w1 p s' → ∃ a c, (w1.alloc (.cells #[.int .i64 k, .int .u64 b, .string t, .slice ia il ic] 29)).cell? ⟨p, 0, none⟩ = some (.slice a s'.1.length c) ∧ (w1.alloc (.cells #[.int .i64 k, .int .u64 b, .string t, .slice ia il ic] 29)).cell? ⟨p, 1, none⟩ = some (.int .i64 (s'.2 : Int))) := start
    clear start
    by_cases h0 : 0 < s'.1.length
    · rw [if_pos h0] at HD
      go_enter Try.func32, Try.ntmps32
      go_wp2_with fail
      refine HP.out.mono ?_
      intro e w1 h
      obtain ⟨k, b, t, ia, il, ic, rfl, hg, hR, -⟩ := PartPost.ok h
      obtain ⟨a, c, x0, x1⟩ := HST.out w1 k b t ia il ic hR
      clear h hR HST
      go_wp2_with fail
      exact ⟨rfl, grown_belowX (below_grownX (below_one _ _) hg) (below_one _ _), Or.inl ⟨23, HD.out, rfl⟩⟩
    · rw [if_neg h0] at HD
      have h00 : s'.1.length = 0 := by omega
      by_cases h2 : 64 < s'.2
      · rw [if_pos h2] at HD
        have h2' : (64 : Int) < (s'.2 : Int) := by omega
        go_enter Try.func32, Try.ntmps32
        go_wp2_with fail
        refine HP.out.mono ?_
        intro e w1 h
        obtain ⟨k, b, t, ia, il, ic, rfl, hg, hR, -⟩ := PartPost.ok h
        obtain ⟨a, c, x0, x1⟩ := HST.out w1 k b t ia il ic hR
        rw [h00] at x0
        clear h hR HST
        go_wp2_with fail
        exact ⟨rfl, grown_belowX (below_grownX (below_one _ _) hg) (below_one _ _), Or.inl ⟨3, HD.out, rfl⟩⟩
      · rw [if_neg h2] at HD
        have h2' : decide ((64 : Int) < (s'.2 : Int)) = false := by simp; omega
        have H2 : Hid (s'.2 ≤ 64) := by show _ ≤ _; omega
        clear h2
        go_enter Try.func32, Try.ntmps32
        go_wp2_with fail
        refine HP.out.mono ?_
        intro e w1 h
        obtain ⟨k, b, t, ia, il, ic, rfl, hg, hR, hO⟩ := PartPost.ok h
        obtain ⟨F, hO1, hO2⟩ := hO H2.out
        obtain ⟨a, c, x0, x1⟩ := HST.out w1 k b t ia il ic hR
        rw [h00] at x0
        have HG : Hid (w.grownBy (w1.alloc (.cells #[.int .i64 k, .int .u64 b, .string t, .slice ia il ic] 29)) (some p)) := grown_belowX (below_grownX (below_one _ _) hg) (below_one _ _)
        have hr1 : w1.heap[w.heap.size]? = _ := (hg.block _ (lt_of_block HR0.out) (by simp; omega)).trans HR0.out
        have HR1 : Hid ((w1.alloc (.cells #[.int .i64 k, .int .u64 b, .string t, .slice ia il ic] 29)).heap[w.heap.size]? = some (.cells #[.int .i64 0, .int .u64 0, .string ⟨#[]⟩, .slice none 0 0] 29 (0, 0))) := ((below_one _ _).block _ (lt_of_block hr1)).trans hr1
        have HOO : Hid (OwnX 29 (w1.alloc (.cells #[.int .i64 k, .int .u64 b, .string t, .slice ia il ic] 29)) 8 (mkX k b t ia il ic) v F) := hO1.same 8 fun b hb => (below_one _ _).block b (hO2 b hb).2
        have HF : Hid (∀ b, F b → w.heap.size + 1 ≤ b ∧ b < w1.heap.size) := fun b hb => ⟨by have := (hO2 b hb).1; simpa using this, (hO2 b hb).2⟩
        have hws : w.heap.size < w1.heap.size := lt_of_block hr1
        have HQ : Hid ((w1.alloc (.cells #[.int .i64 k, .int .u64 b, .string t, .slice ia il ic] 29)).heap[w1.heap.size]? = some (.cells #[.int .i64 k, .int .u64 b, .string t, .slice ia il ic] 29 (0, 0))) := heap_alloc_new _ _
        have S4 : (w1.alloc (.cells #[.int .i64 k, .int .u64 b, .string t, .slice ia il ic] 29)).heap.size = w1.heap.size + 1 := by simp
        clear h hg hR hO hO1 hO2 HST hr1
        go_upto_region 2 with fail
        generalize w1.alloc (.cells #[.int .i64 k, .int .u64 b, .string t, .slice ia il ic] 29) = W4 at *
        obtain ⟨z0, z1, z2, z3, f0, f1, f2, f3⟩ := box4 HR1.out
        obtain ⟨q0, q1, q2, q3, -⟩ := box4 HQ.out
        go_wp2_with fail
        have H5 : ((((W4.setCell ⟨w.heap.size, 0, none⟩ (.int .i64 k)).setCell ⟨w.heap.size, 1, none⟩ (.int .u64 b)).setCell ⟨w.heap.size, 2, none⟩ (.string t)).setCell ⟨w.heap.size, 3, none⟩ (.slice ia il ic)).heap[w.heap.size]? = some (.cells #[.int .i64 k, .int .u64 b, .string t, .slice ia il ic] 29 (0, 0)) := by
          simp [World.setCell, Array.getElem?_modify, HR1.out]
        have O5 : ∀ j, j ≠ w.heap.size → ((((W4.setCell ⟨w.heap.size, 0, none⟩ (.int .i64 k)).setCell ⟨w.heap.size, 1, none⟩ (.int .u64 b)).setCell ⟨w.heap.size, 2, none⟩ (.string t)).setCell ⟨w.heap.size, 3, none⟩ (.slice ia il ic)).heap[j]? = W4.heap[j]? := fun j hj => by
          rw [Below.heap_setCell _ _ _ _ hj, Below.heap_setCell _ _ _ _ hj, Below.heap_setCell _ _ _ _ hj, Below.heap_setCell _ _ _ _ hj]
        have S5 : ((((W4.setCell ⟨w.heap.size, 0, none⟩ (.int .i64 k)).setCell ⟨w.heap.size, 1, none⟩ (.int .u64 b)).setCell ⟨w.heap.size, 2, none⟩ (.string t)).setCell ⟨w.heap.size, 3, none⟩ (.slice ia il ic)).heap.size = W4.heap.size := by simp [World.setCell]
        have G5 : w.grownBy ((((W4.setCell ⟨w.heap.size, 0, none⟩ (.int .i64 k)).setCell ⟨w.heap.size, 1, none⟩ (.int .u64 b)).setCell ⟨w.heap.size, 2, none⟩ (.string t)).setCell ⟨w.heap.size, 3, none⟩ (.slice ia il ic)) (some p) := ⟨HG.out.os, HG.out.tape, HG.out.output, by rw [S5]; exact HG.out.size, fun j hj hne => (O5 j (by omega)).trans (HG.out.block j hj hne)⟩
        generalize (((W4.setCell ⟨w.heap.size, 0, none⟩ (.int .i64 k)).setCell ⟨w.heap.size, 1, none⟩ (.int .u64 b)).setCell ⟨w.heap.size, 2, none⟩ (.string t)).setCell ⟨w.heap.size, 3, none⟩ (.slice ia il ic) = W9 at *
        clear z0 z1 z2 z3
        obtain ⟨z0, z1, z2, z3, -⟩ := box4 H5
        refine bodyPost_ret (v := mkX k b t ia il ic) (by simp [results, Try.results32, go_sem, z0, z1, z2, z3]) rfl ?_
        refine ⟨G5, Or.inr ⟨v, k, b, t, ia, il, ic, F, HD.out, rfl, HOO.out.same 8 fun b hb => O5 b (by have := (HF.out b hb).1; omega), fun b hb => ⟨by have := (HF.out b hb).1; omega, by have := (HF.out b hb).2; omega⟩⟩⟩

set_option maxRecDepth 100000 in
theorem catchE_panicking (q : Nat) (c : Int) (er : Int) (older : List PanicEntry) (w : World) (hq : w.heap[q]? = some (.cells #[.int .i64 c] 32 (0, 0))) :
    CallsD Try.prog 45 #[.pointer (some ⟨q, 0, none⟩)] (.panicking ({ v := .iface 32 (.int .i64 er), recovered := false } :: older)) w fun e u' w' =>
      e = .returned (.tuple #[]) ∧ u' = .panicking ({ v := .iface 32 (.int .i64 er), recovered := true } :: older) ∧ w' = w.setCell ⟨q, 0, none⟩ (.int .i64 er) := by
  refine callsD_of_wpS Try.func45 rfl fun c₀ cs hu => ?_
  apply wpS_seq
  apply wpS_region
  simp [wpOpsS, go_sem, recoverD, hu, Try.ntmps45, Exit.thenS]
  have q0 : w.cell? ⟨q, 0, none⟩ = some (.int .i64 c) := by simp [World.cell?, hq]
  have g0 : w.frozen? ⟨q, 0, none⟩ = false := by simp [World.frozen?, hq]
  refine wpS_of_wp ?_
  simp [Array.replicate]
  have hta := assert_errnoX
  go_wp2_with fail
  exact ⟨rfl, _, rfl, .tuple #[], by simp [results, Try.results45], rfl, rfl, rfl⟩

set_option maxRecDepth 100000 in
theorem catchE_idle (q : Nat) (w : World) :
    CallsD Try.prog 45 #[.pointer (some ⟨q, 0, none⟩)] .returning w fun e u' w' => e = .returned (.tuple #[]) ∧ u' = .returning ∧ w' = w := by
  refine callsD_of_wpS Try.func45 rfl fun c₀ cs hu => ?_
  apply wpS_seq
  apply wpS_region
  simp [wpOpsS, go_sem, recoverD, hu, Try.ntmps45, Exit.thenS]
  refine wpS_of_wp ?_
  simp [Array.replicate]
  go_wp2_with fail
  refine ⟨rfl, _, ?_, .tuple #[], by simp [results, Try.results45], rfl, rfl, rfl⟩
  cases c₀
  simp_all

end Go.Proofs.Ytnliokikcpnllaa
