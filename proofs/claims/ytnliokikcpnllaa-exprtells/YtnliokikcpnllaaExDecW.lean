/-
  The program's Decode: the panic caught.
-/
import Derived.Test.YtnliokikcpnllaaExDec
namespace Go.Proofs.Ytnliokikcpnllaa
open Go.ChangeShapes Go.WideShapes Go.ChangeAt Go.RowKit
open Fl

/-- What Decode answers. -/
def DecAns (r : Except Int (X 8)) (B : Nat) (e : Ending) (w' : World) : Prop :=
  (∃ er, r = .error er ∧ e = .returned (.tuple #[mkX 0 0 ⟨#[]⟩ none 0 0, .int .i64 er])) ∨
  (∃ v k b t ia il ic F, r = .ok v ∧ e = .returned (.tuple #[mkX k b t ia il ic, .int .i64 0]) ∧ OwnX 29 w' 8 (mkX k b t ia il ic) v F ∧ ∀ b, F b → B ≤ b ∧ b < w'.heap.size)

theorem set4 {W : World} {q : Nat} {x y z u : Value} {ty : TypeId} (h : W.heap[q]? = some (.cells #[x, y, z, u] ty (0, 0))) (a b c d : Value) : ((((W.setCell ⟨q, 0, none⟩ a).setCell ⟨q, 1, none⟩ b).setCell ⟨q, 2, none⟩ c).setCell ⟨q, 3, none⟩ d).heap[q]? = some (.cells #[a, b, c, d] ty (0, 0)) ∧
    (∀ j, j ≠ q → ((((W.setCell ⟨q, 0, none⟩ a).setCell ⟨q, 1, none⟩ b).setCell ⟨q, 2, none⟩ c).setCell ⟨q, 3, none⟩ d).heap[j]? = W.heap[j]?) ∧ ((((W.setCell ⟨q, 0, none⟩ a).setCell ⟨q, 1, none⟩ b).setCell ⟨q, 2, none⟩ c).setCell ⟨q, 3, none⟩ d).heap.size = W.heap.size := by
  refine ⟨by simp [World.setCell, Array.getElem?_modify, h], fun j hj => ?_, by simp [World.setCell]⟩
  rw [Below.heap_setCell _ _ _ _ hj, Below.heap_setCell _ _ _ _ hj, Below.heap_setCell _ _ _ _ hj, Below.heap_setCell _ _ _ _ hj]

set_option maxRecDepth 100000 in
set_option maxHeartbeats 1600000 in
theorem caughtE_any (p : Nat) (s : SX) (w : World) (hr : RdX w p s) (hb : s.1.length + s.2 ≤ 1000000000000000) :
    Calls Try.prog 31 #[.func (.func 32) #[.pointer (some ⟨p, 0, none⟩)] #[]] w fun e w' => DecAns (decR s) w.heap.size e w' ∧ w.grownBy w' (some p) := by
  have hmf : ∀ (fn : Fn) (first cap : Array Value) (w : World), (Instr.makeFunc fn first cap).run Try.prog w = .ok (.func fn first cap) w := fun _ _ _ _ => rfl
  have hp : p < w.heap.size := by obtain ⟨a, c, h1, -⟩ := hr; exact lt_of_block h1
  have HB2 : Hid (Below w.heap.size w ((w.alloc (.cells #[.int .i64 0, .int .u64 0, .string ⟨#[]⟩, .slice none 0 0] 29)).alloc (.cells #[.int .i64 0] 32))) := nxt (below_one _ _) (below_one _ _)
  have HM : Hid (Calls Try.prog 32 #[.pointer (some ⟨p, 0, none⟩)] ((w.alloc (.cells #[.int .i64 0, .int .u64 0, .string ⟨#[]⟩, .slice none 0 0] 29)).alloc (.cells #[.int .i64 0] 32)) (WholePost (decR s) p _)) := whole_any p s _ (hr.below HB2.out) hb
  have HT2 : Hid (((w.alloc (.cells #[.int .i64 0, .int .u64 0, .string ⟨#[]⟩, .slice none 0 0] 29)).alloc (.cells #[.int .i64 0] 32)).heap[w.heap.size]? = some (.cells #[.int .i64 0, .int .u64 0, .string ⟨#[]⟩, .slice none 0 0] 29 (0, 0))) := (Below.heap_alloc _ _ _ (by simp)).trans (heap_alloc_new _ _)
  have HE2 : Hid (((w.alloc (.cells #[.int .i64 0, .int .u64 0, .string ⟨#[]⟩, .slice none 0 0] 29)).alloc (.cells #[.int .i64 0] 32)).heap[w.heap.size + 1]? = some (.cells #[.int .i64 0] 32 (0, 0))) := heap_new2 _ _ _
  have HS2 : Hid (((w.alloc (.cells #[.int .i64 0, .int .u64 0, .string ⟨#[]⟩, .slice none 0 0] 29)).alloc (.cells #[.int .i64 0] 32)).heap.size = w.heap.size + 2) := by show _ = _; simp
  clear hr hb
  cases hrr : decR s with
  | error er =>
    rw [hrr] at HM
    clear hrr
    go_enter_defers Try.func31, Try.ntmps31
    go_wp2_with (go_at_call 32; refine HM.out.mono ?_; rintro e w1 ⟨hg1, hp1⟩; rcases hp1 with ⟨er', h1, rfl⟩ | ⟨v, k, b, t, ia, il, ic, F, h1, -⟩; rotate_left; cases h1; cases h1)
    have T1 : w1.heap[w.heap.size]? = _ := (hg1.block _ (lt_of_block HT2.out) (by simp; omega)).trans HT2.out
    have E1 : w1.heap[w.heap.size + 1]? = _ := (hg1.block _ (lt_of_block HE2.out) (by simp; omega)).trans HE2.out
    have G1 := below_grownX HB2.out hg1
    refine leaves_cons (f := 45) (args := #[.pointer (some ⟨w.heap.size + 1, 0, none⟩)]) (by simp) (by simp [go_sem]) ?_
    refine (catchE_panicking _ _ er [] _ E1).mono ?_
    rintro e u' w3 ⟨rfl, rfl, rfl⟩
    have T3 : (w1.setCell ⟨w.heap.size + 1, 0, none⟩ (.int .i64 er)).heap[w.heap.size]? = _ := (Below.heap_setCell _ _ _ _ (show w.heap.size ≠ w.heap.size + 1 by omega)).trans T1
    have E3 := set_one_cell (o := 0) E1 (.int .i64 er)
    have G3 : w.grownBy (w1.setCell ⟨w.heap.size + 1, 0, none⟩ (.int .i64 er)) (some p) := ⟨G1.os, G1.tape, G1.output, by have := G1.size; simpa [World.setCell] using this, fun j hj hne => (Below.heap_setCell _ _ _ _ (show j ≠ w.heap.size + 1 by omega)).trans (G1.block j hj hne)⟩
    obtain ⟨y0, y1, y2, y3, -⟩ := box4 T3
    obtain ⟨z0, -⟩ := cell_of E3 0
    simp at z0
    simp [Leaves, settle, results, Try.results31, go_sem, y0, y1, y2, y3, z0]
    exact ⟨Or.inl ⟨er, rfl, rfl⟩, G3⟩
  | ok v =>
    rw [hrr] at HM
    clear hrr
    go_enter_defers Try.func31, Try.ntmps31
    go_wp2_with (go_at_call 32; refine HM.out.mono ?_; rintro e w1 ⟨hg1, hp1⟩; rcases hp1 with ⟨er', h1, -⟩ | ⟨v', k, b, t, ia, il, ic, F, h1, rfl, hO, hF⟩; cases h1; cases h1; have T1 := (hg1.block _ (lt_of_block HT2.out) (by simp; omega)).trans HT2.out; have E1 := (hg1.block _ (lt_of_block HE2.out) (by simp; omega)).trans HE2.out; obtain ⟨y0, y1, y2, y3, yf0, yf1, yf2, yf3⟩ := box4 T1; obtain ⟨z0, zf0⟩ := cell_of E1 0; simp at z0)
    obtain ⟨T2, O2, S2⟩ := set4 T1 (.int .i64 k) (.int .u64 b) (.string t) (.slice ia il ic)
    have A4 : ((((w1.setCell ⟨w.heap.size, 0, none⟩ (.int .i64 k)).setCell ⟨w.heap.size, 1, none⟩ (.int .u64 b)).setCell ⟨w.heap.size, 2, none⟩ (.string t)).setCell ⟨w.heap.size, 3, none⟩ (.slice ia il ic)).os = w1.os ∧ ((((w1.setCell ⟨w.heap.size, 0, none⟩ (.int .i64 k)).setCell ⟨w.heap.size, 1, none⟩ (.int .u64 b)).setCell ⟨w.heap.size, 2, none⟩ (.string t)).setCell ⟨w.heap.size, 3, none⟩ (.slice ia il ic)).tape = w1.tape ∧ ((((w1.setCell ⟨w.heap.size, 0, none⟩ (.int .i64 k)).setCell ⟨w.heap.size, 1, none⟩ (.int .u64 b)).setCell ⟨w.heap.size, 2, none⟩ (.string t)).setCell ⟨w.heap.size, 3, none⟩ (.slice ia il ic)).output = w1.output := ⟨rfl, rfl, rfl⟩
    generalize ((((w1.setCell ⟨w.heap.size, 0, none⟩ (.int .i64 k)).setCell ⟨w.heap.size, 1, none⟩ (.int .u64 b)).setCell ⟨w.heap.size, 2, none⟩ (.string t)).setCell ⟨w.heap.size, 3, none⟩ (.slice ia il ic)) = W4 at *
    have G1 := below_grownX HB2.out hg1
    have E2 : W4.heap[w.heap.size + 1]? = _ := (O2 _ (by omega)).trans E1
    have T3 : (W4.setCell ⟨w.heap.size + 1, 0, none⟩ (.int .i64 0)).heap[w.heap.size]? = _ := (Below.heap_setCell _ _ _ _ (show w.heap.size ≠ w.heap.size + 1 by omega)).trans T2
    have E3 := set_one_cell (o := 0) E2 (.int .i64 0)
    have O3 : ∀ j, j ≠ w.heap.size → j ≠ w.heap.size + 1 → (W4.setCell ⟨w.heap.size + 1, 0, none⟩ (.int .i64 0)).heap[j]? = w1.heap[j]? := fun j h1 h2 => (Below.heap_setCell _ _ _ _ h2).trans (O2 j h1)
    have S3 : (W4.setCell ⟨w.heap.size + 1, 0, none⟩ (.int .i64 0)).heap.size = w1.heap.size := by simp [World.setCell, S2]
    have A5 : (W4.setCell ⟨w.heap.size + 1, 0, none⟩ (.int .i64 0)).os = W4.os ∧ (W4.setCell ⟨w.heap.size + 1, 0, none⟩ (.int .i64 0)).tape = W4.tape ∧ (W4.setCell ⟨w.heap.size + 1, 0, none⟩ (.int .i64 0)).output = W4.output := ⟨rfl, rfl, rfl⟩
    generalize W4.setCell ⟨w.heap.size + 1, 0, none⟩ (.int .i64 0) = W5 at *
    have G3 : w.grownBy W5 (some p) := ⟨A5.1.trans (A4.1.trans G1.os), A5.2.1.trans (A4.2.1.trans G1.tape), A5.2.2.trans (A4.2.2.trans G1.output), by have := G1.size; omega, fun j hj hne => (O3 j (by omega) (by omega)).trans (G1.block j hj hne)⟩
    refine leaves_cons (f := 45) (args := #[.pointer (some ⟨w.heap.size + 1, 0, none⟩)]) (by simp) (by simp [go_sem]) ?_
    refine (catchE_idle _ _).mono ?_
    rintro e u' w3 ⟨rfl, rfl, rfl⟩
    obtain ⟨v0, v1, v2, v3, -⟩ := box4 T3
    obtain ⟨v4, -⟩ := cell_of E3 0
    simp at v4
    simp [Leaves, settle, results, Try.results31, go_sem, v0, v1, v2, v3, v4]
    have hrg : ∀ g, F g → w.heap.size + 2 ≤ g ∧ g < w1.heap.size := fun g hg => by have := hF g hg; rw [HS2.out] at this; exact this
    exact ⟨Or.inr ⟨v, k, b, t, ia, il, ic, F, rfl, rfl, hO.same 8 fun g hg => O3 g (by have := (hrg g hg).1; omega) (by have := (hrg g hg).1; omega), fun g hg => ⟨by have := (hrg g hg).1; omega, by have := (hrg g hg).2; omega⟩⟩, G3⟩

set_option maxRecDepth 100000 in
set_option maxHeartbeats 1600000 in
theorem decodeX_any (a : Option Addr) (c : Nat) (l : List UInt8) (w : World) (ho : OctX w a c l) :
    Calls Try.prog 15 #[.slice a l.length c] w fun e w' => DecAns (decR (l, 0)) w.heap.size e w' ∧ Below w.heap.size w w' := by
  have hmf : ∀ (fn : Fn) (first cap : Array Value) (w : World), (Instr.makeFunc fn first cap).run Try.prog w = .ok (.func fn first cap) w := fun _ _ _ _ => rfl
  have HB2 : Hid (Below w.heap.size w ((w.alloc (.cells #[.int .i64 0, .int .u64 0, .string ⟨#[]⟩, .slice none 0 0] 29)).alloc (.cells #[.slice a l.length c, .int .i64 0] 68))) := nxt (below_one _ _) (below_one _ _)
  have HT2 : Hid (((w.alloc (.cells #[.int .i64 0, .int .u64 0, .string ⟨#[]⟩, .slice none 0 0] 29)).alloc (.cells #[.slice a l.length c, .int .i64 0] 68)).heap[w.heap.size]? = some (.cells #[.int .i64 0, .int .u64 0, .string ⟨#[]⟩, .slice none 0 0] 29 (0, 0))) := (Below.heap_alloc _ _ _ (by simp)).trans (heap_alloc_new _ _)
  have hR : ((w.alloc (.cells #[.int .i64 0, .int .u64 0, .string ⟨#[]⟩, .slice none 0 0] 29)).alloc (.cells #[.slice a l.length c, .int .i64 0] 68)).heap[w.heap.size + 1]? = some (.cells #[.slice a l.length c, .int .i64 0] 68 (0, 0)) := heap_new2 _ _ _
  have hRd : RdX ((w.alloc (.cells #[.int .i64 0, .int .u64 0, .string ⟨#[]⟩, .slice none 0 0] 29)).alloc (.cells #[.slice a l.length c, .int .i64 0] 68)) (w.heap.size + 1) (l, 0) := by
    refine ⟨a, c, hR, ho.below HB2.out, fun hpos ad e => ?_⟩
    obtain ⟨b, off, e2, hc⟩ := ho.lay 0 (l[0]'(by exact hpos)) (by simp)
    rw [e] at e2
    cases e2
    have := lt_of_cell hc
    simp only at this
    show b < w.heap.size + 1
    omega
  have HC : Hid (Calls Try.prog 31 #[.func (.func 32) #[.pointer (some ⟨w.heap.size + 1, 0, none⟩)] #[]] ((w.alloc (.cells #[.int .i64 0, .int .u64 0, .string ⟨#[]⟩, .slice none 0 0] 29)).alloc (.cells #[.slice a l.length c, .int .i64 0] 68)) _) := caughtE_any (w.heap.size + 1) (l, 0) _ hRd (by have := ho.len; simp only; omega)
  have HS2 : Hid (((w.alloc (.cells #[.int .i64 0, .int .u64 0, .string ⟨#[]⟩, .slice none 0 0] 29)).alloc (.cells #[.slice a l.length c, .int .i64 0] 68)).heap.size = w.heap.size + 2) := by show _ = _; simp
  have fin : ∀ (w1 : World) (k b : Int) (t : ByteArray) (ia : Option Addr) (il ic : Nat), ((w.alloc (.cells #[.int .i64 0, .int .u64 0, .string ⟨#[]⟩, .slice none 0 0] 29)).alloc (.cells #[.slice a l.length c, .int .i64 0] 68)).grownBy w1 (some (w.heap.size + 1)) →
      w1.heap[w.heap.size]? = some (.cells #[.int .i64 0, .int .u64 0, .string ⟨#[]⟩, .slice none 0 0] 29 (0, 0)) ∧ Below w.heap.size w ((((w1.setCell ⟨w.heap.size, 0, none⟩ (.int .i64 k)).setCell ⟨w.heap.size, 1, none⟩ (.int .u64 b)).setCell ⟨w.heap.size, 2, none⟩ (.string t)).setCell ⟨w.heap.size, 3, none⟩ (.slice ia il ic)) := by
    intro w1 k b t ia il ic hg
    have h1 := (hg.block _ (lt_of_block HT2.out) (by simp)).trans HT2.out
    have hb : Below w.heap.size w w1 := ⟨hg.os.trans HB2.out.os, hg.tape.trans HB2.out.tape, hg.output.trans HB2.out.output, Nat.le_trans HB2.out.size hg.size, fun j hj => (hg.block j (by have := HB2.out.size; omega) (by simp; omega)).trans (HB2.out.block j hj)⟩
    exact ⟨h1, (((hb.setCell (Nat.le_refl _) _).setCell (Nat.le_refl _) _).setCell (Nat.le_refl _) _).setCell (Nat.le_refl _) _⟩
  have FIN : Hid (∀ (w1 : World) (k b : Int) (t : ByteArray) (ia : Option Addr) (il ic : Nat), ((w.alloc (.cells #[.int .i64 0, .int .u64 0, .string ⟨#[]⟩, .slice none 0 0] 29)).alloc (.cells #[.slice a l.length c, .int .i64 0] 68)).grownBy w1 (some (w.heap.size + 1)) →
      w1.heap[w.heap.size]? = some (.cells #[.int .i64 0, .int .u64 0, .string ⟨#[]⟩, .slice none 0 0] 29 (0, 0)) ∧ Below w.heap.size w ((((w1.setCell ⟨w.heap.size, 0, none⟩ (.int .i64 k)).setCell ⟨w.heap.size, 1, none⟩ (.int .u64 b)).setCell ⟨w.heap.size, 2, none⟩ (.string t)).setCell ⟨w.heap.size, 3, none⟩ (.slice ia il ic))) := fin
  clear fin hR hRd ho
  cases hrr : decR (l, 0) with
  | error er =>
    rw [hrr] at HC
    clear hrr
    go_enter Try.func15, Try.ntmps15
    go_wp2_with (go_at_call 31; refine HC.out.mono ?_; rintro e w1 ⟨hp1, hg1⟩; rcases hp1 with ⟨er', h1, rfl⟩ | ⟨v, k, b, t, ia, il, ic, F, h1, -⟩; rotate_left; cases h1; cases h1; obtain ⟨T1, BB⟩ := FIN.out w1 0 0 ⟨#[]⟩ none 0 0 hg1; obtain ⟨y0, y1, y2, y3, yf0, yf1, yf2, yf3⟩ := box4 T1)
    obtain ⟨T2, O2, S2⟩ := set4 T1 (.int .i64 0) (.int .u64 0) (.string ⟨#[]⟩) (.slice none 0 0)
    generalize ((((w1.setCell ⟨w.heap.size, 0, none⟩ (.int .i64 0)).setCell ⟨w.heap.size, 1, none⟩ (.int .u64 0)).setCell ⟨w.heap.size, 2, none⟩ (.string ⟨#[]⟩)).setCell ⟨w.heap.size, 3, none⟩ (.slice none 0 0)) = W4 at *
    clear y0 y1 y2 y3
    obtain ⟨y0, y1, y2, y3, -⟩ := box4 T2
    refine bodyPost_ret (v := .tuple #[mkX 0 0 ⟨#[]⟩ none 0 0, .int .i64 er]) (by simp [results, Try.results15, go_sem, y0, y1, y2, y3]) rfl ?_
    exact ⟨Or.inl ⟨er, rfl, rfl⟩, BB⟩
  | ok v =>
    rw [hrr] at HC
    clear hrr
    go_enter Try.func15, Try.ntmps15
    go_wp2_with (go_at_call 31; refine HC.out.mono ?_; rintro e w1 ⟨hp1, hg1⟩; rcases hp1 with ⟨er', h1, -⟩ | ⟨v', k, b, t, ia, il, ic, F, h1, rfl, hO, hF⟩; cases h1; cases h1; obtain ⟨T1, BB⟩ := FIN.out w1 k b t ia il ic hg1; obtain ⟨y0, y1, y2, y3, yf0, yf1, yf2, yf3⟩ := box4 T1)
    obtain ⟨T2, O2, S2⟩ := set4 T1 (.int .i64 k) (.int .u64 b) (.string t) (.slice ia il ic)
    generalize ((((w1.setCell ⟨w.heap.size, 0, none⟩ (.int .i64 k)).setCell ⟨w.heap.size, 1, none⟩ (.int .u64 b)).setCell ⟨w.heap.size, 2, none⟩ (.string t)).setCell ⟨w.heap.size, 3, none⟩ (.slice ia il ic)) = W4 at *
    clear y0 y1 y2 y3
    obtain ⟨y0, y1, y2, y3, -⟩ := box4 T2
    have hrg : ∀ g, F g → w.heap.size + 2 ≤ g ∧ g < w1.heap.size := fun g hg => by have := hF g hg; rw [HS2.out] at this; exact this
    refine bodyPost_ret (v := .tuple #[mkX k b t ia il ic, .int .i64 0]) (by simp [results, Try.results15, go_sem, y0, y1, y2, y3]) rfl ?_
    exact ⟨Or.inr ⟨v, k, b, t, ia, il, ic, F, rfl, rfl, hO.same 8 fun g hg => O2 g (by have := (hrg g hg).1; omega), fun g hg => ⟨by have := (hrg g hg).1; omega, by have := (hrg g hg).2; omega⟩⟩, BB⟩
end Go.Proofs.Ytnliokikcpnllaa
