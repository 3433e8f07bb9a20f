/-
  measure, Check and Size: what the walk's panic, or its end, makes of them.
-/
import Derived.Test.YtfdbhojghkdlkaaVaWalk
import Derived.Defers
import Derived.Recover
import Derived.Laws.Pointers
import Derived.Test.YtfdbhojghkdlkaaJ1
namespace Go.Proofs.Ytfdbhojghkdlkaa
open Go.ChangeShapes Go.WideShapes Go.ChangeAt Go.RowKit
open Fl

/-- Parts, depth, error. -/
def msr : Except Int (Nat × Int) → Int × Int × Int
  | .ok (c, d) => (c, d, 0)
  | .error e => (0, 0, e)

/-- The tally and the error's variable are written, nothing else. -/
def After (w w' : World) (p q : Nat) (s : Nat × Int) (er : Int) : Prop :=
  Tally w' p s ∧ w'.heap[q]? = some (.cells #[.int .i64 er] 29 (0, 0)) ∧ (∀ k, k ≠ p → k ≠ q → w'.heap[k]? = w.heap[k]?) ∧ w'.heap.size = w.heap.size ∧ w'.os = w.os ∧ w'.tape = w.tape ∧ w'.output = w.output

theorem assert_errno (v : Value) (w : World) : Sem.run Try.prog (Instr.typeAssert (Value.iface 29 v) 20 29 false) w = .ok v w := by
  simp [Instr.typeAssert, run_underlying Try.underlying29]

theorem after_set {w : World} {p q : Nat} {a b c : Int} (hc : w.heap[p]? = some (.cells #[.int .i64 a, .int .i64 b] 96 (0, 0))) (hq : w.heap[q]? = some (.cells #[.int .i64 c] 29 (0, 0))) (hpq : p ≠ q) (er : Int) :
    After w (((w.setCell ⟨p, 0, none⟩ (.int .i64 0)).setCell ⟨p, 1, none⟩ (.int .i64 0)).setCell ⟨q, 0, none⟩ (.int .i64 er)).drew p q (0, 0) er := by
  refine ⟨?_, ?_, ?_, by simp [World.setCell, World.drew], rfl, rfl, rfl⟩
  · show (((w.setCell ⟨p, 0, none⟩ (.int .i64 0)).setCell ⟨p, 1, none⟩ (.int .i64 0)).setCell ⟨q, 0, none⟩ (.int .i64 er)).heap[p]? = _
    rw [Below.heap_setCell _ _ _ _ hpq]
    simp [World.setCell, Array.getElem?_modify, hc]
  · show (((w.setCell ⟨p, 0, none⟩ (.int .i64 0)).setCell ⟨p, 1, none⟩ (.int .i64 0)).setCell ⟨q, 0, none⟩ (.int .i64 er)).heap[q]? = _
    have e : ((w.setCell ⟨p, 0, none⟩ (.int .i64 0)).setCell ⟨p, 1, none⟩ (.int .i64 0)).heap[q]? = some (.cells #[.int .i64 c] 29 (0, 0)) := by
      rw [Below.heap_setCell _ _ _ _ (Ne.symm hpq), Below.heap_setCell _ _ _ _ (Ne.symm hpq)]; exact hq
    exact one_setCell e
  · intro k h1 h2
    show (((w.setCell ⟨p, 0, none⟩ (.int .i64 0)).setCell ⟨p, 1, none⟩ (.int .i64 0)).setCell ⟨q, 0, none⟩ (.int .i64 er)).heap[k]? = _
    rw [Below.heap_setCell _ _ _ _ h2, Below.heap_setCell _ _ _ _ h1, Below.heap_setCell _ _ _ _ h1]

set_option maxRecDepth 100000 in
theorem catch_panicking (p q : Nat) (a b c : Int) (er : Int) (older : List PanicEntry) (w : World) (hc : w.heap[p]? = some (.cells #[.int .i64 a, .int .i64 b] 96 (0, 0))) (hq : w.heap[q]? = some (.cells #[.int .i64 c] 29 (0, 0))) (hpq : p ≠ q) :
    CallsD Try.prog 62 #[.pointer (some ⟨p, 0, none⟩), .pointer (some ⟨q, 0, none⟩)] (.panicking ({ v := .iface 29 (.int .i64 er), recovered := false } :: older)) w fun e u' w' =>
      e = .returned (.tuple #[]) ∧ u' = .panicking ({ v := .iface 29 (.int .i64 er), recovered := true } :: older) ∧ After w w' p q (0, 0) er := by
  refine callsD_of_wpS Try.func62 rfl fun c₀ cs hu => ?_
  apply wpS_seq
  apply wpS_region
  simp [wpOpsS, go_sem, recoverD, hu, Try.ntmps62, Exit.thenS]
  have p0 : w.cell? ⟨p, 0, none⟩ = some (.int .i64 a) := by simp [World.cell?, hc]
  have p1 : w.cell? ⟨p, 1, none⟩ = some (.int .i64 b) := by simp [World.cell?, hc]
  have q0 : w.cell? ⟨q, 0, none⟩ = some (.int .i64 c) := by simp [World.cell?, hq]
  have f0 : w.frozen? ⟨p, 0, none⟩ = false := by simp [World.frozen?, hc]
  have f1 : w.frozen? ⟨p, 1, none⟩ = false := by simp [World.frozen?, hc]
  have g0 : w.frozen? ⟨q, 0, none⟩ = false := by simp [World.frozen?, hq]
  refine wpS_of_wp ?_
  simp [Array.replicate]
  have hta := assert_errno
  go_wp2_with fail
  go_region
  exact ⟨rfl, _, rfl, .tuple #[], by simp [results, Try.results62], rfl, rfl, after_set hc hq hpq er⟩

set_option maxRecDepth 100000 in
theorem catch_idle (p q : Nat) (w : World) :
    CallsD Try.prog 62 #[.pointer (some ⟨p, 0, none⟩), .pointer (some ⟨q, 0, none⟩)] .returning w fun e u' w' => e = .returned (.tuple #[]) ∧ u' = .returning ∧ w' = w := by
  refine callsD_of_wpS Try.func62 rfl fun c₀ cs hu => ?_
  apply wpS_seq
  apply wpS_region
  simp [wpOpsS, go_sem, recoverD, hu, Try.ntmps62, Exit.thenS]
  refine wpS_of_wp ?_
  simp [Array.replicate]
  go_wp2_with fail
  refine ⟨rfl, _, ?_, .tuple #[], by simp [results, Try.results62], rfl, rfl, rfl⟩
  cases c₀
  simp_all

theorem below_three (w : World) (o o' o'' : Obj) : Below w.heap.size w (((w.alloc o).alloc o').alloc o'') := (((Below.refl _ _).alloc (Nat.le_refl _) o).alloc (by simp) o').alloc (by simp; omega) o''

theorem tally_three (w : World) (o o'' : Obj) : Tally (((w.alloc o).alloc (.cells #[.int .i64 0, .int .i64 0] 96)).alloc o'') (w.heap.size + 1) (0, 0) := by
  show _ = _
  rw [Below.heap_alloc _ _ _ (by simp)]
  exact heap_new2 _ _ _

theorem met_zero : Met (0, 0) := ⟨by decide, by decide, by decide⟩

theorem errno_three {w w2 : World} {o o' : Obj} (hg : (((w.alloc o).alloc o').alloc (.cells #[.int .i64 0] 29)).grownBy w2 (some (w.heap.size + 1))) : w2.heap[w.heap.size + 1 + 1]? = some (.cells #[.int .i64 0] 29 (0, 0)) := by
  rw [hg.block _ (by simp) (by simp)]
  have e : ((w.alloc o).alloc o').heap.size = w.heap.size + 1 + 1 := by simp
  rw [← e]
  exact heap_alloc_new _ _

theorem after_cells {w w' : World} {p q : Nat} {s : Nat × Int} {er : Int} (h : After w w' p q s er) : w'.cell? ⟨p, 0, none⟩ = some (.int .i64 (s.1 : Int)) ∧ w'.cell? ⟨p, 1, none⟩ = some (.int .i64 s.2) ∧ w'.cell? ⟨q, 0, none⟩ = some (.int .i64 er) :=
  ⟨h.1.cells.1, h.1.cells.2.1, cell_of_one h.2.1⟩

theorem after_below {w w1 w2 w3 : World} {s : Nat × Int} {er : Int} (h : Below w.heap.size w w1) (hg : w1.grownBy w2 (some (w.heap.size + 1))) (ha : After w2 w3 (w.heap.size + 1) (w.heap.size + 1 + 1) s er) : Below w.heap.size w w3 := by
  obtain ⟨_, _, h3, h4, h5, h6, h7⟩ := ha
  have := h.size
  have := hg.size
  refine ⟨h5.trans (hg.os.trans h.os), h6.trans (hg.tape.trans h.tape), h7.trans (hg.output.trans h.output), by omega, fun k hk => ?_⟩
  rw [h3 k (by omega) (by omega), hg.block k (by omega) (by simp; omega), h.block k hk]

theorem grown_to_below {w w1 w2 : World} (h : Below w.heap.size w w1) (hg : w1.grownBy w2 (some (w.heap.size + 1))) : Below w.heap.size w w2 := by
  have := h.size
  exact ⟨hg.os.trans h.os, hg.tape.trans h.tape, hg.output.trans h.output, Nat.le_trans h.size hg.size, fun k hk => by rw [hg.block k (by omega) (by simp; omega), h.block k hk]⟩

set_option maxRecDepth 100000 in
set_option maxHeartbeats 1600000 in
theorem measure_any (n : Nat) (v : V n) (x : Value) (w : World) (h : Lay w n x v) :
    Calls Try.prog 49 #[x] w fun e w' => e = .returned (.tuple #[.agg #[.int .i64 (msr (wk n v 1 (0, 0))).1, .int .i64 (msr (wk n v 1 (0, 0))).2.1], .int .i64 (msr (wk n v 1 (0, 0))).2.2]) ∧ Below w.heap.size w w' := by
  have hmf : ∀ (fn : Fn) (first cap : Array Value) (w : World), (Instr.makeFunc fn first cap).run Try.prog w = .ok (.func fn first cap) w := fun _ _ _ _ => rfl
  obtain ⟨k, b, t, ka, kl, kc, ia, il, ic, rfl⟩ := Lay.shape n h
  have HL : Hid (Lay w n (mk k b t ka kl kc ia il ic) v) := h
  clear h
  cases hw : wk n v 1 (0, 0) with
  | error er =>
    have HX : Hid (wk n v 1 (0, 0) = .error er) := hw
    clear hw
    go_enter_defers Try.func49, Try.ntmps49
    go_wp2_with (go_at_call 63; refine (walk_any n _ _ _ _ _ _ (Lay.below n HL.out (below_three _ _ _ _)) (tally_three _ _ _) met_zero (by omega) (by omega)).mono ?_; rw [HX.out]; intro e w2 hp2; obtain ⟨rfl, hg2, s2, ht2⟩ := WalkPost.err hp2)
    refine leaves_cons (f := 62) (args := #[.pointer (some ⟨w.heap.size + 1, 0, none⟩), .pointer (some ⟨w.heap.size + 1 + 1, 0, none⟩)]) (by simp) (by simp [go_sem]) ?_
    have hq2 := errno_three hg2
    refine (catch_panicking _ _ _ _ _ er [] _ ht2 hq2 (by omega)).mono ?_
    rintro e u' w3 ⟨rfl, rfl, ha⟩
    obtain ⟨y1, y2, y3⟩ := after_cells ha
    simp [Leaves, settle, results, Try.results49, go_sem, y1, y2, y3]
    exact ⟨⟨⟨rfl, rfl⟩, rfl⟩, after_below (below_three _ _ _ _) hg2 ha⟩
  | ok s =>
    have HX : Hid (wk n v 1 (0, 0) = .ok s) := hw
    clear hw
    obtain ⟨c, d⟩ := s
    go_enter_defers Try.func49, Try.ntmps49
    go_wp2_with (go_at_call 63; refine (walk_any n _ _ _ _ _ _ (Lay.below n HL.out (below_three _ _ _ _)) (tally_three _ _ _) met_zero (by omega) (by omega)).mono ?_; rw [HX.out]; intro e w2 hp2; obtain ⟨rfl, hg2, ht2⟩ := WalkPost.ok hp2; have hq2 := errno_three hg2; have c0 := ht2.cells.1; have c1 := ht2.cells.2.1; have f0 := ht2.cells.2.2.1; have f1 := ht2.cells.2.2.2; have e0 := cell_of_one hq2; have e1 := free_of_one hq2)
    refine leaves_cons (f := 62) (args := #[.pointer (some ⟨w.heap.size + 1, 0, none⟩), .pointer (some ⟨w.heap.size + 1 + 1, 0, none⟩)]) (by simp) (by simp [go_sem]) ?_
    refine (catch_idle _ _ _).mono ?_
    rintro e u' w3 ⟨rfl, rfl, rfl⟩
    simp [Leaves, settle, results, Try.results49, go_sem, c0, c1, e0]
    exact ⟨⟨⟨rfl, rfl⟩, rfl⟩, (((grown_to_below (below_three _ _ _ _) hg2).setCell (by simp) _).setCell (by simp) _).setCell (by simp; omega) _⟩

set_option maxRecDepth 100000 in
theorem check_any (n : Nat) (v : V n) (x : Value) (w : World) (h : Lay w n x v) :
    Calls Try.prog 33 #[x] w fun e w' => e = .returned (.int .i64 (msr (wk n v 1 (0, 0))).2.2) ∧ Below w.heap.size w w' := by
  obtain ⟨k, b, t, ka, kl, kc, ia, il, ic, rfl⟩ := Lay.shape n h
  have HL : Hid (Lay w n (mk k b t ka kl kc ia il ic) v) := h
  clear h
  generalize hr : msr (wk n v 1 (0, 0)) = r
  obtain ⟨c, d, er⟩ := r
  have HR : Hid (msr (wk n v 1 (0, 0)) = (c, d, er)) := hr
  clear hr
  go_enter Try.func33, Try.ntmps33
  go_wp2_with (go_at_call 49; refine (measure_any n _ _ _ (Lay.below n HL.out ((Below.refl _ _).alloc (Nat.le_refl _) _))).mono ?_; rw [HR.out]; rintro e w1 ⟨rfl, hb1⟩)
  go_ret
  exact ⟨rfl, (nxt ((Below.refl _ _).alloc (Nat.le_refl _) _) hb1).alloc (by have := hb1.size; simp at this; omega) _⟩

end Go.Proofs.Ytfdbhojghkdlkaa

/-
  Small calls: a search in a list of no text and of one, an insertion into an empty list, a copy of a value without lists.
-/
namespace Go.Proofs.Ytfdbhojghkdlkaa
open Go.ChangeShapes Go.WideShapes Go.ChangeAt Go.RowKit
open Fl

theorem num_any (n : Int) (w : World) : Calls Try.prog 11 #[.int .i64 n] w fun e w' => e = .returned (.int .i64 n) ∧ w' = w := by
  go_enter Try.func11, Try.ntmps11
  go_wp2_with fail
  go_ret
  exact ⟨rfl, rfl⟩

theorem cnan_any (s : ByteArray) (w : World) : Calls Try.prog 93 #[.string s] w fun e w' => e = .returned (.bool false) ∧ w' = w := by
  go_enter Try.func93, Try.ntmps93
  go_wp2_with fail
  go_ret
  exact ⟨rfl, rfl⟩

theorem snan_any (s : ByteArray) (w : World) : Calls Try.prog 89 #[.string s] w fun e w' => e = .returned (.bool false) ∧ w' = w := by
  go_enter Try.func89, Try.ntmps89
  go_wp2_with fail
  go_ret
  exact ⟨rfl, rfl⟩

theorem less_any (s t : ByteArray) (w : World) : Calls Try.prog 88 #[.string s, .string t] w fun e w' => e = .returned (.bool (Op.bytesLess s.toList t.toList)) ∧ w' = w := by
  go_enter Try.func88, Try.ntmps88
  go_wp2_with (go_at_call 93; refine (cnan_any _ _).mono ?_; rintro e w' ⟨rfl, rfl⟩)
  go_ret
  exact ⟨rfl, rfl⟩

theorem bs_empty (a : Option Addr) (c : Nat) (s : ByteArray) (w : World) : Calls Try.prog 80 #[.slice a 0 c, .string s] w fun e w' => e = .returned (.tuple #[.int .i64 0, .bool false]) ∧ w' = w := by
  go_enter Try.func80, Try.ntmps80
  go_wp2_with fail
  refine wp_loop_rounds 1 ?_
  rw [rounds_succ]
  go_wp2_with fail
  go_ret2
  exact ⟨rfl, rfl⟩

theorem less_self : ∀ l : List UInt8, Op.bytesLess l l = false
  | [] => rfl
  | a :: r => by simp [Op.bytesLess, less_self r]

theorem bs_one (g c : Nat) (s : ByteArray) (w : World) (h : w.cell? ⟨g, 0, none⟩ = some (.string s)) :
    Calls Try.prog 80 #[.slice (some ⟨g, 0, none⟩) 1 c, .string s] w fun e w' => e = .returned (.tuple #[.int .i64 0, .bool true]) ∧ w' = w := by
  have hs := less_self s.toList
  go_enter Try.func80, Try.ntmps80
  go_wp2_with fail
  refine wp_loop_rounds 2 ?_
  rw [rounds_succ]
  go_wp2_with (go_at_call 88; refine (less_any _ _ _).mono ?_; rw [hs]; rintro e w' ⟨rfl, rfl⟩)
  rw [rounds_succ]
  go_wp2_with fail
  go_ret2
  exact ⟨rfl, rfl⟩

set_option maxRecDepth 100000 in
set_option maxHeartbeats 1600000 in
theorem copyOf_none (k b : Int) (t : ByteArray) (w : World) :
    Calls Try.prog 68 #[mk k b t none 0 0 none 0 0] w fun e w' => e = .returned (mk k b t none 0 0 none 0 0) ∧ Below w.heap.size w w' := by
  obtain ⟨i1, hi1, hz01, hz11, hz21⟩ := info_parts Try.infoStr
  go_enter Try.func68, Try.ntmps68
  go_wp2_with (at_builtin; refine wpList_append_own_none rfl _ _ 47 rfl 0 9 i1 1 Try.underlying47 hi1 _ 0 [] rfl (World.ownsRow_nil _ _ _ _) rfl ?_)
  refine wp_loop_rounds 1 ?_
  rw [rounds_succ]
  go_wp2_with fail
  exact bodyPost_ret (v := mk k b t none 0 0 none 0 0) (by simp [results, Try.results68, go_sem]) rfl ⟨rfl, below_two _ _ _⟩

/-- Check's number. -/
def chk {n : Nat} (v : V n) : Int := (msr (wk n v 1 (0, 0))).2.2

theorem below_one (w : World) (o : Obj) : Below w.heap.size w (w.alloc o) := (Below.refl _ _).alloc (Nat.le_refl _) _

end Go.Proofs.Ytfdbhojghkdlkaa

/-
  What the page's own answers for float (package fanlightref01) give: exponent, fraction, Class, Canon, Order, of, Add, Sub, Mul, Div, for every 64 bits.
-/
namespace Go.Proofs.Ytfdbhojghkdlkaa
open Go.ChangeShapes Go.WideShapes Go.ChangeAt Go.RowKit
open Fl

theorem and_exponent {b : Int} (h : U b) : wrap64 (bits .and .u64 (b / 4503599627370496) 2047) = b / 4503599627370496 % 2048 := by
  obtain ⟨h0, h1⟩ := h
  rw [u64_and _ _ (by omega) (by omega) (by decide) (by decide)]
  obtain ⟨n, hn⟩ : ∃ n : Nat, b / 4503599627370496 = n := ⟨(b / 4503599627370496).toNat, by omega⟩
  have e : (2047 : Int).toNat = 2047 := rfl
  rw [e, hn, Int.toNat_natCast, nat_mask11]
  unfold wrap64
  omega

theorem rexponent_any (b : Int) (w : World) (h : U b) :
    Calls Try.prog 72 #[.int .u64 b] w fun e w' => e = .returned (.int .i64 (b / 4503599627370496 % 2048)) ∧ w' = w := by
  go_enter Try.func72, Try.ntmps72
  go_wp2
  go_ret
  exact ⟨ret_int (and_exponent h), rfl⟩

theorem rfraction_any (b : Int) (w : World) (h : U b) :
    Calls Try.prog 73 #[.int .u64 b] w fun e w' => e = .returned (.int .u64 (b % 4503599627370496)) ∧ w' = w := by
  go_enter Try.func73, Try.ntmps73
  go_wp2
  go_ret
  exact ⟨ret_int (and_fraction h), rfl⟩

theorem rclass_any (b : Int) (w : World) (h : U b) :
    Calls Try.prog 66 #[.int .u64 b] w fun e w' => e = .returned (.int .i64 (cls b)) ∧ w' = w := by
  have HU : Hid (U b) := h
  clear h
  go_enter Try.func66, Try.ntmps66
  go_wp2_with (first | (go_at_call 72; refine (rexponent_any _ _ HU.out).mono ?_; rintro e w' ⟨rfl, rfl⟩) | (go_at_call 73; refine (rfraction_any _ _ HU.out).mono ?_; rintro e w' ⟨rfl, rfl⟩))
  all_goals go_ret
  all_goals
    refine ⟨ret_int ?_, rfl⟩
    obtain ⟨h0, h1⟩ := HU.out
    simp_all only [beq_iff_eq, bne_iff_ne, ne_eq, beq_eq_false_iff_ne, bne_eq_false_iff_eq]
    unfold cls
    omega

theorem rcanon_any (b : Int) (w : World) (h : U b) :
    Calls Try.prog 57 #[.int .u64 b] w fun e w' => e = .returned (.int .u64 (can b)) ∧ w' = w := by
  have HU : Hid (U b) := h
  clear h
  have HN : Hid (cls b = 5 ↔ 9218868437227405312 < b % 9223372036854775808) := cls_nan b
  by_cases h5 : cls b = 5
  · go_enter Try.func57, Try.ntmps57
    go_wp2_with (go_at_call 66; refine (rclass_any _ _ HU.out).mono ?_; rintro e w' ⟨rfl, rfl⟩)
    go_ret
    exact ⟨ret_int (by unfold can; rw [if_pos (HN.out.1 h5)]), rfl⟩
  · go_enter Try.func57, Try.ntmps57
    go_wp2_with (go_at_call 66; refine (rclass_any _ _ HU.out).mono ?_; rintro e w' ⟨rfl, rfl⟩)
    go_ret
    exact ⟨ret_int (by unfold can; rw [if_neg (fun x => h5 (HN.out.2 x))]), rfl⟩

end Go.Proofs.Ytfdbhojghkdlkaa
