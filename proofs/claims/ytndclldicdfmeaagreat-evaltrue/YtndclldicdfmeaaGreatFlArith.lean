/-
  What Add, Sub, Mul, Div, Floor, Of and Int of package float answer.
-/
import Derived.Test.YtndclldicdfmeaaGreatFlWalks
import Derived.Test.YtndclldicdfmeaaGreatFlIeee
import Derived.Deep.RegionWith
namespace Go.Proofs.YtndclldicdfmeaaGreat.Fq
open Go.ChangeShapes Go.WideShapes Go.ChangeAt Go.RowKit
open Fl

theorem frombits_run (args : Array Value) (w : World) : (callFunc 132 args).run Tryz.prog w = ((Extern.MathFloatBits.float64frombits args).run Tryz.prog w).andThen fun v w' => .ok (.value v) w' :=
  run_callFunc_extern Tryz.func132 (by kernel_rfl) (by kernel_rfl) (by kernel_rfl) (by kernel_rfl) args w
theorem tobits_run (args : Array Value) (w : World) : (callFunc 127 args).run Tryz.prog w = ((Extern.MathFloatBits.float64bits args).run Tryz.prog w).andThen fun v w' => .ok (.value v) w' :=
  run_callFunc_extern Tryz.func127 (by kernel_rfl) (by kernel_rfl) (by kernel_rfl) (by kernel_rfl) args w
theorem frombits_eq (n : Int) (w : World) : (callFunc 132 #[.int .u64 n]).run Tryz.prog w = .ok (.value (.float .f64 n.toNat)) w := by
  rw [frombits_run]; rfl
theorem tobits_eq (n : Nat) (w : World) : (callFunc 127 #[.float .f64 n]).run Tryz.prog w = .ok (.value (.int .u64 n)) w := by
  rw [tobits_run]; rfl

theorem number_any (b : Int) (w : World) :
    Calls Tryz.prog 114 #[.int .u64 b] w fun e w' => e = .returned (.float .f64 b.toNat) ∧ w' = w := by
  have hf := frombits_eq
  go_enter Tryz.func114, Tryz.ntmps114
  go_wp2
  go_ret
  exact ⟨rfl, rfl⟩

/-- The end of a closure that reckons: some 64 bits, which Canon turns into r. -/
def reckons (r : Int) (w : World) (e : Ending) (w' : World) : Prop :=
  ∃ (n : Nat) (k : Nat), e = .returned (.float .f64 n) ∧ (n : Int) < 18446744073709551616 ∧ can n = r ∧ w' = w.drewN k

theorem reckons_some {op : BinOp} {a b : Int} {w w' : World} {e : Ending} {r k : Nat} (he : e = .returned (.float .f64 r)) (h : floatBits op .f64 a.toNat b.toNat = some r) (hw : w' = w.drewN k) : reckons (fop op a b) w e w' := by
  have hf : fop op a b = (r : Int) := by unfold fop; rw [h]; rfl
  have hc := can_fop op a b
  have hu := U_fop op a b
  rw [hf] at hc hu
  exact ⟨r, k, he, hu.2, by rw [hc, hf], hw⟩

theorem reckons_none {op : BinOp} {a b : Int} {w w' : World} {e : Ending} {r k : Nat} (he : e = .returned (.float .f64 r)) (h : floatBits op .f64 a.toNat b.toNat = none)
    (hr : 9218868437227405312 < r % 9223372036854775808 ∧ r < 18446744073709551616) (hw : w' = w.drewN k) : reckons (fop op a b) w e w' := by
  have hf : fop op a b = flo none := by unfold fop; rw [h]
  exact ⟨r, k, he, by omega, by rw [hf]; exact flo_nan r hr.1, hw⟩

theorem makeFunc_run (fn : Fn) (first cap : Array Value) (w : World) : (Instr.makeFunc fn first cap).run Tryz.prog w = .ok (.func fn first cap) w := rfl

theorem nxt {w w1 w2 : World} (h : Below w.heap.size w w1) (k : Below w1.heap.size w1 w2) : Below w.heap.size w w2 := h.trans (k.mono h.size)

theorem below_one (w : World) (x : Obj) (k : Nat) : Below w.heap.size w ((w.alloc x).drewN k) :=
  below_drewN ((Below.refl _ _).alloc (Nat.le_refl _) _) _

theorem below_two (w : World) (x y : Obj) (k : Nat) : Below w.heap.size w (((w.alloc x).alloc y).drewN k) :=
  below_drewN (((Below.refl _ _).alloc (Nat.le_refl _) _).alloc (by simp) _) _

theorem arch_run (args : Array Value) (w : World) : (callFunc 148 args).run Tryz.prog w = ((Extern.MathFloor.toIntegral "math.archFloor" .down args).run Tryz.prog w).andThen fun v w' => .ok (.value v) w' :=
  run_callFunc_extern Tryz.func148 (by kernel_rfl) (by kernel_rfl) (by kernel_rfl) (by kernel_rfl) args w

theorem reckons_floor {b : Int} {w w' : World} {e : Ending} {r k : Nat} (he : e = .returned (.float .f64 r)) (h : 9218868437227405312 < b.toNat % 9223372036854775808)
    (hr : 9218868437227405312 < r % 9223372036854775808 ∧ r < 18446744073709551616) (hw : w' = w.drewN k) : reckons (ffl b) w e w' := by
  have hf : ffl b = flo none := by unfold ffl; rw [if_pos h]; rfl
  exact ⟨r, k, he, by omega, by rw [hf]; exact flo_nan r hr.1, hw⟩

theorem floorC_any (b : Int) (pb : Addr) (w : World) (hb : w.cell? pb = some (.int .u64 b)) (h : U b) :
    Calls Tryz.prog 118 #[.pointer (some pb)] w (reckons (ffl b) w) := by
  have HU : Hid (U b) := h
  have HL : Hid (b.toNat < 18446744073709551616) := by have := h.1; have := h.2; show b.toNat < 18446744073709551616; omega
  clear h
  have hn := number_any
  by_cases h5 : 9218868437227405312 < b.toNat % 9223372036854775808
  · rcases run_floor_nan (P := Tryz.prog) HL.out h5 with h1 | ⟨g, hg⟩
    · have hr : ∀ w, (callFunc 148 #[.float .f64 b.toNat]).run Tryz.prog w = .ok (.value (.float .f64 b.toNat)) w := fun w => by rw [arch_run, h1]; rfl
      have H5 : Hid (9218868437227405312 < b.toNat % 9223372036854775808) := h5
      clear h1 h5 hn
      go_enter Tryz.func118, Tryz.ntmps118
      go_wp2_with (first | (go_at_call 114; refine (number_any _ _).mono ?_; rintro e w' ⟨rfl, rfl⟩) | (go_at_call 119; go_in))
      go_ret
      exact reckons_floor (k := 0) rfl H5.out ⟨H5.out, HL.out⟩ rfl
    · have hr : ∀ w, (callFunc 148 #[.float .f64 b.toNat]).run Tryz.prog w = .ok (.value (.float .f64 (g w))) w.drew := fun w => by rw [arch_run, (hg w).2]; rfl
      have H5 : Hid (9218868437227405312 < b.toNat % 9223372036854775808) := h5
      have HG : Hid (∀ w : World, 9218868437227405312 < g w % 9223372036854775808 ∧ g w < 18446744073709551616) := fun w => (hg w).1
      clear hg h5 hn
      go_enter Tryz.func118, Tryz.ntmps118
      go_wp2_with (first | (go_at_call 114; refine (number_any _ _).mono ?_; rintro e w' ⟨rfl, rfl⟩) | (go_at_call 119; go_in))
      go_ret
      exact reckons_floor (k := 1) rfl H5.out (HG.out _) rfl
  · have hr : ∀ w, (callFunc 148 #[.float .f64 b.toNat]).run Tryz.prog w = .ok (.value (.float .f64 (Ieee.double.write ((Ieee.double.read b.toNat).integral .down)))) w := fun w => by rw [arch_run, run_floor_num h5]; rfl
    have HF : Hid (ffl b = (Ieee.double.write ((Ieee.double.read b.toNat).integral .down) : Nat)) := by show ffl b = _; unfold ffl; rw [if_neg h5]
    clear h5 hn
    go_enter Tryz.func118, Tryz.ntmps118
    go_wp2_with (first | (go_at_call 114; refine (number_any _ _).mono ?_; rintro e w' ⟨rfl, rfl⟩) | (go_at_call 119; go_in))
    go_ret
    exact ⟨_, 0, rfl, by have := U_ffl b; rw [HF.out] at this; exact this.2, by rw [← HF.out]; exact can_ffl b, rfl⟩

theorem floor_any (b : Int) (w : World) (h : U b) :
    Calls Tryz.prog 81 #[.int .u64 b] w fun e w' => e = .returned (.int .u64 (ffl b)) ∧ Below w.heap.size w w' := by
  have hmf := makeFunc_run
  have hb := tobits_eq
  have HU : Hid (U b) := h
  clear h
  go_enter Tryz.func81, Tryz.ntmps81
  go_wp2_with (first | (go_at_call 112; go_in) | (go_at_call 118; refine (floorC_any b _ _ ?_ HU.out).mono ?_))
  · go_simp
  rintro e w' ⟨n, k, rfl, hn1, hn2, rfl⟩
  have HN : Hid (U (n : Int)) := ⟨by omega, hn1⟩
  clear hn1
  go_wp2_with (go_at_call 98; refine (canon_any _ _ HN.out).mono ?_; rintro e w' ⟨rfl, rfl⟩)
  go_ret
  exact ⟨rfl, below_one _ _ _⟩

end Go.Proofs.YtndclldicdfmeaaGreat.Fq
