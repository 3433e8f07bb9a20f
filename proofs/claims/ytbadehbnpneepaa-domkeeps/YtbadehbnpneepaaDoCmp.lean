/-
  Two texts compared by the library; the function that attrPlace searches by.
-/
import Derived.Test.YtbadehbnpneepaaDoName
import Derived.Lib.Bytealg
namespace Go.Proofs.Ytbadehbnpneepaa
open Go.ChangeShapes Go.WideShapes Go.ChangeAt Go.RowKit Go.Deep
open Do

/-- How two texts lie: less than 0, 0, more than 0. -/
def cmB (a b : ByteArray) : Int := Go.Lib.compareBytes a.data.toList b.data.toList

theorem cmL_rng : ∀ (a b : List UInt8), -1 ≤ Go.Lib.compareBytes a b ∧ Go.Lib.compareBytes a b ≤ 1
  | [], [] => by simp [Go.Lib.compareBytes]
  | [], _ :: _ => by simp [Go.Lib.compareBytes]
  | _ :: _, [] => by simp [Go.Lib.compareBytes]
  | a :: ra, b :: rb => by
    have := cmL_rng ra rb
    unfold Go.Lib.compareBytes
    split
    · omega
    · split <;> omega

theorem cmL_eq : ∀ (a b : List UInt8), Go.Lib.compareBytes a b = 0 ↔ a = b
  | [], [] => by simp [Go.Lib.compareBytes]
  | [], _ :: _ => by simp [Go.Lib.compareBytes]
  | _ :: _, [] => by simp [Go.Lib.compareBytes]
  | a :: ra, b :: rb => by
    have ih := cmL_eq ra rb
    unfold Go.Lib.compareBytes
    by_cases h1 : a < b
    · rw [if_pos h1]
      have hne : a ≠ b := by rintro rfl; exact UInt8.lt_irrefl _ h1
      simp [hne]
    · rw [if_neg h1]
      by_cases h2 : b < a
      · rw [if_pos h2]
        have hne : a ≠ b := by rintro rfl; exact UInt8.lt_irrefl _ h2
        simp [hne]
      · rw [if_neg h2, ih]
        have he : a = b := UInt8.le_antisymm (UInt8.not_lt.1 h2) (UInt8.not_lt.1 h1)
        simp [he]

theorem cmB_eq {a b : ByteArray} : cmB a b = 0 ↔ a = b := by
  unfold cmB
  rw [cmL_eq]
  constructor
  · intro h
    obtain ⟨⟨la⟩⟩ := a
    obtain ⟨⟨lb⟩⟩ := b
    simp only at h
    rw [h]
  · rintro rfl
    rfl

theorem cmL_trans : ∀ (a b c : List UInt8), Go.Lib.compareBytes a b < 0 → Go.Lib.compareBytes b c < 0 → Go.Lib.compareBytes a c < 0
  | [], [], _ => by intro h; simp [Go.Lib.compareBytes] at h
  | _ :: _, [], _ => by intro h; simp [Go.Lib.compareBytes] at h
  | _, _ :: _, [] => by intro _ h; simp [Go.Lib.compareBytes] at h
  | [], _ :: _, _ :: _ => by simp [Go.Lib.compareBytes]
  | a :: ra, b :: rb, c :: rc => by
    have ih := cmL_trans ra rb rc
    unfold Go.Lib.compareBytes
    intro h1 h2
    by_cases ab : a < b
    · by_cases bc : b < c
      · rw [if_pos (UInt8.lt_trans ab bc)]; omega
      · rw [if_neg bc] at h2
        by_cases cb : c < b
        · rw [if_pos cb] at h2; omega
        · have he : b = c := UInt8.le_antisymm (UInt8.not_lt.1 cb) (UInt8.not_lt.1 bc)
          subst he
          rw [if_pos ab]; omega
    · rw [if_neg ab] at h1
      by_cases ba : b < a
      · rw [if_pos ba] at h1; omega
      · have he : a = b := UInt8.le_antisymm (UInt8.not_lt.1 ba) (UInt8.not_lt.1 ab)
        subst he
        rw [if_neg ba] at h1
        by_cases bc : a < c
        · rw [if_pos bc]; omega
        · rw [if_neg bc] at h2 ⊢
          by_cases cb : c < a
          · rw [if_pos cb] at h2; omega
          · rw [if_neg cb] at h2 ⊢
            exact ih h1 h2

theorem cmB_trans {a b c : ByteArray} (h1 : cmB a b < 0) (h2 : cmB b c < 0) : cmB a c < 0 := cmL_trans _ _ _ h1 h2

theorem cmx_run (args : Array Value) (w : World) : (callFunc 106 args).run Try.prog w = ((Extern.BytealgCompare.compare args).run Try.prog w).andThen fun v w' => .ok (.value v) w' :=
  run_callFunc_extern Try.func106 (by kernel_rfl) (by kernel_rfl) (by kernel_rfl) (by kernel_rfl) args w

theorem cmx_eq (a b : ByteArray) (w : World) : (callFunc 106 #[.string a, .string b]).run Try.prog w = .ok (.value (.int .i64 (cmB a b))) w := by
  rw [cmx_run, Go.Lib.run_compareString]
  rfl

set_option maxRecDepth 100000 in
theorem cmpS_any (a b : ByteArray) (w : World) : Calls Try.prog 101 #[.string a, .string b] w fun e w' => e = .returned (.int .i64 (cmB a b)) ∧ w' = w := by
  have hf := cmx_eq
  go_enter Try.func101, Try.ntmps101
  go_wp2
  go_ret
  exact ⟨rfl, rfl⟩

set_option maxRecDepth 100000 in
theorem cmpStr_any (a b : ByteArray) (w : World) : Calls Try.prog 95 #[.string a, .string b] w fun e w' => e = .returned (.int .i64 (cmB a b)) ∧ w' = w := by
  go_enter Try.func95, Try.ntmps95
  go_wp2_with (go_at_call 101; refine (cmpS_any _ _ _).mono ?_; rintro e w' ⟨rfl, rfl⟩)
  go_ret
  exact ⟨rfl, rfl⟩

set_option maxRecDepth 100000 in
theorem attrCmp_any (a v b : ByteArray) (w : World) : Calls Try.prog 94 #[.agg #[.string a, .string v], .string b] w fun e w' => e = .returned (.int .i64 (cmB a b)) ∧ Below w.heap.size w w' := by
  have HC : Hid (∀ W, Calls Try.prog 95 #[.string a, .string b] W fun e w' => e = .returned (.int .i64 (cmB a b)) ∧ w' = W) := fun W => cmpStr_any a b W
  go_enter Try.func94, Try.ntmps94
  go_wp2_with fail
  refine (HC.out _).mono ?_
  rintro e w2 ⟨rfl, rfl⟩
  go_wp2_with fail
  go_ret
  exact ⟨rfl, below_one _ _⟩
end Go.Proofs.Ytbadehbnpneepaa
