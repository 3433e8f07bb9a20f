/-
  A text's print turned back, as mathematics.
-/
import Derived.Test.YtoheppocolbjkaaTrInj
namespace Go.Proofs.Ytoheppocolbjkaa
open Go.ChangeShapes Go.WideShapes Go.ChangeAt Go.RowKit

theorem ext_toList (p : ByteArray) (a b : Nat) : (p.extract a b).toList = (p.toList.drop a).take (b - a) := by
  rw [ByteArray.toList_eq, ByteArray.toList_eq]
  simp [ByteArray.data_extract, List.extract_eq_take_drop]
theorem app_toList (a b : ByteArray) : (a ++ b).toList = a.toList ++ b.toList := by
  rw [ByteArray.toList_eq, ByteArray.toList_eq, ByteArray.toList_eq]
  simp [ByteArray.data_append]
theorem at_drop {q : ByteArray} {I : Nat} (h : I < q.size) {c : UInt8} {z : List UInt8} (e : q.toList.drop I = c :: z) : q[I] = c := by
  have hl : I < q.toList.length := by rw [toList_len]; exact h
  rw [List.drop_eq_getElem_cons hl] at e
  have e1 := (List.cons.inj e).1
  rw [← e1]
  simp only [ByteArray.toList_eq]
  rfl

/-- An octet is plain, or one of the four marks. -/
theorem esc_mark (o : UInt8) : (o ≠ 38 ∧ o ≠ 60 ∧ o ≠ 62 ∧ o ≠ 34 ∧ escO o = [o]) ∨ ∃ k : Nat, k < 4 ∧ o = mo k ∧ escO o = (ms k).toList := by
  rcases escO_case o with rfl | rfl | rfl | rfl | h
  · exact Or.inr ⟨0, by omega, rfl, by rw [ByteArray.toList_eq]; rfl⟩
  · exact Or.inr ⟨1, by omega, rfl, by rw [ByteArray.toList_eq]; rfl⟩
  · exact Or.inr ⟨2, by omega, rfl, by rw [ByteArray.toList_eq]; rfl⟩
  · exact Or.inr ⟨3, by omega, rfl, by rw [ByteArray.toList_eq]; rfl⟩
  · exact Or.inl h
theorem ms_head {k : Nat} (hk : k < 4) : ∃ z, (ms k).toList = 38 :: z := by
  rcases four hk with rfl | rfl | rfl | rfl <;> (rw [ByteArray.toList_eq]; exact ⟨_, rfl⟩)
/-- No name begins another. -/
theorem ms_ne {j k : Nat} (hj : j < k) (hk : k < 4) (z : List UInt8) : ¬ ((ms k).toList ++ z).take (ms j).size = (ms j).toList := by
  rw [ByteArray.toList_eq, ByteArray.toList_eq]
  intro e
  have e1 := congrArg (fun l : List UInt8 => l[1]?) e
  rcases four hk with rfl | rfl | rfl | rfl
  · omega
  · obtain rfl : j = 0 := by omega
    simp [ms, ByteArray.size] at e1
  · have : j = 0 ∨ j = 1 := by omega
    rcases this with rfl | rfl <;> simp [ms, ByteArray.size] at e1
  · have : j = 0 ∨ j = 1 ∨ j = 2 := by omega
    rcases this with rfl | rfl | rfl <;> simp [ms, ByteArray.size] at e1
theorem mo_text {k : Nat} (hk : k < 4) : ((⟨#[38, 60, 62, 34]⟩ : ByteArray).extract k (k + 1)).toList = [mo k] := by
  rw [ext_toList, ByteArray.toList_eq]
  rcases four hk with rfl | rfl | rfl | rfl <;> rfl

/-- What stands at a place of a print. -/
theorem esc_drop {l : List UInt8} {m : Nat} (h : m < l.length) : (esc l).drop (esc (l.take m)).length = escO l[m] ++ esc (l.drop (m + 1)) := by
  have e : esc l = esc (l.take m) ++ esc (l.drop m) := by rw [← esc_append, List.take_append_drop]
  rw [e, List.drop_left]
  rw [List.drop_eq_getElem_cons h]
  rfl
theorem esc_len_take {l : List UInt8} {m : Nat} (h : m < l.length) : (esc (l.take (m + 1))).length = (esc (l.take m)).length + (escO l[m]).length := by
  rw [List.take_succ_eq_append_getElem h, esc_append, List.length_append]
  simp [esc]
/-- An octet's place in a print. -/
theorem place {l : List UInt8} {m : Nat} (h : m < l.length) : ∃ o, (esc l).drop (esc (l.take m)).length = escO o ++ esc (l.drop (m + 1)) ∧ (esc (l.take (m + 1))).length = (esc (l.take m)).length + (escO o).length ∧ l.take (m + 1) = l.take m ++ [o] ∧ (esc (l.take m)).length + (escO o).length ≤ (esc l).length := by
  refine ⟨l[m], esc_drop h, esc_len_take h, List.take_succ_eq_append_getElem h, ?_⟩
  rw [← esc_len_take h]
  have e : esc l = esc (l.take (m + 1)) ++ esc (l.drop (m + 1)) := by rw [← esc_append, List.take_append_drop]
  have e2 := congrArg List.length e
  rw [List.length_append] at e2
  omega
theorem esc_end {l : List UInt8} {m : Nat} (h : (esc l).length ≤ (esc (l.take m)).length) : l.take m = l := by
  have e : esc l = esc (l.take m) ++ esc (l.drop m) := by rw [← esc_append, List.take_append_drop]
  have e2 := congrArg List.length e
  rw [List.length_append] at e2
  have : esc (l.drop m) = [] := List.eq_nil_of_length_eq_zero (by omega)
  have := esc_nil this
  rw [List.drop_eq_nil_iff] at this
  exact List.take_of_length_le this
theorem names_at {w : World} {g : Nat} (h : w.heap[g]? = some (.cells #[.string ⟨#[38, 97, 109, 112, 59]⟩, .string ⟨#[38, 108, 116, 59]⟩, .string ⟨#[38, 103, 116, 59]⟩, .string ⟨#[38, 113, 117, 111, 116, 59]⟩] 9 (0, 0))) {j : Nat} (hj : j < 4) : w.cell? ⟨g, j, none⟩ = some (.string (ms j)) := by
  rw [(cell_of h _).1]
  rcases four hj with rfl | rfl | rfl | rfl <;> rfl
end Go.Proofs.Ytoheppocolbjkaa
