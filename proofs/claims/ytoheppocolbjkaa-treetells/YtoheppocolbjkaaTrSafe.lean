/-
  What makes a text safe: the program's (marks).safe, octet by octet.
-/
import Derived.Test.YtoheppocolbjkaaTrStr
namespace Go.Proofs.Ytoheppocolbjkaa
open Go.ChangeShapes Go.WideShapes Go.ChangeAt Go.RowKit

/-- An octet as it is printed. -/
def escO (o : UInt8) : List UInt8 := if o = 38 then [38, 97, 109, 112, 59] else if o = 60 then [38, 108, 116, 59] else if o = 62 then [38, 103, 116, 59] else if o = 34 then [38, 113, 117, 111, 116, 59] else [o]
def esc : List UInt8 → List UInt8
  | [] => []
  | o :: r => escO o ++ esc r
theorem esc_append (a b : List UInt8) : esc (a ++ b) = esc a ++ esc b := by
  induction a with
  | nil => rfl
  | cons x r ih => simp [esc, ih]
theorem escO_len (o : UInt8) : (escO o).length ≤ 6 := by
  unfold escO
  repeat' split
  all_goals simp
theorem esc_len : ∀ l : List UInt8, (esc l).length ≤ 6 * l.length
  | [] => by simp [esc]
  | o :: r => by have := escO_len o; have := esc_len r; simp only [esc, List.length_append, List.length_cons]; omega
def escB (s : ByteArray) : ByteArray := ⟨(esc s.toList).toArray⟩
theorem escB_toList (s : ByteArray) : (escB s).toList = esc s.toList := by rw [ByteArray.toList_eq]; rfl

/-- The marks' octets, and what stands for them. -/
def mo (j : Nat) : UInt8 := if j = 0 then 38 else if j = 1 then 60 else if j = 2 then 62 else 34
def ms (j : Nat) : ByteArray := if j = 0 then ⟨#[38, 97, 109, 112, 59]⟩ else if j = 1 then ⟨#[38, 108, 116, 59]⟩ else if j = 2 then ⟨#[38, 103, 116, 59]⟩ else ⟨#[38, 113, 117, 111, 116, 59]⟩
def idxM (o : UInt8) : Int := if o = 38 then 0 else if o = 60 then 1 else if o = 62 then 2 else if o = 34 then 3 else -1

theorem four {m : Nat} (h : m < 4) : m = 0 ∨ m = 1 ∨ m = 2 ∨ m = 3 := by omega
theorem mark_cells {w : World} {q : Nat} (h : w.heap[q]? = some (.cells mkCells 72 (0, 0))) {m : Nat} (hm : m < 4) : w.cell? ⟨q, m * 2, none⟩ = some (.int .u8 ((mo m).toNat : Int)) ∧ w.cell? ⟨q, m * 2 + 1, none⟩ = some (.string (ms m)) := by
  rw [(cell_of h _).1, (cell_of h _).1]
  rcases four hm with rfl | rfl | rfl | rfl <;> exact ⟨rfl, rfl⟩
theorem idx_at {m : Nat} {o : UInt8} (hm : m < 4) (h : ∀ j, j < m → ¬ mo j = o) (e : mo m = o) : idxM o = m := by
  subst e
  rcases four hm with rfl | rfl | rfl | rfl <;> rfl
theorem idx_none {o : UInt8} (h : ∀ j, j < 4 → ¬ mo j = o) : idxM o = -1 := by
  have h0 := h 0 (by omega); have h1 := h 1 (by omega); have h2 := h 2 (by omega); have h3 := h 3 (by omega)
  simp only [mo] at h0 h1 h2 h3
  unfold idxM
  rw [if_neg (fun e => h0 e.symm), if_neg (fun e => h1 e.symm), if_neg (fun e => h2 e.symm), if_neg (fun e => h3 e.symm)]
/-- What an octet's index means. -/
theorem idx_esc (o : UInt8) : (idxM o = -1 ∧ escO o = [o]) ∨ ∃ m : Nat, m < 4 ∧ idxM o = m ∧ escO o = (ms m).toList := by
  unfold idxM escO
  by_cases h0 : o = 38
  · rw [if_pos h0, if_pos h0]; exact Or.inr ⟨0, by omega, rfl, by rw [ByteArray.toList_eq]; rfl⟩
  · rw [if_neg h0, if_neg h0]
    by_cases h1 : o = 60
    · rw [if_pos h1, if_pos h1]; exact Or.inr ⟨1, by omega, rfl, by rw [ByteArray.toList_eq]; rfl⟩
    · rw [if_neg h1, if_neg h1]
      by_cases h2 : o = 62
      · rw [if_pos h2, if_pos h2]; exact Or.inr ⟨2, by omega, rfl, by rw [ByteArray.toList_eq]; rfl⟩
      · rw [if_neg h2, if_neg h2]
        by_cases h3 : o = 34
        · rw [if_pos h3, if_pos h3]; exact Or.inr ⟨3, by omega, rfl, by rw [ByteArray.toList_eq]; rfl⟩
        · rw [if_neg h3, if_neg h3]; exact Or.inl ⟨rfl, rfl⟩
theorem ms_size (m : Nat) : (ms m).size ≤ 6 := by
  unfold ms
  repeat' split
  all_goals decide

set_option maxRecDepth 100000 in
theorem isMark_any (x o : Int) (s : ByteArray) (p : Nat) (w : World) (hp : w.cell? ⟨p, 0, none⟩ = some (.int .u8 o)) :
    Calls Try.prog 54 #[.agg #[.int .u8 x, .string s], .pointer (some ⟨p, 0, none⟩)] w fun e w' => e = .returned (.bool (x == o)) ∧ Below w.heap.size w w' := by
  have hp' : (w.alloc (.cells #[.int .u8 x, .string s] 72)).cell? ⟨p, 0, none⟩ = some (.int .u8 o) := keepc (below_one _ _) _ _ hp
  go_enter Try.func54, Try.ntmps54
  go_wp2_with fail
  go_ret
  exact ⟨rfl, below_one _ _⟩

set_option maxRecDepth 100000 in
set_option maxHeartbeats 1600000 in
theorem indexM_any (o : UInt8) (q p : Nat) (w : World) (hq : w.heap[q]? = some (.cells mkCells 72 (0, 0))) (hp : w.cell? ⟨p, 0, none⟩ = some (.int .u8 (o.toNat : Int))) :
    Calls Try.prog 53 #[.slice (some ⟨q, 0, none⟩) 4 4, .func (.func 54) #[] #[.pointer (some ⟨p, 0, none⟩)]] w fun e w' => e = .returned (.int .i64 (idxM o)) ∧ Below w.heap.size w w' := by
  have HQ : Hid (w.heap[q]? = some (.cells mkCells 72 (0, 0))) := hq
  have HP : Hid (w.cell? ⟨p, 0, none⟩ = some (.int .u8 (o.toNat : Int))) := hp
  clear hq hp
  go_enter Try.func53, Try.ntmps53
  go_wp2_with fail
  go_loopw [8] (fun i wr => ∃ m : Nat, m ≤ 4 ∧ i = .int .i64 m ∧ Hid (∀ j, j < m → ¬ mo j = o) ∧ Hid (Below w.heap.size w wr)) (fun i _ => 4 - (intOf i).toNat)
  case atStart => exact ⟨0, Nat.zero_le _, rfl, (fun j h => by omega), Below.refl _ _⟩
  case round =>
    obtain ⟨m, hm, rfl, HZ, HW⟩ := hrel
    by_cases hlt : m < 4
    · obtain ⟨q0, q1⟩ := mark_cells ((HW.out.block _ (lt_of_block HQ.out)).trans HQ.out) hlt
      have hm1 : (m : Int) < 4 := by omega
      have HC : Hid (Calls Try.prog 54 #[.agg #[.int .u8 ((mo m).toNat : Int), .string (ms m)], .pointer (some ⟨p, 0, none⟩)] wr _) := isMark_any _ (o.toNat : Int) _ p wr (keepc HW.out _ _ HP.out)
      have HE : Hid (mo m = o → idxM o = m) := fun e => idx_at hlt HZ.out e
      by_cases hz : mo m = o
      · have hzb : (((mo m).toNat : Int) == (o.toNat : Int)) = true := by rw [hz]; simp
        rw [hzb] at HC
        have E : Hid (idxM o = m) := HE.out hz
        clear hz hzb HE
        generalize mo m = x at *
        generalize ms m = y at *
        go_wp2_with (refine HC.out.mono ?_; rintro e w2 ⟨rfl, hb2⟩)
        go_ret
        exact ⟨by rw [E.out]; rfl, nxt HW.out hb2⟩
      · have hzb : (((mo m).toNat : Int) == (o.toNat : Int)) = false := by
          rw [beq_eq_false_iff_ne]; intro e; exact hz (UInt8.toNat_inj.1 (by omega))
        rw [hzb] at HC
        have E : Hid (∀ j, j < m + 1 → ¬ mo j = o) := fun j hj => by
          by_cases e : j = m
          · subst e; exact hz
          · exact HZ.out j (by omega)
        clear hz hzb HE
        generalize mo m = x at *
        generalize ms m = y at *
        go_wp2_with (refine HC.out.mono ?_; rintro e w2 ⟨rfl, hb2⟩)
        exact ⟨⟨m + 1, by omega, by go_num, E.out, nxt HW.out hb2⟩, by simp [intOf]; omega⟩
    · have hme : m = 4 := by omega
      subst hme
      have E : Hid (idxM o = -1) := idx_none HZ.out
      go_wp2_with fail
      go_ret
      exact ⟨by rw [E.out]; rfl, HW.out⟩

set_option maxRecDepth 100000 in
set_option maxHeartbeats 3200000 in
theorem safe_any (s : ByteArray) (q : Nat) (w : World) (hq : w.heap[q]? = some (.cells mkCells 72 (0, 0))) (hs : s.size ≤ 1000000) :
    Calls Try.prog 41 #[.slice (some ⟨q, 0, none⟩) 4 4, .string s] w fun e w' => e = .returned (.string (escB s)) ∧ Below w.heap.size w w' := by
  have HQ : Hid (w.heap[q]? = some (.cells mkCells 72 (0, 0))) := hq
  clear hq
  obtain ⟨cap, W, hconv, hlay, hbel⟩ := conv_bytes s w
  have hsz : s.data.toList.length = s.size := by cases s; rfl
  have htl : s.data.toList = s.toList := (ByteArray.toList_eq s).symm
  rw [htl] at hlay hsz
  have HL : Hid (LayB W (some ⟨w.heap.size, 0, none⟩) s.toList) := hlay
  have HSZ : Hid (s.toList.length = s.size) := hsz
  have HB : Hid (Below w.heap.size w W) := hbel
  have HEB : Hid (escB s = ⟨(esc s.toList).toArray⟩) := rfl
  generalize s.toList = l at *
  generalize escB s = R at *
  clear hlay hsz hbel htl
  go_enter Try.func41, Try.ntmps41
  go_wp2_with fail
  go_loopw [5, 12] (fun v i wr => ∃ m : Nat, m ≤ s.size ∧ i = .int .i64 m ∧ Hid (Bs wr W.heap.size v (esc (l.take m))) ∧ Hid (Below W.heap.size W wr)) (fun _ i _ => s.size - (intOf i).toNat)
  case atStart => exact ⟨0, Nat.zero_le _, rfl, Bs.nil _ _, Below.refl _ _⟩
  case round =>
    obtain ⟨m, hm, rfl, HR, HW⟩ := hrel
    by_cases hlt : m < s.size
    · have hm1 : (m : Int) < (s.size : Int) := by omega
      have hml : m < l.length := by have := HSZ.out; omega
      obtain ⟨b, o, e0, q0⟩ := HL.out m l[m] (by simp [hml])
      simp only [Option.some.injEq, Addr.mk.injEq, and_true] at e0
      obtain ⟨rfl, rfl⟩ := e0
      replace q0 := keepc HW.out _ _ q0
      rw [Nat.zero_add] at q0
      have HT : Hid (esc (l.take (m + 1)) = esc (l.take m) ++ escO l[m]) := by
        show _ = _
        rw [List.take_succ_eq_append_getElem hml, esc_append]
        simp [esc]
      have HLN : Hid ((esc (l.take m)).length ≤ 6000000) := by
        show _ ≤ _
        have := esc_len (l.take m)
        simp only [List.length_take] at this
        omega
      generalize l[m] = oc at *
      clear hml
      have hq2 : (wr.alloc (.cells #[.int .u8 (oc.toNat : Int)] 5)).heap[q]? = some (.cells mkCells 72 (0, 0)) := ((nxt HB.out (nxt HW.out (below_one _ _))).block _ (lt_of_block HQ.out)).trans HQ.out
      have CI : Hid (Calls Try.prog 53 #[.slice (some ⟨q, 0, none⟩) 4 4, .func (.func 54) #[] #[.pointer (some ⟨wr.heap.size, 0, none⟩)]] (wr.alloc (.cells #[.int .u8 (oc.toNat : Int)] 5)) _) := indexM_any oc q wr.heap.size _ hq2 ((cell_of (heap_alloc_new _ _) 0).1)
      have HM : Hid ((wr.alloc (.cells #[.int .u8 (oc.toNat : Int)] 5)).heap[q]? = some (.cells mkCells 72 (0, 0))) := hq2
      have HI : Hid (_ ∨ _) := idx_esc oc
      clear hq2
      generalize idxM oc = ix at *
      rcases HI.out with ⟨hi, he⟩ | ⟨k, hk, hi, he⟩
      · subst hi
        have HE : Hid (escO oc = [oc]) := he
        clear he
        go_wp2_with fail
        refine CI.out.mono ?_
        rintro e w2 ⟨rfl, hb2⟩
        have z0 : w2.cell? ⟨wr.heap.size, 0, none⟩ = some (.int .u8 (oc.toNat : Int)) := (cell_of (boxed hb2) 0).1
        have HB2 : Hid (Below wr.heap.size wr (w2.alloc (.cells #[.int .u8 (oc.toNat : Int)] 5))) := nxt (below_one _ _) (nxt hb2 (below_one _ _))
        have HR2 : Hid (Bs (w2.alloc (.cells #[.int .u8 (oc.toNat : Int)] 5)) W.heap.size u5 (esc (l.take m))) := HR.out.below HB2.out
        have hsz2 : W.heap.size ≤ (w2.alloc (.cells #[.int .u8 (oc.toNat : Int)] 5)).heap.size := Nat.le_trans HW.out.size HB2.out.size
        clear hb2
        go_wp2_with (at_builtin; refine wpList_app _ rfl _ _ rfl W.heap.size _ (esc (l.take m)) [oc] rfl HR2.out ⟨w2.heap.size, 0, none⟩ 1 rfl (new_octets w2 5 [oc] _ rfl) ?d0 hsz2 ?_)
        case d0 => have := HLN.out; simp; omega
        intro v3 w3 r1 r2
        have HR3 : Hid (Bs w3 W.heap.size v3 (esc (l.take (m + 1)))) := by show Bs _ _ _ _; rw [HT.out, HE.out]; exact r1
        have HW3 : Hid (Below W.heap.size W w3) := (nxt HW.out HB2.out).trans (r2.below hsz2 fun g hg => (HR.out.base g hg).1)
        clear r1 r2
        go_wp2_with fail
        go_roundw
        case rel => exact ⟨m + 1, by omega, by go_num, HR3.out, HW3.out⟩
        case measure => simp [intOf]; omega
      · subst hi
        have HE : Hid (escO oc = (ms k).toList) := he
        clear he
        go_wp2_with fail
        refine CI.out.mono ?_
        rintro e w2 ⟨rfl, hb2⟩
        have k1 : (k : Int) < 4 := by omega
        have HMS : Hid ((ms k).size ≤ 6) := ms_size k
        obtain ⟨-, z1⟩ := mark_cells ((hb2.block _ (lt_of_block HM.out)).trans HM.out) hk
        have HB2 : Hid (Below wr.heap.size wr w2) := nxt (below_one _ _) hb2
        have HR2 : Hid (Bs w2 W.heap.size u5 (esc (l.take m))) := HR.out.below HB2.out
        have hsz2 : W.heap.size ≤ w2.heap.size := Nat.le_trans HW.out.size HB2.out.size
        have hln : (esc (l.take m)).length + (ms k).size ≤ 140737488355328 := by have := HLN.out; have := HMS.out; omega
        clear hb2
        generalize ms k = y at *
        go_wp2_with (at_builtin; refine wpList_apps _ rfl _ _ rfl W.heap.size _ (esc (l.take m)) y rfl HR2.out rfl hln hsz2 ?_)
        intro v3 w3 r1 r2
        have HR3 : Hid (Bs w3 W.heap.size v3 (esc (l.take (m + 1)))) := by show Bs _ _ _ _; rw [HT.out, HE.out]; exact r1
        have HW3 : Hid (Below W.heap.size W w3) := (nxt HW.out HB2.out).trans (r2.below hsz2 fun g hg => (HR.out.base g hg).1)
        clear r1 r2
        go_wp2_with fail
        go_roundw
        case rel => exact ⟨m + 1, by omega, by go_num, HR3.out, HW3.out⟩
        case measure => simp [intOf]; omega
    · have hme : m = s.size := by omega
      subst hme
      have h1 := HR.out
      rw [← HSZ.out, List.take_length] at h1
      obtain ⟨a, c, rfl⟩ := h1.shape
      have hstr := run_str (c := c) h1.lay
      have HRR : Hid (R = ⟨(esc l).toArray⟩) := HEB.out
      clear h1 HEB HR
      generalize (esc l).length = ln at *
      go_wp2_with fail
      go_ret
      exact ⟨by rw [HRR.out]; rfl, nxt HB.out HW.out⟩
end Go.Proofs.Ytoheppocolbjkaa
