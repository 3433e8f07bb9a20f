/-
  The printer: the builder that it embeds (copyCheck, WriteString, String), put.
-/
import Derived.Test.YtoheppocolbjkaaTrSize
import Derived.Test.YtoheppocolbjkaaOcApps
import Derived.Lib.Builder
import Derived.Lib.UnsafeStr
namespace Go.Proofs.Ytoheppocolbjkaa
open Go.ChangeShapes Go.WideShapes Go.ChangeAt Go.RowKit

/-- The four marks. -/
def mkCells : Array Value := #[.int .u8 38, .string ⟨#[38, 97, 109, 112, 59]⟩, .int .u8 60, .string ⟨#[38, 108, 116, 59]⟩, .int .u8 62, .string ⟨#[38, 103, 116, 59]⟩, .int .u8 34, .string ⟨#[38, 113, 117, 111, 116, 59]⟩]
def safeF (q : Nat) : Value := .func (.func 41) #[.slice (some ⟨q, 0, none⟩) 4 4] #[]

/-- A printer P that holds the octets l; its memory lies from B on; q: the marks. -/
def PrV (w : World) (B P q : Nat) (p v : Value) (l : List UInt8) : Prop := B ≤ P ∧ w.heap[q]? = some (.cells mkCells 72 (0, 0)) ∧ w.heap[P]? = some (.cells #[p, v, safeF q] 59 (0, 0)) ∧ Bs w B v l
def Pr (w : World) (B P q : Nat) (l : List UInt8) : Prop := ∃ p v, (p = .pointer none ∨ p = .pointer (some ⟨P, 0, none⟩)) ∧ PrV w B P q p v l

/-- Neither octets nor a printer. -/
def free : Obj → Bool
  | .cells _ ty _ => !(ty == 5) && !(ty == 59)
  | _ => true

/-- All blocks stay that are neither octets nor a printer. -/
def Kp (w w' : World) : Prop := ∀ (j : Nat) (o : Obj), free o = true → w.heap[j]? = some o → w'.heap[j]? = some o

theorem Kp.refl (w : World) : Kp w w := fun _ _ _ h => h
theorem Kp.trans {a b c : World} (h : Kp a b) (k : Kp b c) : Kp a c := fun j o h1 h3 => k j o h1 (h j o h1 h3)
theorem Kp.of_below {a b : World} (h : Below a.heap.size a b) : Kp a b := fun _ _ _ h3 => (h.block _ (lt_of_block h3)).trans h3
theorem Kp.at {a b : World} (h : Kp a b) {j : Nat} {c : Array Value} {ty : TypeId} {m : Nat × Nat} (t1 : ty ≠ 5) (t2 : ty ≠ 59) (h3 : a.heap[j]? = some (.cells c ty m)) : b.heap[j]? = some (.cells c ty m) := h j _ (by simp [free, t1, t2]) h3

theorem PrV.below {w w' : World} {B P q : Nat} {p v : Value} {l : List UInt8} (h : PrV w B P q p v l) (hb : Below w.heap.size w w') : PrV w' B P q p v l :=
  ⟨h.1, (hb.block _ (lt_of_block h.2.1)).trans h.2.1, (hb.block _ (lt_of_block h.2.2.1)).trans h.2.2.1, h.2.2.2.below hb⟩
theorem Pr.below {w w' : World} {B P q : Nat} {l : List UInt8} (h : Pr w B P q l) (hb : Below w.heap.size w w') : Pr w' B P q l := by
  obtain ⟨p, v, h1, h2⟩ := h
  exact ⟨p, v, h1, h2.below hb⟩

theorem Bs.ne {w : World} {B : Nat} {v : Value} {l : List UInt8} (h : Bs w B v l) {j : Nat} {c : Array Value} {ty : TypeId} {m : Nat × Nat} (hj : w.heap[j]? = some (.cells c ty m)) (hty : ty ≠ 5) : v.ownBlock ≠ some j := by
  intro e
  obtain ⟨h1, h2⟩ := h
  rcases h2 with ⟨rfl, _⟩ | ⟨g, cap, cur, rfl, _, hb, _⟩
  · cases e
  · simp only [Value.ownBlock, Option.some.injEq] at e
    subst e
    rw [hj] at hb
    simp only [Option.some.injEq, Obj.cells.injEq] at hb
    exact hty hb.2.1

theorem Bs.ne_free {w : World} {B : Nat} {v : Value} {l : List UInt8} (h : Bs w B v l) {j : Nat} {o : Obj} (hj : w.heap[j]? = some o) (hf : free o = true) : v.ownBlock ≠ some j := by
  intro e
  obtain ⟨h1, h2⟩ := h
  rcases h2 with ⟨rfl, _⟩ | ⟨g, cap, cur, rfl, _, hb, _⟩
  · cases e
  · simp only [Value.ownBlock, Option.some.injEq] at e
    subst e
    rw [hj] at hb
    simp only [Option.some.injEq] at hb
    subst hb
    simp [free] at hf

theorem Try.sizeBuilder : (Try.prog.info? 56).map (·.size) = some 2 := by kernel_rfl
theorem Try.liesBuilder : liesAt Try.prog Try.prog.depth 59 (3 / Try.prog.cellsOf 59) 0 56 1 = true := by kernel_rfl
theorem Try.cellsByte : Try.prog.cellsOf 5 = 1 := by kernel_rfl

theorem three_cells {w : World} {g : Nat} {x y z : Value} {t : TypeId} (h : w.heap[g]? = some (.cells #[x, y, z] t (0, 0))) : w.cell? ⟨g, 0, none⟩ = some x ∧ w.cell? ⟨g, 1, none⟩ = some y ∧ w.cell? ⟨g, 2, none⟩ = some z ∧ w.frozen? ⟨g, 0, none⟩ = false ∧ w.frozen? ⟨g, 1, none⟩ = false ∧ w.shape? g = some (t, 3) := by
  simp [World.cell?, World.frozen?, World.shape?, h]

theorem PrV.store {w : World} {B P q : Nat} {p v : Value} {l : List UInt8} (h : PrV w B P q p v l) (p' : Value) : PrV (w.setCell ⟨P, 0, none⟩ p') B P q p' v l ∧ Kp w (w.setCell ⟨P, 0, none⟩ p') ∧ Below B w (w.setCell ⟨P, 0, none⟩ p') := by
  obtain ⟨h1, h2, h3, h4⟩ := h
  have hk : Kept (fun j => j = P) w (w.setCell ⟨P, 0, none⟩ p') := Kept.setCell (F := fun j => j = P) (g := P) (Kept.refl _ _) _ rfl
  have kp : Kp w (w.setCell ⟨P, 0, none⟩ p') := fun j o hf hj => (hk.block j (lt_of_block hj) (fun e => by subst e; rw [h3] at hj; cases hj; simp [free] at hf)).trans hj
  refine ⟨⟨h1, kp.at (by decide) (by decide) h2, by simpa using set_one_cell h3 (o := 0) p', ownsRow_same h4 fun g hg => hk.block g (h4.lt g hg).2 (fun e => by subst e; exact h4.ne h3 (by decide) hg)⟩, kp, (Below.refl B w).setCell (p := ⟨P, 0, none⟩) h1 _⟩

set_option maxRecDepth 100000 in
set_option maxHeartbeats 1600000 in
theorem copyCheck_any (B P q : Nat) (l : List UInt8) (w : World) (h : Pr w B P q l) :
    Calls Try.prog 55 #[.pointer (some ⟨P, 0, none⟩)] w fun e w' => e = .returned (.tuple #[]) ∧ (∃ v, PrV w' B P q (.pointer (some ⟨P, 0, none⟩)) v l) ∧ Kp w w' ∧ Below B w w' := by
  obtain ⟨p, v, hp, hv⟩ := h
  have HV : Hid (PrV w B P q p v l) := hv
  obtain ⟨x0, x1, -, f0, -, hsh⟩ := three_cells hv.2.2.1
  obtain ⟨j, hj, hjs⟩ := Option.map_eq_some_iff.1 Try.sizeBuilder
  clear hv
  rcases hp with rfl | rfl
  · go_enter Try.func55, Try.ntmps55
    go_wp2
    rw [Lib.run_to_unsafe w ⟨P, 0, none⟩ Try.underlying53 Try.underlying89 hj (by rw [hjs]; decide) hsh (by show 0 < 3; decide)]
    simp only [Result.andThen]
    rw [Oper.upon_value]
    go_wp2
    rw [run_callFunc_extern Try.func58 (by kernel_rfl) (by kernel_rfl) (by kernel_rfl) (e := Extern.AbiNoEscape.same) (by kernel_rfl)]
    rw [Lib.run_noEscape]
    simp only [Result.andThen]
    rw [Oper.upon_value]
    go_wp2
    rw [Lib.run_from_unsafe w ⟨P, 0, none⟩ Try.underlying89 Try.underlying53 hj hsh Try.liesBuilder]
    simp only [Result.andThen]
    rw [Oper.upon_value]
    go_wp2
    go_end0
    have := HV.out.store (.pointer (some ⟨P, 0, none⟩))
    exact ⟨rfl, ⟨v, this.1⟩, this.2.1, this.2.2⟩
  · go_enter Try.func55, Try.ntmps55
    go_wp2
    rw [Lib.run_neq_ptr_same w _ Try.underlying53 hj]
    go_wp2
    go_end0
    exact ⟨rfl, ⟨v, HV.out⟩, Kp.refl _, Below.refl _ _⟩

theorem PrV.put {w w' : World} {B P q : Nat} {p v v' : Value} {l l' : List UInt8} (h : PrV w B P q p v l) (hb : Bs w' B v' l') (hr : RowTo w w' v v') (hB : B ≤ w.heap.size) : PrV (w'.setCell ⟨P, 1, none⟩ v') B P q p v' l' ∧ Kp w (w'.setCell ⟨P, 1, none⟩ v') ∧ Below B w (w'.setCell ⟨P, 1, none⟩ v') := by
  obtain ⟨h1, h2, h3, h4⟩ := h
  have k1 : ∀ (j : Nat) (c : Array Value) (ty : TypeId), ty ≠ 5 → w.heap[j]? = some (.cells c ty (0, 0)) → w'.heap[j]? = some (.cells c ty (0, 0)) := fun j c ty t1 hj => (hr.block (lt_of_block hj) (h4.ne hj t1)).trans hj
  have h3' := k1 _ _ _ (by decide) h3
  have hk : Kept (fun j => j = P) w' (w'.setCell ⟨P, 1, none⟩ v') := Kept.setCell (F := fun j => j = P) (g := P) (Kept.refl _ _) _ rfl
  have kp : Kp w (w'.setCell ⟨P, 1, none⟩ v') := fun j o hf hj => by
    have hj' := (hr.block (lt_of_block hj) (h4.ne_free hj hf)).trans hj
    exact (hk.block j (lt_of_block hj') (fun e => by subst e; rw [h3'] at hj'; cases hj'; simp [free] at hf)).trans hj'
  refine ⟨⟨h1, kp.at (by decide) (by decide) h2, by simpa using set_one_cell h3' (o := 1) v', ownsRow_same hb fun g hg => hk.block g (hb.lt g hg).2 (fun e => by subst e; exact hb.ne h3' (by decide) hg)⟩, kp, (hr.below hB fun g hg => (h4.base g hg).1).setCell (p := ⟨P, 1, none⟩) h1 _⟩

set_option maxRecDepth 100000 in
set_option maxHeartbeats 1600000 in
theorem writeString_any (B P q : Nat) (l : List UInt8) (s : ByteArray) (w : World) (h : Pr w B P q l) (hB : B ≤ w.heap.size) (hl : l.length + s.size ≤ 140737488355328) :
    Calls Try.prog 45 #[.pointer (some ⟨P, 0, none⟩), .string s] w fun e w' => e = .returned (.tuple #[.int .i64 s.size, .nilIface]) ∧ Pr w' B P q (l ++ s.toList) ∧ Kp w w' ∧ Below B w w' := by
  have C0 : Hid (Calls Try.prog 55 #[.pointer (some ⟨P, 0, none⟩)] w _) := copyCheck_any B P q l w h
  clear h
  go_enter Try.func45, Try.ntmps45
  go_wp2_with fail
  refine C0.out.mono ?_
  rintro e w1 ⟨rfl, ⟨v1, hv1⟩, hk1, hb1⟩
  obtain ⟨x0, x1, -, f0, f1, -⟩ := three_cells hv1.2.2.1
  have HV : Hid (PrV w1 B P q (.pointer (some ⟨P, 0, none⟩)) v1 l) := hv1
  have hB1 : B ≤ w1.heap.size := Nat.le_trans hB hb1.size
  have HK : Hid (Kp w w1) := hk1
  have HB : Hid (Below B w w1) := hb1
  have HS : Hid (Bs w1 B v1 l) := hv1.2.2.2
  clear hv1 hk1 hb1 C0
  go_wp2_with (at_builtin; refine wpList_apps _ rfl _ _ rfl B _ l s rfl HS.out rfl hl hB1 ?_)
  intro v2 w2 q1 q2
  obtain ⟨a2, c2, hv2⟩ := q1.shape
  generalize (l ++ s.toList).length = n2 at hv2
  subst hv2
  have hw2 := HV.out.put q1 q2 hB1
  obtain ⟨y0, y1, -, g0, g1, -⟩ := three_cells ((q2.block (lt_of_block HV.out.2.2.1) (HV.out.2.2.2.ne HV.out.2.2.1 (by decide))).trans HV.out.2.2.1)
  have HW : Hid (_ ∧ _ ∧ _) := hw2
  clear hw2 q1 q2
  go_wp2_with fail
  go_ret2
  exact ⟨rfl, ⟨_, _, Or.inr rfl, HW.out.1⟩, HK.out.trans HW.out.2.1, HB.out.trans HW.out.2.2⟩

/-- Texts one behind the other. -/
def catB : List ByteArray → List UInt8
  | [] => []
  | s :: r => s.toList ++ catB r
theorem catB_append (a b : List ByteArray) : catB (a ++ b) = catB a ++ catB b := by
  induction a with
  | nil => rfl
  | cons x r ih => simp [catB, ih]

set_option maxRecDepth 100000 in
set_option maxHeartbeats 1600000 in
theorem put_any (B P q b : Nat) (l : List UInt8) (ss : List ByteArray) (w : World) (h : Pr w B P q l) (hB : B ≤ w.heap.size) (hl : l.length + (catB ss).length ≤ 1000000000) (hn : ss.length ≤ 100) (hs : w.heap[b]? = some (.cells (ss.map Value.string).toArray 9 (0, 0))) :
    Calls Try.prog 32 #[.pointer (some ⟨P, 0, none⟩), .slice (some ⟨b, 0, none⟩) ss.length ss.length] w fun e w' => e = .returned (.tuple #[]) ∧ Pr w' B P q (l ++ catB ss) ∧ Kp w w' ∧ Below B w w' := by
  have HP : Hid (Pr w B P q l) := h
  have HS : Hid (w.heap[b]? = some (.cells (ss.map Value.string).toArray 9 (0, 0))) := hs
  clear h hs
  have HL : Hid (l.length + (catB ss).length ≤ 1000000000) := hl
  clear hl
  go_enter Try.func32, Try.ntmps32
  go_wp2_with fail
  go_loopw [8] (fun i wr => ∃ m : Nat, m ≤ ss.length ∧ i = .int .i64 m ∧ Hid (Pr wr B P q (l ++ catB (ss.take m))) ∧ Hid (Kp w wr) ∧ Hid (Below B w wr)) (fun i _ => ss.length - (intOf i).toNat)
  case atStart => exact ⟨0, Nat.zero_le _, rfl, by show Pr _ _ _ _ _; simpa [catB] using HP.out, Kp.refl _, Below.refl _ _⟩
  case round =>
    obtain ⟨m, hm, rfl, HR, HK, HW⟩ := hrel
    by_cases hlt : m < ss.length
    · have hm1 : (m : Int) < (ss.length : Int) := by omega
      have q0 : wr.cell? ⟨b, m, none⟩ = some (.string ss[m]) := by
        have := (cell_of (HK.out.at (by decide) (by decide) HS.out) m).1
        rw [this]
        simp [hlt]
      have HT : Hid (catB (ss.take (m + 1)) = catB (ss.take m) ++ ss[m].toList) := by
        show _ = _
        rw [List.take_succ_eq_append_getElem hlt, catB_append]
        simp [catB]
      have HLE : Hid ((catB (ss.take (m + 1))).length ≤ (catB ss).length) := by
        show _ ≤ _
        conv => rhs; rw [← List.take_append_drop (m + 1) ss, catB_append, List.length_append]
        omega
      have hle := HLE.out
      rw [HT.out, List.length_append] at hle
      have hts : ss[m].toList.length = ss[m].size := toList_length _
      have hl := HL.out
      obtain ⟨p, v, hp, hv⟩ := HR.out
      obtain ⟨x0, x1, -, -, -, -⟩ := three_cells hv.2.2.1
      have CW : Hid (Calls Try.prog 45 #[.pointer (some ⟨P, 0, none⟩), .string ss[m]] wr _) := writeString_any B P q _ ss[m] wr HR.out (Nat.le_trans hB HW.out.size) (by rw [List.length_append]; omega)
      clear hp hv hle hts hl HLE
      generalize ss[m] = sm at *
      go_wp2_with (refine CW.out.mono ?_; rintro e w1 ⟨rfl, h1, h2, h3⟩)
      go_roundw
      case rel => exact ⟨m + 1, by omega, by go_num, by rw [HT.out, ← List.append_assoc]; exact h1, HK.out.trans h2, HW.out.trans h3⟩
      case measure => simp [intOf]; omega
    · have hme : m = ss.length := by omega
      subst hme
      have h1 := HR.out
      rw [List.take_length] at h1
      have HE : Hid (Pr wr B P q (l ++ catB ss)) := h1
      clear h1
      go_wp2_with fail
      go_end0
      exact ⟨rfl, HE.out, HK.out, HW.out⟩
end Go.Proofs.Ytoheppocolbjkaa
