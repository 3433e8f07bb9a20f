/-
  A box's octets, as mathematics; the program's appendNumber.
-/
import Derived.Test.YtfdbhojghkdlkaaJ8
import Derived.Test.YtfdbhojghkdlkaaJ10
namespace Go.Proofs.Ytfdbhojghkdlkaa
open Go.ChangeShapes Go.WideShapes Go.ChangeAt Go.RowKit
open Fl

/-- A number in so many octets, the highest first. -/
def octK (k : Nat) (b : Int) (i : Nat) : UInt8 := UInt8.ofNat (b.toNat / 2 ^ (8 * (k - 1 - i)))
def octsK (k : Nat) (b : Int) : List UInt8 := (List.range k).map (octK k b)
theorem octsK_length (k : Nat) (b : Int) : (octsK k b).length = k := by simp [octsK]
theorem octsK_eight (b : Int) : octsK 8 b = octs b := rfl
theorem octsK_take {k : Nat} {b : Int} {m : Nat} (h : m < k) : (octsK k b).take (m + 1) = (octsK k b).take m ++ [octK k b m] := by
  have hl : m < (octsK k b).length := by rw [octsK_length]; exact h
  rw [List.take_succ_eq_append_getElem hl]
  simp [octsK]

theorem octK_val {k : Nat} {b : Int} (h0 : 0 ≤ b) (m : Nat) : b / 2 ^ (8 * (k - 1 - m)) % 256 = ((octK k b m).toNat : Int) := by
  obtain ⟨n, rfl⟩ : ∃ n : Nat, b = n := ⟨b.toNat, by omega⟩
  simp only [octK, Int.toNat_natCast, UInt8.toNat_ofNat']
  generalize 8 * (k - 1 - m) = j
  rw [Int.natCast_emod, Int.natCast_ediv, Int.natCast_pow]
  rfl

/-- An item's octets; a box's. -/
def encI {n : Nat} (u : Tm n) : List UInt8 := octs u.1 ++ (txt u.2.1 ++ enc n u.2.2)
def encIs {n : Nat} : List (Tm n) → List UInt8
  | [] => []
  | u :: r => encI u ++ encIs r
theorem encIs_append {n : Nat} (a b : List (Tm n)) : encIs (a ++ b) = encIs a ++ encIs b := by
  induction a with
  | nil => rfl
  | cons u r ih => simp [encIs, ih]
theorem encIs_take {n : Nat} (l : List (Tm n)) (m : Nat) (h : m < l.length) : encIs (l.take (m + 1)) = encIs (l.take m) ++ encI l[m] := by
  rw [List.take_succ_eq_append_getElem h, encIs_append]
  simp [encIs]
def encB {n : Nat} (L : Int) (its : List (Tm n)) : List UInt8 := octs L ++ (octsK 2 (its.length : Int) ++ encIs its)

set_option maxRecDepth 100000 in
set_option maxHeartbeats 1600000 in
theorem appNum_any (k : Nat) (hk : k = 8 ∨ k = 2) (b : Int) (s : Value) (l : List UInt8) (B : Nat) (w : World) (hs : Bs w B s l) (hB : B ≤ w.heap.size) (hl : l.length ≤ 1000000000) (h0 : 0 ≤ b) :
    Calls Try.prog 16 #[s, .int .i64 b, .int .i64 k] w fun e w' => ∃ s', e = .returned s' ∧ Bs w' B s' (l ++ octsK k b) ∧ RowTo w w' s s' := by
  have HS : Hid (Bs w B s l) := hs
  clear hs
  have hk1 : 1 ≤ k ∧ k ≤ 8 := by omega
  obtain ⟨hk1, hk2⟩ := hk1
  go_enter Try.func16, Try.ntmps16
  go_wp2_with fail
  go_loopw [0, 7] (fun v i wr => ∃ (m : Nat), m ≤ k ∧ i = .int .i64 (8 * ((k : Int) - 1 - (m : Int))) ∧ Hid (Bs wr B v (l ++ (octsK k b).take m)) ∧ Hid (RowTo w wr s v)) (fun _ i _ => (intOf i + 8).toNat)
  case atStart => exact ⟨0, Nat.zero_le _, by go_num, (by show Bs _ _ _ _; simpa using HS.out), RowTo.refl _ _⟩
  case round =>
    obtain ⟨m, hm, rfl, HR, HT⟩ := hrel
    have hsz := HT.out.grown.size
    by_cases hlt : m < k
    · have hm1 : (0 : Int) ≤ 8 * ((k : Int) - 1 - (m : Int)) := by omega
      have hm2 : 8 * ((k : Int) - 1 - (m : Int)) ≤ 56 := by omega
      have e1 : (8 * ((k : Int) - 1 - (m : Int))).toNat = 8 * (k - 1 - m) := by omega
      go_wp2_with (at_builtin; refine wpList_app _ rfl _ _ rfl B _ (l ++ (octsK k b).take m) [octK k b m] rfl ?d0 ⟨wr.heap.size, 0, none⟩ 1 rfl ?d1 ?d2 ?d3 ?_)
      case d0 => exact HR.out.below (below_one _ _)
      case d1 => exact new_octets wr _ _ _ (by simp [cellsO, octK_val h0])
      case d2 => have := List.length_take_le m (octsK k b); simp only [List.length_singleton, List.length_append]; omega
      case d3 => simp; omega
      intro s1 w1 q1 q2
      have R1 : Hid (RowTo w w1 s s1) := HT.out.trans (q2.pre (below_one _ _))
      have H1 : Hid (Bs w1 B s1 (l ++ (octsK k b).take (m + 1))) := by
        show Bs _ _ _ _
        rw [octsK_take hlt]
        exact q1
      clear q1 q2
      go_wp2_with fail
      go_roundw
      case rel => exact ⟨m + 1, by omega, by go_num, H1.out, R1.out⟩
      case measure => simp [intOf]; omega
    · have hme : m = k := by omega
      subst hme
      have hd : decide ((0 : Int) ≤ 8 * ((m : Int) - 1 - (m : Int))) = false := decide_eq_false (by omega)
      go_wp2_with fail
      go_ret
      refine ⟨_, rfl, ?_, HT.out⟩
      have := HR.out
      rw [List.take_of_length_le (by rw [octsK_length]; omega)] at this
      exact this
end Go.Proofs.Ytfdbhojghkdlkaa

/-
  CopyBytes and Spoil.
-/
namespace Go.Proofs.Ytfdbhojghkdlkaa
open Go.ChangeShapes Go.WideShapes Go.ChangeAt Go.RowKit
open Fl

/-- append of octets that came from somewhere, or of none. -/
theorem wpList_appO (w : World) {ops : Array Oper} {rest : List Oper} {o : Oper} {a : Act} {Q : Exit → Act → World → Prop} (hgd : o.guard = none) (sl x : Operand)
    (ho : o.op = .call { callee := .builtin .append, args := #[sl, x], argTypes := #[25, 25] })
    (B : Nat) (s : Value) (l m : List UInt8) (hs : a.eval sl = s) (hown : Bs w B s l) (ao : Option Addr) (c : Nat) (hx : a.eval x = .slice ao m.length c) (hm : Oct w ao c m) (hlen : l.length + m.length ≤ 140737488355328) (hbase : B ≤ w.heap.size)
    (h : ∀ s' w', Bs w' B s' (l ++ m) → RowTo w w' s s' → wpList Try.prog ops Q rest (a.put o.dst s') w') : wpList Try.prog ops Q (o :: rest) a w := by
  obtain ⟨i0, hi, hz0, hz1, hz2⟩ := info_parts Try.infoU8
  refine wpList_append_apart w hgd sl x 25 ho B 5 i0 _ 1 1 Try.underlying25 hi hz0 hz1 hz2 rfl (by decide) s l.length (cellsO l) hs hown ao m.length c (cellsO m) hx (fun e => by have h1 := hm.2.2.2.2.1 e; have h2 := hm.2.1; omega) (by rw [cellsO_length]; omega) ?_ (one_cells m) (by unfold maxLen; omega) (by omega) hbase ?_
  · intro ad' e j u hj
    subst e
    simp only [cellsO, List.getElem?_map, Option.map_eq_some_iff] at hj
    obtain ⟨o', ho', rfl⟩ := hj
    obtain ⟨b, off, e, hc⟩ := hm.1 j o' ho'
    cases e
    rw [add_plain]
    exact hc
  · intro v' w' h1 h2 h3
    refine h v' w' ?_ ⟨h2, h3⟩
    unfold Bs
    rw [List.length_append, cellsO_append]
    exact h1

/-- How far append grows. -/
theorem next_sharp {need old : Nat} (h : old < need) : Builtin.nextslicecap need old ≤ need + need / 4 + 768 := by
  unfold Builtin.nextslicecap
  split
  · omega
  · split
    · omega
    · rw [growBy_four]
      repeat' split
      all_goals omega

/-- append of many octets. -/
theorem wpList_appL (w : World) {ops : Array Oper} {rest : List Oper} {o : Oper} {a : Act} {Q : Exit → Act → World → Prop} (hgd : o.guard = none) (sl x : Operand)
    (ho : o.op = .call { callee := .builtin .append, args := #[sl, x], argTypes := #[25, 25] })
    (B : Nat) (s : Value) (l m : List UInt8) (hs : a.eval sl = s) (hown : Bs w B s l) (ao : Option Addr) (c : Nat) (hx : a.eval x = .slice ao m.length c) (hm : Oct w ao c m) (hlen : l.length + m.length ≤ 150000000000000) (hbase : B ≤ w.heap.size)
    (h : ∀ s' w', Bs w' B s' (l ++ m) → RowTo w w' s s' → wpList Try.prog ops Q rest (a.put o.dst s') w') : wpList Try.prog ops Q (o :: rest) a w := by
  by_cases hsmall : l.length + m.length ≤ 140737488355328
  · exact wpList_appO w hgd sl x ho B s l m hs hown ao c hx hm hsmall hbase h
  obtain ⟨i0, hi, hz0, hz1, hz2⟩ := info_parts Try.infoU8
  have hmax : l.length + m.length ≤ maxLen := by unfold maxLen; omega
  have fin : ∀ {w' : World} {v' : Value} {B' : Nat}, w'.ownsRow B' 5 1 v' (l.length + m.length) (cellsO l ++ cellsO m) → Bs w' B' v' (l ++ m) := by
    intro w' v' B' q
    unfold Bs
    rw [List.length_append, cellsO_append]
    exact q
  cases ao with
  | none =>
    have hc := hm.2.2.2.2.1 rfl
    have hml : m.length = 0 := by have := hm.2.1; omega
    have hm0 : m = [] := List.eq_nil_of_length_eq_zero hml
    subst hm0 hc
    refine wpList_append_own_none hgd sl x 25 ho B 5 i0 1 Try.underlying25 hi s l.length (cellsO l) hs hown hx ?_
    exact h s w (by rw [List.append_nil]; exact hown) (RowTo.refl _ _)
  | some ad =>
    have hnews : ∀ j u, (cellsO m)[j]? = some u → w.cell? (ad.add j) = some u := by
      intro j u hj
      simp only [cellsO, List.getElem?_map, Option.map_eq_some_iff] at hj
      obtain ⟨o', ho', rfl⟩ := hj
      obtain ⟨b, off, e, hc⟩ := hm.1 j o' ho'
      cases e
      rw [add_plain]
      exact hc
    have hl2 : (cellsO l ++ cellsO m).length = (l.length + m.length) * 1 := by rw [List.length_append, cellsO_length, cellsO_length]; omega
    have grown : ∀ (old : Nat), old < l.length + m.length →
        (w.drew.alloc (.cells ((cellsO l).toArray ++ (cellsO m).toArray ++ Builtin.zeroCells (Value.int .u8 0).cells (grownCap w (l.length + m.length) old 5 - (l.length + m.length))) 5)).ownsRow B 5 1
          (.slice (some ⟨w.heap.size, 0, none⟩) (l.length + m.length) (grownCap w (l.length + m.length) old 5)) (l.length + m.length) (cellsO l ++ cellsO m) := by
      intro old hold
      have hge := grownCap_ge w (l.length + m.length) old 5
      have hcm := grownCap_le_maxLen w (l.length + m.length) old 5 hmax
      refine ⟨hl2, Or.inr ⟨w.heap.size, _, _, rfl, hbase, heap_alloc_new w.drew _, hge, hcm, ?_, ?_⟩⟩
      · have hz1 : (Value.int IntKind.u8 0).cells.size = 1 := rfl
        simp only [Array.size_append, List.size_toArray, size_zeroCells, hz1, cellsO_length]
        omega
      · simp only [Array.toList_append]
        rw [← hl2]
        exact List.take_left
    obtain ⟨l0, hcase⟩ := hown
    rcases hcase with ⟨rfl, hl0⟩ | ⟨g, cap, cur, rfl, hg, hh, hnc, r⟩
    · have hnil : l = [] := List.eq_nil_of_length_eq_zero hl0
      subst hnil
      have hr := run_append_nil (P := Try.prog) w 25 o.type 5 i0 _ Try.underlying25 hi hz0 ad m.length c (cellsO m) (by rw [hz1, cellsO_length]; omega) hnews (by simp at hsmall; omega) (by simp at hlen; omega) (by rw [hz2]; simp at hlen; omega)
      have hgr := grown 0 (by simp at hsmall ⊢; omega)
      simp only [List.length_nil, Nat.zero_add, cellsO, List.map_nil, List.nil_append, Array.empty_append] at hgr
      refine wpList_plain hgd fun K hK => ?_
      unfold Oper.wp execOp
      simp only [ho, resolve, invoke, builtin, Sem.run_bind, Sem.run_pure, Result.andThen_ok, List.map_toArray, List.map_cons, List.map_nil, hs, hx, hr]
      refine hK _ _ (h _ _ (fin (by simpa [cellsO] using hgr)) ⟨⟨rfl, rfl, rfl, by simp, fun k hk _ => heap_alloc_old' w.drew _ k hk⟩, Or.inr fun g' hg' => ?_⟩)
      simp only [Value.ownBlock, Option.some.injEq] at hg'; omega
    · have hown : w.ownsRow B 5 1 (.slice (some ⟨g, 0, none⟩) l.length cap) l.length (cellsO l) := ⟨l0, Or.inr ⟨g, cap, cur, rfl, hg, hh, hnc, r⟩⟩
      by_cases hroom : l.length + m.length ≤ cap
      · obtain ⟨hcm, hcs, htake⟩ := r
        have hcs' : cur.size = cap := by simpa using hcs
        have hr := run_append_room (P := Try.prog) w 25 o.type 5 i0 Try.underlying25 hi g l.length cap cur hh ad m.length c (cellsO m) (by rw [hz1, cellsO_length]; omega) hnews (one_cells m) hroom (by rw [hz1, cellsO_length]; omega)
        rw [hz1] at hr
        refine wpList_plain hgd fun K hK => ?_
        unfold Oper.wp execOp
        simp only [ho, resolve, invoke, builtin, Sem.run_bind, Sem.run_pure, Result.andThen_ok, List.map_toArray, List.map_cons, List.map_nil, hs, hx, hr]
        refine hK _ _ (h _ _ (fin ⟨hl2, .inr ⟨g, cap, _, rfl, hg, setRow_heap w g cur _ 5 _ hh, hroom, hcm, ?_, ?_⟩⟩) ⟨⟨rfl, rfl, rfl, by simp, fun k _ hk => setRow_other w g k _ (fun e => hk (by simp [Value.ownBlock, e]))⟩, Or.inl rfl⟩)
        · simp only [List.size_toArray, List.length_append, List.length_take, List.length_drop, Array.length_toList, cellsO_length]
          omega
        · have ht' : cur.toList.take (l.length * 1) = cellsO l := htake
          rw [ht', ← hl2]
          exact List.take_left
      · have hr := run_append_grow (P := Try.prog) w 25 o.type 5 i0 _ Try.underlying25 hi hz0 ⟨g, 0, none⟩ l.length cap (cellsO l) (by rw [hz1, cellsO_length]; omega) (hown.cells (g := g) rfl) ad m.length c (cellsO m) (by rw [hz1, cellsO_length]; omega) hnews (by omega) (by omega) (by rw [hz2]; have := next_sharp (show cap < l.length + m.length by omega); omega)
        refine wpList_plain hgd fun K hK => ?_
        unfold Oper.wp execOp
        simp only [ho, resolve, invoke, builtin, Sem.run_bind, Sem.run_pure, Result.andThen_ok, List.map_toArray, List.map_cons, List.map_nil, hs, hx, hr]
        refine hK _ _ (h _ _ (fin (grown cap (by omega))) ⟨⟨rfl, rfl, rfl, by simp, fun k hk _ => heap_alloc_old' w.drew _ k hk⟩, Or.inr fun g' hg' => ?_⟩)
        simp only [Value.ownBlock, Option.some.injEq] at hg'; omega

set_option maxRecDepth 100000 in
theorem copyB_any (a : Option Addr) (c : Nat) (l : List UInt8) (w : World) (ho : Oct w a c l) (hl : l.length ≤ 140737488351232) :
    Calls Try.prog 5 #[.slice a l.length c] w fun e w' => ∃ s, e = .returned s ∧ Bs w' w.heap.size s l ∧ Below w.heap.size w w' := by
  have HO : Hid (Oct w a c l) := ho
  clear ho
  go_enter Try.func5, Try.ntmps5
  go_wp2_with (at_builtin; refine wpList_appO _ rfl _ _ rfl w.heap.size _ [] l rfl (Bs.nil _ _) a c rfl HO.out ?d0 ?d1 ?_)
  case d0 => simp; omega
  case d1 => exact Nat.le_refl _
  intro s w1 h1 h2
  have H1 : Hid (Bs w1 w.heap.size s l) := by show Bs _ _ _ _; simpa using h1
  have B1 : Hid (Below w.heap.size w w1) := h2.below (Nat.le_refl _) (fun g hg => by simp [Value.ownBlock] at hg)
  clear h1 h2
  go_wp2_with fail
  go_ret
  exact ⟨s, rfl, H1.out, B1.out⟩

end Go.Proofs.Ytfdbhojghkdlkaa
