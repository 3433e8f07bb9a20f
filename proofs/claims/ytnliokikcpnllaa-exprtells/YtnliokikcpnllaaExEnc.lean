/-
  Appends at the operation; a number's octets; the octets of one part.
-/
import Derived.Test.YtnliokikcpnllaaExMath
import Derived.Test.YtnliokikcpnllaaOcOcts
import Derived.Test.YtnliokikcpnllaaOcApps
import Derived.Test.YtnliokikcpnllaaRgTill
namespace Go.Proofs.Ytnliokikcpnllaa
open Go.ChangeShapes Go.WideShapes Go.ChangeAt Go.RowKit Go.Deep
open Fl

/-- append of octets that lie somewhere, at the operation. -/
theorem op_app {o : Oper} {d : Option Tmp} (hd : o.dst = d) {a : Act} {w : World} {K : Act → World → Prop} {Q : Exit → Act → World → Prop} (hgd : o.guard = none) (sl x : Operand)
    (ho : o.op = .call { callee := .builtin .append, args := #[sl, x], argTypes := #[26, 26] })
    (B : Nat) (s : Value) (l m : List UInt8) (hs : a.eval sl = s) (hown : Bs w B s l) (ad : Addr) (c : Nat) (hx : a.eval x = .slice (some ad) m.length c)
    (hnews : ∀ j u, m[j]? = some u → w.cell? (ad.add j) = some (.int .u8 (u.toNat : Int))) (hlen : l.length + m.length ≤ 140737488355328) (hbase : B ≤ w.heap.size)
    (h : ∀ s' w', Bs w' B s' (l ++ m) → RowTo w w' s s' → K (a.put d s') w') : Oper.wp Try.prog o a w K Q := by
  subst hd
  have hw : Region.wanted o (yielded #[] a.tmps) = true := by simp [Region.wanted, hgd]
  have := step_app (ops := #[]) (E := True) (Q := Q) hgd sl x ho B s l m hs hown ad c hx hnews hlen hbase h
  rwa [if_pos hw] at this

/-- append of a text's octets to a row that is not empty, at the operation. -/
theorem op_apps {o : Oper} {d : Option Tmp} (hd : o.dst = d) {a : Act} {w : World} {K : Act → World → Prop} {Q : Exit → Act → World → Prop} (sl x : Operand)
    (ho : o.op = .call { callee := .builtin .append, args := #[sl, x], argTypes := #[26, 9] })
    (B : Nat) (s : Value) (l : List UInt8) (t : ByteArray) (hs : a.eval sl = s) (hown : Bs w B s l) (hx : a.eval x = .string t) (hne : 0 < l.length)
    (hlen : l.length + t.size ≤ 140737488355328) (hbase : B ≤ w.heap.size)
    (h : ∀ s' w', Bs w' B s' (l ++ t.toList) → RowTo w w' s s' → K (a.put d s') w') : Oper.wp Try.prog o a w K Q := by
  subst hd
  obtain ⟨i0, hi, hz0, hz1, hz2⟩ := info_parts Try.infoU8
  have hmax : l.length + t.size ≤ maxLen := by unfold maxLen; omega
  have fin : ∀ {w' : World} {v' : Value} {B' : Nat}, w'.ownsRow B' 5 1 v' (l.length + t.size) (cellsO l ++ Go.Lib.strCells t) → Bs w' B' v' (l ++ t.toList) := by
    intro w' v' B' q
    unfold Bs
    rw [List.length_append, toList_length, cellsO_append, ← strCells_eq]
    exact q
  obtain ⟨l0, hcase⟩ := hown
  rcases hcase with ⟨rfl, hl0⟩ | ⟨g, cap, cur, rfl, hg, hh, hnc, r⟩
  · exact absurd hl0 (by omega)
  · have hown : w.ownsRow B 5 1 (.slice (some ⟨g, 0, none⟩) l.length cap) l.length (cellsO l) := ⟨l0, Or.inr ⟨g, cap, cur, rfl, hg, hh, hnc, r⟩⟩
    by_cases hroom : l.length + t.size ≤ cap
    · obtain ⟨hcm, hcs, htake⟩ := r
      have hcs' : cur.size = cap := by simpa using hcs
      have hr := Go.Lib.run_append_room_string (P := Try.prog) w 26 9 o.type 5 i0 Try.underlying26 Try.underlying9 hi hz1 g l.length cap cur hh t hroom (by omega)
      unfold Oper.wp execOp
      simp only [ho, resolve, invoke, builtin, Sem.run_bind, Sem.run_pure, Result.andThen_ok, List.map_toArray, List.map_cons, List.map_nil, hs, hx, hr]
      have hl2 : (cellsO l ++ Go.Lib.strCells t).length = (l.length + t.size) * 1 := by rw [List.length_append, cellsO_length, Go.Lib.strCells_length]; omega
      refine (h _ _ (fin ⟨hl2, .inr ⟨g, cap, _, rfl, hg, setRow_heap w g cur _ 5 _ hh, hroom, hcm, ?_, ?_⟩⟩) ⟨⟨rfl, rfl, rfl, by simp, fun k _ hk => setRow_other w g k _ (fun e => hk (by simp [Value.ownBlock, e]))⟩, Or.inl rfl⟩)
      · simp only [List.size_toArray, List.length_append, List.length_take, List.length_drop, Array.length_toList, Go.Lib.strCells_length]
        omega
      · have ht' : cur.toList.take l.length = cellsO l := by simpa using htake
        rw [ht', ← hl2]
        exact List.take_left
    · have hr := Go.Lib.run_append_grow_string (P := Try.prog) w 26 9 o.type 5 i0 _ Try.underlying26 Try.underlying9 hi hz0 ⟨g, 0, none⟩ l.length cap (cellsO l) (by rw [hz1, cellsO_length]; omega) (hown.cells (g := g) rfl) t (by omega) (by unfold maxLen at hmax; omega) (by rw [hz2]; exact growslice_fits (by omega) (by omega))
      unfold Oper.wp execOp
      simp only [ho, resolve, invoke, builtin, Sem.run_bind, Sem.run_pure, Result.andThen_ok, List.map_toArray, List.map_cons, List.map_nil, hs, hx, hr]
      refine (h _ _ (fin ?_) ⟨?_, Or.inr fun g' hg' => ?_⟩)
      · have hge := grownCap_ge w (l.length + t.size) cap 5
        have hcm := grownCap_le_maxLen w (l.length + t.size) cap 5 hmax
        refine ⟨by rw [List.length_append, cellsO_length, Go.Lib.strCells_length]; omega, Or.inr ⟨w.heap.size, _, _, rfl, hbase, heap_alloc_new w.drew _, hge, hcm, ?_, ?_⟩⟩
        · have hz1 : (Value.int IntKind.u8 0).cells.size = 1 := rfl
          simp only [Array.size_append, List.size_toArray, size_zeroCells, hz1, cellsO_length, Go.Lib.strCells_length]
          omega
        · simp only [Array.toList_append]
          rw [show (l.length + t.size) * 1 = (cellsO l ++ Go.Lib.strCells t).length by rw [List.length_append, cellsO_length, Go.Lib.strCells_length]; omega]
          exact List.take_left
      · exact ⟨rfl, rfl, rfl, by simp, fun k hk _ => heap_alloc_old' w.drew _ k hk⟩
      · simp only [Value.ownBlock, Option.some.injEq] at hg'; omega

set_option maxRecDepth 100000 in
set_option maxHeartbeats 1600000 in
theorem bitsX_any (b : Int) (s : Value) (l : List UInt8) (B : Nat) (w : World) (hs : Bs w B s l) (hB : B ≤ w.heap.size) (hlen : l.length + 8 ≤ 1000000) (hU : U b) :
    Calls Try.prog 43 #[s, .int .u64 b] w fun e w' => ∃ s', e = .returned s' ∧ Bs w' B s' (l ++ octs b) ∧ RowTo w w' s s' := by
  have HS : Hid (Bs w B s l) := hs
  have HU : Hid (0 ≤ b) := hU.1
  clear hs hU
  go_enter Try.func43, Try.ntmps43
  go_wp2_with fail
  go_loopw [0, 6] (fun v i wr => ∃ (m : Nat), m ≤ 8 ∧ i = .int .i64 m ∧ Hid (Bs wr B v (l ++ (octs b).take m)) ∧ Hid (RowTo w wr s v)) (fun _ i _ => 8 - (intOf i).toNat)
  case atStart => exact ⟨0, by omega, rfl, (by show Bs _ _ _ _; simpa using HS.out), RowTo.refl _ _⟩
  case round =>
    obtain ⟨m, hm, rfl, HR, HT⟩ := hrel
    by_cases hlt : m < 8
    · have hm1 : (m : Int) < 8 := by omega
      have hsz := HT.out.grown.size
      have e1 : ((8 : Int) * (7 - (m : Int))).toNat = 8 * (7 - m) := by omega
      go_wp2_with (at_builtin; refine wpList_app _ rfl _ _ rfl B _ (l ++ (octs b).take m) [oct b m] rfl ?d0 ⟨wr.heap.size, 0, none⟩ 1 rfl ?d1 ?d2 ?d3 ?_)
      case d0 => exact HR.out.below (below_one _ _)
      case d1 => exact new_octets wr _ _ _ (by simp [cellsO, oct_val HU.out])
      case d2 => have := List.length_take_le m (octs b); simp only [List.length_append, List.length_singleton]; omega
      case d3 => simp; omega
      · intro s1 w1 h1 h2
        have R1 : Hid (RowTo w w1 s s1) := HT.out.trans (h2.pre (below_one _ _))
        have H1 : Hid (Bs w1 B s1 (l ++ (octs b).take (m + 1))) := by
          show Bs _ _ _ _
          rw [octs_take hlt]
          exact h1
        clear h1 h2
        go_wp2_with fail
        go_roundw
        case rel => exact ⟨m + 1, by omega, by go_num, H1.out, R1.out⟩
        case measure => simp [intOf]; omega
    · have hme : m = 8 := by omega
      subst hme
      go_wp2_with fail
      go_ret
      refine ⟨_, rfl, ?_, HT.out⟩
      have := HR.out
      rw [List.take_of_length_le (by rw [octs_length]; omega)] at this
      exact this
end Go.Proofs.Ytnliokikcpnllaa
