/-
  The program's appendPart and Encode.
-/
import Derived.Test.YtfdbhojghkdlkaaJ5
namespace Go.Proofs.Ytfdbhojghkdlkaa
open Go.ChangeShapes Go.WideShapes Go.ChangeAt Go.RowKit
open Fl

theorem new_octets' (w : World) (t : TypeId) (m : List UInt8) (cs : Array Value) (g : Nat) (hg : g = w.heap.size) (h : cs.toList = cellsO m) : ∀ j u, m[j]? = some u → (w.alloc (.cells cs t)).cell? ((⟨g, 0, none⟩ : Addr).add j) = some (.int .u8 (u.toNat : Int)) := by
  subst hg
  exact new_octets w t m cs h

/-- append of octets, as one step. -/
theorem step_app {ops : Array Oper} {o : Oper} {a : Act} {w : World} {K : Act → World → Prop} {Q : Exit → Act → World → Prop} {E : Prop} (hg : o.guard = none) (sl x : Operand)
    (ho : o.op = .call { callee := .builtin .append, args := #[sl, x], argTypes := #[25, 25] })
    (B : Nat) (s : Value) (l m : List UInt8) (hs : a.eval sl = s) (hown : Bs w B s l) (ad : Addr) (c : Nat) (hx : a.eval x = .slice (some ad) m.length c)
    (hnews : ∀ j u, m[j]? = some u → w.cell? (ad.add j) = some (.int .u8 (u.toNat : Int))) (hlen : l.length + m.length ≤ 140737488355328) (hbase : B ≤ w.heap.size)
    (h : ∀ s' w', Bs w' B s' (l ++ m) → RowTo w w' s s' → K (a.put o.dst s') w') : if Region.wanted o (yielded ops a.tmps) = true then Oper.wp Try.prog o a w K Q else E := by
  obtain ⟨i0, hi, hz0, hz1, hz2⟩ := info_parts Try.infoU8
  refine step_append hg sl x 25 ho B 5 i0 _ 1 1 Try.underlying25 hi hz0 hz1 hz2 rfl (by decide) s l.length (cellsO l) hs hown ad m.length c (cellsO m) hx (by rw [cellsO_length]; omega) ?_ (one_cells m) (by unfold maxLen; omega) (by omega) hbase ?_
  · intro j u hj
    simp only [cellsO, List.getElem?_map, Option.map_eq_some_iff] at hj
    obtain ⟨o', ho', rfl⟩ := hj
    exact hnews j o' ho'
  · intro v' w' h1 h2 h3
    refine h v' w' ?_ ⟨h2, h3⟩
    unfold Bs
    rw [List.length_append, cellsO_append]
    exact h1

theorem RowTo.cell {w w' : World} {s s' : Value} (k : RowTo w w' s s') {g o : Nat} {v : Value} (hn : s.ownBlock ≠ some g) (h : w.cell? ⟨g, o, none⟩ = some v) : w'.cell? ⟨g, o, none⟩ = some v := by
  rw [World.cell?_of_block (k.block (lt_of_cell h) hn)]
  exact h

/-- A row of octets is no block of another type. -/
theorem Bs.ne {w : World} {B : Nat} {s : Value} {l : List UInt8} (h : Bs w B s l) {g : Nat} {cs : Array Value} {t : TypeId} {f : Nat × Nat} (hg : w.heap[g]? = some (.cells cs t f)) (ht : t ≠ 5) : s.ownBlock ≠ some g := by
  intro e
  obtain ⟨h1, h2⟩ := h
  rcases h2 with ⟨rfl, h3⟩ | ⟨g', cap, cur, rfl, _, hh, _⟩
  · simp [Value.ownBlock] at e
  · simp only [Value.ownBlock, Option.some.injEq] at e
    subst e
    rw [hg] at hh
    simp only [Option.some.injEq, Obj.cells.injEq] at hh
    exact ht hh.2.1

theorem below_drew_alloc (w : World) (o : Obj) : Below w.heap.size w (w.drew.alloc o) := ((Below.refl _ _).drew).alloc (by simp) o

set_option maxRecDepth 100000 in
set_option maxHeartbeats 6400000 in
theorem app_any (n : Nat) : ∀ (u : V n) (x : Value) (w0 w : World) (s : Value) (l : List UInt8), Lay w0 n x u → Below w0.heap.size w0 w → okV n u → Bs w w0.heap.size s l → l.length + (enc n u).length ≤ 1000000 →
    Calls Try.prog 34 #[s, x] w fun e w' => ∃ s', e = .returned s' ∧ Bs w' w0.heap.size s' (l ++ enc n u) ∧ RowTo w w' s s' := by
  induction n with
  | zero => intro u; exact u.elim
  | succ n ih =>
    rintro ⟨k, b, t, ks, its⟩ x w0 w s l ⟨ka, kc, ia, ic, rfl, hfit, nk, ni, hks, his⟩ hb0 ⟨hmay, hos⟩ hrow hlen
    have hU : U b := hfit.2.1
    have HROW : Hid (Bs w w0.heap.size s l) := hrow
    have HB0 : Hid (Below w0.heap.size w0 w) := hb0
    have hm := may_iff.1 hmay
    have HS : Hid (LayS w0 ka ks) := hks
    have HI : Hid (LayI w0 (Lay w0 n) ia its) := his
    have HOS : Hid (∀ u ∈ its, okV n u) := hos
    have hsz0 := hb0.size
    have hir := hfit.2.2.2.2.2.2.2.2
    have hkr := hfit.2.2.2.2.2.1
    have HN : Hid (s.ownBlock ≠ some w.heap.size) := fun e => by have := (hrow.base _ e).2; omega
    clear hks his hos hmay hrow hb0 nk ni hfit
    generalize hil : its.length = il at hm
    cases hm with
    | nothing =>
      have hE : enc (n + 1) (0, 0, ⟨#[]⟩, [], its) = [0] := by simp [enc]
      rw [hE] at hlen ⊢
      go_enter Try.func34, Try.ntmps34
      go_wp2_with (at_builtin; refine wpList_app _ rfl _ _ rfl w0.heap.size _ l [0] rfl ?d0 ⟨w.heap.size + 1, 0, none⟩ 1 rfl ?d1 ?d2 ?d3 ?_)
      case d0 => exact (HROW.out.below (below_one _ _)).below (below_one _ _)
      case d1 => exact new_octets' _ _ _ _ _ (by simp) (by simp [cellsO])
      case d2 => simp at hlen ⊢; omega
      case d3 => simp; omega
      · intro s1 w1 h1 h2
        go_wp2_with fail
        go_ret
        exact ⟨s1, rfl, h1, (h2.pre (below_one _ _)).pre (below_one _ _)⟩
    | truth b h =>
      have hE : enc (n + 1) (1, b, ⟨#[]⟩, [], its) = [UInt8.ofNat (1 + b.toNat)] := by simp [enc]
      rw [hE] at hlen ⊢
      have hb01 : b = 0 ∨ b = 1 := by have := hU.1; omega
      clear hE
      go_enter Try.func34, Try.ntmps34
      go_wp2_with (at_builtin; refine wpList_app _ rfl _ _ rfl w0.heap.size _ l [UInt8.ofNat (1 + b.toNat)] rfl ?d0 ⟨w.heap.size + 1, 0, none⟩ 1 rfl ?d1 ?d2 ?d3 ?_)
      case d0 => exact (HROW.out.below (below_one _ _)).below (below_one _ _)
      case d1 => exact new_octets' _ _ _ _ _ (by simp) (by rcases hb01 with rfl | rfl <;> simp [cellsO])
      case d2 => simp at hlen ⊢; omega
      case d3 => simp; omega
      · intro s1 w1 h1 h2
        go_wp2_with fail
        go_ret
        refine ⟨s1, rfl, ?_, (h2.pre (below_one _ _)).pre (below_one _ _)⟩
        simpa using h1
    | number b h =>
      have hE : enc (n + 1) (2, b, ⟨#[]⟩, [], its) = 3 :: octs b := by simp [enc]
      rw [hE] at hlen ⊢
      have HU : Hid (U b) := hU
      obtain rfl : its = [] := List.eq_nil_of_length_eq_zero hil
      clear hE hU h
      go_enter Try.func34, Try.ntmps34
      go_wp2_with fail
      have R1 : Hid (Bs (w.alloc (.cells #[.int .i64 2, .int .u64 b, .string ⟨#[]⟩, .slice ka 0 kc, .slice ia 0 ic] 50)) w0.heap.size s l) := HROW.out.below (below_one _ _)
      have B1 : Hid (Below w.heap.size w (w.alloc (.cells #[.int .i64 2, .int .u64 b, .string ⟨#[]⟩, .slice ka 0 kc, .slice ia 0 ic] 50))) := below_one _ _
      have X1 := (box_cells (heap_alloc_new w (.cells #[.int .i64 2, .int .u64 b, .string ⟨#[]⟩, .slice ka 0 kc, .slice ia 0 ic] 50))).2.1
      generalize w.alloc (.cells #[.int .i64 2, .int .u64 b, .string ⟨#[]⟩, .slice ka 0 kc, .slice ia 0 ic] 50) = W1 at *
      have XA : ∀ o, (W1.alloc o).cell? ⟨w.heap.size, 1, none⟩ = some (.int .u64 b) := fun o => keepc (below_one _ _) _ _ X1
      have hW1 := B1.out.size
      have hlen2 : l.length + 9 ≤ 1000000 := by simp only [List.length_cons, octs_length] at hlen; omega
      have hlen1 : l.length + 1 ≤ 140737488355328 := by omega
      go_region_law (first
        | (refine step_app rfl _ _ rfl w0.heap.size s l [3] (by simp [Act.eval]) (R1.out.below (below_drew_alloc _ _)) ⟨W1.heap.size, 0, none⟩ 1 (by simp [Act.eval]) (new_octets' _ _ _ _ _ (by simp) (by simp [cellsO])) hlen1 (by simp; omega) ?_; intro s1 w1 h1 h2; replace h2 := h2.pre (below_drew_alloc _ _); have c1 := h2.cell HN.out X1)
        | (refine step_call2 rfl 50 (by intros; go_simp) _ _ _ rfl s1 (.int .u64 b) (by simp [Act.eval]) (by simp [Act.eval]) (fun s2 w2 => Bs w2 w0.heap.size s2 (l ++ [3] ++ octs b) ∧ RowTo w1 w2 s1 s2) ((bits_any b s1 (l ++ [3]) w0.heap.size w1 h1 (by have := h2.grown.size; omega) (by simp; omega) HU.out).mono fun e w' ⟨s', q1, q2, q3⟩ => ⟨s', q1, q2, q3⟩) ?_; intro s2 w2 h3))
      all_goals
        obtain ⟨h3, h4⟩ := h3
        go_wp2_with fail
        go_ret
        refine ⟨s2, rfl, ?_, (h2.trans h4).pre B1.out⟩
        simpa using h3
    | text t h =>
      have hE : enc (n + 1) (3, 0, t, [], its) = 4 :: txt t := by simp [enc]
      rw [hE] at hlen ⊢
      have HT : Hid (t.size ≤ 128) := h
      obtain rfl : its = [] := List.eq_nil_of_length_eq_zero hil
      clear hE hU h
      go_enter Try.func34, Try.ntmps34
      go_wp2_with fail
      have R1 : Hid (Bs (w.alloc (.cells #[.int .i64 3, .int .u64 0, .string t, .slice ka 0 kc, .slice ia 0 ic] 50)) w0.heap.size s l) := HROW.out.below (below_one _ _)
      have B1 : Hid (Below w.heap.size w (w.alloc (.cells #[.int .i64 3, .int .u64 0, .string t, .slice ka 0 kc, .slice ia 0 ic] 50))) := below_one _ _
      have X1 := (box_cells (heap_alloc_new w (.cells #[.int .i64 3, .int .u64 0, .string t, .slice ka 0 kc, .slice ia 0 ic] 50))).2.2.1
      generalize w.alloc (.cells #[.int .i64 3, .int .u64 0, .string t, .slice ka 0 kc, .slice ia 0 ic] 50) = W1 at *
      have XA : ∀ o, (W1.alloc o).cell? ⟨w.heap.size, 2, none⟩ = some (.string t) := fun o => keepc (below_one _ _) _ _ X1
      have hW1 := B1.out.size
      have hlen2 : l.length + 1 + 1 + t.size ≤ 1000000 := by simp only [List.length_cons, txt, toList_length] at hlen; omega
      have hlen1 : l.length + 1 ≤ 140737488355328 := by omega
      go_region_law (first
        | (refine step_app rfl _ _ rfl w0.heap.size s l [4] (by simp [Act.eval]) (R1.out.below (below_drew_alloc _ _)) ⟨W1.heap.size, 0, none⟩ 1 (by simp [Act.eval]) (new_octets' _ _ _ _ _ (by simp) (by simp [cellsO])) hlen1 (by simp; omega) ?_; intro s1 w1 h1 h2; replace h2 := h2.pre (below_drew_alloc _ _); have c1 := h2.cell HN.out X1)
        | (refine step_call2 rfl 51 (by intros; go_simp) _ _ _ rfl s1 (.string t) (by simp [Act.eval]) (by simp [Act.eval]) (fun s2 w2 => Bs w2 w0.heap.size s2 (l ++ [4] ++ txt t) ∧ RowTo w1 w2 s1 s2) ((text_any t s1 (l ++ [4]) w0.heap.size w1 h1 (by have := h2.grown.size; omega) (by simp; omega)).mono fun e w' ⟨s', q1, q2, q3⟩ => ⟨s', q1, q2, q3⟩) ?_; intro s2 w2 h3))
      all_goals
        obtain ⟨h3, h4⟩ := h3
        go_wp2_with fail
        go_ret
        refine ⟨s2, rfl, ?_, (h2.trans h4).pre B1.out⟩
        simpa using h3
    | list _ h =>
      subst hil
      have hE : enc (n + 1) (4, 0, ⟨#[]⟩, [], its) = 5 :: UInt8.ofNat its.length :: (its.map (enc n)).flatten := by simp [enc, pcs]
      rw [hE] at hlen ⊢
      have hlen1 : l.length + 2 + (its.map (enc n)).flatten.length ≤ 1000000 := by simp only [List.length_cons] at hlen; omega
      clear hE hlen
      go_enter Try.func34, Try.ntmps34
      go_wp2_with (at_builtin; refine wpList_app _ rfl _ _ rfl w0.heap.size _ l [5, UInt8.ofNat its.length] rfl ?d0 ⟨w.heap.size + 1, 0, none⟩ 2 rfl ?d1 ?d2 ?d3 ?_)
      case d0 => exact (HROW.out.below (below_one _ _)).below (below_one _ _)
      case d1 => exact new_octets' _ _ _ _ _ (by simp) (by simp [cellsO]; omega)
      case d2 => simp; omega
      case d3 => simp; omega
      · intro s1 w1 h1 h2
        have X1 : Hid (w1.heap[w.heap.size]? = some (.cells #[.int .i64 4, .int .u64 0, .string ⟨#[]⟩, .slice ka 0 kc, .slice ia its.length ic] 50 (0, 0))) := by
          show _ = _
          rw [h2.block (by simp; omega) HN.out, Below.heap_alloc _ _ _ (by simp)]
          exact heap_alloc_new _ _
        have RT1 : Hid (RowTo w w1 s s1) := (h2.pre (below_one _ _)).pre (below_one _ _)
        have R1 : Hid (Bs w1 w0.heap.size s1 (l ++ [5, UInt8.ofNat its.length])) := h1
        obtain ⟨x0, x1, x2, x3, x4, -⟩ := box_cells X1.out
        clear h1 h2
        go_wp2_with fail
        go_loopw [0, 60] (fun v i wr => ∃ (m : Nat), m ≤ its.length ∧ i = .int .i64 m ∧ Hid (Bs wr w0.heap.size v (l ++ [5, UInt8.ofNat its.length] ++ ((its.map (enc n)).take m).flatten)) ∧ Hid (RowTo w wr s v) ∧
          Hid (wr.heap[w.heap.size]? = some (.cells #[.int .i64 4, .int .u64 0, .string ⟨#[]⟩, .slice ka 0 kc, .slice ia its.length ic] 50 (0, 0)))) (fun _ i _ => its.length - (intOf i).toNat)
        case atStart => exact ⟨0, Nat.zero_le _, rfl, (by show Bs _ _ _ _; simpa using R1.out), RT1.out, X1.out⟩
        case round =>
          obtain ⟨m, hm, rfl, HR, HRT, HX⟩ := hrel
          have BW : Hid (Below w0.heap.size w0 wr) := HB0.out.trans (HRT.out.below hsz0 fun g hg => (HROW.out.base g hg).1)
          by_cases hlt : m < its.length
          · have hm1 : (m : Int) < (its.length : Int) := by omega
            obtain ⟨bb, o, c0, c1, c2, c3, c4, rfl, q0, q1, q2, q3, q4, hl⟩ := HI.out m its[m] (by simp [hlt])
            have hq : bb < w0.heap.size := lt_of_cell q0
            rw [← BW.out.cell (by exact hq)] at q0 q1 q2 q3 q4
            obtain ⟨k5, b5, t5, ka5, kl5, kc5, ia5, il5, ic5, rfl, rfl, rfl, rfl, rfl⟩ := Lay.five n hl
            have HL : Hid (Lay w0 n (mk k5 b5 t5 ka5 kl5 kc5 ia5 il5 ic5) its[m]) := hl
            have HOK : Hid (okV n its[m]) := HOS.out _ (by simp)
            obtain ⟨e1, e2⟩ := flat_take (l := its.map (enc n)) (m := m) (e := enc n its[m]) (by simp [hlt])
            have E1 : Hid (((its.map (enc n)).take (m + 1)).flatten = ((its.map (enc n)).take m).flatten ++ enc n its[m]) := e1
            obtain ⟨x0, x1, x2, x3, x4, -⟩ := box_cells ((Below.heap_alloc wr (.cells #[.int .i64 k5, .int .u64 b5, .string t5, .slice ka5 kl5 kc5, .slice ia5 il5 ic5] 50) _ (lt_of_block HX.out)).trans HX.out)
            have hszr := lt_of_block HX.out
            have hwn : (m : Int) < (its.length : Int) := hm1
            clear hl e1
            go_wp2_with fail
            refine (ih its[m] _ w0 _ _ (l ++ [5, UInt8.ofNat its.length] ++ ((its.map (enc n)).take m).flatten) HL.out (BW.out.trans ((below_one _ _).mono BW.out.size)) HOK.out (HR.out.below (below_one _ _)) ?_).mono ?_
            · simp only [List.length_append, List.length_cons, List.length_nil]; omega
            rintro e w2 ⟨s2, rfl, h3, h4⟩
            have h5 := h4.pre (below_one wr _)
            have R3 : Hid (Bs w2 w0.heap.size s2 (l ++ [5, UInt8.ofNat its.length] ++ ((its.map (enc n)).take (m + 1)).flatten)) := by
              show Bs _ _ _ _
              rw [E1.out, ← List.append_assoc]
              exact h3
            have hn0 : u0.ownBlock ≠ some w.heap.size := HR.out.ne HX.out (by decide)
            have X3 : Hid (w2.heap[w.heap.size]? = some (.cells #[.int .i64 4, .int .u64 0, .string ⟨#[]⟩, .slice ka 0 kc, .slice (some ⟨bb, o, none⟩) its.length ic] 50 (0, 0))) := (h5.block (lt_of_block HX.out) hn0).trans HX.out
            have RT3 : Hid (RowTo w w2 s s2) := HRT.out.trans h5
            clear h3 h4 h5 hn0
            go_wp2_with fail
            go_roundw
            case rel => exact ⟨m + 1, by omega, by go_num, R3.out, RT3.out, X3.out⟩
            case measure => simp [intOf]; omega
          · have hme : m = its.length := by omega
            subst hme
            go_wp2_with fail
            go_ret
            refine ⟨_, rfl, ?_, HRT.out⟩
            have := HR.out
            rw [flat_all (by simp)] at this
            simpa using this
    | record _ h hk =>
      have hE : enc (n + 1) (5, 0, ⟨#[]⟩, ks, its) = 6 :: UInt8.ofNat its.length :: (List.zipWith (fun s e => txt s ++ e) ks (its.map (enc n))).flatten := by simp [enc, pcs]
      rw [hE] at hlen ⊢
      have hlen1 : l.length + 2 + (List.zipWith (fun s e => txt s ++ e) ks (its.map (enc n))).flatten.length ≤ 1000000 := by simp only [List.length_cons] at hlen; omega
      obtain ⟨pc, hpc⟩ : ∃ pc, pc = List.zipWith (fun s e => txt s ++ e) ks (its.map (enc n)) := ⟨_, rfl⟩
      have HPL : Hid (pc.length = ks.length) := by show _ = _; rw [hpc]; simp; omega
      have HPC : Hid (∀ m, (h1 : m < ks.length) → (h2 : m < its.length) → pc[m]? = some (txt ks[m] ++ enc n its[m])) := by
        intro m h1 h2
        rw [hpc, List.getElem?_zipWith, List.getElem?_eq_getElem h1, List.getElem?_map, List.getElem?_eq_getElem h2]
        rfl
      have HKS : Hid (∀ k ∈ ks, k.size ≤ 16) := rise_mem none ks (rise_of_keys hk)
      rw [← hpc] at hlen1 ⊢
      have HIL : Hid (its.length = ks.length) := hil
      rw [hil] at hir ⊢
      clear hpc hk hil
      clear hE hlen
      go_enter Try.func34, Try.ntmps34
      go_wp2_with (at_builtin; refine wpList_app _ rfl _ _ rfl w0.heap.size _ l [6, UInt8.ofNat ks.length] rfl ?d0 ⟨w.heap.size + 1, 0, none⟩ 2 rfl ?d1 ?d2 ?d3 ?_)
      case d0 => exact (HROW.out.below (below_one _ _)).below (below_one _ _)
      case d1 => exact new_octets' _ _ _ _ _ (by simp) (by simp [cellsO]; omega)
      case d2 => simp; omega
      case d3 => simp; omega
      · intro s1 w1 h1 h2
        have X1 : Hid (w1.heap[w.heap.size]? = some (.cells #[.int .i64 5, .int .u64 0, .string ⟨#[]⟩, .slice ka ks.length kc, .slice ia ks.length ic] 50 (0, 0))) := by
          show _ = _
          rw [h2.block (by simp; omega) HN.out, Below.heap_alloc _ _ _ (by simp)]
          exact heap_alloc_new _ _
        have RT1 : Hid (RowTo w w1 s s1) := (h2.pre (below_one _ _)).pre (below_one _ _)
        have R1 : Hid (Bs w1 w0.heap.size s1 (l ++ [6, UInt8.ofNat ks.length])) := h1
        obtain ⟨x0, x1, x2, x3, x4, -⟩ := box_cells X1.out
        clear h1 h2
        go_wp2_with fail
        go_loopw [0, 60] (fun v i wr => ∃ (m : Nat), m ≤ ks.length ∧ i = .int .i64 m ∧ Hid (Bs wr w0.heap.size v (l ++ [6, UInt8.ofNat ks.length] ++ (pc.take m).flatten)) ∧ Hid (RowTo w wr s v) ∧
          Hid (wr.heap[w.heap.size]? = some (.cells #[.int .i64 5, .int .u64 0, .string ⟨#[]⟩, .slice ka ks.length kc, .slice ia ks.length ic] 50 (0, 0)))) (fun _ i _ => ks.length - (intOf i).toNat)
        case atStart => exact ⟨0, Nat.zero_le _, rfl, (by show Bs _ _ _ _; simpa using R1.out), RT1.out, X1.out⟩
        case round =>
          obtain ⟨m, hm, rfl, HR, HRT, HX⟩ := hrel
          have BW : Hid (Below w0.heap.size w0 wr) := HB0.out.trans (HRT.out.below hsz0 fun g hg => (HROW.out.base g hg).1)
          by_cases hlt : m < ks.length
          · have hli : m < its.length := by have := HIL.out; omega
            have hm1 : (m : Int) < (ks.length : Int) := by omega
            obtain ⟨bb, o, c0, c1, c2, c3, c4, rfl, q0, q1, q2, q3, q4, hl⟩ := HI.out m (its[m]'(by have := HIL.out; omega)) (by simp)
            have hq : bb < w0.heap.size := lt_of_cell q0
            rw [← BW.out.cell (by exact hq)] at q0 q1 q2 q3 q4
            obtain ⟨k5, b5, t5, ka5, kl5, kc5, ia5, il5, ic5, rfl, rfl, rfl, rfl, rfl⟩ := Lay.five n hl
            have HL : Hid (Lay w0 n (mk k5 b5 t5 ka5 kl5 kc5 ia5 il5 ic5) its[m]) := hl
            have HOK : Hid (okV n its[m]) := HOS.out _ (by simp)
            obtain ⟨e1, e2⟩ := flat_take (l := pc) (m := m) (e := txt (ks[m]) ++ enc n its[m]) (HPC.out m hlt hli)
            have E1 : Hid ((pc.take (m + 1)).flatten = (pc.take m).flatten ++ (txt (ks[m]) ++ enc n its[m])) := e1
            obtain ⟨x0, x1, x2, x3, x4, -⟩ := box_cells ((Below.heap_alloc wr (.cells #[.int .i64 k5, .int .u64 b5, .string t5, .slice ka5 kl5 kc5, .slice ia5 il5 ic5] 50) _ (lt_of_block HX.out)).trans HX.out)
            have hszr := lt_of_block HX.out
            obtain ⟨gk, ok, hka, kc0, -⟩ := HS.out m ks[m] (by simp)
            cases hka
            have hkz := HKS.out ks[m] (by simp)
            replace kc0 := keepc (below_one wr (.cells #[.int .i64 k5, .int .u64 b5, .string t5, .slice ka5 kl5 kc5, .slice ia5 il5 ic5] 50)) _ _ ((BW.out.cell (lt_of_cell kc0)).trans kc0)
            have e2' : (pc.take m).flatten.length + ((txt ks[m]).length + (enc n its[m]).length) ≤ pc.flatten.length := by rw [List.length_append] at e2; exact e2
            have htl : (txt ks[m]).length = ks[m].size + 1 := by simp [txt, toList_length]
            clear hl e1 e2
            generalize hkey : ks[m] = key at *
            generalize hitem : its[m] = item at *
            go_wp2_with fail
            refine (text_any key _ (l ++ [6, UInt8.ofNat ks.length] ++ (pc.take m).flatten) w0.heap.size _ (HR.out.below (below_one _ _)) (by simp; omega) ?_).mono ?_
            · simp only [List.length_append, List.length_cons, List.length_nil]; omega
            rintro e w2 ⟨s2, rfl, h3, h4⟩
            have R2 : Hid (Bs w2 w0.heap.size s2 (l ++ [6, UInt8.ofNat ks.length] ++ (pc.take m).flatten ++ txt key)) := h3
            have T2 : Hid (RowTo wr w2 u0 s2) := h4.pre (below_one wr _)
            have Y2 : Hid (w2.heap[wr.heap.size]? = some (.cells #[.int .i64 k5, .int .u64 b5, .string t5, .slice ka5 kl5 kc5, .slice ia5 il5 ic5] 50 (0, 0))) := (h4.block (by simp) (fun e => by have := (HR.out.base _ e).2; omega)).trans (heap_alloc_new _ _)
            have BW2 : Hid (Below w0.heap.size w0 w2) := BW.out.trans (T2.out.below BW.out.size fun g hg => (HR.out.base g hg).1)
            clear h3 h4 x0 x1 x2 x3 x4 kc0 q0 q1 q2 q3 q4
            obtain ⟨y0, y1, y2, y3, y4, -⟩ := box_cells Y2.out
            go_wp2_with fail
            refine (ih item _ w0 _ _ (l ++ [6, UInt8.ofNat ks.length] ++ (pc.take m).flatten ++ txt key) HL.out BW2.out HOK.out R2.out ?_).mono ?_
            · simp only [List.length_append, List.length_cons, List.length_nil]; omega
            rintro e w3 ⟨s3, rfl, h3, h4⟩
            have h5 := T2.out.trans h4
            have R3 : Hid (Bs w3 w0.heap.size s3 (l ++ [6, UInt8.ofNat ks.length] ++ (pc.take (m + 1)).flatten)) := by
              show Bs _ _ _ _
              rw [E1.out, ← List.append_assoc, ← List.append_assoc]
              exact h3
            have hn0 : u0.ownBlock ≠ some w.heap.size := HR.out.ne HX.out (by decide)
            have X3 : Hid (w3.heap[w.heap.size]? = some (.cells #[.int .i64 5, .int .u64 0, .string ⟨#[]⟩, .slice (some ⟨gk, ok, none⟩) ks.length kc, .slice (some ⟨bb, o, none⟩) ks.length ic] 50 (0, 0))) := (h5.block (lt_of_block HX.out) hn0).trans HX.out
            have RT3 : Hid (RowTo w w3 s s3) := HRT.out.trans h5
            clear h3 h4 h5 hn0
            go_wp2_with fail
            go_roundw
            case rel => exact ⟨m + 1, by omega, by go_num, R3.out, RT3.out, X3.out⟩
            case measure => simp [intOf]; omega
          · have hme : m = ks.length := by omega
            subst hme
            go_wp2_with fail
            go_ret
            refine ⟨_, rfl, ?_, HRT.out⟩
            have := HR.out
            rw [flat_all (by have := HPL.out; omega)] at this
            simpa using this
end Go.Proofs.Ytfdbhojghkdlkaa
