/-
  The program's Encode: a value's octets, in memory of their own.
-/
import Derived.Test.YtfdbhojghkdlkaaJ4
import Derived.Test.YtfdbhojghkdlkaaVaBase
import Derived.Deep.RegionLaw
namespace Go.Proofs.Ytfdbhojghkdlkaa
open Go.ChangeShapes Go.WideShapes Go.ChangeAt Go.RowKit
open Fl

theorem newCells (w : World) (cs : Array Value) (t : TypeId) (j : Nat) (v : Value) (h : cs[j]? = some v) : (w.alloc (.cells cs t)).cell? ((⟨w.heap.size, 0, none⟩ : Addr).add j) = some v := by
  rw [add_plain]
  have := heap_alloc_new w (.cells cs t)
  simp only [World.cell?, this]
  simpa using h

/-- Octets just laid. -/
theorem new_octets (w : World) (t : TypeId) (m : List UInt8) (cs : Array Value) (h : cs.toList = cellsO m) : ∀ j u, m[j]? = some u → (w.alloc (.cells cs t)).cell? ((⟨w.heap.size, 0, none⟩ : Addr).add j) = some (.int .u8 (u.toNat : Int)) := by
  intro j u hj
  refine newCells w _ _ j _ ?_
  rw [← Array.getElem?_toList, h, cellsO, List.getElem?_map, hj]
  rfl

set_option maxRecDepth 100000 in
set_option maxHeartbeats 1600000 in
theorem text_any (t : ByteArray) (s : Value) (l : List UInt8) (B : Nat) (w : World) (hs : Bs w B s l) (hB : B ≤ w.heap.size) (hlen : l.length + 1 + t.size ≤ 1000000) :
    Calls Try.prog 51 #[s, .string t] w fun e w' => ∃ s', e = .returned s' ∧ Bs w' B s' (l ++ txt t) ∧ RowTo w w' s s' := by
  have HS : Hid (Bs w B s l) := hs
  have hsz : t.size < 9223372036854775808 := by omega
  clear hs
  go_enter Try.func51, Try.ntmps51
  go_wp2_with (at_builtin; first
    | refine wpList_app _ rfl _ _ rfl B s l [UInt8.ofNat t.size] rfl ?d0 ⟨w.heap.size, 0, none⟩ 1 rfl ?d1 ?d2 ?d3 ?_
    | refine wpList_apps _ rfl _ _ rfl B _ _ t rfl ?e0 rfl ?e2 ?e3 ?_)
  case d0 => exact HS.out.below (below_one _ _)
  case d1 => exact new_octets w _ _ _ (by simp [cellsO])
  case d2 => simp; omega
  case d3 => simp; omega
  · intro s1 w1 h1 h2
    have R1 : Hid (RowTo w w1 s s1) := h2.pre (below_one _ _)
    have H1 : Hid (Bs w1 B s1 (l ++ [UInt8.ofNat t.size])) := h1
    clear h1 h2
    go_wp2_with (at_builtin; refine wpList_apps _ rfl _ _ rfl B _ _ t rfl H1.out rfl ?e2 ?e3 ?_)
    case e2 => simp; omega
    case e3 => exact Nat.le_trans hB R1.out.grown.size
    · intro s2 w2 h3 h4
      have H2 : Hid (Bs w2 B s2 (l ++ txt t)) := h3
      have R2 : Hid (RowTo w w2 s s2) := R1.out.trans h4
      clear h3 h4
      go_wp2_with fail
      go_ret
      exact ⟨s2, rfl, H2.out, R2.out⟩

theorem oct_val {b : Int} (hU : U b) (m : Nat) : b / 2 ^ (8 * (7 - m)) % 256 = ((oct b m).toNat : Int) := by
  obtain ⟨n, rfl⟩ : ∃ n : Nat, b = n := ⟨b.toNat, by have := hU.1; omega⟩
  simp only [oct, Int.toNat_natCast, UInt8.toNat_ofNat']
  generalize 8 * (7 - m) = k
  rw [Int.natCast_emod, Int.natCast_ediv, Int.natCast_pow]
  rfl

theorem octs_take {b : Int} {m : Nat} (h : m < 8) : (octs b).take (m + 1) = (octs b).take m ++ [oct b m] := by
  rw [List.take_succ_eq_append_getElem (by rw [octs_length]; exact h)]
  simp [octs]

set_option maxRecDepth 100000 in
set_option maxHeartbeats 1600000 in
theorem bits_any (b : Int) (s : Value) (l : List UInt8) (B : Nat) (w : World) (hs : Bs w B s l) (hB : B ≤ w.heap.size) (hlen : l.length + 8 ≤ 1000000) (hU : U b) :
    Calls Try.prog 50 #[s, .int .u64 b] w fun e w' => ∃ s', e = .returned s' ∧ Bs w' B s' (l ++ octs b) ∧ RowTo w w' s s' := by
  have HS : Hid (Bs w B s l) := hs
  have HU : Hid (U b) := hU
  clear hs hU
  go_enter Try.func50, Try.ntmps50
  go_wp2_with fail
  go_loopw [0, 6] (fun v i wr => ∃ (m : Nat), m ≤ 8 ∧ i = .int .i64 m ∧ Hid (Bs wr B v (l ++ (octs b).take m)) ∧ Hid (RowTo w wr s v)) (fun _ i _ => 8 - (intOf i).toNat)
  case atStart => exact ⟨0, by omega, rfl, (by show Bs _ _ _ _; simpa using HS.out), RowTo.refl _ _⟩
  case round =>
    obtain ⟨m, hm, rfl, HR, HT⟩ := hrel
    by_cases hlt : m < 8
    · have hm1 : (m : Int) < 8 := by omega
      have hsz := HT.out.grown.size
      go_wp2_with (at_builtin; refine wpList_app _ rfl _ _ rfl B _ (l ++ (octs b).take m) [oct b m] rfl ?d0 ⟨wr.heap.size, 0, none⟩ 1 rfl ?d1 ?d2 ?d3 ?_)
      case d0 => exact HR.out.below (below_one _ _)
      case d1 => exact new_octets wr _ _ _ (by simp [cellsO, oct_val HU.out])
      case d2 => have := List.length_take_le m (octs b); simp only [List.length_append, List.length_singleton]; omega
      case d3 => simp; omega
      · intro s1 w1 h1 h2
        have R1 : Hid (RowTo w w1 s s1) := HT.out.trans (h2.pre (below_one _ _))
        have H1 : Hid (Bs w1 B s1 (l ++ (octs b).take (m + 1))) := by
          show Bs _ _ _ _
          rw [octs_take hlt]
          exact h1
        clear h1 h2
        go_wp2_with fail
        go_roundw
        case rel => exact ⟨m + 1, by omega, by go_num, H1.out, R1.out⟩
        case measure => simp [intOf]; omega
    · have hme : m = 8 := by omega
      subst hme
      go_wp2_with fail
      go_ret
      refine ⟨_, rfl, ?_, HT.out⟩
      have := HR.out
      rw [List.take_of_length_le (by rw [octs_length]; omega)] at this
      exact this
theorem flat_take {l : List (List UInt8)} {m : Nat} {e : List UInt8} (h : l[m]? = some e) : (l.take (m + 1)).flatten = (l.take m).flatten ++ e ∧ (l.take m).flatten.length + e.length ≤ l.flatten.length := by
  obtain ⟨hlt, he⟩ := List.getElem?_eq_some_iff.1 h
  have h1 : (l.take (m + 1)).flatten = (l.take m).flatten ++ e := by
    rw [List.take_succ_eq_append_getElem hlt, List.flatten_append, he]
    simp
  refine ⟨h1, ?_⟩
  have h2 := congrArg (fun z : List (List UInt8) => z.flatten.length) (List.take_append_drop (m + 1) l)
  simp only [List.flatten_append, List.length_append, h1] at h2
  omega

theorem flat_all {l : List (List UInt8)} {m : Nat} (h : l.length ≤ m) : (l.take m).flatten = l.flatten := by rw [List.take_of_length_le h]

/-- How many octets at most. -/
theorem sum_len {n : Nat} (h : ∀ u : V n, okV n u → (enc n u).length + 17 ≤ 147 * prts n u) : ∀ its : List (V n), (∀ u ∈ its, okV n u) → (its.map (enc n)).flatten.length + 17 * its.length ≤ 147 * (its.map (prts n)).sum
  | [], _ => by simp
  | u :: its, ho => by
    have h1 := h u (ho u (by simp))
    have h2 := sum_len h its (fun v hv => ho v (by simp [hv]))
    simp only [List.map_cons, List.flatten_cons, List.length_append, List.length_cons, List.sum_cons]
    omega

theorem zip_len : ∀ (ks : List ByteArray) (es : List (List UInt8)), (∀ k ∈ ks, k.size ≤ 16) → (List.zipWith (fun s e => txt s ++ e) ks es).flatten.length ≤ es.flatten.length + 17 * ks.length
  | [], es, _ => by simp
  | k :: ks, [], _ => by simp
  | k :: ks, e :: es, h => by
    have h1 := h k (by simp)
    have h2 := zip_len ks es (fun v hv => h v (by simp [hv]))
    have h3 : (txt k).length = k.size + 1 := by simp [txt, toList_length]
    simp only [List.zipWith_cons_cons, List.flatten_cons, List.length_append, List.length_cons, h3]
    omega

theorem rise_mem : ∀ (last : Option ByteArray) (ks : List ByteArray), rise last ks → ∀ k ∈ ks, k.size ≤ 16
  | _, [], _, k, hk => by simp at hk
  | _, a :: ks, ⟨h1, _, h3⟩, k, hk => by
    rcases List.mem_cons.1 hk with rfl | hk
    · exact (key_le h1).2
    · exact rise_mem _ ks h3 k hk

theorem enc_len : ∀ (n : Nat) (u : V n), okV n u → (enc n u).length + 17 ≤ 147 * prts n u
  | 0, u, _ => u.elim
  | n + 1, u, ho => by
    obtain ⟨k, b, t, ks, its⟩ := u
    obtain ⟨hm, hos⟩ := ho
    have hm' := may_iff.1 hm
    have hs := sum_len (enc_len n) its hos
    generalize hil : its.length = il at hm'
    cases hm' with
    | nothing => simp [enc, prts]; omega
    | truth b _ => simp [enc, prts]; omega
    | number b _ => simp [enc, prts, octs_length]; omega
    | text t hs => simp [enc, prts, txt, toList_length]; omega
    | list _ hs =>
      simp only [enc, pcs, show ¬ (4 : Int) = 0 by decide, show ¬ (4 : Int) = 1 by decide, show ¬ (4 : Int) = 2 by decide, show ¬ (4 : Int) = 3 by decide, show ¬ (4 : Int) = 5 by decide, if_false, if_true, prts, List.length_cons]
      omega
    | record _ hs hk =>
      have hz := zip_len ks (its.map (enc n)) (rise_mem none ks (rise_of_keys hk))
      simp only [enc, pcs, show ¬ (5 : Int) = 0 by decide, show ¬ (5 : Int) = 1 by decide, show ¬ (5 : Int) = 2 by decide, show ¬ (5 : Int) = 3 by decide, show ¬ (5 : Int) = 4 by decide, if_false, if_true, prts, List.length_cons]
      omega
end Go.Proofs.Ytfdbhojghkdlkaa

/-
  Steps of a region whose order is open: append to a row of one's own; a call, by its contract.
-/
namespace Go.Proofs.Ytfdbhojghkdlkaa
open Go.ChangeShapes Go.WideShapes Go.ChangeAt Go.RowKit

theorem run_append_apart {P : Program} (w : World) (base : Nat) (t ty e : TypeId) (i : TypeInfo) (z : Value) (size bytes : Nat) (ht : P.underlying t = some (.slice e)) (hi : P.info? e = some i) (hz : i.zero = some z)
    (hsize : i.size = size) (hby : i.bytes = bytes) (hzs : z.cells.size = size) (hsz : 0 < size)
    (v : Value) (n : Nat) (xs : List Value) (hown : w.ownsRow base e size v n xs)
    (a : Addr) (m c : Nat) (news : List Value) (hl : news.length = m * size) (hnews : ∀ j u, news[j]? = some u → w.cell? (a.add j) = some u) (h1 : ∀ u ∈ news, u.oneCell' = true)
    (h63 : n + m ≤ maxLen) (hbytes : (n + m) * bytes ≤ 140737488355328) (hbase : base ≤ w.heap.size) :
    ∃ v' w', (Builtin.append_ #[t, t] ty #[v, .slice (some a) m c]).run P w = .ok v' w' ∧ w'.ownsRow base e size v' (n + m) (xs ++ news) ∧ w.grownBy w' v.ownBlock ∧
      (v'.ownBlock = v.ownBlock ∨ ∀ g, v'.ownBlock = some g → w.heap.size ≤ g) := by
  obtain ⟨v', w', hr, h2, h3, -⟩ := run_append_own (P := P) w base t ty e i z size bytes ht hi hz hsize hby hzs hsz v n xs hown a m c news hl hnews h1 h63 hbytes hbase
  refine ⟨v', w', hr, h2, h3, ?_⟩
  have hown0 := hown
  obtain ⟨l0, hcase⟩ := hown
  rcases hcase with ⟨rfl, rfl⟩ | ⟨g, cap, cur, rfl, hg, hh, hnc, hcm, hcs, htake⟩
  · have : xs = [] := List.eq_nil_of_length_eq_zero (by simpa using l0)
    subst this
    obtain ⟨v2, w2, hr2, q2, -, -⟩ := run_append_own (P := P) w w.heap.size t ty e i z size bytes ht hi hz hsize hby hzs hsz _ 0 [] (World.ownsRow_nil _ _ _ _) a m c news hl hnews h1 h63 hbytes (Nat.le_refl _)
    rw [hr] at hr2
    simp only [Result.ok.injEq] at hr2
    obtain ⟨rfl, rfl⟩ := hr2
    exact Or.inr fun g hg => (q2.lt g hg).1
  · by_cases hroom : n + m ≤ cap
    · have hfit : n * i.size + news.length ≤ cur.size := by rw [hl, hcs, hsize, ← Nat.add_mul]; exact Nat.mul_le_mul_right _ hroom
      have hr2 := run_append_room (P := P) w t ty e i ht hi g n cap cur hh a m c news (by rw [hsize]; exact hl) hnews h1 hroom hfit
      rw [hr] at hr2
      simp only [Result.ok.injEq] at hr2
      rw [hr2.1]
      exact Or.inl rfl
    · have holds : ∀ j u, xs[j]? = some u → w.cell? ((⟨g, 0, none⟩ : Addr).add j) = some u := hown0.cells (g := g) rfl
      have hr2 := run_append_grow (P := P) w t ty e i z ht hi hz ⟨g, 0, none⟩ n cap xs (by rw [hsize]; exact l0) holds a m c news (by rw [hsize]; exact hl) hnews (by omega) (by unfold maxLen at h63; omega) (by rw [hby]; exact growslice_fits (by omega) hbytes)
      rw [hr] at hr2
      simp only [Result.ok.injEq] at hr2
      rw [hr2.1]
      exact Or.inr fun g' hg' => by simp only [Value.ownBlock, Option.some.injEq] at hg'; omega

/-- append, as one step. -/
theorem step_append {P : Program} {ops : Array Oper} {o : Oper} {a : Act} {w : World} {K : Act → World → Prop} {Q : Exit → Act → World → Prop} {E : Prop} (hg : o.guard = none) (s x : Operand) (t : TypeId)
    (ho : o.op = .call { callee := .builtin .append, args := #[s, x], argTypes := #[t, t] })
    (base : Nat) (e : TypeId) (i : TypeInfo) (z : Value) (size bytes : Nat) (ht : P.underlying t = some (.slice e)) (hi : P.info? e = some i) (hz : i.zero = some z)
    (hsize : i.size = size) (hby : i.bytes = bytes) (hzs : z.cells.size = size) (hsz : 0 < size)
    (v : Value) (n : Nat) (xs : List Value) (hs : a.eval s = v) (hown : w.ownsRow base e size v n xs)
    (ad : Addr) (m c : Nat) (news : List Value) (hx : a.eval x = .slice (some ad) m c) (hl : news.length = m * size) (hnews : ∀ j u, news[j]? = some u → w.cell? (ad.add j) = some u) (h1 : ∀ u ∈ news, u.oneCell' = true)
    (h63 : n + m ≤ maxLen) (hbytes : (n + m) * bytes ≤ 140737488355328) (hbase : base ≤ w.heap.size)
    (h : ∀ v' w', w'.ownsRow base e size v' (n + m) (xs ++ news) → w.grownBy w' v.ownBlock → (v'.ownBlock = v.ownBlock ∨ ∀ g, v'.ownBlock = some g → w.heap.size ≤ g) → K (a.put o.dst v') w') :
    if Region.wanted o (yielded ops a.tmps) = true then Oper.wp P o a w K Q else E := by
  have hw : Region.wanted o (yielded ops a.tmps) = true := by simp [Region.wanted, hg]
  rw [if_pos hw]
  obtain ⟨v', w', hr, h2, h3, h4⟩ := run_append_apart (P := P) w base t o.type e i z size bytes ht hi hz hsize hby hzs hsz v n xs hown ad m c news hl hnews h1 h63 hbytes hbase
  unfold Oper.wp execOp
  simp only [ho, resolve, invoke, builtin, Sem.run_bind, Sem.run_pure, Result.andThen_ok, List.map_toArray, List.map_cons, List.map_nil, hs, hx, hr]
  exact h v' w' h2 h3 h4

/-- A call of two arguments, as one step. -/
theorem step_call2 {ops : Array Oper} {o : Oper} {a : Act} {w : World} {K : Act → World → Prop} {Q : Exit → Act → World → Prop} {E : Prop} (hg : o.guard = none) (f : FuncId) (hf : ∀ x1 x2 w, Sem.run Try.prog (callFunc f #[x1, x2]) w = .ok (.enter f #[x1, x2]) w) (s1 s2 : Operand) (ts : Array TypeId)
    (ho : o.op = .call { callee := .value (.func f), args := #[s1, s2], argTypes := ts }) (x1 x2 : Value) (h1 : a.eval s1 = x1) (h2 : a.eval s2 = x2) (R : Value → World → Prop)
    (hc : Calls Try.prog f #[x1, x2] w fun e w' => ∃ y, e = .returned y ∧ R y w') (h : ∀ y w', R y w' → K (a.put o.dst y) w') :
    if Region.wanted o (yielded ops a.tmps) = true then Oper.wp Try.prog o a w K Q else E := by
  have hw : Region.wanted o (yielded ops a.tmps) = true := by simp [Region.wanted, hg]
  rw [if_pos hw]
  have hrun : (execOp a.eval o).run Try.prog w = .ok (.enter f #[x1, x2]) w := by
    unfold execOp
    simp only [ho, resolve, invoke, List.map_toArray, List.map_cons, List.map_nil, h1, h2]
    go_simp
  unfold Oper.wp
  rw [hrun, Oper.upon_enter]
  refine hc.mono fun e w' he => ?_
  obtain ⟨y, rfl, hy⟩ := he
  exact h y w' hy
end Go.Proofs.Ytfdbhojghkdlkaa
