/-
  'x, y := f(a), f(b)' whose order is open: in whatever order the two calls, the two new variables and the loads come, each copy lies in memory of its own, each in its variable.
-/
import Derived.Test.YtndclldicdfmeaaGreatVaFrame
import Derived.Test.YtndclldicdfmeaaGreatVaSmall
import Derived.Deep.MidRow
namespace Go.Proofs.YtndclldicdfmeaaGreat
open Go.ChangeShapes Go.WideShapes Go.ChangeAt Go.RowKit

/-! ### An invariant of a region whose order is open -/
def cnt : List Bool → Nat
  | [] => 0
  | b :: l => (if b then 0 else 1) + cnt l

theorem cnt_set : ∀ (l : List Bool) (i : Nat), l[i]? = some false → cnt (l.set i true) + 1 = cnt l
  | [], _, h => by simp at h
  | b :: l, 0, h => by
    simp at h
    subst h
    simp [cnt]
    omega
  | b :: l, i + 1, h => by
    have := cnt_set l i (by simpa using h)
    simp only [List.set_cons_succ, cnt]
    omega

theorem cnt_zero : ∀ (l : List Bool) (i : Nat), cnt l = 0 → l[i]? ≠ some false
  | [], _, _ => by simp
  | b :: l, 0, h => by
    cases b <;> simp [cnt] at h ⊢
  | b :: l, i + 1, h => by
    have := cnt_zero l i (by simp only [cnt] at h; omega)
    simpa using this

theorem get_of_ready {md : Region.Mode} {ops : Array Oper} {listed : Array Bool} {i : Nat} (hz : listed.size = ops.size) (h : i ∈ Region.ready md ops listed) : listed.toList[i]? = some false := by
  obtain ⟨h1, o, ho, _⟩ := mem_ready.1 h
  have hlt : i < listed.size := by rw [hz]; exact (Array.getElem?_eq_some_iff.1 ho).1
  rw [Array.getElem?_toList, Array.getElem?_eq_getElem hlt]
  rw [Array.getD_eq_getD_getElem?, Array.getElem?_eq_getElem hlt] at h1
  simpa using h1

theorem wpAny_inv {P : Program} {md : Region.Mode} {ops : Array Oper} {Q : Exit → Act → World → Prop} {J : Array Bool → Act → World → Prop}
    (hz : ∀ listed a w, J listed a w → listed.size = ops.size)
    (hstep : ∀ listed a w i, J listed a w → i ∈ Region.ready md ops listed → wpOp P ops Q i (J (listed.setIfInBounds i true)) a w)
    (hend : ∀ listed a w, J listed a w → Region.ready md ops listed = [] → Q .normal a w) :
    ∀ (fuel : Nat) (listed : Array Bool) (a : Act) (w : World), J listed a w → cnt listed.toList ≤ fuel → wpAny P md ops Q fuel listed a w := by
  intro fuel
  induction fuel with
  | zero =>
    intro listed a w hJ hc
    have hr : Region.ready md ops listed = [] := by
      cases h : Region.ready md ops listed with
      | nil => rfl
      | cons i r => exact absurd (get_of_ready (hz _ _ _ hJ) (by rw [h]; exact List.mem_cons_self)) (cnt_zero _ _ (by omega))
    exact ⟨hr, hend _ _ _ hJ hr⟩
  | succ fuel ih =>
    intro listed a w hJ hc
    refine ⟨hend _ _ _ hJ, fun i hi => wpOp_mono (fun a' w' hJ' => ih _ _ _ hJ' ?_) (hstep _ _ _ _ hJ hi)⟩
    have := cnt_set _ i (get_of_ready (hz _ _ _ hJ) hi)
    rw [Array.toList_setIfInBounds]
    omega

theorem wpOp_of {P : Program} {ops : Array Oper} {Q : Exit → Act → World → Prop} {i : Nat} {o : Oper} {K : Act → World → Prop} {a : Act} {w : World} (ho : ops[i]? = some o) (hg : o.guard = none) (h : o.wp P a w K Q) : wpOp P ops Q i K a w := by
  unfold wpOp
  simp only [ho]
  rw [if_pos (by simp [Region.wanted, hg])]
  exact Or.inl h

/-! ### A variable of five cells -/
/-- What a value's variable holds. -/
def box : Value → Obj
  | .agg cs => .cells cs 29 (0, 0)
  | _ => .cells #[] 29 (0, 0)

def zero5 : Value := mk 0 0 ⟨#[]⟩ none 0 0 none 0 0

theorem five_set {w : World} {g : Nat} {z0 z1 z2 z3 z4 : Value} {t : TypeId} (h : w.heap[g]? = some (.cells #[z0, z1, z2, z3, z4] t (0, 0))) (c0 c1 c2 c3 c4 : Value) :
    (w.setCells g 0 [c0, c1, c2, c3, c4]).heap[g]? = some (.cells #[c0, c1, c2, c3, c4] t (0, 0)) ∧ (∀ k, k ≠ g → (w.setCells g 0 [c0, c1, c2, c3, c4]).heap[k]? = w.heap[k]?) ∧
    (w.setCells g 0 [c0, c1, c2, c3, c4]).heap.size = w.heap.size ∧ (w.setCells g 0 [c0, c1, c2, c3, c4]).os = w.os ∧ (w.setCells g 0 [c0, c1, c2, c3, c4]).tape = w.tape ∧ (w.setCells g 0 [c0, c1, c2, c3, c4]).output = w.output := by
  refine ⟨?_, ?_, ?_, by simp [World.setCells, World.setCell], by simp [World.setCells, World.setCell], by simp [World.setCells, World.setCell]⟩
  · simp [World.setCells, World.setCell, Array.getElem?_modify, h]
  · intro k hk
    have hk' : ¬ g = k := fun e => hk e.symm
    simp [World.setCells, World.setCell, Array.getElem?_modify, hk']
  · simp [World.setCells, World.setCell]

theorem getS {l : Array Bool} {i : Nat} (j : Nat) (hi : i < l.size) : (l.setIfInBounds i true).getD j false = if i = j then true else l.getD j false := by
  by_cases h : i = j
  · subst h
    simp [hi]
  · rw [if_neg h, getD_set_ne _ h]

theorem box_mk {n : Nat} {w : World} {y : Value} {u : V n} (h : Lay w n y u) : ∃ c0 c1 c2 c3 c4, y = .agg #[c0, c1, c2, c3, c4] ∧ (#[c0, c1, c2, c3, c4] : Array Value).all (·.oneCell') = true := by
  obtain ⟨k, b, t, ka, kl, kc, ia, il, ic, rfl⟩ := Lay.shape n h
  exact ⟨_, _, _, _, _, rfl, by simp [Value.oneCell']⟩

/-- The region's operations. -/
def op8 (d0 d1 d2 d3 p q s0 s1 : Nat) (pos : String) : Array Oper :=
  #[{ dst := some d0, op := .load 29 (.tmp s0), type := 29, pos := pos, after := #[], guard := none },
    { dst := some d1, op := .call { callee := .value (.func 19), args := #[.tmp d0], argTypes := #[29] }, type := 29, pos := pos, after := #[{ on := 0, ground := .data }], guard := none },
    { dst := some d2, op := .load 29 (.tmp s1), type := 29, pos := pos, after := #[], guard := none },
    { dst := some d3, op := .call { callee := .value (.func 19), args := #[.tmp d2], argTypes := #[29] }, type := 29, pos := pos, after := #[{ on := 2, ground := .data }, { on := 1, ground := .chain }], guard := none },
    { dst := some p, op := .alloc 29, type := 0, pos := pos, after := #[], guard := none },
    { dst := some q, op := .alloc 29, type := 0, pos := pos, after := #[], guard := none },
    { dst := none, op := .store 29 (.tmp p) (.tmp d1), type := 0, pos := pos,
      after := #[{ on := 4, ground := .data }, { on := 1, ground := .data }, { on := 3, ground := .chain }, { on := 0, ground := .phase }, { on := 1, ground := .phase }, { on := 2, ground := .textOnly .lateStores }, { on := 3, ground := .textOnly .lateStoresUnsure }, { on := 4, ground := .phase }, { on := 5, ground := .phase }], guard := none },
    { dst := none, op := .store 29 (.tmp q) (.tmp d3), type := 0, pos := pos,
      after := #[{ on := 5, ground := .data }, { on := 3, ground := .data }, { on := 6, ground := .chain }, { on := 0, ground := .phase }, { on := 1, ground := .phase }, { on := 2, ground := .phase }, { on := 3, ground := .phase }, { on := 4, ground := .phase }, { on := 5, ground := .phase }, { on := 6, ground := .phase }], guard := none }]

/-- What has come up so far. -/
def PJ {n : Nat} (u v : V n) (x y : Value) (fr : Value → Value → Value → Value → Value → Value → Act) (w : World) (l : Array Bool) (a : Act) (wr : World) : Prop :=
  l.size = 8 ∧ ∃ (v0 v1 v2 v3 v5 v6 : Value) (F3 F4 : Nat → Prop) (g5 g6 : Nat), a = fr v0 v1 v2 v3 v5 v6 ∧ Below w.heap.size w wr ∧
    (l.getD 0 false = true → v0 = x) ∧ (l.getD 2 false = true → v2 = y) ∧ (l.getD 1 false = true → Own wr n v1 u F3) ∧ (l.getD 3 false = true → Own wr n v3 v F4) ∧
    (∀ b, F3 b → w.heap.size ≤ b ∧ b < wr.heap.size) ∧ (∀ b, F4 b → w.heap.size ≤ b ∧ b < wr.heap.size) ∧ (∀ b, F3 b → ¬ F4 b) ∧
    (l.getD 4 false = true → v5 = .pointer (some ⟨g5, 0, none⟩) ∧ w.heap.size ≤ g5 ∧ ¬ F3 g5 ∧ ¬ F4 g5 ∧ wr.heap[g5]? = some (if l.getD 6 false = true then box v1 else box zero5)) ∧
    (l.getD 5 false = true → v6 = .pointer (some ⟨g6, 0, none⟩) ∧ w.heap.size ≤ g6 ∧ ¬ F3 g6 ∧ ¬ F4 g6 ∧ wr.heap[g6]? = some (if l.getD 7 false = true then box v3 else box zero5)) ∧
    (l.getD 4 false = true → l.getD 5 false = true → g5 ≠ g6) ∧ (l.getD 6 false = true → l.getD 1 false = true ∧ l.getD 4 false = true) ∧ (l.getD 7 false = true → l.getD 3 false = true ∧ l.getD 5 false = true)

theorem op_load {o : Oper} {s g : Nat} {a : Act} {w : World} {K : Act → World → Prop} {Q : Exit → Act → World → Prop} {c0 c1 c2 c3 c4 : Value} (ho : o.op = .load 29 (.tmp s)) (hs : a.eval (.tmp s) = .pointer (some ⟨g, 0, none⟩))
    (hg : w.heap[g]? = some (.cells #[c0, c1, c2, c3, c4] 29 (0, 0))) (h : K (a.put o.dst (.agg #[c0, c1, c2, c3, c4])) w) : o.wp Tryz.prog a w K Q := by
  obtain ⟨p0, p1, p2, p3, p4, -⟩ := box_cells hg
  refine wp_load_mid _ _ ho _ _ hs [c0, c1, c2, c3, c4] _ ?_ Tryz.underlying29 rfl (by kernel_rfl) h
  intro j v hj
  match j, hj with
  | 0, hj => simp at hj; subst hj; exact p0
  | 1, hj => simp at hj; subst hj; exact p1
  | 2, hj => simp at hj; subst hj; exact p2
  | 3, hj => simp at hj; subst hj; exact p3
  | 4, hj => simp at hj; subst hj; exact p4
  | j + 5, hj => simp at hj

theorem op_store {o : Oper} {s d g : Nat} {a : Act} {w : World} {K : Act → World → Prop} {Q : Exit → Act → World → Prop} {z0 z1 z2 z3 z4 c0 c1 c2 c3 c4 : Value} (ho : o.op = .store 29 (.tmp s) (.tmp d)) (hs : a.eval (.tmp s) = .pointer (some ⟨g, 0, none⟩))
    (hd : a.eval (.tmp d) = .agg #[c0, c1, c2, c3, c4]) (h1 : (#[c0, c1, c2, c3, c4] : Array Value).all (·.oneCell') = true) (hg : w.heap[g]? = some (.cells #[z0, z1, z2, z3, z4] 29 (0, 0)))
    (h : K (a.put o.dst undef) (w.setCells g 0 [c0, c1, c2, c3, c4])) : o.wp Tryz.prog a w K Q := by
  obtain ⟨p0, p1, p2, p3, p4, f0, f1, f2, f3, f4⟩ := box_cells hg
  refine wp_store_mid _ _ _ ho g 0 #[c0, c1, c2, c3, c4] hs hd ?_ (by kernel_rfl) h1 h
  intro j hj
  match j, hj with
  | 0, _ => exact ⟨by simp [p0], f0⟩
  | 1, _ => exact ⟨by simp [p1], f1⟩
  | 2, _ => exact ⟨by simp [p2], f2⟩
  | 3, _ => exact ⟨by simp [p3], f3⟩
  | 4, _ => exact ⟨by simp [p4], f4⟩
  | j + 5, hj => simp at hj; omega

theorem op_alloc {o : Oper} {a : Act} {w : World} {K : Act → World → Prop} {Q : Exit → Act → World → Prop} (ho : o.op = .alloc 29) (h : K (a.put o.dst (.pointer (some ⟨w.heap.size, 0, none⟩))) (w.alloc (box zero5))) : o.wp Tryz.prog a w K Q := by
  unfold Oper.wp execOp
  simp only [ho]
  go_simp
  exact h

theorem op_call {o : Oper} {d : Nat} {a : Act} {w : World} {K : Act → World → Prop} {Q : Exit → Act → World → Prop} {x : Value} {R : Value → World → Prop} (ho : o.op = .call { callee := .value (.func 19), args := #[.tmp d], argTypes := #[29] }) (hd : a.eval (.tmp d) = x)
    (hc : Calls Tryz.prog 19 #[x] w fun e w' => ∃ y, e = .returned y ∧ R y w') (h : ∀ y w', R y w' → K (a.put o.dst y) w') : o.wp Tryz.prog a w K Q := by
  have hd' : a.tmps[d]?.getD undef = x := by simpa [Act.eval] using hd
  have hrun : (execOp a.eval o).run Tryz.prog w = .ok (.enter 19 #[x]) w := by
    unfold execOp
    simp only [ho]
    go_simp
  unfold Oper.wp
  rw [hrun, Oper.upon_enter]
  refine hc.mono fun e w' he => ?_
  obtain ⟨y, rfl, hy⟩ := he
  exact h y w' hy

theorem Own.next (n : Nat) {w w' : World} {x : Value} {v : V n} {F : Nat → Prop} (h : Own w n x v F) (hF : ∀ b, F b → b < w.heap.size) (hb : Below w.heap.size w w') : Own w' n x v F :=
  Own.same n h fun b hb' => hb.block b (hF b hb')

set_option maxRecDepth 100000 in
set_option maxHeartbeats 1600000 in
theorem pair_step {n : Nat} {u v : V n} {x y : Value} {A B d0 d1 d2 d3 p q s0 s1 : Nat} {pos : String} {w : World} {Q : Exit → Act → World → Prop} (fr : Value → Value → Value → Value → Value → Value → Act)
    (i0 : ∀ v0 v1 v2 v3 v5 v6 z, (fr v0 v1 v2 v3 v5 v6).put (some d0) z = fr z v1 v2 v3 v5 v6) (i1 : ∀ v0 v1 v2 v3 v5 v6 z, (fr v0 v1 v2 v3 v5 v6).put (some d1) z = fr v0 z v2 v3 v5 v6)
    (i2 : ∀ v0 v1 v2 v3 v5 v6 z, (fr v0 v1 v2 v3 v5 v6).put (some d2) z = fr v0 v1 z v3 v5 v6) (i3 : ∀ v0 v1 v2 v3 v5 v6 z, (fr v0 v1 v2 v3 v5 v6).put (some d3) z = fr v0 v1 v2 z v5 v6)
    (i5 : ∀ v0 v1 v2 v3 v5 v6 z, (fr v0 v1 v2 v3 v5 v6).put (some p) z = fr v0 v1 v2 v3 z v6) (i6 : ∀ v0 v1 v2 v3 v5 v6 z, (fr v0 v1 v2 v3 v5 v6).put (some q) z = fr v0 v1 v2 v3 v5 z)
    (es0 : ∀ v0 v1 v2 v3 v5 v6, (fr v0 v1 v2 v3 v5 v6).eval (.tmp s0) = .pointer (some ⟨A, 0, none⟩)) (es1 : ∀ v0 v1 v2 v3 v5 v6, (fr v0 v1 v2 v3 v5 v6).eval (.tmp s1) = .pointer (some ⟨B, 0, none⟩))
    (ed0 : ∀ v0 v1 v2 v3 v5 v6, (fr v0 v1 v2 v3 v5 v6).eval (.tmp d0) = v0) (ed1 : ∀ v0 v1 v2 v3 v5 v6, (fr v0 v1 v2 v3 v5 v6).eval (.tmp d1) = v1)
    (ed2 : ∀ v0 v1 v2 v3 v5 v6, (fr v0 v1 v2 v3 v5 v6).eval (.tmp d2) = v2) (ed3 : ∀ v0 v1 v2 v3 v5 v6, (fr v0 v1 v2 v3 v5 v6).eval (.tmp d3) = v3)
    (ep : ∀ v0 v1 v2 v3 v5 v6, (fr v0 v1 v2 v3 v5 v6).eval (.tmp p) = v5) (eq : ∀ v0 v1 v2 v3 v5 v6, (fr v0 v1 v2 v3 v5 v6).eval (.tmp q) = v6)
    (hx : Lay w n x u) (hy : Lay w n y v) (hA : w.heap[A]? = some (box x)) (hB : w.heap[B]? = some (box y))
    (l : Array Bool) (a : Act) (wr : World) (i : Nat) (hJ : PJ u v x y fr w l a wr) (hi : i ∈ Region.ready .any (op8 d0 d1 d2 d3 p q s0 s1 pos) l) :
    wpOp Tryz.prog (op8 d0 d1 d2 d3 p q s0 s1 pos) Q i (PJ u v x y fr w (l.setIfInBounds i true)) a wr := by
  obtain ⟨hn, o, ho, hdep⟩ := mem_ready.1 hi
  obtain ⟨hz, v0, v1, v2, v3, v5, v6, F3, F4, g5, g6, rfl, hb, h0, h2, h1, h3, hF3, hF4, hdis, h4, h5, h45, h61, h73⟩ := hJ
  have hlt : i < 8 := (Array.getElem?_eq_some_iff.1 ho).1
  have gs : ∀ j, (l.setIfInBounds i true).getD j false = if i = j then true else l.getD j false := fun j => getS j (by omega)
  have hn' : l.getD i false = false := by
    rw [Array.getD_eq_getD_getElem?, Array.getElem?_eq_getElem (by omega)] at hn ⊢
    simpa using hn
  obtain rfl | rfl | rfl | rfl | rfl | rfl | rfl | rfl : i = 0 ∨ i = 1 ∨ i = 2 ∨ i = 3 ∨ i = 4 ∨ i = 5 ∨ i = 6 ∨ i = 7 := by omega
  · obtain ⟨c0, c1, c2, c3, c4, rfl, -⟩ := box_mk hx
    refine wpOp_of rfl rfl (op_load rfl (es0 ..) ((hb.block _ (lt_of_block hA)).trans hA) ?_)
    refine ⟨by simp [hz], _, v1, v2, v3, v5, v6, F3, F4, g5, g6, i0 .., hb, ?_⟩
    simp only [gs]
    exact ⟨fun _ => trivial, h2, h1, h3, hF3, hF4, hdis, h4, h5, h45, h61, h73⟩
  · have key : o.after = #[{ on := 0, ground := .data }] := by simp [op8] at ho; rw [← ho]
    rw [key] at hdep
    have e0 : v0 = x := h0 (hdep { on := 0, ground := .data } (by simp) rfl)
    subst e0
    have hc := copy_any n _ _ _ (Lay.below n hx hb)
    refine wpOp_of rfl rfl (op_call (R := fun y w'' => ∃ F, Own w'' n y u F ∧ (∀ b, F b → wr.heap.size ≤ b ∧ b < w''.heap.size) ∧ Below wr.heap.size wr w'') rfl (ed0 ..) (hc.mono fun e w' ⟨y, F, q1, q2, q3, q4⟩ => ⟨y, q1, F, q2, q3, q4⟩) ?_)
    rintro y3 w' ⟨F, q2, q3, q4⟩
    have hsz := q4.size
    have hsw := hb.size
    have n6 : ¬ l.getD 6 false = true := fun h6 => by rw [(h61 h6).1] at hn'; cases hn'
    refine ⟨by simp [hz], v0, y3, v2, v3, v5, v6, F, F4, g5, g6, i1 .., nxt hb q4, ?_⟩
    simp only [gs]
    refine ⟨fun _ => trivial, h2, fun _ => q2, fun h => Own.next n (h3 h) (fun b hb' => (hF4 b hb').2) q4, fun b hb' => ⟨by have := q3 b hb'; omega, (q3 b hb').2⟩, fun b hb' => ⟨(hF4 b hb').1, by have := (hF4 b hb').2; omega⟩, fun b hb' h' => by have := q3 b hb'; have := (hF4 b h').2; omega, ?_, ?_, h45, fun h6 => absurd (by simpa using h6) n6, h73⟩
    · intro h
      obtain ⟨r1, r2, r3, r4, r5⟩ := h4 h
      have hl := lt_of_block r5
      refine ⟨r1, r2, fun h' => by have := q3 _ h'; omega, r4, ?_⟩
      rw [q4.block _ hl, r5, if_neg n6, if_neg (by simpa using n6)]
    · intro h
      obtain ⟨r1, r2, r3, r4, r5⟩ := h5 h
      have hl := lt_of_block r5
      exact ⟨r1, r2, fun h' => by have := q3 _ h'; omega, r4, by rw [q4.block _ hl, r5]; rfl⟩
  · obtain ⟨c0, c1, c2, c3, c4, rfl, -⟩ := box_mk hy
    refine wpOp_of rfl rfl (op_load rfl (es1 ..) ((hb.block _ (lt_of_block hB)).trans hB) ?_)
    refine ⟨by simp [hz], v0, v1, _, v3, v5, v6, F3, F4, g5, g6, i2 .., hb, ?_⟩
    simp only [gs]
    exact ⟨h0, fun _ => trivial, h1, h3, hF3, hF4, hdis, h4, h5, h45, h61, h73⟩
  · have key : o.after = #[{ on := 2, ground := .data }, { on := 1, ground := .chain }] := by simp [op8] at ho; rw [← ho]
    rw [key] at hdep
    have e2 : v2 = y := h2 (hdep { on := 2, ground := .data } (by simp) rfl)
    subst e2
    have hc := copy_any n _ _ _ (Lay.below n hy hb)
    refine wpOp_of rfl rfl (op_call (R := fun y w'' => ∃ F, Own w'' n y v F ∧ (∀ b, F b → wr.heap.size ≤ b ∧ b < w''.heap.size) ∧ Below wr.heap.size wr w'') rfl (ed2 ..) (hc.mono fun e w' ⟨y, F, q1, q2, q3, q4⟩ => ⟨y, q1, F, q2, q3, q4⟩) ?_)
    rintro y4 w' ⟨F, q2, q3, q4⟩
    have hsz := q4.size
    have hsw := hb.size
    have n7 : ¬ l.getD 7 false = true := fun h7 => by rw [(h73 h7).1] at hn'; cases hn'
    refine ⟨by simp [hz], v0, v1, v2, y4, v5, v6, F3, F, g5, g6, i3 .., nxt hb q4, ?_⟩
    simp only [gs]
    refine ⟨h0, fun _ => trivial, fun h => Own.next n (h1 h) (fun b hb' => (hF3 b hb').2) q4, fun _ => q2, fun b hb' => ⟨(hF3 b hb').1, by have := (hF3 b hb').2; omega⟩, fun b hb' => ⟨by have := q3 b hb'; omega, (q3 b hb').2⟩, fun b hb' h' => by have := q3 b h'; have := (hF3 b hb').2; omega, ?_, ?_, h45, h61, fun h7 => absurd (by simpa using h7) n7⟩
    · intro h
      obtain ⟨r1, r2, r3, r4, r5⟩ := h4 h
      have hl := lt_of_block r5
      exact ⟨r1, r2, r3, fun h' => by have := q3 _ h'; omega, by rw [q4.block _ hl, r5]; rfl⟩
    · intro h
      obtain ⟨r1, r2, r3, r4, r5⟩ := h5 h
      have hl := lt_of_block r5
      refine ⟨r1, r2, r3, fun h' => by have := q3 _ h'; omega, ?_⟩
      rw [q4.block _ hl, r5, if_neg n7, if_neg (by simpa using n7)]
  · have n6 : ¬ l.getD 6 false = true := fun h6 => by rw [(h61 h6).2] at hn'; cases hn'
    refine wpOp_of rfl rfl (op_alloc rfl ?_)
    have ba := below_one wr (box zero5)
    have hsw := hb.size
    refine ⟨by simp [hz], v0, v1, v2, v3, _, v6, F3, F4, wr.heap.size, g6, i5 .., nxt hb ba, ?_⟩
    simp only [gs]
    refine ⟨h0, h2, fun h => Own.next n (h1 h) (fun b hb' => (hF3 b hb').2) ba, fun h => Own.next n (h3 h) (fun b hb' => (hF4 b hb').2) ba, fun b hb' => ⟨(hF3 b hb').1, by have := (hF3 b hb').2; have := ba.size; omega⟩, fun b hb' => ⟨(hF4 b hb').1, by have := (hF4 b hb').2; have := ba.size; omega⟩, hdis, ?_, ?_, ?_, fun h6 => absurd (by simpa using h6) n6, h73⟩
    · intro _
      refine ⟨trivial, hsw, fun h' => by have := (hF3 _ h').2; omega, fun h' => by have := (hF4 _ h').2; omega, ?_⟩
      rw [if_neg (by simpa using n6)]
      exact heap_alloc_new _ _
    · intro h
      obtain ⟨r1, r2, r3, r4, r5⟩ := h5 h
      exact ⟨r1, r2, r3, r4, by rw [ba.block _ (lt_of_block r5), r5]; rfl⟩
    · intro _ h
      have := lt_of_block (h5 h).2.2.2.2
      omega
  · have n7 : ¬ l.getD 7 false = true := fun h7 => by rw [(h73 h7).2] at hn'; cases hn'
    refine wpOp_of rfl rfl (op_alloc rfl ?_)
    have ba := below_one wr (box zero5)
    have hsw := hb.size
    refine ⟨by simp [hz], v0, v1, v2, v3, v5, _, F3, F4, g5, wr.heap.size, i6 .., nxt hb ba, ?_⟩
    simp only [gs]
    refine ⟨h0, h2, fun h => Own.next n (h1 h) (fun b hb' => (hF3 b hb').2) ba, fun h => Own.next n (h3 h) (fun b hb' => (hF4 b hb').2) ba, fun b hb' => ⟨(hF3 b hb').1, by have := (hF3 b hb').2; have := ba.size; omega⟩, fun b hb' => ⟨(hF4 b hb').1, by have := (hF4 b hb').2; have := ba.size; omega⟩, hdis, ?_, ?_, ?_, h61, fun h7 => absurd (by simpa using h7) n7⟩
    · intro h
      obtain ⟨r1, r2, r3, r4, r5⟩ := h4 h
      exact ⟨r1, r2, r3, r4, by rw [ba.block _ (lt_of_block r5), r5]; rfl⟩
    · intro _
      refine ⟨trivial, hsw, fun h' => by have := (hF3 _ h').2; omega, fun h' => by have := (hF4 _ h').2; omega, ?_⟩
      rw [if_neg (by simpa using n7)]
      exact heap_alloc_new _ _
    · intro h _
      have := lt_of_block (h4 h).2.2.2.2
      omega
  · have key : o.after = #[{ on := 4, ground := .data }, { on := 1, ground := .data }, { on := 3, ground := .chain }, { on := 0, ground := .phase }, { on := 1, ground := .phase }, { on := 2, ground := .textOnly .lateStores }, { on := 3, ground := .textOnly .lateStoresUnsure }, { on := 4, ground := .phase }, { on := 5, ground := .phase }] := by simp [op8] at ho; rw [← ho]
    rw [key] at hdep
    have la : l.getD 1 false = true := hdep { on := 1, ground := .data } (by simp) rfl
    have lb : l.getD 4 false = true := hdep { on := 4, ground := .data } (by simp) rfl
    obtain ⟨r1, r2, r3, r4, r5⟩ := h4 lb
    obtain ⟨c0, c1, c2, c3, c4, e, hone⟩ := box_mk (Own.lay n (h1 la))
    rw [if_neg (by rw [hn']; decide)] at r5
    obtain ⟨s1, s2, s3, s4, s5, s6⟩ := five_set (t := 29) r5 c0 c1 c2 c3 c4
    refine wpOp_of rfl rfl (op_store rfl ((ep ..).trans r1) ((ed1 ..).trans e) hone r5 ?_)
    have hb' : Below w.heap.size w (wr.setCells g5 0 [c0, c1, c2, c3, c4]) := ⟨s4.trans hb.os, s5.trans hb.tape, s6.trans hb.output, by rw [s3]; exact hb.size, fun k hk => (s2 k (by omega)).trans (hb.block k hk)⟩
    refine ⟨by simp [hz], v0, v1, v2, v3, v5, v6, F3, F4, g5, g6, rfl, hb', ?_⟩
    simp only [gs]
    rw [s3]
    refine ⟨h0, h2, fun h => Own.same n (h1 h) fun b hF => s2 b fun e' => r3 (by rw [← e']; exact hF), fun h => Own.same n (h3 h) fun b hF => s2 b fun e' => r4 (by rw [← e']; exact hF), hF3, hF4, hdis, ?_, ?_, h45, ?_, ?_⟩
    · intro _
      refine ⟨r1, r2, r3, r4, ?_⟩
      rw [if_pos (by simp), e]
      exact s1
    · intro h
      obtain ⟨q1, q2, q3, q4, q5⟩ := h5 h
      exact ⟨q1, q2, q3, q4, by rw [s2 _ (fun e' => h45 lb h e'.symm), q5]; rfl⟩
    · intro _
      exact ⟨la, lb⟩
    · exact h73
  · have key : o.after = #[{ on := 5, ground := .data }, { on := 3, ground := .data }, { on := 6, ground := .chain }, { on := 0, ground := .phase }, { on := 1, ground := .phase }, { on := 2, ground := .phase }, { on := 3, ground := .phase }, { on := 4, ground := .phase }, { on := 5, ground := .phase }, { on := 6, ground := .phase }] := by simp [op8] at ho; rw [← ho]
    rw [key] at hdep
    have la : l.getD 3 false = true := hdep { on := 3, ground := .data } (by simp) rfl
    have lb : l.getD 5 false = true := hdep { on := 5, ground := .data } (by simp) rfl
    obtain ⟨r1, r2, r3, r4, r5⟩ := h5 lb
    obtain ⟨c0, c1, c2, c3, c4, e, hone⟩ := box_mk (Own.lay n (h3 la))
    rw [if_neg (by rw [hn']; decide)] at r5
    obtain ⟨s1, s2, s3, s4, s5, s6⟩ := five_set (t := 29) r5 c0 c1 c2 c3 c4
    refine wpOp_of rfl rfl (op_store rfl ((eq ..).trans r1) ((ed3 ..).trans e) hone r5 ?_)
    have hb' : Below w.heap.size w (wr.setCells g6 0 [c0, c1, c2, c3, c4]) := ⟨s4.trans hb.os, s5.trans hb.tape, s6.trans hb.output, by rw [s3]; exact hb.size, fun k hk => (s2 k (by omega)).trans (hb.block k hk)⟩
    refine ⟨by simp [hz], v0, v1, v2, v3, v5, v6, F3, F4, g5, g6, rfl, hb', ?_⟩
    simp only [gs]
    rw [s3]
    refine ⟨h0, h2, fun h => Own.same n (h1 h) fun b hF => s2 b fun e' => r3 (by rw [← e']; exact hF), fun h => Own.same n (h3 h) fun b hF => s2 b fun e' => r4 (by rw [← e']; exact hF), hF3, hF4, hdis, ?_, ?_, h45, ?_, ?_⟩
    · intro h
      obtain ⟨q1, q2, q3, q4, q5⟩ := h4 h
      exact ⟨q1, q2, q3, q4, by rw [s2 _ (h45 h lb), q5]; rfl⟩
    · intro _
      refine ⟨r1, r2, r3, r4, ?_⟩
      rw [if_pos (by simp), e]
      exact s1
    · exact h61
    · intro _
      exact ⟨la, lb⟩

theorem all_listed {d0 d1 d2 d3 p q s0 s1 : Nat} {pos : String} {l : Array Bool} (hz : l.size = 8) (hr : Region.ready .any (op8 d0 d1 d2 d3 p q s0 s1 pos) l = []) :
    l.getD 0 false = true ∧ l.getD 1 false = true ∧ l.getD 2 false = true ∧ l.getD 3 false = true ∧ l.getD 4 false = true ∧ l.getD 5 false = true ∧ l.getD 6 false = true ∧ l.getD 7 false = true := by
  have key : ∀ i o, (op8 d0 d1 d2 d3 p q s0 s1 pos)[i]? = some o → (∀ e ∈ o.after, Region.binds .any e = true → l.getD e.on false = true) → l.getD i false = true := by
    intro i o ho hd
    have hlt : i < 8 := (Array.getElem?_eq_some_iff.1 ho).1
    cases h : l.getD i true with
    | false =>
      have : i ∈ Region.ready .any (op8 d0 d1 d2 d3 p q s0 s1 pos) l := mem_ready.2 ⟨h, o, ho, hd⟩
      rw [hr] at this
      cases this
    | true =>
      rw [Array.getD_eq_getD_getElem?, Array.getElem?_eq_getElem (by omega)] at h ⊢
      simpa using h
  have l0 := key 0 _ rfl (by simp [op8])
  have l2 := key 2 _ rfl (by simp [op8])
  have l4 := key 4 _ rfl (by simp [op8])
  have l5 := key 5 _ rfl (by simp [op8])
  have l1 := key 1 _ rfl (by intro e he _; simp [op8] at he; subst he; exact l0)
  have l3 := key 3 _ rfl (by intro e he _; simp [op8] at he; rcases he with rfl | rfl <;> assumption)
  have l6 := key 6 _ rfl (by intro e he _; simp [op8] at he; rcases he with rfl | rfl | rfl | rfl | rfl | rfl | rfl | rfl | rfl <;> assumption)
  have l7 := key 7 _ rfl (by intro e he _; simp [op8] at he; rcases he with rfl | rfl | rfl | rfl | rfl | rfl | rfl | rfl | rfl | rfl <;> assumption)
  exact ⟨l0, l1, l2, l3, l4, l5, l6, l7⟩

set_option maxRecDepth 100000 in
theorem pair_region {id : Nat} {n : Nat} {u v : V n} {x y : Value} {A B d0 d1 d2 d3 p q s0 s1 : Nat} {pos : String} {w : World} {Q : Exit → Act → World → Prop} (fr : Value → Value → Value → Value → Value → Value → Act)
    (i0 : ∀ v0 v1 v2 v3 v5 v6 z, (fr v0 v1 v2 v3 v5 v6).put (some d0) z = fr z v1 v2 v3 v5 v6) (i1 : ∀ v0 v1 v2 v3 v5 v6 z, (fr v0 v1 v2 v3 v5 v6).put (some d1) z = fr v0 z v2 v3 v5 v6)
    (i2 : ∀ v0 v1 v2 v3 v5 v6 z, (fr v0 v1 v2 v3 v5 v6).put (some d2) z = fr v0 v1 z v3 v5 v6) (i3 : ∀ v0 v1 v2 v3 v5 v6 z, (fr v0 v1 v2 v3 v5 v6).put (some d3) z = fr v0 v1 v2 z v5 v6)
    (i5 : ∀ v0 v1 v2 v3 v5 v6 z, (fr v0 v1 v2 v3 v5 v6).put (some p) z = fr v0 v1 v2 v3 z v6) (i6 : ∀ v0 v1 v2 v3 v5 v6 z, (fr v0 v1 v2 v3 v5 v6).put (some q) z = fr v0 v1 v2 v3 v5 z)
    (es0 : ∀ v0 v1 v2 v3 v5 v6, (fr v0 v1 v2 v3 v5 v6).eval (.tmp s0) = .pointer (some ⟨A, 0, none⟩)) (es1 : ∀ v0 v1 v2 v3 v5 v6, (fr v0 v1 v2 v3 v5 v6).eval (.tmp s1) = .pointer (some ⟨B, 0, none⟩))
    (ed0 : ∀ v0 v1 v2 v3 v5 v6, (fr v0 v1 v2 v3 v5 v6).eval (.tmp d0) = v0) (ed1 : ∀ v0 v1 v2 v3 v5 v6, (fr v0 v1 v2 v3 v5 v6).eval (.tmp d1) = v1)
    (ed2 : ∀ v0 v1 v2 v3 v5 v6, (fr v0 v1 v2 v3 v5 v6).eval (.tmp d2) = v2) (ed3 : ∀ v0 v1 v2 v3 v5 v6, (fr v0 v1 v2 v3 v5 v6).eval (.tmp d3) = v3)
    (ep : ∀ v0 v1 v2 v3 v5 v6, (fr v0 v1 v2 v3 v5 v6).eval (.tmp p) = v5) (eq : ∀ v0 v1 v2 v3 v5 v6, (fr v0 v1 v2 v3 v5 v6).eval (.tmp q) = v6)
    (hx : Lay w n x u) (hy : Lay w n y v) (hA : w.heap[A]? = some (box x)) (hB : w.heap[B]? = some (box y))
    (h : ∀ (y3 y4 : Value) (g5 g6 : Nat) (F3 F4 : Nat → Prop) (wx : World), Own wx n y3 u F3 → Own wx n y4 v F4 → wx.heap[g5]? = some (box y3) → wx.heap[g6]? = some (box y4) →
      (∀ b, F3 b → w.heap.size ≤ b ∧ b ≠ g5 ∧ b ≠ g6 ∧ ¬ F4 b) → (∀ b, F4 b → w.heap.size ≤ b ∧ b ≠ g5 ∧ b ≠ g6) → w.heap.size ≤ g5 → w.heap.size ≤ g6 → g5 ≠ g6 → Below w.heap.size w wx →
      Q .normal (fr x y3 y y4 (.pointer (some ⟨g5, 0, none⟩)) (.pointer (some ⟨g6, 0, none⟩))) wx) :
    (Code.region id (op8 d0 d1 d2 d3 p q s0 s1 pos) true).wp Tryz.prog Q (fr undef undef undef undef undef undef) w := by
  refine wp_region_any (by kernel_rfl) ?_
  refine wpAny_inv (ops := op8 d0 d1 d2 d3 p q s0 s1 pos) (J := PJ u v x y fr w) (fun l a wr hJ => hJ.1) (fun l a wr i hJ hi => pair_step fr i0 i1 i2 i3 i5 i6 es0 es1 ed0 ed1 ed2 ed3 ep eq hx hy hA hB l a wr i hJ hi) ?_ _ _ _ _ ?_ ?_
  · rintro l a wr ⟨hz, v0, v1, v2, v3, v5, v6, F3, F4, g5, g6, rfl, hb, h0, h2, h1, h3, hF3, hF4, hdis, h4, h5, h45, h61, h73⟩ hr
    obtain ⟨l0, l1, l2, l3, l4, l5, l6, l7⟩ := all_listed hz hr
    obtain ⟨r1, r2, r3, r4, r5⟩ := h4 l4
    obtain ⟨q1, q2, q3, q4, q5⟩ := h5 l5
    rw [if_pos l6] at r5
    rw [if_pos l7] at q5
    have e0 := h0 l0
    have e2 := h2 l2
    subst e0 e2 r1 q1
    exact h _ _ _ _ F3 F4 wr (h1 l1) (h3 l3) r5 q5 (fun b hF => ⟨(hF3 b hF).1, fun e => r3 (by rw [← e]; exact hF), fun e => q3 (by rw [← e]; exact hF), hdis b hF⟩)
      (fun b hF => ⟨(hF4 b hF).1, fun e => r4 (by rw [← e]; exact hF), fun e => q4 (by rw [← e]; exact hF)⟩) r2 q2 (h45 l4 l5) hb
  · refine ⟨rfl, undef, undef, undef, undef, undef, undef, fun _ => False, fun _ => False, 0, 0, rfl, (Below.refl _ _).drew, ?_⟩
    have none8 : ∀ j, (Array.replicate (op8 d0 d1 d2 d3 p q s0 s1 pos).size false).getD j false = false := by
      intro j
      rw [Array.getD_eq_getD_getElem?]
      by_cases hj : j < (Array.replicate (op8 d0 d1 d2 d3 p q s0 s1 pos).size false).size
      · rw [Array.getElem?_eq_getElem hj]; simp
      · rw [Array.getElem?_eq_none (by omega)]; rfl
    simp only [none8]
    simp
  · exact Nat.le_refl 8
end Go.Proofs.YtndclldicdfmeaaGreat
