/-
  The same law for the frame that stands in the goal: the slots that the region's operations write are set one by one; what the operations read is looked up through them.
-/
import Derived.Test.YtchohjbiiaddmaaRgBox
namespace Go.Proofs.Ytchohjbiiaddmaa.Rg
open Go.ChangeShapes Go.WideShapes Go.ChangeAt Go.RowKit

/-- The slots ds of a frame, set to what f says. -/
def setAll : List (Option Tmp) → Nat → (Nat → Value) → Array Value → Array Value
  | [], _, _, t => t
  | none :: r, i, f, t => setAll r (i + 1) f t
  | some d :: r, i, f, t => setAll r (i + 1) f (t.setIfInBounds d (f i))

/-- No slot is set twice. -/
def Once (ds : List (Option Tmp)) : Prop := ∀ (j k : Nat) (d : Tmp), ds[j]? = some (some d) → ds[k]? = some (some d) → j = k
theorem Once.tail {x : Option Tmp} {r : List (Option Tmp)} (h : Once (x :: r)) : Once r := fun j k d h1 h2 => by
  have := h (j + 1) (k + 1) d (by simpa using h1) (by simpa using h2)
  omega

theorem setAll_size : ∀ (ds : List (Option Tmp)) (i : Nat) (f : Nat → Value) (t : Array Value), (setAll ds i f t).size = t.size
  | [], _, _, _ => rfl
  | none :: r, i, f, t => setAll_size r (i + 1) f t
  | some d :: r, i, f, t => by
    unfold setAll
    rw [setAll_size r (i + 1) f]
    simp

theorem setAll_out : ∀ (ds : List (Option Tmp)) (i : Nat) (f : Nat → Value) (t : Array Value) (s : Tmp), (∀ k : Nat, ds[k]? ≠ some (some s)) → (setAll ds i f t)[s]? = t[s]?
  | [], _, _, _, _, _ => rfl
  | none :: r, i, f, t, s, h => setAll_out r (i + 1) f t s fun k => by have := h (k + 1); simpa using this
  | some d :: r, i, f, t, s, h => by
    unfold setAll
    rw [setAll_out r (i + 1) f _ s fun k => by have := h (k + 1); simpa using this]
    have hne : d ≠ s := fun e => h 0 (by simp [e])
    rw [Array.getElem?_setIfInBounds, if_neg hne]

theorem setAll_in : ∀ (ds : List (Option Tmp)) (i : Nat) (f : Nat → Value) (t : Array Value) (s : Tmp) (k : Nat), Once ds → ds[k]? = some (some s) → s < t.size → (setAll ds i f t)[s]? = some (f (i + k))
  | [], _, _, _, _, _, _, h, _ => by simp at h
  | none :: r, i, f, t, s, 0, ho, h, hs => by simp at h
  | none :: r, i, f, t, s, k + 1, ho, h, hs => by
    unfold setAll
    rw [setAll_in r (i + 1) f t s k ho.tail (by simpa using h) hs]
    congr 2
    omega
  | some d :: r, i, f, t, s, 0, ho, h, hs => by
    have e : d = s := by simpa using h
    subst e
    unfold setAll
    rw [setAll_out r (i + 1) f _ d fun k hk => by have := ho 0 (k + 1) d (by simp) (by simpa using hk); omega]
    rw [Array.getElem?_setIfInBounds, if_pos rfl, if_pos hs]
    rfl
  | some d :: r, i, f, t, s, k + 1, ho, h, hs => by
    unfold setAll
    rw [setAll_in r (i + 1) f _ s k ho.tail (by simpa using h) (by simpa using hs)]
    congr 2
    omega

theorem slot_of (ds : List (Option Tmp)) (s : Tmp) : (∃ k : Nat, ds[k]? = some (some s)) ∨ ∀ k : Nat, ds[k]? ≠ some (some s) := by
  by_cases h : ∃ k : Nat, ds[k]? = some (some s)
  · exact Or.inl h
  · exact Or.inr fun k hk => h ⟨k, hk⟩

theorem setAll_set {ds : List (Option Tmp)} (ho : Once ds) (f : Nat → Value) (t : Array Value) {k : Nat} {s : Tmp} (hk : ds[k]? = some (some s)) (v : Value) : (setAll ds 0 f t).setIfInBounds s v = setAll ds 0 (upd f k v) t := by
  apply Array.ext_getElem?
  intro q
  rw [Array.getElem?_setIfInBounds, setAll_size]
  by_cases hq : s = q
  · subst hq
    rw [if_pos rfl]
    by_cases hs : s < t.size
    · rw [if_pos hs, setAll_in ds 0 (upd f k v) t s k ho hk hs, Nat.zero_add, upd_same]
    · rw [if_neg hs]
      exact (Array.getElem?_eq_none (by rw [setAll_size]; exact Nat.le_of_not_lt hs)).symm
  · rw [if_neg hq]
    by_cases hs : q < t.size
    · rcases slot_of ds q with ⟨j, hj⟩ | hj
      · rw [setAll_in ds 0 _ t q j ho hj hs, setAll_in ds 0 _ t q j ho hj hs, Nat.zero_add, upd_other]
        rintro rfl
        rw [hk] at hj
        simp at hj
        exact hq hj
      · rw [setAll_out ds 0 _ t q hj, setAll_out ds 0 _ t q hj]
    · rw [Array.getElem?_eq_none (by rw [setAll_size]; omega), Array.getElem?_eq_none (by rw [setAll_size]; omega)]

/-- What stands in the slots to begin with. -/
def first (ds : List (Option Tmp)) (t : Array Value) (i : Nat) : Value := match ds[i]? with
  | some (some d) => t.getD d undef
  | _ => undef

theorem setAll_first {ds : List (Option Tmp)} (ho : Once ds) (t : Array Value) : setAll ds 0 (first ds t) t = t := by
  apply Array.ext_getElem?
  intro q
  by_cases hs : q < t.size
  · rcases slot_of ds q with ⟨j, hj⟩ | hj
    · rw [setAll_in ds 0 _ t q j ho hj hs, Nat.zero_add]
      unfold first
      rw [hj]
      simp [hs]
    · rw [setAll_out ds 0 _ t q hj]
  · rw [Array.getElem?_eq_none (by rw [setAll_size]; omega), Array.getElem?_eq_none (by omega)]

theorem setAll_congr : ∀ (ds : List (Option Tmp)) (i : Nat) (f f' : Nat → Value) (t : Array Value), (∀ k d, ds[k]? = some (some d) → f (i + k) = f' (i + k)) → setAll ds i f t = setAll ds i f' t
  | [], _, _, _, _, _ => rfl
  | none :: r, i, f, f', t, h => setAll_congr r (i + 1) f f' t fun k d hk => by have := h (k + 1) d (by simpa using hk); rwa [show i + (k + 1) = i + 1 + k by omega] at this
  | some d :: r, i, f, f', t, h => by
    unfold setAll
    have h0 : f i = f' i := by simpa using h 0 d (by simp)
    rw [h0]
    exact setAll_congr r (i + 1) f f' _ fun k d hk => by have := h (k + 1) d (by simpa using hk); rwa [show i + (k + 1) = i + 1 + k by omega] at this

/-- The slots that the operations write. -/
def dsts (ops : Array Oper) : List (Option Tmp) := ops.toList.map (·.dst)
theorem dsts_at {ops : Array Oper} {i : Nat} {o : Oper} (h : ops[i]? = some o) : (dsts ops)[i]? = some o.dst := by
  unfold dsts
  rw [List.getElem?_map, Array.getElem?_toList, h]
  rfl

/-- How the region is made: no guard; each operation waits for earlier ones alone; each but the store has a slot of its own; what comes behind the call waits for it; the store waits for the variable and for what it stores. -/
def opB (ops : Array Oper) (ic ia is ix : Nat) (pre : Nat → Bool) (sz i : Nat) (o : Oper) : Bool :=
  o.guard.isNone && (o.after.all fun e => !Region.binds .any e || decide (e.on < i)) &&
  (if i = is then o.dst.isNone && (o.after.any fun e => Region.binds .any e && e.on == ia) && (o.after.any fun e => Region.binds .any e && e.on == ix)
   else match o.dst with
    | some d => decide (d < sz) && (List.range ops.size).all fun j => decide (j = i) || (dsts ops)[j]? != some (some d)
    | none => false) &&
  (if i = ic then o.after.all fun e => !Region.binds .any e || (e.on != ia && e.on != is && pre e.on)
   else if i = ia then true else if i = is then true else if pre i = true then true else o.after.any fun e => Region.binds .any e && (e.on == ic || (e.on != ic && e.on != ia && e.on != is && !pre e.on)))

def shapeB (ops : Array Oper) (ic ia is ix : Nat) (pre : Nat → Bool) (sz : Nat) : Bool :=
  decide (ic < ops.size ∧ ia < ops.size ∧ is < ops.size ∧ ic ≠ ia ∧ ic ≠ is ∧ ia ≠ is ∧ ix ≠ ic ∧ ix ≠ ia ∧ ix ≠ is) && !pre ix &&
  (List.range ops.size).all fun i => match ops[i]? with
    | some o => opB ops ic ia is ix pre sz i o
    | none => true

/-- For each number below n. -/
def Each : Nat → (Nat → Prop) → Prop
  | 0, _ => True
  | n + 1, p => Each n p ∧ p n
theorem Each.at : ∀ {n : Nat} {p : Nat → Prop}, Each n p → ∀ i, i < n → p i
  | n + 1, p, h, i, hi => by
    by_cases e : i = n
    · subst e; exact h.2
    · exact Each.at h.1 i (by omega)

/-- What a reading operation sees: the slots that are not written by the region; what it waits for. -/
structure Sees (ops : Array Oper) (ia is : Nat) (a0 : Act) (val : Value → Nat → Value) (y : Value) (o : Oper) (ρ : Operand → Value) : Prop where
  old : ∀ s : Tmp, (∀ k : Nat, (dsts ops)[k]? ≠ some (some s)) → ρ (.tmp s) = a0.eval (.tmp s)
  got : ∀ e ∈ o.after, Region.binds .any e = true → e.on ≠ ia → e.on ≠ is → ∀ d, (dsts ops)[e.on]? = some (some d) → ρ (.tmp d) = val y e.on
  con : ∀ c, ρ (.const c) = c
  fn : ∀ f, ρ (.func f) = .func (.func f) #[] #[]

theorem boxed_call {P : Program} {id : Nat} {ops : Array Oper} {w : World} {Q : Exit → Act → World → Prop} {a0 : Act} (hm : P.follows .mixedOrders = true)
    (ic ia is ix sz sp sx : Nat) (pre : Nat → Bool) (val : Value → Nat → Value) (T : TypeId) (Z : Array Value) (cs : Value → Array Value) (R : Value → (Nat → Prop) → World → Prop)
    (hshape : shapeB ops ic ia is ix pre sz = true) (hsz0 : a0.tmps.size = sz)
    (hpre : ∀ y y' i, pre i = true → val y i = val y' i) (hvc : ∀ y, val y ic = y)
    (hplain : Each ops.size fun i => i ≠ ic → i ≠ ia → i ≠ is → ∀ o, ops[i]? = some o → ∀ (ρ : Operand → Value) (y : Value) (H : Nat → Prop) (wr : World), Below w.heap.size w wr → Sees ops ia is a0 val y o ρ → (pre i = false → R y H wr) → (execOp ρ o).run P wr = .ok (.value (val y i)) wr)
    (hcall : ∀ o, ops[ic]? = some o → ∀ (ρ : Operand → Value) (wr : World), Below w.heap.size w wr → (∀ y, Sees ops ia is a0 val y o ρ) → ∃ fn args, (execOp ρ o).run P wr = .ok (.enter fn args) wr ∧ Calls P fn args wr fun e wr' => ∃ y H, e = .returned y ∧ R y H wr' ∧ Below wr.heap.size wr wr' ∧ ∀ b, H b → wr.heap.size ≤ b ∧ b < wr'.heap.size)
    (halloc : ∀ o, ops[ia]? = some o → ∀ (ρ : Operand → Value) (wr : World), (execOp ρ o).run P wr = .ok (.value (.pointer (some ⟨wr.heap.size, 0, none⟩))) (wr.alloc (.cells Z T)))
    (hstore : ∀ o, ops[is]? = some o → o.op = .store T (.tmp sp) (.tmp sx)) (hsp : (dsts ops)[ia]? = some (some sp)) (hsx : (dsts ops)[ix]? = some (some sx))
    (hcs : ∀ y H wr, R y H wr → val y ix = .agg (cs y) ∧ (cs y).size = Z.size ∧ (cs y).all (·.oneCell') = true) (hsz : (P.info? T).map (·.size) = some Z.size)
    (hR : ∀ y H wr wr', R y H wr → (∀ b, H b → wr'.heap[b]? = wr.heap[b]?) → R y H wr')
    (h : ∀ y H g wr, R y H wr → (∀ b, H b → w.heap.size ≤ b ∧ b < wr.heap.size ∧ b ≠ g) → w.heap.size ≤ g → wr.heap[g]? = some (.cells (cs y) T (0, 0)) → Below w.heap.size w wr →
      Q .normal { a0 with tmps := setAll (dsts ops) 0 (fun i => if i = ia then .pointer (some ⟨g, 0, none⟩) else val y i) a0.tmps } wr) :
    (Code.region id ops true).wp P Q a0 w := by
  unfold shapeB at hshape
  simp only [Bool.and_eq_true, decide_eq_true_eq, List.all_eq_true, List.mem_range, Bool.not_eq_true'] at hshape
  obtain ⟨⟨⟨lc, la, ls, n1, n2, n3, n4, n5, n6⟩, hpx⟩, hall⟩ := hshape
  have key : ∀ (i : Nat) (o : Oper), ops[i]? = some o → opB ops ic ia is ix pre sz i o = true := fun i o ho => by
    have := hall i (Array.getElem?_eq_some_iff.1 ho).1
    rwa [ho] at this
  have kg : ∀ (i : Nat) (o : Oper), ops[i]? = some o → o.guard = none := fun i o ho => by
    have := key i o ho
    unfold opB at this
    simp only [Bool.and_eq_true] at this
    exact Option.isNone_iff_eq_none.1 this.1.1.1
  have ko : ∀ (i : Nat) (o : Oper), ops[i]? = some o → ∀ e ∈ o.after, Region.binds .any e = true → e.on < i := fun i o ho e he hbd => by
    have := key i o ho
    unfold opB at this
    simp only [Bool.and_eq_true] at this
    have := Array.all_eq_true_iff_forall_mem.1 this.1.1.2 e he
    simpa [hbd] using this
  have kd : ∀ (i : Nat) (o : Oper), ops[i]? = some o → i ≠ is → ∃ d, o.dst = some d ∧ d < sz ∧ ∀ j, (dsts ops)[j]? = some (some d) → j = i := fun i o ho hi => by
    have := key i o ho
    unfold opB at this
    simp only [Bool.and_eq_true, if_neg hi] at this
    have h3 := this.1.2
    cases hd : o.dst with
    | none => rw [hd] at h3; simp at h3
    | some d =>
      rw [hd] at h3
      simp only [Bool.and_eq_true, decide_eq_true_eq, List.all_eq_true, List.mem_range, Bool.or_eq_true, bne_iff_ne, ne_eq] at h3
      refine ⟨d, rfl, h3.1, fun j hj => ?_⟩
      have hlt : j < ops.size := by
        have := (List.getElem?_eq_some_iff.1 hj).1
        simpa [dsts] using this
      rcases h3.2 j hlt with e | e
      · exact e
      · exact absurd hj e
  have ks : ∀ (o : Oper), ops[is]? = some o → o.dst = none ∧ (∃ e ∈ o.after, Region.binds .any e = true ∧ e.on = ia) ∧ (∃ e ∈ o.after, Region.binds .any e = true ∧ e.on = ix) := fun o ho => by
    have := key is o ho
    unfold opB at this
    simp only [Bool.and_eq_true, if_true] at this
    obtain ⟨⟨h1, h2⟩, h3⟩ := this.1.2
    obtain ⟨e, he, hp⟩ := Array.any_eq_true'.1 h2
    obtain ⟨e', he', hp'⟩ := Array.any_eq_true'.1 h3
    simp only [Bool.and_eq_true, beq_iff_eq] at hp hp'
    exact ⟨Option.isNone_iff_eq_none.1 h1, ⟨e, he, hp⟩, ⟨e', he', hp'⟩⟩
  have once : Once (dsts ops) := fun j k d hj hk => by
    have hlt : k < ops.size := by
      have := (List.getElem?_eq_some_iff.1 hk).1
      simpa [dsts] using this
    obtain ⟨o, ho⟩ : ∃ o, ops[k]? = some o := ⟨_, Array.getElem?_eq_getElem hlt⟩
    have hdk := dsts_at ho
    rw [hk] at hdk
    simp only [Option.some.injEq] at hdk
    by_cases e : k = is
    · subst e
      rw [(ks o ho).1] at hdk
      cases hdk
    · obtain ⟨d', h1, -, h3⟩ := kd k o ho e
      rw [h1] at hdk
      simp only [Option.some.injEq] at hdk
      subst hdk
      exact h3 j hj
  have inb : ∀ (k : Nat) (d : Tmp), (dsts ops)[k]? = some (some d) → d < a0.tmps.size := fun k d hk => by
    have hlt : k < ops.size := by
      have := (List.getElem?_eq_some_iff.1 hk).1
      simpa [dsts] using this
    obtain ⟨o, ho⟩ : ∃ o, ops[k]? = some o := ⟨_, Array.getElem?_eq_getElem hlt⟩
    have hdk := dsts_at ho
    rw [hk] at hdk
    simp only [Option.some.injEq] at hdk
    by_cases e : k = is
    · subst e
      rw [(ks o ho).1] at hdk
      cases hdk
    · obtain ⟨d', h1, h2, -⟩ := kd k o ho e
      rw [h1] at hdk
      simp only [Option.some.injEq] at hdk
      subst hdk
      rw [hsz0]
      exact h2
  have ev : ∀ (f : Nat → Value) (k : Nat) (d : Tmp), (dsts ops)[k]? = some (some d) → ({ a0 with tmps := setAll (dsts ops) 0 f a0.tmps } : Act).eval (.tmp d) = f k := fun f k d hk => by
    show (setAll (dsts ops) 0 f a0.tmps).getD d undef = f k
    rw [Array.getD_eq_getD_getElem?, setAll_in _ 0 f _ d k once hk (inb k d hk), Nat.zero_add]
    rfl
  have sees : ∀ (f : Nat → Value) (y : Value) (o : Oper), (∀ e ∈ o.after, Region.binds .any e = true → e.on ≠ ia → e.on ≠ is → f e.on = val y e.on) → Sees ops ia is a0 val y o ({ a0 with tmps := setAll (dsts ops) 0 f a0.tmps } : Act).eval := fun f y o hd =>
    ⟨fun s hs => by
      show (setAll (dsts ops) 0 f a0.tmps).getD s undef = a0.tmps.getD s undef
      rw [Array.getD_eq_getD_getElem?, Array.getD_eq_getD_getElem?, setAll_out _ 0 f _ s hs], fun e he hb h1 h2 d hd' => (ev f e.on d hd').trans (hd e he hb h1 h2), fun c => rfl, fun f => rfl⟩
  have hF : a0 = { a0 with tmps := setAll (dsts ops) 0 (first (dsts ops) a0.tmps) a0.tmps } := by
    rw [setAll_first once]
  rw [hF]
  refine boxed_region (w := w) hm (fun f => { a0 with tmps := setAll (dsts ops) 0 f a0.tmps }) (first (dsts ops) a0.tmps) ic ia is ix pre val T Z cs R ⟨n1, n2, n3, n4, n5, n6⟩ hpx kg ko ?hput ?hpost hpre hvc ?hplain ?hcall ?halloc ?hstore hcs hsz hR ?hhave ?h
  case hput =>
    intro i o ho hi f v
    obtain ⟨d, hd, -, -⟩ := kd i o ho hi
    rw [hd]
    show ({ a0 with tmps := (setAll (dsts ops) 0 f a0.tmps).setIfInBounds d v } : Act) = _
    rw [setAll_set once f _ (k := i) (by rw [dsts_at ho, hd]) v]
  case hpost =>
    intro i o ho h1 h2 h3 hp
    have := key i o ho
    unfold opB at this
    simp only [Bool.and_eq_true, if_neg h1, if_neg h2, if_neg h3, hp] at this
    obtain ⟨e, he, hq⟩ := Array.any_eq_true'.1 this.2
    simp only [Bool.and_eq_true, Bool.or_eq_true, beq_iff_eq, bne_iff_ne, ne_eq, Bool.not_eq_true'] at hq
    refine ⟨e, he, hq.1, ?_⟩
    rcases hq.2 with q | q
    · exact Or.inl q
    · exact Or.inr ⟨q.1.1.1, q.1.1.2, q.1.2, q.2⟩
  case hplain =>
    intro i o ho h1 h2 h3 f y H wr K hb hd hr hK
    have := hplain.at i (Array.getElem?_eq_some_iff.1 ho).1 h1 h2 h3 o ho _ y H wr hb (sees f y o hd) hr
    unfold Oper.wp
    rw [this]
    exact hK
  case hcall =>
    intro o ho
    refine ⟨fun e he hb => ?_, fun f wr K hb hd hK => ?_⟩
    · have := key ic o ho
      unfold opB at this
      simp only [Bool.and_eq_true, if_true] at this
      have := Array.all_eq_true_iff_forall_mem.1 this.2 e he
      simp only [Bool.or_eq_true, hb, Bool.and_eq_true, bne_iff_ne, ne_eq] at this
      rcases this with q | q
      · simp at q
      · exact ⟨q.1.1, q.1.2, q.2⟩
    · obtain ⟨fn, args, hrun, hc⟩ := hcall o ho _ wr hb fun y => sees f y o fun e he hbd _ _ => hd e he hbd y
      unfold Oper.wp
      rw [hrun, Oper.upon_enter]
      refine hc.mono fun e wr' he => ?_
      obtain ⟨y, H, rfl, r1, r2, r3⟩ := he
      exact hK y H wr' r1 r2 r3
  case halloc =>
    intro o ho f wr K hK
    unfold Oper.wp
    rw [halloc o ho]
    exact hK
  case hstore =>
    intro o ho
    obtain ⟨k1, k2, k3⟩ := ks o ho
    exact ⟨k2, k3, k1, sp, sx, hstore o ho, fun f => ⟨ev f ia sp hsp, ev f ix sx hsx⟩⟩
  case hhave => exact ⟨⟨_, Array.getElem?_eq_getElem lc⟩, ⟨_, Array.getElem?_eq_getElem la⟩, ⟨_, Array.getElem?_eq_getElem ls⟩⟩
  case h =>
    intro f y H g wr hf hfa hr hH hg hbk hb
    have e : setAll (dsts ops) 0 f a0.tmps = setAll (dsts ops) 0 (fun i => if i = ia then .pointer (some ⟨g, 0, none⟩) else val y i) a0.tmps := by
      refine setAll_congr _ 0 _ _ _ fun k d hk => ?_
      rw [Nat.zero_add]
      have hlt : k < ops.size := by
        have := (List.getElem?_eq_some_iff.1 hk).1
        simpa [dsts] using this
      by_cases e1 : k = ia
      · rw [e1, hfa]
        simp
      · by_cases e2 : k = is
        · obtain ⟨o, ho⟩ : ∃ o, ops[k]? = some o := ⟨_, Array.getElem?_eq_getElem hlt⟩
          have hdk := dsts_at ho
          rw [hk] at hdk
          rw [e2] at ho
          rw [(ks o ho).1] at hdk
          simp at hdk
        · rw [if_neg e1]
          exact hf k hlt e1 e2
    rw [e]
    exact h y H g wr hr hH hg hbk hb
end Go.Proofs.Ytchohjbiiaddmaa.Rg
