/-
  What the laws need besides: boxes in variables; boxes that may be stay so; rows of effects.
-/
import Derived.Test.YtfdbhojghkdlkaaJ15
import Derived.Test.YtfdbhojghkdlkaaVaFrame
namespace Go.Proofs.Ytfdbhojghkdlkaa
open Go.ChangeShapes Go.WideShapes Go.ChangeAt Go.RowKit

theorem okT_mono {n : Nat} {L L' : Int} (hL : L ≤ L') : ∀ {its : List (Tm n)} {lo lo' : Int}, lo' ≤ lo → okT L lo its = true → okT L' lo' its = true
  | [], _, _, _, _ => rfl
  | u :: r, lo, lo', hlo, h => by
    obtain ⟨h1, h2, h3, h4⟩ := okT_cons.1 h
    exact okT_cons.2 ⟨by omega, by omega, h3, okT_mono hL (Int.le_refl _) h4⟩

theorem okT_app {n : Nat} {L B : Int} {r : List (Tm n)} (hr : okT L B r = true) : ∀ {its : List (Tm n)} {lo : Int}, lo ≤ B → okT L lo its = true → (∀ u ∈ its, u.1 < B) → okT L lo (its ++ r) = true
  | [], _, hlo, _, _ => okT_mono (Int.le_refl _) hlo hr
  | u :: t, lo, hlo, h, hB => by
    obtain ⟨h1, h2, h3, h4⟩ := okT_cons.1 h
    have := hB u (by simp)
    exact okT_cons.2 ⟨h1, h2, h3, okT_app hr (by omega) h4 fun x hx => hB x (by simp [hx])⟩

theorem okT_nums {n : Nat} (s : Int) : ∀ (l : List (Ef n)) (k : Nat), (∀ u ∈ l, effE u.1 u.2 = 0) → k + l.length ≤ 32 → okT s (32 * s + k) (nums s k l) = true
  | [], _, _, _ => rfl
  | u :: r, k, h, hk => by
    simp only [List.length_cons] at hk
    refine okT_cons.2 ⟨Int.le_refl _, by simp only; omega, h u (by simp), ?_⟩
    have := okT_nums s r (k + 1) (fun x hx => h x (by simp [hx])) (by omega)
    rwa [show (32 * s + (k : Int) + 1 : Int) = 32 * s + ((k + 1 : Nat) : Int) by omega]

/-- What is added may be. -/
theorem add_ok {n : Nat} {L s : Int} {its : List (Tm n)} {l : List (Ef n)} (h0 : chkB L its = 0) (h1 : evE L s l = 0) (h2 : its.length + l.length ≤ 256) : chkB s (its ++ nums s 0 l) = 0 := by
  obtain ⟨e1, e2, e3, e4⟩ := chkB_ok h0
  obtain ⟨f1, f2, f3, f4⟩ := evE_ok h1
  unfold chkB
  rw [if_pos]
  refine ⟨by omega, f2, by rw [List.length_append, nums_length]; exact h2, ?_⟩
  have hn := okT_nums s l 0 (effsE_ok f4) (by omega)
  refine okT_app hn (by omega) (okT_mono (by omega) (Int.le_refl _) e4) fun u hu => ?_
  have := (okT_mem e4 u hu).2.1
  omega

theorem okT_filter {n : Nat} {L : Int} (p : Tm n → Bool) : ∀ {its : List (Tm n)} {lo : Int}, okT L lo its = true → okT L lo (its.filter p) = true
  | [], _, _ => rfl
  | u :: r, lo, h => by
    obtain ⟨h1, h2, h3, h4⟩ := okT_cons.1 h
    rw [List.filter_cons]
    split
    · exact okT_cons.2 ⟨h1, h2, h3, okT_filter p h4⟩
    · exact okT_mono (Int.le_refl _) (by omega) (okT_filter p h4)

theorem rem_ok {n : Nat} {L id : Int} {its : List (Tm n)} (h0 : chkB L its = 0) : chkB L (rem id its) = 0 := by
  obtain ⟨e1, e2, e3, e4⟩ := chkB_ok h0
  unfold chkB
  rw [if_pos]
  exact ⟨e1, e2, Nat.le_trans (List.length_filter_le _ _) e3, okT_filter _ e4⟩

/-- Items of a box that may be keep to what items do. -/
theorem tm_ok {n : Nat} {L : Int} {its : List (Tm n)} (h0 : chkB L its = 0) : (∀ u ∈ its, TmOk u) ∧ its.length * 104 ≤ 140737488351232 := by
  obtain ⟨e1, e2, e3, e4⟩ := chkB_ok h0
  refine ⟨fun u hu => ?_, by omega⟩
  obtain ⟨h1, h2, h3⟩ := okT_mem e4 u hu
  have := (effE_chk h3).2.2
  exact ⟨⟨by omega, by omega⟩, by omega⟩

/-- A box in a variable P: its items lie from B on, apart from it. -/
def BoxV {n : Nat} (wr : World) (B P : Nat) (L : Int) (its : List (Tm n)) : Prop := ∃ a c H, wr.heap[P]? = some (.cells #[.int .i64 L, .slice a its.length c] 26 (0, 0)) ∧ OwnR (shT n) wr (.slice a its.length c) its H ∧ ∀ b, H b → B ≤ b ∧ b ≠ P ∧ b < wr.heap.size

theorem BoxV.below {n : Nat} {wr wr' : World} {B P : Nat} {L : Int} {its : List (Tm n)} (h : BoxV wr B P L its) (hb : Below wr.heap.size wr wr') : BoxV wr' B P L its := by
  obtain ⟨a, c, H, h1, h2, h3⟩ := h
  have := hb.size
  exact ⟨a, c, H, (hb.block _ (lt_of_block h1)).trans h1, h2.same fun b hb' => hb.block b (h3 b hb').2.2, fun b hb' => ⟨(h3 b hb').1, (h3 b hb').2.1, by have := (h3 b hb').2.2; omega⟩⟩

theorem BoxV.lt {n : Nat} {wr : World} {B P : Nat} {L : Int} {its : List (Tm n)} (h : BoxV wr B P L its) : P < wr.heap.size := by
  obtain ⟨a, c, H, h1, _⟩ := h
  exact lt_of_block h1

/-- What is read of it. -/
theorem BoxV.read {n : Nat} {wr : World} {B P : Nat} {L : Int} {its : List (Tm n)} (h : BoxV wr B P L its) (h0 : chkB L its = 0) :
    ∃ a c, wr.cell? ⟨P, 0, none⟩ = some (.int .i64 L) ∧ wr.cell? ⟨P, 1, none⟩ = some (.slice a its.length c) ∧ wr.frozen? ⟨P, 0, none⟩ = false ∧ wr.frozen? ⟨P, 1, none⟩ = false ∧ TIs wr n a c its := by
  obtain ⟨a, c, H, h1, h2, h3⟩ := h
  obtain ⟨a', c', e, t⟩ := h2.tis (tm_ok h0).2 (tm_ok h0).1
  simp only [Value.slice.injEq] at e
  obtain ⟨rfl, -, rfl⟩ := e
  exact ⟨a, c, (cell_of h1 0).1, (cell_of h1 1).1, (cell_of h1 0).2, (cell_of h1 1).2, t⟩

/-- A row in new memory, put into a new variable. -/
theorem BoxV.newest {n : Nat} {w1 w2 : World} {L : Int} {its : List (Tm n)} {a : Option Addr} {c : Nat} {H : Nat → Prop} (h : CopyInv (shT n) w1 w2 (.slice a its.length c) its H) : BoxV (w2.alloc (.cells #[.int .i64 L, .slice a its.length c] 26)) w1.heap.size w2.heap.size L its :=
  ⟨a, c, H, heap_alloc_new _ _, h.1.same fun b hb => Below.heap_alloc _ _ _ (h.2.1 b hb).2, fun b hb => ⟨(h.2.1 b hb).1, by have := (h.2.1 b hb).2; omega, by have := (h.2.1 b hb).2; simp; omega⟩⟩

theorem BoxV.empty {n : Nat} (w2 : World) (B : Nat) (L : Int) : BoxV (n := n) (w2.alloc (.cells #[.int .i64 L, .slice none 0 0] 26)) B w2.heap.size L [] :=
  ⟨none, 0, fun _ => False, heap_alloc_new _ _, OwnR.nil _ _, fun _ hb => hb.elim⟩

theorem set2_cells {w : World} {g : Nat} {x y : Value} {t : TypeId} (h : w.heap[g]? = some (.cells #[x, y] t (0, 0))) (v0 v1 : Value) : ((w.setCell ⟨g, 0, none⟩ v0).setCell ⟨g, 1, none⟩ v1).heap[g]? = some (.cells #[v0, v1] t (0, 0)) := by
  simp [World.setCell, Array.getElem?_modify, h]

/-- A row in new memory, put into a variable that was there. -/
theorem BoxV.put {n : Nat} {w1 w2 : World} {P : Nat} {L : Int} {its : List (Tm n)} {a : Option Addr} {c : Nat} {H : Nat → Prop} {x y : Value} (h : CopyInv (shT n) w1 w2 (.slice a its.length c) its H) (hP : w2.heap[P]? = some (.cells #[x, y] 26 (0, 0))) (hlt : P < w1.heap.size) :
    BoxV ((w2.setCell ⟨P, 0, none⟩ (.int .i64 L)).setCell ⟨P, 1, none⟩ (.slice a its.length c)) w1.heap.size P L its :=
  ⟨a, c, H, set2_cells hP _ _, h.1.same fun b hb => set2_other _ _ (by have := (h.2.1 b hb).1; omega), fun b hb => ⟨(h.2.1 b hb).1, by have := (h.2.1 b hb).1; omega, by have := (h.2.1 b hb).2; simpa [World.setCell] using this⟩⟩

/-- One variable is set to another's box. -/
theorem BoxV.move {n : Nat} {wr : World} {B P P0 : Nat} {L : Int} {its : List (Tm n)} {x y : Value} (h : BoxV wr B P L its) (hP : wr.heap[P0]? = some (.cells #[x, y] 26 (0, 0))) (hlt : P0 < B) {a : Option Addr} {c : Nat} (h1 : wr.cell? ⟨P, 1, none⟩ = some (.slice a its.length c)) :
    BoxV ((wr.setCell ⟨P0, 0, none⟩ (.int .i64 L)).setCell ⟨P0, 1, none⟩ (.slice a its.length c)) B P0 L its := by
  obtain ⟨a', c', H, g1, g2, g3⟩ := h
  have e := (cell_of g1 1).1
  rw [h1] at e
  simp only [List.getElem?_toArray, List.getElem?_cons_zero, List.getElem?_cons_succ, Option.some.injEq, Value.slice.injEq] at e
  obtain ⟨rfl, -, rfl⟩ := e
  exact ⟨a, c, H, set2_cells hP _ _, g2.same fun b hb => set2_other _ _ (by have := (g3 b hb).1; omega), fun b hb => ⟨(g3 b hb).1, by have := (g3 b hb).1; omega, by have := (g3 b hb).2.2; simpa [World.setCell] using this⟩⟩

theorem BoxV.cells2 {n : Nat} {wr : World} {B P : Nat} {L : Int} {its : List (Tm n)} (h : BoxV wr B P L its) : ∃ x y, wr.heap[P]? = some (.cells #[x, y] 26 (0, 0)) := by
  obtain ⟨a, c, H, h1, _⟩ := h
  exact ⟨_, _, h1⟩

theorem BoxV.more {n : Nat} {wr : World} {B B' P : Nat} {L : Int} {its : List (Tm n)} (h : BoxV wr B P L its) (hb : B' ≤ B) : BoxV wr B' P L its := by
  obtain ⟨a, c, H, h1, h2, h3⟩ := h
  exact ⟨a, c, H, h1, h2, fun b hb => ⟨by have := (h3 b hb).1; omega, (h3 b hb).2⟩⟩

/-- Effects in a row of one's own, their values in the world w. -/
def ShRowE {n : Nat} (w wr : World) (B : Nat) (v : Value) (l : List (Ef n)) : Prop := ∃ xs, wr.ownsRow B 52 6 v l.length xs ∧ ItemsR (shE n) (fun x u _ => Lay w n x u) l l.length xs (fun _ _ => False)

theorem ShRowE.nil {n : Nat} (w0 w : World) (B : Nat) : ShRowE (n := n) w0 w B (.slice none 0 0) [] := ⟨[], World.ownsRow_nil _ _ _ _, fun i u hi => by simp at hi⟩

theorem ShRowE.same {n : Nat} {w wr wr' : World} {B : Nat} {v : Value} {l : List (Ef n)} (h : ShRowE w wr B v l) (hb : Below wr.heap.size wr wr') : ShRowE w wr' B v l := by
  obtain ⟨xs, q1, q2⟩ := h
  exact ⟨xs, ownsRow_same q1 fun g hg => hb.block g (q1.lt g hg).2, q2⟩

theorem ShRowE.eis {n : Nat} {w wr : World} {B : Nat} {v : Value} {l : List (Ef n)} (h : ShRowE w wr B v l) (hw : Below w.heap.size w wr) (hb : l.length * 96 ≤ 140737488351232) (hok : ∀ u ∈ l, EfOk u) : ∃ ia ic, v = .slice ia l.length ic ∧ EIs wr n ia ic l := by
  obtain ⟨xs, q1, q2⟩ := h
  obtain ⟨ia, ic, rfl⟩ := slice_of_own q1
  refine ⟨ia, ic, rfl, ?_⟩
  have hc := cap_of_own q1
  refine ⟨hc.1, hc.2, hb, none_of_own q1, ?_, hok, ItemsR.lay (S := shE n) q1 q2 fun x u _ hl => Lay.below n hl hw⟩
  intro ad e _
  rcases q1.2 with ⟨e1, -⟩ | ⟨g, cap, cur, e1, -⟩
  · rw [e] at e1; simp at e1
  · rw [e] at e1; simp only [Value.slice.injEq, Option.some.injEq] at e1; rw [e1.1]

theorem wpList_pushShE {w0 : World} (w : World) {ops : Array Oper} {rest : List Oper} {o : Oper} {a : Act} {Q : Exit → Act → World → Prop} (hgd : o.guard = none) (s x : Operand)
    (hop : o.op = .call { callee := .builtin .append, args := #[s, x], argTypes := #[68, 68] })
    {n : Nat} (B : Nat) (v : Value) (l : List (Ef n)) (hs : a.eval s = v) (hL : ShRowE w0 w B v l) (u : Ef n) (k b : Int) (t : ByteArray) (ka : Option Addr) (kl kc : Nat) (ja : Option Addr) (jl jc : Nat) (hl : Lay w0 n (mk k b t ka kl kc ja jl jc) u.2)
    (ad : Addr) (c : Nat) (hx : a.eval x = .slice (some ad) 1 c) (hnews : ∀ j y, ([.string u.1, .int .i64 k, .int .u64 b, .string t, .slice ka kl kc, .slice ja jl jc] : List Value)[j]? = some y → w.cell? (ad.add j) = some y) (hlen : (l.length + 1) * 96 ≤ 140737488355328) (hB : B ≤ w.heap.size)
    (h : ∀ v' w', ShRowE w0 w' B v' (l ++ [u]) → w.grownBy w' v.ownBlock → wpList Try.prog ops Q rest (a.put o.dst v') w') : wpList Try.prog ops Q (o :: rest) a w := by
  obtain ⟨xs, h1, h2⟩ := hL
  obtain ⟨i0, hi, hz0, hz1, hz2⟩ := info_parts Try.infoEffect
  refine wpList_append_apart w hgd s x 68 hop B 52 i0 _ 6 96 Try.underlying68 hi hz0 hz1 hz2 rfl (by decide) v l.length xs hs h1 (some ad) 1 c [.string u.1, .int .i64 k, .int .u64 b, .string t, .slice ka kl kc, .slice ja jl jc] hx (by simp) rfl ?_ ?_ (by unfold maxLen; omega) hlen hB ?_
  · intro ad' e
    cases e
    exact hnews
  · intro y hy
    simp at hy
    rcases hy with rfl | rfl | rfl | rfl | rfl | rfl <;> rfl
  · intro v' w' q1 q2 _
    have := ItemsR.snoc (S := shE n) (its := l) (u := u) (G := fun _ _ => False) (G' := fun _ _ => False) (c0 := .int .i64 k) (c1 := .int .u64 b) (c2 := .string t) (c3 := .slice ka kl kc) (c4 := .slice ja jl jc) (R := fun x u _ => Lay w0 n x u) rfl rfl h1.1 rfl h2 (fun _ _ _ _ hR => hR) hl
    exact h v' w' ⟨_, by rw [List.length_append]; exact q1, by rw [List.length_append]; exact this⟩ q2

/-- A remainder that is made positive. -/
theorem tmod_pos (v q : Int) (hq : 0 < q) : -q < v.tmod q ∧ v.tmod q < q ∧ ∃ r : Nat, (r : Int) < q ∧ (v.tmod q + q).tmod q = r := by
  have h1 : -q < v.tmod q := Int.lt_tmod_of_pos _ hq
  have h2 : v.tmod q < q := Int.tmod_lt_of_pos _ hq
  have h3 := Int.tmod_lt_of_pos (v.tmod q + q) hq
  have h4 := Int.tmod_nonneg q (show 0 ≤ v.tmod q + q by omega)
  exact ⟨h1, h2, ((v.tmod q + q).tmod q).toNat, by omega, by omega⟩

theorem placeAt (v A q : Int) (hq : 0 < q) (hq2 : q ≤ 1000000) (hA : 0 ≤ A) (hA2 : A ≤ 1000000) : ∃ K : Nat, A ≤ K ∧ (K : Int) < A + q ∧ wrap64 (A + (wrap64 (v.tmod q + q)).tmod q) = K := by
  obtain ⟨r1, r2, r, r3, r4⟩ := tmod_pos v q hq
  have e : wrap64 (v.tmod q + q) = v.tmod q + q := by
    generalize v.tmod q = t at r1 r2 ⊢
    clear r4
    exact IntWalk.wrap64_in _ (by omega)
  rw [e, r4]
  clear r4 e r1 r2
  exact ⟨(A + r).toNat, by omega, by omega, by rw [IntWalk.wrap64_in _ (by omega)]; omega⟩

theorem effsE_rep {n : Nat} {nm : ByteArray} {z : V n} (h : effE nm z = 0) : ∀ k, effsE (List.replicate k (nm, z)) = 0
  | 0 => rfl
  | k + 1 => by rw [List.replicate_succ, effsE, if_pos h]; exact effsE_rep h k
end Go.Proofs.Ytfdbhojghkdlkaa

/-
  SameItems, SameEffects: they answer true just for one list.
-/
namespace Go.Proofs.Ytfdbhojghkdlkaa
open Go.ChangeShapes Go.WideShapes Go.ChangeAt Go.RowKit

set_option maxRecDepth 100000 in
set_option maxHeartbeats 6400000 in
theorem sameItems_any {n : Nat} (l l' : List (Tm n)) (ia ia' : Option Addr) (ic ic' : Nat) (w : World) (h : TIs w n ia ic l) (h' : TIs w n ia' ic' l') :
    Calls Try.prog 25 #[.slice ia l.length ic, .slice ia' l'.length ic'] w fun e w' => e = .returned (.bool (one l l')) ∧ Below w.heap.size w w' := by
  have HA : Hid (TIs w n ia ic l) := h
  have HB : Hid (TIs w n ia' ic' l') := h'
  have b1 := h.2.2.1
  have b2 := h'.2.2.1
  clear h h'
  by_cases hlen : l.length = l'.length
  · have HLN : Hid (l.length = l'.length) := hlen
    have d5 : ((l.length : Int) != (l'.length : Int)) = false := by simp [hlen]
    clear hlen
    go_enter Try.func25, Try.ntmps25
    go_wp2_with fail
    go_loopw [5] (fun i wr => ∃ m : Nat, m ≤ l.length ∧ i = .int .i64 m ∧ Hid (l.take m = l'.take m) ∧ Hid (Below w.heap.size w wr)) (fun i _ => l.length - (intOf i).toNat)
    case atStart => exact ⟨0, Nat.zero_le _, rfl, by simp [Hid], Below.refl _ _⟩
    case round =>
      obtain ⟨m, hm, rfl, HT, HW⟩ := hrel
      by_cases hlt : m < l.length
      · have hlt2 : m < l'.length := by have := HLN.out; omega
        have hi1 : (m : Int) < (l.length : Int) := by omega
        have hi2 : (m : Int) < (l'.length : Int) := by omega
        have HN1 : Hid (l[m] = l'[m] → l.take (m + 1) = l'.take (m + 1)) := fun e => take_next HT.out hlt hlt2 e
        have HN2 : Hid (l = l' → l[m] = l'[m]) := fun e => by subst e; rfl
        obtain ⟨g1, o1, ak, ab, at_, aka, akl, akc, aja, ajl, ajc, rfl, q0, q1, q2, q3, q4, q5, q6, hl1, -⟩ := (HA.out.below HW.out).at m hlt
        obtain ⟨g2, o2, ck, cb, ct_, cka, ckl, ckc, cja, cjl, cjc, rfl, p0, p1, p2, p3, p4, p5, p6, hl2, -⟩ := (HB.out.below HW.out).at m hlt2
        have L1 : Hid (Lay wr n (mk ak ab at_ aka akl akc aja ajl ajc) l[m].2.2) := hl1
        have L2 : Hid (Lay wr n (mk ck cb ct_ cka ckl ckc cja cjl cjc) l'[m].2.2) := hl2
        clear hl1 hl2
        obtain ⟨⟨ai, an, au⟩, hu1⟩ : ∃ u : Tm n, l[m] = u := ⟨_, rfl⟩
        obtain ⟨⟨ci, cn, cu⟩, hu2⟩ : ∃ u : Tm n, l'[m] = u := ⟨_, rfl⟩
        rw [hu1] at q0 q1 L1
        rw [hu2] at p0 p1 L2
        rw [hu1, hu2] at HN1 HN2
        simp only at q0 q1 p0 p1 L1 L2
        clear hu1 hu2
        by_cases ei : ai = ci
        · subst ei
          by_cases en : an = cn
          · subst en
            by_cases eu : au = cu
            · have o5 := one_true eu
              have HE : Hid (au = cu) := eu
              clear eu
              go_wp2_with fail
              go_region_held3 (fun w' => w'.cell? ⟨g1, o1 + m * 7, none⟩ = some (.int .i64 ai) ∧ w'.cell? ⟨g1, o1 + m * 7 + 1, none⟩ = some (.string an) ∧ w'.cell? ⟨g1, o1 + m * 7 + 2, none⟩ = some (.int .i64 ak) ∧ w'.cell? ⟨g1, o1 + m * 7 + 3, none⟩ = some (.int .u64 ab) ∧ w'.cell? ⟨g1, o1 + m * 7 + 4, none⟩ = some (.string at_) ∧ w'.cell? ⟨g1, o1 + m * 7 + 5, none⟩ = some (.slice aka akl akc) ∧ w'.cell? ⟨g1, o1 + m * 7 + 6, none⟩ = some (.slice aja ajl ajc) ∧ w'.cell? ⟨g2, o2 + m * 7, none⟩ = some (.int .i64 ai) ∧ w'.cell? ⟨g2, o2 + m * 7 + 1, none⟩ = some (.string an) ∧ w'.cell? ⟨g2, o2 + m * 7 + 2, none⟩ = some (.int .i64 ck) ∧ w'.cell? ⟨g2, o2 + m * 7 + 3, none⟩ = some (.int .u64 cb) ∧ w'.cell? ⟨g2, o2 + m * 7 + 4, none⟩ = some (.string ct_) ∧ w'.cell? ⟨g2, o2 + m * 7 + 5, none⟩ = some (.slice cka ckl ckc) ∧ w'.cell? ⟨g2, o2 + m * 7 + 6, none⟩ = some (.slice cja cjl cjc)) (go_keep)
                ((go_at_call 42; refine (same_any n _ _ _ _ _ (Lay.below n L1.out ((Below.refl _ _).drew)) (Lay.below n L2.out ((Below.refl _ _).drew))).mono ?_; rintro e w2 ⟨rfl, hb2⟩; have hk2 := keepc hb2))
              go_wp2_with fail
              go_roundw
              case rel => exact ⟨m + 1, by omega, by go_num, HN1.out (by rw [HE.out]), nxt HW.out.drew (by assumption)⟩
              case measure => simp [intOf]; omega
            · have o5 := one_false eu
              have HE : Hid (¬ au = cu) := eu
              clear eu
              go_wp2_with fail
              go_region_held3 (fun w' => w'.cell? ⟨g1, o1 + m * 7, none⟩ = some (.int .i64 ai) ∧ w'.cell? ⟨g1, o1 + m * 7 + 1, none⟩ = some (.string an) ∧ w'.cell? ⟨g1, o1 + m * 7 + 2, none⟩ = some (.int .i64 ak) ∧ w'.cell? ⟨g1, o1 + m * 7 + 3, none⟩ = some (.int .u64 ab) ∧ w'.cell? ⟨g1, o1 + m * 7 + 4, none⟩ = some (.string at_) ∧ w'.cell? ⟨g1, o1 + m * 7 + 5, none⟩ = some (.slice aka akl akc) ∧ w'.cell? ⟨g1, o1 + m * 7 + 6, none⟩ = some (.slice aja ajl ajc) ∧ w'.cell? ⟨g2, o2 + m * 7, none⟩ = some (.int .i64 ai) ∧ w'.cell? ⟨g2, o2 + m * 7 + 1, none⟩ = some (.string an) ∧ w'.cell? ⟨g2, o2 + m * 7 + 2, none⟩ = some (.int .i64 ck) ∧ w'.cell? ⟨g2, o2 + m * 7 + 3, none⟩ = some (.int .u64 cb) ∧ w'.cell? ⟨g2, o2 + m * 7 + 4, none⟩ = some (.string ct_) ∧ w'.cell? ⟨g2, o2 + m * 7 + 5, none⟩ = some (.slice cka ckl ckc) ∧ w'.cell? ⟨g2, o2 + m * 7 + 6, none⟩ = some (.slice cja cjl cjc)) (go_keep)
                ((go_at_call 42; refine (same_any n _ _ _ _ _ (Lay.below n L1.out ((Below.refl _ _).drew)) (Lay.below n L2.out ((Below.refl _ _).drew))).mono ?_; rintro e w2 ⟨rfl, hb2⟩; have hk2 := keepc hb2))
              go_wp2_with fail
              go_ret
              exact ⟨ret_bool (one_false fun e => HE.out (by have := HN2.out e; simp only [Prod.mk.injEq] at this; exact this.2.2)).symm, nxt HW.out.drew (by assumption)⟩
          · have d1 := toList_beq_false en
            have HX : Hid (¬ an = cn) := en
            go_wp2_with fail
            go_quiet (fail)
            go_wp2_with fail
            go_ret
            exact ⟨ret_bool (one_false fun e => HX.out (by have := HN2.out e; simp only [Prod.mk.injEq] at this; exact this.2.1)).symm, HW.out.trans (Below_drewN _ _ _)⟩
        · have d1 : (ai == ci) = false := by simpa using ei
          have d2 : (ai != ci) = true := by simpa using ei
          have HX : Hid (¬ ai = ci) := ei
          clear ei
          go_wp2_with fail
          go_quiet (fail)
          go_wp2_with fail
          go_ret
          exact ⟨ret_bool (one_false fun e => HX.out (by have := HN2.out e; simp only [Prod.mk.injEq] at this; exact this.1)).symm, HW.out.trans (Below_drewN _ _ _)⟩
      · go_wp2_with fail
        go_ret
        exact ⟨ret_bool (one_true (take_all HT.out (by omega) HLN.out)).symm, HW.out⟩
  · have d5 : ((l.length : Int) == (l'.length : Int)) = false := by simp; omega
    have d6 : ((l.length : Int) != (l'.length : Int)) = true := by simp; omega
    have HX : Hid (¬ l.length = l'.length) := hlen
    clear hlen
    go_enter Try.func25, Try.ntmps25
    go_wp2_with fail
    go_ret
    exact ⟨ret_bool (one_false fun e => HX.out (by rw [e])).symm, Below.refl _ _⟩

end Go.Proofs.Ytfdbhojghkdlkaa
