/-
  The page's Place.
-/
import Derived.Test.YtcdnakcojanaeabGreatDoArgJ
namespace Go.Proofs.YtcdnakcojanaeabGreat
open Go.ChangeShapes Go.WideShapes Go.ChangeAt Go.RowKit Go.Deep
open Do

namespace Do
theorem pl_at : ∀ {ns : List Nd} {x : Int} {i : Nat} {n : Nd}, (∀ j m, j < i → ns[j]? = some m → ¬ m.id = x) → ns[i]? = some n → n.id = x → pl ns x = some i
  | [], _, _, _, _, h, _ => by simp at h
  | m :: r, x, 0, n, _, h, he => by
    simp only [List.getElem?_cons_zero, Option.some.injEq] at h
    subst h
    simp [pl, he]
  | m :: r, x, i + 1, n, h0, h, he => by
    have h1 := h0 0 m (by omega) (by simp)
    have := pl_at (ns := r) (x := x) (i := i) (n := n) (fun j m' hj hm => h0 (j + 1) m' (by omega) (by simpa using hm)) (by simpa using h) he
    simp [pl, h1, this]

theorem pl_no {ns : List Nd} {x : Int} (h : ∀ (j : Nat) (m : Nd), ns[j]? = some m → ¬ m.id = x) : pl ns x = none := by
  cases e : pl ns x with
  | none => rfl
  | some p =>
    obtain ⟨m, h1, h2⟩ := pl_some e
    exact absurd h2 (h p m h1)
end Do

set_option maxRecDepth 100000 in
set_option maxHeartbeats 1600000 in
theorem rplace_any (s : Ds) (x : Int) (a : Option Addr) (c : Nat) (w : World) (hs : DsIs w s a c) :
    Calls Tryz.prog 22 #[.agg #[.slice a s.nodes.length c, .int .i64 s.root, .int .i64 s.next], .int .i64 x] w fun e w' => e = .returned (.int .i64 (plI s.nodes x)) ∧ Below w.heap.size w w' := by
  have HL : Hid (LayN w a s.nodes) := hs.lay
  have hlen := hs.len
  obtain ⟨ns, root, next⟩ := s
  simp only at *
  clear hs
  have X1 : Hid ((w.alloc (.cells #[.slice a ns.length c, .int .i64 root, .int .i64 next] 24)).heap[w.heap.size]? = some (.cells #[.slice a ns.length c, .int .i64 root, .int .i64 next] 24 (0, 0))) := heap_alloc_new _ _
  have B1 : Hid (Below w.heap.size w (w.alloc (.cells #[.slice a ns.length c, .int .i64 root, .int .i64 next] 24))) := below_one _ _
  go_enter Tryz.func22, Tryz.ntmps22
  go_wp2_with fail
  generalize w.alloc (.cells #[.slice a ns.length c, .int .i64 root, .int .i64 next] 24) = W1 at *
  obtain ⟨p0, p1, p2⟩ := three X1.out
  clear p1 p2
  go_loopw [5] (fun v5 wr => ∃ i : Nat, i ≤ ns.length ∧ v5 = .int .i64 (i : Int) ∧ Hid (∀ j m, j < i → ns[j]? = some m → ¬ m.id = x) ∧ Hid (Below W1.heap.size W1 wr)) (fun v5 _ => ns.length - (intOf v5).toNat)
  case atStart => exact ⟨0, Nat.zero_le _, rfl, (fun j m h => by omega), Below.refl _ _⟩
  case round =>
    obtain ⟨i, hi, rfl, HZ, HB⟩ := hrel
    have q0 := keepc HB.out _ _ p0
    by_cases hlt : i < ns.length
    · obtain ⟨b, o, aa, ac, ka, kc, ha, hN⟩ := HL.out.below (nxt B1.out HB.out) i ns[i] (List.getElem?_eq_getElem hlt)
      subst ha
      have r0 := hN.c0
      have HG : Hid (ns[i]? = some ns[i]) := List.getElem?_eq_getElem hlt
      clear hN
      by_cases he : ns[i].id = x
      · have HR : Hid (plI ns x = (i : Int)) := by show _ = _; unfold plI; rw [pl_at HZ.out HG.out he]
        have g0 : (ns[i].id == x) = true := by simpa using he
        generalize ns[i] = m at *
        generalize m.id = mi at *
        clear he
        go_wp2_with fail
        go_ret
        exact ⟨by rw [HR.out]; rfl, nxt B1.out HB.out⟩
      · have g0 : (ns[i].id == x) = false := by simpa using he
        have HZ' : Hid (∀ j m, j < i + 1 → ns[j]? = some m → ¬ m.id = x) := by
          intro j m hj hm
          by_cases e : j = i
          · subst e
            rw [HG.out] at hm
            cases hm
            exact he
          · exact HZ.out j m (by omega) hm
        generalize ns[i] = m at *
        generalize m.id = mi at *
        clear he
        go_wp2_with fail
        go_roundw
        case rel => exact ⟨i + 1, by omega, by go_num, HZ'.out, HB.out⟩
        case measure => simp [intOf]; omega
    · have HR : Hid (plI ns x = -1) := by
        show _ = _
        unfold plI
        rw [pl_no fun j m hm => HZ.out j m (by have := (List.getElem?_eq_some_iff.1 hm).1; omega) hm]
      go_wp2_with fail
      go_ret
      exact ⟨by rw [HR.out]; rfl, nxt B1.out HB.out⟩
end Go.Proofs.YtcdnakcojanaeabGreat

/-
  What the laws of layer 10 share: what Apply keeps; a display in a variable behind a region whose order is open.
-/
namespace Go.Proofs.YtcdnakcojanaeabGreat
open Go.ChangeShapes Go.WideShapes Go.ChangeAt Go.RowKit Go.Deep
open Do

namespace Do
theorem apply_zero {s : Ds} {p : Pt} (h : (applyD s p).1 = 0) : OkD s ∧ (takeD s p).1 = 0 ∧ applyD s p = takeD s p := by
  unfold applyD at h ⊢
  by_cases hk : okD s = true
  · rw [if_pos hk] at h ⊢
    by_cases ht : (takeD s p).1 = 0
    · rw [if_pos ht]; exact ⟨okD_iff.1 hk, ht, rfl⟩
    · rw [if_neg ht] at h; exact absurd h ht
  · rw [if_neg hk] at h
    simp at h

theorem apply_err {s : Ds} {p : Pt} (h : ¬ (applyD s p).1 = 0) : (applyD s p).2 = noD := by
  unfold applyD at h ⊢
  by_cases hk : okD s = true
  · rw [if_pos hk] at h ⊢
    by_cases ht : (takeD s p).1 = 0
    · rw [if_pos ht] at h; exact absurd ht h
    · rw [if_neg ht]
  · rw [if_neg hk]

/-- Numbers that a patch brings in are new. -/
theorem take_new {s : Ds} (h : OkD s) {p : Pt} : ∀ n ∈ (takeD s p).2.nodes, nd s.nodes n.id = none → s.next ≤ n.id := by
  have old : ∀ {R : List Nd}, (∀ n ∈ R, ∃ m ∈ s.nodes, m.id = n.id) → ∀ n ∈ R, nd s.nodes n.id = none → s.next ≤ n.id := by
    intro R hR n hn h0
    obtain ⟨m, hm, e⟩ := hR n hn
    rw [← e, nd_of h.good.up hm] at h0
    cases h0
  have same : ∀ n ∈ s.nodes, nd s.nodes n.id = none → s.next ≤ n.id := old fun n hn => ⟨n, hn, rfl⟩
  have setS : ∀ {q : Nat} {n m : Nd}, s.nodes[q]? = some n → m.id = n.id → ∀ x ∈ s.nodes.set q m, nd s.nodes x.id = none → s.next ≤ x.id := by
    intro q n m hq hid
    refine old fun x hx => ?_
    rcases List.mem_or_eq_of_mem_set hx with hx | rfl
    · exact ⟨x, hx, rfl⟩
    · exact ⟨n, List.mem_of_getElem? hq, hid.symm⟩
  have byNd : ∀ {R : List Nd}, Up R → (∀ x n, nd R x = some n → ∃ m, nd s.nodes x = some m) → ∀ n ∈ R, nd s.nodes n.id = none → s.next ≤ n.id := by
    intro R hu hR
    refine old fun n hn => ?_
    obtain ⟨m, hm⟩ := hR n.id n (nd_of hu hn)
    exact ⟨m, (nd_some hm).1, (nd_some hm).2⟩
  unfold takeD
  split
  · unfold createD
    split
    · exact same
    · rename_i h1
      split
      · exact same
      · split
        · exact same
        · intro n hn h0
          rcases List.mem_append.1 hn with hn | hn
          · exact same n hn h0
          · rw [List.mem_singleton] at hn
            subst hn
            have : p.id = s.next := by simpa using h1
            show s.next ≤ p.id
            omega
  · split
    · unfold hangD
      split
      · rename_i q t hq ht
        split
        · rename_i n m hn hm
          by_cases h0 : hangE s.nodes s.root m p = 0
          · rw [if_pos h0]
            have hne : p.par ≠ p.id := by
              intro e
              unfold hangE at h0
              by_cases h1 : m.tag.size = 0
              · rw [if_pos h1] at h0; omega
              · rw [if_neg h1, if_pos] at h0
                · omega
                · rw [e, wiB_end (Or.inr rfl)]; simp
            obtain ⟨hu, hnd⟩ := nd_hung h.good hq hn ht hm hne
            refine byNd hu fun x y hx => ?_
            rw [hnd] at hx
            by_cases e1 : x = p.id
            · exact ⟨n, by rw [e1]; exact at_nd hq hn⟩
            · by_cases e2 : x = p.par
              · exact ⟨m, by rw [e2]; exact at_nd ht hm⟩
              · rw [if_neg e1, if_neg e2] at hx
                cases e3 : nd s.nodes x with
                | none => rw [e3] at hx; cases hx
                | some y' => exact ⟨y', rfl⟩
          · rw [if_neg h0]
            exact same
        · exact same
      · exact same
    · split
      · unfold awayD
        split
        · exact same
        · rename_i n hn
          obtain ⟨g, hnd⟩ := left_good h.good hn
          refine byNd g.up fun x y hx => ?_
          rw [hnd] at hx
          split at hx
          · cases hx
          · cases e3 : nd s.nodes x with
            | none => rw [e3] at hx; cases hx
            | some y' => exact ⟨y', rfl⟩
      · split
        · unfold setD
          split
          · exact same
          · split
            · exact same
            · rename_i q _ n hn
              split
              · exact same
              · split
                · exact same
                · split
                  · exact same
                  · split
                    · exact setS hn rfl
                    · split
                      · exact same
                      · exact setS hn rfl
        · split
          · unfold unsetD
            split
            · exact same
            · split
              · exact same
              · rename_i q _ n hn
                split
                · exact same
                · split
                  · exact setS hn rfl
                  · exact same
          · split
            · unfold textD
              split
              · exact same
              · split
                · exact same
                · rename_i q _ n hn
                  split
                  · split
                    · exact same
                    · exact setS hn rfl
                  · exact same
            · split
              · unfold rootD
                split
                · exact same
                · split
                  · exact same
                  · split
                    · exact same
                    · split
                      · exact same
                      · split
                        · exact same
                        · exact same
              · exact same
end Do

/-- A call of one argument, of two, at the operation itself. -/
theorem op_call1 {o : Oper} {d : Option Tmp} {a : Act} {w : World} {K : Act → World → Prop} {Q : Exit → Act → World → Prop} (hd : o.dst = d) (f : FuncId) (hf : ∀ x1 w, Sem.run Tryz.prog (callFunc f #[x1]) w = .ok (.enter f #[x1]) w) (s1 : Operand) (ts : Array TypeId)
    (ho : o.op = .call { callee := .value (.func f), args := #[s1], argTypes := ts }) (x1 : Value) (h1 : a.eval s1 = x1) (hc : Calls Tryz.prog f #[x1] w fun e w' => ∃ y, e = .returned y ∧ K (a.put d y) w') : Oper.wp Tryz.prog o a w K Q := by
  subst hd
  have hrun : (execOp a.eval o).run Tryz.prog w = .ok (.enter f #[x1]) w := by
    unfold execOp
    simp only [ho, resolve, invoke, List.map_toArray, List.map_cons, List.map_nil, h1]
    exact hf x1 w
  unfold Oper.wp
  rw [hrun, Oper.upon_enter]
  refine hc.mono fun e w' he => ?_
  obtain ⟨y, rfl, hy⟩ := he
  exact hy

theorem op_call2 {o : Oper} {d : Option Tmp} {a : Act} {w : World} {K : Act → World → Prop} {Q : Exit → Act → World → Prop} (hd : o.dst = d) (f : FuncId) (hf : ∀ x1 x2 w, Sem.run Tryz.prog (callFunc f #[x1, x2]) w = .ok (.enter f #[x1, x2]) w) (s1 s2 : Operand) (ts : Array TypeId)
    (ho : o.op = .call { callee := .value (.func f), args := #[s1, s2], argTypes := ts }) (x1 x2 : Value) (h1 : a.eval s1 = x1) (h2 : a.eval s2 = x2) (hc : Calls Tryz.prog f #[x1, x2] w fun e w' => ∃ y, e = .returned y ∧ K (a.put d y) w') : Oper.wp Tryz.prog o a w K Q := by
  subst hd
  have hrun : (execOp a.eval o).run Tryz.prog w = .ok (.enter f #[x1, x2]) w := by
    unfold execOp
    simp only [ho, resolve, invoke, List.map_toArray, List.map_cons, List.map_nil, h1, h2]
    exact hf x1 x2 w
  unfold Oper.wp
  rw [hrun, Oper.upon_enter]
  refine hc.mono fun e w' he => ?_
  obtain ⟨y, rfl, hy⟩ := he
  exact hy

theorem DsOwn.isL {w : World} {B : Nat} {x : Value} {s : Ds} (h : DsOwn w B x s) (hl : s.nodes.length * 112 ≤ 140737488351232) (hr : -9223372036854775808 ≤ s.root ∧ s.root ≤ 9223372036854775807) (hx : -9223372036854775808 ≤ s.next ∧ s.next ≤ 9223372036854775807) : ∃ a c, x = .agg #[.slice a s.nodes.length c, .int .i64 s.root, .int .i64 s.next] ∧ DsIs w s a c := by
  obtain ⟨v, ab, kb, rfl, hO⟩ := h
  obtain ⟨a, c, hv⟩ := hO.shape
  subst hv
  exact ⟨a, c, rfl, ⟨hO.lay, hl, cap_of_own hO.row, hr, hx⟩⟩

/-- A display that Apply answers is read. -/
theorem DsOwn.isA {w : World} {B : Nat} {x : Value} {s : Ds} {p : Pt} (h : DsOwn w B x (applyD s p).2) : ∃ a c, x = .agg #[.slice a (applyD s p).2.nodes.length c, .int .i64 (applyD s p).2.root, .int .i64 (applyD s p).2.next] ∧ DsIs w (applyD s p).2 a c := by
  by_cases h0 : (applyD s p).1 = 0
  · obtain ⟨h1, h2, h3⟩ := apply_zero h0
    have hok := (take_ok h1 p).1
    rw [h3] at h ⊢
    refine h.is hok.len ?_ (by have := hok.nx; omega)
    rcases hok.root with hr | ⟨m, hr, -⟩
    · omega
    · obtain ⟨v, ab, kb, -, hO⟩ := h
      have := nd_some hr
      have hf := (hO.fit m this.1).id
      rw [this.2] at hf
      exact hf
  · rw [apply_err h0] at h ⊢
    exact h.is (by decide) (by decide) (by decide)

/-- A display is put into its variable. -/
theorem ds_fin {w W : World} {g B : Nat} {v : Value} {D : Ds} (hz : W.heap[g]? = some (.cells #[.slice none 0 0, .int .i64 0, .int .i64 0] 30 (0, 0))) (hx : DsOwn W B (.agg #[v, .int .i64 D.root, .int .i64 D.next]) D) (hg : w.heap.size ≤ g) (hb : Below w.heap.size w W) :
    (((W.setCell ⟨g, 0, none⟩ v).setCell ⟨g, 1, none⟩ (.int .i64 D.root)).setCell ⟨g, 2, none⟩ (.int .i64 D.next)).heap[g]? = some (.cells #[v, .int .i64 D.root, .int .i64 D.next] 30 (0, 0)) ∧
      DsOwn (((W.setCell ⟨g, 0, none⟩ v).setCell ⟨g, 1, none⟩ (.int .i64 D.root)).setCell ⟨g, 2, none⟩ (.int .i64 D.next)) B (.agg #[v, .int .i64 D.root, .int .i64 D.next]) D ∧
      Below w.heap.size w (((W.setCell ⟨g, 0, none⟩ v).setCell ⟨g, 1, none⟩ (.int .i64 D.root)).setCell ⟨g, 2, none⟩ (.int .i64 D.next)) := by
  obtain ⟨f1, f2, f3⟩ := state_fin (v := v) (r := .int .i64 D.root) (n := .int .i64 D.next) hz
  obtain ⟨v', ab, kb, e, hO⟩ := hx
  simp only [Value.agg.injEq, Array.mk.injEq, List.cons.injEq, and_true] at e
  obtain rfl := e
  exact ⟨f1, ⟨v, ab, kb, rfl, hO.same fun b hb' => f2 b (hO.notState hz hb')⟩, f3 _ _ hg hb⟩
end Go.Proofs.YtcdnakcojanaeabGreat

/-
  DomGone's mathematics: what lies within a node, found breadth first; the nodes that are left, one behind the other.
-/
namespace Go.Proofs.YtcdnakcojanaeabGreat
open Go.ChangeShapes Go.WideShapes Go.ChangeAt Go.RowKit Go.Deep
open Do

namespace Do
theorem Good.stp_par {ns : List Nd} (h : Good ns) {y : Int} {n : Nd} (hy : nd ns y = some n) : stp ns n.par < stp ns y := by
  obtain ⟨k, hk⟩ := (h.at hy).out
  obtain ⟨q, p1, p2⟩ := nd_at hy
  exact (stp_next hk (by have := (h.at hy).pos; omega) p1 p2).1

theorem Good.stp_wi {ns : List Nd} (h : Good ns) {y x : Int} (hw : Wi ns y x) : stp ns x ≤ stp ns y := by
  induction hw with
  | refl => exact Nat.le_refl _
  | step h1 _ ih => have := h.stp_par h1; omega

/-- What holds of the numbers that are found, i of which have had their kids looked up. -/
structure Bf (ns : List Nd) (x : Int) (i : Nat) (g : List Int) : Prop where
  has : x ∈ g
  node : ∀ y ∈ g, ∃ n, nd ns y = some n
  wi : ∀ y ∈ g, Wi ns y x
  nodup : g.Nodup
  closed : ∀ (j : Nat) (y : Int), j < i → g[j]? = some y → ∀ k ∈ kidsOf ns y, k ∈ g
  par : ∀ y ∈ g, y ≠ x → ∃ (j : Nat) (n : Nd), j < i ∧ nd ns y = some n ∧ g[j]? = some n.par

theorem Bf.start {ns : List Nd} {x : Int} {n : Nd} (hx : nd ns x = some n) : Bf ns x 0 [x] :=
  ⟨by simp, (fun y hy => by simp at hy; subst hy; exact ⟨n, hx⟩), (fun y hy => by simp at hy; subst hy; exact .refl _), by simp, (fun j y h => by omega), (fun y hy hne => by simp at hy; exact absurd hy hne)⟩

theorem Bf.next {ns : List Nd} (h : Good ns) {x : Int} {i : Nat} {g : List Int} (b : Bf ns x i g) {y : Int} {n : Nd} (hy : g[i]? = some y) (hn : nd ns y = some n) : Bf ns x (i + 1) (g ++ n.kids) := by
  have hi : i < g.length := by
    rcases Nat.lt_or_ge i g.length with h1 | h1
    · exact h1
    · rw [List.getElem?_eq_none h1] at hy; cases hy
  have hym : y ∈ g := List.mem_of_getElem? hy
  have hk := (h.at hn).kid
  have hdis : ∀ k ∈ n.kids, ¬ k ∈ g := by
    intro k hk1 hk2
    obtain ⟨m, m1, m2⟩ := hk k hk1
    by_cases e : k = x
    · subst e
      have h1 := h.stp_par m1
      rw [m2] at h1
      have h2 := h.stp_wi (b.wi y hym)
      omega
    · obtain ⟨j, m', j1, j2, j3⟩ := b.par k hk2 e
      rw [m1] at j2
      cases j2
      rw [m2] at j3
      have := (List.getElem?_inj hi b.nodup).1 (hy.trans j3.symm)
      omega
  refine ⟨by simp [b.has], ?_, ?_, ?_, ?_, ?_⟩
  · intro z hz
    rcases List.mem_append.1 hz with hz | hz
    · exact b.node z hz
    · obtain ⟨m, m1, _⟩ := hk z hz
      exact ⟨m, m1⟩
  · intro z hz
    rcases List.mem_append.1 hz with hz | hz
    · exact b.wi z hz
    · obtain ⟨m, m1, m2⟩ := hk z hz
      exact .step m1 (by rw [m2]; exact b.wi y hym)
  · rw [List.nodup_append]
    exact ⟨b.nodup, (h.at hn).nodup, fun a ha c hc e => hdis c hc (by rw [← e]; exact ha)⟩
  · intro j z hj hz k hkk
    by_cases e : j = i
    · subst e
      rw [List.getElem?_append_left hi, hy] at hz
      cases hz
      rw [kidsOf_some hn] at hkk
      exact List.mem_append.2 (Or.inr hkk)
    · rw [List.getElem?_append_left (by omega)] at hz
      exact List.mem_append.2 (Or.inl (b.closed j z (by omega) hz k hkk))
  · intro z hz hne
    rcases List.mem_append.1 hz with hz | hz
    · obtain ⟨j, m, j1, j2, j3⟩ := b.par z hz hne
      exact ⟨j, m, by omega, j2, by rw [List.getElem?_append_left (by omega)]; exact j3⟩
    · obtain ⟨m, m1, m2⟩ := hk z hz
      exact ⟨i, m, by omega, m1, by rw [List.getElem?_append_left hi, m2]; exact hy⟩

theorem Bf.len {ns : List Nd} {x : Int} {i : Nat} {g : List Int} (b : Bf ns x i g) : g.length ≤ ns.length := by
  have := nodup_sub (m := ns.map Nd.id) b.nodup (fun y hy => by
    obtain ⟨n, hn⟩ := b.node y hy
    exact List.mem_map.2 ⟨n, (nd_some hn).1, (nd_some hn).2⟩)
  simpa using this

/-- Once all had their kids looked up, what is found lies within, and nothing else does. -/
theorem Bf.done {ns : List Nd} (h : Good ns) {x : Int} {i : Nat} {g : List Int} (b : Bf ns x i g) (hi : g.length ≤ i) (y : Int) : y ∈ g ↔ Wi ns y x := by
  constructor
  · exact b.wi y
  · intro hw
    have hall : ∀ z ∈ g, ∀ k ∈ kidsOf ns z, k ∈ g := fun z hz k hk => by
      obtain ⟨j, hj, e⟩ := List.getElem_of_mem hz
      exact b.closed j z (by omega) (by rw [List.getElem?_eq_getElem hj, e]) k hk
    have hx := b.has
    have hx0 : x ≠ 0 := by
      obtain ⟨n, hn⟩ := b.node x hx
      have := (h.at hn).pos
      omega
    clear b hi
    induction hw with
    | refl => exact hx
    | @step u v n h1 h2 ih =>
      have ih := ih hx hx0
      by_cases e : n.par = 0
      · rw [e] at h2
        exact absurd (h2.zero h.zero) hx0
      · obtain ⟨m, q1, q2⟩ := (h.at h1).par e
        exact hall _ ih _ (by rw [kidsOf_some q1]; exact q2)

theorem filter_at {α : Type} (p : α → Bool) : ∀ {l : List α} {i : Nat} {m : α}, l[i]? = some m → p m = true → (l.filter p)[((l.take i).filter p).length]? = some m
  | [], _, _, h, _ => by simp at h
  | a :: l, 0, m, h, hp => by
    simp only [List.getElem?_cons_zero, Option.some.injEq] at h
    subst h
    simp [hp]
  | a :: l, i + 1, m, h, hp => by
    have := filter_at p (l := l) (i := i) (m := m) (by simpa using h) hp
    rw [List.take_succ_cons, List.filter_cons, List.filter_cons]
    by_cases ha : p a = true
    · rw [if_pos ha, if_pos ha]; simpa using this
    · rw [if_neg ha, if_neg ha]; exact this

theorem take_filter {α : Type} (p : α → Bool) {l : List α} {i : Nat} {m : α} (h : l[i]? = some m) : ((l.take (i + 1)).filter p).length = ((l.take i).filter p).length + (if p m = true then 1 else 0) := by
  rw [List.take_add_one, h, List.filter_append]
  by_cases hp : p m = true <;> simp [hp]

/-- A node and the same with other kids. -/
theorem offN_at {ns : List Nd} (hu : Up ns) (n : Nd) {i : Nat} {m : Nd} (hm : ns[i]? = some m) : (offN ns n)[i]? = some (offK n m.id m) := at_off hu n (hu.pl_eq hm) hm

theorem offN_len (ns : List Nd) (n : Nd) : (offN ns n).length = ns.length := by
  unfold offN
  split
  · rfl
  · split
    · rfl
    · split
      · rfl
      · simp

theorem offK_txt (n : Nd) (x : Int) (m : Nd) : (offK n x m).txt = m.txt := by unfold offK; split <;> rfl

/-- The list of what is left of a display, by the numbers that are gone. -/
theorem left_map {ns : List Nd} (hu : Up ns) (n : Nd) (l : List Int) : leftN (offN ns n) l = (ns.filter fun m => !(l.contains m.id)).map fun m => offK n m.id m := by
  have e : offN ns n = ns.map fun m => offK n m.id m := by
    apply List.ext_getElem?
    intro i
    rw [List.getElem?_map]
    cases hm : ns[i]? with
    | some m => rw [offN_at hu n hm]; rfl
    | none =>
      have : ns.length ≤ i := List.getElem?_eq_none_iff.1 hm
      rw [List.getElem?_eq_none (by rw [offN_len]; exact this)]; rfl
  unfold leftN
  rw [e, List.filter_map]
  congr 1
  apply List.filter_congr
  intro m _
  simp [Function.comp, offK_id]

/-- What is left of a display behind 3, told by the numbers that were found. -/
theorem gone_ok {s : Ds} {p : Pt} (h3 : p.what = 3) (h0 : (applyD s p).1 = 0) : ∃ n, Good s.nodes ∧ nd s.nodes p.id = some n ∧ (applyD s p).2.next = s.next ∧
    ∀ i g, Bf s.nodes p.id i g → g.length ≤ i → (applyD s p).2.nodes = (s.nodes.filter fun m => !(g.contains m.id)).map fun m => offK n m.id m := by
  obtain ⟨h1, h2, e⟩ := apply_zero h0
  have et : takeD s p = awayD s p := by unfold takeD; rw [h3]; rfl
  rw [e]
  rw [et] at h2 ⊢
  unfold awayD at h2 ⊢
  cases hn : nd s.nodes p.id with
  | none => rw [hn] at h2; simp at h2
  | some n =>
    refine ⟨n, h1.good, rfl, rfl, fun i g b hi => ?_⟩
    show leftN _ _ = _
    rw [left_map h1.good.up]
    congr 1
    apply List.filter_congr
    intro m _
    have := (h1.good.marks hn m.id).trans (b.done h1.good hi m.id).symm
    by_cases hm : m.id ∈ g
    · simp [hm, this.2 hm]
    · have hm' : ¬ m.id ∈ markL (offN s.nodes n) (s.nodes.length + 1) p.id := fun h => hm (this.1 h)
      simp [hm, hm']
end Do
end Go.Proofs.YtcdnakcojanaeabGreat
