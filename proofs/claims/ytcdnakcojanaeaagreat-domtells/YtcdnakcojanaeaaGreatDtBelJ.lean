/-
  The page's Below: how deep a tree is; as mathematics: more than eight just if there is no tree of eight levels.
-/
import Derived.Test.YtcdnakcojanaeaaGreatDbPageJ
import Derived.Test.YtcdnakcojanaeaaGreatDoTreeWJ
import Derived.Test.YtcdnakcojanaeaaGreatDtAtM
import Derived.Test.YtcdnakcojanaeaaGreatDoPlaceJ
import Derived.Test.YtcdnakcojanaeaaGreatDbCheckM
import Derived.Test.YtcdnakcojanaeaaGreatDtAplM
import Derived.Test.YtcdnakcojanaeaaGreatTfFrameJ
namespace Go.Proofs.YtcdnakcojanaeaaGreat
open Go.ChangeShapes Go.WideShapes Go.ChangeAt Go.RowKit Go.Deep
open Do

namespace Do
/-- How deep, f levels being left (at level 9 - f). -/
def bD (ns : List Nd) : Nat → Int → Int
  | 0, _ => 9
  | f + 1, x => match nd ns x with
    | none => 8 - (f : Int)
    | some n => n.kids.foldl (fun d y => max d (bD ns f y)) (8 - (f : Int))

theorem foldl_max {l : List Int} {g : Int → Int} : ∀ {d : Int}, (8 < l.foldl (fun d y => max d (g y)) d ↔ 8 < d ∨ ∃ y ∈ l, 8 < g y) := by
  induction l with
  | nil => intro d; simp
  | cons a r ih =>
    intro d
    rw [List.foldl_cons, ih]
    constructor
    · rintro (h | ⟨y, hy, h⟩)
      · by_cases h1 : 8 < d
        · exact Or.inl h1
        · exact Or.inr ⟨a, by simp, by omega⟩
      · exact Or.inr ⟨y, by simp [hy], h⟩
    · rintro (h | ⟨y, hy, h⟩)
      · exact Or.inl (by omega)
      · rcases List.mem_cons.1 hy with rfl | hy
        · exact Or.inl (by omega)
        · exact Or.inr ⟨y, hy, h⟩

theorem allO_iff {α : Type} : ∀ {l : List (Option α)}, allO l = none ↔ none ∈ l
  | [] => by simp [allO]
  | none :: _ => by simp [allO]
  | some b :: r => by
    have ih := allO_iff (l := r)
    simp only [allO, List.mem_cons]
    cases h : allO r with
    | none => simp [ih.1 h]
    | some q =>
      have : ¬ none ∈ r := fun hm => by rw [ih.2 hm] at h; cases h
      simp [this]

theorem bD_iff {ns : List Nd} (h : Good ns) : ∀ (f : Nat) (x : Int), (∃ n, nd ns x = some n) → (8 < bD ns f x ↔ trO ns f x = none)
  | 0, x, _ => by simp [bD, trO]
  | f + 1, x, ⟨n, hx⟩ => by
    have e1 : bD ns (f + 1) x = n.kids.foldl (fun d y => max d (bD ns f y)) (8 - (f : Int)) := by simp only [bD]; rw [hx]
    rw [e1, trO_node hx, foldl_max]
    have hk : ∀ y ∈ n.kids, (8 < bD ns f y ↔ trO ns f y = none) := fun y hy => by
      obtain ⟨m, hm, -⟩ := (h.at hx).kid y hy
      exact bD_iff h f y ⟨m, hm⟩
    have e2 : (match allO (n.kids.map (trO ns f)) with
      | none => none
      | some its => some (n.tag, n.key, n.txt, n.ats, its)) = (none : Option (T (f + 1))) ↔ allO (n.kids.map (trO ns f)) = none := by
      cases allO (n.kids.map (trO ns f)) with
      | none => simp
      | some its => simp
    refine Iff.trans ?_ e2.symm
    rw [allO_iff, List.mem_map]
    constructor
    · rintro (h1 | ⟨y, hy, h1⟩)
      · omega
      · exact ⟨y, hy, (hk y hy).1 h1⟩
    · rintro ⟨y, hy, h1⟩
      exact Or.inr ⟨y, hy, (hk y hy).2 h1⟩
end Do

/-- The page's Below, f levels being left. -/
def RBel (s : Ds) (f : Nat) : Prop := ∀ (x d : Int) (a : Option Addr) (c : Nat) (w : World), d = 9 - (f : Int) → DsIs w s a c →
  Calls Tryz.prog 30 #[.agg #[.slice a s.nodes.length c, .int .i64 s.root, .int .i64 s.next], .int .i64 x, .int .i64 d] w fun e w' => e = .returned (.int .i64 (bD s.nodes f x)) ∧ Below w.heap.size w w'

set_option maxRecDepth 100000 in
set_option maxHeartbeats 1600000 in
theorem rbel_zero (s : Ds) : RBel s 0 := by
  intro x d a c w hd hs
  obtain rfl : d = 9 := by simpa using hd
  have HPL : Hid (∀ W z, Below w.heap.size w W → Calls Tryz.prog 26 #[.agg #[.slice a s.nodes.length c, .int .i64 s.root, .int .i64 s.next], .int .i64 z] W fun e w' => e = .returned (.int .i64 (plI s.nodes z)) ∧ Below W.heap.size W w') := fun W z hb => rplace_any s z a c W (hs.below hb)
  clear hs hd
  go_enter Tryz.func30, Tryz.ntmps30
  go_wp2_with fail
  refine (HPL.out _ x (below_one _ _)).mono ?_
  rintro e w2 ⟨rfl, hb2⟩
  go_wp2_with fail
  go_ret
  exact ⟨rfl, nxt (below_one _ _) hb2⟩

set_option maxRecDepth 100000 in
set_option maxHeartbeats 3200000 in
theorem rbel_more (s : Ds) (f : Nat) (hf : f ≤ 8) (ih : RBel s f) : RBel s (f + 1) := by
  intro x d a c w hd hs
  have HS : Hid (∀ W, Below w.heap.size w W → DsIs W s a c) := fun W hb => hs.below hb
  have HPL : Hid (∀ W z, Below w.heap.size w W → Calls Tryz.prog 26 #[.agg #[.slice a s.nodes.length c, .int .i64 s.root, .int .i64 s.next], .int .i64 z] W fun e w' => e = .returned (.int .i64 (plI s.nodes z)) ∧ Below W.heap.size W w') := fun W z hb => rplace_any s z a c W (hs.below hb)
  have HIH : Hid (∀ W y, Below w.heap.size w W → Calls Tryz.prog 30 #[.agg #[.slice a s.nodes.length c, .int .i64 s.root, .int .i64 s.next], .int .i64 y, .int .i64 (d + 1)] W fun e w' => e = .returned (.int .i64 (bD s.nodes f y)) ∧ Below W.heap.size W w') := fun W y hb => ih y (d + 1) a c W (by omega) (hs.below hb)
  have HB : Hid (bD s.nodes (f + 1) x = match nd s.nodes x with
    | none => 8 - (f : Int)
    | some n => n.kids.foldl (fun d y => max d (bD s.nodes f y)) (8 - (f : Int))) := rfl
  have h8 : 8 - (f : Int) = d := by omega
  rw [h8] at HB
  have g1 : decide ((8 : Int) < d) = false := decide_eq_false (by omega)
  have hdb : 0 ≤ d ∧ d ≤ 8 := by omega
  have X1 : Hid ((w.alloc (.cells #[.slice a s.nodes.length c, .int .i64 s.root, .int .i64 s.next] 24)).heap[w.heap.size]? = some (.cells #[.slice a s.nodes.length c, .int .i64 s.root, .int .i64 s.next] 24 (0, 0))) := heap_alloc_new _ _
  generalize bD s.nodes (f + 1) x = R at *
  clear hs ih hd h8 hf
  go_enter Tryz.func30, Tryz.ntmps30
  go_wp2_with fail
  refine (HPL.out _ x (below_one _ _)).mono ?_
  rintro e w2 ⟨rfl, hb2⟩
  have B2 : Hid (Below w.heap.size w w2) := nxt (below_one _ _) hb2
  have X2 : Hid (w2.heap[w.heap.size]? = some (.cells #[.slice a s.nodes.length c, .int .i64 s.root, .int .i64 s.next] 24 (0, 0))) := (hb2.block _ (lt_of_block X1.out)).trans X1.out
  clear hb2 X1 HPL
  cases hq : pl s.nodes x with
  | none =>
    rw [nd_none.2 hq] at HB
    rw [plI_none hq]
    clear hq
    go_wp2_with fail
    go_ret
    exact ⟨by rw [HB.out]; rfl, B2.out⟩
  | some q =>
    rw [plI_some hq]
    obtain ⟨n, hn, -⟩ := pl_some hq
    rw [at_nd hq hn] at HB
    simp only at HB
    have HN : Hid (s.nodes[q]? = some n) := hn
    have hql : q < s.nodes.length := (List.getElem?_eq_some_iff.1 hn).1
    have hlen : s.nodes.length * 112 ≤ 140737488351232 := (HS.out w (Below.refl _ _)).len
    have gq : decide ((q : Int) < 0) = false := decide_eq_false (by omega)
    obtain ⟨b, o, aa, ac, ka, kc, ha, hN⟩ := (HS.out w (Below.refl _ _)).lay q n hn
    have HND : Hid (NdAt w b (o + q * 7) n aa ac ka kc) := hN
    have hkl : n.kids.length * 8 ≤ 140737488351232 := (HND.out.fit).kids.2.2.1
    subst ha
    clear hq hn hN
    go_wp2_with fail
    go_loopw [7, 9] (fun v7 v9 wr => ∃ i : Nat, i ≤ n.kids.length ∧ v9 = .int .i64 (i : Int) ∧ v7 = .int .i64 ((n.kids.take i).foldl (fun d y => max d (bD s.nodes f y)) d) ∧ Hid (Below w2.heap.size w2 wr)) (fun _ v9 _ => n.kids.length - (intOf v9).toNat)
    case atStart => exact ⟨0, Nat.zero_le _, rfl, rfl, Below.refl _ _⟩
    case round =>
      obtain ⟨i, hi, rfl, rfl, HBR⟩ := hrel
      have BW : Hid (Below w.heap.size w wr) := nxt B2.out HBR.out
      have XW : Hid (wr.heap[w.heap.size]? = some (.cells #[.slice (some ⟨b, o, none⟩) s.nodes.length c, .int .i64 s.root, .int .i64 s.next] 24 (0, 0))) := (HBR.out.block _ (lt_of_block X2.out)).trans X2.out
      obtain ⟨x0, x1, x2⟩ := three XW.out
      have r6 := (HND.out.below BW.out).c6
      by_cases hlt : i < n.kids.length
      · obtain ⟨kb, ko, hka, k0, -⟩ := (HND.out.below BW.out).kids i n.kids[i] (List.getElem?_eq_getElem hlt)
        subst hka
        have HT : Hid ((n.kids.take (i + 1)).foldl (fun d y => max d (bD s.nodes f y)) d = max ((n.kids.take i).foldl (fun d y => max d (bD s.nodes f y)) d) (bD s.nodes f n.kids[i])) := by
          show _ = _
          rw [List.take_succ_eq_append_getElem hlt, List.foldl_append]
          rfl
        generalize (n.kids.take i).foldl (fun d y => max d (bD s.nodes f y)) d = D at *
        have D1 : Hid (∀ W, Below wr.heap.size wr W → Calls Tryz.prog 30 #[.agg #[.slice (some ⟨b, o, none⟩) s.nodes.length c, .int .i64 s.root, .int .i64 s.next], .int .i64 n.kids[i], .int .i64 (d + 1)] W fun e w' => e = .returned (.int .i64 (bD s.nodes f n.kids[i])) ∧ Below W.heap.size W w') := fun W hb => HIH.out W _ (nxt BW.out hb)
        generalize n.kids[i] = y at *
        generalize bD s.nodes f y = V at *
        have HMX : Hid (D ≤ V → max D V = V) := fun h => by omega
        have HMY : Hid (V ≤ D → max D V = D) := fun h => by omega
        go_upto_region 8 with fail
        have hw1 : wrap64 (d + 1) = d + 1 := by simp only [wrap64]; omega
        have hw2 : IntKind.i64.wrap (d + 1) = d + 1 := by rw [IntKind.wrap_i64]; omega
        have b0 : Below wr.heap.size wr wr.drew := (Below.refl _ _).drew
        clear HMX HMY
        go_region_held3 (fun w' => w'.cell? ⟨w.heap.size, 0, none⟩ = some (.slice (some ⟨b, o, none⟩) s.nodes.length c) ∧ w'.cell? ⟨w.heap.size, 1, none⟩ = some (.int .i64 s.root) ∧ w'.cell? ⟨w.heap.size, 2, none⟩ = some (.int .i64 s.next) ∧ w'.cell? ⟨b, o + q * 7 + 6, none⟩ = some (.slice (some ⟨kb, ko, none⟩) n.kids.length kc) ∧ w'.cell? ⟨kb, ko + i, none⟩ = some (.int .i64 y)) (go_keep)
          ((go_at_call 30; refine (D1.out _ (by assumption)).mono ?_; rintro e w' ⟨rfl, hb⟩; have hk := keepc hb; have bN := nxt (by assumption) hb; clear hb))
        have HBN : Hid (Below wr.heap.size wr w') := bN
        clear x0 x1 x2 r6 k0 hk bN b0
        go_wp2_with fail
        go_roundw
        case rel => exact ⟨i + 1, by omega, by go_num, by rw [HT.out], nxt HBR.out HBN.out⟩
        case measure => simp [intOf]; omega
      · have HE : Hid (n.kids.take i = n.kids) := List.take_of_length_le (by omega)
        rw [HE.out]
        go_wp2_with fail
        go_ret
        exact ⟨by rw [HB.out]; rfl, BW.out⟩

theorem rbel_any (s : Ds) : ∀ f : Nat, f ≤ 9 → RBel s f
  | 0, _ => rbel_zero s
  | f + 1, h => rbel_more s f (by omega) (rbel_any s f (by omega))
end Go.Proofs.YtcdnakcojanaeaaGreat

/-
  The page's tree. (Printed by wip/make/mkdttre.py.)
-/
namespace Go.Proofs.YtcdnakcojanaeaaGreat
open Go.ChangeShapes Go.WideShapes Go.ChangeAt Go.RowKit Go.Deep
open Do

/-- One kid more (of which no copy was made). -/
theorem TrI.push1 {k : Nat} {ns : List Nd} {n : Nd} {w wr w1 w2 : World} {B g9 : Nat} {av : Value} {m : Nat} {its : List (T k)} {xs : List Value} {G : Nat → Nat → Prop} {ra : Option Addr} {rc : Nat} (h : TrI k ns n w wr B g9 av m its xs G ra rc) {x : Int} (hx : n.kids[m]? = some x) {u : T k} (hu : trO ns k x = some u)
    {c0 c1 c2 c3 c4 : Value} {F : Nat → Prop} {o : Obj} (ho : OwnT w1 k (.agg #[c0, c1, c2, c3, c4]) u F) (hF : ∀ b, F b → wr.heap.size ≤ b ∧ b < w1.heap.size) (hb : Below wr.heap.size wr w1) {v' : Value}
    (hr : w2.ownsRow B 40 5 v' (m + 1) (xs ++ [c0, c1, c2, c3, c4])) (hg : (w1.alloc o).grownBy w2 (Value.slice ra m rc).ownBlock) (hv' : v'.ownBlock = (Value.slice ra m rc).ownBlock ∨ ∀ g, v'.ownBlock = some g → w1.heap.size + 1 ≤ g) :
    ∃ ra' rc', v' = .slice ra' (m + 1) rc' ∧ (∃ z, w2.cell? ⟨g9, 4, none⟩ = some z) ∧ w2.frozen? ⟨g9, 4, none⟩ = false ∧ ∃ G', TrI k ns n w (w2.setCell ⟨g9, 4, none⟩ v') B g9 av (m + 1) (its ++ [u]) (xs ++ [c0, c1, c2, c3, c4]) G' ra' rc' := by
  obtain ⟨ra', rc', hv⟩ := slice_of_own hr
  subst hv
  have hlen := allO_length h.it
  have hml : m < n.kids.length := (List.getElem?_eq_some_iff.1 hx).1
  have hil : its.length = m := by rw [hlen]; simp; omega
  have hord := h.order
  have hb' : Below wr.heap.size wr w1 := hb
  have hits : (its ++ [u])[m]? = some u := by rw [List.getElem?_append_right (by omega), hil]; simp
  have hX : Items (OwnT wr k) (its ++ [u]) m xs G := fun i y hi hy => h.items i y hi (by rwa [List.getElem?_append_left (by omega)] at hy)
  obtain ⟨G', hX', hG', hD', hkeep, hsz, -⟩ := copy_step (B := B) hits h.row.1 hX h.lt h.apart (fun g hg => (h.row.lt g hg).2) ho hF hord.2.2 hb' hg hv'
  have rowne : (Value.slice ra m rc).ownBlock ≠ some g9 := fun e => by have := (h.row.lt g9 e).1; omega
  have box2 : w2.heap[g9]? = _ := (hkeep g9 (lt_of_block h.box) rowne).trans h.box
  obtain ⟨⟨-, -, -, -, q4⟩, qf⟩ := five box2
  refine ⟨ra', rc', rfl, ⟨_, q4⟩, qf 4, G', ?_⟩
  have sset : ∀ b, b ≠ g9 → (w2.setCell ⟨g9, 4, none⟩ (.slice ra' (m + 1) rc')).heap[b]? = w2.heap[b]? := fun b hb0 => heap_set_other _ hb0
  have ssz : (w2.setCell ⟨g9, 4, none⟩ (.slice ra' (m + 1) rc')).heap.size = w2.heap.size := by simp [World.setCell]
  refine ⟨?_, ?_, ?_, ?_, ?_, hD', ?_, ?_, ?_, h.atb, hord.1, hord.2.1, by rw [ssz]; omega⟩
  · rw [List.take_add_one, hx, List.map_append, Option.toList_some, List.map_cons, List.map_nil, allO_snoc, h.it, hu]
  · rw [set_one_cell box2]
    simp
  · exact ownsRow_same hr fun g hg0 => sset g (by have := (hr.lt g hg0).1; omega)
  · intro i y hi hy
    obtain ⟨d0, d1, d2, d3, d4, e0, e1, e2, e3, e4, hO⟩ := hX' i y hi hy
    exact ⟨d0, d1, d2, d3, d4, e0, e1, e2, e3, e4, hO.same k fun b hb0 => sset b (by have := (hG' i b hi hb0).1; omega)⟩
  · intro i b hi hGi
    have := hG' i b hi hGi
    exact ⟨this.1, by rw [ssz]; exact this.2.1, this.2.2⟩
  · refine h.ats.same fun b hb0 => ?_
    have h1 := h.atb b hb0
    rw [sset b ?_, hkeep b (by omega) (fun e => by have := (h.row.lt b e).1; omega)]
    rintro rfl
    obtain ⟨cu, hc, -⟩ := h.ats.block hb0
    rw [h.box] at hc
    simp at hc
  · rw [sset _ (by omega), hkeep _ (lt_of_block h.res) (fun e => by have := (h.row.lt _ e).1; omega)]
    exact h.res
  · have hw2 : Below w.heap.size w w2 := by
      have h1 : Below w.heap.size w (w1.alloc o) := nxt (nxt h.bel hb') (below_one _ _)
      exact h1.grown hg (by have := h.bel.size; have := hb'.size; have := (below_one w1 o).size; omega) (fun g hg0 => by have := (h.row.lt g hg0).1; omega)
    exact ⟨hw2.os, hw2.tape, hw2.output, by rw [ssz]; exact hw2.size, fun j hj => (sset j (by omega)).trans (hw2.block j hj)⟩


theorem op_pushT {o : Oper} {d : Option Tmp} (hd : o.dst = d) {a : Act} {w : World} {K : Act → World → Prop} {Q : Exit → Act → World → Prop} (s x : Operand)
    (hop : o.op = .call { callee := .builtin .append, args := #[s, x], argTypes := #[38, 38] })
    (B : Nat) (v : Value) (m : Nat) (xs : List Value) (hs : a.eval s = v) (hv : w.ownsRow B 40 5 v m xs) (ad : Addr) (c : Nat) (cs : List Value) (hcl : cs.length = 5) (hx : a.eval x = .slice (some ad) 1 c) (hcs : ∀ j u, cs[j]? = some u → w.cell? (ad.add j) = some u) (h1 : ∀ y ∈ cs, y.oneCell' = true) (hlen : (m + 1) * 96 ≤ 140737488355328) (hB : B ≤ w.heap.size)
    (h : ∀ v' w', w'.ownsRow B 40 5 v' (m + 1) (xs ++ cs) → w.grownBy w' v.ownBlock → (v'.ownBlock = v.ownBlock ∨ ∀ g, v'.ownBlock = some g → w.heap.size ≤ g) → K (a.put d v') w') : Oper.wp Tryz.prog o a w K Q := by
  subst hd
  obtain ⟨i0, hi, hz0, hz1, hz2⟩ := info_parts Tryz.infoTree
  obtain ⟨v', w', hr, h2, h3, h4⟩ := run_append_apart (P := Tryz.prog) w B 38 o.type 40 i0 _ 5 96 Tryz.underlying38 hi hz0 hz1 hz2 rfl (by decide) v m _ hv ad 1 c cs (by omega) hcs h1 (by unfold maxLen; omega) hlen hB
  unfold Oper.wp execOp
  simp only [hop, resolve, invoke, builtin, Sem.run_bind, Sem.run_pure, Result.andThen_ok, List.map_toArray, List.map_cons, List.map_nil, hs, hx, hr]
  exact h v' w' h2 h3 h4

/-- The page's tree of k levels at most. -/
def RTr (s : Ds) (k : Nat) : Prop := ∀ (x : Int) (t : T k) (a : Option Addr) (c : Nat) (w : World), trO s.nodes k x = some t → DsIs w s a c →
  Calls Tryz.prog 31 #[.agg #[.slice a s.nodes.length c, .int .i64 s.root, .int .i64 s.next], .int .i64 x] w fun e w' => ∃ y F, e = .returned y ∧ OwnT w' k y t F ∧ (∀ b, F b → w.heap.size ≤ b ∧ b < w'.heap.size) ∧ Below w.heap.size w w'

set_option maxRecDepth 100000 in
set_option maxHeartbeats 6400000 in
theorem rtree_more (s : Ds) (hok : OkD s) (k : Nat) (ih : RTr s k) : RTr s (k + 1) := by
  intro x t a c w ht hs
  have HS : Hid (∀ W, Below w.heap.size w W → DsIs W s a c) := fun W hb => hs.below hb
  cases hx : nd s.nodes x with
  | none => simp only [trO] at ht; rw [hx] at ht; cases ht
  | some n =>
  rw [trO_node hx] at ht
  obtain ⟨q, hq, hn⟩ := nd_at hx
  have hat := hok.good.at hx
  have hk32 : n.kids.length ≤ 32 := (alone_iff.1 hat.alone).2.2
  have HOK : Hid (OkD s) := hok
  have hlen0 := hs.len
  have HIH : Hid (∀ W y u, Below w.heap.size w W → trO s.nodes k y = some u → Calls Tryz.prog 31 #[.agg #[.slice a s.nodes.length c, .int .i64 s.root, .int .i64 s.next], .int .i64 y] W fun e w' => ∃ y F, e = .returned y ∧ OwnT w' k y u F ∧ (∀ b, F b → W.heap.size ≤ b ∧ b < w'.heap.size) ∧ Below W.heap.size W w') := fun W y u hb hu => ih y u a c W hu (hs.below hb)
  have HTR : Hid (∃ its0, allO (n.kids.map (trO s.nodes k)) = some its0 ∧ (n.tag, n.key, n.txt, n.ats, its0) = t) := by
    cases hal : allO (n.kids.map (trO s.nodes k)) with
    | none => rw [hal] at ht; cases ht
    | some its0 => rw [hal] at ht; exact ⟨its0, rfl, Option.some.inj ht⟩
  have HPT : Hid (∀ W, Below w.heap.size w W → Calls Tryz.prog 26 #[.agg #[.slice a s.nodes.length c, .int .i64 s.root, .int .i64 s.next], .int .i64 x] W fun e w' => e = .returned (.int .i64 (q : Int)) ∧ Below W.heap.size W w') := fun W hb => by have := rplace_any s x a c W (hs.below hb); rwa [plI_some hq] at this
  have hql : q < s.nodes.length := (List.getElem?_eq_some_iff.1 hn).1
  obtain ⟨b, o, aa, ac, ka, kc, ha, hN⟩ := hs.lay q n hn
  subst ha
  have HND : Hid (NdAt w b (o + q * 7) n aa ac ka kc) := hN
  have HFT : Hid (NdFit n) := fit_of hN.fit hN.ats hN.kids
  clear hs ih hok ht hq hn hN hat hx
  obtain ⟨K2, hK2⟩ : ∃ W : World, W = (w.alloc (.cells #[.slice (some ⟨b, o, none⟩) s.nodes.length c, .int .i64 s.root, .int .i64 s.next] 24)).alloc (.cells #[.string ⟨#[]⟩, .string ⟨#[]⟩, .string ⟨#[]⟩, .slice none 0 0, .slice none 0 0] 40) := ⟨_, rfl⟩
  have B2 : Hid (Below w.heap.size w K2) := by show Below _ _ _; rw [hK2]; exact two_new _ _ _
  have B2a : Hid (Below (w.heap.size + 1) (w.alloc (.cells #[.slice (some ⟨b, o, none⟩) s.nodes.length c, .int .i64 s.root, .int .i64 s.next] 24)) K2) := by show Below _ _ _; rw [hK2]; have := below_one (w.alloc (.cells #[.slice (some ⟨b, o, none⟩) s.nodes.length c, .int .i64 s.root, .int .i64 s.next] 24)) (.cells #[.string ⟨#[]⟩, .string ⟨#[]⟩, .string ⟨#[]⟩, .slice none 0 0, .slice none 0 0] 40); simpa using this
  have HW1 : Hid ((w.alloc (.cells #[.slice (some ⟨b, o, none⟩) s.nodes.length c, .int .i64 s.root, .int .i64 s.next] 24)).heap.size = w.heap.size + 1) := by show _ = _; simp
  have S2 : Hid (K2.heap[w.heap.size]? = some (.cells #[.slice (some ⟨b, o, none⟩) s.nodes.length c, .int .i64 s.root, .int .i64 s.next] 24 (0, 0)) ∧ K2.heap[w.heap.size + 1]? = some (.cells #[.string ⟨#[]⟩, .string ⟨#[]⟩, .string ⟨#[]⟩, .slice none 0 0, .slice none 0 0] 40 (0, 0)) ∧ K2.heap.size = w.heap.size + 2) := by show _ ∧ _; rw [hK2]; exact ⟨((below_one _ _).block _ (by simp)).trans (heap_alloc_new _ _), heap_new2 _ _ _, by simp⟩
  generalize hw1 : w.alloc (.cells #[.slice (some ⟨b, o, none⟩) s.nodes.length c, .int .i64 s.root, .int .i64 s.next] 24) = w1 at B2a HW1
  have HB1 : Hid (Below w.heap.size w w1) := by show Below _ _ _; rw [← hw1]; exact below_one _ _
  have HS1 : Hid (w1.heap[w.heap.size]? = some (.cells #[.slice (some ⟨b, o, none⟩) s.nodes.length c, .int .i64 s.root, .int .i64 s.next] 24 (0, 0))) := by show _ = _; rw [← hw1]; exact heap_alloc_new _ _
  clear hw1
  go_enter Tryz.func31, Tryz.ntmps31
  go_wp2_with fail
  rw [← hK2]
  clear hK2
  obtain ⟨x0, x1, x2⟩ := three S2.out.1
  have HN2 := HND.out.below B2.out
  have p0 := HN2.c0
  have p1 := HN2.c1
  have p2 := HN2.c2
  have p3 := HN2.c3
  have p4 := HN2.c4
  have p5 := HN2.c5
  have p6 := HN2.c6
  clear HN2
  go_cut [5] (fun v5 wc => ∃ g5, v5 = .pointer (some ⟨g5, 0, none⟩) ∧ Hid (wc.heap[g5]? = some (.cells #[.int .i64 n.id, .int .i64 n.par, .string n.tag, .string n.key, .string n.txt, .slice aa n.ats.length ac, .slice ka n.kids.length kc] 62 (0, 0))) ∧ Hid (Below K2.heap.size K2 wc) ∧ Hid (K2.heap.size ≤ g5))
  case first =>
    have HS0 : (fun w' : World => Below K2.heap.size K2 w') K2.drew := (Below.refl _ K2).drew
    refine Rg.Till.region (fun w' : World => Below K2.heap.size K2 w') 8 (by kernel_rfl) ?_
    show Rg.Till _ _ _ _ _ 9 (Array.replicate 9 false) _ _
    refine Rg.Till.take (i := 0) (v := .pointer (some ⟨w.heap.size, 0, none⟩)) (some 8) rfl rfl (by kernel_rfl) (by kernel_rfl) (fun _ _ _ h => h) (by kernel_rfl) (by kernel_rfl) (Or.inl ⟨rfl, fun w' hS => ?_⟩) HS0 ?_
    · go_simp
    simp only [Act.put, List.setIfInBounds_toArray, List.set_cons_zero, List.set_cons_succ]
    refine Rg.Till.take (i := 1) (v := .slice (some ⟨b, o, none⟩) s.nodes.length c) (some 9) rfl rfl (by kernel_rfl) (by kernel_rfl) (fun _ _ _ h => h) (by kernel_rfl) (by kernel_rfl) (Or.inl ⟨rfl, fun w' hS => ?_⟩) HS0 ?_
    · have kx0 := keepc hS _ _ x0; go_simp
    simp only [Act.put, List.setIfInBounds_toArray, List.set_cons_zero, List.set_cons_succ]
    refine Rg.Till.take (i := 2) (v := .agg #[.slice (some ⟨b, o, none⟩) s.nodes.length c, .int .i64 s.root, .int .i64 s.next]) (some 10) rfl rfl (by kernel_rfl) (by kernel_rfl) (fun _ _ _ h => h) (by kernel_rfl) (by kernel_rfl) (Or.inl ⟨rfl, fun w' hS => ?_⟩) HS0 ?_
    · have kx0 := keepc hS _ _ x0; have kx1 := keepc hS _ _ x1; have kx2 := keepc hS _ _ x2; go_simp
    simp only [Act.put, List.setIfInBounds_toArray, List.set_cons_zero, List.set_cons_succ]
    refine Rg.Till.take (i := 3) (v := .int .i64 x) (some 11) rfl rfl (by kernel_rfl) (by kernel_rfl) (fun _ _ _ h => h) (by kernel_rfl) (by kernel_rfl) (Or.inl ⟨rfl, fun w' hS => ?_⟩) HS0 ?_
    · go_simp
    simp only [Act.put, List.setIfInBounds_toArray, List.set_cons_zero, List.set_cons_succ]
    refine Rg.Till.twoK (i := 4) (j := 7) (by kernel_rfl) rfl rfl rfl rfl ?_ ?_
    · skip
      intro K hK
      refine op_call2 (d := some 12) rfl 26 (by intros; go_simp) _ _ _ rfl _ _ rfl rfl ((HPT.out _ (nxt B2.out HS0)).mono ?_)
      rintro e w5 ⟨rfl, hb5⟩
      have HC1 : Below K2.heap.size K2 w5 := nxt HS0 hb5
      refine ⟨_, rfl, hK.out _ _ (fun _ => HC1) ?_⟩
      clear hK K
      simp only [Act.put, List.setIfInBounds_toArray, List.set_cons_zero, List.set_cons_succ]
      refine Rg.Till.take (i := 5) (v := .pointer (some ⟨b, o + q * 7, none⟩)) (some 13) rfl rfl (by kernel_rfl) (by kernel_rfl) (fun _ _ _ h => h) (by kernel_rfl) (by kernel_rfl) (Or.inl ⟨rfl, fun w' hS => ?_⟩) HC1 ?_
      · go_simp
      simp only [Act.put, List.setIfInBounds_toArray, List.set_cons_zero, List.set_cons_succ]
      refine Rg.Till.take (i := 6) (v := .agg #[.int .i64 n.id, .int .i64 n.par, .string n.tag, .string n.key, .string n.txt, .slice aa n.ats.length ac, .slice ka n.kids.length kc]) (some 14) rfl rfl (by kernel_rfl) (by kernel_rfl) (fun _ _ _ h => h) (by kernel_rfl) (by kernel_rfl) (Or.inl ⟨rfl, fun w' hS => ?_⟩) HC1 ?_
      · have kp0 := keepc hS _ _ p0; have kp1 := keepc hS _ _ p1; have kp2 := keepc hS _ _ p2; have kp3 := keepc hS _ _ p3; have kp4 := keepc hS _ _ p4; have kp5 := keepc hS _ _ p5; have kp6 := keepc hS _ _ p6; go_simp
      simp only [Act.put, List.setIfInBounds_toArray, List.set_cons_zero, List.set_cons_succ]
      refine Rg.Till.oneK (i := 7) (by kernel_rfl) rfl rfl ?_
      intro K hK
      go_simp
      have HA1 : Below K2.heap.size K2 (w5.alloc (.cells #[.int .i64 0, .int .i64 0, .string ⟨#[]⟩, .string ⟨#[]⟩, .string ⟨#[]⟩, .slice none 0 0, .slice none 0 0] 62)) := nxt HC1 (below_one _ _)
      refine hK.out _ _ (fun _ => HA1) ?_
      clear hK K
      have FB : (w5.alloc (.cells #[.int .i64 0, .int .i64 0, .string ⟨#[]⟩, .string ⟨#[]⟩, .string ⟨#[]⟩, .slice none 0 0, .slice none 0 0] 62)).heap[w5.heap.size]? = _ := heap_alloc_new _ _
      refine Rg.Till.oneK (i := 8) (by kernel_rfl) rfl rfl ?_
      intro K hK
      refine Rg.op_storeF rfl 62 (.tmp 5) (.tmp 14) rfl (w5.heap.size) _ 62 [.int .i64 n.id, .int .i64 n.par, .string n.tag, .string n.key, .string n.txt, .slice aa n.ats.length ac, .slice ka n.kids.length kc] rfl rfl FB rfl (by kernel_rfl) (by simp [Value.oneCell']) ?_
      intro w6 f1 f2 f3
      have HB6 : Below K2.heap.size K2 w6 := f3 _ _ HC1.size HA1
      refine hK.out _ _ (fun h => absurd rfl h) ?_
      clear hK K
      refine Rg.Till.done (by kernel_rfl) ?_
      clear x0 x1 x2 p0 p1 p2 p3 p4 p5 p6
      go_wp2_with fail
      go_meet
      exact ⟨_, rfl, f1, HB6, HC1.size⟩
    · skip
      intro K hK
      go_simp
      have HA2 : Below K2.heap.size K2 (K2.drew.alloc (.cells #[.int .i64 0, .int .i64 0, .string ⟨#[]⟩, .string ⟨#[]⟩, .string ⟨#[]⟩, .slice none 0 0, .slice none 0 0] 62)) := nxt HS0 (below_one _ _)
      refine hK.out _ _ (fun _ => HA2) ?_
      clear hK K
      refine Rg.Till.oneK (i := 4) (by kernel_rfl) rfl rfl ?_
      intro K hK
      refine op_call2 (d := some 12) rfl 26 (by intros; go_simp) _ _ _ rfl _ _ rfl rfl ((HPT.out _ (nxt B2.out HA2)).mono ?_)
      rintro e w5 ⟨rfl, hb5⟩
      have HC2 : Below K2.heap.size K2 w5 := nxt HA2 hb5
      refine ⟨_, rfl, hK.out _ _ (fun _ => HC2) ?_⟩
      clear hK K
      simp only [Act.put, List.setIfInBounds_toArray, List.set_cons_zero, List.set_cons_succ]
      refine Rg.Till.take (i := 5) (v := .pointer (some ⟨b, o + q * 7, none⟩)) (some 13) rfl rfl (by kernel_rfl) (by kernel_rfl) (fun _ _ _ h => h) (by kernel_rfl) (by kernel_rfl) (Or.inl ⟨rfl, fun w' hS => ?_⟩) HC2 ?_
      · go_simp
      simp only [Act.put, List.setIfInBounds_toArray, List.set_cons_zero, List.set_cons_succ]
      refine Rg.Till.take (i := 6) (v := .agg #[.int .i64 n.id, .int .i64 n.par, .string n.tag, .string n.key, .string n.txt, .slice aa n.ats.length ac, .slice ka n.kids.length kc]) (some 14) rfl rfl (by kernel_rfl) (by kernel_rfl) (fun _ _ _ h => h) (by kernel_rfl) (by kernel_rfl) (Or.inl ⟨rfl, fun w' hS => ?_⟩) HC2 ?_
      · have kp0 := keepc hS _ _ p0; have kp1 := keepc hS _ _ p1; have kp2 := keepc hS _ _ p2; have kp3 := keepc hS _ _ p3; have kp4 := keepc hS _ _ p4; have kp5 := keepc hS _ _ p5; have kp6 := keepc hS _ _ p6; go_simp
      simp only [Act.put, List.setIfInBounds_toArray, List.set_cons_zero, List.set_cons_succ]
      have FB : w5.heap[K2.heap.size]? = _ := (hb5.block _ (by show K2.heap.size < (K2.alloc _).heap.size; simp)).trans (heap_alloc_new K2 _)
      refine Rg.Till.oneK (i := 8) (by kernel_rfl) rfl rfl ?_
      intro K hK
      refine Rg.op_storeF rfl 62 (.tmp 5) (.tmp 14) rfl (K2.heap.size) _ 62 [.int .i64 n.id, .int .i64 n.par, .string n.tag, .string n.key, .string n.txt, .slice aa n.ats.length ac, .slice ka n.kids.length kc] rfl rfl FB rfl (by kernel_rfl) (by simp [Value.oneCell']) ?_
      intro w6 f1 f2 f3
      have HB6 : Below K2.heap.size K2 w6 := f3 _ _ (Nat.le_refl _) HC2
      refine hK.out _ _ (fun h => absurd rfl h) ?_
      clear hK K
      refine Rg.Till.done (by kernel_rfl) ?_
      clear x0 x1 x2 p0 p1 p2 p3 p4 p5 p6
      go_wp2_with fail
      go_meet
      exact ⟨_, rfl, f1, HB6, (Nat.le_refl _)⟩
  case rest =>
    obtain ⟨g5, rfl, HG5, HC, HGL⟩ := hcut
    have S3 : Hid (wc.heap[w.heap.size]? = some (.cells #[.slice (some ⟨b, o, none⟩) s.nodes.length c, .int .i64 s.root, .int .i64 s.next] 24 (0, 0)) ∧ wc.heap[w.heap.size + 1]? = some (.cells #[.string ⟨#[]⟩, .string ⟨#[]⟩, .string ⟨#[]⟩, .slice none 0 0, .slice none 0 0] 40 (0, 0)) ∧ g5 < wc.heap.size) := ⟨(HC.out.block _ (lt_of_block S2.out.1)).trans S2.out.1, (HC.out.block _ (lt_of_block S2.out.2.1)).trans S2.out.2.1, lt_of_block HG5.out⟩
    have hsz2 := S2.out.2.2
    have hszc := HC.out.size
    have HZ3 : Hid (w.heap.size + 2 ≤ wc.heap.size ∧ w.heap.size + 2 ≤ g5 ∧ g5 < wc.heap.size) := ⟨by omega, by have := HGL.out; omega, lt_of_block HG5.out⟩
    have LA3 : Hid (LayA wc aa n.ats) := (HND.out.ats.below B2.out).below HC.out
    have BA3 : Hid (Below (w.heap.size + 1) w1 wc) := ⟨HC.out.os.trans B2a.out.os, HC.out.tape.trans B2a.out.tape, HC.out.output.trans B2a.out.output, Nat.le_trans B2a.out.size HC.out.size, fun j hj => (HC.out.block j (by omega)).trans (B2a.out.block j hj)⟩
    have HNA : Hid (aa = none → n.ats.length = 0 ∧ ac = 0) := HND.out.fit.ats.2.2.2
    have hal := HFT.out.node.2.2.2.1
    clear x0 x1 x2 p0 p1 p2 p3 p4 p5 p6 HPT S2 B2 B2a HC HGL hsz2 hszc
    obtain ⟨b0, b1, b2, b3, b4, b5, b6⟩ := seven HG5.out
    have X6 : Hid ((wc.alloc (.cells #[.string n.tag, .string n.key, .string n.txt, .slice none 0 0, .slice none 0 0] 40)).heap[wc.heap.size]? = some (.cells #[.string n.tag, .string n.key, .string n.txt, .slice none 0 0, .slice none 0 0] 40 (0, 0))) := heap_alloc_new _ _
    have S6 : Hid ((wc.alloc (.cells #[.string n.tag, .string n.key, .string n.txt, .slice none 0 0, .slice none 0 0] 40)).heap[w.heap.size]? = some (.cells #[.slice (some ⟨b, o, none⟩) s.nodes.length c, .int .i64 s.root, .int .i64 s.next] 24 (0, 0)) ∧ (wc.alloc (.cells #[.string n.tag, .string n.key, .string n.txt, .slice none 0 0, .slice none 0 0] 40)).heap[w.heap.size + 1]? = some (.cells #[.string ⟨#[]⟩, .string ⟨#[]⟩, .string ⟨#[]⟩, .slice none 0 0, .slice none 0 0] 40 (0, 0)) ∧ (wc.alloc (.cells #[.string n.tag, .string n.key, .string n.txt, .slice none 0 0, .slice none 0 0] 40)).heap[g5]? = some (.cells #[.int .i64 n.id, .int .i64 n.par, .string n.tag, .string n.key, .string n.txt, .slice aa n.ats.length ac, .slice ka n.kids.length kc] 62 (0, 0))) := ⟨((below_one _ _).block _ (lt_of_block S3.out.1)).trans S3.out.1, ((below_one _ _).block _ (lt_of_block S3.out.2.1)).trans S3.out.2.1, ((below_one _ _).block _ (lt_of_block HG5.out)).trans HG5.out⟩
    have LA6 : Hid (LayA (wc.alloc (.cells #[.string n.tag, .string n.key, .string n.txt, .slice none 0 0, .slice none 0 0] 40)) aa n.ats) := LA3.out.below (below_one _ _)
    have BA6 : Hid (Below (w.heap.size + 1) w1 (wc.alloc (.cells #[.string n.tag, .string n.key, .string n.txt, .slice none 0 0, .slice none 0 0] 40))) := ⟨BA3.out.os, BA3.out.tape, BA3.out.output, Nat.le_trans BA3.out.size (below_one _ _).size, fun j hj => ((below_one _ _).block j (by have := BA3.out.size; have := HW1.out; omega)).trans (BA3.out.block j hj)⟩
    have Z6 : Hid ((wc.alloc (.cells #[.string n.tag, .string n.key, .string n.txt, .slice none 0 0, .slice none 0 0] 40)).heap.size = wc.heap.size + 1) := by show _ = _; simp
    go_upto_region 3 with fail
    clear b0 b1 b2 b3 b4 b5 b6 LA3 BA3 S3 HG5
    generalize (wc.alloc (.cells #[.string n.tag, .string n.key, .string n.txt, .slice none 0 0, .slice none 0 0] 40)) = w6 at *
    generalize hg9 : wc.heap.size = g9 at *
    clear hg9
    obtain ⟨⟨q0, q1, q2, q3, q4⟩, -⟩ := five X6.out
    obtain ⟨b0, b1, b2, b3, b4, b5, b6⟩ := seven S6.out.2.2
    go_wp2_with (at_builtin; refine wpList_appA _ rfl (.tmp 23) (.tmp 25) rfl w6.heap.size (.slice none 0 0) [] rfl (OwnA.nil _ _) aa n.ats.length ac n.ats rfl rfl HNA.out LA6.out ?d0 (Nat.le_refl _) ?_)
    case d0 => simp; omega
    intro v8 w8 e1 e2 e3
    have R8 : Hid (OwnA w8 w6.heap.size v8 n.ats) := e1
    have B8 : Hid (Below w6.heap.size w6 w8) := grownB (OwnA.nil w6 w6.heap.size) e2 (Nat.le_refl _)
    clear e1 e2 e3 q0 q1 q2 q3 q4 b0 b1 b2 b3 b4 b5 b6
    have X8 : Hid (w8.heap[g9]? = some (.cells #[.string n.tag, .string n.key, .string n.txt, .slice none 0 0, .slice none 0 0] 40 (0, 0))) := (B8.out.block _ (lt_of_block X6.out)).trans X6.out
    have y3 := (five X8.out).1.2.2.2.1
    have yf3 := (five X8.out).2 3
    obtain ⟨a3, c3, hav⟩ := R8.out.shape
    subst hav
    have hz6 := Z6.out
    have hz3 := HZ3.out
    have hb8 := B8.out.size
    have hne : ∀ j : Nat, j ≠ g9 → (w8.setCell ⟨g9, 3, none⟩ (.slice a3 n.ats.length c3)).heap[j]? = w8.heap[j]? := fun j hj => heap_set_other _ hj
    have hs9 : (w8.setCell ⟨g9, 3, none⟩ (.slice a3 n.ats.length c3)).heap.size = w8.heap.size := by simp [World.setCell]
    have hw1s := HW1.out
    have HB9 : Hid (Below w1.heap.size w1 (w8.setCell ⟨g9, 3, none⟩ (.slice a3 n.ats.length c3))) := ⟨B8.out.os.trans BA6.out.os, B8.out.tape.trans BA6.out.tape, B8.out.output.trans BA6.out.output, by rw [hs9]; exact Nat.le_trans BA6.out.size B8.out.size, fun j hj => (hne j (by omega)).trans ((B8.out.block j (by omega)).trans (BA6.out.block j (by omega)))⟩
    have HN9 : Hid ((w8.setCell ⟨g9, 3, none⟩ (.slice a3 n.ats.length c3)).heap[g5]? = some (.cells #[.int .i64 n.id, .int .i64 n.par, .string n.tag, .string n.key, .string n.txt, .slice aa n.ats.length ac, .slice ka n.kids.length kc] 62 (0, 0)) ∧ g5 ≠ g9 ∧ g5 < (w8.setCell ⟨g9, 3, none⟩ (.slice a3 n.ats.length c3)).heap.size) := ⟨(hne g5 (by omega)).trans ((B8.out.block _ (lt_of_block S6.out.2.2)).trans S6.out.2.2), by omega, by omega⟩
    have HI0 : Hid (TrI k s.nodes n w1 (w8.setCell ⟨g9, 3, none⟩ (.slice a3 n.ats.length c3)) (w8.setCell ⟨g9, 3, none⟩ (.slice a3 n.ats.length c3)).heap.size g9 (.slice a3 n.ats.length c3) 0 [] [] (fun _ _ => False) none 0) := by
      refine ⟨rfl, ?_, World.ownsRow_nil _ _ _ _, (fun i u hi => by omega), (fun i b hi => by omega), (fun i j b hi => by omega), ?_, ?_, HB9.out, fun b hb => by rw [hs9]; exact (OwnA.rng R8.out hb).2, ?_, ?_, Nat.le_refl _⟩
      · rw [set_one_cell X8.out]; simp
      · exact (OwnA.less R8.out (by omega)).same fun b hb => hne b (by have := (OwnA.rng R8.out hb).1; omega)
      · rw [hw1s, hne _ (by omega)]; exact (B8.out.block _ (lt_of_block S6.out.2.1)).trans S6.out.2.1
      · omega
      · rw [hs9]; have := lt_of_block X8.out; exact this
    go_wp2_with fail
    clear y3 yf3 X8 R8 B8 S6 X6 LA6 BA6 Z6 hne hs9 hb8 hz6 HB9
    generalize (w8.setCell ⟨g9, 3, none⟩ (.slice a3 n.ats.length c3)) = W5 at *
    go_loopw [7] (fun v7 wr => ∃ (m : Nat) (its : List (T k)) (xs : List Value) (G : Nat → Nat → Prop) (ra : Option Addr) (rc : Nat), m ≤ n.kids.length ∧ v7 = .int .i64 (m : Int) ∧ Hid (TrI k s.nodes n w1 wr W5.heap.size g9 (.slice a3 n.ats.length c3) m its xs G ra rc) ∧ Hid (wr.heap[g5]? = some (.cells #[.int .i64 n.id, .int .i64 n.par, .string n.tag, .string n.key, .string n.txt, .slice aa n.ats.length ac, .slice ka n.kids.length kc] 62 (0, 0)))) (fun v7 _ => n.kids.length - (intOf v7).toNat)
    case atStart => exact ⟨0, [], [], _, none, 0, Nat.zero_le _, rfl, HI0.out, HN9.out.1⟩
    case round =>
      obtain ⟨m, its, xs, G, ra, rc, hm, rfl, HI, HG⟩ := hrel
      clear HI0
      have BW : Hid (Below w.heap.size w wr) := ⟨HI.out.bel.os.trans HB1.out.os, HI.out.bel.tape.trans HB1.out.tape, HI.out.bel.output.trans HB1.out.output, Nat.le_trans HB1.out.size HI.out.bel.size, fun j hj => (HI.out.bel.block j (by omega)).trans (HB1.out.block j hj)⟩
      have SW : Hid (wr.heap[w.heap.size]? = some (.cells #[.slice (some ⟨b, o, none⟩) s.nodes.length c, .int .i64 s.root, .int .i64 s.next] 24 (0, 0))) := (HI.out.bel.block _ (by omega)).trans HS1.out
      obtain ⟨x0, x1, x2⟩ := three SW.out
      obtain ⟨⟨q0, q1, q2, q3, q4⟩, -⟩ := five HI.out.box
      have b6 : wr.cell? ⟨g5, 6, none⟩ = some (.slice ka n.kids.length kc) := (cell_of HG.out 6).1
      by_cases hlt : m < n.kids.length
      · obtain ⟨kb, ko, hka, k00, -⟩ := HND.out.kids m n.kids[m] (List.getElem?_eq_getElem hlt)
        have HKB := lt_of_cell k00
        have k0 := keepc BW.out _ _ k00
        clear k00
        subst hka
        have HGK : Hid (n.kids[m]? = some n.kids[m]) := List.getElem?_eq_getElem hlt
        obtain ⟨u, hu⟩ : ∃ u, trO s.nodes k n.kids[m] = some u := by
          cases htt : trO s.nodes k n.kids[m] with
          | some u => exact ⟨u, rfl⟩
          | none =>
            obtain ⟨its0, h1, -⟩ := HTR.out
            rw [allO_none (by rw [← htt]; exact List.mem_map.2 ⟨_, List.getElem_mem hlt, rfl⟩)] at h1
            cases h1
        have HTU : Hid (trO s.nodes k n.kids[m] = some u) := hu
        have HCC : Hid (∀ W, Below wr.heap.size wr W → Calls Tryz.prog 31 #[.agg #[.slice (some ⟨b, o, none⟩) s.nodes.length c, .int .i64 s.root, .int .i64 s.next], .int .i64 n.kids[m]] W fun e w' => ∃ y F, e = .returned y ∧ OwnT w' k y u F ∧ (∀ b, F b → W.heap.size ≤ b ∧ b < w'.heap.size) ∧ Below W.heap.size W w') := fun W hb => HIH.out W _ u (nxt BW.out hb) hu
        clear hu
        generalize n.kids[m] = y at *
        go_wp2_with fail
        have hod := HI.out.order
        have hw1s := HW1.out
        have hg5 := HN9.out.2.2
        have hkb : kb < w.heap.size := HKB
        clear HKB
        have HF : Hid (∀ w', Below W5.heap.size wr w' → w'.cell? ⟨g9, 4, none⟩ = some (.slice ra m rc) ∧ w'.cell? ⟨w.heap.size, 0, none⟩ = some (.slice (some ⟨b, o, none⟩) s.nodes.length c) ∧ w'.cell? ⟨w.heap.size, 1, none⟩ = some (.int .i64 s.root) ∧ w'.cell? ⟨w.heap.size, 2, none⟩ = some (.int .i64 s.next) ∧ w'.cell? ⟨g5, 6, none⟩ = some (.slice (some ⟨kb, ko, none⟩) n.kids.length kc) ∧ w'.cell? ⟨kb, ko + m, none⟩ = some (.int .i64 y)) := fun w' hS => ⟨by rw [hS.cell (show g9 < W5.heap.size by omega)]; exact q4, by rw [hS.cell (show w.heap.size < W5.heap.size by omega)]; exact x0, by rw [hS.cell (show w.heap.size < W5.heap.size by omega)]; exact x1, by rw [hS.cell (show w.heap.size < W5.heap.size by omega)]; exact x2, by rw [hS.cell (show g5 < W5.heap.size by omega)]; exact b6, by rw [hS.cell (show kb < W5.heap.size by omega)]; exact k0⟩
        have HS0 : (fun w' : World => Below W5.heap.size wr w') wr.drew := (Below.refl _ wr).drew
        refine Rg.Till.region (fun w' : World => Below W5.heap.size wr w') 12 (by kernel_rfl) ?_
        show Rg.Till _ _ _ _ _ 13 (Array.replicate 13 false) _ _
        refine Rg.Till.take (i := 0) (v := .pointer (some ⟨g9, 4, none⟩)) (some 35) rfl rfl (by kernel_rfl) (by kernel_rfl) (fun _ _ _ h => h) (by kernel_rfl) (by kernel_rfl) (Or.inl ⟨rfl, fun w' hS => ?_⟩) HS0 ?_
        · obtain ⟨kq4, kx0, kx1, kx2, kb6, kk0⟩ := HF.out w' hS; go_simp
        simp only [Act.put, List.setIfInBounds_toArray, List.set_cons_zero, List.set_cons_succ]
        refine Rg.Till.take (i := 1) (v := .slice ra m rc) (some 36) rfl rfl (by kernel_rfl) (by kernel_rfl) (fun _ _ _ h => h) (by kernel_rfl) (by kernel_rfl) (Or.inl ⟨rfl, fun w' hS => ?_⟩) HS0 ?_
        · obtain ⟨kq4, kx0, kx1, kx2, kb6, kk0⟩ := HF.out w' hS; go_simp
        simp only [Act.put, List.setIfInBounds_toArray, List.set_cons_zero, List.set_cons_succ]
        refine Rg.Till.take (i := 2) (v := .agg #[.slice (some ⟨b, o, none⟩) s.nodes.length c, .int .i64 s.root, .int .i64 s.next]) (some 37) rfl rfl (by kernel_rfl) (by kernel_rfl) (fun _ _ _ h => h) (by kernel_rfl) (by kernel_rfl) (Or.inl ⟨rfl, fun w' hS => ?_⟩) HS0 ?_
        · obtain ⟨kq4, kx0, kx1, kx2, kb6, kk0⟩ := HF.out w' hS; go_simp
        simp only [Act.put, List.setIfInBounds_toArray, List.set_cons_zero, List.set_cons_succ]
        refine Rg.Till.take (i := 3) (v := .pointer (some ⟨g5, 6, none⟩)) (some 38) rfl rfl (by kernel_rfl) (by kernel_rfl) (fun _ _ _ h => h) (by kernel_rfl) (by kernel_rfl) (Or.inl ⟨rfl, fun w' hS => ?_⟩) HS0 ?_
        · obtain ⟨kq4, kx0, kx1, kx2, kb6, kk0⟩ := HF.out w' hS; go_simp
        simp only [Act.put, List.setIfInBounds_toArray, List.set_cons_zero, List.set_cons_succ]
        refine Rg.Till.take (i := 4) (v := .slice (some ⟨kb, ko, none⟩) n.kids.length kc) (some 39) rfl rfl (by kernel_rfl) (by kernel_rfl) (fun _ _ _ h => h) (by kernel_rfl) (by kernel_rfl) (Or.inl ⟨rfl, fun w' hS => ?_⟩) HS0 ?_
        · obtain ⟨kq4, kx0, kx1, kx2, kb6, kk0⟩ := HF.out w' hS; go_simp
        simp only [Act.put, List.setIfInBounds_toArray, List.set_cons_zero, List.set_cons_succ]
        refine Rg.Till.take (i := 5) (v := .int .i64 (m : Int)) (some 40) rfl rfl (by kernel_rfl) (by kernel_rfl) (fun _ _ _ h => h) (by kernel_rfl) (by kernel_rfl) (Or.inl ⟨rfl, fun w' hS => ?_⟩) HS0 ?_
        · obtain ⟨kq4, kx0, kx1, kx2, kb6, kk0⟩ := HF.out w' hS; go_simp
        simp only [Act.put, List.setIfInBounds_toArray, List.set_cons_zero, List.set_cons_succ]
        refine Rg.Till.take (i := 6) (v := .pointer (some ⟨kb, ko + m, none⟩)) (some 41) rfl rfl (by kernel_rfl) (by kernel_rfl) (fun _ _ _ h => h) (by kernel_rfl) (by kernel_rfl) (Or.inl ⟨rfl, fun w' hS => ?_⟩) HS0 ?_
        · obtain ⟨kq4, kx0, kx1, kx2, kb6, kk0⟩ := HF.out w' hS; go_simp
        simp only [Act.put, List.setIfInBounds_toArray, List.set_cons_zero, List.set_cons_succ]
        refine Rg.Till.take (i := 7) (v := .int .i64 y) (some 42) rfl rfl (by kernel_rfl) (by kernel_rfl) (fun _ _ _ h => h) (by kernel_rfl) (by kernel_rfl) (Or.inl ⟨rfl, fun w' hS => ?_⟩) HS0 ?_
        · obtain ⟨kq4, kx0, kx1, kx2, kb6, kk0⟩ := HF.out w' hS; go_simp
        simp only [Act.put, List.setIfInBounds_toArray, List.set_cons_zero, List.set_cons_succ]
        refine Rg.Till.oneK (i := 8) (by kernel_rfl) rfl rfl ?_
        intro K hK
        refine op_call2 (d := some 43) rfl 31 (by intros; go_simp) _ _ _ rfl _ _ rfl rfl ((HCC.out _ ((Below.refl _ wr).drew)).mono ?_)
        rintro e w3 ⟨yv, F, rfl, ho, hF, hb3⟩
        obtain ⟨k', b', t', ka', kl', kc', ia', il', ic', rfl⟩ := LayT.shape k (OwnT.lay k ho)
        have HB3 : Below wr.heap.size wr w3 := nxt ((Below.refl _ wr).drew) hb3
        have hF3 : ∀ b, F b → wr.heap.size ≤ b ∧ b < w3.heap.size := hF
        refine ⟨_, rfl, hK.out _ _ (fun _ => HB3.mono hod.2.2) ?_⟩
        clear hK K
        simp only [Act.put, List.setIfInBounds_toArray, List.set_cons_zero, List.set_cons_succ]
        refine Rg.Till.oneK (i := 9) (by kernel_rfl) rfl rfl ?_
        intro K hK
        go_simp
        have HB4 : Below wr.heap.size wr (w3.alloc (.cells #[.string k', .string b', .string t', .slice ka' kl' kc', .slice ia' il' ic'] 40)) := nxt HB3 (below_one _ _)
        refine hK.out _ _ (fun _ => HB4.mono hod.2.2) ?_
        clear hK K
        refine Rg.Till.oneK (i := 10) (by kernel_rfl) rfl rfl ?_
        intro K hK
        have HI4 := HI.out.below HB4
        refine op_pushT (d := some 45) rfl _ _ rfl W5.heap.size (.slice ra m rc) m xs rfl HI4.row ⟨w3.heap.size, 0, none⟩ 1 [.string k', .string b', .string t', .slice ka' kl' kc', .slice ia' il' ic'] rfl rfl (fun j u hj => newCells w3 _ _ j u (by rw [← Array.getElem?_toList]; exact hj)) (by intro z hz; simp at hz; rcases hz with rfl | rfl | rfl | rfl | rfl <;> rfl) (by omega) HI4.order.2.2 ?_
        intro v' w5 hown' hgrow hv'
        obtain ⟨ra', rc', hv5, ⟨z, hz⟩, hfz, G', hI5⟩ := HI.out.push1 HGK.out HTU.out ho hF3 HB3 hown' hgrow (hv'.imp id fun h g hg => by have := h g hg; simp at this; omega)
        subst hv5
        have HGN : w5.heap[g5]? = wr.heap[g5]? := by
          have h1 := HN9.out.2.2
          have h2 := lt_of_block HG.out
          exact (hgrow.block g5 (by have := HB4.size; omega) (fun e => by have := (HI.out.row.lt g5 e.symm).1; omega)).trans (HB4.block g5 h2)
        have HG5' : Hid ((w5.setCell ⟨g9, 4, none⟩ (.slice ra' (m + 1) rc')).heap[g5]? = some (.cells #[.int .i64 n.id, .int .i64 n.par, .string n.tag, .string n.key, .string n.txt, .slice aa n.ats.length ac, .slice (some ⟨kb, ko, none⟩) n.kids.length kc] 62 (0, 0))) := (heap_set_other _ HN9.out.2.1).trans (HGN.trans HG.out)
        have HI5 : Hid (TrI k s.nodes n w1 (w5.setCell ⟨g9, 4, none⟩ (.slice ra' (m + 1) rc')) W5.heap.size g9 (.slice a3 n.ats.length c3) (m + 1) (its ++ [u]) (xs ++ [.string k', .string b', .string t', .slice ka' kl' kc', .slice ia' il' ic']) G' ra' rc') := hI5
        have HB5 : Below W5.heap.size wr w5 := (HB4.mono hod.2.2).grown hgrow (by have := HB4.size; omega) (fun g hg0 => (HI.out.row.lt g hg0).1)
        refine hK.out _ _ (fun _ => HB5) ?_
        clear hK K
        simp only [Act.put, List.setIfInBounds_toArray, List.set_cons_zero, List.set_cons_succ]
        refine Rg.Till.oneK (i := 11) (by kernel_rfl) rfl rfl ?_
        intro K hK
        go_simp
        refine hK.out _ _ (fun _ => HB5) ?_
        clear hK K
        refine Rg.Till.oneK (i := 12) (by kernel_rfl) rfl rfl ?_
        intro K hK
        go_simp
        refine hK.out _ _ (fun h => absurd rfl h) ?_
        clear hK K
        refine Rg.Till.done (by kernel_rfl) ?_
        clear hI5 HB5 HGN hz hfz hown' hgrow hv' HB3 HB4 HI4 ho hF hF3 hb3 HS0 HF HI HG BW SW x0 x1 x2 q0 q1 q2 q3 q4 b6 k0 HCC HTU HGK
        go_wp2_with fail
        go_roundw
        case rel => exact ⟨m + 1, _, _, G', ra', rc', by omega, by go_num, HI5, HG5'⟩
        case measure => simp [intOf]; omega
      · have hme : m = n.kids.length := by omega
        subst hme
        obtain ⟨its0, hi1, hi2⟩ := HTR.out
        have hit := HI.out.it
        rw [List.take_length, hi1] at hit
        cases hit
        have HSM : Hid ((n.tag, n.key, n.txt, n.ats, its) = t) := hi2
        have hres := HI.out.res
        rw [HW1.out] at hres
        have HRS : Hid (wr.heap[w.heap.size + 1]? = some (.cells #[.string ⟨#[]⟩, .string ⟨#[]⟩, .string ⟨#[]⟩, .slice none 0 0, .slice none 0 0] 40 (0, 0))) := hres
        obtain ⟨⟨z0, z1, z2, z3, z4⟩, zf⟩ := five HRS.out
        have zf0 := zf 0
        have zf1 := zf 1
        have zf2 := zf 2
        have zf3 := zf 3
        have zf4 := zf 4
        clear zf hres hi1 hi2
        go_wp2_with fail
        obtain ⟨f1, f2, f3, f4⟩ := tree_fin (c0 := .string n.tag) (c1 := .string n.key) (c2 := .string n.txt) (c3 := .slice a3 n.ats.length c3) (c4 := .slice ra n.kids.length rc) HRS.out
        have f3 := f3 w.heap.size w (by omega) BW.out
        clear z0 z1 z2 z3 z4 zf0 zf1 zf2 zf3 zf4 q0 q1 q2 q3 q4 x0 x1 x2 b6
        generalize ((((wr.setCell ⟨w.heap.size + 1, 0, none⟩ (.string n.tag)).setCell ⟨w.heap.size + 1, 1, none⟩ (.string n.key)).setCell ⟨w.heap.size + 1, 2, none⟩ (.string n.txt)).setCell ⟨w.heap.size + 1, 3, none⟩ (.slice a3 n.ats.length c3)).setCell ⟨w.heap.size + 1, 4, none⟩ (.slice ra n.kids.length rc) = W8 at *
        obtain ⟨⟨c0, c1, c2, c3', c4⟩, -⟩ := five f1
        refine bodyPost_ret (v := mkT n.tag n.key n.txt a3 n.ats.length c3 ra n.kids.length rc) (by simp [results, Tryz.results31, go_sem, c0, c1, c2, c3', c4]) rfl ?_
        have hw1s := HW1.out
        exact ⟨_, fun b => w1.heap.size ≤ b ∧ b < W8.heap.size, rfl, by rw [← HSM.out]; exact HI.out.done rfl HFT.out hk32 rfl (fun b hb => f2 b (by omega)) f4, (fun b hb => ⟨by have := hb.1; omega, hb.2⟩), f3⟩

theorem rtree_any (s : Ds) (hok : OkD s) : ∀ k : Nat, RTr s k
  | 0 => fun x t _ _ _ h => by cases h
  | k + 1 => rtree_more s hok k (rtree_any s hok k)
end Go.Proofs.YtcdnakcojanaeaaGreat

/-
  The page's Tree. (Printed by wip/make/mkdttree.py.)
-/
namespace Go.Proofs.YtcdnakcojanaeaaGreat
open Go.ChangeShapes Go.WideShapes Go.ChangeAt Go.RowKit Go.Deep
open Do

set_option maxRecDepth 100000 in
set_option maxHeartbeats 1600000 in
theorem rtreeD_any (s : Ds) (a : Option Addr) (c : Nat) (w : World) (hs : DsIs w s a c) :
    Calls Tryz.prog 9 #[.agg #[.slice a s.nodes.length c, .int .i64 s.root, .int .i64 s.next]] w fun e w' => TrPost 8 w w' e (treeD s).1 (treeD s).2 := by
  have HCK : Hid (∀ W, Below w.heap.size w W → Calls Tryz.prog 14 #[.agg #[.slice a s.nodes.length c, .int .i64 s.root, .int .i64 s.next]] W fun e w' => e = .returned (.int .i64 (chkD s)) ∧ Below W.heap.size W w') := fun W hb => rcheckD_any s a c W (hs.below hb)
  have HBE : Hid (∀ W, Below w.heap.size w W → Calls Tryz.prog 30 #[.agg #[.slice a s.nodes.length c, .int .i64 s.root, .int .i64 s.next], .int .i64 s.root, .int .i64 1] W fun e w' => e = .returned (.int .i64 (bD s.nodes 8 s.root)) ∧ Below W.heap.size W w') := fun W hb => rbel_any s 8 (by omega) s.root 1 a c W (by omega) (hs.below hb)
  have HBI : Hid (okD s = true → s.root ≠ 0 → (8 < bD s.nodes 8 s.root ↔ trO s.nodes 8 s.root = none)) := fun hk h0 => by
    have ho := okD_iff.1 hk
    refine bD_iff ho.good 8 s.root ?_
    rcases ho.root with h | ⟨m, h1, -⟩
    · exact absurd h h0
    · exact ⟨m, h1⟩
  have HTO : Hid (∀ W t, Below w.heap.size w W → okD s = true → trO s.nodes 8 s.root = some t → Calls Tryz.prog 31 #[.agg #[.slice a s.nodes.length c, .int .i64 s.root, .int .i64 s.next], .int .i64 s.root] W fun e w' => ∃ y F, e = .returned y ∧ OwnT w' 8 y t F ∧ (∀ b, F b → W.heap.size ≤ b ∧ b < w'.heap.size) ∧ Below W.heap.size W w') := fun W t hb hk ht => rtree_any s (okD_iff.1 hk) 8 s.root t a c W ht (hs.below hb)
  unfold treeD
  unfold chkD at HCK
  clear hs
  generalize hk : okD s = k at *
  clear hk
  generalize htr : trO s.nodes 8 s.root = tr at *
  clear htr
  generalize bD s.nodes 8 s.root = dp at *
  obtain ⟨K3, hK3⟩ : ∃ W : World, W = (w.alloc (.cells #[.slice a s.nodes.length c, .int .i64 s.root, .int .i64 s.next] 24)).alloc (.cells #[.string ⟨#[]⟩, .string ⟨#[]⟩, .string ⟨#[]⟩, .slice none 0 0, .slice none 0 0] 40) := ⟨_, rfl⟩
  have B3 : Hid (Below w.heap.size w K3) := by show Below _ _ _; rw [hK3]; exact two_new _ _ _
  have Y0 : Hid (K3.heap[w.heap.size]? = some (.cells #[.slice a s.nodes.length c, .int .i64 s.root, .int .i64 s.next] 24 (0, 0))) := by show _ = _; rw [hK3]; exact ((below_one _ _).block _ (by simp)).trans (heap_alloc_new _ _)
  have Y2 : Hid (K3.heap[w.heap.size + 1]? = some (.cells #[.string ⟨#[]⟩, .string ⟨#[]⟩, .string ⟨#[]⟩, .slice none 0 0, .slice none 0 0] 40 (0, 0))) := by show _ = _; rw [hK3]; exact heap_new2 _ _ _
  go_enter Tryz.func9, Tryz.ntmps9
  go_wp2_with fail
  rw [← hK3]
  clear hK3
  obtain ⟨y0, y1, y2⟩ := three Y0.out
  have FIN : Hid (∀ (W : World) (er : Int), Below w.heap.size w W → W.heap[w.heap.size + 1]? = some (.cells #[.string ⟨#[]⟩, .string ⟨#[]⟩, .string ⟨#[]⟩, .slice none 0 0, .slice none 0 0] 40 (0, 0)) → Below w.heap.size w (((((W.setCell ⟨w.heap.size + 1, 0, none⟩ (.string ⟨#[]⟩)).setCell ⟨w.heap.size + 1, 1, none⟩ (.string ⟨#[]⟩)).setCell ⟨w.heap.size + 1, 2, none⟩ (.string ⟨#[]⟩)).setCell ⟨w.heap.size + 1, 3, none⟩ (.slice none 0 0)).setCell ⟨w.heap.size + 1, 4, none⟩ (.slice none 0 0)) ∧ (((((W.setCell ⟨w.heap.size + 1, 0, none⟩ (.string ⟨#[]⟩)).setCell ⟨w.heap.size + 1, 1, none⟩ (.string ⟨#[]⟩)).setCell ⟨w.heap.size + 1, 2, none⟩ (.string ⟨#[]⟩)).setCell ⟨w.heap.size + 1, 3, none⟩ (.slice none 0 0)).setCell ⟨w.heap.size + 1, 4, none⟩ (.slice none 0 0)).heap[w.heap.size + 1]? = some (.cells #[.string ⟨#[]⟩, .string ⟨#[]⟩, .string ⟨#[]⟩, .slice none 0 0, .slice none 0 0] 40 (0, 0))) := by
    intro W er hb hR
    obtain ⟨f1, -, f3, -⟩ := tree_fin (c0 := .string ⟨#[]⟩) (c1 := .string ⟨#[]⟩) (c2 := .string ⟨#[]⟩) (c3 := .slice none 0 0) (c4 := .slice none 0 0) hR
    exact ⟨f3 w.heap.size w (by omega) hb, f1⟩
  cases k with
  | false =>
    have HC9 : Hid (∀ W, Below w.heap.size w W → Calls Tryz.prog 14 #[.agg #[.slice a s.nodes.length c, .int .i64 s.root, .int .i64 s.next]] W fun e w' => e = .returned (.int .i64 9) ∧ Below W.heap.size W w') := HCK.out
    clear HCK HTO HBE HBI
    go_wp2_with fail
    refine (HC9.out K3 B3.out).mono ?_
    rintro e w4 ⟨rfl, hb4⟩
    have B4 : Hid (Below w.heap.size w w4) := nxt B3.out hb4
    have R4 : Hid (w4.heap[w.heap.size + 1]? = _) := (hb4.block _ (lt_of_block Y2.out)).trans Y2.out
    obtain ⟨⟨z0, z1, z2, z3, z4⟩, zf⟩ := five R4.out
    have zf0 := zf 0
    have zf1 := zf 1
    have zf2 := zf 2
    have zf3 := zf 3
    have zf4 := zf 4
    clear hb4 y0 y1 y2 zf
    have HF := FIN.out w4 9 B4.out R4.out
    have HF' : Hid _ := HF
    clear HF
    go_wp2_with fail
    have f1 := HF'.out
    clear z0 z1 z2 z3 z4 zf0 zf1 zf2 zf3 zf4 HF' R4 B4
    generalize ((((w4.setCell ⟨w.heap.size + 1, 0, none⟩ (.string ⟨#[]⟩)).setCell ⟨w.heap.size + 1, 1, none⟩ (.string ⟨#[]⟩)).setCell ⟨w.heap.size + 1, 2, none⟩ (.string ⟨#[]⟩)).setCell ⟨w.heap.size + 1, 3, none⟩ (.slice none 0 0)).setCell ⟨w.heap.size + 1, 4, none⟩ (.slice none 0 0) = W8 at *
    obtain ⟨⟨c0, c1, c2, c3, c4⟩, -⟩ := five f1.2
    refine bodyPost_ret (v := .tuple #[zT, .int .i64 9]) (by simp [results, Tryz.results9, go_sem, c0, c1, c2, c3, c4]) rfl ?_
    exact ⟨rfl, f1.1⟩
  | true =>
    have HC0 : Hid (∀ W, Below w.heap.size w W → Calls Tryz.prog 14 #[.agg #[.slice a s.nodes.length c, .int .i64 s.root, .int .i64 s.next]] W fun e w' => e = .returned (.int .i64 0) ∧ Below W.heap.size W w') := HCK.out
    clear HCK
    go_wp2_with fail
    refine (HC0.out K3 B3.out).mono ?_
    rintro e w4 ⟨rfl, hb4⟩
    have B4 : Hid (Below w.heap.size w w4) := nxt B3.out hb4
    have R4 : Hid (w4.heap[w.heap.size + 1]? = _) := (hb4.block _ (lt_of_block Y2.out)).trans Y2.out
    have S4 : Hid (w4.heap[w.heap.size]? = _) := (hb4.block _ (lt_of_block Y0.out)).trans Y0.out
    clear hb4 y0 y1 y2
    obtain ⟨y0, y1, y2⟩ := three S4.out
    by_cases h0 : s.root = 0
    · have g0 : (s.root == 0) = true := by simpa using h0
      obtain ⟨⟨z0, z1, z2, z3, z4⟩, zf⟩ := five R4.out
      have zf0 := zf 0
      have zf1 := zf 1
      have zf2 := zf 2
      have zf3 := zf 3
      have zf4 := zf 4
      have HR0 : Hid (s.root = 0) := h0
      clear zf h0
      have HF := FIN.out w4 71 B4.out R4.out
      have HF' : Hid _ := HF
      clear HF
      go_wp2_with fail
      have f1 := HF'.out
      clear z0 z1 z2 z3 z4 zf0 zf1 zf2 zf3 zf4 HF' R4 B4 S4 y0 y1 y2
      generalize ((((w4.setCell ⟨w.heap.size + 1, 0, none⟩ (.string ⟨#[]⟩)).setCell ⟨w.heap.size + 1, 1, none⟩ (.string ⟨#[]⟩)).setCell ⟨w.heap.size + 1, 2, none⟩ (.string ⟨#[]⟩)).setCell ⟨w.heap.size + 1, 3, none⟩ (.slice none 0 0)).setCell ⟨w.heap.size + 1, 4, none⟩ (.slice none 0 0) = W8 at *
      obtain ⟨⟨c0, c1, c2, c3, c4⟩, -⟩ := five f1.2
      refine bodyPost_ret (v := .tuple #[zT, .int .i64 71]) (by simp [results, Tryz.results9, go_sem, c0, c1, c2, c3, c4]) rfl ?_
      first
        | exact ⟨rfl, f1.1⟩
        | (rw [if_pos HR0.out]; exact ⟨rfl, f1.1⟩)
    · have g0 : (s.root == 0) = false := by simpa using h0
      have HR0 : Hid (¬ s.root = 0) := h0
      have hbi := HBI.out (by trivial) h0
      clear h0 HBI
      cases tr with
      | none =>
        have g8 : decide ((8 : Int) < dp) = true := decide_eq_true (hbi.2 rfl)
        clear hbi HTO
        go_wp2_with fail
        refine (HBE.out w4 B4.out).mono ?_
        rintro e w5 ⟨rfl, hb5⟩
        have B5 : Hid (Below w.heap.size w w5) := nxt B4.out hb5
        have R5 : Hid (w5.heap[w.heap.size + 1]? = _) := (hb5.block _ (lt_of_block R4.out)).trans R4.out
        obtain ⟨⟨z0, z1, z2, z3, z4⟩, zf⟩ := five R5.out
        have zf0 := zf 0
        have zf1 := zf 1
        have zf2 := zf 2
        have zf3 := zf 3
        have zf4 := zf 4
        clear zf hb5 y0 y1 y2 HBE
        have HF := FIN.out w5 10 B5.out R5.out
        have HF' : Hid _ := HF
        clear HF
        go_wp2_with fail
        have f1 := HF'.out
        clear z0 z1 z2 z3 z4 zf0 zf1 zf2 zf3 zf4 HF' R5 B5
        generalize ((((w5.setCell ⟨w.heap.size + 1, 0, none⟩ (.string ⟨#[]⟩)).setCell ⟨w.heap.size + 1, 1, none⟩ (.string ⟨#[]⟩)).setCell ⟨w.heap.size + 1, 2, none⟩ (.string ⟨#[]⟩)).setCell ⟨w.heap.size + 1, 3, none⟩ (.slice none 0 0)).setCell ⟨w.heap.size + 1, 4, none⟩ (.slice none 0 0) = W8 at *
        obtain ⟨⟨c0, c1, c2, c3, c4⟩, -⟩ := five f1.2
        refine bodyPost_ret (v := .tuple #[zT, .int .i64 10]) (by simp [results, Tryz.results9, go_sem, c0, c1, c2, c3, c4]) rfl ?_
        first
          | exact ⟨rfl, f1.1⟩
          | (rw [if_neg HR0.out]; exact ⟨rfl, f1.1⟩)
      | some t =>
        have g8 : decide ((8 : Int) < dp) = false := decide_eq_false (fun h => by have := hbi.1 h; cases this)
        clear hbi
        go_wp2_with fail
        refine (HBE.out w4 B4.out).mono ?_
        rintro e wx ⟨rfl, hbx⟩
        have BX : Hid (Below w.heap.size w wx) := nxt B4.out hbx
        have RX : Hid (wx.heap[w.heap.size + 1]? = _) := (hbx.block _ (lt_of_block R4.out)).trans R4.out
        have SX : Hid (wx.heap[w.heap.size]? = _) := (hbx.block _ (lt_of_block S4.out)).trans S4.out
        have HT4 := HTO.out wx t BX.out (by trivial) rfl
        clear hbx y0 y1 y2 HBE HTO R4 S4 B4
        obtain ⟨x0, x1, x2⟩ := three SX.out
        go_wp2_with fail
        refine HT4.mono ?_
        rintro e w5 ⟨yv, F, rfl, ho, hF, hb5⟩
        obtain ⟨k', b', t', ka', kl', kc', ia', il', ic', rfl⟩ := LayT.shape 8 (OwnT.lay 8 ho)
        have B5 : Hid (Below w.heap.size w w5) := nxt BX.out hb5
        have R5 : Hid (w5.heap[w.heap.size + 1]? = _) := (hb5.block _ (lt_of_block RX.out)).trans RX.out
        have HO5 : Hid (OwnT w5 8 (mkT k' b' t' ka' kl' kc' ia' il' ic') t F) := ho
        have HF5 : Hid (∀ b, F b → w.heap.size + 2 ≤ b ∧ b < w5.heap.size) := fun b hb => ⟨by have := (hF b hb).1; have := lt_of_block RX.out; omega, (hF b hb).2⟩
        obtain ⟨⟨z0, z1, z2, z3, z4⟩, zf⟩ := five R5.out
        have zf0 := zf 0
        have zf1 := zf 1
        have zf2 := zf 2
        have zf3 := zf 3
        have zf4 := zf 4
        clear zf hb5 x0 x1 x2 ho hF
        go_wp2_with fail
        obtain ⟨f1, f2, f3, f4⟩ := tree_fin (c0 := .string k') (c1 := .string b') (c2 := .string t') (c3 := .slice ka' kl' kc') (c4 := .slice ia' il' ic') R5.out
        have f3 := f3 w.heap.size w (by omega) B5.out
        clear z0 z1 z2 z3 z4 zf0 zf1 zf2 zf3 zf4 R5 B5
        generalize ((((w5.setCell ⟨w.heap.size + 1, 0, none⟩ (.string k')).setCell ⟨w.heap.size + 1, 1, none⟩ (.string b')).setCell ⟨w.heap.size + 1, 2, none⟩ (.string t')).setCell ⟨w.heap.size + 1, 3, none⟩ (.slice ka' kl' kc')).setCell ⟨w.heap.size + 1, 4, none⟩ (.slice ia' il' ic') = W8 at *
        obtain ⟨⟨c0, c1, c2, c3, c4⟩, -⟩ := five f1
        refine bodyPost_ret (v := .tuple #[mkT k' b' t' ka' kl' kc' ia' il' ic', .int .i64 0]) (by simp [results, Tryz.results9, go_sem, c0, c1, c2, c3, c4]) rfl ?_
        have HFIN : TrPost 8 w W8 (.returned (.tuple #[mkT k' b' t' ka' kl' kc' ia' il' ic', .int .i64 0])) 0 (some t) := ⟨_, F, rfl, HO5.out.same 8 fun b hb => f2 b (by have := (HF5.out b hb).1; omega), fun b hb => ⟨by have := (HF5.out b hb).1; omega, by rw [f4]; exact (HF5.out b hb).2⟩, f3⟩
        first
          | exact HFIN
          | (rw [if_neg HR0.out]; exact HFIN)
end Go.Proofs.YtcdnakcojanaeaaGreat

/-
  What Apply and Tree of both answer, in one form.
-/
namespace Go.Proofs.YtcdnakcojanaeaaGreat
open Go.ChangeShapes Go.WideShapes Go.ChangeAt Go.RowKit Go.Deep
open Do

namespace Do
/-- No tree, as a tree. -/
def T0 : T 8 := ((⟨#[]⟩ : ByteArray), (⟨#[]⟩ : ByteArray), (⟨#[]⟩ : ByteArray), ([] : List Atr), [])

/-- The tree that is told, if one is. -/
def treeV (s : Ds) : T 8 := (treeD s).2.getD T0
end Do

theorem T0_lay (w : World) : LayT w 8 zT T0 :=
  ⟨none, 0, none, 0, rfl, ⟨by decide, by decide, by decide, by decide, by decide, by decide, by decide, by decide, by decide⟩, fun _ => ⟨rfl, rfl⟩, fun _ => ⟨rfl, rfl⟩, fun i z h => by simp at h, fun i u h => by simp at h⟩

theorem treeD_zero {s : Ds} {t : T 8} (h : (treeD s).2 = some t) : (treeD s).1 = 0 := by
  unfold treeD at h ⊢
  split at h
  · rename_i h1
    rw [if_pos h1]
    split at h
    · cases h
    · rename_i h2
      rw [if_neg h2]
      split at h
      · cases h
      · rfl
  · cases h

theorem tree_v {s : Ds} {w w' : World} {e : Ending} (h : TrPost 8 w w' e (treeD s).1 (treeD s).2) :
    ∃ g k t aa al ac ia il ic, e = .returned (.tuple #[mkT g k t aa al ac ia il ic, .int .i64 (treeD s).1]) ∧ LayT w' 8 (mkT g k t aa al ac ia il ic) (treeV s) ∧ Below w.heap.size w w' := by
  unfold TrPost at h
  unfold treeV
  cases ht : (treeD s).2 with
  | none =>
    rw [ht] at h
    obtain ⟨rfl, hb⟩ := h
    exact ⟨_, _, _, _, _, _, _, _, _, rfl, T0_lay w', hb⟩
  | some t =>
    rw [ht] at h
    obtain ⟨y, F, rfl, ho, -, hb⟩ := h
    have hl := OwnT.lay 8 ho
    obtain ⟨g, k, t', aa, al, ac, ia, il, ic, rfl⟩ := LayT.shape 8 hl
    rw [treeD_zero ht]
    exact ⟨_, _, _, _, _, _, _, _, _, rfl, hl, hb⟩

theorem pg_v {s : Ds} {p : Pt} {w w' : World} {e : Ending} {a : Option Addr} {c : Nat} {w0 : World} (hd : DsIs w0 (applyD s p).2 a c) (h : PgPost w w' w.heap.size e (applyD s p)) :
    ∃ a3 c3, e = .returned (.tuple #[.agg #[.slice a3 (applyD s p).2.nodes.length c3, .int .i64 (applyD s p).2.root, .int .i64 (applyD s p).2.next], .int .i64 (applyD s p).1]) ∧ DsIs w' (applyD s p).2 a3 c3 ∧ Below w.heap.size w w' := by
  obtain ⟨v, ab, kb, rfl, ho, hb⟩ := h
  obtain ⟨a3, c3, rfl⟩ := ho.shape
  exact ⟨a3, c3, rfl, ⟨ho.lay, hd.len, cap_of_own ho.row, hd.root, hd.next⟩, hb⟩
end Go.Proofs.YtcdnakcojanaeaaGreat
