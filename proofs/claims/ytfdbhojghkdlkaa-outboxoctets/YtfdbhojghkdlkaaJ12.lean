/-
  value.Get of no path; items in memory of their own: the program's copyOf, CopyItems.
-/
import Derived.Test.YtfdbhojghkdlkaaJ10
namespace Go.Proofs.Ytfdbhojghkdlkaa
open Go.ChangeShapes Go.WideShapes Go.ChangeAt Go.RowKit

theorem Try.infoItem : (Try.prog.info? 54).map (fun i => (i.zero, i.size, i.bytes)) = some (some (.agg #[.int .i64 0, .string ⟨#[]⟩, .int .i64 0, .int .u64 0, .string ⟨#[]⟩, .slice none 0 0, .slice none 0 0]), 7, 104) := by kernel_rfl
theorem Try.infoEffect : (Try.prog.info? 52).map (fun i => (i.zero, i.size, i.bytes)) = some (some (.agg #[.string ⟨#[]⟩, .int .i64 0, .int .u64 0, .string ⟨#[]⟩, .slice none 0 0, .slice none 0 0]), 6, 96) := by kernel_rfl

/-- Five cells of one block are written: the other blocks stay. -/
theorem five_other {w : World} {g : Nat} (o0 o1 o2 o3 o4 : Nat) (v0 v1 v2 v3 v4 : Value) {b : Nat} (h : b ≠ g) :
    (((((w.setCell ⟨g, o0, none⟩ v0).setCell ⟨g, o1, none⟩ v1).setCell ⟨g, o2, none⟩ v2).setCell ⟨g, o3, none⟩ v3).setCell ⟨g, o4, none⟩ v4).heap[b]? = w.heap[b]? := by
  have h' : ¬ g = b := fun e => h e.symm
  simp [World.setCell, Array.getElem?_modify, h']

theorem below_five {B : Nat} {w w' : World} (h : Below B w w') {g : Nat} (hg : B ≤ g) (o0 o1 o2 o3 o4 : Nat) (v0 v1 v2 v3 v4 : Value) :
    Below B w (((((w'.setCell ⟨g, o0, none⟩ v0).setCell ⟨g, o1, none⟩ v1).setCell ⟨g, o2, none⟩ v2).setCell ⟨g, o3, none⟩ v3).setCell ⟨g, o4, none⟩ v4) :=
  ((((h.setCell (p := ⟨g, o0, none⟩) hg v0).setCell (p := ⟨g, o1, none⟩) hg v1).setCell (p := ⟨g, o2, none⟩) hg v2).setCell (p := ⟨g, o3, none⟩) hg v3).setCell (p := ⟨g, o4, none⟩) hg v4

set_option maxRecDepth 100000 in
set_option maxHeartbeats 1600000 in
theorem get_nil (n : Nat) (v : V n) (k b : Int) (t : ByteArray) (ka : Option Addr) (kl kc : Nat) (ia : Option Addr) (il ic : Nat) (w : World) (hx : Lay w n (mk k b t ka kl kc ia il ic) v) (h0 : chk v = 0) :
    Calls Try.prog 60 #[mk k b t ka kl kc ia il ic, .slice none 0 0] w fun e w' => ∃ y F, e = .returned (.tuple #[y, .int .i64 0]) ∧ Own w' n y v F ∧ (∀ b, F b → w.heap.size ≤ b ∧ b < w'.heap.size) ∧ Below w.heap.size w w' := by
  have HX : Hid (Lay w n (mk k b t ka kl kc ia il ic) v) := hx
  have C1 : Hid (∀ w', Below w.heap.size w w' → Calls Try.prog 33 #[mk k b t ka kl kc ia il ic] w' fun e w'' => e = .returned (.int .i64 (chk v)) ∧ Below w'.heap.size w' w'') := fun w' hb => check_any n _ _ _ (Lay.below n HX.out hb)
  rw [h0] at C1
  clear h0 hx
  go_enter Try.func60, Try.ntmps60
  go_wp2_with fail
  refine (C1.out _ (below_two _ _ _)).mono ?_
  rintro e w1 ⟨rfl, hb1⟩
  have T1 : Hid (Two w w1 _ _) := Two.new w _ _ hb1
  have B1 : Hid (Below w.heap.size w w1) := nxt (below_two _ _ _) hb1
  clear hb1
  obtain ⟨x0, x1, x2, x3, x4, -⟩ := box_cells T1.out.1
  go_wp2_with fail
  go_loopw [19] (fun i wr => i = .int .i64 0 ∧ Hid (wr = w1)) (fun _ _ => 0)
  case atStart => exact ⟨rfl, rfl⟩
  case round =>
    obtain ⟨rfl, HW⟩ := hrel
    obtain rfl := HW.out
    go_wp2_with (go_at_call 68; refine (copyOf_any n v _ _ (Lay.below n HX.out B1.out)).mono ?_; rintro e w2 ⟨y2, F, rfl, ho, hF, hb2⟩; obtain ⟨k5, b5, t5, ka5, kl5, kc5, ia5, il5, ic5, rfl⟩ := Lay.shape n (Own.lay n ho); obtain ⟨z0, z1, z2, z3, z4, f0, f1, f2, f3, f4⟩ := box_cells ((hb2.block _ (lt_of_block T1.out.2)).trans T1.out.2))
    refine bodyPost_ret (v := .tuple #[mk k5 b5 t5 ka5 kl5 kc5 ia5 il5 ic5, .int .i64 0]) (by simp [results, Try.results60, go_sem, z0, z1, z2, z3, z4]) rfl ?_
    have hs1 := lt_of_block T1.out.2
    refine ⟨_, F, rfl, Own.same n ho fun b hb => five_other _ _ _ _ _ _ _ _ _ _ (by have := (hF b hb).1; omega), fun b hb => ⟨by have := (hF b hb).1; omega, by simp [World.setCell]; exact (hF b hb).2⟩, ?_⟩
    exact below_five (nxt B1.out hb2) (by omega) _ _ _ _ _ _ _ _ _ _

/-- append of one item, its value in memory of its own, to a row of one's own. -/
theorem wpList_pushT (w : World) {ops : Array Oper} {rest : List Oper} {o : Oper} {a : Act} {Q : Exit → Act → World → Prop} (hgd : o.guard = none) (s x : Operand)
    (hop : o.op = .call { callee := .builtin .append, args := #[s, x], argTypes := #[22, 22] })
    {n : Nat} (v : Value) (its : List (Tm n)) (H : Nat → Prop) (hs : a.eval s = v) (hL : OwnR (shT n) w v its H) (u : Tm n) (F : Nat → Prop) (c0 c1 c2 c3 c4 : Value) (ho : Own w n (.agg #[c0, c1, c2, c3, c4]) u.2.2 F) (hF : ∀ b, F b → ¬ H b) (hH : ∀ b, H b → b < w.heap.size) (hFl : ∀ b, F b → b < w.heap.size)
    (ad : Addr) (c : Nat) (hx : a.eval x = .slice (some ad) 1 c) (hnews : ∀ j y, ([.int .i64 u.1, .string u.2.1, c0, c1, c2, c3, c4] : List Value)[j]? = some y → w.cell? (ad.add j) = some y) (hlen : (its.length + 1) * 104 ≤ 140737488355328)
    (h : ∀ v' w', OwnR (shT n) w' v' (its ++ [u]) (fun b => H b ∨ F b ∨ v'.ownBlock = some b) → w.grownBy w' v.ownBlock → (v'.ownBlock = v.ownBlock ∨ ∀ g, v'.ownBlock = some g → w.heap.size ≤ g) → (∀ g, v'.ownBlock = some g → g < w'.heap.size) → wpList Try.prog ops Q rest (a.put o.dst v') w') : wpList Try.prog ops Q (o :: rest) a w := by
  obtain ⟨xs, G, h1, h2, h3, h4, h5⟩ := hL
  obtain ⟨i0, hi, hz0, hz1, hz2⟩ := info_parts Try.infoItem
  refine wpList_append_apart w hgd s x 22 hop 0 54 i0 _ 7 104 Try.underlying22 hi hz0 hz1 hz2 rfl (by decide) v its.length xs hs h1 (some ad) 1 c [.int .i64 u.1, .string u.2.1, c0, c1, c2, c3, c4] hx (by simp) rfl ?_ ?_ (by unfold maxLen; omega) hlen (Nat.zero_le _) ?_
  · intro ad' e
    cases e
    exact hnews
  · intro y hy
    rcases List.mem_cons.1 hy with rfl | hy
    · rfl
    · rcases List.mem_cons.1 hy with rfl | hy
      · rfl
      · exact Own.ones n ho y hy
  · intro v' w' q1 q2 q3
    exact h v' w' (OwnR.push (S := shT n) rfl rfl rfl h1 h2 h3 h4 h5 ho hF hH hFl q1 q2 q3) q2 q3 fun g hg => (q1.lt g hg).2

/-- A copy's round: what the row is behind it. -/
def CopyInv {α : Type} {n : Nat} (S : Sh α n) (w wr : World) (v : Value) (its : List α) (H : Nat → Prop) : Prop := OwnR S wr v its H ∧ (∀ b, H b → w.heap.size ≤ b ∧ b < wr.heap.size) ∧ Below w.heap.size w wr

theorem CopyInv.start {α : Type} {n : Nat} (S : Sh α n) (w : World) : CopyInv S w w (.slice none 0 0) [] (fun _ => False) := ⟨OwnR.nil S w, fun _ hb => hb.elim, Below.refl _ _⟩

theorem CopyInv.next {α : Type} {n : Nat} {S : Sh α n} {w wr W w' : World} {v v' : Value} {its its' : List α} {H F : Nat → Prop} (h : CopyInv S w wr v its H) (hW : Below w.heap.size w W) (hs : wr.heap.size ≤ W.heap.size) (hF : ∀ b, F b → w.heap.size ≤ b ∧ b < W.heap.size)
    (h1 : OwnR S w' v' its' (fun b => H b ∨ F b ∨ v'.ownBlock = some b)) (h2 : W.grownBy w' v.ownBlock) (h3 : v'.ownBlock = v.ownBlock ∨ ∀ g, v'.ownBlock = some g → W.heap.size ≤ g) (h4 : ∀ g, v'.ownBlock = some g → g < w'.heap.size) :
    CopyInv S w w' v' its' (fun b => H b ∨ F b ∨ v'.ownBlock = some b) := by
  obtain ⟨a1, a2, a3⟩ := h
  have hv : ∀ g, v.ownBlock = some g → H g := by
    obtain ⟨xs, G, q1, q2, q3, _⟩ := a1
    exact q3
  have hz := h2.size
  have hWs := hW.size
  refine ⟨h1, fun b hb => ?_, hW.grown h2 (by omega) (fun g hg => (a2 g (hv g hg)).1)⟩
  rcases hb with hb | hb | hb
  · have := a2 b hb; exact ⟨this.1, by omega⟩
  · have := hF b hb; exact ⟨this.1, by omega⟩
  · refine ⟨?_, h4 b hb⟩
    rcases h3 with e | e
    · exact (a2 b (hv b (by rw [← e]; exact hb))).1
    · have := e b hb; omega

/-- What a push asks, and what follows. -/
theorem CopyInv.side {α : Type} {n : Nat} {S : Sh α n} {w wr w1 W6 : World} {v y : Value} {its : List α} {H F : Nat → Prop} {u : V n} (h : CopyInv S w wr v its H) (hbel : Below wr.heap.size wr w1) (ho : Own w1 n y u F) (hF : ∀ b, F b → wr.heap.size ≤ b ∧ b < w1.heap.size)
    (hk : ∀ b, b < wr.heap.size ∨ F b → W6.heap[b]? = w1.heap[b]?) (hs : w1.heap.size ≤ W6.heap.size) (h6 : Below wr.heap.size wr W6) :
    OwnR S W6 v its H ∧ Own W6 n y u F ∧ (∀ b, F b → ¬ H b) ∧ (∀ b, H b → b < W6.heap.size) ∧ (∀ b, F b → b < W6.heap.size) ∧ Below w.heap.size w W6 ∧ wr.heap.size ≤ W6.heap.size ∧ (∀ b, F b → w.heap.size ≤ b ∧ b < W6.heap.size) := by
  obtain ⟨a1, a2, a3⟩ := h
  have z1 := hbel.size
  have z2 := a3.size
  refine ⟨a1.same fun b hb => ?_, ho.same n fun b hb => hk b (Or.inr hb), fun b hb hH => ?_, fun b hb => ?_, fun b hb => ?_, nxt a3 h6, by omega, fun b hb => ?_⟩
  · have := (a2 b hb).2
    rw [hk b (Or.inl this), hbel.block b this]
  · have := (a2 b hH).2; have := (hF b hb).1; omega
  · have := (a2 b hb).2; omega
  · have := (hF b hb).2; omega
  · have := hF b hb; exact ⟨by omega, by omega⟩

theorem news5 (w1 : World) (g o0 o1 o2 o3 o4 : Nat) (v0 v1 v2 v3 v4 : Value) (cs : Array Value) (t : TypeId) (j : Nat) (y : Value) (hj : cs.toList[j]? = some y) :
    ((((((w1.setCell ⟨g, o0, none⟩ v0).setCell ⟨g, o1, none⟩ v1).setCell ⟨g, o2, none⟩ v2).setCell ⟨g, o3, none⟩ v3).setCell ⟨g, o4, none⟩ v4).alloc (.cells cs t)).cell? ((⟨w1.heap.size, 0, none⟩ : Addr).add j) = some y := by
  have := heap_alloc_new (((((w1.setCell ⟨g, o0, none⟩ v0).setCell ⟨g, o1, none⟩ v1).setCell ⟨g, o2, none⟩ v2).setCell ⟨g, o3, none⟩ v3).setCell ⟨g, o4, none⟩ v4) (.cells cs t)
  have e : (((((w1.setCell ⟨g, o0, none⟩ v0).setCell ⟨g, o1, none⟩ v1).setCell ⟨g, o2, none⟩ v2).setCell ⟨g, o3, none⟩ v3).setCell ⟨g, o4, none⟩ v4).heap.size = w1.heap.size := by simp [World.setCell]
  rw [e] at this
  rw [add_plain]
  simp only [World.cell?, this]
  simpa using hj

theorem five_alloc (w1 : World) (g o0 o1 o2 o3 o4 : Nat) (v0 v1 v2 v3 v4 : Value) (ob : Obj) : ((((((w1.setCell ⟨g, o0, none⟩ v0).setCell ⟨g, o1, none⟩ v1).setCell ⟨g, o2, none⟩ v2).setCell ⟨g, o3, none⟩ v3).setCell ⟨g, o4, none⟩ v4).alloc ob).heap.size = w1.heap.size + 1 ∧
    (∀ b, b < w1.heap.size → b ≠ g → ((((((w1.setCell ⟨g, o0, none⟩ v0).setCell ⟨g, o1, none⟩ v1).setCell ⟨g, o2, none⟩ v2).setCell ⟨g, o3, none⟩ v3).setCell ⟨g, o4, none⟩ v4).alloc ob).heap[b]? = w1.heap[b]?) := by
  refine ⟨by simp [World.setCell], fun b hb hne => ?_⟩
  rw [Below.heap_alloc _ _ _ (by simpa [World.setCell] using hb)]
  exact five_other _ _ _ _ _ _ _ _ _ _ hne

theorem CopyInv.side5 {α : Type} {n : Nat} {S : Sh α n} {w wr w1 : World} {v y : Value} {its : List α} {H F : Nat → Prop} {u : V n} (h : CopyInv S w wr v its H) {ob : Obj} (hb1 : Below (wr.alloc ob).heap.size (wr.alloc ob) w1) (ho : Own w1 n y u F) (hF : ∀ b, F b → (wr.alloc ob).heap.size ≤ b ∧ b < w1.heap.size)
    (o0 o1 o2 o3 o4 : Nat) (v0 v1 v2 v3 v4 : Value) (o2' : Obj) (W6 : World) (e : W6 = (((((w1.setCell ⟨wr.heap.size, o0, none⟩ v0).setCell ⟨wr.heap.size, o1, none⟩ v1).setCell ⟨wr.heap.size, o2, none⟩ v2).setCell ⟨wr.heap.size, o3, none⟩ v3).setCell ⟨wr.heap.size, o4, none⟩ v4).alloc o2') :
    OwnR S W6 v its H ∧ Own W6 n y u F ∧ (∀ b, F b → ¬ H b) ∧ (∀ b, H b → b < W6.heap.size) ∧ (∀ b, F b → b < W6.heap.size) ∧ Below w.heap.size w W6 ∧ wr.heap.size ≤ W6.heap.size ∧ (∀ b, F b → w.heap.size ≤ b ∧ b < W6.heap.size) := by
  subst e
  have hbel := nxt (below_one wr ob) hb1
  have hs := hbel.size
  have hF2 : ∀ b, F b → wr.heap.size < b ∧ b < w1.heap.size := fun b hb => by have := hF b hb; simp at this; exact ⟨by omega, this.2⟩
  have h5 := five_alloc w1 wr.heap.size o0 o1 o2 o3 o4 v0 v1 v2 v3 v4 o2'
  refine h.side hbel ho (fun b hb => ⟨by have := hF2 b hb; omega, (hF2 b hb).2⟩) (fun b hb => ?_) (by rw [h5.1]; omega) ?_
  · rcases hb with hb | hb
    · exact h5.2 b (by omega) (by omega)
    · have := hF2 b hb; exact h5.2 b (by omega) (by omega)
  · exact (below_five hbel (Nat.le_refl _) _ _ _ _ _ _ _ _ _ _).alloc (by simpa [World.setCell] using hs) _

/-- What a row in new memory is told to be. -/
def RowPost {α : Type} {n : Nat} (S : Sh α n) (w : World) (its : List α) (e : Ending) (w' : World) : Prop := ∃ v H, e = .returned v ∧ CopyInv S w w' v its H
end Go.Proofs.Ytfdbhojghkdlkaa

/-
  Items in memory of their own: the program's copyOf, CopyItems.
-/
namespace Go.Proofs.Ytfdbhojghkdlkaa
open Go.ChangeShapes Go.WideShapes Go.ChangeAt Go.RowKit

set_option maxRecDepth 100000 in
set_option maxHeartbeats 3200000 in
theorem bcopy_any {n : Nat} (its : List (Tm n)) (ia : Option Addr) (ic : Nat) (w : World) (hT : TIs w n ia ic its) (hc : ∀ u ∈ its, chk u.2.2 = 0) : Calls Try.prog 45 #[.slice ia its.length ic] w (RowPost (shT n) w its) := by
  have HT : Hid (TIs w n ia ic its) := hT
  have hlen := hT.2.2.1
  clear hT
  have HC : Hid (∀ u ∈ its, chk u.2.2 = 0) := hc
  clear hc
  go_enter Try.func45, Try.ntmps45
  go_wp2_with fail
  go_loopw [3, 8] (fun v i wr => ∃ (m : Nat) (H : Nat → Prop), m ≤ its.length ∧ i = .int .i64 m ∧ Hid (CopyInv (shT n) w wr v (its.take m) H)) (fun _ i _ => its.length - (intOf i).toNat)
  case atStart => exact ⟨0, fun _ => False, Nat.zero_le _, rfl, CopyInv.start _ _⟩
  case round =>
    obtain ⟨m, H, hm, rfl, HI⟩ := hrel
    by_cases hlt : m < its.length
    · obtain ⟨b, o, k, bb, t, ka, kl, kc, ja, jl, jc, rfl, q0, q1, q2, q3, q4, q5, q6, hl, hk⟩ := (HT.out.below HI.out.2.2).at m hlt
      have hm1 : (m : Int) < (its.length : Int) := by omega
      have HL : Hid (Lay wr n (mk k bb t ka kl kc ja jl jc) its[m].2.2) := hl
      have HTK : Hid (its.take (m + 1) = its.take m ++ [its[m]]) := List.take_succ_eq_append_getElem hlt
      have HLn : Hid ((its.take m).length = m) := by show _ = _; rw [List.length_take]; omega
      clear hl
      have HE : Hid (∃ u : Tm n, u = its[m]) := ⟨_, rfl⟩
      obtain ⟨u, hu⟩ := HE.out
      clear HE
      have HU : Hid (chk its[m].2.2 = 0 → chk u.2.2 = 0) := by rw [hu]; exact id
      rw [← hu] at q0 q1 HL HTK
      clear hu
      obtain ⟨id, nm, u⟩ := u
      simp only at q0 q1 HL HTK HU
      have B1 : Hid (Below wr.heap.size wr (wr.alloc (.cells #[.int .i64 id, .string nm, .int .i64 k, .int .u64 bb, .string t, .slice ka kl kc, .slice ja jl jc] 54))) := below_one _ _
      have X1 : Hid ((wr.alloc (.cells #[.int .i64 id, .string nm, .int .i64 k, .int .u64 bb, .string t, .slice ka kl kc, .slice ja jl jc] 54)).heap[wr.heap.size]? = some (.cells #[.int .i64 id, .string nm, .int .i64 k, .int .u64 bb, .string t, .slice ka kl kc, .slice ja jl jc] 54 (0, 0))) := heap_alloc_new _ _
      go_wp2_with (first
        | (go_at_call 60; refine (get_nil n _ _ _ _ _ _ _ _ _ _ _ (Lay.below n HL.out B1.out) (HU.out (HC.out _ (List.getElem_mem hlt)))).mono ?_; rintro e w1 ⟨y, F, rfl, ho, hF, hbel⟩; obtain ⟨k', b', t', ka', kl', kc', ia', il', ic', rfl⟩ := Lay.shape n (Own.lay n ho); have hX := (hbel.block _ (lt_of_block X1.out)).trans X1.out; obtain ⟨y0, y1, y2, y3, y4, y5, y6⟩ := box7 hX; obtain ⟨-, z2⟩ := cell_of hX 2; obtain ⟨-, z3⟩ := cell_of hX 3; obtain ⟨-, z4⟩ := cell_of hX 4; obtain ⟨-, z5⟩ := cell_of hX 5; obtain ⟨-, z6⟩ := cell_of hX 6; clear hX;
            have SD : Hid _ := CopyInv.side5 HI.out hbel ho hF 2 3 4 5 6 (.int .i64 k') (.int .u64 b') (.string t') (.slice ka' kl' kc') (.slice ia' il' ic') (.cells #[.int .i64 id, .string nm, .int .i64 k', .int .u64 b', .string t', .slice ka' kl' kc', .slice ia' il' ic'] 54) _ rfl; clear hF ho)
        | (at_builtin; refine wpList_pushT _ rfl _ _ rfl _ (its.take m) H rfl SD.out.1 (id, nm, u) F (.int .i64 k') (.int .u64 b') (.string t') (.slice ka' kl' kc') (.slice ia' il' ic') SD.out.2.1 SD.out.2.2.1 SD.out.2.2.2.1 SD.out.2.2.2.2.1 ⟨w1.heap.size, 0, none⟩ 1 rfl (fun j y hj => news5 _ _ _ _ _ _ _ _ _ _ _ _ _ _ j y hj) ?d6 ?_))
      case d6 => rw [HLn.out]; omega
      intro v' w4 p1 p2 p3 p4
      have R : Hid (CopyInv (shT n) w w4 v' (its.take (m + 1)) (fun b => H b ∨ F b ∨ v'.ownBlock = some b)) := by
        rw [HTK.out]
        exact CopyInv.next HI.out SD.out.2.2.2.2.2.1 SD.out.2.2.2.2.2.2.1 SD.out.2.2.2.2.2.2.2 p1 p2 (by simpa [World.setCell] using p3) p4
      clear p1 p2 p3 p4 SD
      go_wp2_with fail
      go_roundw
      case rel => exact ⟨m + 1, _, by omega, by go_num, R.out⟩
      case measure => simp [intOf]; omega
    · have hme : m = its.length := by omega
      subst hme
      go_wp2_with fail
      go_ret
      have h := HI.out
      rw [List.take_length] at h
      exact ⟨_, H, rfl, h⟩

set_option maxRecDepth 100000 in
set_option maxHeartbeats 3200000 in
theorem copyItems_any {n : Nat} (its : List (Tm n)) (ia : Option Addr) (ic : Nat) (w : World) (hT : TIs w n ia ic its) : Calls Try.prog 14 #[.slice ia its.length ic] w (RowPost (shT n) w its) := by
  have HT : Hid (TIs w n ia ic its) := hT
  have hlen := hT.2.2.1
  clear hT
  go_enter Try.func14, Try.ntmps14
  go_wp2_with fail
  go_loopw [3, 4] (fun v i wr => ∃ (m : Nat) (H : Nat → Prop), m ≤ its.length ∧ i = .int .i64 m ∧ Hid (CopyInv (shT n) w wr v (its.take m) H)) (fun _ i _ => its.length - (intOf i).toNat)
  case atStart => exact ⟨0, fun _ => False, Nat.zero_le _, rfl, CopyInv.start _ _⟩
  case round =>
    obtain ⟨m, H, hm, rfl, HI⟩ := hrel
    by_cases hlt : m < its.length
    · obtain ⟨b, o, k, bb, t, ka, kl, kc, ja, jl, jc, rfl, q0, q1, q2, q3, q4, q5, q6, hl, hk⟩ := (HT.out.below HI.out.2.2).at m hlt
      have hm1 : (m : Int) < (its.length : Int) := by omega
      have HL : Hid (Lay wr n (mk k bb t ka kl kc ja jl jc) its[m].2.2) := hl
      have HTK : Hid (its.take (m + 1) = its.take m ++ [its[m]]) := List.take_succ_eq_append_getElem hlt
      have HLn : Hid ((its.take m).length = m) := by show _ = _; rw [List.length_take]; omega
      clear hl
      have HE : Hid (∃ u : Tm n, u = its[m]) := ⟨_, rfl⟩
      obtain ⟨u, hu⟩ := HE.out
      clear HE
      have HU : Hid (chk its[m].2.2 = 0 → chk u.2.2 = 0) := by rw [hu]; exact id
      rw [← hu] at q0 q1 HL HTK
      clear hu
      obtain ⟨id, nm, u⟩ := u
      simp only at q0 q1 HL HTK HU
      have B1 : Hid (Below wr.heap.size wr (wr.alloc (.cells #[.int .i64 id, .string nm, .int .i64 k, .int .u64 bb, .string t, .slice ka kl kc, .slice ja jl jc] 54))) := below_one _ _
      have X1 : Hid ((wr.alloc (.cells #[.int .i64 id, .string nm, .int .i64 k, .int .u64 bb, .string t, .slice ka kl kc, .slice ja jl jc] 54)).heap[wr.heap.size]? = some (.cells #[.int .i64 id, .string nm, .int .i64 k, .int .u64 bb, .string t, .slice ka kl kc, .slice ja jl jc] 54 (0, 0))) := heap_alloc_new _ _
      go_wp2_with (first
        | (go_at_call 30; refine (copy_any n _ _ _ (Lay.below n HL.out B1.out)).mono ?_; rintro e w1 ⟨y, F, rfl, ho, hF, hbel⟩; obtain ⟨k', b', t', ka', kl', kc', ia', il', ic', rfl⟩ := Lay.shape n (Own.lay n ho); have hX := (hbel.block _ (lt_of_block X1.out)).trans X1.out; obtain ⟨y0, y1, y2, y3, y4, y5, y6⟩ := box7 hX; obtain ⟨-, z2⟩ := cell_of hX 2; obtain ⟨-, z3⟩ := cell_of hX 3; obtain ⟨-, z4⟩ := cell_of hX 4; obtain ⟨-, z5⟩ := cell_of hX 5; obtain ⟨-, z6⟩ := cell_of hX 6; clear hX;
            have SD : Hid _ := CopyInv.side5 HI.out hbel ho hF 2 3 4 5 6 (.int .i64 k') (.int .u64 b') (.string t') (.slice ka' kl' kc') (.slice ia' il' ic') (.cells #[.int .i64 id, .string nm, .int .i64 k', .int .u64 b', .string t', .slice ka' kl' kc', .slice ia' il' ic'] 54) _ rfl; clear hF ho)
        | (at_builtin; refine wpList_pushT _ rfl _ _ rfl _ (its.take m) H rfl SD.out.1 (id, nm, u) F (.int .i64 k') (.int .u64 b') (.string t') (.slice ka' kl' kc') (.slice ia' il' ic') SD.out.2.1 SD.out.2.2.1 SD.out.2.2.2.1 SD.out.2.2.2.2.1 ⟨w1.heap.size, 0, none⟩ 1 rfl (fun j y hj => news5 _ _ _ _ _ _ _ _ _ _ _ _ _ _ j y hj) ?d6 ?_))
      case d6 => rw [HLn.out]; omega
      intro v' w4 p1 p2 p3 p4
      have R : Hid (CopyInv (shT n) w w4 v' (its.take (m + 1)) (fun b => H b ∨ F b ∨ v'.ownBlock = some b)) := by
        rw [HTK.out]
        exact CopyInv.next HI.out SD.out.2.2.2.2.2.1 SD.out.2.2.2.2.2.2.1 SD.out.2.2.2.2.2.2.2 p1 p2 (by simpa [World.setCell] using p3) p4
      clear p1 p2 p3 p4 SD
      go_wp2_with fail
      go_roundw
      case rel => exact ⟨m + 1, _, by omega, by go_num, R.out⟩
      case measure => simp [intOf]; omega
    · have hme : m = its.length := by omega
      subst hme
      go_wp2_with fail
      go_ret
      have h := HI.out
      rw [List.take_length] at h
      exact ⟨_, H, rfl, h⟩

end Go.Proofs.Ytfdbhojghkdlkaa
