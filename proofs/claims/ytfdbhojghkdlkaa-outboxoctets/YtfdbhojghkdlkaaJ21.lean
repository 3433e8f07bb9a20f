/-
  The page's Add.
-/
import Derived.Test.YtfdbhojghkdlkaaJ18
import Derived.Test.YtfdbhojghkdlkaaJ16
import Derived.Test.YtfdbhojghkdlkaaVaFrame
namespace Go.Proofs.Ytfdbhojghkdlkaa
open Go.ChangeShapes Go.WideShapes Go.ChangeAt Go.RowKit

theorem effE_bad {n : Nat} {nm : ByteArray} {u : V n} (h : nmB nm = false) : effE nm u = 31 := by
  unfold effE
  rw [if_pos]
  unfold nmB at h
  by_cases h1 : 1 ≤ nm.size
  · simp [h1] at h; omega
  · omega
theorem effE_good {n : Nat} {nm : ByteArray} {u : V n} (h : nmB nm = true) : effE nm u = chk u := by
  unfold effE
  unfold nmB at h
  simp at h
  rw [if_neg (by omega)]

end Go.Proofs.Ytfdbhojghkdlkaa

/-
  Of, CopyEffects, Alike.
-/
namespace Go.Proofs.Ytfdbhojghkdlkaa
open Go.ChangeShapes Go.WideShapes Go.ChangeAt Go.RowKit

set_option maxRecDepth 100000 in
set_option maxHeartbeats 3200000 in
theorem of_any {n : Nat} (L : Int) (its : List (Tm n)) (ia : Option Addr) (ic : Nat) (w : World) (hT : TIs w n ia ic its) : Calls Try.prog 4 #[.agg #[.int .i64 L, .slice ia its.length ic]] w (ROwnPost w L its) := by
  have HT : Hid (TIs w n ia ic its) := hT
  clear hT
  have T0 : Hid (Two w _ _ _) := Two.new w (.cells #[.int .i64 L, .slice ia its.length ic] 24) (.cells #[.int .i64 0, .slice none 0 0] 26) (Below.refl _ _)
  have B0 : Hid _ := below_two w (.cells #[.int .i64 L, .slice ia its.length ic] 24) (.cells #[.int .i64 0, .slice none 0 0] 26)
  go_enter Try.func4, Try.ntmps4
  go_wp2_with fail
  generalize (w.alloc (.cells #[.int .i64 L, .slice ia its.length ic] 24)).alloc (.cells #[.int .i64 0, .slice none 0 0] 26) = W at *
  obtain ⟨x0, x1, y0, y1, z0, z1⟩ := two_cells2 T0.out
  have x0d : W.drew.cell? ⟨w.heap.size, 0, none⟩ = some (.int .i64 L) := x0
  have x1d : W.drew.cell? ⟨w.heap.size, 1, none⟩ = some (.slice ia its.length ic) := x1
  have BD : Hid (Below w.heap.size w W.drew) := B0.out.drew
  have C1 : Hid (Calls Try.prog 14 #[.slice ia its.length ic] W.drew _) := copyItems_any its ia ic W.drew (HT.out.below BD.out)
  go_region_law (first
    | (refine step_call1 rfl 14 (by intros; go_simp) _ _ rfl (.slice ia its.length ic) (by first | (simp [Act.eval]; done) | simp [Act.eval, Act.put]) (fun y w' => ∃ H, CopyInv (shT n) W.drew w' y its H) (C1.out.mono fun e w' ⟨v, H, q1, q2⟩ => ⟨v, q1, H, q2⟩) ?_; intro y w4 hR; obtain ⟨H4, h4⟩ := hR; have T4 := T0.out.below (nxt (Below.refl _ W).drew h4.2.2); obtain ⟨r0, r1, r2, r3, r4, r5⟩ := two_cells2 T4; obtain ⟨a4, c4, rfl⟩ := h4.1.shape))
  all_goals
    have H4' : Hid (CopyInv (shT n) W.drew w4 (.slice a4 its.length c4) its H4) := h4
    have hlt : Hid (w.heap.size + 1 < W.heap.size) := lt_of_block T0.out.2
    clear h4 T4
    go_wp2_with fail
    refine bodyPost_ret (v := .agg #[.int .i64 L, .slice a4 its.length c4]) (by simp [results, Try.results4, go_sem, r2, r3]) rfl ?_
    exact ⟨_, H4, rfl, CopyInv.set2 H4'.out BD.out (by omega) hlt.out _ _⟩

/-- append of one effect, its value in memory of its own, as one step. -/
theorem step_pushE {ops : Array Oper} {o : Oper} {a : Act} {w : World} {K : Act → World → Prop} {Q : Exit → Act → World → Prop} {E : Prop} (hgd : o.guard = none) (s x : Operand)
    (hop : o.op = .call { callee := .builtin .append, args := #[s, x], argTypes := #[68, 68] })
    {n : Nat} (v : Value) (its : List (Ef n)) (H : Nat → Prop) (hs : a.eval s = v) (hL : OwnR (shE n) w v its H) (u : Ef n) (F : Nat → Prop) (c0 c1 c2 c3 c4 : Value) (ho : Own w n (.agg #[c0, c1, c2, c3, c4]) u.2 F) (hF : ∀ b, F b → ¬ H b) (hH : ∀ b, H b → b < w.heap.size) (hFl : ∀ b, F b → b < w.heap.size)
    (ad : Addr) (c : Nat) (hx : a.eval x = .slice (some ad) 1 c) (hnews : ∀ j y, ([.string u.1, c0, c1, c2, c3, c4] : List Value)[j]? = some y → w.cell? (ad.add j) = some y) (hlen : (its.length + 1) * 96 ≤ 140737488355328)
    (h : ∀ v' w', OwnR (shE n) w' v' (its ++ [u]) (fun b => H b ∨ F b ∨ v'.ownBlock = some b) → w.grownBy w' v.ownBlock → (v'.ownBlock = v.ownBlock ∨ ∀ g, v'.ownBlock = some g → w.heap.size ≤ g) → (∀ g, v'.ownBlock = some g → g < w'.heap.size) → K (a.put o.dst v') w') :
    if Region.wanted o (yielded ops a.tmps) = true then Oper.wp Try.prog o a w K Q else E := by
  obtain ⟨xs, G, h1, h2, h3, h4, h5⟩ := hL
  obtain ⟨i0, hi, hz0, hz1, hz2⟩ := info_parts Try.infoEffect
  refine step_append hgd s x 68 hop 0 52 i0 _ 6 96 Try.underlying68 hi hz0 hz1 hz2 rfl (by decide) v its.length xs hs h1 ad 1 c [.string u.1, c0, c1, c2, c3, c4] hx rfl hnews ?_ (by unfold maxLen; omega) hlen (Nat.zero_le _) ?_
  · intro y hy
    rcases List.mem_cons.1 hy with rfl | hy
    · rfl
    · exact Own.ones n ho y hy
  · intro v' w' q1 q2 q3
    exact h v' w' (OwnR.push (S := shE n) rfl rfl rfl h1 h2 h3 h4 h5 ho hF hH hFl q1 q2 q3) q2 q3 fun g hg => (q1.lt g hg).2

/-- Are a box of the program's and one of the page's one? -/
noncomputable def alk {n : Nat} (L L' : Int) (l l' : List (Tm n)) : Int := if L = L' ∧ one l l' = true then 0 else 1

set_option maxRecDepth 100000 in
theorem alike_any {n : Nat} (L L' : Int) (l l' : List (Tm n)) (ia ia' : Option Addr) (ic ic' : Nat) (w : World) (h : TIs w n ia ic l) (h' : TIs w n ia' ic' l') :
    Calls Try.prog 12 #[.agg #[.int .i64 L, .slice ia l.length ic], .agg #[.int .i64 L', .slice ia' l'.length ic']] w fun e w' => e = .returned (.int .i64 (alk L L' l l')) ∧ Below w.heap.size w w' := by
  have C1 : Hid (∀ w', Below w.heap.size w w' → Calls Try.prog 25 #[.slice ia l.length ic, .slice ia' l'.length ic'] w' fun e w'' => e = .returned (.bool (one l l')) ∧ Below w'.heap.size w' w'') := fun w' hb => sameItems_any l l' ia ia' ic ic' w' (h.below hb) (h'.below hb)
  clear h h'
  by_cases hL : L = L'
  · subst hL
    have E : Hid (alk L L l l' = if one l l' = true then 0 else 1) := by show _ = _; unfold alk; simp
    generalize one l l' = o5 at *
    go_enter Try.func12, Try.ntmps12
    go_wp2_with fail
    refine (C1.out _ (below_two _ _ _)).mono ?_
    rintro e w1 ⟨rfl, hb1⟩
    cases o5
    · go_wp2_with fail
      go_ret
      exact ⟨by rw [E.out]; rfl, nxt (below_two _ _ _) hb1⟩
    · go_wp2_with fail
      go_ret
      exact ⟨by rw [E.out]; rfl, nxt (below_two _ _ _) hb1⟩
  · have hd : (L == L') = false := by simpa using hL
    have hd2 : (L != L') = true := by simpa using hL
    have E : Hid (alk L L' l l' = 1) := by show _ = _; unfold alk; rw [if_neg (fun h => hL h.1)]
    clear hL
    go_enter Try.func12, Try.ntmps12
    go_wp2_with fail
    go_ret
    exact ⟨by rw [E.out]; rfl, below_two _ _ _⟩
end Go.Proofs.Ytfdbhojghkdlkaa

/-
  Effects, items, boxes, whole numbers and texts among the arguments.
-/
namespace Go.Proofs.Ytfdbhojghkdlkaa
open Go.ChangeShapes Go.WideShapes Go.ChangeAt Go.RowKit Go.Deep

theorem Try.cellsEff : Try.prog.cellsOf 52 = 6 := by kernel_rfl
theorem Try.cellsItem : Try.prog.cellsOf 54 = 7 := by kernel_rfl
theorem Try.cellsItems : Try.prog.cellsOf 22 = 1 := by kernel_rfl
theorem Try.cellsBox : Try.prog.cellsOf 24 = 2 := by kernel_rfl
theorem Try.bytesEff : Try.prog.bytesOf 52 = 96 := by kernel_rfl
theorem Try.bytesItem : Try.prog.bytesOf 54 = 104 := by kernel_rfl

/-- Cells in a row, one by one. -/
theorem cells_get {w : World} {a : Addr} {n : Nat} {cs : List Value} (h : w.cells? 0 a n = some cs) : cs.length = n ∧ ∀ j c, cs[j]? = some c → w.cell? (a.add j) = some c := by
  simp only [World.cells?, Nat.zero_le, if_true] at h
  have key : ∀ (l : List Nat) (cs : List Value), l.mapM (fun i => w.cell? (a.add i)) = some cs → cs.length = l.length ∧ ∀ (j : Nat) (c : Value) (i : Nat), l[j]? = some i → cs[j]? = some c → w.cell? (a.add i) = some c := by
    intro l
    induction l with
    | nil =>
      intro cs h
      simp at h
      subst h
      exact ⟨rfl, fun j c i hi => by simp at hi⟩
    | cons x r ih =>
      intro cs h
      simp only [List.mapM_cons] at h
      cases hx : w.cell? (a.add x) with
      | none => simp [hx] at h
      | some c0 =>
        cases hr : r.mapM (fun i => w.cell? (a.add i)) with
        | none => simp [hx, hr] at h
        | some cr =>
          simp [hx, hr] at h
          subst h
          obtain ⟨h1, h2⟩ := ih cr hr
          refine ⟨by simp [h1], fun j c i hi hc => ?_⟩
          cases j with
          | zero => simp at hi hc; subst hi hc; exact hx
          | succ j => simp at hi hc; exact h2 j c i hi hc
  obtain ⟨h1, h2⟩ := key _ _ h
  refine ⟨by simpa using h1, fun j c hj => ?_⟩
  have hjn : j < n := by have := (List.getElem?_eq_some_iff.1 hj).1; rw [h1] at this; simpa using this
  exact h2 j c j (by simp [hjn]) hj

set_option maxRecDepth 100000 in
theorem eff_of_trod {H : Type} {enc : TypeId × Value → H} {w : World} (k : Nat) (d : DataW H) (fuel : Nat) (cs : List Value) (pl : List MemPlace) (hk : SizeOf.sizeOf d ≤ k) (hwt : ∀ n ∈ d.weights Try.prog 52, n ≤ reachBytes)
    (h : DataW.trod enc Try.prog w 0 (fun _ => true) true fuel 52 cs = some (d, pl)) : ∃ (nm : ByteArray) (u : V k) (c0 c1 c2 c3 c4 : Value), cs = [.string nm, c0, c1, c2, c3, c4] ∧ Lay w k (.agg #[c0, c1, c2, c3, c4]) u ∧ nm.size ≤ 140737488351232 := by
  obtain ⟨xs, n, _, hx, hl, hlen, hf⟩ := DataW.trod_struct Try.underlying52 h
  match xs, hlen with
  | [y0, y1], _ =>
  rw [Try.cellsEff] at hl
  match cs, hl with
  | [d0, c0, c1, c2, c3, c4], _ =>
  have f0 : DataW.trod enc Try.prog w 0 (fun _ => true) true n 9 (([d0, c0, c1, c2, c3, c4].drop 0).take (Try.prog.cellsOf 9)) = some y0 := hf 0 _ rfl
  rw [Try.cellsStr] at f0
  have f1 : DataW.trod enc Try.prog w 0 (fun _ => true) true n 50 (([d0, c0, c1, c2, c3, c4].drop 1).take (Try.prog.cellsOf 50)) = some y1 := hf 1 _ rfl
  rw [Try.cellsVal] at f1
  obtain ⟨tt, e0, rfl, w0⟩ := DataW.trod_string Try.underlying9 f0
  have e0' : d0 = .string tt := by simpa using e0
  subst e0'
  have hd : d = .agg [.lit (.string tt.data.toList), y1.1] := by
    have := congrArg Prod.fst hx
    simpa using this
  subst hd
  have ew : (DataW.agg [.lit (.string tt.data.toList), y1.1] : DataW H).weights Try.prog 52 = [tt.data.toList.length] ++ y1.1.weights Try.prog 50 := by
    simp [DataW.weights, Try.underlying52, DataW.weightsEach]
  rw [ew] at hwt
  have et : tt.data.toList.length = tt.size := by cases tt; rfl
  have wT : tt.size ≤ 140737488351232 := by have := hwt _ (List.mem_append_left _ (List.mem_singleton.2 rfl)); rw [et, reach_eq] at this; exact this
  have f1' : DataW.trod enc Try.prog w 0 (fun _ => true) true n 50 [c0, c1, c2, c3, c4] = some (y1.1, y1.2) := f1
  obtain ⟨u, hu⟩ := lay_of_trod k y1.1 n _ y1.2 (by simp at hk; omega) (fun x hx => hwt x (List.mem_append_right _ hx)) f1'
  exact ⟨tt, u, c0, c1, c2, c3, c4, rfl, hu, wT⟩

set_option maxRecDepth 100000 in
theorem item_of_trod {H : Type} {enc : TypeId × Value → H} {w : World} (k : Nat) (d : DataW H) (fuel : Nat) (cs : List Value) (pl : List MemPlace) (hk : SizeOf.sizeOf d ≤ k) (hwt : ∀ n ∈ d.weights Try.prog 54, n ≤ reachBytes)
    (h : DataW.trod enc Try.prog w 0 (fun _ => true) true fuel 54 cs = some (d, pl)) : ∃ (id : Int) (nm : ByteArray) (u : V k) (c0 c1 c2 c3 c4 : Value), cs = [.int .i64 id, .string nm, c0, c1, c2, c3, c4] ∧ Lay w k (.agg #[c0, c1, c2, c3, c4]) u ∧ TmOk (id, nm, u) := by
  obtain ⟨xs, n, _, hx, hl, hlen, hf⟩ := DataW.trod_struct Try.underlying54 h
  match xs, hlen with
  | [y0, y1], _ =>
  rw [Try.cellsItem] at hl
  match cs, hl with
  | [d0, d1, c0, c1, c2, c3, c4], _ =>
  have f0 : DataW.trod enc Try.prog w 0 (fun _ => true) true n 3 (([d0, d1, c0, c1, c2, c3, c4].drop 0).take (Try.prog.cellsOf 3)) = some y0 := hf 0 _ rfl
  rw [Try.cellsInt] at f0
  have f1 : DataW.trod enc Try.prog w 0 (fun _ => true) true n 52 (([d0, d1, c0, c1, c2, c3, c4].drop 1).take (Try.prog.cellsOf 52)) = some y1 := hf 1 _ rfl
  rw [Try.cellsEff] at f1
  obtain ⟨id, e0, rfl, w0⟩ := DataW.trod_int Try.underlying3 f0
  have e0' : d0 = .int .i64 id := by simpa using e0
  subst e0'
  have b0 := bounds_i64 w0
  have hd : d = .agg [.lit (.int .i64 id), y1.1] := by
    have := congrArg Prod.fst hx
    simpa using this
  subst hd
  have ew : (DataW.agg [.lit (.int .i64 id), y1.1] : DataW H).weights Try.prog 54 = y1.1.weights Try.prog 52 := by
    simp [DataW.weights, Try.underlying54, DataW.weightsEach]
  rw [ew] at hwt
  have f1' : DataW.trod enc Try.prog w 0 (fun _ => true) true n 52 [d1, c0, c1, c2, c3, c4] = some (y1.1, y1.2) := f1
  obtain ⟨nm, u, z0, z1, z2, z3, z4, e, hu, hn⟩ := eff_of_trod k y1.1 n _ y1.2 (by simp at hk; omega) hwt f1'
  simp only [List.cons.injEq, and_true] at e
  obtain ⟨rfl, rfl, rfl, rfl, rfl, rfl⟩ := e
  exact ⟨id, nm, u, _, _, _, _, _, rfl, hu, ⟨by omega, by omega⟩, hn⟩

set_option maxRecDepth 100000 in
theorem effs_of_trod {H : Type} {enc : TypeId × Value → H} {w : World} (k : Nat) {d : DataW H} {fuel : Nat} {c : Value} {pl : List MemPlace} (hk : SizeOf.sizeOf d ≤ k) (hwt : ∀ n ∈ d.weights Try.prog 68, n ≤ reachBytes)
    (h : DataW.trod enc Try.prog w 0 (fun _ => true) true fuel 68 [c] = some (d, pl)) : ∃ (l : List (Ef k)) (ea : Option Addr) (ec : Nat), c = .slice ea l.length ec ∧ EIs w k ea ec l := by
  rcases open_slice Try.underlying68 h with ⟨h1, h2⟩ | ⟨a, len, cap, m, n', D, Pl, h1, _, hl1, hm1, hm2, h2, h3⟩
  · simp only [List.cons.injEq, and_true] at h1
    exact ⟨[], none, 0, h1, by simp, by simp, by simp, by simp, by simp, by simp, LayR.nil _ _ _⟩
  · simp only [List.cons.injEq, and_true] at h1
    simp only [if_true] at hm2
    subst hm2
    rw [Try.cellsEff] at h2 h3
    have h2' : d = .slice ((List.range len).map D) ((List.range (m - len)).map fun j => D (len + j)) := congrArg Prod.fst h2
    rw [h2'] at hwt hk
    unfold maxLen at hm1
    have plain : 0 < m → a = ⟨a.block, a.off, none⟩ := fun hm => by
      obtain ⟨cs0, q0, _⟩ := h3 0 hm
      obtain ⟨g1, g2⟩ := cells_get q0
      have := spot_none (g2 0 _ (List.getElem?_eq_getElem (by omega)))
      simpa [Addr.add] using this
    have each : ∀ i, i < len → ∃ u : Ef k, EfOk u ∧ ∃ b o c0 c1 c2 c3 c4, some a = some (⟨b, o, none⟩ : Addr) ∧ (∀ j c, ((shE k).pre u)[j]? = some c → w.cell? ⟨b, o + i * 6 + j, none⟩ = some c) ∧ w.cell? ⟨b, o + i * 6 + 1, none⟩ = some c0 ∧ w.cell? ⟨b, o + i * 6 + 1 + 1, none⟩ = some c1 ∧ w.cell? ⟨b, o + i * 6 + 1 + 2, none⟩ = some c2 ∧ w.cell? ⟨b, o + i * 6 + 1 + 3, none⟩ = some c3 ∧
        w.cell? ⟨b, o + i * 6 + 1 + 4, none⟩ = some c4 ∧ Lay w k (.agg #[c0, c1, c2, c3, c4]) u.2 := by
      intro i hi
      have hs := plain (by omega)
      obtain ⟨cs', q, htr⟩ := h3 i (by omega)
      obtain ⟨g1, g2⟩ := cells_get q
      have hmem : D i ∈ (List.range len).map D := List.mem_map.2 ⟨i, List.mem_range.2 hi, rfl⟩
      have hsz : SizeOf.sizeOf (D i) ≤ k := by
        have := List.sizeOf_lt_of_mem hmem
        simp at hk
        omega
      obtain ⟨nm, u, c0, c1, c2, c3, c4, rfl, hu, hn⟩ := eff_of_trod k (D i) n' cs' (Pl i) hsz (fun x hx => hwt x (by
        simp only [DataW.weights, Try.underlying68]
        exact List.mem_cons_of_mem _ (List.mem_append_left _ (weightsAll_mem hmem _ hx)))) htr
      rw [hs] at g2
      rw [add_plain] at g2
      refine ⟨(nm, u), hn, a.block, a.off, c0, c1, c2, c3, c4, by rw [← hs], ?_, ?_, ?_, ?_, ?_, ?_, hu⟩
      · intro j c hj
        match j, hj with
        | 0, hj => cases hj; have := g2 0 _ rfl; rwa [add_plain] at this
        | j + 1, hj => simp [shE] at hj
      · have := g2 1 _ rfl; rwa [add_plain] at this
      · have := g2 2 _ rfl; rwa [add_plain] at this
      · have := g2 3 _ rfl; rwa [add_plain] at this
      · have := g2 4 _ rfl; rwa [add_plain] at this
      · have := g2 5 _ rfl; rwa [add_plain] at this
    obtain ⟨l, hlen', hl⟩ := list_of each
    refine ⟨l, some a, m, by rw [hlen']; exact h1, by omega, hm1, ?_, by simp, fun ad e hm => by cases e; exact plain hm, fun u hu => ?_, fun i u hu => (hl i u hu).2⟩
    · have := hwt _ (by simp only [DataW.weights, Try.underlying68]; exact List.mem_cons_self)
      simp only [List.length_map, List.length_range, Try.bytesEff] at this
      rw [reach_eq] at this
      rw [hlen']
      have h5 : len * 96 ≤ m * 96 := Nat.mul_le_mul_right _ hl1
      omega
    · obtain ⟨i, hi⟩ := List.getElem?_of_mem hu
      exact (hl i u hi).1

set_option maxRecDepth 100000 in
theorem items_of_trod {H : Type} {enc : TypeId × Value → H} {w : World} (k : Nat) {d : DataW H} {fuel : Nat} {c : Value} {pl : List MemPlace} (hk : SizeOf.sizeOf d ≤ k) (hwt : ∀ n ∈ d.weights Try.prog 22, n ≤ reachBytes)
    (h : DataW.trod enc Try.prog w 0 (fun _ => true) true fuel 22 [c] = some (d, pl)) : ∃ (l : List (Tm k)) (ea : Option Addr) (ec : Nat), c = .slice ea l.length ec ∧ TIs w k ea ec l := by
  rcases open_slice Try.underlying22 h with ⟨h1, h2⟩ | ⟨a, len, cap, m, n', D, Pl, h1, _, hl1, hm1, hm2, h2, h3⟩
  · simp only [List.cons.injEq, and_true] at h1
    exact ⟨[], none, 0, h1, by simp, by simp, by simp, by simp, by simp, by simp, LayR.nil _ _ _⟩
  · simp only [List.cons.injEq, and_true] at h1
    simp only [if_true] at hm2
    subst hm2
    rw [Try.cellsItem] at h2 h3
    have h2' : d = .slice ((List.range len).map D) ((List.range (m - len)).map fun j => D (len + j)) := congrArg Prod.fst h2
    rw [h2'] at hwt hk
    unfold maxLen at hm1
    have plain : 0 < m → a = ⟨a.block, a.off, none⟩ := fun hm => by
      obtain ⟨cs0, q0, _⟩ := h3 0 hm
      obtain ⟨g1, g2⟩ := cells_get q0
      have := spot_none (g2 0 _ (List.getElem?_eq_getElem (by omega)))
      simpa [Addr.add] using this
    have each : ∀ i, i < len → ∃ u : Tm k, TmOk u ∧ ∃ b o c0 c1 c2 c3 c4, some a = some (⟨b, o, none⟩ : Addr) ∧ (∀ j c, ((shT k).pre u)[j]? = some c → w.cell? ⟨b, o + i * 7 + j, none⟩ = some c) ∧ w.cell? ⟨b, o + i * 7 + 2, none⟩ = some c0 ∧ w.cell? ⟨b, o + i * 7 + 2 + 1, none⟩ = some c1 ∧ w.cell? ⟨b, o + i * 7 + 2 + 2, none⟩ = some c2 ∧ w.cell? ⟨b, o + i * 7 + 2 + 3, none⟩ = some c3 ∧
        w.cell? ⟨b, o + i * 7 + 2 + 4, none⟩ = some c4 ∧ Lay w k (.agg #[c0, c1, c2, c3, c4]) u.2.2 := by
      intro i hi
      have hs := plain (by omega)
      obtain ⟨cs', q, htr⟩ := h3 i (by omega)
      obtain ⟨g1, g2⟩ := cells_get q
      have hmem : D i ∈ (List.range len).map D := List.mem_map.2 ⟨i, List.mem_range.2 hi, rfl⟩
      have hsz : SizeOf.sizeOf (D i) ≤ k := by
        have := List.sizeOf_lt_of_mem hmem
        simp at hk
        omega
      obtain ⟨id, nm, u, c0, c1, c2, c3, c4, rfl, hu, hn⟩ := item_of_trod k (D i) n' cs' (Pl i) hsz (fun x hx => hwt x (by
        simp only [DataW.weights, Try.underlying22]
        exact List.mem_cons_of_mem _ (List.mem_append_left _ (weightsAll_mem hmem _ hx)))) htr
      rw [hs] at g2
      rw [add_plain] at g2
      refine ⟨(id, nm, u), hn, a.block, a.off, c0, c1, c2, c3, c4, by rw [← hs], ?_, ?_, ?_, ?_, ?_, ?_, hu⟩
      · intro j c hj
        match j, hj with
        | 0, hj => cases hj; have := g2 0 _ rfl; rwa [add_plain] at this
        | 1, hj => cases hj; have := g2 1 _ rfl; rwa [add_plain] at this
        | j + 2, hj => simp [shT] at hj
      · have := g2 2 _ rfl; rwa [add_plain] at this
      · have := g2 3 _ rfl; rwa [add_plain] at this
      · have := g2 4 _ rfl; rwa [add_plain] at this
      · have := g2 5 _ rfl; rwa [add_plain] at this
      · have := g2 6 _ rfl; rwa [add_plain] at this
    obtain ⟨l, hlen', hl⟩ := list_of each
    refine ⟨l, some a, m, by rw [hlen']; exact h1, by omega, hm1, ?_, by simp, fun ad e hm => by cases e; exact plain hm, fun u hu => ?_, fun i u hu => (hl i u hu).2⟩
    · have := hwt _ (by simp only [DataW.weights, Try.underlying22]; exact List.mem_cons_self)
      simp only [List.length_map, List.length_range, Try.bytesItem] at this
      rw [reach_eq] at this
      rw [hlen']
      have h5 : len * 104 ≤ m * 104 := Nat.mul_le_mul_right _ hl1
      omega
    · obtain ⟨i, hi⟩ := List.getElem?_of_mem hu
      exact (hl i u hi).1

/-- Effects that came in. -/
def EffsArg (w : World) (k : Nat) (x : Value) (l : List (Ef k)) : Prop := ∃ ea ec, x = .slice ea l.length ec ∧ EIs w k ea ec l
/-- A box that came in. -/
def BoxArg (w : World) (k : Nat) (x : Value) (b : Int × List (Tm k)) : Prop := ∃ ia ic, x = .agg #[.int .i64 b.1, .slice ia b.2.length ic] ∧ TIs w k ia ic b.2 ∧ -9223372036854775808 ≤ b.1 ∧ b.1 ≤ 9223372036854775807
/-- Whole numbers that came in. -/
def IntsArg (w : World) (x : Value) (ks : List Int) : Prop := ∃ a c, x = .slice a ks.length c ∧ ks.length ≤ c ∧ c ≤ 9223372036854775807 ∧ ∀ i v, ks[i]? = some v → ∃ b o, a = some (⟨b, o, none⟩ : Addr) ∧ w.cell? ⟨b, o + i, none⟩ = some (.int .i64 v) ∧ -9223372036854775808 ≤ v ∧ v ≤ 9223372036854775807

set_option maxRecDepth 100000 in
theorem effs_of_arg {H : Type} {enc : TypeId × Value → H} {w : World} {base k : Nat} {x : Value} {d : DataW H} {pl : List MemPlace} (hx : Value.okWide Try.prog w .any base 68 x) (h : DataW.Trod enc Try.prog w 0 (fun _ => true) true 68 x d pl)
    (hk : SizeOf.sizeOf d ≤ k) (hw : ∀ n ∈ d.weights Try.prog 68, n ≤ reachBytes) : ∃ l, EffsArg w k x l := by
  obtain ⟨fuel, hf⟩ := h
  unfold Value.okWide at hx
  rw [Try.underlying68] at hx
  have hc : x.cells = #[x] ∨ ∃ cs, x = .agg cs := by cases x <;> simp [Value.cells]
  rcases hc with hc | ⟨cs, rfl⟩
  · rw [hc] at hf
    exact effs_of_trod k hk hw hf
  · exfalso
    simp [Cell.okWide, Cell.ok, Try.underlying68] at hx

set_option maxRecDepth 100000 in
theorem box_of_arg {H : Type} {enc : TypeId × Value → H} {w : World} {base k : Nat} {x : Value} {d : DataW H} {pl : List MemPlace} (hx : Value.okWide Try.prog w .any base 24 x) (h : DataW.Trod enc Try.prog w 0 (fun _ => true) true 24 x d pl)
    (hk : SizeOf.sizeOf d ≤ k) (hw : ∀ n ∈ d.weights Try.prog 24, n ≤ reachBytes) : ∃ b, BoxArg w k x b := by
  obtain ⟨fuel, hf⟩ := h
  obtain ⟨cs, rfl⟩ : ∃ cs, x = .agg cs := by
    unfold Value.okWide at hx
    rw [Try.underlying24] at hx
    obtain ⟨cs, h, _⟩ := hx
    exact ⟨cs, h⟩
  have hf' : DataW.trod enc Try.prog w 0 (fun _ => true) true fuel 24 cs.toList = some (d, pl) := by simpa [Value.cells] using hf
  obtain ⟨xs, n, _, hxs, hl, hlen, hff⟩ := DataW.trod_struct Try.underlying24 hf'
  match xs, hlen with
  | [y0, y1], _ =>
  rw [Try.cellsBox] at hl
  obtain ⟨c0, c1, hcs⟩ : ∃ c0 c1, cs.toList = [c0, c1] := by
    match cs.toList, hl with
    | [c0, c1], _ => exact ⟨c0, c1, rfl⟩
  have ecs : cs = #[c0, c1] := by rw [← Array.toArray_toList (xs := cs), hcs]
  subst ecs
  have f0 : DataW.trod enc Try.prog w 0 (fun _ => true) true n 3 (([c0, c1].drop 0).take (Try.prog.cellsOf 3)) = some y0 := hff 0 _ rfl
  rw [Try.cellsInt] at f0
  have f1 : DataW.trod enc Try.prog w 0 (fun _ => true) true n 22 (([c0, c1].drop 1).take (Try.prog.cellsOf 22)) = some y1 := hff 1 _ rfl
  rw [Try.cellsItems] at f1
  obtain ⟨L, e0, rfl, w0⟩ := DataW.trod_int Try.underlying3 f0
  have e0' : c0 = .int .i64 L := by simpa using e0
  subst e0'
  have b0 := bounds_i64 w0
  have hd : d = .agg [.lit (.int .i64 L), y1.1] := by
    have := congrArg Prod.fst hxs
    simpa using this
  subst hd
  have ew : (DataW.agg [.lit (.int .i64 L), y1.1] : DataW H).weights Try.prog 24 = y1.1.weights Try.prog 22 := by
    simp [DataW.weights, Try.underlying24, DataW.weightsEach]
  rw [ew] at hw
  have f1' : DataW.trod enc Try.prog w 0 (fun _ => true) true n 22 [c1] = some (y1.1, y1.2) := f1
  obtain ⟨l, ea, ec, rfl, ht⟩ := items_of_trod k (by simp at hk; omega) hw f1'
  exact ⟨(L, l), ea, ec, rfl, ht, by simp only; omega, by simp only; omega⟩

end Go.Proofs.Ytfdbhojghkdlkaa
