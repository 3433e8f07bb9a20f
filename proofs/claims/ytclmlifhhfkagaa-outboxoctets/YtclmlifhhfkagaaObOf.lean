/-
  Of, CopyEffects, Alike.
-/
import Derived.Test.YtclmlifhhfkagaaObPgB
namespace Go.Proofs.Ytclmlifhhfkagaa
open Go.ChangeShapes Go.WideShapes Go.ChangeAt Go.RowKit

set_option maxRecDepth 100000 in
set_option maxHeartbeats 3200000 in
theorem of_any {n : Nat} (L : Int) (its : List (Tm n)) (ia : Option Addr) (ic : Nat) (w : World) (hT : TIs w n ia ic its) : Calls Try.prog 4 #[.agg #[.int .i64 L, .slice ia its.length ic]] w (ROwnPost w L its) := by
  have HT : Hid (TIs w n ia ic its) := hT
  clear hT
  have T0 : Hid (Two w _ _ _) := Two.new w (.cells #[.int .i64 L, .slice ia its.length ic] 24) (.cells #[.int .i64 0, .slice none 0 0] 26) (Below.refl _ _)
  have B0 : Hid _ := below_two w (.cells #[.int .i64 L, .slice ia its.length ic] 24) (.cells #[.int .i64 0, .slice none 0 0] 26)
  go_enter Try.func4, Try.ntmps4
  go_wp2_with fail
  generalize (w.alloc (.cells #[.int .i64 L, .slice ia its.length ic] 24)).alloc (.cells #[.int .i64 0, .slice none 0 0] 26) = W at *
  obtain ⟨x0, x1, y0, y1, z0, z1⟩ := two_cells2 T0.out
  have x0d : W.drew.cell? ⟨w.heap.size, 0, none⟩ = some (.int .i64 L) := x0
  have x1d : W.drew.cell? ⟨w.heap.size, 1, none⟩ = some (.slice ia its.length ic) := x1
  have BD : Hid (Below w.heap.size w W.drew) := B0.out.drew
  have C1 : Hid (Calls Try.prog 14 #[.slice ia its.length ic] W.drew _) := copyItems_any its ia ic W.drew (HT.out.below BD.out)
  go_region_law (first
    | (refine step_call1 rfl 14 (by intros; go_simp) _ _ rfl (.slice ia its.length ic) (by first | (simp [Act.eval]; done) | simp [Act.eval, Act.put]) (fun y w' => ∃ H, CopyInv (shT n) W.drew w' y its H) (C1.out.mono fun e w' ⟨v, H, q1, q2⟩ => ⟨v, q1, H, q2⟩) ?_; intro y w4 hR; obtain ⟨H4, h4⟩ := hR; have T4 := T0.out.below (nxt (Below.refl _ W).drew h4.2.2); obtain ⟨r0, r1, r2, r3, r4, r5⟩ := two_cells2 T4; obtain ⟨a4, c4, rfl⟩ := h4.1.shape))
  all_goals
    have H4' : Hid (CopyInv (shT n) W.drew w4 (.slice a4 its.length c4) its H4) := h4
    have hlt : Hid (w.heap.size + 1 < W.heap.size) := lt_of_block T0.out.2
    clear h4 T4
    go_wp2_with fail
    refine bodyPost_ret (v := .agg #[.int .i64 L, .slice a4 its.length c4]) (by simp [results, Try.results4, go_sem, r2, r3]) rfl ?_
    exact ⟨_, H4, rfl, CopyInv.set2 H4'.out BD.out (by omega) hlt.out _ _⟩

/-- append of one effect, its value in memory of its own, as one step. -/
theorem step_pushE {ops : Array Oper} {o : Oper} {a : Act} {w : World} {K : Act → World → Prop} {Q : Exit → Act → World → Prop} {E : Prop} (hgd : o.guard = none) (s x : Operand)
    (hop : o.op = .call { callee := .builtin .append, args := #[s, x], argTypes := #[68, 68] })
    {n : Nat} (v : Value) (its : List (Ef n)) (H : Nat → Prop) (hs : a.eval s = v) (hL : OwnR (shE n) w v its H) (u : Ef n) (F : Nat → Prop) (c0 c1 c2 c3 c4 : Value) (ho : Own w n (.agg #[c0, c1, c2, c3, c4]) u.2 F) (hF : ∀ b, F b → ¬ H b) (hH : ∀ b, H b → b < w.heap.size) (hFl : ∀ b, F b → b < w.heap.size)
    (ad : Addr) (c : Nat) (hx : a.eval x = .slice (some ad) 1 c) (hnews : ∀ j y, ([.string u.1, c0, c1, c2, c3, c4] : List Value)[j]? = some y → w.cell? (ad.add j) = some y) (hlen : (its.length + 1) * 96 ≤ 140737488355328)
    (h : ∀ v' w', OwnR (shE n) w' v' (its ++ [u]) (fun b => H b ∨ F b ∨ v'.ownBlock = some b) → w.grownBy w' v.ownBlock → (v'.ownBlock = v.ownBlock ∨ ∀ g, v'.ownBlock = some g → w.heap.size ≤ g) → (∀ g, v'.ownBlock = some g → g < w'.heap.size) → K (a.put o.dst v') w') :
    if Region.wanted o (yielded ops a.tmps) = true then Oper.wp Try.prog o a w K Q else E := by
  obtain ⟨xs, G, h1, h2, h3, h4, h5⟩ := hL
  obtain ⟨i0, hi, hz0, hz1, hz2⟩ := info_parts Try.infoEffect
  refine step_append hgd s x 68 hop 0 52 i0 _ 6 96 Try.underlying68 hi hz0 hz1 hz2 rfl (by decide) v its.length xs hs h1 ad 1 c [.string u.1, c0, c1, c2, c3, c4] hx rfl hnews ?_ (by unfold maxLen; omega) hlen (Nat.zero_le _) ?_
  · intro y hy
    rcases List.mem_cons.1 hy with rfl | hy
    · rfl
    · exact Own.ones n ho y hy
  · intro v' w' q1 q2 q3
    exact h v' w' (OwnR.push (S := shE n) rfl rfl rfl h1 h2 h3 h4 h5 ho hF hH hFl q1 q2 q3) q2 q3 fun g hg => (q1.lt g hg).2

/-- Are a box of the program's and one of the page's one? -/
noncomputable def alk {n : Nat} (L L' : Int) (l l' : List (Tm n)) : Int := if L = L' ∧ one l l' = true then 0 else 1

set_option maxRecDepth 100000 in
theorem alike_any {n : Nat} (L L' : Int) (l l' : List (Tm n)) (ia ia' : Option Addr) (ic ic' : Nat) (w : World) (h : TIs w n ia ic l) (h' : TIs w n ia' ic' l') :
    Calls Try.prog 12 #[.agg #[.int .i64 L, .slice ia l.length ic], .agg #[.int .i64 L', .slice ia' l'.length ic']] w fun e w' => e = .returned (.int .i64 (alk L L' l l')) ∧ Below w.heap.size w w' := by
  have C1 : Hid (∀ w', Below w.heap.size w w' → Calls Try.prog 25 #[.slice ia l.length ic, .slice ia' l'.length ic'] w' fun e w'' => e = .returned (.bool (one l l')) ∧ Below w'.heap.size w' w'') := fun w' hb => sameItems_any l l' ia ia' ic ic' w' (h.below hb) (h'.below hb)
  clear h h'
  by_cases hL : L = L'
  · subst hL
    have E : Hid (alk L L l l' = if one l l' = true then 0 else 1) := by show _ = _; unfold alk; simp
    generalize one l l' = o5 at *
    go_enter Try.func12, Try.ntmps12
    go_wp2_with fail
    refine (C1.out _ (below_two _ _ _)).mono ?_
    rintro e w1 ⟨rfl, hb1⟩
    cases o5
    · go_wp2_with fail
      go_ret
      exact ⟨by rw [E.out]; rfl, nxt (below_two _ _ _) hb1⟩
    · go_wp2_with fail
      go_ret
      exact ⟨by rw [E.out]; rfl, nxt (below_two _ _ _) hb1⟩
  · have hd : (L == L') = false := by simpa using hL
    have hd2 : (L != L') = true := by simpa using hL
    have E : Hid (alk L L' l l' = 1) := by show _ = _; unfold alk; rw [if_neg (fun h => hL h.1)]
    clear hL
    go_enter Try.func12, Try.ntmps12
    go_wp2_with fail
    go_ret
    exact ⟨by rw [E.out]; rfl, below_two _ _ _⟩
end Go.Proofs.Ytclmlifhhfkagaa
