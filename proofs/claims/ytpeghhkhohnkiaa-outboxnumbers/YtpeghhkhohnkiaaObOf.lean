/-
  Of, CopyEffects, Alike.
-/
import Derived.Test.YtpeghhkhohnkiaaObPgB
namespace Go.Proofs.Ytpeghhkhohnkiaa
open Go.ChangeShapes Go.WideShapes Go.ChangeAt Go.RowKit

set_option maxRecDepth 100000 in
set_option maxHeartbeats 3200000 in
theorem of_any {n : Nat} (L : Int) (its : List (Tm n)) (ia : Option Addr) (ic : Nat) (w : World) (hT : TIs w n ia ic its) : Calls Try.prog 9 #[.agg #[.int .i64 L, .slice ia its.length ic]] w (ROwnPost w L its) := by
  have HT : Hid (TIs w n ia ic its) := hT
  clear hT
  have T0 : Hid (Two w _ _ _) := Two.new w (.cells #[.int .i64 L, .slice ia its.length ic] 24) (.cells #[.int .i64 0, .slice none 0 0] 26) (Below.refl _ _)
  have B0 : Hid _ := below_two w (.cells #[.int .i64 L, .slice ia its.length ic] 24) (.cells #[.int .i64 0, .slice none 0 0] 26)
  go_enter Try.func9, Try.ntmps9
  go_wp2_with fail
  generalize (w.alloc (.cells #[.int .i64 L, .slice ia its.length ic] 24)).alloc (.cells #[.int .i64 0, .slice none 0 0] 26) = W at *
  obtain ⟨x0, x1, y0, y1, z0, z1⟩ := two_cells2 T0.out
  have x0d : W.drew.cell? ⟨w.heap.size, 0, none⟩ = some (.int .i64 L) := x0
  have x1d : W.drew.cell? ⟨w.heap.size, 1, none⟩ = some (.slice ia its.length ic) := x1
  have BD : Hid (Below w.heap.size w W.drew) := B0.out.drew
  have C1 : Hid (Calls Try.prog 33 #[.slice ia its.length ic] W.drew _) := copyItems_any its ia ic W.drew (HT.out.below BD.out)
  go_region_law (first
    | (refine step_call1 rfl 33 (by intros; go_simp) _ _ rfl (.slice ia its.length ic) (by first | (simp [Act.eval]; done) | simp [Act.eval, Act.put]) (fun y w' => ∃ H, CopyInv (shT n) W.drew w' y its H) (C1.out.mono fun e w' ⟨v, H, q1, q2⟩ => ⟨v, q1, H, q2⟩) ?_; intro y w4 hR; obtain ⟨H4, h4⟩ := hR; have T4 := T0.out.below (nxt (Below.refl _ W).drew h4.2.2); obtain ⟨r0, r1, r2, r3, r4, r5⟩ := two_cells2 T4; obtain ⟨a4, c4, rfl⟩ := h4.1.shape))
  all_goals
    have H4' : Hid (CopyInv (shT n) W.drew w4 (.slice a4 its.length c4) its H4) := h4
    have hlt : Hid (w.heap.size + 1 < W.heap.size) := lt_of_block T0.out.2
    clear h4 T4
    go_wp2_with fail
    refine bodyPost_ret (v := .agg #[.int .i64 L, .slice a4 its.length c4]) (by simp [results, Try.results9, go_sem, r2, r3]) rfl ?_
    exact ⟨_, H4, rfl, CopyInv.set2 H4'.out BD.out (by omega) hlt.out _ _⟩

/-- append of one effect, its value in memory of its own, as one step. -/
theorem step_pushE {ops : Array Oper} {o : Oper} {a : Act} {w : World} {K : Act → World → Prop} {Q : Exit → Act → World → Prop} {E : Prop} (hgd : o.guard = none) (s x : Operand)
    (hop : o.op = .call { callee := .builtin .append, args := #[s, x], argTypes := #[25, 25] })
    {n : Nat} (v : Value) (its : List (Ef n)) (H : Nat → Prop) (hs : a.eval s = v) (hL : OwnR (shE n) w v its H) (u : Ef n) (F : Nat → Prop) (c0 c1 c2 c3 c4 : Value) (ho : Own w n (.agg #[c0, c1, c2, c3, c4]) u.2 F) (hF : ∀ b, F b → ¬ H b) (hH : ∀ b, H b → b < w.heap.size) (hFl : ∀ b, F b → b < w.heap.size)
    (ad : Addr) (c : Nat) (hx : a.eval x = .slice (some ad) 1 c) (hnews : ∀ j y, ([.string u.1, c0, c1, c2, c3, c4] : List Value)[j]? = some y → w.cell? (ad.add j) = some y) (hlen : (its.length + 1) * 96 ≤ 140737488355328)
    (h : ∀ v' w', OwnR (shE n) w' v' (its ++ [u]) (fun b => H b ∨ F b ∨ v'.ownBlock = some b) → w.grownBy w' v.ownBlock → (v'.ownBlock = v.ownBlock ∨ ∀ g, v'.ownBlock = some g → w.heap.size ≤ g) → (∀ g, v'.ownBlock = some g → g < w'.heap.size) → K (a.put o.dst v') w') :
    if Region.wanted o (yielded ops a.tmps) = true then Oper.wp Try.prog o a w K Q else E := by
  obtain ⟨xs, G, h1, h2, h3, h4, h5⟩ := hL
  obtain ⟨i0, hi, hz0, hz1, hz2⟩ := info_parts Try.infoEffect
  refine step_append hgd s x 25 hop 0 68 i0 _ 6 96 Try.underlying25 hi hz0 hz1 hz2 rfl (by decide) v its.length xs hs h1 ad 1 c [.string u.1, c0, c1, c2, c3, c4] hx rfl hnews ?_ (by unfold maxLen; omega) hlen (Nat.zero_le _) ?_
  · intro y hy
    rcases List.mem_cons.1 hy with rfl | hy
    · rfl
    · exact Own.ones n ho y hy
  · intro v' w' q1 q2 q3
    exact h v' w' (OwnR.push (S := shE n) rfl rfl rfl h1 h2 h3 h4 h5 ho hF hH hFl q1 q2 q3) q2 q3 fun g hg => (q1.lt g hg).2

set_option maxRecDepth 100000 in
set_option maxHeartbeats 3200000 in
theorem copyEffects_any {n : Nat} (l : List (Ef n)) (ea : Option Addr) (ec : Nat) (w : World) (hE : EIs w n ea ec l) : Calls Try.prog 10 #[.slice ea l.length ec] w (RowPost (shE n) w l) := by
  have HE : Hid (EIs w n ea ec l) := hE
  have hlen := hE.2.2.1
  clear hE
  go_enter Try.func10, Try.ntmps10
  go_wp2_with fail
  go_loopw [3, 4] (fun v i wr => ∃ (m : Nat) (H : Nat → Prop), m ≤ l.length ∧ i = .int .i64 m ∧ Hid (CopyInv (shE n) w wr v (l.take m) H)) (fun _ i _ => l.length - (intOf i).toNat)
  case atStart => exact ⟨0, fun _ => False, Nat.zero_le _, rfl, CopyInv.start _ _⟩
  case round =>
    obtain ⟨m, H, hm, rfl, HI⟩ := hrel
    obtain ⟨acc, hacc⟩ : ∃ acc, l.take m = acc := ⟨_, rfl⟩
    rw [hacc] at HI
    have HACC : Hid (l.take m = acc) := hacc
    clear hacc
    obtain ⟨va, vc, rfl⟩ := HI.out.1.shape
    by_cases hlt : m < l.length
    · obtain ⟨b, o, k, bb, t, ka, kl, kc, ja, jl, jc, rfl, q0, q1, q2, q3, q4, q5, hl, -⟩ := (HE.out.below HI.out.2.2).at m hlt
      have hm1 : (m : Int) < (l.length : Int) := by omega
      have HL : Hid (Lay wr n (mk k bb t ka kl kc ja jl jc) l[m].2) := hl
      have HTK : Hid (l.take (m + 1) = acc ++ [l[m]]) := by show _ = _; rw [List.take_succ_eq_append_getElem hlt, HACC.out]
      have HLEN : Hid ((acc.length + 1) * 96 ≤ 140737488355328) := by show _ ≤ _; rw [← HACC.out, List.length_take]; omega
      clear hl
      obtain ⟨⟨nm, u⟩, hu⟩ : ∃ u : Ef n, l[m] = u := ⟨_, rfl⟩
      rw [hu] at q0 HL HTK
      simp only at q0 HL
      clear hu
      have q0d : wr.drew.cell? ⟨b, o + m * 6, none⟩ = some (.string nm) := q0
      have q1d : wr.drew.cell? ⟨b, o + m * 6 + 1, none⟩ = some (.int .i64 k) := q1
      have q2d : wr.drew.cell? ⟨b, o + m * 6 + 2, none⟩ = some (.int .u64 bb) := q2
      have q3d : wr.drew.cell? ⟨b, o + m * 6 + 3, none⟩ = some (.string t) := q3
      have q4d : wr.drew.cell? ⟨b, o + m * 6 + 4, none⟩ = some (.slice ka kl kc) := q4
      have q5d : wr.drew.cell? ⟨b, o + m * 6 + 5, none⟩ = some (.slice ja jl jc) := q5
      go_wp2_with fail
      go_region_law (first
        | (refine step_call1 rfl 34 (by intros; go_simp) _ _ rfl (mk k bb t ka kl kc ja jl jc) (by first | (simp [Act.eval]; done) | simp [Act.eval, Act.put]) (fun y w' => ∃ F, Own w' n y u F ∧ (∀ b, F b → wr.heap.size ≤ b ∧ b < w'.heap.size) ∧ Below wr.drew.heap.size wr.drew w') ((copy_any n u _ _ (Lay.below n HL.out (Below.refl _ wr).drew)).mono fun e w' ⟨y, F, r1, r2, r3, r4⟩ => ⟨y, r1, F, r2, r3, r4⟩) ?_; intro y w1 hR; obtain ⟨F, ho, hF, hbel0⟩ := hR
           have hbel : Below wr.heap.size wr w1 := nxt (Below.refl _ wr).drew hbel0
           have n0w := keepc hbel _ _ q0
           obtain ⟨k', b', t', ka', kl', kc', ja', jl', jc', rfl⟩ := Lay.shape n (Own.lay n ho)
           have SD := CopyInv.side HI.out hbel ho hF (W6 := w1.alloc (.cells #[.string nm, .int .i64 k', .int .u64 b', .string t', .slice ka' kl' kc', .slice ja' jl' jc'] 68)) (fun b hb => Below.heap_alloc _ _ _ (by have := hbel.size; rcases hb with h | h <;> first | omega | exact (hF b h).2)) (by simp) (nxt hbel (below_one _ _)))
        | (refine step_pushE rfl _ _ rfl (.slice va acc.length vc) acc H (by first | (simp [Act.eval]; done) | simp [Act.eval, Act.put]) SD.1 (nm, u) F (.int .i64 k') (.int .u64 b') (.string t') (.slice ka' kl' kc') (.slice ja' jl' jc') SD.2.1 SD.2.2.1 SD.2.2.2.1 SD.2.2.2.2.1 ⟨w1.heap.size, 0, none⟩ 1 (by first | (simp [Act.eval]; done) | simp [Act.eval, Act.put]) (fun j y hj => newCells w1 _ _ j y (by simpa using hj)) HLEN.out ?_; intro v' w5 g1 g2 g3 g4
           have NX := CopyInv.next HI.out SD.2.2.2.2.2.1 SD.2.2.2.2.2.2.1 SD.2.2.2.2.2.2.2 g1 g2 g3 g4))
      all_goals
        have NX' : Hid _ := NX
        clear NX g1 g2 g3 g4
        go_wp2_with fail
        exact ⟨⟨m + 1, _, by omega, by go_num, by rw [HTK.out]; exact NX'.out⟩, by simp [intOf]; omega⟩
    · have hme : m = l.length := by omega
      subst hme
      have hacc := HACC.out
      rw [List.take_length] at hacc
      subst hacc
      clear HACC
      go_wp2_with fail
      go_ret
      exact ⟨_, H, rfl, HI.out⟩

/-- Are a box of the program's and one of the page's one? -/
noncomputable def alk {n : Nat} (L L' : Int) (l l' : List (Tm n)) : Int := if L = L' ∧ one l l' = true then 0 else 1

set_option maxRecDepth 100000 in
theorem alike_any {n : Nat} (L L' : Int) (l l' : List (Tm n)) (ia ia' : Option Addr) (ic ic' : Nat) (w : World) (h : TIs w n ia ic l) (h' : TIs w n ia' ic' l') :
    Calls Try.prog 17 #[.agg #[.int .i64 L, .slice ia l.length ic], .agg #[.int .i64 L', .slice ia' l'.length ic']] w fun e w' => e = .returned (.int .i64 (alk L L' l l')) ∧ Below w.heap.size w w' := by
  have C1 : Hid (∀ w', Below w.heap.size w w' → Calls Try.prog 19 #[.slice ia l.length ic, .slice ia' l'.length ic'] w' fun e w'' => e = .returned (.bool (one l l')) ∧ Below w'.heap.size w' w'') := fun w' hb => sameItems_any l l' ia ia' ic ic' w' (h.below hb) (h'.below hb)
  clear h h'
  by_cases hL : L = L'
  · subst hL
    have E : Hid (alk L L l l' = if one l l' = true then 0 else 1) := by show _ = _; unfold alk; simp
    generalize one l l' = o5 at *
    go_enter Try.func17, Try.ntmps17
    go_wp2_with fail
    refine (C1.out _ (below_two _ _ _)).mono ?_
    rintro e w1 ⟨rfl, hb1⟩
    cases o5
    · go_wp2_with fail
      go_ret
      exact ⟨by rw [E.out]; rfl, nxt (below_two _ _ _) hb1⟩
    · go_wp2_with fail
      go_ret
      exact ⟨by rw [E.out]; rfl, nxt (below_two _ _ _) hb1⟩
  · have hd : (L == L') = false := by simpa using hL
    have hd2 : (L != L') = true := by simpa using hL
    have E : Hid (alk L L' l l' = 1) := by show _ = _; unfold alk; rw [if_neg (fun h => hL h.1)]
    clear hL
    go_enter Try.func17, Try.ntmps17
    go_wp2_with fail
    go_ret
    exact ⟨by rw [E.out]; rfl, below_two _ _ _⟩
end Go.Proofs.Ytpeghhkhohnkiaa
