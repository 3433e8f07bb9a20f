/-
  The page's set: a path of no step, and of one.
-/
import Derived.Test.YtkjiiggboblioaaVaRPutA
namespace Go.Proofs.Ytkjiiggboblioaa
open Go.ChangeShapes Go.WideShapes Go.ChangeAt Go.RowKit
open Fl

/-- What set answers. -/
def SetPost {N : Nat} (w : World) (F Fx : Nat → Prop) (r : Int × V N) (e : Ending) (w' : World) : Prop :=
  ∃ y, e = .returned (.tuple #[y, .int .i64 r.1]) ∧ Kept F w w' ∧ (r.1 = 0 → ∃ F', Own w' N y r.2 F' ∧ ∀ b, F' b → (F b ∨ Fx b ∨ w.heap.size ≤ b) ∧ b < w'.heap.size) ∧ (r.1 ≠ 0 → y = mk 0 0 ⟨#[]⟩ none 0 0 none 0 0)

theorem SetPost.shape {N : Nat} {w w' : World} {F Fx : Nat → Prop} {r : Int × V N} {e : Ending} (h : SetPost w F Fx r e w') : ∃ k b t ka kl kc ia il ic, e = .returned (.tuple #[mk k b t ka kl kc ia il ic, .int .i64 r.1]) ∧ Kept F w w' ∧ (r.1 = 0 → ∃ F', Own w' N (mk k b t ka kl kc ia il ic) r.2 F' ∧ ∀ b, F' b → (F b ∨ Fx b ∨ w.heap.size ≤ b) ∧ b < w'.heap.size) ∧ (r.1 ≠ 0 → mk k b t ka kl kc ia il ic = mk 0 0 ⟨#[]⟩ none 0 0 none 0 0) := by
  obtain ⟨y, h1, h2, h3, h4⟩ := h
  by_cases h0 : r.1 = 0
  · obtain ⟨F', ho, hF'⟩ := h3 h0
    obtain ⟨k, b, t, ka, kl, kc, ia, il, ic, rfl⟩ := Lay.shape N (Own.lay N ho)
    exact ⟨k, b, t, ka, kl, kc, ia, il, ic, h1, h2, fun _ => ⟨F', ho, hF'⟩, fun h => absurd h0 h⟩
  · have := h4 h0
    subst this
    exact ⟨0, 0, ⟨#[]⟩, none, 0, 0, none, 0, 0, h1, h2, fun h => absurd h h0, fun _ => rfl⟩

/-- The answer stored in the result's box, which is new. -/
theorem set_done {N : Nat} {w W : World} {F Fx : Nat → Prop} {r : Int × V N} {k b : Int} {t : ByteArray} {ka : Option Addr} {kl kc : Nat} {ia : Option Addr} {il ic : Nat} {g : Nat} (hg : w.heap.size ≤ g) (hk : Kept F w W)
    (h3 : r.1 = 0 → ∃ F', Own W N (mk k b t ka kl kc ia il ic) r.2 F' ∧ ∀ b, F' b → (F b ∨ Fx b ∨ w.heap.size ≤ b) ∧ b < W.heap.size ∧ b ≠ g) (h4 : r.1 ≠ 0 → mk k b t ka kl kc ia il ic = mk 0 0 ⟨#[]⟩ none 0 0 none 0 0) :
    SetPost w F Fx r (.returned (.tuple #[mk k b t ka kl kc ia il ic, .int .i64 r.1])) (put5 W g 0 (.int .i64 k) (.int .u64 b) (.string t) (.slice ka kl kc) (.slice ia il ic)) := by
  refine ⟨_, rfl, ((((hk.fresh _ hg).fresh _ hg).fresh _ hg).fresh _ hg).fresh _ hg, fun h0 => ?_, h4⟩
  obtain ⟨F', ho, hF'⟩ := h3 h0
  exact ⟨F', Own.same _ ho fun b hb => put5_other _ _ _ _ _ _ _ _ b (hF' b hb).2.2, fun b hb => ⟨(hF' b hb).1, by rw [put5_size]; exact (hF' b hb).2.1⟩⟩

set_option maxRecDepth 100000 in
set_option maxHeartbeats 3200000 in
theorem rset_nil {n : Nat} (v x : V n) (xv yv : Value) (F Fx : Nat → Prop) (pa : Option Addr) (pc : Nat) (w : World) (ho : Own w n xv v F) (hx : Own w n yv x Fx) (hFx : ∀ b, Fx b → b < w.heap.size) :
    Calls Try.prog 20 #[xv, .slice pa 0 pc, yv] w (SetPost w F Fx ((0, x) : Int × V n)) := by
  obtain ⟨k, b, t, ka, kl, kc, ia, il, ic, rfl⟩ := Lay.shape n (Own.lay n ho)
  obtain ⟨k5, b5, t5, ka5, kl5, kc5, ia5, il5, ic5, rfl⟩ := Lay.shape n (Own.lay n hx)
  have HX : Hid (Own w n (mk k5 b5 t5 ka5 kl5 kc5 ia5 il5 ic5) x Fx ∧ ∀ b, Fx b → b < w.heap.size) := ⟨hx, hFx⟩
  clear ho hx hFx
  go_enter Try.func20, Try.ntmps20
  go_upto_region 1 with fail
  obtain ⟨hb0, hst, hb, hsz⟩ := three_new w (.cells #[.int .i64 k, .int .u64 b, .string t, .slice ka kl kc, .slice ia il ic] 26) (.cells #[.int .i64 k5, .int .u64 b5, .string t5, .slice ka5 kl5 kc5, .slice ia5 il5 ic5] 26) (.cells #[.int .i64 0, .int .u64 0, .string ⟨#[]⟩, .slice none 0 0, .slice none 0 0] 26) (Below.refl _ _)
  generalize ((w.alloc (.cells #[.int .i64 k, .int .u64 b, .string t, .slice ka kl kc, .slice ia il ic] 26)).alloc (.cells #[.int .i64 k5, .int .u64 b5, .string t5, .slice ka5 kl5 kc5, .slice ia5 il5 ic5] 26)).alloc (.cells #[.int .i64 0, .int .u64 0, .string ⟨#[]⟩, .slice none 0 0, .slice none 0 0] 26) = W at *
  have HB : Hid (Below w.heap.size w W) := hb
  obtain ⟨x0, x1, x2, x3, x4, -⟩ := box_cells hst.1
  obtain ⟨u0, u1, u2, u3, u4, v0, v1, v2, v3, v4⟩ := box_cells hst.2
  clear hb hst hb0
  go_wp2_with fail
  refine bodyPost_ret (v := .tuple #[mk k5 b5 t5 ka5 kl5 kc5 ia5 il5 ic5, .int .i64 0]) (by simp [results, Try.results20, go_sem, u0, u1, u2, u3, u4]) rfl ?_
  refine set_done (r := ((0, x) : Int × V n)) (by omega) (Kept.of_below HB.out) (fun _ => ⟨Fx, HX.out.1.same n fun b hb => HB.out.block b (HX.out.2 b hb), fun b hb => ⟨Or.inr (Or.inl hb), ?_, ?_⟩⟩) (fun h => absurd rfl h)
  · have := HX.out.2 b hb; omega
  · have := HX.out.2 b hb; omega

set_option maxRecDepth 100000 in
set_option maxHeartbeats 6400000 in
theorem rset_one {n : Nat} (k b : Int) (t : ByteArray) (ks : List ByteArray) (its : List (V n)) (s : St) (x : V n) (xv yv : Value) (F Fx : Nat → Prop) (pa : Option Addr) (pc : Nat) (w0 w : World) (hw : Below w0.heap.size w0 w) (hm : mayB k b t ks its.length = true) (ho : Own w (n + 1) xv (k, b, t, ks, its) F) (hx : Own w n yv x Fx) (hF : ∀ b, F b → w0.heap.size ≤ b ∧ b < w.heap.size) (hFx : ∀ b, Fx b → b < w.heap.size ∧ ¬ F b)
    (hp : LayP w0 pa [s]) :
    Calls Try.prog 20 #[xv, .slice pa 1 pc, yv] w (SetPost (N := n + 1) w F Fx (setV x [s] ((k, b, t, ks, its) : V (n + 1)))) := by
  obtain ⟨gp, op, rfl, p0, p1, p2, hz, hsx⟩ := hp 0 s rfl
  simp only [Nat.zero_mul, Nat.add_zero] at p0 p1 p2
  have hgp := lt_of_cell p0
  simp only at hgp
  have CP : Hid (∀ W, Below w.heap.size w W → Calls Try.prog 30 #[xv, .agg #[.bool s.1, .string s.2.1, .int .i64 s.2.2], yv] W (SetPost (N := n + 1) W F Fx (setV x [s] ((k, b, t, ks, its) : V (n + 1))))) := fun W hb =>
    rput_any k b t ks its s x xv yv F Fx W hm (ho.same _ fun b hb' => hb.block b (hF b hb').2) (hx.same n fun b hb' => hb.block b (hFx b hb').1) (fun b hb' => Nat.lt_of_lt_of_le (hF b hb').2 hb.size) (fun b hb' => ⟨Nat.lt_of_lt_of_le (hFx b hb').1 hb.size, (hFx b hb').2⟩) hsx hz
  generalize setV x [s] ((k, b, t, ks, its) : V (n + 1)) = R at *
  obtain ⟨ka, kc, ia, ic, H, rfl, -⟩ := Own.split ho
  obtain ⟨k5, b5, t5, ka5, kl5, kc5, ia5, il5, ic5, rfl⟩ := Lay.shape n (Own.lay n hx)
  obtain ⟨q, key, ix⟩ := s
  simp only at p0 p1 p2
  have HIN : Hid ((∀ b, F b → w0.heap.size ≤ b ∧ b < w.heap.size) ∧ ∀ b, Fx b → b < w.heap.size) := ⟨hF, fun b hb => (hFx b hb).1⟩
  have HPC : Hid (w0.cell? ⟨gp, op, none⟩ = some (.bool q) ∧ w0.cell? ⟨gp, op + 1, none⟩ = some (.string key) ∧ w0.cell? ⟨gp, op + 2, none⟩ = some (.int .i64 ix) ∧ gp < w0.heap.size ∧ Below w0.heap.size w0 w) := ⟨p0, p1, p2, hgp, hw⟩
  clear ho hx hF hFx hm hp p0 p1 p2 hz hsx hgp hw
  go_enter Try.func20, Try.ntmps20
  go_upto_region 1 with fail
  obtain ⟨hb0, hst, hb, hsz⟩ := three_new w (.cells #[.int .i64 k, .int .u64 b, .string t, .slice ka ks.length kc, .slice ia its.length ic] 26) (.cells #[.int .i64 k5, .int .u64 b5, .string t5, .slice ka5 kl5 kc5, .slice ia5 il5 ic5] 26) (.cells #[.int .i64 0, .int .u64 0, .string ⟨#[]⟩, .slice none 0 0, .slice none 0 0] 26) (Below.refl _ _)
  generalize ((w.alloc (.cells #[.int .i64 k, .int .u64 b, .string t, .slice ka ks.length kc, .slice ia its.length ic] 26)).alloc (.cells #[.int .i64 k5, .int .u64 b5, .string t5, .slice ka5 kl5 kc5, .slice ia5 il5 ic5] 26)).alloc (.cells #[.int .i64 0, .int .u64 0, .string ⟨#[]⟩, .slice none 0 0, .slice none 0 0] 26) = W at *
  have HB : Hid (Below w.heap.size w W ∧ w.heap.size + 3 ≤ W.heap.size) := ⟨hb, hsz⟩
  have HBX : Hid (W.heap[w.heap.size]? = some _ ∧ Stay w W _ _) := ⟨hb0, hst⟩
  have HRB : Hid (∀ W', Kept F W W' → W'.heap[w.heap.size + 1 + 1]? = some (.cells #[.int .i64 0, .int .u64 0, .string ⟨#[]⟩, .slice none 0 0, .slice none 0 0] 26 (0, 0))) := fun W' hk => (hk.block _ (by have := HB.out.2; omega) (fun e => by have := (HIN.out.1 _ e).2; omega)).trans HBX.out.2.2
  have HSP : Hid (∀ W' : World, (∀ j, j < W.heap.size → ¬ F j → j ≠ w.heap.size + 1 + 1 → W'.heap[j]? = W.heap[j]?) → (W'.cell? ⟨w.heap.size, 0, none⟩ = some (.int .i64 k) ∧ W'.cell? ⟨w.heap.size, 1, none⟩ = some (.int .u64 b) ∧ W'.cell? ⟨w.heap.size, 2, none⟩ = some (.string t) ∧ W'.cell? ⟨w.heap.size, 3, none⟩ = some (.slice ka ks.length kc) ∧ W'.cell? ⟨w.heap.size, 4, none⟩ = some (.slice ia its.length ic) ∧
      W'.cell? ⟨w.heap.size + 1, 0, none⟩ = some (.int .i64 k5) ∧ W'.cell? ⟨w.heap.size + 1, 1, none⟩ = some (.int .u64 b5) ∧ W'.cell? ⟨w.heap.size + 1, 2, none⟩ = some (.string t5) ∧ W'.cell? ⟨w.heap.size + 1, 3, none⟩ = some (.slice ka5 kl5 kc5) ∧ W'.cell? ⟨w.heap.size + 1, 4, none⟩ = some (.slice ia5 il5 ic5) ∧
      W'.cell? ⟨gp, op, none⟩ = some (.bool q) ∧ W'.cell? ⟨gp, op + 1, none⟩ = some (.string key) ∧ W'.cell? ⟨gp, op + 2, none⟩ = some (.int .i64 ix))) := fun W' hk => by
    have nf : ∀ j, w.heap.size ≤ j → ¬ F j := fun j hj e => by have := (HIN.out.1 j e).2; omega
    have e0 := (hk _ (by have := HB.out.2; omega) (nf _ (Nat.le_refl _)) (by omega)).trans HBX.out.1
    have e1 := (hk _ (by have := HB.out.2; omega) (nf _ (by omega)) (by omega)).trans HBX.out.2.1
    obtain ⟨x0, x1, x2, x3, x4, -⟩ := box_cells e0
    obtain ⟨y0, y1, y2, y3, y4, -⟩ := box_cells e1
    have hbw : Below w0.heap.size w0 W := HPC.out.2.2.2.2.trans (HB.out.1.mono HPC.out.2.2.2.2.size)
    have ep : ∀ o v, w0.cell? ⟨gp, o, none⟩ = some v → W'.cell? ⟨gp, o, none⟩ = some v := fun o v h => by
      have h1 := keepc hbw _ _ h
      have h2 := hk gp (Nat.lt_of_lt_of_le HPC.out.2.2.2.1 hbw.size) (fun e => by have := (HIN.out.1 gp e).1; have := HPC.out.2.2.2.1; omega) (by have h3 := HPC.out.2.2.2.1; have h4 := HPC.out.2.2.2.2.size; omega)
      simp only [World.cell?, h2]
      simpa only [World.cell?] using h1
    exact ⟨x0, x1, x2, x3, x4, y0, y1, y2, y3, y4, ep _ _ HPC.out.1, ep _ _ HPC.out.2.1, ep _ _ HPC.out.2.2.1⟩
  have HNG : Hid (gp ≠ w.heap.size + 1 + 1) := by show _ ≠ _; have h1 := HPC.out.2.2.2.1; have h2 := HPC.out.2.2.2.2.size; omega
  clear hb hst hb0 hsz HBX HPC
  have hcur : Kept F W W := Kept.refl _ _
  go_wp2_with fail
  have NG : gp ≠ w.heap.size + 1 + 1 := HNG.out
  go_region_held3 (fun w' => (w'.cell? ⟨w.heap.size, 0, none⟩ = some (.int .i64 k) ∧ w'.cell? ⟨w.heap.size, 1, none⟩ = some (.int .u64 b) ∧ w'.cell? ⟨w.heap.size, 2, none⟩ = some (.string t) ∧ w'.cell? ⟨w.heap.size, 3, none⟩ = some (.slice ka ks.length kc) ∧ w'.cell? ⟨w.heap.size, 4, none⟩ = some (.slice ia its.length ic) ∧ w'.cell? ⟨w.heap.size + 1, 0, none⟩ = some (.int .i64 k5) ∧ w'.cell? ⟨w.heap.size + 1, 1, none⟩ = some (.int .u64 b5) ∧ w'.cell? ⟨w.heap.size + 1, 2, none⟩ = some (.string t5) ∧ w'.cell? ⟨w.heap.size + 1, 3, none⟩ = some (.slice ka5 kl5 kc5) ∧ w'.cell? ⟨w.heap.size + 1, 4, none⟩ = some (.slice ia5 il5 ic5) ∧ w'.cell? ⟨gp, op, none⟩ = some (.bool q) ∧ w'.cell? ⟨gp, op + 1, none⟩ = some (.string key) ∧ w'.cell? ⟨gp, op + 2, none⟩ = some (.int .i64 ix))) ((first | with_reducible exact HSP.out _ (fun j h1 h2 _ => hcur.block j h1 h2) | with_reducible exact HSP.out _ (fun j h1 h2 _ => (hcur.trans (Kept.of_below ((Below.refl _ _).drew))).block j h1 h2) | exact HSP.out _ (fun j h1 h2 h3 => (put5_other w5 _ 0 _ _ _ _ _ j h3).trans (hcur.block j h1 h2)))) ((go_at_call 30; refine (CP.out _ (HB.out.1.drew)).mono ?_; intro e w5 hR; obtain ⟨k6, b6, t6, ka6, kl6, kc6, ia6, il6, ic6, rfl, hk6, h3, h4⟩ := hR.shape; have hcur : Kept F W w5 := (Kept.of_below ((Below.refl _ _).drew)).trans hk6; have H34 : Hid (_ ∧ _) := ⟨h3, h4⟩; obtain ⟨u0, u1, u2, u3, u4, v0, v1, v2, v3, v4⟩ := box_cells (HRB.out _ hcur); clear h3 h4 hR))
  all_goals
    go_wp2_with fail
    refine bodyPost_ret (v := .tuple #[mk k6 b6 t6 ka6 kl6 kc6 ia6 il6 ic6, .int .i64 R.1]) (by simp [results, Try.results20, go_sem, u0, u1, u2, u3, u4]) rfl ?_
    refine set_done (by omega) ((Kept.of_below HB.out.1).trans hcur) (fun h0 => ?_) H34.out.2
    obtain ⟨F', ho, hF'⟩ := H34.out.1 h0
    refine ⟨F', ho, fun b hb => ?_⟩
    have h2 := HB.out.2
    have hlt := (hF' b hb).2
    rcases (hF' b hb).1 with q | q | q
    · have := (HIN.out.1 b q).2
      exact ⟨Or.inl q, hlt, by omega⟩
    · have := HIN.out.2 b q
      exact ⟨Or.inr (Or.inl q), hlt, by omega⟩
    · have q' : W.heap.size ≤ b := q
      exact ⟨Or.inr (Or.inr (by omega)), hlt, by omega⟩
end Go.Proofs.Ytkjiiggboblioaa
