/-
  The page's set: a path of two steps or more whose first leads somewhere.
-/
import Derived.Test.YtkjiiggboblioaaVaRSetE
namespace Go.Proofs.Ytkjiiggboblioaa
open Go.ChangeShapes Go.WideShapes Go.ChangeAt Go.RowKit
open Fl

theorem new_box (w : World) (cs : Array Value) (t : TypeId) : (w.alloc (.cells cs t)).heap[w.heap.size]? = some (.cells cs t (0, 0)) := heap_alloc_new _ _

theorem boxed5 {w : World} {g : Nat} {a0 a1 a2 a3 a4 : Value} (h : w.heap[g]? = some (.cells #[a0, a1, a2, a3, a4] 26 (0, 0))) (c0 c1 c2 c3 c4 : Value) : (put5 w g 0 c0 c1 c2 c3 c4).heap[g]? = some (.cells #[c0, c1, c2, c3, c4] 26 (0, 0)) := by
  have := set_one_cell (set_one_cell (set_one_cell (set_one_cell (set_one_cell (o := 0) h c0) (o := 0 + 1) c1) (o := 0 + 2) c2) (o := 0 + 3) c3) (o := 0 + 4) c4
  simpa [put5] using this

/-- Behind the call of set on one item: its answer lies in a box of its own. -/
structure MoreP {N : Nat} (W : World) (G Fx : Nat → Prop) (r : Int × V N) (g : Nat) (wc : World) (y : Value) : Prop where
  kept : Kept G W wc
  new : W.heap.size ≤ g
  lt : g < wc.heap.size
  own : r.1 = 0 → ∃ E, Own wc N y r.2 E ∧ ∀ b, E b → (G b ∨ Fx b ∨ W.heap.size ≤ b) ∧ b < wc.heap.size ∧ b ≠ g

theorem MoreP.fresh {N : Nat} {W V0 w6 : World} {G Fx : Nat → Prop} {r : Int × V N} {y : Value} (hk : Kept G W V0) (h6 : Kept G V0 w6) (h3 : r.1 = 0 → ∃ E, Own w6 N y r.2 E ∧ ∀ b, E b → (G b ∨ Fx b ∨ V0.heap.size ≤ b) ∧ b < w6.heap.size) (o : Obj) : MoreP W G Fx r w6.heap.size (w6.alloc o) y := by
  have hb : Below w6.heap.size w6 (w6.alloc o) := (Below.refl _ _).alloc (Nat.le_refl _) _
  refine ⟨(hk.trans h6).grown hb, (hk.trans h6).size, by simp, fun h0 => ?_⟩
  obtain ⟨E, ho, hE⟩ := h3 h0
  refine ⟨E, Own.same _ ho fun b h => hb.block b (hE b h).2, fun b h => ⟨?_, Nat.lt_of_lt_of_le (hE b h).2 hb.size, Nat.ne_of_lt (hE b h).2⟩⟩
  rcases (hE b h).1 with q | q | q
  · exact Or.inl q
  · exact Or.inr (Or.inl q)
  · exact Or.inr (Or.inr (Nat.le_trans hk.size q))

theorem MoreP.boxed {N : Nat} {W V0 w6 : World} {G Fx : Nat → Prop} {r : Int × V N} {y : Value} {g : Nat} (hk : Kept G W V0) (hg : W.heap.size ≤ g) (hg' : g < V0.heap.size) (hn : ¬ G g ∧ ¬ Fx g) (h6 : Kept G V0 w6) (h3 : r.1 = 0 → ∃ E, Own w6 N y r.2 E ∧ ∀ b, E b → (G b ∨ Fx b ∨ V0.heap.size ≤ b) ∧ b < w6.heap.size) (c0 c1 c2 c3 c4 : Value) : MoreP W G Fx r g (put5 w6 g 0 c0 c1 c2 c3 c4) y := by
  refine ⟨(((((hk.trans h6).fresh _ hg).fresh _ hg).fresh _ hg).fresh _ hg).fresh _ hg, hg, by rw [put5_size]; exact Nat.lt_of_lt_of_le hg' h6.size, fun h0 => ?_⟩
  obtain ⟨E, ho, hE⟩ := h3 h0
  have hne : ∀ b, E b → b ≠ g := fun b h e => by
    subst e
    rcases (hE b h).1 with q | q | q
    · exact hn.1 q
    · exact hn.2 q
    · omega
  refine ⟨E, Own.same _ ho fun b h => put5_other _ _ _ _ _ _ _ _ b (hne b h), fun b h => ⟨?_, by rw [put5_size]; exact (hE b h).2, hne b h⟩⟩
  rcases (hE b h).1 with q | q | q
  · exact Or.inl q
  · exact Or.inr (Or.inl q)
  · exact Or.inr (Or.inr (Nat.le_trans hk.size q))

def MoreQ {N : Nat} (W : World) (G Fx : Nat → Prop) (r : Int × V N) (g : Nat) (w6 : World) (y : Value) : Prop :=
  w6.heap[g]? = some (.cells #[.int .i64 0, .int .u64 0, .string ⟨#[]⟩, .slice none 0 0, .slice none 0 0] 26 (0, 0)) ∧ ∀ c0 c1 c2 c3 c4 : Value, MoreP W G Fx r g (put5 w6 g 0 c0 c1 c2 c3 c4) y

set_option maxRecDepth 100000 in
set_option maxHeartbeats 1600000 in
theorem rset_more {N n : Nat} (k b : Int) (t : ByteArray) (ks : List ByteArray) (its : List (V N)) (s : St) (x : V n) (xv yv : Value) (F Fx : Nat → Prop) (pa : Option Addr) (pl pc : Nat) (w0 w : World) (hw : Below w0.heap.size w0 w) (hm : mayB k b t ks its.length = true)
    (ho : Own w (N + 1) xv (k, b, t, ks, its) F) (hx : Own w n yv x Fx) (hF : ∀ b, F b → w0.heap.size ≤ b ∧ b < w.heap.size) (hFx : ∀ b, Fx b → b < w.heap.size ∧ ¬ F b) (ps : List St) (hp : LayP w0 pa (s :: ps)) (h2 : 2 ≤ pl) (hpc : pl ≤ pc ∧ pc ≤ 9223372036854775807)
    (h0 : (plc k ks its.length s).1 = 0) (i : Nat) (hi : (plc k ks its.length s).2 = i) (u : V N) (hu : its[i]? = some u) (r : Int × V N)
    (IH : ∀ (W : World) (uv : Value) (G : Nat → Prop), Below w0.heap.size w0 W → Own W N uv u G → Own W n yv x Fx → (∀ b, G b → w0.heap.size ≤ b ∧ b < W.heap.size) → (∀ b, Fx b → b < W.heap.size ∧ ¬ G b) → ∀ gp op, pa = some ⟨gp, op, none⟩ →
      Calls Try.prog 20 #[uv, .slice (some ⟨gp, op + 3, none⟩) (pl - 1) (pc - 1), yv] W (SetPost W G Fx r)) :
    Calls Try.prog 20 #[xv, .slice pa pl pc, yv] w (SetPost (N := N + 1) w F Fx ((r.1, (k, b, t, ks, its.set i r.2)) : Int × V (N + 1))) := by
  have hup : k = 5 → Up ks := fun e => by subst e; exact (up_of_may hm).1
  have hil : i < its.length := (List.getElem?_eq_some_iff.1 hu).1
  obtain ⟨gp, op, rfl, p0, p1, p2, hz, hsx⟩ := hp 0 s rfl
  simp only [Nat.zero_mul, Nat.add_zero] at p0 p1 p2
  have hgp := lt_of_cell p0
  simp only at hgp
  obtain ⟨ka, kc, gi, ic, y, G, u', rfl, hu', hat, hown, hGF, hFgi, hGgi, hput⟩ := own_item ho hil
  rw [hu] at hu'
  cases hu'
  obtain ⟨k5, b5, t5, ka5, kl5, kc5, ia5, il5, ic5, rfl⟩ := Lay.shape n (Own.lay n hx)
  obtain ⟨k6, b6, t6, ka6, kl6, kc6, ia6, il6, ic6, rfl⟩ := Lay.shape N (Own.lay N hown)
  have hlay := Own.lay (N + 1) ho
  obtain ⟨ka', kc', ia', ic', hxe, hfit, nk, ni, hS, hI⟩ := hlay
  simp only [mk, Value.agg.injEq, Array.mk.injEq, List.cons.injEq, Value.slice.injEq, and_true, true_and] at hxe
  obtain ⟨⟨rfl, rfl⟩, ⟨rfl, rfl⟩⟩ := hxe
  have HPL : Hid (∀ W, Below w.heap.size w W → Calls Try.prog 16 #[mk k b t ka ks.length kc (some ⟨gi, 0, none⟩) its.length ic, .agg #[.bool s.1, .string s.2.1, .int .i64 s.2.2]] W fun e w' => e = .returned (.tuple #[.int .i64 (rplc (plc k ks its.length s)), .int .i64 (plc k ks its.length s).1]) ∧ Below W.heap.size W w') := fun W hb => place_any k b t ka kc (some ⟨gi, 0, none⟩) its.length ic ks s W hup (LayS.below hS hb) hfit.2.2.2.2.2.1 hsx hfit.2.2.2.2.2.2.2.2
  have hrp : rplc (plc k ks its.length s) = ((plc k ks its.length s).2 : Int) := by unfold rplc; rw [if_pos h0]
  rw [hrp, h0, hi] at HPL
  clear hrp h0 hi hup hsx hz nk ni hS hI
  obtain ⟨q, key, ix⟩ := s
  simp only at p0 p1 p2
  obtain ⟨cur, c0, c1, c2, c3, c4, hc, hy, z0, z1, z2, z3, z4⟩ := hat
  simp only [mk, Value.agg.injEq, Array.mk.injEq, List.cons.injEq, and_true] at hy
  obtain ⟨rfl, rfl, rfl, rfl, rfl⟩ := hy
  have H5 : i * 5 + 4 < cur.size := by
    by_cases h : i * 5 + 4 < cur.size
    · exact h
    · simp [h] at z4
  have hgw : gi < w.heap.size := (hF _ hFgi).2
  have HCU : Hid (w.heap[gi]? = some (.cells cur 26 (0, 0)) ∧ i * 5 + 4 < cur.size) := ⟨hc, H5⟩
  have HCZ : Hid (w.cell? ⟨gi, i * 5, none⟩ = some (.int .i64 k6) ∧ w.cell? ⟨gi, i * 5 + 1, none⟩ = some (.int .u64 b6) ∧ w.cell? ⟨gi, i * 5 + 2, none⟩ = some (.string t6) ∧ w.cell? ⟨gi, i * 5 + 3, none⟩ = some (.slice ka6 kl6 kc6) ∧ w.cell? ⟨gi, i * 5 + 4, none⟩ = some (.slice ia6 il6 ic6)) := ⟨(cell_of hc _).1.trans z0, (cell_of hc _).1.trans z1, (cell_of hc _).1.trans z2, (cell_of hc _).1.trans z3, (cell_of hc _).1.trans z4⟩
  have HPUT : Hid _ := hput
  have HIN : Hid ((∀ b, F b → w0.heap.size ≤ b ∧ b < w.heap.size) ∧ (∀ b, Fx b → b < w.heap.size ∧ ¬ F b) ∧ F gi ∧ (∀ b, G b → F b) ∧ ¬ G gi) := ⟨hF, hFx, hFgi, hGF, hGgi⟩
  have HOW : Hid (Own w N (mk k6 b6 t6 ka6 kl6 kc6 ia6 il6 ic6) u G ∧ Own w n (mk k5 b5 t5 ka5 kl5 kc5 ia5 il5 ic5) x Fx ∧ Below w0.heap.size w0 w) := ⟨hown, hx, hw⟩
  have HPC : Hid (w.cell? ⟨gp, op, none⟩ = some (.bool q) ∧ w.cell? ⟨gp, op + 1, none⟩ = some (.string key) ∧ w.cell? ⟨gp, op + 2, none⟩ = some (.int .i64 ix) ∧ gp < w0.heap.size) := ⟨keepc hw _ _ p0, keepc hw _ _ p1, keepc hw _ _ p2, hgp⟩
  have HIH : Hid (∀ W, Below w.heap.size w W → Calls Try.prog 20 #[mk k6 b6 t6 ka6 kl6 kc6 ia6 il6 ic6, .slice (some ⟨gp, op + 3, none⟩) (pl - 1) (pc - 1), mk k5 b5 t5 ka5 kl5 kc5 ia5 il5 ic5] W (SetPost W G Fx r)) := fun W hb => IH W _ G (HOW.out.2.2.trans (hb.mono HOW.out.2.2.size)) (Own.same N HOW.out.1 fun b hb' => hb.block b (HIN.out.1 b (HIN.out.2.2.2.1 b hb')).2) (Own.same n HOW.out.2.1 fun b hb' => hb.block b (HIN.out.2.1 b hb').1) (fun b h => ⟨(HIN.out.1 b (HIN.out.2.2.2.1 b h)).1, Nat.lt_of_lt_of_le (HIN.out.1 b (HIN.out.2.2.2.1 b h)).2 hb.size⟩) (fun b h => ⟨Nat.lt_of_lt_of_le (HIN.out.2.1 b h).1 hb.size, fun e => (HIN.out.2.1 b h).2 (HIN.out.2.2.2.1 b e)⟩) gp op rfl
  have hl0 : ((pl : Int) == 0) = false := by simp; omega
  have hl1 : ((pl : Int) == 1) = false := by simp; omega
  have hpi : 0 < pl := by omega
  have hpz : ¬ pl = 0 := by omega
  have hpj : (0 : Int) < (pl : Int) := by omega
  have hp1 : (1 : Int) ≤ (pl : Int) := by omega
  have hp2 : 1 ≤ pl := by omega
  have hp3 : ¬ pc = 1 := by omega
  have hp4 : ¬ (1 : Nat) = pc := by omega
  have hii : (i : Int) < (its.length : Int) := by omega
  clear ho hx hm hp p0 p1 p2 hown hput hF hFx hFgi hGF hGgi hw hc z0 z1 z2 z3 z4 H5 hu IH hfit
  go_enter Try.func20, Try.ntmps20
  go_upto_region 1 with fail
  obtain ⟨hb0, hst, hb, hsz⟩ := three_new w (.cells #[.int .i64 k, .int .u64 b, .string t, .slice ka ks.length kc, .slice (some ⟨gi, 0, none⟩) its.length ic] 26) (.cells #[.int .i64 k5, .int .u64 b5, .string t5, .slice ka5 kl5 kc5, .slice ia5 il5 ic5] 26) (.cells #[.int .i64 0, .int .u64 0, .string ⟨#[]⟩, .slice none 0 0, .slice none 0 0] 26) (Below.refl _ _)
  generalize ((w.alloc (.cells #[.int .i64 k, .int .u64 b, .string t, .slice ka ks.length kc, .slice (some ⟨gi, 0, none⟩) its.length ic] 26)).alloc (.cells #[.int .i64 k5, .int .u64 b5, .string t5, .slice ka5 kl5 kc5, .slice ia5 il5 ic5] 26)).alloc (.cells #[.int .i64 0, .int .u64 0, .string ⟨#[]⟩, .slice none 0 0, .slice none 0 0] 26) = W at *
  have HB : Hid (Below w.heap.size w W ∧ w.heap.size + 3 ≤ W.heap.size) := ⟨hb, hsz⟩
  have HBX : Hid (W.heap[w.heap.size]? = some _ ∧ Stay w W _ _) := ⟨hb0, hst⟩
  have HSP : Hid (∀ W' : World, (∀ j, j < W.heap.size → ¬ G j → j ≠ w.heap.size + 1 + 1 → W'.heap[j]? = W.heap[j]?) → (W'.cell? ⟨w.heap.size, 0, none⟩ = some (.int .i64 k) ∧ W'.cell? ⟨w.heap.size, 1, none⟩ = some (.int .u64 b) ∧ W'.cell? ⟨w.heap.size, 2, none⟩ = some (.string t) ∧ W'.cell? ⟨w.heap.size, 3, none⟩ = some (.slice ka ks.length kc) ∧ W'.cell? ⟨w.heap.size, 4, none⟩ = some (.slice (some ⟨gi, 0, none⟩) its.length ic) ∧ W'.cell? ⟨w.heap.size + 1, 0, none⟩ = some (.int .i64 k5) ∧ W'.cell? ⟨w.heap.size + 1, 1, none⟩ = some (.int .u64 b5) ∧ W'.cell? ⟨w.heap.size + 1, 2, none⟩ = some (.string t5) ∧ W'.cell? ⟨w.heap.size + 1, 3, none⟩ = some (.slice ka5 kl5 kc5) ∧ W'.cell? ⟨w.heap.size + 1, 4, none⟩ = some (.slice ia5 il5 ic5) ∧ W'.cell? ⟨gp, op, none⟩ = some (.bool q) ∧ W'.cell? ⟨gp, op + 1, none⟩ = some (.string key) ∧ W'.cell? ⟨gp, op + 2, none⟩ = some (.int .i64 ix) ∧ W'.cell? ⟨gi, i * 5, none⟩ = some (.int .i64 k6) ∧ W'.cell? ⟨gi, i * 5 + 1, none⟩ = some (.int .u64 b6) ∧ W'.cell? ⟨gi, i * 5 + 2, none⟩ = some (.string t6) ∧ W'.cell? ⟨gi, i * 5 + 3, none⟩ = some (.slice ka6 kl6 kc6) ∧ W'.cell? ⟨gi, i * 5 + 4, none⟩ = some (.slice ia6 il6 ic6))) := fun W' hk => by
    have nf : ∀ j, w.heap.size ≤ j → ¬ G j := fun j hj e => by have := (HIN.out.1 j (HIN.out.2.2.2.1 j e)).2; omega
    have e0 := (hk _ (by have := HB.out.2; omega) (nf _ (Nat.le_refl _)) (by omega)).trans HBX.out.1
    have e1 := (hk _ (by have := HB.out.2; omega) (nf _ (by omega)) (by omega)).trans HBX.out.2.1
    obtain ⟨x0, x1, x2, x3, x4, -⟩ := box_cells e0
    obtain ⟨y0, y1, y2, y3, y4, -⟩ := box_cells e1
    have ec : ∀ g o v, g < w.heap.size → ¬ G g → w.cell? ⟨g, o, none⟩ = some v → W'.cell? ⟨g, o, none⟩ = some v := fun g o v hg hn h => by
      have h1 := keepc HB.out.1 _ _ h
      have h2 := hk g (by have := HB.out.2; omega) hn (by omega)
      simp only [World.cell?, h2]
      simpa only [World.cell?] using h1
    have hgpw : gp < w.heap.size := Nat.lt_of_lt_of_le HPC.out.2.2.2 HOW.out.2.2.size
    have hgpn : ¬ G gp := fun e => by have h1 := (HIN.out.1 gp (HIN.out.2.2.2.1 gp e)).1; have h2 := HPC.out.2.2.2; omega
    exact ⟨x0, x1, x2, x3, x4, y0, y1, y2, y3, y4, ec _ _ _ hgpw hgpn HPC.out.1, ec _ _ _ hgpw hgpn HPC.out.2.1, ec _ _ _ hgpw hgpn HPC.out.2.2.1, ec _ _ _ hgw HIN.out.2.2.2.2 HCZ.out.1, ec _ _ _ hgw HIN.out.2.2.2.2 HCZ.out.2.1, ec _ _ _ hgw HIN.out.2.2.2.2 HCZ.out.2.2.1, ec _ _ _ hgw HIN.out.2.2.2.2 HCZ.out.2.2.2.1, ec _ _ _ hgw HIN.out.2.2.2.2 HCZ.out.2.2.2.2⟩
  clear hb hst hb0 hsz
  have hcur : Kept G W W := Kept.refl _ _
  go_wp2_with fail
  go_region_held3 (fun w' => (w'.cell? ⟨w.heap.size, 0, none⟩ = some (.int .i64 k) ∧ w'.cell? ⟨w.heap.size, 1, none⟩ = some (.int .u64 b) ∧ w'.cell? ⟨w.heap.size, 2, none⟩ = some (.string t) ∧ w'.cell? ⟨w.heap.size, 3, none⟩ = some (.slice ka ks.length kc) ∧ w'.cell? ⟨w.heap.size, 4, none⟩ = some (.slice (some ⟨gi, 0, none⟩) its.length ic) ∧ w'.cell? ⟨w.heap.size + 1, 0, none⟩ = some (.int .i64 k5) ∧ w'.cell? ⟨w.heap.size + 1, 1, none⟩ = some (.int .u64 b5) ∧ w'.cell? ⟨w.heap.size + 1, 2, none⟩ = some (.string t5) ∧ w'.cell? ⟨w.heap.size + 1, 3, none⟩ = some (.slice ka5 kl5 kc5) ∧ w'.cell? ⟨w.heap.size + 1, 4, none⟩ = some (.slice ia5 il5 ic5) ∧ w'.cell? ⟨gp, op, none⟩ = some (.bool q) ∧ w'.cell? ⟨gp, op + 1, none⟩ = some (.string key) ∧ w'.cell? ⟨gp, op + 2, none⟩ = some (.int .i64 ix) ∧ w'.cell? ⟨gi, i * 5, none⟩ = some (.int .i64 k6) ∧ w'.cell? ⟨gi, i * 5 + 1, none⟩ = some (.int .u64 b6) ∧ w'.cell? ⟨gi, i * 5 + 2, none⟩ = some (.string t6) ∧ w'.cell? ⟨gi, i * 5 + 3, none⟩ = some (.slice ka6 kl6 kc6) ∧ w'.cell? ⟨gi, i * 5 + 4, none⟩ = some (.slice ia6 il6 ic6))) ((first | with_reducible exact HSP.out _ (fun j h1 h2 _ => hcur.block j h1 h2) | with_reducible exact HSP.out _ (fun j h1 h2 _ => (hcur.trans (Kept.of_below ((Below.refl _ _).drew))).block j h1 h2))) ((go_at_call 16; refine (HPL.out _ (HB.out.1.drew)).mono ?_; rintro e w5 ⟨rfl, hb5⟩; have hcur : Kept G W w5 := (Kept.of_below ((Below.refl _ _).drew)).trans (Kept.of_below hb5); have B5 : Hid (Below w.heap.size w w5) := nxt HB.out.1.drew hb5))
  go_upto_region 8 with fail
  have HNW : Hid (∀ j, w.heap.size ≤ j → ¬ G j ∧ ¬ Fx j) := fun j hj => ⟨fun e => by have := (HIN.out.1 j (HIN.out.2.2.2.1 j e)).2; omega, fun e => by have := (HIN.out.2.1 j e).1; omega⟩
  have HZ : Hid (∀ w' : World, Kept G (w5.alloc (.cells #[.int .i64 0, .int .u64 0, .string ⟨#[]⟩, .slice none 0 0, .slice none 0 0] 26)) w' → w'.heap[w5.heap.size]? = some (.cells #[.int .i64 0, .int .u64 0, .string ⟨#[]⟩, .slice none 0 0, .slice none 0 0] 26 (0, 0))) := fun w' hk => (hk.block w5.heap.size (lt_of_block (new_box _ _ _)) (HNW.out _ B5.out.size).1).trans (new_box _ _ _)
  have hi0 : (0 : Int) ≤ (i : Int) := by omega
  have hW5 := hcur.size
  have HK5 : Hid (Kept G W w5) := hcur
  clear hb5 HPL
  go_cut [10, 11] (fun v10 v11 wc => v11 = .int .i64 r.1 ∧ ∃ k7 b7 t7 ka7 kl7 kc7 ia7 il7 ic7 g7, v10 = .pointer (some ⟨g7, 0, none⟩) ∧ Hid (wc.heap[g7]? = some (.cells #[.int .i64 k7, .int .u64 b7, .string t7, .slice ka7 kl7 kc7, .slice ia7 il7 ic7] 26 (0, 0))) ∧ Hid (MoreP W G Fx r g7 wc (mk k7 b7 t7 ka7 kl7 kc7 ia7 il7 ic7)))
  case first =>
    go_region_held3 (fun w' => (w'.cell? ⟨w.heap.size, 0, none⟩ = some (.int .i64 k) ∧ w'.cell? ⟨w.heap.size, 1, none⟩ = some (.int .u64 b) ∧ w'.cell? ⟨w.heap.size, 2, none⟩ = some (.string t) ∧ w'.cell? ⟨w.heap.size, 3, none⟩ = some (.slice ka ks.length kc) ∧ w'.cell? ⟨w.heap.size, 4, none⟩ = some (.slice (some ⟨gi, 0, none⟩) its.length ic) ∧ w'.cell? ⟨w.heap.size + 1, 0, none⟩ = some (.int .i64 k5) ∧ w'.cell? ⟨w.heap.size + 1, 1, none⟩ = some (.int .u64 b5) ∧ w'.cell? ⟨w.heap.size + 1, 2, none⟩ = some (.string t5) ∧ w'.cell? ⟨w.heap.size + 1, 3, none⟩ = some (.slice ka5 kl5 kc5) ∧ w'.cell? ⟨w.heap.size + 1, 4, none⟩ = some (.slice ia5 il5 ic5) ∧ w'.cell? ⟨gp, op, none⟩ = some (.bool q) ∧ w'.cell? ⟨gp, op + 1, none⟩ = some (.string key) ∧ w'.cell? ⟨gp, op + 2, none⟩ = some (.int .i64 ix) ∧ w'.cell? ⟨gi, i * 5, none⟩ = some (.int .i64 k6) ∧ w'.cell? ⟨gi, i * 5 + 1, none⟩ = some (.int .u64 b6) ∧ w'.cell? ⟨gi, i * 5 + 2, none⟩ = some (.string t6) ∧ w'.cell? ⟨gi, i * 5 + 3, none⟩ = some (.slice ka6 kl6 kc6) ∧ w'.cell? ⟨gi, i * 5 + 4, none⟩ = some (.slice ia6 il6 ic6))) ((first | with_reducible exact HSP.out _ (fun j h1 h2 _ => hcur.block j h1 h2) | with_reducible exact HSP.out _ (fun j h1 h2 _ => (hcur.trans (Kept.of_below ((Below.refl _ _).drew))).block j h1 h2) | with_reducible exact HSP.out _ (fun j h1 h2 _ => (hcur.trans (Kept.of_below ((Below.refl _ _).alloc (Nat.le_refl _) _))).block j h1 h2) | with_reducible exact HSP.out _ (fun j h1 h2 _ => (hcur.trans (Kept.of_below ((Below.refl _ _).alloc (Nat.le_refl _) _).drew)).block j h1 h2) | exact HSP.out _ (fun j h1 h2 h3 => (put5_other w6 w5.heap.size 0 _ _ _ _ _ j (Nat.ne_of_lt (Nat.lt_of_lt_of_le h1 hW5))).trans (hcur.block j h1 h2)))) ((go_at_call 20; refine (HIH.out _ (by first | exact B5.out.drew | exact (B5.out.alloc B5.out.size _).drew)).mono ?_; intro e w6 hR; obtain ⟨k7, b7, t7, ka7, kl7, kc7, ia7, il7, ic7, rfl, hk6, h3, h4⟩ := hR.shape; first | (have h8 := (Kept.of_below ((Below.refl _ _).drew)).trans hk6; have hz8 := HZ.out _ h8; have HM : Hid (MoreQ W G Fx r w5.heap.size w6 (mk k7 b7 t7 ka7 kl7 kc7 ia7 il7 ic7)) := ⟨hz8, fun c0 c1 c2 c3 c4 => MoreP.boxed (HK5.out.trans (Kept.of_below ((Below.refl _ _).alloc (Nat.le_refl _) _))) hW5 (lt_of_block (new_box _ _ _)) (HNW.out _ B5.out.size) h8 h3 c0 c1 c2 c3 c4⟩; obtain ⟨u0, u1, u2, u3, u4, v0, v1, v2, v3, v4⟩ := box_cells hz8; clear h8 hz8; have hcur : Kept G W w6 := (hcur.trans (Kept.of_below ((Below.refl _ _).alloc (Nat.le_refl _) _).drew)).trans hk6) | (have HM : Hid (∀ o : Obj, MoreP W G Fx r w6.heap.size (w6.alloc o) (mk k7 b7 t7 ka7 kl7 kc7 ia7 il7 ic7)) := fun o => MoreP.fresh HK5.out ((Kept.of_below ((Below.refl _ _).drew)).trans hk6) h3 o; have hcur : Kept G W w6 := (hcur.trans (Kept.of_below ((Below.refl _ _).drew))).trans hk6); clear hR h3 h4 hk6))
    all_goals
      go_wp2_with fail
      go_meet
      first
        | exact ⟨rfl, k7, b7, t7, ka7, kl7, kc7, ia7, il7, ic7, w5.heap.size, rfl, boxed5 HM.out.1 _ _ _ _ _, HM.out.2 _ _ _ _ _⟩
        | exact ⟨rfl, k7, b7, t7, ka7, kl7, kc7, ia7, il7, ic7, w6.heap.size, rfl, heap_alloc_new _ _, HM.out _⟩
  case rest =>
    obtain ⟨rfl, k7, b7, t7, ka7, kl7, kc7, ia7, il7, ic7, g7, rfl, XB, MP⟩ := hcut
    generalize wc = Wc at *
    have KW : Hid (Kept F w Wc) := (Kept.of_below HB.out.1).trans (MP.out.kept.mono HIN.out.2.2.2.1)
    have HSW : Hid (w.heap.size + 3 ≤ Wc.heap.size) := Nat.le_trans HB.out.2 MP.out.kept.size
    have HRB : Hid (Wc.heap[w.heap.size + 1 + 1]? = some (.cells #[.int .i64 0, .int .u64 0, .string ⟨#[]⟩, .slice none 0 0, .slice none 0 0] 26 (0, 0))) := (MP.out.kept.block _ (by have := HB.out.2; omega) (HNW.out _ (by omega)).1).trans HBX.out.2.2
    have HVB : Hid (Wc.heap[w.heap.size]? = some (.cells #[.int .i64 k, .int .u64 b, .string t, .slice ka ks.length kc, .slice (some ⟨gi, 0, none⟩) its.length ic] 26 (0, 0))) := (MP.out.kept.block _ (by have := HB.out.2; omega) (HNW.out _ (Nat.le_refl _)).1).trans HBX.out.1
    have HGI : Hid (Wc.heap[gi]? = some (.cells cur 26 (0, 0)) ∧ i * 5 + 4 < cur.size) := ⟨(MP.out.kept.block _ (Nat.lt_of_lt_of_le hgw HB.out.1.size) HIN.out.2.2.2.2).trans ((HB.out.1.block _ hgw).trans HCU.out.1), HCU.out.2⟩
    clear hcur HSP HK5 HZ B5 HIH hW5
    by_cases hr0 : r.1 = 0
    · have hr1 : (r.1 != 0) = false := by simp [hr0]
      have hg8 : w.heap.size ≠ gi := by omega
      have hg9 : w.heap.size + 1 + 1 ≠ gi := by omega
      obtain ⟨E, hoE, hE⟩ := MP.out.own hr0
      have HE : Hid (Own Wc N (mk k7 b7 t7 ka7 kl7 kc7 ia7 il7 ic7) r.2 E ∧ ∀ b, E b → (G b ∨ Fx b ∨ W.heap.size ≤ b) ∧ b < Wc.heap.size ∧ b ≠ g7) := ⟨hoE, hE⟩
      have HR0 : Hid (r.1 = 0) := hr0
      obtain ⟨x0, x1, x2, x3, x4, -⟩ := box_cells HVB.out
      obtain ⟨y0, y1, y2, y3, y4, -⟩ := box_cells XB.out
      obtain ⟨a0, z0⟩ := done_cell ⟨cur, HGI.out.1, HGI.out.2⟩ 0 (by omega)
      rw [Nat.add_zero] at z0
      obtain ⟨a1, z1⟩ := done_cell ⟨cur, HGI.out.1, HGI.out.2⟩ 1 (by omega)
      obtain ⟨a2, z2⟩ := done_cell ⟨cur, HGI.out.1, HGI.out.2⟩ 2 (by omega)
      obtain ⟨a3, z3⟩ := done_cell ⟨cur, HGI.out.1, HGI.out.2⟩ 3 (by omega)
      obtain ⟨a4, z4⟩ := done_cell ⟨cur, HGI.out.1, HGI.out.2⟩ 4 (by omega)
      have f0 := done_free ⟨cur, HGI.out.1, HGI.out.2⟩ 0
      rw [Nat.add_zero] at f0
      have f1 := done_free ⟨cur, HGI.out.1, HGI.out.2⟩ 1
      have f2 := done_free ⟨cur, HGI.out.1, HGI.out.2⟩ 2
      have f3 := done_free ⟨cur, HGI.out.1, HGI.out.2⟩ 3
      have f4 := done_free ⟨cur, HGI.out.1, HGI.out.2⟩ 4
      clear hoE hE hr0
      go_upto_region 12 with fail
      have K6 : Hid (Kept F w (put5 Wc gi (i * 5) (.int .i64 k7) (.int .u64 b7) (.string t7) (.slice ka7 kl7 kc7) (.slice ia7 il7 ic7))) := ((((KW.out.setCell _ HIN.out.2.2.1).setCell _ HIN.out.2.2.1).setCell _ HIN.out.2.2.1).setCell _ HIN.out.2.2.1).setCell _ HIN.out.2.2.1
      have O6 : Hid (Own (put5 Wc gi (i * 5) (.int .i64 k7) (.int .u64 b7) (.string t7) (.slice ka7 kl7 kc7) (.slice ia7 il7 ic7)) (N + 1) (mk k b t ka ks.length kc (some ⟨gi, 0, none⟩) its.length ic) (k, b, t, ks, its.set i r.2) (fun b => F b ∨ E b)) := by
        have hch := put5_ch (F := fun _ => False) (w := Wc) (g := gi) (o := i * 5) (.int .i64 k7) (.int .u64 b7) (.string t7) (.slice ka7 kl7 kc7) (.slice ia7 il7 ic7)
        have hEg : ∀ j, E j → j ≠ gi := fun j hj e => by
          subst e
          rcases (HE.out.2 j hj).1 with q | q | q
          · exact HIN.out.2.2.2.2 q
          · exact (HIN.out.2.1 j q).2 HIN.out.2.2.1
          · have := HB.out.1.size; omega
        refine HPUT.out _ _ r.2 E (fun j hj hg hn => (put5_other _ _ _ _ _ _ _ _ j hn).trans ((MP.out.kept.block j (Nat.lt_of_lt_of_le (HIN.out.1 j hj).2 HB.out.1.size) hg).trans (HB.out.1.block j (HIN.out.1 j hj).2))) (fun cu hcu => hch.here cu ((HGI.out.1.trans HCU.out.1.symm).trans hcu)) (put5_at HGI.out.1 HGI.out.2 _ _ _ _ _) (Own.same N HE.out.1 fun j hj => put5_other _ _ _ _ _ _ _ _ j (hEg j hj)) (fun j hj => ?_)
        rcases (HE.out.2 j hj).1 with q | q | q
        · exact Or.inl q
        · exact Or.inr (HIN.out.2.1 j q).2
        · exact Or.inr fun e => by have h1 := (HIN.out.1 j e).2; have h2 := HB.out.1.size; omega
      have V6 : Hid ((put5 Wc gi (i * 5) (.int .i64 k7) (.int .u64 b7) (.string t7) (.slice ka7 kl7 kc7) (.slice ia7 il7 ic7)).heap[w.heap.size]? = some _) := (put5_other _ _ _ _ _ _ _ _ _ hg8).trans HVB.out
      have R6 : Hid ((put5 Wc gi (i * 5) (.int .i64 k7) (.int .u64 b7) (.string t7) (.slice ka7 kl7 kc7) (.slice ia7 il7 ic7)).heap[w.heap.size + 1 + 1]? = some _) := (put5_other _ _ _ _ _ _ _ _ _ hg9).trans HRB.out
      have S6 := put5_size Wc gi (i * 5) (.int .i64 k7) (.int .u64 b7) (.string t7) (.slice ka7 kl7 kc7) (.slice ia7 il7 ic7)
      unfold put5 at K6 O6 V6 R6 S6
      clear x0 x1 x2 x3 x4 y0 y1 y2 y3 y4 z0 z1 z2 z3 z4 f0 f1 f2 f3 f4 HPUT HVB HRB HGI KW XB
      generalize ((((Wc.setCell ⟨gi, i * 5, none⟩ (.int .i64 k7)).setCell ⟨gi, i * 5 + 1, none⟩ (.int .u64 b7)).setCell ⟨gi, i * 5 + 2, none⟩ (.string t7)).setCell ⟨gi, i * 5 + 3, none⟩ (.slice ka7 kl7 kc7)).setCell ⟨gi, i * 5 + 4, none⟩ (.slice ia7 il7 ic7) = W6 at *
      obtain ⟨x0, x1, x2, x3, x4, -⟩ := box_cells V6.out
      obtain ⟨u0, u1, u2, u3, u4, v0, v1, v2, v3, v4⟩ := box_cells R6.out
      have HS6 : Hid (W6.heap.size = Wc.heap.size) := S6
      clear S6
      go_wp2_with fail
      refine bodyPost_ret (v := .tuple #[mk k b t ka ks.length kc (some ⟨gi, 0, none⟩) its.length ic, .int .i64 0]) (by simp [results, Try.results20, go_sem, u0, u1, u2, u3, u4]) rfl ?_
      have e0 := HR0.out
      rw [e0]
      refine set_done (N := N + 1) (r := ((0, (k, b, t, ks, its.set i r.2)) : Int × V (N + 1))) (by omega) K6.out (fun _ => ⟨_, O6.out, fun j hj => ?_⟩) (fun h => absurd rfl h)
      have hs := HSW.out
      have h6 := HS6.out
      rcases hj with hj | hj
      · have := (HIN.out.1 j hj).2
        exact ⟨Or.inl hj, by omega, by omega⟩
      · obtain ⟨q, hlt, -⟩ := HE.out.2 j hj
        rcases q with q | q | q
        · have q' := HIN.out.2.2.2.1 j q
          have := (HIN.out.1 j q').2
          exact ⟨Or.inl q', by omega, by omega⟩
        · have := (HIN.out.2.1 j q).1
          exact ⟨Or.inr (Or.inl q), by omega, by omega⟩
        · have := HB.out.2
          exact ⟨Or.inr (Or.inr (by omega)), by omega, by omega⟩
    · have hr1 : (r.1 != 0) = true := by simp [hr0]
      have HR0 : Hid (r.1 ≠ 0) := hr0
      obtain ⟨u0, u1, u2, u3, u4, v0, v1, v2, v3, v4⟩ := box_cells HRB.out
      go_wp2_with fail
      refine bodyPost_ret (v := .tuple #[mk 0 0 ⟨#[]⟩ none 0 0 none 0 0, .int .i64 r.1]) (by simp [results, Try.results20, go_sem, u0, u1, u2, u3, u4]) rfl ?_
      exact set_done (N := N + 1) (r := ((r.1, (k, b, t, ks, its.set i r.2)) : Int × V (N + 1))) (by omega) KW.out (fun h => absurd h HR0.out) (fun _ => rfl)
end Go.Proofs.Ytkjiiggboblioaa
