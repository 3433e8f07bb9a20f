/-
  The page's Set.
-/
import Derived.Test.YtkjiiggboblioaaVaRSetA
namespace Go.Proofs.Ytkjiiggboblioaa
open Go.ChangeShapes Go.WideShapes Go.ChangeAt Go.RowKit
open Fl

theorem Kept.to_below {F : Nat → Prop} {a b : World} {B : Nat} (h : Kept F a b) (hF : ∀ j, F j → B ≤ j) (hB : B ≤ a.heap.size) : Below B a b :=
  ⟨h.os, h.tape, h.output, h.size, fun j hj => h.block j (Nat.lt_of_lt_of_le hj hB) fun e => absurd (hF j e) (Nat.not_le.2 hj)⟩

def BoxAt (w : World) (g : Nat) : Prop := w.heap[g]? = some (.cells #[.int .i64 0, .int .u64 0, .string ⟨#[]⟩, .slice none 0 0, .slice none 0 0] 26 (0, 0))

theorem BoxAt.below {w w' : World} {g : Nat} (h : BoxAt w g) (hb : Below w.heap.size w w') : BoxAt w' g := (hb.block _ (lt_of_block h)).trans h
theorem BoxAt.kept {w w' : World} {F : Nat → Prop} {g : Nat} (h : BoxAt w g) (hk : Kept F w w') (hn : ¬ F g) : BoxAt w' g := (hk.block _ (lt_of_block h) hn).trans h
theorem BoxAt.new (w : World) : BoxAt (w.alloc (.cells #[.int .i64 0, .int .u64 0, .string ⟨#[]⟩, .slice none 0 0, .slice none 0 0] 26)) w.heap.size := new_box _ _ _

/-- Behind the first Own, the box laid ahead of it. -/
structure BoxA (W w1 : World) (F : Nat → Prop) (g : Nat) : Prop where
  box : BoxAt w1 g
  new : W.heap.size ≤ g
  nF : ¬ F g

theorem BoxA.first {W w1 : World} {F : Nat → Prop} (hb : Below (W.alloc (.cells #[.int .i64 0, .int .u64 0, .string ⟨#[]⟩, .slice none 0 0, .slice none 0 0] 26)).heap.size (W.alloc (.cells #[.int .i64 0, .int .u64 0, .string ⟨#[]⟩, .slice none 0 0, .slice none 0 0] 26)) w1) (hF : ∀ b, F b → (W.alloc (.cells #[.int .i64 0, .int .u64 0, .string ⟨#[]⟩, .slice none 0 0, .slice none 0 0] 26)).heap.size ≤ b ∧ b < w1.heap.size) : BoxA W w1 F W.heap.size :=
  ⟨(BoxAt.new W).below hb, Nat.le_refl _, fun e => by have h1 := (hF _ e).1; have h2 := lt_of_block (BoxAt.new W); omega⟩

structure BoxB (W w2 : World) (F Fx : Nat → Prop) (g : Nat) : Prop where
  box : BoxAt w2 g
  new : W.heap.size ≤ g
  nF : ¬ F g
  nX : ¬ Fx g

theorem BoxB.carry {W w1 w2 : World} {F Fx : Nat → Prop} {g : Nat} (h : BoxA W w1 F g) (hb : Below w1.heap.size w1 w2) (hX : ∀ b, Fx b → w1.heap.size ≤ b ∧ b < w2.heap.size) : BoxB W w2 F Fx g :=
  ⟨h.box.below hb, h.new, h.nF, fun e => by have h1 := (hX _ e).1; have h2 := lt_of_block h.box; omega⟩

theorem BoxB.between {W w1 w2 : World} {F Fx : Nat → Prop} (hW : W.heap.size ≤ w1.heap.size) (hF : ∀ b, F b → b < w1.heap.size) (hb : Below (w1.alloc (.cells #[.int .i64 0, .int .u64 0, .string ⟨#[]⟩, .slice none 0 0, .slice none 0 0] 26)).heap.size (w1.alloc (.cells #[.int .i64 0, .int .u64 0, .string ⟨#[]⟩, .slice none 0 0, .slice none 0 0] 26)) w2) (hX : ∀ b, Fx b → (w1.alloc (.cells #[.int .i64 0, .int .u64 0, .string ⟨#[]⟩, .slice none 0 0, .slice none 0 0] 26)).heap.size ≤ b ∧ b < w2.heap.size) : BoxB W w2 F Fx w1.heap.size :=
  ⟨(BoxAt.new w1).below hb, hW, fun e => by have := hF _ e; omega, fun e => by have h1 := (hX _ e).1; have h2 := lt_of_block (BoxAt.new w1); omega⟩

/-- Behind the second Own. -/
structure Owns2 {N n : Nat} (v : V N) (x : V n) (W w2 : World) (y1 y2 : Value) (F Fx : Nat → Prop) : Prop where
  o1 : Own w2 N y1 v F
  o2 : Own w2 n y2 x Fx
  f1 : ∀ b, F b → W.heap.size ≤ b ∧ b < w2.heap.size
  f2 : ∀ b, Fx b → W.heap.size ≤ b ∧ b < w2.heap.size ∧ ¬ F b
  bel : Below W.heap.size W w2

theorem Owns2.of {N n : Nat} {v : V N} {x : V n} {W A w1 B w2 : World} {y1 y2 : Value} {F Fx : Nat → Prop} (hA : Below W.heap.size W A) (h1 : Own w1 N y1 v F) (hF : ∀ b, F b → A.heap.size ≤ b ∧ b < w1.heap.size) (b1 : Below A.heap.size A w1) (hB : Below w1.heap.size w1 B) (h2 : Own w2 n y2 x Fx) (hX : ∀ b, Fx b → B.heap.size ≤ b ∧ b < w2.heap.size) (b2 : Below B.heap.size B w2) : Owns2 v x W w2 y1 y2 F Fx := by
  have b12 := nxt hB b2
  have s1 := hA.size
  have s2 := b1.size
  have s3 := hB.size
  have s4 := b2.size
  refine ⟨Own.next _ h1 (fun b h => (hF b h).2) b12, h2, fun b h => ?_, fun b h => ?_, nxt (nxt hA b1) b12⟩
  · have := hF b h; omega
  · have := hX b h
    exact ⟨by omega, by omega, fun e => by have := hF b e; omega⟩

theorem rset_go {n : Nat} {ps : List St} {v : V (n + ps.length)} {x : V n} {W w2 V0 : World} {y1 y2 : Value} {F Fx : Nat → Prop} {pa : Option Addr} {pc : Nat} (h : Owns2 v x W w2 y1 y2 F Fx) (hok : okV (n + ps.length) v) (hp : LayP W pa ps) (hpc : ps.length ≤ pc ∧ pc ≤ 9223372036854775807) (hb : Below w2.heap.size w2 V0) :
    Calls Try.prog 20 #[y1, .slice pa ps.length pc, y2] V0 (SetPost V0 F Fx (setV x ps v)) :=
  rset_all x y2 Fx W ps v y1 F pa pc V0 (nxt h.bel hb) hok (Own.next _ h.o1 (fun b q => (h.f1 b q).2) hb) (Own.next _ h.o2 (fun b q => (h.f2 b q).2.1) hb) (fun b q => ⟨(h.f1 b q).1, Nat.lt_of_lt_of_le (h.f1 b q).2 hb.size⟩) (fun b q => ⟨Nat.lt_of_lt_of_le (h.f2 b q).2.1 hb.size, (h.f2 b q).2.2⟩) hp hpc

/-- The answer of set stands in a box of its own. -/
structure SetBox {N : Nat} (W : World) (r : Int × V N) (g : Nat) (wc : World) (y : Value) : Prop where
  bel : Below W.heap.size W wc
  new : W.heap.size ≤ g
  own : r.1 = 0 → ∃ E, Own wc N y r.2 E ∧ ∀ b, E b → W.heap.size ≤ b ∧ b < wc.heap.size

def SetIn {N : Nat} (W : World) (r : Int × V N) (g : Nat) (w6 : World) (y : Value) : Prop := BoxAt w6 g ∧ ∀ c0 c1 c2 c3 c4, SetBox W r g (put5 w6 g 0 c0 c1 c2 c3 c4) y

theorem SetIn.of {N n : Nat} {v : V N} {x : V n} {W w2 V0 w6 : World} {y1 y2 y : Value} {F Fx : Nat → Prop} {r : Int × V N} {g : Nat} (h : Owns2 v x W w2 y1 y2 F Fx) (hb : Below w2.heap.size w2 V0) (hB : BoxAt V0 g) (hg : W.heap.size ≤ g) (hnF : ¬ F g) (hnX : ¬ Fx g) (hk : Kept F V0 w6) (h3 : r.1 = 0 → ∃ E, Own w6 N y r.2 E ∧ ∀ b, E b → (F b ∨ Fx b ∨ V0.heap.size ≤ b) ∧ b < w6.heap.size) : SetIn W r g w6 y := by
  have hl := lt_of_block hB
  have s1 := h.bel.size
  have s2 := hb.size
  refine ⟨hB.kept hk hnF, fun c0 c1 c2 c3 c4 => ⟨?_, hg, fun h0 => ?_⟩⟩
  · have b6 : Below W.heap.size W w6 := (nxt h.bel hb).trans (hk.to_below (fun j q => (h.f1 j q).1) (by omega))
    exact ((((b6.setCell hg _).setCell hg _).setCell hg _).setCell hg _).setCell hg _
  · obtain ⟨E, ho, hE⟩ := h3 h0
    have hne : ∀ b, E b → b ≠ g := fun b q e => by
      subst e
      rcases (hE b q).1 with p | p | p
      · exact hnF p
      · exact hnX p
      · omega
    refine ⟨E, Own.same _ ho fun b q => put5_other _ _ _ _ _ _ _ _ b (hne b q), fun b q => ⟨?_, by rw [put5_size]; exact (hE b q).2⟩⟩
    rcases (hE b q).1 with p | p | p
    · exact (h.f1 b p).1
    · exact (h.f2 b p).1
    · omega

theorem SetBox.add {N n : Nat} {v : V N} {x : V n} {W w2 V0 w6 : World} {y1 y2 y : Value} {F Fx : Nat → Prop} {r : Int × V N} (h : Owns2 v x W w2 y1 y2 F Fx) (hb : Below w2.heap.size w2 V0) (hk : Kept F V0 w6) (h3 : r.1 = 0 → ∃ E, Own w6 N y r.2 E ∧ ∀ b, E b → (F b ∨ Fx b ∨ V0.heap.size ≤ b) ∧ b < w6.heap.size) (o : Obj) : SetBox W r w6.heap.size (w6.alloc o) y := by
  have s1 := h.bel.size
  have s2 := hb.size
  have b6 : Below W.heap.size W w6 := (nxt h.bel hb).trans (hk.to_below (fun j q => (h.f1 j q).1) (by omega))
  have b7 : Below w6.heap.size w6 (w6.alloc o) := below_one _ _
  refine ⟨nxt b6 b7, b6.size, fun h0 => ?_⟩
  obtain ⟨E, ho, hE⟩ := h3 h0
  refine ⟨E, Own.next _ ho (fun b q => (hE b q).2) b7, fun b q => ⟨?_, Nat.lt_of_lt_of_le (hE b q).2 b7.size⟩⟩
  rcases (hE b q).1 with p | p | p
  · exact (h.f1 b p).1
  · exact (h.f2 b p).1
  · omega

theorem rset_zero {w W : World} {g : Nat} {e : Int} {R : Int × T} (hR : R = (e, zeroT)) (hg : w.heap.size ≤ g) (hb : Below w.heap.size w W) : ∃ y E, (Ending.returned (.tuple #[mk 0 0 ⟨#[]⟩ none 0 0 none 0 0, .int .i64 e])) = .returned (.tuple #[y, .int .i64 R.1]) ∧ Own (put5 W g 0 (.int .i64 0) (.int .u64 0) (.string ⟨#[]⟩) (.slice none 0 0) (.slice none 0 0)) R.2.1 y R.2.2 E ∧ (∀ b, E b → w.heap.size ≤ b ∧ b < (put5 W g 0 (.int .i64 0) (.int .u64 0) (.string ⟨#[]⟩) (.slice none 0 0) (.slice none 0 0)).heap.size) ∧ Below w.heap.size w (put5 W g 0 (.int .i64 0) (.int .u64 0) (.string ⟨#[]⟩) (.slice none 0 0) (.slice none 0 0)) := by
  subst hR
  exact ⟨_, _, rfl, own_zero _, fun _ h => h.elim, ((((hb.setCell hg _).setCell hg _).setCell hg _).setCell hg _).setCell hg _⟩

/-- What Own answers. -/
def OwnPost (n : Nat) (v : V n) (w : World) (e : Ending) (w' : World) : Prop := ∃ y F, e = .returned y ∧ Own w' n y v F ∧ (∀ b, F b → w.heap.size ≤ b ∧ b < w'.heap.size) ∧ Below w.heap.size w w'

/-- What Set answers. -/
def RSetPost (R : Int × T) (w : World) (e : Ending) (w' : World) : Prop := ∃ y E, e = .returned (.tuple #[y, .int .i64 R.1]) ∧ Own w' R.2.1 y R.2.2 E ∧ (∀ b, E b → w.heap.size ≤ b ∧ b < w'.heap.size) ∧ Below w.heap.size w w'

set_option maxRecDepth 100000 in
set_option maxHeartbeats 3200000 in
theorem rsetp_any {n : Nat} (ps : List St) (v : V (n + ps.length)) (x : V n) (xv xx : Value) (pa : Option Addr) (pc : Nat) (w : World) (hv : Lay w (n + ps.length) xv v) (hx : Lay w n xx x) (hp : LayP w pa ps) (hpc : ps.length ≤ pc ∧ pc ≤ 9223372036854775807) :
    Calls Try.prog 8 #[xv, .slice pa ps.length pc, xx] w (RSetPost (setR ps v x) w) := by
  obtain ⟨k, b, t, ka, kl, kc, ia, il, ic, rfl⟩ := Lay.shape _ hv
  obtain ⟨k5, b5, t5, ka5, kl5, kc5, ia5, il5, ic5, rfl⟩ := Lay.shape _ hx
  have HV : Hid (Lay w (n + ps.length) (mk k b t ka kl kc ia il ic) v) := hv
  have HX : Hid (Lay w n (mk k5 b5 t5 ka5 kl5 kc5 ia5 il5 ic5) x) := hx
  have HP : Hid (LayP w pa ps ∧ ps.length ≤ pc ∧ pc ≤ 9223372036854775807) := ⟨hp, hpc⟩
  have C1 : Hid (∀ w', Below w.heap.size w w' → Calls Try.prog 15 #[mk k b t ka kl kc ia il ic] w' fun e w'' => e = .returned (.int .i64 (chk v)) ∧ Below w'.heap.size w' w'') := fun w' hb => rcheck_any _ _ _ _ (Lay.below _ HV.out hb)
  have C2 : Hid (∀ w', Below w.heap.size w w' → Calls Try.prog 15 #[mk k5 b5 t5 ka5 kl5 kc5 ia5 il5 ic5] w' fun e w'' => e = .returned (.int .i64 (chk x)) ∧ Below w'.heap.size w' w'') := fun w' hb => rcheck_any _ _ _ _ (Lay.below _ HX.out hb)
  have HR : Hid (setR ps v x = if chk v = 0 then if chk x = 0 then if (setV x ps v).1 = 0 then if chk (setV x ps v).2 = 0 then (0, ⟨_, (setV x ps v).2⟩) else (chk (setV x ps v).2, zeroT) else ((setV x ps v).1, zeroT) else (chk x, zeroT) else (chk v, zeroT)) := rfl
  have HOK : Hid (chk v = 0 → okV (n + ps.length) v) := ok_of_chk
  generalize setR ps v x = R at *
  generalize chk v = cv at *
  generalize chk x = cx at *
  clear hv hx hp hpc
  go_enter Try.func8, Try.ntmps8
  go_wp2_with fail
  refine (C1.out _ (below_three _ _ _ _)).mono ?_
  rintro e w1 ⟨rfl, hb1⟩
  obtain ⟨hb0, hst, hbw, hsz⟩ := three_new w _ _ _ hb1
  have HB : Hid (Below w.heap.size w w1 ∧ w.heap.size + 3 ≤ w1.heap.size) := ⟨hbw, hsz⟩
  have HBX : Hid (w1.heap[w.heap.size]? = some _ ∧ Stay w w1 _ _) := ⟨hb0, hst⟩
  clear hb1 hb0 hst hbw hsz C1
  by_cases h1 : cv = 0
  rotate_left
  · have h1b : (cv != 0) = true := by simp [h1]
    rw [if_neg h1] at HR
    obtain ⟨u0, u1, u2, u3, u4, v0, v1, v2, v3, v4⟩ := box_cells HBX.out.2.2
    go_wp2_with fail
    refine bodyPost_ret (v := .tuple #[mk 0 0 ⟨#[]⟩ none 0 0 none 0 0, .int .i64 cv]) (by simp [results, Try.results8, go_sem, u0, u1, u2, u3, u4]) rfl ?_
    exact rset_zero HR.out (by omega) HB.out.1
  subst h1
  rw [if_pos rfl] at HR
  have HOK2 : Hid (okV (n + ps.length) v) := HOK.out rfl
  clear HOK
  have h1b : ((0 : Int) != 0) = false := by decide
  obtain ⟨x0, x1, x2, x3, x4, -⟩ := box_cells HBX.out.2.1
  go_wp2_with fail
  refine (C2.out _ HB.out.1).mono ?_
  rintro e w2 ⟨rfl, hb2⟩
  have HB2 : Hid (Below w.heap.size w w2 ∧ w.heap.size + 3 ≤ w2.heap.size) := ⟨nxt HB.out.1 hb2, Nat.le_trans HB.out.2 hb2.size⟩
  have HBX2 : Hid (w2.heap[w.heap.size]? = some _ ∧ Stay w w2 _ _) := ⟨(hb2.block _ (lt_of_block HBX.out.1)).trans HBX.out.1, HBX.out.2.below hb2 (by have := HB.out.2; omega)⟩
  clear x0 x1 x2 x3 x4 hb2 HB HBX C2
  by_cases h2 : cx = 0
  rotate_left
  · have h2b : (cx != 0) = true := by simp [h2]
    rw [if_neg h2] at HR
    obtain ⟨u0, u1, u2, u3, u4, v0, v1, v2, v3, v4⟩ := box_cells HBX2.out.2.2
    go_wp2_with fail
    refine bodyPost_ret (v := .tuple #[mk 0 0 ⟨#[]⟩ none 0 0 none 0 0, .int .i64 cx]) (by simp [results, Try.results8, go_sem, u0, u1, u2, u3, u4]) rfl ?_
    exact rset_zero HR.out (by omega) HB2.out.1
  subst h2
  rw [if_pos rfl] at HR
  have HSP : Hid (∀ W' : World, Below w2.heap.size w2 W' → (W'.cell? ⟨w.heap.size, 0, none⟩ = some (.int .i64 k) ∧ W'.cell? ⟨w.heap.size, 1, none⟩ = some (.int .u64 b) ∧ W'.cell? ⟨w.heap.size, 2, none⟩ = some (.string t) ∧ W'.cell? ⟨w.heap.size, 3, none⟩ = some (.slice ka kl kc) ∧ W'.cell? ⟨w.heap.size, 4, none⟩ = some (.slice ia il ic) ∧ W'.cell? ⟨w.heap.size + 1, 0, none⟩ = some (.int .i64 k5) ∧ W'.cell? ⟨w.heap.size + 1, 1, none⟩ = some (.int .u64 b5) ∧ W'.cell? ⟨w.heap.size + 1, 2, none⟩ = some (.string t5) ∧ W'.cell? ⟨w.heap.size + 1, 3, none⟩ = some (.slice ka5 kl5 kc5) ∧ W'.cell? ⟨w.heap.size + 1, 4, none⟩ = some (.slice ia5 il5 ic5))) := fun W' hk => by
    obtain ⟨x0, x1, x2, x3, x4, -⟩ := box_cells ((hk.block _ (lt_of_block HBX2.out.1)).trans HBX2.out.1)
    obtain ⟨y0, y1, y2, y3, y4, -⟩ := box_cells ((hk.block _ (lt_of_block HBX2.out.2.1)).trans HBX2.out.2.1)
    exact ⟨x0, x1, x2, x3, x4, y0, y1, y2, y3, y4⟩
  have CO1 : Hid (∀ W', Below w2.heap.size w2 W' → Calls Try.prog 17 #[mk k b t ka kl kc ia il ic] W' (OwnPost (n + ps.length) v W')) := fun W' hb => rown_any _ _ _ _ (Lay.below _ HV.out (nxt HB2.out.1 hb))
  have CO2 : Hid (∀ W', Below w2.heap.size w2 W' → Calls Try.prog 17 #[mk k5 b5 t5 ka5 kl5 kc5 ia5 il5 ic5] W' (OwnPost n x W')) := fun W' hb => rown_any _ _ _ _ (Lay.below _ HX.out (nxt HB2.out.1 hb))
  have HPW : Hid (LayP w2 pa ps ∧ ps.length ≤ pc ∧ pc ≤ 9223372036854775807) := ⟨HP.out.1.below HB2.out.1, HP.out.2⟩
  have CS : Hid (∀ (wb : World) (y1 y2 : Value) (F Fx : Nat → Prop), Owns2 v x w2 wb y1 y2 F Fx → ∀ V0, Below wb.heap.size wb V0 → Calls Try.prog 20 #[y1, .slice pa ps.length pc, y2] V0 (SetPost V0 F Fx (setV x ps v))) := fun wb y1 y2 F Fx h V0 hb => rset_go h HOK2.out HPW.out.1 HPW.out.2 hb
  generalize setV x ps v = r at *
  go_upto_region 7 with fail
  have hcur : Below w2.heap.size w2 w2 := Below.refl _ _
  go_cut [10, 11] (fun v10 v11 wc => v11 = .int .i64 r.1 ∧ ∃ k7 b7 t7 ka7 kl7 kc7 ia7 il7 ic7 g7, v10 = .pointer (some ⟨g7, 0, none⟩) ∧ Hid (wc.heap[g7]? = some (.cells #[.int .i64 k7, .int .u64 b7, .string t7, .slice ka7 kl7 kc7, .slice ia7 il7 ic7] 26 (0, 0))) ∧ Hid (SetBox w2 r g7 wc (mk k7 b7 t7 ka7 kl7 kc7 ia7 il7 ic7)))
  case first =>
    go_region_held3 (fun w' => (w'.cell? ⟨w.heap.size, 0, none⟩ = some (.int .i64 k) ∧ w'.cell? ⟨w.heap.size, 1, none⟩ = some (.int .u64 b) ∧ w'.cell? ⟨w.heap.size, 2, none⟩ = some (.string t) ∧ w'.cell? ⟨w.heap.size, 3, none⟩ = some (.slice ka kl kc) ∧ w'.cell? ⟨w.heap.size, 4, none⟩ = some (.slice ia il ic) ∧ w'.cell? ⟨w.heap.size + 1, 0, none⟩ = some (.int .i64 k5) ∧ w'.cell? ⟨w.heap.size + 1, 1, none⟩ = some (.int .u64 b5) ∧ w'.cell? ⟨w.heap.size + 1, 2, none⟩ = some (.string t5) ∧ w'.cell? ⟨w.heap.size + 1, 3, none⟩ = some (.slice ka5 kl5 kc5) ∧ w'.cell? ⟨w.heap.size + 1, 4, none⟩ = some (.slice ia5 il5 ic5))) ((first | with_reducible exact HSP.out _ hcur | with_reducible exact HSP.out _ hcur.drew | with_reducible exact HSP.out _ (nxt hcur (below_one _ _)) | with_reducible exact HSP.out _ (nxt hcur (below_one _ _)).drew | exact HSP.out _ ((hz.out.2 _ _ _ _ _).bel))) (first | (go_at_call 17; first | (have m1 := hO1; clear m1; refine (CO2.out _ (by first | with_reducible exact hcur | with_reducible exact nxt hcur (below_one _ _) | exact hcur.drew | exact (nxt hcur (below_one _ _)).drew)).mono ?_; intro e w4 hR; obtain ⟨y2, Fx, rfl, o2, fx, b2⟩ := hR; obtain ⟨k9, b9, t9, ka9, kl9, kc9, ia9, il9, ic9, rfl⟩ := Lay.shape _ (Own.lay _ o2); have hA8 := b2; (first | (have hz : Hid (BoxB w2 w4 F1 Fx _) := BoxB.carry hz.out hA8 fx) | (have hz : Hid (BoxB w2 w4 F1 Fx w3.heap.size) := BoxB.between hcur.size (fun b h => by obtain ⟨A, -, -, a3, -⟩ := hO1.out; exact (a3 b h).2) hA8 fx) | skip); have hO2 : Hid (Owns2 v x w2 w4 (mk k8 b8 t8 ka8 kl8 kc8 ia8 il8 ic8) (mk k9 b9 t9 ka9 kl9 kc9 ia9 il9 ic9) F1 Fx) := (by obtain ⟨A, a1, a2, a3, a4⟩ := hO1.out; exact Owns2.of a1 a2 a3 a4 (by first | with_reducible exact Below.refl _ _ | exact below_one _ _) o2 fx b2); have hcur : Below w2.heap.size w2 w4 := nxt (by first | with_reducible exact hcur | with_reducible exact nxt hcur (below_one _ _) | exact hcur.drew | exact (nxt hcur (below_one _ _)).drew) b2; clear hA8 o2 fx b2 hO1) | ((fail_if_success have m1 := hO1); refine (CO1.out _ (by first | with_reducible exact hcur | with_reducible exact nxt hcur (below_one _ _) | exact hcur.drew | exact (nxt hcur (below_one _ _)).drew)).mono ?_; intro e w3 hR; obtain ⟨y1, F1, rfl, o1, f1, b1⟩ := hR; obtain ⟨k8, b8, t8, ka8, kl8, kc8, ia8, il8, ic8, rfl⟩ := Lay.shape _ (Own.lay _ o1); have hA8 := (Below.refl _ _).drew.trans b1; (first | (have hz : Hid (BoxA w2 w3 F1 w2.heap.size) := BoxA.first hA8 f1) | skip); have hO1 : Hid (∃ A, Below w2.heap.size w2 A ∧ Own w3 (n + ps.length) (mk k8 b8 t8 ka8 kl8 kc8 ia8 il8 ic8) v F1 ∧ (∀ b, F1 b → A.heap.size ≤ b ∧ b < w3.heap.size) ∧ Below A.heap.size A w3) := ⟨_, (by first | with_reducible exact hcur | with_reducible exact nxt hcur (below_one _ _) | exact hcur.drew | exact (nxt hcur (below_one _ _)).drew), o1, f1, b1⟩; have hcur : Below w2.heap.size w2 w3 := nxt (by first | with_reducible exact hcur | with_reducible exact nxt hcur (below_one _ _) | exact hcur.drew | exact (nxt hcur (below_one _ _)).drew) b1; clear hA8 o1 f1 b1)) | (go_at_call 20; refine (CS.out _ _ _ _ _ hO2.out _ (by first | with_reducible exact Below.refl _ _ | exact below_one _ _)).mono ?_; intro e w6 hR; obtain ⟨k7, b7, t7, ka7, kl7, kc7, ia7, il7, ic7, rfl, hk6, h3, h4⟩ := hR.shape; (first | (have hz : Hid (SetIn w2 r _ w6 (mk k7 b7 t7 ka7 kl7 kc7 ia7 il7 ic7)) := SetIn.of hO2.out (Below.refl _ _) hz.out.box hz.out.new hz.out.nF hz.out.nX hk6 h3; obtain ⟨u0, u1, u2, u3, u4, v0, v1, v2, v3, v4⟩ := box_cells hz.out.1) | (have hz : Hid (SetIn w2 r w4.heap.size w6 (mk k7 b7 t7 ka7 kl7 kc7 ia7 il7 ic7)) := SetIn.of hO2.out (below_one _ _) (BoxAt.new w4) hO2.out.bel.size (fun e => Nat.lt_irrefl _ (hO2.out.f1 _ e).2) (fun e => Nat.lt_irrefl _ (hO2.out.f2 _ e).2.1) hk6 h3; obtain ⟨u0, u1, u2, u3, u4, v0, v1, v2, v3, v4⟩ := box_cells hz.out.1) | (have hz : Hid (∀ o, SetBox w2 r w6.heap.size (w6.alloc o) (mk k7 b7 t7 ka7 kl7 kc7 ia7 il7 ic7)) := fun o => SetBox.add hO2.out (Below.refl _ _) hk6 h3 o)); have hcur : Below w2.heap.size w2 w6 := (by first | exact hcur.trans (hk6.to_below (fun j q => (hO2.out.f1 j q).1) hcur.size) | exact (nxt hcur (below_one _ _)).trans (hk6.to_below (fun j q => (hO2.out.f1 j q).1) (nxt hcur (below_one _ _)).size)); clear hk6 h3 h4 hR))
    all_goals
      go_wp2_with fail
      go_meet
      first
        | exact ⟨rfl, k7, b7, t7, ka7, kl7, kc7, ia7, il7, ic7, _, rfl, boxed5 hz.out.1 _ _ _ _ _, hz.out.2 _ _ _ _ _⟩
        | exact ⟨rfl, k7, b7, t7, ka7, kl7, kc7, ia7, il7, ic7, w6.heap.size, rfl, heap_alloc_new _ _, hz.out _⟩
  case rest =>
    obtain ⟨rfl, k7, b7, t7, ka7, kl7, kc7, ia7, il7, ic7, g7, rfl, XB, SB⟩ := hcut
    generalize wc = Wc at *
    have HB3 : Hid (Below w.heap.size w Wc ∧ w.heap.size + 3 ≤ Wc.heap.size) := ⟨nxt HB2.out.1 SB.out.bel, Nat.le_trans HB2.out.2 SB.out.bel.size⟩
    have HRB : Hid (Wc.heap[w.heap.size + 1 + 1]? = some (.cells #[.int .i64 0, .int .u64 0, .string ⟨#[]⟩, .slice none 0 0, .slice none 0 0] 26 (0, 0))) := (SB.out.bel.block _ (lt_of_block HBX2.out.2.2)).trans HBX2.out.2.2
    clear hcur HSP CO1 CO2 CS
    by_cases h3 : r.1 = 0
    rotate_left
    · have h3b : (r.1 == 0) = false := by simp [h3]
      have h3c : (r.1 != 0) = true := by simp [h3]
      rw [if_neg h3] at HR
      obtain ⟨u0, u1, u2, u3, u4, v0, v1, v2, v3, v4⟩ := box_cells HRB.out
      go_wp2_with fail
      refine bodyPost_ret (v := .tuple #[mk 0 0 ⟨#[]⟩ none 0 0 none 0 0, .int .i64 r.1]) (by simp [results, Try.results8, go_sem, u0, u1, u2, u3, u4]) rfl ?_
      exact rset_zero HR.out (by omega) HB3.out.1
    rw [if_pos h3] at HR
    obtain ⟨E, hoE, hE⟩ := SB.out.own h3
    have HE : Hid (Own Wc (n + ps.length) (mk k7 b7 t7 ka7 kl7 kc7 ia7 il7 ic7) r.2 E ∧ ∀ b, E b → w2.heap.size ≤ b ∧ b < Wc.heap.size) := ⟨hoE, hE⟩
    have C3 : Hid (∀ w', Below Wc.heap.size Wc w' → Calls Try.prog 15 #[mk k7 b7 t7 ka7 kl7 kc7 ia7 il7 ic7] w' fun e w'' => e = .returned (.int .i64 (chk r.2)) ∧ Below w'.heap.size w' w'') := fun w' hb => rcheck_any _ _ _ _ (Lay.below _ (Own.lay _ HE.out.1) hb)
    generalize chk r.2 = c3 at *
    have h3b : (r.1 == 0) = true := by simp [h3]
    clear hoE hE
    obtain ⟨x0, x1, x2, x3, x4, -⟩ := box_cells XB.out
    go_wp2_with fail
    refine (C3.out _ (Below.refl _ _)).mono ?_
    rintro e w8 ⟨rfl, hb8⟩
    have B8 : Hid (Below Wc.heap.size Wc w8) := hb8
    have B9 : Hid (Below w.heap.size w w8) := nxt HB3.out.1 hb8
    obtain ⟨u0, u1, u2, u3, u4, v0, v1, v2, v3, v4⟩ := box_cells ((hb8.block _ (lt_of_block HRB.out)).trans HRB.out)
    replace x0 := keepc hb8 _ _ x0
    replace x1 := keepc hb8 _ _ x1
    replace x2 := keepc hb8 _ _ x2
    replace x3 := keepc hb8 _ _ x3
    replace x4 := keepc hb8 _ _ x4
    clear hb8 C3
    by_cases h4 : c3 = 0
    · subst h4
      have h4b : ((0 : Int) != 0) = false := by decide
      rw [if_pos rfl] at HR
      go_wp2_with fail
      refine bodyPost_ret (v := .tuple #[mk k7 b7 t7 ka7 kl7 kc7 ia7 il7 ic7, .int .i64 0]) (by simp [results, Try.results8, go_sem, u0, u1, u2, u3, u4]) rfl ?_
      have hR := HR.out
      subst hR
      have hg : w.heap.size ≤ w.heap.size + 1 + 1 := by omega
      refine ⟨_, E, rfl, Own.same _ (Own.next _ HE.out.1 (fun b h => (HE.out.2 b h).2) B8.out) (fun b h => put5_other _ _ _ _ _ _ _ _ b ?_), fun b h => ?_, ((((B9.out.setCell hg _).setCell hg _).setCell hg _).setCell hg _).setCell hg _⟩
      · have h1 := (HE.out.2 b h).1
        have h2 := HB2.out.2
        omega
      · have h1 := HE.out.2 b h
        have h2 := HB2.out.2
        have h5 := B8.out.size
        have h6 := put5_size w8 (w.heap.size + 1 + 1) 0 (.int .i64 k7) (.int .u64 b7) (.string t7) (.slice ka7 kl7 kc7) (.slice ia7 il7 ic7)
        exact ⟨by omega, Nat.lt_of_lt_of_le (Nat.lt_of_lt_of_le h1.2 h5) (Nat.le_of_eq h6.symm)⟩
    · have h4b : (c3 != 0) = true := by simp [h4]
      rw [if_neg h4] at HR
      go_wp2_with fail
      refine bodyPost_ret (v := .tuple #[mk 0 0 ⟨#[]⟩ none 0 0 none 0 0, .int .i64 c3]) (by simp [results, Try.results8, go_sem, u0, u1, u2, u3, u4]) rfl ?_
      exact rset_zero HR.out (by omega) B9.out
end Go.Proofs.Ytkjiiggboblioaa
