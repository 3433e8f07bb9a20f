/-
  The page's put: an item more at a list's end.
-/
import Derived.Test.YtkjiiggboblioaaVaRPut
import Derived.Test.YtkjiiggboblioaaVaRowK
namespace Go.Proofs.Ytkjiiggboblioaa
open Go.ChangeShapes Go.WideShapes Go.ChangeAt Go.RowKit
open Fl

theorem Four.grown {w w' w'' : World} {a b c d : Obj} {r : Option Nat} (h : Four w w' a b c d) (hb : w'.grownBy w'' r) (hr : ∀ g, r = some g → g < w.heap.size) : Four w w'' a b c d := by
  have ne : ∀ j, w.heap.size ≤ j → some j ≠ r := fun j hj e => by have := hr j e.symm; omega
  exact ⟨(hb.block _ (lt_of_block h.1) (ne _ (by omega))).trans h.1, (hb.block _ (lt_of_block h.2) (ne _ (by omega))).trans h.2, (hb.block _ (lt_of_block h.3) (ne _ (by omega))).trans h.3, (hb.block _ (lt_of_block h.4) (ne _ (by omega))).trans h.4⟩

theorem Kept.grownBy {F : Nat → Prop} {w w' w'' : World} {r : Option Nat} (h : Kept F w w') (hb : w'.grownBy w'' r) (hr : ∀ g, r = some g → F g ∨ w.heap.size ≤ g) : Kept F w w'' :=
  ⟨hb.os.trans h.os, hb.tape.trans h.tape, hb.output.trans h.output, Nat.le_trans h.size hb.size, fun j hj hn => (hb.block j (Nat.lt_of_lt_of_le hj h.size) fun e => by rcases hr j e.symm with q | q; exact hn q; omega).trans (h.block j hj hn)⟩

set_option maxRecDepth 100000 in
set_option maxHeartbeats 6400000 in
theorem rput_more {n : Nat} (k b : Int) (t : ByteArray) (ks : List ByteArray) (its : List (V n)) (s : St) (x : V n) (xv yv : Value) (F Fx : Nat → Prop) (w : World) (ho : Own w (n + 1) xv (k, b, t, ks, its) F) (hx : Own w n yv x Fx) (hF : ∀ b, F b → b < w.heap.size) (hFx : ∀ b, Fx b → b < w.heap.size ∧ ¬ F b)
    (hup : k = 5 → Up ks) (hsx : -9223372036854775808 ≤ s.2.2 ∧ s.2.2 ≤ 9223372036854775807) (he : (plc k ks its.length s).1 = 82) (hx2 : s.2.2 = its.length) (hl : its.length < 32) :
    Calls Try.prog 30 #[xv, .agg #[.bool s.1, .string s.2.1, .int .i64 s.2.2], yv] w (PutPost (n := n) w F Fx (0, (k, b, t, ks, its ++ [x]))) := by
  have hlay := Own.lay (n + 1) ho
  obtain ⟨ka, kc, ia, ic, H, rfl, hfit, hks, hK, hL, hHF, hKF⟩ := Own.split ho
  obtain ⟨ka', kc', ia', ic', hxe, -, -, -, hS, hI⟩ := hlay
  simp only [mk, Value.agg.injEq, Array.mk.injEq, List.cons.injEq, Value.slice.injEq, and_true, true_and] at hxe
  obtain ⟨⟨rfl, rfl⟩, ⟨rfl, rfl⟩⟩ := hxe
  obtain ⟨k5, b5, t5, ka5, kl5, kc5, ia5, il5, ic5, rfl⟩ := Lay.shape n (Own.lay n hx)
  have HPL : Hid (∀ W, Below w.heap.size w W → Calls Try.prog 16 #[mk k b t ka ks.length kc ia its.length ic, .agg #[.bool s.1, .string s.2.1, .int .i64 s.2.2]] W fun e w' => e = .returned (.tuple #[.int .i64 (rplc (plc k ks its.length s)), .int .i64 (plc k ks its.length s).1]) ∧ Below W.heap.size W w') := fun W hb => place_any k b t ka kc ia its.length ic ks s W hup (LayS.below hS hb) hfit.2.2.2.2.2.1 hsx hfit.2.2.2.2.2.2.2.2
  have hrp : rplc (plc k ks its.length s) = -1 := by unfold rplc; rw [if_neg (by omega)]
  rw [hrp, he] at HPL
  obtain ⟨q, key, ix⟩ := s
  have hx3 : (ix == (its.length : Int)) = true := by simpa using hx2
  have hl2 : ¬ (32 : Int) ≤ (its.length : Int) := by omega
  have HOX : Hid (Own w n (mk k5 b5 t5 ka5 kl5 kc5 ia5 il5 ic5) x Fx) := hx
  have HL : Hid (OwnL w n (.slice ia its.length ic) its H) := hL
  have HK : Hid (OwnK w (.slice ka ks.length kc) ks) := hK
  have HIN : Hid ((∀ b, F b → b < w.heap.size) ∧ (∀ b, Fx b → b < w.heap.size ∧ ¬ F b) ∧ (∀ b, H b → F b) ∧ ∀ b, (Value.slice ka ks.length kc).ownBlock = some b → F b ∧ ¬ H b) := ⟨hF, hFx, hHF, hKF⟩
  have HFIT : Hid (Fit k b t ks.length kc its.length ic ∧ (∀ s ∈ ks, s.size ≤ 140737488351232) ∧ its.length < 32) := ⟨hfit, hks, hl⟩
  clear hS hI hrp he hup hsx ho hx hx2 hl hL hK hF hFx hHF hKF hfit hks
  go_enter Try.func30, Try.ntmps30
  go_wp2_with fail
  obtain ⟨FN, BN, SN⟩ := four_new w (.cells #[.int .i64 k, .int .u64 b, .string t, .slice ka ks.length kc, .slice ia its.length ic] 26) (.cells #[.bool q, .string key, .int .i64 ix] 42) (.cells #[.int .i64 k5, .int .u64 b5, .string t5, .slice ka5 kl5 kc5, .slice ia5 il5 ic5] 26) (.cells #[.int .i64 0, .int .u64 0, .string ⟨#[]⟩, .slice none 0 0, .slice none 0 0] 26)
  refine (HPL.out _ BN).mono ?_
  rintro e w1 ⟨rfl, hb1⟩
  have F1 := FN.below hb1 (by rw [SN]; omega)
  have S1 : Hid (w.heap.size + 4 ≤ w1.heap.size) := by have := hb1.size; rw [SN] at this; exact this
  have B1 : Hid (Below w.heap.size w w1) := nxt BN hb1
  clear FN BN SN hb1 HPL
  obtain ⟨x0, x1, x2, x3, x4, y0, y1, y2, y3, y4⟩ := box_cells F1.one
  obtain ⟨u0, u1, u2, u3, u4, v0, v1, v2, v3, v4⟩ := box_cells F1.three
  have s2 : w1.cell? ⟨w.heap.size + 1, 2, none⟩ = some (.int .i64 ix) := by simp only [World.cell?, F1.two]; rfl
  have FB : Hid (Four _ _ _ _ _ _) := F1
  clear F1
  go_wp2_with (at_builtin; refine wpList_push _ rfl _ _ rfl (.slice ia its.length ic) its H rfl ?d0 x Fx (.int .i64 k5) (.int .u64 b5) (.string t5) (.slice ka5 kl5 kc5) (.slice ia5 il5 ic5) ?d1 ?d6 ?d2 ?d3 ⟨w1.heap.size, 0, none⟩ 1 rfl ?d4 ?d5 ?_)
  case d0 => exact HL.out.same fun b hb => (Below.heap_alloc _ _ _ (by have := HIN.out.1 b (HIN.out.2.2.1 b hb); have := S1.out; omega)).trans (B1.out.block b (HIN.out.1 b (HIN.out.2.2.1 b hb)))
  case d1 => exact HOX.out.same n fun b hb => (Below.heap_alloc _ _ _ (by have := (HIN.out.2.1 b hb).1; have := S1.out; omega)).trans (B1.out.block b (HIN.out.2.1 b hb).1)
  case d6 => exact fun b hb hb' => (HIN.out.2.1 b hb).2 (HIN.out.2.2.1 b hb')
  case d2 => intro b hb; have := HIN.out.1 b (HIN.out.2.2.1 b hb); have := S1.out; simp; omega
  case d3 => intro b hb; have := (HIN.out.2.1 b hb).1; have := S1.out; simp; omega
  case d4 => exact fun j u hj => cells_new w1 _ _ j u (by simpa using hj)
  case d5 => have := HFIT.out.2.2; omega
  intro v' w2 g1 g2 g3
  obtain ⟨va, vc, rfl⟩ := OwnL.shape g1
  have S2 : Hid (w.heap.size + 4 ≤ w2.heap.size) := by show _ ≤ _; have h1 := g2.size; have h2 := S1.out; have h3 := (below_one w1 (.cells #[.int .i64 k5, .int .u64 b5, .string t5, .slice ka5 kl5 kc5, .slice ia5 il5 ic5] 26)).size; exact Nat.le_trans h2 (Nat.le_trans h3 h1)
  have hib : ∀ g, (Value.slice ia its.length ic).ownBlock = some g → H g := fun g hg => (HL.out.lt g hg).1
  have F2 : Four w w2 _ _ _ _ := (FB.out.below (below_one _ _) (by have := S1.out; omega)).grown g2 (fun g hg => HIN.out.1 g (HIN.out.2.2.1 g (hib g hg)))
  have K2 : Hid (Kept F w w2) := (Kept.of_below (nxt B1.out (below_one _ _))).grownBy g2 (fun g hg => Or.inl (HIN.out.2.2.1 g (hib g hg)))
  have hlt := OwnL.lt g1
  have FF : Hid (∀ b, (H b ∨ Fx b ∨ (Value.slice va (its ++ [x]).length vc).ownBlock = some b) ∨ (Value.slice ka ks.length kc).ownBlock = some b → (F b ∨ Fx b ∨ w.heap.size + 4 ≤ b) ∧ b < w2.heap.size) := by
    show ∀ b, _
    have hs2 := S2.out
    have hs1 := S1.out
    rintro b ((h | h | h) | h)
    · exact ⟨Or.inl (HIN.out.2.2.1 b h), by have := HIN.out.1 b (HIN.out.2.2.1 b h); omega⟩
    · exact ⟨Or.inr (Or.inl h), by have := (HIN.out.2.1 b h).1; omega⟩
    · refine ⟨?_, (hlt b h).2⟩
      rcases g3 with e | e
      · exact Or.inl (HIN.out.2.2.1 b (hib b (by rw [← e]; exact h)))
      · have h1 := e b h
        have h3 := (below_one w1 (.cells #[.int .i64 k5, .int .u64 b5, .string t5, .slice ka5 kl5 kc5, .slice ia5 il5 ic5] 26)).size
        exact Or.inr (Or.inr (by omega))
    · exact ⟨Or.inl (HIN.out.2.2.2 b h).1, by have := HIN.out.1 b (HIN.out.2.2.2 b h).1; omega⟩
  have OO : Hid (Own w2 (n + 1) (mk k b t ka ks.length kc va (its ++ [x]).length vc) (k, b, t, ks, its ++ [x]) (fun b => (H b ∨ Fx b ∨ (Value.slice va (its ++ [x]).length vc).ownBlock = some b) ∨ (Value.slice ka ks.length kc).ownBlock = some b)) := by
    have hk : ∀ b, (Value.slice ka ks.length kc).ownBlock = some b → b < w.heap.size ∧ ¬ H b ∧ ¬ Fx b := fun b hb => ⟨HIN.out.1 b (HIN.out.2.2.2 b hb).1, (HIN.out.2.2.2 b hb).2, fun e => (HIN.out.2.1 b e).2 (HIN.out.2.2.2 b hb).1⟩
    have hs1 := S1.out
    refine OwnL.part g1 (HK.out.same fun b hb => ?_) (fun b hb => ?_) HFIT.out.1.1 HFIT.out.1.2.1 HFIT.out.1.2.2.1 HFIT.out.1.2.2.2.2.2.1 (by have := HFIT.out.2.2; simp; omega) HFIT.out.2.1
    · exact (g2.block b (by have := (hk b hb).1; simp; omega) (fun e => (hk b hb).2.1 (hib b e.symm))).trans ((Below.heap_alloc _ _ _ (by have := (hk b hb).1; omega)).trans (B1.out.block b (hk b hb).1))
    · rintro (h | h | h)
      · exact (hk b hb).2.1 h
      · exact (hk b hb).2.2 h
      · rcases g3 with e | e
        · exact (hk b hb).2.1 (hib b (by rw [← e]; exact h))
        · have h1 := e b h
          have h2 := (hk b hb).1
          have h3 := (below_one w1 (.cells #[.int .i64 k5, .int .u64 b5, .string t5, .slice ka5 kl5 kc5, .slice ia5 il5 ic5] 26)).size
          omega
  have FB2 : Hid (Four w w2 _ _ _ _) := F2
  have hlen : (its ++ [x]).length = its.length + 1 := by simp
  rw [hlen] at FF OO ⊢
  obtain ⟨x0, x1, x2, x3, x4, y0, y1, y2, y3, y4⟩ := box_cells F2.one
  clear F2 hlt g1 g2 g3 hib u0 u1 u2 u3 u4 v0 v1 v2 v3 v4 s2 HL HK HOX FB B1
  go_upto_region 9 with fail
  have F3 : Hid (Four w (w2.setCell ⟨w.heap.size, 4, none⟩ (.slice va (its.length + 1) vc)) (.cells #[.int .i64 k, .int .u64 b, .string t, .slice ka ks.length kc, .slice va (its.length + 1) vc] 26 (0, 0)) _ _ _) := ⟨by rw [set_one_cell FB2.out.one]; simp, (set_other _ _ (by omega)).trans FB2.out.two, (set_other _ _ (by omega)).trans FB2.out.three, (set_other _ _ (by omega)).trans FB2.out.four⟩
  have K3 : Hid (Kept F w (w2.setCell ⟨w.heap.size, 4, none⟩ (.slice va (its.length + 1) vc))) := K2.out.fresh _ (Nat.le_refl _)
  have O3 : Hid (Own (w2.setCell ⟨w.heap.size, 4, none⟩ (.slice va (its.length + 1) vc)) (n + 1) (mk k b t ka ks.length kc va (its.length + 1) vc) (k, b, t, ks, its ++ [x]) _) := OO.out.same _ fun b hb => set_other _ _ (by
    rcases (FF.out b hb).1 with q | q | q
    · have := HIN.out.1 b q; omega
    · have := (HIN.out.2.1 b q).1; omega
    · omega)
  have S3 : (w2.setCell ⟨w.heap.size, 4, none⟩ (.slice va (its.length + 1) vc)).heap.size = w2.heap.size := by simp [World.setCell]
  clear x0 x1 x2 x3 x4 y0 y1 y2 y3 y4 FB2 K2 OO
  generalize w2.setCell ⟨w.heap.size, 4, none⟩ (.slice va (its.length + 1) vc) = W3 at *
  obtain ⟨x0, x1, x2, x3, x4, -⟩ := box_cells F3.out.one
  obtain ⟨u0, u1, u2, u3, u4, v0, v1, v2, v3, v4⟩ := box_cells F3.out.four
  go_wp2_with fail
  refine bodyPost_ret (v := .tuple #[mk k b t ka ks.length kc va (its.length + 1) vc, .int .i64 0]) (by simp [results, Try.results30, go_sem, u0, u1, u2, u3, u4]) rfl ?_
  refine put_done K3.out O3.out (fun j hj => ?_) (fun j hj => ?_)
  · rw [S3]
    exact FF.out j hj
  · rcases hj with hj | hj
    · exact HIN.out.1 j hj
    · exact (HIN.out.2.1 j hj).1
end Go.Proofs.Ytkjiiggboblioaa
