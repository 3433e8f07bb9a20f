/-
  The page's reader: a value, at every depth.
-/
import Derived.Test.YtfdbhojghkdlkaaPkRText
namespace Go.Proofs.Ytfdbhojghkdlkaa
open Go.ChangeShapes Go.WideShapes Go.ChangeAt Go.RowKit
open Fl

theorem val_all : ∀ n, ValAt n
  | 0 => fun s p a c bs d w h ho hb h1 hd => by
    obtain ⟨l, q⟩ := s
    exact rvalue_deep p a c bs l q d w h ho hb (by omega)
  | n + 1 => fun s p a c bs d w h ho hb h1 hd => by
    obtain ⟨l, q⟩ := s
    have ih := val_all n
    have hd8 : d ≤ 8 := by omega
    cases hl : l with
    | nil => rw [← hl]; exact rvalue_short p a c bs l q d w h ho hb n hd8 hl
    | cons o r =>
      rw [← hl]
      by_cases h6 : 6 < o.toNat
      · exact rvalue_big p a c bs l q d w h ho hb n hd8 o r hl h6
      obtain e | e | e | e | e | e | e : o.toNat = 0 ∨ o.toNat = 1 ∨ o.toNat = 2 ∨ o.toNat = 3 ∨ o.toNat = 4 ∨ o.toNat = 5 ∨ o.toNat = 6 := by omega
      · exact rvalue_zero p a c bs l q d w h ho hb n hd8 o r hl e
      · exact rvalue_bool1 p a c bs l q d w h ho hb n hd8 o r hl e
      · exact rvalue_bool2 p a c bs l q d w h ho hb n hd8 o r hl e
      · exact rvalue_num p a c bs l q d w h ho hb n hd8 o r hl e
      · cases hr : r with
        | nil => exact rvalue_text0 p a c bs l q d w h ho hb n hd8 o r hl e hr
        | cons k r1 =>
          by_cases hk : 128 < k.toNat
          · exact rvalue_text1 p a c bs l q d w h ho hb n hd8 o r hl e k r1 hr hk
          by_cases h2 : r1.length < k.toNat
          · exact rvalue_text2 p a c bs l q d w h ho hb n hd8 o r hl e k r1 hr hk h2
          · exact rvalue_text3 p a c bs l q d w h ho hb n hd8 o r hl e k r1 hr hk (by omega)
      · exact rvalue_list p a c bs l q d w h ho hb n ih h1 (by omega) o r hl e
      · exact rvalue_rec p a c bs l q d w h ho hb n ih h1 (by omega) o r hl e

end Go.Proofs.Ytfdbhojghkdlkaa

/-
  The page's Take.
-/
namespace Go.Proofs.Ytfdbhojghkdlkaa
open Go.ChangeShapes Go.WideShapes Go.ChangeAt Go.RowKit
open Fl

set_option maxRecDepth 100000 in
set_option maxHeartbeats 3200000 in
theorem rtk_err (a : Option Addr) (c : Nat) (bs : List UInt8) (w : World) (ho : Oct w a c bs) (er : Int) (hrd : rd 8 (bs, 0) = .error er) :
    Calls Try.prog 24 #[.slice a bs.length c] w fun e w' => ∃ y F, e = .returned (.tuple #[y, .int .i64 ((takeR bs).2.2 : Int), .int .i64 (takeR bs).1]) ∧ Own w' (takeR bs).2.1.1 y (takeR bs).2.1.2 F ∧ (∀ b, F b → w.heap.size ≤ b ∧ b < w'.heap.size) ∧ Below w.heap.size w w' := by
  have HT : Hid (takeR bs = (er, zeroPT, 0)) := by show _ = _; unfold takeR; rw [hrd]
  have HV : Hid (∀ W p, RAt W p a c bs (bs, 0) → Oct W a c bs → Calls Try.prog 40 #[.pointer (some ⟨p, 0, none⟩), .int .i64 1] W (VPost 8 (rd 8 (bs, 0)) p a c bs W)) := fun W p h h2 => val_all 8 (bs, 0) p a c bs 1 W h h2 (by have := h2.2.2.2.1; simp only; omega) (by decide) (by decide)
  rw [hrd] at HV
  have bB := below_two w (.cells #[.int .i64 0, .int .u64 0, .string ⟨#[]⟩, .slice none 0 0, .slice none 0 0] 50) (.cells #[.slice a bs.length c, .int .i64 0, .int .i64 0, .int .i64 0] 87)
  have BB : Hid (Below w.heap.size w ((w.alloc (.cells #[.int .i64 0, .int .u64 0, .string ⟨#[]⟩, .slice none 0 0, .slice none 0 0] 50)).alloc (.cells #[.slice a bs.length c, .int .i64 0, .int .i64 0, .int .i64 0] 87))) := bB
  have HO : Hid (Oct ((w.alloc (.cells #[.int .i64 0, .int .u64 0, .string ⟨#[]⟩, .slice none 0 0, .slice none 0 0] 50)).alloc (.cells #[.slice a bs.length c, .int .i64 0, .int .i64 0, .int .i64 0] 87)) a c bs) := ho.below bB
  have XR : Hid (((w.alloc (.cells #[.int .i64 0, .int .u64 0, .string ⟨#[]⟩, .slice none 0 0, .slice none 0 0] 50)).alloc (.cells #[.slice a bs.length c, .int .i64 0, .int .i64 0, .int .i64 0] 87)).heap[w.heap.size]? = some (.cells #[.int .i64 0, .int .u64 0, .string ⟨#[]⟩, .slice none 0 0, .slice none 0 0] 50 (0, 0))) := by
    show _ = _
    rw [Below.heap_alloc _ _ _ (by simp)]
    exact heap_alloc_new _ _
  have RA : Hid (RAt ((w.alloc (.cells #[.int .i64 0, .int .u64 0, .string ⟨#[]⟩, .slice none 0 0, .slice none 0 0] 50)).alloc (.cells #[.slice a bs.length c, .int .i64 0, .int .i64 0, .int .i64 0] 87)) (w.heap.size + 1) a c bs (bs, 0)) := by
    have := heap_alloc_new (w.alloc (.cells #[.int .i64 0, .int .u64 0, .string ⟨#[]⟩, .slice none 0 0, .slice none 0 0] 50)) (.cells #[.slice a bs.length c, .int .i64 0, .int .i64 0, .int .i64 0] 87)
    exact ⟨0, Nat.zero_le _, rfl, by simpa using this⟩
  clear ho hrd bB
  go_enter Try.func24, Try.ntmps24
  go_wp2_with fail
  generalize ((w.alloc (.cells #[.int .i64 0, .int .u64 0, .string ⟨#[]⟩, .slice none 0 0, .slice none 0 0] 50)).alloc (.cells #[.slice a bs.length c, .int .i64 0, .int .i64 0, .int .i64 0] 87)) = W1 at *
  refine (HV.out W1 _ RA.out HO.out).mono ?_
  intro e W2 hpost
  obtain ⟨hg2, ⟨er', hit, hE, y, rfl, k5, b5, t5, ka5, kl5, kc5, ia5, il5, ic5, rfl⟩ | ⟨u, s', hit, -⟩⟩ := hpost
  rotate_left
  · cases hit
  cases hit
  have XR2 : Hid (W2.heap[w.heap.size]? = some (.cells #[.int .i64 0, .int .u64 0, .string ⟨#[]⟩, .slice none 0 0, .slice none 0 0] 50 (0, 0))) := (hg2.block _ (lt_of_block XR.out) (by simp)).trans XR.out
  have HS2 : Hid (Below w.heap.size w W2) := ⟨hg2.os.trans BB.out.os, hg2.tape.trans BB.out.tape, hg2.output.trans BB.out.output, by have := BB.out.size; have := hg2.size; omega, fun k hk => (hg2.block k (by have := BB.out.size; omega) (by simp; omega)).trans (BB.out.block k hk)⟩
  have HW2 : Hid (w.heap.size + 1 < W2.heap.size) := by obtain ⟨_, _, _, _, _, h⟩ := hE; exact lt_of_block h
  have HE2 : Hid (RErr W2 (w.heap.size + 1) 281474976710660 er) := hE
  clear hE
  clear hg2 XR RA HO BB HV
  go_upto_region 3 with fail
  have XR3 : Hid ((W2.alloc (.cells #[.int .i64 k5, .int .u64 b5, .string t5, .slice ka5 kl5 kc5, .slice ia5 il5 ic5] 50)).heap[w.heap.size]? = some (.cells #[.int .i64 0, .int .u64 0, .string ⟨#[]⟩, .slice none 0 0, .slice none 0 0] 50 (0, 0))) := (Below.heap_alloc _ _ _ (lt_of_block XR2.out)).trans XR2.out
  have HE3 : Hid (RErr (W2.alloc (.cells #[.int .i64 k5, .int .u64 b5, .string t5, .slice ka5 kl5 kc5, .slice ia5 il5 ic5] 50)) (w.heap.size + 1) 281474976710660 er) := HE2.out.same (Below.heap_alloc _ _ _ HW2.out)
  have HS3 : Hid (Below w.heap.size w (W2.alloc (.cells #[.int .i64 k5, .int .u64 b5, .string t5, .slice ka5 kl5 kc5, .slice ia5 il5 ic5] 50))) := nxt HS2.out (below_one _ _)
  clear XR2 HE2 HS2
  generalize (W2.alloc (.cells #[.int .i64 k5, .int .u64 b5, .string t5, .slice ka5 kl5 kc5, .slice ia5 il5 ic5] 50)) = W3 at *
  obtain ⟨q0, hq0, x2, x3, f2, hne, hne', hE2⟩ := HE3.out.more
  clear hE2
  go_wp2_with fail
  refine (rfail_err (w.heap.size + 1) _ _ _ _ W3 HE3.out).mono ?_
  rintro e w4 ⟨rfl, hw4⟩
  subst w4
  obtain ⟨z0, z1, z2, z3, z4, g0, g1, g2, g3, g4⟩ := box_cells XR3.out
  go_wp2_with fail
  go_region
  all_goals
    go_wp2_with fail
    refine bodyPost_ret (v := .tuple #[mk 0 0 ⟨#[]⟩ none 0 0 none 0 0, .int .i64 0, .int .i64 er]) (by simp [results, Try.results24, go_sem, z0, z1, z2, z3, z4]) rfl ?_
    obtain ⟨e1, e2, e3, e4, e5⟩ := five_fin W3 w.heap.size (.int .i64 0) (.int .u64 0) (.string ⟨#[]⟩) (.slice none 0 0) (.slice none 0 0)
    generalize (((((W3.setCell ⟨w.heap.size, 0, none⟩ (.int .i64 0)).setCell ⟨w.heap.size, 1, none⟩ (.int .u64 0)).setCell ⟨w.heap.size, 2, none⟩ (.string ⟨#[]⟩)).setCell ⟨w.heap.size, 3, none⟩ (.slice none 0 0)).setCell ⟨w.heap.size, 4, none⟩ (.slice none 0 0)) = W5 at *
    rw [HT.out]
    obtain ⟨h1, h2, h3⟩ := fin_own HS3.out e1 e2 e3 e4 e5 (own_zeroPT _) (fun b hb => hb.elim)
    exact ⟨_, _, rfl, h1.same _ fun _ _ => rfl, h2, nxt h3 (Below_drewN _ _ 1)⟩

set_option maxRecDepth 100000 in
set_option maxHeartbeats 3200000 in
theorem rtk_many (a : Option Addr) (c : Nat) (bs : List UInt8) (w : World) (ho : Oct w a c bs) (u : V 8) (r : List UInt8) (np : Nat) (hrd : rd 8 (bs, 0) = .ok (u, (r, np))) (hnp : 512 < np) :
    Calls Try.prog 24 #[.slice a bs.length c] w fun e w' => ∃ y F, e = .returned (.tuple #[y, .int .i64 ((takeR bs).2.2 : Int), .int .i64 (takeR bs).1]) ∧ Own w' (takeR bs).2.1.1 y (takeR bs).2.1.2 F ∧ (∀ b, F b → w.heap.size ≤ b ∧ b < w'.heap.size) ∧ Below w.heap.size w w' := by
  have HT : Hid (takeR bs = (3, zeroPT, 0)) := by show _ = _; unfold takeR; rw [hrd]; simp only; rw [if_pos hnp]
  have h512 : decide ((512 : Int) < (np : Int)) = true := by simp; omega
  clear hnp
  have HV : Hid (∀ W p, RAt W p a c bs (bs, 0) → Oct W a c bs → Calls Try.prog 40 #[.pointer (some ⟨p, 0, none⟩), .int .i64 1] W (VPost 8 (rd 8 (bs, 0)) p a c bs W)) := fun W p h h2 => val_all 8 (bs, 0) p a c bs 1 W h h2 (by have := h2.2.2.2.1; simp only; omega) (by decide) (by decide)
  rw [hrd] at HV
  have bB := below_two w (.cells #[.int .i64 0, .int .u64 0, .string ⟨#[]⟩, .slice none 0 0, .slice none 0 0] 50) (.cells #[.slice a bs.length c, .int .i64 0, .int .i64 0, .int .i64 0] 87)
  have BB : Hid (Below w.heap.size w ((w.alloc (.cells #[.int .i64 0, .int .u64 0, .string ⟨#[]⟩, .slice none 0 0, .slice none 0 0] 50)).alloc (.cells #[.slice a bs.length c, .int .i64 0, .int .i64 0, .int .i64 0] 87))) := bB
  have HO : Hid (Oct ((w.alloc (.cells #[.int .i64 0, .int .u64 0, .string ⟨#[]⟩, .slice none 0 0, .slice none 0 0] 50)).alloc (.cells #[.slice a bs.length c, .int .i64 0, .int .i64 0, .int .i64 0] 87)) a c bs) := ho.below bB
  have XR : Hid (((w.alloc (.cells #[.int .i64 0, .int .u64 0, .string ⟨#[]⟩, .slice none 0 0, .slice none 0 0] 50)).alloc (.cells #[.slice a bs.length c, .int .i64 0, .int .i64 0, .int .i64 0] 87)).heap[w.heap.size]? = some (.cells #[.int .i64 0, .int .u64 0, .string ⟨#[]⟩, .slice none 0 0, .slice none 0 0] 50 (0, 0))) := by
    show _ = _
    rw [Below.heap_alloc _ _ _ (by simp)]
    exact heap_alloc_new _ _
  have RA : Hid (RAt ((w.alloc (.cells #[.int .i64 0, .int .u64 0, .string ⟨#[]⟩, .slice none 0 0, .slice none 0 0] 50)).alloc (.cells #[.slice a bs.length c, .int .i64 0, .int .i64 0, .int .i64 0] 87)) (w.heap.size + 1) a c bs (bs, 0)) := by
    have := heap_alloc_new (w.alloc (.cells #[.int .i64 0, .int .u64 0, .string ⟨#[]⟩, .slice none 0 0, .slice none 0 0] 50)) (.cells #[.slice a bs.length c, .int .i64 0, .int .i64 0, .int .i64 0] 87)
    exact ⟨0, Nat.zero_le _, rfl, by simpa using this⟩
  clear ho hrd bB
  go_enter Try.func24, Try.ntmps24
  go_wp2_with fail
  generalize ((w.alloc (.cells #[.int .i64 0, .int .u64 0, .string ⟨#[]⟩, .slice none 0 0, .slice none 0 0] 50)).alloc (.cells #[.slice a bs.length c, .int .i64 0, .int .i64 0, .int .i64 0] 87)) = W1 at *
  refine (HV.out W1 _ RA.out HO.out).mono ?_
  intro e W2 hpost
  obtain ⟨hg2, ⟨er', hit, -⟩ | ⟨u', s', hit, hA, y, F, rfl, hown, hF⟩⟩ := hpost
  · cases hit
  cases hit
  obtain ⟨k5, b5, t5, ka5, kl5, kc5, ia5, il5, ic5, rfl⟩ := Lay.shape 8 (Own.lay 8 hown)
  have XR2 : Hid (W2.heap[w.heap.size]? = some (.cells #[.int .i64 0, .int .u64 0, .string ⟨#[]⟩, .slice none 0 0, .slice none 0 0] 50 (0, 0))) := (hg2.block _ (lt_of_block XR.out) (by simp)).trans XR.out
  have HS2 : Hid (Below w.heap.size w W2) := ⟨hg2.os.trans BB.out.os, hg2.tape.trans BB.out.tape, hg2.output.trans BB.out.output, by have := BB.out.size; have := hg2.size; omega, fun k hk => (hg2.block k (by have := BB.out.size; omega) (by simp; omega)).trans (BB.out.block k hk)⟩
  have HW2 : Hid (w.heap.size + 1 < W2.heap.size) := by obtain ⟨_, _, _, h⟩ := hA; exact lt_of_block h
  have HA2 : Hid (RAt W2 (w.heap.size + 1) a c bs (r, np)) := hA
  have HWN : Hid (Own W2 8 (mk k5 b5 t5 ka5 kl5 kc5 ia5 il5 ic5) u F) := hown
  have HF : Hid (∀ b, F b → w.heap.size < b ∧ b < W2.heap.size) := fun b hb => by have := hF b hb; have := lt_of_block XR.out; omega
  clear hA hown hF
  clear hg2 XR RA HO BB HV
  go_upto_region 3 with fail
  have XR3 : Hid ((W2.alloc (.cells #[.int .i64 k5, .int .u64 b5, .string t5, .slice ka5 kl5 kc5, .slice ia5 il5 ic5] 50)).heap[w.heap.size]? = some (.cells #[.int .i64 0, .int .u64 0, .string ⟨#[]⟩, .slice none 0 0, .slice none 0 0] 50 (0, 0))) := (Below.heap_alloc _ _ _ (lt_of_block XR2.out)).trans XR2.out
  have HA3 : Hid (RAt (W2.alloc (.cells #[.int .i64 k5, .int .u64 b5, .string t5, .slice ka5 kl5 kc5, .slice ia5 il5 ic5] 50)) (w.heap.size + 1) a c bs (r, np)) := HA2.out.same (Below.heap_alloc _ _ _ HW2.out)
  have HS3 : Hid (Below w.heap.size w (W2.alloc (.cells #[.int .i64 k5, .int .u64 b5, .string t5, .slice ka5 kl5 kc5, .slice ia5 il5 ic5] 50))) := nxt HS2.out (below_one _ _)
  clear XR2 HA2 HS2 HWN HF
  generalize (W2.alloc (.cells #[.int .i64 k5, .int .u64 b5, .string t5, .slice ka5 kl5 kc5, .slice ia5 il5 ic5] 50)) = W3 at *
  obtain ⟨i5, hi5, hri5, hblk5⟩ := HA3.out
  obtain ⟨y0, y1, y2, y3, f0, f1, f2, f3⟩ := rd4_cells hblk5
  clear hi5 hri5 hblk5
  go_wp2_with fail
  refine (rfail_set (w.heap.size + 1) a c bs (r, np) 3 W3 HA3.out (by decide)).mono ?_
  rintro e W4 ⟨rfl, hg4, hE4⟩
  have XR4 : Hid (W4.heap[w.heap.size]? = some (.cells #[.int .i64 0, .int .u64 0, .string ⟨#[]⟩, .slice none 0 0, .slice none 0 0] 50 (0, 0))) := (hg4.block _ (lt_of_block XR3.out) (by simp)).trans XR3.out
  have HS4 : Hid (Below w.heap.size w W4) := ⟨hg4.os.trans HS3.out.os, hg4.tape.trans HS3.out.tape, hg4.output.trans HS3.out.output, by have := HS3.out.size; have := hg4.size; omega, fun k hk => (hg4.block k (by have := HS3.out.size; omega) (by simp; omega)).trans (HS3.out.block k hk)⟩
  clear hg4 y0 y1 y2 y3 f0 f1 f2 f3
  obtain ⟨q0, hq0, x2, x3, f2, hne, hne', hE2⟩ := hE4.more
  clear hE2 hE4
  obtain ⟨z0, z1, z2, z3, z4, g0, g1, g2, g3, g4⟩ := box_cells XR4.out
  go_wp2_with fail
  go_region
  all_goals
    go_wp2_with fail
    refine bodyPost_ret (v := .tuple #[mk 0 0 ⟨#[]⟩ none 0 0 none 0 0, .int .i64 0, .int .i64 3]) (by simp [results, Try.results24, go_sem, z0, z1, z2, z3, z4]) rfl ?_
    obtain ⟨e1, e2, e3, e4, e5⟩ := five_fin W4 w.heap.size (.int .i64 0) (.int .u64 0) (.string ⟨#[]⟩) (.slice none 0 0) (.slice none 0 0)
    generalize (((((W4.setCell ⟨w.heap.size, 0, none⟩ (.int .i64 0)).setCell ⟨w.heap.size, 1, none⟩ (.int .u64 0)).setCell ⟨w.heap.size, 2, none⟩ (.string ⟨#[]⟩)).setCell ⟨w.heap.size, 3, none⟩ (.slice none 0 0)).setCell ⟨w.heap.size, 4, none⟩ (.slice none 0 0)) = W5 at *
    rw [HT.out]
    obtain ⟨h1, h2, h3⟩ := fin_own HS4.out e1 e2 e3 e4 e5 (own_zeroPT _) (fun b hb => hb.elim)
    exact ⟨_, _, rfl, h1.same _ fun _ _ => rfl, h2, nxt h3 (Below_drewN _ _ 1)⟩

set_option maxRecDepth 100000 in
set_option maxHeartbeats 3200000 in
theorem rtk_ok (a : Option Addr) (c : Nat) (bs : List UInt8) (w : World) (ho : Oct w a c bs) (u : V 8) (r : List UInt8) (np : Nat) (hrd : rd 8 (bs, 0) = .ok (u, (r, np))) (hnp : ¬ 512 < np) :
    Calls Try.prog 24 #[.slice a bs.length c] w fun e w' => ∃ y F, e = .returned (.tuple #[y, .int .i64 ((takeR bs).2.2 : Int), .int .i64 (takeR bs).1]) ∧ Own w' (takeR bs).2.1.1 y (takeR bs).2.1.2 F ∧ (∀ b, F b → w.heap.size ≤ b ∧ b < w'.heap.size) ∧ Below w.heap.size w w' := by
  have HT : Hid (takeR bs = (0, ⟨8, u⟩, bs.length - r.length)) := by show _ = _; unfold takeR; rw [hrd]; simp only; rw [if_neg hnp]
  have h512 : decide ((512 : Int) < (np : Int)) = false := by simp; omega
  clear hnp
  have HV : Hid (∀ W p, RAt W p a c bs (bs, 0) → Oct W a c bs → Calls Try.prog 40 #[.pointer (some ⟨p, 0, none⟩), .int .i64 1] W (VPost 8 (rd 8 (bs, 0)) p a c bs W)) := fun W p h h2 => val_all 8 (bs, 0) p a c bs 1 W h h2 (by have := h2.2.2.2.1; simp only; omega) (by decide) (by decide)
  rw [hrd] at HV
  have bB := below_two w (.cells #[.int .i64 0, .int .u64 0, .string ⟨#[]⟩, .slice none 0 0, .slice none 0 0] 50) (.cells #[.slice a bs.length c, .int .i64 0, .int .i64 0, .int .i64 0] 87)
  have BB : Hid (Below w.heap.size w ((w.alloc (.cells #[.int .i64 0, .int .u64 0, .string ⟨#[]⟩, .slice none 0 0, .slice none 0 0] 50)).alloc (.cells #[.slice a bs.length c, .int .i64 0, .int .i64 0, .int .i64 0] 87))) := bB
  have HO : Hid (Oct ((w.alloc (.cells #[.int .i64 0, .int .u64 0, .string ⟨#[]⟩, .slice none 0 0, .slice none 0 0] 50)).alloc (.cells #[.slice a bs.length c, .int .i64 0, .int .i64 0, .int .i64 0] 87)) a c bs) := ho.below bB
  have XR : Hid (((w.alloc (.cells #[.int .i64 0, .int .u64 0, .string ⟨#[]⟩, .slice none 0 0, .slice none 0 0] 50)).alloc (.cells #[.slice a bs.length c, .int .i64 0, .int .i64 0, .int .i64 0] 87)).heap[w.heap.size]? = some (.cells #[.int .i64 0, .int .u64 0, .string ⟨#[]⟩, .slice none 0 0, .slice none 0 0] 50 (0, 0))) := by
    show _ = _
    rw [Below.heap_alloc _ _ _ (by simp)]
    exact heap_alloc_new _ _
  have RA : Hid (RAt ((w.alloc (.cells #[.int .i64 0, .int .u64 0, .string ⟨#[]⟩, .slice none 0 0, .slice none 0 0] 50)).alloc (.cells #[.slice a bs.length c, .int .i64 0, .int .i64 0, .int .i64 0] 87)) (w.heap.size + 1) a c bs (bs, 0)) := by
    have := heap_alloc_new (w.alloc (.cells #[.int .i64 0, .int .u64 0, .string ⟨#[]⟩, .slice none 0 0, .slice none 0 0] 50)) (.cells #[.slice a bs.length c, .int .i64 0, .int .i64 0, .int .i64 0] 87)
    exact ⟨0, Nat.zero_le _, rfl, by simpa using this⟩
  clear ho hrd bB
  go_enter Try.func24, Try.ntmps24
  go_wp2_with fail
  generalize ((w.alloc (.cells #[.int .i64 0, .int .u64 0, .string ⟨#[]⟩, .slice none 0 0, .slice none 0 0] 50)).alloc (.cells #[.slice a bs.length c, .int .i64 0, .int .i64 0, .int .i64 0] 87)) = W1 at *
  refine (HV.out W1 _ RA.out HO.out).mono ?_
  intro e W2 hpost
  obtain ⟨hg2, ⟨er', hit, -⟩ | ⟨u', s', hit, hA, y, F, rfl, hown, hF⟩⟩ := hpost
  · cases hit
  cases hit
  obtain ⟨k5, b5, t5, ka5, kl5, kc5, ia5, il5, ic5, rfl⟩ := Lay.shape 8 (Own.lay 8 hown)
  have XR2 : Hid (W2.heap[w.heap.size]? = some (.cells #[.int .i64 0, .int .u64 0, .string ⟨#[]⟩, .slice none 0 0, .slice none 0 0] 50 (0, 0))) := (hg2.block _ (lt_of_block XR.out) (by simp)).trans XR.out
  have HS2 : Hid (Below w.heap.size w W2) := ⟨hg2.os.trans BB.out.os, hg2.tape.trans BB.out.tape, hg2.output.trans BB.out.output, by have := BB.out.size; have := hg2.size; omega, fun k hk => (hg2.block k (by have := BB.out.size; omega) (by simp; omega)).trans (BB.out.block k hk)⟩
  have HW2 : Hid (w.heap.size + 1 < W2.heap.size) := by obtain ⟨_, _, _, h⟩ := hA; exact lt_of_block h
  have HA2 : Hid (RAt W2 (w.heap.size + 1) a c bs (r, np)) := hA
  have HWN : Hid (Own W2 8 (mk k5 b5 t5 ka5 kl5 kc5 ia5 il5 ic5) u F) := hown
  have HF : Hid (∀ b, F b → w.heap.size < b ∧ b < W2.heap.size) := fun b hb => by have := hF b hb; have := lt_of_block XR.out; omega
  clear hA hown hF
  clear hg2 XR RA HO BB HV
  go_upto_region 3 with fail
  have XR3 : Hid ((W2.alloc (.cells #[.int .i64 k5, .int .u64 b5, .string t5, .slice ka5 kl5 kc5, .slice ia5 il5 ic5] 50)).heap[w.heap.size]? = some (.cells #[.int .i64 0, .int .u64 0, .string ⟨#[]⟩, .slice none 0 0, .slice none 0 0] 50 (0, 0))) := (Below.heap_alloc _ _ _ (lt_of_block XR2.out)).trans XR2.out
  have HA3 : Hid (RAt (W2.alloc (.cells #[.int .i64 k5, .int .u64 b5, .string t5, .slice ka5 kl5 kc5, .slice ia5 il5 ic5] 50)) (w.heap.size + 1) a c bs (r, np)) := HA2.out.same (Below.heap_alloc _ _ _ HW2.out)
  have HS3 : Hid (Below w.heap.size w (W2.alloc (.cells #[.int .i64 k5, .int .u64 b5, .string t5, .slice ka5 kl5 kc5, .slice ia5 il5 ic5] 50))) := nxt HS2.out (below_one _ _)
  have YV3 : Hid ((W2.alloc (.cells #[.int .i64 k5, .int .u64 b5, .string t5, .slice ka5 kl5 kc5, .slice ia5 il5 ic5] 50)).heap[W2.heap.size]? = some (.cells #[.int .i64 k5, .int .u64 b5, .string t5, .slice ka5 kl5 kc5, .slice ia5 il5 ic5] 50 (0, 0))) := heap_alloc_new _ _
  have HO3 : Hid (Own (W2.alloc (.cells #[.int .i64 k5, .int .u64 b5, .string t5, .slice ka5 kl5 kc5, .slice ia5 il5 ic5] 50)) 8 (mk k5 b5 t5 ka5 kl5 kc5 ia5 il5 ic5) u F) := HWN.out.same _ fun b hb => Below.heap_alloc _ _ _ (HF.out b hb).2
  have HF3 : Hid (∀ b, F b → w.heap.size < b ∧ b < (W2.alloc (.cells #[.int .i64 k5, .int .u64 b5, .string t5, .slice ka5 kl5 kc5, .slice ia5 il5 ic5] 50)).heap.size) := fun b hb => by have := HF.out b hb; simp; omega
  have hV : w.heap.size + 1 < W2.heap.size := HW2.out
  clear XR2 HA2 HS2 HWN HF
  generalize (W2.alloc (.cells #[.int .i64 k5, .int .u64 b5, .string t5, .slice ka5 kl5 kc5, .slice ia5 il5 ic5] 50)) = W3 at *
  generalize W2.heap.size = V2 at *
  obtain ⟨i5, hi5, hri5, hblk5⟩ := HA3.out
  have HBK : Hid (W3.heap[w.heap.size + 1]? = _) := hblk5
  have HI : Hid (bs.length - r.length = i5) := by show _ = _; have h1 : r = bs.drop i5 := hri5; rw [h1, List.length_drop]; omega
  obtain ⟨y0, y1, y2, y3, f0, f1, f2, f3⟩ := rd4_cells hblk5
  clear hi5 hri5 hblk5
  go_wp2_with fail
  refine (rfail_no (w.heap.size + 1) _ W3 HBK.out).mono ?_
  rintro e w4 ⟨rfl, hw4⟩
  subst w4
  obtain ⟨z0, z1, z2, z3, z4, g0, g1, g2, g3, g4⟩ := box_cells XR3.out
  obtain ⟨v0, v1, v2, v3, v4, h0, h1, h2, h3, h4⟩ := box_cells YV3.out
  go_wp2_with fail
  go_region
  all_goals
    go_wp2_with fail
    refine bodyPost_ret (v := .tuple #[mk k5 b5 t5 ka5 kl5 kc5 ia5 il5 ic5, .int .i64 i5, .int .i64 0]) (by simp [results, Try.results24, go_sem, z0, z1, z2, z3, z4]) rfl ?_
    obtain ⟨e1, e2, e3, e4, e5⟩ := five_fin W3 w.heap.size (.int .i64 k5) (.int .u64 b5) (.string t5) (.slice ka5 kl5 kc5) (.slice ia5 il5 ic5)
    generalize (((((W3.setCell ⟨w.heap.size, 0, none⟩ (.int .i64 k5)).setCell ⟨w.heap.size, 1, none⟩ (.int .u64 b5)).setCell ⟨w.heap.size, 2, none⟩ (.string t5)).setCell ⟨w.heap.size, 3, none⟩ (.slice ka5 kl5 kc5)).setCell ⟨w.heap.size, 4, none⟩ (.slice ia5 il5 ic5)) = W5 at *
    rw [HT.out, HI.out]
    obtain ⟨h1, h2, h3⟩ := fin_own HS3.out e1 e2 e3 e4 e5 HO3.out HF3.out
    exact ⟨_, _, rfl, h1.same _ fun _ _ => rfl, h2, nxt h3 (Below_drewN _ _ 1)⟩

theorem rtk_any (a : Option Addr) (c : Nat) (bs : List UInt8) (w : World) (ho : Oct w a c bs) :
    Calls Try.prog 24 #[.slice a bs.length c] w fun e w' => ∃ y F, e = .returned (.tuple #[y, .int .i64 ((takeR bs).2.2 : Int), .int .i64 (takeR bs).1]) ∧ Own w' (takeR bs).2.1.1 y (takeR bs).2.1.2 F ∧ (∀ b, F b → w.heap.size ≤ b ∧ b < w'.heap.size) ∧ Below w.heap.size w w' := by
  cases hrd : rd 8 (bs, 0) with
  | error er => exact rtk_err a c bs w ho er hrd
  | ok us =>
    obtain ⟨u, r, np⟩ := us
    by_cases h : 512 < np
    · exact rtk_many a c bs w ho u r np hrd h
    · exact rtk_ok a c bs w ho u r np hrd h

end Go.Proofs.Ytfdbhojghkdlkaa
