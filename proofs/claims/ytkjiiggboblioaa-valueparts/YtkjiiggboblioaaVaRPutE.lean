/-
  The page's put: what is refused.
-/
import Derived.Test.YtkjiiggboblioaaVaRPut
namespace Go.Proofs.Ytkjiiggboblioaa
open Go.ChangeShapes Go.WideShapes Go.ChangeAt Go.RowKit
open Fl

set_option maxRecDepth 100000 in
set_option maxHeartbeats 6400000 in
theorem rput_kind {n : Nat} (k b : Int) (t : ByteArray) (ks : List ByteArray) (its : List (V n)) (s : St) (x : V n) (xv yv : Value) (F Fx : Nat → Prop) (w : World) (ho : Own w (n + 1) xv (k, b, t, ks, its) F) (hx : Own w n yv x Fx)
    (hup : k = 5 → Up ks) (hsx : -9223372036854775808 ≤ s.2.2 ∧ s.2.2 ≤ 9223372036854775807) (r : V (n + 1)) (he : (plc k ks its.length s).1 = 81) :
    Calls Try.prog 30 #[xv, .agg #[.bool s.1, .string s.2.1, .int .i64 s.2.2], yv] w (PutPost (n := n) w F Fx (81, r)) := by
  obtain ⟨ka, kc, ia, ic, rfl, hfit, nk, ni, hS, hI⟩ := Own.lay (n + 1) ho
  obtain ⟨k5, b5, t5, ka5, kl5, kc5, ia5, il5, ic5, rfl⟩ := Lay.shape n (Own.lay n hx)
  have HPL : Hid (∀ W, Below w.heap.size w W → Calls Try.prog 16 #[mk k b t ka ks.length kc ia its.length ic, .agg #[.bool s.1, .string s.2.1, .int .i64 s.2.2]] W fun e w' => e = .returned (.tuple #[.int .i64 (rplc (plc k ks its.length s)), .int .i64 (plc k ks its.length s).1]) ∧ Below W.heap.size W w') := fun W hb => place_any k b t ka kc ia its.length ic ks s W hup (LayS.below hS hb) hfit.2.2.2.2.2.1 hsx hfit.2.2.2.2.2.2.2.2
  have hrp : rplc (plc k ks its.length s) = -1 := by unfold rplc; rw [if_neg (by omega)]
  rw [hrp, he] at HPL
  obtain ⟨q, key, ix⟩ := s
  clear hfit nk ni hS hI hrp he hup hsx ho hx
  go_enter Try.func30, Try.ntmps30
  go_wp2_with fail
  obtain ⟨FN, BN, SN⟩ := four_new w (.cells #[.int .i64 k, .int .u64 b, .string t, .slice ka ks.length kc, .slice ia its.length ic] 26) (.cells #[.bool q, .string key, .int .i64 ix] 42) (.cells #[.int .i64 k5, .int .u64 b5, .string t5, .slice ka5 kl5 kc5, .slice ia5 il5 ic5] 26) (.cells #[.int .i64 0, .int .u64 0, .string ⟨#[]⟩, .slice none 0 0, .slice none 0 0] 26)
  refine (HPL.out _ BN).mono ?_
  rintro e w1 ⟨rfl, hb1⟩
  have F1 := FN.below hb1 (by rw [SN]; omega)
  have B1 : Hid (Below w.heap.size w w1) := nxt BN hb1
  clear FN BN SN hb1 HPL
  obtain ⟨x0, x1, x2, x3, x4, y0, y1, y2, y3, y4⟩ := box_cells F1.one
  obtain ⟨u0, u1, u2, u3, u4, v0, v1, v2, v3, v4⟩ := box_cells F1.four
  have s1 : w1.cell? ⟨w.heap.size + 1, 1, none⟩ = some (.string key) := by simp only [World.cell?, F1.two]; rfl
  have s2 : w1.cell? ⟨w.heap.size + 1, 2, none⟩ = some (.int .i64 ix) := by simp only [World.cell?, F1.two]; rfl
  clear F1
  go_wp2_with fail
  refine bodyPost_ret (v := .tuple #[mk 0 0 ⟨#[]⟩ none 0 0 none 0 0, .int .i64 (81)]) (by simp [results, Try.results30, go_sem, u0, u1, u2, u3, u4]) rfl ?_
  exact put_fail (by decide) (Kept.of_below B1.out)

set_option maxRecDepth 100000 in
set_option maxHeartbeats 6400000 in
theorem rput_far {n : Nat} (k b : Int) (t : ByteArray) (ks : List ByteArray) (its : List (V n)) (s : St) (x : V n) (xv yv : Value) (F Fx : Nat → Prop) (w : World) (ho : Own w (n + 1) xv (k, b, t, ks, its) F) (hx : Own w n yv x Fx)
    (hup : k = 5 → Up ks) (hsx : -9223372036854775808 ≤ s.2.2 ∧ s.2.2 ≤ 9223372036854775807) (r : V (n + 1)) (he : (plc k ks its.length s).1 = 82) (hx2 : s.2.2 ≠ its.length) :
    Calls Try.prog 30 #[xv, .agg #[.bool s.1, .string s.2.1, .int .i64 s.2.2], yv] w (PutPost (n := n) w F Fx (82, r)) := by
  obtain ⟨ka, kc, ia, ic, rfl, hfit, nk, ni, hS, hI⟩ := Own.lay (n + 1) ho
  obtain ⟨k5, b5, t5, ka5, kl5, kc5, ia5, il5, ic5, rfl⟩ := Lay.shape n (Own.lay n hx)
  have HPL : Hid (∀ W, Below w.heap.size w W → Calls Try.prog 16 #[mk k b t ka ks.length kc ia its.length ic, .agg #[.bool s.1, .string s.2.1, .int .i64 s.2.2]] W fun e w' => e = .returned (.tuple #[.int .i64 (rplc (plc k ks its.length s)), .int .i64 (plc k ks its.length s).1]) ∧ Below W.heap.size W w') := fun W hb => place_any k b t ka kc ia its.length ic ks s W hup (LayS.below hS hb) hfit.2.2.2.2.2.1 hsx hfit.2.2.2.2.2.2.2.2
  have hrp : rplc (plc k ks its.length s) = -1 := by unfold rplc; rw [if_neg (by omega)]
  rw [hrp, he] at HPL
  obtain ⟨q, key, ix⟩ := s
  have hx3 : (ix == (its.length : Int)) = false := by simpa using hx2
  clear hx2
  clear hfit nk ni hS hI hrp he hup hsx ho hx
  go_enter Try.func30, Try.ntmps30
  go_wp2_with fail
  obtain ⟨FN, BN, SN⟩ := four_new w (.cells #[.int .i64 k, .int .u64 b, .string t, .slice ka ks.length kc, .slice ia its.length ic] 26) (.cells #[.bool q, .string key, .int .i64 ix] 42) (.cells #[.int .i64 k5, .int .u64 b5, .string t5, .slice ka5 kl5 kc5, .slice ia5 il5 ic5] 26) (.cells #[.int .i64 0, .int .u64 0, .string ⟨#[]⟩, .slice none 0 0, .slice none 0 0] 26)
  refine (HPL.out _ BN).mono ?_
  rintro e w1 ⟨rfl, hb1⟩
  have F1 := FN.below hb1 (by rw [SN]; omega)
  have B1 : Hid (Below w.heap.size w w1) := nxt BN hb1
  clear FN BN SN hb1 HPL
  obtain ⟨x0, x1, x2, x3, x4, y0, y1, y2, y3, y4⟩ := box_cells F1.one
  obtain ⟨u0, u1, u2, u3, u4, v0, v1, v2, v3, v4⟩ := box_cells F1.four
  have s1 : w1.cell? ⟨w.heap.size + 1, 1, none⟩ = some (.string key) := by simp only [World.cell?, F1.two]; rfl
  have s2 : w1.cell? ⟨w.heap.size + 1, 2, none⟩ = some (.int .i64 ix) := by simp only [World.cell?, F1.two]; rfl
  clear F1
  go_wp2_with fail
  refine bodyPost_ret (v := .tuple #[mk 0 0 ⟨#[]⟩ none 0 0 none 0 0, .int .i64 (82)]) (by simp [results, Try.results30, go_sem, u0, u1, u2, u3, u4]) rfl ?_
  exact put_fail (by decide) (Kept.of_below B1.out)

set_option maxRecDepth 100000 in
set_option maxHeartbeats 6400000 in
theorem rput_full {n : Nat} (k b : Int) (t : ByteArray) (ks : List ByteArray) (its : List (V n)) (s : St) (x : V n) (xv yv : Value) (F Fx : Nat → Prop) (w : World) (ho : Own w (n + 1) xv (k, b, t, ks, its) F) (hx : Own w n yv x Fx)
    (hup : k = 5 → Up ks) (hsx : -9223372036854775808 ≤ s.2.2 ∧ s.2.2 ≤ 9223372036854775807) (r : V (n + 1)) (he : (plc k ks its.length s).1 = 82) (hx2 : s.2.2 = its.length) (hl : its.length = 32) :
    Calls Try.prog 30 #[xv, .agg #[.bool s.1, .string s.2.1, .int .i64 s.2.2], yv] w (PutPost (n := n) w F Fx (3, r)) := by
  obtain ⟨ka, kc, ia, ic, rfl, hfit, nk, ni, hS, hI⟩ := Own.lay (n + 1) ho
  obtain ⟨k5, b5, t5, ka5, kl5, kc5, ia5, il5, ic5, rfl⟩ := Lay.shape n (Own.lay n hx)
  have HPL : Hid (∀ W, Below w.heap.size w W → Calls Try.prog 16 #[mk k b t ka ks.length kc ia its.length ic, .agg #[.bool s.1, .string s.2.1, .int .i64 s.2.2]] W fun e w' => e = .returned (.tuple #[.int .i64 (rplc (plc k ks its.length s)), .int .i64 (plc k ks its.length s).1]) ∧ Below W.heap.size W w') := fun W hb => place_any k b t ka kc ia its.length ic ks s W hup (LayS.below hS hb) hfit.2.2.2.2.2.1 hsx hfit.2.2.2.2.2.2.2.2
  have hrp : rplc (plc k ks its.length s) = -1 := by unfold rplc; rw [if_neg (by omega)]
  rw [hrp, he] at HPL
  obtain ⟨q, key, ix⟩ := s
  have hx3 : (ix == (its.length : Int)) = true := by simpa using hx2
  have hl2 : (32 : Int) ≤ (its.length : Int) := by omega
  clear hx2 hl
  clear hfit nk ni hS hI hrp he hup hsx ho hx
  go_enter Try.func30, Try.ntmps30
  go_wp2_with fail
  obtain ⟨FN, BN, SN⟩ := four_new w (.cells #[.int .i64 k, .int .u64 b, .string t, .slice ka ks.length kc, .slice ia its.length ic] 26) (.cells #[.bool q, .string key, .int .i64 ix] 42) (.cells #[.int .i64 k5, .int .u64 b5, .string t5, .slice ka5 kl5 kc5, .slice ia5 il5 ic5] 26) (.cells #[.int .i64 0, .int .u64 0, .string ⟨#[]⟩, .slice none 0 0, .slice none 0 0] 26)
  refine (HPL.out _ BN).mono ?_
  rintro e w1 ⟨rfl, hb1⟩
  have F1 := FN.below hb1 (by rw [SN]; omega)
  have B1 : Hid (Below w.heap.size w w1) := nxt BN hb1
  clear FN BN SN hb1 HPL
  obtain ⟨x0, x1, x2, x3, x4, y0, y1, y2, y3, y4⟩ := box_cells F1.one
  obtain ⟨u0, u1, u2, u3, u4, v0, v1, v2, v3, v4⟩ := box_cells F1.four
  have s1 : w1.cell? ⟨w.heap.size + 1, 1, none⟩ = some (.string key) := by simp only [World.cell?, F1.two]; rfl
  have s2 : w1.cell? ⟨w.heap.size + 1, 2, none⟩ = some (.int .i64 ix) := by simp only [World.cell?, F1.two]; rfl
  clear F1
  go_wp2_with fail
  refine bodyPost_ret (v := .tuple #[mk 0 0 ⟨#[]⟩ none 0 0 none 0 0, .int .i64 (3)]) (by simp [results, Try.results30, go_sem, u0, u1, u2, u3, u4]) rfl ?_
  exact put_fail (by decide) (Kept.of_below B1.out)

set_option maxRecDepth 100000 in
set_option maxHeartbeats 6400000 in
theorem rput_name {n : Nat} (k b : Int) (t : ByteArray) (ks : List ByteArray) (its : List (V n)) (s : St) (x : V n) (xv yv : Value) (F Fx : Nat → Prop) (w : World) (ho : Own w (n + 1) xv (k, b, t, ks, its) F) (hx : Own w n yv x Fx)
    (hup : k = 5 → Up ks) (hsx : -9223372036854775808 ≤ s.2.2 ∧ s.2.2 ≤ 9223372036854775807) (r : V (n + 1)) (he : (plc k ks its.length s).1 = 71) (hk : keyB s.2.1 = false) (hz : s.2.1.size ≤ 140737488351232) :
    Calls Try.prog 30 #[xv, .agg #[.bool s.1, .string s.2.1, .int .i64 s.2.2], yv] w (PutPost (n := n) w F Fx (31, r)) := by
  obtain ⟨ka, kc, ia, ic, rfl, hfit, nk, ni, hS, hI⟩ := Own.lay (n + 1) ho
  obtain ⟨k5, b5, t5, ka5, kl5, kc5, ia5, il5, ic5, rfl⟩ := Lay.shape n (Own.lay n hx)
  have HPL : Hid (∀ W, Below w.heap.size w W → Calls Try.prog 16 #[mk k b t ka ks.length kc ia its.length ic, .agg #[.bool s.1, .string s.2.1, .int .i64 s.2.2]] W fun e w' => e = .returned (.tuple #[.int .i64 (rplc (plc k ks its.length s)), .int .i64 (plc k ks its.length s).1]) ∧ Below W.heap.size W w') := fun W hb => place_any k b t ka kc ia its.length ic ks s W hup (LayS.below hS hb) hfit.2.2.2.2.2.1 hsx hfit.2.2.2.2.2.2.2.2
  have hrp : rplc (plc k ks its.length s) = -1 := by unfold rplc; rw [if_neg (by omega)]
  rw [hrp, he] at HPL
  obtain ⟨q, key, ix⟩ := s
  have CK : Hid (∀ W, Calls Try.prog 40 #[.string key] W fun e w' => e = .returned (.bool false) ∧ w' = W) := fun W => by rw [← hk]; exact rkey_any key W hz
  clear hk hz
  clear hfit nk ni hS hI hrp he hup hsx ho hx
  go_enter Try.func30, Try.ntmps30
  go_wp2_with fail
  obtain ⟨FN, BN, SN⟩ := four_new w (.cells #[.int .i64 k, .int .u64 b, .string t, .slice ka ks.length kc, .slice ia its.length ic] 26) (.cells #[.bool q, .string key, .int .i64 ix] 42) (.cells #[.int .i64 k5, .int .u64 b5, .string t5, .slice ka5 kl5 kc5, .slice ia5 il5 ic5] 26) (.cells #[.int .i64 0, .int .u64 0, .string ⟨#[]⟩, .slice none 0 0, .slice none 0 0] 26)
  refine (HPL.out _ BN).mono ?_
  rintro e w1 ⟨rfl, hb1⟩
  have F1 := FN.below hb1 (by rw [SN]; omega)
  have B1 : Hid (Below w.heap.size w w1) := nxt BN hb1
  clear FN BN SN hb1 HPL
  obtain ⟨x0, x1, x2, x3, x4, y0, y1, y2, y3, y4⟩ := box_cells F1.one
  obtain ⟨u0, u1, u2, u3, u4, v0, v1, v2, v3, v4⟩ := box_cells F1.four
  have s1 : w1.cell? ⟨w.heap.size + 1, 1, none⟩ = some (.string key) := by simp only [World.cell?, F1.two]; rfl
  have s2 : w1.cell? ⟨w.heap.size + 1, 2, none⟩ = some (.int .i64 ix) := by simp only [World.cell?, F1.two]; rfl
  clear F1
  go_wp2_with (go_at_call 40; refine (CK.out _).mono ?_; rintro e w2 ⟨rfl, rfl⟩)
  refine bodyPost_ret (v := .tuple #[mk 0 0 ⟨#[]⟩ none 0 0 none 0 0, .int .i64 (31)]) (by simp [results, Try.results30, go_sem, u0, u1, u2, u3, u4]) rfl ?_
  exact put_fail (by decide) (Kept.of_below B1.out)

set_option maxRecDepth 100000 in
set_option maxHeartbeats 6400000 in
theorem rput_many {n : Nat} (k b : Int) (t : ByteArray) (ks : List ByteArray) (its : List (V n)) (s : St) (x : V n) (xv yv : Value) (F Fx : Nat → Prop) (w : World) (ho : Own w (n + 1) xv (k, b, t, ks, its) F) (hx : Own w n yv x Fx)
    (hup : k = 5 → Up ks) (hsx : -9223372036854775808 ≤ s.2.2 ∧ s.2.2 ≤ 9223372036854775807) (r : V (n + 1)) (he : (plc k ks its.length s).1 = 71) (hk : keyB s.2.1 = true) (hz : s.2.1.size ≤ 140737488351232) (hl : its.length = 32) :
    Calls Try.prog 30 #[xv, .agg #[.bool s.1, .string s.2.1, .int .i64 s.2.2], yv] w (PutPost (n := n) w F Fx (3, r)) := by
  obtain ⟨ka, kc, ia, ic, rfl, hfit, nk, ni, hS, hI⟩ := Own.lay (n + 1) ho
  obtain ⟨k5, b5, t5, ka5, kl5, kc5, ia5, il5, ic5, rfl⟩ := Lay.shape n (Own.lay n hx)
  have HPL : Hid (∀ W, Below w.heap.size w W → Calls Try.prog 16 #[mk k b t ka ks.length kc ia its.length ic, .agg #[.bool s.1, .string s.2.1, .int .i64 s.2.2]] W fun e w' => e = .returned (.tuple #[.int .i64 (rplc (plc k ks its.length s)), .int .i64 (plc k ks its.length s).1]) ∧ Below W.heap.size W w') := fun W hb => place_any k b t ka kc ia its.length ic ks s W hup (LayS.below hS hb) hfit.2.2.2.2.2.1 hsx hfit.2.2.2.2.2.2.2.2
  have hrp : rplc (plc k ks its.length s) = -1 := by unfold rplc; rw [if_neg (by omega)]
  rw [hrp, he] at HPL
  obtain ⟨q, key, ix⟩ := s
  have CK : Hid (∀ W, Calls Try.prog 40 #[.string key] W fun e w' => e = .returned (.bool true) ∧ w' = W) := fun W => by rw [← hk]; exact rkey_any key W hz
  have hl2 : (32 : Int) ≤ (its.length : Int) := by omega
  clear hk hz hl
  clear hfit nk ni hS hI hrp he hup hsx ho hx
  go_enter Try.func30, Try.ntmps30
  go_wp2_with fail
  obtain ⟨FN, BN, SN⟩ := four_new w (.cells #[.int .i64 k, .int .u64 b, .string t, .slice ka ks.length kc, .slice ia its.length ic] 26) (.cells #[.bool q, .string key, .int .i64 ix] 42) (.cells #[.int .i64 k5, .int .u64 b5, .string t5, .slice ka5 kl5 kc5, .slice ia5 il5 ic5] 26) (.cells #[.int .i64 0, .int .u64 0, .string ⟨#[]⟩, .slice none 0 0, .slice none 0 0] 26)
  refine (HPL.out _ BN).mono ?_
  rintro e w1 ⟨rfl, hb1⟩
  have F1 := FN.below hb1 (by rw [SN]; omega)
  have B1 : Hid (Below w.heap.size w w1) := nxt BN hb1
  clear FN BN SN hb1 HPL
  obtain ⟨x0, x1, x2, x3, x4, y0, y1, y2, y3, y4⟩ := box_cells F1.one
  obtain ⟨u0, u1, u2, u3, u4, v0, v1, v2, v3, v4⟩ := box_cells F1.four
  have s1 : w1.cell? ⟨w.heap.size + 1, 1, none⟩ = some (.string key) := by simp only [World.cell?, F1.two]; rfl
  have s2 : w1.cell? ⟨w.heap.size + 1, 2, none⟩ = some (.int .i64 ix) := by simp only [World.cell?, F1.two]; rfl
  clear F1
  go_wp2_with (go_at_call 40; refine (CK.out _).mono ?_; rintro e w2 ⟨rfl, rfl⟩)
  refine bodyPost_ret (v := .tuple #[mk 0 0 ⟨#[]⟩ none 0 0 none 0 0, .int .i64 (3)]) (by simp [results, Try.results30, go_sem, u0, u1, u2, u3, u4]) rfl ?_
  exact put_fail (by decide) (Kept.of_below B1.out)

end Go.Proofs.Ytkjiiggboblioaa
