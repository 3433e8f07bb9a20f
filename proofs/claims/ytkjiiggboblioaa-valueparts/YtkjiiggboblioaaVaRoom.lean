/-
  The page's example, part by part: a new key in a record without keys.
-/
import Derived.Test.YtkjiiggboblioaaVaSmall
namespace Go.Proofs.Ytkjiiggboblioaa
open Go.ChangeShapes Go.WideShapes Go.ChangeAt Go.RowKit
open Fl

abbrev keyb : ByteArray := ⟨#[98]⟩
theorem keyb_may : keyB keyb = true := by decide

theorem new_cell1 (w : World) (v : Value) (t : TypeId) : (w.alloc (.cells #[v] t)).cell? ⟨w.heap.size, 0, none⟩ = some v := by
  simp only [World.cell?, heap_alloc_new]
  rfl

theorem after_new {W w3 : World} {o : Obj} (hb : Below (W.alloc o).drew.heap.size (W.alloc o).drew w3) : Below W.heap.size W w3 := nxt ((Below.refl _ _).alloc (Nat.le_refl _) o).drew hb

theorem step1 (w : World) (a0 a1 a2 : Value) (t : TypeId) (n : Nat) : ((w.alloc (.cells #[a0, a1, a2] t)).drewN n).cell? ⟨w.heap.size, 1, none⟩ = some a1 := by
  show (w.alloc (.cells #[a0, a1, a2] t)).cell? ⟨w.heap.size, 1, none⟩ = some a1
  simp only [World.cell?, heap_alloc_new]
  rfl

theorem ownsRow_low {w : World} {base base' : Nat} {e : TypeId} {size : Nat} {v : Value} {n : Nat} {xs : List Value} (h : w.ownsRow base e size v n xs) (hb : base' ≤ base) : w.ownsRow base' e size v n xs := by
  obtain ⟨h1, h2⟩ := h
  refine ⟨h1, ?_⟩
  rcases h2 with h2 | ⟨g, cap, cur, hv, hg, r⟩
  · exact Or.inl h2
  · exact Or.inr ⟨g, cap, cur, hv, by omega, r⟩

theorem five_set3 {w : World} {P : Nat} {a0 a1 a2 a3 a4 u : Value} {t : TypeId} (h : w.heap[P]? = some (.cells #[a0, a1, a2, a3, a4] t (0, 0))) : (w.setCell ⟨P, 3, none⟩ u).heap[P]? = some (.cells #[a0, a1, a2, u, a4] t (0, 0)) := by
  simp [World.setCell, Array.getElem?_modify, h]

theorem five_set4 {w : World} {P : Nat} {a0 a1 a2 a3 a4 u : Value} {t : TypeId} (h : w.heap[P]? = some (.cells #[a0, a1, a2, a3, a4] t (0, 0))) : (w.setCell ⟨P, 4, none⟩ u).heap[P]? = some (.cells #[a0, a1, a2, a3, u] t (0, 0)) := by
  simp [World.setCell, Array.getElem?_modify, h]

theorem room_mid {w W2 w3 : World} {P base : Nat} {a3 : Option Addr} {l3 : Nat} {a0 a1 a2 b3 b4 : Value} {t : TypeId} {xs : List Value} (hw : Below w.heap.size w W2) (hb : Below W2.heap.size W2 w3) (hp : P < w.heap.size)
    (hP : W2.heap[P]? = some (.cells #[a0, a1, a2, b3, b4] t (0, 0))) (ho : w3.ownsRow base 9 1 (.slice a3 1 l3) 1 xs) (hbase : w.heap.size ≤ base) :
    (w3.setCell ⟨P, 3, none⟩ (.slice a3 1 l3)).heap[P]? = some (.cells #[a0, a1, a2, .slice a3 1 l3, b4] t (0, 0)) ∧ (w3.setCell ⟨P, 3, none⟩ (.slice a3 1 l3)).ownsRow w.heap.size 9 1 (.slice a3 1 l3) 1 xs ∧
      w.grownBy (w3.setCell ⟨P, 3, none⟩ (.slice a3 1 l3)) (some P) := by
  have hs := hw.size
  refine ⟨five_set3 (by rw [hb.block P (by omega)]; exact hP), ownsRow_same (ownsRow_low ho hbase) fun g hg => ?_, ?_⟩
  · have := (ho.lt g hg).1
    rw [Below.heap_setCell _ _ _ _ (by simp; omega)]
  · have hbw := nxt hw hb
    refine ⟨hbw.os, hbw.tape, hbw.output, by have := hbw.size; simpa [World.setCell] using this, fun k hk hne => ?_⟩
    have hne' : k ≠ P := fun e => hne (by rw [e])
    rw [Below.heap_setCell _ _ _ _ hne']
    exact hbw.block k hk

theorem room_end {w W4 w5 : World} {P base : Nat} {a3 a5 : Option Addr} {l3 l5 : Nat} {a0 a1 a2 b4 : Value} {xs ys : List Value} (hg : w.grownBy W4 (some P)) (hb : Below W4.heap.size W4 w5) (hp : P < w.heap.size)
    (hP : W4.heap[P]? = some (.cells #[a0, a1, a2, .slice a3 1 l3, b4] 26 (0, 0))) (hk : W4.ownsRow w.heap.size 9 1 (.slice a3 1 l3) 1 xs) (ho : w5.ownsRow base 26 5 (.slice a5 1 l5) 1 ys) (hbase : W4.heap.size ≤ base) :
    (w5.setCell ⟨P, 4, none⟩ (.slice a5 1 l5)).heap[P]? = some (.cells #[a0, a1, a2, .slice a3 1 l3, .slice a5 1 l5] 26 (0, 0)) ∧ (w5.setCell ⟨P, 4, none⟩ (.slice a5 1 l5)).ownsRow w.heap.size 9 1 (.slice a3 1 l3) 1 xs ∧
      (w5.setCell ⟨P, 4, none⟩ (.slice a5 1 l5)).ownsRow w.heap.size 26 5 (.slice a5 1 l5) 1 ys ∧ w.grownBy (w5.setCell ⟨P, 4, none⟩ (.slice a5 1 l5)) (some P) := by
  have hs := hg.size
  have hs5 := hb.size
  refine ⟨five_set4 (by rw [hb.block P (by omega)]; exact hP), ownsRow_same hk fun g hg => ?_, ownsRow_same (ownsRow_low ho (by omega)) fun g hg => ?_, ?_⟩
  · have := hk.lt g hg
    rw [Below.heap_setCell _ _ _ _ (by simp; omega)]
    exact hb.block g this.2
  · have := (ho.lt g hg).1
    rw [Below.heap_setCell _ _ _ _ (by simp; omega)]
  · have hbw := grown_below hg hb
    refine ⟨hbw.os, hbw.tape, hbw.output, by have := hbw.size; simpa [World.setCell] using this, fun k hk hne => ?_⟩
    have hne' : k ≠ P := fun e => hne (by rw [e])
    rw [Below.heap_setCell _ _ _ _ hne']
    exact hbw.block k hk hne

theorem new_five (w : World) (a0 a1 a2 a3 a4 : Value) (t : TypeId) : (w.alloc (.cells #[a0, a1, a2, a3, a4] t)).cell? ⟨w.heap.size, 0, none⟩ = some a0 ∧ (w.alloc (.cells #[a0, a1, a2, a3, a4] t)).cell? ⟨w.heap.size, 1, none⟩ = some a1 ∧
    (w.alloc (.cells #[a0, a1, a2, a3, a4] t)).cell? ⟨w.heap.size, 2, none⟩ = some a2 ∧ (w.alloc (.cells #[a0, a1, a2, a3, a4] t)).cell? ⟨w.heap.size, 3, none⟩ = some a3 ∧ (w.alloc (.cells #[a0, a1, a2, a3, a4] t)).cell? ⟨w.heap.size, 4, none⟩ = some a4 := by
  have := box_cells (heap_alloc_new w (.cells #[a0, a1, a2, a3, a4] t))
  exact ⟨this.1, this.2.1, this.2.2.1, this.2.2.2.1, this.2.2.2.2.1⟩

set_option maxRecDepth 100000 in
set_option maxHeartbeats 1600000 in
theorem room_one (P : Nat) (w : World) (hP : w.heap[P]? = some (.cells #[.int .i64 5, .int .u64 0, .string ⟨#[]⟩, .slice none 0 0, .slice none 0 0] 26 (0, 0))) :
    Calls Try.prog 19 #[.pointer (some ⟨P, 0, none⟩), .agg #[.bool true, .string keyb, .int .i64 0]] w fun e w' => e = .returned (.tuple #[.int .i64 0, .int .i64 0]) ∧
      ∃ kv iv, w'.heap[P]? = some (.cells #[.int .i64 5, .int .u64 0, .string ⟨#[]⟩, kv, iv] 26 (0, 0)) ∧ w'.ownsRow w.heap.size 9 1 kv 1 [.string keyb] ∧
        w'.ownsRow w.heap.size 26 5 iv 1 [.int .i64 0, .int .u64 0, .string ⟨#[]⟩, .slice none 0 0, .slice none 0 0] ∧ w.grownBy w' (some P) := by
  obtain ⟨p0, p1, p2, p3, p4, f0, f1, f2, f3, f4⟩ := box_cells hP
  have hp : P < w.heap.size := lt_of_block hP
  have hk := keyb_may
  have HP : Hid (w.heap[P]? = some (.cells #[.int .i64 5, .int .u64 0, .string ⟨#[]⟩, .slice none 0 0, .slice none 0 0] 26 (0, 0))) := hP
  clear hP
  go_enter Try.func19, Try.ntmps19
  go_wp2_with (go_at_call 26; refine (key_any _ _ (by decide)).mono ?_; rw [hk]; rintro e w' ⟨rfl, rfl⟩)
  go_quiet (fail)
  go_wp2_with fail
  generalize hW : (w.alloc (.cells #[.bool true, .string keyb, .int .i64 0] 42)).drewN nq = W1
  have c1 : W1.cell? ⟨w.heap.size, 1, none⟩ = some (.string keyb) := by rw [← hW]; exact step1 _ _ _ _ _ _
  have HW : Hid (Below w.heap.size w W1) := by rw [← hW]; exact below_draw _ _ _
  have hs1 : W1.heap.size = w.heap.size + 1 := by rw [← hW]; show (w.alloc _).heap.size = _; simp
  clear hW p0 p1 p2 p3 p4 f0 f1 f2 f3 f4
  have hP1 : W1.heap[P]? = some (.cells #[.int .i64 5, .int .u64 0, .string ⟨#[]⟩, .slice none 0 0, .slice none 0 0] 26 (0, 0)) := by rw [HW.out.block P hp]; exact HP.out
  obtain ⟨p0, p1, p2, p3, p4, f0, f1, f2, f3, f4⟩ := box_cells hP1
  have HP1 : Hid (W1.heap[P]? = some (.cells #[.int .i64 5, .int .u64 0, .string ⟨#[]⟩, .slice none 0 0, .slice none 0 0] 26 (0, 0))) := hP1
  clear hP1
  go_quiet ((go_at_call 27; exact Calls.quiet_of_same (bs_empty _ _ _ _)))
  go_wp2_with fail
  generalize hW : W1.drewN nq = W2
  have c2 : W2.cell? ⟨w.heap.size, 1, none⟩ = some (.string keyb) := by rw [← hW]; exact c1
  have HW2 : Hid (Below w.heap.size w W2) := by rw [← hW]; exact HW.out.trans (Below_drewN _ _ _)
  have hP2 : W2.heap[P]? = some (.cells #[.int .i64 5, .int .u64 0, .string ⟨#[]⟩, .slice none 0 0, .slice none 0 0] 26 (0, 0)) := by rw [← hW]; exact HP1.out
  have HS2 : Hid (W2.heap.size = w.heap.size + 1) := by rw [← hW]; exact hs1
  clear hW p0 p1 p2 p3 p4 f0 f1 f2 f3 f4 c1 hs1
  obtain ⟨p0, p1, p2, p3, p4, f0, f1, f2, f3, f4⟩ := box_cells hP2
  have HP2 : Hid (W2.heap[P]? = some (.cells #[.int .i64 5, .int .u64 0, .string ⟨#[]⟩, .slice none 0 0, .slice none 0 0] 26 (0, 0))) := hP2
  clear hP2
  have hne : ¬ P = w.heap.size := by omega
  have n1 := World.new_ne W2 _ p3
  have e3 : ∀ o, (W2.alloc o).cell? ⟨P, 3, none⟩ = some (.slice none 0 0) := fun o => keepc (below_one _ _) _ _ p3
  have n2 := World.new_ne W2 _ c2
  go_region_with ((go_at_call 28; refine (ins_str W2.heap.size keyb (W2.alloc (.cells #[.string keyb] 9)).drew (new_cell1 W2 _ _)).mono ?_; rintro e w3 ⟨v3, rfl, ho3, hb3⟩; have B3 := after_new hb3; have d3 := keepc B3 _ _ c2; have q3 := keepc B3 _ _ p3; have r3 := (B3.frozen (lt_of_cell p3)).trans f3; obtain ⟨a3, l3, rfl⟩ := slice_of_own ho3))
  all_goals
    obtain ⟨hP4, ho4, G4⟩ := room_mid HW2.out B3 hp HP2.out ho3 (by have := HS2.out; simp; omega)
    generalize hW : w3.setCell ⟨P, 3, none⟩ (.slice a3 1 l3) = W4
    rw [hW] at hP4 ho4 G4
    clear hW ho3 B3 d3 q3 r3 e3 n1 n2 p0 p1 p2 p3 p4 f0 f1 f2 f3 f4 hne c2
    obtain ⟨p0, p1, p2, p3, p4, f0, f1, f2, f3, f4⟩ := box_cells hP4
    have HP4 : Hid (W4.heap[P]? = some (.cells #[.int .i64 5, .int .u64 0, .string ⟨#[]⟩, .slice a3 1 l3, .slice none 0 0] 26 (0, 0))) := hP4
    have HO4 : Hid (W4.ownsRow w.heap.size 9 1 (.slice a3 1 l3) 1 [.string keyb]) := ho4
    have HG4 : Hid (w.grownBy W4 (some P)) := G4
    clear hP4 ho4 G4
    go_wp2_with (go_at_call 29; refine (ins_val W4.heap.size _ (new_five _ _ _ _ _ _ _).1 (new_five _ _ _ _ _ _ _).2.1 (new_five _ _ _ _ _ _ _).2.2.1 (new_five _ _ _ _ _ _ _).2.2.2.1 (new_five _ _ _ _ _ _ _).2.2.2.2).mono ?_; rintro e w5 ⟨v5, rfl, ho5, hb5⟩; have B5 := nxt (below_one _ _) hb5; have q5 := keepc B5 _ _ p4; have r5 := (B5.frozen (lt_of_cell p4)).trans f4; obtain ⟨a5, l5, rfl⟩ := slice_of_own ho5)
    go_ret2
    obtain ⟨z1, z2, z3, z4⟩ := room_end HG4.out B5 hp HP4.out HO4.out ho5 (by simp)
    exact ⟨rfl, _, _, z1, z2, z3, z4⟩
end Go.Proofs.Ytkjiiggboblioaa
