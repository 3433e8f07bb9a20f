/-
  The program's isText and nodeMayBe, the page's Plain. (Printed by wip/make/mktrnode.py.)
-/
import Derived.Test.YtcdnakcojanaeabGreatTrRAttr
namespace Go.Proofs.YtcdnakcojanaeabGreat
open Go.ChangeShapes Go.WideShapes Go.ChangeAt Go.RowKit

theorem empty_true {s : ByteArray} (h : s.size = 0) : s.toList.isEmpty = true := by
  rw [ByteArray.toList_eq]
  have : s.data.toList.length = 0 := by cases s; exact h
  rw [List.isEmpty_iff]
  exact List.eq_nil_of_length_eq_zero this
theorem empty_false {s : ByteArray} (h : ¬ s.size = 0) : s.toList.isEmpty = false := by
  rw [ByteArray.toList_eq]
  have : ¬ s.data.toList.length = 0 := by cases s; exact h
  cases e : s.data.toList with
  | nil => rw [e] at this; exact absurd rfl this
  | cons a r => rfl
theorem empty_is (s : ByteArray) : s.toList.isEmpty = decide (s.size = 0) := by
  by_cases h : s.size = 0
  · rw [empty_true h, decide_eq_true h]
  · rw [empty_false h, decide_eq_false h]
theorem len_is (n : Nat) : ((n : Int) == 0) = decide (n = 0) := by
  by_cases h : n = 0
  · subst h; rfl
  · rw [decide_eq_false h, beq_eq_false_iff_ne]; omega
theorem le_is (n k : Nat) : decide ((n : Int) ≤ (k : Int)) = decide (n ≤ k) := by
  by_cases h : n ≤ k
  · rw [decide_eq_true h, decide_eq_true (by omega)]
  · rw [decide_eq_false h, decide_eq_false (by omega)]

/-- A node by itself, in the walk's own terms. -/
theorem nodeB_text {g k t : ByteArray} {ats : List Atr} {il : Nat} (h : g.size = 0) : nodeB g k t ats il = (decide ((t.size : Int) ≤ 128) && k.toList.isEmpty && ((ats.length : Int) == 0) && ((il : Int) == 0)) := by
  unfold nodeB
  rw [if_pos h, empty_is, len_is, len_is]
  congr 3
  exact (le_is _ 128).symm
theorem nodeB_elem {g k t : ByteArray} {ats : List Atr} {il : Nat} (h : ¬ g.size = 0) : nodeB g k t ats il = (nameB g && decide ((k.size : Int) ≤ 16) && t.toList.isEmpty && attrsB ats && decide ((il : Int) ≤ 16)) := by
  unfold nodeB
  rw [if_neg h, empty_is, show decide ((k.size : Int) ≤ 16) = decide (k.size ≤ 16) from le_is _ 16, show decide ((il : Int) ≤ 16) = decide (il ≤ 16) from le_is _ 16]

/-- The page's Plain. -/
def plainB (g k t : ByteArray) (ats : List Atr) : Bool :=
  if g.size = 0 then k.toList.isEmpty && decide ((t.size : Int) ≤ 128) && ((ats.length : Int) == 0)
  else nameB g && decide ((k.size : Int) ≤ 16) && t.toList.isEmpty && attrsB ats
theorem plainB_text {g k t : ByteArray} {ats : List Atr} (h : g.size = 0) : plainB g k t ats = (k.toList.isEmpty && decide ((t.size : Int) ≤ 128) && ((ats.length : Int) == 0)) := by unfold plainB; rw [if_pos h]
theorem plainB_elem {g k t : ByteArray} {ats : List Atr} (h : ¬ g.size = 0) : plainB g k t ats = (nameB g && decide ((k.size : Int) ≤ 16) && t.toList.isEmpty && attrsB ats) := by unfold plainB; rw [if_neg h]
theorem nodeB_text' {g k t : ByteArray} {ats : List Atr} {il : Nat} (h : g.size = 0) : nodeB g k t ats il = (plainB g k t ats && ((il : Int) == 0)) := by
  rw [nodeB_text h, plainB_text h, Bool.and_comm (decide _)]
theorem nodeB_elem' {g k t : ByteArray} {ats : List Atr} {il : Nat} (h : ¬ g.size = 0) : nodeB g k t ats il = (plainB g k t ats && decide ((il : Int) ≤ 16)) := by
  rw [nodeB_elem h, plainB_elem h]

/-- Five cells of a box. -/
theorem box_cells {w : World} {g : Nat} {c0 c1 c2 c3 c4 : Value} {t : TypeId} (h : w.heap[g]? = some (.cells #[c0, c1, c2, c3, c4] t (0, 0))) :
    w.cell? ⟨g, 0, none⟩ = some c0 ∧ w.cell? ⟨g, 1, none⟩ = some c1 ∧ w.cell? ⟨g, 2, none⟩ = some c2 ∧ w.cell? ⟨g, 3, none⟩ = some c3 ∧ w.cell? ⟨g, 4, none⟩ = some c4 ∧
      w.frozen? ⟨g, 0, none⟩ = false ∧ w.frozen? ⟨g, 1, none⟩ = false ∧ w.frozen? ⟨g, 2, none⟩ = false ∧ w.frozen? ⟨g, 3, none⟩ = false ∧ w.frozen? ⟨g, 4, none⟩ = false := by
  simp [World.cell?, World.frozen?, h]

theorem boxed {w w1 : World} {o : Obj} (hb : Below (w.alloc o).heap.size (w.alloc o) w1) : w1.heap[w.heap.size]? = some o := (hb.block _ (by simp)).trans (heap_alloc_new _ _)

set_option maxRecDepth 100000 in
theorem istext_any (g k t : ByteArray) (c3 c4 : Value) (w : World) : Calls Tryz.prog 90 #[.agg #[.string g, .string k, .string t, c3, c4]] w fun e w' => e = .returned (.bool g.toList.isEmpty) ∧ Below w.heap.size w w' := by
  go_enter Tryz.func90, Tryz.ntmps90
  go_wp2_with fail
  go_ret
  exact ⟨rfl, below_one _ _⟩

/-- What a node's fields keep to. -/
def NodeOk (g k t : ByteArray) (al il : Nat) : Prop := g.size ≤ 140737488351232 ∧ k.size ≤ 140737488351232 ∧ t.size ≤ 140737488351232 ∧ al * 32 ≤ 140737488351232 ∧ il * 96 ≤ 140737488351232

set_option maxRecDepth 100000 in
set_option maxHeartbeats 3200000 in
theorem node_any (g k t : ByteArray) (ats : List Atr) (aa : Option Addr) (ac il : Nat) (ia : Option Addr) (ic : Nat) (w : World) (hA : LayA w aa ats) (hf : NodeOk g k t ats.length il) :
    Calls Tryz.prog 95 #[mkT g k t aa ats.length ac ia il ic] w fun e w' => e = .returned (.bool (nodeB g k t ats il)) ∧ Below w.heap.size w w' := by
  obtain ⟨f1, f2, f3, f4, f5⟩ := hf
  have B0 : Hid (Below w.heap.size w (w.alloc (.cells #[.string g, .string k, .string t, .slice aa ats.length ac, .slice ia il ic] 53))) := below_one _ _
  have C0 : Hid (∀ W, Calls Tryz.prog 90 #[.agg #[.string g, .string k, .string t, .slice aa ats.length ac, .slice ia il ic]] W fun e w' => e = .returned (.bool g.toList.isEmpty) ∧ Below W.heap.size W w') := fun W => istext_any _ _ _ _ _ W
  have C1 : Hid (∀ W, Calls Tryz.prog 100 #[.string g] W fun e w' => e = .returned (.bool (nameB g)) ∧ Below W.heap.size W w') := fun W => name_any g W f1
  have C2 : Hid (∀ W, Below w.heap.size w W → Calls Tryz.prog 101 #[.slice aa ats.length ac] W fun e w' => e = .returned (.bool (attrsB ats)) ∧ Below W.heap.size W w') := fun W hb => attrs_any ats aa ac W (hA.below hb) f4
  clear hA
  by_cases h0 : g.size = 0
  · have d0 : g.toList.isEmpty = true := empty_true h0
    rw [nodeB_text h0]
    clear h0
    rcases Bool.eq_false_or_eq_true (decide ((t.size : Int) ≤ 128)) with d1 | d1
    · rcases Bool.eq_false_or_eq_true (k.toList.isEmpty) with d2 | d2
      · rcases Bool.eq_false_or_eq_true (((ats.length : Int) == 0)) with d3 | d3
        · rcases Bool.eq_false_or_eq_true (((il : Int) == 0)) with d4 | d4
          · rw [show (decide ((t.size : Int) ≤ 128) && k.toList.isEmpty && ((ats.length : Int) == 0) && ((il : Int) == 0)) = true from by rw [d1, d2, d3, d4]; rfl]
            go_enter Tryz.func95, Tryz.ntmps95
            go_wp2_with ((go_at_call 90; refine (C0.out _).mono ?_; rw [d0]; rintro e w1 ⟨rfl, hb1⟩; have X1 := boxed hb1; obtain ⟨x0, x1, x2, x3, x4, -⟩ := box_cells X1; have B1 := nxt B0.out hb1))
            go_ret
            exact ⟨rfl, B1⟩
          · rw [show (decide ((t.size : Int) ≤ 128) && k.toList.isEmpty && ((ats.length : Int) == 0) && ((il : Int) == 0)) = false from by rw [d1, d2, d3, d4]; rfl]
            go_enter Tryz.func95, Tryz.ntmps95
            go_wp2_with ((go_at_call 90; refine (C0.out _).mono ?_; rw [d0]; rintro e w1 ⟨rfl, hb1⟩; have X1 := boxed hb1; obtain ⟨x0, x1, x2, x3, x4, -⟩ := box_cells X1; have B1 := nxt B0.out hb1))
            go_ret
            exact ⟨rfl, B1⟩
        · rw [show (decide ((t.size : Int) ≤ 128) && k.toList.isEmpty && ((ats.length : Int) == 0) && ((il : Int) == 0)) = false from by rw [d1, d2, d3]; rfl]
          go_enter Tryz.func95, Tryz.ntmps95
          go_wp2_with ((go_at_call 90; refine (C0.out _).mono ?_; rw [d0]; rintro e w1 ⟨rfl, hb1⟩; have X1 := boxed hb1; obtain ⟨x0, x1, x2, x3, x4, -⟩ := box_cells X1; have B1 := nxt B0.out hb1))
          go_ret
          exact ⟨rfl, B1⟩
      · rw [show (decide ((t.size : Int) ≤ 128) && k.toList.isEmpty && ((ats.length : Int) == 0) && ((il : Int) == 0)) = false from by rw [d1, d2]; rfl]
        go_enter Tryz.func95, Tryz.ntmps95
        go_wp2_with ((go_at_call 90; refine (C0.out _).mono ?_; rw [d0]; rintro e w1 ⟨rfl, hb1⟩; have X1 := boxed hb1; obtain ⟨x0, x1, x2, x3, x4, -⟩ := box_cells X1; have B1 := nxt B0.out hb1))
        go_ret
        exact ⟨rfl, B1⟩
    · rw [show (decide ((t.size : Int) ≤ 128) && k.toList.isEmpty && ((ats.length : Int) == 0) && ((il : Int) == 0)) = false from by rw [d1]; rfl]
      go_enter Tryz.func95, Tryz.ntmps95
      go_wp2_with ((go_at_call 90; refine (C0.out _).mono ?_; rw [d0]; rintro e w1 ⟨rfl, hb1⟩; have X1 := boxed hb1; obtain ⟨x0, x1, x2, x3, x4, -⟩ := box_cells X1; have B1 := nxt B0.out hb1))
      go_ret
      exact ⟨rfl, B1⟩
  · have d0 : g.toList.isEmpty = false := empty_false h0
    rw [nodeB_elem h0]
    clear h0
    generalize nameB g = nb at *
    generalize attrsB ats = ab at *
    rcases Bool.eq_false_or_eq_true (nb) with dn | dn
    · rcases Bool.eq_false_or_eq_true (decide ((k.size : Int) ≤ 16)) with d2 | d2
      · rcases Bool.eq_false_or_eq_true (t.toList.isEmpty) with d3 | d3
        · rcases Bool.eq_false_or_eq_true (ab) with da | da
          · rcases Bool.eq_false_or_eq_true (decide ((il : Int) ≤ 16)) with d5 | d5
            · rw [show (nb && decide ((k.size : Int) ≤ 16) && t.toList.isEmpty && ab && decide ((il : Int) ≤ 16)) = true from by rw [dn, d2, d3, da, d5]; rfl]
              rw [dn] at C1; rw [da] at C2
              go_enter Tryz.func95, Tryz.ntmps95
              go_wp2_with (first | (go_at_call 90; refine (C0.out _).mono ?_; rw [d0]; rintro e w1 ⟨rfl, hb1⟩; have X1 := boxed hb1; obtain ⟨x0, x1, x2, x3, x4, -⟩ := box_cells X1; have B1 := nxt B0.out hb1) | (go_at_call 100; refine (C1.out _).mono ?_; rintro e w2 ⟨rfl, hb2⟩; have X2 := (hb2.block _ (lt_of_block X1)).trans X1; obtain ⟨y0, y1, y2, y3, y4, -⟩ := box_cells X2; have B2 := nxt B1 hb2) | (go_at_call 101; refine (C2.out _ B2).mono ?_; rintro e w3 ⟨rfl, hb3⟩; have X3 := (hb3.block _ (lt_of_block X2)).trans X2; obtain ⟨z0, z1, z2, z3, z4, -⟩ := box_cells X3; have B3 := nxt B2 hb3))
              go_ret
              exact ⟨rfl, B3⟩
            · rw [show (nb && decide ((k.size : Int) ≤ 16) && t.toList.isEmpty && ab && decide ((il : Int) ≤ 16)) = false from by rw [dn, d2, d3, da, d5]; rfl]
              rw [dn] at C1; rw [da] at C2
              go_enter Tryz.func95, Tryz.ntmps95
              go_wp2_with (first | (go_at_call 90; refine (C0.out _).mono ?_; rw [d0]; rintro e w1 ⟨rfl, hb1⟩; have X1 := boxed hb1; obtain ⟨x0, x1, x2, x3, x4, -⟩ := box_cells X1; have B1 := nxt B0.out hb1) | (go_at_call 100; refine (C1.out _).mono ?_; rintro e w2 ⟨rfl, hb2⟩; have X2 := (hb2.block _ (lt_of_block X1)).trans X1; obtain ⟨y0, y1, y2, y3, y4, -⟩ := box_cells X2; have B2 := nxt B1 hb2) | (go_at_call 101; refine (C2.out _ B2).mono ?_; rintro e w3 ⟨rfl, hb3⟩; have X3 := (hb3.block _ (lt_of_block X2)).trans X2; obtain ⟨z0, z1, z2, z3, z4, -⟩ := box_cells X3; have B3 := nxt B2 hb3))
              go_ret
              exact ⟨rfl, B3⟩
          · rw [show (nb && decide ((k.size : Int) ≤ 16) && t.toList.isEmpty && ab && decide ((il : Int) ≤ 16)) = false from by rw [dn, d2, d3, da]; rfl]
            rw [dn] at C1; rw [da] at C2
            go_enter Tryz.func95, Tryz.ntmps95
            go_wp2_with (first | (go_at_call 90; refine (C0.out _).mono ?_; rw [d0]; rintro e w1 ⟨rfl, hb1⟩; have X1 := boxed hb1; obtain ⟨x0, x1, x2, x3, x4, -⟩ := box_cells X1; have B1 := nxt B0.out hb1) | (go_at_call 100; refine (C1.out _).mono ?_; rintro e w2 ⟨rfl, hb2⟩; have X2 := (hb2.block _ (lt_of_block X1)).trans X1; obtain ⟨y0, y1, y2, y3, y4, -⟩ := box_cells X2; have B2 := nxt B1 hb2) | (go_at_call 101; refine (C2.out _ B2).mono ?_; rintro e w3 ⟨rfl, hb3⟩; have X3 := (hb3.block _ (lt_of_block X2)).trans X2; obtain ⟨z0, z1, z2, z3, z4, -⟩ := box_cells X3; have B3 := nxt B2 hb3))
            go_ret
            exact ⟨rfl, B3⟩
        · rw [show (nb && decide ((k.size : Int) ≤ 16) && t.toList.isEmpty && ab && decide ((il : Int) ≤ 16)) = false from by rw [dn, d2, d3]; rfl]
          rw [dn] at C1
          go_enter Tryz.func95, Tryz.ntmps95
          go_wp2_with (first | (go_at_call 90; refine (C0.out _).mono ?_; rw [d0]; rintro e w1 ⟨rfl, hb1⟩; have X1 := boxed hb1; obtain ⟨x0, x1, x2, x3, x4, -⟩ := box_cells X1; have B1 := nxt B0.out hb1) | (go_at_call 100; refine (C1.out _).mono ?_; rintro e w2 ⟨rfl, hb2⟩; have X2 := (hb2.block _ (lt_of_block X1)).trans X1; obtain ⟨y0, y1, y2, y3, y4, -⟩ := box_cells X2; have B2 := nxt B1 hb2) | (go_at_call 101; refine (C2.out _ B2).mono ?_; rintro e w3 ⟨rfl, hb3⟩; have X3 := (hb3.block _ (lt_of_block X2)).trans X2; obtain ⟨z0, z1, z2, z3, z4, -⟩ := box_cells X3; have B3 := nxt B2 hb3))
          go_ret
          exact ⟨rfl, B2⟩
      · rw [show (nb && decide ((k.size : Int) ≤ 16) && t.toList.isEmpty && ab && decide ((il : Int) ≤ 16)) = false from by rw [dn, d2]; rfl]
        rw [dn] at C1
        go_enter Tryz.func95, Tryz.ntmps95
        go_wp2_with (first | (go_at_call 90; refine (C0.out _).mono ?_; rw [d0]; rintro e w1 ⟨rfl, hb1⟩; have X1 := boxed hb1; obtain ⟨x0, x1, x2, x3, x4, -⟩ := box_cells X1; have B1 := nxt B0.out hb1) | (go_at_call 100; refine (C1.out _).mono ?_; rintro e w2 ⟨rfl, hb2⟩; have X2 := (hb2.block _ (lt_of_block X1)).trans X1; obtain ⟨y0, y1, y2, y3, y4, -⟩ := box_cells X2; have B2 := nxt B1 hb2) | (go_at_call 101; refine (C2.out _ B2).mono ?_; rintro e w3 ⟨rfl, hb3⟩; have X3 := (hb3.block _ (lt_of_block X2)).trans X2; obtain ⟨z0, z1, z2, z3, z4, -⟩ := box_cells X3; have B3 := nxt B2 hb3))
        go_ret
        exact ⟨rfl, B2⟩
    · rw [show (nb && decide ((k.size : Int) ≤ 16) && t.toList.isEmpty && ab && decide ((il : Int) ≤ 16)) = false from by rw [dn]; rfl]
      rw [dn] at C1
      go_enter Tryz.func95, Tryz.ntmps95
      go_wp2_with (first | (go_at_call 90; refine (C0.out _).mono ?_; rw [d0]; rintro e w1 ⟨rfl, hb1⟩; have X1 := boxed hb1; obtain ⟨x0, x1, x2, x3, x4, -⟩ := box_cells X1; have B1 := nxt B0.out hb1) | (go_at_call 100; refine (C1.out _).mono ?_; rintro e w2 ⟨rfl, hb2⟩; have X2 := (hb2.block _ (lt_of_block X1)).trans X1; obtain ⟨y0, y1, y2, y3, y4, -⟩ := box_cells X2; have B2 := nxt B1 hb2) | (go_at_call 101; refine (C2.out _ B2).mono ?_; rintro e w3 ⟨rfl, hb3⟩; have X3 := (hb3.block _ (lt_of_block X2)).trans X2; obtain ⟨z0, z1, z2, z3, z4, -⟩ := box_cells X3; have B3 := nxt B2 hb3))
      go_ret
      exact ⟨rfl, B2⟩

set_option maxRecDepth 100000 in
set_option maxHeartbeats 3200000 in
theorem rplain_any (g k t : ByteArray) (ats : List Atr) (aa : Option Addr) (ac il : Nat) (w : World) (hA : LayA w aa ats) (hf : NodeOk g k t ats.length il) :
    Calls Tryz.prog 46 #[.string g, .string k, .string t, .slice aa ats.length ac] w fun e w' => e = .returned (.bool (plainB g k t ats)) ∧ Below w.heap.size w w' := by
  obtain ⟨f1, f2, f3, f4, f5⟩ := hf
  have C1 : Hid (∀ W, Calls Tryz.prog 53 #[.string g] W fun e w' => e = .returned (.bool (nameB g)) ∧ Below W.heap.size W w') := fun W => rletters_any g W f1
  have C2 : Hid (∀ W, Below w.heap.size w W → Calls Tryz.prog 77 #[.slice aa ats.length ac] W fun e w' => e = .returned (.bool (attrsB ats)) ∧ Below W.heap.size W w') := fun W hb => rattrs_any ats aa ac W (hA.below hb) f4
  clear hA
  by_cases h0 : g.size = 0
  · have d0 : g.toList.isEmpty = true := empty_true h0
    rw [plainB_text h0]
    clear h0
    rcases Bool.eq_false_or_eq_true (k.toList.isEmpty) with d2 | d2
    · rcases Bool.eq_false_or_eq_true (decide ((t.size : Int) ≤ 128)) with d1 | d1
      · rcases Bool.eq_false_or_eq_true (((ats.length : Int) == 0)) with d3 | d3
        · rw [show (k.toList.isEmpty && decide ((t.size : Int) ≤ 128) && ((ats.length : Int) == 0)) = true from by rw [d2, d1, d3]; rfl]
          go_enter Tryz.func46, Tryz.ntmps46
          go_wp2_with (fail)
          go_ret
          exact ⟨rfl, Below.refl _ _⟩
        · rw [show (k.toList.isEmpty && decide ((t.size : Int) ≤ 128) && ((ats.length : Int) == 0)) = false from by rw [d2, d1, d3]; rfl]
          go_enter Tryz.func46, Tryz.ntmps46
          go_wp2_with (fail)
          go_ret
          exact ⟨rfl, Below.refl _ _⟩
      · rw [show (k.toList.isEmpty && decide ((t.size : Int) ≤ 128) && ((ats.length : Int) == 0)) = false from by rw [d2, d1]; rfl]
        go_enter Tryz.func46, Tryz.ntmps46
        go_wp2_with (fail)
        go_ret
        exact ⟨rfl, Below.refl _ _⟩
    · rw [show (k.toList.isEmpty && decide ((t.size : Int) ≤ 128) && ((ats.length : Int) == 0)) = false from by rw [d2]; rfl]
      go_enter Tryz.func46, Tryz.ntmps46
      go_wp2_with (fail)
      go_ret
      exact ⟨rfl, Below.refl _ _⟩
  · have d0 : g.toList.isEmpty = false := empty_false h0
    rw [plainB_elem h0]
    clear h0
    generalize nameB g = nb at *
    generalize attrsB ats = ab at *
    rcases Bool.eq_false_or_eq_true (nb) with dn | dn
    · rcases Bool.eq_false_or_eq_true (decide ((k.size : Int) ≤ 16)) with d2 | d2
      · rcases Bool.eq_false_or_eq_true (t.toList.isEmpty) with d3 | d3
        · rcases Bool.eq_false_or_eq_true (ab) with da | da
          · rw [show (nb && decide ((k.size : Int) ≤ 16) && t.toList.isEmpty && ab) = true from by rw [dn, d2, d3, da]; rfl]
            rw [dn] at C1; rw [da] at C2
            go_enter Tryz.func46, Tryz.ntmps46
            go_wp2_with (first | (go_at_call 53; refine (C1.out _).mono ?_; rintro e w2 ⟨rfl, hb2⟩; have B2 := hb2) | (go_at_call 77; refine (C2.out _ B2).mono ?_; rintro e w3 ⟨rfl, hb3⟩; have B3 := nxt B2 hb3))
            go_ret
            exact ⟨rfl, B3⟩
          · rw [show (nb && decide ((k.size : Int) ≤ 16) && t.toList.isEmpty && ab) = false from by rw [dn, d2, d3, da]; rfl]
            rw [dn] at C1; rw [da] at C2
            go_enter Tryz.func46, Tryz.ntmps46
            go_wp2_with (first | (go_at_call 53; refine (C1.out _).mono ?_; rintro e w2 ⟨rfl, hb2⟩; have B2 := hb2) | (go_at_call 77; refine (C2.out _ B2).mono ?_; rintro e w3 ⟨rfl, hb3⟩; have B3 := nxt B2 hb3))
            go_ret
            exact ⟨rfl, B3⟩
        · rw [show (nb && decide ((k.size : Int) ≤ 16) && t.toList.isEmpty && ab) = false from by rw [dn, d2, d3]; rfl]
          rw [dn] at C1
          go_enter Tryz.func46, Tryz.ntmps46
          go_wp2_with (first | (go_at_call 53; refine (C1.out _).mono ?_; rintro e w2 ⟨rfl, hb2⟩; have B2 := hb2) | (go_at_call 77; refine (C2.out _ B2).mono ?_; rintro e w3 ⟨rfl, hb3⟩; have B3 := nxt B2 hb3))
          go_ret
          exact ⟨rfl, B2⟩
      · rw [show (nb && decide ((k.size : Int) ≤ 16) && t.toList.isEmpty && ab) = false from by rw [dn, d2]; rfl]
        rw [dn] at C1
        go_enter Tryz.func46, Tryz.ntmps46
        go_wp2_with (first | (go_at_call 53; refine (C1.out _).mono ?_; rintro e w2 ⟨rfl, hb2⟩; have B2 := hb2) | (go_at_call 77; refine (C2.out _ B2).mono ?_; rintro e w3 ⟨rfl, hb3⟩; have B3 := nxt B2 hb3))
        go_ret
        exact ⟨rfl, B2⟩
    · rw [show (nb && decide ((k.size : Int) ≤ 16) && t.toList.isEmpty && ab) = false from by rw [dn]; rfl]
      rw [dn] at C1
      go_enter Tryz.func46, Tryz.ntmps46
      go_wp2_with (first | (go_at_call 53; refine (C1.out _).mono ?_; rintro e w2 ⟨rfl, hb2⟩; have B2 := hb2) | (go_at_call 77; refine (C2.out _ B2).mono ?_; rintro e w3 ⟨rfl, hb3⟩; have B3 := nxt B2 hb3))
      go_ret
      exact ⟨rfl, B2⟩

end Go.Proofs.YtcdnakcojanaeabGreat
