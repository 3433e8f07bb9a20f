/-
  The program's reader: an item.
-/
import Derived.Test.YtfdbhojghkdlkaaObRdr
import Derived.Test.YtfdbhojghkdlkaaObPage
namespace Go.Proofs.Ytfdbhojghkdlkaa
open Go.ChangeShapes Go.WideShapes Go.ChangeAt Go.RowKit
open Fl

/-- A value without parts, whatever depth it may have. -/
theorem own_flat {w : World} {y : Value} {F : Nat → Prop} (h : Own w zeroPT.1 y zeroPT.2 F) : Own w 8 y (0, 0, ⟨#[]⟩, [], []) F := by
  obtain ⟨ka, kc, ia, ic, xs, G, h1, h2, h3, h4, h5, h6, h7, h8, h9, h10⟩ := h
  exact ⟨ka, kc, ia, ic, xs, G, h1, h2, h3, h4, h5, h6, h7, fun i u hi => by simp at hi, fun i b hi => by simp at hi, fun i j b hi => by simp at hi⟩

/-- What item leaves. -/
def ItO (w : World) (p : Nat) (l : List UInt8) (e : Ending) (w' : World) : Prop := w.grownBy w' (some p) ∧ ∃ (t : Tm 8) (k b : Int) (tx : ByteArray) (ka : Option Addr) (kl kc : Nat) (ja : Option Addr) (jl jc : Nat) (F : Nat → Prop), e = .returned (.agg #[.int .i64 t.1, .string t.2.1, .int .i64 k, .int .u64 b, .string tx, .slice ka kl kc, .slice ja jl jc]) ∧
  Own w' 8 (mk k b tx ka kl kc ja jl jc) t.2.2 F ∧ (∀ g, F g → w.heap.size ≤ g ∧ g < w'.heap.size) ∧
  ((∃ r a c, rdIt nmK l = .ok (t, r) ∧ RdO w' p a c r 0) ∨ (∃ er' l' a c, rdIt nmK l = .error er' ∧ er' ≠ 0 ∧ RdO w' p a c l' er'))

theorem nm_one {l : List UInt8} (h : l.length ≤ 1) : ∃ k : Nat, k ≤ 255 ∧ nmK l = k := by
  match l, h with
  | [], _ => exact ⟨0, by omega, nmK_nil⟩
  | [o], _ =>
    have := o.toNat_lt
    refine ⟨o.toNat, by omega, ?_⟩
    simp only [nmK, numO, List.foldl_cons, List.foldl_nil, wrap64]
    omega
theorem nxT_len (n : Nat) (l : List UInt8) (er : Int) : (nxT n l er).length ≤ n := by
  unfold nxT
  split
  · rw [List.length_take]; omega
  · simp

theorem RdO.below {w w' : World} {p : Nat} {a : Option Addr} {c : Nat} {l : List UInt8} {er : Int} (h : RdO w p a c l er) (hb : Below w.heap.size w w') : RdO w' p a c l er := ⟨(hb.block _ (lt_of_block h.1)).trans h.1, h.2.1.below hb, h.2.2⟩

theorem it_far {w : World} {g : Nat} (v0 v1 v2 v3 v4 v5 v6 : Value) {b : Nat} (h : b ≠ g) :
    (((((((w.setCell ⟨g, 0, none⟩ v0).setCell ⟨g, 1, none⟩ v1).setCell ⟨g, 2, none⟩ v2).setCell ⟨g, 3, none⟩ v3).setCell ⟨g, 4, none⟩ v4).setCell ⟨g, 5, none⟩ v5).setCell ⟨g, 6, none⟩ v6).heap[b]? = w.heap[b]? := by
  have h' : ¬ g = b := fun e => h e.symm
  simp [World.setCell, Array.getElem?_modify, h']

theorem seven_cells' {w : World} {g : Nat} {c0 c1 c2 c3 c4 c5 c6 : Value} {t : TypeId} (h : w.heap[g]? = some (.cells #[c0, c1, c2, c3, c4, c5, c6] t (0, 0))) :
    w.cell? ⟨g, 0, none⟩ = some c0 ∧ w.cell? ⟨g, 1, none⟩ = some c1 ∧ w.cell? ⟨g, 2, none⟩ = some c2 ∧ w.cell? ⟨g, 3, none⟩ = some c3 ∧ w.cell? ⟨g, 4, none⟩ = some c4 ∧ w.cell? ⟨g, 5, none⟩ = some c5 ∧ w.cell? ⟨g, 6, none⟩ = some c6 :=
  ⟨(cell_of h 0).1, (cell_of h 1).1, (cell_of h 2).1, (cell_of h 3).1, (cell_of h 4).1, (cell_of h 5).1, (cell_of h 6).1⟩

/-- Octets lie apart from an item's variable. -/
theorem Oct.far {W3 W : World} {g : Nat} {a : Option Addr} {c : Nat} {l : List UInt8} {t : TypeId} (h : Oct W3 a c l) (hz : W3.heap[g]? = some (.cells #[.int .i64 0, .string ⟨#[]⟩, .int .i64 0, .int .u64 0, .string ⟨#[]⟩, .slice none 0 0, .slice none 0 0] t (0, 0))) (far : ∀ b, b ≠ g → W.heap[b]? = W3.heap[b]?) : Oct W a c l := by
  refine ⟨fun i o hi => ?_, h.2⟩
  obtain ⟨b, off, e, hc⟩ := h.1 i o hi
  refine ⟨b, off, e, ?_⟩
  have hne : b ≠ g := by
    intro e
    subst e
    simp only [World.cell?, hz] at hc
    rcases Nat.lt_or_ge (off + i) 7 with hlt | hge
    · have : off + i = 0 ∨ off + i = 1 ∨ off + i = 2 ∨ off + i = 3 ∨ off + i = 4 ∨ off + i = 5 ∨ off + i = 6 := by omega
      rcases this with e | e | e | e | e | e | e <;> rw [e] at hc <;> simp at hc
    · have : (#[Value.int .i64 0, .string ⟨#[]⟩, .int .i64 0, .int .u64 0, .string ⟨#[]⟩, .slice none 0 0, .slice none 0 0] : Array Value)[off + i]? = none := Array.getElem?_eq_none (by simpa using hge)
      rw [this] at hc
      simp at hc
  simp only [World.cell?] at hc ⊢
  rw [far b hne]
  exact hc

/-- What item leaves, in the world behind its stores. -/
theorem it_fin {w W3 : World} {p : Nat} {a : Option Addr} {c : Nat} {l : List UInt8} {er : Int} {y : Value} {u : V 8} {F : Nat → Prop} {ob : Obj} (hp : p < w.heap.size) (hg : (w.alloc ob).grownBy W3 (some p))
    (hX : (w.alloc ob).heap[w.heap.size]? = some (.cells #[.int .i64 0, .string ⟨#[]⟩, .int .i64 0, .int .u64 0, .string ⟨#[]⟩, .slice none 0 0, .slice none 0 0] 54 (0, 0)))
    (hO : Own W3 8 y u F) (hF : ∀ b, F b → (w.alloc ob).heap.size ≤ b ∧ b < W3.heap.size) (hr : RdO W3 p a c l er) (v0 v1 v2 v3 v4 v5 v6 : Value) (W : World)
    (hW : W = (((((((W3.setCell ⟨w.heap.size, 0, none⟩ v0).setCell ⟨w.heap.size, 1, none⟩ v1).setCell ⟨w.heap.size, 2, none⟩ v2).setCell ⟨w.heap.size, 3, none⟩ v3).setCell ⟨w.heap.size, 4, none⟩ v4).setCell ⟨w.heap.size, 5, none⟩ v5).setCell ⟨w.heap.size, 6, none⟩ v6)) :
    w.grownBy W (some p) ∧ Own W 8 y u F ∧ (∀ b, F b → w.heap.size ≤ b ∧ b < W.heap.size) ∧ RdO W p a c l er := by
  have far : ∀ b, b ≠ w.heap.size → W.heap[b]? = W3.heap[b]? := fun b hb => by rw [hW]; exact it_far _ _ _ _ _ _ _ hb
  have hz : W.heap.size = W3.heap.size := by rw [hW]; simp [World.setCell]
  have z1 : W.os = W3.os := by rw [hW]; simp only [World.setCell]
  have z2 : W.tape = W3.tape := by rw [hW]; simp only [World.setCell]
  have z3 : W.output = W3.output := by rw [hW]; simp only [World.setCell]
  clear hW
  have hs : w.heap.size + 1 ≤ W3.heap.size := by have := hg.size; simpa using this
  have X3 : W3.heap[w.heap.size]? = some (.cells #[.int .i64 0, .string ⟨#[]⟩, .int .i64 0, .int .u64 0, .string ⟨#[]⟩, .slice none 0 0, .slice none 0 0] 54 (0, 0)) := (hg.block _ (by simp) (fun e => by cases e; omega)).trans hX
  refine ⟨⟨z1.trans hg.os, z2.trans hg.tape, z3.trans hg.output, by omega, fun k hk hn => (far k (by omega)).trans ((hg.block k (by simp; omega) hn).trans (Below.heap_alloc _ _ _ hk))⟩, hO.same 8 fun b hb => far b (by have := (hF b hb).1; simp at this; omega), fun b hb => ?_, (far p (by omega)).trans hr.1, hr.2.1.far X3 far, hr.2.2⟩
  have := hF b hb
  simp at this
  omega

/-- What is read, in the reader's words. -/
theorem it_math (l : List UInt8) (k : Nat) (hk : nmK (nxT 1 (nxL 8 l 0) (nxE 8 l 0)) = k) :
    (nxE k (nxL 1 (nxL 8 l 0) (nxE 8 l 0)) (nxE 1 (nxL 8 l 0) (nxE 8 l 0)) ≠ 0 → rdIt nmK l = .error 8 ∧ nxE k (nxL 1 (nxL 8 l 0) (nxE 8 l 0)) (nxE 1 (nxL 8 l 0) (nxE 8 l 0)) = 8) ∧
    (nxE k (nxL 1 (nxL 8 l 0) (nxE 8 l 0)) (nxE 1 (nxL 8 l 0) (nxE 8 l 0)) = 0 → ¬ (l.length < 9 ∨ l.length < 9 + lenI l) ∧ nxL k (nxL 1 (nxL 8 l 0) (nxE 8 l 0)) (nxE 1 (nxL 8 l 0) (nxE 8 l 0)) = l.drop (9 + lenI l) ∧ nxT 8 l 0 = l.take 8 ∧ nxT k (nxL 1 (nxL 8 l 0) (nxE 8 l 0)) (nxE 1 (nxL 8 l 0) (nxE 8 l 0)) = (l.drop 9).take (lenI l)) := by
  by_cases h8 : 8 ≤ l.length
  · have e1 : nxL 8 l 0 = l.drop 8 := by unfold nxL; rw [if_pos ⟨rfl, h8⟩]
    have e2 : nxE 8 l 0 = 0 := by unfold nxE; rw [if_pos rfl, if_pos h8]
    have e3 : nxT 8 l 0 = l.take 8 := by unfold nxT; rw [if_pos ⟨rfl, h8⟩]
    rw [e1, e2] at hk ⊢
    by_cases h9 : 9 ≤ l.length
    · have hlt : 8 < l.length := by omega
      have h1 : 1 ≤ (l.drop 8).length := by rw [List.length_drop]; omega
      have f1 : nxL 1 (l.drop 8) 0 = l.drop 9 := by unfold nxL; rw [if_pos ⟨rfl, h1⟩, List.drop_drop]
      have f2 : nxE 1 (l.drop 8) 0 = 0 := by unfold nxE; rw [if_pos rfl, if_pos h1]
      have f3 : nxT 1 (l.drop 8) 0 = [l[8]] := by
        unfold nxT; rw [if_pos ⟨rfl, h1⟩, List.drop_eq_getElem_cons hlt]; rfl
      have f4 : lenI l = l[8].toNat := by unfold lenI; simp [hlt]
      have f5 : k = lenI l := by
        rw [f3] at hk
        have := l[8].toNat_lt
        simp only [nmK, numO, List.foldl_cons, List.foldl_nil, wrap64] at hk
        omega
      rw [f1, f2, f5]
      have hd : (l.drop 9).length = l.length - 9 := List.length_drop
      by_cases hl : lenI l ≤ (l.drop 9).length
      · have g1 : nxE (lenI l) (l.drop 9) 0 = 0 := by unfold nxE; rw [if_pos rfl, if_pos hl]
        refine ⟨fun h => absurd g1 h, fun _ => ⟨by omega, ?_, e3, ?_⟩⟩
        · unfold nxL; rw [if_pos ⟨rfl, hl⟩, List.drop_drop]
        · unfold nxT; rw [if_pos ⟨rfl, hl⟩]
      · have g1 : nxE (lenI l) (l.drop 9) 0 = 8 := by unfold nxE; rw [if_pos rfl, if_neg hl]
        rw [g1]
        exact ⟨fun _ => ⟨rdIt_short (by omega), rfl⟩, fun h => by omega⟩
    · have h1 : ¬ 1 ≤ (l.drop 8).length := by rw [List.length_drop]; omega
      have f2 : nxE 1 (l.drop 8) 0 = 8 := by unfold nxE; rw [if_pos rfl, if_neg h1]
      have g : ∀ m l', nxE m l' 8 = 8 := fun m l' => by unfold nxE; rw [if_neg (by omega)]
      rw [f2, g]
      exact ⟨fun _ => ⟨rdIt_short (by omega), rfl⟩, fun h => by omega⟩
  · have e2 : nxE 8 l 0 = 8 := by unfold nxE; rw [if_pos rfl, if_neg h8]
    have g : ∀ m l', nxE m l' 8 = 8 := fun m l' => by unfold nxE; rw [if_neg (by omega)]
    rw [e2, g, g]
    exact ⟨fun _ => ⟨rdIt_short (by omega), rfl⟩, fun h => by omega⟩

set_option maxRecDepth 100000 in
set_option maxHeartbeats 3200000 in
theorem oitem_any (p : Nat) (a : Option Addr) (c : Nat) (l : List UInt8) (w : World) (hr : RdO w p a c l 0) :
    Calls Try.prog 39 #[.pointer (some ⟨p, 0, none⟩)] w (ItO w p l) := by
  have hpl := lt_of_block hr.1
  obtain ⟨k, hk, hke⟩ := nm_one (nxT_len 1 (nxL 8 l 0) (nxE 8 l 0))
  have HKE : Hid (nmK (nxT 1 (nxL 8 l 0) (nxE 8 l 0)) = k) := hke
  clear hke
  have B0 : Hid (Below w.heap.size w (w.alloc (.cells #[.int .i64 0, .string ⟨#[]⟩, .int .i64 0, .int .u64 0, .string ⟨#[]⟩, .slice none 0 0, .slice none 0 0] 54))) := below_one _ _
  have X0 : Hid ((w.alloc (.cells #[.int .i64 0, .string ⟨#[]⟩, .int .i64 0, .int .u64 0, .string ⟨#[]⟩, .slice none 0 0, .slice none 0 0] 54)).heap[w.heap.size]? = some (.cells #[.int .i64 0, .string ⟨#[]⟩, .int .i64 0, .int .u64 0, .string ⟨#[]⟩, .slice none 0 0, .slice none 0 0] 54 (0, 0))) := heap_alloc_new _ _
  have HR : Hid (RdO (w.alloc (.cells #[.int .i64 0, .string ⟨#[]⟩, .int .i64 0, .int .u64 0, .string ⟨#[]⟩, .slice none 0 0, .slice none 0 0] 54)) p a c l 0) := hr.below B0.out
  clear hr
  obtain ⟨W0, HW0⟩ : ∃ W0, Hid (W0 = w.alloc (.cells #[.int .i64 0, .string ⟨#[]⟩, .int .i64 0, .int .u64 0, .string ⟨#[]⟩, .slice none 0 0, .slice none 0 0] 54)) := ⟨_, rfl⟩
  go_enter Try.func39, Try.ntmps39
  go_wp2_with fail
  refine (onumber_p 8 (by omega) p a c l 0 _ HR.out).mono ?_
  rintro e w1 ⟨hg1, rfl, a1, c1, hr1⟩
  rw [← HW0.out] at hg1
  have G1 : Hid (W0.grownBy w1 (some p)) := hg1
  have R1 : Hid (RdO w1 p a1 c1 (nxL 8 l 0) (nxE 8 l 0)) := hr1
  clear hg1 hr1
  obtain ⟨id, HID⟩ : ∃ id, Hid (nmK (nxT 8 l 0) = id) := ⟨_, rfl⟩
  rw [HID.out]
  go_wp2_with fail
  refine (onumber_p 1 (by omega) p a1 c1 _ _ w1 R1.out).mono ?_
  rintro e w2 ⟨hg2, rfl, a2, c2, hr2⟩
  have G2 : Hid (W0.grownBy w2 (some p)) := grown_trans G1.out hg2
  rw [HKE.out]
  obtain ⟨l2, HL2⟩ : ∃ l2, Hid (nxL 1 (nxL 8 l 0) (nxE 8 l 0) = l2) := ⟨_, rfl⟩
  obtain ⟨e2, HE2⟩ : ∃ e2, Hid (nxE 1 (nxL 8 l 0) (nxE 8 l 0) = e2) := ⟨_, rfl⟩
  rw [HL2.out, HE2.out] at hr2
  have R2 : Hid (RdO w2 p a2 c2 l2 e2) := hr2
  clear hg2 hr2 R1 G1
  go_wp2_with fail
  refine (onext_p k hk p a2 c2 l2 e2 w2 R2.out).mono ?_
  rintro e w3 ⟨hg3, a3, c3, a4, c4, rfl, ho3, hr3⟩
  have G3 : Hid (W0.grownBy w3 (some p)) := grown_trans G2.out hg3
  obtain ⟨nm, HNM⟩ : ∃ nm, Hid (nxT k l2 e2 = nm) := ⟨_, rfl⟩
  obtain ⟨l3, HL3⟩ : ∃ l3, Hid (nxL k l2 e2 = l3) := ⟨_, rfl⟩
  obtain ⟨e3, HE3⟩ : ∃ e3, Hid (nxE k l2 e2 = e3) := ⟨_, rfl⟩
  rw [HNM.out] at ho3 ⊢
  rw [HL3.out, HE3.out] at hr3
  have R3 : Hid (RdO w3 p a4 c4 l3 e3) := hr3
  have O3 : Hid (Oct w3 a3 c3 nm) := ho3
  clear hg3 hr3 ho3 R2 G2
  go_wp2_with (refine wpList_strG _ (.tmp 10) rfl (by rfl) a3 c3 nm.length nm rfl rfl O3.out.1 ?_)
  refine (ovalue_any p a4 c4 l3 e3 w3 R3.out).mono ?_
  rintro e w4 ⟨hg4, y, F, rfl, hF4, hcase⟩
  have G4 : Hid (W0.grownBy w4 (some p)) := grown_trans G3.out hg4
  have HF4 : Hid (∀ b, F b → W0.heap.size ≤ b ∧ b < w4.heap.size) := fun b hb => ⟨Nat.le_trans G3.out.size (hF4 b hb).1, (hF4 b hb).2⟩
  have X4 : Hid (w4.heap[w.heap.size]? = some (.cells #[.int .i64 0, .string ⟨#[]⟩, .int .i64 0, .int .u64 0, .string ⟨#[]⟩, .slice none 0 0, .slice none 0 0] 54 (0, 0))) := by
    have := X0.out
    rw [← HW0.out] at this
    exact (G4.out.block _ (by rw [HW0.out]; simp) (fun e => by cases e; omega)).trans this
  have HY : Hid (∃ (u : V 8) (er5 : Int) (l5 : List UInt8) (a5 : Option Addr) (c5 : Nat), Own w4 8 y u F ∧ RdO w4 p a5 c5 l5 er5 ∧ ((∃ r, rdIt nmK l = .ok ((id, ⟨nm.toArray⟩, u), r) ∧ l5 = r ∧ er5 = 0) ∨ (rdIt nmK l = .error er5 ∧ er5 ≠ 0))) := by
    have hm := it_math l k HKE.out
    rw [HL2.out, HE2.out, HNM.out, HL3.out, HE3.out] at hm
    rcases hcase with ⟨h0, hO, a5, c5, hr5⟩ | ⟨h0, hO, a5, c5, hr5⟩
    · obtain ⟨hs, hl, ht, hn⟩ := hm.2 h0
      rw [hl] at hO hr5
      by_cases h1 : (takeR (l.drop (9 + lenI l))).1 = 0
      · obtain ⟨v, m, q1, q2, q3⟩ := rdIt_ok (f := nmK) hs h1
        rw [q1] at hO hr5
        refine ⟨v, 0, _, a5, c5, hO, hr5, Or.inl ⟨_, ?_, rfl, rfl⟩⟩
        rw [q3, ← ht, HID.out, hn]
      · have hz : (takeR (l.drop (9 + lenI l))).2 = (zeroPT, 0) := by
          unfold takeR at h1 ⊢
          split
          · rfl
          · rename_i v r p' heq
            rw [heq] at h1
            simp only at h1 ⊢
            split
            · rfl
            · rename_i hp
              rw [if_neg hp] at h1
              simp at h1
        rw [hz] at hO hr5
        exact ⟨_, _, _, a5, c5, own_flat hO, hr5, Or.inr ⟨rdIt_err hs h1, h1⟩⟩
    · obtain ⟨q1, q2⟩ := hm.1 h0
      exact ⟨_, _, _, a5, c5, own_flat hO, hr5, Or.inr ⟨by rw [q2]; exact q1, h0⟩⟩
  obtain ⟨k5, b5, t5, ka5, kl5, kc5, ia5, il5, ic5, rfl⟩ : ∃ k5 b5 t5 ka5 kl5 kc5 ia5 il5 ic5, y = mk k5 b5 t5 ka5 kl5 kc5 ia5 il5 ic5 := by
    obtain ⟨u, _, _, _, _, hO, _⟩ := HY.out
    exact Lay.shape 8 (Own.lay 8 hO)
  clear hg4 hF4 hcase
  obtain ⟨z0, z1, z2, z3, z4, z5, z6⟩ := seven_cells' X4.out
  have f0 := (cell_of X4.out 0).2
  have f1 := (cell_of X4.out 1).2
  have f2 := (cell_of X4.out 2).2
  have f3 := (cell_of X4.out 3).2
  have f4 := (cell_of X4.out 4).2
  have f5 := (cell_of X4.out 5).2
  have f6 := (cell_of X4.out 6).2
  go_wp2_with fail
  refine bodyPost_ret (v := .agg #[.int .i64 id, .string ⟨nm.toArray⟩, .int .i64 k5, .int .u64 b5, .string t5, .slice ka5 kl5 kc5, .slice ia5 il5 ic5]) (by simp [results, Try.results39, go_sem, z0, z1, z2, z3, z4, z5, z6]) rfl ?_
  obtain ⟨u, er5, l5, a5, c5, hO, hr5, hcase⟩ := HY.out
  have hG4 := G4.out
  have hX0 := X0.out
  have hF4 := HF4.out
  rw [HW0.out] at hG4 hF4
  obtain ⟨q1, q2, q3, q4⟩ := it_fin hpl hG4 hX0 hO hF4 hr5 _ _ _ _ _ _ _ _ rfl
  refine ⟨q1, (id, ⟨nm.toArray⟩, u), k5, b5, t5, ka5, kl5, kc5, ia5, il5, ic5, F, rfl, q2, q3, ?_⟩
  rcases hcase with ⟨r, h1, rfl, rfl⟩ | ⟨h1, h2⟩
  · exact Or.inl ⟨_, a5, c5, h1, q4⟩
  · exact Or.inr ⟨_, _, a5, c5, h1, h2, q4⟩
end Go.Proofs.Ytfdbhojghkdlkaa

/-
  The page's own, Own and Next.
-/
namespace Go.Proofs.Ytfdbhojghkdlkaa
open Go.ChangeShapes Go.WideShapes Go.ChangeAt Go.RowKit

/-- Seven cells of one block are written: the other blocks stay. -/
theorem seven_other {w : World} {g : Nat} (v0 v1 v2 v3 v4 v5 v6 : Value) {b : Nat} (h : b ≠ g) :
    (((((((w.setCell ⟨g, 0, none⟩ v0).setCell ⟨g, 1, none⟩ v1).setCell ⟨g, 2, none⟩ v2).setCell ⟨g, 3, none⟩ v3).setCell ⟨g, 4, none⟩ v4).setCell ⟨g, 5, none⟩ v5).setCell ⟨g, 6, none⟩ v6).heap[b]? = w.heap[b]? := by
  have h' : ¬ g = b := fun e => h e.symm
  simp [World.setCell, Array.getElem?_modify, h']

/-- What the page's own tells. -/
def OwnPost {n : Nat} (w : World) (id : Int) (nm : ByteArray) (u : V n) (y : Value) (w' : World) : Prop := ∃ k b t ka kl kc ja jl jc F, y = .agg #[.int .i64 id, .string nm, .int .i64 k, .int .u64 b, .string t, .slice ka kl kc, .slice ja jl jc] ∧ Own w' n (mk k b t ka kl kc ja jl jc) u F ∧ (∀ g, F g → w.heap.size ≤ g ∧ g < w'.heap.size) ∧ Below w.heap.size w w'

theorem two_boxes7 {w w1 : World} {c0 c1 c2 c3 c4 c5 c6 d0 d1 d2 d3 d4 d5 d6 : Value} {t t' : TypeId} (h : Two w w1 (.cells #[c0, c1, c2, c3, c4, c5, c6] t) (.cells #[d0, d1, d2, d3, d4, d5, d6] t')) :
    (∀ j, w1.cell? ⟨w.heap.size, j, none⟩ = #[c0, c1, c2, c3, c4, c5, c6][j]?) ∧ (∀ j, w1.frozen? ⟨w.heap.size, j, none⟩ = false) ∧ (∀ j, w1.cell? ⟨w.heap.size + 1, j, none⟩ = #[d0, d1, d2, d3, d4, d5, d6][j]?) ∧ (∀ j, w1.frozen? ⟨w.heap.size + 1, j, none⟩ = false) :=
  ⟨fun j => (cell_of h.1 j).1, fun j => (cell_of h.1 j).2, fun j => (cell_of h.2 j).1, fun j => (cell_of h.2 j).2⟩

/-- append of one item, its value in memory of its own, as one step. -/
theorem step_pushT {ops : Array Oper} {o : Oper} {a : Act} {w : World} {K : Act → World → Prop} {Q : Exit → Act → World → Prop} {E : Prop} (hgd : o.guard = none) (s x : Operand)
    (hop : o.op = .call { callee := .builtin .append, args := #[s, x], argTypes := #[22, 22] })
    {n : Nat} (v : Value) (its : List (Tm n)) (H : Nat → Prop) (hs : a.eval s = v) (hL : OwnR (shT n) w v its H) (u : Tm n) (F : Nat → Prop) (c0 c1 c2 c3 c4 : Value) (ho : Own w n (.agg #[c0, c1, c2, c3, c4]) u.2.2 F) (hF : ∀ b, F b → ¬ H b) (hH : ∀ b, H b → b < w.heap.size) (hFl : ∀ b, F b → b < w.heap.size)
    (ad : Addr) (c : Nat) (hx : a.eval x = .slice (some ad) 1 c) (hnews : ∀ j y, ([.int .i64 u.1, .string u.2.1, c0, c1, c2, c3, c4] : List Value)[j]? = some y → w.cell? (ad.add j) = some y) (hlen : (its.length + 1) * 104 ≤ 140737488355328)
    (h : ∀ v' w', OwnR (shT n) w' v' (its ++ [u]) (fun b => H b ∨ F b ∨ v'.ownBlock = some b) → w.grownBy w' v.ownBlock → (v'.ownBlock = v.ownBlock ∨ ∀ g, v'.ownBlock = some g → w.heap.size ≤ g) → (∀ g, v'.ownBlock = some g → g < w'.heap.size) → K (a.put o.dst v') w') :
    if Region.wanted o (yielded ops a.tmps) = true then Oper.wp Try.prog o a w K Q else E := by
  obtain ⟨xs, G, h1, h2, h3, h4, h5⟩ := hL
  obtain ⟨i0, hi, hz0, hz1, hz2⟩ := info_parts Try.infoItem
  refine step_append hgd s x 22 hop 0 54 i0 _ 7 104 Try.underlying22 hi hz0 hz1 hz2 rfl (by decide) v its.length xs hs h1 ad 1 c [.int .i64 u.1, .string u.2.1, c0, c1, c2, c3, c4] hx rfl hnews ?_ (by unfold maxLen; omega) hlen (Nat.zero_le _) ?_
  · intro y hy
    rcases List.mem_cons.1 hy with rfl | hy
    · rfl
    · rcases List.mem_cons.1 hy with rfl | hy
      · rfl
      · exact Own.ones n ho y hy
  · intro v' w' q1 q2 q3
    exact h v' w' (OwnR.push (S := shT n) rfl rfl rfl h1 h2 h3 h4 h5 ho hF hH hFl q1 q2 q3) q2 q3 fun g hg => (q1.lt g hg).2

/-- A row of one's own that stands in the box T, all else as it was. -/
def PgInv {n : Nat} (W0 wr : World) (T : Nat) (L : Int) (v : Value) (its : List (Tm n)) (H : Nat → Prop) : Prop := OwnR (shT n) wr v its H ∧ (∀ b, H b → W0.heap.size ≤ b ∧ b < wr.heap.size) ∧ Kept (fun b => b = T) W0 wr ∧ wr.heap[T]? = some (.cells #[.int .i64 L, v] 24 (0, 0))

theorem kept_below {w W0 wr : World} {T : Nat} (hb : Below w.heap.size w W0) (hT : w.heap.size ≤ T) (h : Kept (fun b => b = T) W0 wr) : Below w.heap.size w wr :=
  ⟨h.os.trans hb.os, h.tape.trans hb.tape, h.output.trans hb.output, Nat.le_trans hb.size h.size, fun j hj => (h.block j (Nat.lt_of_lt_of_le hj hb.size) (by omega)).trans (hb.block j hj)⟩

/-- What a push asks. -/
theorem PgInv.side {n : Nat} {W0 wr w1 : World} {T : Nat} {L : Int} {v y : Value} {its : List (Tm n)} {H F : Nat → Prop} {u : V n} (h : PgInv W0 wr T L v its H) (hbel : Below wr.heap.size wr w1) (ho : Own w1 n y u F) (hF : ∀ b, F b → wr.heap.size ≤ b ∧ b < w1.heap.size) (ob : Obj) :
    OwnR (shT n) (w1.alloc ob) v its H ∧ Own (w1.alloc ob) n y u F ∧ (∀ b, F b → ¬ H b) ∧ (∀ b, H b → b < (w1.alloc ob).heap.size) ∧ (∀ b, F b → b < (w1.alloc ob).heap.size) := by
  obtain ⟨a1, a2, a3, a4⟩ := h
  have z1 := hbel.size
  refine ⟨a1.same fun b hb => ?_, ho.same n fun b hb => Below.heap_alloc _ _ _ (hF b hb).2, fun b hb hH => ?_, fun b hb => ?_, fun b hb => ?_⟩
  · have := (a2 b hb).2
    rw [Below.heap_alloc _ _ _ (by omega), hbel.block b this]
  · have := (a2 b hH).2; have := (hF b hb).1; omega
  · have := (a2 b hb).2; simp; omega
  · have := (hF b hb).2; simp; omega

/-- The row behind it, put into its box. -/
theorem PgInv.next {n : Nat} {W0 wr w1 w5 : World} {T : Nat} {L : Int} {v v' : Value} {its its' : List (Tm n)} {H F : Nat → Prop} {ob : Obj} (h : PgInv W0 wr T L v its H) (hT : T < W0.heap.size) (hbel : Below wr.heap.size wr w1) (hF : ∀ b, F b → wr.heap.size ≤ b ∧ b < w1.heap.size)
    (q1 : OwnR (shT n) w5 v' its' (fun b => H b ∨ F b ∨ v'.ownBlock = some b)) (q2 : (w1.alloc ob).grownBy w5 v.ownBlock) (q3 : v'.ownBlock = v.ownBlock ∨ ∀ g, v'.ownBlock = some g → (w1.alloc ob).heap.size ≤ g) (q4 : ∀ g, v'.ownBlock = some g → g < w5.heap.size) :
    PgInv W0 (w5.setCell ⟨T, 1, none⟩ v') T L v' its' (fun b => H b ∨ F b ∨ v'.ownBlock = some b) ∧ w5.heap[T]? = some (.cells #[.int .i64 L, v] 24 (0, 0)) := by
  obtain ⟨a1, a2, a3, a4⟩ := h
  have hv : ∀ g, v.ownBlock = some g → H g := by
    obtain ⟨xs, G, r1, r2, r3, _⟩ := a1
    exact r3
  have z1 := hbel.size
  have z2 := a3.size
  have z3 : w1.heap.size + 1 ≤ w5.heap.size := by have := q2.size; simpa using this
  have hTw : T < wr.heap.size := lt_of_block a4
  have hT5 : w5.heap[T]? = some (.cells #[.int .i64 L, v] 24 (0, 0)) := by
    rw [q2.block T (by simp; omega) (fun e => by have := (a2 T (hv T e.symm)).1; omega), Below.heap_alloc _ _ _ (by omega), hbel.block T hTw]
    exact a4
  have hb : ∀ b, (H b ∨ F b ∨ v'.ownBlock = some b) → W0.heap.size ≤ b ∧ b < w5.heap.size := by
    intro b hb
    rcases hb with hb | hb | hb
    · have := a2 b hb; exact ⟨this.1, by omega⟩
    · have := hF b hb; exact ⟨by omega, by omega⟩
    · refine ⟨?_, q4 b hb⟩
      rcases q3 with e | e
      · exact (a2 b (hv b (by rw [← e]; exact hb))).1
      · have := e b hb; simp at this; omega
  refine ⟨⟨q1.same fun b hb' => ?_, fun b hb' => ⟨(hb b hb').1, by have := (hb b hb').2; simpa [World.setCell] using this⟩, ?_, ?_⟩, hT5⟩
  · have := (hb b hb').1
    have h' : ¬ T = b := by omega
    simp [World.setCell, Array.getElem?_modify, h']
  · refine Kept.setCell ⟨?_, ?_, ?_, by omega, fun b hb' hne => ?_⟩ _ rfl
    · exact q2.os.trans (hbel.os.trans a3.os)
    · exact q2.tape.trans (hbel.tape.trans a3.tape)
    · exact q2.output.trans (hbel.output.trans a3.output)
    · rw [q2.block b (by simp; omega) (fun e => by have := (a2 b (hv b e.symm)).1; omega), Below.heap_alloc _ _ _ (by omega), hbel.block b (by omega)]
      exact a3.block b hb' hne
  · have := set_one_cell (o := 1) hT5 v'
    simpa using this
end Go.Proofs.Ytfdbhojghkdlkaa
