/-
  The program's reader: a box; Decode.
-/
import Derived.Test.YtfdbhojghkdlkaaJ17
import Derived.Test.YtfdbhojghkdlkaaObAdd
namespace Go.Proofs.Ytfdbhojghkdlkaa
open Go.ChangeShapes Go.WideShapes Go.ChangeAt Go.RowKit
open Fl

/-- A row of one's own that stands in the box T, with a reader p that may have changed. -/
def BxI (w wr : World) (p T : Nat) (L : Int) (v : Value) (its : List (Tm 8)) (H : Nat → Prop) : Prop := OwnR (shT 8) wr v its H ∧ (∀ b, H b → w.heap.size ≤ b ∧ b ≠ T ∧ b < wr.heap.size) ∧ w.grownBy wr (some p) ∧ w.heap.size ≤ T ∧ wr.heap[T]? = some (.cells #[.int .i64 L, v] 26 (0, 0))

/-- Where the reader stands behind m items. -/
def RdI (wr : World) (p n m : Nat) (L : Int) (x : List UInt8) (its : List (Tm 8)) (er : Int) : Prop := its.length = m ∧ (∃ r a c, RdO wr p a c r er ∧ (er = 0 → ¬ x.length < 10 ∧ ¬ 256 < cntB x ∧ n = cntB x ∧ L = nmK (x.take 8) ∧ iterE (stIt nmK) m ([], x.drop 10) = .ok (its, r))) ∧ (er ≠ 0 → (decB nmK x).1 = er)

/-- What box leaves. -/
def BoxO (w : World) (p : Nat) (x : List UInt8) (e : Ending) (w' : World) : Prop := w.grownBy w' (some p) ∧ ∃ (L : Int) (v : Value) (its : List (Tm 8)) (H : Nat → Prop) (er : Int), e = .returned (.agg #[.int .i64 L, v]) ∧ OwnR (shT 8) w' v its H ∧ (∀ b, H b → w.heap.size ≤ b ∧ b < w'.heap.size) ∧ (∃ r a c, RdO w' p a c r er ∧
  (er ≠ 0 → (decB nmK x).1 = er) ∧ (er = 0 → ¬ x.length < 10 ∧ ¬ 256 < cntB x ∧ L = nmK (x.take 8) ∧ iterE (stIt nmK) (cntB x) ([], x.drop 10) = .ok (its, r)))

theorem Oct.low {w1 W : World} {p : Nat} {a : Option Addr} {c : Nat} {l : List UInt8} (h : Oct w1 a c l) (hA : 0 < l.length → ∀ ad, a = some ad → ad.block < p) (hk : ∀ b, b < p → W.heap[b]? = w1.heap[b]?) : Oct W a c l := by
  refine ⟨fun i o hi => ?_, h.2⟩
  obtain ⟨b, off, e, hc⟩ := h.1 i o hi
  refine ⟨b, off, e, ?_⟩
  have := hA (by have := (List.getElem?_eq_some_iff.1 hi).1; omega) _ e
  simp only [World.cell?] at hc ⊢
  rw [hk b this]
  exact hc
theorem RdO.low {w1 W : World} {p : Nat} {a : Option Addr} {c : Nat} {l : List UInt8} {er : Int} (h : RdO w1 p a c l er) (hk : ∀ b, b ≤ p → W.heap[b]? = w1.heap[b]?) : RdO W p a c l er :=
  ⟨(hk p (Nat.le_refl _)).trans h.1, h.2.1.low h.2.2 fun b hb => hk b (by omega), h.2.2⟩

theorem BxI.side {w wr w1 : World} {p T : Nat} {L : Int} {v y : Value} {its : List (Tm 8)} {H F : Nat → Prop} {u : V 8} (h : BxI w wr p T L v its H) (hp : p < w.heap.size) (hg : wr.grownBy w1 (some p)) (ho : Own w1 8 y u F) (hF : ∀ b, F b → wr.heap.size ≤ b ∧ b < w1.heap.size) (ob : Obj) :
    OwnR (shT 8) (w1.alloc ob) v its H ∧ Own (w1.alloc ob) 8 y u F ∧ (∀ b, F b → ¬ H b) ∧ (∀ b, H b → b < (w1.alloc ob).heap.size) ∧ (∀ b, F b → b < (w1.alloc ob).heap.size) := by
  obtain ⟨a1, a2, a3, a4, a5⟩ := h
  have z1 := hg.size
  refine ⟨a1.same fun b hb => ?_, ho.same 8 fun b hb => Below.heap_alloc _ _ _ (hF b hb).2, fun b hb hH => ?_, fun b hb => ?_, fun b hb => ?_⟩
  · have := a2 b hb
    rw [Below.heap_alloc _ _ _ (by omega), hg.block b (by omega) (fun e => by cases e; omega)]
  · have := (a2 b hH).2.2; have := (hF b hb).1; omega
  · have := (a2 b hb).2.2; simp; omega
  · have := (hF b hb).2; simp; omega

theorem BxI.next {w wr w1 w5 : World} {p T : Nat} {L : Int} {v v' : Value} {its its' : List (Tm 8)} {H F : Nat → Prop} {ob : Obj} (h : BxI w wr p T L v its H) (hp : p < w.heap.size) (hg : wr.grownBy w1 (some p)) (hF : ∀ b, F b → wr.heap.size ≤ b ∧ b < w1.heap.size)
    (q1 : OwnR (shT 8) w5 v' its' (fun b => H b ∨ F b ∨ v'.ownBlock = some b)) (q2 : (w1.alloc ob).grownBy w5 v.ownBlock) (q3 : v'.ownBlock = v.ownBlock ∨ ∀ g, v'.ownBlock = some g → (w1.alloc ob).heap.size ≤ g) (q4 : ∀ g, v'.ownBlock = some g → g < w5.heap.size) :
    BxI w (w5.setCell ⟨T, 1, none⟩ v') p T L v' its' (fun b => H b ∨ F b ∨ v'.ownBlock = some b) ∧ w5.heap[T]? = some (.cells #[.int .i64 L, v] 26 (0, 0)) ∧ (∀ b, b ≤ p → (w5.setCell ⟨T, 1, none⟩ v').heap[b]? = w1.heap[b]?) := by
  obtain ⟨a1, a2, a3, a4, a5⟩ := h
  have hv : ∀ g, v.ownBlock = some g → H g := by
    obtain ⟨xs, G, r1, r2, r3, _⟩ := a1
    exact r3
  have z1 := hg.size
  have z2 := a3.size
  have z3 : w1.heap.size + 1 ≤ w5.heap.size := by have := q2.size; simpa using this
  have hTw : T < wr.heap.size := lt_of_block a5
  have hT5 : w5.heap[T]? = some (.cells #[.int .i64 L, v] 26 (0, 0)) := by
    rw [q2.block T (by simp; omega) (fun e => (a2 T (hv T e.symm)).2.1 rfl), Below.heap_alloc _ _ _ (by omega), hg.block T hTw (fun e => by cases e; omega)]
    exact a5
  have hb : ∀ b, (H b ∨ F b ∨ v'.ownBlock = some b) → w.heap.size ≤ b ∧ b ≠ T ∧ b < w5.heap.size := by
    intro b hb
    rcases hb with hb | hb | hb
    · have := a2 b hb; exact ⟨this.1, this.2.1, by omega⟩
    · have := hF b hb; exact ⟨by omega, by omega, by omega⟩
    · rcases q3 with e | e
      · have := a2 b (hv b (by rw [← e]; exact hb)); exact ⟨this.1, this.2.1, q4 b hb⟩
      · have := e b hb; simp at this; exact ⟨by omega, by omega, q4 b hb⟩
  have low : ∀ b, b < w.heap.size → w5.heap[b]? = w1.heap[b]? := fun b hlt => by
    rw [q2.block b (by simp; omega) (fun e => by have := (a2 b (hv b e.symm)).1; omega), Below.heap_alloc _ _ _ (by omega)]
  have setT : ∀ b, b ≠ T → (w5.setCell ⟨T, 1, none⟩ v').heap[b]? = w5.heap[b]? := fun b hne => by
    have h' : ¬ T = b := fun e => hne e.symm
    simp [World.setCell, Array.getElem?_modify, h']
  have hgr : w.grownBy (w5.setCell ⟨T, 1, none⟩ v') (some p) := by
    refine ⟨?_, ?_, ?_, by simp [World.setCell]; omega, fun k hk hn => ?_⟩
    · exact (show (w5.setCell ⟨T, 1, none⟩ v').os = w5.os by simp only [World.setCell]).trans (q2.os.trans (hg.os.trans a3.os))
    · exact (show (w5.setCell ⟨T, 1, none⟩ v').tape = w5.tape by simp only [World.setCell]).trans (q2.tape.trans (hg.tape.trans a3.tape))
    · exact (show (w5.setCell ⟨T, 1, none⟩ v').output = w5.output by simp only [World.setCell]).trans (q2.output.trans (hg.output.trans a3.output))
    · rw [setT k (by omega), low k hk, hg.block k (by omega) hn, a3.block k hk hn]
  refine ⟨⟨q1.same fun b hb' => setT b (hb b hb').2.1, fun b hb' => ⟨(hb b hb').1, (hb b hb').2.1, by have := (hb b hb').2.2; simpa [World.setCell] using this⟩, hgr, a4, ?_⟩, hT5, fun b hle => ?_⟩
  · have := set_one_cell (o := 1) hT5 v'
    simpa using this
  · rw [setT b (by omega), low b (by omega)]

/-- How long the slice in a box's second cell is. -/
def boxLen1 (W : World) (g : Nat) : Nat := match W.cell? ⟨g, 1, none⟩ with | some (.slice _ n _) => n | _ => 0
theorem boxLen1_of {W : World} {g n c : Nat} {a : Option Addr} (h : W.cell? ⟨g, 1, none⟩ = some (.slice a n c)) : boxLen1 W g = n := by unfold boxLen1; rw [h]

theorem bx_math (x : List UInt8) (n : Nat) (hn : nmK (nxT 2 (nxL 8 x 0) (nxE 8 x 0)) = n) :
    (nxE 2 (nxL 8 x 0) (nxE 8 x 0) ≠ 0 → nxE 2 (nxL 8 x 0) (nxE 8 x 0) = 8 ∧ n = 0 ∧ (decB nmK x).1 = 8) ∧
    (nxE 2 (nxL 8 x 0) (nxE 8 x 0) = 0 → ¬ x.length < 10 ∧ n = cntB x ∧ nxL 2 (nxL 8 x 0) (nxE 8 x 0) = x.drop 10 ∧ nxT 8 x 0 = x.take 8) := by
  have short : x.length < 10 → (decB nmK x).1 = 8 := fun h => by unfold decB; rw [if_pos h]
  by_cases h8 : 8 ≤ x.length
  · have e1 : nxL 8 x 0 = x.drop 8 := by unfold nxL; rw [if_pos ⟨rfl, h8⟩]
    have e2 : nxE 8 x 0 = 0 := by unfold nxE; rw [if_pos rfl, if_pos h8]
    have e3 : nxT 8 x 0 = x.take 8 := by unfold nxT; rw [if_pos ⟨rfl, h8⟩]
    rw [e1, e2] at hn ⊢
    by_cases h9 : 10 ≤ x.length
    · have h1 : 2 ≤ (x.drop 8).length := by rw [List.length_drop]; omega
      have f1 : nxL 2 (x.drop 8) 0 = x.drop 10 := by unfold nxL; rw [if_pos ⟨rfl, h1⟩, List.drop_drop]
      have f2 : nxE 2 (x.drop 8) 0 = 0 := by unfold nxE; rw [if_pos rfl, if_pos h1]
      have f3 : nxT 2 (x.drop 8) 0 = (x.drop 8).take 2 := by unfold nxT; rw [if_pos ⟨rfl, h1⟩]
      rw [f3] at hn
      rw [f1, f2]
      refine ⟨fun h => absurd rfl h, fun _ => ⟨by omega, ?_, rfl, e3⟩⟩
      have hb := numO_bound 2 ((x.drop 8).take 2) (by rw [List.length_take]; omega)
      unfold nmK wrap64 at hn
      unfold cntB
      omega
    · have h1 : ¬ 2 ≤ (x.drop 8).length := by rw [List.length_drop]; omega
      have f2 : nxE 2 (x.drop 8) 0 = 8 := by unfold nxE; rw [if_pos rfl, if_neg h1]
      have f3 : nxT 2 (x.drop 8) 0 = [] := by unfold nxT; rw [if_neg (fun h => h1 h.2)]
      rw [f3, nmK_nil] at hn
      rw [f2]
      exact ⟨fun _ => ⟨rfl, by omega, short (by omega)⟩, fun h => by omega⟩
  · have e2 : nxE 8 x 0 = 8 := by unfold nxE; rw [if_pos rfl, if_neg h8]
    have g : ∀ m l', nxE m l' 8 = 8 := fun m l' => by unfold nxE; rw [if_neg (by omega)]
    have t : ∀ m l', nxT m l' 8 = [] := fun m l' => by unfold nxT; rw [if_neg (fun h => by omega)]
    rw [e2, t, nmK_nil] at hn
    rw [e2, g]
    exact ⟨fun _ => ⟨rfl, by omega, short (by omega)⟩, fun h => by omega⟩

theorem nm_two {l : List UInt8} (h : l.length ≤ 2) : ∃ k : Nat, k ≤ 65535 ∧ nmK l = k := by
  have hb := numO_bound l.length l rfl
  have hlt : numO l < 65536 := by
    have : l.length = 0 ∨ l.length = 1 ∨ l.length = 2 := by omega
    rcases this with e | e | e <;> rw [e] at hb <;> omega
  refine ⟨(numO l).toNat, by omega, ?_⟩
  unfold nmK wrap64
  omega

def ItR (w : World) (p : Nat) (l : List UInt8) (y : Value) (w' : World) : Prop := ItO w p l (.returned y) w'
theorem oitem_r (p : Nat) (a : Option Addr) (c : Nat) (l : List UInt8) (w : World) (hr : RdO w p a c l 0) : Calls Try.prog 39 #[.pointer (some ⟨p, 0, none⟩)] w fun e w' => ∃ y, e = .returned y ∧ ItR w p l y w' := by
  refine (oitem_any p a c l w hr).mono ?_
  intro e w' h
  obtain ⟨_, _, _, _, _, _, _, _, _, _, _, _, e1, _⟩ := id h
  subst e1
  exact ⟨_, rfl, h⟩

theorem RdI.next {w1 W : World} {p n m : Nat} {L : Int} {x r : List UInt8} {its : List (Tm 8)} {t : Tm 8} (hm : its.length = m) (hmn : m < n) (hg : ¬ x.length < 10 ∧ ¬ 256 < cntB x ∧ n = cntB x ∧ L = nmK (x.take 8) ∧ iterE (stIt nmK) m ([], x.drop 10) = .ok (its, r))
    (hit : (∃ r' a c, rdIt nmK r = .ok (t, r') ∧ RdO w1 p a c r' 0) ∨ (∃ er' l' a c, rdIt nmK r = .error er' ∧ er' ≠ 0 ∧ RdO w1 p a c l' er')) (hk : ∀ b, b ≤ p → W.heap[b]? = w1.heap[b]?) : ∃ er, RdI W p n (m + 1) L x (its ++ [t]) er := by
  obtain ⟨g1, g2, g3, g4, g5⟩ := hg
  rcases hit with ⟨r', a', c', h1, h2⟩ | ⟨er', l', a', c', h1, h2, h3⟩
  · exact ⟨0, by simp [hm], ⟨r', a', c', h2.low hk, fun _ => ⟨g1, g2, g3, g4, iterE_one g5 (stIt_ok h1)⟩⟩, fun h => absurd rfl h⟩
  · refine ⟨er', by simp [hm], ⟨l', a', c', h3.low hk, fun h => absurd h h2⟩, fun _ => ?_⟩
    unfold decB
    rw [if_neg g1, if_neg g2, ← g3, iterE_bad g5 (stIt_err h1) hmn]

/-- The box is read out into the result's variable. -/
theorem bx_out {w wr : World} {p R : Nat} {L : Int} {v : Value} {x r : List UInt8} {its : List (Tm 8)} {H : Nat → Prop} {er : Int} {a : Option Addr} {c : Nat} (hg : w.grownBy wr (some p)) (hR : w.heap.size ≤ R) (hp : p < w.heap.size) (ho : OwnR (shT 8) wr v its H) (hH : ∀ b, H b → R < b ∧ b < wr.heap.size) (hr : RdO wr p a c r er)
    (h1 : er ≠ 0 → (decB nmK x).1 = er) (h2 : er = 0 → ¬ x.length < 10 ∧ ¬ 256 < cntB x ∧ L = nmK (x.take 8) ∧ iterE (stIt nmK) (cntB x) ([], x.drop 10) = .ok (its, r)) (v0 v1 : Value) : BoxO w p x (.returned (.agg #[.int .i64 L, v])) ((wr.setCell ⟨R, 0, none⟩ v0).setCell ⟨R, 1, none⟩ v1) := by
  have far : ∀ b, b ≠ R → ((wr.setCell ⟨R, 0, none⟩ v0).setCell ⟨R, 1, none⟩ v1).heap[b]? = wr.heap[b]? := fun b hb => set2_other _ _ hb
  have hz : ((wr.setCell ⟨R, 0, none⟩ v0).setCell ⟨R, 1, none⟩ v1).heap.size = wr.heap.size := by simp [World.setCell]
  have z1 : ((wr.setCell ⟨R, 0, none⟩ v0).setCell ⟨R, 1, none⟩ v1).os = wr.os := by simp only [World.setCell]
  have z2 : ((wr.setCell ⟨R, 0, none⟩ v0).setCell ⟨R, 1, none⟩ v1).tape = wr.tape := by simp only [World.setCell]
  have z3 : ((wr.setCell ⟨R, 0, none⟩ v0).setCell ⟨R, 1, none⟩ v1).output = wr.output := by simp only [World.setCell]
  generalize (wr.setCell ⟨R, 0, none⟩ v0).setCell ⟨R, 1, none⟩ v1 = W at *
  have hs := hg.size
  refine ⟨⟨z1.trans hg.os, z2.trans hg.tape, z3.trans hg.output, by omega, fun k hk hn => (far k (by omega)).trans (hg.block k hk hn)⟩, L, v, its, H, er, rfl, ho.same fun b hb => far b (by have := (hH b hb).1; omega), fun b hb => ?_, r, a, c, hr.low fun b hb => far b (by omega), h1, h2⟩
  have := hH b hb
  omega

set_option maxRecDepth 100000 in
set_option maxHeartbeats 3200000 in
theorem obox_any (p : Nat) (a : Option Addr) (c : Nat) (x : List UInt8) (w : World) (hr : RdO w p a c x 0) :
    Calls Try.prog 21 #[.pointer (some ⟨p, 0, none⟩)] w (BoxO w p x) := by
  have hpl := lt_of_block hr.1
  have B0 : Hid (Below w.heap.size w (w.alloc (.cells #[.int .i64 0, .slice none 0 0] 26))) := below_one _ _
  have X0 : Hid ((w.alloc (.cells #[.int .i64 0, .slice none 0 0] 26)).heap[w.heap.size]? = some (.cells #[.int .i64 0, .slice none 0 0] 26 (0, 0))) := heap_alloc_new _ _
  have HR : Hid (RdO (w.alloc (.cells #[.int .i64 0, .slice none 0 0] 26)) p a c x 0) := hr.below B0.out
  clear hr
  obtain ⟨W0, HW0⟩ : ∃ W0, Hid (W0 = w.alloc (.cells #[.int .i64 0, .slice none 0 0] 26)) := ⟨_, rfl⟩
  obtain ⟨n, hn, hne⟩ := nm_two (nxT_len 2 (nxL 8 x 0) (nxE 8 x 0))
  have HNE : Hid (nmK (nxT 2 (nxL 8 x 0) (nxE 8 x 0)) = n) := hne
  clear hne
  go_enter Try.func21, Try.ntmps21
  go_wp2_with fail
  refine (onumber_p 8 (by omega) p a c x 0 _ HR.out).mono ?_
  rintro e w1 ⟨hg1, rfl, a1, c1, hr1⟩
  rw [← HW0.out] at hg1
  have G1 : Hid (W0.grownBy w1 (some p)) := hg1
  have R1 : Hid (RdO w1 p a1 c1 (nxL 8 x 0) (nxE 8 x 0)) := hr1
  clear hg1 hr1
  obtain ⟨L, HL⟩ : ∃ L, Hid (nmK (nxT 8 x 0) = L) := ⟨_, rfl⟩
  rw [HL.out]
  have B1 : Hid (Below w1.heap.size w1 (w1.alloc (.cells #[.int .i64 L, .slice none 0 0] 26))) := below_one _ _
  have T1 : Hid ((w1.alloc (.cells #[.int .i64 L, .slice none 0 0] 26)).heap[w1.heap.size]? = some (.cells #[.int .i64 L, .slice none 0 0] 26 (0, 0))) := heap_alloc_new _ _
  go_wp2_with fail
  refine (onumber_p 2 (by omega) p a1 c1 _ _ _ (R1.out.below B1.out)).mono ?_
  rintro e w2 ⟨hg2, rfl, a2, c2, hr2⟩
  rw [HNE.out]
  have hw1 : w.heap.size + 1 ≤ w1.heap.size := by have := G1.out.size; rw [HW0.out] at this; simpa using this
  have T2 : Hid (w2.heap[w1.heap.size]? = some (.cells #[.int .i64 L, .slice none 0 0] 26 (0, 0))) := (hg2.block _ (by simp) (fun e => by cases e; omega)).trans T1.out
  have G2 : Hid (W0.grownBy w2 (some p)) := grown_trans G1.out (grown_trans (grown_of_below B1.out) hg2)
  have X2 : Hid (w2.heap[w.heap.size]? = some (.cells #[.int .i64 0, .slice none 0 0] 26 (0, 0))) := by
    have := X0.out
    rw [← HW0.out] at this
    exact (G2.out.block _ (by rw [HW0.out]; simp) (fun e => by cases e; omega)).trans this
  have GW : Hid (w.grownBy w2 (some p)) := by
    have := G2.out
    rw [HW0.out] at this
    exact grown_trans (grown_of_below (below_one _ _)) this
  have R2 : Hid (RdO w2 p a2 c2 (nxL 2 (nxL 8 x 0) (nxE 8 x 0)) (nxE 2 (nxL 8 x 0) (nxE 8 x 0))) := hr2
  have HM := bx_math x n HNE.out
  obtain ⟨l2, HL2⟩ : ∃ l2, Hid (nxL 2 (nxL 8 x 0) (nxE 8 x 0) = l2) := ⟨_, rfl⟩
  obtain ⟨e2, HE2⟩ : ∃ e2, Hid (nxE 2 (nxL 8 x 0) (nxE 8 x 0) = e2) := ⟨_, rfl⟩
  rw [HL2.out, HE2.out] at R2 HM
  have HMM : Hid _ := HM
  clear hg2 hr2 R1 G1 HR HNE HM B1 T1
  have hsz2 : w1.heap.size < w2.heap.size := lt_of_block T2.out
  obtain ⟨u0, uf0⟩ := cell_of T2.out 0
  obtain ⟨u1, uf1⟩ := cell_of T2.out 1
  obtain ⟨y0, yf0⟩ := cell_of X2.out 0
  obtain ⟨y1, yf1⟩ := cell_of X2.out 1
  simp only [List.getElem?_toArray, List.getElem?_cons_zero, List.getElem?_cons_succ] at u0 u1 y0 y1
  obtain ⟨x0, x1, f0, f1⟩ := rdo_cells R2.out.1
  by_cases he2 : e2 = 0
  · subst he2
    obtain ⟨k1, k2, k3, k4⟩ := HMM.out.2 rfl
    by_cases h256 : 256 < n
    · have HD : Hid ((decB nmK x).1 = 3) := by
        show _ = _
        unfold decB
        rw [if_neg k1, if_pos (by omega)]
      clear k1 k2 k3 k4 HMM
      have h256' : (256 : Int) < (n : Int) := by omega
      have hn0 : (0 : Int) < (n : Int) := by omega
      have R3 : Hid (RdO (w2.setCell ⟨p, 1, none⟩ (.int .i64 3)) p a2 c2 l2 3) := ⟨rdo_set1 R2.out.1 _, R2.out.2.1.rdo R2.out.1 (rdo_grown _), R2.out.2.2⟩
      have hp1 : ¬ p = w1.heap.size := by omega
      have hp2 : ¬ p = w.heap.size := by omega
      have hp3 : ¬ w1.heap.size = p := by omega
      have hp4 : ¬ w.heap.size = p := by omega
      have HG3 : Hid (w.grownBy (w2.setCell ⟨p, 1, none⟩ (.int .i64 3)) (some p)) := grown_trans GW.out (rdo_grown _)
      have T3 : Hid ((w2.setCell ⟨p, 1, none⟩ (.int .i64 3)).heap[w1.heap.size]? = some (.cells #[.int .i64 L, .slice none 0 0] 26 (0, 0))) := ((rdo_grown _).block _ hsz2 (fun e => by cases e; omega)).trans T2.out
      have X3 : Hid ((w2.setCell ⟨p, 1, none⟩ (.int .i64 3)).heap[w.heap.size]? = some (.cells #[.int .i64 0, .slice none 0 0] 26 (0, 0))) := ((rdo_grown _).block _ (lt_of_block X2.out) (fun e => by cases e; omega)).trans X2.out
      go_wp2_with fail
      clear x0 x1 f0 f1 u0 u1 uf0 uf1 y0 y1 yf0 yf1
      go_loopw [] (fun wr => Hid (wr = w2.setCell ⟨p, 1, none⟩ (.int .i64 3))) (fun _ => 0)
      case atStart => exact rfl
      case round =>
        obtain rfl := hrel.out
        clear hrel
        obtain ⟨u0, uf0⟩ := cell_of T3.out 0
        obtain ⟨u1, uf1⟩ := cell_of T3.out 1
        obtain ⟨y0, yf0⟩ := cell_of X3.out 0
        obtain ⟨y1, yf1⟩ := cell_of X3.out 1
        simp only [List.getElem?_toArray, List.getElem?_cons_zero, List.getElem?_cons_succ] at u0 u1 y0 y1
        obtain ⟨x0, x1, f0, f1⟩ := rdo_cells R3.out.1
        generalize w2.setCell ⟨p, 1, none⟩ (.int .i64 3) = w3 at *
        go_wp2_with fail
        refine bodyPost_ret (v := .agg #[.int .i64 L, .slice none 0 0]) (by simp [results, Try.results21, go_sem, y0, y1]) rfl ?_
        exact bx_out HG3.out (Nat.le_refl _) hpl (OwnR.nil _ _) (fun _ h => h.elim) R3.out (fun _ => HD.out) (fun h => by omega) _ _
    · have k5 : ¬ 256 < cntB x := by omega
      have HGOOD : Hid (¬ x.length < 10 ∧ ¬ 256 < cntB x ∧ n = cntB x ∧ L = nmK (x.take 8)) := ⟨k1, k5, k2, by rw [← k4]; exact HL.out.symm⟩
      rw [k3] at R2
      have h256' : ¬ (256 : Int) < (n : Int) := by omega
      have hn256 : n ≤ 256 := by omega
      have R0 : Hid (RdI w2 p n 0 L x [] 0) := ⟨rfl, ⟨x.drop 10, a2, c2, R2.out, fun _ => ⟨k1, k5, k2, HGOOD.out.2.2.2, rfl⟩⟩, fun h => absurd rfl h⟩
      clear k1 k2 k3 k4 k5 HMM h256 HL2 HE2
      go_wp2_with fail
      clear x0 x1 f0 f1 u0 u1 uf0 uf1 y0 y1 yf0 yf1
      have hW0 : W0.heap.size = w.heap.size + 1 := by rw [HW0.out]; simp
      have hpW : p < W0.heap.size := by omega
      have HWG : Hid (w.grownBy W0 (some p)) := by rw [HW0.out]; exact grown_of_below (below_one _ _)
      have XW : Hid (W0.heap[w.heap.size]? = some (.cells #[.int .i64 0, .slice none 0 0] 26 (0, 0))) := by rw [HW0.out]; exact X0.out
      go_loopw [] (fun wr => ∃ (m : Nat) (v : Value) (H : Nat → Prop) (its : List (Tm 8)) (er : Int), m ≤ n ∧ Hid (BxI W0 wr p w1.heap.size L v its H) ∧ Hid (RdI wr p n m L x its er)) (fun wr => n - boxLen1 wr w1.heap.size)
      case atStart => exact ⟨0, _, _, [], 0, Nat.zero_le _, ⟨OwnR.nil _ _, fun _ h => h.elim, G2.out, by omega, T2.out⟩, R0.out⟩
      case round =>
        obtain ⟨m, v, H, its, er, hm, HI, HRI⟩ := hrel
        obtain ⟨va, vc, rfl⟩ := HI.out.1.shape
        obtain ⟨hlen, ⟨r, ra, rc, hr, hgood⟩, hbad⟩ := HRI.out
        have HRR : Hid (RdO wr p ra rc r er) := hr
        have HGD : Hid (er = 0 → ¬ x.length < 10 ∧ ¬ 256 < cntB x ∧ n = cntB x ∧ L = nmK (x.take 8) ∧ iterE (stIt nmK) m ([], x.drop 10) = .ok (its, r)) := hgood
        have HBD : Hid (er ≠ 0 → (decB nmK x).1 = er) := hbad
        have HX : Hid (wr.heap[w.heap.size]? = some (.cells #[.int .i64 0, .slice none 0 0] 26 (0, 0))) := (HI.out.2.2.1.block _ (by omega) (fun e => by cases e; omega)).trans XW.out
        have HLN : Hid (its.length = m) := hlen
        obtain ⟨t0, tf0⟩ := cell_of HI.out.2.2.2.2 0
        obtain ⟨t1, tf1⟩ := cell_of HI.out.2.2.2.2 1
        obtain ⟨y0, yf0⟩ := cell_of HX.out 0
        obtain ⟨y1, yf1⟩ := cell_of HX.out 1
        simp only [List.getElem?_toArray, List.getElem?_cons_zero, List.getElem?_cons_succ] at t0 t1 y0 y1
        obtain ⟨x0, x1, f0, f1⟩ := rdo_cells hr.1
        have HBL : Hid (boxLen1 wr w1.heap.size = its.length) := boxLen1_of t1
        clear hr hgood hbad hlen
        by_cases hgo : its.length < n ∧ er = 0
        · obtain ⟨hlt, rfl⟩ := hgo
          have hm1 : (its.length : Int) < (n : Int) := by omega
          have HLEN : Hid ((its.length + 1) * 104 ≤ 140737488355328) := by show _ ≤ _; omega
          have HG0 : Hid _ := HGD.out rfl
          have t1d : wr.drew.cell? ⟨w1.heap.size, 1, none⟩ = _ := t1
          have HRD : Hid (RdO wr.drew p ra rc r 0) := HRR.out
          clear y0 y1 yf0 yf1 t0 tf0
          go_wp2_with fail
          go_region_law (first
            | (refine step_call1 rfl 39 (by intros; go_simp) _ _ rfl (.pointer (some ⟨p, 0, none⟩)) (by first | (simp [Act.eval]; done) | simp [Act.eval, Act.put]) (fun y w' => ItR wr.drew p r y w') (oitem_r p ra rc r _ HRD.out) ?_; intro y w3 hR; obtain ⟨hg0, tt, k', b', t', ka', kl', kc', ja', jl', jc', F, e3, ho, hF, hit⟩ := hR
               simp only [Ending.returned.injEq] at e3
               subst e3
               have hg : wr.grownBy w3 (some p) := grown_trans (grown_of_below (Below.refl _ wr).drew) hg0
               have t1w : w3.cell? ⟨w1.heap.size, 1, none⟩ = _ := keep_cell hg t1 (by show w1.heap.size ≠ p; omega)
               have t1a : ∀ o, (w3.alloc o).cell? ⟨w1.heap.size, 1, none⟩ = _ := fun o => keepc (below_one w3 o) _ _ t1w
               have SD := BxI.side HI.out hpW hg ho hF (.cells #[.int .i64 tt.1, .string tt.2.1, .int .i64 k', .int .u64 b', .string t', .slice ka' kl' kc', .slice ja' jl' jc'] 54))
            | (refine step_pushT rfl _ _ rfl (.slice va its.length vc) its H (by first | (simp [Act.eval]; done) | simp [Act.eval, Act.put]) SD.1 tt F (.int .i64 k') (.int .u64 b') (.string t') (.slice ka' kl' kc') (.slice ja' jl' jc') SD.2.1 SD.2.2.1 SD.2.2.2.1 SD.2.2.2.2 ⟨w3.heap.size, 0, none⟩ 1 (by first | (simp [Act.eval]; done) | simp [Act.eval, Act.put]) (fun j y hj => newCellsA w3 _ _ j y (by simpa using hj)) HLEN.out ?_; intro v' w5 q1 q2 q3 q4
               have NX := BxI.next HI.out hpW hg hF q1 q2 q3 q4
               obtain ⟨c5, f5⟩ := cell_of NX.2.1 1
               simp only [List.getElem?_toArray, List.getElem?_cons_zero, List.getElem?_cons_succ] at c5
               obtain ⟨av', cv', rfl⟩ := q1.shape))
          all_goals
            have hle : (its ++ [tt]).length = its.length + 1 := by simp
            have NX1 := NX.1
            have NXR := RdI.next (L := L) HLN.out (by rw [← HLN.out]; exact hlt) HG0.out hit NX.2.2
            rw [hle] at NX1 NXR
            have NX' : Hid _ := NX1
            have NR' : Hid _ := NXR
            clear NX1 NX NXR hle hit q1 q2 q3 q4 SD
            go_wp2_with fail
            refine ⟨?_, ?_⟩
            · obtain ⟨er', h'⟩ := NR'.out
              exact ⟨m + 1, _, _, _, er', by have := HLN.out; omega, NX'.out, h'⟩
            · have hc := (cell_of NX'.out.2.2.2.2 1).1
              simp only [List.getElem?_toArray, List.getElem?_cons_zero, List.getElem?_cons_succ] at hc
              rw [boxLen1_of hc, HBL.out]
              omega
        · have hfin : Hid (er = 0 → ¬ x.length < 10 ∧ ¬ 256 < cntB x ∧ L = nmK (x.take 8) ∧ iterE (stIt nmK) (cntB x) ([], x.drop 10) = .ok (its, r)) := fun h0 => by
            obtain ⟨g1, g2, g3, g4, g5⟩ := HGD.out h0
            have : m = n := by have := HLN.out; have : ¬ its.length < n := fun h => hgo ⟨h, h0⟩; omega
            rw [this, g3] at g5
            exact ⟨g1, g2, g4, g5⟩
          have OUT : Hid (∀ v0 v1, BoxO w p x (.returned (.agg #[.int .i64 L, .slice va its.length vc])) ((wr.setCell ⟨w.heap.size, 0, none⟩ v0).setCell ⟨w.heap.size, 1, none⟩ v1)) := fun v0 v1 => bx_out (grown_trans HWG.out HI.out.2.2.1) (Nat.le_refl _) hpl HI.out.1 (fun b hb => ⟨by have := (HI.out.2.1 b hb).1; omega, (HI.out.2.1 b hb).2.2⟩) HRR.out HBD.out hfin.out v0 v1
          by_cases hlt : its.length < n
          · have h0 : er ≠ 0 := fun h => hgo ⟨hlt, h⟩
            have hd1 : (er == 0) = false := by simpa using h0
            have hm1 : (its.length : Int) < (n : Int) := by omega
            clear hgo h0 hfin
            go_wp2_with fail
            refine bodyPost_ret (v := .agg #[.int .i64 L, .slice va its.length vc]) (by simp [results, Try.results21, go_sem, y0, y1]) rfl ?_
            exact OUT.out _ _
          · have hm1 : ¬ (its.length : Int) < (n : Int) := by omega
            clear hgo hfin
            go_wp2_with fail
            refine bodyPost_ret (v := .agg #[.int .i64 L, .slice va its.length vc]) (by simp [results, Try.results21, go_sem, y0, y1]) rfl ?_
            exact OUT.out _ _
  · obtain ⟨k1, rfl, k3⟩ := HMM.out.1 he2
    subst k1
    have HD : Hid ((decB nmK x).1 = 8) := k3
    clear k3 HMM he2
    go_wp2_with fail
    clear x0 x1 f0 f1 u0 u1 uf0 uf1 y0 y1 yf0 yf1
    go_loopw [] (fun wr => Hid (wr = w2)) (fun _ => 0)
    case atStart => exact rfl
    case round =>
      obtain rfl := hrel.out
      clear hrel
      obtain ⟨u0, uf0⟩ := cell_of T2.out 0
      obtain ⟨u1, uf1⟩ := cell_of T2.out 1
      obtain ⟨y0, yf0⟩ := cell_of X2.out 0
      obtain ⟨y1, yf1⟩ := cell_of X2.out 1
      simp only [List.getElem?_toArray, List.getElem?_cons_zero, List.getElem?_cons_succ] at u0 u1 y0 y1
      obtain ⟨x0, x1, f0, f1⟩ := rdo_cells R2.out.1
      go_wp2_with fail
      refine bodyPost_ret (v := .agg #[.int .i64 L, .slice none 0 0]) (by simp [results, Try.results21, go_sem, y0, y1]) rfl ?_
      exact bx_out GW.out (Nat.le_refl _) hpl (OwnR.nil _ _) (fun _ h => h.elim) R2.out (fun _ => HD.out) (fun h => by omega) _ _
end Go.Proofs.Ytfdbhojghkdlkaa
