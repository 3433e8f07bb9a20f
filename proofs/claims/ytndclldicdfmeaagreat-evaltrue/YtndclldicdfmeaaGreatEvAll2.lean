/-
  What two parts are that are numbers: a row of two values of one's own.
-/
import Derived.Test.YtndclldicdfmeaaGreatEvMach
import Derived.Test.YtndclldicdfmeaaGreatVaRow
namespace Go.Proofs.YtndclldicdfmeaaGreat
open Go.ChangeShapes Go.WideShapes Go.ChangeAt Go.RowKit Go.Deep

abbrev nV (b : Int) : V 1 := (2, b, ⟨#[]⟩, [], [])

theorem own1 (w : World) {b : Int} (h : 0 ≤ b ∧ b < 18446744073709551616) : Own w 1 (mk 2 b ⟨#[]⟩ none 0 0 none 0 0) (nV b) (fun _ => False) := by
  have := OwnL.part (w := w) (n := 0) (k := 2) (b := b) (t := ⟨#[]⟩) (ka := none) (ia := none) (kc := 0) (ic := 0) (ks := []) (its := []) (OwnL.nil w 0) (OwnK.nil w) (fun b hb => by simp [Value.ownBlock] at hb) (by decide) h (by decide) (by simp) (by simp) (by simp)
  exact this.more 1 (fun b hb => by simp [Value.ownBlock] at hb)

theorem news5 (w : World) (c0 c1 c2 c3 c4 : Value) (t : TypeId) : ∀ j u, ([c0, c1, c2, c3, c4] : List Value)[j]? = some u → (w.alloc (.cells #[c0, c1, c2, c3, c4] t)).cell? ((⟨w.heap.size, 0, none⟩ : Addr).add j) = some u := by
  intro j u hj
  have := heap_alloc_new w (.cells #[c0, c1, c2, c3, c4] t)
  rw [add_plain]
  simp only [World.cell?, this]
  simpa using hj

theorem Mc.grown {w w' : World} {M : Nat} {s : List Value} {f : Int} {r : Option Nat} (h : Mc w M s f) (hg : w.grownBy w' r) (hr : some M ≠ r) : Mc w' M s f := ⟨(hg.block M h.lt hr).trans h.1, h.2⟩

theorem grown_row {w W W' : World} {M : Nat} {r : Option Nat} (h : w.grownBy W (some M)) (k : W.grownBy W' r) (hr : ∀ q, r = some q → w.heap.size ≤ q) : w.grownBy W' (some M) :=
  ⟨k.os.trans h.os, k.tape.trans h.tape, k.output.trans h.output, Nat.le_trans h.size k.size, fun j hj hne => (k.block j (Nat.lt_of_lt_of_le hj h.size) (fun e => by have := hr j e.symm; omega)).trans (h.block j hj hne)⟩

theorem OwnL.head1 {w : World} {n : Nat} {v : Value} {u : V n} {r : List (V n)} {H : Nat → Prop} (h : OwnL w n v (u :: r) H) : ∃ g c, v = .slice (some ⟨g, 0, none⟩) (r.length + 1) c ∧ v.ownBlock = some g := by
  obtain ⟨a, c, rfl⟩ := h.shape
  obtain ⟨xs, G, h1, h2, _⟩ := h
  obtain ⟨c0, _, _, _, _, x0, _⟩ := h2 0 u (by simp) rfl
  obtain ⟨g, hg, _⟩ := cells_of_own h1 0 c0 (by simpa using x0)
  exact ⟨g, c, by rw [hg]; rfl, by rw [hg]; rfl⟩

set_option maxRecDepth 100000 in
set_option maxHeartbeats 3200000 in
theorem all_two (M : Nat) (s : List Value) (f : Int) (g c : Nat) (b0 b1 : Int) (t0 t1 : ByteArray) (a0 a1 : Option Addr) (l0 c0 l1 c1 : Nat) (w : World) (hm : Mc w M s f) (h1 : 2 ≤ f) (h2 : f ≤ 4096) (hb0 : 0 ≤ b0 ∧ b0 < 18446744073709551616) (hb1 : 0 ≤ b1 ∧ b1 < 18446744073709551616) (hne : g ≠ M)
    (q0 : w.cell? ⟨g, 0, none⟩ = some (.int .i64 3)) (q1 : w.cell? ⟨g, 1, none⟩ = some (.int .u64 b0)) (q2 : w.cell? ⟨g, 2, none⟩ = some (.string t0)) (q3 : w.cell? ⟨g, 3, none⟩ = some (.slice a0 l0 c0))
    (q4 : w.cell? ⟨g, 4, none⟩ = some (.int .i64 3)) (q5 : w.cell? ⟨g, 5, none⟩ = some (.int .u64 b1)) (q6 : w.cell? ⟨g, 6, none⟩ = some (.string t1)) (q7 : w.cell? ⟨g, 7, none⟩ = some (.slice a1 l1 c1)) :
    Calls Tryz.prog 51 #[.pointer (some ⟨M, 0, none⟩), .slice (some ⟨g, 0, none⟩) 2 c] w fun e w' =>
      ∃ v H, e = .returned v ∧ OwnL w' 1 v [nV b0, nV b1] H ∧ Mc w' M s (f - 2) ∧ w.grownBy w' (some M) := by
  have HM : Hid (Mc w M s f) := hm
  have HL : Hid (M < w.heap.size) := hm.lt
  have HF : Hid (2 ≤ f ∧ f ≤ 4096) := ⟨h1, h2⟩
  have HB : Hid ((0 ≤ b0 ∧ b0 < 18446744073709551616) ∧ (0 ≤ b1 ∧ b1 < 18446744073709551616)) := ⟨hb0, hb1⟩
  have HG : Hid (g ≠ M) := hne
  have HQ : Hid (w.cell? ⟨g, 4, none⟩ = some (.int .i64 3) ∧ w.cell? ⟨g, 5, none⟩ = some (.int .u64 b1) ∧ w.cell? ⟨g, 6, none⟩ = some (.string t1) ∧ w.cell? ⟨g, 7, none⟩ = some (.slice a1 l1 c1)) := ⟨q4, q5, q6, q7⟩
  clear hm h1 h2 hb0 hb1 hne q4 q5 q6 q7
  go_enter Tryz.func51, Tryz.ntmps51
  go_wp2_with fail
  refine wp_loop_rounds 3 ?_
  rw [rounds_succ]
  go_wp2_with (first
    | (go_at_call 35; refine (reckon_num M s f b0 t0 a0 l0 c0 _ (HM.out.below (below_one _ _)) (by have := HF.out; omega) HF.out.2).mono ?_; rintro e w2 ⟨rfl, hm2, hg2⟩)
    | (at_builtin; refine wpList_push _ rfl (.tmp 14) (.tmp 18) rfl (n := 1) (.slice none 0 0) [] (fun _ => False) rfl (OwnL.nil _ _) (nV b0) (fun _ => False) _ _ _ _ _ (own1 _ HB.out.1) (fun _ h => h.elim) (fun _ h => h.elim) (fun _ h => h.elim) ⟨w2.heap.size, 0, none⟩ 1 rfl (news5 _ _ _ _ _ _ _) (by decide) ?_; intro v1 w3 o1 g1 k1
       have O1 : Hid (OwnL w3 1 v1 [nV b0] (fun b => False ∨ False ∨ v1.ownBlock = Option.some b)) := o1
       have G3 : Hid (w.grownBy w3 (Option.some M)) := grown_row (grown_trans (grown_of_below (below_one _ _)) (grown_trans hg2 (grown_of_below (below_one _ _)))) g1 (fun q h => by simp [Value.ownBlock] at h)
       have M3 : Hid (Mc w3 M s (f - 1)) := (hm2.below (below_one _ _)).grown g1 (by simp [Value.ownBlock])
       have K3 : Hid (∀ q, v1.ownBlock = Option.some q → w.heap.size ≤ q) := fun q hq => by
         rcases k1 with e | e
         · rw [hq] at e; simp [Value.ownBlock] at e
         · have h1 := e q hq
           have h2 := hg2.size
           simp at h1 h2
           omega
       clear o1 g1 k1 hm2 hg2))
  have p4 := keep_cell G3.out HQ.out.1 HG.out
  have p5 := keep_cell G3.out HQ.out.2.1 HG.out
  have p6 := keep_cell G3.out HQ.out.2.2.1 HG.out
  have p7 := keep_cell G3.out HQ.out.2.2.2 HG.out
  clear q0 q1 q2 q3
  rw [rounds_succ]
  go_wp2_with (first
    | (go_at_call 35; refine (reckon_num M s (f - 1) b1 t1 a1 l1 c1 _ (M3.out.below (below_one _ _)) (by have := HF.out; omega) (by have := HF.out; omega)).mono ?_; rintro e w4 ⟨rfl, hm4, hg4⟩
       have S4 := hg4.size
       simp at S4
       have O4 : Hid (∀ o, OwnL (w4.alloc o) 1 v1 [nV b0] (fun b => False ∨ False ∨ v1.ownBlock = Option.some b)) := fun o => O1.out.same (fun b hb => by
         have hb' : v1.ownBlock = Option.some b := by rcases hb with h | h | h; exact h.elim; exact h.elim; exact h
         have h1 := (O1.out.lt b hb').2
         have h2 := K3.out b hb'
         have h3 := HL.out
         exact ((below_one _ _).block b (by omega)).trans ((hg4.block b (by simp; omega) (fun e => by cases e; omega)).trans ((below_one _ _).block b h1)))
       have K4 : Hid (∀ (o : Obj) (b : Nat), (False ∨ False ∨ v1.ownBlock = Option.some b) → b < (w4.alloc o).heap.size) := fun o b hb => by
         have hb' : v1.ownBlock = Option.some b := by rcases hb with h | h | h; exact h.elim; exact h.elim; exact h
         have h1 := (O1.out.lt b hb').2
         simp
         omega)
    | (at_builtin; refine wpList_push _ rfl (.tmp 14) (.tmp 18) rfl (n := 1) v1 [nV b0] (fun b => False ∨ False ∨ v1.ownBlock = Option.some b) rfl (O4.out _) (nV b1) (fun _ => False) _ _ _ _ _ (own1 _ HB.out.2) (fun _ h => h.elim) (K4.out _) (fun _ h => h.elim) ⟨w4.heap.size, 0, none⟩ 1 rfl (news5 _ _ _ _ _ _ _) (by simp) ?_; intro v2 w5 o2 g2 k2
       have O5 : Hid (∃ H, OwnL w5 1 v2 [nV b0, nV b1] H) := ⟨_, o2⟩
       have G5 : Hid (w.grownBy w5 (Option.some M)) := grown_row (grown_trans (grown_below G3.out (below_one _ _)) (grown_trans hg4 (grown_of_below (below_one _ _)))) g2 K3.out
       have M5 : Hid (Mc w5 M s (f - 2)) := by
         have : f - 2 = f - 1 - 1 := by omega
         rw [this]
         exact (hm4.below (below_one _ _)).grown g2 (fun e => by have h1 := K3.out M e.symm; have h2 := HL.out; omega)
       clear o2 g2 k2 hm4 hg4))
  rw [rounds_succ]
  go_wp2_with fail
  go_ret
  obtain ⟨H, hH⟩ := O5.out
  exact ⟨_, H, rfl, hH, M5.out, G5.out⟩
end Go.Proofs.YtndclldicdfmeaaGreat
