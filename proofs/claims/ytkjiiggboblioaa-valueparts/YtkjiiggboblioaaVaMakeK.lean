/-
  makeRoom for a new key.
-/
import Derived.Test.YtkjiiggboblioaaJ3
namespace Go.Proofs.Ytkjiiggboblioaa
open Go.ChangeShapes Go.WideShapes Go.ChangeAt Go.RowKit
open Fl

theorem lay_of_keys {w : World} {base : Nat} {ks : List ByteArray} {v : Value} {ka : Option Addr} {kl kc : Nat} (hv : v = .slice ka kl kc) (h : w.ownsRow base 9 1 v ks.length (ks.map Value.string)) (hs : ∀ s ∈ ks, s.size ≤ 140737488351232) : LayS w ka ks := by
  subst hv
  intro i s hi
  obtain ⟨g, e, hc⟩ := cells_of_own h i (.string s) (by simp [hi])
  exact ⟨g, 0, e, hc, hs s (List.mem_of_getElem? hi)⟩

theorem ne_blocks {w : World} {v v' : Value} {n n' : Nat} {xs xs' : List Value} (h : w.ownsRow 0 9 1 v n xs) (h' : w.ownsRow 0 26 5 v' n' xs') (b : Nat) (hb : v.ownBlock = some b) : v'.ownBlock ≠ some b := by
  intro e
  rcases h.2 with ⟨rfl, _⟩ | ⟨g, cap, cur, rfl, _, q, _⟩
  · cases hb
  · rcases h'.2 with ⟨rfl, _⟩ | ⟨g', cap', cur', rfl, _, q', _⟩
    · cases e
    · simp only [Value.ownBlock, Option.some.injEq] at hb e
      subst hb e
      rw [q] at q'
      simp only [Option.some.injEq, Obj.cells.injEq] at q'
      exact absurd q'.2.1 (by decide)

theorem set_other {w : World} {g o : Nat} (v : Value) (j : Nat) (hj : j ≠ g) : (w.setCell ⟨g, o, none⟩ v).heap[j]? = w.heap[j]? := by
  have : ¬ g = j := fun e => hj e.symm
  simp [World.setCell, Array.getElem?_modify, this]

set_option maxRecDepth 100000 in
set_option maxHeartbeats 6400000 in
theorem room_key (g o kc il ic : Nat) (ka ia : Option Addr) (cur : Array Value) (ks : List ByteArray) (xs : List Value) (key : ByteArray) (idx : Int) (w : World) (hg : w.heap[g]? = some (.cells cur 26 (0, 0)))
    (h3 : cur[o + 3]? = some (.slice ka ks.length kc)) (h4 : cur[o + 4]? = some (.slice ia il ic)) (hK : w.ownsRow 0 9 1 (.slice ka ks.length kc) ks.length (ks.map Value.string)) (hs : ∀ s ∈ ks, s.size ≤ 140737488351232) (hup : Up ks)
    (hI : w.ownsRow 0 26 5 (.slice ia il ic) il xs) (h1 : ∀ v ∈ xs, v.oneCell' = true) (hgK : (Value.slice ka ks.length kc).ownBlock ≠ some g) (hgI : (Value.slice ia il ic).ownBlock ≠ some g) (hil : il < 32) (hkl : ks.length = il) (hkey : keyB key = true) :
    Calls Try.prog 19 #[.pointer (some ⟨g, o, none⟩), .agg #[.bool true, .string key, .int .i64 idx]] w fun e w' => e = .returned (.tuple #[.int .i64 (lb ks key : Int), .int .i64 0]) ∧
      ∃ vk vi, w'.heap[g]? = some (.cells ((cur.setIfInBounds (o + 3) vk).setIfInBounds (o + 4) vi) 26 (0, 0)) ∧ w'.ownsRow 0 9 1 vk (il + 1) ((ks.take (lb ks key) ++ key :: ks.drop (lb ks key)).map Value.string) ∧
        w'.ownsRow 0 26 5 vi (il + 1) (xs.take (lb ks key * 5) ++ zcells ++ xs.drop (lb ks key * 5)) ∧ Roomy w w' g (Value.slice ka ks.length kc).ownBlock (Value.slice ia il ic).ownBlock ∧
        (vk.ownBlock = (Value.slice ka ks.length kc).ownBlock ∨ ∀ b, vk.ownBlock = some b → w.heap.size ≤ b) ∧ (vi.ownBlock = (Value.slice ia il ic).ownBlock ∨ ∀ b, vi.ownBlock = some b → w.heap.size ≤ b) := by
  subst hkl
  have hlb := lb_le ks key
  have hksz : key.size ≤ 140737488351232 := by
    unfold keyB at hkey
    simp only [Bool.and_eq_true, decide_eq_true_eq] at hkey
    omega
  have p3 := (cell_of hg (o + 3)).1.trans h3
  have p4 := (cell_of hg (o + 4)).1.trans h4
  have hp : g < w.heap.size := lt_of_block hg
  have HG : Hid (w.heap[g]? = some (.cells cur 26 (0, 0))) := hg
  have HK : Hid (w.ownsRow 0 9 1 (.slice ka ks.length kc) ks.length (ks.map Value.string)) := hK
  have HI : Hid (w.ownsRow 0 26 5 (.slice ia ks.length ic) ks.length xs) := hI
  have HgK : Hid ((Value.slice ka ks.length kc).ownBlock ≠ some g) := hgK
  have HgI : Hid ((Value.slice ia ks.length ic).ownBlock ≠ some g) := hgI
  have H1 : Hid (∀ v ∈ xs, v.oneCell' = true) := h1
  have HKey : Hid (∀ w', Calls Try.prog 26 #[.string key] w' fun e w'' => e = .returned (.bool true) ∧ w'' = w') := fun w' => by
    have := key_any key w' hksz
    rw [hkey] at this
    exact this
  have HBS : Hid (∀ w', Below w.heap.size w w' → Calls Try.prog 27 #[.slice ka ks.length kc, .string key] w' fun e w'' => e = .returned (.tuple #[.int .i64 (lb ks key : Int), .bool (decide (ks[lb ks key]? = some key))]) ∧ w'' = w') := fun w' hb =>
    bs_any ks key ka kc w' hup (LayS.below (lay_of_keys rfl hK hs) hb) (by omega)
  have hne : ¬ g = w.heap.size := by omega
  have P3 : ∀ ob, (w.alloc ob).cell? ⟨g, o + 3, none⟩ = some (.slice ka ks.length kc) := fun ob => keepc (below_one _ _) _ _ p3
  have P4 : ∀ ob, (w.alloc ob).cell? ⟨g, o + 4, none⟩ = some (.slice ia ks.length ic) := fun ob => keepc (below_one _ _) _ _ p4
  have H3 : Hid (cur[o + 3]? = some (.slice ka ks.length kc)) := h3
  have H4 : Hid (cur[o + 4]? = some (.slice ia ks.length ic)) := h4
  clear hK hI hgK hgI h1 hg h3 h4 hs hup hkey p3 p4
  generalize decide (ks[lb ks key]? = some key) = fnd at *
  generalize hat : lb ks key = at' at *
  go_enter Try.func19, Try.ntmps19
  go_wp2_with (go_at_call 26; refine (HKey.out _).mono ?_; rintro e w' ⟨rfl, rfl⟩)
  go_quiet (fail)
  have BW : Hid (Below w.heap.size w ((w.alloc (.cells #[.bool true, .string key, .int .i64 idx] 42)).drewN nq)) := below_draw _ _ _
  have SW : Hid (((w.alloc (.cells #[.bool true, .string key, .int .i64 idx] 42)).drewN nq).heap[w.heap.size]? = some (.cells #[.bool true, .string key, .int .i64 idx] 42 (0, 0))) := heap_alloc_new _ _
  generalize (w.alloc (.cells #[.bool true, .string key, .int .i64 idx] 42)).drewN nq = W1 at *
  clear P3 P4
  have p3 := (cell_of ((BW.out.block _ hp).trans HG.out) (o + 3)).1.trans H3.out
  have p4 := (cell_of ((BW.out.block _ hp).trans HG.out) (o + 4)).1.trans H4.out
  have s0 : W1.cell? ⟨w.heap.size, 0, none⟩ = some (.bool true) := by rw [(cell_of SW.out 0).1]; rfl
  have s1 : W1.cell? ⟨w.heap.size, 1, none⟩ = some (.string key) := by rw [(cell_of SW.out 1).1]; rfl
  have s2 : W1.cell? ⟨w.heap.size, 2, none⟩ = some (.int .i64 idx) := by rw [(cell_of SW.out 2).1]; rfl
  have HBSc : Hid (∀ s : Cls W1, Calls Try.prog 27 #[.slice ka ks.length kc, .string key] s.1 fun e w'' => e = .returned (.tuple #[.int .i64 (at' : Int), .bool fnd]) ∧ w'' = s.1) := fun s => HBS.out s.1 (nxt BW.out s.2)
  have inst : Nonempty (Cls W1) := ⟨⟨W1, Below.refl _ _⟩⟩
  have X3 := fun s => Cls.cell p3 s
  have Y1 := fun s => Cls.cell s1 s
  clear HBS HKey
  go_wp2_with fail
  refine wp_region_cls (by kernel_rfl) (by kernel_rfl) ?_
  repeat (go_big_quiet_step ((go_at_call 27; exact Calls.cls_same (HBSc.out _))))
  refine wpQuiet_nil ?_
  intro _ hw'
  obtain ⟨s, hw''⟩ := hw'
  subst hw''
  have BW2 : Hid (Below w.heap.size w s.1) := nxt BW.out s.2
  have SW2 : Hid (s.1.heap[w.heap.size]? = some (.cells #[.bool true, .string key, .int .i64 idx] 42 (0, 0))) := (s.2.block _ (lt_of_block SW.out)).trans SW.out
  clear X3 Y1 p3 p4 s0 s1 s2 HBSc
  generalize s.1 = W2 at *
  have p3 := (cell_of ((BW2.out.block _ hp).trans HG.out) (o + 3)).1.trans H3.out
  have f3 := (cell_of ((BW2.out.block _ hp).trans HG.out) (o + 3)).2
  have s1 : W2.cell? ⟨w.heap.size, 1, none⟩ = some (.string key) := by rw [(cell_of SW2.out 1).1]; rfl
  have n1 := World.new_ne W2 _ p3
  have n2 := World.new_ne W2 _ s1
  have e3 : ∀ ob, (W2.alloc ob).cell? ⟨g, o + 3, none⟩ = some (.slice ka ks.length kc) := fun ob => keepc (below_one _ _) _ _ p3
  have HCS : Hid (Calls Try.prog 28 #[.slice ka ks.length kc, .int .i64 at', .slice (some ⟨W2.heap.size, 0, none⟩) 1 1] (W2.alloc (.cells #[.string key] 9)).drew fun e w' =>
      ∃ v', e = .returned v' ∧ w'.ownsRow 0 9 1 v' (ks.length + 1) ((ks.map Value.string).take at' ++ [.string key] ++ (ks.map Value.string).drop at') ∧ (W2.alloc (.cells #[.string key] 9)).drew.grownBy w' (Value.slice ka ks.length kc).ownBlock ∧ (v'.ownBlock = (Value.slice ka ks.length kc).ownBlock ∨ ∀ g, v'.ownBlock = some g → (W2.alloc (.cells #[.string key] 9)).drew.heap.size ≤ g)) := by
    have hb2 := nxt BW2.out (below_one W2 (.cells #[.string key] 9))
    refine insS_any (.slice ka ks.length kc) 0 ks.length at' W2.heap.size (ks.map Value.string) [.string key] _ (by omega) (Nat.zero_le _) (by omega) (ownsRow_same HK.out fun b hb => hb2.block b (HK.out.lt b hb).2) (fun e => ?_) (heap_alloc_new _ _) rfl (by intro v hv; simp only [List.mem_map] at hv; obtain ⟨s, _, rfl⟩ := hv; rfl) (by intro v hv; simp at hv; subst hv; rfl)
    have := (HK.out.lt _ e).2
    have := BW2.out.size
    omega
  go_wp2_with fail
  go_region_with ((go_at_call 28; refine HCS.out.mono ?_; rintro e w3 ⟨v3, rfl, ho3, hg3, hv3⟩; have hG3 := (hg3.block g (by have := BW2.out.size; simp; omega) (fun e => HgK.out e.symm)).trans ((Below.heap_alloc _ _ _ (Nat.lt_of_lt_of_le hp BW2.out.size)).trans ((BW2.out.block _ hp).trans HG.out)); have q3 := (cell_of hG3 (o + 3)).1.trans H3.out; have r3 := (cell_of hG3 (o + 3)).2; obtain ⟨a3, l3, rfl⟩ := slice_of_own ho3))
  all_goals
    have hbs := BW2.out.size
    have hgs3 := hg3.size
    have hgs3' : W2.heap.size + 1 ≤ w3.heap.size := by simpa using hgs3
    have low3 : ∀ j, j < W2.heap.size → (Value.slice ka ks.length kc).ownBlock ≠ some j → w3.heap[j]? = W2.heap[j]? := fun j hj hne' => by
      rw [hg3.block j (by simp; omega) (fun e => hne' e.symm)]
      exact Below.heap_alloc _ _ _ hj
    have vkb : ∀ b, (Value.slice a3 (ks.length + 1) l3).ownBlock = some b → b ≠ g := fun b hb e => by
      rcases hv3 with e' | e'
      · exact HgK.out (by rw [← e', hb, e])
      · have := e' b hb; simp at this; omega
    have G4 : Hid ((w3.setCell ⟨g, o + 3, none⟩ (.slice a3 (ks.length + 1) l3)).heap[g]? = some (.cells (cur.setIfInBounds (o + 3) (.slice a3 (ks.length + 1) l3)) 26 (0, 0))) := set_one_cell hG3 _
    have K4 : Hid ((w3.setCell ⟨g, o + 3, none⟩ (.slice a3 (ks.length + 1) l3)).ownsRow 0 9 1 (.slice a3 (ks.length + 1) l3) (ks.length + 1) ((ks.map Value.string).take at' ++ [.string key] ++ (ks.map Value.string).drop at')) := ownsRow_same ho3 fun b hb => set_other _ b (vkb b hb)
    have I4 : Hid ((w3.setCell ⟨g, o + 3, none⟩ (.slice a3 (ks.length + 1) l3)).ownsRow 0 26 5 (.slice ia ks.length ic) ks.length xs) := ownsRow_same HI.out fun b hb => by
      have hlb' := (HI.out.lt b hb).2
      rw [set_other _ b (fun e => HgI.out (by rw [hb, e])), low3 b (by omega) (fun e => ne_blocks HK.out HI.out b e hb)]
      exact BW2.out.block b hlb'
    have R4 : Hid (Roomy w (w3.setCell ⟨g, o + 3, none⟩ (.slice a3 (ks.length + 1) l3)) g (Value.slice ka ks.length kc).ownBlock none) := ⟨hg3.os.trans BW2.out.os, hg3.tape.trans BW2.out.tape, hg3.output.trans BW2.out.output, by simp [World.setCell]; omega, fun j hj hjg hjk _ => by
      rw [set_other _ j hjg, low3 j (by omega) hjk]
      exact BW2.out.block j hj⟩
    have V4 : Hid ((Value.slice a3 (ks.length + 1) l3).ownBlock = (Value.slice ka ks.length kc).ownBlock ∨ ∀ b, (Value.slice a3 (ks.length + 1) l3).ownBlock = some b → w.heap.size ≤ b) := by
      rcases hv3 with e' | e'
      · exact Or.inl e'
      · exact Or.inr fun b hb => by have := e' b hb; simp at this; omega
    have C4 : Hid ((cur.setIfInBounds (o + 3) (.slice a3 (ks.length + 1) l3))[o + 4]? = some (.slice ia ks.length ic)) := by
      show _ = _
      rw [Array.getElem?_setIfInBounds_ne (by omega)]
      exact H4.out
    have VKB : Hid (∀ b, (Value.slice a3 (ks.length + 1) l3).ownBlock = some b → b ≠ g) := vkb
    clear ho3 hg3 hv3 hG3 q3 r3 n1 n2 e3 p3 f3 s1 low3 hgs3 hgs3' vkb hbs
    generalize w3.setCell ⟨g, o + 3, none⟩ (.slice a3 (ks.length + 1) l3) = W4 at *
    have hgw4 := lt_of_block G4.out
    have p4 := (cell_of G4.out (o + 4)).1.trans C4.out
    have HCI : Hid (Calls Try.prog 29 #[.slice ia ks.length ic, .int .i64 at', .slice (some ⟨W4.heap.size, 0, none⟩) 1 1] (W4.alloc (.cells #[.int .i64 0, .int .u64 0, .string ⟨#[]⟩, .slice none 0 0, .slice none 0 0] 26)) fun e w' =>
        ∃ v', e = .returned v' ∧ w'.ownsRow 0 26 5 v' (ks.length + 1) (xs.take (at' * 5) ++ zcells ++ xs.drop (at' * 5)) ∧ (W4.alloc (.cells #[.int .i64 0, .int .u64 0, .string ⟨#[]⟩, .slice none 0 0, .slice none 0 0] 26)).grownBy w' (Value.slice ia ks.length ic).ownBlock ∧ (v'.ownBlock = (Value.slice ia ks.length ic).ownBlock ∨ ∀ g, v'.ownBlock = some g → (W4.alloc (.cells #[.int .i64 0, .int .u64 0, .string ⟨#[]⟩, .slice none 0 0, .slice none 0 0] 26)).heap.size ≤ g)) := by
      refine insV_any (.slice ia ks.length ic) 0 ks.length at' W4.heap.size xs zcells _ (by omega) (Nat.zero_le _) (by omega) (ownsRow_same I4.out fun b hb => Below.heap_alloc _ _ _ (I4.out.lt b hb).2) (fun e => ?_) (heap_alloc_new _ _) rfl H1.out (by simp [zcells, Value.oneCell'])
      have := (I4.out.lt _ e).2
      omega
    go_wp2_with (go_at_call 29; refine HCI.out.mono ?_; rintro e w5 ⟨v5, rfl, ho5, hg5, hv5⟩; have hG5 := (hg5.block g (by simp; omega) (fun e => HgI.out e.symm)).trans ((Below.heap_alloc _ _ _ hgw4).trans G4.out); have q5 := (cell_of hG5 (o + 4)).1.trans C4.out; have r5 := (cell_of hG5 (o + 4)).2; obtain ⟨a5, l5, rfl⟩ := slice_of_own ho5)
    go_ret2
    have hgs := hg5.size
    simp at hgs
    have hrs := R4.out.size
    have low5 : ∀ j, j < W4.heap.size → j ≠ g → (Value.slice ia ks.length ic).ownBlock ≠ some j → (w5.setCell ⟨g, o + 4, none⟩ (.slice a5 (ks.length + 1) l5)).heap[j]? = W4.heap[j]? := fun j hj hjg hji => by
      rw [set_other _ j hjg, hg5.block j (by simp; omega) (fun e => hji e.symm)]
      exact Below.heap_alloc _ _ _ hj
    refine ⟨rfl, _, _, set_one_cell hG5 _, ?_, ownsRow_same ho5 fun b hb => set_other _ b (fun e => ?_), ⟨?_, ?_, ?_, ?_, ?_⟩, V4.out, ?_⟩
    · have e1 : ((ks.take at' ++ key :: ks.drop at').map Value.string) = (ks.map Value.string).take at' ++ [.string key] ++ (ks.map Value.string).drop at' := by simp [List.map_take, List.map_drop]
      rw [e1]
      exact ownsRow_same K4.out fun b hb => low5 b (K4.out.lt b hb).2 (VKB.out b hb) (ne_blocks K4.out I4.out b hb)
    · rcases hv5 with e' | e'
      · exact HgI.out (by rw [← e', hb, e])
      · have := e' b hb; simp at this; omega
    · exact hg5.os.trans R4.out.os
    · exact hg5.tape.trans R4.out.tape
    · exact hg5.output.trans R4.out.output
    · simp [World.setCell]; omega
    · intro j hj hjg hj1 hj2
      rw [low5 j (by omega) hjg hj2]
      exact R4.out.block j hj hjg hj1 (by simp)
    · rcases hv5 with e' | e'
      · exact Or.inl e'
      · exact Or.inr fun b hb => by have := e' b hb; simp at this; omega
end Go.Proofs.Ytkjiiggboblioaa
