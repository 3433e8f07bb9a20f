/-
  copyOf of the program and Own of the page: a value in memory of its own.
-/
import Derived.Test.YtkjiiggboblioaaJ2
import Derived.Test.YtkjiiggboblioaaVaSmall
namespace Go.Proofs.Ytkjiiggboblioaa
open Go.ChangeShapes Go.WideShapes Go.ChangeAt Go.RowKit

theorem copy_done2 {W3 wr w' : World} {n A : Nat} {k b : Int} {t : ByteArray} {ks : List ByteArray} {its : List (V n)} {kc ic kc' ic' : Nat} {ka' ia' : Option Addr} {xs : List Value} {G : Nat → Nat → Prop}
    (hfit : Fit k b t ks.length kc its.length ic) (hA : A ≤ W3.heap.size) (hK : W3.ownsRow A 9 1 (.slice ka' ks.length kc') ks.length (ks.map Value.string))
    (hI : wr.ownsRow W3.heap.size 26 5 (.slice ia' its.length ic') its.length xs) (hbl : Below W3.heap.size W3 wr)
    (HX : Items (Own wr n) its its.length xs G) (HG : ∀ i b, i < its.length → G i b → W3.heap.size ≤ b ∧ b < wr.heap.size ∧ (Value.slice ia' its.length ic').ownBlock ≠ some b)
    (HD : ∀ i j b, i < its.length → j < its.length → G i b → G j b → i = j) (hs : ∀ s ∈ ks, s.size ≤ 140737488351232) (h2 : ∀ j, A ≤ j → w'.heap[j]? = wr.heap[j]?) :
    Own w' (n + 1) (mk k b t ka' ks.length kc' ia' its.length ic') (k, b, t, ks, its) (fun g => A ≤ g ∧ g < wr.heap.size) := by
  obtain ⟨h_k, h_b, h_t, hkl, hkc, hkr, hil, hic, hir⟩ := hfit
  have hsz := hbl.size
  have cK := cap_of_own hK
  have cI := cap_of_own hI
  refine ⟨ka', kc', ia', ic', xs, G, rfl, ⟨h_k, h_b, h_t, cK.1, cK.2, hkr, cI.1, cI.2, hir⟩, hs, ?_, ?_, ?_, ?_, ?_, ?_, HD⟩
  · refine ownsRow_same (w := W3) (ownsRow_base0 hK) fun g hg => ?_
    have := hK.lt g hg
    rw [h2 g (by omega), hbl.block g (by omega)]
  · refine ownsRow_same (w := wr) (ownsRow_base0 hI) fun g hg => ?_
    have := hI.lt g hg
    exact h2 g (by omega)
  · intro g hg
    have := hK.lt g hg
    exact ⟨by omega, by omega⟩
  · intro g hg
    have := hI.lt g hg
    exact ⟨by omega, by omega⟩
  · intro i u hi hu
    obtain ⟨c0, c1, c2, c3, c4, e0, e1, e2, e3, e4, ho⟩ := HX i u hi hu
    refine ⟨c0, c1, c2, c3, c4, e0, e1, e2, e3, e4, ho.same n fun g hg => ?_⟩
    have := HG i g hi hg
    exact h2 g (by omega)
  · intro i g hi hg
    have := HG i g hi hg
    exact ⟨⟨by omega, by omega⟩, fun e => by have := hK.lt g e; omega, this.2.2⟩

theorem set_three {w : World} {g : Nat} {c0 c1 c2 c3 c4 : Value} {t : TypeId} (h : w.heap[g]? = some (.cells #[c0, c1, c2, c3, c4] t (0, 0))) (v : Value) :
    (w.setCell ⟨g, 3, none⟩ v).heap[g]? = some (.cells #[c0, c1, c2, v, c4] t (0, 0)) ∧ (∀ k, k ≠ g → (w.setCell ⟨g, 3, none⟩ v).heap[k]? = w.heap[k]?) ∧ (w.setCell ⟨g, 3, none⟩ v).heap.size = w.heap.size ∧
    (w.setCell ⟨g, 3, none⟩ v).os = w.os ∧ (w.setCell ⟨g, 3, none⟩ v).tape = w.tape ∧ (w.setCell ⟨g, 3, none⟩ v).output = w.output := by
  refine ⟨?_, ?_, ?_, by simp [World.setCell], by simp [World.setCell], by simp [World.setCell]⟩
  · simp [World.setCell, Array.getElem?_modify, h]
  · intro k hk
    have hk' : ¬ g = k := fun e => hk e.symm
    simp [World.setCell, Array.getElem?_modify, hk']
  · simp [World.setCell]

set_option maxRecDepth 100000 in
set_option maxHeartbeats 1600000 in
theorem copyOf_any (n : Nat) : ∀ (v : V n) (x : Value) (w : World), Lay w n x v →
    Calls Try.prog 14 #[x] w fun e w' => ∃ y F, e = .returned y ∧ Own w' n y v F ∧ (∀ b, F b → w.heap.size ≤ b ∧ b < w'.heap.size) ∧ Below w.heap.size w w' := by
  induction n with
  | zero => intro v; exact v.elim
  | succ n ih =>
    rintro ⟨k, b, t, ks, its⟩ x w ⟨ka, kc, ia, ic, rfl, hfit, nk, ni, hks, his⟩
    have HF : Hid (Fit k b t ks.length kc its.length ic) := hfit
    have HN : Hid (ka = none → ks.length = 0 ∧ kc = 0) := nk
    obtain ⟨hk, hb, ht, hkl, hkc, hkr, hil, hic, hir⟩ := hfit
    obtain ⟨i0, hi, hz0, hz1, hz2⟩ := info_parts Try.infoVal
    obtain ⟨i1, hi1, hz01, hz11, hz21⟩ := info_parts Try.infoStr
    clear hk hb ht hkl hkc hil hic nk ni
    have HS : Hid (LayS w ka ks) := hks
    have HI : Hid (LayI w (Lay w n) ia its) := his
    clear hks his
    have T0 : Hid (Two w _ _ _) := Two.new w (.cells #[.int .i64 k, .int .u64 b, .string t, .slice ka ks.length kc, .slice ia its.length ic] 26) (.cells #[.int .i64 0, .int .u64 0, .string ⟨#[]⟩, .slice none 0 0, .slice none 0 0] 26) (Below.refl _ _)
    have B0 : Hid _ := below_two w (.cells #[.int .i64 k, .int .u64 b, .string t, .slice ka ks.length kc, .slice ia its.length ic] 26) (.cells #[.int .i64 0, .int .u64 0, .string ⟨#[]⟩, .slice none 0 0, .slice none 0 0] 26)
    go_enter Try.func14, Try.ntmps14
    go_wp2_with (at_builtin; refine wpList_append_apart _ rfl _ _ 23 rfl (w.heap.size + 2) 9 i1 _ 1 16 Try.underlying23 hi1 hz01 hz11 hz21 rfl (by decide) _ 0 [] rfl (World.ownsRow_nil _ _ _ _) ka ks.length kc (ks.map Value.string) rfl HN.out (by simp) ?f1 ?f2 ?f3 ?f4 ?f5 ?_)
    case f1 =>
      intro ad e j u hj
      subst e
      simp only [List.getElem?_map, Option.map_eq_some_iff] at hj
      obtain ⟨s, hs, rfl⟩ := hj
      obtain ⟨b2, o2, e, hc, _⟩ := HS.out j s hs
      cases e
      rw [add_plain, B0.out.cell (lt_of_cell hc)]
      exact hc
    case f2 => intro u hu; simp only [List.mem_map] at hu; obtain ⟨s, _, rfl⟩ := hu; rfl
    case f3 => unfold maxLen; omega
    case f4 => omega
    case f5 => simp
    · intro v' w2 hown' hgrow hv'
      obtain ⟨ka', kc', rfl⟩ := slice_of_own hown'
      have hk2 : ∀ j, j < w.heap.size + 2 → w2.heap[j]? = ((w.alloc (.cells #[.int .i64 k, .int .u64 b, .string t, .slice ka ks.length kc, .slice ia its.length ic] 26)).alloc (.cells #[.int .i64 0, .int .u64 0, .string ⟨#[]⟩, .slice none 0 0, .slice none 0 0] 26)).heap[j]? := fun j hj => hgrow.block j (by simp; omega) (by simp [Value.ownBlock])
      have s0 := (hk2 w.heap.size (by omega)).trans T0.out.1
      have s1 := (hk2 (w.heap.size + 1) (by omega)).trans T0.out.2
      have hgs := hgrow.size
      simp at hgs
      obtain ⟨r0, r1, r2, r3, r4, r5⟩ := set_three s0 (.slice ka' ks.length kc')
      have B3 : Hid (Below w.heap.size w (w2.setCell ⟨w.heap.size, 3, none⟩ (.slice ka' ks.length kc'))) := by
        have h1 : Below w.heap.size w w2 := B0.out.grown hgrow (by simp; omega) (fun g hg => by simp [Value.ownBlock] at hg)
        exact ⟨r3.trans h1.os, r4.trans h1.tape, r5.trans h1.output, by rw [r2]; exact h1.size, fun j hj => (r1 j (by omega)).trans (h1.block j hj)⟩
      have K3 : Hid ((w2.setCell ⟨w.heap.size, 3, none⟩ (.slice ka' ks.length kc')).ownsRow (w.heap.size + 2) 9 1 (.slice ka' ks.length kc') ks.length (ks.map Value.string)) := by
        have h0 : w2.ownsRow (w.heap.size + 2) 9 1 (.slice ka' ks.length kc') ks.length (ks.map Value.string) := by simpa using hown'
        exact ownsRow_same h0 fun g hg => r1 g (by have := (h0.lt g hg).1; omega)
      have X3 : Hid ((w2.setCell ⟨w.heap.size, 3, none⟩ (.slice ka' ks.length kc')).heap[w.heap.size]? = some (.cells #[.int .i64 k, .int .u64 b, .string t, .slice ka' ks.length kc', .slice ia its.length ic] 26 (0, 0))) := r0
      have Z3 : Hid ((w2.setCell ⟨w.heap.size, 3, none⟩ (.slice ka' ks.length kc')).heap[w.heap.size + 1]? = some (.cells #[.int .i64 0, .int .u64 0, .string ⟨#[]⟩, .slice none 0 0, .slice none 0 0] 26 (0, 0))) := (r1 _ (by omega)).trans s1
      have S3 : Hid (w.heap.size + 2 ≤ (w2.setCell ⟨w.heap.size, 3, none⟩ (.slice ka' ks.length kc')).heap.size) := by show _ ≤ _; rw [r2]; omega
      obtain ⟨x0, x1, x2, x3, x4, y0, y1, y2, y3, y4⟩ := box_cells s0
      clear hk2 s0 s1 r0 r1 r2 r3 r4 r5 hown' hgrow hv' hgs
      go_wp2_with fail
      clear x0 x1 x2 x3 x4 y0 y1 y2 y3 y4
      generalize w2.setCell ⟨w.heap.size, 3, none⟩ (.slice ka' ks.length kc') = W3 at *
      go_loopw [3, 13] (fun v i wr => ∃ (m : Nat) (xs : List Value) (G : Nat → Nat → Prop), m ≤ its.length ∧ i = .int .i64 m ∧ wr.ownsRow W3.heap.size 26 5 v m xs ∧ Hid (Items (Own wr n) its m xs G) ∧
          Hid (∀ i b, i < m → G i b → W3.heap.size ≤ b ∧ b < wr.heap.size ∧ v.ownBlock ≠ some b) ∧ Hid (∀ i j b, i < m → j < m → G i b → G j b → i = j) ∧ Hid (Below W3.heap.size W3 wr))
        (fun _ i _ => its.length - (intOf i).toNat)
      case atStart => exact ⟨0, [], fun _ _ => False, Nat.zero_le _, rfl, World.ownsRow_nil _ _ _ _, (fun i _ hi => by omega), (fun i _ hi => by omega), (fun i _ _ hi => by omega), Below.refl _ _⟩
      case round =>
        obtain ⟨m, xs, G, hm, rfl, hown, HX, HG, HD, HW⟩ := hrel
        have HBW : Hid (Below w.heap.size w wr) := nxt B3.out HW.out
        have HO : Hid (wr.ownsRow W3.heap.size 26 5 u3 m xs) := hown
        have hwr := HW.out.size
        by_cases hlt : m < its.length
        · obtain ⟨bb, o, c0, c1, c2, c3, c4, rfl, q0, q1, q2, q3, q4, hl⟩ := HI.out m its[m] (by simp [hlt])
          have hq : bb < w.heap.size := lt_of_cell q0
          rw [← HBW.out.cell (by exact hq)] at q0 q1 q2 q3 q4
          obtain ⟨k5, b5, t5, ka5, kl5, kc5, ia5, il5, ic5, rfl, rfl, rfl, rfl, rfl⟩ := Lay.five n hl
          have HL : Hid (Lay w n (mk k5 b5 t5 ka5 kl5 kc5 ia5 il5 ic5) its[m]) := hl
          clear hl
          have HV : Hid (∀ g, u3.ownBlock = some g → g < wr.heap.size) := fun g hg => (hown.lt g hg).2
          clear hown
          go_wp2_with (first
            | (go_at_call 14; refine (ih _ _ _ (Lay.below n HL.out (nxt HBW.out (below_one _ _)))).mono ?_; rintro e w1 ⟨y, F, rfl, ho, hF, hbel⟩; obtain ⟨k', b', t', ka6, kl', kc6, ia', il', ic', rfl⟩ := Lay.shape n (Own.lay n ho))
            | (at_builtin; refine wpList_append_apart _ rfl _ _ 24 rfl W3.heap.size 26 i0 _ 5 80 Try.underlying24 hi hz0 hz1 hz2 rfl (by decide) _ m xs rfl ?d0 (some ⟨w1.heap.size, 0, none⟩) 1 1 [.int .i64 k', .int .u64 b', .string t', .slice ka6 kl' kc6, .slice ia' il' ic'] rfl (by simp) rfl ?d1 ?d2 ?d3 ?d4 ?d5 ?_))
          case d0 =>
            have hbw := nxt (below_one wr _) hbel
            exact ownsRow_same HO.out fun g hg => by
              have h1 := HV.out g hg
              have h2 := hbw.size
              rw [Below.heap_alloc _ _ _ (by omega)]
              exact hbw.block g h1
          case d1 =>
            intro ad e j u hj
            cases e
            have := heap_alloc_new w1 (.cells #[.int .i64 k', .int .u64 b', .string t', .slice ka6 kl' kc6, .slice ia' il' ic'] 26)
            rw [add_plain]
            simp only [World.cell?, this]
            simpa using hj
          case d2 => intro u hu; simp at hu; rcases hu with rfl | rfl | rfl | rfl | rfl <;> rfl
          case d3 => unfold maxLen; omega
          case d4 => omega
          case d5 => have := (nxt (below_one wr _) hbel).size; simp; omega
          · intro v' w4 hown' hgrow hv'
            have hbw := nxt (below_one wr _) hbel
            obtain ⟨G', hX', hG', hD', hkeep, hsz, hbl⟩ := copy_step (B := W3.heap.size) (u := its[m]) (by simp [hlt]) HO.out.1 HX.out HG.out HD.out HV.out ho (fun b hb => ⟨by have := (hF b hb).1; simp at this; omega, (hF b hb).2⟩) hwr hbw hgrow hv'
            have R3 : Hid (Below W3.heap.size W3 w4) := (HW.out.trans (hbl.mono hwr)).grown hgrow (by have := hbw.size; simp; omega) (fun g hg => (HO.out.lt g hg).1)
            have R4 : Hid (w4.ownsRow W3.heap.size 26 5 v' (m + 1) (xs ++ [.int .i64 k', .int .u64 b', .string t', .slice ka6 kl' kc6, .slice ia' il' ic'])) := hown'
            have RX : Hid (Items (Own w4 n) its (m + 1) (xs ++ [.int .i64 k', .int .u64 b', .string t', .slice ka6 kl' kc6, .slice ia' il' ic']) G') := hX'
            have RG : Hid (∀ i b, i < m + 1 → G' i b → W3.heap.size ≤ b ∧ b < w4.heap.size ∧ v'.ownBlock ≠ some b) := hG'
            have RD : Hid (∀ i j b, i < m + 1 → j < m + 1 → G' i b → G' j b → i = j) := hD'
            clear hown' hX' hG' hD' hkeep hbl hgrow hv' hsz ho hF hbel hbw
            go_wp2_with fail
            go_roundw
            case rel => exact ⟨m + 1, _, G', by omega, by go_num, R4.out, RX, RG, RD, R3⟩
            case measure => simp [intOf]; omega
        · have hme : m = its.length := by omega
          subst hme
          clear hown
          obtain ⟨ia', ic', rfl⟩ := slice_of_own HO.out
          obtain ⟨x0, x1, x2, x3, x4, y0, y1, y2, y3, y4⟩ := box_cells ((HW.out.block _ (lt_of_block X3.out)).trans X3.out)
          obtain ⟨z0, z1, z2, z3, z4, f0, f1, f2, f3, f4⟩ := box_cells ((HW.out.block _ (lt_of_block Z3.out)).trans Z3.out)
          go_wp2_with fail
          refine bodyPost_ret (v := mk k b t ka' ks.length kc' ia' its.length ic') (by simp [results, Try.results14, go_sem, z0, z1, z2, z3, z4]) rfl ?_
          have hS3 := S3.out
          refine ⟨_, fun g => w.heap.size + 2 ≤ g ∧ g < wr.heap.size, rfl, copy_done2 (A := w.heap.size + 2) (wr := wr) HF.out hS3 K3.out HO.out HW.out HX.out HG.out HD.out (fun s hs => ?_) (fun j hj => ?_), ?_, ?_⟩
          · obtain ⟨j, hj⟩ := List.getElem?_of_mem hs
            obtain ⟨_, _, _, _, h⟩ := HS.out j s hj
            exact h
          · repeat rw [Below.heap_setCell _ _ _ _ (by simp; omega)]
          · intro g hg
            simp
            omega
          · exact (((((HBW.out.setCell (by simp) _).setCell (by simp) _).setCell (by simp) _).setCell (by simp) _).setCell (by simp) _).setCell (by simp) _

set_option maxRecDepth 100000 in
set_option maxHeartbeats 1600000 in
theorem rown_any (n : Nat) : ∀ (v : V n) (x : Value) (w : World), Lay w n x v →
    Calls Try.prog 17 #[x] w fun e w' => ∃ y F, e = .returned y ∧ Own w' n y v F ∧ (∀ b, F b → w.heap.size ≤ b ∧ b < w'.heap.size) ∧ Below w.heap.size w w' := by
  induction n with
  | zero => intro v; exact v.elim
  | succ n ih =>
    rintro ⟨k, b, t, ks, its⟩ x w ⟨ka, kc, ia, ic, rfl, hfit, nk, ni, hks, his⟩
    have HF : Hid (Fit k b t ks.length kc its.length ic) := hfit
    have HN : Hid (ka = none → ks.length = 0 ∧ kc = 0) := nk
    obtain ⟨hk, hb, ht, hkl, hkc, hkr, hil, hic, hir⟩ := hfit
    obtain ⟨i0, hi, hz0, hz1, hz2⟩ := info_parts Try.infoVal
    obtain ⟨i1, hi1, hz01, hz11, hz21⟩ := info_parts Try.infoStr
    clear hk hb ht hkl hkc hil hic nk ni
    have HS : Hid (LayS w ka ks) := hks
    have HI : Hid (LayI w (Lay w n) ia its) := his
    clear hks his
    have T0 : Hid (Two w _ _ _) := Two.new w (.cells #[.int .i64 k, .int .u64 b, .string t, .slice ka ks.length kc, .slice ia its.length ic] 26) (.cells #[.int .i64 0, .int .u64 0, .string ⟨#[]⟩, .slice none 0 0, .slice none 0 0] 26) (Below.refl _ _)
    have B0 : Hid _ := below_two w (.cells #[.int .i64 k, .int .u64 b, .string t, .slice ka ks.length kc, .slice ia its.length ic] 26) (.cells #[.int .i64 0, .int .u64 0, .string ⟨#[]⟩, .slice none 0 0, .slice none 0 0] 26)
    go_enter Try.func17, Try.ntmps17
    go_wp2_with (at_builtin; refine wpList_append_apart _ rfl _ _ 23 rfl (w.heap.size + 2) 9 i1 _ 1 16 Try.underlying23 hi1 hz01 hz11 hz21 rfl (by decide) _ 0 [] rfl (World.ownsRow_nil _ _ _ _) ka ks.length kc (ks.map Value.string) rfl HN.out (by simp) ?f1 ?f2 ?f3 ?f4 ?f5 ?_)
    case f1 =>
      intro ad e j u hj
      subst e
      simp only [List.getElem?_map, Option.map_eq_some_iff] at hj
      obtain ⟨s, hs, rfl⟩ := hj
      obtain ⟨b2, o2, e, hc, _⟩ := HS.out j s hs
      cases e
      rw [add_plain, B0.out.cell (lt_of_cell hc)]
      exact hc
    case f2 => intro u hu; simp only [List.mem_map] at hu; obtain ⟨s, _, rfl⟩ := hu; rfl
    case f3 => unfold maxLen; omega
    case f4 => omega
    case f5 => simp
    · intro v' w2 hown' hgrow hv'
      obtain ⟨ka', kc', rfl⟩ := slice_of_own hown'
      have hk2 : ∀ j, j < w.heap.size + 2 → w2.heap[j]? = ((w.alloc (.cells #[.int .i64 k, .int .u64 b, .string t, .slice ka ks.length kc, .slice ia its.length ic] 26)).alloc (.cells #[.int .i64 0, .int .u64 0, .string ⟨#[]⟩, .slice none 0 0, .slice none 0 0] 26)).heap[j]? := fun j hj => hgrow.block j (by simp; omega) (by simp [Value.ownBlock])
      have s0 := (hk2 w.heap.size (by omega)).trans T0.out.1
      have s1 := (hk2 (w.heap.size + 1) (by omega)).trans T0.out.2
      have hgs := hgrow.size
      simp at hgs
      have B3 : Hid (Below w.heap.size w w2) := B0.out.grown hgrow (by simp; omega) (fun g hg => by simp [Value.ownBlock] at hg)
      have K3 : Hid (w2.ownsRow (w.heap.size + 2) 9 1 (.slice ka' ks.length kc') ks.length (ks.map Value.string)) := by simpa [Hid] using hown'
      have X3 : Hid (w2.heap[w.heap.size]? = some (.cells #[.int .i64 k, .int .u64 b, .string t, .slice ka ks.length kc, .slice ia its.length ic] 26 (0, 0))) := s0
      have Z3 : Hid (w2.heap[w.heap.size + 1]? = some (.cells #[.int .i64 0, .int .u64 0, .string ⟨#[]⟩, .slice none 0 0, .slice none 0 0] 26 (0, 0))) := s1
      have S3 : Hid (w.heap.size + 2 ≤ w2.heap.size) := by show _ ≤ _; omega
      clear hk2 s0 s1 hown' hgrow hv' hgs
      go_wp2_with fail
      generalize w2 = W3 at *
      go_loopw [4, 5] (fun v i wr => ∃ (m : Nat) (xs : List Value) (G : Nat → Nat → Prop), m ≤ its.length ∧ i = .int .i64 m ∧ wr.ownsRow W3.heap.size 26 5 v m xs ∧ Hid (Items (Own wr n) its m xs G) ∧
          Hid (∀ i b, i < m → G i b → W3.heap.size ≤ b ∧ b < wr.heap.size ∧ v.ownBlock ≠ some b) ∧ Hid (∀ i j b, i < m → j < m → G i b → G j b → i = j) ∧ Hid (Below W3.heap.size W3 wr))
        (fun _ i _ => its.length - (intOf i).toNat)
      case atStart => exact ⟨0, [], fun _ _ => False, Nat.zero_le _, rfl, World.ownsRow_nil _ _ _ _, (fun i _ hi => by omega), (fun i _ hi => by omega), (fun i _ _ hi => by omega), Below.refl _ _⟩
      case round =>
        obtain ⟨m, xs, G, hm, rfl, hown, HX, HG, HD, HW⟩ := hrel
        have HBW : Hid (Below w.heap.size w wr) := nxt B3.out HW.out
        have HO : Hid (wr.ownsRow W3.heap.size 26 5 u4 m xs) := hown
        have hwr := HW.out.size
        by_cases hlt : m < its.length
        · obtain ⟨bb, o, c0, c1, c2, c3, c4, rfl, q0, q1, q2, q3, q4, hl⟩ := HI.out m its[m] (by simp [hlt])
          have hq : bb < w.heap.size := lt_of_cell q0
          rw [← HBW.out.cell (by exact hq)] at q0 q1 q2 q3 q4
          obtain ⟨k5, b5, t5, ka5, kl5, kc5, ia5, il5, ic5, rfl, rfl, rfl, rfl, rfl⟩ := Lay.five n hl
          have HL : Hid (Lay w n (mk k5 b5 t5 ka5 kl5 kc5 ia5 il5 ic5) its[m]) := hl
          clear hl
          have HV : Hid (∀ g, u4.ownBlock = some g → g < wr.heap.size) := fun g hg => (hown.lt g hg).2
          have x4 := (box_cells ((HW.out.block _ (lt_of_block X3.out)).trans X3.out)).2.2.2.2.1
          clear hown
          go_wp2_with (first
            | (go_at_call 17; refine (ih _ _ _ (Lay.below n HL.out HBW.out)).mono ?_; rintro e w1 ⟨y, F, rfl, ho, hF, hbel⟩; obtain ⟨k', b', t', ka6, kl', kc6, ia', il', ic', rfl⟩ := Lay.shape n (Own.lay n ho))
            | (at_builtin; refine wpList_append_apart _ rfl _ _ 24 rfl W3.heap.size 26 i0 _ 5 80 Try.underlying24 hi hz0 hz1 hz2 rfl (by decide) _ m xs rfl ?d0 (some ⟨w1.heap.size, 0, none⟩) 1 1 [.int .i64 k', .int .u64 b', .string t', .slice ka6 kl' kc6, .slice ia' il' ic'] rfl (by simp) rfl ?d1 ?d2 ?d3 ?d4 ?d5 ?_))
          case d0 =>
            have hbw := hbel
            exact ownsRow_same HO.out fun g hg => by
              have h1 := HV.out g hg
              have h2 := hbw.size
              rw [Below.heap_alloc _ _ _ (by omega)]
              exact hbw.block g h1
          case d1 =>
            intro ad e j u hj
            cases e
            have := heap_alloc_new w1 (.cells #[.int .i64 k', .int .u64 b', .string t', .slice ka6 kl' kc6, .slice ia' il' ic'] 26)
            rw [add_plain]
            simp only [World.cell?, this]
            simpa using hj
          case d2 => intro u hu; simp at hu; rcases hu with rfl | rfl | rfl | rfl | rfl <;> rfl
          case d3 => unfold maxLen; omega
          case d4 => omega
          case d5 => have := hbel.size; simp; omega
          · intro v' w4 hown' hgrow hv'
            have hbw := hbel
            obtain ⟨G', hX', hG', hD', hkeep, hsz, hbl⟩ := copy_step (B := W3.heap.size) (u := its[m]) (by simp [hlt]) HO.out.1 HX.out HG.out HD.out HV.out ho hF hwr hbw hgrow hv'
            have R3 : Hid (Below W3.heap.size W3 w4) := (HW.out.trans (hbl.mono hwr)).grown hgrow (by have := hbw.size; simp; omega) (fun g hg => (HO.out.lt g hg).1)
            have R4 : Hid (w4.ownsRow W3.heap.size 26 5 v' (m + 1) (xs ++ [.int .i64 k', .int .u64 b', .string t', .slice ka6 kl' kc6, .slice ia' il' ic'])) := hown'
            have RX : Hid (Items (Own w4 n) its (m + 1) (xs ++ [.int .i64 k', .int .u64 b', .string t', .slice ka6 kl' kc6, .slice ia' il' ic']) G') := hX'
            have RG : Hid (∀ i b, i < m + 1 → G' i b → W3.heap.size ≤ b ∧ b < w4.heap.size ∧ v'.ownBlock ≠ some b) := hG'
            have RD : Hid (∀ i j b, i < m + 1 → j < m + 1 → G' i b → G' j b → i = j) := hD'
            clear hown' hX' hG' hD' hkeep hbl hgrow hv' hsz ho hF hbel hbw
            go_wp2_with fail
            go_roundw
            case rel => exact ⟨m + 1, _, G', by omega, by go_num, R4.out, RX, RG, RD, R3⟩
            case measure => simp [intOf]; omega
        · have hme : m = its.length := by omega
          subst hme
          clear hown
          obtain ⟨ia', ic', rfl⟩ := slice_of_own HO.out
          obtain ⟨x0, x1, x2, x3, x4, y0, y1, y2, y3, y4⟩ := box_cells ((HW.out.block _ (lt_of_block X3.out)).trans X3.out)
          obtain ⟨z0, z1, z2, z3, z4, f0, f1, f2, f3, f4⟩ := box_cells ((HW.out.block _ (lt_of_block Z3.out)).trans Z3.out)
          go_wp2_with fail
          refine bodyPost_ret (v := mk k b t ka' ks.length kc' ia' its.length ic') (by simp [results, Try.results17, go_sem, z0, z1, z2, z3, z4]) rfl ?_
          have hS3 := S3.out
          refine ⟨_, fun g => w.heap.size + 2 ≤ g ∧ g < wr.heap.size, rfl, copy_done2 (A := w.heap.size + 2) (wr := wr) HF.out hS3 K3.out HO.out HW.out HX.out HG.out HD.out (fun s hs => ?_) (fun j hj => ?_), ?_, ?_⟩
          · obtain ⟨j, hj⟩ := List.getElem?_of_mem hs
            obtain ⟨_, _, _, _, h⟩ := HS.out j s hj
            exact h
          · repeat rw [Below.heap_setCell _ _ _ _ (by simp; omega)]
          · intro g hg
            simp
            omega
          · exact ((((((HBW.out.setCell (by simp) _).setCell (by simp) _).setCell (by simp) _).setCell (by simp) _).setCell (by simp) _).setCell (by simp) _).setCell (by simp) _
end Go.Proofs.Ytkjiiggboblioaa
