/-
  SealScans holds for every list of frames and every place: frames put one behind the other are scanned; cut off anywhere, just those that lie whole ahead of the cut. No condition.
-/
import Derived.Test.YtihncekjbmepoacSeFrs
namespace Go.Proofs.Ytihncekjbmepoac.sealScans
open Go.ChangeShapes Go.WideShapes Go.ChangeAt Go.RowKit Go.Deep
open Se

theorem Try.infoInt : (Try.prog.info? 3).map (fun i => (i.zero, i.size, i.bytes)) = some (some (.int .i64 0), 1, 8) := by kernel_rfl
theorem Try.infoRf : (Try.prog.info? 24).map (fun i => (i.zero, i.size, i.bytes)) = some (some (.agg #[.int .i64 0, .slice none 0 0]), 2, 32) := by kernel_rfl

/-- A row of another type stays when a row grows. -/
theorem row_other {w w' : World} {B B' : Nat} {t t' : TypeId} {s s' : Nat} {v v' : Value} {n n' : Nat} {xs xs' : List Value} (h : w.ownsRow B t s v n xs) (h' : w.ownsRow B' t' s' v' n' xs') (hne : t ≠ t') (hg : w.grownBy w' v'.ownBlock) : w'.ownsRow B t s v n xs := by
  refine ownsRow_same h fun g hv => hg.block g (h.lt g hv).2 ?_
  intro e
  rcases h.2 with ⟨h1, -⟩ | ⟨g1, cap1, cur1, h1, h2, h3, -⟩
  · rw [h1] at hv; simp [Value.ownBlock] at hv
  · rcases h'.2 with ⟨k1, -⟩ | ⟨g2, cap2, cur2, k1, k2, k3, -⟩
    · rw [k1] at e; simp [Value.ownBlock] at e
    · rw [h1] at hv
      rw [k1] at e
      simp only [Value.ownBlock, Option.some.injEq] at hv e
      subst hv
      subst e
      rw [h3] at k3
      simp only [Option.some.injEq, Obj.cells.injEq] at k3
      exact hne k3.2.1

theorem place2 (at0 : Int) (L : Nat) (hm : L ≤ 2000000) : ∃ A : Nat, (wrap64 (wrap64 (at0.tmod ((L : Int) + 1) + L) + 1)).tmod ((L : Int) + 1) = (A : Int) ∧ A ≤ L := by
  have hn : 0 < (L : Int) + 1 := by omega
  have h1 := Int.tmod_lt_of_pos at0 hn
  have h2 := Int.lt_tmod_of_pos at0 hn
  rw [IntWalk.wrap64_in (at0.tmod ((L : Int) + 1) + L) (by omega), IntWalk.wrap64_in (at0.tmod ((L : Int) + 1) + L + 1) (by omega)]
  have h3 := Int.tmod_lt_of_pos (at0.tmod ((L : Int) + 1) + L + 1) hn
  have h4 : 0 ≤ (at0.tmod ((L : Int) + 1) + L + 1).tmod ((L : Int) + 1) := Int.tmod_nonneg _ (by omega)
  exact ⟨((at0.tmod ((L : Int) + 1) + L + 1).tmod ((L : Int) + 1)).toNat, by omega, by omega⟩

theorem ends_cell {w : World} {B : Nat} {a : Option Addr} {c : Nat} {gs : List Fr} (h : w.ownsRow B 3 1 (.slice a gs.length c) gs.length ((endsF gs).map fun (n : Nat) => Value.int .i64 n)) {m : Nat} (hm : m < gs.length) :
    ∃ g, a = some ⟨g, 0, none⟩ ∧ w.cell? ⟨g, m, none⟩ = some (.int .i64 ((allF (gs.take (m + 1))).length : Nat)) := by
  have hc : ((endsF gs).map fun (n : Nat) => Value.int .i64 n)[m]? = some (.int .i64 ((allF (gs.take (m + 1))).length : Nat)) := by
    simp [endsF, hm]
  obtain ⟨l0, hcase⟩ := h
  rcases hcase with ⟨h4, h5⟩ | ⟨g, cap, cur, h4, h5, h6⟩
  · omega
  · have hown : w.ownsRow B 3 1 (.slice a gs.length c) gs.length ((endsF gs).map fun (n : Nat) => Value.int .i64 n) := ⟨l0, Or.inr ⟨g, cap, cur, h4, h5, h6⟩⟩
    simp only [Value.slice.injEq] at h4
    obtain ⟨rfl, -, rfl⟩ := h4
    have e1 := hown.cells (g := g) rfl _ _ hc
    rw [add_plain] at e1
    exact ⟨g, rfl, by simpa using e1⟩

theorem _root_.Go.Proofs.Ytihncekjbmepoac.Oct.head {w : World} {a : Option Addr} {c : Nat} {l : List UInt8} (h : Oct w a c l) {n : Nat} (hn : n ≤ l.length) : Oct w a c (l.take n) := by
  obtain ⟨h1, h2, h3, h4, h5, h6⟩ := h
  have hl : (l.take n).length = n := by rw [List.length_take]; omega
  refine ⟨fun i o hi => ?_, by omega, h3, by omega, h5, h6⟩
  rw [List.getElem?_take] at hi
  split at hi
  · exact h1 i o hi
  · cases hi

structure SInv (w wr : World) (gs : List Fr) (v5 v6 v7 : Value) : Prop where
  all : Bs wr w.heap.size v5 (allF gs)
  ends : wr.ownsRow w.heap.size 3 1 v6 gs.length ((endsF gs).map fun (n : Nat) => Value.int .i64 n)
  good : ∃ xs, wr.ownsRow w.heap.size 24 2 v7 gs.length xs ∧ ∀ j f, gs[j]? = some f → ∃ a c, xs[2 * j]? = some (.int .i64 f.1) ∧ xs[2 * j + 1]? = some (.slice a f.2.length c) ∧ LayB w a f.2
  ok : ∀ g ∈ gs, okF g
  bel : Below w.heap.size w wr
theorem SInv.below {w wr wr' : World} {gs : List Fr} {v5 v6 v7 : Value} (h : SInv w wr gs v5 v6 v7) (hb : Below wr.heap.size wr wr') : SInv w wr' gs v5 v6 v7 := by
  obtain ⟨h1, h2, ⟨xs, h3, h4⟩, h5, h6⟩ := h
  exact ⟨h1.below hb, ownsRow_same h2 fun g hg => hb.block g (h2.lt g hg).2, ⟨xs, ownsRow_same h3 fun g hg => hb.block g (h3.lt g hg).2, h4⟩, h5, nxt h6 hb⟩

set_option maxRecDepth 100000 in
set_option maxHeartbeats 6400000 in
theorem walk (fs : List Fr) (x : Value) (at0 : Int) (w : World) (hf : FramesIs w x fs) (hat : (Lit.int .i64 at0).wf = true) :
    Calls Try.prog 4 #[x, .int .i64 at0] w fun e w' => e = .returned (.bool true) ∧ Below w.heap.size w w' := by
  obtain ⟨a, c, rfl, hl, hn⟩ := hf
  have hab := bounds_i64 hat
  clear hat
  have HL : Hid (LayG w a fs) := hl
  clear hl
  go_enter Try.func4, Try.ntmps4
  go_wp2_with fail
  refine (alive_any _).mono ?_
  rintro e w1 ⟨rfl, hb1⟩
  have B1 : Hid (Below w.heap.size w w1) := hb1
  clear hb1
  go_wp2_with fail
  go_loopw [5, 6, 7, 8] (fun v5 v6 v7 i wr => ∃ (m : Nat) (gs : List Fr) (a5 : Option Addr) (n5 c5 : Nat) (a6 : Option Addr) (n6 c6 : Nat) (a7 : Option Addr) (n7 c7 : Nat), m ≤ fs.length ∧ m ≤ 20 ∧ gs.length ≤ m ∧ i = .int .i64 m ∧ v5 = .slice a5 n5 c5 ∧ v6 = .slice a6 n6 c6 ∧ v7 = .slice a7 n7 c7
      ∧ Hid (SInv w wr gs (.slice a5 n5 c5) (.slice a6 n6 c6) (.slice a7 n7 c7))) (fun _ _ _ i _ => 20 - (intOf i).toNat)
  case atStart =>
    refine ⟨0, [], none, 0, 0, none, 0, 0, none, 0, 0, by omega, by omega, by simp, rfl, rfl, rfl, rfl, ⟨Bs.nil _ _, World.ownsRow_nil _ _ _ _, ⟨[], World.ownsRow_nil _ _ _ _, fun j f hj => by simp at hj⟩, fun g hg => by simp at hg, B1.out⟩⟩
  case round =>
    obtain ⟨m, gs, a5, n5, c5, a6, n6, c6, a7, n7, c7, hm, hm20, hgm, rfl, rfl, rfl, rfl, HI⟩ := hrel
    by_cases hlt : m < fs.length ∧ m < 20
    · obtain ⟨hlt1, hlt2⟩ := hlt
      have hm1 : (m : Int) < fs.length := by omega
      have hm2 : (m : Int) < 20 := by omega
      obtain ⟨⟨k, d⟩, hfm⟩ : ∃ f, fs[m]? = some f := ⟨_, List.getElem?_eq_getElem hlt1⟩
      obtain ⟨g, off, da, dc, rfl, p0, p1, hkb, ho, hdl⟩ := HL.out m _ hfm
      simp only at p0 p1 hkb ho hdl
      have P0 : Hid (∀ W, Below w.heap.size w W → W.cell? ⟨g, off + m * 2, none⟩ = some (.int .i64 k) ∧ W.cell? ⟨g, off + m * 2 + 1, none⟩ = some (.slice da d.length dc)) := fun W hb => ⟨keepc hb _ _ p0, keepc hb _ _ p1⟩
      have HO : Hid (Oct w da dc d) := ho
      clear p0 p1 ho hfm
      obtain ⟨p0, p1⟩ := P0.out _ HI.out.bel
      go_wp2_with fail
      refine (of_any k da dc d wr (HO.out.below HI.out.bel) hdl).mono ?_
      rintro e w2 ⟨s2, rfl, hs2, hb2⟩
      obtain ⟨a2, c2, rfl⟩ := hs2.shape
      have O2 : Hid (Oct w2 a2 c2 d) := hs2.oct (by omega)
      have I2 : Hid (SInv w w2 gs (.slice a5 n5 c5) (.slice a6 n6 c6) (.slice a7 n7 c7)) := HI.out.below hb2
      clear hs2 hb2 p0 p1 HI
      go_wp2_with fail
      have HP := put_any k a2 c2 d w2 O2.out
      by_cases hgood : (1 ≤ k ∧ k ≤ 255) ∧ d.length ≤ 65536
      · rw [put_ok hgood.1 hgood.2] at HP
        simp only at HP
        refine HP.mono ?_
        rintro e w3 ⟨s3, rfl, hs3, hb3⟩
        have HG : Hid (okF (k, d)) := hgood
        have hfl := frame_length k d
        obtain ⟨a3, c3, rfl⟩ := hs3.shape
        have O3 : Hid (Oct w3 a3 c3 (frame k d)) := hs3.oct (by omega)
        have I3 : Hid (SInv w w3 gs (.slice a5 n5 c5) (.slice a6 n6 c6) (.slice a7 n7 c7)) := I2.out.below hb3
        have hall : (allF gs).length ≤ 1400000 := by have := allF_len gs I2.out.ok; omega
        have hfr : (frame k d).length ≤ 100000 := by omega
        clear hs3 hb3 HP O2 I2 hfl hgood
        generalize hFF : frame k d = F at *
        have HFF : Hid (frame k d = F) := hFF
        clear hFF
        go_wp2_with fail
        refine (num_any _ _).mono ?_
        rintro e w4 ⟨rfl, hw4⟩
        subst w4
        go_wp2_with (at_builtin; refine wpList_appO _ rfl _ _ rfl w.heap.size _ (allF gs) F rfl ?d0 a3 c3 rfl O3.out ?d1 ?d2 ?_)
        case d0 => exact I3.out.all
        case d1 => omega
        case d2 => exact I3.out.bel.size
        intro s4 w4 hs4 hr4
        obtain ⟨b5, d5, rfl⟩ := hs4.shape
        have hfin : allF (gs ++ [(k, d)]) = allF gs ++ F := by rw [allF_snoc]; show allF gs ++ frame k d = _; rw [HFF.out]
        have HS4 : Hid (Bs w4 w.heap.size (.slice b5 (allF gs ++ F).length d5) (allF (gs ++ [(k, d)]))) := by
          show Bs _ _ _ _
          rw [hfin]
          exact hs4
        have E4 : Hid (w4.ownsRow w.heap.size 3 1 (.slice a6 n6 c6) gs.length ((endsF gs).map fun (n : Nat) => Value.int .i64 n)) := row_other I3.out.ends I3.out.all (by decide) hr4.grown
        obtain ⟨xs, hgr, hgi⟩ := I3.out.good
        have G4 : Hid (w4.ownsRow w.heap.size 24 2 (.slice a7 n7 c7) gs.length xs) := row_other hgr I3.out.all (by decide) hr4.grown
        have GI : Hid (∀ j f, gs[j]? = some f → ∃ a c, xs[2 * j]? = some (.int .i64 f.1) ∧ xs[2 * j + 1]? = some (.slice a f.2.length c) ∧ LayB w a f.2) := hgi
        have B4 : Hid (Below w.heap.size w w4) := I3.out.bel.trans (hr4.below I3.out.bel.size fun g hg => (I3.out.all.base g hg).1)
        have OK4 : Hid (∀ g ∈ gs ++ [(k, d)], okF g) := by
          intro g hg
          rcases List.mem_append.1 hg with h | h
          · exact I3.out.ok g h
          · rw [List.mem_singleton] at h; subst h; exact HG.out
        have hL4 : (allF gs ++ F).length = (allF (gs ++ [(k, d)])).length := by rw [hfin]
        have HLL : Hid ((allF gs ++ F).length = (allF (gs ++ [(k, d)])).length) := hL4
        have hlen4 : (allF gs ++ F).length ≤ 2000000 := by rw [List.length_append]; omega
        clear hs4 hr4 hgr hgi I3 O3 hfin hL4
        generalize (allF gs ++ F).length = L4 at *
        obtain ⟨i3, hi3, hz30, hz31, hz32⟩ := info_parts Try.infoInt
        have hsz4 := B4.out.size
        go_wp2_with (at_builtin; refine wpList_append_apart _ rfl _ _ 51 rfl w.heap.size 3 i3 _ 1 8 Try.underlying51 hi3 hz30 hz31 hz32 rfl (by decide) _ gs.length ((endsF gs).map fun (n : Nat) => Value.int .i64 n) rfl ?d0 (some ⟨w4.heap.size, 0, none⟩) 1 1 [.int .i64 (L4 : Int)] rfl (by simp) rfl ?d1 ?d2 ?d3 ?d4 ?d5 ?_)
        case d0 => exact ownsRow_same E4.out fun g hg => (below_one w4 _).block g (E4.out.lt g hg).2
        case d1 =>
          intro ad' e j u hj
          cases e
          exact newCells w4 _ _ j u (by rw [← Array.getElem?_toList]; exact hj)
        case d2 => simp [Value.oneCell']
        case d3 => unfold maxLen; omega
        case d4 => omega
        case d5 => simp; omega
        intro v6 w6 he6 hg6 hp6
        obtain ⟨b6, d6, rfl⟩ := slice_of_own he6
        have bA := below_one w4 (.cells #[.int .i64 (L4 : Int)] 3)
        have E4a : (w4.alloc (.cells #[.int .i64 (L4 : Int)] 3)).ownsRow w.heap.size 3 1 (.slice a6 n6 c6) gs.length ((endsF gs).map fun (n : Nat) => Value.int .i64 n) := ownsRow_same E4.out fun g hg => bA.block g (E4.out.lt g hg).2
        have HS6 : Hid (Bs w6 w.heap.size (.slice b5 L4 d5) (allF (gs ++ [(k, d)]))) := row_other (HS4.out.below bA) E4a (by decide) hg6
        have G6 : Hid (w6.ownsRow w.heap.size 24 2 (.slice a7 n7 c7) gs.length xs) := row_other (ownsRow_same G4.out fun g hg => bA.block g (G4.out.lt g hg).2) E4a (by decide) hg6
        have E6 : Hid (w6.ownsRow w.heap.size 3 1 (.slice b6 (gs.length + 1) d6) (gs ++ [(k, d)]).length ((endsF (gs ++ [(k, d)])).map fun (n : Nat) => Value.int .i64 n)) := by
          show World.ownsRow _ _ _ _ _ _ _
          rw [endsF_snoc, List.map_append, List.length_append, List.length_singleton, ← HLL.out]
          exact he6
        have B6 : Hid (Below w.heap.size w w6) := (nxt B4.out bA).grown hg6 (by simp; omega) (fun j e => (E4.out.lt j e).1)
        clear he6 hg6 hp6 bA E4a HS4 E4 G4 B4 hi3 hz30 hz31 hz32 hsz4
        obtain ⟨i4, hi4, hz40, hz41, hz42⟩ := info_parts Try.infoRf
        have hsz6 := B6.out.size
        obtain ⟨p0, p1⟩ := P0.out _ B6.out
        go_wp2_with (at_builtin; refine wpList_append_apart _ rfl _ _ 40 rfl w.heap.size 24 i4 _ 2 32 Try.underlying40 hi4 hz40 hz41 hz42 rfl (by decide) _ gs.length xs rfl ?d0 (some ⟨w6.heap.size, 0, none⟩) 1 1 [.int .i64 k, .slice da d.length dc] rfl (by simp) rfl ?d1 ?d2 ?d3 ?d4 ?d5 ?_)
        case d0 => exact ownsRow_same G6.out fun g hg => (below_one w6 _).block g (G6.out.lt g hg).2
        case d1 =>
          intro ad' e j u hj
          cases e
          exact newCells w6 _ _ j u (by rw [← Array.getElem?_toList]; exact hj)
        case d2 => simp [Value.oneCell']
        case d3 => unfold maxLen; omega
        case d4 => omega
        case d5 => simp; omega
        intro v7 w7 hg7 hgr7 hp7
        obtain ⟨b7, d7, rfl⟩ := slice_of_own hg7
        have bA := below_one w6 (.cells #[.int .i64 k, .slice da d.length dc] 24)
        have G6a : (w6.alloc (.cells #[.int .i64 k, .slice da d.length dc] 24)).ownsRow w.heap.size 24 2 (.slice a7 n7 c7) gs.length xs := ownsRow_same G6.out fun g hg => bA.block g (G6.out.lt g hg).2
        have hxl : xs.length = 2 * gs.length := by have := G6.out.1; omega
        have I7 : Hid (SInv w w7 (gs ++ [(k, d)]) (.slice b5 L4 d5) (.slice b6 (gs.length + 1) d6) (.slice b7 (gs.length + 1) d7)) := by
          refine ⟨row_other (HS6.out.below bA) G6a (by decide) hgr7, row_other (ownsRow_same E6.out fun g hg => bA.block g (E6.out.lt g hg).2) G6a (by decide) hgr7, ⟨xs ++ [.int .i64 k, .slice da d.length dc], ?_, ?_⟩, OK4.out, (nxt B6.out bA).grown hgr7 (by simp; omega) (fun j e => (G6.out.lt j e).1)⟩
          · rw [List.length_append, List.length_singleton]; exact hg7
          · intro j f hj
            by_cases hjl : j < gs.length
            · rw [List.getElem?_append_left hjl] at hj
              obtain ⟨a', c', h1, h2, h3⟩ := GI.out j f hj
              exact ⟨a', c', by rw [List.getElem?_append_left (by omega)]; exact h1, by rw [List.getElem?_append_left (by omega)]; exact h2, h3⟩
            · rw [List.getElem?_append_right (by omega)] at hj
              have hj0 : j = gs.length := by
                have := (List.getElem?_eq_some_iff.1 hj).1
                simp at this
                omega
              subst hj0
              simp only [Nat.sub_self, List.getElem?_cons_zero, Option.some.injEq] at hj
              subst hj
              refine ⟨da, dc, ?_, ?_, HO.out.1⟩
              · rw [List.getElem?_append_right (by omega), show 2 * gs.length - xs.length = 0 by omega]; rfl
              · rw [List.getElem?_append_right (by omega), show 2 * gs.length + 1 - xs.length = 1 by omega]; rfl
        clear hg7 hgr7 hp7 bA G6a HS6 E6 G6 B6 GI hi4 hz40 hz41 hz42 hsz6 p0 p1
        go_wp2_with fail
        refine ⟨⟨m + 1, gs ++ [(k, d)], b5, L4, d5, b6, gs.length + 1, d6, b7, gs.length + 1, d7, by omega, by omega, by simp; omega, by go_num, rfl, rfl, rfl, I7.out⟩, by simp [intOf]; omega⟩
      · obtain ⟨hb1, hb2⟩ := put_bad hgood
        have hne : ((putR k d).1 == 0) = false := by simpa using hb1
        have hne' : ((putR k d).1 != 0) = true := by simpa using hb1
        clear hb1 hb2
        generalize (putR k d).1 = er at *
        refine HP.mono ?_
        rintro e w3 ⟨s3, rfl, hs3, hb3⟩
        obtain ⟨a3, c3, rfl⟩ := hs3.shape
        have I3 : Hid (SInv w w3 gs (.slice a5 n5 c5) (.slice a6 n6 c6) (.slice a7 n7 c7)) := I2.out.below hb3
        obtain ⟨p0, p1⟩ := P0.out _ I3.out.bel
        clear hs3 hb3 HP O2 I2
        go_wp2_with fail
        refine (num_any _ _).mono ?_
        rintro e w4 ⟨rfl, hw4⟩
        subst w4
        have hcase : k < 1 ∨ (1 ≤ k ∧ 255 < k) ∨ (1 ≤ k ∧ k ≤ 255 ∧ 65536 < (d.length : Int)) := by omega
        clear hgood
        rcases hcase with h | ⟨h, h'⟩ | ⟨h, h', h''⟩
        · have h1 : ¬ 1 ≤ k := by omega
          go_wp2_with fail
          exact ⟨⟨m + 1, gs, a5, n5, c5, a6, n6, c6, a7, n7, c7, by omega, by omega, by omega, by go_num, rfl, rfl, rfl, I3.out⟩, by simp [intOf]; omega⟩
        · have h1 : ¬ k ≤ 255 := by omega
          go_wp2_with fail
          exact ⟨⟨m + 1, gs, a5, n5, c5, a6, n6, c6, a7, n7, c7, by omega, by omega, by omega, by go_num, rfl, rfl, rfl, I3.out⟩, by simp [intOf]; omega⟩
        · have h1 : ¬ (d.length : Int) ≤ 65536 := by omega
          go_wp2_with fail
          exact ⟨⟨m + 1, gs, a5, n5, c5, a6, n6, c6, a7, n7, c7, by omega, by omega, by omega, by go_num, rfl, rfl, rfl, I3.out⟩, by simp [intOf]; omega⟩
    · have hcase : ¬ (m : Int) < fs.length ∨ ((m : Int) < fs.length ∧ ¬ (m : Int) < 20) := by omega
      clear hlt
      obtain ⟨_, _, e5⟩ := HI.out.all.shape
      obtain ⟨_, _, e6⟩ := slice_of_own HI.out.ends
      obtain ⟨xs7, hg7, hgi7⟩ := HI.out.good
      obtain ⟨_, _, e7⟩ := slice_of_own hg7
      simp only [Value.slice.injEq] at e5 e6 e7
      obtain ⟨-, e5, -⟩ := e5
      obtain ⟨-, e6, -⟩ := e6
      obtain ⟨-, e7, -⟩ := e7
      subst e5 e6 e7
      have HG7 : Hid (LayF wr a7 gs) := layF_own hg7 fun j f hj => by
        obtain ⟨a', c', h1, h2, h3⟩ := hgi7 j f hj
        exact ⟨a', c', h1, h2, h3.below HI.out.bel⟩
      have hall : (allF gs).length ≤ 2000000 := by have := allF_len gs HI.out.ok; omega
      have O5 : Hid (Oct wr a5 c5 (allF gs)) := HI.out.all.oct (by omega)
      have HOK : Hid (∀ g ∈ gs, okF g) := HI.out.ok
      have hc7 : gs.length ≤ c7 := (cap_of_own hg7).1
      have HE6 : Hid (wr.ownsRow w.heap.size 3 1 (.slice a6 gs.length c6) gs.length ((endsF gs).map fun (n : Nat) => Value.int .i64 n)) := HI.out.ends
      have BR : Hid (Below w.heap.size w wr) := HI.out.bel
      have hSC := scan_any a5 c5 (allF gs) wr O5.out (by omega)
      rw [scan_all gs HOK.out] at hSC
      have HSC : Hid (Calls Try.prog 14 #[.slice a5 (allF gs).length c5] wr _) := hSC
      clear hSC hg7 hgi7 HI
      generalize hLL : (allF gs).length = L at *
      have HLL : Hid ((allF gs).length = L) := hLL
      clear hLL
      rcases hcase with h1 | ⟨h1, h2⟩
      all_goals
        go_wp2_with fail
        refine HSC.out.mono ?_
        rintro e w2 ⟨v2, xs2, rfl, hr2, hi2, hb2⟩
        obtain ⟨av, cv, rfl⟩ := slice_of_own hr2
        have F2 : Hid (LayF w2 av gs) := layF_own hr2 fun j f hj => by
          obtain ⟨a', c', q1, q2, q3⟩ := hi2 j f hj
          exact ⟨a', c', q1, q2, q3.lay⟩
        have G2 : Hid (LayF w2 a7 gs) := HG7.out.below hb2
        have O2 : Hid (Oct w2 a5 c5 (allF gs)) := O5.out.below hb2
        have E2 : Hid (w2.ownsRow w.heap.size 3 1 (.slice a6 gs.length c6) gs.length ((endsF gs).map fun (n : Nat) => Value.int .i64 n)) := ownsRow_same HE6.out fun g hg => hb2.block g (HE6.out.lt g hg).2
        have B2 : Hid (Below w.heap.size w w2) := nxt BR.out hb2
        clear hr2 hi2 hb2 HSC
        go_wp2_with fail
        have CS := sameAll_any gs gs av a7 cv c7 w2 F2.out G2.out (by omega)
        rw [decide_eq_true rfl] at CS
        refine CS.mono ?_
        rintro e w3 ⟨rfl, hb3⟩
        have G3 : Hid (LayF w3 a7 gs) := G2.out.below hb3
        have O3 : Hid (Oct w3 a5 c5 (allF gs)) := O2.out.below hb3
        have E3 : Hid (w3.ownsRow w.heap.size 3 1 (.slice a6 gs.length c6) gs.length ((endsF gs).map fun (n : Nat) => Value.int .i64 n)) := ownsRow_same E2.out fun g hg => hb3.block g (E2.out.lt g hg).2
        have B3 : Hid (Below w.heap.size w w3) := nxt B2.out hb3
        clear CS hb3 F2 G2 O2 E2 B2
        have hn0 : ¬ (L : Int) + 1 = 0 := by omega
        go_wp2_with fail
        obtain ⟨A, hA, hAL⟩ := place2 at0 L hall
        generalize (wrap64 (wrap64 (at0.tmod ((L : Int) + 1) + L) + 1)).tmod ((L : Int) + 1) = AA at *
        subst hA
        clear hn0
        go_loopw [13, 14, 15] (fun v13 v14 v15 wr3 => ∃ (j : Nat), j ≤ gs.length ∧ v15 = .int .i64 j ∧ v13 = .int .i64 ((cutK (gs.take j) A).1 : Nat) ∧ v14 = .int .i64 ((cutK (gs.take j) A).2 : Nat) ∧ Hid (∃ nq, wr3 = w3.drewN nq)) (fun _ _ v15 _ => gs.length - (intOf v15).toNat)
        case atStart => exact ⟨0, by omega, rfl, by simp [cutK], by simp [cutK], ⟨0, rfl⟩⟩
        case round =>
          obtain ⟨j, hj, rfl, rfl, rfl, HQ⟩ := hrel
          by_cases hjl : j < gs.length
          · have hj1 : (j : Int) < gs.length := by omega
            obtain ⟨nq, hw3⟩ := HQ.out
            have HW3 : Hid (wr = w3.drewN nq) := hw3
            obtain ⟨g6, rfl, c6j⟩ := ends_cell E3.out hjl
            have c6' : wr.cell? ⟨g6, j, none⟩ = some (.int .i64 ((allF (gs.take (j + 1))).length : Nat)) := by rw [hw3]; exact c6j
            clear hw3
            have hsn : gs.take (j + 1) = gs.take j ++ [gs[j]] := List.take_succ_eq_append_getElem hjl
            have HK : Hid (cutK (gs.take (j + 1)) A = if (allF (gs.take (j + 1))).length ≤ A then (j + 1, (allF (gs.take (j + 1))).length) else cutK (gs.take j) A) := by
              show _ = _
              rw [hsn, cutK_snoc, List.length_take, Nat.min_eq_left (by omega)]
            have HE : Hid ((allF (gs.take (j + 1))).length ≤ 3000000) := by
              show _ ≤ _
              have h1 := allF_len (gs.take (j + 1)) (fun g hg => HOK.out g (List.mem_of_mem_take hg))
              rw [List.length_take] at h1
              omega
            clear c6j hsn
            generalize (allF (gs.take (j + 1))).length = ej at *
            by_cases hle : ej ≤ A
            · have hle' : (ej : Int) ≤ A := by omega
              have HK2 : Hid (cutK (gs.take (j + 1)) A = (j + 1, ej)) := by have := HK.out; rw [if_pos hle] at this; exact this
              have c6d : wr.drew.cell? ⟨g6, j, none⟩ = some (.int .i64 (ej : Nat)) := c6'
              go_wp2_with fail
              go_region
              all_goals
                go_wp2_with fail
                refine ⟨⟨j + 1, by omega, by go_num, by rw [HK2.out]; simp, by rw [HK2.out], ⟨nq + 1, by rw [HW3.out]; rfl⟩⟩, by simp [intOf]; omega⟩
            · have hle' : ¬ (ej : Int) ≤ A := by omega
              have HK2 : Hid (cutK (gs.take (j + 1)) A = cutK (gs.take j) A) := by have := HK.out; rw [if_neg hle] at this; exact this
              go_wp2_with fail
              refine ⟨⟨j + 1, by omega, by go_num, by rw [HK2.out], by rw [HK2.out], ⟨nq, HW3.out⟩⟩, by simp [intOf]; omega⟩
          · have hje : j = gs.length := by omega
            subst hje
            rw [List.take_of_length_le (Nat.le_refl _)]
            obtain ⟨nq, rfl⟩ := HQ.out
            have hck := cutK_le gs A
            have hc5 : (A : Int) ≤ c5 := by have := O3.out.2.1; rw [HLL.out] at this; omega
            have hc7' : ((cutK gs A).1 : Int) ≤ c7 := by omega
            have hSC := scan_any a5 c5 ((allF gs).take A) (w3.drewN nq) (O3.out.below (Below_drewN _ _ _) |>.head (by rw [HLL.out]; exact hAL)) (by rw [List.length_take, HLL.out]; omega)
            rw [scan_cut gs A HOK.out, List.length_take, HLL.out, Nat.min_eq_left hAL] at hSC
            have HSC : Hid (Calls Try.prog 14 #[.slice a5 A c5] (w3.drewN nq) _) := hSC
            clear hSC
            generalize hCK : cutK gs A = ck at *
            obtain ⟨kk, ee⟩ := ck
            have HCK : Hid (cutK gs A = (kk, ee)) := hCK
            clear hCK
            simp only at hck hc7' ⊢
            go_wp2_with fail
            refine HSC.out.mono ?_
            rintro e w5 ⟨v5, xs5, rfl, hr5, hi5, hb5⟩
            obtain ⟨a8, c8, rfl⟩ := slice_of_own hr5
            have F5 : Hid (LayF w5 a8 (gs.take kk)) := layF_own hr5 fun j f hj => by
              obtain ⟨a', c', q1, q2, q3⟩ := hi5 j f hj
              exact ⟨a', c', q1, q2, q3.lay⟩
            have G5 : Hid (LayF w5 a7 (gs.take kk)) := ((G3.out.below (Below_drewN _ _ nq)).below hb5).take kk
            have B5 : Hid (Below w.heap.size w w5) := nxt (B3.out.trans (Below_drewN _ _ nq)) hb5
            have CS := sameAll_any (gs.take kk) (gs.take kk) a8 a7 c8 c7 w5 F5.out G5.out (by rw [List.length_take]; omega)
            rw [decide_eq_true rfl, List.length_take, Nat.min_eq_left hck] at CS
            have HCS : Hid (Calls Try.prog 19 #[.slice a8 kk c8, .slice a7 kk c7] w5 _) := CS
            rw [List.length_take, Nat.min_eq_left hck]
            clear hr5 hi5 hb5 HSC F5 G5 CS
            go_wp2_with fail
            refine HCS.out.mono ?_
            rintro e w6 ⟨rfl, hb6⟩
            have B6 : Hid (Below w.heap.size w w6) := nxt B5.out hb6
            clear hb6 HCS
            go_wp2_with fail
            go_ret
            exact ⟨rfl, B6.out⟩

set_option maxRecDepth 100000 in
set_option maxHeartbeats 1600000 in
theorem lifted (os : Os) (started : os.Started) (H : Type) (enc : TypeId × Value → H) :
    ReturnsInHanded {} Try.checked os 4 .any (Rows.sealScansSpec.pre6 enc Try.prog Try.f4 Rows.sealScansRow.domain false) (Rows.sealScansSpec.post enc Try.prog Try.f4 false true false false) := by
  refine returnsInHanded_of_change_sized (C := Try.checked) Try.own started (by kernel_rfl) Try.func4
    (ChangeSpec.witness6 (enc := enc) (C := Try.checked) false ⟨#[], #[.slice none 0 0, .int .i64 0], []⟩ 8 (by kernel_rfl) (by kernel_rfl) (by kernel_rfl) (by kernel_rfl)) ?_
  intro W base args ds gs before hval0 hW _ hsz0 _
  have hsz : (DataW.weightsEach Try.prog (Try.f4.params.toList ++ Rows.sealScansSpec.plain.varTypes Try.prog) (ds ++ gs)).all (· ≤ reachBytes) = true := hsz0
  have hval : ∀ (j : Nat) t v, Try.f4.params[j]? = some t → args[j]? = some v → Value.okWide Try.prog W .any base t v := hval0
  have hW' := hW
  obtain ⟨p, q, hA0, hV, rfl, hfz, hnd⟩ := hW
  have hA : DataW.TrodAll enc Try.prog W 0 (fun _ => true) true Try.f4.params.toList args.toList ds p := hA0
  rw [Try.params4] at hA hval hsz
  obtain ⟨v0, vs0, d0, ds0, p0, q0, hargs, rfl, rfl, h0, r0⟩ := trodAll_cons hA
  obtain ⟨v1, vs1, d1, ds1, p1, q1, rfl, rfl, rfl, h1, r1⟩ := trodAll_cons r0
  obtain ⟨rfl, rfl, rfl⟩ := trodAll_nil r1
  obtain rfl : args = #[v0, v1] := by cases args; simp_all
  obtain ⟨rfl, rfl⟩ := trodVars_none hV
  clear hA0 hval0
  simp only [List.append_nil] at hW' hsz
  have hlt : ∀ x ∈ p0 ++ p1, x.block < W.heap.size := fun x hx => hW'.lt x (by simpa using hx)
  have hall : ∀ x ∈ DataW.weightsEach Try.prog [40, 3] [d0, d1], x ≤ reachBytes := fun x hx => of_decide_eq_true (List.all_eq_true.1 hsz x hx)
  have g0 : ∀ x ∈ d0.weights Try.prog 40, x ≤ reachBytes := fun x hx => hall x (DataW.weights_mem_each (j := 0) rfl rfl x hx)
  obtain ⟨u0, l0⟩ := frs_of_arg (hval 0 _ v0 rfl rfl) h0 g0
  obtain ⟨a1, rfl, rfl, rfl, w1⟩ := open_int Try.underlying3 (hval 1 3 v1 rfl rfl) h1
  refine (walk u0 v0 a1 W l0 w1).mono fun e W' ⟨he, bel⟩ => ?_
  subst he
  exact ⟨_, rfl, _, _, _, [], _, [], hW', trodAll_mk1 (shut_bool Try.underlying4 _), (trodAll_cons_mk (Below.trod Try.laidOut (by kernel_rfl) (of_decide_eq_true (by kernel_rfl)) h0 bel (fun x hx => hlt x (by simp [hx]))) (trodAll_cons_mk (shut_int Try.underlying3 w1) trodAll_mk0)), rfl, bel.frame _, fun h => by cases h⟩

theorem over : Rows.sealScansRow.holds Try.pinned (OpenSpec.ofChange Rows.sealScansSpec) :=
  OpenClaim.holds_of_wide 4 Try.f4 rfl rfl rfl rfl rfl rfl rfl ⟨rfl, rfl, rfl, rfl, rfl⟩ rfl rfl rfl rfl rfl (by kernel_rfl) Try.func4 (by kernel_rfl)
    (of_decide_eq_true (by kernel_rfl)) (by unfold Func.isWrapper; first | (rw [if_pos (by decide +kernel)]; kernel_rfl) | (rw [if_neg (by decide +kernel)]; exact ⟨rfl, rfl⟩))
    (fun os started H enc _ => lifted os started H enc)

/-- THE STATEMENT. -/
theorem proved : Rows.SealScansSaid := over
#print axioms proved
end Go.Proofs.Ytihncekjbmepoac.sealScans
