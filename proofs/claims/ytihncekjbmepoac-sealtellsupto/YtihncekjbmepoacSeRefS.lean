/-
  The page's Scan.
-/
import Derived.Test.YtihncekjbmepoacSeRefG
namespace Go.Proofs.Ytihncekjbmepoac
open Go.ChangeShapes Go.WideShapes Go.ChangeAt Go.RowKit Go.Deep
open Se

theorem Oct.from {w : World} {ad : Addr} {c : Nat} {l : List UInt8} (h : Oct w (some ad) c l) (i : Nat) (hi : i ≤ l.length) : Oct w (if c = i then some ad else some (ad.add i)) (c - i) (l.drop i) := by
  obtain ⟨h1, h2, h3, h4, h5, h6⟩ := h
  by_cases hc : c = i
  · rw [if_pos hc]
    have hn : l.drop i = [] := List.drop_of_length_le (by omega)
    rw [hn]
    exact ⟨fun k o hk => by simp at hk, by simp, by omega, by simp, (fun e => by cases e), fun ad e h => by omega⟩
  · rw [if_neg hc]
    have had := h6 ad rfl (by omega)
    generalize ad.block = b at *
    generalize ad.off = off at *
    subst had
    rw [add_plain]
    refine ⟨fun k o hk => ⟨b, off + i, rfl, ?_⟩, by rw [List.length_drop]; omega, by omega, by rw [List.length_drop]; omega, (fun e => by cases e), fun ad e _ => by cases e; rfl⟩
    rw [List.getElem?_drop] at hk
    obtain ⟨_, _, e, hc'⟩ := h1 (i + k) o hk
    cases e
    rw [Nat.add_assoc]
    exact hc'

theorem Try.infoRf4 : (Try.prog.info? 24).map (fun i => (i.zero, i.size, i.bytes)) = some (some (.agg #[.int .i64 0, .slice none 0 0]), 2, 32) := by kernel_rfl

set_option maxRecDepth 100000 in
set_option maxHeartbeats 1600000 in
theorem rscan_any (a : Option Addr) (c : Nat) (l : List UInt8) (w : World) (ho : Oct w a c l) (hl : l.length ≤ 1000000000000) :
    Calls Try.prog 15 #[.slice a l.length c] w fun e w' => ∃ v xs, e = .returned (.tuple #[v, .int .i64 (scanR l).2]) ∧ w'.ownsRow w.heap.size 24 2 v (scanR l).1.length xs ∧ FrItems w' (scanR l).1 xs ∧ Below w.heap.size w w' := by
  cases a with
  | none =>
    have hc0 := ho.2.2.2.2.1 rfl
    have hl0 : l = [] := List.eq_nil_of_length_eq_zero (by have := ho.2.1; omega)
    subst hl0 hc0
    have hg := rget_any none 0 [] w ho
    have hne : (getR []).1 ≠ 0 := by decide
    have hge : getR [] = (8, 0, [], 0) := by decide
    rw [hge] at hg
    have HG : Hid (Calls Try.prog 13 #[.slice none 0 0] w _) := hg
    rw [scanR_no hne]
    clear hne hge hg ho
    go_enter Try.func15, Try.ntmps15
    go_wp2_with fail
    go_loopw [4, 5] (fun v4 v5 wr => v5 = .int .i64 0 ∧ v4 = .slice none 0 0 ∧ Hid (wr = w)) (fun _ _ _ => 0)
    case atStart => exact ⟨rfl, rfl, rfl⟩
    case round =>
      obtain ⟨rfl, rfl, hw⟩ := hrel
      obtain rfl : wr = w := hw
      go_wp2_with fail
      refine HG.out.mono ?_
      rintro e w1 ⟨s1, rfl, hs1, hb1⟩
      obtain ⟨a1, c1, rfl⟩ := hs1.shape
      have B1 : Hid (Below wr.heap.size wr w1) := hb1
      clear hs1 hb1
      go_wp2_with fail
      refine bodyPost_ret (v := .tuple #[.slice none 0 0, .int .i64 0]) (by simp [results, Try.results15, go_sem]) rfl ?_
      exact ⟨.slice none 0 0, [], rfl, World.ownsRow_nil _ _ _ _, fun j f hj => by simp at hj, nxt B1.out (below_one _ _)⟩
  | some ad =>
    have HO : Hid (Oct w (some ad) c l) := ho
    have hcl := ho.2.1
    have hc63 := ho.2.2.1
    clear ho
    go_enter Try.func15, Try.ntmps15
    go_wp2_with fail
    go_loopw [4, 5] (fun v4 v5 wr => ∃ (i : Nat) (fs : List (Int × List UInt8)) (av : Option Addr) (nv cv : Nat) (xs : List Value), i ≤ l.length ∧ v5 = .int .i64 i ∧ v4 = .slice av nv cv ∧ Hid (wr.ownsRow w.heap.size 24 2 (.slice av nv cv) fs.length xs) ∧ Hid (FrItems wr fs xs) ∧ Hid (8 * fs.length ≤ i)
        ∧ Hid ((scanR l).1 = fs ++ (scanR (l.drop i)).1 ∧ (scanR l).2 = i + (scanR (l.drop i)).2) ∧ Hid (Below w.heap.size w wr)) (fun _ v5 _ => l.length - (intOf v5).toNat)
    case atStart => exact ⟨0, [], none, 0, 0, [], by omega, rfl, rfl, World.ownsRow_nil _ _ _ _, fun j f hj => by simp at hj, by show 8 * 0 ≤ 0; omega, by show _ ∧ _; simp, Below.refl _ _⟩
    case round =>
      obtain ⟨i, fs, av, nv, cv, xs, hi, rfl, rfl, HR, HI, HF, HS, HB⟩ := hrel
      have hlen : (l.drop i).length = l.length - i := List.length_drop
      have HLN : Hid ((l.drop i).length = l.length - i) := hlen
      have HG0 := rget_any (if c = i then some ad else some (ad.add i)) (c - i) (l.drop i) wr ((HO.out.below HB.out).from i hi)
      rw [hlen] at HG0
      have hic : (i : Int) ≤ l.length := by omega
      clear hlen
      by_cases hci : c = i
      · have hil : l.drop i = [] := List.drop_of_length_le (by omega)
        have hgn : (getR (l.drop i)).1 ≠ 0 := by rw [hil]; decide
        have HS2 : Hid ((scanR l).1 = fs ∧ (scanR l).2 = i) := by
          have := HS.out
          rw [scanR_no hgn] at this
          show _ ∧ _
          simpa using this
        have hne : ((getR (l.drop i)).1 != 0) = true := by simpa using hgn
        rw [if_pos hci] at HG0
        clear hgn hil
        generalize getR (l.drop i) = G at *
        subst hci
        rw [Nat.sub_self, show l.length - c = 0 by omega] at HG0
        have HGG : Hid (Calls Try.prog 13 #[.slice (some ad) 0 0] wr _) := HG0
        clear HG0
        go_wp2_with fail
        refine HGG.out.mono ?_
        rintro e w1 ⟨s1, rfl, hs1, hb1⟩
        obtain ⟨a1, c1, rfl⟩ := hs1.shape
        have R1 : Hid (w1.ownsRow w.heap.size 24 2 (.slice av nv cv) fs.length xs) := ownsRow_same HR.out fun g hg => hb1.block g (HR.out.lt g hg).2
        have I1 : Hid (FrItems w1 fs xs) := HI.out.kpb (KpB.below hb1)
        have B1 : Hid (Below w.heap.size w w1) := nxt HB.out hb1
        clear hs1 hb1 HGG
        go_wp2_with fail
        refine bodyPost_ret (v := .tuple #[.slice av nv cv, .int .i64 c]) (by simp [results, Try.results15, go_sem]) rfl ?_
        refine ⟨.slice av nv cv, xs, by rw [HS2.out.2], ?_, ?_, nxt B1.out (below_one _ _)⟩
        · rw [HS2.out.1]
          exact ownsRow_same R1.out fun g hg => (below_one w1 _).block g (R1.out.lt g hg).2
        · rw [HS2.out.1]
          exact I1.out.kpb (KpB.below (below_one _ _))
      rw [if_neg hci] at HG0
      by_cases hg : (getR (l.drop i)).1 = 0
      · have hok := getR_ok hg
        rw [HLN.out] at hok
        have hnn := getR_small hg
        have HS2 : Hid ((scanR l).1 = (fs ++ [((getR (l.drop i)).2.1, (getR (l.drop i)).2.2.1)]) ++ (scanR (l.drop (i + (getR (l.drop i)).2.2.2))).1 ∧ (scanR l).2 = (i + (getR (l.drop i)).2.2.2) + (scanR (l.drop (i + (getR (l.drop i)).2.2.2))).2) := by
          have := HS.out
          rw [scanR_yes hg, List.drop_drop] at this
          show _ ∧ _
          refine ⟨by rw [this.1]; simp, by rw [this.2]; simp only; omega⟩
        generalize (getR (l.drop i)).2.2.2 = nn at *
        generalize (getR (l.drop i)).2.2.1 = d at *
        generalize (getR (l.drop i)).2.1 = k at *
        rw [hg] at HG0
        have HGG : Hid (Calls Try.prog 13 #[.slice (some (ad.add i)) (l.length - i) (c - i)] wr _) := HG0
        clear HG0 hg
        obtain ⟨hok1, hok2, hok3⟩ := hok
        have hF := HF.out
        go_wp2_with fail
        refine HGG.out.mono ?_
        rintro e w1 ⟨s1, rfl, hs1, hb1⟩
        obtain ⟨a1, c1, rfl⟩ := hs1.shape
        have bA := below_one w1 (.cells #[.int .i64 k, .slice a1 d.length c1] 24)
        have R1 : Hid ((w1.alloc (.cells #[.int .i64 k, .slice a1 d.length c1] 24)).ownsRow w.heap.size 24 2 (.slice av nv cv) fs.length xs) := ownsRow_same HR.out fun g hg => (nxt hb1 bA).block g (HR.out.lt g hg).2
        have I1 : Hid (FrItems (w1.alloc (.cells #[.int .i64 k, .slice a1 d.length c1] 24)) fs xs) := HI.out.kpb (KpB.below (nxt hb1 bA))
        have S1 : Hid (Bs (w1.alloc (.cells #[.int .i64 k, .slice a1 d.length c1] 24)) 0 (.slice a1 d.length c1) d) := (hs1.below bA).up fun g _ => Nat.zero_le _
        have B1 : Hid (Below w.heap.size w (w1.alloc (.cells #[.int .i64 k, .slice a1 d.length c1] 24))) := nxt (nxt HB.out hb1) bA
        have X1 : Hid ((w1.alloc (.cells #[.int .i64 k, .slice a1 d.length c1] 24)).heap[w1.heap.size]? = some (.cells #[.int .i64 k, .slice a1 d.length c1] 24 (0, 0))) := heap_alloc_new _ _
        clear hs1 hb1 HGG bA
        go_upto_region 4 with fail
        generalize w1.alloc (.cells #[.int .i64 k, .slice a1 d.length c1] 24) = W1 at *
        generalize w1.heap.size = g1 at *
        obtain ⟨x0, -⟩ := cell_of X1.out 0
        obtain ⟨x1, -⟩ := cell_of X1.out 1
        simp at x0 x1
        obtain ⟨i4, hi4, hz40, hz41, hz42⟩ := info_parts Try.infoRf4
        have hsz6 := B1.out.size
        go_wp2_with (at_builtin; refine wpList_append_apart _ rfl _ _ 40 rfl w.heap.size 24 i4 _ 2 32 Try.underlying40 hi4 hz40 hz41 hz42 rfl (by decide) _ fs.length xs rfl ?d0 (some ⟨W1.heap.size, 0, none⟩) 1 1 [.int .i64 k, .slice a1 d.length c1] rfl (by simp) rfl ?d1 ?d2 ?d3 ?d4 ?d5 ?_)
        case d0 => exact ownsRow_same R1.out fun g hg => (below_one W1 _).block g (R1.out.lt g hg).2
        case d1 =>
          intro ad' e j u hj
          cases e
          exact newCells W1 _ _ j u (by rw [← Array.getElem?_toList]; exact hj)
        case d2 => simp [Value.oneCell']
        case d3 => unfold maxLen; omega
        case d4 => omega
        case d5 => simp; omega
        intro v7 w7 hg7 hgr7 hp7
        obtain ⟨b7, d7, rfl⟩ := slice_of_own hg7
        have bA := below_one W1 (.cells #[.int .i64 k, .slice a1 d.length c1] 24)
        have hrX : (W1.alloc (.cells #[.int .i64 k, .slice a1 d.length c1] 24)).ownsRow w.heap.size 24 2 (.slice av nv cv) fs.length xs := ownsRow_same R1.out fun g hg => bA.block g (R1.out.lt g hg).2
        have hxl : xs.length = 2 * fs.length := by have := R1.out.1; omega
        have kp : KpB W1 w7 := (KpB.below bA).trans (KpB.grown hgr7 (by
          intro g hg
          rcases hrX.2 with ⟨h3, -⟩ | ⟨g', cap, cur, h3, h4, h5, h6⟩
          · rw [h3] at hg; simp [Value.ownBlock] at hg
          · rw [h3] at hg
            simp only [Value.ownBlock, Option.some.injEq] at hg
            subst hg
            exact ⟨cur, _, _, h5, by decide⟩))
        have R7 : Hid (w7.ownsRow w.heap.size 24 2 (.slice b7 (fs.length + 1) d7) (fs ++ [(k, d)]).length (xs ++ [.int .i64 k, .slice a1 d.length c1])) := by
          show World.ownsRow _ _ _ _ _ _ _
          rw [List.length_append, List.length_singleton]
          exact hg7
        have I7 : Hid (FrItems w7 (fs ++ [(k, d)]) (xs ++ [.int .i64 k, .slice a1 d.length c1])) := (I1.out.kpb kp).push (f := (k, d)) hxl (S1.out.kpb kp)
        have B7 : Hid (Below w.heap.size w w7) := (nxt B1.out bA).grown hgr7 (by simp; omega) (fun j e => (R1.out.lt j e).1)
        clear hg7 hgr7 hp7 bA hrX hxl kp R1 I1 S1 B1 X1 x0 x1 hi4 hz40 hz41 hz42 hsz6
        have hov : (i : Int) + nn ≤ 1000000000000 := by omega
        go_wp2_with fail
        refine ⟨⟨i + nn, fs ++ [(k, d)], b7, fs.length + 1, d7, _, by omega, by simp, rfl, R7.out, I7.out, ?_, HS2.out, B7.out⟩, ?_⟩
        · show 8 * (fs ++ [(k, d)]).length ≤ i + nn
          rw [List.length_append, List.length_singleton]
          omega
        · simp [intOf]
          omega
      · have HS2 : Hid ((scanR l).1 = fs ∧ (scanR l).2 = i) := by
          have := HS.out
          rw [scanR_no hg] at this
          show _ ∧ _
          simpa using this
        have hne : ((getR (l.drop i)).1 != 0) = true := by simpa using hg
        clear hg
        generalize getR (l.drop i) = G at *
        have HGG : Hid (Calls Try.prog 13 #[.slice (some (ad.add i)) (l.length - i) (c - i)] wr _) := HG0
        clear HG0
        go_wp2_with fail
        refine HGG.out.mono ?_
        rintro e w1 ⟨s1, rfl, hs1, hb1⟩
        obtain ⟨a1, c1, rfl⟩ := hs1.shape
        have R1 : Hid (w1.ownsRow w.heap.size 24 2 (.slice av nv cv) fs.length xs) := ownsRow_same HR.out fun g hg => hb1.block g (HR.out.lt g hg).2
        have I1 : Hid (FrItems w1 fs xs) := HI.out.kpb (KpB.below hb1)
        have B1 : Hid (Below w.heap.size w w1) := nxt HB.out hb1
        clear hs1 hb1 HGG
        go_wp2_with fail
        refine bodyPost_ret (v := .tuple #[.slice av nv cv, .int .i64 i]) (by simp [results, Try.results15, go_sem]) rfl ?_
        refine ⟨.slice av nv cv, xs, by rw [HS2.out.2], ?_, ?_, nxt B1.out (below_one _ _)⟩
        · rw [HS2.out.1]
          exact ownsRow_same R1.out fun g hg => (below_one w1 _).block g (R1.out.lt g hg).2
        · rw [HS2.out.1]
          exact I1.out.kpb (KpB.below (below_one _ _))
end Go.Proofs.Ytihncekjbmepoac
