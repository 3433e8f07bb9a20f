/-
  The program's comesOut, withinItself, rootMayBe.
-/
import Derived.Test.YtcdnakcojanaeabGreatDoKids
namespace Go.Proofs.YtcdnakcojanaeabGreat
open Go.ChangeShapes Go.WideShapes Go.ChangeAt Go.RowKit Go.Deep
open Do

theorem ups_neg (ab : List Int) {a : Int} (h : a < 0) : ∀ k, ups ab k a = a
  | 0 => rfl
  | k + 1 => by simp [ups, h]

theorem ups_step (ab : List Int) {c k : Nat} (h : c < ab.length) : ups ab (k + 1) (c : Int) = ups ab k ab[c] := by
  have : ¬ (c : Int) < 0 := by omega
  simp [ups, this, List.getD, h]

/-- Places within a list, or none. -/
def Abs (ab : List Int) : Prop := ∀ y ∈ ab, -1 ≤ y ∧ y < ab.length

set_option maxRecDepth 100000 in
set_option maxHeartbeats 1600000 in
theorem out_any (ab : List Int) (at_ : Int) (a : Option Addr) (c : Nat) (w : World) (hl : LayZ w a ab) (hn : ab.length ≤ 1024) (hab : Abs ab) (hat : -1 ≤ at_ ∧ at_ < ab.length) :
    Calls Tryz.prog 60 #[.slice a ab.length c, .int .i64 at_] w fun e w' => e = .returned (.bool (outB ab at_)) ∧ w' = w := by
  have HL : Hid (LayZ w a ab) := hl
  have HA : Hid (Abs ab) := hab
  clear hl hab
  go_enter Tryz.func60, Tryz.ntmps60
  go_wp2_with fail
  go_loopw [1, 7] (fun v1 v7 wr => ∃ (k : Nat) (cur : Int), k ≤ ab.length ∧ v7 = .int .i64 (k : Int) ∧ v1 = .int .i64 cur ∧ -1 ≤ cur ∧ cur < ab.length ∧ Hid (ups ab ab.length at_ = ups ab (ab.length - k) cur) ∧ wr = w) (fun _ v7 _ => ab.length - (intOf v7).toNat)
  case atStart => exact ⟨0, at_, Nat.zero_le _, rfl, rfl, hat.1, hat.2, (show _ = _ from rfl), rfl⟩
  case round =>
    obtain ⟨k, cur, hk, rfl, rfl, hc1, hc2, HE, rfl⟩ := hrel
    by_cases hlt : k < ab.length
    · by_cases hneg : cur < 0
      · have HR : Hid (outB ab at_ = true) := by show _ = _; unfold outB; rw [HE.out, ups_neg ab hneg]; simp [hneg]
        clear HE
        go_wp2_with fail
        go_ret
        exact ⟨by rw [HR.out]; rfl, rfl⟩
      · obtain ⟨d, rfl⟩ : ∃ d : Nat, cur = (d : Int) := ⟨cur.toNat, by omega⟩
        have hd : d < ab.length := by omega
        obtain ⟨b, o, ha, r1, _⟩ := HL.out d ab[d] (List.getElem?_eq_getElem hd)
        subst ha
        have hy := HA.out ab[d] (List.getElem_mem hd)
        have HE' : Hid (ups ab ab.length at_ = ups ab (ab.length - (k + 1)) ab[d]) := by
          show _ = _
          rw [HE.out]
          have e : ab.length - k = (ab.length - (k + 1)) + 1 := by omega
          rw [e, ups_step ab hd]
        clear HE hneg
        generalize ab[d] = y at *
        go_wp2_with fail
        go_roundw
        case rel => exact ⟨k + 1, y, by omega, by go_num, rfl, hy.1, hy.2, HE'.out, trivial⟩
        case measure => simp [intOf]; omega
    · have HR : Hid (outB ab at_ = decide (cur < 0)) := by
        show _ = _
        unfold outB
        rw [HE.out, show ab.length - k = 0 by omega]
        rfl
      clear HE
      go_wp2_with fail
      go_ret
      exact ⟨by rw [HR.out]; rfl, rfl⟩

theorem above_abs (ns : List Nd) : Abs (above ns) := by
  intro y hy
  simp only [above, List.mem_map] at hy
  obtain ⟨n, -, rfl⟩ := hy
  unfold plI
  simp only [above, List.length_map]
  cases h : pl ns n.par with
  | none => simp only; omega
  | some p =>
    obtain ⟨m, h1, -⟩ := pl_some h
    have := (List.getElem?_eq_some_iff.1 h1).1
    simp only
    omega

theorem abs_i64 {ab : List Int} (h : Abs ab) (hn : ab.length ≤ 1024) : I64 ab := fun x hx => by have := h x hx; omega

/-- The row of parents' places behind the first i nodes. -/
def rowA (ns : List Nd) (i : Nat) : List Int := (above ns).take i ++ List.replicate (ns.length - i) 0

theorem rowA_length {ns : List Nd} {i : Nat} (h : i ≤ ns.length) : (rowA ns i).length = ns.length := by simp [rowA, above]; omega
theorem rowA_set {ns : List Nd} {i : Nat} (h : i < ns.length) : (rowA ns i).set i (plI ns ns[i].par) = rowA ns (i + 1) := by
  have hl : i < (above ns).length := by simpa [above] using h
  have e : (above ns)[i] = plI ns ns[i].par := by simp [above]
  unfold rowA
  rw [List.set_append_right _ _ (by simp; omega), List.take_succ_eq_append_getElem hl, e]
  have e2 : ns.length - i = (ns.length - (i + 1)) + 1 := by omega
  rw [e2, List.replicate_succ]
  have e3 : i - ((above ns).take i).length = 0 := by simp; omega
  rw [e3]
  simp

theorem plI_i64 (ns : List Nd) (x : Int) (hn : ns.length ≤ 1024) : -1 ≤ plI ns x ∧ plI ns x < 1024 := by
  unfold plI
  cases h : pl ns x with
  | none => simp only; omega
  | some p =>
    obtain ⟨m, h1, -⟩ := pl_some h
    have := (List.getElem?_eq_some_iff.1 h1).1
    simp only
    omega

set_option maxRecDepth 100000 in
set_option maxHeartbeats 3200000 in
theorem within_any (ns : List Nd) (a : Option Addr) (c : Nat) (w : World) (hL : LayN w a ns) (hu : Up ns) (hn : ns.length ≤ 1024) :
    Calls Tryz.prog 34 #[.slice a ns.length c] w fun e w' => e = .returned (.bool (!allOut ns)) ∧ Below w.heap.size w w' := by
  have HL : Hid (LayN w a ns) := hL
  have HC : Hid (∀ W, Below w.heap.size w W → ∀ x, Calls Tryz.prog 59 #[.slice a ns.length c, .int .i64 x] W fun e w' => e = .returned (.int .i64 (plI ns x)) ∧ Below W.heap.size W w') := fun W hb x => place_any ns x a c W (hL.below hb) hu hn
  clear hL hu
  go_enter Tryz.func34, Tryz.ntmps34
  go_wp2_with (refine wpList_mkI _ rfl (.tmp 8) (.tmp 8) rfl ns.length rfl rfl (by omega) ?_; intro w1 H1 H2 H3)
  have HO1 : Hid (OwnZ w1 w.heap.size (.slice (some ⟨w.heap.size, 0, none⟩) ns.length ns.length) (rowA ns 0)) := by
    show OwnZ _ _ _ _
    have e : rowA ns 0 = List.replicate ns.length 0 := by simp [rowA]
    rw [e]
    refine ⟨by simp, Or.inr ⟨w.heap.size, ns.length, _, by simp, Nat.le_refl _, H1.out, by simp, by unfold maxLen; omega, by simp, ?_⟩⟩
    rw [List.take_of_length_le (by simp)]
  clear H1 H2
  go_loopw [12] (fun v12 wr => ∃ i : Nat, i ≤ ns.length ∧ v12 = .int .i64 (i : Int) ∧ Hid (OwnZ wr w.heap.size (.slice (some ⟨w.heap.size, 0, none⟩) ns.length ns.length) (rowA ns i)) ∧ Hid (Below w.heap.size w wr)) (fun v12 _ => ns.length - (intOf v12).toNat)
  case atStart => exact ⟨0, Nat.zero_le _, rfl, HO1.out, H3.out⟩
  case round =>
    clear HO1 H3
    obtain ⟨i, hi, rfl, HO, HB⟩ := hrel
    by_cases hlt : i < ns.length
    · obtain ⟨b, o, aa, ac, ka, kc, ha, hN⟩ := HL.out.below HB.out i ns[i] (List.getElem?_eq_getElem hlt)
      subst ha
      obtain ⟨r0, r1, r2, r3, r4, r5, r6, -, -, -⟩ := hN
      have HS : Hid ((rowA ns i).set i (plI ns ns[i].par) = rowA ns (i + 1)) := rowA_set hlt
      have hrl := rowA_length (ns := ns) hi
      generalize hm : ns[i] = m at *
      obtain ⟨mi, mp, mg, mk, mt, ma, mks⟩ := m
      simp only at *
      clear hm
      have hpi := plI_i64 ns mp hn
      go_wp2_with fail
      refine (HC.out _ (nxt HB.out (below_one _ _)) mp).mono ?_
      rintro e w2 ⟨rfl, hb2⟩
      have B2 : Hid (Below w.heap.size w w2) := nxt HB.out (nxt (below_one _ _) hb2)
      have O2 : Hid (OwnZ w2 w.heap.size (.slice (some ⟨w.heap.size, 0, none⟩) ns.length ns.length) (rowA ns i)) := HO.out.below (nxt (below_one _ _) hb2)
      obtain ⟨q1, q2⟩ := O2.out.cell (j := i) (by omega)
      clear hb2 HO HB r0 r1 r2 r3 r4 r5 r6
      generalize hy : plI ns mp = y at *
      clear hy
      go_wp2_with fail
      go_roundw
      case rel =>
        refine ⟨i + 1, by omega, by go_num, ?_, ?_⟩
        · rw [← HS.out]
          exact O2.out.set i y
        · exact ⟨B2.out.os, B2.out.tape, B2.out.output, by have := B2.out.size; simpa [World.setCell] using this, fun j hj => (heap_set_other _ (by omega)).trans (B2.out.block j hj)⟩
      case measure => simp [intOf]; omega
    · have hin : i = ns.length := by omega
      have e : rowA ns ns.length = above ns := by unfold rowA; rw [List.take_of_length_le (by simp [above])]; simp
      subst hin
      rw [e] at HO
      have hal : (above ns).length = ns.length := by simp [above]
      obtain ⟨W5, hW5⟩ : ∃ W, W = wr := ⟨_, rfl⟩
      subst hW5
      have CO : Hid (∀ i : Nat, i < ns.length → Calls Tryz.prog 60 #[.slice (some ⟨w.heap.size, 0, none⟩) ns.length ns.length, .int .i64 (i : Int)] W5 fun e w' => e = .returned (.bool (outB (above ns) i)) ∧ w' = W5) := by
        intro i hi
        have := out_any (above ns) (i : Int) (some ⟨w.heap.size, 0, none⟩) ns.length W5 (HO.out.lay (abs_i64 (above_abs ns) (by omega))) (by omega) (above_abs ns) (by omega)
        rwa [hal] at this
      have BW : Hid (Below w.heap.size w W5) := HB.out
      clear HO HB hal e HC
      go_wp2_with fail
      go_loopw [27] (fun v27 wr => ∃ i : Nat, i ≤ ns.length ∧ v27 = .int .i64 (i : Int) ∧ Hid (∀ j : Nat, j < i → outB (above ns) j = true) ∧ wr = W5) (fun v27 _ => ns.length - (intOf v27).toNat)
      case atStart => exact ⟨0, Nat.zero_le _, rfl, (show ∀ j : Nat, j < 0 → outB (above ns) j = true from fun j h => by omega), rfl⟩
      case round =>
        obtain ⟨i, hi, rfl, HT, rfl⟩ := hrel
        by_cases hlt2 : i < ns.length
        · have CI : Hid (Calls Tryz.prog 60 #[.slice (some ⟨w.heap.size, 0, none⟩) ns.length ns.length, .int .i64 (i : Int)] wr _) := CO.out i hlt2
          cases ho : outB (above ns) i with
          | true =>
            rw [ho] at CI
            have HT' : Hid (∀ j : Nat, j < i + 1 → outB (above ns) j = true) := by
              intro j hj
              by_cases e : j = i
              · rw [e]; exact ho
              · exact HT.out j (by omega)
            clear ho HT
            go_wp2_with (go_at_call 60; refine CI.out.mono ?_; rintro e w9 ⟨rfl, h9⟩; subst h9)
            go_roundw
            case rel => exact ⟨i + 1, by omega, by go_num, HT'.out, trivial⟩
            case measure => simp [intOf]; omega
          | false =>
            rw [ho] at CI
            have HR : Hid (allOut ns = false) := by
              show _ = _
              unfold allOut
              rw [List.all_eq_false]
              exact ⟨i, by simp [hlt2], by simp [ho]⟩
            clear ho HT
            go_wp2_with (go_at_call 60; refine CI.out.mono ?_; rintro e w9 ⟨rfl, h9⟩; subst h9)
            go_ret
            exact ⟨by rw [HR.out]; rfl, BW.out⟩
        · have HR : Hid (allOut ns = true) := by
            show _ = _
            unfold allOut
            rw [List.all_eq_true]
            intro j hj
            exact HT.out j (by simp at hj; omega)
          clear HT
          go_wp2_with fail
          go_ret
          exact ⟨by rw [HR.out]; rfl, BW.out⟩

set_option maxRecDepth 100000 in
set_option maxHeartbeats 1600000 in
theorem root_any (s : Ds) (a : Option Addr) (c : Nat) (w : World) (hL : LayN w a s.nodes) (hu : Up s.nodes) (hn : s.nodes.length ≤ 1024) :
    Calls Tryz.prog 35 #[.agg #[.slice a s.nodes.length c, .int .i64 s.root, .int .i64 s.next]] w fun e w' => e = .returned (.bool (rootB s)) ∧ Below w.heap.size w w' := by
  obtain ⟨ns, root, next⟩ := s
  simp only at *
  have HL : Hid (LayN w a ns) := hL
  have HB0 : Hid (∀ W, Below w.heap.size w W → ∀ x, Calls Tryz.prog 54 #[.slice a ns.length c, .int .i64 x] W fun e w' => ∃ v, e = .returned v ∧ FindIs a ns x v ∧ Below W.heap.size W w') := fun W hb x => find_any ns x a c W (hL.below hb) hu hn
  clear hL hu
  by_cases h0 : root = 0
  · have HR : Hid (rootB ⟨ns, root, next⟩ = true) := by show _ = _; unfold rootB; simp [h0]
    go_enter Tryz.func35, Tryz.ntmps35
    go_wp2_with fail
    go_ret
    exact ⟨by rw [HR.out]; rfl, below_one _ _⟩
  · have HE : Hid (rootB ⟨ns, root, next⟩ = match pl ns root with
      | none => false
      | some p => match ns[p]? with
        | none => false
        | some m => decide (¬ m.tag.size = 0) && decide (m.par = 0)) := by show _ = _; unfold rootB; rw [decide_eq_false h0, Bool.false_or]; rfl
    have g0 : (root == 0) = false := by simpa using h0
    clear h0
    go_enter Tryz.func35, Tryz.ntmps35
    go_wp2_with fail
    refine (HB0.out _ (below_one _ _) root).mono ?_
    rintro e w2 ⟨v, rfl, hfi, hb2⟩
    have B2 : Hid (Below w.heap.size w w2) := nxt (below_one _ _) hb2
    clear hb2 HB0
    unfold FindIs at hfi
    cases hp : pl ns root with
    | none =>
      rw [hp] at hfi HE
      simp only at hfi HE
      subst hfi
      clear hp
      go_wp2_with fail
      go_ret
      exact ⟨by rw [HE.out]; rfl, B2.out⟩
    | some p =>
      rw [hp] at hfi HE
      simp only at hfi HE
      obtain ⟨b, o, ha, rfl⟩ := hfi
      obtain ⟨m, hm1, hm2⟩ := pl_some hp
      rw [hm1] at HE
      simp only at HE
      obtain ⟨b', o', maa, mac, mka, mkc, ha', hN⟩ := HL.out.below B2.out p m hm1
      subst ha
      cases ha'
      have HN : Hid (NdAt w2 b (o + p * 7) m maa mac mka mkc) := hN
      obtain ⟨r0, r1, r2, r3, r4, r5, r6, -, -, -⟩ := hN
      clear hm1 hm2 hp
      obtain ⟨mi, mp, mg, mk, mt, ma, mks⟩ := m
      simp only at *
      have CI : Hid (∀ W, Calls Tryz.prog 56 #[mkN mi mp mg mk mt maa ma.length mac mka mks.length mkc] W _) := fun W => istextN_any mi mp mg mk mt maa ma.length mac mka mks.length mkc W
      by_cases hg : mg.size = 0
      · have HR : Hid (rootB ⟨ns, root, next⟩ = false) := by show _ = _; rw [HE.out]; simp [hg]
        have CJ : Hid (∀ W, Calls Tryz.prog 56 #[mkN mi mp mg mk mt maa ma.length mac mka mks.length mkc] W fun e w' => e = .returned (.bool true) ∧ Below W.heap.size W w') := fun W => by have := CI.out W; rwa [empty_true hg] at this
        clear HE CI
        go_wp2_with (go_at_call 56; refine (CJ.out _).mono ?_; rintro e w3 ⟨rfl, hb3⟩; have B3 : Hid (Below w.heap.size w w3) := nxt B2.out hb3; clear hb3)
        go_ret
        exact ⟨by rw [HR.out]; rfl, B3.out⟩
      · have HR : Hid (rootB ⟨ns, root, next⟩ = (mp == 0)) := by show _ = _; rw [HE.out]; simp [hg]; rfl
        have CJ : Hid (∀ W, Calls Tryz.prog 56 #[mkN mi mp mg mk mt maa ma.length mac mka mks.length mkc] W fun e w' => e = .returned (.bool false) ∧ Below W.heap.size W w') := fun W => by have := CI.out W; rwa [empty_false hg] at this
        have HK : Hid (∀ W, Below w2.heap.size w2 W → W.cell? ⟨b, o + p * 7 + 1, none⟩ = some (.int .i64 mp)) := fun W hb => keepc hb _ _ r1
        clear HE CI
        go_wp2_with (go_at_call 56; refine (CJ.out _).mono ?_; rintro e w3 ⟨rfl, hb3⟩; have B3 : Hid (Below w.heap.size w w3) := nxt B2.out hb3; have q1 := HK.out _ hb3; clear hb3)
        go_ret
        exact ⟨by rw [HR.out]; rfl, B3.out⟩
end Go.Proofs.YtcdnakcojanaeabGreat
