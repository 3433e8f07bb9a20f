/-
  The program's Check.
-/
import Derived.Test.YtcdnakcojanaeabGreatDoAlone
namespace Go.Proofs.YtcdnakcojanaeabGreat
open Go.ChangeShapes Go.WideShapes Go.ChangeAt Go.RowKit Go.Deep
open Do

/-- Cells of a box of seven, of three. -/
theorem seven {w : World} {B : Nat} {c0 c1 c2 c3 c4 c5 c6 : Value} {t : TypeId} (h : w.heap[B]? = some (.cells #[c0, c1, c2, c3, c4, c5, c6] t (0, 0))) :
    w.cell? ⟨B, 0, none⟩ = some c0 ∧ w.cell? ⟨B, 1, none⟩ = some c1 ∧ w.cell? ⟨B, 2, none⟩ = some c2 ∧ w.cell? ⟨B, 3, none⟩ = some c3 ∧ w.cell? ⟨B, 4, none⟩ = some c4 ∧ w.cell? ⟨B, 5, none⟩ = some c5 ∧ w.cell? ⟨B, 6, none⟩ = some c6 :=
  ⟨(cell_of h 0).1, (cell_of h 1).1, (cell_of h 2).1, (cell_of h 3).1, (cell_of h 4).1, (cell_of h 5).1, (cell_of h 6).1⟩
theorem three {w : World} {B : Nat} {c0 c1 c2 : Value} {t : TypeId} (h : w.heap[B]? = some (.cells #[c0, c1, c2] t (0, 0))) :
    w.cell? ⟨B, 0, none⟩ = some c0 ∧ w.cell? ⟨B, 1, none⟩ = some c1 ∧ w.cell? ⟨B, 2, none⟩ = some c2 := ⟨(cell_of h 0).1, (cell_of h 1).1, (cell_of h 2).1⟩

set_option maxRecDepth 100000 in
set_option maxHeartbeats 1600000 in
theorem misfit_any (ns : List Nd) (n : Nd) (a : Option Addr) (c : Nat) (root next : Int) (P : Nat) (aa : Option Addr) (ac : Nat) (ka : Option Addr) (kc : Nat) (w : World) (hL : LayN w a ns) (hu : Up ns) (hn : ns.length ≤ 1024) (hf : FitN n aa ac ka kc) (hA : LayA w aa n.ats) (hK : LayZ w ka n.kids)
    (hP : w.heap[P]? = some (.cells #[.slice a ns.length c, .int .i64 root, .int .i64 next] 30 (0, 0))) :
    Calls Tryz.prog 29 #[mkN n.id n.par n.tag n.key n.txt aa n.ats.length ac ka n.kids.length kc, .pointer (some ⟨P, 0, none⟩)] w fun e w' => e = .returned (.bool (!fitB ns n)) ∧ Below w.heap.size w w' := by
  have C1 : Hid (∀ W, Below w.heap.size w W → Calls Tryz.prog 30 #[mkN n.id n.par n.tag n.key n.txt aa n.ats.length ac ka n.kids.length kc] W fun e w' => e = .returned (.bool (aloneB n)) ∧ Below W.heap.size W w') := fun W hb => alone_any n aa ac ka kc W hf (hA.below hb)
  have C2 : Hid (∀ W, Below w.heap.size w W → Calls Tryz.prog 31 #[.slice a ns.length c, mkN n.id n.par n.tag n.key n.txt aa n.ats.length ac ka n.kids.length kc] W fun e w' => e = .returned (.bool (kidsB ns n)) ∧ Below W.heap.size W w') := fun W hb => kids_any ns n a c aa ac ka kc W (hL.below hb) hu hn hf (hK.below hb)
  have C3 : Hid (∀ W, Below w.heap.size w W → Calls Tryz.prog 32 #[.slice a ns.length c, mkN n.id n.par n.tag n.key n.txt aa n.ats.length ac ka n.kids.length kc] W fun e w' => e = .returned (.bool (parB ns n)) ∧ Below W.heap.size W w') := fun W hb => par_any ns n a c aa ac ka kc W (hL.below hb) hu hn
  have HFB : Hid (fitB ns n = (aloneB n && kidsB ns n && parB ns n)) := by show _ = _; rfl
  have HP : Hid (∀ W, Below w.heap.size w W → W.cell? ⟨P, 0, none⟩ = some (.slice a ns.length c)) := fun W hb => keepc hb _ _ (three hP).1
  clear hL hu hf hA hK hP
  obtain ⟨ni, np, g, k, t, ats, kids⟩ := n
  simp only at *
  generalize aloneB ⟨ni, np, g, k, t, ats, kids⟩ = b1 at *
  generalize kidsB ns ⟨ni, np, g, k, t, ats, kids⟩ = b2 at *
  generalize parB ns ⟨ni, np, g, k, t, ats, kids⟩ = b3 at *
  generalize fitB ns ⟨ni, np, g, k, t, ats, kids⟩ = b0 at *
  have K1 : Hid (Below w.heap.size w (w.alloc (.cells #[.int .i64 ni, .int .i64 np, .string g, .string k, .string t, .slice aa ats.length ac, .slice ka kids.length kc] 41))) := below_one _ _
  have X1 : Hid ((w.alloc (.cells #[.int .i64 ni, .int .i64 np, .string g, .string k, .string t, .slice aa ats.length ac, .slice ka kids.length kc] 41)).heap[w.heap.size]? = some (.cells #[.int .i64 ni, .int .i64 np, .string g, .string k, .string t, .slice aa ats.length ac, .slice ka kids.length kc] 41 (0, 0))) := heap_alloc_new _ _
  go_enter Tryz.func29, Tryz.ntmps29
  go_wp2_with fail
  refine (C1.out _ K1.out).mono ?_
  rintro e w2 ⟨rfl, hb2⟩
  have B2 : Hid (Below w.heap.size w w2) := nxt K1.out hb2
  have X2 : Hid (w2.heap[w.heap.size]? = _) := (hb2.block _ (lt_of_block X1.out)).trans X1.out
  obtain ⟨z0, z1, z2, z3, z4, z5, z6⟩ := seven X2.out
  have p0 := HP.out _ B2.out
  clear hb2 K1 X1 C1
  cases b1 with
  | false =>
    have HR : Hid (b0 = false) := by show _ = _; rw [HFB.out]; rfl
    clear HFB
    go_wp2_with fail
    go_ret
    exact ⟨by rw [HR.out]; rfl, B2.out⟩
  | true =>
    go_wp2_with fail
    refine (C2.out _ B2.out).mono ?_
    rintro e w3 ⟨rfl, hb3⟩
    have B3 : Hid (Below w.heap.size w w3) := nxt B2.out hb3
    have X3 : Hid (w3.heap[w.heap.size]? = _) := (hb3.block _ (lt_of_block X2.out)).trans X2.out
    clear z0 z1 z2 z3 z4 z5 z6 p0
    obtain ⟨z0, z1, z2, z3, z4, z5, z6⟩ := seven X3.out
    have p0 := HP.out _ B3.out
    clear hb3 X2 C2 B2
    cases b2 with
    | false =>
      have HR : Hid (b0 = false) := by show _ = _; rw [HFB.out]; rfl
      clear HFB
      go_wp2_with fail
      go_ret
      exact ⟨by rw [HR.out]; rfl, B3.out⟩
    | true =>
      have HR : Hid (b0 = b3) := by show _ = _; rw [HFB.out]; rfl
      go_wp2_with (go_at_call 32; refine (C3.out _ B3.out).mono ?_; rintro e w4 ⟨rfl, hb4⟩; have B4 : Hid (Below w.heap.size w w4) := nxt B3.out hb4; clear hb4)
      go_ret
      exact ⟨by rw [HR.out]; rfl, B4.out⟩

set_option maxRecDepth 100000 in
set_option maxHeartbeats 1600000 in
theorem cf_any (ns : List Nd) (a : Option Addr) (c : Nat) (root next : Int) (P : Nat) (w : World) (hL : LayN w a ns) (hu : Up ns) (hn : ns.length ≤ 1024)
    (hP : w.heap[P]? = some (.cells #[.slice a ns.length c, .int .i64 root, .int .i64 next] 30 (0, 0))) :
    Calls Tryz.prog 58 #[.slice a ns.length c, .func (.func 29) #[] #[.pointer (some ⟨P, 0, none⟩)]] w fun e w' => (∃ v : Int, e = .returned (.int .i64 v) ∧ decide (0 ≤ v) = !(ns.all (fitB ns)) ∧ -1 ≤ v ∧ v ≤ 1024) ∧ Below w.heap.size w w' := by
  have HL : Hid (LayN w a ns) := hL
  have HM : Hid (∀ W, Below w.heap.size w W → ∀ (n : Nd) (aa : Option Addr) (ac : Nat) (ka : Option Addr) (kc : Nat), FitN n aa ac ka kc → LayA W aa n.ats → LayZ W ka n.kids → Calls Tryz.prog 29 #[mkN n.id n.par n.tag n.key n.txt aa n.ats.length ac ka n.kids.length kc, .pointer (some ⟨P, 0, none⟩)] W fun e w' => e = .returned (.bool (!fitB ns n)) ∧ Below W.heap.size W w') :=
    fun W hb n aa ac ka kc h1 h2 h3 => misfit_any ns n a c root next P aa ac ka kc W (hL.below hb) hu hn h1 h2 h3 ((hb.block _ (lt_of_block hP)).trans hP)
  clear hL hu hP
  go_enter Tryz.func58, Tryz.ntmps58
  go_wp2_with fail
  go_loopw [8] (fun v8 wr => ∃ i : Nat, i ≤ ns.length ∧ v8 = .int .i64 (i : Int) ∧ Hid (∀ (j : Nat) (n : Nd), j < i → ns[j]? = some n → fitB ns n = true) ∧ Hid (Below w.heap.size w wr)) (fun v8 _ => ns.length - (intOf v8).toNat)
  case atStart => exact ⟨0, Nat.zero_le _, rfl, (show ∀ (j : Nat) (n : Nd), j < 0 → ns[j]? = some n → fitB ns n = true from fun j n h => by omega), Below.refl _ _⟩
  case round =>
    obtain ⟨i, hi, rfl, HT, HB⟩ := hrel
    by_cases hlt : i < ns.length
    · obtain ⟨b, o, aa, ac, ka, kc, ha, hN⟩ := HL.out.below HB.out i ns[i] (List.getElem?_eq_getElem hlt)
      subst ha
      have CM : Hid (Calls Tryz.prog 29 _ wr _) := HM.out wr HB.out ns[i] aa ac ka kc hN.fit hN.ats hN.kids
      obtain ⟨r0, r1, r2, r3, r4, r5, r6, -, -, -⟩ := hN
      have HG : Hid (ns[i]? = some ns[i]) := List.getElem?_eq_getElem hlt
      cases hfit : fitB ns ns[i] with
      | true =>
        rw [hfit] at CM
        have HT' : Hid (∀ (j : Nat) (n : Nd), j < i + 1 → ns[j]? = some n → fitB ns n = true) := by
          intro j n hj hjn
          by_cases e : j = i
          · subst e
            rw [HG.out] at hjn
            cases hjn
            exact hfit
          · exact HT.out j n (by omega) hjn
        clear hfit HG HT
        generalize ns[i] = m at *
        obtain ⟨mi, mp, mg, mk, mt, ma, mks⟩ := m
        simp only at *
        go_wp2_with (go_at_call 29; refine CM.out.mono ?_; rintro e w2 ⟨rfl, hb2⟩; have B2 : Hid (Below w.heap.size w w2) := nxt HB.out hb2; clear hb2)
        go_roundw
        case rel => exact ⟨i + 1, by omega, by go_num, HT'.out, B2.out⟩
        case measure => simp [intOf]; omega
      | false =>
        rw [hfit] at CM
        have HR : Hid (ns.all (fitB ns) = false) := by
          show _ = _
          rw [List.all_eq_false]
          exact ⟨ns[i], List.getElem_mem hlt, by simp [hfit]⟩
        clear hfit HG HT
        generalize ns[i] = m at *
        obtain ⟨mi, mp, mg, mk, mt, ma, mks⟩ := m
        simp only at *
        go_wp2_with (go_at_call 29; refine CM.out.mono ?_; rintro e w2 ⟨rfl, hb2⟩; have B2 : Hid (Below w.heap.size w w2) := nxt HB.out hb2; clear hb2)
        go_ret
        exact ⟨⟨(i : Int), rfl, by rw [HR.out]; simp, by omega, by omega⟩, B2.out⟩
    · have HR : Hid (ns.all (fitB ns) = true) := by
        show _ = _
        rw [List.all_eq_true]
        intro n hn'
        obtain ⟨j, hj, rfl⟩ := List.getElem_of_mem hn'
        exact HT.out j _ (by omega) (List.getElem?_eq_getElem hj)
      clear HT
      go_wp2_with fail
      go_ret
      exact ⟨⟨-1, rfl, by rw [HR.out]; simp, by omega, by omega⟩, HB.out⟩

set_option maxRecDepth 100000 in
theorem containsF_any (ns : List Nd) (a : Option Addr) (c : Nat) (root next : Int) (P : Nat) (w : World) (hL : LayN w a ns) (hu : Up ns) (hn : ns.length ≤ 1024)
    (hP : w.heap[P]? = some (.cells #[.slice a ns.length c, .int .i64 root, .int .i64 next] 30 (0, 0))) :
    Calls Tryz.prog 33 #[.slice a ns.length c, .func (.func 29) #[] #[.pointer (some ⟨P, 0, none⟩)]] w fun e w' => e = .returned (.bool (!(ns.all (fitB ns)))) ∧ Below w.heap.size w w' := by
  have HC : Hid (Calls Tryz.prog 58 _ w _) := cf_any ns a c root next P w hL hu hn hP
  clear hL hu hP
  go_enter Tryz.func33, Tryz.ntmps33
  go_wp2_with fail
  refine HC.out.mono ?_
  rintro e w1 ⟨⟨v, rfl, hv, h1, h2⟩, hb⟩
  have HV : Hid (decide (0 ≤ v) = !(ns.all (fitB ns))) := hv
  have B1 : Hid (Below w.heap.size w w1) := hb
  clear hv hb HC
  go_wp2_with fail
  go_ret
  exact ⟨by rw [← HV.out]; rfl, B1.out⟩

/-- A display that is read. -/
structure DsIs (w : World) (s : Ds) (a : Option Addr) (c : Nat) : Prop where
  lay : LayN w a s.nodes
  len : s.nodes.length * 112 ≤ 140737488351232
  cap : s.nodes.length ≤ c ∧ c ≤ 9223372036854775807
  root : -9223372036854775808 ≤ s.root ∧ s.root ≤ 9223372036854775807
  next : -9223372036854775808 ≤ s.next ∧ s.next ≤ 9223372036854775807

theorem DsIs.below {w w' : World} {s : Ds} {a : Option Addr} {c : Nat} (h : DsIs w s a c) (hb : Below w.heap.size w w') : DsIs w' s a c := ⟨h.lay.below hb, h.len, h.cap, h.root, h.next⟩

set_option maxRecDepth 100000 in
set_option maxHeartbeats 1600000 in
theorem checkD_any (s : Ds) (a : Option Addr) (c : Nat) (w : World) (hs : DsIs w s a c) :
    Calls Tryz.prog 14 #[.agg #[.slice a s.nodes.length c, .int .i64 s.root, .int .i64 s.next]] w fun e w' => e = .returned (.int .i64 (chkD s)) ∧ Below w.heap.size w w' := by
  obtain ⟨ns, root, next⟩ := s
  obtain ⟨hL, hln, hcp, hr, hx⟩ := hs
  simp only at *
  have HOK : Hid (okD ⟨ns, root, next⟩ = (decide (1 ≤ next) && decide (next ≤ 2147483647) && decide (ns.length ≤ 1024) && idsB next ns 0 && ns.all (fitB ns) && allOut ns && rootB ⟨ns, root, next⟩)) := by show _ = _; rfl
  have HBAD : Hid (okD ⟨ns, root, next⟩ = false → chkD ⟨ns, root, next⟩ = 9) := fun h => if_neg (by rw [h]; simp)
  have HGOOD : Hid (okD ⟨ns, root, next⟩ = true → chkD ⟨ns, root, next⟩ = 0) := fun h => if_pos h
  have hl2 : ns.length ≤ 140737488351232 := by omega
  have K1 : Hid (Below w.heap.size w (w.alloc (.cells #[.slice a ns.length c, .int .i64 root, .int .i64 next] 30))) := below_one _ _
  have X1 : Hid ((w.alloc (.cells #[.slice a ns.length c, .int .i64 root, .int .i64 next] 30)).heap[w.heap.size]? = some (.cells #[.slice a ns.length c, .int .i64 root, .int .i64 next] 30 (0, 0))) := heap_alloc_new _ _
  by_cases h1 : next < 1
  · have HR : Hid (chkD ⟨ns, root, next⟩ = 9) := HBAD.out (by rw [HOK.out, decide_eq_false (by omega)]; rfl)
    clear HOK HBAD HGOOD X1 hL
    go_enter Tryz.func14, Tryz.ntmps14
    go_wp2_with fail
    go_ret
    exact ⟨by rw [HR.out]; rfl, K1.out⟩
  by_cases h2 : 2147483647 < next
  · have HR : Hid (chkD ⟨ns, root, next⟩ = 9) := HBAD.out (by rw [HOK.out, decide_eq_false (show ¬ next ≤ 2147483647 by omega)]; simp)
    clear HOK HBAD HGOOD X1 hL
    go_enter Tryz.func14, Tryz.ntmps14
    go_wp2_with fail
    go_ret
    exact ⟨by rw [HR.out]; rfl, K1.out⟩
  by_cases h3 : 1024 < ns.length
  · have HR : Hid (chkD ⟨ns, root, next⟩ = 9) := HBAD.out (by rw [HOK.out, decide_eq_false (show ¬ ns.length ≤ 1024 by omega)]; simp)
    clear HOK HBAD HGOOD X1 hL
    go_enter Tryz.func14, Tryz.ntmps14
    go_wp2_with fail
    go_ret
    exact ⟨by rw [HR.out]; rfl, K1.out⟩
  have hn : ns.length ≤ 1024 := by omega
  rw [decide_eq_true (show 1 ≤ next by omega), decide_eq_true (show next ≤ 2147483647 by omega), decide_eq_true hn] at HOK
  simp only [Bool.true_and] at HOK
  have CI : Hid (∀ W, Below w.heap.size w W → Calls Tryz.prog 28 #[.agg #[.slice a ns.length c, .int .i64 root, .int .i64 next]] W fun e w' => e = .returned (.bool (idsB next ns 0)) ∧ Below W.heap.size W w') := fun W hb => ids_any ⟨ns, root, next⟩ a c W (hL.below hb) hn
  have HL : Hid (LayN w a ns) := hL
  clear hL
  cases hi : idsB next ns 0 with
  | false =>
    rw [hi] at HOK CI
    have HR : Hid (chkD ⟨ns, root, next⟩ = 9) := HBAD.out (by rw [HOK.out]; rfl)
    clear HOK HBAD HGOOD hi
    go_enter Tryz.func14, Tryz.ntmps14
    go_wp2_with (go_at_call 28; refine (CI.out _ K1.out).mono ?_; rintro e w2 ⟨rfl, hb2⟩; have B2 : Hid (Below w.heap.size w w2) := nxt K1.out hb2; clear hb2)
    go_ret
    exact ⟨by rw [HR.out]; rfl, B2.out⟩
  | true =>
    rw [hi, Bool.true_and] at HOK
    rw [hi] at CI
    have hu := (idsB_all hi).2.1
    have CF : Hid (∀ W, Below w.heap.size w W → W.heap[w.heap.size]? = some (.cells #[.slice a ns.length c, .int .i64 root, .int .i64 next] 30 (0, 0)) → Calls Tryz.prog 33 #[.slice a ns.length c, .func (.func 29) #[] #[.pointer (some ⟨w.heap.size, 0, none⟩)]] W fun e w' => e = .returned (.bool (!(ns.all (fitB ns)))) ∧ Below W.heap.size W w') := fun W hb hP => containsF_any ns a c root next w.heap.size W (HL.out.below hb) hu hn hP
    have CW : Hid (∀ W, Below w.heap.size w W → Calls Tryz.prog 34 #[.slice a ns.length c] W fun e w' => e = .returned (.bool (!allOut ns)) ∧ Below W.heap.size W w') := fun W hb => within_any ns a c W (HL.out.below hb) hu hn
    have CR : Hid (∀ W, Below w.heap.size w W → Calls Tryz.prog 35 #[.agg #[.slice a ns.length c, .int .i64 root, .int .i64 next]] W fun e w' => e = .returned (.bool (rootB ⟨ns, root, next⟩)) ∧ Below W.heap.size W w') := fun W hb => root_any ⟨ns, root, next⟩ a c W (HL.out.below hb) hu hn
    clear hi hu HL
    generalize ns.all (fitB ns) = b1 at *
    generalize allOut ns = b2 at *
    generalize rootB ⟨ns, root, next⟩ = b3 at *
    go_enter Tryz.func14, Tryz.ntmps14
    go_wp2_with fail
    refine (CI.out _ K1.out).mono ?_
    rintro e w2 ⟨rfl, hb2⟩
    have B2 : Hid (Below w.heap.size w w2) := nxt K1.out hb2
    have X2 : Hid (w2.heap[w.heap.size]? = _) := (hb2.block _ (lt_of_block X1.out)).trans X1.out
    obtain ⟨z0, z1, z2⟩ := three X2.out
    clear hb2 K1 X1 CI
    go_wp2_with fail
    refine (CF.out _ B2.out X2.out).mono ?_
    rintro e w3 ⟨rfl, hb3⟩
    have B3 : Hid (Below w.heap.size w w3) := nxt B2.out hb3
    have X3 : Hid (w3.heap[w.heap.size]? = _) := (hb3.block _ (lt_of_block X2.out)).trans X2.out
    clear z0 z1 z2
    obtain ⟨z0, z1, z2⟩ := three X3.out
    clear hb3 B2 X2 CF
    cases b1 with
    | false =>
      have HR : Hid (chkD ⟨ns, root, next⟩ = 9) := HBAD.out (by rw [HOK.out]; rfl)
      clear HOK HBAD HGOOD
      go_wp2_with fail
      go_ret
      exact ⟨by rw [HR.out]; rfl, B3.out⟩
    | true =>
      go_wp2_with fail
      refine (CW.out _ B3.out).mono ?_
      rintro e w4 ⟨rfl, hb4⟩
      have B4 : Hid (Below w.heap.size w w4) := nxt B3.out hb4
      have X4 : Hid (w4.heap[w.heap.size]? = _) := (hb4.block _ (lt_of_block X3.out)).trans X3.out
      clear z0 z1 z2
      obtain ⟨z0, z1, z2⟩ := three X4.out
      clear hb4 B3 X3 CW
      cases b2 with
      | false =>
        have HR : Hid (chkD ⟨ns, root, next⟩ = 9) := HBAD.out (by rw [HOK.out]; rfl)
        clear HOK HBAD HGOOD
        go_wp2_with fail
        go_ret
        exact ⟨by rw [HR.out]; rfl, B4.out⟩
      | true =>
        cases b3 with
        | false =>
          have HR : Hid (chkD ⟨ns, root, next⟩ = 9) := HBAD.out (by rw [HOK.out]; rfl)
          clear HOK HBAD HGOOD
          go_wp2_with (go_at_call 35; refine (CR.out _ B4.out).mono ?_; rintro e w5 ⟨rfl, hb5⟩; have B5 : Hid (Below w.heap.size w w5) := nxt B4.out hb5; clear hb5)
          go_ret
          exact ⟨by rw [HR.out]; rfl, B5.out⟩
        | true =>
          have HR : Hid (chkD ⟨ns, root, next⟩ = 0) := HGOOD.out (by rw [HOK.out]; rfl)
          clear HOK HBAD HGOOD
          go_wp2_with (go_at_call 35; refine (CR.out _ B4.out).mono ?_; rintro e w5 ⟨rfl, hb5⟩; have B5 : Hid (Below w.heap.size w w5) := nxt B4.out hb5; clear hb5)
          go_ret
          exact ⟨by rw [HR.out]; rfl, B5.out⟩
end Go.Proofs.YtcdnakcojanaeabGreat
