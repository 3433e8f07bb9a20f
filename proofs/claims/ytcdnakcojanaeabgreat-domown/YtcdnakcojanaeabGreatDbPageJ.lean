/-
  The page's in, within, loops, kids.
-/
import Derived.Test.YtcdnakcojanaeabGreatDoPlaceJ
import Derived.Test.YtcdnakcojanaeabGreatDuPgJ
import Derived.Test.YtcdnakcojanaeabGreatDoTakeJ
namespace Go.Proofs.YtcdnakcojanaeabGreat
open Go.ChangeShapes Go.WideShapes Go.ChangeAt Go.RowKit Go.Deep
open Do

set_option maxRecDepth 100000 in
set_option maxHeartbeats 1600000 in
theorem rin_any (ks : List Int) (x : Int) (a : Option Addr) (c : Nat) (w : World) (hl : LayZ w a ks) (hn : ks.length ≤ 140737488351232) :
    Calls Tryz.prog 48 #[.slice a ks.length c, .int .i64 x] w fun e w' => e = .returned (.int .i64 (ixI ks x)) ∧ w' = w := by
  have HL : Hid (LayZ w a ks) := hl
  clear hl
  go_enter Tryz.func48, Tryz.ntmps48
  go_wp2_with fail
  go_loopw [5] (fun v5 wr => ∃ i : Nat, i ≤ ks.length ∧ v5 = .int .i64 (i : Int) ∧ Hid (∀ m z, m < i → ks[m]? = some z → ¬ x = z) ∧ wr = w) (fun v5 _ => ks.length - (intOf v5).toNat)
  case atStart => exact ⟨0, Nat.zero_le _, rfl, (show ∀ m z, m < 0 → ks[m]? = some z → ¬ x = z from fun m z h => by omega), rfl⟩
  case round =>
    obtain ⟨i, hi, rfl, HN, rfl⟩ := hrel
    by_cases hlt : i < ks.length
    · obtain ⟨b, o, ha, r1, _⟩ := HL.out i ks[i] (List.getElem?_eq_getElem hlt)
      subst ha
      have HG : Hid (ks[i]? = some ks[i]) := List.getElem?_eq_getElem hlt
      by_cases he : x = ks[i]
      · have HR : Hid (ixI ks x = (i : Int)) := by show _ = _; unfold ixI; rw [ixZ_take HN.out HG.out he]
        have he1 : (ks[i] == x) = true := by simpa using he.symm
        clear he HG HN
        generalize ks[i] = y at *
        go_wp2_with fail
        go_ret
        exact ⟨by rw [HR.out]; rfl, rfl⟩
      · have HN' : Hid (∀ m z, m < i + 1 → ks[m]? = some z → ¬ x = z) := by
          intro m z hm hz
          by_cases e : m = i
          · subst e
            rw [HG.out] at hz
            cases hz
            exact he
          · exact HN.out m z (by omega) hz
        have he1 : (ks[i] == x) = false := by simpa using fun h : ks[i] = x => he h.symm
        clear he HG HN
        generalize ks[i] = y at *
        go_wp2_with fail
        go_roundw
        case rel => exact ⟨i + 1, by omega, by go_num, HN'.out, trivial⟩
        case measure => simp [intOf]; omega
    · have HR : Hid (ixI ks x = -1) := by
        show _ = _
        have : ixZ ks x = none := ixZ_none.2 fun hx => by
          obtain ⟨j, hj, e⟩ := List.getElem_of_mem hx
          exact HN.out j _ (by omega) (List.getElem?_eq_getElem hj) e.symm
        unfold ixI
        rw [this]
      clear HN
      go_wp2_with fail
      go_ret
      exact ⟨by rw [HR.out]; rfl, rfl⟩

/-- The page's within, as mathematics. -/
def wiP (ns : List Nd) (y : Int) : Nat → Int → Bool
  | 0, _ => false
  | k + 1, x => if x = 0 then false else if x = y then true else match pl ns x with
    | none => false
    | some q => match ns[q]? with
      | none => false
      | some n => wiP ns y k n.par

theorem plI_none {ns : List Nd} {x : Int} (h : pl ns x = none) : plI ns x = -1 := by unfold plI; rw [h]

theorem plI_some {ns : List Nd} {x : Int} {q : Nat} (h : pl ns x = some q) : plI ns x = (q : Int) := by unfold plI; rw [h]

set_option maxRecDepth 100000 in
set_option maxHeartbeats 1600000 in
theorem rwithin_any (s : Ds) (x y : Int) (a : Option Addr) (c : Nat) (w : World) (hs : DsIs w s a c) :
    Calls Tryz.prog 50 #[.agg #[.slice a s.nodes.length c, .int .i64 s.root, .int .i64 s.next], .int .i64 x, .int .i64 y] w fun e w' => e = .returned (.bool (wiP s.nodes y (s.nodes.length + 1) x)) ∧ Below w.heap.size w w' := by
  have HL : Hid (LayN w a s.nodes) := hs.lay
  have hlen := hs.len
  have HPL : Hid (∀ W z, Below w.heap.size w W → Calls Tryz.prog 22 #[.agg #[.slice a s.nodes.length c, .int .i64 s.root, .int .i64 s.next], .int .i64 z] W fun e w' => e = .returned (.int .i64 (plI s.nodes z)) ∧ Below W.heap.size W w') := fun W z hb => rplace_any s z a c W (hs.below hb)
  obtain ⟨ns, root, next⟩ := s
  simp only at *
  clear hs
  have X1 : Hid ((w.alloc (.cells #[.slice a ns.length c, .int .i64 root, .int .i64 next] 24)).heap[w.heap.size]? = some (.cells #[.slice a ns.length c, .int .i64 root, .int .i64 next] 24 (0, 0))) := heap_alloc_new _ _
  have B1 : Hid (Below w.heap.size w (w.alloc (.cells #[.slice a ns.length c, .int .i64 root, .int .i64 next] 24))) := below_one _ _
  go_enter Tryz.func50, Tryz.ntmps50
  go_wp2_with fail
  generalize w.alloc (.cells #[.slice a ns.length c, .int .i64 root, .int .i64 next] 24) = W1 at *
  go_loopw [1, 7, 8] (fun v1 v7 _ wr => ∃ (i : Nat) (z : Int), i ≤ ns.length + 1 ∧ v1 = .int .i64 z ∧ v7 = .int .i64 (i : Int) ∧ Hid (wiP ns y (ns.length + 1 - i) z = wiP ns y (ns.length + 1) x) ∧ Hid (Below W1.heap.size W1 wr)) (fun _ v7 _ _ => ns.length + 1 - (intOf v7).toNat)
  case atStart => exact ⟨0, x, Nat.zero_le _, rfl, rfl, rfl, Below.refl _ _⟩
  case round =>
    obtain ⟨i, z, hi, rfl, rfl, HZ, HB⟩ := hrel
    have BW : Hid (Below w.heap.size w wr) := nxt B1.out HB.out
    obtain ⟨q0, q1, q2⟩ := three ((HB.out.block _ (lt_of_block X1.out)).trans X1.out)
    by_cases hlt : i ≤ ns.length
    · obtain ⟨k, hk⟩ : ∃ k, ns.length + 1 - i = k + 1 := ⟨ns.length - i, by omega⟩
      have HK : Hid (ns.length + 1 - (i + 1) = k) := by show _ = _; omega
      rw [hk] at HZ
      clear hk
      by_cases h0 : z = 0
      · have HR : Hid (wiP ns y (ns.length + 1) x = false) := by show _ = _; rw [← HZ.out]; unfold wiP; rw [if_pos h0]
        have g0 : (z != 0) = false := by simpa using h0
        clear h0 HZ
        go_wp2_with fail
        go_ret
        exact ⟨by rw [HR.out]; rfl, BW.out⟩
      · have g0 : (z != 0) = true := by simpa using h0
        by_cases hy : z = y
        · have HR : Hid (wiP ns y (ns.length + 1) x = true) := by show _ = _; rw [← HZ.out]; unfold wiP; rw [if_neg h0, if_pos hy]
          have g1 : (z == y) = true := by simpa using hy
          clear h0 hy HZ
          go_wp2_with fail
          go_ret
          exact ⟨by rw [HR.out]; rfl, BW.out⟩
        · have g1 : (z == y) = false := by simpa using hy
          have HC : Hid (∀ W, Below w.heap.size w W → Calls Tryz.prog 22 #[.agg #[.slice a ns.length c, .int .i64 root, .int .i64 next], .int .i64 z] W _) := fun W hb => HPL.out W z hb
          cases hp : pl ns z with
          | none =>
            rw [plI_none hp] at HC
            have HR : Hid (wiP ns y (ns.length + 1) x = false) := by show _ = _; rw [← HZ.out]; unfold wiP; rw [if_neg h0, if_neg hy, hp]
            clear h0 hy HZ hp
            go_wp2_with fail
            refine (HC.out _ BW.out).mono ?_
            rintro e w2 ⟨rfl, hb2⟩
            have B2 : Hid (Below w.heap.size w w2) := nxt BW.out hb2
            clear hb2 q0 q1 q2
            go_wp2_with fail
            go_ret
            exact ⟨by rw [HR.out]; rfl, B2.out⟩
          | some q =>
            rw [plI_some hp] at HC
            obtain ⟨m, hm, -⟩ := pl_some hp
            have hql : q < ns.length := (List.getElem?_eq_some_iff.1 hm).1
            have HZ' : Hid (wiP ns y k m.par = wiP ns y (ns.length + 1) x) := by show _ = _; rw [← HZ.out, wiP, if_neg h0, if_neg hy, hp]; simp only; rw [hm]
            have HM : Hid (ns[q]? = some m) := hm
            clear h0 hy HZ hp hm
            go_wp2_with fail
            refine (HC.out _ BW.out).mono ?_
            rintro e w2 ⟨rfl, hb2⟩
            have B2 : Hid (Below w.heap.size w w2) := nxt BW.out hb2
            have BL : Hid (Below W1.heap.size W1 w2) := nxt HB.out hb2
            obtain ⟨b, o, aa, ac, ka, kc, ha, hN⟩ := HL.out.below B2.out q m HM.out
            subst ha
            have r1 := hN.c1
            clear hb2 q0 q1 q2 hN HC
            obtain ⟨q0, -, -⟩ := three ((BL.out.block _ (lt_of_block X1.out)).trans X1.out)
            go_wp2_with fail
            go_roundw
            case rel => exact ⟨i + 1, m.par, by omega, rfl, by go_num, by rw [HK.out]; exact HZ'.out, BL.out⟩
            case measure => simp [intOf]; omega
    · have HR : Hid (wiP ns y (ns.length + 1) x = false) := by
        show _ = _
        rw [← HZ.out, show ns.length + 1 - i = 0 from by omega]
        rfl
      clear HZ
      go_wp2_with fail
      go_ret
      exact ⟨by rw [HR.out]; rfl, BW.out⟩

/-- The page's loops, as mathematics. -/
def loopB (ns : List Nd) (n : Nd) : Bool := (n.par != 0) && wiP ns n.id (ns.length + 1) n.par

set_option maxRecDepth 100000 in
set_option maxHeartbeats 1600000 in
theorem rloops_any (s : Ds) (n : Nd) (aa : Option Addr) (al ac : Nat) (ka : Option Addr) (kl kc : Nat) (a : Option Addr) (c : Nat) (w : World) (hs : DsIs w s a c) :
    Calls Tryz.prog 49 #[.agg #[.slice a s.nodes.length c, .int .i64 s.root, .int .i64 s.next], mkN n.id n.par n.tag n.key n.txt aa al ac ka kl kc] w fun e w' => e = .returned (.bool (loopB s.nodes n)) ∧ Below w.heap.size w w' := by
  have HW : Hid (∀ W, Below w.heap.size w W → Calls Tryz.prog 50 #[.agg #[.slice a s.nodes.length c, .int .i64 s.root, .int .i64 s.next], .int .i64 n.par, .int .i64 n.id] W fun e w' => e = .returned (.bool (wiP s.nodes n.id (s.nodes.length + 1) n.par)) ∧ Below W.heap.size W w') := fun W hb => rwithin_any s n.par n.id a c W (hs.below hb)
  clear hs
  by_cases h0 : n.par = 0
  · have HR : Hid (loopB s.nodes n = false) := by show _ = _; unfold loopB; simp [h0]
    have g0 : (n.par != 0) = false := by simpa using h0
    go_enter Tryz.func49, Tryz.ntmps49
    go_wp2_with fail
    go_ret
    exact ⟨by rw [HR.out]; rfl, two_new _ _ _⟩
  · have HR : Hid (loopB s.nodes n = wiP s.nodes n.id (s.nodes.length + 1) n.par) := by show _ = _; unfold loopB; simp [h0]
    have g0 : (n.par != 0) = true := by simpa using h0
    clear h0
    go_enter Tryz.func49, Tryz.ntmps49
    go_wp2_with fail
    refine (HW.out _ (two_new _ _ _)).mono ?_
    rintro e w2 ⟨rfl, hb2⟩
    have B2 : Hid (Below w.heap.size w w2) := nxt (two_new _ _ _) hb2
    clear hb2
    go_wp2_with fail
    go_ret
    exact ⟨by rw [HR.out]; rfl, B2.out⟩

/-- The page's kids, as mathematics. -/
def fewB (n : Nd) : Bool := !(decide (32 < n.kids.length) || (decide (n.tag.size = 0) && decide (0 < n.kids.length)))

set_option maxRecDepth 100000 in
set_option maxHeartbeats 3200000 in
theorem rkids_any (s : Ds) (n : Nd) (aa : Option Addr) (ac : Nat) (ka : Option Addr) (kc : Nat) (a : Option Addr) (c : Nat) (w : World) (hs : DsIs w s a c) (hf : FitN n aa ac ka kc) (hK : LayZ w ka n.kids) :
    Calls Tryz.prog 47 #[.agg #[.slice a s.nodes.length c, .int .i64 s.root, .int .i64 s.next], mkN n.id n.par n.tag n.key n.txt aa n.ats.length ac ka n.kids.length kc] w fun e w' => e = .returned (.bool (fewB n && kidsB s.nodes n)) ∧ Below w.heap.size w w' := by
  have HL : Hid (LayN w a s.nodes) := hs.lay
  have HK : Hid (LayZ w ka n.kids) := hK
  have hlen := hs.len
  have HPL : Hid (∀ W z, Below w.heap.size w W → Calls Tryz.prog 22 #[.agg #[.slice a s.nodes.length c, .int .i64 s.root, .int .i64 s.next], .int .i64 z] W fun e w' => e = .returned (.int .i64 (plI s.nodes z)) ∧ Below W.heap.size W w') := fun W z hb => rplace_any s z a c W (hs.below hb)
  have hkl := hf.kids
  have hkl1 : n.kids.length ≤ kc := hkl.1
  have hkl2 : kc ≤ 9223372036854775807 := hkl.2.1
  have hkl3 : n.kids.length ≤ 140737488351232 := by have := hkl.2.2.1; omega
  have HKA : Hid (∀ ad, ka = some ad → 0 < kc → ad = ⟨ad.block, ad.off, none⟩) := hkl.2.2.2.2
  obtain ⟨ns, root, next⟩ := s
  simp only at *
  clear hs hK hf hkl
  have Y1 : Hid (((w.alloc (.cells #[.slice a ns.length c, .int .i64 root, .int .i64 next] 24)).alloc (.cells #[.int .i64 n.id, .int .i64 n.par, .string n.tag, .string n.key, .string n.txt, .slice aa n.ats.length ac, .slice ka n.kids.length kc] 56)).heap[w.heap.size]? = some (.cells #[.slice a ns.length c, .int .i64 root, .int .i64 next] 24 (0, 0))) := ((below_one _ _).block _ (by simp)).trans (heap_alloc_new _ _)
  have X1 : Hid (((w.alloc (.cells #[.slice a ns.length c, .int .i64 root, .int .i64 next] 24)).alloc (.cells #[.int .i64 n.id, .int .i64 n.par, .string n.tag, .string n.key, .string n.txt, .slice aa n.ats.length ac, .slice ka n.kids.length kc] 56)).heap[w.heap.size + 1]? = some (.cells #[.int .i64 n.id, .int .i64 n.par, .string n.tag, .string n.key, .string n.txt, .slice aa n.ats.length ac, .slice ka n.kids.length kc] 56 (0, 0))) := heap_new2 _ _ _
  have K1 : Hid (Below w.heap.size w ((w.alloc (.cells #[.slice a ns.length c, .int .i64 root, .int .i64 next] 24)).alloc (.cells #[.int .i64 n.id, .int .i64 n.par, .string n.tag, .string n.key, .string n.txt, .slice aa n.ats.length ac, .slice ka n.kids.length kc] 56))) := two_new _ _ _
  by_cases h32 : 32 < n.kids.length
  · have HR : Hid (fewB n = false) := by show _ = _; unfold fewB; simp [h32]
    have g0 : decide (32 < n.kids.length) = true := by simpa using h32
    go_enter Tryz.func47, Tryz.ntmps47
    go_wp2_with fail
    go_ret
    exact ⟨by rw [HR.out]; rfl, K1.out⟩
  by_cases hg : n.tag.size = 0 ∧ 0 < n.kids.length
  · have HR : Hid (fewB n = false) := by show _ = _; unfold fewB; simp [hg.1, hg.2]
    have g0 : decide (32 < n.kids.length) = false := by simpa using h32
    have g1 : n.tag.toList.isEmpty = true := empty_true hg.1
    have g2 : decide (0 < n.kids.length) = true := by simpa using hg.2
    obtain ⟨-, hg2⟩ := hg
    go_enter Tryz.func47, Tryz.ntmps47
    go_wp2_with fail
    go_ret
    exact ⟨by rw [HR.out]; rfl, K1.out⟩
  have HFW : Hid (fewB n = true) := by
    show _ = _
    unfold fewB
    have : ¬ (n.tag.size = 0) ∨ ¬ 0 < n.kids.length := by rcases Classical.em (n.tag.size = 0) with h | h; exact Or.inr fun h' => hg ⟨h, h'⟩; exact Or.inl h
    rcases this with h | h <;> simp [h, h32]
  have g0 : decide (32 < n.kids.length) = false := by simpa using h32
  obtain ⟨te, hte, HG⟩ : ∃ te, n.tag.toList.isEmpty = te ∧ (te = true → n.kids.length = 0) := ⟨_, rfl, fun h => by
    have h1 : n.tag.size = 0 := by
      rcases Classical.em (n.tag.size = 0) with h' | h'
      · exact h'
      · rw [empty_false h'] at h; cases h
    rcases Nat.eq_zero_or_pos n.kids.length with h2 | h2
    · exact h2
    · exact absurd ⟨h1, h2⟩ hg⟩
  clear hg
  have key : ∀ (tb : Bool), n.tag.toList.isEmpty = tb → (tb = true → n.kids.length = 0) → Calls Tryz.prog 47 #[.agg #[.slice a ns.length c, .int .i64 root, .int .i64 next], mkN n.id n.par n.tag n.key n.txt aa n.ats.length ac ka n.kids.length kc] w fun e w' => e = .returned (.bool (fewB n && kidsB ns n)) ∧ Below w.heap.size w w' := by
    clear hte HG te
    have loop : True := trivial
    intro tb g1 g2
    rw [HFW.out, Bool.true_and]
    cases tb with
    | true =>
      have HG2 : Hid (n.kids.length = 0) := g2 rfl
      have HR : Hid (kidsB ns n = true) := kidsB_true fun j hj => by have := HG2.out; omega
      have g3 : decide (0 < n.kids.length) = false := decide_eq_false (by have := HG2.out; omega)
      have g4 : decide ((0 : Int) < (n.kids.length : Int)) = false := decide_eq_false (by have := HG2.out; omega)
      clear g2
      go_enter Tryz.func47, Tryz.ntmps47
      go_wp2_with fail
      generalize (w.alloc (.cells #[.slice a ns.length c, .int .i64 root, .int .i64 next] 24)).alloc (.cells #[.int .i64 n.id, .int .i64 n.par, .string n.tag, .string n.key, .string n.txt, .slice aa n.ats.length ac, .slice ka n.kids.length kc] 56) = W1 at *
      go_loopw [5, 6] (fun v5 _ wr => ∃ i : Nat, i ≤ n.kids.length ∧ v5 = .int .i64 (i : Int) ∧ Hid (Below W1.heap.size W1 wr)) (fun v5 _ _ => n.kids.length - (intOf v5).toNat)
      case atStart => exact ⟨0, Nat.zero_le _, rfl, Below.refl _ _⟩
      case round =>
        obtain ⟨i, hi, rfl, HB⟩ := hrel
        have hlt : ¬ i < n.kids.length := by have := HG2.out; omega
        have X2 := (HB.out.block _ (lt_of_block X1.out)).trans X1.out
        obtain ⟨y6, -⟩ := cell_of X2 6
        simp at y6
        clear X2 g3 g4
        go_wp2_with fail
        go_ret
        exact ⟨by rw [HR.out]; rfl, nxt K1.out HB.out⟩
    | false =>
      clear g2
      go_enter Tryz.func47, Tryz.ntmps47
      go_wp2_with fail
      generalize (w.alloc (.cells #[.slice a ns.length c, .int .i64 root, .int .i64 next] 24)).alloc (.cells #[.int .i64 n.id, .int .i64 n.par, .string n.tag, .string n.key, .string n.txt, .slice aa n.ats.length ac, .slice ka n.kids.length kc] 56) = W1 at *
      clear g0 g1 h32 HFW
      go_loopw [5, 6] (fun v5 _ wr => ∃ i : Nat, i ≤ n.kids.length ∧ v5 = .int .i64 (i : Int) ∧ Hid (∀ j, j < i → kidB ns n j = true) ∧ Hid (Below W1.heap.size W1 wr)) (fun v5 _ _ => n.kids.length - (intOf v5).toNat)
      case atStart => exact ⟨0, Nat.zero_le _, rfl, (show ∀ j, j < 0 → kidB ns n j = true from fun j h => by omega), Below.refl _ _⟩
      case round =>
        obtain ⟨i, hi, rfl, HT, HB⟩ := hrel
        have X2 := (HB.out.block _ (lt_of_block X1.out)).trans X1.out
        obtain ⟨y0, -⟩ := cell_of X2 0
        obtain ⟨y6, -⟩ := cell_of X2 6
        simp at y0 y6
        clear X2
        have BW : Hid (Below w.heap.size w wr) := nxt K1.out HB.out
        by_cases hlt : i < n.kids.length
        · obtain ⟨q0, q1, q2⟩ := three ((HB.out.block _ (lt_of_block Y1.out)).trans Y1.out)
          obtain ⟨kb, ko, hka, r1, _⟩ := HK.out.below BW.out i n.kids[i] (List.getElem?_eq_getElem hlt)
          have HKB : Hid (kidB ns n i = _) := kidB_at (ns := ns) hlt
          have e0 : ∀ z : Cls wr, z.1.cell? ⟨w.heap.size, 0, none⟩ = some (.slice a ns.length c) := fun z => Cls.cell q0 z
          have e1 : ∀ z : Cls wr, z.1.cell? ⟨w.heap.size, 1, none⟩ = some (.int .i64 root) := fun z => Cls.cell q1 z
          have e2 : ∀ z : Cls wr, z.1.cell? ⟨w.heap.size, 2, none⟩ = some (.int .i64 next) := fun z => Cls.cell q2 z
          have e3 : ∀ z : Cls wr, z.1.cell? ⟨w.heap.size + 1, 6, none⟩ = some (.slice ka n.kids.length kc) := fun z => Cls.cell y6 z
          have e4 : ∀ z : Cls wr, z.1.cell? ⟨kb, ko + i, none⟩ = some (.int .i64 n.kids[i]) := fun z => Cls.cell r1 z
          have CP : Hid (∀ z : Cls wr, Calls Tryz.prog 22 #[.agg #[.slice a ns.length c, .int .i64 root, .int .i64 next], .int .i64 n.kids[i]] z.1 fun e w' => e = .returned (.int .i64 (plI ns n.kids[i])) ∧ Below z.1.heap.size z.1 w') := fun z => HPL.out z.1 _ (nxt BW.out z.2)
          have inst : Nonempty (Cls wr) := ⟨⟨_, Below.refl _ _⟩⟩
          have HI : Hid ((n.kids.take i).length = i) := by show _ = _; simp; omega
          have CI : Hid (∀ W, Below w.heap.size w W → Calls Tryz.prog 48 #[.slice ka i kc, .int .i64 n.kids[i]] W fun e w' => e = .returned (.int .i64 (ixI (n.kids.take i) n.kids[i])) ∧ w' = W) := fun W hb => by
            have hly : LayZ W ka (n.kids.take i) := by
              intro j z hj
              rw [List.getElem?_take] at hj
              split at hj
              · exact HK.out.below hb j z hj
              · cases hj
            have := rin_any (n.kids.take i) n.kids[i] ka kc W hly (by have := HI.out; omega)
            rwa [HI.out] at this
          subst hka
          go_wp2_with fail
          refine wp_region_cls (by kernel_rfl) (by kernel_rfl) ?_
          repeat (go_big_quiet_step ((go_at_call 22; exact Calls.cls (CP.out _))))
          refine wpQuiet_nil ?_
          intro _ hw'
          obtain ⟨z, hw''⟩ := hw'
          subst hw''
          clear q0 q1 q2 r1 y6 CP e1 e2
          have BZ : Hid (Below w.heap.size w z.1) := nxt BW.out z.2
          have BL : Hid (Below W1.heap.size W1 z.1) := nxt HB.out z.2
          have t0 := e0 z
          have t3 := e3 z
          have t4 := e4 z
          have t5 : z.1.cell? ⟨w.heap.size + 1, 0, none⟩ = some (.int .i64 n.id) := Cls.cell y0 z
          clear e0 e3 e4 y0 inst
          generalize z.1 = wz at *
          cases hp : pl ns n.kids[i] with
          | none =>
            rw [hp] at HKB
            rw [plI_none hp]
            simp only at HKB
            have HR : Hid (kidsB ns n = false) := kidsB_false hlt HKB.out
            clear hp HKB
            go_wp2_with fail
            go_big_quiet (fail)
            go_wp2_with fail
            go_ret
            exact ⟨by rw [HR.out]; rfl, nxt BZ.out (Below_drewN _ _ _)⟩
          | some q =>
            rw [hp] at HKB
            rw [plI_some hp]
            simp only at HKB
            obtain ⟨m, hm1, hm2⟩ := pl_some hp
            rw [hm1] at HKB
            simp only at HKB
            have hql : q < ns.length := (List.getElem?_eq_some_iff.1 hm1).1
            obtain ⟨b, o, maa, mac, mka, mkc, ha', hN⟩ := HL.out.below BZ.out q m hm1
            subst ha'
            have s1 := hN.c1
            have gq : decide ((q : Int) < 0) = false := decide_eq_false (by omega)
            clear hN hm1 hm2 hp
            by_cases hpar : m.par = n.id
            · cases hct : (n.kids.take i).contains n.kids[i] with
              | true =>
                have hcon := HKB.out
                rw [hct] at hcon
                have HR : Hid (kidsB ns n = false) := kidsB_false hlt (by rw [hcon]; simp)
                obtain ⟨j, hj⟩ : ∃ j : Nat, ixI (n.kids.take i) n.kids[i] = (j : Int) := by
                  have := ixZ_contains (n.kids.take i) n.kids[i]
                  rw [hct] at this
                  unfold ixI
                  cases h : ixZ (n.kids.take i) n.kids[i] with
                  | none => rw [h] at this; cases this
                  | some j => exact ⟨j, rfl⟩
                rw [hj] at CI
                have gj : decide ((0 : Int) ≤ (j : Int)) = true := decide_eq_true (by omega)
                clear HKB hct hcon hj
                generalize n.kids[i] = kk at *
                have g1 : (m.par != n.id) = false := by simpa using hpar
                have g2 : (i : Int) ≤ (kc : Int) := by omega
                clear hpar
                generalize m.par = mp at *
                go_wp2_with fail
                go_big_quiet ((go_at_call 48; exact Calls.quiet_of_same (CI.out _ (nxt BZ.out (Below_drewN _ _ _)))))
                go_wp2_with fail
                go_ret
                exact ⟨by rw [HR.out]; rfl, nxt BZ.out (Below_drewN _ _ _)⟩
              | false =>
                have hcon := HKB.out
                rw [hct] at hcon
                have HKT : Hid (kidB ns n i = true) := by show _ = _; rw [hcon]; simp [hpar]
                have hj : ixI (n.kids.take i) n.kids[i] = -1 := by
                  have := ixZ_contains (n.kids.take i) n.kids[i]
                  rw [hct] at this
                  unfold ixI
                  cases h : ixZ (n.kids.take i) n.kids[i] with
                  | none => rfl
                  | some j => rw [h] at this; cases this
                rw [hj] at CI
                clear HKB hct hcon hj
                generalize n.kids[i] = kk at *
                have g1 : (m.par != n.id) = false := by simpa using hpar
                have g2 : (i : Int) ≤ (kc : Int) := by omega
                clear hpar
                generalize m.par = mp at *
                go_wp2_with fail
                go_big_quiet ((go_at_call 48; exact Calls.quiet_of_same (CI.out _ (nxt BZ.out (Below_drewN _ _ _)))))
                go_wp2_with fail
                go_roundw
                case rel =>
                  refine ⟨i + 1, by omega, by go_num, ?_, nxt BL.out (Below_drewN _ _ _)⟩
                  intro j hj
                  by_cases e : j = i
                  · subst e
                    exact HKT.out
                  · exact HT.out j (by omega)
                case measure => simp [intOf]; omega
            · have HR : Hid (kidsB ns n = false) := kidsB_false hlt (by rw [HKB.out]; simp [hpar])
              have g1 : (m.par != n.id) = true := by simpa using hpar
              clear HKB hpar CI
              generalize m.par = mp at *
              go_wp2_with fail
              go_big_quiet (fail)
              go_wp2_with fail
              go_ret
              exact ⟨by rw [HR.out]; rfl, nxt BZ.out (Below_drewN _ _ _)⟩
        · have HR : Hid (kidsB ns n = true) := kidsB_true fun j hj => HT.out j (by omega)
          clear HT
          go_wp2_with fail
          go_ret
          exact ⟨by rw [HR.out]; rfl, BW.out⟩
  exact key te hte HG
end Go.Proofs.YtcdnakcojanaeabGreat

/-
  The page's create, root. (Printed by wip/make/mkdtcre.py.)
-/
namespace Go.Proofs.YtcdnakcojanaeabGreat
open Go.ChangeShapes Go.WideShapes Go.ChangeAt Go.RowKit Go.Deep
open Do

namespace Do
/-- The page answers nothing beside an error. -/
def errD (r : Int × Ds) : Int × Ds := if r.1 = 0 then r else (r.1, noD)

theorem errD_zero {s : Ds} : errD (0, s) = (0, s) := if_pos rfl
theorem errD_err {e : Int} {s : Ds} (h : e ≠ 0) : errD (e, s) = (e, noD) := if_neg h
end Do

/-- What the page's calls that take a display of one's own leave. -/
def PgPost (w w' : World) (B : Nat) (e : Ending) (r : Int × Ds) : Prop := ∃ v' ab' kb', e = .returned (.tuple #[.agg #[v', .int .i64 r.2.root, .int .i64 r.2.next], .int .i64 r.1]) ∧ Pg.OwnN w' B v' r.2.nodes ab' kb' ∧ Below B w w'

theorem noD_pg (w : World) (B : Nat) : Pg.OwnN w B (.slice none 0 0) noD.nodes (fun _ => .slice none 0 0) (fun _ => .slice none 0 0) := Pg.OwnN.nil _ _

/-- Three blocks made. -/
theorem three_new (W : World) (o1 o2 o3 : Obj) : (((W.alloc o1).alloc o2).alloc o3).heap[W.heap.size]? = some o1 ∧ (((W.alloc o1).alloc o2).alloc o3).heap[W.heap.size + 1]? = some o2 ∧ (((W.alloc o1).alloc o2).alloc o3).heap[W.heap.size + 2]? = some o3 := by
  have k1 : ∀ (V : World) (o : Obj) (j : Nat), j < V.heap.size → (V.alloc o).heap[j]? = V.heap[j]? := fun V o j hj => (below_one V o).block j hj
  have h2 := heap_new2 W o1 o2
  have h3 := heap_new2 (W.alloc o1) o2 o3
  have s1 : (W.alloc o1).heap.size = W.heap.size + 1 := by simp
  have s2 : ((W.alloc o1).alloc o2).heap.size = W.heap.size + 2 := by simp
  rw [s1] at h3
  exact ⟨(k1 _ _ _ (by omega)).trans ((k1 _ _ _ (by omega)).trans (heap_alloc_new _ _)), (k1 _ _ _ (by omega)).trans h2, h3⟩

set_option maxRecDepth 100000 in
set_option maxHeartbeats 3200000 in
theorem rcreate_any (s : Ds) (p : Pt) (B : Nat) (w : World) (v : Value) (ab kb : Nat → Value) (hO : Pg.OwnN w B v s.nodes ab kb) (hB : B ≤ w.heap.size) (hp : PtOk p) (hn : s.nodes.length ≤ 1024) (hx : 1 ≤ s.next ∧ s.next ≤ 2147483647) :
    Calls Tryz.prog 19 #[.agg #[v, .int .i64 s.root, .int .i64 s.next], mkP p] w fun e w' => PgPost w w' B e (errD (createD s p)) := by
  obtain ⟨vr, vc, hvs⟩ := hO.shape
  subst hvs
  have HO : Hid (Pg.OwnN w B (.slice vr s.nodes.length vc) s.nodes ab kb) := hO
  have HB : Hid (B ≤ w.heap.size) := hB
  have HP : Hid (PtOk p) := hp
  obtain ⟨ns, root, next⟩ := s
  obtain ⟨pw, pi, pp, pat, pg, pk, pt, pn, pv⟩ := p
  simp only at *
  clear hO hB hp
  obtain ⟨K3, hK3⟩ : ∃ W : World, W = ((w.alloc (.cells #[.slice vr ns.length vc, .int .i64 root, .int .i64 next] 24)).alloc (.cells #[.int .i64 pw, .int .i64 pi, .int .i64 pp, .int .i64 pat, .string pg, .string pk, .string pt, .string pn, .string pv] 26)).alloc (.cells #[.slice none 0 0, .int .i64 0, .int .i64 0] 24) := ⟨_, rfl⟩
  have B3 : Hid (Below w.heap.size w K3) := by show Below _ _ _; rw [hK3]; exact nxt (two_new _ _ _) (below_one _ _)
  have X3 : Hid (K3.heap[w.heap.size]? = some (.cells #[.slice vr ns.length vc, .int .i64 root, .int .i64 next] 24 (0, 0)) ∧ K3.heap[w.heap.size + 1]? = some (.cells #[.int .i64 pw, .int .i64 pi, .int .i64 pp, .int .i64 pat, .string pg, .string pk, .string pt, .string pn, .string pv] 26 (0, 0)) ∧ K3.heap[w.heap.size + 2]? = some (.cells #[.slice none 0 0, .int .i64 0, .int .i64 0] 24 (0, 0))) := by show _ ∧ _ ∧ _; rw [hK3]; exact three_new _ _ _ _
  go_enter Tryz.func19, Tryz.ntmps19
  obtain ⟨x0, x1, x2⟩ := three X3.out.1
  obtain ⟨n0, n1, n2, n3, n4, n5, n6, n7, n8⟩ := nine X3.out.2.1
  obtain ⟨⟨z0, z1, z2⟩, zf0, zf1, zf2⟩ : (K3.cell? ⟨w.heap.size + 2, 0, none⟩ = some (.slice none 0 0) ∧ K3.cell? ⟨w.heap.size + 2, 1, none⟩ = some (.int .i64 0) ∧ K3.cell? ⟨w.heap.size + 2, 2, none⟩ = some (.int .i64 0)) ∧ K3.frozen? ⟨w.heap.size + 2, 0, none⟩ = false ∧ K3.frozen? ⟨w.heap.size + 2, 1, none⟩ = false ∧ K3.frozen? ⟨w.heap.size + 2, 2, none⟩ = false := ⟨three X3.out.2.2, (cell_of X3.out.2.2 0).2, (cell_of X3.out.2.2 1).2, (cell_of X3.out.2.2 2).2⟩
  by_cases hid : pi = next
  · have g1 : (pi != next) = false := by simpa using hid
    have HID : Hid (pi = next) := hid
    have HPL : Hid (∀ W, Calls Tryz.prog 46 #[.string pg, .string pk, .string pt, .slice none 0 0] W fun e w' => e = .returned (.bool (plainB pg pk pt [])) ∧ Below W.heap.size W w') := fun W => rplain_any pg pk pt [] none 0 0 W (fun i s hi => by simp at hi) ⟨HP.out.tag, HP.out.key, HP.out.txt, by decide, by decide⟩
    have HAL : Hid (aloneB (newNd ⟨pw, pi, pp, pat, pg, pk, pt, pn, pv⟩) = plainB pg pk pt []) := by
      show _ = _
      cases hq : plainB pg pk pt [] with
      | true => exact alone_iff.2 ⟨hq, fun _ => rfl, Nat.zero_le _⟩
      | false =>
        cases hz : aloneB (newNd ⟨pw, pi, pp, pat, pg, pk, pt, pn, pv⟩) with
        | false => rfl
        | true => exact absurd ((alone_iff.1 hz).1.symm.trans hq) (by simp)
    clear hid
    go_wp2_with fail
    rw [← hK3]
    clear hK3
    refine (HPL.out K3).mono ?_
    rintro e w4 ⟨rfl, hb4⟩
    have B4 : Hid (Below w.heap.size w w4) := nxt B3.out hb4
    have X4 : Hid (w4.heap[w.heap.size]? = some (.cells #[.slice vr ns.length vc, .int .i64 root, .int .i64 next] 24 (0, 0)) ∧ w4.heap[w.heap.size + 1]? = some (.cells #[.int .i64 pw, .int .i64 pi, .int .i64 pp, .int .i64 pat, .string pg, .string pk, .string pt, .string pn, .string pv] 26 (0, 0)) ∧ w4.heap[w.heap.size + 2]? = some (.cells #[.slice none 0 0, .int .i64 0, .int .i64 0] 24 (0, 0))) := ⟨(hb4.block _ (lt_of_block X3.out.1)).trans X3.out.1, (hb4.block _ (lt_of_block X3.out.2.1)).trans X3.out.2.1, (hb4.block _ (lt_of_block X3.out.2.2)).trans X3.out.2.2⟩
    clear hb4 x0 x1 x2 n0 n1 n2 n3 n4 n5 n6 n7 n8 z0 z1 z2 zf0 zf1 zf2
    obtain ⟨x0, x1, x2⟩ := three X4.out.1
    obtain ⟨n0, n1, n2, n3, n4, n5, n6, n7, n8⟩ := nine X4.out.2.1
    obtain ⟨⟨z0, z1, z2⟩, zf0, zf1, zf2⟩ : (w4.cell? ⟨w.heap.size + 2, 0, none⟩ = some (.slice none 0 0) ∧ w4.cell? ⟨w.heap.size + 2, 1, none⟩ = some (.int .i64 0) ∧ w4.cell? ⟨w.heap.size + 2, 2, none⟩ = some (.int .i64 0)) ∧ w4.frozen? ⟨w.heap.size + 2, 0, none⟩ = false ∧ w4.frozen? ⟨w.heap.size + 2, 1, none⟩ = false ∧ w4.frozen? ⟨w.heap.size + 2, 2, none⟩ = false := ⟨three X4.out.2.2, (cell_of X4.out.2.2 0).2, (cell_of X4.out.2.2 1).2, (cell_of X4.out.2.2 2).2⟩
    cases hal : plainB pg pk pt [] with
    | false =>
      have HAF := HAL.out
      rw [hal] at HAF
      have HR : Hid (errD (createD ⟨ns, root, next⟩ ⟨pw, pi, pp, pat, pg, pk, pt, pn, pv⟩) = (9, noD)) := by
        show _ = _
        unfold createD
        simp only
        rw [if_neg (by simpa using HID.out), if_pos HAF]
        exact errD_err (by decide)
      clear hal HAF
      go_wp2_with fail
      have HZ' : w4.heap[w.heap.size + 1 + 1]? = some (.cells #[.slice none 0 0, .int .i64 0, .int .i64 0] 24 (0, 0)) := X4.out.2.2
      obtain ⟨f1, f2, f3⟩ := state_fin (v := .slice none 0 0) (r := .int .i64 0) (n := .int .i64 0) HZ'
      have f3 := f3 w.heap.size w (by omega) B4.out
      clear x0 x1 x2 n0 n1 n2 n3 n4 n5 n6 n7 n8 z0 z1 z2 zf0 zf1 zf2
      generalize ((w4.setCell ⟨w.heap.size + 1 + 1, 0, none⟩ (.slice none 0 0)).setCell ⟨w.heap.size + 1 + 1, 1, none⟩ (.int .i64 0)).setCell ⟨w.heap.size + 1 + 1, 2, none⟩ (.int .i64 0) = W9 at *
      obtain ⟨c0, c1, c2⟩ := three f1
      refine bodyPost_ret (v := .tuple #[.agg #[.slice none 0 0, .int .i64 0, .int .i64 0], .int .i64 9]) (by simp [results, Tryz.results19, go_sem, c0, c1, c2]) rfl ?_
      rw [HR.out]
      exact ⟨_, _, _, rfl, noD_pg _ _, f3.mono HB.out⟩
    | true =>
      have HAF : Hid (aloneB (newNd ⟨pw, pi, pp, pat, pg, pk, pt, pn, pv⟩) = true) := HAL.out.trans hal
      clear hal
      by_cases h1 : ns.length = 1024
      · have g2 : decide ((1024 : Int) ≤ (ns.length : Int)) = true := decide_eq_true (by omega)
        have g2' : decide (1024 ≤ ns.length) = true := decide_eq_true (by omega)
        have HR : Hid (errD (createD ⟨ns, root, next⟩ ⟨pw, pi, pp, pat, pg, pk, pt, pn, pv⟩) = (51, noD)) := by
          show _ = _
          unfold createD
          simp only
          rw [if_neg (by simpa using HID.out), HAF.out, if_neg (by simp), if_pos (Or.inl h1)]
          exact errD_err (by decide)
        go_wp2_with fail
        have HZ' : w4.heap[w.heap.size + 1 + 1]? = some (.cells #[.slice none 0 0, .int .i64 0, .int .i64 0] 24 (0, 0)) := X4.out.2.2
        obtain ⟨f1, f2, f3⟩ := state_fin (v := .slice none 0 0) (r := .int .i64 0) (n := .int .i64 0) HZ'
        have f3 := f3 w.heap.size w (by omega) B4.out
        clear x0 x1 x2 n0 n1 n2 n3 n4 n5 n6 n7 n8 z0 z1 z2 zf0 zf1 zf2
        generalize ((w4.setCell ⟨w.heap.size + 1 + 1, 0, none⟩ (.slice none 0 0)).setCell ⟨w.heap.size + 1 + 1, 1, none⟩ (.int .i64 0)).setCell ⟨w.heap.size + 1 + 1, 2, none⟩ (.int .i64 0) = W9 at *
        obtain ⟨c0, c1, c2⟩ := three f1
        refine bodyPost_ret (v := .tuple #[.agg #[.slice none 0 0, .int .i64 0, .int .i64 0], .int .i64 51]) (by simp [results, Tryz.results19, go_sem, c0, c1, c2]) rfl ?_
        rw [HR.out]
        exact ⟨_, _, _, rfl, noD_pg _ _, f3.mono HB.out⟩
      have g2 : decide ((1024 : Int) ≤ (ns.length : Int)) = false := decide_eq_false (by omega)
      have g2' : decide (1024 ≤ ns.length) = false := decide_eq_false (by omega)
      by_cases h2 : next = 2147483647
      · have g3 : decide ((2147483647 : Int) ≤ next) = true := decide_eq_true (by omega)
        have HR : Hid (errD (createD ⟨ns, root, next⟩ ⟨pw, pi, pp, pat, pg, pk, pt, pn, pv⟩) = (51, noD)) := by
          show _ = _
          unfold createD
          simp only
          rw [if_neg (by simpa using HID.out), HAF.out, if_neg (by simp), if_pos (Or.inr h2)]
          exact errD_err (by decide)
        clear h2
        go_wp2_with fail
        have HZ' : w4.heap[w.heap.size + 1 + 1]? = some (.cells #[.slice none 0 0, .int .i64 0, .int .i64 0] 24 (0, 0)) := X4.out.2.2
        obtain ⟨f1, f2, f3⟩ := state_fin (v := .slice none 0 0) (r := .int .i64 0) (n := .int .i64 0) HZ'
        have f3 := f3 w.heap.size w (by omega) B4.out
        clear x0 x1 x2 n0 n1 n2 n3 n4 n5 n6 n7 n8 z0 z1 z2 zf0 zf1 zf2
        generalize ((w4.setCell ⟨w.heap.size + 1 + 1, 0, none⟩ (.slice none 0 0)).setCell ⟨w.heap.size + 1 + 1, 1, none⟩ (.int .i64 0)).setCell ⟨w.heap.size + 1 + 1, 2, none⟩ (.int .i64 0) = W9 at *
        obtain ⟨c0, c1, c2⟩ := three f1
        refine bodyPost_ret (v := .tuple #[.agg #[.slice none 0 0, .int .i64 0, .int .i64 0], .int .i64 51]) (by simp [results, Tryz.results19, go_sem, c0, c1, c2]) rfl ?_
        rw [HR.out]
        exact ⟨_, _, _, rfl, noD_pg _ _, f3.mono HB.out⟩
      have g3 : decide ((2147483647 : Int) ≤ next) = false := decide_eq_false (by omega)
      have HR : Hid (errD (createD ⟨ns, root, next⟩ ⟨pw, pi, pp, pat, pg, pk, pt, pn, pv⟩) = (0, ⟨ns ++ [newNd ⟨pw, pi, pp, pat, pg, pk, pt, pn, pv⟩], root, next + 1⟩)) := by
        show _ = _
        unfold createD
        simp only
        rw [if_neg (by simpa using HID.out), HAF.out, if_neg (by simp), if_neg (by omega)]
        exact errD_zero
      have O4 : Hid (Pg.OwnN (w4.alloc (.cells #[.int .i64 pi, .int .i64 0, .string pg, .string pk, .string pt, .slice none 0 0, .slice none 0 0] 56)) B (.slice vr ns.length vc) ns ab kb) := (HO.out.below B4.out).below (below_one _ _)
      have NEW : Hid (∀ j u, (cellsN (newNd ⟨pw, pi, pp, pat, pg, pk, pt, pn, pv⟩) (.slice none 0 0) (.slice none 0 0))[j]? = some u → (w4.alloc (.cells #[.int .i64 pi, .int .i64 0, .string pg, .string pk, .string pt, .slice none 0 0, .slice none 0 0] 56)).cell? ((⟨w4.heap.size, 0, none⟩ : Addr).add j) = some u) := fun j u hj => newCells w4 _ _ j u (by rw [← Array.getElem?_toList]; exact hj)
      have HSZ : Hid ((ns.length + 1) * 112 ≤ 140737488355328 ∧ B ≤ (w4.alloc (.cells #[.int .i64 pi, .int .i64 0, .string pg, .string pk, .string pt, .slice none 0 0, .slice none 0 0] 56)).heap.size) := ⟨by omega, Nat.le_trans HB.out (Nat.le_trans B4.out.size (below_one _ _).size)⟩
      have X5 : Hid ((w4.alloc (.cells #[.int .i64 pi, .int .i64 0, .string pg, .string pk, .string pt, .slice none 0 0, .slice none 0 0] 56)).heap[w.heap.size]? = some (.cells #[.slice vr ns.length vc, .int .i64 root, .int .i64 next] 24 (0, 0)) ∧ (w4.alloc (.cells #[.int .i64 pi, .int .i64 0, .string pg, .string pk, .string pt, .slice none 0 0, .slice none 0 0] 56)).heap[w.heap.size + 2]? = some (.cells #[.slice none 0 0, .int .i64 0, .int .i64 0] 24 (0, 0))) := ⟨((below_one _ _).block _ (lt_of_block X4.out.1)).trans X4.out.1, ((below_one _ _).block _ (lt_of_block X4.out.2.2)).trans X4.out.2.2⟩
      have HFT : Hid (∀ b, footN (.slice vr ns.length vc) ns.length ab kb b → b < w.heap.size) := fun b hb => (HO.out.foot hb).2
      go_wp2_with (refine Pg.wpList_pushN _ rfl (.tmp 35) (.tmp 45) rfl B (.slice vr ns.length vc) ns.length (rowN ns ab kb) rfl O4.out.row (newNd ⟨pw, pi, pp, pat, pg, pk, pt, pn, pv⟩) none 0 0 none 0 0 ⟨w4.heap.size, 0, none⟩ 1 rfl NEW.out HSZ.out.1 HSZ.out.2 ?_; intro v6 w6 r1 r2 r3; obtain ⟨va6, vc6, rfl⟩ := slice_of_own r1; have R6 : Hid (w6.ownsRow B 56 7 (.slice va6 (ns.length + 1) vc6) (ns.length + 1) (rowN ns ab kb ++ cellsN (newNd ⟨pw, pi, pp, pat, pg, pk, pt, pn, pv⟩) (.slice none 0 0) (.slice none 0 0)) ∧ (w4.alloc (.cells #[.int .i64 pi, .int .i64 0, .string pg, .string pk, .string pt, .slice none 0 0, .slice none 0 0] 56)).grownBy w6 (Value.slice vr ns.length vc).ownBlock ∧ ((Value.slice va6 (ns.length + 1) vc6).ownBlock = (Value.slice vr ns.length vc).ownBlock ∨ ∀ g, (Value.slice va6 (ns.length + 1) vc6).ownBlock = some g → (w4.alloc (.cells #[.int .i64 pi, .int .i64 0, .string pg, .string pk, .string pt, .slice none 0 0, .slice none 0 0] 56)).heap.size ≤ g)) := ⟨r1, r2, r3⟩; have kp : ∀ {j : Nat} {o : Obj}, w.heap.size ≤ j → (w4.alloc (.cells #[.int .i64 pi, .int .i64 0, .string pg, .string pk, .string pt, .slice none 0 0, .slice none 0 0] 56)).heap[j]? = some o → w6.heap[j]? = some o := fun hj ho => (r2.block _ (lt_of_block ho) (fun e => by have := HFT.out _ (Or.inl e.symm); omega)).trans ho; have S6 : Hid (w6.heap[w.heap.size]? = some (.cells #[.slice vr ns.length vc, .int .i64 root, .int .i64 next] 24 (0, 0))) := kp (Nat.le_refl _) X5.out.1; have Z6 : Hid (w6.heap[w.heap.size + 2]? = some (.cells #[.slice none 0 0, .int .i64 0, .int .i64 0] 24 (0, 0))) := kp (by omega) X5.out.2; obtain ⟨s0, s1, s2⟩ := three S6.out; have sf0 := (cell_of S6.out 0).2; have sf2 := (cell_of S6.out 2).2; obtain ⟨⟨u0, u1, u2⟩, uf0, uf1, uf2⟩ : (w6.cell? ⟨w.heap.size + 2, 0, none⟩ = some (.slice none 0 0) ∧ w6.cell? ⟨w.heap.size + 2, 1, none⟩ = some (.int .i64 0) ∧ w6.cell? ⟨w.heap.size + 2, 2, none⟩ = some (.int .i64 0)) ∧ w6.frozen? ⟨w.heap.size + 2, 0, none⟩ = false ∧ w6.frozen? ⟨w.heap.size + 2, 1, none⟩ = false ∧ w6.frozen? ⟨w.heap.size + 2, 2, none⟩ = false := ⟨three Z6.out, (cell_of Z6.out 0).2, (cell_of Z6.out 1).2, (cell_of Z6.out 2).2⟩; clear r1 r2 r3 kp)
      obtain ⟨r1, r2, r3⟩ := R6.out
      have N6 : Pg.OwnN w6 B (.slice va6 (ns.length + 1) vc6) (ns ++ [newNd ⟨pw, pi, pp, pat, pg, pk, pt, pn, pv⟩]) (upd ab ns.length (.slice none 0 0)) (upd kb ns.length (.slice none 0 0)) := (O4.out.pushA (newNd_fit HP.out).2 rfl (OwnA.nil _ _) (fun b h => by cases h) r1 r2 r3).1
      have BW6 : Below B w w6 := ((nxt B4.out (below_one _ _)).mono HB.out).trans (grownB O4.out.row r2 HSZ.out.2)
      have HB0 := HB.out
      have HZA : ((w6.setCell ⟨w.heap.size, 0, none⟩ (.slice va6 (ns.length + 1) vc6)).setCell ⟨w.heap.size, 2, none⟩ (.int .i64 (next + 1))).heap[w.heap.size + 1 + 1]? = some (.cells #[.slice none 0 0, .int .i64 0, .int .i64 0] 24 (0, 0)) := (heap_set_other _ (by omega)).trans ((heap_set_other _ (by omega)).trans Z6.out)
      have NA : Hid (Pg.OwnN ((w6.setCell ⟨w.heap.size, 0, none⟩ (.slice va6 (ns.length + 1) vc6)).setCell ⟨w.heap.size, 2, none⟩ (.int .i64 (next + 1))) B (.slice va6 (ns.length + 1) vc6) (ns ++ [newNd ⟨pw, pi, pp, pat, pg, pk, pt, pn, pv⟩]) (upd ab ns.length (.slice none 0 0)) (upd kb ns.length (.slice none 0 0))) := N6.same fun b hb => (heap_set_other _ (N6.notState S6.out hb)).trans (heap_set_other _ (N6.notState S6.out hb))
      have BA : Below B w ((w6.setCell ⟨w.heap.size, 0, none⟩ (.slice va6 (ns.length + 1) vc6)).setCell ⟨w.heap.size, 2, none⟩ (.int .i64 (next + 1))) := ⟨BW6.os, BW6.tape, BW6.output, by have := BW6.size; simpa [World.setCell] using this, fun j hj => (heap_set_other _ (by omega)).trans ((heap_set_other _ (by omega)).trans (BW6.block j hj))⟩
      obtain ⟨f1, f2, f3⟩ := state_fin (v := .slice va6 (ns.length + 1) vc6) (r := .int .i64 root) (n := .int .i64 (next + 1)) HZA
      have f3 := f3 B w (by omega) BA
      have NZ : Hid (Pg.OwnN (((((w6.setCell ⟨w.heap.size, 0, none⟩ (.slice va6 (ns.length + 1) vc6)).setCell ⟨w.heap.size, 2, none⟩ (.int .i64 (next + 1))).setCell ⟨w.heap.size + 1 + 1, 0, none⟩ (.slice va6 (ns.length + 1) vc6)).setCell ⟨w.heap.size + 1 + 1, 1, none⟩ (.int .i64 root)).setCell ⟨w.heap.size + 1 + 1, 2, none⟩ (.int .i64 (next + 1))) B (.slice va6 (ns.length + 1) vc6) (ns ++ [newNd ⟨pw, pi, pp, pat, pg, pk, pt, pn, pv⟩]) (upd ab ns.length (.slice none 0 0)) (upd kb ns.length (.slice none 0 0))) := NA.out.same fun b hb => f2 b (NA.out.notState HZA hb)
      clear s0 s1 s2 sf0 sf2 u0 u1 u2 uf0 uf1 uf2 f2 HZA BA NA N6 BW6 r1 r2 r3 x0 x1 x2 n0 n1 n2 n3 n4 n5 n6 n7 n8 z0 z1 z2 zf0 zf1 zf2
      generalize ((((w6.setCell ⟨w.heap.size, 0, none⟩ (.slice va6 (ns.length + 1) vc6)).setCell ⟨w.heap.size, 2, none⟩ (.int .i64 (next + 1))).setCell ⟨w.heap.size + 1 + 1, 0, none⟩ (.slice va6 (ns.length + 1) vc6)).setCell ⟨w.heap.size + 1 + 1, 1, none⟩ (.int .i64 root)).setCell ⟨w.heap.size + 1 + 1, 2, none⟩ (.int .i64 (next + 1)) = W9 at *
      obtain ⟨c0, c1, c2⟩ := three f1
      refine bodyPost_ret (v := .tuple #[.agg #[.slice va6 (ns.length + 1) vc6, .int .i64 root, .int .i64 (next + 1)], .int .i64 0]) (by simp [results, Tryz.results19, go_sem, c0, c1, c2]) rfl ?_
      rw [HR.out]
      exact ⟨_, _, _, rfl, NZ.out, f3⟩
  · have g1 : (pi != next) = true := by simpa using hid
    have HID : Hid (¬ pi = next) := hid
    clear hid
    have HR : Hid (errD (createD ⟨ns, root, next⟩ ⟨pw, pi, pp, pat, pg, pk, pt, pn, pv⟩) = (32, noD)) := by
      show _ = _
      unfold createD
      simp only
      rw [if_pos (by simpa using HID.out)]
      exact errD_err (by decide)
    go_wp2_with fail
    rw [← hK3]
    clear hK3
    have HZ' : K3.heap[w.heap.size + 1 + 1]? = some (.cells #[.slice none 0 0, .int .i64 0, .int .i64 0] 24 (0, 0)) := X3.out.2.2
    obtain ⟨c0, c1, c2⟩ := three HZ'
    refine bodyPost_ret (v := .tuple #[.agg #[.slice none 0 0, .int .i64 0, .int .i64 0], .int .i64 32]) (by simp [results, Tryz.results19, go_sem, c0, c1, c2]) rfl ?_
    rw [HR.out]
    exact ⟨_, _, _, rfl, noD_pg _ _, B3.out.mono HB.out⟩
end Go.Proofs.YtcdnakcojanaeabGreat
