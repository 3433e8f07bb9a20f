/-
  The page's in, within, loops, kids.
-/
import Derived.Test.YtomhfndjnbhliaaDoPlaceJ
namespace Go.Proofs.Ytomhfndjnbhliaa
open Go.ChangeShapes Go.WideShapes Go.ChangeAt Go.RowKit Go.Deep
open Do

set_option maxRecDepth 100000 in
set_option maxHeartbeats 1600000 in
theorem rin_any (ks : List Int) (x : Int) (a : Option Addr) (c : Nat) (w : World) (hl : LayZ w a ks) (hn : ks.length ≤ 140737488351232) :
    Calls Try.prog 43 #[.slice a ks.length c, .int .i64 x] w fun e w' => e = .returned (.int .i64 (ixI ks x)) ∧ w' = w := by
  have HL : Hid (LayZ w a ks) := hl
  clear hl
  go_enter Try.func43, Try.ntmps43
  go_wp2_with fail
  go_loopw [5] (fun v5 wr => ∃ i : Nat, i ≤ ks.length ∧ v5 = .int .i64 (i : Int) ∧ Hid (∀ m z, m < i → ks[m]? = some z → ¬ x = z) ∧ wr = w) (fun v5 _ => ks.length - (intOf v5).toNat)
  case atStart => exact ⟨0, Nat.zero_le _, rfl, (show ∀ m z, m < 0 → ks[m]? = some z → ¬ x = z from fun m z h => by omega), rfl⟩
  case round =>
    obtain ⟨i, hi, rfl, HN, rfl⟩ := hrel
    by_cases hlt : i < ks.length
    · obtain ⟨b, o, ha, r1, _⟩ := HL.out i ks[i] (List.getElem?_eq_getElem hlt)
      subst ha
      have HG : Hid (ks[i]? = some ks[i]) := List.getElem?_eq_getElem hlt
      by_cases he : x = ks[i]
      · have HR : Hid (ixI ks x = (i : Int)) := by show _ = _; unfold ixI; rw [ixZ_take HN.out HG.out he]
        have he1 : (ks[i] == x) = true := by simpa using he.symm
        clear he HG HN
        generalize ks[i] = y at *
        go_wp2_with fail
        go_ret
        exact ⟨by rw [HR.out]; rfl, rfl⟩
      · have HN' : Hid (∀ m z, m < i + 1 → ks[m]? = some z → ¬ x = z) := by
          intro m z hm hz
          by_cases e : m = i
          · subst e
            rw [HG.out] at hz
            cases hz
            exact he
          · exact HN.out m z (by omega) hz
        have he1 : (ks[i] == x) = false := by simpa using fun h : ks[i] = x => he h.symm
        clear he HG HN
        generalize ks[i] = y at *
        go_wp2_with fail
        go_roundw
        case rel => exact ⟨i + 1, by omega, by go_num, HN'.out, trivial⟩
        case measure => simp [intOf]; omega
    · have HR : Hid (ixI ks x = -1) := by
        show _ = _
        have : ixZ ks x = none := ixZ_none.2 fun hx => by
          obtain ⟨j, hj, e⟩ := List.getElem_of_mem hx
          exact HN.out j _ (by omega) (List.getElem?_eq_getElem hj) e.symm
        unfold ixI
        rw [this]
      clear HN
      go_wp2_with fail
      go_ret
      exact ⟨by rw [HR.out]; rfl, rfl⟩

/-- The page's within, as mathematics. -/
def wiP (ns : List Nd) (y : Int) : Nat → Int → Bool
  | 0, _ => false
  | k + 1, x => if x = 0 then false else if x = y then true else match pl ns x with
    | none => false
    | some q => match ns[q]? with
      | none => false
      | some n => wiP ns y k n.par

theorem plI_none {ns : List Nd} {x : Int} (h : pl ns x = none) : plI ns x = -1 := by unfold plI; rw [h]

theorem plI_some {ns : List Nd} {x : Int} {q : Nat} (h : pl ns x = some q) : plI ns x = (q : Int) := by unfold plI; rw [h]

set_option maxRecDepth 100000 in
set_option maxHeartbeats 1600000 in
theorem rwithin_any (s : Ds) (x y : Int) (a : Option Addr) (c : Nat) (w : World) (hs : DsIs w s a c) :
    Calls Try.prog 65 #[.agg #[.slice a s.nodes.length c, .int .i64 s.root, .int .i64 s.next], .int .i64 x, .int .i64 y] w fun e w' => e = .returned (.bool (wiP s.nodes y (s.nodes.length + 1) x)) ∧ Below w.heap.size w w' := by
  have HL : Hid (LayN w a s.nodes) := hs.lay
  have hlen := hs.len
  have HPL : Hid (∀ W z, Below w.heap.size w W → Calls Try.prog 18 #[.agg #[.slice a s.nodes.length c, .int .i64 s.root, .int .i64 s.next], .int .i64 z] W fun e w' => e = .returned (.int .i64 (plI s.nodes z)) ∧ Below W.heap.size W w') := fun W z hb => rplace_any s z a c W (hs.below hb)
  obtain ⟨ns, root, next⟩ := s
  simp only at *
  clear hs
  have X1 : Hid ((w.alloc (.cells #[.slice a ns.length c, .int .i64 root, .int .i64 next] 35)).heap[w.heap.size]? = some (.cells #[.slice a ns.length c, .int .i64 root, .int .i64 next] 35 (0, 0))) := heap_alloc_new _ _
  have B1 : Hid (Below w.heap.size w (w.alloc (.cells #[.slice a ns.length c, .int .i64 root, .int .i64 next] 35))) := below_one _ _
  go_enter Try.func65, Try.ntmps65
  go_wp2_with fail
  generalize w.alloc (.cells #[.slice a ns.length c, .int .i64 root, .int .i64 next] 35) = W1 at *
  go_loopw [1, 7, 8] (fun v1 v7 _ wr => ∃ (i : Nat) (z : Int), i ≤ ns.length + 1 ∧ v1 = .int .i64 z ∧ v7 = .int .i64 (i : Int) ∧ Hid (wiP ns y (ns.length + 1 - i) z = wiP ns y (ns.length + 1) x) ∧ Hid (Below W1.heap.size W1 wr)) (fun _ v7 _ _ => ns.length + 1 - (intOf v7).toNat)
  case atStart => exact ⟨0, x, Nat.zero_le _, rfl, rfl, rfl, Below.refl _ _⟩
  case round =>
    obtain ⟨i, z, hi, rfl, rfl, HZ, HB⟩ := hrel
    have BW : Hid (Below w.heap.size w wr) := nxt B1.out HB.out
    obtain ⟨q0, q1, q2⟩ := three ((HB.out.block _ (lt_of_block X1.out)).trans X1.out)
    by_cases hlt : i ≤ ns.length
    · obtain ⟨k, hk⟩ : ∃ k, ns.length + 1 - i = k + 1 := ⟨ns.length - i, by omega⟩
      have HK : Hid (ns.length + 1 - (i + 1) = k) := by show _ = _; omega
      rw [hk] at HZ
      clear hk
      by_cases h0 : z = 0
      · have HR : Hid (wiP ns y (ns.length + 1) x = false) := by show _ = _; rw [← HZ.out]; unfold wiP; rw [if_pos h0]
        have g0 : (z != 0) = false := by simpa using h0
        clear h0 HZ
        go_wp2_with fail
        go_ret
        exact ⟨by rw [HR.out]; rfl, BW.out⟩
      · have g0 : (z != 0) = true := by simpa using h0
        by_cases hy : z = y
        · have HR : Hid (wiP ns y (ns.length + 1) x = true) := by show _ = _; rw [← HZ.out]; unfold wiP; rw [if_neg h0, if_pos hy]
          have g1 : (z == y) = true := by simpa using hy
          clear h0 hy HZ
          go_wp2_with fail
          go_ret
          exact ⟨by rw [HR.out]; rfl, BW.out⟩
        · have g1 : (z == y) = false := by simpa using hy
          have HC : Hid (∀ W, Below w.heap.size w W → Calls Try.prog 18 #[.agg #[.slice a ns.length c, .int .i64 root, .int .i64 next], .int .i64 z] W _) := fun W hb => HPL.out W z hb
          cases hp : pl ns z with
          | none =>
            rw [plI_none hp] at HC
            have HR : Hid (wiP ns y (ns.length + 1) x = false) := by show _ = _; rw [← HZ.out]; unfold wiP; rw [if_neg h0, if_neg hy, hp]
            clear h0 hy HZ hp
            go_wp2_with fail
            refine (HC.out _ BW.out).mono ?_
            rintro e w2 ⟨rfl, hb2⟩
            have B2 : Hid (Below w.heap.size w w2) := nxt BW.out hb2
            clear hb2 q0 q1 q2
            go_wp2_with fail
            go_ret
            exact ⟨by rw [HR.out]; rfl, B2.out⟩
          | some q =>
            rw [plI_some hp] at HC
            obtain ⟨m, hm, -⟩ := pl_some hp
            have hql : q < ns.length := (List.getElem?_eq_some_iff.1 hm).1
            have HZ' : Hid (wiP ns y k m.par = wiP ns y (ns.length + 1) x) := by show _ = _; rw [← HZ.out, wiP, if_neg h0, if_neg hy, hp]; simp only; rw [hm]
            have HM : Hid (ns[q]? = some m) := hm
            clear h0 hy HZ hp hm
            go_wp2_with fail
            refine (HC.out _ BW.out).mono ?_
            rintro e w2 ⟨rfl, hb2⟩
            have B2 : Hid (Below w.heap.size w w2) := nxt BW.out hb2
            have BL : Hid (Below W1.heap.size W1 w2) := nxt HB.out hb2
            obtain ⟨b, o, aa, ac, ka, kc, ha, hN⟩ := HL.out.below B2.out q m HM.out
            subst ha
            have r1 := hN.c1
            clear hb2 q0 q1 q2 hN HC
            obtain ⟨q0, -, -⟩ := three ((BL.out.block _ (lt_of_block X1.out)).trans X1.out)
            go_wp2_with fail
            go_roundw
            case rel => exact ⟨i + 1, m.par, by omega, rfl, by go_num, by rw [HK.out]; exact HZ'.out, BL.out⟩
            case measure => simp [intOf]; omega
    · have HR : Hid (wiP ns y (ns.length + 1) x = false) := by
        show _ = _
        rw [← HZ.out, show ns.length + 1 - i = 0 from by omega]
        rfl
      clear HZ
      go_wp2_with fail
      go_ret
      exact ⟨by rw [HR.out]; rfl, BW.out⟩

/-- The page's loops, as mathematics. -/
def loopB (ns : List Nd) (n : Nd) : Bool := (n.par != 0) && wiP ns n.id (ns.length + 1) n.par

set_option maxRecDepth 100000 in
set_option maxHeartbeats 1600000 in
theorem rloops_any (s : Ds) (n : Nd) (aa : Option Addr) (al ac : Nat) (ka : Option Addr) (kl kc : Nat) (a : Option Addr) (c : Nat) (w : World) (hs : DsIs w s a c) :
    Calls Try.prog 44 #[.agg #[.slice a s.nodes.length c, .int .i64 s.root, .int .i64 s.next], mkN n.id n.par n.tag n.key n.txt aa al ac ka kl kc] w fun e w' => e = .returned (.bool (loopB s.nodes n)) ∧ Below w.heap.size w w' := by
  have HW : Hid (∀ W, Below w.heap.size w W → Calls Try.prog 65 #[.agg #[.slice a s.nodes.length c, .int .i64 s.root, .int .i64 s.next], .int .i64 n.par, .int .i64 n.id] W fun e w' => e = .returned (.bool (wiP s.nodes n.id (s.nodes.length + 1) n.par)) ∧ Below W.heap.size W w') := fun W hb => rwithin_any s n.par n.id a c W (hs.below hb)
  clear hs
  by_cases h0 : n.par = 0
  · have HR : Hid (loopB s.nodes n = false) := by show _ = _; unfold loopB; simp [h0]
    have g0 : (n.par != 0) = false := by simpa using h0
    go_enter Try.func44, Try.ntmps44
    go_wp2_with fail
    go_ret
    exact ⟨by rw [HR.out]; rfl, two_new _ _ _⟩
  · have HR : Hid (loopB s.nodes n = wiP s.nodes n.id (s.nodes.length + 1) n.par) := by show _ = _; unfold loopB; simp [h0]
    have g0 : (n.par != 0) = true := by simpa using h0
    clear h0
    go_enter Try.func44, Try.ntmps44
    go_wp2_with fail
    refine (HW.out _ (two_new _ _ _)).mono ?_
    rintro e w2 ⟨rfl, hb2⟩
    have B2 : Hid (Below w.heap.size w w2) := nxt (two_new _ _ _) hb2
    clear hb2
    go_wp2_with fail
    go_ret
    exact ⟨by rw [HR.out]; rfl, B2.out⟩

/-- The page's kids, as mathematics. -/
def fewB (n : Nd) : Bool := !(decide (32 < n.kids.length) || (decide (n.tag.size = 0) && decide (0 < n.kids.length)))

set_option maxRecDepth 100000 in
set_option maxHeartbeats 3200000 in
theorem rkids_any (s : Ds) (n : Nd) (aa : Option Addr) (ac : Nat) (ka : Option Addr) (kc : Nat) (a : Option Addr) (c : Nat) (w : World) (hs : DsIs w s a c) (hf : FitN n aa ac ka kc) (hK : LayZ w ka n.kids) :
    Calls Try.prog 42 #[.agg #[.slice a s.nodes.length c, .int .i64 s.root, .int .i64 s.next], mkN n.id n.par n.tag n.key n.txt aa n.ats.length ac ka n.kids.length kc] w fun e w' => e = .returned (.bool (fewB n && kidsB s.nodes n)) ∧ Below w.heap.size w w' := by
  have HL : Hid (LayN w a s.nodes) := hs.lay
  have HK : Hid (LayZ w ka n.kids) := hK
  have hlen := hs.len
  have HPL : Hid (∀ W z, Below w.heap.size w W → Calls Try.prog 18 #[.agg #[.slice a s.nodes.length c, .int .i64 s.root, .int .i64 s.next], .int .i64 z] W fun e w' => e = .returned (.int .i64 (plI s.nodes z)) ∧ Below W.heap.size W w') := fun W z hb => rplace_any s z a c W (hs.below hb)
  have hkl := hf.kids
  have hkl1 : n.kids.length ≤ kc := hkl.1
  have hkl2 : kc ≤ 9223372036854775807 := hkl.2.1
  have hkl3 : n.kids.length ≤ 140737488351232 := by have := hkl.2.2.1; omega
  have HKA : Hid (∀ ad, ka = some ad → 0 < kc → ad = ⟨ad.block, ad.off, none⟩) := hkl.2.2.2.2
  obtain ⟨ns, root, next⟩ := s
  simp only at *
  clear hs hK hf hkl
  have Y1 : Hid (((w.alloc (.cells #[.slice a ns.length c, .int .i64 root, .int .i64 next] 35)).alloc (.cells #[.int .i64 n.id, .int .i64 n.par, .string n.tag, .string n.key, .string n.txt, .slice aa n.ats.length ac, .slice ka n.kids.length kc] 57)).heap[w.heap.size]? = some (.cells #[.slice a ns.length c, .int .i64 root, .int .i64 next] 35 (0, 0))) := ((below_one _ _).block _ (by simp)).trans (heap_alloc_new _ _)
  have X1 : Hid (((w.alloc (.cells #[.slice a ns.length c, .int .i64 root, .int .i64 next] 35)).alloc (.cells #[.int .i64 n.id, .int .i64 n.par, .string n.tag, .string n.key, .string n.txt, .slice aa n.ats.length ac, .slice ka n.kids.length kc] 57)).heap[w.heap.size + 1]? = some (.cells #[.int .i64 n.id, .int .i64 n.par, .string n.tag, .string n.key, .string n.txt, .slice aa n.ats.length ac, .slice ka n.kids.length kc] 57 (0, 0))) := heap_new2 _ _ _
  have K1 : Hid (Below w.heap.size w ((w.alloc (.cells #[.slice a ns.length c, .int .i64 root, .int .i64 next] 35)).alloc (.cells #[.int .i64 n.id, .int .i64 n.par, .string n.tag, .string n.key, .string n.txt, .slice aa n.ats.length ac, .slice ka n.kids.length kc] 57))) := two_new _ _ _
  by_cases h32 : 32 < n.kids.length
  · have HR : Hid (fewB n = false) := by show _ = _; unfold fewB; simp [h32]
    have g0 : decide (32 < n.kids.length) = true := by simpa using h32
    go_enter Try.func42, Try.ntmps42
    go_wp2_with fail
    go_ret
    exact ⟨by rw [HR.out]; rfl, K1.out⟩
  by_cases hg : n.tag.size = 0 ∧ 0 < n.kids.length
  · have HR : Hid (fewB n = false) := by show _ = _; unfold fewB; simp [hg.1, hg.2]
    have g0 : decide (32 < n.kids.length) = false := by simpa using h32
    have g1 : n.tag.toList.isEmpty = true := empty_true hg.1
    have g2 : decide (0 < n.kids.length) = true := by simpa using hg.2
    obtain ⟨-, hg2⟩ := hg
    go_enter Try.func42, Try.ntmps42
    go_wp2_with fail
    go_ret
    exact ⟨by rw [HR.out]; rfl, K1.out⟩
  have HFW : Hid (fewB n = true) := by
    show _ = _
    unfold fewB
    have : ¬ (n.tag.size = 0) ∨ ¬ 0 < n.kids.length := by rcases Classical.em (n.tag.size = 0) with h | h; exact Or.inr fun h' => hg ⟨h, h'⟩; exact Or.inl h
    rcases this with h | h <;> simp [h, h32]
  have g0 : decide (32 < n.kids.length) = false := by simpa using h32
  obtain ⟨te, hte, HG⟩ : ∃ te, n.tag.toList.isEmpty = te ∧ (te = true → n.kids.length = 0) := ⟨_, rfl, fun h => by
    have h1 : n.tag.size = 0 := by
      rcases Classical.em (n.tag.size = 0) with h' | h'
      · exact h'
      · rw [empty_false h'] at h; cases h
    rcases Nat.eq_zero_or_pos n.kids.length with h2 | h2
    · exact h2
    · exact absurd ⟨h1, h2⟩ hg⟩
  clear hg
  have key : ∀ (tb : Bool), n.tag.toList.isEmpty = tb → (tb = true → n.kids.length = 0) → Calls Try.prog 42 #[.agg #[.slice a ns.length c, .int .i64 root, .int .i64 next], mkN n.id n.par n.tag n.key n.txt aa n.ats.length ac ka n.kids.length kc] w fun e w' => e = .returned (.bool (fewB n && kidsB ns n)) ∧ Below w.heap.size w w' := by
    clear hte HG te
    have loop : True := trivial
    intro tb g1 g2
    rw [HFW.out, Bool.true_and]
    cases tb with
    | true =>
      have HG2 : Hid (n.kids.length = 0) := g2 rfl
      have HR : Hid (kidsB ns n = true) := kidsB_true fun j hj => by have := HG2.out; omega
      have g3 : decide (0 < n.kids.length) = false := decide_eq_false (by have := HG2.out; omega)
      have g4 : decide ((0 : Int) < (n.kids.length : Int)) = false := decide_eq_false (by have := HG2.out; omega)
      clear g2
      go_enter Try.func42, Try.ntmps42
      go_wp2_with fail
      generalize (w.alloc (.cells #[.slice a ns.length c, .int .i64 root, .int .i64 next] 35)).alloc (.cells #[.int .i64 n.id, .int .i64 n.par, .string n.tag, .string n.key, .string n.txt, .slice aa n.ats.length ac, .slice ka n.kids.length kc] 57) = W1 at *
      go_loopw [5, 6] (fun v5 _ wr => ∃ i : Nat, i ≤ n.kids.length ∧ v5 = .int .i64 (i : Int) ∧ Hid (Below W1.heap.size W1 wr)) (fun v5 _ _ => n.kids.length - (intOf v5).toNat)
      case atStart => exact ⟨0, Nat.zero_le _, rfl, Below.refl _ _⟩
      case round =>
        obtain ⟨i, hi, rfl, HB⟩ := hrel
        have hlt : ¬ i < n.kids.length := by have := HG2.out; omega
        have X2 := (HB.out.block _ (lt_of_block X1.out)).trans X1.out
        obtain ⟨y6, -⟩ := cell_of X2 6
        simp at y6
        clear X2 g3 g4
        go_wp2_with fail
        go_ret
        exact ⟨by rw [HR.out]; rfl, nxt K1.out HB.out⟩
    | false =>
      clear g2
      go_enter Try.func42, Try.ntmps42
      go_wp2_with fail
      generalize (w.alloc (.cells #[.slice a ns.length c, .int .i64 root, .int .i64 next] 35)).alloc (.cells #[.int .i64 n.id, .int .i64 n.par, .string n.tag, .string n.key, .string n.txt, .slice aa n.ats.length ac, .slice ka n.kids.length kc] 57) = W1 at *
      clear g0 g1 h32 HFW
      go_loopw [5, 6] (fun v5 _ wr => ∃ i : Nat, i ≤ n.kids.length ∧ v5 = .int .i64 (i : Int) ∧ Hid (∀ j, j < i → kidB ns n j = true) ∧ Hid (Below W1.heap.size W1 wr)) (fun v5 _ _ => n.kids.length - (intOf v5).toNat)
      case atStart => exact ⟨0, Nat.zero_le _, rfl, (show ∀ j, j < 0 → kidB ns n j = true from fun j h => by omega), Below.refl _ _⟩
      case round =>
        obtain ⟨i, hi, rfl, HT, HB⟩ := hrel
        have X2 := (HB.out.block _ (lt_of_block X1.out)).trans X1.out
        obtain ⟨y0, -⟩ := cell_of X2 0
        obtain ⟨y6, -⟩ := cell_of X2 6
        simp at y0 y6
        clear X2
        have BW : Hid (Below w.heap.size w wr) := nxt K1.out HB.out
        by_cases hlt : i < n.kids.length
        · obtain ⟨q0, q1, q2⟩ := three ((HB.out.block _ (lt_of_block Y1.out)).trans Y1.out)
          obtain ⟨kb, ko, hka, r1, _⟩ := HK.out.below BW.out i n.kids[i] (List.getElem?_eq_getElem hlt)
          have HKB : Hid (kidB ns n i = _) := kidB_at (ns := ns) hlt
          have e0 : ∀ z : Cls wr, z.1.cell? ⟨w.heap.size, 0, none⟩ = some (.slice a ns.length c) := fun z => Cls.cell q0 z
          have e1 : ∀ z : Cls wr, z.1.cell? ⟨w.heap.size, 1, none⟩ = some (.int .i64 root) := fun z => Cls.cell q1 z
          have e2 : ∀ z : Cls wr, z.1.cell? ⟨w.heap.size, 2, none⟩ = some (.int .i64 next) := fun z => Cls.cell q2 z
          have e3 : ∀ z : Cls wr, z.1.cell? ⟨w.heap.size + 1, 6, none⟩ = some (.slice ka n.kids.length kc) := fun z => Cls.cell y6 z
          have e4 : ∀ z : Cls wr, z.1.cell? ⟨kb, ko + i, none⟩ = some (.int .i64 n.kids[i]) := fun z => Cls.cell r1 z
          have CP : Hid (∀ z : Cls wr, Calls Try.prog 18 #[.agg #[.slice a ns.length c, .int .i64 root, .int .i64 next], .int .i64 n.kids[i]] z.1 fun e w' => e = .returned (.int .i64 (plI ns n.kids[i])) ∧ Below z.1.heap.size z.1 w') := fun z => HPL.out z.1 _ (nxt BW.out z.2)
          have inst : Nonempty (Cls wr) := ⟨⟨_, Below.refl _ _⟩⟩
          have HI : Hid ((n.kids.take i).length = i) := by show _ = _; simp; omega
          have CI : Hid (∀ W, Below w.heap.size w W → Calls Try.prog 43 #[.slice ka i kc, .int .i64 n.kids[i]] W fun e w' => e = .returned (.int .i64 (ixI (n.kids.take i) n.kids[i])) ∧ w' = W) := fun W hb => by
            have hly : LayZ W ka (n.kids.take i) := by
              intro j z hj
              rw [List.getElem?_take] at hj
              split at hj
              · exact HK.out.below hb j z hj
              · cases hj
            have := rin_any (n.kids.take i) n.kids[i] ka kc W hly (by have := HI.out; omega)
            rwa [HI.out] at this
          subst hka
          go_wp2_with fail
          refine wp_region_cls (by kernel_rfl) (by kernel_rfl) ?_
          repeat (go_big_quiet_step ((go_at_call 18; exact Calls.cls (CP.out _))))
          refine wpQuiet_nil ?_
          intro _ hw'
          obtain ⟨z, hw''⟩ := hw'
          subst hw''
          clear q0 q1 q2 r1 y6 CP e1 e2
          have BZ : Hid (Below w.heap.size w z.1) := nxt BW.out z.2
          have BL : Hid (Below W1.heap.size W1 z.1) := nxt HB.out z.2
          have t0 := e0 z
          have t3 := e3 z
          have t4 := e4 z
          have t5 : z.1.cell? ⟨w.heap.size + 1, 0, none⟩ = some (.int .i64 n.id) := Cls.cell y0 z
          clear e0 e3 e4 y0 inst
          generalize z.1 = wz at *
          cases hp : pl ns n.kids[i] with
          | none =>
            rw [hp] at HKB
            rw [plI_none hp]
            simp only at HKB
            have HR : Hid (kidsB ns n = false) := kidsB_false hlt HKB.out
            clear hp HKB
            go_wp2_with fail
            go_big_quiet (fail)
            go_wp2_with fail
            go_ret
            exact ⟨by rw [HR.out]; rfl, nxt BZ.out (Below_drewN _ _ _)⟩
          | some q =>
            rw [hp] at HKB
            rw [plI_some hp]
            simp only at HKB
            obtain ⟨m, hm1, hm2⟩ := pl_some hp
            rw [hm1] at HKB
            simp only at HKB
            have hql : q < ns.length := (List.getElem?_eq_some_iff.1 hm1).1
            obtain ⟨b, o, maa, mac, mka, mkc, ha', hN⟩ := HL.out.below BZ.out q m hm1
            subst ha'
            have s1 := hN.c1
            have gq : decide ((q : Int) < 0) = false := decide_eq_false (by omega)
            clear hN hm1 hm2 hp
            by_cases hpar : m.par = n.id
            · cases hct : (n.kids.take i).contains n.kids[i] with
              | true =>
                have hcon := HKB.out
                rw [hct] at hcon
                have HR : Hid (kidsB ns n = false) := kidsB_false hlt (by rw [hcon]; simp)
                obtain ⟨j, hj⟩ : ∃ j : Nat, ixI (n.kids.take i) n.kids[i] = (j : Int) := by
                  have := ixZ_contains (n.kids.take i) n.kids[i]
                  rw [hct] at this
                  unfold ixI
                  cases h : ixZ (n.kids.take i) n.kids[i] with
                  | none => rw [h] at this; cases this
                  | some j => exact ⟨j, rfl⟩
                rw [hj] at CI
                have gj : decide ((0 : Int) ≤ (j : Int)) = true := decide_eq_true (by omega)
                clear HKB hct hcon hj
                generalize n.kids[i] = kk at *
                have g1 : (m.par != n.id) = false := by simpa using hpar
                have g2 : (i : Int) ≤ (kc : Int) := by omega
                clear hpar
                generalize m.par = mp at *
                go_wp2_with fail
                go_big_quiet ((go_at_call 43; exact Calls.quiet_of_same (CI.out _ (nxt BZ.out (Below_drewN _ _ _)))))
                go_wp2_with fail
                go_ret
                exact ⟨by rw [HR.out]; rfl, nxt BZ.out (Below_drewN _ _ _)⟩
              | false =>
                have hcon := HKB.out
                rw [hct] at hcon
                have HKT : Hid (kidB ns n i = true) := by show _ = _; rw [hcon]; simp [hpar]
                have hj : ixI (n.kids.take i) n.kids[i] = -1 := by
                  have := ixZ_contains (n.kids.take i) n.kids[i]
                  rw [hct] at this
                  unfold ixI
                  cases h : ixZ (n.kids.take i) n.kids[i] with
                  | none => rfl
                  | some j => rw [h] at this; cases this
                rw [hj] at CI
                clear HKB hct hcon hj
                generalize n.kids[i] = kk at *
                have g1 : (m.par != n.id) = false := by simpa using hpar
                have g2 : (i : Int) ≤ (kc : Int) := by omega
                clear hpar
                generalize m.par = mp at *
                go_wp2_with fail
                go_big_quiet ((go_at_call 43; exact Calls.quiet_of_same (CI.out _ (nxt BZ.out (Below_drewN _ _ _)))))
                go_wp2_with fail
                go_roundw
                case rel =>
                  refine ⟨i + 1, by omega, by go_num, ?_, nxt BL.out (Below_drewN _ _ _)⟩
                  intro j hj
                  by_cases e : j = i
                  · subst e
                    exact HKT.out
                  · exact HT.out j (by omega)
                case measure => simp [intOf]; omega
            · have HR : Hid (kidsB ns n = false) := kidsB_false hlt (by rw [HKB.out]; simp [hpar])
              have g1 : (m.par != n.id) = true := by simpa using hpar
              clear HKB hpar CI
              generalize m.par = mp at *
              go_wp2_with fail
              go_big_quiet (fail)
              go_wp2_with fail
              go_ret
              exact ⟨by rw [HR.out]; rfl, nxt BZ.out (Below_drewN _ _ _)⟩
        · have HR : Hid (kidsB ns n = true) := kidsB_true fun j hj => HT.out j (by omega)
          clear HT
          go_wp2_with fail
          go_ret
          exact ⟨by rw [HR.out]; rfl, BW.out⟩
  exact key te hte HG
end Go.Proofs.Ytomhfndjnbhliaa
