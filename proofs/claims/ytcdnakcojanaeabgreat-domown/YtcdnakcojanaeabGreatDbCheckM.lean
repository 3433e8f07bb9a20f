/-
  The page's Check: what it asks of a display is what the program's asks. (Printed by wip/make/mkdbcheck.py.)
-/
import Derived.Test.YtcdnakcojanaeabGreatDbPageJ
import Derived.Test.YtcdnakcojanaeabGreatDoPlaceJ
namespace Go.Proofs.YtcdnakcojanaeabGreat
open Go.ChangeShapes Go.WideShapes Go.ChangeAt Go.RowKit Go.Deep
open Do

namespace Do
/-- What the page asks of a node. -/
structure PN (s : Ds) (i : Nat) (n : Nd) : Prop where
  lo : 1 ≤ n.id
  hi : n.id < s.next
  up : 0 < i → ∀ m, s.nodes[i - 1]? = some m → m.id < n.id
  plain : plainB n.tag n.key n.txt n.ats = true
  kids : (fewB n && kidsB s.nodes n) = true
  par : n.par ≠ 0 → ∃ q m, pl s.nodes n.par = some q ∧ s.nodes[q]? = some m ∧ n.id ∈ m.kids ∧ loopB s.nodes n = false

theorem wiP_wi {ns : List Nd} {y : Int} : ∀ {k : Nat} {x : Int}, wiP ns y k x = true → Wi ns x y
  | 0, x, h => by cases h
  | k + 1, x, h => by
    unfold wiP at h
    split at h
    · cases h
    · split at h
      · rename_i e; rw [e]; exact .refl _
      · split at h
        · cases h
        · rename_i q hq
          split at h
          · cases h
          · rename_i n hn
            exact .step (at_nd hq hn) (wiP_wi h)

theorem Good.no_loop {ns : List Nd} (h : Good ns) {x : Int} {n : Nd} (hx : nd ns x = some n) : ¬ Wi ns n.par x := fun hw => by
  have l1 := h.stp_par hx
  have l2 := h.stp_wi hw
  omega

theorem few_alone {n : Nd} (h : aloneB n = true) : fewB n = true := by
  obtain ⟨-, h1, h2⟩ := alone_iff.1 h
  unfold fewB
  by_cases h0 : n.tag.size = 0
  · have := h1 h0
    simp [this]
  · simp [h0, h2]

theorem alone_few {n : Nd} (h : fewB n = true) (hp : plainB n.tag n.key n.txt n.ats = true) : aloneB n = true := by
  refine alone_iff.2 ⟨hp, ?_, ?_⟩
  · intro h0
    unfold fewB at h
    simp [h0] at h
    simpa using h.2
  · unfold fewB at h
    simp at h
    exact h.1

theorem ok_pn {s : Ds} (h : OkD s) {i : Nat} {n : Nd} (hi : s.nodes[i]? = some n) : PN s i n := by
  have hm := List.mem_of_getElem? hi
  have hnd := nd_of h.good.up hm
  refine ⟨h.good.pos n hm, h.below n hm, fun h0 m hp => h.good.up (i - 1) i m n (by omega) hp hi, (alone_iff.1 (h.good.alone n hm)).1, ?_, fun h0 => ?_⟩
  · rw [few_alone (h.good.alone n hm), Bool.true_and]
    exact kidsB_iff.2 ⟨h.good.kid n hm, h.good.nodup n hm⟩
  · obtain ⟨m, h1, h2⟩ := h.good.par n hm h0
    obtain ⟨q, h3, h4⟩ := nd_at h1
    refine ⟨q, m, h3, h4, h2, ?_⟩
    unfold loopB
    cases e : wiP s.nodes n.id (s.nodes.length + 1) n.par with
    | false => simp
    | true => exact absurd (wiP_wi e) (h.good.no_loop hnd)

/-- Going up d times. -/
def Rch (ns : List Nd) : Nat → Int → Int → Prop
  | 0, x, y => x = y
  | d + 1, x, y => ∃ n, nd ns x = some n ∧ Rch ns d n.par y

theorem Rch.snoc {ns : List Nd} : ∀ {d : Nat} {x y : Int} {n : Nd}, Rch ns d x y → nd ns y = some n → Rch ns (d + 1) x n.par
  | 0, x, y, n, h, hn => by
    have h : x = y := h
    subst h
    exact ⟨n, hn, rfl⟩
  | d + 1, x, y, n, ⟨m, h1, h2⟩, hn => ⟨m, h1, Rch.snoc h2 hn⟩

theorem Rch.wiP {ns : List Nd} {y : Int} (hy : y ≠ 0) (h0 : nd ns 0 = none) : ∀ {d k : Nat} {x : Int}, Rch ns d x y → d < k → wiP ns y k x = true
  | 0, k + 1, x, h, _ => by
    have h : x = y := h
    subst h
    unfold Go.Proofs.YtcdnakcojanaeabGreat.wiP
    rw [if_neg hy, if_pos rfl]
  | d + 1, k + 1, x, ⟨m, h1, h2⟩, hk => by
    unfold Go.Proofs.YtcdnakcojanaeabGreat.wiP
    by_cases hx : x = 0
    · rw [hx, h0] at h1; cases h1
    · rw [if_neg hx]
      split
      · rfl
      · obtain ⟨q, h3, h4⟩ := nd_at h1
        rw [h3]
        simp only
        rw [h4]
        exact Rch.wiP hy h0 h2 (by omega)
  | _, 0, _, _, h => by omega

/-- Where nobody is within himself, one comes out. -/
theorem out_noloop {ns : List Nd} (h0 : nd ns 0 = none) (hpar : ∀ x n, nd ns x = some n → n.par ≠ 0 → ∃ m, nd ns n.par = some m) (hno : ∀ x n, nd ns x = some n → n.par ≠ 0 → wiP ns x (ns.length + 1) n.par = false) :
    ∀ (j : Nat) (vis : List Int) (x : Int), vis.length + j = ns.length + 1 → vis.Nodup → (∀ v ∈ vis, ∃ m, nd ns v = some m) → (∀ v ∈ vis, ∃ d, d + 1 ≤ vis.length ∧ Rch ns (d + 1) v x) → (x = 0 ∨ ∃ n, nd ns x = some n) → ∃ k, Out ns k x := by
  intro j
  induction j with
  | zero =>
    intro vis x hl hd hv _ _
    have := nodup_sub (m := ns.map Nd.id) hd (fun y hy => by
      obtain ⟨n, hn⟩ := hv y hy
      exact List.mem_map.2 ⟨n, (nd_some hn).1, (nd_some hn).2⟩)
    simp at this
    omega
  | succ j ih =>
    intro vis x hl hd hv hr hx
    rcases hx with hx | ⟨n, hn⟩
    · exact ⟨0, hx⟩
    · have hx0 : x ≠ 0 := fun e => by rw [e, h0] at hn; cases hn
      have hnot : ¬ x ∈ vis := fun hm => by
        obtain ⟨d, hd1, m, e1, e2⟩ := hr x hm
        rw [hn] at e1
        cases e1
        have hp0 : n.par ≠ 0 := fun e => by
          rw [e] at e2
          cases d with
          | zero => exact hx0 (show (0 : Int) = x from e2).symm
          | succ d => obtain ⟨m', e3, -⟩ := e2; rw [h0] at e3; cases e3
        have := hno x n hn hp0
        have hlen := nodup_sub (m := ns.map Nd.id) hd (fun y hy => by
          obtain ⟨n, hn⟩ := hv y hy
          exact List.mem_map.2 ⟨n, (nd_some hn).1, (nd_some hn).2⟩)
        simp at hlen
        rw [Rch.wiP hx0 h0 e2 (by omega)] at this
        cases this
      obtain ⟨k, hk⟩ := ih (x :: vis) n.par (by simp; omega) (List.nodup_cons.2 ⟨hnot, hd⟩) (fun v hm => by
        rcases List.mem_cons.1 hm with rfl | hm
        · exact ⟨n, hn⟩
        · exact hv v hm) (fun v hm => by
        rcases List.mem_cons.1 hm with rfl | hm
        · exact ⟨0, by simp, n, hn, rfl⟩
        · obtain ⟨d, d1, d2⟩ := hr v hm
          exact ⟨d + 1, by simp; omega, d2.snoc hn⟩) (by
        by_cases hp : n.par = 0
        · exact Or.inl hp
        · exact Or.inr (hpar x n hn hp))
      exact ⟨k + 1, out_nd.2 (Or.inr ⟨n, hn, hk⟩)⟩

theorem up_steps {ns : List Nd} (h : ∀ (i : Nat) (n : Nd), ns[i]? = some n → 0 < i → ∀ m, ns[i - 1]? = some m → m.id < n.id) : Up ns := by
  intro i j a b hij ha hb
  induction j generalizing b with
  | zero => omega
  | succ j ih =>
    have hj : j < ns.length := by
      have := (List.getElem?_eq_some_iff.1 hb).1
      omega
    have hc : ns[j]? = some ns[j] := List.getElem?_eq_getElem hj
    have h1 := h (j + 1) b hb (by omega) ns[j] (by simp)
    by_cases e : i = j
    · subst e
      rw [ha] at hc
      cases hc
      exact h1
    · have := ih ns[j] (by omega) hc
      omega

theorem pn_ok {s : Ds} (hx : 1 ≤ s.next ∧ s.next ≤ 2147483647) (hl : s.nodes.length ≤ 1024) (h : ∀ i n, s.nodes[i]? = some n → PN s i n) (hr : RootOk s) : OkD s := by
  have hm : ∀ n ∈ s.nodes, ∃ i, PN s i n := fun n hn => by
    obtain ⟨i, hi, rfl⟩ := List.getElem_of_mem hn
    exact ⟨i, h i _ (List.getElem?_eq_getElem hi)⟩
  have hu : Up s.nodes := up_steps fun i n hi h0 m hp => (h i n hi).up h0 m hp
  have h0 : nd s.nodes 0 = none := by
    cases e : nd s.nodes 0 with
    | none => rfl
    | some n =>
      obtain ⟨h1, h2⟩ := nd_some e
      obtain ⟨i, h3⟩ := hm n h1
      have := h3.lo
      omega
  have hpar : ∀ x n, nd s.nodes x = some n → n.par ≠ 0 → ∃ m, nd s.nodes n.par = some m := fun x n hn hp => by
    obtain ⟨i, h3⟩ := hm n (nd_some hn).1
    obtain ⟨q, m, h4, h5, -⟩ := h3.par hp
    exact ⟨m, at_nd h4 h5⟩
  have hk : ∀ n ∈ s.nodes, fewB n = true ∧ kidsB s.nodes n = true := fun n hn => by
    obtain ⟨i, h3⟩ := hm n hn
    have := h3.kids
    simpa using this
  refine ⟨⟨hu, fun n hn => (hm n hn).elim fun i h3 => h3.lo, fun n hn => (hm n hn).elim fun i h3 => alone_few (hk n hn).1 h3.plain, fun n hn => (kidsB_iff.1 (hk n hn).2).1, fun n hn => (kidsB_iff.1 (hk n hn).2).2, fun n hn hp => ?_, fun n hn => ?_⟩, hx, hl, fun n hn => (hm n hn).elim fun i h3 => h3.hi, hr⟩
  · obtain ⟨i, h3⟩ := hm n hn
    obtain ⟨q, m, h4, h5, h6, -⟩ := h3.par hp
    exact ⟨m, at_nd h4 h5, h6⟩
  · refine out_noloop h0 hpar (fun x n hn hp => ?_) (s.nodes.length + 1) [] n.id (by simp) (by simp) (fun v hv => by cases hv) (fun v hv => by cases hv) (Or.inr ⟨n, nd_of hu hn⟩)
    obtain ⟨i, h3⟩ := hm n (nd_some hn).1
    obtain ⟨q, m, -, -, -, h6⟩ := h3.par hp
    unfold loopB at h6
    have : (n.par != 0) = true := by simpa using hp
    rw [this, Bool.true_and, (nd_some hn).2] at h6
    exact h6

theorem chk_bad {s : Ds} (h : ¬ OkD s) : chkD s = 9 := by
  unfold chkD
  rw [if_neg (fun h' => h (okD_iff.1 h'))]

theorem chk_ok {s : Ds} (h : OkD s) : chkD s = 0 := by
  unfold chkD
  rw [if_pos (okD_iff.2 h)]

theorem ixI_mem {l : List Int} {x : Int} (h : x ∈ l) : ∃ j : Nat, ixI l x = (j : Int) := by
  unfold ixI
  cases e : ixZ l x with
  | none => exact absurd h (ixZ_none.1 e)
  | some j => exact ⟨j, rfl⟩

theorem ixI_not {l : List Int} {x : Int} (h : ¬ x ∈ l) : ixI l x = -1 := by
  unfold ixI
  rw [ixZ_none.2 h]

theorem pn_next {s : Ds} {i : Nat} {m : Nd} (hT : ∀ j n, j < i → s.nodes[j]? = some n → PN s j n) (hm : s.nodes[i]? = some m) (h : PN s i m) : ∀ j n, j < i + 1 → s.nodes[j]? = some n → PN s j n := by
  intro j n hj hn
  by_cases e : j = i
  · subst e
    rw [hm] at hn
    cases hn
    exact h
  · exact hT j n (by omega) hn
end Do

set_option maxRecDepth 100000 in
set_option maxHeartbeats 6400000 in
theorem rcheckD_any (s : Ds) (a : Option Addr) (c : Nat) (w : World) (hs : DsIs w s a c) :
    Calls Tryz.prog 17 #[.agg #[.slice a s.nodes.length c, .int .i64 s.root, .int .i64 s.next]] w fun e w' => e = .returned (.int .i64 (chkD s)) ∧ Below w.heap.size w w' := by
  have HS : Hid (DsIs w s a c) := hs
  have HL : Hid (LayN w a s.nodes) := hs.lay
  have HPL : Hid (∀ W z, Below w.heap.size w W → Calls Tryz.prog 22 #[.agg #[.slice a s.nodes.length c, .int .i64 s.root, .int .i64 s.next], .int .i64 z] W fun e w' => e = .returned (.int .i64 (plI s.nodes z)) ∧ Below W.heap.size W w') := fun W z hb => rplace_any s z a c W (hs.below hb)
  obtain ⟨ns, root, next⟩ := s
  simp only at *
  clear hs
  have X1 : Hid ((w.alloc (.cells #[.slice a ns.length c, .int .i64 root, .int .i64 next] 24)).heap[w.heap.size]? = some (.cells #[.slice a ns.length c, .int .i64 root, .int .i64 next] 24 (0, 0))) := heap_alloc_new _ _
  have B1 : Hid (Below w.heap.size w (w.alloc (.cells #[.slice a ns.length c, .int .i64 root, .int .i64 next] 24))) := below_one _ _
  by_cases hx1 : next < 1
  · have HR : Hid (chkD ⟨ns, root, next⟩ = 9) := chk_bad fun h => by have : 1 ≤ next := h.nx.1; omega
    have g1 : decide (next < 1) = true := by simpa using hx1
    go_enter Tryz.func17, Tryz.ntmps17
    go_wp2_with fail
    go_ret
    exact ⟨by rw [HR.out]; rfl, B1.out⟩
  by_cases hx2 : 2147483647 < next
  · have HR : Hid (chkD ⟨ns, root, next⟩ = 9) := chk_bad fun h => by have : next ≤ 2147483647 := h.nx.2; omega
    have g1 : decide (next < 1) = false := by simpa using hx1
    have g2 : decide (2147483647 < next) = true := by simpa using hx2
    go_enter Tryz.func17, Tryz.ntmps17
    go_wp2_with fail
    go_ret
    exact ⟨by rw [HR.out]; rfl, B1.out⟩
  by_cases hlen : 1024 < ns.length
  · have HR : Hid (chkD ⟨ns, root, next⟩ = 9) := chk_bad fun h => by have : ns.length ≤ 1024 := h.len; omega
    have g1 : decide (next < 1) = false := by simpa using hx1
    have g2 : decide (2147483647 < next) = false := by simpa using hx2
    have g3 : decide (1024 < ns.length) = true := by simpa using hlen
    go_enter Tryz.func17, Tryz.ntmps17
    go_wp2_with fail
    go_ret
    exact ⟨by rw [HR.out]; rfl, B1.out⟩
  have g1 : decide (next < 1) = false := by simpa using hx1
  have g2 : decide (2147483647 < next) = false := by simpa using hx2
  have g3 : decide (1024 < ns.length) = false := by simpa using hlen
  have hx1 : 1 ≤ next := by omega
  have hx2 : next ≤ 2147483647 := by omega
  have hlen : ns.length ≤ 1024 := by omega
  go_enter Tryz.func17, Tryz.ntmps17
  go_wp2_with fail
  clear g1 g2 g3
  generalize w.alloc (.cells #[.slice a ns.length c, .int .i64 root, .int .i64 next] 24) = W1 at *
  go_loopw [3, 4, 5] (fun v3 _ _ wr => ∃ i : Nat, i ≤ ns.length ∧ v3 = .int .i64 (i : Int) ∧ Hid (∀ j n, j < i → ns[j]? = some n → PN ⟨ns, root, next⟩ j n) ∧ Hid (Below W1.heap.size W1 wr)) (fun v3 _ _ _ => ns.length - (intOf v3).toNat)
  case atStart => exact ⟨0, Nat.zero_le _, rfl, (fun j n h => by omega), Below.refl _ _⟩
  case round =>
    obtain ⟨i, hi, rfl, HT, HB⟩ := hrel
    have BW : Hid (Below w.heap.size w wr) := nxt B1.out HB.out
    obtain ⟨q0, q1, q2⟩ := three ((HB.out.block _ (lt_of_block X1.out)).trans X1.out)
    by_cases hlt : i < ns.length
    · obtain ⟨m, hm⟩ : ∃ m, ns[i]? = some m := ⟨_, List.getElem?_eq_getElem hlt⟩
      obtain ⟨b, o, aa, ac, ka, kc, ha, hN⟩ := HL.out.below BW.out i m hm
      have HM : Hid (ns[i]? = some m) := hm
      subst ha
      have r0 := hN.c0
      have r1 := hN.c1
      have r2 := hN.c2
      have r3 := hN.c3
      have r4 := hN.c4
      have r5 := hN.c5
      have r6 := hN.c6
      have HN : Hid (FitN m aa ac ka kc ∧ LayA wr aa m.ats ∧ LayZ wr ka m.kids) := ⟨hN.fit, hN.ats, hN.kids⟩
      obtain ⟨wq, hwq⟩ : ∃ W : World, W = wr.alloc (.cells #[.int .i64 m.id, .int .i64 m.par, .string m.tag, .string m.key, .string m.txt, .slice aa m.ats.length ac, .slice ka m.kids.length kc] 56) := ⟨_, rfl⟩
      have HWQ : Hid (wr.alloc (.cells #[.int .i64 m.id, .int .i64 m.par, .string m.tag, .string m.key, .string m.txt, .slice aa m.ats.length ac, .slice ka m.kids.length kc] 56) = wq) := hwq.symm
      have HQ : Hid (Below wr.heap.size wr wq) := by show Below _ _ _; rw [hwq]; exact below_one _ _
      have XQ : Hid (wq.heap[wr.heap.size]? = some (.cells #[.int .i64 m.id, .int .i64 m.par, .string m.tag, .string m.key, .string m.txt, .slice aa m.ats.length ac, .slice ka m.kids.length kc] 56 (0, 0))) := by show _ = _; rw [hwq]; exact heap_alloc_new _ _
      have BQ : Hid (Below w.heap.size w wq) := nxt BW.out HQ.out
      have HBQ : Hid (Below W1.heap.size W1 wq) := nxt HB.out HQ.out
      obtain ⟨d0, d1, d2, d3, d4, d5, d6⟩ := seven XQ.out
      have e0 := fun z : Cls wq => Cls.cell d0 z
      have e1 := fun z : Cls wq => Cls.cell d1 z
      have e2 := fun z : Cls wq => Cls.cell d2 z
      have e3 := fun z : Cls wq => Cls.cell d3 z
      have e4 := fun z : Cls wq => Cls.cell d4 z
      have e5 := fun z : Cls wq => Cls.cell d5 z
      have e6 := fun z : Cls wq => Cls.cell d6 z
      have s0 := fun z : Cls wq => Cls.cell (keepc HQ.out _ _ q0) z
      have s1 := fun z : Cls wq => Cls.cell (keepc HQ.out _ _ q1) z
      have s2 := fun z : Cls wq => Cls.cell (keepc HQ.out _ _ q2) z
      have inst : Nonempty (Cls wq) := ⟨⟨_, Below.refl _ _⟩⟩
      have CP : Hid (∀ z : Cls wq, Calls Tryz.prog 46 #[.string m.tag, .string m.key, .string m.txt, .slice aa m.ats.length ac] z.1 fun e w' => e = .returned (.bool (plainB m.tag m.key m.txt m.ats)) ∧ Below z.1.heap.size z.1 w') := fun z => rplain_any m.tag m.key m.txt m.ats aa ac 0 z.1 (HN.out.2.1.below (nxt HQ.out z.2)) HN.out.1.node
      have CK : Hid (∀ z : Cls wq, Calls Tryz.prog 47 #[.agg #[.slice (some ⟨b, o, none⟩) ns.length c, .int .i64 root, .int .i64 next], .agg #[.int .i64 m.id, .int .i64 m.par, .string m.tag, .string m.key, .string m.txt, .slice aa m.ats.length ac, .slice ka m.kids.length kc]] z.1 fun e w' => e = .returned (.bool (fewB m && kidsB ns m)) ∧ Below z.1.heap.size z.1 w') := fun z => rkids_any ⟨ns, root, next⟩ m aa ac ka kc _ c z.1 (HS.out.below (nxt BQ.out z.2)) HN.out.1 (HN.out.2.2.below (nxt HQ.out z.2))
      clear hN hwq d0 d1 d2 d3 d4 d5 d6 hm
      by_cases h1 : m.id < 1
      · have g1 : decide (m.id < 1) = true := by simpa using h1
        have HR : Hid (chkD ⟨ns, root, next⟩ = 9) := chk_bad fun h => by have := (ok_pn h HM.out).lo; omega
        go_wp2_with fail
        clear r0 r1 r2 r3 r4 r5 r6
        rw [HWQ.out]
        refine wp_region_cls (by kernel_rfl) (by kernel_rfl) ?_
        repeat (go_big_quiet_step (fail))
        refine wpQuiet_nil ?_
        intro _ hw'
        obtain ⟨z, hw''⟩ := hw'
        subst hw''
        go_wp2_with fail
        go_ret
        exact ⟨by rw [HR.out]; rfl, nxt BQ.out z.2⟩
      have g1 : decide (m.id < 1) = false := by simpa using h1
      by_cases h2 : next ≤ m.id
      · have g2 : decide (next ≤ m.id) = true := by simpa using h2
        have HR : Hid (chkD ⟨ns, root, next⟩ = 9) := chk_bad fun h => by have : m.id < next := (ok_pn h HM.out).hi; omega
        go_wp2_with fail
        clear r0 r1 r2 r3 r4 r5 r6
        rw [HWQ.out]
        refine wp_region_cls (by kernel_rfl) (by kernel_rfl) ?_
        repeat (go_big_quiet_step (fail))
        refine wpQuiet_nil ?_
        intro _ hw'
        obtain ⟨z, hw''⟩ := hw'
        subst hw''
        go_wp2_with fail
        go_ret
        exact ⟨by rw [HR.out]; rfl, nxt BQ.out z.2⟩
      have g2 : decide (next ≤ m.id) = false := by simpa using h2
      by_cases hi0 : i = 0
      · subst hi0
        simp only [Nat.zero_mul, Nat.add_zero] at r0 r1 r2 r3 r4 r5 r6
        have HUP : Hid (0 < 0 → ∀ m', ns[0 - 1]? = some m' → m'.id < m.id) := fun h => by omega
        cases hp : plainB m.tag m.key m.txt m.ats with
        | false =>
          have HR : Hid (chkD ⟨ns, root, next⟩ = 9) := chk_bad fun h => by have := (ok_pn h HM.out).plain; rw [hp] at this; cases this
          rw [hp] at CP
          go_wp2_with fail
          clear r0 r1 r2 r3 r4 r5 r6
          rw [HWQ.out]
          refine wp_region_cls (by kernel_rfl) (by kernel_rfl) ?_
          repeat (go_big_quiet_step ((first | (go_at_call 46; exact Calls.cls (CP.out _)) | (go_at_call 47; exact Calls.cls (CK.out _)))))
          refine wpQuiet_nil ?_
          intro _ hw'
          obtain ⟨z, hw''⟩ := hw'
          subst hw''
          go_wp2_with fail
          go_ret
          exact ⟨by rw [HR.out]; rfl, nxt BQ.out z.2⟩
        | true =>
          cases hk : (fewB m && kidsB ns m) with
          | false =>
            have HR : Hid (chkD ⟨ns, root, next⟩ = 9) := chk_bad fun h => by have := (ok_pn h HM.out).kids; rw [hk] at this; cases this
            rw [hp] at CP
            rw [hk] at CK
            go_wp2_with fail
            clear r0 r1 r2 r3 r4 r5 r6
            rw [HWQ.out]
            refine wp_region_cls (by kernel_rfl) (by kernel_rfl) ?_
            repeat (go_big_quiet_step ((first | (go_at_call 46; exact Calls.cls (CP.out _)) | (go_at_call 47; exact Calls.cls (CK.out _)))))
            refine wpQuiet_nil ?_
            intro _ hw'
            obtain ⟨z, hw''⟩ := hw'
            subst hw''
            go_wp2_with fail
            go_ret
            exact ⟨by rw [HR.out]; rfl, nxt BQ.out z.2⟩
          | true =>
            rw [hp] at CP
            rw [hk] at CK
            by_cases h0 : m.par = 0
            · have g0 : (m.par != 0) = false := by simpa using h0
              have HT' : Hid (∀ j n, j < 0 + 1 → ns[j]? = some n → PN ⟨ns, root, next⟩ j n) := pn_next (s := ⟨ns, root, next⟩) HT.out HM.out ⟨by omega, by show m.id < next; omega, HUP.out, hp, hk, fun h => absurd h0 h⟩
              clear h0
              go_wp2_with fail
              clear r0 r1 r2 r3 r4 r5 r6
              rw [HWQ.out]
              refine wp_region_cls (by kernel_rfl) (by kernel_rfl) ?_
              repeat (go_big_quiet_step ((first | (go_at_call 46; exact Calls.cls (CP.out _)) | (go_at_call 47; exact Calls.cls (CK.out _)))))
              refine wpQuiet_nil ?_
              intro _ hw'
              obtain ⟨z, hw''⟩ := hw'
              subst hw''
              have u1 := e1 z
              clear e0 e1 e2 e3 e4 e5 e6 s0 s1 s2 CP CK
              clear hp hk
              go_wp2_with fail
              go_roundw
              case rel => exact ⟨0 + 1, by omega, by go_num, HT'.out, nxt HBQ.out z.2⟩
              case measure => simp [intOf]; omega
            · have g0 : (m.par != 0) = true := by simpa using h0
              go_wp2_with fail
              clear r0 r1 r2 r3 r4 r5 r6
              rw [HWQ.out]
              refine wp_region_cls (by kernel_rfl) (by kernel_rfl) ?_
              repeat (go_big_quiet_step ((first | (go_at_call 46; exact Calls.cls (CP.out _)) | (go_at_call 47; exact Calls.cls (CK.out _)))))
              refine wpQuiet_nil ?_
              intro _ hw'
              obtain ⟨z, hw''⟩ := hw'
              subst hw''
              have u1 := e1 z
              have y0 := s0 z
              have y1 := s1 z
              have y2 := s2 z
              clear e0 e1 e2 e3 e4 e5 e6 s0 s1 s2 CP CK
              have BZ : Hid (Below w.heap.size w z.1) := nxt BQ.out z.2
              have BL : Hid (Below W1.heap.size W1 z.1) := nxt HBQ.out z.2
              have XZ : Hid (z.1.heap[wr.heap.size]? = _) := (z.2.block _ (lt_of_block XQ.out)).trans XQ.out
              generalize z.1 = wz at *
              have HC : Hid (Calls Tryz.prog 22 #[.agg #[.slice (some ⟨b, o, none⟩) ns.length c, .int .i64 root, .int .i64 next], .int .i64 m.par] wz _) := HPL.out wz m.par BZ.out
              cases hq : pl ns m.par with
              | none =>
                have HR : Hid (chkD ⟨ns, root, next⟩ = 9) := chk_bad fun h => by obtain ⟨q, m', k1, -⟩ := (ok_pn h HM.out).par h0; rw [show pl ns m.par = some q from k1] at hq; cases hq
                rw [plI_none hq] at HC
                go_wp2_with fail
                refine HC.out.mono ?_
                rintro e w5 ⟨rfl, hb5⟩
                clear u1 y0 y1 y2
                go_wp2_with fail
                go_big_quiet (fail)
                go_wp2_with fail
                go_ret
                exact ⟨by rw [HR.out]; rfl, nxt (nxt BZ.out hb5) (Below_drewN _ _ _)⟩
              | some q =>
                rw [plI_some hq] at HC
                obtain ⟨m2, hm2, -⟩ := pl_some hq
                have HM2 : Hid (ns[q]? = some m2 ∧ pl ns m.par = some q) := ⟨hm2, hq⟩
                have hql : q < ns.length := (List.getElem?_eq_some_iff.1 hm2).1
                have gq : decide ((q : Int) < 0) = false := decide_eq_false (by omega)
                go_wp2_with fail
                refine HC.out.mono ?_
                rintro e w5 ⟨rfl, hb5⟩
                have B5 : Hid (Below w.heap.size w w5) := nxt BZ.out hb5
                have BL5 : Hid (Below W1.heap.size W1 w5) := nxt BL.out hb5
                have x1 := fun z : Cls w5 => Cls.cell (keepc hb5 _ _ y0) z
                have x2 := fun z : Cls w5 => Cls.cell (keepc hb5 _ _ y1) z
                have x3 := fun z : Cls w5 => Cls.cell (keepc hb5 _ _ y2) z
                obtain ⟨d0, d1, d2, d3, d4, d5, d6⟩ := seven ((hb5.block _ (lt_of_block XZ.out)).trans XZ.out)
                have f0 := fun z : Cls w5 => Cls.cell d0 z
                have f1 := fun z : Cls w5 => Cls.cell d1 z
                have f2 := fun z : Cls w5 => Cls.cell d2 z
                have f3 := fun z : Cls w5 => Cls.cell d3 z
                have f4 := fun z : Cls w5 => Cls.cell d4 z
                have f5 := fun z : Cls w5 => Cls.cell d5 z
                have f6 := fun z : Cls w5 => Cls.cell d6 z
                obtain ⟨b2, o2, a2, ac2, k2, kc2, ha2, hN2⟩ := HL.out.below B5.out q m2 hm2
                cases ha2
                have c6 := fun z : Cls w5 => Cls.cell hN2.c6 z
                have inst : Nonempty (Cls w5) := ⟨⟨_, Below.refl _ _⟩⟩
                have CI : Hid (∀ z : Cls w5, Calls Tryz.prog 48 #[.slice k2 m2.kids.length kc2, .int .i64 m.id] z.1 fun e w' => e = .returned (.int .i64 (ixI m2.kids m.id)) ∧ Below z.1.heap.size z.1 w') := fun z => (rin_any m2.kids m.id k2 kc2 z.1 (hN2.kids.below z.2) (by have := hN2.fit.kids.2.2.1; omega)).mono fun e w' h => ⟨h.1, by rw [h.2]; exact Below.refl _ _⟩
                have CL : Hid (∀ z : Cls w5, Calls Tryz.prog 49 #[.agg #[.slice (some ⟨b, o, none⟩) ns.length c, .int .i64 root, .int .i64 next], .agg #[.int .i64 m.id, .int .i64 m.par, .string m.tag, .string m.key, .string m.txt, .slice aa m.ats.length ac, .slice ka m.kids.length kc]] z.1 fun e w' => e = .returned (.bool (loopB ns m)) ∧ Below z.1.heap.size z.1 w') := fun z => rloops_any ⟨ns, root, next⟩ m aa m.ats.length ac ka m.kids.length kc _ c z.1 (HS.out.below (nxt B5.out z.2))
                clear u1 y0 y1 y2 hb5 d0 d1 d2 d3 d4 d5 d6 hN2
                by_cases hin : m.id ∈ m2.kids
                · obtain ⟨j, hj⟩ := ixI_mem hin
                  rw [hj] at CI
                  have gj : decide ((j : Int) < 0) = false := decide_eq_false (by omega)
                  cases hl : loopB ns m with
                  | true =>
                    have HR : Hid (chkD ⟨ns, root, next⟩ = 9) := chk_bad fun h => by obtain ⟨_, _, _, _, _, k4⟩ := (ok_pn h HM.out).par h0; rw [show loopB ns m = false from k4] at hl; cases hl
                    rw [hl] at CL
                    clear hm2 hq h0 hin hj hp hk hl
                    go_wp2_with fail
                    refine wp_region_cls (by kernel_rfl) (by kernel_rfl) ?_
                    repeat (go_big_quiet_step ((first | (go_at_call 48; exact Calls.cls (CI.out _)) | (go_at_call 49; exact Calls.cls (CL.out _)))))
                    refine wpQuiet_nil ?_
                    intro _ hw'
                    obtain ⟨z, hw''⟩ := hw'
                    subst hw''
                    go_wp2_with fail
                    go_ret
                    exact ⟨by rw [HR.out]; rfl, nxt B5.out z.2⟩
                  | false =>
                    have HT' : Hid (∀ j n, j < 0 + 1 → ns[j]? = some n → PN ⟨ns, root, next⟩ j n) := pn_next (s := ⟨ns, root, next⟩) HT.out HM.out ⟨by omega, by show m.id < next; omega, HUP.out, hp, hk, fun _ => ⟨q, m2, hq, hm2, hin, hl⟩⟩
                    rw [hl] at CL
                    clear hm2 hq h0 hin hj hp hk hl
                    go_wp2_with fail
                    refine wp_region_cls (by kernel_rfl) (by kernel_rfl) ?_
                    repeat (go_big_quiet_step ((first | (go_at_call 48; exact Calls.cls (CI.out _)) | (go_at_call 49; exact Calls.cls (CL.out _)))))
                    refine wpQuiet_nil ?_
                    intro _ hw'
                    obtain ⟨z, hw''⟩ := hw'
                    subst hw''
                    go_wp2_with fail
                    go_roundw
                    case rel => exact ⟨0 + 1, by omega, by go_num, HT'.out, nxt BL5.out z.2⟩
                    case measure => simp [intOf]; omega
                · have hj := ixI_not hin
                  rw [hj] at CI
                  have HR : Hid (chkD ⟨ns, root, next⟩ = 9) := chk_bad fun h => by obtain ⟨q', m', k1, k2, k3, -⟩ := (ok_pn h HM.out).par h0; rw [show pl ns m.par = some q' from k1] at hq; cases hq; rw [show ns[q]? = some m' from k2] at hm2; cases hm2; exact hin k3
                  clear hm2 hq h0 hin hj hp hk
                  go_wp2_with fail
                  refine wp_region_cls (by kernel_rfl) (by kernel_rfl) ?_
                  repeat (go_big_quiet_step ((first | (go_at_call 48; exact Calls.cls (CI.out _)) | (go_at_call 49; exact Calls.cls (CL.out _)))))
                  refine wpQuiet_nil ?_
                  intro _ hw'
                  obtain ⟨z, hw''⟩ := hw'
                  subst hw''
                  go_wp2_with fail
                  go_ret
                  exact ⟨by rw [HR.out]; rfl, nxt B5.out z.2⟩
      · have g3 : decide ((0 : Int) < (i : Int)) = true := by simp; omega
        have g3' : decide (0 < i) = true := by simp; omega
        have hp1 : i - 1 < ns.length := by omega
        obtain ⟨pm, hpm⟩ : ∃ pm, ns[i - 1]? = some pm := ⟨_, List.getElem?_eq_getElem hp1⟩
        obtain ⟨pb, po, paa, pac, pka, pkc, hpa, hPN⟩ := HL.out.below BQ.out (i - 1) pm hpm
        cases hpa
        have x0 := fun z : Cls wq => Cls.cell hPN.c0 z
        clear hPN
        have hi1 : ((i : Int) - 1) = ((i - 1 : Nat) : Int) := by omega
        by_cases h3 : m.id ≤ pm.id
        · have g4 : decide (m.id ≤ pm.id) = true := by simpa using h3
          have HR : Hid (chkD ⟨ns, root, next⟩ = 9) := chk_bad fun h => by have := (ok_pn h HM.out).up (by omega) pm hpm; omega
          go_wp2_with fail
          clear r0 r1 r2 r3 r4 r5 r6
          rw [HWQ.out]
          refine wp_region_cls (by kernel_rfl) (by kernel_rfl) ?_
          repeat (go_big_quiet_step (fail))
          refine wpQuiet_nil ?_
          intro _ hw'
          obtain ⟨z, hw''⟩ := hw'
          subst hw''
          go_wp2_with fail
          go_ret
          exact ⟨by rw [HR.out]; rfl, nxt BQ.out z.2⟩
        have g4 : decide (m.id ≤ pm.id) = false := by simpa using h3
        have HUP : Hid (0 < i → ∀ m', ns[i - 1]? = some m' → m'.id < m.id) := fun _ m' h => by rw [hpm] at h; cases h; omega
        cases hp : plainB m.tag m.key m.txt m.ats with
        | false =>
          have HR : Hid (chkD ⟨ns, root, next⟩ = 9) := chk_bad fun h => by have := (ok_pn h HM.out).plain; rw [hp] at this; cases this
          rw [hp] at CP
          go_wp2_with fail
          clear r0 r1 r2 r3 r4 r5 r6
          rw [HWQ.out]
          refine wp_region_cls (by kernel_rfl) (by kernel_rfl) ?_
          repeat (go_big_quiet_step ((first | (go_at_call 46; exact Calls.cls (CP.out _)) | (go_at_call 47; exact Calls.cls (CK.out _)))))
          refine wpQuiet_nil ?_
          intro _ hw'
          obtain ⟨z, hw''⟩ := hw'
          subst hw''
          go_wp2_with fail
          go_ret
          exact ⟨by rw [HR.out]; rfl, nxt BQ.out z.2⟩
        | true =>
          cases hk : (fewB m && kidsB ns m) with
          | false =>
            have HR : Hid (chkD ⟨ns, root, next⟩ = 9) := chk_bad fun h => by have := (ok_pn h HM.out).kids; rw [hk] at this; cases this
            rw [hp] at CP
            rw [hk] at CK
            go_wp2_with fail
            clear r0 r1 r2 r3 r4 r5 r6
            rw [HWQ.out]
            refine wp_region_cls (by kernel_rfl) (by kernel_rfl) ?_
            repeat (go_big_quiet_step ((first | (go_at_call 46; exact Calls.cls (CP.out _)) | (go_at_call 47; exact Calls.cls (CK.out _)))))
            refine wpQuiet_nil ?_
            intro _ hw'
            obtain ⟨z, hw''⟩ := hw'
            subst hw''
            go_wp2_with fail
            go_ret
            exact ⟨by rw [HR.out]; rfl, nxt BQ.out z.2⟩
          | true =>
            rw [hp] at CP
            rw [hk] at CK
            by_cases h0 : m.par = 0
            · have g0 : (m.par != 0) = false := by simpa using h0
              have HT' : Hid (∀ j n, j < i + 1 → ns[j]? = some n → PN ⟨ns, root, next⟩ j n) := pn_next (s := ⟨ns, root, next⟩) HT.out HM.out ⟨by omega, by show m.id < next; omega, HUP.out, hp, hk, fun h => absurd h0 h⟩
              clear h0
              go_wp2_with fail
              clear r0 r1 r2 r3 r4 r5 r6
              rw [HWQ.out]
              refine wp_region_cls (by kernel_rfl) (by kernel_rfl) ?_
              repeat (go_big_quiet_step ((first | (go_at_call 46; exact Calls.cls (CP.out _)) | (go_at_call 47; exact Calls.cls (CK.out _)))))
              refine wpQuiet_nil ?_
              intro _ hw'
              obtain ⟨z, hw''⟩ := hw'
              subst hw''
              have u1 := e1 z
              clear e0 e1 e2 e3 e4 e5 e6 s0 s1 s2 CP CK
              clear hp hk
              go_wp2_with fail
              go_roundw
              case rel => exact ⟨i + 1, by omega, by go_num, HT'.out, nxt HBQ.out z.2⟩
              case measure => simp [intOf]; omega
            · have g0 : (m.par != 0) = true := by simpa using h0
              go_wp2_with fail
              clear r0 r1 r2 r3 r4 r5 r6
              rw [HWQ.out]
              refine wp_region_cls (by kernel_rfl) (by kernel_rfl) ?_
              repeat (go_big_quiet_step ((first | (go_at_call 46; exact Calls.cls (CP.out _)) | (go_at_call 47; exact Calls.cls (CK.out _)))))
              refine wpQuiet_nil ?_
              intro _ hw'
              obtain ⟨z, hw''⟩ := hw'
              subst hw''
              have u1 := e1 z
              have y0 := s0 z
              have y1 := s1 z
              have y2 := s2 z
              clear e0 e1 e2 e3 e4 e5 e6 s0 s1 s2 CP CK
              have BZ : Hid (Below w.heap.size w z.1) := nxt BQ.out z.2
              have BL : Hid (Below W1.heap.size W1 z.1) := nxt HBQ.out z.2
              have XZ : Hid (z.1.heap[wr.heap.size]? = _) := (z.2.block _ (lt_of_block XQ.out)).trans XQ.out
              generalize z.1 = wz at *
              have HC : Hid (Calls Tryz.prog 22 #[.agg #[.slice (some ⟨b, o, none⟩) ns.length c, .int .i64 root, .int .i64 next], .int .i64 m.par] wz _) := HPL.out wz m.par BZ.out
              cases hq : pl ns m.par with
              | none =>
                have HR : Hid (chkD ⟨ns, root, next⟩ = 9) := chk_bad fun h => by obtain ⟨q, m', k1, -⟩ := (ok_pn h HM.out).par h0; rw [show pl ns m.par = some q from k1] at hq; cases hq
                rw [plI_none hq] at HC
                go_wp2_with fail
                refine HC.out.mono ?_
                rintro e w5 ⟨rfl, hb5⟩
                clear u1 y0 y1 y2
                go_wp2_with fail
                go_big_quiet (fail)
                go_wp2_with fail
                go_ret
                exact ⟨by rw [HR.out]; rfl, nxt (nxt BZ.out hb5) (Below_drewN _ _ _)⟩
              | some q =>
                rw [plI_some hq] at HC
                obtain ⟨m2, hm2, -⟩ := pl_some hq
                have HM2 : Hid (ns[q]? = some m2 ∧ pl ns m.par = some q) := ⟨hm2, hq⟩
                have hql : q < ns.length := (List.getElem?_eq_some_iff.1 hm2).1
                have gq : decide ((q : Int) < 0) = false := decide_eq_false (by omega)
                go_wp2_with fail
                refine HC.out.mono ?_
                rintro e w5 ⟨rfl, hb5⟩
                have B5 : Hid (Below w.heap.size w w5) := nxt BZ.out hb5
                have BL5 : Hid (Below W1.heap.size W1 w5) := nxt BL.out hb5
                have x1 := fun z : Cls w5 => Cls.cell (keepc hb5 _ _ y0) z
                have x2 := fun z : Cls w5 => Cls.cell (keepc hb5 _ _ y1) z
                have x3 := fun z : Cls w5 => Cls.cell (keepc hb5 _ _ y2) z
                obtain ⟨d0, d1, d2, d3, d4, d5, d6⟩ := seven ((hb5.block _ (lt_of_block XZ.out)).trans XZ.out)
                have f0 := fun z : Cls w5 => Cls.cell d0 z
                have f1 := fun z : Cls w5 => Cls.cell d1 z
                have f2 := fun z : Cls w5 => Cls.cell d2 z
                have f3 := fun z : Cls w5 => Cls.cell d3 z
                have f4 := fun z : Cls w5 => Cls.cell d4 z
                have f5 := fun z : Cls w5 => Cls.cell d5 z
                have f6 := fun z : Cls w5 => Cls.cell d6 z
                obtain ⟨b2, o2, a2, ac2, k2, kc2, ha2, hN2⟩ := HL.out.below B5.out q m2 hm2
                cases ha2
                have c6 := fun z : Cls w5 => Cls.cell hN2.c6 z
                have inst : Nonempty (Cls w5) := ⟨⟨_, Below.refl _ _⟩⟩
                have CI : Hid (∀ z : Cls w5, Calls Tryz.prog 48 #[.slice k2 m2.kids.length kc2, .int .i64 m.id] z.1 fun e w' => e = .returned (.int .i64 (ixI m2.kids m.id)) ∧ Below z.1.heap.size z.1 w') := fun z => (rin_any m2.kids m.id k2 kc2 z.1 (hN2.kids.below z.2) (by have := hN2.fit.kids.2.2.1; omega)).mono fun e w' h => ⟨h.1, by rw [h.2]; exact Below.refl _ _⟩
                have CL : Hid (∀ z : Cls w5, Calls Tryz.prog 49 #[.agg #[.slice (some ⟨b, o, none⟩) ns.length c, .int .i64 root, .int .i64 next], .agg #[.int .i64 m.id, .int .i64 m.par, .string m.tag, .string m.key, .string m.txt, .slice aa m.ats.length ac, .slice ka m.kids.length kc]] z.1 fun e w' => e = .returned (.bool (loopB ns m)) ∧ Below z.1.heap.size z.1 w') := fun z => rloops_any ⟨ns, root, next⟩ m aa m.ats.length ac ka m.kids.length kc _ c z.1 (HS.out.below (nxt B5.out z.2))
                clear u1 y0 y1 y2 hb5 d0 d1 d2 d3 d4 d5 d6 hN2
                by_cases hin : m.id ∈ m2.kids
                · obtain ⟨j, hj⟩ := ixI_mem hin
                  rw [hj] at CI
                  have gj : decide ((j : Int) < 0) = false := decide_eq_false (by omega)
                  cases hl : loopB ns m with
                  | true =>
                    have HR : Hid (chkD ⟨ns, root, next⟩ = 9) := chk_bad fun h => by obtain ⟨_, _, _, _, _, k4⟩ := (ok_pn h HM.out).par h0; rw [show loopB ns m = false from k4] at hl; cases hl
                    rw [hl] at CL
                    clear hm2 hq h0 hin hj hp hk hl
                    go_wp2_with fail
                    refine wp_region_cls (by kernel_rfl) (by kernel_rfl) ?_
                    repeat (go_big_quiet_step ((first | (go_at_call 48; exact Calls.cls (CI.out _)) | (go_at_call 49; exact Calls.cls (CL.out _)))))
                    refine wpQuiet_nil ?_
                    intro _ hw'
                    obtain ⟨z, hw''⟩ := hw'
                    subst hw''
                    go_wp2_with fail
                    go_ret
                    exact ⟨by rw [HR.out]; rfl, nxt B5.out z.2⟩
                  | false =>
                    have HT' : Hid (∀ j n, j < i + 1 → ns[j]? = some n → PN ⟨ns, root, next⟩ j n) := pn_next (s := ⟨ns, root, next⟩) HT.out HM.out ⟨by omega, by show m.id < next; omega, HUP.out, hp, hk, fun _ => ⟨q, m2, hq, hm2, hin, hl⟩⟩
                    rw [hl] at CL
                    clear hm2 hq h0 hin hj hp hk hl
                    go_wp2_with fail
                    refine wp_region_cls (by kernel_rfl) (by kernel_rfl) ?_
                    repeat (go_big_quiet_step ((first | (go_at_call 48; exact Calls.cls (CI.out _)) | (go_at_call 49; exact Calls.cls (CL.out _)))))
                    refine wpQuiet_nil ?_
                    intro _ hw'
                    obtain ⟨z, hw''⟩ := hw'
                    subst hw''
                    go_wp2_with fail
                    go_roundw
                    case rel => exact ⟨i + 1, by omega, by go_num, HT'.out, nxt BL5.out z.2⟩
                    case measure => simp [intOf]; omega
                · have hj := ixI_not hin
                  rw [hj] at CI
                  have HR : Hid (chkD ⟨ns, root, next⟩ = 9) := chk_bad fun h => by obtain ⟨q', m', k1, k2, k3, -⟩ := (ok_pn h HM.out).par h0; rw [show pl ns m.par = some q' from k1] at hq; cases hq; rw [show ns[q]? = some m' from k2] at hm2; cases hm2; exact hin k3
                  clear hm2 hq h0 hin hj hp hk
                  go_wp2_with fail
                  refine wp_region_cls (by kernel_rfl) (by kernel_rfl) ?_
                  repeat (go_big_quiet_step ((first | (go_at_call 48; exact Calls.cls (CI.out _)) | (go_at_call 49; exact Calls.cls (CL.out _)))))
                  refine wpQuiet_nil ?_
                  intro _ hw'
                  obtain ⟨z, hw''⟩ := hw'
                  subst hw''
                  go_wp2_with fail
                  go_ret
                  exact ⟨by rw [HR.out]; rfl, nxt B5.out z.2⟩
    · have HALL : Hid (∀ j n, ns[j]? = some n → PN ⟨ns, root, next⟩ j n) := fun j n hj => HT.out j n (by have := (List.getElem?_eq_some_iff.1 hj).1; omega) hj
      have HC : Hid (∀ W, Below w.heap.size w W → Calls Tryz.prog 22 #[.agg #[.slice a ns.length c, .int .i64 root, .int .i64 next], .int .i64 root] W _) := fun W hb => HPL.out W root hb
      clear HT
      by_cases h0 : root = 0
      · have g0 : (root != 0) = false := by simpa using h0
        have HR : Hid (chkD ⟨ns, root, next⟩ = 0) := chk_ok (pn_ok ⟨hx1, hx2⟩ hlen HALL.out (Or.inl h0))
        clear h0
        go_wp2_with fail
        go_ret
        exact ⟨by rw [HR.out]; rfl, BW.out⟩
      · have g0 : (root != 0) = true := by simpa using h0
        cases hq : pl ns root with
        | none =>
          rw [plI_none hq] at HC
          have HR : Hid (chkD ⟨ns, root, next⟩ = 9) := chk_bad fun h => by
            rcases h.root with h1 | ⟨m, h1, -⟩
            · exact h0 h1
            · obtain ⟨p, h2, -⟩ := nd_at h1
              rw [show pl ns root = some p from h2] at hq
              cases hq
          go_wp2_with fail
          refine (HC.out _ BW.out).mono ?_
          rintro e w5 ⟨rfl, hb5⟩
          clear q0 q1 q2
          go_wp2_with fail
          go_ret
          exact ⟨by rw [HR.out]; rfl, nxt BW.out hb5⟩
        | some q =>
          rw [plI_some hq] at HC
          obtain ⟨m, hm, -⟩ := pl_some hq
          have hql : q < ns.length := (List.getElem?_eq_some_iff.1 hm).1
          have hnd : nd ns root = some m := at_nd hq hm
          go_wp2_with fail
          refine (HC.out _ BW.out).mono ?_
          rintro e w5 ⟨rfl, hb5⟩
          have B5 : Hid (Below w.heap.size w w5) := nxt BW.out hb5
          have y0 := keepc hb5 _ _ q0
          obtain ⟨b2, o2, a2, ac2, k2, kc2, ha2, hN2⟩ := HL.out.below B5.out q m hm
          subst ha2
          have c1 := hN2.c1
          have c2 := hN2.c2
          clear hb5 q0 q1 q2 hN2
          by_cases ht : m.tag.size = 0
          · have HR : Hid (chkD ⟨ns, root, next⟩ = 9) := chk_bad fun h => by
              rcases h.root with h1 | ⟨m', h1, h2, -⟩
              · exact h0 h1
              · rw [show nd ns root = some m' from h1] at hnd
                cases hnd
                exact h2 ht
            have g1 : m.tag.toList.isEmpty = true := empty_true ht
            clear ht hq hm hnd h0
            go_wp2_with fail
            go_ret
            exact ⟨by rw [HR.out]; rfl, B5.out⟩
          · have g1 : m.tag.toList.isEmpty = false := empty_false ht
            by_cases hp : m.par = 0
            · have HR : Hid (chkD ⟨ns, root, next⟩ = 0) := chk_ok (pn_ok ⟨hx1, hx2⟩ hlen HALL.out (Or.inr ⟨m, hnd, ht, hp⟩))
              have g2 : (m.par != 0) = false := by simpa using hp
              clear ht hq hm hnd h0 hp
              go_wp2_with fail
              go_ret
              exact ⟨by rw [HR.out]; rfl, B5.out⟩
            · have HR : Hid (chkD ⟨ns, root, next⟩ = 9) := chk_bad fun h => by
                rcases h.root with h1 | ⟨m', h1, -, h3⟩
                · exact h0 h1
                · rw [show nd ns root = some m' from h1] at hnd
                  cases hnd
                  exact hp h3
              have g2 : (m.par != 0) = true := by simpa using hp
              clear ht hq hm hnd h0 hp
              go_wp2_with fail
              go_ret
              exact ⟨by rw [HR.out]; rfl, B5.out⟩
end Go.Proofs.YtcdnakcojanaeabGreat
