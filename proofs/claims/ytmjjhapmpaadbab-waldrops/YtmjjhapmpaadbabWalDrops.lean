/-
  WalDrops holds for every number, all lists of octets and every number up to which is dropped: what is dropped is whole segments from the first on, none with a record above the number; what is left is the rest, in order. No condition.
-/
import Derived.Test.YtmjjhapmpaadbabWlArg
namespace Go.Proofs.Ytmjjhapmpaadbab
open Go.ChangeShapes Go.WideShapes Go.ChangeAt Go.RowKit Go.Deep
open Se

theorem LayR.take {w : World} {a : Option Addr} {rs : List Rc} (h : LayR w a rs) (k : Nat) : LayR w a (rs.take k) := by
  intro i f hi
  rw [List.getElem?_take] at hi
  split at hi
  · exact h i f hi
  · cases hi
theorem LayR.drop {w : World} {b off : Nat} {rs : List Rc} (h : LayR w (some ⟨b, off, none⟩) rs) (k : Nat) : LayR w (some ⟨b, off + k * 2, none⟩) (rs.drop k) := by
  intro i l hi
  rw [List.getElem?_drop] at hi
  obtain ⟨b', off', a', c', h1, h2, h3, h4⟩ := h (k + i) l hi
  simp only [Option.some.injEq, Addr.mk.injEq, and_true] at h1
  obtain ⟨rfl, rfl⟩ := h1
  refine ⟨b, off + k * 2, a', c', rfl, ?_, ?_, h4⟩
  · rw [show off + k * 2 + i * 2 = off + (k + i) * 2 by omega]; exact h2
  · rw [show off + k * 2 + i * 2 + 1 = off + (k + i) * 2 + 1 by omega]; exact h3
theorem LayR.nil (w : World) (a : Option Addr) : LayR w a [] := fun i l h => by simp at h

namespace walDrops
set_option maxRecDepth 100000 in
set_option maxHeartbeats 6400000 in
theorem walk (n : Int) (l : List (List UInt8)) (x : Value) (q : Int) (w : World) (_hn : (Lit.int .i64 n).wf = true) (hl : SectorsIs w x l) (_hq : (Lit.int .i64 q).wf = true) :
    Calls Try.prog 7 #[.int .i64 n, x, .int .i64 q] w fun e w' => e = .returned (.bool true) ∧ Below w.heap.size w w' := by
  obtain ⟨a, c, rfl, hl, hll⟩ := hl
  have HF : Hid (Calls Try.prog 28 #[.int .i64 n, .slice a l.length c] w (FilPost w)) := filled_any n l a c w hl (by omega)
  clear hl
  go_enter Try.func7, Try.ntmps7
  go_wp2_with fail
  refine HF.out.mono ?_
  rintro e w1 ⟨f, nx, gs, ss, xa, xc, wa, wc0, rfl, LG, h30, hf, hnx, hxs, hwr, c1, c2, c3, c4, hpl, hb1⟩
  obtain ⟨k, k1, k2, k3, k4⟩ := LG.drop q
  have hrec := k4.recs
  have hsp : gs.flatten = (gs.take k).flatten ++ (gs.drop k).flatten := by rw [← List.flatten_append, List.take_append_drop]
  have hsl : ss.length = gs.length := by rw [LG.segs, List.length_map]
  have hs2 : ((gs.drop k).map frs).length ≤ ss.length := by rw [List.length_map, List.length_drop]; omega
  have hs3 : ss.length ≤ 30 := by omega
  have hfw : gs.flatten.length ≤ 30 := by have := LG.next; omega
  have hx1 : 1 ≤ nx := by have := LG.next; have := LG.lo; omega
  generalize (gs.drop k).map frs = ss2 at *
  generalize (gs.drop k).flatten = R at *
  generalize (gs.take k).flatten = G at *
  generalize gs.flatten = want at *
  clear LG k4 k1 HF h30 hsl
  have HXS : Hid (LayS w1 xa ss) := hxs
  have HWR : Hid (LayR w1 wa want) := hwr
  have HSP : Hid (want = G ++ R) := hsp
  have HG : Hid (∀ r ∈ G, r.1 ≤ q) := k3
  have HB1 : Hid (Below w.heap.size w w1) := hb1
  have hwl : want.length = G.length + R.length := by rw [hsp, List.length_append]
  have HDR : Hid (∀ W, Below w1.heap.size w1 W → Calls Try.prog 15 #[.agg #[.slice xa ss.length xc, .int .i64 nx], .int .i64 q] W fun e w' => ∃ ya yc, e = .returned (.tuple #[.agg #[.slice ya ss2.length yc, .int .i64 nx], .int .i64 0]) ∧ LayS w' ya ss2 ∧ Below W.heap.size W w') := by
    intro W hb
    have := drop_any ss nx q xa xc W (HXS.out.below hb) (by omega) (by omega) (by omega) c1 c2
    rw [k2] at this
    refine Calls.mono this ?_
    rintro e w' ⟨v, rfl, ho, hb'⟩
    obtain ⟨ya, yc, rfl⟩ := ho.shape
    exact ⟨ya, yc, rfl, ho.lay, hb'⟩
  have HRE : Hid (∀ W ya yc, LayS W ya ss2 → Calls Try.prog 13 #[.agg #[.slice ya ss2.length yc, .int .i64 nx]] W fun e w' => ∃ ra rc, e = .returned (.tuple #[.slice ra R.length rc, .int .i64 0]) ∧ LayR w' ra R ∧ Below W.heap.size W w') := by
    intro W ya yc h
    have := records_any ss2 nx ya yc W h (by omega) (by omega) (by omega)
    rw [hrec] at this
    refine Calls.mono this ?_
    rintro e w' ⟨v, rfl, ho, hb'⟩
    obtain ⟨ra, rc, rfl⟩ := ho.shape
    exact ⟨ra, rc, rfl, ho.lay, hb'⟩
  clear hxs hwr hsp k3 hb1 k2 hrec
  have HSM : Hid (∀ W a1 c1 a2 c2, LayR W a1 R → LayR W a2 R → Calls Try.prog 19 #[.slice a1 R.length c1, .slice a2 R.length c2] W fun e w' => e = .returned (.bool true) ∧ Below W.heap.size W w') := by
    intro W a1 c1 a2 c2 h1 h2
    have := same_any R R a1 a2 c1 c2 W h1 h2 (by omega)
    simpa using this
  have HGW : Hid (∀ m, m < G.length → ∃ r ∈ G, want[m]? = some r) := by
    intro m hm
    refine ⟨G[m], List.getElem_mem hm, ?_⟩
    rw [HSP.out, List.getElem?_append_left hm, List.getElem?_eq_getElem hm]
  have HWD : Hid (want.drop G.length = R) := by show _ = _; rw [HSP.out]; exact List.drop_left
  obtain ⟨wl, hwle⟩ : ∃ wl, want.length = wl := ⟨_, rfl⟩
  have HWL : Hid (want.length = wl) := hwle
  rw [hwle] at hwl c3 hfw ⊢
  clear hwle
  obtain ⟨gl, hgl⟩ : ∃ gl, G.length = gl := ⟨_, rfl⟩
  rw [hgl] at HGW HWD hwl
  clear hgl
  obtain ⟨rl, hrl⟩ : ∃ rl, R.length = rl := ⟨_, rfl⟩
  rw [hrl] at HRE HSM hwl
  clear hrl
  generalize ss2.length = s2 at *
  generalize ss.length = s1 at *
  have hb10 : ¬ ((s1 : Nat) : Int) < ((s2 : Nat) : Int) := by omega
  have hb11 : ¬ ((wl : Nat) : Int) < ((rl : Nat) : Int) := by omega
  have hnxe : (nx != nx) = false := by simp
  have X1 : Hid ((w1.alloc (.cells #[.slice xa s1 xc, .int .i64 nx] 26)).heap[w1.heap.size]? = some (.cells #[.slice xa s1 xc, .int .i64 nx] 26 (0, 0))) := heap_alloc_new _ _
  have B1 : Hid (Below w1.heap.size w1 (w1.alloc (.cells #[.slice xa s1 xc, .int .i64 nx] 26))) := below_one _ _
  go_wp2_with fail
  refine (alive_any _).mono ?_
  rintro e w2 ⟨rfl, hb2⟩
  have X2 : Hid (w2.heap[w1.heap.size]? = some (.cells #[.slice xa s1 xc, .int .i64 nx] 26 (0, 0))) := (hb2.block _ (lt_of_block X1.out)).trans X1.out
  have B2 : Hid (Below w1.heap.size w1 w2) := nxt B1.out hb2
  clear X1 B1 hb2
  obtain ⟨x0, -⟩ := cell_of X2.out 0
  obtain ⟨x1, -⟩ := cell_of X2.out 1
  simp at x0 x1
  go_wp2_with fail
  refine (HDR.out _ B2.out).mono ?_
  rintro e w3 ⟨ya, yc, rfl, hy3, hb3⟩
  have X3 : Hid ((w3.alloc (.cells #[.slice ya s2 yc, .int .i64 nx] 26)).heap[w1.heap.size]? = some (.cells #[.slice xa s1 xc, .int .i64 nx] 26 (0, 0))) := ((nxt hb3 (below_one w3 _)).block _ (lt_of_block X2.out)).trans X2.out
  have Y3 : Hid ((w3.alloc (.cells #[.slice ya s2 yc, .int .i64 nx] 26)).heap[w3.heap.size]? = some (.cells #[.slice ya s2 yc, .int .i64 nx] 26 (0, 0))) := heap_alloc_new _ _
  have B3 : Hid (Below w1.heap.size w1 (w3.alloc (.cells #[.slice ya s2 yc, .int .i64 nx] 26))) := nxt (nxt B2.out hb3) (below_one _ _)
  have L3 : Hid (LayS (w3.alloc (.cells #[.slice ya s2 yc, .int .i64 nx] 26)) ya ss2) := hy3.below (below_one _ _)
  clear X2 B2 hb3 hy3 x0 x1
  go_wp2_with fail
  refine (HRE.out _ ya yc L3.out).mono ?_
  rintro e w4 ⟨ra, rc, rfl, hr4, hb4⟩
  have X4 : Hid (w4.heap[w1.heap.size]? = some (.cells #[.slice xa s1 xc, .int .i64 nx] 26 (0, 0))) := (hb4.block _ (lt_of_block X3.out)).trans X3.out
  have Y4 : Hid (w4.heap[w3.heap.size]? = some (.cells #[.slice ya s2 yc, .int .i64 nx] 26 (0, 0))) := (hb4.block _ (lt_of_block Y3.out)).trans Y3.out
  have B4 : Hid (Below w1.heap.size w1 w4) := nxt B3.out hb4
  have R4 : Hid (LayR w4 ra R) := hr4
  have W4 : Hid (LayR w4 wa want) := HWR.out.below B4.out
  clear X3 Y3 B3 L3 hb4 hr4 HDR HRE HXS HWR
  obtain ⟨x0, -⟩ := cell_of X4.out 0
  obtain ⟨x1, -⟩ := cell_of X4.out 1
  obtain ⟨y0, -⟩ := cell_of Y4.out 0
  obtain ⟨y1, -⟩ := cell_of Y4.out 1
  simp at x0 x1 y0 y1
  have hsub : ((wl : Nat) : Int) - ((rl : Nat) : Int) = ((gl : Nat) : Int) := by omega
  go_wp2_with (go_at_call 18; refine (num_any _ _).mono ?_; rintro e w5 ⟨rfl, hw5⟩; subst w5)
  have BW : Hid (Below w.heap.size w w4) := nxt HB1.out B4.out
  clear X4 Y4 B4 HB1 x0 x1 y0 y1 hsub
  go_loopw [15] (fun i wr => ∃ m : Nat, m ≤ gl ∧ i = .int .i64 m ∧ Hid (wr = w4)) (fun i _ => gl - (intOf i).toNat)
  case atStart => exact ⟨0, by omega, rfl, rfl⟩
  case round =>
    obtain ⟨m, hm, rfl, HW⟩ := hrel
    obtain rfl := HW.out
    by_cases hlt : m < gl
    · have hlt1 : (m : Int) < (gl : Int) := by omega
      obtain ⟨r, hrG, hwm⟩ := HGW.out m hlt
      have hrq : ¬ q < r.1 := by have := HG.out r hrG; omega
      obtain ⟨g, off, a', c', rfl, p0, -, -⟩ := W4.out m r hwm
      clear hwm hrG
      go_wp2_with fail
      exact ⟨⟨m + 1, by omega, by go_num, trivial⟩, by simp [intOf]; omega⟩
    · have hme : m = gl := by omega
      subst hme
      by_cases hcg : wc0 = m
      · have hr0 : rl = 0 := by omega
        subst hcg
        have HS1 := HSM.out wr ra rc wa 0 R4.out (by
          have := W4.out.below (Below.refl _ _)
          have e : R = [] := by
            rw [← HWD.out]
            exact List.eq_nil_of_length_eq_zero (by rw [List.length_drop]; have := HWL.out; omega)
          rw [e]
          exact LayR.nil _ _)
        have HS : Hid (Calls Try.prog 19 #[.slice ra rl rc, .slice wa rl 0] wr fun e w' => e = .returned (.bool true) ∧ Below wr.heap.size wr w') := HS1
        clear HS1
        subst hr0
        go_wp2_with (go_at_call 19; refine HS.out.mono ?_; rintro e w6 ⟨rfl, hb6⟩; have B6 : Hid (Below w.heap.size w w6) := nxt BW.out hb6; clear hb6)
        go_ret
        exact ⟨rfl, B6.out⟩
      · obtain ⟨g, rfl⟩ : ∃ g, wa = some ⟨g, 0, none⟩ := by
          rcases hpl with ⟨-, h⟩ | h
          · omega
          · exact h
        have HS1 := HSM.out wr ra rc (some ⟨g, 0 + m * 2, none⟩) (wc0 - m) R4.out (by
          have := W4.out.drop m
          rw [HWD.out] at this
          exact this)
        have HS : Hid (Calls Try.prog 19 #[.slice ra rl rc, .slice (some ⟨g, m * 2, none⟩) rl (wc0 - m)] wr fun e w' => e = .returned (.bool true) ∧ Below wr.heap.size wr w') := by
          rw [Nat.zero_add] at HS1
          exact HS1
        clear HS1
        go_wp2_with (go_at_call 19; refine HS.out.mono ?_; rintro e w6 ⟨rfl, hb6⟩; have B6 : Hid (Below w.heap.size w w6) := nxt BW.out hb6; clear hb6)
        go_ret
        exact ⟨rfl, B6.out⟩

set_option maxRecDepth 100000 in
set_option maxHeartbeats 1600000 in
theorem lifted (os : Os) (started : os.Started) (H : Type) (enc : TypeId × Value → H) :
    ReturnsInHanded {} Try.checked os 7 .any (Rows.walDropsSpec.pre6 enc Try.prog Try.f7 Rows.walDropsRow.domain false) (Rows.walDropsSpec.post enc Try.prog Try.f7 false true false false) := by
  refine returnsInHanded_of_change_sized (C := Try.checked) Try.own started (by kernel_rfl) Try.func7
    (ChangeSpec.witness6 (enc := enc) (C := Try.checked) false ⟨#[], #[.int .i64 0, .slice none 0 0, .int .i64 0], []⟩ 8 (by kernel_rfl) (by kernel_rfl) (by kernel_rfl) (by kernel_rfl)) ?_
  intro W base args ds gs before hval0 hW _ hsz0 _
  have hsz : (DataW.weightsEach Try.prog (Try.f7.params.toList ++ Rows.walDropsSpec.plain.varTypes Try.prog) (ds ++ gs)).all (· ≤ reachBytes) = true := hsz0
  have hval : ∀ (j : Nat) t v, Try.f7.params[j]? = some t → args[j]? = some v → Value.okWide Try.prog W .any base t v := hval0
  have hW' := hW
  obtain ⟨p, q, hA0, hV, rfl, hfz, hnd⟩ := hW
  have hA : DataW.TrodAll enc Try.prog W 0 (fun _ => true) true Try.f7.params.toList args.toList ds p := hA0
  rw [Try.params7] at hA hval hsz
  obtain ⟨v0, vs0, d0, ds0, p0, q0, hargs, rfl, rfl, h0, r0⟩ := trodAll_cons hA
  obtain ⟨v1, vs1, d1, ds1, p1, q1, rfl, rfl, rfl, h1, r1⟩ := trodAll_cons r0
  obtain ⟨v2, vs2, d2, ds2, p2, q2, rfl, rfl, rfl, h2, r2⟩ := trodAll_cons r1
  obtain ⟨rfl, rfl, rfl⟩ := trodAll_nil r2
  obtain rfl : args = #[v0, v1, v2] := by cases args; simp_all
  obtain ⟨rfl, rfl⟩ := trodVars_none hV
  clear hA0 hval0
  simp only [List.append_nil] at hW' hsz
  have hlt : ∀ x ∈ p0 ++ p1 ++ p2, x.block < W.heap.size := fun x hx => hW'.lt x (by simpa using hx)
  have hall : ∀ x ∈ DataW.weightsEach Try.prog [3, 22, 3] [d0, d1, d2], x ≤ reachBytes := fun x hx => of_decide_eq_true (List.all_eq_true.1 hsz x hx)
  obtain ⟨a0, rfl, rfl, rfl, w0⟩ := open_int Try.underlying3 (hval 0 3 v0 rfl rfl) h0
  have g1 : ∀ x ∈ d1.weights Try.prog 22, x ≤ reachBytes := fun x hx => hall x (DataW.weights_mem_each (j := 1) rfl rfl x hx)
  obtain ⟨u1, l1⟩ := bss_of_arg (hval 1 _ v1 rfl rfl) h1 g1
  obtain ⟨a2, rfl, rfl, rfl, w2⟩ := open_int Try.underlying3 (hval 2 3 v2 rfl rfl) h2
  refine (walk a0 u1 v1 a2 W w0 l1 w2).mono fun e W' ⟨he, bel⟩ => ?_
  subst he
  exact ⟨_, rfl, _, _, _, [], _, [], hW', trodAll_mk1 (shut_bool Try.underlying4 _), (trodAll_cons_mk (shut_int Try.underlying3 w0) (trodAll_cons_mk (Below.trod Try.laidOut (by kernel_rfl) (of_decide_eq_true (by kernel_rfl)) h1 bel (fun x hx => hlt x (by simp [hx]))) (trodAll_cons_mk (shut_int Try.underlying3 w2) trodAll_mk0))), rfl, bel.frame _, fun h => by cases h⟩

theorem over : Rows.walDropsRow.holds Try.pinned (OpenSpec.ofChange Rows.walDropsSpec) :=
  OpenClaim.holds_of_wide 7 Try.f7 rfl rfl rfl rfl rfl rfl rfl ⟨rfl, rfl, rfl, rfl, rfl⟩ rfl rfl rfl rfl rfl (by kernel_rfl) Try.func7 (by kernel_rfl)
    (of_decide_eq_true (by kernel_rfl)) (by unfold Func.isWrapper; first | (rw [if_pos (by decide +kernel)]; kernel_rfl) | (rw [if_neg (by decide +kernel)]; exact ⟨rfl, rfl⟩))
    (fun os started H enc _ => lifted os started H enc)

/-- THE STATEMENT. -/
theorem proved : Rows.WalDropsSaid := over
#print axioms proved
end walDrops
end Go.Proofs.Ytmjjhapmpaadbab
