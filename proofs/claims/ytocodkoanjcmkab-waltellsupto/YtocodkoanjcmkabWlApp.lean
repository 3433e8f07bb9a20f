/-
  The program's Append.
-/
import Derived.Test.YtocodkoanjcmkabWlSegs
namespace Go.Proofs.Ytocodkoanjcmkab
open Go.ChangeShapes Go.WideShapes Go.ChangeAt Go.RowKit Go.Deep
open Se

/-- One of the segments grows: what is written back. -/
theorem OwnS.put {W W1 : World} {B g cap : Nat} {ss : List (List UInt8)} {xs : List Value} {p : Nat} {l f : List UInt8} {s s' : Value}
    (hr : W.ownsRow B 25 1 (.slice (some ⟨g, 0, none⟩) ss.length cap) ss.length xs) (hit : SItems W B ss xs) (hap : ApartV xs) (hp : ss[p]? = some l) (hx : xs[p]? = some s) (hs : Bs W1 B s' (l ++ f)) (hrt : RowTo W W1 s s') (hl : (l ++ f).length ≤ 140737488351232) :
    OwnS (W1.setCell ⟨g, p, none⟩ s') B (.slice (some ⟨g, 0, none⟩) ss.length cap) (ss.set p (l ++ f)) ∧ ∃ cur, W1.heap[g]? = some (.cells cur 25 (0, 0)) ∧ p < cur.size := by
  have hplt := (List.getElem?_eq_some_iff.1 hp).1
  have hxl : xs.length = ss.length := by have := hr.1; omega
  obtain ⟨h1, h2⟩ := hr
  rcases h2 with ⟨h3, -⟩ | ⟨g', cap', cur, h3, h4, h5, h6, h7, h8, h9⟩
  · simp at h3
  simp only [Value.slice.injEq, Option.some.injEq, Addr.mk.injEq, and_true, true_and] at h3
  obtain ⟨rfl, rfl⟩ := h3
  have hgl := lt_of_block h5
  have hsg : s.ownBlock ≠ some g := by
    intro e
    obtain ⟨-, -, cur', h10⟩ := hit.lt hxl hx e
    rw [h5] at h10
    simp at h10
  have h5' : W1.heap[g]? = some (.cells cur 25 (0, 0)) := (hrt.block hgl hsg).trans h5
  refine ⟨⟨xs.set p s', ⟨?_, Or.inr ⟨g, cap, cur.setIfInBounds p s', by rw [List.length_set], h4, set_one_cell h5' s', by rw [List.length_set]; exact h6, h7, by simpa using h8, ?_⟩⟩, ?_, ?_⟩, cur, h5', by omega⟩
  · simp; omega
  · rw [Array.toList_setIfInBounds, List.length_set, List.take_set, h9]
  · intro j y hj
    by_cases hjp : j = p
    · subst hjp
      rw [List.getElem?_set_self hplt] at hj
      simp only [Option.some.injEq] at hj
      subst hj
      obtain ⟨a', c', rfl⟩ := hs.shape
      exact ⟨a', c', by rw [List.getElem?_set_self (by omega)], hs.kpb (KpB.set h5' (by decide) _), hl⟩
    · rw [List.getElem?_set_ne (fun e => hjp e.symm)] at hj
      obtain ⟨a', c', k1, k2, k3⟩ := hit j y hj
      refine ⟨a', c', by rw [List.getElem?_set_ne (fun e => hjp e.symm)]; exact k1, ?_, k3⟩
      refine Bs.kpb ?_ (KpB.set h5' (by decide) _)
      refine ownsRow_same k2 fun k hk => ?_
      exact hrt.block (k2.base k hk).2 (fun e => hap j p _ _ k hjp k1 hx hk e)
  · intro i j x y k hij hi hj hk
    by_cases hip : i = p
    · subst hip
      rw [List.getElem?_set_self (by omega)] at hi
      simp only [Option.some.injEq] at hi
      subst hi
      rw [List.getElem?_set_ne hij] at hj
      rcases hrt.place with e | e
      · rw [e] at hk
        exact hap i j _ _ k hij hx hj hk
      · intro e2
        have q1 := e k hk
        have q2 := (hit.lt hxl hj e2).2.1
        omega
    · rw [List.getElem?_set_ne (fun e => hip e.symm)] at hi
      by_cases hjp : j = p
      · subst hjp
        rw [List.getElem?_set_self (by omega)] at hj
        simp only [Option.some.injEq] at hj
        subst hj
        rcases hrt.place with e | e
        · rw [e]
          exact hap i j _ _ k hij hi hx hk
        · intro e2
          have q1 := e k e2
          have q2 := (hit.lt hxl hi hk).2.1
          omega
      · rw [List.getElem?_set_ne (fun e => hjp e.symm)] at hj
        exact hap i j _ _ k hij hi hj hk

theorem OwnS.at {W : World} {B n : Nat} {a : Option Addr} {cap : Nat} {ss : List (List UInt8)} (h : OwnS W B (.slice a n cap) ss) {p : Nat} {l : List UInt8} (hp : ss[p]? = some l) :
    ∃ g, a = some ⟨g, 0, none⟩ ∧ ∃ xs, W.ownsRow B 25 1 (.slice (some ⟨g, 0, none⟩) ss.length cap) ss.length xs ∧ SItems W B ss xs ∧ ApartV xs ∧ ∃ sa sc, xs[p]? = some (.slice sa l.length sc) ∧ Bs W B (.slice sa l.length sc) l ∧ W.cell? ⟨g, p, none⟩ = some (.slice sa l.length sc) := by
  have hplt := (List.getElem?_eq_some_iff.1 hp).1
  obtain ⟨xs, hr, hi, hap⟩ := h
  obtain ⟨sa, sc, h1, h2, -⟩ := hi p l hp
  have hown := hr
  obtain ⟨l0, hc⟩ := hr
  rcases hc with ⟨h8, h9⟩ | ⟨g, cap', cur, h8, h9, h10⟩
  · omega
  · simp only [Value.slice.injEq] at h8
    obtain ⟨rfl, rfl, rfl⟩ := h8
    have e1 := hown.cells (g := g) rfl _ _ h1
    rw [add_plain, Nat.zero_add] at e1
    exact ⟨g, rfl, xs, hown, hi, hap, sa, sc, h1, h2, e1⟩

/-- The segments with one frame more. -/
def addS (ss : List (List UInt8)) (f : List UInt8) : List (List UInt8) := match ss.getLast? with | some s => if s.length + f.length ≤ 480 then ss.dropLast ++ [s ++ f] else ss ++ [f] | none => [f]
theorem addS_fit {ss : List (List UInt8)} {f l : List UInt8} (hp : ss[ss.length - 1]? = some l) (h : l.length + f.length ≤ 480) : addS ss f = ss.set (ss.length - 1) (l ++ f) := by
  have hne : ss ≠ [] := by rintro rfl; simp at hp
  have hl : ss.getLast? = some l := by rw [List.getLast?_eq_getElem?]; exact hp
  unfold addS
  rw [hl]
  simp only
  rw [if_pos h]
  obtain ⟨hp1, hp2⟩ := List.getElem?_eq_some_iff.1 hp
  apply List.ext_getElem
  · simp; omega
  · intro i h1 h2
    simp at h1 h2
    by_cases hi : i < ss.length - 1
    · rw [List.getElem_append_left (by simpa using hi), List.getElem_set_ne (by omega), List.getElem_dropLast]
    · have : i = ss.length - 1 := by omega
      subst this
      rw [List.getElem_append_right (by simp)]
      simp
theorem addS_more {ss : List (List UInt8)} {f : List UInt8} (h : fitR ss f.length = false) : addS ss f = (ss ++ [[]]).set ss.length f := by
  have e : (ss ++ [[]]).set ss.length f = ss ++ [f] := by simp
  rw [e]
  unfold fitR at h
  unfold addS
  cases hl : ss.getLast? with
  | none => simp only [List.getLast?_eq_none_iff] at hl; subst hl; rfl
  | some s =>
    rw [hl] at h
    simp only [decide_eq_false_iff_not] at h
    simp only
    rw [if_neg h]
/-- Append's answer: the error, the place, the segments. -/
def appR (ss : List (List UInt8)) (nx : Int) (d : List UInt8) : Int × Nat × List (List UInt8) :=
  if chkW ss nx ≠ 0 then (chkW ss nx, 0, []) else if 400 < d.length then (5, 0, []) else if nx = 1099511627776 ∨ plc ss (16 + d.length) = 64 then (51, 0, []) else (0, plc ss (16 + d.length), addS ss (rfr nx d))
theorem chkW_ok {ss : List (List UInt8)} {nx : Int} (h : chkW ss nx = 0) : 1 ≤ nx ∧ nx ≤ 1099511627776 ∧ ss.length ≤ 64 ∧ 1 ≤ oldR ss nx ∧ runS ss (oldR ss nx) = some nx := by
  unfold chkW at h
  split at h
  · simp at h
  · split at h
    · simp at h
    · split at h
      · rename_i h1 h2 h3
        exact ⟨by omega, by omega, by omega, by omega, h3⟩
      · simp at h
theorem runS_len : ∀ {ss : List (List UInt8)} {d e : Int}, runS ss d = some e → ∀ l ∈ ss, l.length ≤ 480 ∧ 0 < l.length
  | [], _, _, _, l, hl => by simp at hl
  | s :: ss, d, e, h, l, hl => by
    simp only [runS] at h
    split at h
    · simp at h
    · rename_i h1
      split at h
      · simp at h
      · rcases List.mem_cons.1 hl with rfl | h2
        · omega
        · exact runS_len h l h2
/-- What Append leaves. -/
def AppPost (w : World) (R : Int × Nat × List (List UInt8)) (y : Int) (e : Ending) (w' : World) : Prop :=
  ∃ v, e = .returned (.tuple #[.agg #[v, .int .i64 y], .int .i64 R.2.1, .int .i64 R.1]) ∧ OwnS w' w.heap.size v R.2.2 ∧ Below w.heap.size w w'
def nxtR (ss : List (List UInt8)) (nx : Int) (d : List UInt8) : Int := if (appR ss nx d).1 = 0 then nx + 1 else 0

/-- The boxes of Append. -/
structure Two (w W : World) (x0 x1 : Value) : Prop where
  par : W.heap[w.heap.size]? = some (.cells #[x0, x1] 26 (0, 0))
  res : W.heap[w.heap.size + 1]? = some (.cells #[.slice none 0 0, .int .i64 0] 26 (0, 0))
  bel : Below w.heap.size w W
theorem Two.new (w : World) (x0 x1 : Value) : Two w ((w.alloc (.cells #[x0, x1] 26)).alloc (.cells #[.slice none 0 0, .int .i64 0] 26)) x0 x1 :=
  ⟨(Below.heap_alloc _ _ _ (by simp)).trans (heap_alloc_new _ _), heap_new2 _ _ _, nxt (below_one _ _) (below_one _ _)⟩
theorem Two.below {w W W' : World} {x0 x1 : Value} (h : Two w W x0 x1) (hb : Below W.heap.size W W') : Two w W' x0 x1 :=
  ⟨(hb.block _ (lt_of_block h.par)).trans h.par, (hb.block _ (lt_of_block h.res)).trans h.res, nxt h.bel hb⟩
theorem Two.cells {w W : World} {x0 x1 : Value} (h : Two w W x0 x1) : W.cell? ⟨w.heap.size, 0, none⟩ = some x0 ∧ W.cell? ⟨w.heap.size, 1, none⟩ = some x1 := by
  have h0 := (cell_of h.par 0).1
  have h1 := (cell_of h.par 1).1
  simp at h0 h1
  exact ⟨h0, h1⟩
/-- A result in the box. -/
theorem Two.ret {w W : World} {x0 x1 : Value} (h : Two w W x0 x1) (y0 y1 : Value) : ((W.setCell ⟨w.heap.size + 1, 0, none⟩ y0).setCell ⟨w.heap.size + 1, 1, none⟩ y1).cell? ⟨w.heap.size + 1, 0, none⟩ = some y0 ∧ ((W.setCell ⟨w.heap.size + 1, 0, none⟩ y0).setCell ⟨w.heap.size + 1, 1, none⟩ y1).cell? ⟨w.heap.size + 1, 1, none⟩ = some y1
    ∧ W.cell? ⟨w.heap.size + 1, 0, none⟩ = some (.slice none 0 0) ∧ W.cell? ⟨w.heap.size + 1, 1, none⟩ = some (.int .i64 0) ∧ W.frozen? ⟨w.heap.size + 1, 0, none⟩ = false ∧ W.frozen? ⟨w.heap.size + 1, 1, none⟩ = false := by
  have h1 := set_one_cell (o := 0) h.res y0
  have h2 := set_one_cell (o := 1) h1 y1
  have s0 := (cell_of h2 0).1
  have s1 := (cell_of h2 1).1
  have r0 := (cell_of h.res 0)
  have r1 := (cell_of h.res 1)
  simp at s0 s1 r0 r1
  exact ⟨s0, s1, r0.1, r1.1, r0.2, r1.2⟩
theorem Two.fin {w W : World} {x0 x1 : Value} (h : Two w W x0 x1) (y0 y1 : Value) : Below w.heap.size w ((W.setCell ⟨w.heap.size + 1, 0, none⟩ y0).setCell ⟨w.heap.size + 1, 1, none⟩ y1) :=
  (h.bel.setCell (by show w.heap.size ≤ w.heap.size + 1; omega) _).setCell (by show w.heap.size ≤ w.heap.size + 1; omega) _

theorem Two.low {w W W' : World} {x0 x1 : Value} (h : Two w W x0 x1) {B : Nat} (hB : w.heap.size + 1 < B) (hb : Below B W W') : Two w W' x0 x1 :=
  ⟨(hb.block _ (by omega)).trans h.par, (hb.block _ hB).trans h.res, h.bel.trans (hb.mono (by omega))⟩
theorem OwnS.base {W : World} {B B' : Nat} {v : Value} {ss : List (List UInt8)} (h : OwnS W B v ss) (hB : B' ≤ B) : OwnS W B' v ss := by
  obtain ⟨xs, ⟨h1, h2⟩, h3, h4⟩ := h
  refine ⟨xs, ⟨h1, ?_⟩, fun j r hj => ?_, h4⟩
  · rcases h2 with h2 | ⟨g, cap, cur, hv, hg, r⟩
    · exact Or.inl h2
    · exact Or.inr ⟨g, cap, cur, hv, by omega, r⟩
  · obtain ⟨a, c, h5, h6, h7⟩ := h3 j r hj
    exact ⟨a, c, h5, h6.up (fun g hg => by have := (h6.base g hg).1; omega), h7⟩
/-- The box of the result is written: the segments stay. -/
theorem OwnS.ret {w W : World} {B : Nat} {v x0 x1 : Value} {ss : List (List UInt8)} (h : OwnS W B v ss) (T : Two w W x0 x1) (y0 y1 : Value) : OwnS ((W.setCell ⟨w.heap.size + 1, 0, none⟩ y0).setCell ⟨w.heap.size + 1, 1, none⟩ y1) B v ss :=
  (h.set T.res (by decide) (by decide) _).set (set_one_cell (o := 0) T.res y0) (by decide) (by decide) _

set_option maxRecDepth 100000 in
set_option maxHeartbeats 6400000 in
theorem append_any (ss : List (List UInt8)) (nx : Int) (a : Option Addr) (c : Nat) (d : List UInt8) (ad : Option Addr) (cd : Nat) (w : World) (hS : LayS w a ss) (hn : ss.length ≤ 200000000000000) (h1 : -9223372036854775808 ≤ nx) (h2 : nx ≤ 9223372036854775807) (hd : Oct w ad cd d) :
    Calls Try.prog 11 #[.agg #[.slice a ss.length c, .int .i64 nx], .slice ad d.length cd] w (AppPost w (appR ss nx d) (nxtR ss nx d)) := by
  have HS : Hid (LayS w a ss) := hS
  have HD : Hid (Oct w ad cd d) := hd
  have hdl := hd.2.2.2.1
  clear hS hd
  have T0 : Hid (Two w ((w.alloc (.cells #[.slice a ss.length c, .int .i64 nx] 26)).alloc (.cells #[.slice none 0 0, .int .i64 0] 26)) (.slice a ss.length c) (.int .i64 nx)) := Two.new _ _ _
  have HC : Hid (∀ W, Below w.heap.size w W → Calls Try.prog 20 #[.agg #[.slice a ss.length c, .int .i64 nx]] W fun e w' => e = .returned (.int .i64 (chkW ss nx)) ∧ Below W.heap.size W w') := fun W hb => check_any ss nx a c W (HS.out.below hb) hn h1 h2
  have HOK := chkW_ok (ss := ss) (nx := nx)
  unfold nxtR appR
  generalize chkW ss nx = ck at *
  by_cases hck : ck ≠ 0
  · have hckb : (ck != 0) = true := by simpa using hck
    rw [if_pos hck]
    simp only
    rw [if_neg hck]
    clear HOK
    go_enter Try.func11, Try.ntmps11
    go_wp2_with (go_at_call 20; refine (HC.out _ T0.out.bel).mono ?_; rintro e w1 ⟨rfl, hb1⟩; have T1 : Hid (Two w w1 (.slice a ss.length c) (.int .i64 nx)) := T0.out.below hb1; obtain ⟨r0, r1, z0, z1, f0, f1⟩ := T1.out.ret (.slice none 0 0) (.int .i64 0); clear hb1)
    refine bodyPost_ret (v := .tuple #[.agg #[.slice none 0 0, .int .i64 0], .int .i64 0, .int .i64 ck]) (by simp [results, Try.results11, go_sem, z0, z1]) rfl ?_
    exact ⟨_, rfl, OwnS.nil _ _, T1.out.fin _ _⟩
  obtain rfl : ck = 0 := by omega
  clear hck
  obtain ⟨hn1, hn2, hn3, -, hrun⟩ := HOK rfl
  have HRUN : Hid (runS ss (oldR ss nx) = some nx) := hrun
  clear HOK hrun
  have e00 : ((0 : Int) != 0) = false := by decide
  rw [if_neg (by simp)]
  by_cases h400 : 400 < d.length
  · have h400' : (400 : Int) < d.length := by omega
    rw [if_pos h400]
    simp only
    rw [if_neg (by decide)]
    go_enter Try.func11, Try.ntmps11
    go_wp2_with (go_at_call 20; refine (HC.out _ T0.out.bel).mono ?_; rintro e w1 ⟨rfl, hb1⟩; have T1 : Hid (Two w w1 (.slice a ss.length c) (.int .i64 nx)) := T0.out.below hb1; obtain ⟨r0, r1, z0, z1, f0, f1⟩ := T1.out.ret (.slice none 0 0) (.int .i64 0); clear hb1)
    refine bodyPost_ret (v := .tuple #[.agg #[.slice none 0 0, .int .i64 0], .int .i64 0, .int .i64 5]) (by simp [results, Try.results11, go_sem, z0, z1]) rfl ?_
    exact ⟨_, rfl, OwnS.nil _ _, T1.out.fin _ _⟩
  have h400' : ¬ (400 : Int) < d.length := by omega
  rw [if_neg h400]
  have HFR : Hid (∀ W, Below w.heap.size w W → Calls Try.prog 30 #[.agg #[.int .i64 nx, .slice ad d.length cd]] W fun e w' => ∃ s, e = .returned s ∧ Bs w' W.heap.size s (rfr nx d) ∧ Below W.heap.size W w') := fun W hb => frameOf_any nx ad cd d W (HD.out.below hb) (by omega) (by omega) (by omega)
  have hfl := rfr_length nx d
  have HPL : Hid (∀ W, Below w.heap.size w W → Calls Try.prog 31 #[.agg #[.slice a ss.length c, .int .i64 nx], .int .i64 ((rfr nx d).length : Nat)] W fun e w' => e = .returned (.int .i64 (plc ss (rfr nx d).length)) ∧ Below W.heap.size W w') := fun W hb => placeFor_any ss nx _ a c W (HS.out.below hb) hn (by omega)
  rw [← hfl]
  have HFL : Hid ((rfr nx d).length ≤ 416) := by show _ ≤ _; omega
  clear hfl
  generalize rfr nx d = F at *
  have HPC : Hid ((fitR ss F.length = true ∧ plc ss F.length = ss.length - 1) ∨ (fitR ss F.length = false ∧ plc ss F.length = ss.length)) := by
    show _ ∨ _
    unfold plc
    cases fitR ss F.length with
    | true => exact Or.inl ⟨rfl, by rw [if_pos rfl]⟩
    | false => exact Or.inr ⟨rfl, by simp⟩
  generalize plc ss F.length = P at *
  have hP64 : P ≤ 64 := by rcases HPC.out with ⟨-, h⟩ | ⟨-, h⟩ <;> omega
  by_cases hfull : nx = 1099511627776 ∨ P = 64
  · rw [if_pos hfull]
    simp only
    rw [if_neg (by decide)]
    have hbb : (nx == 1099511627776) = true ∨ ((nx == 1099511627776) = false ∧ ((P : Int) == 64) = true) := by
      by_cases h : nx = 1099511627776
      · exact Or.inl (by simp [h])
      · exact Or.inr ⟨by simp [h], by simp; omega⟩
    rcases hbb with hb | ⟨hb, hb'⟩
    all_goals
      go_enter Try.func11, Try.ntmps11
      go_wp2_with (first
        | (go_at_call 20; refine (HC.out _ T0.out.bel).mono ?_; rintro e w1 ⟨rfl, hb1⟩; have T1 : Hid (Two w w1 (.slice a ss.length c) (.int .i64 nx)) := T0.out.below hb1; obtain ⟨x0, x1⟩ := T1.out.cells; clear hb1)
        | (go_at_call 30; refine (HFR.out _ T1.out.bel).mono ?_; rintro e w2 ⟨s2, rfl, hs2, hb2⟩; obtain ⟨fa, fc, rfl⟩ := hs2.shape; have T2 : Hid (Two w w2 (.slice a ss.length c) (.int .i64 nx)) := T1.out.below hb2; clear x0 x1; obtain ⟨x0, x1⟩ := T2.out.cells; clear hb2 hs2)
        | (go_at_call 31; refine (HPL.out _ T2.out.bel).mono ?_; rintro e w3 ⟨rfl, hb3⟩; have T3 : Hid (Two w w3 (.slice a ss.length c) (.int .i64 nx)) := T2.out.below hb3; clear x0 x1; obtain ⟨x0, x1⟩ := T3.out.cells; obtain ⟨r0, r1, z0, z1, f0, f1⟩ := T3.out.ret (.slice none 0 0) (.int .i64 0); clear hb3))
      refine bodyPost_ret (v := .tuple #[.agg #[.slice none 0 0, .int .i64 0], .int .i64 0, .int .i64 51]) (by simp [results, Try.results11, go_sem, z0, z1]) rfl ?_
      exact ⟨_, rfl, OwnS.nil _ _, T3.out.fin _ _⟩
  rw [if_neg hfull]
  simp only
  rw [if_pos trivial]
  have hb1' : (nx == 1099511627776) = false := by simp; omega
  have hb2' : ((P : Int) == 64) = false := by simp; omega
  have HCO : Hid (∀ W, Below w.heap.size w W → Calls Try.prog 32 #[.slice a ss.length c] W fun e w' => ∃ v, e = .returned v ∧ OwnS w' W.heap.size v ss ∧ Below W.heap.size W w') := fun W hb => copyOf_any a c ss W (HS.out.below hb) (by omega)
  clear hfull
  obtain ⟨i0, hi0, hz0, hz1, hz2⟩ := info_parts Try.infoBs
  rcases HPC.out with ⟨hfit, hP⟩ | ⟨hfit, hP⟩
  · have hss : ss ≠ [] := by rintro rfl; simp [fitR] at hfit
    have hpos : 0 < ss.length := List.length_pos_iff.2 hss
    obtain ⟨l, hl⟩ : ∃ l, ss[ss.length - 1]? = some l := ⟨_, List.getElem?_eq_getElem (by omega)⟩
    have hlf : l.length + F.length ≤ 480 := by
      unfold fitR at hfit
      rw [List.getLast?_eq_getElem?, hl] at hfit
      simpa using hfit
    have HAD : Hid (addS ss F = ss.set P (l ++ F)) := by show _ = _; rw [addS_fit hl hlf, hP]
    rw [HAD.out]
    have HL : Hid (ss[P]? = some l) := by show _ = _; rw [hP]; exact hl
    have hPL : P < ss.length := by omega
    have hPb : ((P : Int) == (ss.length : Int)) = false := by simp; omega
    clear hss hl hfit hP HPC HAD
    go_enter Try.func11, Try.ntmps11
    go_wp2_with (first
        | (go_at_call 20; refine (HC.out _ T0.out.bel).mono ?_; rintro e w1 ⟨rfl, hb1⟩; have T1 : Hid (Two w w1 (.slice a ss.length c) (.int .i64 nx)) := T0.out.below hb1; obtain ⟨x0, x1⟩ := T1.out.cells; clear hb1)
        | (go_at_call 30; refine (HFR.out _ T1.out.bel).mono ?_; rintro e w2 ⟨s2, rfl, hs2, hb2⟩; obtain ⟨fa, fc, rfl⟩ := hs2.shape; have T2 : Hid (Two w w2 (.slice a ss.length c) (.int .i64 nx)) := T1.out.below hb2; have S2 : Hid (Oct w2 fa fc F) := hs2.oct (by have := HFL.out; omega); clear x0 x1; obtain ⟨x0, x1⟩ := T2.out.cells; clear hb2 hs2)
        | (go_at_call 31; refine (HPL.out _ T2.out.bel).mono ?_; rintro e w3 ⟨rfl, hb3⟩; have T3 : Hid (Two w w3 (.slice a ss.length c) (.int .i64 nx)) := T2.out.below hb3; have S3 : Hid (Oct w3 fa fc F) := S2.out.below hb3; clear x0 x1; obtain ⟨x0, x1⟩ := T3.out.cells; clear hb3)
        | (go_at_call 32; refine (HCO.out _ T3.out.bel).mono ?_; rintro e w4 ⟨v4, rfl, ho4, hb4⟩; have T4 : Hid (Two w w4 (.slice a ss.length c) (.int .i64 nx)) := T3.out.below hb4; have S4 : Hid (Oct w4 fa fc F) := S3.out.below hb4; clear x0 x1; obtain ⟨x0, x1⟩ := T4.out.cells; obtain ⟨va, vc, rfl⟩ := ho4.shape; have HO4 : Hid (OwnS w4 w3.heap.size (.slice va ss.length vc) ss) := ho4; obtain ⟨gv, hva, xs, hrow, hit, hap, sa, sc, hxp, hsb, hcell⟩ := ho4.at HL.out; subst hva; have HR4 : Hid (w4.ownsRow w3.heap.size 25 1 (.slice (some ⟨gv, 0, none⟩) ss.length vc) ss.length xs) := hrow; have HI4 : Hid (SItems w4 w3.heap.size ss xs) := hit; have HA4 : Hid (ApartV xs) := hap; have HX4 : Hid (xs[P]? = some (.slice sa l.length sc)) := hxp; have HB4 : Hid (Bs w4 w3.heap.size (.slice sa l.length sc) l) := hsb; have hb34 := hb4.size; clear hb4 ho4 hrow hit hap hxp hsb)
        | (at_builtin; refine wpList_appO _ rfl _ _ rfl w3.heap.size _ l F rfl HB4.out fa fc rfl S4.out ?d0 ?d1 ?_))
    case d0 => omega
    case d1 => exact hb34
    intro s5 w5 hs5 hr5
    obtain ⟨a5, c5, rfl⟩ := hs5.shape
    obtain ⟨ho5, cur5, hcur5, hpc⟩ := OwnS.put HR4.out HI4.out HA4.out HL.out HX4.out hs5 hr5 (by rw [List.length_append]; omega)
    have HO5 : Hid (OwnS (w5.setCell ⟨gv, P, none⟩ (.slice a5 (l ++ F).length c5)) w3.heap.size (.slice (some ⟨gv, 0, none⟩) ss.length vc) (ss.set P (l ++ F))) := ho5
    have hw3 := lt_of_block T3.out.res
    have hgv : w3.heap.size ≤ gv := (HR4.out.lt gv rfl).1
    have B45 : Below w3.heap.size w4 w5 := hr5.below hb34 fun g hg => (HB4.out.base g hg).1
    have T5 : Hid (Two w w5 (.slice a ss.length c) (.int .i64 nx)) := T4.out.low hw3 B45
    have T6 : Hid (Two w (w5.setCell ⟨gv, P, none⟩ (.slice a5 (l ++ F).length c5)) (.slice a ss.length c) (.int .i64 nx)) := T5.out.low hw3 ((Below.refl _ _).setCell (by show w3.heap.size ≤ gv; omega) _)
    obtain ⟨y0, y1⟩ := cell_of hcur5 P
    rw [Array.getElem?_eq_getElem hpc] at y0
    have hw0 := T3.out.bel.size
    clear x0 x1 ho5 hs5 hr5 hcur5 B45 hcell
    obtain ⟨x0, x1⟩ := T6.out.cells
    obtain ⟨r0, r1, z0, z1, f0, f1⟩ := T6.out.ret (.slice (some ⟨gv, 0, none⟩) ss.length vc) (.int .i64 (nx + 1))
    have HNE : Hid (gv ≠ w.heap.size + 1 ∧ gv ≠ w.heap.size) := ⟨by omega, by omega⟩
    generalize (l ++ F).length = lF at *
    go_wp2_with fail
    refine bodyPost_ret (v := .tuple #[.agg #[.slice (some ⟨gv, 0, none⟩) ss.length vc, .int .i64 (nx + 1)], .int .i64 P, .int .i64 0]) (by simp [results, Try.results11, go_sem, r0, r1]) rfl ?_
    exact ⟨_, rfl, (HO5.out.ret T6.out _ _).base (by omega), T6.out.fin _ _⟩
  · have HAD : Hid (addS ss F = (ss ++ [[]]).set P F) := by show _ = _; rw [addS_more hfit, hP]
    rw [HAD.out]
    have HL : Hid ((ss ++ [[]])[P]? = some []) := by show _ = _; rw [hP]; simp
    have HLL : Hid ((ss ++ [[]] : List (List UInt8)).length = ss.length + 1) := by show _ = _; simp
    have hPb : ((P : Int) == (ss.length : Int)) = true := by simp; omega
    have hPL : P < ss.length + 1 := by omega
    clear hfit HPC HAD
    have HPE : Hid (P = ss.length) := hP
    clear hP
    go_enter Try.func11, Try.ntmps11
    go_wp2_with (first
        | (go_at_call 20; refine (HC.out _ T0.out.bel).mono ?_; rintro e w1 ⟨rfl, hb1⟩; have T1 : Hid (Two w w1 (.slice a ss.length c) (.int .i64 nx)) := T0.out.below hb1; obtain ⟨x0, x1⟩ := T1.out.cells; clear hb1)
        | (go_at_call 30; refine (HFR.out _ T1.out.bel).mono ?_; rintro e w2 ⟨s2, rfl, hs2, hb2⟩; obtain ⟨fa, fc, rfl⟩ := hs2.shape; have T2 : Hid (Two w w2 (.slice a ss.length c) (.int .i64 nx)) := T1.out.below hb2; have S2 : Hid (Bs w2 w1.heap.size (.slice fa F.length fc) F) := hs2; clear x0 x1; obtain ⟨x0, x1⟩ := T2.out.cells; clear hb2 hs2)
        | (go_at_call 31; refine (HPL.out _ T2.out.bel).mono ?_; rintro e w3 ⟨rfl, hb3⟩; have T3 : Hid (Two w w3 (.slice a ss.length c) (.int .i64 nx)) := T2.out.below hb3; have S3 : Hid (Bs w3 w1.heap.size (.slice fa F.length fc) F) := S2.out.below hb3; clear x0 x1; obtain ⟨x0, x1⟩ := T3.out.cells; clear hb3)
        | (go_at_call 32; refine (HCO.out _ T3.out.bel).mono ?_; rintro e w4 ⟨v4, rfl, ho4, hb4⟩; have T4 : Hid (Two w w4 (.slice a ss.length c) (.int .i64 nx)) := T3.out.below hb4; have S4 : Hid (Bs w4 w1.heap.size (.slice fa F.length fc) F) := S3.out.below hb4; clear x0 x1; obtain ⟨va, vc, rfl⟩ := ho4.shape; have HO4 : Hid (OwnS w4 w3.heap.size (.slice va ss.length vc) ss) := ho4; have hb34 := hb4.size; clear hb4 ho4)
        | (at_builtin; obtain ⟨xs, hrow, hit, hap⟩ := HO4.out; have HR4 : Hid (w4.ownsRow w3.heap.size 25 1 (.slice va ss.length vc) ss.length xs) := hrow; have HI4 : Hid (SItems w4 w3.heap.size ss xs) := hit; have HA4 : Hid (ApartV xs) := hap; clear hrow hit hap; refine wpList_append_apart _ rfl _ _ 22 rfl w3.heap.size 25 i0 _ 1 24 Try.underlying22 hi0 hz0 hz1 hz2 rfl (by decide) (.slice va ss.length vc) ss.length xs rfl ?d0 (some ⟨w4.heap.size, 0, none⟩) 1 1 [.slice none 0 0] rfl (by simp) rfl ?d1 ?d2 ?d3 ?d4 ?d5 ?_))
    case d0 => exact ownsRow_same HR4.out fun g hg => (below_one w4 _).block g (HR4.out.lt g hg).2
    case d1 =>
      intro ad e k u hk
      cases e
      exact newCells w4 _ _ k u (by rw [← Array.getElem?_toList]; exact hk)
    case d2 => simp [Value.oneCell']
    case d3 => unfold maxLen; omega
    case d4 => omega
    case d5 => simp; omega
    intro v6 w6 hrow6 hgr6 _
    have bX := below_one w4 (.cells #[.slice none 0 0] 25)
    have ho6 : OwnS w6 w3.heap.size v6 (ss ++ [[]]) := OwnS.pushed (l := []) (a := none) (c := 0) (ownsRow_same HR4.out fun g hg => bX.block g (HR4.out.lt g hg).2) (HI4.out.kpb (KpB.below bX)) HA4.out hrow6 hgr6 (Bs.nil _ _) (by simp) (fun j x g _ _ e => by simp [Value.ownBlock] at e)
    have hw3 := lt_of_block T3.out.res
    have B46 : Below w3.heap.size w4 w6 := (bX.mono hb34).grown hgr6 (by simp; omega) (fun j e => (HR4.out.lt j e).1)
    have T6 : Hid (Two w w6 (.slice a ss.length c) (.int .i64 nx)) := T4.out.low hw3 B46
    have S6 : Hid (Oct w6 fa fc F) := by
      refine Bs.oct (B := w1.heap.size) (n := F.length) ((S4.out.below bX).kpb (KpB.grown hgr6 ?_)) (by have := HFL.out; omega)
      intro g hg
      obtain ⟨-, -, cur, h5⟩ := HO4.out.row g hg
      exact ⟨cur, _, _, (bX.block _ (lt_of_block h5)).trans h5, by decide⟩
    have hb36 : w3.heap.size ≤ w6.heap.size := by have := B46.size; omega
    obtain ⟨va6, vc6, rfl⟩ := ho6.shape
    obtain ⟨gv, hva, xs6, hrow, hit, hap, sa, sc, hxp, hsb, hcell⟩ := ho6.at HL.out
    subst hva
    have HR6 : Hid (w6.ownsRow w3.heap.size 25 1 (.slice (some ⟨gv, 0, none⟩) (ss ++ [[]]).length vc6) (ss ++ [[]]).length xs6) := hrow
    have HI6 : Hid (SItems w6 w3.heap.size (ss ++ [[]]) xs6) := hit
    have HA6 : Hid (ApartV xs6) := hap
    have HX6 : Hid (xs6[P]? = some (.slice sa (List.length ([] : List UInt8)) sc)) := hxp
    have HB6 : Hid (Bs w6 w3.heap.size (.slice sa (List.length ([] : List UInt8)) sc) []) := hsb
    clear hrow6 hgr6 bX ho6 hrow hit hap hxp hsb B46 HR4 HI4 HA4
    rw [HLL.out]
    go_wp2_with (at_builtin; refine wpList_appO _ rfl _ _ rfl w3.heap.size _ [] F rfl HB6.out fa fc rfl S6.out ?d0 ?d1 ?_)
    case d0 => have := HFL.out; simp; omega
    case d1 => exact hb36
    intro s5 w5 hs5 hr5
    obtain ⟨a5, c5, rfl⟩ := hs5.shape
    obtain ⟨ho5, cur5, hcur5, hpc⟩ := OwnS.put (f := F) HR6.out HI6.out HA6.out HL.out HX6.out hs5 hr5 (by have := HFL.out; simp; omega)
    rw [HLL.out, List.nil_append] at ho5
    have HO5 : Hid (OwnS (w5.setCell ⟨gv, P, none⟩ (.slice a5 F.length c5)) w3.heap.size (.slice (some ⟨gv, 0, none⟩) (ss.length + 1) vc6) ((ss ++ [[]]).set P F)) := ho5
    have hgv : w3.heap.size ≤ gv := (HR6.out.lt gv rfl).1
    have B65 : Below w3.heap.size w6 w5 := hr5.below hb36 fun g hg => (HB6.out.base g hg).1
    have T5 : Hid (Two w w5 (.slice a ss.length c) (.int .i64 nx)) := T6.out.low hw3 B65
    have T7 : Hid (Two w (w5.setCell ⟨gv, P, none⟩ (.slice a5 F.length c5)) (.slice a ss.length c) (.int .i64 nx)) := T5.out.low hw3 ((Below.refl _ _).setCell (by show w3.heap.size ≤ gv; omega) _)
    obtain ⟨y0, y1⟩ := cell_of hcur5 P
    rw [Array.getElem?_eq_getElem hpc] at y0
    have hw0 := T3.out.bel.size
    clear ho5 hs5 hr5 hcur5 B65 hcell
    obtain ⟨x0, x1⟩ := T7.out.cells
    obtain ⟨r0, r1, z0, z1, f0, f1⟩ := T7.out.ret (.slice (some ⟨gv, 0, none⟩) (ss.length + 1) vc6) (.int .i64 (nx + 1))
    have HNE : Hid (gv ≠ w.heap.size + 1 ∧ gv ≠ w.heap.size) := ⟨by omega, by omega⟩
    go_wp2_with fail
    refine bodyPost_ret (v := .tuple #[.agg #[.slice (some ⟨gv, 0, none⟩) (ss.length + 1) vc6, .int .i64 (nx + 1)], .int .i64 P, .int .i64 0]) (by simp [results, Try.results11, go_sem, r0, r1]) rfl ?_
    exact ⟨_, rfl, (HO5.out.ret T7.out _ _).base (by omega), T7.out.fin _ _⟩
end Go.Proofs.Ytocodkoanjcmkab
