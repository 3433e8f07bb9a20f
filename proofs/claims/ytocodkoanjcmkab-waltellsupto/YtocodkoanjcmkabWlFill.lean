/-
  What the statements call: filled.
-/
import Derived.Test.YtocodkoanjcmkabWlAlive
namespace Go.Proofs.Ytocodkoanjcmkab
open Go.ChangeShapes Go.WideShapes Go.ChangeAt Go.RowKit Go.Deep
open Se

/-- The page's records in a row of one's own; their octets lie in w0. -/
def OwnP (w0 W : World) (B : Nat) (v : Value) (rs : List Rc) : Prop :=
  ∃ xs, W.ownsRow B 62 2 v rs.length xs ∧ ∀ j r, rs[j]? = some r → ∃ a c, xs[2 * j]? = some (.int .i64 r.1) ∧ xs[2 * j + 1]? = some (.slice a r.2.length c) ∧ LayB w0 a r.2
theorem OwnP.nil (w0 W : World) (B : Nat) : OwnP w0 W B (.slice none 0 0) [] := ⟨[], World.ownsRow_nil _ _ _ _, fun j x h => by simp at h⟩
theorem OwnP.shape {w0 W : World} {B : Nat} {v : Value} {rs : List Rc} (h : OwnP w0 W B v rs) : ∃ a c, v = .slice a rs.length c := by
  obtain ⟨xs, h1, -⟩ := h
  exact slice_of_own h1
theorem OwnP.row {w0 W : World} {B : Nat} {v : Value} {rs : List Rc} (h : OwnP w0 W B v rs) : ∀ g, v.ownBlock = some g → B ≤ g ∧ g < W.heap.size ∧ ∃ cur, W.heap[g]? = some (.cells cur 62 (0, 0)) := by
  intro g hg
  obtain ⟨xs, h1, -⟩ := h
  have h3 := h1.lt g hg
  refine ⟨h3.1, h3.2, ?_⟩
  rcases h1.2 with ⟨h4, -⟩ | ⟨g', cap, cur, h4, h5, h6, -⟩
  · rw [h4] at hg; simp [Value.ownBlock] at hg
  · rw [h4] at hg
    simp only [Value.ownBlock, Option.some.injEq] at hg
    subst hg
    exact ⟨cur, h6⟩
theorem OwnP.same {w0 W W' : World} {B : Nat} {v : Value} {rs : List Rc} (h : OwnP w0 W B v rs) (hg : ∀ g, v.ownBlock = some g → W'.heap[g]? = W.heap[g]?) : OwnP w0 W' B v rs := by
  obtain ⟨xs, h1, h2⟩ := h
  exact ⟨xs, ownsRow_same h1 hg, h2⟩
theorem OwnP.below {w0 W W' : World} {B : Nat} {v : Value} {rs : List Rc} (h : OwnP w0 W B v rs) (hb : Below W.heap.size W W') : OwnP w0 W' B v rs := h.same fun g hg => hb.block g (h.row g hg).2.1
theorem OwnP.set {w0 W : World} {B : Nat} {v : Value} {rs : List Rc} (h : OwnP w0 W B v rs) {g o : Nat} {cs : Array Value} {t : TypeId} {r : Nat × Nat} (hg : W.heap[g]? = some (.cells cs t r)) (h1 : t ≠ 62) (u : Value) : OwnP w0 (W.setCell ⟨g, o, none⟩ u) B v rs :=
  h.same fun k hk => Below.heap_setCell _ _ _ _ (by
    rintro rfl
    obtain ⟨-, -, cur, h5⟩ := h.row _ hk
    rw [h5] at hg
    simp only [Option.some.injEq, Obj.cells.injEq] at hg
    exact h1 hg.2.1.symm)
theorem OwnP.box {w0 W : World} {B : Nat} {v : Value} {rs : List Rc} (h : OwnP w0 W B v rs) {g : Nat} {p q : Value} (hg : W.heap[g]? = some (.cells #[p, q] 26 (0, 0))) (x y : Value) : OwnP w0 ((W.setCell ⟨g, 0, none⟩ x).setCell ⟨g, 1, none⟩ y) B v rs :=
  (h.set hg (by decide) _).set (set_one_cell (o := 0) hg x) (by decide) _
theorem OwnP.lay {w0 w : World} {B : Nat} {a : Option Addr} {n c : Nat} {rs : List Rc} (h : OwnP w0 w B (.slice a n c) rs) (hb : Below w0.heap.size w0 w) : LayR w a rs := by
  obtain ⟨xs, hr, hi⟩ := h
  intro j f hj
  obtain ⟨a', c', h1, h2, h3⟩ := hi j f hj
  have hlt : j < rs.length := (List.getElem?_eq_some_iff.1 hj).1
  have hown := hr
  obtain ⟨l0, hc⟩ := hr
  rcases hc with ⟨h4, h5⟩ | ⟨g, cap, cur, h4, h5, h6⟩
  · omega
  · simp only [Value.slice.injEq] at h4
    obtain ⟨rfl, rfl, rfl⟩ := h4
    have e1 := hown.cells (g := g) rfl _ _ h1
    have e2 := hown.cells (g := g) rfl _ _ h2
    rw [add_plain] at e1 e2
    refine ⟨g, 0, a', c', rfl, ?_, ?_, h3.below hb⟩
    · rw [Nat.mul_comm]; exact e1
    · rw [Nat.mul_comm]; exact e2
theorem Try.infoPr : (Try.prog.info? 62).map (fun i => (i.zero, i.size, i.bytes)) = some (some (.agg #[.int .i64 0, .slice none 0 0]), 2, 32) := by kernel_rfl
/-- append of one of the page's records, as one step. -/
theorem step_pushP {ops : Array Oper} {o : Oper} {a : Act} {w : World} {K : Act → World → Prop} {Q : Exit → Act → World → Prop} {E : Prop} (hg : o.guard = none) (sl x : Operand)
    (ho : o.op = .call { callee := .builtin .append, args := #[sl, x], argTypes := #[37, 37] })
    (w0 : World) (B : Nat) (v : Value) (rs : List Rc) (hs : a.eval sl = v) (hown : OwnP w0 w B v rs) (r : Rc) (ya : Option Addr) (yc : Nat) (hy : LayB w0 ya r.2) (ad : Addr) (hx : a.eval x = .slice (some ad) 1 1)
    (hnews : ∀ j u, [Value.int .i64 r.1, Value.slice ya r.2.length yc][j]? = some u → w.cell? (ad.add j) = some u) (hlen : (rs.length + 1) * 32 ≤ 140737488355328) (hbase : B ≤ w.heap.size)
    (h : ∀ v' w', OwnP w0 w' B v' (rs ++ [r]) → w.grownBy w' v.ownBlock → K (a.put o.dst v') w') : if Region.wanted o (yielded ops a.tmps) = true then Oper.wp Try.prog o a w K Q else E := by
  obtain ⟨i0, hi, hz0, hz1, hz2⟩ := info_parts Try.infoPr
  have hrow := hown.row
  obtain ⟨xs, hr, hit⟩ := hown
  refine step_append hg sl x 37 ho B 62 i0 _ 2 32 Try.underlying37 hi hz0 hz1 hz2 rfl (by decide) v rs.length xs hs hr ad 1 1 _ hx rfl hnews (by simp [Value.oneCell']) (by unfold maxLen; omega) hlen hbase ?_
  intro v' w' h1 h2 h3
  refine h v' w' ⟨_, by rw [List.length_append]; exact h1, ?_⟩ h2
  have hl : xs.length = 2 * rs.length := by have := hr.1; omega
  intro j g hj
  by_cases hlt : j < rs.length
  · rw [List.getElem?_append_left hlt] at hj
    obtain ⟨a', c', h1, h2, h3⟩ := hit j g hj
    exact ⟨a', c', by rw [List.getElem?_append_left (by omega)]; exact h1, by rw [List.getElem?_append_left (by omega)]; exact h2, h3⟩
  · rw [List.getElem?_append_right (by omega)] at hj
    have hj0 : j = rs.length := by
      have := (List.getElem?_eq_some_iff.1 hj).1
      simp at this
      omega
    subst hj0
    simp only [Nat.sub_self, List.getElem?_cons_zero, Option.some.injEq] at hj
    subst hj
    refine ⟨ya, yc, ?_, ?_, hy⟩
    · rw [List.getElem?_append_right (by omega), show 2 * rs.length - xs.length = 0 by omega]; rfl
    · rw [List.getElem?_append_right (by omega), show 2 * rs.length + 1 - xs.length = 1 by omega]; rfl

/-- Segments stay where no row of octets, and no row of segments, is written. -/
theorem OwnS.keep {W W' : World} {B : Nat} {v : Value} {ss : List (List UInt8)} (h : OwnS W B v ss) (hs : W.heap.size ≤ W'.heap.size) (hk : ∀ (k : Nat) (cs : Array Value) (t : TypeId) (r : Nat × Nat), (t = 5 ∨ t = 25) → W.heap[k]? = some (.cells cs t r) → W'.heap[k]? = W.heap[k]?) : OwnS W' B v ss := by
  have hrow := h.row
  obtain ⟨xs, q1, q2, q3⟩ := h
  refine ⟨xs, ownsRow_same q1 fun g hg => ?_, q2.kpb ⟨hs, fun j cs r hj => hk _ _ _ _ (Or.inl rfl) hj⟩, q3⟩
  obtain ⟨-, -, cur, h5⟩ := hrow g hg
  exact hk _ _ _ _ (Or.inr rfl) h5

theorem own_cap {W : World} {B : Nat} {t : TypeId} {k : Nat} {a : Option Addr} {m n c : Nat} {xs : List Value} (h : W.ownsRow B t k (.slice a m c) n xs) : m ≤ c ∧ c ≤ 9223372036854775807 := by
  rcases h.2 with ⟨h4, -⟩ | ⟨g, cap, cur, h4, h5, h6, h7, h8, -⟩
  · simp only [Value.slice.injEq] at h4
    omega
  · simp only [Value.slice.injEq] at h4
    unfold maxLen at h8
    omega
theorem OwnS.cap {W : World} {B : Nat} {a : Option Addr} {m c : Nat} {ss : List (List UInt8)} (h : OwnS W B (.slice a m c) ss) : m ≤ c ∧ c ≤ 9223372036854775807 := by
  obtain ⟨xs, h1, -⟩ := h
  exact own_cap h1
theorem OwnP.cap {w0 W : World} {B : Nat} {a : Option Addr} {m c : Nat} {rs : List Rc} (h : OwnP w0 W B (.slice a m c) rs) : m ≤ c ∧ c ≤ 9223372036854775807 := by
  obtain ⟨xs, h1, -⟩ := h
  exact own_cap h1

theorem OwnP.plain {w0 W : World} {B : Nat} {a : Option Addr} {m c : Nat} {rs : List Rc} (h : OwnP w0 W B (.slice a m c) rs) : (a = none ∧ c = 0) ∨ ∃ g, a = some ⟨g, 0, none⟩ := by
  obtain ⟨xs, h1, -⟩ := h
  rcases h1.2 with ⟨h4, -⟩ | ⟨g, cap, cur, h4, -⟩
  · simp only [Value.slice.injEq] at h4
    exact Or.inl ⟨h4.1, h4.2.2⟩
  · simp only [Value.slice.injEq] at h4
    exact Or.inr ⟨g, h4.1⟩

/-- What filled keeps between two rounds. -/
structure FlI (w wr : World) (f : Int) (m : Nat) (v : Value) (gs : List (List Rc)) (ss : List (List UInt8)) (nx : Int) (xa : Option Addr) (xc : Nat) : Prop where
  res : wr.heap[w.heap.size]? = some (.cells #[.slice none 0 0, .int .i64 0] 26 (0, 0))
  box : wr.heap[w.heap.size + 1]? = some (.cells #[.slice xa ss.length xc, .int .i64 nx] 26 (0, 0))
  lg : Lg f gs ss nx
  few : gs.length ≤ m ∧ nx ≤ f + m
  own : OwnS wr (w.heap.size + 2) (.slice xa ss.length xc) ss
  want : OwnP w wr (w.heap.size + 2) v gs.flatten
  bel : Below w.heap.size w wr
theorem FlI.below {w wr W : World} {f : Int} {m : Nat} {v : Value} {gs : List (List Rc)} {ss : List (List UInt8)} {nx : Int} {xa : Option Addr} {xc : Nat} (h : FlI w wr f m v gs ss nx xa xc) (hb : Below wr.heap.size wr W) : FlI w W f m v gs ss nx xa xc :=
  ⟨(hb.block _ (lt_of_block h.res)).trans h.res, (hb.block _ (lt_of_block h.box)).trans h.box, h.lg, h.few, h.own.below hb, h.want.below hb, nxt h.bel hb⟩
theorem FlI.more {w wr : World} {f : Int} {m : Nat} {v : Value} {gs : List (List Rc)} {ss : List (List UInt8)} {nx : Int} {xa : Option Addr} {xc : Nat} (h : FlI w wr f m v gs ss nx xa xc) : FlI w wr f (m + 1) v gs ss nx xa xc :=
  ⟨h.res, h.box, h.lg, by have := h.few; omega, h.own, h.want, h.bel⟩

/-- What filled leaves. -/
def FilPost (w : World) (e : Ending) (w' : World) : Prop :=
  ∃ (f nx : Int) (gs : List (List Rc)) (ss : List (List UInt8)) (xa : Option Addr) (xc : Nat) (wa : Option Addr) (wc : Nat), e = .returned (.tuple #[.agg #[.slice xa ss.length xc, .int .i64 nx], .slice wa gs.flatten.length wc, .bool true]) ∧ Lg f gs ss nx ∧ gs.length ≤ 30 ∧ f ≤ 1000 ∧ nx ≤ f + 30
    ∧ LayS w' xa ss ∧ LayR w' wa gs.flatten ∧ ss.length ≤ xc ∧ xc ≤ 9223372036854775807 ∧ gs.flatten.length ≤ wc ∧ wc ≤ 9223372036854775807 ∧ ((wa = none ∧ wc = 0) ∨ ∃ g, wa = some ⟨g, 0, none⟩) ∧ Below w.heap.size w w'

set_option maxRecDepth 100000 in
set_option maxHeartbeats 6400000 in
theorem filled_any (n : Int) (l : List (List UInt8)) (a : Option Addr) (c : Nat) (w : World) (hl : LayS w a l) (hn : l.length ≤ 200000000000000) :
    Calls Try.prog 28 #[.int .i64 n, .slice a l.length c] w (FilPost w) := by
  have HL : Hid (LayS w a l) := hl
  clear hl
  obtain ⟨f, hf⟩ : ∃ f : Int, wrap64 (1 + (wrap64 (n.tmod 1000 + 1000)).tmod 1000) = f := ⟨_, rfl⟩
  have hf1 : 1 ≤ f ∧ f ≤ 1000 := by
    have h1 := Int.tmod_lt_of_pos n (show (0 : Int) < 1000 by decide)
    have h2 : -1000 < n.tmod 1000 := by
      have := Int.lt_tmod_of_pos n (show (0 : Int) < 1000 by decide)
      omega
    have h4 : wrap64 (n.tmod 1000 + 1000) = n.tmod 1000 + 1000 := wrap_id (by omega) (by omega)
    rw [h4] at hf
    have h3 : (n.tmod 1000 + 1000).tmod 1000 = (n.tmod 1000 + 1000) % 1000 := Int.tmod_eq_emod_of_nonneg (by omega)
    rw [h3, wrap_id (by omega) (by omega)] at hf
    omega
  obtain ⟨hf1, hf2⟩ := hf1
  have I0 : Hid (FlI w ((w.alloc (.cells #[.slice none 0 0, .int .i64 0] 26)).alloc (.cells #[.slice none 0 0, .int .i64 f] 26)) f 0 (.slice none 0 0) [] [] f none 0) :=
    ⟨(Below.heap_alloc _ _ _ (by simp)).trans (heap_alloc_new _ _), heap_new2 _ _ _, Lg.new hf1 (by omega), by simp, OwnS.nil _ _, OwnP.nil _ _ _, nxt (below_one _ _) (below_one _ _)⟩
  go_enter Try.func28, Try.ntmps28
  go_wp2_with fail
  rw [hf]
  clear hf
  generalize (w.alloc (.cells #[.slice none 0 0, .int .i64 0] 26)).alloc (.cells #[.slice none 0 0, .int .i64 f] 26) = W0 at *
  go_loopw [8, 9] (fun v i wr => ∃ (m : Nat) (gs : List (List Rc)) (ss : List (List UInt8)) (nx : Int) (xa : Option Addr) (xc : Nat), i = .int .i64 m ∧ m ≤ l.length ∧ m ≤ 30 ∧ Hid (FlI w wr f m v gs ss nx xa xc)) (fun _ i _ => 30 - (intOf i).toNat)
  case atStart => exact ⟨0, [], [], f, none, 0, rfl, by omega, by omega, I0.out⟩
  case round =>
    obtain ⟨m, gs, ss, nx, xa, xc, rfl, hm, hm30, HI⟩ := hrel
    obtain ⟨va, vc, rfl⟩ := HI.out.want.shape
    obtain ⟨wl, hwl⟩ : ∃ wl, gs.flatten.length = wl := ⟨_, rfl⟩
    have HWL : Hid (gs.flatten.length = wl) := hwl
    rw [hwl] at HI ⊢
    clear hwl
    have hw2 : w.heap.size + 1 < wr.heap.size := lt_of_block HI.out.box
    by_cases hgo : m < l.length ∧ m < 30
    · have hgo1 : (m : Int) < (l.length : Int) := by omega
      have hgo2 : (m : Int) < 30 := by omega
      obtain ⟨d, hd⟩ : ∃ d, l[m]? = some d := ⟨_, List.getElem?_eq_getElem hgo.1⟩
      obtain ⟨b, off, a1, c1, rfl, q1w, q2, q3⟩ := HL.out m d hd
      have q1 := keepc HI.out.bel _ _ q1w
      have HD : Hid (Oct w a1 c1 d) := q2
      have HNX : Hid (-9223372036854775808 ≤ nx ∧ nx ≤ 9223372036854775807 ∧ ss.length ≤ 64) := by
        have h1 := HI.out.lg.lo
        have h2 := HI.out.lg.next
        have h3 := HI.out.lg.hi
        have h4 := HI.out.lg.few
        have h5 : ss.length = gs.length := by rw [HI.out.lg.segs, List.length_map]
        exact ⟨by omega, by omega, by omega⟩
      have HAP : Hid (∀ W, Below wr.heap.size wr W → Calls Try.prog 11 #[.agg #[.slice xa ss.length xc, .int .i64 nx], .slice a1 d.length c1] W (fun e w' => ∃ y, e = .returned y ∧ ∃ ua uc, y = .tuple #[.agg #[.slice ua (appR ss nx d).2.2.length uc, .int .i64 (nxtR ss nx d)], .int .i64 (appR ss nx d).2.1, .int .i64 (appR ss nx d).1] ∧ OwnS w' W.heap.size (.slice ua (appR ss nx d).2.2.length uc) (appR ss nx d).2.2 ∧ Below W.heap.size W w')) := by
        intro W hb
        refine Calls.mono (append_any ss nx xa xc d a1 c1 W (HI.out.own.below hb).lay (by have := HNX.out; omega) HNX.out.1 HNX.out.2.1 (HD.out.below (nxt HI.out.bel hb))) ?_
        rintro e w' ⟨v, rfl, ho, hb⟩
        obtain ⟨ua, uc, rfl⟩ := ho.shape
        exact ⟨_, rfl, ua, uc, rfl, ho, hb⟩
      have HLO : Hid (400 < d.length → appR ss nx d = (5, 0, [])) := fun h => HI.out.lg.long h
      have HSH : Hid (d.length ≤ 400 → appR ss nx d = (0, plc ss (16 + d.length), addS ss (rfr nx d)) ∧ nxtR ss nx d = nx + 1 ∧ ∃ gs', Lg f gs' (addS ss (rfr nx d)) (nx + 1) ∧ gs'.flatten = gs.flatten ++ [(nx, d)] ∧ gs'.length ≤ gs.length + 1) := by
        intro h
        have h2 := HI.out.few
        exact HI.out.lg.app h (by omega) (by omega)
      generalize appR ss nx d = R at *
      generalize nxtR ss nx d = ny at *
      obtain ⟨er, pl, ss2⟩ := R
      simp only at HAP
      obtain ⟨x0, -⟩ := cell_of HI.out.box 0
      obtain ⟨x1, -⟩ := cell_of HI.out.box 1
      simp at x0 x1
      have x0d : wr.drew.cell? ⟨w.heap.size + 1, 0, none⟩ = _ := x0
      have x1d : wr.drew.cell? ⟨w.heap.size + 1, 1, none⟩ = _ := x1
      have q1d : wr.drew.cell? ⟨b, off + m, none⟩ = _ := q1
      have x0a : ∀ o, (wr.alloc o).drew.cell? ⟨w.heap.size + 1, 0, none⟩ = _ := fun o => keepc (below_one wr o) _ _ x0
      have x1a : ∀ o, (wr.alloc o).drew.cell? ⟨w.heap.size + 1, 1, none⟩ = _ := fun o => keepc (below_one wr o) _ _ x1
      have q1a : ∀ o, (wr.alloc o).drew.cell? ⟨b, off + m, none⟩ = _ := fun o => keepc (below_one wr o) _ _ q1
      have hZ : (wr.alloc (.cells #[.slice none 0 0, .int .i64 0] 26)).drew.heap[wr.heap.size]? = some (.cells #[.slice none 0 0, .int .i64 0] 26 (0, 0)) := heap_alloc_new _ _
      have HZ : Hid ((wr.alloc (.cells #[.slice none 0 0, .int .i64 0] 26)).drew.heap[wr.heap.size]? = some (.cells #[.slice none 0 0, .int .i64 0] 26 (0, 0))) := hZ
      clear hZ hd q2 q1w I0
      go_wp2_with fail
      go_cut [10, 12] (fun v10 v12 wc => v12 = .int .i64 er ∧ ∃ Bt ta tc, v10 = .pointer (some ⟨Bt, 0, none⟩) ∧ wr.heap.size ≤ Bt ∧ Hid (wc.heap[Bt]? = some (.cells #[.slice ta ss2.length tc, .int .i64 ny] 26 (0, 0))) ∧ Hid (OwnS wc wr.heap.size (.slice ta ss2.length tc) ss2) ∧ Hid (Below wr.heap.size wr wc))
      case first =>
        go_region_law (first
          | (refine step_call2 rfl 11 (by intros; go_simp) _ _ _ rfl (.agg #[.slice xa ss.length xc, .int .i64 nx]) (.slice a1 d.length c1) (by first | (simp [Act.eval]; done) | simp [Act.eval, Act.put]) (by first | (simp [Act.eval]; done) | simp [Act.eval, Act.put]) _ (HAP.out _ (by first | exact (Below.refl _ wr).drew | exact (below_one wr _).drew)) ?_; intro y w4 hR; obtain ⟨ua, uc, rfl, h5, h6⟩ := hR
             have BW : Below wr.heap.size wr w4 := by first | exact (Below.refl _ wr).drew.trans h6 | exact ((below_one wr _).drew).trans (h6.mono (by simp))
             first
               | (have hz8 : w4.heap[wr.heap.size]? = some (.cells #[.slice none 0 0, .int .i64 0] 26 (0, 0)) := (h6.block _ (lt_of_block HZ.out)).trans HZ.out
                  have g0 := (cell_of hz8 0).1
                  have g1 := (cell_of hz8 1).1
                  have f0 := (cell_of hz8 0).2
                  have f1 := (cell_of hz8 1).2
                  simp at g0 g1)
               | skip))
        all_goals
          go_wp2_with fail
          go_meet
          first
            | exact ⟨rfl, w4.heap.size, ua, uc, rfl, BW.size, heap_alloc_new _ _, (h5.below (below_one _ _)).base (by simp), nxt BW (below_one _ _)⟩
            | exact ⟨rfl, wr.heap.size, ua, uc, rfl, Nat.le_refl _, boxed2 hz8 _ _, (h5.box hz8 _ _).base (by simp), (BW.setCell (Nat.le_refl _) _).setCell (Nat.le_refl _) _⟩
      case rest =>
        obtain ⟨rfl, Bt, ta, tc, rfl, hBt, XB, OB, BC⟩ := hcut
        generalize wc = Wc at *
        have HI2 : Hid (FlI w Wc f m (.slice va wl vc) gs ss nx xa xc) := HI.out.below BC.out
        have q2 := keepc BC.out _ _ q1
        have q2d : Wc.drew.cell? ⟨b, off + m, none⟩ = _ := q2
        have hBtl := lt_of_block XB.out
        clear x0 x1 x0d x1d q1d x0a x1a q1a q1 HZ HAP HI
        by_cases h4 : 400 < d.length
        · have h4b : (400 : Int) < d.length := by omega
          have he := HLO.out h4
          simp only [Prod.mk.injEq] at he
          obtain ⟨rfl, rfl, rfl⟩ := he
          have e5 : ((5 : Int) != 5) = false := by decide
          clear HLO HSH
          go_wp2_with (go_at_call 18; refine (num_any _ _).mono ?_; rintro e w6 ⟨rfl, hw6⟩; subst w6)
          exact ⟨⟨m + 1, gs, ss, nx, xa, xc, by go_num, by omega, by omega, HI2.out.more⟩, by simp [intOf]; omega⟩
        · have h4b : ¬ (400 : Int) < d.length := by omega
          obtain ⟨he, rfl, gs', L', hfl, hgl⟩ := HSH.out (by omega)
          simp only [Prod.mk.injEq] at he
          obtain ⟨rfl, rfl, hss2⟩ := he
          rw [← hss2] at L'
          have HLG : Hid (Lg f gs' ss2 (nx + 1)) := L'
          have HFL : Hid (gs'.flatten = gs.flatten ++ [(nx, d)]) := hfl
          have HGL : Hid (gs'.length ≤ gs.length + 1) := hgl
          clear HLO HSH hss2 L' hfl hgl
          have e0 : ((0 : Int) != 0) = false := by decide
          obtain ⟨x1, -⟩ := cell_of HI2.out.box 1
          simp at x1
          have x1d : Wc.drew.cell? ⟨w.heap.size + 1, 1, none⟩ = _ := x1
          have hwl : wl ≤ 1000 := by
            have h1 := HI2.out.lg.next
            have h2 := HI2.out.few
            have h3 := HWL.out
            omega
          have hbas : w.heap.size + 2 ≤ Wc.heap.size := by have := lt_of_block HI2.out.box; omega
          go_wp2_with (go_at_call 18; refine (num_any _ _).mono ?_; rintro e w6 ⟨rfl, hw6⟩; subst w6)
          go_cut [8] (fun v8 wz => Hid (OwnP w wz (w.heap.size + 2) v8 gs'.flatten ∧ Below w.heap.size w wz ∧ Wc.heap.size ≤ wz.heap.size ∧ ∀ (k : Nat) (cs : Array Value) (t : TypeId) (r : Nat × Nat), t ≠ 62 → Wc.heap[k]? = some (.cells cs t r) → wz.heap[k]? = Wc.heap[k]?))
          case first =>
            go_region_law (refine step_pushP rfl _ _ rfl w (w.heap.size + 2) (.slice va wl vc) gs.flatten (by first | (simp [Act.eval]; done) | simp [Act.eval, Act.put]) ((HI2.out.want.below (Below.refl _ _).drew).below (below_one _ _)) (nx, d) a1 c1 HD.out.1 ⟨Wc.heap.size, 0, none⟩ (by first | (simp [Act.eval]; done) | simp [Act.eval, Act.put]) (fun j u hj => newCells Wc.drew _ _ j u (by simpa using hj)) (by rw [HWL.out]; omega) (by simp; omega) ?_; intro v' w5 k1 k2)
            all_goals
              go_wp2_with fail
              go_meet
              have bX := below_drew_alloc Wc (.cells #[.int .i64 nx, .slice a1 d.length c1] 62)
              refine ⟨by rw [HFL.out]; exact k1, (nxt HI2.out.bel bX).grown k2 (by simp; omega) (fun j e => by have := (HI2.out.want.row j e).1; omega), by have h2 := k2.size; simp at h2; omega, ?_⟩
              intro k cs t r ht hk
              have hlt := lt_of_block hk
              have h1 := bX.block k hlt
              refine (k2.block k (by simp; omega) ?_).trans h1
              intro e
              obtain ⟨-, -, cur, h5⟩ := HI2.out.want.row k e.symm
              rw [hk] at h5
              simp only [Option.some.injEq, Obj.cells.injEq] at h5
              exact ht h5.2.1
          case rest =>
            obtain ⟨ho5, hb5, hsz, hk5⟩ := hcut.out
            have HX5 : Hid (wc.heap[w.heap.size + 1]? = some (.cells #[.slice xa ss.length xc, .int .i64 nx] 26 (0, 0))) := (hk5 _ _ _ _ (by decide) HI2.out.box).trans HI2.out.box
            have HR5 : Hid (wc.heap[w.heap.size]? = some (.cells #[.slice none 0 0, .int .i64 0] 26 (0, 0))) := (hk5 _ _ _ _ (by decide) HI2.out.res).trans HI2.out.res
            have HY5 : Hid (wc.heap[Bt]? = some (.cells #[.slice ta ss2.length tc, .int .i64 (nx + 1)] 26 (0, 0))) := (hk5 _ _ _ _ (by decide) XB.out).trans XB.out
            have HO5 : Hid (OwnS wc (w.heap.size + 2) (.slice ta ss2.length tc) ss2) := (OB.out.keep hsz (fun k cs t r ht hk => hk5 k cs t r (by rcases ht with rfl | rfl <;> decide) hk)).base (by omega)
            have HP5 : Hid (OwnP w wc (w.heap.size + 2) _ gs'.flatten) := ho5
            have HB5 : Hid (Below w.heap.size w wc) := hb5
            obtain ⟨z0, -⟩ := cell_of HY5.out 0
            obtain ⟨z1, -⟩ := cell_of HY5.out 1
            obtain ⟨y0, f0⟩ := cell_of HX5.out 0
            obtain ⟨y1, f1⟩ := cell_of HX5.out 1
            simp at z0 z1 y0 y1
            have hfw := HI2.out.few
            have hgl := HGL.out
            clear ho5 hb5 hk5 x1 x1d q2 q2d hcut
            go_wp2_with fail
            refine ⟨⟨m + 1, gs', ss2, nx + 1, ta, tc, by go_num, by omega, by omega, ?_⟩, by simp [intOf]; omega⟩
            refine ⟨?_, boxed2 HX5.out _ _, HLG.out, by omega, HO5.out.box HX5.out _ _, HP5.out.box HX5.out _ _, (HB5.out.setCell (by show w.heap.size ≤ w.heap.size + 1; omega) _).setCell (by show w.heap.size ≤ w.heap.size + 1; omega) _⟩
            rw [Below.heap_setCell _ _ _ _ (by show w.heap.size ≠ w.heap.size + 1; omega), Below.heap_setCell _ _ _ _ (by show w.heap.size ≠ w.heap.size + 1; omega)]
            exact HR5.out
    · have hgo' : ¬ ((m : Int) < (l.length : Int)) ∨ ((m : Int) < (l.length : Int) ∧ ¬ (m : Int) < 30) := by omega
      obtain ⟨x0, -⟩ := cell_of HI.out.box 0
      obtain ⟨x1, -⟩ := cell_of HI.out.box 1
      obtain ⟨y0, f0⟩ := cell_of HI.out.res 0
      obtain ⟨y1, f1⟩ := cell_of HI.out.res 1
      simp at x0 x1 y0 y1
      have hs2 := boxed2 HI.out.res (.slice xa ss.length xc) (.int .i64 nx)
      have s0 := (cell_of hs2 0).1
      have s1 := (cell_of hs2 1).1
      simp at s0 s1
      rcases hgo' with h | ⟨h, h'⟩
      all_goals
        go_wp2_with fail
        refine bodyPost_ret (v := .tuple #[.agg #[.slice xa ss.length xc, .int .i64 nx], .slice va wl vc, .bool true]) (by simp [results, Try.results28, go_sem, s0, s1]) rfl ?_
        have hfw := HI.out.few
        have hO := HI.out.own.box HI.out.res (.slice xa ss.length xc) (.int .i64 nx)
        have hP := HI.out.want.box HI.out.res (.slice xa ss.length xc) (.int .i64 nx)
        have hB := (HI.out.bel.setCell (show w.heap.size ≤ (⟨w.heap.size, 0, none⟩ : Addr).block from Nat.le_refl _) (.slice xa ss.length xc)).setCell (show w.heap.size ≤ (⟨w.heap.size, 1, none⟩ : Addr).block from Nat.le_refl _) (.int .i64 nx)
        exact ⟨f, nx, gs, ss, xa, xc, va, vc, by rw [HWL.out], HI.out.lg, by omega, hf2, by omega, hO.lay, hP.lay hB, hO.cap.1, hO.cap.2, by rw [HWL.out]; exact hP.cap.1, hP.cap.2, hP.plain, hB⟩
end Go.Proofs.Ytocodkoanjcmkab
