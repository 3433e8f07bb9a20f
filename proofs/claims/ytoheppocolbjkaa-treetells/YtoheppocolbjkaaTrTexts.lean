/-
  The program's Texts.
-/
import Derived.Test.YtoheppocolbjkaaTrIter
namespace Go.Proofs.Ytoheppocolbjkaa
open Go.ChangeShapes Go.WideShapes Go.ChangeAt Go.RowKit Go.Deep

attribute [local go_sem] Oper.semAt_some

/-- The texts' text. -/
def txB {n : Nat} (v : T n) : ByteArray := if (sizeT v).1 = 0 then ⟨(txt v).toArray⟩ else ⟨#[]⟩

theorem escO_one (o : UInt8) : 1 ≤ (escO o).length := by
  unfold escO
  repeat' split
  all_goals simp
theorem esc_ge : ∀ l : List UInt8, l.length ≤ (esc l).length
  | [] => by simp
  | o :: r => by have := escO_one o; have := esc_ge r; simp only [esc, List.length_append, List.length_cons]; omega

theorem cat_le {α : Type} {f h : α → List UInt8} : ∀ l : List α, (∀ u ∈ l, (f u).length ≤ (h u).length) → (cat f l).length ≤ (cat h l).length
  | [], _ => Nat.le_refl _
  | u :: r, H => by
    have h1 := H u List.mem_cons_self
    have h2 := cat_le r fun x hx => H x (List.mem_cons_of_mem _ hx)
    simp only [cat, List.length_append]
    omega

theorem txt_le (n : Nat) : ∀ v : T n, (txt v).length ≤ (prt v).length := by
  induction n with
  | zero => intro v; exact v.elim
  | succ n ih =>
    rintro ⟨g, k, t, ats, its⟩
    rw [txt_node, prt_node]
    by_cases h : g.size = 0
    · rw [if_pos h, if_pos h]
      exact esc_ge _
    · rw [if_neg h, if_neg h]
      have := cat_le its fun u _ => ih u
      simp only [List.length_append]
      omega

theorem Bs.stay {D B : Nat} {W W' : World} {v : Value} {l : List UInt8} (h : Bs W B v l) (k : Stay D W W') : Bs W' B v l := by
  refine ownsRow_same h fun g hg => ?_
  obtain ⟨h1, h2⟩ := h
  rcases h2 with ⟨rfl, _⟩ | ⟨g', cap, cur, rfl, _, hb, _⟩
  · cases hg
  · simp only [Value.ownBlock, Option.some.injEq] at hg
    subst hg
    rw [hb]
    exact k.kp.2 _ _ _ _ hb

theorem Pr.stay {D B P q : Nat} {W W' : World} {l : List UInt8} (h : Pr W B P q l) (k : Stay D W W') : Pr W' B P q l := by
  obtain ⟨p, v, h0, h1, h2, h3, h4⟩ := h
  exact ⟨p, v, h0, h1, k.kp.2 _ _ _ _ h2, k.kp.2 _ _ _ _ h3, h4.stay k⟩

theorem PS.stay {w0 w wr w' : World} {B P q D : Nat} {l : List UInt8} (h : PS w0 w wr B P q l) (k : Stay D wr w') (h1 : w.heap.size ≤ D) (h2 : B ≤ D) (h3 : w0.heap.size ≤ D) : PS w0 w w' B P q l :=
  ⟨h.1.stay k, (k.less h1).kp0 h.2.1, h.2.2.1.trans (k.below.mono h2), h.2.2.2.1.trans (k.below.mono h3), Nat.le_trans h.2.2.2.2 k.kp.1⟩

set_option maxRecDepth 100000 in
set_option maxHeartbeats 1600000 in
theorem texts_any (n : Nat) (v : T n) (x : Value) (w : World) (hv : LayT w n x v) :
    Calls Try.prog 14 #[x] w fun e w' => e = .returned (.tuple #[.string (txB v), .int .i64 (sizeT v).1]) ∧ Below w.heap.size w w' := by
  have HV : Hid (LayT w n x v) := hv
  obtain ⟨g, k, t, aa, al, ac, ia, il, ic, rfl⟩ := LayT.shape n hv
  clear hv
  have CC : Hid (∀ W, Below w.heap.size w W → Calls Try.prog 17 #[mkT g k t aa al ac ia il ic] W fun e w' => e = .returned (.int .i64 (sizeT v).1) ∧ Below W.heap.size W w') := fun W h => check_any n v _ W (HV.out.below n h)
  by_cases he : (sizeT v).1 = 0
  · have HO : Hid ((txt v).length ≤ 3328000) := Nat.le_trans (txt_le n v) (print_ok he).2
    have HP : Hid (txB v = ⟨(txt v).toArray⟩) := by show _ = _; unfold txB; rw [if_pos he]
    rw [he] at CC
    rw [he]
    clear he
    refine (callsIn_wide (n := 9)).1 (callsIn_of_wp_marks Try.func14 rfl trivial ?_ rfl)
    simp only [Try.ntmps14, List.size_toArray, List.length_cons, List.length_nil, Nat.reduceAdd, Nat.reduceSub, Array.replicate_succ, Array.replicate_zero, List.push_toArray, List.append_toArray, List.nil_append, List.cons_append]
    gi_wp2
    refine ⟨trivial, (callsIn_wide.2 (CC.out _ (below_one _ _))).mono ?_⟩
    rintro e w1 ⟨rfl, hb1⟩
    have X1 : Hid (w1.heap[w.heap.size]? = _) := boxed hb1
    have B1 : Hid (Below w.heap.size w w1) := nxt (below_one _ _) hb1
    clear hb1 CC
    gi_wp2
    refine ⟨trivial, (callsIn_wide.2 (newPrinter_any w1)).mono ?_⟩
    rintro e w2 ⟨P, q, rfl, hp2, hb2⟩
    have HP2 : Hid (Pr w2 w1.heap.size P q []) := hp2
    have HB2 : Hid (Below w1.heap.size w1 w2) := hb2
    have X2 : Hid (w2.heap[w.heap.size]? = some (.cells #[.string g, .string k, .string t, .slice aa al ac, .slice ia il ic] 25 (0, 0))) := (hb2.block _ (lt_of_block X1.out)).trans X1.out
    clear hp2 hb2
    have X3 : Hid ((w2.alloc (.cells #[.pointer (some ⟨P, 0, none⟩)] 49)).heap[w.heap.size]? = some (.cells #[.string g, .string k, .string t, .slice aa al ac, .slice ia il ic] 25 (0, 0))) := ((below_one _ _).block _ (lt_of_block X2.out)).trans X2.out
    have HPB : Hid ((w2.alloc (.cells #[.pointer (some ⟨P, 0, none⟩)] 49)).heap[w2.heap.size]? = some (.cells #[.pointer (some ⟨P, 0, none⟩)] 49 (0, 0))) := heap_alloc_new _ _
    have S3 : Hid (PS w (w2.alloc (.cells #[.pointer (some ⟨P, 0, none⟩)] 49)) (w2.alloc (.cells #[.pointer (some ⟨P, 0, none⟩)] 49)) w1.heap.size P q []) :=
      ⟨HP2.out.below (below_one _ _), Kp.refl _, Below.refl _ _, nxt (nxt B1.out HB2.out) (below_one _ _), Nat.le_trans HB2.out.size (below_one w2 _).size⟩
    obtain ⟨y0, y1, y2, y3, y4, -⟩ := box_cells X3.out
    have HZ3 : Hid ((w2.alloc (.cells #[.pointer (some ⟨P, 0, none⟩)] 49)).heap.size = w2.heap.size + 1) := by show _ = _; simp
    generalize hWb : w2.alloc (.cells #[.pointer (some ⟨P, 0, none⟩)] 49) = Wb at *
    gi_wp2
    clear hWb
    refine ⟨trivial, (callsIn_wide.2 (texts_fn g k t aa al ac ia il ic _)).mono ?_⟩
    rintro e W5 ⟨rfl, hW5⟩
    have HB5 : Hid (Below Wb.heap.size Wb W5) := by
      show Below _ _ _
      rw [hW5]
      exact below_one _ _
    have HP5 : Hid (W5.heap[Wb.heap.size]? = some (.cells #[.string g, .string k, .string t, .slice aa al ac, .slice ia il ic] 25 (0, 0))) := by
      show _ = _
      rw [hW5]
      exact heap_alloc_new _ _
    have S5 : Hid (PS w Wb W5 w1.heap.size P q []) := S3.out.more HB5.out
    have HW1 : Hid (w.heap.size ≤ w1.heap.size) := B1.out.size
    clear hW5 y0 y1 y2 y3 y4
    gi_wp2
    have hlen : ([] : List UInt8).length + (txt v).length ≤ 1000000000 := by have := HO.out; simp; omega
    refine range_txt (by omega) rfl Wb.heap.size rfl w n v (texts_iter w n v) g k t aa al ac ia il ic HV.out HP5.out (fun l W => PS w Wb W w1.heap.size P q l) [] W5.heap.size (Nat.le_refl _)
      (fun l W W' h st => h.stay st HB5.out.size S5.out.2.2.2.2 (Nat.le_trans HW1.out S5.out.2.2.2.2)) (fun l W h => h.2.2.2.1) S5.out hlen
      (fun s => { tmps := #[mkT g k t aa al ac ia il ic, .pointer (some ⟨w.heap.size, 0, none⟩), .string ⟨#[]⟩, .int .i64 0, .int .i64 0, .pointer (some ⟨w2.heap.size, 0, none⟩), .string s, mkT g k t aa al ac ia il ic, .int .i64 0, .int .i64 0, .bool false, undef, .pointer (some ⟨P, 0, none⟩), mkT g k t aa al ac ia il ic, .func (.func 44) #[] #[.pointer (some ⟨Wb.heap.size, 0, none⟩)], .string s, undef, undef, undef, undef, undef, undef, undef, undef], defers := [] }) ?hassign ?hbody ?hdone
    case hassign =>
      intro rl s W' K hK
      gi_wp2
      exact hK
    case hbody =>
      intro rl l s W' hI' hk' hs' hls
      have SI : Hid (PS w Wb W' w1.heap.size P q l) := hI'
      have hcp := put_post w1.heap.size P q W'.heap.size l [s] (W'.alloc (.cells #[.string s] 9)) (SI.out.more (below_one _ _)).1 (SI.out.more (below_one _ _)).2.2.2.2 (by rw [catB1, toList_len]; exact hls) (by simp) (heap_alloc_new _ _)
      rw [catB1] at hcp
      have CP : Hid (Calls Try.prog 32 #[.pointer (some ⟨P, 0, none⟩), .slice (some ⟨W'.heap.size, 0, none⟩) 1 1] (W'.alloc (.cells #[.string s] 9)) _) := hcp
      obtain ⟨y0, -⟩ := cell_of (SI.out.2.1.at (by decide) (by decide) HPB.out) 0
      simp at y0
      clear hcp hI' hk' hs' hls
      gi_wp2
      refine ⟨trivial, CallsIn.inRound rl ((callsIn_wide.2 CP.out).mono ?_)⟩
      rintro e W6 h6
      have S6 : Hid (PS w Wb W6 w1.heap.size P q (l ++ s.toList)) := (SI.out.more (below_one _ _)).post HW1.out h6
      have K6 : Hid (Kp W' W6 ∧ W'.heap.size ≤ W6.heap.size) := ⟨(Kp.of_below (below_one _ _)).trans h6.2.2.1, Nat.le_trans (below_one W' _).size h6.2.2.2.size⟩
      obtain ⟨rfl, -⟩ := h6
      gi_wp2
      exact ⟨S6.out, K6.out⟩
    case hdone =>
      intro W' hI' hd hk' hs'
      have SI : Hid (PS w Wb W' w1.heap.size P q ([] ++ txt v)) := hI'
      rw [List.nil_append] at SI
      have HD : Hid (W'.heap[W5.heap.size]? = some (.deferred (some []))) := hd
      have CS : Hid (Calls Try.prog 29 #[.pointer (some ⟨P, 0, none⟩)] W' _) := string_any w1.heap.size P q (txt v) W' SI.out.1 SI.out.2.2.2.2
      obtain ⟨y0, -⟩ := cell_of (SI.out.2.1.at (by decide) (by decide) HPB.out) 0
      simp at y0
      obtain ⟨p3, v3, -, hpv3⟩ := SI.out.1
      obtain ⟨c0, c1, c2, -⟩ := three_cells hpv3.2.2.1
      clear hI' hd hk' hs' hpv3
      dsimp only
      gi_wp2
      refine ⟨trivial, (callsIn_wide.2 CS.out).mono ?_⟩
      rintro e W6 ⟨rfl, hb6, hk6⟩
      have HD6 : Hid (W6.heap[W5.heap.size]? = some (.deferred (some []))) := hk6 _ _ rfl HD.out
      have HB6 : Hid (Below w.heap.size w W6) := SI.out.2.2.2.1.trans (hb6.mono HW1.out)
      clear hb6 hk6 c0 c1 c2 y0 CS
      gi_wp2
      refine ⟨by simp, .inl ⟨_, _, rfl, run_takeDeferred HD6.out, ?_⟩⟩
      refine ⟨.tuple #[.string ⟨(txt v).toArray⟩, .int .i64 0], by simp [results, Try.results14, go_sem], by rw [HP.out], ?_⟩
      have h1 := HB5.out.size
      have h2 := S3.out.2.2.2.1.size
      exact HB6.out.trans ⟨rfl, rfl, rfl, by simp [World.putObj], fun j hj => World.putObj_heap_other (by omega)⟩
  · have HP : Hid (txB v = ⟨#[]⟩) := by show _ = _; unfold txB; rw [if_neg he]
    have hd1 : ((sizeT v).1 == 0) = false := by simpa using he
    have hd2 : ((sizeT v).1 != 0) = true := by simpa using he
    rw [HP.out]
    clear he HP
    generalize (sizeT v).1 = er at *
    refine (callsIn_wide (n := 9)).1 (callsIn_of_wp_marks Try.func14 rfl trivial ?_ rfl)
    simp only [Try.ntmps14, List.size_toArray, List.length_cons, List.length_nil, Nat.reduceAdd, Nat.reduceSub, Array.replicate_succ, Array.replicate_zero, List.push_toArray, List.append_toArray, List.nil_append, List.cons_append]
    gi_wp2
    refine ⟨trivial, (callsIn_wide.2 (CC.out _ (below_one _ _))).mono ?_⟩
    rintro e w1 ⟨rfl, hb1⟩
    gi_wp2
    refine ⟨.tuple #[.string ⟨#[]⟩, .int .i64 er], by simp [results, Try.results14, go_sem], rfl, nxt (below_one _ _) hb1⟩
end Go.Proofs.Ytoheppocolbjkaa
