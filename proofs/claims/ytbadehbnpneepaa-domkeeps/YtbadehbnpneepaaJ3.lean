/-
  The program's Tree.
-/
import Derived.Test.YtbadehbnpneepaaDoTreeW
import Derived.Test.YtbadehbnpneepaaTfFrame
namespace Go.Proofs.Ytbadehbnpneepaa
open Go.ChangeShapes Go.WideShapes Go.ChangeAt Go.RowKit Go.Deep
open Do

theorem okd_kid {s : Ds} (h : OkD s) : ∀ x n, nd s.nodes x = some n → n.kids.length ≤ 32 ∧ ∀ y ∈ n.kids, ∃ m, nd s.nodes y = some m := by
  intro x n hx
  have a := h.good.at hx
  exact ⟨(alone_iff.1 a.alone).2.2, fun y hy => by obtain ⟨m, h1, -⟩ := a.kid y hy; exact ⟨m, h1⟩⟩

theorem OwnT.less8 {w w' : World} {k : Nat} {y : Value} {t : T k} {F : Nat → Prop} {B : Nat} (h : OwnT w k y t F) (hF : ∀ b, F b → B ≤ b) (hk : ∀ b, B ≤ b → w'.heap[b]? = w.heap[b]?) : OwnT w' k y t F := h.same k fun b hb => hk b (hF b hb)

set_option maxRecDepth 100000 in
set_option maxHeartbeats 1600000 in
theorem tree_any (s : Ds) (a : Option Addr) (c : Nat) (w : World) (hs : DsIs w s a c) :
    Calls Try.prog 13 #[.agg #[.slice a s.nodes.length c, .int .i64 s.root, .int .i64 s.next]] w fun e w' => TrPost 8 w w' e (treeD s).1 (treeD s).2 := by
  have HCK : Hid (∀ W, Below w.heap.size w W → Calls Try.prog 17 #[.agg #[.slice a s.nodes.length c, .int .i64 s.root, .int .i64 s.next]] W fun e w' => e = .returned (.int .i64 (chkD s)) ∧ Below W.heap.size W w') := fun W hb => checkD_any s a c W (hs.below hb)
  have HTO : Hid (∀ W, Below w.heap.size w W → okD s = true → s.root ≠ 0 → Calls Try.prog 28 #[.slice a s.nodes.length c, .int .i64 s.root, .int .i64 1] W fun e w' => TrPost 8 W w' e 10 (trO s.nodes 8 s.root)) := by
    intro W hb hk h0
    have ho := okD_iff.1 hk
    have := treeOf_any s.nodes a c ho.good.up ho.len (okd_kid ho) 8 s.root W (Nat.le_refl _) (hs.below hb).lay (by
      rcases ho.root with h | ⟨m, h1, -⟩
      · exact absurd h h0
      · exact ⟨m, h1⟩)
    exact this
  unfold treeD
  unfold chkD at HCK
  clear hs
  generalize hk : okD s = k at *
  clear hk
  generalize htr : trO s.nodes 8 s.root = tr at *
  clear htr
  obtain ⟨K3, hK3⟩ : ∃ W : World, W = (w.alloc (.cells #[.slice a s.nodes.length c, .int .i64 s.root, .int .i64 s.next] 29)).alloc (.cells #[.string ⟨#[]⟩, .string ⟨#[]⟩, .string ⟨#[]⟩, .slice none 0 0, .slice none 0 0] 25) := ⟨_, rfl⟩
  have B3 : Hid (Below w.heap.size w K3) := by show Below _ _ _; rw [hK3]; exact two_new _ _ _
  have Y0 : Hid (K3.heap[w.heap.size]? = some (.cells #[.slice a s.nodes.length c, .int .i64 s.root, .int .i64 s.next] 29 (0, 0))) := by show _ = _; rw [hK3]; exact ((below_one _ _).block _ (by simp)).trans (heap_alloc_new _ _)
  have Y2 : Hid (K3.heap[w.heap.size + 1]? = some (.cells #[.string ⟨#[]⟩, .string ⟨#[]⟩, .string ⟨#[]⟩, .slice none 0 0, .slice none 0 0] 25 (0, 0))) := by show _ = _; rw [hK3]; exact heap_new2 _ _ _
  go_enter Try.func13, Try.ntmps13
  go_wp2_with fail
  rw [← hK3]
  clear hK3
  obtain ⟨y0, y1, y2⟩ := three Y0.out
  have FIN : Hid (∀ (W : World) (er : Int), Below w.heap.size w W → W.heap[w.heap.size + 1]? = some (.cells #[.string ⟨#[]⟩, .string ⟨#[]⟩, .string ⟨#[]⟩, .slice none 0 0, .slice none 0 0] 25 (0, 0)) → Below w.heap.size w (((((W.setCell ⟨w.heap.size + 1, 0, none⟩ (.string ⟨#[]⟩)).setCell ⟨w.heap.size + 1, 1, none⟩ (.string ⟨#[]⟩)).setCell ⟨w.heap.size + 1, 2, none⟩ (.string ⟨#[]⟩)).setCell ⟨w.heap.size + 1, 3, none⟩ (.slice none 0 0)).setCell ⟨w.heap.size + 1, 4, none⟩ (.slice none 0 0)) ∧ (((((W.setCell ⟨w.heap.size + 1, 0, none⟩ (.string ⟨#[]⟩)).setCell ⟨w.heap.size + 1, 1, none⟩ (.string ⟨#[]⟩)).setCell ⟨w.heap.size + 1, 2, none⟩ (.string ⟨#[]⟩)).setCell ⟨w.heap.size + 1, 3, none⟩ (.slice none 0 0)).setCell ⟨w.heap.size + 1, 4, none⟩ (.slice none 0 0)).heap[w.heap.size + 1]? = some (.cells #[.string ⟨#[]⟩, .string ⟨#[]⟩, .string ⟨#[]⟩, .slice none 0 0, .slice none 0 0] 25 (0, 0))) := by
    intro W er hb hR
    obtain ⟨f1, -, f3, -⟩ := tree_fin (c0 := .string ⟨#[]⟩) (c1 := .string ⟨#[]⟩) (c2 := .string ⟨#[]⟩) (c3 := .slice none 0 0) (c4 := .slice none 0 0) hR
    exact ⟨f3 w.heap.size w (by omega) hb, f1⟩
  cases k with
  | false =>
    have HC9 : Hid (∀ W, Below w.heap.size w W → Calls Try.prog 17 #[.agg #[.slice a s.nodes.length c, .int .i64 s.root, .int .i64 s.next]] W fun e w' => e = .returned (.int .i64 9) ∧ Below W.heap.size W w') := HCK.out
    clear HCK HTO
    go_wp2_with fail
    refine (HC9.out K3 B3.out).mono ?_
    rintro e w4 ⟨rfl, hb4⟩
    have B4 : Hid (Below w.heap.size w w4) := nxt B3.out hb4
    have R4 : Hid (w4.heap[w.heap.size + 1]? = _) := (hb4.block _ (lt_of_block Y2.out)).trans Y2.out
    obtain ⟨⟨z0, z1, z2, z3, z4⟩, zf⟩ := five R4.out
    have zf0 := zf 0
    have zf1 := zf 1
    have zf2 := zf 2
    have zf3 := zf 3
    have zf4 := zf 4
    clear hb4 y0 y1 y2 zf
    have HF := FIN.out w4 9 B4.out R4.out
    have HF' : Hid _ := HF
    clear HF
    go_wp2_with fail
    have f1 := HF'.out
    clear z0 z1 z2 z3 z4 zf0 zf1 zf2 zf3 zf4 HF' R4 B4
    generalize ((((w4.setCell ⟨w.heap.size + 1, 0, none⟩ (.string ⟨#[]⟩)).setCell ⟨w.heap.size + 1, 1, none⟩ (.string ⟨#[]⟩)).setCell ⟨w.heap.size + 1, 2, none⟩ (.string ⟨#[]⟩)).setCell ⟨w.heap.size + 1, 3, none⟩ (.slice none 0 0)).setCell ⟨w.heap.size + 1, 4, none⟩ (.slice none 0 0) = W8 at *
    obtain ⟨⟨c0, c1, c2, c3, c4⟩, -⟩ := five f1.2
    refine bodyPost_ret (v := .tuple #[zT, .int .i64 9]) (by simp [results, Try.results13, go_sem, c0, c1, c2, c3, c4]) rfl ?_
    exact ⟨rfl, f1.1⟩
  | true =>
    have HC0 : Hid (∀ W, Below w.heap.size w W → Calls Try.prog 17 #[.agg #[.slice a s.nodes.length c, .int .i64 s.root, .int .i64 s.next]] W fun e w' => e = .returned (.int .i64 0) ∧ Below W.heap.size W w') := HCK.out
    clear HCK
    go_wp2_with fail
    refine (HC0.out K3 B3.out).mono ?_
    rintro e w4 ⟨rfl, hb4⟩
    have B4 : Hid (Below w.heap.size w w4) := nxt B3.out hb4
    have R4 : Hid (w4.heap[w.heap.size + 1]? = _) := (hb4.block _ (lt_of_block Y2.out)).trans Y2.out
    have S4 : Hid (w4.heap[w.heap.size]? = _) := (hb4.block _ (lt_of_block Y0.out)).trans Y0.out
    clear hb4 y0 y1 y2
    obtain ⟨y0, y1, y2⟩ := three S4.out
    by_cases h0 : s.root = 0
    · have g0 : (s.root == 0) = true := by simpa using h0
      obtain ⟨⟨z0, z1, z2, z3, z4⟩, zf⟩ := five R4.out
      have zf0 := zf 0
      have zf1 := zf 1
      have zf2 := zf 2
      have zf3 := zf 3
      have zf4 := zf 4
      have HR0 : Hid (s.root = 0) := h0
      clear zf h0
      have HF := FIN.out w4 71 B4.out R4.out
      have HF' : Hid _ := HF
      clear HF
      go_wp2_with fail
      have f1 := HF'.out
      clear z0 z1 z2 z3 z4 zf0 zf1 zf2 zf3 zf4 HF' R4 B4 S4 y0 y1 y2
      generalize ((((w4.setCell ⟨w.heap.size + 1, 0, none⟩ (.string ⟨#[]⟩)).setCell ⟨w.heap.size + 1, 1, none⟩ (.string ⟨#[]⟩)).setCell ⟨w.heap.size + 1, 2, none⟩ (.string ⟨#[]⟩)).setCell ⟨w.heap.size + 1, 3, none⟩ (.slice none 0 0)).setCell ⟨w.heap.size + 1, 4, none⟩ (.slice none 0 0) = W8 at *
      obtain ⟨⟨c0, c1, c2, c3, c4⟩, -⟩ := five f1.2
      refine bodyPost_ret (v := .tuple #[zT, .int .i64 71]) (by simp [results, Try.results13, go_sem, c0, c1, c2, c3, c4]) rfl ?_
      first
        | exact ⟨rfl, f1.1⟩
        | (rw [if_pos HR0.out]; exact ⟨rfl, f1.1⟩)
    · have g0 : (s.root == 0) = false := by simpa using h0
      have HR0 : Hid (¬ s.root = 0) := h0
      have HT4 : Hid (Calls Try.prog 28 #[.slice a s.nodes.length c, .int .i64 s.root, .int .i64 1] w4 fun e w' => TrPost 8 w4 w' e 10 tr) := HTO.out w4 B4.out (by trivial) h0
      clear h0 HTO
      cases tr with
      | none =>
        go_wp2_with fail
        refine HT4.out.mono ?_
        rintro e w5 ⟨rfl, hb5⟩
        have B5 : Hid (Below w.heap.size w w5) := nxt B4.out hb5
        have R5 : Hid (w5.heap[w.heap.size + 1]? = _) := (hb5.block _ (lt_of_block R4.out)).trans R4.out
        obtain ⟨⟨z0, z1, z2, z3, z4⟩, zf⟩ := five R5.out
        have zf0 := zf 0
        have zf1 := zf 1
        have zf2 := zf 2
        have zf3 := zf 3
        have zf4 := zf 4
        clear zf hb5 y0 y1 y2 HT4
        have HF := FIN.out w5 10 B5.out R5.out
        have HF' : Hid _ := HF
        clear HF
        go_wp2_with fail
        have f1 := HF'.out
        clear z0 z1 z2 z3 z4 zf0 zf1 zf2 zf3 zf4 HF' R5 B5
        generalize ((((w5.setCell ⟨w.heap.size + 1, 0, none⟩ (.string ⟨#[]⟩)).setCell ⟨w.heap.size + 1, 1, none⟩ (.string ⟨#[]⟩)).setCell ⟨w.heap.size + 1, 2, none⟩ (.string ⟨#[]⟩)).setCell ⟨w.heap.size + 1, 3, none⟩ (.slice none 0 0)).setCell ⟨w.heap.size + 1, 4, none⟩ (.slice none 0 0) = W8 at *
        obtain ⟨⟨c0, c1, c2, c3, c4⟩, -⟩ := five f1.2
        refine bodyPost_ret (v := .tuple #[zT, .int .i64 10]) (by simp [results, Try.results13, go_sem, c0, c1, c2, c3, c4]) rfl ?_
        first
          | exact ⟨rfl, f1.1⟩
          | (rw [if_neg HR0.out]; exact ⟨rfl, f1.1⟩)
      | some t =>
        go_wp2_with fail
        refine HT4.out.mono ?_
        rintro e w5 ⟨yv, F, rfl, ho, hF, hb5⟩
        obtain ⟨k', b', t', ka', kl', kc', ia', il', ic', rfl⟩ := LayT.shape 8 (OwnT.lay 8 ho)
        have B5 : Hid (Below w.heap.size w w5) := nxt B4.out hb5
        have R5 : Hid (w5.heap[w.heap.size + 1]? = _) := (hb5.block _ (lt_of_block R4.out)).trans R4.out
        have HO5 : Hid (OwnT w5 8 (mkT k' b' t' ka' kl' kc' ia' il' ic') t F) := ho
        have HF5 : Hid (∀ b, F b → w.heap.size + 2 ≤ b ∧ b < w5.heap.size) := fun b hb => ⟨by have := (hF b hb).1; have := lt_of_block R4.out; omega, (hF b hb).2⟩
        obtain ⟨⟨z0, z1, z2, z3, z4⟩, zf⟩ := five R5.out
        have zf0 := zf 0
        have zf1 := zf 1
        have zf2 := zf 2
        have zf3 := zf 3
        have zf4 := zf 4
        clear zf hb5 y0 y1 y2 HT4 ho hF
        go_wp2_with fail
        obtain ⟨f1, f2, f3, f4⟩ := tree_fin (c0 := .string k') (c1 := .string b') (c2 := .string t') (c3 := .slice ka' kl' kc') (c4 := .slice ia' il' ic') R5.out
        have f3 := f3 w.heap.size w (by omega) B5.out
        clear z0 z1 z2 z3 z4 zf0 zf1 zf2 zf3 zf4 R5 B5
        generalize ((((w5.setCell ⟨w.heap.size + 1, 0, none⟩ (.string k')).setCell ⟨w.heap.size + 1, 1, none⟩ (.string b')).setCell ⟨w.heap.size + 1, 2, none⟩ (.string t')).setCell ⟨w.heap.size + 1, 3, none⟩ (.slice ka' kl' kc')).setCell ⟨w.heap.size + 1, 4, none⟩ (.slice ia' il' ic') = W8 at *
        obtain ⟨⟨c0, c1, c2, c3, c4⟩, -⟩ := five f1
        refine bodyPost_ret (v := .tuple #[mkT k' b' t' ka' kl' kc' ia' il' ic', .int .i64 0]) (by simp [results, Try.results13, go_sem, c0, c1, c2, c3, c4]) rfl ?_
        have HFIN : TrPost 8 w W8 (.returned (.tuple #[mkT k' b' t' ka' kl' kc' ia' il' ic', .int .i64 0])) 0 (some t) := ⟨_, F, rfl, HO5.out.same 8 fun b hb => f2 b (by have := (HF5.out b hb).1; omega), fun b hb => ⟨by have := (HF5.out b hb).1; omega, by rw [f4]; exact (HF5.out b hb).2⟩, f3⟩
        first
          | exact HFIN
          | (rw [if_neg HR0.out]; exact HFIN)
end Go.Proofs.Ytbadehbnpneepaa

/-
  The page's example.
-/
namespace Go.Proofs.Ytbadehbnpneepaa
open Go.ChangeShapes Go.WideShapes Go.ChangeAt Go.RowKit Go.Deep
open Do

theorem numD_any (x : Int) (w : World) : Calls Try.prog 11 #[.int .i64 x] w fun e w' => e = .returned (.int .i64 x) ∧ w' = w := by
  go_enter Try.func11, Try.ntmps11
  go_wp2_with fail
  go_ret
  exact ⟨rfl, rfl⟩

namespace Do
def bP : ByteArray := ⟨#[112]⟩
def bX : ByteArray := ⟨#[120]⟩
def bE : ByteArray := ⟨#[]⟩
def exPs : List Pt := [⟨1, 1, 0, 0, bP, bE, bE, bE, bE⟩, ⟨7, 1, 0, 0, bE, bE, bE, bE, bE⟩, ⟨1, 2, 0, 0, bE, bE, bX, bE, bE⟩, ⟨2, 2, 1, 0, bE, bE, bE, bE, bE⟩]
def exS : Ds := ⟨[⟨1, 0, bP, bE, bE, [], [2]⟩, ⟨2, 1, bE, bE, bX, [], []⟩], 1, 3⟩
theorem ex_run : runD ⟨[], 0, 1⟩ exPs = (exS, 4, 0) := by kernel_rfl
theorem ex_tree : treeD exS = (0, some (bP, bE, bE, [], [(bE, bE, bX, [], [])])) := by kernel_rfl
end Do

theorem DsOwn.is {w : World} {B : Nat} {x : Value} {s : Ds} (h : DsOwn w B x s) (hl : s.nodes.length ≤ 1024) (hr : -9223372036854775808 ≤ s.root ∧ s.root ≤ 9223372036854775807) (hx : -9223372036854775808 ≤ s.next ∧ s.next ≤ 9223372036854775807) : ∃ a c, x = .agg #[.slice a s.nodes.length c, .int .i64 s.root, .int .i64 s.next] ∧ DsIs w s a c := by
  obtain ⟨v, ab, kb, rfl, hO⟩ := h
  obtain ⟨a, c, hv⟩ := hO.shape
  subst hv
  exact ⟨a, c, rfl, ⟨hO.lay, by omega, cap_of_own hO.row, hr, hx⟩⟩

theorem new_is (w : World) : DsIs w ⟨[], 0, 1⟩ none 0 := ⟨fun i n h => by simp at h, by simp, ⟨Nat.le_refl _, by omega⟩, by simp, by simp⟩

/-- The cells of the page's patches. -/
def exC : Array Value := #[.int .i64 1, .int .i64 1, .int .i64 0, .int .i64 0, .string ⟨#[112]⟩, .string ⟨#[]⟩, .string ⟨#[]⟩, .string ⟨#[]⟩, .string ⟨#[]⟩, .int .i64 7, .int .i64 1, .int .i64 0, .int .i64 0, .string ⟨#[]⟩, .string ⟨#[]⟩, .string ⟨#[]⟩, .string ⟨#[]⟩, .string ⟨#[]⟩, .int .i64 1, .int .i64 2, .int .i64 0, .int .i64 0, .string ⟨#[]⟩, .string ⟨#[]⟩, .string ⟨#[120]⟩, .string ⟨#[]⟩, .string ⟨#[]⟩, .int .i64 2, .int .i64 2, .int .i64 1, .int .i64 0, .string ⟨#[]⟩, .string ⟨#[]⟩, .string ⟨#[]⟩, .string ⟨#[]⟩, .string ⟨#[]⟩]

theorem ex_ok : ∀ p ∈ exPs, PtOk p := by
  intro p hp
  simp only [exPs, List.mem_cons, List.not_mem_nil, or_false] at hp
  rcases hp with rfl | rfl | rfl | rfl <;> exact ⟨⟨by decide, by decide⟩, ⟨by decide, by decide⟩, ⟨by decide, by decide⟩, by decide, by decide, by decide, by decide, by decide⟩

theorem ex_lay (w : World) : LayP (w.alloc (.cells exC 49)) (some ⟨w.heap.size, 0, none⟩) exPs := by
  have key : ∀ j v, exC[j]? = some v → (w.alloc (.cells exC 49)).cell? ⟨w.heap.size, 0 + j, none⟩ = some v := by
    intro j v hj
    have := newCells w exC 49 j v hj
    rwa [add_plain] at this
  intro i p hi
  have hok := ex_ok p (List.mem_of_getElem? hi)
  match i, hi with
  | 0, hi => cases hi; exact ⟨w.heap.size, 0, rfl, ⟨key 0 _ rfl, key 1 _ rfl, key 2 _ rfl, key 3 _ rfl, key 4 _ rfl, key 5 _ rfl, key 6 _ rfl, key 7 _ rfl, key 8 _ rfl⟩, hok⟩
  | 1, hi => cases hi; exact ⟨w.heap.size, 0, rfl, ⟨key 9 _ rfl, key 10 _ rfl, key 11 _ rfl, key 12 _ rfl, key 13 _ rfl, key 14 _ rfl, key 15 _ rfl, key 16 _ rfl, key 17 _ rfl⟩, hok⟩
  | 2, hi => cases hi; exact ⟨w.heap.size, 0, rfl, ⟨key 18 _ rfl, key 19 _ rfl, key 20 _ rfl, key 21 _ rfl, key 22 _ rfl, key 23 _ rfl, key 24 _ rfl, key 25 _ rfl, key 26 _ rfl⟩, hok⟩
  | 3, hi => cases hi; exact ⟨w.heap.size, 0, rfl, ⟨key 27 _ rfl, key 28 _ rfl, key 29 _ rfl, key 30 _ rfl, key 31 _ rfl, key 32 _ rfl, key 33 _ rfl, key 34 _ rfl, key 35 _ rfl⟩, hok⟩
  | i + 4, hi => simp [exPs] at hi

set_option maxRecDepth 100000 in
set_option maxHeartbeats 1600000 in
theorem aliveD_any (w : World) : Calls Try.prog 14 #[] w fun e w' => e = .returned (.bool true) ∧ Below w.heap.size w w' := by
  go_enter Try.func14, Try.ntmps14
  go_wp2_with (go_at_call 21; refine (new_any _).mono ?_; rintro e w1 ⟨rfl, hb1⟩; have B1 : Hid (Below w.heap.size w w1) := hb1; clear hb1)
  have HRN := run_any ⟨[], 0, 1⟩ exPs none 0 (some ⟨w1.heap.size, 0, none⟩) 4 (w1.alloc (.cells exC 49)) (new_is _) (ex_lay w1) (by decide)
  rw [ex_run] at HRN
  unfold exC at HRN
  have HRN' : Hid (Calls Try.prog 29 _ _ fun e w' => ∃ a c, e = .returned (.tuple #[.agg #[.slice a 2 c, .int .i64 1, .int .i64 3], .int .i64 4, .int .i64 0]) ∧ DsIs w' exS a c ∧ Below w1.heap.size w1 w') := HRN.mono fun e w' h => by
    obtain ⟨x, rfl, hx, hb2⟩ := h
    obtain ⟨a2, c2, rfl, hs2⟩ := hx.is (by decide) (by decide) (by decide)
    exact ⟨a2, c2, rfl, hs2, nxt (below_one _ _) hb2⟩
  clear HRN
  refine HRN'.out.mono ?_
  rintro e w2 ⟨a2, c2, rfl, hs2, hb2⟩
  clear HRN'
  have B2 : Hid (Below w.heap.size w w2) := nxt B1.out hb2
  have X3 : Hid ((w2.alloc (.cells #[.slice a2 2 c2, .int .i64 1, .int .i64 3] 29)).heap[w2.heap.size]? = _) := heap_alloc_new _ _
  have B3 : Hid (Below w.heap.size w (w2.alloc (.cells #[.slice a2 2 c2, .int .i64 1, .int .i64 3] 29))) := nxt B2.out (below_one _ _)
  have HTR : Hid (Calls Try.prog 13 #[.agg #[.slice a2 2 c2, .int .i64 1, .int .i64 3]] (w2.alloc (.cells #[.slice a2 2 c2, .int .i64 1, .int .i64 3] 29)) fun e w' => ∃ ac ia ic aa b o k0 k1 k3 k4, e = .returned (.tuple #[mkT ⟨#[112]⟩ ⟨#[]⟩ ⟨#[]⟩ aa 0 ac ia 1 ic, .int .i64 0]) ∧ ia = some ⟨b, o, none⟩ ∧ (w'.cell? ⟨b, o, none⟩ = some k0 ∧ w'.cell? ⟨b, o + 1, none⟩ = some k1 ∧ w'.cell? ⟨b, o + 2, none⟩ = some (.string ⟨#[120]⟩) ∧ w'.cell? ⟨b, o + 3, none⟩ = some k3 ∧ w'.cell? ⟨b, o + 4, none⟩ = some k4) ∧ Below w.heap.size w w') := by
    have h := tree_any exS a2 c2 (w2.alloc (.cells #[.slice a2 2 c2, .int .i64 1, .int .i64 3] 29)) (hs2.below (below_one _ _))
    rw [ex_tree] at h
    refine Calls.mono h fun e w' h => ?_
    obtain ⟨y, F, rfl, ho, -, hb⟩ := h
    obtain ⟨aa, ac, ia, ic, rfl, -, -, -, -, hI⟩ := OwnT.lay 8 ho
    obtain ⟨b, o, c0, c1, c2', c3, c4, rfl, q0, q1, q2, q3, q4, hl⟩ := hI 0 _ rfl
    obtain ⟨aa', ac', ia', ic', hx, -⟩ := hl
    simp only [Value.agg.injEq, Array.mk.injEq, List.cons.injEq, and_true] at hx
    obtain ⟨rfl, rfl, rfl, rfl, rfl⟩ := hx
    exact ⟨ac, _, ic, aa, b, o, _, _, _, _, rfl, rfl, ⟨by simpa using q0, by simpa using q1, by simpa [bX] using q2, by simpa using q3, by simpa using q4⟩, nxt B3.out hb⟩
  clear hb2 hs2 B1
  obtain ⟨x0, x1, x2⟩ := three X3.out
  go_wp2_with (go_at_call 13; refine HTR.out.mono ?_; rintro e w4 ⟨ac, ia, ic, aa, b, o, k0, k1, k3, k4, rfl, rfl, ⟨q0, q1, q2, q3, q4⟩, hb4⟩; have B4 : Hid (Below w.heap.size w w4) := hb4; clear hb4)
  have X5 : Hid ((w4.alloc (.cells #[.string ⟨#[112]⟩, .string ⟨#[]⟩, .string ⟨#[]⟩, .slice aa 0 ac, .slice (some ⟨b, o, none⟩) 1 ic] 25)).heap[w4.heap.size]? = _) := heap_alloc_new _ _
  obtain ⟨⟨z0, z1, z2, z3, z4⟩, -⟩ := five X5.out
  have r2 := keepc (below_one w4 (.cells #[.string ⟨#[112]⟩, .string ⟨#[]⟩, .string ⟨#[]⟩, .slice aa 0 ac, .slice (some ⟨b, o, none⟩) 1 ic] 25)) _ _ q2
  have g1 : ((⟨#[112]⟩ : ByteArray).toList == (⟨#[112]⟩ : ByteArray).toList) = true := by simp
  have g2 : ((⟨#[120]⟩ : ByteArray).toList == (⟨#[120]⟩ : ByteArray).toList) = true := by simp
  go_wp2_with (go_at_call 11; refine (numD_any _ _).mono ?_; rintro e w9 ⟨rfl, h9⟩; subst w9)
  go_ret
  exact ⟨rfl, nxt B4.out (below_one _ _)⟩
end Go.Proofs.Ytbadehbnpneepaa

/-
  Displays, patches among the arguments.
-/
namespace Go.Proofs.Ytbadehbnpneepaa
open Go.ChangeShapes Go.WideShapes Go.ChangeAt Go.RowKit Go.Deep
open Do

theorem Try.cellsIntD : Try.prog.cellsOf 3 = 1 := by kernel_rfl
theorem Try.cellsIntsD : Try.prog.cellsOf 52 = 1 := by kernel_rfl
theorem Try.bytesIntD : Try.prog.bytesOf 3 = 8 := by kernel_rfl
theorem Try.cellsNodeD : Try.prog.cellsOf 57 = 7 := by kernel_rfl
theorem Try.bytesNodeD : Try.prog.bytesOf 57 = 112 := by kernel_rfl
theorem Try.cellsNodesD : Try.prog.cellsOf 33 = 1 := by kernel_rfl
theorem Try.cellsStateD : Try.prog.cellsOf 35 = 3 := by kernel_rfl
theorem Try.cellsPatchD : Try.prog.cellsOf 46 = 9 := by kernel_rfl

theorem i64_of {x : Int} (h : (Lit.int .i64 x).wf = true) : -9223372036854775808 ≤ x ∧ x ≤ 9223372036854775807 := by
  have e1 : IntKind.i64.min = -9223372036854775808 := by decide
  have e2 : IntKind.i64.max = 9223372036854775807 := by decide
  simp only [Lit.wf, e1, e2] at h
  simpa using h

set_option maxRecDepth 100000 in
theorem attrsD_of_trod {H : Type} {enc : TypeId × Value → H} {w : World} {d : DataW H} {fuel : Nat} {c : Value} {pl : List MemPlace} (hwt : ∀ n ∈ d.weights Try.prog 22, n ≤ reachBytes)
    (h : DataW.trod enc Try.prog w 0 (fun _ => true) true fuel 22 [c] = some (d, pl)) : ∃ (aa : Option Addr) (ac : Nat) (ats : List Atr), c = .slice aa ats.length ac ∧ ats.length ≤ ac ∧ ac ≤ 9223372036854775807 ∧ ats.length * 32 ≤ 140737488351232 ∧ (aa = none → ats.length = 0 ∧ ac = 0) ∧ LayA w aa ats := by
  rcases open_slice Try.underlying22 h with ⟨h1, h2⟩ | ⟨a, len, cap, m, n', D, Pl, h1, _, hl1, hm1, hm2, h2, h3⟩
  · simp only [List.cons.injEq, and_true] at h1
    exact ⟨none, 0, [], h1, by simp, by simp, by simp, fun _ => ⟨rfl, rfl⟩, fun i s hi => by simp at hi⟩
  · simp only [List.cons.injEq, and_true] at h1
    simp only [if_true] at hm2
    subst hm2
    rw [Try.cellsAttr] at h2 h3
    have h2' : d = .slice ((List.range len).map D) ((List.range (m - len)).map fun j => D (len + j)) := congrArg Prod.fst h2
    rw [h2'] at hwt
    unfold maxLen at hm1
    have each : ∀ i, i < len → ∃ s : Atr, ∃ b o, some a = some (⟨b, o, none⟩ : Addr) ∧ w.cell? ⟨b, o + i * 2, none⟩ = some (.string s.1) ∧ w.cell? ⟨b, o + i * 2 + 1, none⟩ = some (.string s.2) ∧ s.1.size ≤ 140737488351232 ∧ s.2.size ≤ 140737488351232 := by
      intro i hi
      obtain ⟨cs0, q0, _⟩ := h3 0 (by omega)
      obtain ⟨z1, z2⟩ := cells_get q0
      have hs := spot_none (z2 0 _ (List.getElem?_eq_getElem (by omega)))
      have hs' : a = ⟨a.block, a.off, none⟩ := by simpa [Addr.add] using hs
      obtain ⟨cs', qq, htr⟩ := h3 i (by omega)
      obtain ⟨g1, g2⟩ := cells_get qq
      have hmem : D i ∈ (List.range len).map D := List.mem_map.2 ⟨i, List.mem_range.2 hi, rfl⟩
      obtain ⟨sa, sb, rfl, b1, b2⟩ := attr_of_trod (D i) n' cs' (Pl i) (fun x hx => hwt x (by
        simp only [DataW.weights, Try.underlying22]
        exact List.mem_cons_of_mem _ (List.mem_append_left _ (weightsAll_mem hmem _ hx)))) htr
      have p0 := g2 0 _ rfl
      have p1 := g2 1 _ rfl
      rw [hs', add_plain, add_plain] at p0 p1
      exact ⟨(sa, sb), a.block, a.off, by rw [← hs'], by simpa using p0, by simpa using p1, b1, b2⟩
    obtain ⟨ats, hlen', hats⟩ := list_of each
    refine ⟨some a, m, ats, by rw [hlen']; exact h1, by omega, hm1, ?_, by simp, fun i u hu => hats i u hu⟩
    have := hwt _ (by simp only [DataW.weights, Try.underlying22]; exact List.mem_cons_self)
    simp only [List.length_map, List.length_range, Try.bytesAttr] at this
    rw [reach_eq] at this
    omega

set_option maxRecDepth 100000 in
theorem intsD_of_trod {H : Type} {enc : TypeId × Value → H} {w : World} {d : DataW H} {fuel : Nat} {c : Value} {pl : List MemPlace} (hwt : ∀ n ∈ d.weights Try.prog 52, n ≤ reachBytes)
    (h : DataW.trod enc Try.prog w 0 (fun _ => true) true fuel 52 [c] = some (d, pl)) : ∃ (ka : Option Addr) (kc : Nat) (ks : List Int), c = .slice ka ks.length kc ∧ NmZ w ka kc ks := by
  rcases open_slice Try.underlying52 h with ⟨h1, h2⟩ | ⟨a, len, cap, m, n', D, Pl, h1, _, hl1, hm1, hm2, h2, h3⟩
  · simp only [List.cons.injEq, and_true] at h1
    exact ⟨none, 0, [], h1, fun i s hi => by simp at hi, by simp, by simp, by simp, fun _ => rfl, fun ad h => by cases h⟩
  · simp only [List.cons.injEq, and_true] at h1
    simp only [if_true] at hm2
    subst hm2
    rw [Try.cellsIntD] at h2 h3
    have h2' : d = .slice ((List.range len).map D) ((List.range (m - len)).map fun j => D (len + j)) := congrArg Prod.fst h2
    rw [h2'] at hwt
    unfold maxLen at hm1
    have plain : 0 < m → a = ⟨a.block, a.off, none⟩ := by
      intro hm
      obtain ⟨cs0, q0, _⟩ := h3 0 hm
      obtain ⟨z1, z2⟩ := cells_get q0
      have hs := spot_none (z2 0 _ (List.getElem?_eq_getElem (by omega)))
      simpa [Addr.add] using hs
    have each : ∀ i, i < len → ∃ v : Int, ∃ b off, some a = some (⟨b, off, none⟩ : Addr) ∧ w.cell? ⟨b, off + i, none⟩ = some (.int .i64 v) ∧ -9223372036854775808 ≤ v ∧ v ≤ 9223372036854775807 := by
      intro i hi
      have hs' := plain (by omega)
      obtain ⟨cs', qq, htr⟩ := h3 i (by omega)
      obtain ⟨g1, g2⟩ := cells_get qq
      match cs', g1 with
      | [c0], _ =>
      obtain ⟨kk, e2, -, w2⟩ := DataW.trod_int Try.underlying3 htr
      have e2' : c0 = .int .i64 kk := by simpa using e2
      subst e2'
      have b2 := i64_of w2
      have p0 := g2 0 _ rfl
      rw [hs', add_plain, add_plain] at p0
      exact ⟨kk, a.block, a.off, by rw [← hs'], by simpa using p0, b2.1, b2.2⟩
    obtain ⟨ks, hlen', hks⟩ := list_of each
    refine ⟨some a, m, ks, by rw [hlen']; exact h1, fun i u hu => hks i u hu, by omega, hm1, ?_, by simp, fun ad h hc => by cases h; exact plain hc⟩
    have := hwt _ (by simp only [DataW.weights, Try.underlying52]; exact List.mem_cons_self)
    simp only [List.length_map, List.length_range, Try.bytesIntD] at this
    rw [reach_eq] at this
    omega

set_option maxRecDepth 100000 in
theorem node_of_trod {H : Type} {enc : TypeId × Value → H} {w : World} (d : DataW H) (fuel : Nat) (cs : List Value) (pl : List MemPlace) (hwt : ∀ n ∈ d.weights Try.prog 57, n ≤ reachBytes)
    (h : DataW.trod enc Try.prog w 0 (fun _ => true) true fuel 57 cs = some (d, pl)) : ∃ (m : Nd) (aa : Option Addr) (ac : Nat) (ka : Option Addr) (kc : Nat), cs = [.int .i64 m.id, .int .i64 m.par, .string m.tag, .string m.key, .string m.txt, .slice aa m.ats.length ac, .slice ka m.kids.length kc] ∧ FitN m aa ac ka kc ∧ LayA w aa m.ats ∧ LayZ w ka m.kids := by
  obtain ⟨xs, n, _, hx, hl, hlen, hf⟩ := DataW.trod_struct Try.underlying57 h
  match xs, hlen with
  | [y0, y1, y2, y3, y4, y5, y6], _ =>
  rw [Try.cellsNodeD] at hl
  match cs, hl with
  | [c0, c1, c2, c3, c4, c5, c6], _ =>
  have f0 : DataW.trod enc Try.prog w 0 (fun _ => true) true n 3 (([c0, c1, c2, c3, c4, c5, c6].drop 0).take (Try.prog.cellsOf 3)) = some y0 := hf 0 _ rfl
  rw [Try.cellsIntD] at f0
  have f1 : DataW.trod enc Try.prog w 0 (fun _ => true) true n 3 (([c0, c1, c2, c3, c4, c5, c6].drop 1).take (Try.prog.cellsOf 3)) = some y1 := hf 1 _ rfl
  rw [Try.cellsIntD] at f1
  have f2 : DataW.trod enc Try.prog w 0 (fun _ => true) true n 9 (([c0, c1, c2, c3, c4, c5, c6].drop 2).take (Try.prog.cellsOf 9)) = some y2 := hf 2 _ rfl
  rw [Try.cellsStr] at f2
  have f3 : DataW.trod enc Try.prog w 0 (fun _ => true) true n 9 (([c0, c1, c2, c3, c4, c5, c6].drop 3).take (Try.prog.cellsOf 9)) = some y3 := hf 3 _ rfl
  rw [Try.cellsStr] at f3
  have f4 : DataW.trod enc Try.prog w 0 (fun _ => true) true n 9 (([c0, c1, c2, c3, c4, c5, c6].drop 4).take (Try.prog.cellsOf 9)) = some y4 := hf 4 _ rfl
  rw [Try.cellsStr] at f4
  have f5 : DataW.trod enc Try.prog w 0 (fun _ => true) true n 22 (([c0, c1, c2, c3, c4, c5, c6].drop 5).take (Try.prog.cellsOf 22)) = some y5 := hf 5 _ rfl
  rw [Try.cellsAttrs] at f5
  have f6 : DataW.trod enc Try.prog w 0 (fun _ => true) true n 52 (([c0, c1, c2, c3, c4, c5, c6].drop 6).take (Try.prog.cellsOf 52)) = some y6 := hf 6 _ rfl
  rw [Try.cellsIntsD] at f6
  obtain ⟨t0, e0, rfl, w0⟩ := DataW.trod_int Try.underlying3 f0
  obtain ⟨t1, e1, rfl, w1⟩ := DataW.trod_int Try.underlying3 f1
  obtain ⟨t2, e2, rfl, w2⟩ := DataW.trod_string Try.underlying9 f2
  obtain ⟨t3, e3, rfl, w3⟩ := DataW.trod_string Try.underlying9 f3
  obtain ⟨t4, e4, rfl, w4⟩ := DataW.trod_string Try.underlying9 f4
  have e0' : c0 = .int .i64 t0 := by simpa using e0
  have e1' : c1 = .int .i64 t1 := by simpa using e1
  have e2' : c2 = .string t2 := by simpa using e2
  have e3' : c3 = .string t3 := by simpa using e3
  have e4' : c4 = .string t4 := by simpa using e4
  clear e0 e1 e2 e3 e4
  subst e0' e1' e2' e3' e4'
  have hd : d = .agg [.lit (.int .i64 t0), .lit (.int .i64 t1), .lit (.string t2.data.toList), .lit (.string t3.data.toList), .lit (.string t4.data.toList), y5.1, y6.1] := by
    have := congrArg Prod.fst hx
    simpa using this
  subst hd
  have ew : (DataW.agg [.lit (.int .i64 t0), .lit (.int .i64 t1), .lit (.string t2.data.toList), .lit (.string t3.data.toList), .lit (.string t4.data.toList), y5.1, y6.1] : DataW H).weights Try.prog 57 = [t2.data.toList.length, t3.data.toList.length, t4.data.toList.length] ++ (y5.1.weights Try.prog 22 ++ y6.1.weights Try.prog 52) := by
    simp [DataW.weights, Try.underlying57, DataW.weightsEach]
  rw [ew] at hwt
  have et2 : t2.data.toList.length = t2.size := by cases t2; rfl
  have et3 : t3.data.toList.length = t3.size := by cases t3; rfl
  have et4 : t4.data.toList.length = t4.size := by cases t4; rfl
  have a2 : t2.size ≤ 140737488351232 := by have := hwt t2.data.toList.length (List.mem_append_left _ (by simp)); rw [et2, reach_eq] at this; exact this
  have a3 : t3.size ≤ 140737488351232 := by have := hwt t3.data.toList.length (List.mem_append_left _ (by simp)); rw [et3, reach_eq] at this; exact this
  have a4 : t4.size ≤ 140737488351232 := by have := hwt t4.data.toList.length (List.mem_append_left _ (by simp)); rw [et4, reach_eq] at this; exact this
  have f5' : DataW.trod enc Try.prog w 0 (fun _ => true) true n 22 [c5] = some (y5.1, y5.2) := f5
  have f6' : DataW.trod enc Try.prog w 0 (fun _ => true) true n 52 [c6] = some (y6.1, y6.2) := f6
  obtain ⟨aa, ac, ats, rfl, k1, k2, k3, k4, k5⟩ := attrsD_of_trod (fun x hx => hwt x (List.mem_append_right _ (List.mem_append_left _ hx))) f5'
  obtain ⟨ka, kc, ks, rfl, j0, j1, j2, j3, j4, j5⟩ := intsD_of_trod (fun x hx => hwt x (List.mem_append_right _ (List.mem_append_right _ hx))) f6'
  exact ⟨⟨t0, t1, t2, t3, t4, ats, ks⟩, aa, ac, ka, kc, rfl, ⟨i64_of w0, i64_of w1, ⟨a2, a3, a4, k3, by omega⟩, ⟨k1, k2, k3, k4⟩, j1, j2, j3, j4, j5⟩, k5, j0⟩

set_option maxRecDepth 100000 in
theorem nodes_of_trod {H : Type} {enc : TypeId × Value → H} {w : World} {d : DataW H} {fuel : Nat} {c : Value} {pl : List MemPlace} (hwt : ∀ n ∈ d.weights Try.prog 33, n ≤ reachBytes)
    (h : DataW.trod enc Try.prog w 0 (fun _ => true) true fuel 33 [c] = some (d, pl)) : ∃ (a : Option Addr) (cp : Nat) (ns : List Nd), c = .slice a ns.length cp ∧ ns.length ≤ cp ∧ cp ≤ 9223372036854775807 ∧ ns.length * 112 ≤ 140737488351232 ∧ LayN w a ns := by
  rcases open_slice Try.underlying33 h with ⟨h1, h2⟩ | ⟨a, len, cap, m, n', D, Pl, h1, _, hl1, hm1, hm2, h2, h3⟩
  · simp only [List.cons.injEq, and_true] at h1
    exact ⟨none, 0, [], h1, by simp, by simp, by simp, fun i s hi => by simp at hi⟩
  · simp only [List.cons.injEq, and_true] at h1
    simp only [if_true] at hm2
    subst hm2
    rw [Try.cellsNodeD] at h2 h3
    have h2' : d = .slice ((List.range len).map D) ((List.range (m - len)).map fun j => D (len + j)) := congrArg Prod.fst h2
    rw [h2'] at hwt
    unfold maxLen at hm1
    have each : ∀ i, i < len → ∃ s : Nd, ∃ b o aa ac ka kc, some a = some (⟨b, o, none⟩ : Addr) ∧ NdAt w b (o + i * 7) s aa ac ka kc := by
      intro i hi
      obtain ⟨cs0, q0, _⟩ := h3 0 (by omega)
      obtain ⟨z1, z2⟩ := cells_get q0
      have hs := spot_none (z2 0 _ (List.getElem?_eq_getElem (by omega)))
      have hs' : a = ⟨a.block, a.off, none⟩ := by simpa [Addr.add] using hs
      obtain ⟨cs', qq, htr⟩ := h3 i (by omega)
      obtain ⟨g1, g2⟩ := cells_get qq
      have hmem : D i ∈ (List.range len).map D := List.mem_map.2 ⟨i, List.mem_range.2 hi, rfl⟩
      obtain ⟨nn, aa, ac, ka, kc, rfl, hfit, hA, hK⟩ := node_of_trod (D i) n' cs' (Pl i) (fun x hx => hwt x (by
        simp only [DataW.weights, Try.underlying33]
        exact List.mem_cons_of_mem _ (List.mem_append_left _ (weightsAll_mem hmem _ hx)))) htr
      have p0 := g2 0 _ rfl
      have p1 := g2 1 _ rfl
      have p2 := g2 2 _ rfl
      have p3 := g2 3 _ rfl
      have p4 := g2 4 _ rfl
      have p5 := g2 5 _ rfl
      have p6 := g2 6 _ rfl
      rw [hs', add_plain, add_plain] at p0 p1 p2 p3 p4 p5 p6
      exact ⟨nn, a.block, a.off, aa, ac, ka, kc, by rw [← hs'], ⟨by simpa using p0, by simpa using p1, by simpa using p2, by simpa using p3, by simpa using p4, by simpa using p5, by simpa using p6, hfit, hA, hK⟩⟩
    obtain ⟨ns, hlen', hns⟩ := list_of each
    refine ⟨some a, m, ns, by rw [hlen']; exact h1, by omega, hm1, ?_, fun i u hu => hns i u hu⟩
    have := hwt _ (by simp only [DataW.weights, Try.underlying33]; exact List.mem_cons_self)
    simp only [List.length_map, List.length_range, Try.bytesNodeD] at this
    rw [reach_eq] at this
    omega

/-- A display that came in. -/
def DsArg (w : World) (x : Value) (s : Ds) : Prop := ∃ a c, x = .agg #[.slice a s.nodes.length c, .int .i64 s.root, .int .i64 s.next] ∧ DsIs w s a c

set_option maxRecDepth 100000 in
theorem ds_of_arg {H : Type} {enc : TypeId × Value → H} {w : World} {base : Nat} {x : Value} {d : DataW H} {pl : List MemPlace} (hx : Value.okWide Try.prog w .any base 35 x) (h : DataW.Trod enc Try.prog w 0 (fun _ => true) true 35 x d pl)
    (hwt : ∀ n ∈ d.weights Try.prog 35, n ≤ reachBytes) : ∃ s, DsArg w x s := by
  obtain ⟨fuel, hf⟩ := h
  obtain ⟨cs, rfl⟩ : ∃ cs, x = .agg cs := by
    unfold Value.okWide at hx
    rw [Try.underlying35] at hx
    obtain ⟨cs, h, _⟩ := hx
    exact ⟨cs, h⟩
  obtain ⟨l, rfl⟩ : ∃ l : List Value, cs = l.toArray := ⟨cs.toList, by simp⟩
  have hf' : DataW.trod enc Try.prog w 0 (fun _ => true) true fuel 35 l = some (d, pl) := by simpa [Value.cells] using hf
  obtain ⟨xs, n, _, hxx, hl, hlen, hf⟩ := DataW.trod_struct Try.underlying35 hf'
  match xs, hlen with
  | [y0, y1, y2], _ =>
  rw [Try.cellsStateD] at hl
  match l, hl with
  | [c0, c1, c2], _ =>
  have f0 : DataW.trod enc Try.prog w 0 (fun _ => true) true n 33 (([c0, c1, c2].drop 0).take (Try.prog.cellsOf 33)) = some y0 := hf 0 _ rfl
  rw [Try.cellsNodesD] at f0
  have f1 : DataW.trod enc Try.prog w 0 (fun _ => true) true n 3 (([c0, c1, c2].drop 1).take (Try.prog.cellsOf 3)) = some y1 := hf 1 _ rfl
  rw [Try.cellsIntD] at f1
  have f2 : DataW.trod enc Try.prog w 0 (fun _ => true) true n 3 (([c0, c1, c2].drop 2).take (Try.prog.cellsOf 3)) = some y2 := hf 2 _ rfl
  rw [Try.cellsIntD] at f2
  obtain ⟨t1, e1, rfl, w1⟩ := DataW.trod_int Try.underlying3 f1
  obtain ⟨t2, e2, rfl, w2⟩ := DataW.trod_int Try.underlying3 f2
  have e1' : c1 = .int .i64 t1 := by simpa using e1
  have e2' : c2 = .int .i64 t2 := by simpa using e2
  clear e1 e2
  subst e1' e2'
  have hd : d = .agg [y0.1, .lit (.int .i64 t1), .lit (.int .i64 t2)] := by
    have := congrArg Prod.fst hxx
    simpa using this
  subst hd
  have ew : (DataW.agg [y0.1, .lit (.int .i64 t1), .lit (.int .i64 t2)] : DataW H).weights Try.prog 35 = y0.1.weights Try.prog 33 := by
    simp [DataW.weights, Try.underlying35, DataW.weightsEach]
  rw [ew] at hwt
  have f0' : DataW.trod enc Try.prog w 0 (fun _ => true) true n 33 [c0] = some (y0.1, y0.2) := f0
  obtain ⟨a, cp, ns, rfl, k1, k2, k3, k4⟩ := nodes_of_trod hwt f0'
  exact ⟨⟨ns, t1, t2⟩, a, cp, rfl, k4, k3, ⟨k1, k2⟩, i64_of w1, i64_of w2⟩

/-- A patch that came in. -/
def PtArg (x : Value) (p : Pt) : Prop := x = mkP p ∧ PtOk p ∧ -9223372036854775808 ≤ p.what ∧ p.what ≤ 9223372036854775807

set_option maxRecDepth 100000 in
theorem pt_of_arg {H : Type} {enc : TypeId × Value → H} {w : World} {base : Nat} {x : Value} {d : DataW H} {pl : List MemPlace} (hx : Value.okWide Try.prog w .any base 46 x) (h : DataW.Trod enc Try.prog w 0 (fun _ => true) true 46 x d pl)
    (hwt : ∀ n ∈ d.weights Try.prog 46, n ≤ reachBytes) : ∃ p, PtArg x p := by
  obtain ⟨fuel, hf⟩ := h
  obtain ⟨cs, rfl⟩ : ∃ cs, x = .agg cs := by
    unfold Value.okWide at hx
    rw [Try.underlying46] at hx
    obtain ⟨cs, h, _⟩ := hx
    exact ⟨cs, h⟩
  obtain ⟨l, rfl⟩ : ∃ l : List Value, cs = l.toArray := ⟨cs.toList, by simp⟩
  have hf' : DataW.trod enc Try.prog w 0 (fun _ => true) true fuel 46 l = some (d, pl) := by simpa [Value.cells] using hf
  obtain ⟨xs, n, _, hxx, hl, hlen, hf⟩ := DataW.trod_struct Try.underlying46 hf'
  match xs, hlen with
  | [y0, y1, y2, y3, y4, y5, y6, y7, y8], _ =>
  rw [Try.cellsPatchD] at hl
  match l, hl with
  | [c0, c1, c2, c3, c4, c5, c6, c7, c8], _ =>
  have f0 : DataW.trod enc Try.prog w 0 (fun _ => true) true n 3 (([c0, c1, c2, c3, c4, c5, c6, c7, c8].drop 0).take (Try.prog.cellsOf 3)) = some y0 := hf 0 _ rfl
  rw [Try.cellsIntD] at f0
  have f1 : DataW.trod enc Try.prog w 0 (fun _ => true) true n 3 (([c0, c1, c2, c3, c4, c5, c6, c7, c8].drop 1).take (Try.prog.cellsOf 3)) = some y1 := hf 1 _ rfl
  rw [Try.cellsIntD] at f1
  have f2 : DataW.trod enc Try.prog w 0 (fun _ => true) true n 3 (([c0, c1, c2, c3, c4, c5, c6, c7, c8].drop 2).take (Try.prog.cellsOf 3)) = some y2 := hf 2 _ rfl
  rw [Try.cellsIntD] at f2
  have f3 : DataW.trod enc Try.prog w 0 (fun _ => true) true n 3 (([c0, c1, c2, c3, c4, c5, c6, c7, c8].drop 3).take (Try.prog.cellsOf 3)) = some y3 := hf 3 _ rfl
  rw [Try.cellsIntD] at f3
  have f4 : DataW.trod enc Try.prog w 0 (fun _ => true) true n 9 (([c0, c1, c2, c3, c4, c5, c6, c7, c8].drop 4).take (Try.prog.cellsOf 9)) = some y4 := hf 4 _ rfl
  rw [Try.cellsStr] at f4
  have f5 : DataW.trod enc Try.prog w 0 (fun _ => true) true n 9 (([c0, c1, c2, c3, c4, c5, c6, c7, c8].drop 5).take (Try.prog.cellsOf 9)) = some y5 := hf 5 _ rfl
  rw [Try.cellsStr] at f5
  have f6 : DataW.trod enc Try.prog w 0 (fun _ => true) true n 9 (([c0, c1, c2, c3, c4, c5, c6, c7, c8].drop 6).take (Try.prog.cellsOf 9)) = some y6 := hf 6 _ rfl
  rw [Try.cellsStr] at f6
  have f7 : DataW.trod enc Try.prog w 0 (fun _ => true) true n 9 (([c0, c1, c2, c3, c4, c5, c6, c7, c8].drop 7).take (Try.prog.cellsOf 9)) = some y7 := hf 7 _ rfl
  rw [Try.cellsStr] at f7
  have f8 : DataW.trod enc Try.prog w 0 (fun _ => true) true n 9 (([c0, c1, c2, c3, c4, c5, c6, c7, c8].drop 8).take (Try.prog.cellsOf 9)) = some y8 := hf 8 _ rfl
  rw [Try.cellsStr] at f8
  obtain ⟨t0, e0, rfl, w0⟩ := DataW.trod_int Try.underlying3 f0
  have e0' : c0 = .int .i64 t0 := by simpa using e0
  obtain ⟨t1, e1, rfl, w1⟩ := DataW.trod_int Try.underlying3 f1
  have e1' : c1 = .int .i64 t1 := by simpa using e1
  obtain ⟨t2, e2, rfl, w2⟩ := DataW.trod_int Try.underlying3 f2
  have e2' : c2 = .int .i64 t2 := by simpa using e2
  obtain ⟨t3, e3, rfl, w3⟩ := DataW.trod_int Try.underlying3 f3
  have e3' : c3 = .int .i64 t3 := by simpa using e3
  obtain ⟨t4, e4, rfl, w4⟩ := DataW.trod_string Try.underlying9 f4
  have e4' : c4 = .string t4 := by simpa using e4
  obtain ⟨t5, e5, rfl, w5⟩ := DataW.trod_string Try.underlying9 f5
  have e5' : c5 = .string t5 := by simpa using e5
  obtain ⟨t6, e6, rfl, w6⟩ := DataW.trod_string Try.underlying9 f6
  have e6' : c6 = .string t6 := by simpa using e6
  obtain ⟨t7, e7, rfl, w7⟩ := DataW.trod_string Try.underlying9 f7
  have e7' : c7 = .string t7 := by simpa using e7
  obtain ⟨t8, e8, rfl, w8⟩ := DataW.trod_string Try.underlying9 f8
  have e8' : c8 = .string t8 := by simpa using e8
  clear e0 e1 e2 e3 e4 e5 e6 e7 e8
  subst e0' e1' e2' e3' e4' e5' e6' e7' e8'
  have hd : d = .agg [.lit (.int .i64 t0), .lit (.int .i64 t1), .lit (.int .i64 t2), .lit (.int .i64 t3), .lit (.string t4.data.toList), .lit (.string t5.data.toList), .lit (.string t6.data.toList), .lit (.string t7.data.toList), .lit (.string t8.data.toList)] := by
    have := congrArg Prod.fst hxx
    simpa using this
  subst hd
  have ew : (DataW.agg [.lit (.int .i64 t0), .lit (.int .i64 t1), .lit (.int .i64 t2), .lit (.int .i64 t3), .lit (.string t4.data.toList), .lit (.string t5.data.toList), .lit (.string t6.data.toList), .lit (.string t7.data.toList), .lit (.string t8.data.toList)] : DataW H).weights Try.prog 46 = [t4.data.toList.length, t5.data.toList.length, t6.data.toList.length, t7.data.toList.length, t8.data.toList.length] := by
    simp [DataW.weights, Try.underlying46, DataW.weightsEach]
  rw [ew] at hwt
  have a4 : t4.size ≤ 140737488351232 := by have e : t4.data.toList.length = t4.size := (by cases t4; rfl); have := hwt t4.data.toList.length (by simp); rw [e, reach_eq] at this; exact this
  have a5 : t5.size ≤ 140737488351232 := by have e : t5.data.toList.length = t5.size := (by cases t5; rfl); have := hwt t5.data.toList.length (by simp); rw [e, reach_eq] at this; exact this
  have a6 : t6.size ≤ 140737488351232 := by have e : t6.data.toList.length = t6.size := (by cases t6; rfl); have := hwt t6.data.toList.length (by simp); rw [e, reach_eq] at this; exact this
  have a7 : t7.size ≤ 140737488351232 := by have e : t7.data.toList.length = t7.size := (by cases t7; rfl); have := hwt t7.data.toList.length (by simp); rw [e, reach_eq] at this; exact this
  have a8 : t8.size ≤ 140737488351232 := by have e : t8.data.toList.length = t8.size := (by cases t8; rfl); have := hwt t8.data.toList.length (by simp); rw [e, reach_eq] at this; exact this
  exact ⟨⟨t0, t1, t2, t3, t4, t5, t6, t7, t8⟩, rfl, ⟨i64_of w1, i64_of w2, i64_of w3, a4, a5, a6, a7, a8⟩, i64_of w0⟩
end Go.Proofs.Ytbadehbnpneepaa
