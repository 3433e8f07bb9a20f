/-
  The program's mayBeAlone.
-/
import Derived.Test.YtcdnakcojanaeabGreatDoOut
namespace Go.Proofs.YtcdnakcojanaeabGreat
open Go.ChangeShapes Go.WideShapes Go.ChangeAt Go.RowKit Go.Deep
open Do

/-- The tag p; no octets. -/
def pB : ByteArray := ⟨#[112]⟩
def eB : ByteArray := ⟨#[]⟩

/-- A node without kids; an element p around it. -/
def leaf (g k t : ByteArray) (ats : List Atr) : T 1 := (g, k, t, ats, ([] : List (T 0)))
def hull (g k t : ByteArray) (ats : List Atr) : T 2 := (pB, eB, eB, ([] : List Atr), ([leaf g k t ats] : List (T 1)))

theorem nodeB_zero (g k t : ByteArray) (ats : List Atr) : nodeB g k t ats 0 = plainB g k t ats := by
  by_cases h : g.size = 0
  · rw [nodeB_text' h]; simp
  · rw [nodeB_elem' h]; simp

theorem pB_ok : nodeB pB eB eB [] 1 = true := by decide +kernel

theorem twB_one (x : ByteArray) : twB [x] = false := by
  simp [twB, twAt, List.range_succ]

theorem wk_leaf (g k t : ByteArray) (ats : List Atr) : wk (leaf g k t ats) 2 1 = if plainB g k t ats = true then (0, 2, 2) else (9, 1, 2) := by
  have h := wk_node (n := 0) g k t ats ([] : List (T 0)) 2 1
  rw [if_neg (by decide), if_neg (by decide), List.length_nil, nodeB_zero] at h
  have e4 : ¬ twB (keysT ([] : List (T 0))) = true := by simp [twB, keysT]
  rw [if_neg e4] at h
  refine h.trans ?_
  cases plainB g k t ats with
  | true => rfl
  | false => rfl

theorem hull_size (g k t : ByteArray) (ats : List Atr) : (sizeT (hull g k t ats)).1 = if plainB g k t ats = true then 0 else 9 := by
  have h := wk_node (n := 1) pB eB eB ([] : List Atr) ([leaf g k t ats] : List (T 1)) 1 0
  rw [if_neg (by decide), if_neg (by decide), List.length_cons, List.length_nil, Nat.zero_add, pB_ok, if_neg (by simp)] at h
  have e2 : ¬ twB (keysT ([leaf g k t ats] : List (T 1))) = true := by
    have : twB (keysT ([leaf g k t ats] : List (T 1))) = false := twB_one _
    rw [this]
    simp
  rw [if_neg e2] at h
  have e3 : wkK (fun (u : T 1) c' => wk u (1 + 1) c') [leaf g k t ats] (0 + 1) 1 = if plainB g k t ats = true then (0, 2, 2) else (9, 1, 2) := by
    have e5 : wk (leaf g k t ats) (1 + 1) (0 + 1) = if plainB g k t ats = true then (0, 2, 2) else (9, 1, 2) := wk_leaf g k t ats
    simp only [wkK, e5]
    cases plainB g k t ats <;> simp
  have e6 : wk (hull g k t ats) 1 0 = if plainB g k t ats = true then (0, 2, 2) else (9, 1, 2) := h.trans e3
  have e7 : sizeT (hull g k t ats) = if pB.size = 0 then (9, 0, 0) else if (wk (hull g k t ats) 1 0).1 = 0 then wk (hull g k t ats) 1 0 else ((wk (hull g k t ats) 1 0).1, 0, 0) := rfl
  rw [e7, e6, if_neg (by decide)]
  cases plainB g k t ats <;> simp

/-- An element p around a node, laid. -/
theorem hull_lay {w W : World} {g k t : ByteArray} {ats : List Atr} {aa : Option Addr} {ac B : Nat} (hA : LayA w aa ats) (hb : Below w.heap.size w W) (hf : NodeOk g k t ats.length 0) (ha : ats.length ≤ ac ∧ ac ≤ 9223372036854775807 ∧ ats.length * 32 ≤ 140737488351232 ∧ (aa = none → ats.length = 0 ∧ ac = 0))
    (hB : W.heap[B]? = some (.cells #[.string g, .string k, .string t, .slice aa ats.length ac, .slice none 0 0] 53 (0, 0))) :
    LayT W 2 (mkT pB eB eB none 0 0 (some ⟨B, 0, none⟩) 1 1) (hull g k t ats) := by
  have hleaf : LayT W 1 (mkT g k t aa ats.length ac none 0 0) (leaf g k t ats) :=
    ⟨aa, ac, none, 0, rfl, ⟨hf.1, hf.2.1, hf.2.2.1, ha.1, ha.2.1, ha.2.2.1, Nat.le_refl _, Nat.zero_le _, Nat.zero_le _⟩, ha.2.2.2, fun _ => ⟨rfl, rfl⟩, hA.below hb, fun i u hi => (by cases i <;> cases hi)⟩
  refine ⟨none, 0, some ⟨B, 0, none⟩, 1, rfl, ⟨by decide, by decide, by decide, Nat.le_refl _, Nat.zero_le _, Nat.zero_le _, Nat.le_refl _, ?_, ?_⟩, fun _ => ⟨rfl, rfl⟩, fun h => (by cases h), fun i s hi => (by cases i <;> cases hi), ?_⟩
  · omega
  · show 1 * 96 ≤ _
    omega
  intro i u hi
  cases i with
  | succ i => cases i <;> cases hi
  | zero =>
    have e0 : leaf g k t ats = u := Option.some.inj hi
    subst e0
    have e : ∀ j v, (#[.string g, .string k, .string t, .slice aa ats.length ac, .slice none 0 0] : Array Value)[j]? = some v → W.cell? ⟨B, j, none⟩ = some v := fun j v h => (cell_of hB j).1.trans h
    exact ⟨B, 0, _, _, _, _, _, rfl, e 0 _ rfl, e 1 _ rfl, e 2 _ rfl, e 3 _ rfl, e 4 _ rfl, hleaf⟩

set_option maxRecDepth 100000 in
set_option maxHeartbeats 1600000 in
theorem alone_any (n : Nd) (aa : Option Addr) (ac : Nat) (ka : Option Addr) (kc : Nat) (w : World) (hf : FitN n aa ac ka kc) (hA : LayA w aa n.ats) :
    Calls Tryz.prog 30 #[mkN n.id n.par n.tag n.key n.txt aa n.ats.length ac ka n.kids.length kc] w fun e w' => e = .returned (.bool (aloneB n)) ∧ Below w.heap.size w w' := by
  obtain ⟨ni, np, g, k, t, ats, kids⟩ := n
  simp only at *
  have hkl : kids.length ≤ 140737488351232 := by have := hf.kids.2.2.1; simp only at this; omega
  have HH : Hid (∀ W B, Below w.heap.size w W → W.heap[B]? = some (.cells #[.string g, .string k, .string t, .slice aa ats.length ac, .slice none 0 0] 53 (0, 0)) → Calls Tryz.prog 55 #[mkT pB eB eB none 0 0 (some ⟨B, 0, none⟩) 1 1] W fun e w' => e = .returned (.int .i64 (if plainB g k t ats = true then 0 else 9)) ∧ Below W.heap.size W w') := by
    intro W B hb hB
    have := check_any 2 (hull g k t ats) _ W (hull_lay hA hb hf.node hf.ats hB)
    rw [hull_size] at this
    exact this
  have HAB : Hid (aloneB ⟨ni, np, g, k, t, ats, kids⟩ = (plainB g k t ats && (if g.size = 0 then decide (kids.length = 0) else decide (kids.length ≤ 32)))) := by show _ = _; rfl
  clear hf hA
  have CI : Hid (∀ W, Calls Tryz.prog 56 #[mkN ni np g k t aa ats.length ac ka kids.length kc] W _) := fun W => istextN_any ni np g k t aa ats.length ac ka kids.length kc W
  go_enter Tryz.func30, Tryz.ntmps30
  go_wp2_with fail
  have X1 : Hid ((((w.alloc (.cells #[.int .i64 ni, .int .i64 np, .string g, .string k, .string t, .slice aa ats.length ac, .slice ka kids.length kc] 41)).alloc (.cells #[.string g, .string k, .string t, .slice aa ats.length ac, .slice none 0 0] 53)).alloc (.cells #[.string g, .string k, .string t, .slice aa ats.length ac, .slice none 0 0] 53)).heap[w.heap.size + 1 + 1]? = some (.cells #[.string g, .string k, .string t, .slice aa ats.length ac, .slice none 0 0] 53 (0, 0))) := by
    show _ = _
    have := heap_alloc_new ((w.alloc (.cells #[.int .i64 ni, .int .i64 np, .string g, .string k, .string t, .slice aa ats.length ac, .slice ka kids.length kc] 41)).alloc (.cells #[.string g, .string k, .string t, .slice aa ats.length ac, .slice none 0 0] 53)) (.cells #[.string g, .string k, .string t, .slice aa ats.length ac, .slice none 0 0] 53)
    rwa [World.size_alloc, World.size_alloc] at this
  have B1 : Hid (Below w.heap.size w (((w.alloc (.cells #[.int .i64 ni, .int .i64 np, .string g, .string k, .string t, .slice aa ats.length ac, .slice ka kids.length kc] 41)).alloc (.cells #[.string g, .string k, .string t, .slice aa ats.length ac, .slice none 0 0] 53)).alloc (.cells #[.string g, .string k, .string t, .slice aa ats.length ac, .slice none 0 0] 53))) := nxt (nxt (below_one _ _) (below_one _ _)) (below_one _ _)
  have X0 : Hid ((((w.alloc (.cells #[.int .i64 ni, .int .i64 np, .string g, .string k, .string t, .slice aa ats.length ac, .slice ka kids.length kc] 41)).alloc (.cells #[.string g, .string k, .string t, .slice aa ats.length ac, .slice none 0 0] 53)).alloc (.cells #[.string g, .string k, .string t, .slice aa ats.length ac, .slice none 0 0] 53)).heap[w.heap.size]? = some (.cells #[.int .i64 ni, .int .i64 np, .string g, .string k, .string t, .slice aa ats.length ac, .slice ka kids.length kc] 41 (0, 0))) :=
    ((nxt (below_one (w.alloc (.cells #[.int .i64 ni, .int .i64 np, .string g, .string k, .string t, .slice aa ats.length ac, .slice ka kids.length kc] 41)) _) (below_one _ _)).block _ (by simp)).trans (heap_alloc_new _ _)
  have HCK := HH.out _ _ B1.out X1.out
  generalize ((w.alloc (.cells #[.int .i64 ni, .int .i64 np, .string g, .string k, .string t, .slice aa ats.length ac, .slice ka kids.length kc] 41)).alloc (.cells #[.string g, .string k, .string t, .slice aa ats.length ac, .slice none 0 0] 53)).alloc (.cells #[.string g, .string k, .string t, .slice aa ats.length ac, .slice none 0 0] 53) = W3 at *
  refine HCK.mono ?_
  rintro e w4 ⟨rfl, hb4⟩
  have B4 : Hid (Below w.heap.size w w4) := nxt B1.out hb4
  have X4 := (hb4.block _ (lt_of_block X0.out)).trans X0.out
  clear HCK X1 X0 hb4 HH B1
  obtain ⟨y0, -⟩ := cell_of X4 0
  obtain ⟨y1, -⟩ := cell_of X4 1
  obtain ⟨y2, -⟩ := cell_of X4 2
  obtain ⟨y3, -⟩ := cell_of X4 3
  obtain ⟨y4, -⟩ := cell_of X4 4
  obtain ⟨y5, -⟩ := cell_of X4 5
  obtain ⟨y6, -⟩ := cell_of X4 6
  simp at y0 y1 y2 y3 y4 y5 y6
  cases hp : plainB g k t ats with
  | false =>
    have HR : Hid (aloneB ⟨ni, np, g, k, t, ats, kids⟩ = false) := by show _ = _; rw [HAB.out, hp]; rfl
    simp only [Bool.false_eq_true, if_false]
    clear HAB hp CI X4
    go_wp2_with fail
    go_ret
    exact ⟨by rw [HR.out]; rfl, B4.out⟩
  | true =>
    simp only [if_true]
    rw [hp, Bool.true_and] at HAB
    have HY6 : Hid (∀ W, Below w4.heap.size w4 W → W.cell? ⟨w.heap.size, 6, none⟩ = some (.slice ka kids.length kc)) := fun W hb => keepc hb _ _ y6
    clear hp X4
    by_cases hg : g.size = 0
    · have HR : Hid (aloneB ⟨ni, np, g, k, t, ats, kids⟩ = ((kids.length : Int) == 0)) := by show _ = _; rw [HAB.out, if_pos hg, len_is]
      have CJ : Hid (∀ W, Calls Tryz.prog 56 #[mkN ni np g k t aa ats.length ac ka kids.length kc] W fun e w' => e = .returned (.bool true) ∧ Below W.heap.size W w') := fun W => by have := CI.out W; rwa [empty_true hg] at this
      clear HAB CI
      go_wp2_with (go_at_call 56; refine (CJ.out _).mono ?_; rintro e w5 ⟨rfl, hb5⟩; have B5 : Hid (Below w.heap.size w w5) := nxt B4.out hb5; have z6 := HY6.out _ hb5; clear hb5)
      go_ret
      exact ⟨by rw [HR.out]; rfl, B5.out⟩
    · have HR : Hid (aloneB ⟨ni, np, g, k, t, ats, kids⟩ = decide ((kids.length : Int) ≤ 32)) := by show _ = _; rw [HAB.out, if_neg hg]; exact (le_is _ 32).symm
      have CJ : Hid (∀ W, Calls Tryz.prog 56 #[mkN ni np g k t aa ats.length ac ka kids.length kc] W fun e w' => e = .returned (.bool false) ∧ Below W.heap.size W w') := fun W => by have := CI.out W; rwa [empty_false hg] at this
      clear HAB CI
      go_wp2_with (go_at_call 56; refine (CJ.out _).mono ?_; rintro e w5 ⟨rfl, hb5⟩; have B5 : Hid (Below w.heap.size w w5) := nxt B4.out hb5; have z6 := HY6.out _ hb5; clear hb5)
      go_ret
      exact ⟨by rw [HR.out]; rfl, B5.out⟩
end Go.Proofs.YtcdnakcojanaeabGreat
