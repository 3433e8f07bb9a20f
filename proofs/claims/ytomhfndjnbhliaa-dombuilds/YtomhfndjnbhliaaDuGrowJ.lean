/-
  The program's grow: a tree's nodes, put behind those that there are. (Printed by wip/make/mkdugrow.py.)
-/
import Derived.Test.YtomhfndjnbhliaaDbMathJ
namespace Go.Proofs.Ytomhfndjnbhliaa
open Go.ChangeShapes Go.WideShapes Go.ChangeAt Go.RowKit Go.Deep
open Do

/-- Sizes of rows of kids. -/
abbrev few32 (_ _ _ : ByteArray) (_ : List Atr) (il : Nat) : Prop := il ≤ 32

theorem lay_shape {w : World} : ∀ (n : Nat) {x : Value} {u : T n}, LayT w n x u → ∃ g k t aa al ac ia il ic, x = mkT g k t aa al ac ia il ic
  | 0, _, u, _ => u.elim
  | _ + 1, _, (_, _, _, _, _), ⟨aa, ac, ia, ic, h, _⟩ => ⟨_, _, _, aa, _, ac, ia, _, ic, h⟩

/-- What grow answers and leaves. -/
def GrowPost (w w' : World) (B P : Nat) (e : Ending) (root next : Int) (F : Nat → Prop) (ns : List Nd) (next' : Int) : Prop :=
  e = .returned (.int .i64 next) ∧ ∃ v' ab' kb', w'.heap[P]? = some (.cells #[v', .int .i64 root, .int .i64 next'] 29 (0, 0)) ∧ Dg w w' B P F ns v' ab' kb'

theorem lay_atr {w : World} {aa : Option Addr} {ats : List Atr} (h : LayA w aa ats) : ∀ s ∈ ats, s.1.size ≤ 140737488351232 ∧ s.2.size ≤ 140737488351232 := by
  intro s hs
  obtain ⟨i, hi, rfl⟩ := List.getElem_of_mem hs
  obtain ⟨b, o, -, -, -, h1, h2⟩ := h i _ (List.getElem?_eq_getElem hi)
  exact ⟨h1, h2⟩

theorem idK_i64 {α : Type} {f : α → Nat} {l : List α} {x : Int} (h1 : 0 ≤ x) (h2 : x + (sumK f l : Int) ≤ 9223372036854775807) : I64 (idK f x l) := by
  intro y hy
  obtain ⟨i, u, hi, e⟩ := idK_mem hy
  have := sumK_take f l i
  omega

theorem set_node {ns l : List Nd} {x par : Int} {g k t : ByteArray} {ats : List Atr} {ks : List Int} : (ns ++ [(⟨x, par, g, k, t, ats, []⟩ : Nd)] ++ l).set ns.length ((⟨x, par, g, k, t, ats, []⟩ : Nd).withKids ks) = ns ++ (⟨x, par, g, k, t, ats, ks⟩ : Nd) :: l := by
  rw [List.append_assoc, List.set_append_right _ _ (Nat.le_refl _), Nat.sub_self]
  rfl

/-- What grow does with trees of depth up to n. -/
def Grows (wt : World) (B P : Nat) (root : Int) (n : Nat) : Prop := ∀ (v : T n) (y : Value) (ns : List Nd) (x par : Int) (w : World) (sv : Value) (ab kb : Nat → Value), LayT wt n y v → AllT few32 v → Below wt.heap.size wt w → B ≤ w.heap.size →
    w.heap[P]? = some (.cells #[sv, .int .i64 root, .int .i64 x] 29 (0, 0)) → OwnN w B sv ns ab kb → ns.length + ct v ≤ 1024 → 0 ≤ x → x + (ct v : Int) ≤ 2147483647 → (-9223372036854775808 ≤ par ∧ par ≤ 9223372036854775807) →
    Calls Try.prog 22 #[.pointer (some ⟨P, 0, none⟩), y, .int .i64 par] w fun e w' => GrowPost w w' B P e root x (footN sv ns.length ab kb) (ns ++ bl par x v) (x + (ct v : Int))

set_option maxRecDepth 100000 in
set_option maxHeartbeats 6400000 in
theorem grow_node (wt : World) (B P : Nat) (root : Int) (hBt : wt.heap.size ≤ B) (hBP : B ≤ P) (n : Nat) (ih : Grows wt B P root n) (g k t : ByteArray) (ats : List Atr) (its : List (T n)) (aa : Option Addr) (ac : Nat) (ia : Option Addr) (ic : Nat) (ns : List Nd) (x par : Int) (w : World) (sv : Value) (ab kb : Nat → Value)
    (hf : FitT g k t ats.length ac its.length ic) (hA : LayA wt aa ats) (hI : LayI wt (LayT wt n) ia its) (hall : its.length ≤ 32 ∧ ∀ u ∈ its, AllT few32 u) (hwt : Below wt.heap.size wt w) (hB : B ≤ w.heap.size)
    (hP : w.heap[P]? = some (.cells #[sv, .int .i64 root, .int .i64 x] 29 (0, 0))) (hO : OwnN w B sv ns ab kb) (hlen : ns.length + (1 + sumK ct its) ≤ 1024) (hx0 : 0 ≤ x) (hx1 : x + ((1 + sumK ct its : Nat) : Int) ≤ 2147483647) (hpar : -9223372036854775808 ≤ par ∧ par ≤ 9223372036854775807) :
    Calls Try.prog 22 #[.pointer (some ⟨P, 0, none⟩), mkT g k t aa ats.length ac ia its.length ic, .int .i64 par] w fun e w' => GrowPost w w' B P e root x (footN sv ns.length ab kb) (ns ++ ⟨x, par, g, k, t, ats, idK ct (x + 1) its⟩ :: blK ct (fun y u => bl x y u) (x + 1) its) (x + ((1 + sumK ct its : Nat) : Int)) := by
    obtain ⟨svr, svc, hsv⟩ := hO.shape
    subst hsv
    have IH : Hid (Grows wt B P root n) := ih
    have HLI : Hid (LayI wt (LayT wt n) ia its) := hI
    have HLA : Hid (LayA wt aa ats) := hA
    have HAL : Hid (its.length ≤ 32 ∧ ∀ u ∈ its, AllT few32 u) := hall
    have HF : Hid (FitT g k t ats.length ac its.length ic) := hf
    have HWT : Hid (Below wt.heap.size wt w) := hwt
    have HBT : Hid (wt.heap.size ≤ B ∧ B ≤ P ∧ B ≤ w.heap.size) := ⟨hBt, hBP, hB⟩
    have HPB : Hid (w.heap[P]? = some (.cells #[.slice svr ns.length svc, .int .i64 root, .int .i64 x] 29 (0, 0))) := hP
    have HO : Hid (OwnN w B (.slice svr ns.length svc) ns ab kb) := hO
    have HCT : Hid (ns.length + (1 + sumK ct its) ≤ 1024 ∧ 0 ≤ x ∧ x + ((1 + sumK ct its : Nat) : Int) ≤ 2147483647) := ⟨hlen, hx0, hx1⟩
    have HPR : Hid (-9223372036854775808 ≤ par ∧ par ≤ 9223372036854775807) := hpar
    have hnl : ns.length ≤ 1023 := by have := HCT.out.1; omega
    have hxb : 0 ≤ x ∧ x ≤ 2147483647 := by have := HCT.out; omega
    have hic : its.length ≤ ic ∧ ic ≤ 9223372036854775807 ∧ its.length ≤ 32 := ⟨HF.out.2.2.2.2.2.2.1, HF.out.2.2.2.2.2.2.2.1, HAL.out.1⟩
    clear hf hI hA hall hwt hBt hBP hB hP hO hlen hx0 hx1 hpar ih
    obtain ⟨W1, hW1⟩ : ∃ W : World, W = w.alloc (.cells #[.string g, .string k, .string t, .slice aa ats.length ac, .slice ia its.length ic] 25) := ⟨_, rfl⟩
    have B1 : Hid (Below w.heap.size w W1) := by show Below _ _ _; rw [hW1]; exact below_one _ _
    have X1 : Hid (W1.heap[w.heap.size]? = some (.cells #[.string g, .string k, .string t, .slice aa ats.length ac, .slice ia its.length ic] 25 (0, 0))) := by show _ = _; rw [hW1]; exact heap_alloc_new _ _
    obtain ⟨F, hF⟩ : ∃ F, F = footN (.slice svr ns.length svc) ns.length ab kb := ⟨_, rfl⟩
    rw [← hF]
    have HFF : Hid (F = footN (.slice svr ns.length svc) ns.length ab kb) := hF
    clear hF
    go_enter Try.func22, Try.ntmps22
    go_wp2_with fail
    rw [← hW1]
    clear hW1
    have P1 : Hid (W1.heap[P]? = _) := (B1.out.block _ (lt_of_block HPB.out)).trans HPB.out
    obtain ⟨p0, p1, p2⟩ := three P1.out
    go_big_quiet (fail)
    have B2 : Hid (Below w.heap.size w (W1.drewN nq)) := nxt B1.out (Below_drewN _ _ _)
    have X2 : Hid ((W1.drewN nq).heap[w.heap.size]? = _) := X1.out
    have P2 : Hid ((W1.drewN nq).heap[P]? = _) := P1.out
    generalize W1.drewN nq = W2 at *
    clear p0 p1 p2 P1 X1 B1 HPB
    obtain ⟨p0, p1, p2⟩ := three P2.out
    have pf2 := (cell_of P2.out 2).2
    go_wp2_with fail
    have P3 : Hid ((W2.setCell ⟨P, 2, none⟩ (.int .i64 (x + 1))).heap[P]? = some (.cells #[.slice svr ns.length svc, .int .i64 root, .int .i64 (x + 1)] 29 (0, 0))) := by show _ = _; rw [set_one_cell P2.out]; simp
    have HXP : Hid (w.heap.size ≠ P) := fun e => by
      have h1 := X2.out
      rw [e, P2.out] at h1
      simp at h1
    have X3 : Hid ((W2.setCell ⟨P, 2, none⟩ (.int .i64 (x + 1))).heap[w.heap.size]? = _) := (heap_set_other _ HXP.out).trans X2.out
    have D3 : Hid (Dg w (W2.setCell ⟨P, 2, none⟩ (.int .i64 (x + 1))) B P F ns (.slice svr ns.length svc) ab kb) := by
      have h0 : Dg w W2 B P F ns (.slice svr ns.length svc) ab kb := by
        rw [HFF.out]
        exact (Dg.start HO.out).below B2.out
      refine h0.on ((Kept.refl _ _).setCell _ (Or.inl rfl)) fun b hb => heap_set_other _ (h0.own.notState P2.out hb)
    have HFO : Hid (∀ b, footN (.slice svr ns.length svc) ns.length ab kb b → B ≤ b) := fun b hb => (HO.out.foot hb).1
    clear p0 p1 p2 pf2 X2 P2 B2 HO
    generalize W2.setCell ⟨P, 2, none⟩ (.int .i64 (x + 1)) = W3 at *
    have BT3 : Hid (Below wt.heap.size wt W3) := by
      have h1 := D3.out.under HBT.out.2.1 (by rw [HFF.out]; exact HFO.out) HBT.out.2.2
      exact HWT.out.trans (h1.mono HBT.out.1)
    have BB3 : Hid (B ≤ W3.heap.size) := Nat.le_trans HBT.out.2.2 D3.out.kept.size
    obtain ⟨p0, p1, p2⟩ := three P3.out
    obtain ⟨x0, x1, x2, x3, x4⟩ := (five X3.out).1
    have HCA : Hid (∀ W, Below W3.heap.size W3 W → Calls Try.prog 46 #[.slice aa ats.length ac] W fun e w' => ∃ v, e = .returned v ∧ OwnA w' W.heap.size v ats ∧ Below W.heap.size W w') := fun W hb => copyA_any ats aa ac W (HLA.out.below (nxt BT3.out hb)) HF.out.2.2.2.2.2.1
    have HST : Hid (∀ W W', Below W.heap.size W W' → (fun w' : World => w'.heap[P]? = some (.cells #[.slice svr ns.length svc, .int .i64 root, .int .i64 (x + 1)] 29 (0, 0)) ∧ w'.heap[w.heap.size]? = some (.cells #[.string g, .string k, .string t, .slice aa ats.length ac, .slice ia its.length ic] 25 (0, 0))) W → (fun w' : World => w'.heap[P]? = some (.cells #[.slice svr ns.length svc, .int .i64 root, .int .i64 (x + 1)] 29 (0, 0)) ∧ w'.heap[w.heap.size]? = some (.cells #[.string g, .string k, .string t, .slice aa ats.length ac, .slice ia its.length ic] 25 (0, 0))) W') := fun W W' hb ⟨y0, y1⟩ => ⟨(hb.block _ (lt_of_block y0)).trans y0, (hb.block _ (lt_of_block y1)).trans y1⟩
    have HS0 : (fun w' : World => w'.heap[P]? = some (.cells #[.slice svr ns.length svc, .int .i64 root, .int .i64 (x + 1)] 29 (0, 0)) ∧ w'.heap[w.heap.size]? = some (.cells #[.string g, .string k, .string t, .slice aa ats.length ac, .slice ia its.length ic] 25 (0, 0))) W3.drew := ⟨P3.out, X3.out⟩
    refine Rg.Till.region (fun w' : World => w'.heap[P]? = some (.cells #[.slice svr ns.length svc, .int .i64 root, .int .i64 (x + 1)] 29 (0, 0)) ∧ w'.heap[w.heap.size]? = some (.cells #[.string g, .string k, .string t, .slice aa ats.length ac, .slice ia its.length ic] 25 (0, 0))) 21 (by kernel_rfl) ?_
    show Rg.Till _ _ _ _ _ 22 (Array.replicate 22 false) _ _
    refine Rg.Till.take (i := 0) (v := .pointer (some ⟨P, 0, none⟩)) (some 28) rfl rfl (by kernel_rfl) (by kernel_rfl) (fun _ _ _ h => h) (by kernel_rfl) (by kernel_rfl) (Or.inl ⟨rfl, fun w' hS => ?_⟩) HS0 ?_
    · obtain ⟨y0, y1, y2⟩ := three hS.1; obtain ⟨z0, z1, z2, z3, z4⟩ := (five hS.2).1; go_simp
    simp only [Act.put, List.setIfInBounds_toArray, List.set_cons_zero, List.set_cons_succ]
    refine Rg.Till.take (i := 1) (v := .pointer (some ⟨P, 0, none⟩)) (some 29) rfl rfl (by kernel_rfl) (by kernel_rfl) (fun _ _ _ h => h) (by kernel_rfl) (by kernel_rfl) (Or.inl ⟨rfl, fun w' hS => ?_⟩) HS0 ?_
    · obtain ⟨y0, y1, y2⟩ := three hS.1; obtain ⟨z0, z1, z2, z3, z4⟩ := (five hS.2).1; go_simp
    simp only [Act.put, List.setIfInBounds_toArray, List.set_cons_zero, List.set_cons_succ]
    refine Rg.Till.take (i := 2) (v := .pointer (some ⟨P, 0, none⟩)) (some 30) rfl rfl (by kernel_rfl) (by kernel_rfl) (fun _ _ _ h => h) (by kernel_rfl) (by kernel_rfl) (Or.inl ⟨rfl, fun w' hS => ?_⟩) HS0 ?_
    · obtain ⟨y0, y1, y2⟩ := three hS.1; obtain ⟨z0, z1, z2, z3, z4⟩ := (five hS.2).1; go_simp
    simp only [Act.put, List.setIfInBounds_toArray, List.set_cons_zero, List.set_cons_succ]
    refine Rg.Till.take (i := 3) (v := .pointer (some ⟨P, 0, none⟩)) (some 31) rfl rfl (by kernel_rfl) (by kernel_rfl) (fun _ _ _ h => h) (by kernel_rfl) (by kernel_rfl) (Or.inl ⟨rfl, fun w' hS => ?_⟩) HS0 ?_
    · obtain ⟨y0, y1, y2⟩ := three hS.1; obtain ⟨z0, z1, z2, z3, z4⟩ := (five hS.2).1; go_simp
    simp only [Act.put, List.setIfInBounds_toArray, List.set_cons_zero, List.set_cons_succ]
    refine Rg.Till.take (i := 4) (v := .slice svr ns.length svc) (some 32) rfl rfl (by kernel_rfl) (by kernel_rfl) (fun _ _ _ h => h) (by kernel_rfl) (by kernel_rfl) (Or.inl ⟨rfl, fun w' hS => ?_⟩) HS0 ?_
    · obtain ⟨y0, y1, y2⟩ := three hS.1; obtain ⟨z0, z1, z2, z3, z4⟩ := (five hS.2).1; go_simp
    simp only [Act.put, List.setIfInBounds_toArray, List.set_cons_zero, List.set_cons_succ]
    refine Rg.Till.take (i := 5) (v := .int .i64 x) (some 33) rfl rfl (by kernel_rfl) (by kernel_rfl) (fun _ _ _ h => h) (by kernel_rfl) (by kernel_rfl) (Or.inl ⟨rfl, fun w' hS => ?_⟩) HS0 ?_
    · obtain ⟨y0, y1, y2⟩ := three hS.1; obtain ⟨z0, z1, z2, z3, z4⟩ := (five hS.2).1; go_simp
    simp only [Act.put, List.setIfInBounds_toArray, List.set_cons_zero, List.set_cons_succ]
    refine Rg.Till.take (i := 6) (v := .int .i64 par) (some 34) rfl rfl (by kernel_rfl) (by kernel_rfl) (fun _ _ _ h => h) (by kernel_rfl) (by kernel_rfl) (Or.inl ⟨rfl, fun w' hS => ?_⟩) HS0 ?_
    · obtain ⟨y0, y1, y2⟩ := three hS.1; obtain ⟨z0, z1, z2, z3, z4⟩ := (five hS.2).1; go_simp
    simp only [Act.put, List.setIfInBounds_toArray, List.set_cons_zero, List.set_cons_succ]
    refine Rg.Till.take (i := 7) (v := .pointer (some ⟨w.heap.size, 0, none⟩)) (some 35) rfl rfl (by kernel_rfl) (by kernel_rfl) (fun _ _ _ h => h) (by kernel_rfl) (by kernel_rfl) (Or.inl ⟨rfl, fun w' hS => ?_⟩) HS0 ?_
    · obtain ⟨y0, y1, y2⟩ := three hS.1; obtain ⟨z0, z1, z2, z3, z4⟩ := (five hS.2).1; go_simp
    simp only [Act.put, List.setIfInBounds_toArray, List.set_cons_zero, List.set_cons_succ]
    refine Rg.Till.take (i := 8) (v := .string g) (some 36) rfl rfl (by kernel_rfl) (by kernel_rfl) (fun _ _ _ h => h) (by kernel_rfl) (by kernel_rfl) (Or.inl ⟨rfl, fun w' hS => ?_⟩) HS0 ?_
    · obtain ⟨y0, y1, y2⟩ := three hS.1; obtain ⟨z0, z1, z2, z3, z4⟩ := (five hS.2).1; go_simp
    simp only [Act.put, List.setIfInBounds_toArray, List.set_cons_zero, List.set_cons_succ]
    refine Rg.Till.take (i := 9) (v := .pointer (some ⟨w.heap.size, 1, none⟩)) (some 37) rfl rfl (by kernel_rfl) (by kernel_rfl) (fun _ _ _ h => h) (by kernel_rfl) (by kernel_rfl) (Or.inl ⟨rfl, fun w' hS => ?_⟩) HS0 ?_
    · obtain ⟨y0, y1, y2⟩ := three hS.1; obtain ⟨z0, z1, z2, z3, z4⟩ := (five hS.2).1; go_simp
    simp only [Act.put, List.setIfInBounds_toArray, List.set_cons_zero, List.set_cons_succ]
    refine Rg.Till.take (i := 10) (v := .string k) (some 38) rfl rfl (by kernel_rfl) (by kernel_rfl) (fun _ _ _ h => h) (by kernel_rfl) (by kernel_rfl) (Or.inl ⟨rfl, fun w' hS => ?_⟩) HS0 ?_
    · obtain ⟨y0, y1, y2⟩ := three hS.1; obtain ⟨z0, z1, z2, z3, z4⟩ := (five hS.2).1; go_simp
    simp only [Act.put, List.setIfInBounds_toArray, List.set_cons_zero, List.set_cons_succ]
    refine Rg.Till.take (i := 11) (v := .pointer (some ⟨w.heap.size, 2, none⟩)) (some 39) rfl rfl (by kernel_rfl) (by kernel_rfl) (fun _ _ _ h => h) (by kernel_rfl) (by kernel_rfl) (Or.inl ⟨rfl, fun w' hS => ?_⟩) HS0 ?_
    · obtain ⟨y0, y1, y2⟩ := three hS.1; obtain ⟨z0, z1, z2, z3, z4⟩ := (five hS.2).1; go_simp
    simp only [Act.put, List.setIfInBounds_toArray, List.set_cons_zero, List.set_cons_succ]
    refine Rg.Till.take (i := 12) (v := .string t) (some 40) rfl rfl (by kernel_rfl) (by kernel_rfl) (fun _ _ _ h => h) (by kernel_rfl) (by kernel_rfl) (Or.inl ⟨rfl, fun w' hS => ?_⟩) HS0 ?_
    · obtain ⟨y0, y1, y2⟩ := three hS.1; obtain ⟨z0, z1, z2, z3, z4⟩ := (five hS.2).1; go_simp
    simp only [Act.put, List.setIfInBounds_toArray, List.set_cons_zero, List.set_cons_succ]
    refine Rg.Till.take (i := 13) (v := .pointer (some ⟨w.heap.size, 3, none⟩)) (some 41) rfl rfl (by kernel_rfl) (by kernel_rfl) (fun _ _ _ h => h) (by kernel_rfl) (by kernel_rfl) (Or.inl ⟨rfl, fun w' hS => ?_⟩) HS0 ?_
    · obtain ⟨y0, y1, y2⟩ := three hS.1; obtain ⟨z0, z1, z2, z3, z4⟩ := (five hS.2).1; go_simp
    simp only [Act.put, List.setIfInBounds_toArray, List.set_cons_zero, List.set_cons_succ]
    refine Rg.Till.take (i := 14) (v := .slice aa ats.length ac) (some 42) rfl rfl (by kernel_rfl) (by kernel_rfl) (fun _ _ _ h => h) (by kernel_rfl) (by kernel_rfl) (Or.inl ⟨rfl, fun w' hS => ?_⟩) HS0 ?_
    · obtain ⟨y0, y1, y2⟩ := three hS.1; obtain ⟨z0, z1, z2, z3, z4⟩ := (five hS.2).1; go_simp
    simp only [Act.put, List.setIfInBounds_toArray, List.set_cons_zero, List.set_cons_succ]
    refine Rg.Till.oneK (i := 15) (by kernel_rfl) rfl rfl ?_
    intro K hK
    refine op_call1 (d := some 43) rfl 46 (by intros; go_simp) _ _ rfl _ rfl ((HCA.out _ (Below.refl _ W3).drew).mono ?_)
    rintro e w4 ⟨av, rfl, hA4, hb4⟩
    obtain ⟨aa2, ac2, rfl⟩ := hA4.shape
    have HS4 := HST.out _ _ hb4 HS0
    refine ⟨_, rfl, hK.out _ _ (fun _ => HS4) ?_⟩
    clear hK K
    simp only [Act.put, List.setIfInBounds_toArray, List.set_cons_zero, List.set_cons_succ]
    refine Rg.Till.take (i := 16) (v := .agg #[.int .i64 x, .int .i64 par, .string g, .string k, .string t, .slice aa2 ats.length ac2, .slice none 0 0]) (some 44) rfl rfl (by kernel_rfl) (by kernel_rfl) (fun _ _ _ h => h) (by kernel_rfl) (by kernel_rfl) (Or.inl ⟨rfl, fun w' hS => ?_⟩) HS4 ?_
    · obtain ⟨y0, y1, y2⟩ := three hS.1; obtain ⟨z0, z1, z2, z3, z4⟩ := (five hS.2).1; go_simp
    simp only [Act.put, List.setIfInBounds_toArray, List.set_cons_zero, List.set_cons_succ]
    refine Rg.Till.oneK (i := 17) (by kernel_rfl) rfl rfl ?_
    intro K hK
    go_simp
    have hb5 : Below w4.heap.size w4 (w4.alloc (.cells #[.int .i64 x, .int .i64 par, .string g, .string k, .string t, .slice aa2 ats.length ac2, .slice none 0 0] 54)) := below_one _ _
    have HS5 := HST.out _ _ hb5 HS4
    refine hK.out _ _ (fun _ => HS5) ?_
    clear hK K
    have D5 : Dg w (w4.alloc (.cells #[.int .i64 x, .int .i64 par, .string g, .string k, .string t, .slice aa2 ats.length ac2, .slice none 0 0] 54)) B P F ns (.slice svr ns.length svc) ab kb := (D3.out.below ((Below.refl _ W3).drew.trans hb4)).below hb5
    have A5 : OwnA (w4.alloc (.cells #[.int .i64 x, .int .i64 par, .string g, .string k, .string t, .slice aa2 ats.length ac2, .slice none 0 0] 54)) W3.heap.size (.slice aa2 ats.length ac2) ats := OwnA.below hA4 hb5
    have N5 : ∀ j u, (cellsN ⟨x, par, g, k, t, ats, []⟩ (.slice aa2 ats.length ac2) (.slice none 0 0))[j]? = some u → (w4.alloc (.cells #[.int .i64 x, .int .i64 par, .string g, .string k, .string t, .slice aa2 ats.length ac2, .slice none 0 0] 54)).cell? ((⟨w4.heap.size, 0, none⟩ : Addr).add j) = some u := fun j u hj => newCells w4 _ _ j u (by rw [← Array.getElem?_toList]; exact hj)
    have hsz5 : B ≤ (w4.alloc (.cells #[.int .i64 x, .int .i64 par, .string g, .string k, .string t, .slice aa2 ats.length ac2, .slice none 0 0] 54)).heap.size := Nat.le_trans HBT.out.2.2 D5.kept.size
    have hnl5 : W3.heap.size ≤ w4.heap.size := hb4.size
    generalize hw5 : w4.alloc (.cells #[.int .i64 x, .int .i64 par, .string g, .string k, .string t, .slice aa2 ats.length ac2, .slice none 0 0] 54) = w5 at *
    refine Rg.Till.oneK (i := 18) (by kernel_rfl) rfl rfl ?_
    intro K hK
    refine op_pushN (d := some 46) rfl rfl _ _ rfl B (.slice svr ns.length svc) ns.length (rowN ns ab kb) rfl D5.own.row ⟨x, par, g, k, t, ats, []⟩ aa2 ats.length ac2 none 0 0 ⟨w4.heap.size, 0, none⟩ 1 rfl N5 (by omega) hsz5 ?_
    intro v6 w6 r1 r2 r3
    have hP5 := lt_of_block HS5.1
    have HS6 : (fun w' : World => w'.heap[P]? = some (.cells #[.slice svr ns.length svc, .int .i64 root, .int .i64 (x + 1)] 29 (0, 0)) ∧ w'.heap[w.heap.size]? = some (.cells #[.string g, .string k, .string t, .slice aa ats.length ac, .slice ia its.length ic] 25 (0, 0))) w6 := ⟨(r2.block _ hP5 (fun e => D5.own.notState HS5.1 (Or.inl e.symm) rfl)).trans HS5.1, (r2.block _ (lt_of_block HS5.2) (fun e => D5.own.notTy HS5.2 (by decide) (by decide) (by decide) (Or.inl e.symm) rfl)).trans HS5.2⟩
    refine hK.out _ _ (fun _ => HS6) ?_
    clear hK K
    simp only [Act.put, List.setIfInBounds_toArray, List.set_cons_zero, List.set_cons_succ]
    refine Rg.Till.oneK (i := 19) (by kernel_rfl) rfl rfl ?_
    intro K hK
    go_simp
    refine hK.out _ _ (fun _ => HS6) ?_
    clear hK K
    refine Rg.Till.take (i := 20) (v := .pointer (some ⟨P, 0, none⟩)) (some 48) rfl rfl (by kernel_rfl) (by kernel_rfl) (fun _ _ _ h => h) (by kernel_rfl) (by kernel_rfl) (Or.inl ⟨rfl, fun w' hS => ?_⟩) HS6 ?_
    · obtain ⟨y0, y1, y2⟩ := three hS.1; obtain ⟨z0, z1, z2, z3, z4⟩ := (five hS.2).1; go_simp
    simp only [Act.put, List.setIfInBounds_toArray, List.set_cons_zero, List.set_cons_succ]
    obtain ⟨va6, vc6, rfl⟩ := slice_of_own r1
    obtain ⟨s0, -, -⟩ := three HS6.1
    have f0 := (cell_of HS6.1 0).2
    refine Rg.Till.oneK (i := 21) (by kernel_rfl) rfl rfl ?_
    intro K hK
    go_simp
    refine hK.out _ _ (fun h => absurd rfl h) ?_
    clear hK K
    refine Rg.Till.done (by kernel_rfl) ?_
    clear HS0 s0 f0 p0 p1 p2 x0 x1 x2 x3 x4
    have hnf : NdFit ⟨x, par, g, k, t, ats, []⟩ := by
      have hf := HF.out
      exact ⟨by show _ ≤ x ∧ x ≤ _; omega, HPR.out, ⟨hf.1, hf.2.1, hf.2.2.1, hf.2.2.2.2.2.1, by decide⟩, lay_atr HLA.out, (fun z hz => by cases hz), show 0 * 8 ≤ 140737488351232 by decide⟩
    obtain ⟨o6, f6⟩ := D5.own.pushA hnf rfl (OwnA.less A5 BB3.out) (fun b hb hf => by
      have h1 := (OwnA.rng A5 hb).1
      have h2 := (D3.out.own.foot hf).2
      omega) r1 r2 r3
    have P7 : Hid ((w6.setCell ⟨P, 0, none⟩ (.slice va6 (ns.length + 1) vc6)).heap[P]? = some (.cells #[.slice va6 (ns.length + 1) vc6, .int .i64 root, .int .i64 (x + 1)] 29 (0, 0))) := by show _ = _; rw [set_one_cell HS6.1]; simp
    have X7 : Hid ((w6.setCell ⟨P, 0, none⟩ (.slice va6 (ns.length + 1) vc6)).heap[w.heap.size]? = _) := (heap_set_other _ HXP.out).trans HS6.2
    have D7 : Hid (∃ ab kb, Dg w (w6.setCell ⟨P, 0, none⟩ (.slice va6 (ns.length + 1) vc6)) B P F (ns ++ [(⟨x, par, g, k, t, ats, []⟩ : Nd)]) (.slice va6 (ns.length + 1) vc6) ab kb) := by
      have h6 : Dg w w6 B P F (ns ++ [(⟨x, par, g, k, t, ats, []⟩ : Nd)]) (.slice va6 (ns.length + 1) vc6) (upd ab ns.length (.slice aa2 ats.length ac2)) (upd kb ns.length (.slice none 0 0)) := by
        refine ⟨o6, fun b hb => ?_, ⟨r2.os.trans D5.kept.os, r2.tape.trans D5.kept.tape, r2.output.trans D5.kept.output, Nat.le_trans D5.kept.size r2.size, fun b hb hn => (r2.block b (Nat.lt_of_lt_of_le hb D5.kept.size) (fun e => ?_)).trans (D5.kept.block b hb hn)⟩⟩
        · rcases f6 b hb with h | h | h
          · exact D5.foot b h
          · have h1 := (OwnA.rng A5 h).1
            have := D3.out.kept.size
            exact Or.inr (by omega)
          · have := D5.kept.size
            exact Or.inr (by omega)
        · rcases D5.foot b (Or.inl e.symm) with h | h
          · exact hn (Or.inr h)
          · omega
      exact ⟨_, _, h6.on ((Kept.refl _ _).setCell _ (Or.inl rfl)) fun b hb => heap_set_other _ (h6.own.notState HS6.1 hb)⟩
    clear o6 f6 r1 r2 r3 HS6 HS5 HS4 D5 A5 N5 hsz5 hnl5 hw5 hb4 hb5 hA4 hP5 hnf D3 X3 P3 BT3 BB3 HCA HST
    generalize w6.setCell ⟨P, 0, none⟩ (.slice va6 (ns.length + 1) vc6) = W7 at *
    obtain ⟨x0, x1, x2, x3, x4⟩ := (five X7.out).1
    go_wp2_with fail
    clear x0 x1 x2 x3 x4
    go_loopw [9, 11, 52] (fun v9 _ v52 wr => ∃ m : Nat, m ≤ its.length ∧ v52 = .int .i64 (m : Int) ∧ Hid (wr.heap[w.heap.size]? = some (.cells #[.string g, .string k, .string t, .slice aa ats.length ac, .slice ia its.length ic] 25 (0, 0))) ∧
      Hid (∃ v a b, wr.heap[P]? = some (.cells #[v, .int .i64 root, .int .i64 (x + 1 + (sumK ct (its.take m) : Int))] 29 (0, 0)) ∧ Dg w wr B P F (ns ++ [(⟨x, par, g, k, t, ats, []⟩ : Nd)] ++ blK ct (fun y u => bl x y u) (x + 1) (its.take m)) v a b ∧
        OwnZ wr w.heap.size v9 (idK ct (x + 1) (its.take m)) ∧ ∀ q, v9.ownBlock = some q → ¬ footN v (ns ++ [(⟨x, par, g, k, t, ats, []⟩ : Nd)] ++ blK ct (fun y u => bl x y u) (x + 1) (its.take m)).length a b q ∧ q ≠ P ∧ q ≠ w.heap.size)) (fun _ _ v52 _ => its.length - (intOf v52).toNat)
    case atStart =>
      obtain ⟨a7, b7, d7⟩ := D7.out
      refine ⟨0, Nat.zero_le _, rfl, X7.out, ⟨.slice va6 (ns.length + 1) vc6, a7, b7, ?_, ?_, OwnZ.nil _ _, fun q hq => (by cases hq)⟩⟩
      · have e0 : x + 1 + ((sumK ct (its.take 0) : Nat) : Int) = x + 1 := by show x + 1 + ((0 : Nat) : Int) = x + 1; omega
        rw [e0]
        exact P7.out
      · show Dg w W7 B P F (ns ++ [(⟨x, par, g, k, t, ats, []⟩ : Nd)] ++ []) _ _ _
        rw [List.append_nil]
        exact d7
    case round =>
      obtain ⟨m, hm, rfl, HX, HD⟩ := hrel
      by_cases hlt : m < its.length
      · obtain ⟨v7, a7, b7, hp7, hd7, hz7, hq7⟩ := HD.out
        have hbt : Below wt.heap.size wt wr := by
          have h1 := hd7.under HBT.out.2.1 (by rw [HFF.out]; exact fun b hb => HFO.out b hb) HBT.out.2.2
          exact HWT.out.trans (h1.mono HBT.out.1)
        obtain ⟨kb0, ko, c0, c1, c2, c3, c4, hia, y0, y1, y2, y3, y4, hlt0⟩ := HLI.out m its[m] (List.getElem?_eq_getElem hlt)
        have HLK : Hid (LayT wt n (.agg #[c0, c1, c2, c3, c4]) its[m] ∧ AllT few32 its[m] ∧ ct its[m] ≤ sumK ct its) := ⟨hlt0, HAL.out.2 _ (List.getElem_mem hlt), by
          have h1 := sumK_take ct its (m + 1)
          rw [take_snoc hlt, sumK_snoc] at h1
          omega⟩
        have y0 := keepc hbt _ _ y0
        have y1 := keepc hbt _ _ y1
        have y2 := keepc hbt _ _ y2
        have y3 := keepc hbt _ _ y3
        have y4 := keepc hbt _ _ y4
        subst hia
        obtain ⟨kg, kk, kt, kaa, kal, kac, kia, kil, kic, hke⟩ := lay_shape n hlt0
        simp only [Value.agg.injEq, Array.mk.injEq, List.cons.injEq, and_true] at hke
        obtain ⟨rfl, rfl, rfl, rfl, rfl⟩ := hke
        obtain ⟨zr, zc, hzv⟩ := hz7.shape
        subst hzv
        have HSM : Hid (sumK ct (its.take m) + ct its[m] ≤ sumK ct its) := by
          show _ ≤ _
          have h1 := sumK_take ct its (m + 1)
          rw [take_snoc hlt, sumK_snoc] at h1
          exact h1
        obtain ⟨W8, hW8⟩ : ∃ W : World, W = wr.alloc (.cells #[.string kg, .string kk, .string kt, .slice kaa kal kac, .slice kia kil kic] 25) := ⟨_, rfl⟩
        have B8 : Below wr.heap.size wr W8 := by rw [hW8]; exact below_one _ _
        have HX8 : Hid (W8.heap[wr.heap.size]? = some (.cells #[.string kg, .string kk, .string kt, .slice kaa kal kac, .slice kia kil kic] 25 (0, 0))) := by show _ = _; rw [hW8]; exact heap_alloc_new _ _
        have HC : Hid (Calls Try.prog 22 #[.pointer (some ⟨P, 0, none⟩), .agg #[.string kg, .string kk, .string kt, .slice kaa kal kac, .slice kia kil kic], .int .i64 x] W8 fun e w' => GrowPost W8 w' B P e root (x + 1 + (sumK ct (its.take m) : Int)) (footN v7 (ns ++ [(⟨x, par, g, k, t, ats, []⟩ : Nd)] ++ blK ct (fun y u => bl x y u) (x + 1) (its.take m)).length a7 b7) ((ns ++ [(⟨x, par, g, k, t, ats, []⟩ : Nd)] ++ blK ct (fun y u => bl x y u) (x + 1) (its.take m)) ++ bl x (x + 1 + (sumK ct (its.take m) : Int)) its[m]) (x + 1 + (sumK ct (its.take m) : Int) + (ct its[m] : Int))) := by
          refine IH.out its[m] _ _ _ x W8 v7 a7 b7 HLK.out.1 HLK.out.2.1 (nxt hbt B8) (Nat.le_trans HBT.out.2.2 (Nat.le_trans hd7.kept.size B8.size)) ((B8.block _ (lt_of_block hp7)).trans hp7) (hd7.own.below B8) ?_ ?_ ?_ ⟨by omega, by omega⟩
          · have h1 := HCT.out.1
            have h2 := HSM.out
            rw [List.length_append, List.length_append, blK_len fun y u => bl_len n u x y]
            simp
            omega
          · have := HCT.out.2.1; omega
          · have h1 := HCT.out.2.2
            have h2 := HSM.out
            omega
        have H8 : Hid (Dg w W8 B P F (ns ++ [(⟨x, par, g, k, t, ats, []⟩ : Nd)] ++ blK ct (fun y u => bl x y u) (x + 1) (its.take m)) v7 a7 b7 ∧ OwnZ W8 w.heap.size (.slice zr (idK ct (x + 1) (its.take m)).length zc) (idK ct (x + 1) (its.take m)) ∧ W8.heap[w.heap.size]? = some (.cells #[.string g, .string k, .string t, .slice aa ats.length ac, .slice (some ⟨kb0, ko, none⟩) its.length ic] 25 (0, 0))) := ⟨hd7.below B8, hz7.below B8, (B8.block _ (lt_of_block HX.out)).trans HX.out⟩
        have HQ7 : Hid (∀ q, (Value.slice zr (idK ct (x + 1) (its.take m)).length zc).ownBlock = some q → ¬ footN v7 (ns ++ [(⟨x, par, g, k, t, ats, []⟩ : Nd)] ++ blK ct (fun y u => bl x y u) (x + 1) (its.take m)).length a7 b7 q ∧ q ≠ P ∧ q ≠ w.heap.size) := hq7
        have hxs : -9223372036854775808 ≤ x + 1 + (sumK ct (its.take m) : Int) ∧ x + 1 + (sumK ct (its.take m) : Int) ≤ 2147483647 := by
          have h1 := HCT.out.2
          have h2 := HSM.out
          omega
        have HIL : Hid ((idK ct (x + 1) (its.take m)).length = m) := by show _ = _; rw [idK_length]; simp; omega
        have HTS : Hid (its.take (m + 1) = its.take m ++ [its[m]]) := take_snoc hlt
        clear HD HX hp7 hd7 hz7 hq7 hbt hlt0
        generalize hids : idK ct (x + 1) (its.take m) = ids at *
        have HIDS : Hid (ids = idK ct (x + 1) (its.take m)) := hids.symm
        clear hids
        generalize hx8 : x + 1 + (sumK ct (its.take m) : Int) = x8 at *
        have HX8I : Hid (x8 = x + 1 + (sumK ct (its.take m) : Int)) := hx8.symm
        clear hx8
        obtain ⟨z0, z1, z2, z3, z4⟩ := (five HX8.out).1
        go_wp2_with fail
        rw [← hW8]
        clear hW8 y0 y1 y2 y3 y4
        refine HC.out.mono ?_
        rintro e w9 ⟨rfl, v9, a9, b9, hp9, hd9⟩
        have D9 : Hid (Dg w w9 B P F ((ns ++ [(⟨x, par, g, k, t, ats, []⟩ : Nd)] ++ blK ct (fun y u => bl x y u) (x + 1) (its.take m)) ++ bl x x8 its[m]) v9 a9 b9) := H8.out.1.trans hd9
        have P9 : Hid (w9.heap[P]? = _) := hp9
        have X9 : Hid (w9.heap[w.heap.size]? = some (.cells #[.string g, .string k, .string t, .slice aa ats.length ac, .slice (some ⟨kb0, ko, none⟩) its.length ic] 25 (0, 0))) := (hd9.kept.block _ (lt_of_block H8.out.2.2) (by
          rintro (e | e)
          · exact HXP.out e
          · exact H8.out.1.own.notTy H8.out.2.2 (by decide) (by decide) (by decide) e rfl)).trans H8.out.2.2
        have Z9 : Hid (OwnZ w9 w.heap.size (.slice zr ids.length zc) ids) := H8.out.2.1.same fun q hq => hd9.kept.block q (H8.out.2.1.lt q hq).2 (by
          rintro (e | e)
          · exact (HQ7.out q hq).2.1 e
          · exact (HQ7.out q hq).1 e)
        have Q9 : Hid (∀ q, (Value.slice zr ids.length zc).ownBlock = some q → ¬ footN v9 ((ns ++ [(⟨x, par, g, k, t, ats, []⟩ : Nd)] ++ blK ct (fun y u => bl x y u) (x + 1) (its.take m)) ++ bl x x8 its[m]).length a9 b9 q ∧ q ≠ P ∧ q ≠ w.heap.size) := fun q hq => ⟨fun hf => by
          rcases hd9.foot q hf with h | h
          · exact (HQ7.out q hq).1 h
          · have := (H8.out.2.1.lt q hq).2
            omega, (HQ7.out q hq).2⟩
        clear hp9 hd9 HC H8 HQ7 HX8
        have ZX : Hid (OwnZ (w9.alloc (.cells #[.int .i64 x8] 3)) w.heap.size (.slice zr ids.length zc) ids) := Z9.out.below (below_one _ _)
        have HNW : Hid ((w9.alloc (.cells #[.int .i64 x8] 3)).cell? ((⟨w9.heap.size, 0, none⟩ : Addr).add 0) = some (.int .i64 x8)) := newCells w9 _ _ 0 _ rfl
        have HSZ : Hid ((ids.length + 1) * 8 ≤ 140737488355328 ∧ w.heap.size ≤ (w9.alloc (.cells #[.int .i64 x8] 3)).heap.size) := ⟨by have := HIL.out; omega, Nat.le_trans D9.out.kept.size (below_one w9 _).size⟩
        go_wp2_with (refine wpList_pushI _ rfl (.tmp 56) (.tmp 61) rfl w.heap.size _ ids rfl ZX.out x8 ⟨w9.heap.size, 0, none⟩ 1 rfl HNW.out HSZ.out.1 HSZ.out.2 ?_; intro v' w' q1 q2 q3; have HE : Hid (OwnZ w' w.heap.size v' (ids ++ [x8]) ∧ (w9.alloc (.cells #[.int .i64 x8] 3)).grownBy w' (Value.slice zr ids.length zc).ownBlock ∧ (v'.ownBlock = (Value.slice zr ids.length zc).ownBlock ∨ ∀ g, v'.ownBlock = some g → (w9.alloc (.cells #[.int .i64 x8] 3)).heap.size ≤ g)) := ⟨q1, q2, q3⟩; clear q1 q2 q3)
        go_roundw
        case rel =>
          obtain ⟨q1, q2, q3⟩ := HE.out
          have d10 := D9.out.below (below_one w9 (.cells #[.int .i64 x8] 3))
          have hap : ∀ q, footN v9 ((ns ++ [(⟨x, par, g, k, t, ats, []⟩ : Nd)] ++ blK ct (fun y u => bl x y u) (x + 1) (its.take m)) ++ bl x x8 its[m]).length a9 b9 q → some q ≠ (Value.slice zr ids.length zc).ownBlock := fun q hq e => (Q9.out q e.symm).1 hq
          have d11 : Dg w w' B P F ((ns ++ [(⟨x, par, g, k, t, ats, []⟩ : Nd)] ++ blK ct (fun y u => bl x y u) (x + 1) (its.take m)) ++ bl x x8 its[m]) v9 a9 b9 := by
            refine d10.on ⟨q2.os, q2.tape, q2.output, q2.size, fun q hq hn => q2.block q hq (fun e => hn ?_)⟩ fun q hq => q2.block q (d10.own.foot hq).2 (hap q hq)
            exact Or.inr (Or.inr (ZX.out.lt q e.symm).1)
          have hX' : w'.heap[w.heap.size]? = some (.cells #[.string g, .string k, .string t, .slice aa ats.length ac, .slice (some ⟨kb0, ko, none⟩) its.length ic] 25 (0, 0)) := by
            have h1 : (w9.alloc (.cells #[.int .i64 x8] 3)).heap[w.heap.size]? = _ := ((below_one w9 _).block _ (lt_of_block X9.out)).trans X9.out
            exact (q2.block _ (lt_of_block h1) (fun e => (Q9.out _ e.symm).2.2 rfl)).trans h1
          have hP1 : (w9.alloc (.cells #[.int .i64 x8] 3)).heap[P]? = _ := ((below_one w9 _).block _ (lt_of_block P9.out)).trans P9.out
          have hP' : w'.heap[P]? = _ := (q2.block _ (lt_of_block hP1) (fun e => (Q9.out _ e.symm).2.1 rfl)).trans hP1
          refine ⟨m + 1, by omega, by go_num, hX', v9, a9, b9, ?_, ?_, ?_, ?_⟩
          · have e : x8 + (ct its[m] : Int) = x + 1 + ((sumK ct (its.take (m + 1)) : Nat) : Int) := by
              rw [HTS.out, sumK_snoc, HX8I.out]
              omega
            rw [← e]
            exact hP'
          · rw [HTS.out, blK_snoc, ← List.append_assoc]
            rw [HX8I.out] at d11
            exact d11
          · rw [HTS.out, idK_snoc, ← HIDS.out, ← HX8I.out]
            exact q1
          · intro q hq
            rw [HTS.out, blK_snoc, ← List.append_assoc, ← HX8I.out]
            rcases q3 with h | h
            · rw [h] at hq
              exact Q9.out q hq
            · have h1 := h q hq
              refine ⟨fun hf => ?_, ?_, ?_⟩
              · have := (d10.own.foot hf).2
                omega
              · have := lt_of_block hP1
                omega
              · have : w.heap.size < (w9.alloc (.cells #[.int .i64 x8] 3)).heap.size := lt_of_block (((below_one w9 _).block _ (lt_of_block X9.out)).trans X9.out)
                omega
        case measure => simp [intOf]; omega
      · obtain ⟨v7, a7, b7, hp7, hd7, hz7, hq7⟩ := HD.out
        have et : its.take m = its := List.take_of_length_le (by omega)
        rw [et] at hp7 hd7 hz7 hq7
        obtain ⟨vr, vc, hv⟩ := hd7.own.shape
        subst hv
        have hat : (ns ++ [(⟨x, par, g, k, t, ats, []⟩ : Nd)] ++ blK ct (fun y u => bl x y u) (x + 1) its)[ns.length]? = some ⟨x, par, g, k, t, ats, []⟩ := by simp
        obtain ⟨gr, hgr, -, -, -, -, -, -, r6⟩ := rowN_cells hd7.own.row hat
        subst hgr
        obtain ⟨cur, hcur⟩ := hd7.own.rowBlock
        have rf := (cell_of hcur (ns.length * 7 + 6)).2
        have HND : Hid (Dg w wr B P F (ns ++ [(⟨x, par, g, k, t, ats, []⟩ : Nd)] ++ blK ct (fun y u => bl x y u) (x + 1) its) (.slice (some ⟨gr, 0, none⟩) (ns ++ [(⟨x, par, g, k, t, ats, []⟩ : Nd)] ++ blK ct (fun y u => bl x y u) (x + 1) its).length vc) a7 b7) := hd7
        have HNP : Hid (wr.heap[P]? = _) := hp7
        obtain ⟨zr, zc, hzv⟩ := hz7.shape
        subst hzv
        have HNZ : Hid (OwnZ wr w.heap.size (.slice zr (idK ct (x + 1) its).length zc) (idK ct (x + 1) its) ∧ ∀ q, (Value.slice zr (idK ct (x + 1) its).length zc).ownBlock = some q → ¬ footN (.slice (some ⟨gr, 0, none⟩) (ns ++ [(⟨x, par, g, k, t, ats, []⟩ : Nd)] ++ blK ct (fun y u => bl x y u) (x + 1) its).length vc) (ns ++ [(⟨x, par, g, k, t, ats, []⟩ : Nd)] ++ blK ct (fun y u => bl x y u) (x + 1) its).length a7 b7 q) := ⟨hz7, fun q hq => (hq7 q hq).1⟩
        have HAT : Hid ((ns ++ [(⟨x, par, g, k, t, ats, []⟩ : Nd)] ++ blK ct (fun y u => bl x y u) (x + 1) its)[ns.length]? = some ⟨x, par, g, k, t, ats, []⟩) := hat
        obtain ⟨s0, -, -⟩ := three hp7
        have hLL : ns.length < (ns ++ [(⟨x, par, g, k, t, ats, []⟩ : Nd)] ++ blK ct (fun y u => bl x y u) (x + 1) its).length := (List.getElem?_eq_some_iff.1 hat).1
        have hLM : (ns ++ [(⟨x, par, g, k, t, ats, []⟩ : Nd)] ++ blK ct (fun y u => bl x y u) (x + 1) its).length ≤ 1024 := by
          rw [List.length_append, List.length_append, blK_len fun y u => bl_len n u x y]
          have := HCT.out.1
          simp
          omega
        clear HD HX hp7 hd7 hz7 hq7 hat hcur
        obtain ⟨LL, hLLe⟩ : ∃ z, z = (ns ++ [(⟨x, par, g, k, t, ats, []⟩ : Nd)] ++ blK ct (fun y u => bl x y u) (x + 1) its).length := ⟨_, rfl⟩
        have HLE : Hid (LL = (ns ++ [(⟨x, par, g, k, t, ats, []⟩ : Nd)] ++ blK ct (fun y u => bl x y u) (x + 1) its).length) := hLLe
        rw [← hLLe] at s0 hLL hLM
        obtain ⟨idl, hidl⟩ : ∃ z, z = (idK ct (x + 1) its).length := ⟨_, rfl⟩
        have HIDL : Hid (idl = (idK ct (x + 1) its).length) := hidl
        rw [← hidl]
        clear hLLe hidl
        go_wp2_with fail
        go_ret
        have h1 := HND.out
        have h2 : OwnZ wr B (.slice zr (idK ct (x + 1) its).length zc) (idK ct (x + 1) its) := HNZ.out.1.less HBT.out.2.2
        have h3 := h1.own.setKids (ks := idK ct (x + 1) its) HAT.out h2 ⟨idK_i64 (by have := HCT.out.2; omega) (by have := HCT.out.2; omega), by rw [idK_length]; omega⟩ (fun j b hj hb hk => HNZ.out.2 b hb (Or.inr (Or.inr ⟨j, hj, hk⟩)))
        rw [set_node] at h3
        have hne : ∀ cs, wr.heap[P]? = some (.cells cs 29 (0, 0)) → P ≠ gr := fun cs hcs e => h1.own.notState hcs (Or.inl rfl) e.symm
        have hgP : P ≠ gr := hne _ HNP.out
        rw [HIDL.out]
        refine ⟨rfl, _, _, _, (heap_set_other _ hgP).trans (HNP.out.trans ?_), ⟨h3, fun b hb => ?_, ?_⟩⟩
        · have e : x + 1 + ((sumK ct its : Nat) : Int) = x + ((1 + sumK ct its : Nat) : Int) := by omega
          rw [e]
        · rcases hb with hb | ⟨i, hi, hb⟩ | ⟨i, hi, hb⟩
          · exact h1.foot b (Or.inl hb)
          · exact h1.foot b (Or.inr (Or.inl ⟨i, by simpa using hi, hb⟩))
          · by_cases e : i = ns.length
            · subst e
              rw [upd_same] at hb
              exact Or.inr (HNZ.out.1.lt b hb).1
            · rw [upd_other _ _ e] at hb
              exact h1.foot b (Or.inr (Or.inr ⟨i, by simpa using hi, hb⟩))
        · rcases h1.foot gr (Or.inl rfl) with h | h
          · exact h1.kept.setCell _ (Or.inr h)
          · exact ⟨h1.kept.os, h1.kept.tape, h1.kept.output, Nat.le_trans h1.kept.size (by simp [World.setCell]), fun b hb hn => (heap_set_other _ (by omega)).trans (h1.kept.block b hb hn)⟩

theorem grow_any (wt : World) (B P : Nat) (root : Int) (hBt : wt.heap.size ≤ B) (hBP : B ≤ P) : ∀ n, Grows wt B P root n
  | 0 => fun v => v.elim
  | n + 1 => fun (g, k, t, ats, its) _ ns x par w sv ab kb ⟨aa, ac, ia, ic, hy, hf, _, _, hA, hI⟩ hall hwt hB hP hO hlen hx0 hx1 hpar => by
    subst hy
    exact grow_node wt B P root hBt hBP n (grow_any wt B P root hBt hBP n) g k t ats its aa ac ia ic ns x par w sv ab kb hf hA hI hall hwt hB hP hO hlen hx0 hx1 hpar
end Go.Proofs.Ytomhfndjnbhliaa

/-
  The program's Build.
-/
namespace Go.Proofs.Ytomhfndjnbhliaa
open Go.ChangeShapes Go.WideShapes Go.ChangeAt Go.RowKit Go.Deep
open Do

namespace Do
/-- What Build answers. -/
def buildD {n : Nat} (v : T n) : Int × Ds := if (sizeT v).1 = 0 then (0, ⟨bl 0 1 v, 1, 1 + (ct v : Int)⟩) else ((sizeT v).1, noD)

theorem AllT.mono {p q : ByteArray → ByteArray → ByteArray → List Atr → Nat → Prop} (h : ∀ g k t l il, p g k t l il → q g k t l il) : ∀ (n : Nat) (v : T n), AllT p v → AllT q v
  | 0, v, _ => v.elim
  | n + 1, (_, _, _, _, _), ⟨h1, h2⟩ => ⟨h _ _ _ _ _ h1, fun u hu => AllT.mono h n u (h2 u hu)⟩

theorem size_few {n : Nat} {v : T n} (h : (sizeT v).1 = 0) : AllT few32 v := by
  cases n with
  | zero => exact v.elim
  | succ n =>
    obtain ⟨g, k, s, ats, its⟩ := v
    rw [sizeT_node] at h
    by_cases h0 : g.size = 0
    · rw [if_pos h0] at h; simp at h
    rw [if_neg h0] at h
    by_cases hw : (wk (n := n + 1) (g, k, s, ats, its) 1 0).1 = 0
    · obtain ⟨h1, -⟩ := wk_all (n + 1) (g, k, s, ats, its) 1 0 (by omega) (by omega) hw
      refine AllT.mono (fun g k t l il h => ?_) _ _ h1
      show il ≤ 32
      by_cases h0 : g.size = 0
      · rw [nodeB_text' h0] at h
        simp at h
        omega
      · rw [nodeB_elem' h0] at h
        simp at h
        omega
    · rw [if_neg hw] at h
      exact absurd h hw
end Do

set_option maxRecDepth 100000 in
set_option maxHeartbeats 3200000 in
theorem build_any (n : Nat) (v : T n) (y : Value) (w : World) (hv : LayT w n y v) :
    Calls Try.prog 8 #[y] w fun e w' => DsPost w w' e (buildD v) := by
  obtain ⟨g, k, t, aa, al, ac, ia, il, ic, hy⟩ := lay_shape n hv
  subst hy
  have HV : Hid (LayT w n (mkT g k t aa al ac ia il ic) v) := hv
  have HCK : Hid (∀ W, Below w.heap.size w W → Calls Try.prog 20 #[mkT g k t aa al ac ia il ic] W fun e w' => e = .returned (.int .i64 (sizeT v).1) ∧ Below W.heap.size W w') := fun W hb => check_any n v _ W (LayT.below n hv hb)
  clear hv
  obtain ⟨K3, hK3⟩ : ∃ W : World, W = (w.alloc (.cells #[.string g, .string k, .string t, .slice aa al ac, .slice ia il ic] 25)).alloc (.cells #[.slice none 0 0, .int .i64 0, .int .i64 0] 29) := ⟨_, rfl⟩
  have B3 : Hid (Below w.heap.size w K3) := by show Below _ _ _; rw [hK3]; exact two_new _ _ _
  have Y0 : Hid (K3.heap[w.heap.size]? = some (.cells #[.string g, .string k, .string t, .slice aa al ac, .slice ia il ic] 25 (0, 0))) := by show _ = _; rw [hK3]; exact ((below_one _ _).block _ (by simp)).trans (heap_alloc_new _ _)
  have Y1 : Hid (K3.heap[w.heap.size + 1]? = some (.cells #[.slice none 0 0, .int .i64 0, .int .i64 0] 29 (0, 0))) := by show _ = _; rw [hK3]; exact heap_new2 _ _ _
  obtain ⟨y0, y1, y2, y3, y4⟩ := (five Y0.out).1
  by_cases he : (sizeT v).1 = 0
  · have HR : Hid (buildD v = (0, ⟨bl 0 1 v, 1, 1 + (ct v : Int)⟩)) := if_pos he
    have HFW : Hid (AllT few32 v) := size_few he
    have HCT : Hid (ct v ≤ 256) := (built_ok he).2.1
    rw [he] at HCK
    clear he
    go_enter Try.func8, Try.ntmps8
    go_wp2_with fail
    rw [← hK3]
    clear hK3
    refine (HCK.out K3 B3.out).mono ?_
    rintro e w4 ⟨rfl, hb4⟩
    have B4 : Hid (Below w.heap.size w w4) := nxt B3.out hb4
    have Y04 : Hid (w4.heap[w.heap.size]? = _) := (hb4.block _ (lt_of_block Y0.out)).trans Y0.out
    have Y14 : Hid (w4.heap[w.heap.size + 1]? = _) := (hb4.block _ (lt_of_block Y1.out)).trans Y1.out
    clear y0 y1 y2 y3 y4 hb4 HCK
    go_wp2_with fail
    refine (new_any w4).mono ?_
    rintro e w5 ⟨rfl, hb5⟩
    have B5 : Hid (Below w.heap.size w w5) := nxt B4.out hb5
    have Y05 : Hid (w5.heap[w.heap.size]? = _) := (hb5.block _ (lt_of_block Y04.out)).trans Y04.out
    have Y15 : Hid (w5.heap[w.heap.size + 1]? = _) := (hb5.block _ (lt_of_block Y14.out)).trans Y14.out
    have B6 : Hid (Below w.heap.size w (w5.alloc (.cells #[.slice none 0 0, .int .i64 0, .int .i64 1] 29))) := nxt B5.out (below_one _ _)
    have P6 : Hid ((w5.alloc (.cells #[.slice none 0 0, .int .i64 0, .int .i64 1] 29)).heap[w5.heap.size]? = some (.cells #[.slice none 0 0, .int .i64 0, .int .i64 1] 29 (0, 0))) := heap_alloc_new _ _
    have Y06 : Hid ((w5.alloc (.cells #[.slice none 0 0, .int .i64 0, .int .i64 1] 29)).heap[w.heap.size]? = some (.cells #[.string g, .string k, .string t, .slice aa al ac, .slice ia il ic] 25 (0, 0))) := ((below_one _ _).block _ (lt_of_block Y05.out)).trans Y05.out
    have Y16 : Hid ((w5.alloc (.cells #[.slice none 0 0, .int .i64 0, .int .i64 1] 29)).heap[w.heap.size + 1]? = some (.cells #[.slice none 0 0, .int .i64 0, .int .i64 0] 29 (0, 0))) := ((below_one _ _).block _ (lt_of_block Y15.out)).trans Y15.out
    have HLT : Hid (w.heap.size + 1 < w5.heap.size) := lt_of_block Y15.out
    obtain ⟨y0, y1, y2, y3, y4⟩ := (five Y06.out).1
    clear hb5 Y05 Y15 Y04 Y14
    go_wp2_with fail
    clear y0 y1 y2 y3 y4
    generalize w5.alloc (.cells #[.slice none 0 0, .int .i64 0, .int .i64 1] 29) = w6 at *
    generalize w5.heap.size = P at *
    have HGR := grow_any w (w.heap.size + 2) P 0 (by omega) (by have := HLT.out; omega) n v _ [] 1 0 w6 (.slice none 0 0) (fun _ => .slice none 0 0) (fun _ => .slice none 0 0) HV.out HFW.out B6.out (by have := lt_of_block P6.out; have := HLT.out; omega) P6.out (OwnN.nil _ _) (by have := HCT.out; simp; omega) (by decide) (by have := HCT.out; omega) (by decide)
    refine HGR.mono ?_
    clear HGR
    rintro e w7 ⟨rfl, v7, a7, b7, hp7, hd7⟩
    obtain ⟨va, vc, hvs⟩ := hd7.own.shape
    subst hvs
    have HD7 : Hid (Dg w6 w7 (w.heap.size + 2) P _ ([] ++ bl 0 1 v) (.slice va ([] ++ bl 0 1 v).length vc) a7 b7) := hd7
    have hU : Below (w.heap.size + 2) w6 w7 := hd7.under (by have := HLT.out; omega) (fun b hb => by
      rcases hb with hb | ⟨i, hi, -⟩ | ⟨i, hi, -⟩
      · cases hb
      · simp at hi
      · simp at hi) (by have := lt_of_block P6.out; have := HLT.out; omega)
    have B7 : Hid (Below w.heap.size w w7) := B6.out.trans (hU.mono (by omega))
    have R7 : Hid (w7.heap[w.heap.size + 1]? = some (.cells #[.slice none 0 0, .int .i64 0, .int .i64 0] 29 (0, 0))) := (hU.block _ (by omega)).trans Y16.out
    have P7 : Hid (w7.heap[P]? = some (.cells #[.slice va ([] ++ bl 0 1 v).length vc, .int .i64 0, .int .i64 (1 + (ct v : Int))] 29 (0, 0))) := hp7
    clear hd7 hp7 hU P6 Y06 Y16 B6
    obtain ⟨p0, p1, p2⟩ := three P7.out
    have pf1 := (cell_of P7.out 1).2
    have HPR : Hid (P ≠ w.heap.size + 1) := by have := HLT.out; exact fun e => by omega
    have P8 : Hid ((w7.setCell ⟨P, 1, none⟩ (.int .i64 1)).heap[P]? = some (.cells #[.slice va ([] ++ bl 0 1 v).length vc, .int .i64 1, .int .i64 (1 + (ct v : Int))] 29 (0, 0))) := by show _ = _; rw [set_one_cell P7.out]; simp
    have R8 : Hid ((w7.setCell ⟨P, 1, none⟩ (.int .i64 1)).heap[w.heap.size + 1]? = _) := (heap_set_other _ (fun e => HPR.out e.symm)).trans R7.out
    have K8 : Hid (∀ b, b ≠ P → (w7.setCell ⟨P, 1, none⟩ (.int .i64 1)).heap[b]? = w7.heap[b]?) := fun b hb => heap_set_other _ hb
    have B8 : Hid (Below w.heap.size w (w7.setCell ⟨P, 1, none⟩ (.int .i64 1))) := ⟨B7.out.os, B7.out.tape, B7.out.output, by have := B7.out.size; simpa [World.setCell] using this, fun j hj => (heap_set_other _ (by have := HLT.out; omega)).trans (B7.out.block j hj)⟩
    generalize hL : ([] ++ bl 0 1 v).length = L at *
    have HL : Hid (([] ++ bl 0 1 v).length = L) := hL
    have hL2 : L ≤ 256 := by
      rw [← hL, List.nil_append, bl_len]
      exact HCT.out
    clear hL
    obtain ⟨z0, z0f⟩ := cell_of R8.out 0
    obtain ⟨z1, z1f⟩ := cell_of R8.out 1
    obtain ⟨z2, z2f⟩ := cell_of R8.out 2
    simp at z0 z1 z2
    obtain ⟨t0, t1, t2⟩ := three P8.out
    generalize hW8 : w7.setCell ⟨P, 1, none⟩ (.int .i64 1) = w8 at *
    go_wp2_with fail
    clear hW8 p0 p1 p2 pf1
    obtain ⟨f1, f2, f3⟩ := state_fin (v := .slice va L vc) (r := .int .i64 1) (n := .int .i64 (1 + (ct v : Int))) R8.out
    have f3 := f3 w.heap.size w (by omega) B8.out
    clear z0 z0f z1 z1f z2 z2f t0 t1 t2
    generalize ((w8.setCell ⟨w.heap.size + 1, 0, none⟩ (.slice va L vc)).setCell ⟨w.heap.size + 1, 1, none⟩ (.int .i64 1)).setCell ⟨w.heap.size + 1, 2, none⟩ (.int .i64 (1 + (ct v : Int))) = W9 at *
    obtain ⟨c0, c1, c2⟩ := three f1
    refine bodyPost_ret (v := .tuple #[.agg #[.slice va L vc, .int .i64 1, .int .i64 (1 + (ct v : Int))], .int .i64 0]) (by simp [results, Try.results8, go_sem, c0, c1, c2]) rfl ?_
    rw [HR.out]
    have hown := HD7.out.own
    refine ⟨_, rfl, ⟨_, a7, b7, rfl, ?_⟩, f3⟩
    have h9 := (hown.same (w' := W9) fun b hb => (f2 b (fun e => hown.notState R7.out hb e)).trans (K8.out b (hown.notState P7.out hb)))
    rw [List.nil_append] at h9
    exact h9.less (by omega)
  · have HR : Hid (buildD v = ((sizeT v).1, noD)) := if_neg he
    have ge : ((sizeT v).1 != 0) = true := by simpa using he
    clear he
    generalize (sizeT v).1 = er at *
    go_enter Try.func8, Try.ntmps8
    go_wp2_with fail
    rw [← hK3]
    clear hK3
    refine (HCK.out K3 B3.out).mono ?_
    rintro e w4 ⟨rfl, hb4⟩
    have B4 : Hid (Below w.heap.size w w4) := nxt B3.out hb4
    have R4 : Hid (w4.heap[w.heap.size + 1]? = _) := (hb4.block _ (lt_of_block Y1.out)).trans Y1.out
    obtain ⟨z0, z0f⟩ := cell_of R4.out 0
    obtain ⟨z1, z1f⟩ := cell_of R4.out 1
    obtain ⟨z2, z2f⟩ := cell_of R4.out 2
    simp at z0 z1 z2
    clear hb4 y0 y1 y2 y3 y4
    go_wp2_with fail
    obtain ⟨f1, f2, f3⟩ := state_fin (v := .slice none 0 0) (r := .int .i64 0) (n := .int .i64 0) R4.out
    have f3 := f3 w.heap.size w (by omega) B4.out
    generalize ((w4.setCell ⟨w.heap.size + 1, 0, none⟩ (.slice none 0 0)).setCell ⟨w.heap.size + 1, 1, none⟩ (.int .i64 0)).setCell ⟨w.heap.size + 1, 2, none⟩ (.int .i64 0) = W8 at *
    obtain ⟨c0, c1, c2⟩ := three f1
    refine bodyPost_ret (v := .tuple #[.agg #[.slice none 0 0, .int .i64 0, .int .i64 0], .int .i64 er]) (by simp [results, Try.results8, go_sem, c0, c1, c2]) rfl ?_
    rw [HR.out]
    exact ⟨_, rfl, noD_own _ _, f3⟩
end Go.Proofs.Ytomhfndjnbhliaa
