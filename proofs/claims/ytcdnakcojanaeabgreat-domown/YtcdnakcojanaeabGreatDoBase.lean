/-
  Nodes in the memory; the library's Search and place, find.
-/
import Derived.Test.YtcdnakcojanaeabGreatDoMath
namespace Go.Proofs.YtcdnakcojanaeabGreat
open Go.ChangeShapes Go.WideShapes Go.ChangeAt Go.RowKit Go.Deep
open Do

/-- A node, by its fields. -/
abbrev mkN (i p : Int) (g k t : ByteArray) (aa : Option Addr) (al ac : Nat) (ka : Option Addr) (kl kc : Nat) : Value :=
  .agg #[.int .i64 i, .int .i64 p, .string g, .string k, .string t, .slice aa al ac, .slice ka kl kc]

/-- What a node's fields keep to, beside their rows. -/
structure FitN (n : Nd) (aa : Option Addr) (ac : Nat) (ka : Option Addr) (kc : Nat) : Prop where
  id : -9223372036854775808 ≤ n.id ∧ n.id ≤ 9223372036854775807
  par : -9223372036854775808 ≤ n.par ∧ n.par ≤ 9223372036854775807
  node : NodeOk n.tag n.key n.txt n.ats.length 0
  ats : n.ats.length ≤ ac ∧ ac ≤ 9223372036854775807 ∧ n.ats.length * 32 ≤ 140737488351232 ∧ (aa = none → n.ats.length = 0 ∧ ac = 0)
  kids : n.kids.length ≤ kc ∧ kc ≤ 9223372036854775807 ∧ n.kids.length * 8 ≤ 140737488351232 ∧ (ka = none → kc = 0) ∧ (∀ ad, ka = some ad → 0 < kc → ad = ⟨ad.block, ad.off, none⟩)

/-- A value reads as a node. -/
def NdIs (w : World) (x : Value) (n : Nd) : Prop := ∃ aa ac ka kc, x = mkN n.id n.par n.tag n.key n.txt aa n.ats.length ac ka n.kids.length kc ∧ FitN n aa ac ka kc ∧ LayA w aa n.ats ∧ LayZ w ka n.kids

theorem NdIs.below {w w' : World} {x : Value} {n : Nd} (h : NdIs w x n) (hb : Below w.heap.size w w') : NdIs w' x n := by
  obtain ⟨aa, ac, ka, kc, h1, h2, h3, h4⟩ := h
  exact ⟨aa, ac, ka, kc, h1, h2, h3.below hb, h4.below hb⟩

/-- The seven cells of a node from b, o on. -/
structure NdAt (w : World) (b o : Nat) (n : Nd) (aa : Option Addr) (ac : Nat) (ka : Option Addr) (kc : Nat) : Prop where
  c0 : w.cell? ⟨b, o, none⟩ = some (.int .i64 n.id)
  c1 : w.cell? ⟨b, o + 1, none⟩ = some (.int .i64 n.par)
  c2 : w.cell? ⟨b, o + 2, none⟩ = some (.string n.tag)
  c3 : w.cell? ⟨b, o + 3, none⟩ = some (.string n.key)
  c4 : w.cell? ⟨b, o + 4, none⟩ = some (.string n.txt)
  c5 : w.cell? ⟨b, o + 5, none⟩ = some (.slice aa n.ats.length ac)
  c6 : w.cell? ⟨b, o + 6, none⟩ = some (.slice ka n.kids.length kc)
  fit : FitN n aa ac ka kc
  ats : LayA w aa n.ats
  kids : LayZ w ka n.kids

theorem NdAt.below {w w' : World} {b o : Nat} {n : Nd} {aa : Option Addr} {ac : Nat} {ka : Option Addr} {kc : Nat} (h : NdAt w b o n aa ac ka kc) (hb : Below w.heap.size w w') : NdAt w' b o n aa ac ka kc :=
  ⟨keepc hb _ _ h.c0, keepc hb _ _ h.c1, keepc hb _ _ h.c2, keepc hb _ _ h.c3, keepc hb _ _ h.c4, keepc hb _ _ h.c5, keepc hb _ _ h.c6, h.fit, h.ats.below hb, h.kids.below hb⟩

theorem NdAt.is {w : World} {b o : Nat} {n : Nd} {aa : Option Addr} {ac : Nat} {ka : Option Addr} {kc : Nat} (h : NdAt w b o n aa ac ka kc) : NdIs w (mkN n.id n.par n.tag n.key n.txt aa n.ats.length ac ka n.kids.length kc) n := ⟨aa, ac, ka, kc, rfl, h.fit, h.ats, h.kids⟩

/-- Nodes that lie somewhere. -/
def LayN (w : World) (a : Option Addr) (ns : List Nd) : Prop := ∀ i n, ns[i]? = some n → ∃ b o aa ac ka kc, a = some ⟨b, o, none⟩ ∧ NdAt w b (o + i * 7) n aa ac ka kc

theorem LayN.below {w w' : World} {a : Option Addr} {ns : List Nd} (h : LayN w a ns) (hb : Below w.heap.size w w') : LayN w' a ns := by
  intro i n hi
  obtain ⟨b, o, aa, ac, ka, kc, h1, h2⟩ := h i n hi
  exact ⟨b, o, aa, ac, ka, kc, h1, h2.below hb⟩

set_option maxRecDepth 100000 in
theorem notAhead_any (ns : List Nd) (x : Int) (a : Option Addr) (c P1 P2 i : Nat) (w : World) (hL : LayN w a ns) (h1 : w.cell? ⟨P1, 0, none⟩ = some (.slice a ns.length c)) (h2 : w.cell? ⟨P2, 0, none⟩ = some (.int .i64 x)) (hi : i < ns.length) :
    Calls Tryz.prog 80 #[.int .i64 (i : Int), .pointer (some ⟨P1, 0, none⟩), .pointer (some ⟨P2, 0, none⟩)] w fun e w' => e = .returned (.bool (decide (x ≤ ns[i].id))) ∧ Below w.heap.size w w' := by
  obtain ⟨b, o, aa, ac, ka, kc, ha, hN⟩ := hL i ns[i] (List.getElem?_eq_getElem hi)
  subst ha
  have r0 := hN.c0
  clear hL hN
  generalize ns[i].id = y at *
  go_enter Tryz.func80, Tryz.ntmps80
  go_wp2_with fail
  go_quiet (fail)
  go_wp2_with fail
  go_ret
  exact ⟨rfl, Below_drewN _ _ _⟩

set_option maxRecDepth 100000 in
set_option maxHeartbeats 1600000 in
theorem search_any (ns : List Nd) (x : Int) (a : Option Addr) (c P1 P2 : Nat) (w : World) (hL : LayN w a ns) (hu : Up ns) (hn : ns.length ≤ 1024) (h1 : w.cell? ⟨P1, 0, none⟩ = some (.slice a ns.length c)) (h2 : w.cell? ⟨P2, 0, none⟩ = some (.int .i64 x)) :
    Calls Tryz.prog 81 #[.int .i64 (ns.length : Int), .func (.func 80) #[] #[.pointer (some ⟨P1, 0, none⟩), .pointer (some ⟨P2, 0, none⟩)]] w fun e w' => e = .returned (.int .i64 (lw ns x : Int)) ∧ Below w.heap.size w w' := by
  have HF : Hid (Up ns) := hu
  have HC : Hid (∀ (W : World) (i : Nat) (hi : i < ns.length), Below w.heap.size w W → Calls Tryz.prog 80 #[.int .i64 (i : Int), .pointer (some ⟨P1, 0, none⟩), .pointer (some ⟨P2, 0, none⟩)] W fun e w' => e = .returned (.bool (decide (x ≤ ns[i].id))) ∧ Below W.heap.size W w') :=
    fun W i hi hb => notAhead_any ns x a c P1 P2 i W (hL.below hb) (keepc hb _ _ h1) (keepc hb _ _ h2) hi
  clear hL hu h1 h2
  go_enter Tryz.func81, Tryz.ntmps81
  go_wp2_with fail
  go_loopw [5, 6] (fun v5 v6 wr => ∃ i j : Nat, i ≤ j ∧ j ≤ ns.length ∧ v5 = .int .i64 i ∧ v6 = .int .i64 j ∧ Hid (∀ (m : Nat) (n : Nd), m < i → ns[m]? = some n → n.id < x) ∧ Hid (∀ n : Nd, ns[j]? = some n → x ≤ n.id) ∧ Hid (Below w.heap.size w wr)) (fun v5 v6 _ => (intOf v6).toNat - (intOf v5).toNat)
  case atStart => exact ⟨0, ns.length, Nat.zero_le _, Nat.le_refl _, rfl, rfl, (show ∀ (m : Nat) (n : Nd), m < 0 → ns[m]? = some n → n.id < x from fun m n h => by omega), (show ∀ n : Nd, ns[ns.length]? = some n → x ≤ n.id from fun n hn' => by simp at hn'), Below.refl _ _⟩
  case round =>
    obtain ⟨i, j, hij, hj, rfl, rfl, H1, H2, HB⟩ := hrel
    by_cases hlt : i < j
    · have hh : (i + j) / 2 < ns.length := by omega
      have HG : Hid (ns[(i + j) / 2]? = some ns[(i + j) / 2]) := List.getElem?_eq_getElem hh
      have HCC : Hid (Calls Tryz.prog 80 #[.int .i64 (((i + j) / 2 : Nat) : Int), .pointer (some ⟨P1, 0, none⟩), .pointer (some ⟨P2, 0, none⟩)] wr fun e w' => e = .returned (.bool (decide (x ≤ ns[(i + j) / 2].id))) ∧ Below wr.heap.size wr w') := HC.out wr _ hh HB.out
      by_cases hl : x ≤ ns[(i + j) / 2].id
      · have HL : Hid (x ≤ ns[(i + j) / 2].id) := hl
        rw [decide_eq_true hl] at HCC
        clear hl
        go_wp2_with (go_at_call 80; refine HCC.out.mono ?_; rintro e w' ⟨rfl, hb1⟩; have HB1 : Hid (Below wr.heap.size wr w') := hb1; clear hb1)
        go_roundw
        case rel =>
          refine ⟨i, (i + j) / 2, by omega, by omega, rfl, by go_num, H1.out, ?_, nxt HB.out HB1.out⟩
          intro s hs'
          rw [HG.out] at hs'
          cases hs'
          exact HL.out
        case measure => simp [intOf]; omega
      · have HL : Hid (ns[(i + j) / 2].id < x) := by show _ < _; omega
        rw [decide_eq_false hl] at HCC
        clear hl
        go_wp2_with (go_at_call 80; refine HCC.out.mono ?_; rintro e w' ⟨rfl, hb1⟩; have HB1 : Hid (Below wr.heap.size wr w') := hb1; clear hb1)
        go_roundw
        case rel =>
          refine ⟨(i + j) / 2 + 1, j, by omega, hj, by go_num, rfl, ?_, H2.out, nxt HB.out HB1.out⟩
          intro m s hm hs'
          by_cases e : m = (i + j) / 2
          · subst e
            rw [HG.out] at hs'
            cases hs'
            exact HL.out
          · have h1 := HF.out m ((i + j) / 2) s _ (by omega) hs' HG.out
            have h2 := HL.out
            omega
        case measure => simp [intOf]; omega
    · have e : i = j := by omega
      subst e
      have HS : Hid (lw ns x = i) := lw_eq ns x i hj (fun m s hm hs' => H1.out m s hm hs') (fun s hs' => H2.out s hs')
      clear H1 H2
      go_wp2_with fail
      go_ret
      exact ⟨by rw [HS.out]; rfl, HB.out⟩

theorem two_new (w : World) (o1 o2 : Obj) : Below w.heap.size w ((w.alloc o1).alloc o2) := nxt (below_one _ _) (below_one _ _)

set_option maxRecDepth 100000 in
set_option maxHeartbeats 1600000 in
theorem place_any (ns : List Nd) (x : Int) (a : Option Addr) (c : Nat) (w : World) (hL : LayN w a ns) (hu : Up ns) (hn : ns.length ≤ 1024) :
    Calls Tryz.prog 59 #[.slice a ns.length c, .int .i64 x] w fun e w' => e = .returned (.int .i64 (plI ns x)) ∧ Below w.heap.size w w' := by
  have HL : Hid (LayN w a ns) := hL
  have HP : Hid (pl ns x = _) := pl_lw hu x
  have k2 := two_new w (.cells #[.slice a ns.length c] 28) (.cells #[.int .i64 x] 3)
  have c1 : ((w.alloc (.cells #[.slice a ns.length c] 28)).alloc (.cells #[.int .i64 x] 3)).cell? ⟨w.heap.size, 0, none⟩ = some (.slice a ns.length c) := by
    have := keepc (below_one (w.alloc (.cells #[.slice a ns.length c] 28)) (.cells #[.int .i64 x] 3)) ⟨w.heap.size, 0, none⟩ (.slice a ns.length c) (by have := newCells w #[.slice a ns.length c] 28 0 _ rfl; rwa [add_plain] at this)
    exact this
  have c2 : ((w.alloc (.cells #[.slice a ns.length c] 28)).alloc (.cells #[.int .i64 x] 3)).cell? ⟨w.heap.size + 1, 0, none⟩ = some (.int .i64 x) := by
    have := newCells (w.alloc (.cells #[.slice a ns.length c] 28)) #[.int .i64 x] 3 0 _ rfl
    rw [add_plain, World.size_alloc] at this
    exact this
  have HC : Hid (Calls Tryz.prog 81 #[.int .i64 (ns.length : Int), .func (.func 80) #[] #[.pointer (some ⟨w.heap.size, 0, none⟩), .pointer (some ⟨w.heap.size + 1, 0, none⟩)]] ((w.alloc (.cells #[.slice a ns.length c] 28)).alloc (.cells #[.int .i64 x] 3)) _) := search_any ns x a c w.heap.size (w.heap.size + 1) _ (hL.below k2) hu hn c1 c2
  have K2 : Hid (Below w.heap.size w ((w.alloc (.cells #[.slice a ns.length c] 28)).alloc (.cells #[.int .i64 x] 3))) := k2
  have X1 : Hid (((w.alloc (.cells #[.slice a ns.length c] 28)).alloc (.cells #[.int .i64 x] 3)).cell? ⟨w.heap.size, 0, none⟩ = some (.slice a ns.length c) ∧ ((w.alloc (.cells #[.slice a ns.length c] 28)).alloc (.cells #[.int .i64 x] 3)).cell? ⟨w.heap.size + 1, 0, none⟩ = some (.int .i64 x)) := ⟨c1, c2⟩
  clear hL k2 c1 c2 hu
  go_enter Tryz.func59, Tryz.ntmps59
  go_wp2_with fail
  refine HC.out.mono ?_
  rintro e w1 ⟨rfl, hb1⟩
  have B1 : Hid (Below w.heap.size w w1) := nxt K2.out hb1
  have y1 := keepc hb1 _ _ X1.out.1
  have y2 := keepc hb1 _ _ X1.out.2
  have hlw := lw_le ns x
  clear hb1 K2 X1 HC
  by_cases hlt : lw ns x < ns.length
  · obtain ⟨b, o, aa, ac, ka, kc, ha, hN⟩ := HL.out.below B1.out (lw ns x) ns[lw ns x] (List.getElem?_eq_getElem hlt)
    subst ha
    have r0 := hN.c0
    have hp := HP.out
    rw [List.getElem?_eq_getElem hlt] at hp
    simp only at hp
    by_cases he : ns[lw ns x].id = x
    · rw [if_pos he] at hp
      have HR : Hid (plI ns x = (lw ns x : Int)) := by show _ = _; unfold plI; rw [hp]
      rw [he] at r0
      clear hp hN he HP
      generalize lw ns x = l at *
      have g1 : (l == ns.length) = false := by simp; omega
      have g2 : ((l : Int) == (ns.length : Int)) = false := by simp; omega
      go_wp2_with fail
      go_big_quiet (fail)
      go_wp2_with fail
      go_ret
      exact ⟨by rw [HR.out]; rfl, nxt B1.out (Below_drewN _ _ _)⟩
    · rw [if_neg he] at hp
      have HR : Hid (plI ns x = -1) := by show _ = _; unfold plI; rw [hp]
      generalize hy : ns[lw ns x].id = y at *
      clear hp hN HP hy
      generalize lw ns x = l at *
      have g1 : (l == ns.length) = false := by simp; omega
      have g2 : ((l : Int) == (ns.length : Int)) = false := by simp; omega
      have g3 : (y != x) = true := by simpa using he
      have g4 : (y == x) = false := by simpa using he
      go_wp2_with fail
      go_big_quiet (fail)
      go_wp2_with fail
      go_ret
      exact ⟨by rw [HR.out]; rfl, nxt B1.out (Below_drewN _ _ _)⟩
  · have hll : lw ns x = ns.length := by omega
    have hp := HP.out
    rw [List.getElem?_eq_none (by omega)] at hp
    simp only at hp
    have HR : Hid (plI ns x = -1) := by show _ = _; unfold plI; rw [hp]
    rw [hll]
    clear hp HP hll hlw hlt
    go_wp2_with fail
    go_big_quiet (fail)
    go_wp2_with fail
    go_ret
    exact ⟨by rw [HR.out]; rfl, nxt B1.out (Below_drewN _ _ _)⟩

/-- What find answers: a pointer to the node, or none. -/
def FindIs (a : Option Addr) (ns : List Nd) (x : Int) (v : Value) : Prop := match pl ns x with
  | none => v = .pointer none
  | some p => ∃ b o, a = some ⟨b, o, none⟩ ∧ v = .pointer (some ⟨b, o + p * 7, none⟩)

set_option maxRecDepth 100000 in
theorem find_any (ns : List Nd) (x : Int) (a : Option Addr) (c : Nat) (w : World) (hL : LayN w a ns) (hu : Up ns) (hn : ns.length ≤ 1024) :
    Calls Tryz.prog 54 #[.slice a ns.length c, .int .i64 x] w fun e w' => ∃ v, e = .returned v ∧ FindIs a ns x v ∧ Below w.heap.size w w' := by
  have HC : Hid (Calls Tryz.prog 59 #[.slice a ns.length c, .int .i64 x] w _) := place_any ns x a c w hL hu hn
  cases hp : pl ns x with
  | none =>
    have HR : Hid (plI ns x = -1) := by show _ = _; unfold plI; rw [hp]
    have HF : Hid (FindIs a ns x (.pointer none)) := by show FindIs _ _ _ _; unfold FindIs; rw [hp]
    rw [HR.out] at HC
    clear hL hu hp
    go_enter Tryz.func54, Tryz.ntmps54
    go_wp2_with (go_at_call 59; refine HC.out.mono ?_; rintro e w1 ⟨rfl, hb1⟩; have B1 : Hid (Below w.heap.size w w1) := hb1; clear hb1)
    go_ret
    exact ⟨_, rfl, HF.out, B1.out⟩
  | some p =>
    have HR : Hid (plI ns x = (p : Int)) := by show _ = _; unfold plI; rw [hp]
    obtain ⟨n, hn1, hn2⟩ := pl_some hp
    have hpl : p < ns.length := (List.getElem?_eq_some_iff.1 hn1).1
    obtain ⟨b, o, aa, ac, ka, kc, ha, hN⟩ := hL p n hn1
    subst ha
    have HF : Hid (FindIs (some ⟨b, o, none⟩) ns x (.pointer (some ⟨b, o + p * 7, none⟩))) := by show FindIs _ _ _ _; unfold FindIs; rw [hp]; exact ⟨b, o, rfl, rfl⟩
    rw [HR.out] at HC
    clear hL hu hp hN hn1 hn2
    go_enter Tryz.func54, Tryz.ntmps54
    go_wp2_with (go_at_call 59; refine HC.out.mono ?_; rintro e w1 ⟨rfl, hb1⟩; have B1 : Hid (Below w.heap.size w w1) := hb1; clear hb1)
    go_ret
    exact ⟨_, rfl, HF.out, B1.out⟩
end Go.Proofs.YtcdnakcojanaeabGreat
