/-
  The program's without and copyOfList, over numbers, attributes and nodes.
-/
import Derived.Test.YtcdnakcojanaeabGreatDoOwn
namespace Go.Proofs.YtcdnakcojanaeabGreat
open Go.ChangeShapes Go.WideShapes Go.ChangeAt Go.RowKit Go.Deep
open Do

/-- append of one attribute. -/
theorem wpList_pushA (w : World) {ops : Array Oper} {rest : List Oper} {o : Oper} {a : Act} {Q : Exit → Act → World → Prop} (hgd : o.guard = none) (s x : Operand)
    (hop : o.op = .call { callee := .builtin .append, args := #[s, x], argTypes := #[38, 38] })
    (B : Nat) (v : Value) (l : List Atr) (hs : a.eval s = v) (hL : OwnA w B v l) (k : Atr) (ad : Addr) (c : Nat) (hx : a.eval x = .slice (some ad) 1 c) (h0 : w.cell? (ad.add 0) = some (.string k.1)) (h1 : w.cell? (ad.add 1) = some (.string k.2)) (hlen : (l.length + 1) * 32 ≤ 140737488355328) (hB : B ≤ w.heap.size)
    (h : ∀ v' w', OwnA w' B v' (l ++ [k]) → w.grownBy w' v.ownBlock → (v'.ownBlock = v.ownBlock ∨ ∀ g, v'.ownBlock = some g → w.heap.size ≤ g) → wpList Tryz.prog ops Q rest (a.put o.dst v') w') : wpList Tryz.prog ops Q (o :: rest) a w := by
  obtain ⟨i0, hi, hz0, hz1, hz2⟩ := info_parts Tryz.infoAtr
  refine wpList_append_apart w hgd s x 38 hop B 43 i0 _ 2 32 Tryz.underlying38 hi hz0 hz1 hz2 rfl (by decide) v l.length _ hs hL (some ad) 1 c [.string k.1, .string k.2] hx (by simp) rfl ?_ ?_ (by unfold maxLen; omega) hlen hB ?_
  · intro ad' e j u hj
    cases e
    match j, hj with
    | 0, hj => cases hj; exact h0
    | 1, hj => cases hj; exact h1
    | j + 2, hj => simp at hj
  · intro y hy
    simp at hy
    rcases hy with rfl | rfl <;> rfl
  · intro v' w' q1 q2 q3
    refine h v' w' ?_ q2 q3
    unfold OwnA
    have e : cellsA (l ++ [k]) = cellsA l ++ [.string k.1, .string k.2] := by
      induction l with
      | nil => rfl
      | cons y r ih => simp only [List.cons_append, cellsA]; rw [cellsA_app]
    rw [List.length_append, e]
    exact q1
where
  cellsA_app : ∀ {r : List Atr} {k : Atr}, cellsA (r ++ [k]) = cellsA r ++ [.string k.1, .string k.2]
    | [], _ => rfl
    | y :: r, k => by simp only [List.cons_append, cellsA, cellsA_app (r := r)]

/-- append of one node. -/
theorem wpList_pushN (w : World) {ops : Array Oper} {rest : List Oper} {o : Oper} {a : Act} {Q : Exit → Act → World → Prop} (hgd : o.guard = none) (s x : Operand)
    (hop : o.op = .call { callee := .builtin .append, args := #[s, x], argTypes := #[28, 28] })
    (B : Nat) (v : Value) (m : Nat) (cs : List Value) (hs : a.eval s = v) (hL : w.ownsRow B 41 7 v m cs) (n : Nd) (aa : Option Addr) (al ac : Nat) (ka : Option Addr) (kl kc : Nat) (ad : Addr) (c : Nat) (hx : a.eval x = .slice (some ad) 1 c)
    (hnews : ∀ j u, (cellsN n (.slice aa al ac) (.slice ka kl kc))[j]? = some u → w.cell? (ad.add j) = some u) (hlen : (m + 1) * 112 ≤ 140737488355328) (hB : B ≤ w.heap.size)
    (h : ∀ v' w', w'.ownsRow B 41 7 v' (m + 1) (cs ++ cellsN n (.slice aa al ac) (.slice ka kl kc)) → w.grownBy w' v.ownBlock → (v'.ownBlock = v.ownBlock ∨ ∀ g, v'.ownBlock = some g → w.heap.size ≤ g) → wpList Tryz.prog ops Q rest (a.put o.dst v') w') : wpList Tryz.prog ops Q (o :: rest) a w := by
  obtain ⟨i0, hi, hz0, hz1, hz2⟩ := info_parts Tryz.infoNode
  refine wpList_append_apart w hgd s x 28 hop B 41 i0 _ 7 112 Tryz.underlying28 hi hz0 hz1 hz2 rfl (by decide) v m _ hs hL (some ad) 1 c (cellsN n (.slice aa al ac) (.slice ka kl kc)) hx (by simp) rfl ?_ ?_ (by unfold maxLen; omega) hlen hB h
  · intro ad' e j u hj
    cases e
    exact hnews j u hj
  · intro y hy
    simp [cellsN] at hy
    rcases hy with rfl | rfl | rfl | rfl | rfl | rfl | rfl <;> rfl

theorem grownB {w w' : World} {B : Nat} {e : TypeId} {sz : Nat} {v : Value} {n : Nat} {xs : List Value} (h : w.ownsRow B e sz v n xs) (hg : w.grownBy w' v.ownBlock) (hB : B ≤ w.heap.size) : Below B w w' :=
  ⟨hg.os, hg.tape, hg.output, hg.size, fun j hj => hg.block j (by omega) (fun e => by have := (h.lt j e.symm).1; omega)⟩

theorem filter_take {α : Type} {p : α → Bool} {l : List α} {i : Nat} (h : i < l.length) : (l.take (i + 1)).filter p = (l.take i).filter p ++ (if p l[i] = true then [l[i]] else []) := by
  rw [List.take_succ_eq_append_getElem h, List.filter_append]
  congr 1
  cases hp : p l[i] <;> simp [hp]

theorem no74_any (y : Int) (w : World) : Calls Tryz.prog 66 #[.int .i64 y] w fun e w' => e = .returned (.bool false) ∧ w' = w := by
  go_enter Tryz.func66, Tryz.ntmps66
  go_wp2_with fail
  go_ret
  exact ⟨rfl, rfl⟩

/-- Never. -/
def never (_ : Int) : Bool := false

set_option maxRecDepth 100000 in
set_option maxHeartbeats 1600000 in
theorem withoutN_any (ks : List Int) (a : Option Addr) (c : Nat) (w : World) (hl : NmZ w a c ks) :
    Calls Tryz.prog 65 #[.slice a ks.length c, .func (.func 66) #[] #[]] w fun e w' => ∃ v, e = .returned v ∧ OwnZ w' w.heap.size v (ks.filter fun y => !(never y)) ∧ Below w.heap.size w w' := by
  have HL : Hid (NmZ w a c ks) := hl
  have HF : Hid (∀ W, Below w.heap.size w W → ∀ y : Int, Calls Tryz.prog 66 (#[.int .i64 y] ++ #[]) W fun e w' => e = .returned (.bool (never y)) ∧ w' = W) := by
    intro W _ y
    exact no74_any y W
  have hln : ks.length * 8 ≤ 140737488351232 := hl.2.2.2.1
  clear hl
  go_enter Tryz.func65, Tryz.ntmps65
  go_wp2_with fail
  go_loopw [5, 10] (fun v5 v10 wr => ∃ i : Nat, i ≤ ks.length ∧ v10 = .int .i64 (i : Int) ∧ Hid (OwnZ wr w.heap.size v5 ((ks.take i).filter fun y => !(never y))) ∧ Hid (Below w.heap.size w wr)) (fun _ v10 _ => ks.length - (intOf v10).toNat)
  case atStart => exact ⟨0, Nat.zero_le _, rfl, OwnZ.nil _ _, Below.refl _ _⟩
  case round =>
    obtain ⟨i, hi, rfl, HO, HB⟩ := hrel
    by_cases hlt : i < ks.length
    · obtain ⟨b, o, ha, r1, _⟩ := HL.out.1.below HB.out i ks[i] (List.getElem?_eq_getElem hlt)
      subst ha
      have HT : Hid ((ks.take (i + 1)).filter (fun y => !(never y)) = (ks.take i).filter (fun y => !(never y)) ++ (if (!(never ks[i])) = true then [ks[i]] else [])) := filter_take hlt
      have HLE : Hid (((ks.take i).filter fun y => !(never y)).length ≤ i) := by show _ ≤ _; have h1 := List.length_filter_le (fun y => !(never y)) (ks.take i); simp only [List.length_take] at h1; omega
      obtain ⟨oa, oc, hov⟩ := HO.out.shape
      subst hov
      have CF : Hid (Calls Tryz.prog 66 (#[.int .i64 ks[i]] ++ #[]) wr _) := HF.out wr HB.out ks[i]
      generalize (ks.take i).filter (fun y => !(never y)) = fl at *
      cases hp : (never ks[i]) with
      | true =>
        rw [hp] at HT CF
        simp only [Bool.not_true, Bool.false_eq_true, if_false, List.append_nil] at HT
        clear hp
        generalize ks[i] = x at *
        go_wp2_with (go_at_call 66; refine CF.out.mono ?_; rintro e w9 ⟨rfl, h9⟩; subst w9)
        go_roundw
        case rel => exact ⟨i + 1, by omega, by go_num, by rw [HT.out]; exact HO.out, HB.out⟩
        case measure => simp [intOf]; omega
      | false =>
        rw [hp] at HT CF
        simp only [Bool.not_false, if_true] at HT
        clear hp
        generalize ks[i] = x at *
        have HOX : Hid (OwnZ (wr.alloc (.cells #[.int .i64 x] 3)) w.heap.size (.slice oa fl.length oc) fl) := HO.out.below (below_one _ _)
        have HBX : Hid (Below w.heap.size w (wr.alloc (.cells #[.int .i64 x] 3))) := nxt HB.out (below_one _ _)
        have HNW : Hid ((wr.alloc (.cells #[.int .i64 x] 3)).cell? ((⟨wr.heap.size, 0, none⟩ : Addr).add 0) = some (.int .i64 x)) := newCells wr _ _ 0 _ rfl
        have HSZ : Hid ((fl.length + 1) * 8 ≤ 140737488355328 ∧ w.heap.size ≤ (wr.alloc (.cells #[.int .i64 x] 3)).heap.size) := ⟨by have := HLE.out; omega, HBX.out.size⟩
        clear HO HB
        go_wp2_with (first
          | (go_at_call 66; refine CF.out.mono ?_; rintro e w9 ⟨rfl, h9⟩; subst w9)
          | (refine wpList_pushI _ rfl (.tmp 18) (.tmp 20) rfl w.heap.size _ fl rfl HOX.out x ⟨wr.heap.size, 0, none⟩ 1 rfl HNW.out HSZ.out.1 HSZ.out.2 ?_; intro v' w' q1 q2 q3; have OO : Hid (OwnZ w' w.heap.size v' (fl ++ [x])) := q1; have BB : Hid (Below w.heap.size w w') := HBX.out.trans (grownB HOX.out q2 HSZ.out.2); clear q1 q2 q3))
        go_roundw
        case rel => exact ⟨i + 1, by omega, by go_num, by rw [HT.out]; exact OO.out, BB.out⟩
        case measure => simp [intOf]; omega
    · have HE : Hid (ks.take i = ks) := List.take_of_length_le (by omega)
      rw [HE.out] at HO
      go_wp2_with fail
      go_ret
      exact ⟨_, rfl, HO.out, HB.out⟩

set_option maxRecDepth 100000 in
theorem copyZ_any (ks : List Int) (a : Option Addr) (c : Nat) (w : World) (hl : NmZ w a c ks) :
    Calls Tryz.prog 38 #[.slice a ks.length c] w fun e w' => ∃ v, e = .returned v ∧ OwnZ w' w.heap.size v ks ∧ Below w.heap.size w w' := by
  have HC : Hid (Calls Tryz.prog 65 #[.slice a ks.length c, .func (.func 66) #[] #[]] w _) := withoutN_any ks a c w hl
  have HE : Hid (ks.filter (fun y => !never y) = ks) := by show _ = _; rw [List.filter_eq_self]; intro x _; rfl
  rw [HE.out] at HC
  clear hl
  go_enter Tryz.func38, Tryz.ntmps38
  go_wp2_with fail
  refine HC.out.mono ?_
  rintro e w1 ⟨v, rfl, h1, h2⟩
  have H1 : Hid (OwnZ w1 w.heap.size v ks) := h1
  have H2 : Hid (Below w.heap.size w w1) := h2
  clear h1 h2 HC
  go_wp2_with fail
  go_ret
  exact ⟨_, rfl, H1.out, H2.out⟩

theorem isID_any (y x : Int) (P : Nat) (w : World) (hP : w.cell? ⟨P, 0, none⟩ = some (.int .i64 x)) : Calls Tryz.prog 82 #[.int .i64 y, .pointer (some ⟨P, 0, none⟩)] w fun e w' => e = .returned (.bool (y == x)) ∧ w' = w := by
  go_enter Tryz.func82, Tryz.ntmps82
  go_wp2_with fail
  go_ret
  exact ⟨rfl, rfl⟩

set_option maxRecDepth 100000 in
set_option maxHeartbeats 1600000 in
theorem withoutX_any (ks : List Int) (a : Option Addr) (c : Nat) (w : World) (hl : NmZ w a c ks) (x0 : Int) (P : Nat) (hP : w.cell? ⟨P, 0, none⟩ = some (.int .i64 x0)) :
    Calls Tryz.prog 65 #[.slice a ks.length c, .func (.func 82) #[] #[.pointer (some ⟨P, 0, none⟩)]] w fun e w' => ∃ v, e = .returned v ∧ OwnZ w' w.heap.size v (ks.filter fun y => !(y == x0)) ∧ Below w.heap.size w w' := by
  have HL : Hid (NmZ w a c ks) := hl
  have HF : Hid (∀ W, Below w.heap.size w W → ∀ y : Int, Calls Tryz.prog 82 (#[.int .i64 y] ++ #[.pointer (some ⟨P, 0, none⟩)]) W fun e w' => e = .returned (.bool (y == x0)) ∧ w' = W) := by
    intro W hb y
    exact isID_any y x0 P W (keepc hb _ _ hP)
  have hln : ks.length * 8 ≤ 140737488351232 := hl.2.2.2.1
  clear hl hP
  go_enter Tryz.func65, Tryz.ntmps65
  go_wp2_with fail
  go_loopw [5, 10] (fun v5 v10 wr => ∃ i : Nat, i ≤ ks.length ∧ v10 = .int .i64 (i : Int) ∧ Hid (OwnZ wr w.heap.size v5 ((ks.take i).filter fun y => !(y == x0))) ∧ Hid (Below w.heap.size w wr)) (fun _ v10 _ => ks.length - (intOf v10).toNat)
  case atStart => exact ⟨0, Nat.zero_le _, rfl, OwnZ.nil _ _, Below.refl _ _⟩
  case round =>
    obtain ⟨i, hi, rfl, HO, HB⟩ := hrel
    by_cases hlt : i < ks.length
    · obtain ⟨b, o, ha, r1, _⟩ := HL.out.1.below HB.out i ks[i] (List.getElem?_eq_getElem hlt)
      subst ha
      have HT : Hid ((ks.take (i + 1)).filter (fun y => !(y == x0)) = (ks.take i).filter (fun y => !(y == x0)) ++ (if (!(ks[i] == x0)) = true then [ks[i]] else [])) := filter_take hlt
      have HLE : Hid (((ks.take i).filter fun y => !(y == x0)).length ≤ i) := by show _ ≤ _; have h1 := List.length_filter_le (fun y => !(y == x0)) (ks.take i); simp only [List.length_take] at h1; omega
      obtain ⟨oa, oc, hov⟩ := HO.out.shape
      subst hov
      have CF : Hid (Calls Tryz.prog 82 (#[.int .i64 ks[i]] ++ #[.pointer (some ⟨P, 0, none⟩)]) wr _) := HF.out wr HB.out ks[i]
      generalize (ks.take i).filter (fun y => !(y == x0)) = fl at *
      cases hp : (ks[i] == x0) with
      | true =>
        rw [hp] at HT CF
        simp only [Bool.not_true, Bool.false_eq_true, if_false, List.append_nil] at HT
        clear hp
        generalize ks[i] = x at *
        go_wp2_with (go_at_call 82; refine CF.out.mono ?_; rintro e w9 ⟨rfl, h9⟩; subst w9)
        go_roundw
        case rel => exact ⟨i + 1, by omega, by go_num, by rw [HT.out]; exact HO.out, HB.out⟩
        case measure => simp [intOf]; omega
      | false =>
        rw [hp] at HT CF
        simp only [Bool.not_false, if_true] at HT
        clear hp
        generalize ks[i] = x at *
        have HOX : Hid (OwnZ (wr.alloc (.cells #[.int .i64 x] 3)) w.heap.size (.slice oa fl.length oc) fl) := HO.out.below (below_one _ _)
        have HBX : Hid (Below w.heap.size w (wr.alloc (.cells #[.int .i64 x] 3))) := nxt HB.out (below_one _ _)
        have HNW : Hid ((wr.alloc (.cells #[.int .i64 x] 3)).cell? ((⟨wr.heap.size, 0, none⟩ : Addr).add 0) = some (.int .i64 x)) := newCells wr _ _ 0 _ rfl
        have HSZ : Hid ((fl.length + 1) * 8 ≤ 140737488355328 ∧ w.heap.size ≤ (wr.alloc (.cells #[.int .i64 x] 3)).heap.size) := ⟨by have := HLE.out; omega, HBX.out.size⟩
        clear HO HB
        go_wp2_with (first
          | (go_at_call 82; refine CF.out.mono ?_; rintro e w9 ⟨rfl, h9⟩; subst w9)
          | (refine wpList_pushI _ rfl (.tmp 18) (.tmp 20) rfl w.heap.size _ fl rfl HOX.out x ⟨wr.heap.size, 0, none⟩ 1 rfl HNW.out HSZ.out.1 HSZ.out.2 ?_; intro v' w' q1 q2 q3; have OO : Hid (OwnZ w' w.heap.size v' (fl ++ [x])) := q1; have BB : Hid (Below w.heap.size w w') := HBX.out.trans (grownB HOX.out q2 HSZ.out.2); clear q1 q2 q3))
        go_roundw
        case rel => exact ⟨i + 1, by omega, by go_num, by rw [HT.out]; exact OO.out, BB.out⟩
        case measure => simp [intOf]; omega
    · have HE : Hid (ks.take i = ks) := List.take_of_length_le (by omega)
      rw [HE.out] at HO
      go_wp2_with fail
      go_ret
      exact ⟨_, rfl, HO.out, HB.out⟩

/-- A list without a number. -/
def lessZ (ks : List Int) (x : Int) : List Int := ks.filter fun y => !(y == x)

set_option maxRecDepth 100000 in
theorem withoutID_any (ks : List Int) (x : Int) (a : Option Addr) (c : Nat) (w : World) (hl : NmZ w a c ks) :
    Calls Tryz.prog 67 #[.slice a ks.length c, .int .i64 x] w fun e w' => ∃ v, e = .returned v ∧ OwnZ w' w.heap.size v (lessZ ks x) ∧ Below w.heap.size w w' := by
  have HC : Hid (Calls Tryz.prog 65 #[.slice a ks.length c, .func (.func 82) #[] #[.pointer (some ⟨w.heap.size, 0, none⟩)]] (w.alloc (.cells #[.int .i64 x] 3)) _) := withoutX_any ks a c (w.alloc (.cells #[.int .i64 x] 3)) (hl.below (below_one _ _)) x w.heap.size (by have := newCells w #[.int .i64 x] 3 0 _ rfl; rwa [add_plain] at this)
  clear hl
  go_enter Tryz.func67, Tryz.ntmps67
  go_wp2_with fail
  refine HC.out.mono ?_
  rintro e w1 ⟨v, rfl, h1, h2⟩
  have H1 : Hid (OwnZ w1 w.heap.size v (lessZ ks x)) := OwnZ.less h1 (by simp)
  have H2 : Hid (Below w.heap.size w w1) := nxt (below_one _ _) h2
  clear h1 h2 HC
  go_wp2_with fail
  go_ret
  exact ⟨_, rfl, H1.out, H2.out⟩
end Go.Proofs.YtcdnakcojanaeabGreat
