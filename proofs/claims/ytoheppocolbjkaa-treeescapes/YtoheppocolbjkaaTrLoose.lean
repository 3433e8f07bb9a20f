/-
  The statement's own loose and named. (Printed by wip/make/mktrloose.py.)
-/
import Derived.Test.YtoheppocolbjkaaTrFrame
namespace Go.Proofs.Ytoheppocolbjkaa
open Go.ChangeShapes Go.WideShapes Go.ChangeAt Go.RowKit

def textT : {n : Nat} → T n → ByteArray
  | 0, v => v.elim
  | _ + 1, v => v.2.2.1

/-- Is the kid at i an empty text, a text behind a text, or loose itself? -/
def lsB {n : Nat} (its : List (T n)) (i : Nat) (u : T n) : Bool := decide ((tagT u).size = 0) && (decide ((textT u).size = 0) || (decide (0 < i) && (match its[i - 1]? with
  | none => false
  | some p => decide ((tagT p).size = 0))))
def lsAt {n : Nat} (f : T n → Bool) (its : List (T n)) (i : Nat) : Bool := match its[i]? with
  | none => false
  | some u => lsB its i u || f u
def looseT : {n : Nat} → T n → Bool
  | 0, v => v.elim
  | _ + 1, v => (List.range v.2.2.2.2.length).any (lsAt looseT v.2.2.2.2)
theorem looseT_node {n : Nat} (g k t : ByteArray) (ats : List Atr) (its : List (T n)) : looseT (n := n + 1) (g, k, t, ats, its) = (List.range its.length).any (lsAt looseT its) := rfl
theorem lsAt_at {n : Nat} {f : T n → Bool} {its : List (T n)} {m : Nat} (h : m < its.length) : lsAt f its m = (lsB its m its[m] || f its[m]) := by
  unfold lsAt
  rw [List.getElem?_eq_getElem h]

/-- A kid: its five cells, its text too. -/
theorem LayI.att {w : World} {n : Nat} {ia : Option Addr} {its : List (T n)} (h : LayI w (LayT w n) ia its) (m : Nat) (hm : m < its.length) :
    ∃ b o g k t aa al ac ja jl jc, ia = some ⟨b, o, none⟩ ∧ w.cell? ⟨b, o + m * 5, none⟩ = some (.string g) ∧ w.cell? ⟨b, o + m * 5 + 1, none⟩ = some (.string k) ∧ w.cell? ⟨b, o + m * 5 + 2, none⟩ = some (.string t) ∧
      w.cell? ⟨b, o + m * 5 + 3, none⟩ = some (.slice aa al ac) ∧ w.cell? ⟨b, o + m * 5 + 4, none⟩ = some (.slice ja jl jc) ∧ LayT w n (mkT g k t aa al ac ja jl jc) its[m] ∧ tagT its[m] = g ∧ textT its[m] = t := by
  obtain ⟨b, o, c0, c1, c2, c3, c4, e, q0, q1, q2, q3, q4, hl⟩ := h m its[m] (by simp [hm])
  generalize its[m] = v at hl ⊢
  cases n with
  | zero => exact v.elim
  | succ n =>
    obtain ⟨g, k, t, ats, js⟩ := v
    have hl0 := hl
    obtain ⟨aa, ac, ja, jc, hx, hfit, _⟩ := hl
    simp only [Value.agg.injEq, Array.mk.injEq, List.cons.injEq, and_true] at hx
    obtain ⟨rfl, rfl, rfl, rfl, rfl⟩ := hx
    exact ⟨b, o, g, k, t, _, _, _, _, _, _, e, q0, q1, q2, q3, q4, hl0, rfl, rfl⟩

set_option maxRecDepth 100000 in
set_option maxHeartbeats 6400000 in
theorem loose_any (n : Nat) : ∀ (v : T n) (x : Value) (w : World), LayT w n x v →
    Calls Try.prog 23 #[x] w fun e w' => e = .returned (.bool (looseT v)) ∧ Below w.heap.size w w' := by
  induction n with
  | zero => intro v; exact v.elim
  | succ n ih =>
    rintro ⟨g, k, t, ats, its⟩ x w ⟨aa, ac, ia, ic, rfl, hfit, -, -, -, hI⟩
    have hi1 := hfit.2.2.2.2.2.2.2.2
    have HI : Hid (LayI w (LayT w n) ia its) := hI
    have IH : Hid (∀ (v : T n) (x : Value) (w : World), LayT w n x v → Calls Try.prog 23 #[x] w fun e w' => e = .returned (.bool (looseT v)) ∧ Below w.heap.size w w') := ih
    have HR : Hid (looseT (n := n + 1) (g, k, t, ats, its) = _) := looseT_node g k t ats its
    generalize looseT (n := n + 1) (g, k, t, ats, its) = R at *
    clear ih hI hfit
    go_enter Try.func23, Try.ntmps23
    go_wp2_with fail
    go_loopw [3] (fun i wr => ∃ m : Nat, m ≤ its.length ∧ i = .int .i64 m ∧ Hid (∀ j, j < m → lsAt looseT its j = false) ∧ Hid (wr.heap[w.heap.size]? = some (.cells #[.string g, .string k, .string t, .slice aa ats.length ac, .slice ia its.length ic] 25 (0, 0))) ∧ Hid (Below w.heap.size w wr)) (fun i _ => its.length - (intOf i).toNat)
    case atStart => exact ⟨0, Nat.zero_le _, rfl, (fun j h => by omega), heap_alloc_new _ _, below_one _ _⟩
    case round =>
      obtain ⟨m, hm, rfl, HZ, HX, HB⟩ := hrel
      obtain ⟨-, -, -, -, y4, -⟩ := box_cells HX.out
      by_cases hlt : m < its.length
      · obtain ⟨b, o, g1, k1, t1, aa1, al1, ac1, ja, jl, jc, rfl, q0, q1, q2, q3, q4, hl, hg1, ht1⟩ := (LayI.below HI.out HB.out).att m hlt
        have hm1 : (m : Int) < (its.length : Int) := by omega
        have HA : Hid (lsAt looseT its m = _) := lsAt_at hlt
        have HLS : Hid (lsB its m its[m] = (decide (g1.size = 0) && (decide (t1.size = 0) || (decide (0 < m) && (match its[m - 1]? with
          | none => false
          | some p => decide ((tagT p).size = 0)))))) := by show _ = _; unfold lsB; rw [hg1, ht1]
        have B3 : Hid (Below w.heap.size w (wr.alloc (.cells #[.string g1, .string k1, .string t1, .slice aa1 al1 ac1, .slice ja jl jc] 25))) := nxt HB.out (below_one _ _)
        have X3 : Hid ((wr.alloc (.cells #[.string g1, .string k1, .string t1, .slice aa1 al1 ac1, .slice ja jl jc] 25)).heap[w.heap.size]? = some (.cells #[.string g, .string k, .string t, .slice aa ats.length ac, .slice (some ⟨b, o, none⟩) its.length ic] 25 (0, 0))) := ((below_one _ _).block _ (lt_of_block HX.out)).trans HX.out
        obtain ⟨-, -, -, -, z4, -⟩ := box_cells X3.out
        have CK : Hid (Calls Try.prog 23 #[mkT g1 k1 t1 aa1 al1 ac1 ja jl jc] (wr.alloc (.cells #[.string g1, .string k1, .string t1, .slice aa1 al1 ac1, .slice ja jl jc] 25)) _) := IH.out its[m] _ _ (hl.below _ (below_one _ _))
        have j1 : IntKind.i64.wrap ((m : Int) - 1) = (m : Int) - 1 := by rw [IntKind.wrap_i64]; omega
        have j2 : ((m : Int) - 1).toNat = m - 1 := by omega
        have HPV : Hid (0 < m → ∃ p, its[m - 1]? = some p ∧ wr.cell? ⟨b, o + (m - 1) * 5, none⟩ = some (.string (tagT p))) := fun h0 => by
          obtain ⟨b2, o2, g2, -, -, -, -, -, -, -, -, e2, r0, -, -, -, -, -, hg2, -⟩ := (LayI.below HI.out HB.out).att (m - 1) (by omega)
          simp only [Option.some.injEq, Addr.mk.injEq, and_true] at e2
          obtain ⟨rfl, rfl⟩ := e2
          exact ⟨_, List.getElem?_eq_getElem (by omega), by rw [hg2]; exact r0⟩
        clear hl hg1 ht1
        by_cases h0 : g1.size = 0
        · have d0 := empty_true h0
          by_cases h1 : t1.size = 0
          · have d1 := empty_true h1
            have E : Hid (R = true) := by show _ = _; rw [HR.out]; exact any_range_true hlt (by rw [HA.out, HLS.out, decide_eq_true h0, decide_eq_true h1]; simp)
            go_wp2_with fail
            go_ret
            exact ⟨by rw [E.out]; rfl, B3.out⟩
          · have d1 := empty_false h1
            by_cases h2 : 0 < m
            · have d2 : decide ((0 : Int) < (m : Int)) = true := by simp; omega
              have j3 : 0 ≤ (m : Int) - 1 := by omega
              have j4 : (m : Int) - 1 < (its.length : Int) := by omega
              obtain ⟨p, hp, r0⟩ := HPV.out h2
              have HPP : Hid (its[m - 1]? = some p) := hp
              clear hp
              replace r0 := keepc (below_one wr (.cells #[.string g1, .string k1, .string t1, .slice aa1 al1 ac1, .slice ja jl jc] 25)) _ _ r0
              by_cases h3 : (tagT p).size = 0
              · have d3 := empty_true h3
                have HLS2 : Hid (lsB its m its[m] = true) := by show _ = _; rw [HLS.out, HPP.out]; simp only; rw [decide_eq_true h0, decide_eq_true h2, decide_eq_true h3]; simp
                have E : Hid (R = true) := by show _ = _; rw [HR.out]; exact any_range_true hlt (by rw [HA.out, HLS2.out]; simp)
                go_wp2_with fail
                go_ret
                exact ⟨by rw [E.out]; rfl, B3.out⟩
              · have d3 := empty_false h3
                have HF : Hid (lsB its m its[m] = false) := by show _ = _; rw [HLS.out, HPP.out]; simp only; rw [decide_eq_false h1, decide_eq_false h3]; simp
                cases hlr : looseT its[m]
                · rw [hlr] at CK
                  have E : Hid (∀ j, j < m + 1 → lsAt looseT its j = false) := fun j hj => by
                    by_cases e : j = m
                    · subst e; rw [HA.out, HF.out, hlr]; rfl
                    · exact HZ.out j (by omega)
                  clear hlr
                  go_wp2_with fail
                  refine CK.out.mono ?_
                  rintro e w5 ⟨rfl, hb5⟩
                  go_wp2_with fail
                  go_roundw
                  case rel => exact ⟨m + 1, by omega, by go_num, E.out, (hb5.block _ (lt_of_block X3.out)).trans X3.out, nxt B3.out hb5⟩
                  case measure => simp [intOf]; omega
                · rw [hlr] at CK
                  have E : Hid (R = true) := by show _ = _; rw [HR.out]; exact any_range_true hlt (by rw [HA.out, hlr, Bool.or_true])
                  clear hlr
                  go_wp2_with fail
                  refine CK.out.mono ?_
                  rintro e w5 ⟨rfl, hb5⟩
                  go_wp2_with fail
                  go_ret
                  exact ⟨by rw [E.out]; rfl, nxt B3.out hb5⟩
            · have d2 : decide ((0 : Int) < (m : Int)) = false := by simp; omega
              obtain rfl : m = 0 := by omega
              clear h2 d2 HPV
              simp only [Nat.zero_mul, Nat.add_zero] at q0 q1 q2 q3 q4
              have HF : Hid (lsB its 0 its[0] = false) := by show _ = _; rw [HLS.out, decide_eq_false h1]; simp
              cases hlr : looseT its[0]
              · rw [hlr] at CK
                have E : Hid (∀ j, j < 0 + 1 → lsAt looseT its j = false) := fun j hj => by
                  by_cases e : j = 0
                  · subst e; rw [HA.out, HF.out, hlr]; rfl
                  · exact HZ.out j (by omega)
                clear hlr
                go_wp2_with fail
                refine CK.out.mono ?_
                rintro e w5 ⟨rfl, hb5⟩
                go_wp2_with fail
                go_roundw
                case rel => exact ⟨0 + 1, by omega, by first | go_num | rfl, E.out, (hb5.block _ (lt_of_block X3.out)).trans X3.out, nxt B3.out hb5⟩
                case measure => simp [intOf]; omega
              · rw [hlr] at CK
                have E : Hid (R = true) := by show _ = _; rw [HR.out]; exact any_range_true hlt (by rw [HA.out, hlr, Bool.or_true])
                clear hlr
                go_wp2_with fail
                refine CK.out.mono ?_
                rintro e w5 ⟨rfl, hb5⟩
                go_wp2_with fail
                go_ret
                exact ⟨by rw [E.out]; rfl, nxt B3.out hb5⟩
        · have d0 := empty_false h0
          have HF : Hid (lsB its m its[m] = false) := by show _ = _; rw [HLS.out, decide_eq_false h0]; simp
          cases hlr : looseT its[m]
          · rw [hlr] at CK
            have E : Hid (∀ j, j < m + 1 → lsAt looseT its j = false) := fun j hj => by
              by_cases e : j = m
              · subst e; rw [HA.out, HF.out, hlr]; rfl
              · exact HZ.out j (by omega)
            clear hlr
            go_wp2_with fail
            refine CK.out.mono ?_
            rintro e w5 ⟨rfl, hb5⟩
            go_wp2_with fail
            go_roundw
            case rel => exact ⟨m + 1, by omega, by go_num, E.out, (hb5.block _ (lt_of_block X3.out)).trans X3.out, nxt B3.out hb5⟩
            case measure => simp [intOf]; omega
          · rw [hlr] at CK
            have E : Hid (R = true) := by show _ = _; rw [HR.out]; exact any_range_true hlt (by rw [HA.out, hlr, Bool.or_true])
            clear hlr
            go_wp2_with fail
            refine CK.out.mono ?_
            rintro e w5 ⟨rfl, hb5⟩
            go_wp2_with fail
            go_ret
            exact ⟨by rw [E.out]; rfl, nxt B3.out hb5⟩
      · have hme : m = its.length := by omega
        subst hme
        have E : Hid (R = false) := by show _ = _; rw [HR.out]; exact any_range.2 HZ.out
        go_wp2_with fail
        go_ret
        exact ⟨by rw [E.out]; rfl, HB.out⟩

def namedT : {n : Nat} → T n → Bool
  | 0, v => v.elim
  | _ + 1, v => v.2.2.2.1.any (fun a => a.1.toList == keyS.toList) || v.2.2.2.2.any namedT
theorem namedT_node {n : Nat} (g k t : ByteArray) (ats : List Atr) (its : List (T n)) : namedT (n := n + 1) (g, k, t, ats, its) = (ats.any (fun a => a.1.toList == keyS.toList) || its.any namedT) := rfl
theorem any_take {α : Type} {p : α → Bool} {l : List α} {m : Nat} (h : m < l.length) : (l.take (m + 1)).any p = ((l.take m).any p || p l[m]) := by
  rw [List.take_succ_eq_append_getElem h, List.any_append]; simp
theorem any_of {α : Type} {p : α → Bool} {l : List α} {m : Nat} (h : m < l.length) (e : p l[m] = true) : l.any p = true := List.any_eq_true.2 ⟨_, List.getElem_mem h, e⟩

set_option maxRecDepth 100000 in
set_option maxHeartbeats 6400000 in
theorem named_any (n : Nat) : ∀ (v : T n) (x : Value) (w : World), LayT w n x v →
    Calls Try.prog 24 #[x] w fun e w' => e = .returned (.bool (namedT v)) ∧ Below w.heap.size w w' := by
  induction n with
  | zero => intro v; exact v.elim
  | succ n ih =>
    rintro ⟨g, k, t, ats, its⟩ x w ⟨aa, ac, ia, ic, rfl, hfit, -, -, hA, hI⟩
    have ha1 := hfit.2.2.2.2.2.1
    have hi1 := hfit.2.2.2.2.2.2.2.2
    have HA : Hid (LayA w aa ats) := hA
    have HI : Hid (LayI w (LayT w n) ia its) := hI
    have IH : Hid (∀ (v : T n) (x : Value) (w : World), LayT w n x v → Calls Try.prog 24 #[x] w fun e w' => e = .returned (.bool (namedT v)) ∧ Below w.heap.size w w') := ih
    have HR : Hid (namedT (n := n + 1) (g, k, t, ats, its) = _) := namedT_node g k t ats its
    generalize namedT (n := n + 1) (g, k, t, ats, its) = R at *
    clear ih hI hfit hA
    go_enter Try.func24, Try.ntmps24
    go_wp2_with fail
    go_loopw [3] (fun i wr => ∃ m : Nat, m ≤ ats.length ∧ i = .int .i64 m ∧ Hid ((ats.take m).any (fun a => a.1.toList == keyS.toList) = false) ∧ Hid (wr.heap[w.heap.size]? = some (.cells #[.string g, .string k, .string t, .slice aa ats.length ac, .slice ia its.length ic] 25 (0, 0))) ∧ Hid (Below w.heap.size w wr)) (fun i _ => ats.length - (intOf i).toNat)
    case atStart => exact ⟨0, Nat.zero_le _, rfl, (by simp [Hid]), heap_alloc_new _ _, below_one _ _⟩
    case round =>
      obtain ⟨m, hm, rfl, HZ, HX, HB⟩ := hrel
      obtain ⟨-, -, -, y3, y4, -⟩ := box_cells HX.out
      by_cases hlt : m < ats.length
      · obtain ⟨b, o, rfl, q0, q1, -, -⟩ := (HA.out.below HB.out) m ats[m] (by simp [hlt])
        have hm1 : (m : Int) < (ats.length : Int) := by omega
        have HT : Hid ((ats.take (m + 1)).any (fun a => a.1.toList == keyS.toList) = _) := any_take hlt
        have HO : Hid ((ats[m].1.toList == keyS.toList) = true → ats.any (fun a => a.1.toList == keyS.toList) = true) := fun e => any_of hlt e
        generalize ats[m].1 = a1 at *
        cases hc : (a1.toList == keyS.toList)
        · have hc2 : (a1.toList == (⟨#[107, 101, 121]⟩ : ByteArray).toList) = false := hc
          have hc3 : (a1.toList == [107, 101, 121]) = false := by rw [ByteArray.toList_eq ⟨#[107, 101, 121]⟩] at hc2; exact hc2
          have E : Hid ((ats.take (m + 1)).any (fun a => a.1.toList == keyS.toList) = false) := by show _ = _; rw [HT.out, HZ.out, hc]; rfl
          clear hc
          go_wp2_with fail
          go_roundw
          case rel => exact ⟨m + 1, by omega, by go_num, E.out, HX.out, HB.out⟩
          case measure => simp [intOf]; omega
        · have hc2 : (a1.toList == (⟨#[107, 101, 121]⟩ : ByteArray).toList) = true := hc
          have hc3 : (a1.toList == [107, 101, 121]) = true := by rw [ByteArray.toList_eq ⟨#[107, 101, 121]⟩] at hc2; exact hc2
          have E : Hid (R = true) := by show _ = _; rw [HR.out, HO.out hc, Bool.true_or]
          clear hc
          go_wp2_with fail
          go_ret
          exact ⟨by rw [E.out]; rfl, HB.out⟩
      · have hme : m = ats.length := by omega
        subst hme
        have h1 := HZ.out
        rw [List.take_length] at h1
        have HN : Hid (R = its.any namedT) := by show _ = _; rw [HR.out, h1, Bool.false_or]
        clear h1 HZ HR
        obtain ⟨W, hW⟩ : ∃ W, W = wr := ⟨_, rfl⟩
        subst hW
        have HX0 : Hid (W.heap[w.heap.size]? = some (.cells #[.string g, .string k, .string t, .slice aa ats.length ac, .slice ia its.length ic] 25 (0, 0))) := HX.out
        have HB0 : Hid (Below w.heap.size w W) := HB.out
        go_wp2_with fail
        clear y3 y4
        go_loopw [4] (fun i wr => ∃ m : Nat, m ≤ its.length ∧ i = .int .i64 m ∧ Hid ((its.take m).any namedT = false) ∧ Hid (wr.heap[w.heap.size]? = some (.cells #[.string g, .string k, .string t, .slice aa ats.length ac, .slice ia its.length ic] 25 (0, 0))) ∧ Hid (Below w.heap.size w wr)) (fun i _ => its.length - (intOf i).toNat)
        case atStart => exact ⟨0, Nat.zero_le _, rfl, (by simp [Hid]), HX0.out, HB0.out⟩
        case round =>
          obtain ⟨m, hm, rfl, HZ, HX, HB⟩ := hrel
          obtain ⟨-, -, -, -, y4, -⟩ := box_cells HX.out
          by_cases hlt : m < its.length
          · obtain ⟨b, o, g1, k1, t1, aa1, al1, ac1, ja, jl, jc, rfl, q0, q1, q2, q3, q4, hl, -, -⟩ := (LayI.below HI.out HB.out).att m hlt
            have hm1 : (m : Int) < (its.length : Int) := by omega
            have HT : Hid ((its.take (m + 1)).any namedT = _) := any_take hlt
            have HO : Hid (namedT its[m] = true → its.any namedT = true) := fun e => any_of hlt e
            have CK : Hid (Calls Try.prog 24 #[mkT g1 k1 t1 aa1 al1 ac1 ja jl jc] wr _) := IH.out its[m] _ _ hl
            clear hl
            cases hc : namedT its[m]
            · rw [hc] at CK
              have E : Hid ((its.take (m + 1)).any namedT = false) := by show _ = _; rw [HT.out, HZ.out, hc]; rfl
              clear hc
              go_wp2_with fail
              refine CK.out.mono ?_
              rintro e w5 ⟨rfl, hb5⟩
              go_wp2_with fail
              go_roundw
              case rel => exact ⟨m + 1, by omega, by go_num, E.out, (hb5.block _ (lt_of_block HX.out)).trans HX.out, nxt HB.out hb5⟩
              case measure => simp [intOf]; omega
            · rw [hc] at CK
              have E : Hid (R = true) := by show _ = _; rw [HN.out, HO.out hc]
              clear hc
              go_wp2_with fail
              refine CK.out.mono ?_
              rintro e w5 ⟨rfl, hb5⟩
              go_wp2_with fail
              go_ret
              exact ⟨by rw [E.out]; rfl, nxt HB.out hb5⟩
          · have hme : m = its.length := by omega
            subst hme
            have h1 := HZ.out
            rw [List.take_length] at h1
            have E : Hid (R = false) := by show _ = _; rw [HN.out, h1]
            go_wp2_with fail
            go_ret
            exact ⟨by rw [E.out]; rfl, HB.out⟩
end Go.Proofs.Ytoheppocolbjkaa
