/-
  The program's copyOfList over attributes and nodes.
-/
import Derived.Test.YtcdnakcojanaeabGreatDoCopy
namespace Go.Proofs.YtcdnakcojanaeabGreat
open Go.ChangeShapes Go.WideShapes Go.ChangeAt Go.RowKit Go.Deep
open Do

theorem two {w : World} {B : Nat} {c0 c1 : Value} {t : TypeId} (h : w.heap[B]? = some (.cells #[c0, c1] t (0, 0))) : w.cell? ⟨B, 0, none⟩ = some c0 ∧ w.cell? ⟨B, 1, none⟩ = some c1 := ⟨(cell_of h 0).1, (cell_of h 1).1⟩

theorem noA_any (x y : Value) (w : World) : Calls Tryz.prog 64 #[.agg #[x, y]] w fun e w' => e = .returned (.bool false) ∧ Below w.heap.size w w' := by
  go_enter Tryz.func64, Tryz.ntmps64
  go_wp2_with fail
  go_ret
  exact ⟨rfl, below_one _ _⟩

theorem noN_any (c0 c1 c2 c3 c4 c5 c6 : Value) (w : World) : Calls Tryz.prog 62 #[.agg #[c0, c1, c2, c3, c4, c5, c6]] w fun e w' => e = .returned (.bool false) ∧ Below w.heap.size w w' := by
  go_enter Tryz.func62, Tryz.ntmps62
  go_wp2_with fail
  go_ret
  exact ⟨rfl, below_one _ _⟩

set_option maxRecDepth 100000 in
set_option maxHeartbeats 1600000 in
theorem withoutA_any (ats : List Atr) (a : Option Addr) (c : Nat) (w : World) (hl : LayA w a ats) (hln : ats.length * 32 ≤ 140737488351232) :
    Calls Tryz.prog 63 #[.slice a ats.length c, .func (.func 64) #[] #[]] w fun e w' => ∃ v, e = .returned v ∧ OwnA w' w.heap.size v ats ∧ Below w.heap.size w w' := by
  have HL : Hid (LayA w a ats) := hl
  clear hl
  go_enter Tryz.func63, Tryz.ntmps63
  go_wp2_with fail
  go_loopw [5, 10] (fun v5 v10 wr => ∃ i : Nat, i ≤ ats.length ∧ v10 = .int .i64 (i : Int) ∧ Hid (OwnA wr w.heap.size v5 (ats.take i)) ∧ Hid (Below w.heap.size w wr)) (fun _ v10 _ => ats.length - (intOf v10).toNat)
  case atStart => exact ⟨0, Nat.zero_le _, rfl, OwnA.nil _ _, Below.refl _ _⟩
  case round =>
    obtain ⟨i, hi, rfl, HO, HB⟩ := hrel
    by_cases hlt : i < ats.length
    · obtain ⟨b, o, ha, r1, r2, _⟩ := HL.out.below HB.out i ats[i] (List.getElem?_eq_getElem hlt)
      subst ha
      have HT : Hid (ats.take (i + 1) = ats.take i ++ [ats[i]]) := List.take_succ_eq_append_getElem hlt
      have HLE : Hid ((ats.take i).length ≤ i) := by show _ ≤ _; simp; omega
      obtain ⟨oa, oc, hov⟩ := HO.out.shape
      subst hov
      generalize ats.take i = fl at *
      generalize ats[i] = x at *
      obtain ⟨xn, xv⟩ := x
      simp only at *
      have X1 : Hid ((wr.alloc (.cells #[.string xn, .string xv] 43)).heap[wr.heap.size]? = some (.cells #[.string xn, .string xv] 43 (0, 0))) := heap_alloc_new _ _
      go_wp2_with fail
      refine (noA_any (.string xn) (.string xv) _).mono ?_
      rintro e w2 ⟨rfl, hb2⟩
      have X2 := (hb2.block _ (lt_of_block X1.out)).trans X1.out
      obtain ⟨y0, y1⟩ := two X2
      have HOX : Hid (OwnA (w2.alloc (.cells #[.string xn, .string xv] 43)) w.heap.size (.slice oa fl.length oc) fl) := HO.out.below (nxt (nxt (below_one _ _) hb2) (below_one _ _))
      have HBX : Hid (Below w.heap.size w (w2.alloc (.cells #[.string xn, .string xv] 43))) := nxt HB.out (nxt (nxt (below_one _ _) hb2) (below_one _ _))
      have HNW : Hid ((w2.alloc (.cells #[.string xn, .string xv] 43)).cell? ((⟨w2.heap.size, 0, none⟩ : Addr).add 0) = some (.string xn) ∧ (w2.alloc (.cells #[.string xn, .string xv] 43)).cell? ((⟨w2.heap.size, 0, none⟩ : Addr).add 1) = some (.string xv)) := ⟨newCells w2 _ _ 0 _ rfl, newCells w2 _ _ 1 _ rfl⟩
      have HSZ : Hid ((fl.length + 1) * 32 ≤ 140737488355328 ∧ w.heap.size ≤ (w2.alloc (.cells #[.string xn, .string xv] 43)).heap.size) := ⟨by have := HLE.out; omega, HBX.out.size⟩
      clear HO HB r1 r2 X2 X1 hb2
      go_wp2_with (refine wpList_pushA _ rfl (.tmp 18) (.tmp 20) rfl w.heap.size _ fl rfl HOX.out (xn, xv) ⟨w2.heap.size, 0, none⟩ 1 rfl HNW.out.1 HNW.out.2 HSZ.out.1 HSZ.out.2 ?_; intro v' w' q1 q2 q3; have OO : Hid (OwnA w' w.heap.size v' (fl ++ [(xn, xv)])) := q1; have BB : Hid (Below w.heap.size w w') := HBX.out.trans (grownB HOX.out q2 HSZ.out.2); clear q1 q2 q3)
      go_roundw
      case rel => exact ⟨i + 1, by omega, by go_num, by rw [HT.out]; exact OO.out, BB.out⟩
      case measure => simp [intOf]; omega
    · have HE : Hid (ats.take i = ats) := List.take_of_length_le (by omega)
      rw [HE.out] at HO
      go_wp2_with fail
      go_ret
      exact ⟨_, rfl, HO.out, HB.out⟩

set_option maxRecDepth 100000 in
theorem copyA_any (ats : List Atr) (a : Option Addr) (c : Nat) (w : World) (hl : LayA w a ats) (hln : ats.length * 32 ≤ 140737488351232) :
    Calls Tryz.prog 37 #[.slice a ats.length c] w fun e w' => ∃ v, e = .returned v ∧ OwnA w' w.heap.size v ats ∧ Below w.heap.size w w' := by
  have HC : Hid (Calls Tryz.prog 63 #[.slice a ats.length c, .func (.func 64) #[] #[]] w _) := withoutA_any ats a c w hl hln
  clear hl
  go_enter Tryz.func37, Tryz.ntmps37
  go_wp2_with fail
  refine HC.out.mono ?_
  rintro e w1 ⟨v, rfl, h1, h2⟩
  have H1 : Hid (OwnA w1 w.heap.size v ats) := h1
  have H2 : Hid (Below w.heap.size w w1) := h2
  clear h1 h2 HC
  go_wp2_with fail
  go_ret
  exact ⟨_, rfl, H1.out, H2.out⟩

/-- Nodes that are read, with the slices that they have. -/
def SrcN (w : World) (a : Option Addr) (ns : List Nd) (ab kb : Nat → Value) : Prop := ∀ i n, ns[i]? = some n → ∃ b o aa ac ka kc, a = some ⟨b, o, none⟩ ∧ NdAt w b (o + i * 7) n aa ac ka kc ∧ ab i = .slice aa n.ats.length ac ∧ kb i = .slice ka n.kids.length kc

theorem LayN.src {w : World} {a : Option Addr} {ns : List Nd} (h : LayN w a ns) : ∃ ab kb, SrcN w a ns ab kb := by
  have hc : ∀ i : Nat, ∃ p : Value × Value, ∀ n, ns[i]? = some n → ∃ b o aa ac ka kc, a = some ⟨b, o, none⟩ ∧ NdAt w b (o + i * 7) n aa ac ka kc ∧ p.1 = .slice aa n.ats.length ac ∧ p.2 = .slice ka n.kids.length kc := by
    intro i
    cases hi : ns[i]? with
    | none => exact ⟨(undef, undef), fun n hn => by cases hn⟩
    | some m =>
      obtain ⟨b, o, aa, ac, ka, kc, h1, h2⟩ := h i m hi
      exact ⟨(.slice aa m.ats.length ac, .slice ka m.kids.length kc), fun n hn => by cases hn; exact ⟨b, o, aa, ac, ka, kc, h1, h2, rfl, rfl⟩⟩
  exact ⟨fun i => (Classical.choose (hc i)).1, fun i => (Classical.choose (hc i)).2, fun i n hn => Classical.choose_spec (hc i) n hn⟩

theorem SrcN.below {w w' : World} {a : Option Addr} {ns : List Nd} {ab kb : Nat → Value} (h : SrcN w a ns ab kb) (hb : Below w.heap.size w w') : SrcN w' a ns ab kb := by
  intro i n hi
  obtain ⟨b, o, aa, ac, ka, kc, h1, h2, h3⟩ := h i n hi
  exact ⟨b, o, aa, ac, ka, kc, h1, h2.below hb, h3⟩

set_option maxRecDepth 100000 in
set_option maxHeartbeats 1600000 in
theorem withoutM_any (ns : List Nd) (ab kb : Nat → Value) (a : Option Addr) (c : Nat) (w : World) (hl : SrcN w a ns ab kb) (hln : ns.length * 112 ≤ 140737488351232) :
    Calls Tryz.prog 61 #[.slice a ns.length c, .func (.func 62) #[] #[]] w fun e w' => ∃ v, e = .returned v ∧ w'.ownsRow w.heap.size 41 7 v ns.length (rowN ns ab kb) ∧ Below w.heap.size w w' := by
  have HL : Hid (SrcN w a ns ab kb) := hl
  clear hl
  go_enter Tryz.func61, Tryz.ntmps61
  go_wp2_with fail
  go_loopw [5, 10] (fun v5 v10 wr => ∃ i : Nat, i ≤ ns.length ∧ v10 = .int .i64 (i : Int) ∧ Hid (wr.ownsRow w.heap.size 41 7 v5 i (rowN (ns.take i) ab kb)) ∧ Hid (Below w.heap.size w wr)) (fun _ v10 _ => ns.length - (intOf v10).toNat)
  case atStart => exact ⟨0, Nat.zero_le _, rfl, World.ownsRow_nil _ _ _ _, Below.refl _ _⟩
  case round =>
    obtain ⟨i, hi, rfl, HO, HB⟩ := hrel
    by_cases hlt : i < ns.length
    · obtain ⟨b, o, aa, ac, ka, kc, ha, hN, hab, hkb⟩ := HL.out.below HB.out i ns[i] (List.getElem?_eq_getElem hlt)
      subst ha
      obtain ⟨r0, r1, r2, r3, r4, r5, r6, -, -, -⟩ := hN
      have HT : Hid (rowN (ns.take (i + 1)) ab kb = rowN (ns.take i) ab kb ++ cellsN ns[i] (.slice aa ns[i].ats.length ac) (.slice ka ns[i].kids.length kc)) := by
        show _ = _
        rw [List.take_succ_eq_append_getElem hlt, rowN_snoc]
        have : (ns.take i).length = i := by simp; omega
        rw [this, hab, hkb]
      obtain ⟨oa, oc, hov⟩ := slice_of_own HO.out
      subst hov
      clear hab hkb
      generalize rowN (ns.take i) ab kb = fl at *
      generalize ns[i] = m at *
      obtain ⟨mi, mp, mg, mk, mt, ma, mks⟩ := m
      simp only at *
      have X1 : Hid ((wr.alloc (.cells #[.int .i64 mi, .int .i64 mp, .string mg, .string mk, .string mt, .slice aa ma.length ac, .slice ka mks.length kc] 41)).heap[wr.heap.size]? = some (.cells #[.int .i64 mi, .int .i64 mp, .string mg, .string mk, .string mt, .slice aa ma.length ac, .slice ka mks.length kc] 41 (0, 0))) := heap_alloc_new _ _
      go_wp2_with fail
      refine (noN_any (.int .i64 mi) (.int .i64 mp) (.string mg) (.string mk) (.string mt) (.slice aa ma.length ac) (.slice ka mks.length kc) _).mono ?_
      rintro e w2 ⟨rfl, hb2⟩
      have X2 := (hb2.block _ (lt_of_block X1.out)).trans X1.out
      obtain ⟨y0, y1, y2, y3, y4, y5, y6⟩ := seven X2
      have BB2 : Below wr.heap.size wr (w2.alloc (.cells #[.int .i64 mi, .int .i64 mp, .string mg, .string mk, .string mt, .slice aa ma.length ac, .slice ka mks.length kc] 41)) := nxt (nxt (below_one _ _) hb2) (below_one _ _)
      have HOX : Hid ((w2.alloc (.cells #[.int .i64 mi, .int .i64 mp, .string mg, .string mk, .string mt, .slice aa ma.length ac, .slice ka mks.length kc] 41)).ownsRow w.heap.size 41 7 (.slice oa i oc) i fl) := ownsRow_same HO.out fun g hg => BB2.block g (HO.out.lt g hg).2
      have HBX : Hid (Below w.heap.size w (w2.alloc (.cells #[.int .i64 mi, .int .i64 mp, .string mg, .string mk, .string mt, .slice aa ma.length ac, .slice ka mks.length kc] 41))) := nxt HB.out BB2
      have HNW : Hid (∀ j u, (cellsN ⟨mi, mp, mg, mk, mt, ma, mks⟩ (.slice aa ma.length ac) (.slice ka mks.length kc))[j]? = some u → (w2.alloc (.cells #[.int .i64 mi, .int .i64 mp, .string mg, .string mk, .string mt, .slice aa ma.length ac, .slice ka mks.length kc] 41)).cell? ((⟨w2.heap.size, 0, none⟩ : Addr).add j) = some u) := fun j u hj => newCells w2 _ _ j u (by rw [← Array.getElem?_toList]; exact hj)
      have HSZ : Hid ((i + 1) * 112 ≤ 140737488355328 ∧ w.heap.size ≤ (w2.alloc (.cells #[.int .i64 mi, .int .i64 mp, .string mg, .string mk, .string mt, .slice aa ma.length ac, .slice ka mks.length kc] 41)).heap.size) := ⟨by omega, HBX.out.size⟩
      clear HO HB r0 r1 r2 r3 r4 r5 r6 X2 X1 hb2 BB2
      go_wp2_with (refine wpList_pushN _ rfl (.tmp 18) (.tmp 20) rfl w.heap.size _ i fl rfl HOX.out ⟨mi, mp, mg, mk, mt, ma, mks⟩ aa ma.length ac ka mks.length kc ⟨w2.heap.size, 0, none⟩ 1 rfl HNW.out HSZ.out.1 HSZ.out.2 ?_; intro v' w' q1 q2 q3; have OO : Hid (w'.ownsRow w.heap.size 41 7 v' (i + 1) (fl ++ cellsN ⟨mi, mp, mg, mk, mt, ma, mks⟩ (.slice aa ma.length ac) (.slice ka mks.length kc))) := q1; have BB : Hid (Below w.heap.size w w') := HBX.out.trans (grownB HOX.out q2 HSZ.out.2); clear q1 q2 q3)
      go_roundw
      case rel => exact ⟨i + 1, by omega, by go_num, by rw [HT.out]; exact OO.out, BB.out⟩
      case measure => simp [intOf]; omega
    · have HE : Hid (ns.take i = ns ∧ i = ns.length) := ⟨List.take_of_length_le (by omega), by omega⟩
      rw [HE.out.1, HE.out.2] at HO
      go_wp2_with fail
      go_ret
      exact ⟨_, rfl, HO.out, HB.out⟩

set_option maxRecDepth 100000 in
theorem copyM_any (ns : List Nd) (ab kb : Nat → Value) (a : Option Addr) (c : Nat) (w : World) (hl : SrcN w a ns ab kb) (hln : ns.length * 112 ≤ 140737488351232) :
    Calls Tryz.prog 36 #[.slice a ns.length c] w fun e w' => ∃ v, e = .returned v ∧ w'.ownsRow w.heap.size 41 7 v ns.length (rowN ns ab kb) ∧ Below w.heap.size w w' := by
  have HC : Hid (Calls Tryz.prog 61 #[.slice a ns.length c, .func (.func 62) #[] #[]] w _) := withoutM_any ns ab kb a c w hl hln
  clear hl
  go_enter Tryz.func36, Tryz.ntmps36
  go_wp2_with fail
  refine HC.out.mono ?_
  rintro e w1 ⟨v, rfl, h1, h2⟩
  have H1 : Hid (w1.ownsRow w.heap.size 41 7 v ns.length (rowN ns ab kb)) := h1
  have H2 : Hid (Below w.heap.size w w1) := h2
  clear h1 h2 HC
  go_wp2_with fail
  go_ret
  exact ⟨_, rfl, H1.out, H2.out⟩
end Go.Proofs.YtcdnakcojanaeabGreat
