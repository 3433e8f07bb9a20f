/-
  Rows of whole numbers, in dom's seat.
-/
import Derived.Test.YtcdnakcojanaeabGreatTrSize
import Derived.Deep.OwnRows
namespace Go.Proofs.YtcdnakcojanaeabGreat
open Go.ChangeShapes Go.WideShapes Go.ChangeAt Go.RowKit Go.Deep

theorem Tryz.infoInt : (Tryz.prog.info? 3).map (fun i => (i.zero, i.size, i.bytes)) = some (some (.int .i64 0), 1, 8) := by kernel_rfl

/-- A row of whole numbers of one's own. -/
def OwnZ (w : World) (B : Nat) (v : Value) (ks : List Int) : Prop := w.ownsRow B 3 1 v ks.length (ks.map fun k => Value.int .i64 k)

theorem OwnZ.nil (w : World) (B : Nat) : OwnZ w B (.slice none 0 0) [] := World.ownsRow_nil _ _ _ _

theorem OwnZ.shape {w : World} {B : Nat} {v : Value} {ks : List Int} (h : OwnZ w B v ks) : ∃ a c, v = .slice a ks.length c := slice_of_own h

theorem OwnZ.same {w w' : World} {B : Nat} {v : Value} {ks : List Int} (h : OwnZ w B v ks) (hk : ∀ b, v.ownBlock = some b → w'.heap[b]? = w.heap[b]?) : OwnZ w' B v ks := ownsRow_same h hk

theorem OwnZ.below {w w' : World} {B : Nat} {v : Value} {ks : List Int} (h : OwnZ w B v ks) (hb : Below w.heap.size w w') : OwnZ w' B v ks := ownsRow_same h fun g hg => hb.block g (h.lt g hg).2

/-- A number of it. -/
theorem OwnZ.at {w : World} {B : Nat} {a : Option Addr} {c n : Nat} {ks : List Int} (h : OwnZ w B (.slice a n c) ks) (m : Nat) (hm : m < ks.length) : ∃ g, a = some ⟨g, 0, none⟩ ∧ w.cell? ⟨g, 0 + m, none⟩ = some (.int .i64 ks[m]) :=
  cells_of_own h m _ (by simp [hm])

/-- append of one number. -/
theorem wpList_pushI (w : World) {ops : Array Oper} {rest : List Oper} {o : Oper} {a : Act} {Q : Exit → Act → World → Prop} (hgd : o.guard = none) (s x : Operand)
    (hop : o.op = .call { callee := .builtin .append, args := #[s, x], argTypes := #[39, 39] })
    (B : Nat) (v : Value) (ks : List Int) (hs : a.eval s = v) (hL : OwnZ w B v ks) (k : Int) (ad : Addr) (c : Nat) (hx : a.eval x = .slice (some ad) 1 c) (hnews : w.cell? (ad.add 0) = some (.int .i64 k)) (hlen : (ks.length + 1) * 8 ≤ 140737488355328) (hB : B ≤ w.heap.size)
    (h : ∀ v' w', OwnZ w' B v' (ks ++ [k]) → w.grownBy w' v.ownBlock → (v'.ownBlock = v.ownBlock ∨ ∀ g, v'.ownBlock = some g → w.heap.size ≤ g) → wpList Tryz.prog ops Q rest (a.put o.dst v') w') : wpList Tryz.prog ops Q (o :: rest) a w := by
  obtain ⟨i0, hi, hz0, hz1, hz2⟩ := info_parts Tryz.infoInt
  refine wpList_append_apart w hgd s x 39 hop B 3 i0 _ 1 8 Tryz.underlying39 hi hz0 hz1 hz2 rfl (by decide) v ks.length _ hs hL (some ad) 1 c [.int .i64 k] hx (by simp) rfl ?_ ?_ (by unfold maxLen; omega) hlen hB ?_
  · intro ad' e j u hj
    cases e
    cases j with
    | zero => cases hj; exact hnews
    | succ j => simp at hj
  · intro y hy
    simp at hy
    subst hy
    rfl
  · intro v' w' q1 q2 q3
    refine h v' w' ?_ q2 q3
    unfold OwnZ
    rw [List.length_append, List.map_append]
    exact q1

/-- append of numbers that are read. -/
theorem wpList_appI (w : World) {ops : Array Oper} {rest : List Oper} {o : Oper} {a : Act} {Q : Exit → Act → World → Prop} (hgd : o.guard = none) (s x : Operand)
    (hop : o.op = .call { callee := .builtin .append, args := #[s, x], argTypes := #[39, 39] })
    (B : Nat) (v : Value) (ks js : List Int) (hs : a.eval s = v) (hL : OwnZ w B v ks) (ia : Option Addr) (c : Nat) (hx : a.eval x = .slice ia js.length c) (hnone : ia = none → js.length = 0 ∧ c = 0) (hnews : ∀ ad, ia = some ad → ∀ i k, js[i]? = some k → w.cell? (ad.add i) = some (.int .i64 k)) (hlen : (ks.length + js.length) * 8 ≤ 140737488355328) (hB : B ≤ w.heap.size)
    (h : ∀ v' w', OwnZ w' B v' (ks ++ js) → w.grownBy w' v.ownBlock → (v'.ownBlock = v.ownBlock ∨ ∀ g, v'.ownBlock = some g → w.heap.size ≤ g) → wpList Tryz.prog ops Q rest (a.put o.dst v') w') : wpList Tryz.prog ops Q (o :: rest) a w := by
  obtain ⟨i0, hi, hz0, hz1, hz2⟩ := info_parts Tryz.infoInt
  refine wpList_append_apart w hgd s x 39 hop B 3 i0 _ 1 8 Tryz.underlying39 hi hz0 hz1 hz2 rfl (by decide) v ks.length _ hs hL ia js.length c (js.map fun k => Value.int .i64 k) hx hnone (by simp) ?_ ?_ (by unfold maxLen; omega) hlen hB ?_
  · intro ad e j u hj
    simp only [List.getElem?_map, Option.map_eq_some_iff] at hj
    obtain ⟨k, hk, rfl⟩ := hj
    exact hnews ad e j k hk
  · intro y hy
    obtain ⟨k, -, rfl⟩ := List.mem_map.1 hy
    rfl
  · intro v' w' q1 q2 q3
    refine h v' w' ?_ q2 q3
    unfold OwnZ
    rw [List.length_append, List.map_append]
    exact q1

/-- Parts of a row of numbers, to be read. -/
theorem OwnZ.take {w : World} {B : Nat} {a : Option Addr} {c n : Nat} {ks : List Int} (h : OwnZ w B (.slice a n c) ks) (m : Nat) : ∀ ad, a = some ad → ∀ i k, (ks.take m)[i]? = some k → w.cell? (ad.add i) = some (.int .i64 k) := by
  intro ad e i k hk
  rw [List.getElem?_take] at hk
  split at hk
  · obtain ⟨g, e', q⟩ := cells_of_own h i (.int .i64 k) (by simp [hk])
    rw [e] at e'
    cases e'
    rw [add_plain]
    exact q
  · cases hk

theorem OwnZ.drop {w : World} {B : Nat} {a : Option Addr} {c n : Nat} {ks : List Int} (h : OwnZ w B (.slice a n c) ks) (m : Nat) : ∀ g, a = some ⟨g, 0, none⟩ → ∀ i k, (ks.drop m)[i]? = some k → w.cell? ((⟨g, m, none⟩ : Addr).add i) = some (.int .i64 k) := by
  intro g e i k hk
  rw [List.getElem?_drop] at hk
  obtain ⟨g', e', q⟩ := cells_of_own h (m + i) (.int .i64 k) (by simp [hk])
  rw [e] at e'
  cases e'
  rw [add_plain]
  rwa [Nat.zero_add] at q

/-- Whole numbers that lie somewhere. -/
def LayZ (w : World) (a : Option Addr) (ks : List Int) : Prop := ∀ i v, ks[i]? = some v → ∃ b off, a = some ⟨b, off, none⟩ ∧ w.cell? ⟨b, off + i, none⟩ = some (.int .i64 v) ∧ -9223372036854775808 ≤ v ∧ v ≤ 9223372036854775807

theorem LayZ.below {w w' : World} {a : Option Addr} {ks : List Int} (h : LayZ w a ks) (hb : Below w.heap.size w w') : LayZ w' a ks := by
  intro i v hi
  obtain ⟨b, off, h1, h2, h3⟩ := h i v hi
  exact ⟨b, off, h1, keepc hb _ _ h2, h3⟩

theorem cells_one {w : World} {a : Addr} {cs : List Value} (h : w.cells? 0 a 1 = some cs) : ∃ c0, cs = [c0] ∧ w.cell? (a.add 0) = some c0 := by
  simp only [World.cells?, Nat.zero_le, if_true, show List.range 1 = [0] from rfl, List.mapM_cons, List.mapM_nil] at h
  cases h0 : w.cell? (a.add 0) with
  | none => simp [h0] at h
  | some c0 =>
    simp [h0] at h
    exact ⟨c0, h.symm, rfl⟩

/-- Whole numbers. -/
def I64 (ks : List Int) : Prop := ∀ x ∈ ks, -9223372036854775808 ≤ x ∧ x ≤ 9223372036854775807

/-- What numbers that are read keep to. -/
def NmZ (w : World) (a : Option Addr) (c : Nat) (ks : List Int) : Prop := LayZ w a ks ∧ ks.length ≤ c ∧ c ≤ 9223372036854775807 ∧ ks.length * 8 ≤ 140737488351232 ∧ (a = none → c = 0) ∧ (∀ ad, a = some ad → 0 < c → ad = ⟨ad.block, ad.off, none⟩)

theorem NmZ.below {w w' : World} {a : Option Addr} {c : Nat} {ks : List Int} (h : NmZ w a c ks) (hb : Below w.heap.size w w') : NmZ w' a c ks := ⟨h.1.below hb, h.2⟩

theorem LayZ.i64 {w : World} {a : Option Addr} {ks : List Int} (h : LayZ w a ks) : I64 ks := by
  intro x hx
  obtain ⟨i, hi, rfl⟩ := List.getElem_of_mem hx
  obtain ⟨_, _, _, _, h3⟩ := h i ks[i] (List.getElem?_eq_getElem hi)
  exact h3

theorem OwnZ.lay {w : World} {B : Nat} {a : Option Addr} {n c : Nat} {ks : List Int} (h : OwnZ w B (.slice a n c) ks) (hi : I64 ks) : LayZ w a ks := by
  intro i v hv
  have hlt := (List.getElem?_eq_some_iff.1 hv).1
  obtain ⟨g, rfl, q⟩ := h.at i hlt
  have e : ks[i] = v := by rw [List.getElem?_eq_getElem hlt] at hv; exact Option.some.inj hv
  rw [e] at q
  exact ⟨g, 0, rfl, q, hi v (by rw [← e]; exact List.getElem_mem hlt)⟩

theorem OwnZ.nm {w : World} {B : Nat} {a : Option Addr} {n c : Nat} {ks : List Int} (h : OwnZ w B (.slice a n c) ks) (hi : I64 ks) (hl : ks.length * 8 ≤ 140737488351232) : NmZ w a c ks := by
  refine ⟨h.lay hi, ?_⟩
  obtain ⟨h1, h2⟩ := h
  rcases h2 with ⟨h3, h4⟩ | ⟨g, cap, cur, h3, h4, h5, h6, h7, _⟩
  · simp only [Value.slice.injEq] at h3
    obtain ⟨rfl, rfl, rfl⟩ := h3
    exact ⟨by omega, by omega, hl, fun _ => rfl, fun ad h => by cases h⟩
  · simp only [Value.slice.injEq] at h3
    obtain ⟨rfl, rfl, rfl⟩ := h3
    unfold maxLen at h7
    exact ⟨h6, by omega, hl, by simp, fun ad h _ => by cases h; rfl⟩

/-- A part of the numbers, from the first on. -/
theorem NmZ.take {w : World} {a : Option Addr} {c : Nat} {ks : List Int} (h : NmZ w a c ks) (m : Nat) : NmZ w a c (ks.take m) := by
  obtain ⟨h1, h2, h3, h4, h5⟩ := h
  have hm : (ks.take m).length ≤ ks.length := by simp; omega
  refine ⟨fun i v hv => ?_, by omega, h3, by omega, h5⟩
  rw [List.getElem?_take] at hv
  split at hv
  · exact h1 i v hv
  · cases hv

/-- Numbers among the arguments. -/
def NumsZ (w : World) (x : Value) (ks : List Int) : Prop := ∃ a c, x = .slice a ks.length c ∧ NmZ w a c ks

theorem Tryz.cellsInt : Tryz.prog.cellsOf 3 = 1 := by kernel_rfl

theorem Tryz.bytesInt : Tryz.prog.bytesOf 3 = 8 := by kernel_rfl

set_option maxRecDepth 100000 in
theorem intsZ_of_trod {H : Type} {enc : TypeId × Value → H} {w : World} {d : DataW H} {fuel : Nat} {c : Value} {pl : List MemPlace} (hwt : ∀ n ∈ d.weights Tryz.prog 39, n ≤ reachBytes)
    (h : DataW.trod enc Tryz.prog w 0 (fun _ => true) true fuel 39 [c] = some (d, pl)) : ∃ ks, NumsZ w c ks := by
  rcases open_slice Tryz.underlying39 h with ⟨h1, h2⟩ | ⟨a, len, cap, m, n', D, Pl, h1, _, hl1, hm1, hm2, h2, h3⟩
  · simp only [List.cons.injEq, and_true] at h1
    exact ⟨[], none, 0, h1, fun i s hi => by simp at hi, by simp, by simp, by simp, fun _ => rfl, fun ad h => by cases h⟩
  · simp only [List.cons.injEq, and_true] at h1
    simp only [if_true] at hm2
    subst hm2
    rw [Tryz.cellsInt] at h2 h3
    have h2' : d = .slice ((List.range len).map D) ((List.range (m - len)).map fun j => D (len + j)) := congrArg Prod.fst h2
    rw [h2'] at hwt
    unfold maxLen at hm1
    have spot : 0 < m → a = ⟨a.block, a.off, none⟩ := by
      intro hm0
      obtain ⟨cs0, q0, _⟩ := h3 0 hm0
      obtain ⟨z0, _, p0⟩ := cells_one q0
      have hs := spot_none p0
      simpa only [Nat.zero_mul, Addr.add, if_true] using hs
    have each : ∀ i, i < len → ∃ v : Int, ∃ b off, some a = some (⟨b, off, none⟩ : Addr) ∧ w.cell? ⟨b, off + i, none⟩ = some (.int .i64 v) ∧ -9223372036854775808 ≤ v ∧ v ≤ 9223372036854775807 := by
      intro i hi
      obtain ⟨cs', q, htr⟩ := h3 i (by omega)
      obtain ⟨c0, rfl, p0⟩ := cells_one q
      obtain ⟨kk, e2, -, w2⟩ := DataW.trod_int Tryz.underlying3 htr
      have e2' : c0 = .int .i64 kk := by simpa using e2
      subst e2'
      have b2 := bounds_i64 w2
      have hs := spot (by omega)
      rw [hs] at p0 ⊢
      rw [add_plain, add_plain] at p0
      exact ⟨kk, _, _, rfl, by simpa using p0, by omega, by omega⟩
    obtain ⟨fs, hlen', hfs⟩ := list_of each
    have hbl : fs.length * 8 ≤ 140737488351232 := by
      have := hwt _ (by simp only [DataW.weights, Tryz.underlying39]; exact List.mem_cons_self)
      simp only [List.length_map, List.length_range, Tryz.bytesInt] at this
      rw [reach_eq] at this
      rw [hlen']
      have h5 : len * 8 ≤ m * 8 := Nat.mul_le_mul_right _ hl1
      omega
    exact ⟨fs, some a, m, by rw [hlen']; exact h1, fun i f hf => hfs i f hf, by omega, hm1, hbl, by simp, fun ad h => by cases h; exact spot⟩

set_option maxRecDepth 100000 in
theorem intsZ_of_arg {H : Type} {enc : TypeId × Value → H} {w : World} {base : Nat} {x : Value} {d : DataW H} {pl : List MemPlace} (hx : Value.okWide Tryz.prog w .any base 39 x) (h : DataW.Trod enc Tryz.prog w 0 (fun _ => true) true 39 x d pl)
    (hw : ∀ n ∈ d.weights Tryz.prog 39, n ≤ reachBytes) : ∃ ks, NumsZ w x ks := by
  obtain ⟨fuel, hf⟩ := h
  unfold Value.okWide at hx
  rw [Tryz.underlying39] at hx
  have hc : x.cells = #[x] ∨ ∃ cs, x = .agg cs := by cases x <;> simp [Value.cells]
  rcases hc with hc | ⟨cs, rfl⟩
  · rw [hc] at hf
    exact intsZ_of_trod hw hf
  · exfalso
    simp [Cell.okWide, Cell.ok, Tryz.underlying39] at hx

/-- Are two lists one? -/
def alike : List Int → List Int → Bool := fun a b => decide (a = b)

theorem alike_same (a : List Int) : alike a a = true := by simp [alike]

set_option maxRecDepth 100000 in
set_option maxHeartbeats 1600000 in
/-- SameInts. -/
theorem sameI_any (l m : List Int) (a b : Option Addr) (c d : Nat) (w : World) (hl : NmZ w a c l) (hm : NmZ w b d m) :
    Calls Tryz.prog 26 #[.slice a l.length c, .slice b m.length d] w fun e w' => e = .returned (.bool (alike l m)) ∧ Below w.heap.size w w' := by
  have HL : Hid (LayZ w a l) := hl.1
  have HM : Hid (LayZ w b m) := hm.1
  have hln : l.length ≤ 140737488351232 := by have := hl.2.2.2.1; omega
  have hmn : m.length ≤ 140737488351232 := by have := hm.2.2.2.1; omega
  clear hl hm
  by_cases hlen : l.length = m.length
  · have hq : ((l.length : Int) == (m.length : Int)) = true := by simp; omega
    have hq2 : ((l.length : Int) != (m.length : Int)) = false := by simp; omega
    have HLE : Hid (l.length = m.length) := hlen
    clear hlen
    go_enter Tryz.func26, Tryz.ntmps26
    go_wp2_with fail
    go_loopw [5] (fun v5 wr => ∃ i : Nat, i ≤ l.length ∧ v5 = .int .i64 (i : Int) ∧ Hid (l.take i = m.take i) ∧ Hid (Below w.heap.size w wr)) (fun v5 _ => l.length - (intOf v5).toNat)
    case atStart => exact ⟨0, Nat.zero_le _, rfl, (show l.take 0 = m.take 0 from by simp), Below.refl _ _⟩
    case round =>
      obtain ⟨i, hi, rfl, HT, HB⟩ := hrel
      by_cases hlt : i < l.length
      · obtain ⟨b1, o1, rfl, r1, _⟩ := HL.out.below HB.out i l[i] (List.getElem?_eq_getElem hlt)
        have hlt2 : i < m.length := by have := HLE.out; omega
        obtain ⟨b2, o2, rfl, r2, _⟩ := HM.out.below HB.out i m[i] (List.getElem?_eq_getElem hlt2)
        by_cases he : l[i] = m[i]
        · have HT' : Hid (l.take (i + 1) = m.take (i + 1)) := by show _ = _; rw [List.take_succ_eq_append_getElem hlt, List.take_succ_eq_append_getElem hlt2, HT.out, he]
          have he1 : (l[i] == m[i]) = true := by simpa using he
          have he2 : (l[i] != m[i]) = false := by simpa using he
          clear he
          go_wp2_with fail
          go_quiet (fail)
          go_wp2_with fail
          go_roundw
          case rel => exact ⟨i + 1, by omega, by go_num, HT'.out, nxt HB.out (Below_drewN _ _ _)⟩
          case measure => simp [intOf]; omega
        · have HA : Hid (alike l m = false) := by
            show _ = _
            simp only [alike, decide_eq_false_iff_not]
            intro e
            subst e
            exact he rfl
          have he1 : (l[i] == m[i]) = false := by simpa using he
          have he2 : (l[i] != m[i]) = true := by simpa using he
          clear he
          go_wp2_with fail
          go_quiet (fail)
          go_wp2_with fail
          go_ret
          exact ⟨by rw [HA.out]; rfl, nxt HB.out (Below_drewN _ _ _)⟩
      · have HA : Hid (alike l m = true) := by
          show _ = _
          simp only [alike, decide_eq_true_eq]
          have h := HT.out
          have hle := HLE.out
          rwa [List.take_of_length_le (by omega), List.take_of_length_le (by omega)] at h
        go_wp2_with fail
        go_ret
        exact ⟨by rw [HA.out]; rfl, HB.out⟩
  · have hq : ((l.length : Int) == (m.length : Int)) = false := by simp; omega
    have hq2 : ((l.length : Int) != (m.length : Int)) = true := by simp; omega
    have HA : Hid (alike l m = false) := by
      show _ = _
      simp only [alike, decide_eq_false_iff_not]
      intro e
      exact hlen (by rw [e])
    clear hlen
    go_enter Tryz.func26, Tryz.ntmps26
    go_wp2_with fail
    go_ret
    exact ⟨by rw [HA.out]; rfl, Below.refl _ _⟩

set_option maxRecDepth 100000 in
set_option maxHeartbeats 1600000 in
/-- CopyInts. -/
theorem copyI_any (l : List Int) (a : Option Addr) (c : Nat) (w : World) (hl : NmZ w a c l) :
    Calls Tryz.prog 13 #[.slice a l.length c] w fun e w' => ∃ v, e = .returned v ∧ OwnZ w' w.heap.size v l ∧ Below w.heap.size w w' := by
  have HL : Hid (NmZ w a c l) := hl
  clear hl
  have hn : a = none → l.length = 0 ∧ c = 0 := fun e => by have := HL.out.2.1; have := HL.out.2.2.2.2.1 e; omega
  have HN : Hid (a = none → l.length = 0 ∧ c = 0) := hn
  clear hn
  have HW : Hid (∀ ad, a = some ad → ∀ i k, l[i]? = some k → w.cell? (ad.add i) = some (.int .i64 k)) := by
    intro ad e i k hk
    obtain ⟨b, off, e1, q, _⟩ := HL.out.1 i k hk
    rw [e] at e1
    cases e1
    rw [add_plain]
    exact q
  have HS : Hid ((([] : List Int).length + l.length) * 8 ≤ 140737488355328) := by show _ ≤ _; have := HL.out.2.2.2.1; simp only [List.length_nil]; omega
  go_enter Tryz.func13, Tryz.ntmps13
  go_wp2_with (refine wpList_appI _ rfl (.tmp 4) (.tmp 5) rfl w.heap.size _ [] l rfl (OwnZ.nil _ _) a c rfl HN.out HW.out HS.out (Nat.le_refl _) ?_; intro v' w' h1 h2 h3; have H1 : Hid (OwnZ w' w.heap.size v' ([] ++ l)) := h1; have H2 : Hid (w.grownBy w' (Value.slice none 0 0).ownBlock) := h2; clear h1 h2 h3)
  go_ret
  exact ⟨_, rfl, by simpa using H1.out, ⟨H2.out.os, H2.out.tape, H2.out.output, H2.out.size, fun j hj => H2.out.block j hj (by simp [Value.ownBlock])⟩⟩

theorem wpList_mkI (w : World) {ops : Array Oper} {rest : List Oper} {o : Oper} {a : Act} {Q : Exit → Act → World → Prop} (hg : o.guard = none) (l c : Operand) (hop : o.op = Op.makeSlice 39 l c)
    (n : Nat) (hl : a.eval l = .int .i64 (n : Int)) (hc : a.eval c = .int .i64 (n : Int)) (hn : n ≤ 10000)
    (hK : ∀ w', Hid (w'.heap[w.heap.size]? = some (.cells ((List.replicate n (0 : Int)).map fun k => Value.int .i64 k).toArray 3 (0, 0))) → Hid (w'.heap.size = w.heap.size + 1) → Hid (Below w.heap.size w w') → wpList Tryz.prog ops Q rest (a.put o.dst (.slice (some ⟨w.heap.size, 0, none⟩) n n)) w') : wpList Tryz.prog ops Q (o :: rest) a w := by
  obtain ⟨i0, hi, hz0, hz1, hz2⟩ := info_parts Tryz.infoInt
  refine wpList_make_row w hg l c 39 hop 3 i0 _ Tryz.underlying39 hi hz0 hz1 rfl .i64 .i64 n hl hc (by rw [hz2]; omega) (by omega) ?_
  refine hK _ ?_ (by show _ = _; simp) (below_one _ _)
  show _ = _
  have e : madeCells #[Value.int .i64 0] n = ((List.replicate n (0 : Int)).map fun k => Value.int .i64 k).toArray := by rw [← Array.toList_inj, toList_madeCells_one]; simp
  rw [e]
  exact heap_alloc_new _ _

theorem OwnZ.set {w : World} {B g n c : Nat} {ks : List Int} (h : OwnZ w B (.slice (some ⟨g, 0, none⟩) n c) ks) (j : Nat) (x : Int) :
    OwnZ (w.setCell ⟨g, j, none⟩ (.int .i64 x)) B (.slice (some ⟨g, 0, none⟩) n c) (ks.set j x) := by
  obtain ⟨h1, h2⟩ := h
  rcases h2 with ⟨h3, -⟩ | ⟨g', cap, cur, h3, h4, h5, h6, h7, h8, h9⟩
  · simp at h3
  · simp only [Value.slice.injEq, Option.some.injEq, Addr.mk.injEq, and_true] at h3
    obtain ⟨rfl, rfl, rfl⟩ := h3
    refine ⟨by simp, Or.inr ⟨g, c, _, by simp, h4, set_one_cell h5 _, by simpa using h6, h7, by simpa using h8, ?_⟩⟩
    have hc : (ks.set j x).map (fun k => Value.int .i64 k) = (ks.map fun k => Value.int .i64 k).set j (.int .i64 x) := by simp [List.map_set]
    rw [hc, ← h9]
    simp [List.take_set]

theorem OwnZ.cell {w : World} {B g n c : Nat} {ks : List Int} (h : OwnZ w B (.slice (some ⟨g, 0, none⟩) n c) ks) {j : Nat} (hj : j < ks.length) : w.cell? ⟨g, j, none⟩ = some (.int .i64 ks[j]) ∧ w.frozen? ⟨g, j, none⟩ = false := by
  have h0 := h
  obtain ⟨h1, h2⟩ := h
  rcases h2 with ⟨h3, -⟩ | ⟨g', cap, cur, h3, h4, h5, -⟩
  · simp at h3
  · simp only [Value.slice.injEq, Option.some.injEq, Addr.mk.injEq, and_true] at h3
    obtain ⟨rfl, -, rfl⟩ := h3
    obtain ⟨g2, e, q⟩ := h0.at j hj
    cases e
    rw [Nat.zero_add] at q
    exact ⟨q, (cell_of h5 j).2⟩

theorem heap_set_other {w : World} {g o j : Nat} (v : Value) (h : j ≠ g) : (w.setCell ⟨g, o, none⟩ v).heap[j]? = w.heap[j]? := by
  have : ¬ g = j := fun e => h e.symm
  simp [World.setCell, Array.getElem?_modify, this]

/-- A row's block holds whole numbers. -/
theorem OwnZ.block {w : World} {B : Nat} {v : Value} {ks : List Int} (h : OwnZ w B v ks) {g : Nat} (hg : v.ownBlock = some g) : ∃ cur, w.heap[g]? = some (.cells cur 3 (0, 0)) ∧ B ≤ g := by
  obtain ⟨h1, h2⟩ := h
  rcases h2 with ⟨rfl, _⟩ | ⟨g', cap, cur, rfl, hB, hb, _⟩
  · cases hg
  · simp only [Value.ownBlock, Option.some.injEq] at hg
    subst hg
    exact ⟨cur, hb, hB⟩

theorem OwnZ.less {w : World} {B B' : Nat} {v : Value} {l : List Int} (h : OwnZ w B v l) (hB : B' ≤ B) : OwnZ w B' v l := by
  obtain ⟨h1, h2⟩ := h
  rcases h2 with ⟨rfl, h3⟩ | ⟨g, cap, cur, rfl, hg, r⟩
  · exact ⟨h1, Or.inl ⟨rfl, h3⟩⟩
  · exact ⟨h1, Or.inr ⟨g, cap, cur, rfl, by omega, r⟩⟩

theorem grown_below {w w' : World} {B : Nat} {v : Value} {l : List Int} (h : OwnZ w B v l) (hg : w.grownBy w' v.ownBlock) (hB : B ≤ w.heap.size) : Below B w w' :=
  ⟨hg.os, hg.tape, hg.output, hg.size, fun j hj => hg.block j (by omega) (fun e => by have := (h.lt j e.symm).1; omega)⟩

end Go.Proofs.YtcdnakcojanaeabGreat
