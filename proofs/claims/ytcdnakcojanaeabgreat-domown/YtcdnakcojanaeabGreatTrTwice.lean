/-
  Two kids with one key: the program's keyTwice by a map, the page's twice by two loops.
-/
import Derived.Test.YtcdnakcojanaeabGreatTrNode
import Derived.Maps.OwnSet
import Derived.Maps.AppendAt
namespace Go.Proofs.YtcdnakcojanaeabGreat
open Go.ChangeShapes Go.WideShapes Go.ChangeAt Go.RowKit Go.Maps Go.WideMaps

/-- A kid: its five cells. -/
theorem LayI.at {w : World} {n : Nat} {ia : Option Addr} {its : List (T n)} (h : LayI w (LayT w n) ia its) (m : Nat) (hm : m < its.length) :
    ∃ b o g k t aa al ac ja jl jc, ia = some ⟨b, o, none⟩ ∧ w.cell? ⟨b, o + m * 5, none⟩ = some (.string g) ∧ w.cell? ⟨b, o + m * 5 + 1, none⟩ = some (.string k) ∧ w.cell? ⟨b, o + m * 5 + 2, none⟩ = some (.string t) ∧
      w.cell? ⟨b, o + m * 5 + 3, none⟩ = some (.slice aa al ac) ∧ w.cell? ⟨b, o + m * 5 + 4, none⟩ = some (.slice ja jl jc) ∧ LayT w n (mkT g k t aa al ac ja jl jc) its[m] ∧ tagT its[m] = g ∧ keyT its[m] = k ∧ k.size ≤ 140737488351232 := by
  obtain ⟨b, o, c0, c1, c2, c3, c4, e, q0, q1, q2, q3, q4, hl⟩ := h m its[m] (by simp [hm])
  generalize its[m] = v at hl ⊢
  cases n with
  | zero => exact v.elim
  | succ n =>
    obtain ⟨g, k, t, ats, js⟩ := v
    have hl0 := hl
    obtain ⟨aa, ac, ja, jc, hx, hfit, _⟩ := hl
    simp only [Value.agg.injEq, Array.mk.injEq, List.cons.injEq, and_true] at hx
    obtain ⟨rfl, rfl, rfl, rfl, rfl⟩ := hx
    exact ⟨b, o, g, k, t, _, _, _, _, _, _, e, q0, q1, q2, q3, q4, hl0, rfl, rfl, hfit.2.1⟩

theorem keys_at {n : Nat} {its : List (T n)} {m : Nat} (h : m < its.length) : (keysT its)[m]? = some (keyT its[m]) := by simp [keysT, h]
theorem keys_length {n : Nat} (its : List (T n)) : (keysT its).length = its.length := by simp [keysT]

theorem twAt_at {ks : List ByteArray} {m : Nat} {k : ByteArray} (h : ks[m]? = some k) : twAt ks m = (decide (¬ k.size = 0) && (ks.take m).any (fun x => x.toList == k.toList)) := by
  unfold twAt
  rw [h]

def litK (k : ByteArray) : Lit := .string k.data.toList
/-- The keys that were seen, not the empty ones. -/
def skK (ks : List ByteArray) (m : Nat) : List ByteArray := (ks.take m).filter fun k => decide (¬ k.size = 0)
def Sd (ks : List ByteArray) (m : Nat) : DataW Unit := setOf (.agg []) ((skK ks m).map litK)

theorem has_Sd {ks : List ByteArray} {m : Nat} {k : ByteArray} (hk : ¬ k.size = 0) : Maps.has (Sd ks m) (litK k) = (ks.take m).any (fun x => x.toList == k.toList) := by
  unfold Sd
  rw [has_setOf _ _ _ (fun x hx => by obtain ⟨y, -, rfl⟩ := List.mem_map.1 hx; trivial), List.any_map]
  unfold skK
  rw [List.any_filter]
  congr 1
  funext x
  simp only [Function.comp, litK, Lit.sameKey, ByteArray.toList_eq]
  by_cases e : x.data.toList = k.data.toList
  · have : x.size = k.size := by
      have h1 : x.data.toList.length = x.size := by cases x; rfl
      have h2 : k.data.toList.length = k.size := by cases k; rfl
      rw [← h1, ← h2, e]
    rw [decide_eq_true (by omega)]
    simp [e]
  · have : (x.data.toList == k.data.toList) = false := by simpa using e
    rw [this, Bool.and_false]

theorem take_snoc' {ks : List ByteArray} {m : Nat} {k : ByteArray} (h : ks[m]? = some k) : ks.take (m + 1) = ks.take m ++ [k] := by
  rw [List.take_add_one, h]; rfl
theorem Sd_old {ks : List ByteArray} {m : Nat} {k : ByteArray} (h : ks[m]? = some k) (hk : k.size = 0) : Sd ks (m + 1) = Sd ks m := by
  unfold Sd skK
  rw [take_snoc' h, List.filter_append]
  have : List.filter (fun k : ByteArray => decide (¬ k.size = 0)) [k] = [] := by rw [List.filter_cons, if_neg (by rw [decide_eq_false (by simpa using hk)]; decide), List.filter_nil]
  rw [this, List.append_nil]
theorem Sd_new {ks : List ByteArray} {m : Nat} {k : ByteArray} (h : ks[m]? = some k) (hk : ¬ k.size = 0) : Sd ks (m + 1) = (Sd ks m).put (litK k) (.agg []) := by
  unfold Sd skK
  rw [take_snoc' h, List.filter_append]
  simp only [List.filter_cons, hk, not_false_eq_true, decide_true, if_true, List.filter_nil, List.map_append, List.map_cons, List.map_nil]
  exact setOf_snoc _ _ _

theorem lawStr : Keyed Tryz.prog 9 := string_keyed Tryz.underlying9
theorem zeroUnit (w : World) : (zeroValue 100).run Tryz.prog w = .ok (.agg #[]) w := by kernel_rfl

set_option maxRecDepth 100000 in
set_option maxHeartbeats 3200000 in
theorem twice_any {n : Nat} (its : List (T n)) (ia : Option Addr) (ic : Nat) (w : World) (hI : LayI w (LayT w n) ia its) (hl : its.length * 96 ≤ 140737488351232) :
    Calls Tryz.prog 96 #[.slice ia its.length ic] w fun e w' => e = .returned (.bool (twB (keysT its))) ∧ Below w.heap.size w w' := by
  have HI : Hid (LayI w (LayT w n) ia its) := hI
  have hmm := @run_makeMap Tryz.prog
  have HKL := keys_length its
  have HK : Hid (∀ m (h : m < its.length), (keysT its)[m]? = some (keyT its[m])) := fun m h => keys_at h
  generalize keysT its = ks at *
  have HKL2 : Hid (ks.length = its.length) := HKL
  clear hI HKL
  go_enter Tryz.func96, Tryz.ntmps96
  go_wp2
  go_loopw [11] (fun i wr => ∃ m : Nat, m ≤ its.length ∧ i = .int .i64 m ∧ Hid (wr.ownsMap Tryz.prog 9 unitElem w.heap.size m (Sd ks m)) ∧ Hid (∀ j, j < m → twAt ks j = false) ∧ Hid (Below w.heap.size w wr) ∧ w.heap.size + 1 ≤ wr.heap.size) (fun i _ => its.length - (intOf i).toNat)
  case atStart => exact ⟨0, Nat.zero_le _, rfl, World.ownsMap_made _ _ _ _, (fun j h => by omega), (Below.refl _ _).alloc (Nat.le_refl _) _, by simp⟩
  case round =>
    obtain ⟨m, hm, rfl, HM, HZ, HW, hws⟩ := hrel
    by_cases hlt : m < its.length
    · obtain ⟨b, o, g, k, t, aa, al, ac, ja, jl, jc, rfl, q0, q1, q2, q3, q4, -, -, hk, hks⟩ := (LayI.below HI.out HW.out).at m hlt
      have hm1 : (m : Int) < (its.length : Int) := by omega
      have HKM : Hid (ks[m]? = some k) := by show _ = _; rw [HK.out m hlt, hk]
      have hkey : keyOf Tryz.prog 9 (.string k) = some (litK k) := keyOf_string_mk Tryz.underlying9 (by unfold maxLen; omega)
      clear hk
      have HM2 : Hid ((wr.alloc (.cells #[.string g, .string k, .string t, .slice aa al ac, .slice ja jl jc] 53)).ownsMap Tryz.prog 9 unitElem w.heap.size m (Sd ks m)) := HM.out.alloc _
      have B2 : Hid (Below w.heap.size w (wr.alloc (.cells #[.string g, .string k, .string t, .slice aa al ac, .slice ja jl jc] 53))) := HW.out.alloc HW.out.size _
      by_cases hz : k.size = 0
      · have hd := empty_true hz
        have E : Hid (∀ j, j < m + 1 → twAt ks j = false) := fun j hj => by
          by_cases e : j = m
          · subst e; rw [twAt_at HKM.out, decide_eq_false (by simpa using hz), Bool.false_and]
          · exact HZ.out j (by omega)
        have HS : Hid (Sd ks (m + 1) = Sd ks m) := Sd_old HKM.out hz
        go_wp2_with fail
        go_roundw
        case rel => exact ⟨m + 1, by omega, by go_num, by rw [HS.out]; exact HM2.out.mono (Nat.le_succ _), E.out, B2.out, by simp; omega⟩
        case measure => simp [intOf]; omega
      · have hd := empty_false hz
        have HH : Hid (Maps.has (Sd ks m) (litK k) = (ks.take m).any (fun x => x.toList == k.toList)) := has_Sd hz
        have HA : Hid (twAt ks m = Maps.has (Sd ks m) (litK k)) := by show _ = _; rw [twAt_at HKM.out, HH.out, decide_eq_true hz, Bool.true_and]
        have HS : Hid (Sd ks (m + 1) = _) := Sd_new HKM.out hz
        clear hz
        generalize hsd : Sd ks m = D at *
        clear hsd
        cases hc : Maps.has D (litK k)
        · have hmx : m < maxLen := by unfold maxLen; omega
          have E : Hid (∀ j, j < m + 1 → twAt ks j = false) := fun j hj => by
            by_cases e : j = m
            · subst e; rw [HA.out, hc]
            · exact HZ.out j (by omega)
          go_wp2_with (first
            | (at_lookup; refine wpList_lookup_own_unit _ rfl _ _ 123 rfl 9 100 lawStr Tryz.underlying123 (zeroUnit _) w.heap.size m D rfl HM2.out _ _ rfl hkey ?_; rw [hc])
            | (at_mapUpdate; refine wpList_mapUpdate_own _ rfl _ _ _ 123 rfl 9 100 lawStr Tryz.underlying123 (unitElem (H := Unit)) w.heap.size m D rfl (HM2.out.alloc _) hmx _ _ _ rfl rfl hkey _ [] unitElem_mk ?_; intro w1 hown1 hgrow1))
          have s1 := hgrow1.size
          simp at s1
          go_roundw
          case rel => exact ⟨m + 1, by omega, by go_num, by rw [HS.out]; exact hown1, E.out, (B2.out.alloc B2.out.size _).grown hgrow1 (by simp; omega) (fun j hj => by cases hj; exact Nat.le_refl _), by omega⟩
          case measure => simp [intOf]; omega
        · have E : Hid (twB ks = true) := any_range_true (i := m) (by rw [HKL2.out]; exact hlt) (by rw [HA.out, hc])
          go_wp2_with (at_lookup; refine wpList_lookup_own_unit _ rfl _ _ 123 rfl 9 100 lawStr Tryz.underlying123 (zeroUnit _) w.heap.size m D rfl HM2.out _ _ rfl hkey ?_; rw [hc])
          go_ret
          exact ⟨by rw [E.out]; rfl, B2.out.alloc B2.out.size _⟩
    · have hme : m = its.length := by omega
      subst hme
      have E : Hid (twB ks = false) := any_range.2 (fun i hi => HZ.out i (by rw [HKL2.out] at hi; exact hi))
      go_wp2_with fail
      go_ret
      exact ⟨by rw [E.out]; rfl, HW.out⟩

end Go.Proofs.YtcdnakcojanaeabGreat
