/-
  eval's small functions: a search in a row of numbers, want, the values that are made, a truth, one part's fuel.
-/
import Derived.Test.YtndclldicdfmeaaGreatVaSmall
import Derived.Test.YtndclldicdfmeaaGreatVaPair
namespace Go.Proofs.YtndclldicdfmeaaGreat
open Go.ChangeShapes Go.WideShapes Go.ChangeAt Go.RowKit

/-- A row of numbers. -/
def LayZ (w : World) (a : Option Addr) (ks : List Int) : Prop := ∀ i v, ks[i]? = some v → ∃ b off, a = some ⟨b, off, none⟩ ∧ w.cell? ⟨b, off + i, none⟩ = some (.int .i64 v) ∧ -9223372036854775808 ≤ v ∧ v ≤ 9223372036854775807

theorem LayZ.one {w : World} {g : Nat} {k : Int} (h : w.cell? ⟨g, 0, none⟩ = some (.int .i64 k)) (h1 : -9223372036854775808 ≤ k) (h2 : k ≤ 9223372036854775807) : LayZ w (some ⟨g, 0, none⟩) [k] := by
  intro i v hv
  cases i with
  | zero => simp at hv; subst hv; exact ⟨g, 0, rfl, h, h1, h2⟩
  | succ i => simp at hv

theorem LayZ.below {w w' : World} {a : Option Addr} {ks : List Int} (h : LayZ w a ks) (hb : Below w.heap.size w w') : LayZ w' a ks := by
  intro i v hv
  obtain ⟨b, off, ha, hc, hw⟩ := h i v hv
  exact ⟨b, off, ha, keepc hb _ _ hc, hw⟩

/-- Where a number first is in a list. -/
def ixZ : List Int → Int → Option Nat
  | [], _ => none
  | y :: r, x => if x = y then some 0 else (ixZ r x).map (· + 1)

theorem ixZ_none {l : List Int} {x : Int} : ixZ l x = none ↔ ¬ x ∈ l := by
  induction l with
  | nil => simp [ixZ]
  | cons y r ih =>
    simp only [ixZ, List.mem_cons]
    split
    · rename_i h; simp [h]
    · rename_i h; simp [h, ih]

theorem ixZ_contains (l : List Int) (x : Int) : (ixZ l x).isSome = l.contains x := by
  cases h : ixZ l x with
  | none =>
    have := ixZ_none.1 h
    simp [this]
  | some p =>
    have : x ∈ l := by
      rcases Classical.em (x ∈ l) with h' | h'
      · exact h'
      · rw [ixZ_none.2 h'] at h; cases h
    simp [this]

def ixI (l : List Int) (x : Int) : Int := match ixZ l x with
  | some p => (p : Int)
  | none => -1

theorem ixZ_take : ∀ {l : List Int} {x : Int} {i : Nat} {y : Int}, (∀ m z, m < i → l[m]? = some z → ¬ x = z) → l[i]? = some y → x = y → ixZ l x = some i
  | [], _, _, _, _, h, _ => by simp at h
  | z :: r, x, 0, y, _, h, e => by simp at h; subst h; simp [ixZ, e]
  | z :: r, x, i + 1, y, h1, h, e => by
    have hz := h1 0 z (by omega) (by simp)
    have := ixZ_take (l := r) (i := i) (fun m u hm hu => h1 (m + 1) u (by omega) (by simpa using hu)) (by simpa using h) e
    simp [ixZ, hz, this]

set_option maxRecDepth 100000 in
set_option maxHeartbeats 1600000 in
theorem indexZ_any (ks : List Int) (x : Int) (a : Option Addr) (c : Nat) (w : World) (hl : LayZ w a ks) (hn : ks.length ≤ 140737488351232) :
    Calls Tryz.prog 145 #[.slice a ks.length c, .int .i64 x] w fun e w' => e = .returned (.int .i64 (ixI ks x)) ∧ w' = w := by
  have HL : Hid (LayZ w a ks) := hl
  clear hl
  go_enter Tryz.func145, Tryz.ntmps145
  go_wp2_with fail
  go_loopw [8] (fun v8 wr => ∃ i : Nat, i ≤ ks.length ∧ v8 = .int .i64 (i : Int) ∧ Hid (∀ m z, m < i → ks[m]? = some z → ¬ x = z) ∧ wr = w) (fun v8 _ => ks.length - (intOf v8).toNat)
  case atStart => exact ⟨0, Nat.zero_le _, rfl, (show ∀ m z, m < 0 → ks[m]? = some z → ¬ x = z from fun m z h => by omega), rfl⟩
  case round =>
    obtain ⟨i, hi, rfl, HN, rfl⟩ := hrel
    by_cases hlt : i < ks.length
    · obtain ⟨b, o, ha, r1, _⟩ := HL.out i ks[i] (List.getElem?_eq_getElem hlt)
      subst ha
      have HG : Hid (ks[i]? = some ks[i]) := List.getElem?_eq_getElem hlt
      by_cases he : x = ks[i]
      · have HR : Hid (ixI ks x = (i : Int)) := by show _ = _; unfold ixI; rw [ixZ_take HN.out HG.out he]
        have he1 : (x == ks[i]) = true := by simpa using he
        clear he HG HN
        generalize ks[i] = y at *
        go_wp2_with fail
        go_ret
        exact ⟨by rw [HR.out]; rfl, rfl⟩
      · have HN' : Hid (∀ m z, m < i + 1 → ks[m]? = some z → ¬ x = z) := by
          intro m z hm hz
          by_cases e : m = i
          · subst e
            rw [HG.out] at hz
            cases hz
            exact he
          · exact HN.out m z (by omega) hz
        have he1 : (x == ks[i]) = false := by simpa using he
        clear he HG HN
        generalize ks[i] = y at *
        go_wp2_with fail
        go_roundw
        case rel => exact ⟨i + 1, by omega, by go_num, HN'.out, trivial⟩
        case measure => simp [intOf]; omega
    · have HR : Hid (ixI ks x = -1) := by
        show _ = _
        unfold ixI
        have : ixZ ks x = none := ixZ_none.2 fun hm => by
          obtain ⟨m, hm1, hm2⟩ := List.getElem_of_mem hm
          exact HN.out m ks[m] (by omega) (List.getElem?_eq_getElem hm1) hm2.symm
        rw [this]
      clear HN
      go_wp2_with fail
      go_ret
      exact ⟨by rw [HR.out]; rfl, rfl⟩

set_option maxRecDepth 100000 in
theorem containsZ_any (ks : List Int) (x : Int) (a : Option Addr) (c : Nat) (w : World) (hl : LayZ w a ks) (hn : ks.length ≤ 140737488351232) :
    Calls Tryz.prog 105 #[.slice a ks.length c, .int .i64 x] w fun e w' => e = .returned (.bool (ks.contains x)) ∧ w' = w := by
  have HC : Hid (Calls Tryz.prog 145 #[.slice a ks.length c, .int .i64 x] w _) := indexZ_any ks x a c w hl hn
  have HE : Hid (ks.contains x = (ixZ ks x).isSome) := (ixZ_contains ks x).symm
  rw [HE.out]
  clear hl HE
  cases h : ixZ ks x with
  | none =>
    have HR : Hid (ixI ks x = -1) := by show _ = _; unfold ixI; rw [h]
    rw [HR.out] at HC
    clear h
    go_enter Tryz.func105, Tryz.ntmps105
    go_wp2_with (go_at_call 145; refine HC.out.mono ?_; rintro e w1 ⟨rfl, hb1⟩; subst hb1)
    go_ret
    exact ⟨rfl, rfl⟩
  | some p =>
    have HR : Hid (ixI ks x = (p : Int)) := by show _ = _; unfold ixI; rw [h]
    rw [HR.out] at HC
    clear h
    go_enter Tryz.func105, Tryz.ntmps105
    go_wp2_with (go_at_call 145; refine HC.out.mono ?_; rintro e w1 ⟨rfl, hb1⟩; subst hb1)
    go_ret
    exact ⟨by simp, rfl⟩

theorem fresh5 (w : World) (a0 a1 a2 a3 a4 : Value) (t : TypeId) : (w.alloc (.cells #[a0, a1, a2, a3, a4] t)).cell? ⟨w.heap.size, 0, none⟩ = some a0 ∧ (w.alloc (.cells #[a0, a1, a2, a3, a4] t)).cell? ⟨w.heap.size, 1, none⟩ = some a1 ∧
    (w.alloc (.cells #[a0, a1, a2, a3, a4] t)).cell? ⟨w.heap.size, 2, none⟩ = some a2 ∧ (w.alloc (.cells #[a0, a1, a2, a3, a4] t)).cell? ⟨w.heap.size, 3, none⟩ = some a3 ∧ (w.alloc (.cells #[a0, a1, a2, a3, a4] t)).cell? ⟨w.heap.size, 4, none⟩ = some a4 := by
  have := box_cells (heap_alloc_new w (.cells #[a0, a1, a2, a3, a4] t))
  exact ⟨this.1, this.2.1, this.2.2.1, this.2.2.2.1, this.2.2.2.2.1⟩

theorem fresh5b (w : World) (o : Obj) (a0 a1 a2 a3 a4 : Value) (t : TypeId) : ((w.alloc o).alloc (.cells #[a0, a1, a2, a3, a4] t)).cell? ⟨w.heap.size + 1, 0, none⟩ = some a0 ∧ ((w.alloc o).alloc (.cells #[a0, a1, a2, a3, a4] t)).cell? ⟨w.heap.size + 1, 1, none⟩ = some a1 ∧
    ((w.alloc o).alloc (.cells #[a0, a1, a2, a3, a4] t)).cell? ⟨w.heap.size + 1, 2, none⟩ = some a2 ∧ ((w.alloc o).alloc (.cells #[a0, a1, a2, a3, a4] t)).cell? ⟨w.heap.size + 1, 3, none⟩ = some a3 ∧ ((w.alloc o).alloc (.cells #[a0, a1, a2, a3, a4] t)).cell? ⟨w.heap.size + 1, 4, none⟩ = some a4 := by
  have := fresh5 (w.alloc o) a0 a1 a2 a3 a4 t
  simp at this ⊢

/-- A panic with an error's number. -/
def thrown (er : Int) : Ending := .panicked [{ v := .iface 38 (.int .i64 er), recovered := false }]

set_option maxRecDepth 100000 in
theorem want_ok (ks : List Int) (k b : Int) (t : ByteArray) (ka : Option Addr) (kl kc : Nat) (ia : Option Addr) (il ic : Nat) (a : Option Addr) (c : Nat) (w : World) (hl : LayZ w a ks) (hn : ks.length ≤ 140737488351232) (hk : ks.contains k = true) :
    Calls Tryz.prog 69 #[mk k b t ka kl kc ia il ic, .slice a ks.length c] w fun e w' => e = .returned (mk k b t ka kl kc ia il ic) ∧ Below w.heap.size w w' := by
  have HC : Hid (∀ w', Below w.heap.size w w' → Calls Tryz.prog 105 #[.slice a ks.length c, .int .i64 k] w' fun e w2 => e = .returned (.bool true) ∧ w2 = w') := fun w' h => by
    rw [← hk]; exact containsZ_any ks k a c w' (hl.below h) hn
  clear hl hk
  generalize ks.length = n at *
  go_enter Tryz.func69, Tryz.ntmps69
  go_wp2_with (go_at_call 105; refine (HC.out _ (nxt (below_one _ _) (below_one _ _))).mono ?_; rintro e w1 ⟨rfl, rfl⟩)
  obtain ⟨z0, z1, z2, z3, z4⟩ := fresh5b w (.cells #[.int .i64 k, .int .u64 b, .string t, .slice ka kl kc, .slice ia il ic] 29) (.int .i64 k) (.int .u64 b) (.string t) (.slice ka kl kc) (.slice ia il ic) 29
  refine bodyPost_ret (v := mk k b t ka kl kc ia il ic) (by simp [results, Tryz.results69, go_sem, z0, z1, z2, z3, z4]) rfl ⟨rfl, nxt (below_one _ _) (below_one _ _)⟩

set_option maxRecDepth 100000 in
theorem want_no (ks : List Int) (k b : Int) (t : ByteArray) (ka : Option Addr) (kl kc : Nat) (ia : Option Addr) (il ic : Nat) (a : Option Addr) (c : Nat) (w : World) (hl : LayZ w a ks) (hn : ks.length ≤ 140737488351232) (hk : ks.contains k = false) :
    Calls Tryz.prog 69 #[mk k b t ka kl kc ia il ic, .slice a ks.length c] w fun e w' => e = thrown 81 ∧ Below w.heap.size w w' := by
  have HC : Hid (∀ w', Below w.heap.size w w' → Calls Tryz.prog 105 #[.slice a ks.length c, .int .i64 k] w' fun e w2 => e = .returned (.bool false) ∧ w2 = w') := fun w' h => by
    rw [← hk]; exact containsZ_any ks k a c w' (hl.below h) hn
  clear hl hk
  generalize ks.length = n at *
  go_enter Tryz.func69, Tryz.ntmps69
  go_wp2_with (go_at_call 105; refine (HC.out _ (nxt (below_one _ _) (below_one _ _))).mono ?_; rintro e w1 ⟨rfl, rfl⟩)
  exact ⟨rfl, rfl, (nxt (below_one _ _) (below_one _ _) : Below w.heap.size w ((w.alloc _).alloc _))⟩

theorem numberOf_any (b : Int) (w : World) : Calls Tryz.prog 45 #[.int .u64 b] w fun e w' => e = .returned (mk 2 b ⟨#[]⟩ none 0 0 none 0 0) ∧ Below w.heap.size w w' := by
  go_enter Tryz.func45, Tryz.ntmps45
  go_wp2_with fail
  obtain ⟨z0, z1, z2, z3, z4⟩ := fresh5 w (.int .i64 2) (.int .u64 b) (.string ⟨#[]⟩) (.slice none 0 0) (.slice none 0 0) 29
  refine bodyPost_ret (v := mk 2 b ⟨#[]⟩ none 0 0 none 0 0) (by simp [results, Tryz.results45, go_sem, z0, z1, z2, z3, z4]) rfl ⟨rfl, below_one _ _⟩

theorem textOf_any (t : ByteArray) (w : World) : Calls Tryz.prog 46 #[.string t] w fun e w' => e = .returned (mk 3 0 t none 0 0 none 0 0) ∧ Below w.heap.size w w' := by
  go_enter Tryz.func46, Tryz.ntmps46
  go_wp2_with fail
  obtain ⟨z0, z1, z2, z3, z4⟩ := fresh5 w (.int .i64 3) (.int .u64 0) (.string t) (.slice none 0 0) (.slice none 0 0) 29
  refine bodyPost_ret (v := mk 3 0 t none 0 0 none 0 0) (by simp [results, Tryz.results46, go_sem, z0, z1, z2, z3, z4]) rfl ⟨rfl, below_one _ _⟩

theorem truthOf_any (b : Bool) (w : World) : Calls Tryz.prog 44 #[.bool b] w fun e w' => e = .returned (mk 1 (if b then 1 else 0) ⟨#[]⟩ none 0 0 none 0 0) ∧ Below w.heap.size w w' := by
  cases b
  · go_enter Tryz.func44, Tryz.ntmps44
    go_wp2_with fail
    obtain ⟨z0, z1, z2, z3, z4⟩ := fresh5 w (.int .i64 1) (.int .u64 0) (.string ⟨#[]⟩) (.slice none 0 0) (.slice none 0 0) 29
    refine bodyPost_ret (v := mk 1 0 ⟨#[]⟩ none 0 0 none 0 0) (by simp [results, Tryz.results44, go_sem, z0, z1, z2, z3, z4]) rfl ⟨rfl, below_one _ _⟩
  · go_enter Tryz.func44, Tryz.ntmps44
    go_wp2_with fail
    obtain ⟨z0, z1, z2, z3, z4⟩ := fresh5 w (.int .i64 1) (.int .u64 1) (.string ⟨#[]⟩) (.slice none 0 0) (.slice none 0 0) 29
    refine bodyPost_ret (v := mk 1 1 ⟨#[]⟩ none 0 0 none 0 0) (by simp [results, Tryz.results44, go_sem, z0, z1, z2, z3, z4]) rfl ⟨rfl, below_one _ _⟩

theorem isTrue_any (k b : Int) (t : ByteArray) (ka : Option Addr) (kl kc : Nat) (ia : Option Addr) (il ic : Nat) (w : World) :
    Calls Tryz.prog 29 #[mk k b t ka kl kc ia il ic] w fun e w' => e = .returned (.bool (b == 1)) ∧ Below w.heap.size w w' := by
  go_enter Tryz.func29, Tryz.ntmps29
  go_wp2_with fail
  go_ret
  exact ⟨rfl, by repeat' (first | exact Below.refl _ _ | (refine Below.setCell ?_ (by simp) _) | (refine Below.alloc ?_ (by simp) _))⟩
end Go.Proofs.YtndclldicdfmeaaGreat
