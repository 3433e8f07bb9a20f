/-
  May a part be, but for its items? What the program's and the page's functions answer.
-/
import Derived.Test.YtndclldicdfmeaaGreatVaSame
import Derived.Test.YtndclldicdfmeaaGreatFlWalks
namespace Go.Proofs.YtndclldicdfmeaaGreat
open Go.ChangeShapes Go.WideShapes Go.ChangeAt Go.RowKit
open Fl

/-- May a text be a key? -/
def keyB (s : ByteArray) : Bool := decide (1 ≤ s.size) && decide (s.size ≤ 16)

/-- Is a key one that may be, and behind the one ahead of it? -/
def goodAt (ks : List ByteArray) (i : Nat) : Bool := keyB (ks.getD i ⟨#[]⟩) && (i == 0 || Op.bytesLess (ks.getD (i - 1) ⟨#[]⟩).toList (ks.getD i ⟨#[]⟩).toList)

/-- May keys be, and do they rise? -/
def keysB (ks : List ByteArray) : Bool := (List.range ks.length).all (goodAt ks)

/-- May a part be, but for its items? -/
def mayB (k b : Int) (t : ByteArray) (ks : List ByteArray) (il : Nat) : Bool :=
  if k = 0 then b == 0 && (t.toList.isEmpty && ((ks.length : Int) == 0 && (il : Int) == 0))
  else if k = 1 then decide (b ≤ 1) && (t.toList.isEmpty && ((ks.length : Int) == 0 && (il : Int) == 0))
  else if k = 2 then can b == b && (t.toList.isEmpty && ((ks.length : Int) == 0 && (il : Int) == 0))
  else if k = 3 then b == 0 && (decide ((t.size : Int) ≤ 128) && ((ks.length : Int) == 0 && (il : Int) == 0))
  else if k = 4 then b == 0 && (t.toList.isEmpty && ((ks.length : Int) == 0 && decide ((il : Int) ≤ 32)))
  else if k = 5 then b == 0 && (t.toList.isEmpty && (decide ((il : Int) ≤ 32) && ((ks.length : Int) == il && keysB ks)))
  else false

theorem key_any (s : ByteArray) (w : World) (h : s.size ≤ 140737488351232) :
    Calls Tryz.prog 139 #[.string s] w fun e w' => e = .returned (.bool (keyB s)) ∧ w' = w := by
  by_cases h1 : 1 ≤ s.size
  · have HB : Hid (keyB s = decide (s.size ≤ 16)) := by simp [Hid, keyB, h1]
    have h2 : (1 : Int) ≤ (s.size : Int) := by omega
    go_enter Tryz.func139, Tryz.ntmps139
    go_wp2_with fail
    go_ret
    exact ⟨ret_bool (by rw [HB.out]; simp; omega), rfl⟩
  · have HB : Hid (keyB s = false) := by simp [Hid, keyB, h1]
    have h2 : ¬ (1 : Int) ≤ (s.size : Int) := by omega
    go_enter Tryz.func139, Tryz.ntmps139
    go_wp2_with fail
    go_ret
    exact ⟨ret_bool HB.out.symm, rfl⟩


theorem rkey_any (s : ByteArray) (w : World) (h : s.size ≤ 140737488351232) :
    Calls Tryz.prog 64 #[.string s] w fun e w' => e = .returned (.bool (keyB s)) ∧ w' = w := by
  by_cases h1 : 1 ≤ s.size
  · have HB : Hid (keyB s = decide (s.size ≤ 16)) := by simp [Hid, keyB, h1]
    have h2 : (1 : Int) ≤ (s.size : Int) := by omega
    go_enter Tryz.func64, Tryz.ntmps64
    go_wp2_with fail
    go_ret
    exact ⟨ret_bool (by rw [HB.out]; simp; omega), rfl⟩
  · have HB : Hid (keyB s = false) := by simp [Hid, keyB, h1]
    have h2 : ¬ (1 : Int) ≤ (s.size : Int) := by omega
    go_enter Tryz.func64, Tryz.ntmps64
    go_wp2_with fail
    go_ret
    exact ⟨ret_bool HB.out.symm, rfl⟩

theorem getD_at {ks : List ByteArray} {i : Nat} (h : i < ks.length) : ks.getD i ⟨#[]⟩ = ks[i] := by simp [List.getD, h]

theorem goodAt_zero {ks : List ByteArray} (h : 0 < ks.length) : goodAt ks 0 = keyB ks[0] := by simp [goodAt, h]

theorem goodAt_succ {ks : List ByteArray} {i : Nat} (h : i < ks.length) (h0 : 0 < i) : goodAt ks i = (keyB ks[i] && Op.bytesLess (ks[i - 1]'(by omega)).toList ks[i].toList) := by
  have e : (i == 0) = false := by simp; omega
  have h1 : i - 1 < ks.length := by omega
  simp [goodAt, h, h1, e]

theorem keysB_true {ks : List ByteArray} (h : ∀ j, j < ks.length → goodAt ks j = true) : keysB ks = true := by
  unfold keysB
  rw [List.all_eq_true]
  intro j hj
  exact h j (List.mem_range.1 hj)

theorem keysB_false {ks : List ByteArray} {j : Nat} (hj : j < ks.length) (h : goodAt ks j = false) : keysB ks = false := by
  unfold keysB
  rw [List.all_eq_false]
  exact ⟨j, List.mem_range.2 hj, by rw [h]; simp⟩

theorem good_next {ks : List ByteArray} {m : Nat} (h : ∀ j, j < m → goodAt ks j = true) (hm : goodAt ks m = true) : ∀ j, j < m + 1 → goodAt ks j = true := by
  intro j hj
  by_cases e : j = m
  · rw [e]; exact hm
  · exact h j (by omega)

set_option maxRecDepth 100000 in
set_option maxHeartbeats 1600000 in
theorem keys_any (ks : List ByteArray) (ka : Option Addr) (kc : Nat) (w : World) (hk : LayS w ka ks) (bk : ks.length * 16 ≤ 140737488351232) :
    Calls Tryz.prog 99 #[.slice ka ks.length kc] w fun e w' => e = .returned (.bool (keysB ks)) ∧ w' = w := by
  have HK : Hid (LayS w ka ks) := hk
  clear hk
  go_enter Tryz.func99, Tryz.ntmps99
  go_wp2_with fail
  go_loopw [7] (fun i wr => ∃ m : Nat, m ≤ ks.length ∧ i = .int .i64 m ∧ Hid (∀ j, j < m → goodAt ks j = true) ∧ wr = w) (fun i _ => ks.length - (intOf i).toNat)
  case atStart => exact ⟨0, Nat.zero_le _, rfl, fun j hj => by omega, rfl⟩
  case round =>
    obtain ⟨m, hm, rfl, HG, rfl⟩ := hrel
    by_cases hlt : m < ks.length
    · obtain ⟨b1, o1, rfl, q1, z1⟩ := HK.out m ks[m] (by simp [hlt])
      by_cases hkey : keyB ks[m] = true
      · by_cases h0 : 0 < m
        · obtain ⟨b2, o2, e2, q2, z2⟩ := HK.out (m - 1) (ks[m - 1]'(by omega)) (by simp)
          cases e2
          have hm1 : ((m : Int) - 1).toNat = m - 1 := by omega
          have HS := goodAt_succ hlt h0
          rw [hkey] at HS
          have HS' : Hid (goodAt ks m = (true && Op.bytesLess (ks[m - 1]'(by omega)).toList ks[m].toList)) := HS
          clear HS
          by_cases hless : Op.bytesLess (ks[m - 1]'(by omega)).toList ks[m].toList = true
          · go_wp2_with (go_at_call 139; refine (key_any _ _ z1).mono ?_; rintro e w' ⟨rfl, rfl⟩)
            go_roundw
            case rel => exact ⟨m + 1, by omega, by go_num, good_next HG.out (by rw [HS'.out, hless]; rfl), by first | trivial | rfl⟩
            case measure => simp [intOf]; omega
          · have hl : Op.bytesLess (ks[m - 1]'(by omega)).toList ks[m].toList = false := by simpa using hless
            go_wp2_with (go_at_call 139; refine (key_any _ _ z1).mono ?_; rintro e w' ⟨rfl, rfl⟩)
            go_ret
            exact ⟨ret_bool (keysB_false hlt (by rw [HS'.out, hl]; rfl)).symm, rfl⟩
        · have hz : m = 0 := by omega
          subst hz
          have q0 : wr.cell? ⟨b1, o1, none⟩ = some (.string ks[0]) := by simpa using q1
          go_wp2_with (go_at_call 139; refine (key_any _ _ z1).mono ?_; rintro e w' ⟨rfl, rfl⟩)
          go_roundw
          case rel => exact ⟨1, by omega, by go_num, good_next HG.out (by rw [goodAt_zero hlt]; exact hkey), by first | trivial | rfl⟩
          case measure => simp [intOf]; omega
      · have hkf : keyB ks[m] = false := by simpa using hkey
        have HF : Hid (goodAt ks m = false) := by
          by_cases h0 : 0 < m
          · exact (goodAt_succ hlt h0).trans (by rw [hkf]; rfl)
          · have : m = 0 := by omega
            subst this
            exact (goodAt_zero hlt).trans hkf
        go_wp2_with (go_at_call 139; refine (key_any _ _ z1).mono ?_; rintro e w' ⟨rfl, rfl⟩)
        go_ret
        exact ⟨ret_bool (keysB_false hlt HF.out).symm, rfl⟩
    · go_wp2_with fail
      go_ret
      exact ⟨ret_bool (keysB_true fun j hj => HG.out j (by omega)).symm, rfl⟩


theorem below_draw (w : World) (o : Obj) (n : Nat) : Below w.heap.size w ((w.alloc o).drewN n) := ((Below.refl _ _).alloc (Nat.le_refl _) _).trans (Below_drewN _ _ _)

set_option maxRecDepth 100000 in
set_option maxHeartbeats 1600000 in
theorem part_any (k b : Int) (t : ByteArray) (ks : List ByteArray) (ka : Option Addr) (kc : Nat) (ia : Option Addr) (il ic : Nat) (w : World) (hk : LayS w ka ks) (hf : Fit k b t ks.length kc il ic) :
    Calls Tryz.prog 60 #[mk k b t ka ks.length kc ia il ic] w fun e w' => e = .returned (.bool (mayB k b t ks il)) ∧ Below w.heap.size w w' := by
  have HK : Hid (LayS w ka ks) := hk
  obtain ⟨-, hb, ht, -, -, bk, -, -, bi⟩ := hf
  have HU : Hid (U b) := hb
  clear hk
  by_cases k0 : k = 0
  · subst k0
    clear hb
    go_enter Tryz.func60, Tryz.ntmps60
    go_wp2_with fail
    go_quiet (fail)
    go_wp2_with fail
    go_quiet (fail)
    go_wp2_with fail
    all_goals (go_ret; refine ⟨ret_bool ?_, below_draw _ _ _⟩; simp_all [mayB]; try (intros; omega))
  by_cases k1 : k = 1
  · subst k1
    clear hb k0
    go_enter Tryz.func60, Tryz.ntmps60
    go_wp2_with fail
    go_quiet (fail)
    go_wp2_with fail
    go_quiet (fail)
    go_wp2_with fail
    all_goals (go_ret; refine ⟨ret_bool ?_, below_draw _ _ _⟩; simp_all [mayB]; try (intros; omega))
  by_cases k3 : k = 3
  · subst k3
    clear hb k0 k1
    go_enter Tryz.func60, Tryz.ntmps60
    go_wp2_with fail
    go_quiet (fail)
    go_wp2_with fail
    go_quiet (fail)
    go_wp2_with fail
    all_goals (go_ret; refine ⟨ret_bool ?_, below_draw _ _ _⟩; simp_all [mayB]; try (intros; omega))
  by_cases k4 : k = 4
  · subst k4
    clear hb k0 k1 k3
    go_enter Tryz.func60, Tryz.ntmps60
    go_wp2_with fail
    go_quiet (fail)
    go_wp2_with fail
    go_quiet (fail)
    go_wp2_with fail
    all_goals (go_ret; refine ⟨ret_bool ?_, below_draw _ _ _⟩; simp_all [mayB]; try (intros; omega))
  by_cases k2 : k = 2
  · subst k2
    clear hb k0 k1 k3 k4
    go_enter Tryz.func60, Tryz.ntmps60
    go_wp2_with fail
    go_quiet (fail)
    go_wp2_with fail
    go_quiet (fail)
    go_wp2_with fail
    go_region_held3 (fun w' => w'.cell? ⟨w.heap.size, 1, none⟩ = some (.int .u64 b)) (go_keep) ((go_at_call 98; refine (canon_any _ _ HU.out).mono ?_; rintro e w' ⟨rfl, rfl⟩))
    go_wp2_with fail
    all_goals (go_ret; refine ⟨ret_bool ?_, below_draw _ _ _⟩; simp_all [mayB]; try (intros; omega))
  by_cases k5 : k = 5
  · subst k5
    clear hb k0 k1 k3 k4 k2
    by_cases hl : ks.length = il
    · subst hl
      go_enter Tryz.func60, Tryz.ntmps60
      go_wp2_with fail
      go_quiet (fail)
      go_wp2_with fail
      go_quiet (fail)
      go_wp2_with (go_at_call 99; refine (keys_any _ _ _ _ (LayS.below HK.out (below_draw _ _ _)) bk).mono ?_; rintro e w' ⟨rfl, rfl⟩)
      all_goals (go_ret; refine ⟨ret_bool ?_, below_draw _ _ _⟩; simp_all [mayB]; try (intros; omega))
    · have hd : ((ks.length : Int) == (il : Int)) = false := by simp; omega
      have HL : Hid (¬ ks.length = il) := hl
      clear hl
      go_enter Tryz.func60, Tryz.ntmps60
      go_wp2_with fail
      go_quiet (fail)
      go_wp2_with fail
      go_quiet (fail)
      go_wp2_with fail
      all_goals (go_ret; refine ⟨ret_bool ?_, below_draw _ _ _⟩; have HL' := HL.out; simp_all [mayB]; try (intros; omega))
  have d0 : (k == 0) = false := by simpa using k0
  have d1 : (k == 1) = false := by simpa using k1
  have d2 : (k == 2) = false := by simpa using k2
  have d3 : (k == 3) = false := by simpa using k3
  have d4 : (k == 4) = false := by simpa using k4
  have d5 : (k == 5) = false := by simpa using k5
  have HM : Hid (mayB k b t ks il = false) := by simp [Hid, mayB, k0, k1, k2, k3, k4, k5]
  clear hb k0 k1 k2 k3 k4 k5
  go_enter Tryz.func60, Tryz.ntmps60
  go_wp2_with fail
  go_quiet (fail)
  go_wp2_with fail
  go_quiet (fail)
  go_wp2_with fail
  go_ret
  exact ⟨ret_bool HM.out.symm, below_draw _ _ _⟩
end Go.Proofs.YtndclldicdfmeaaGreat
