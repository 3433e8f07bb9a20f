/-
  The program's isName, by slices.ContainsFunc and its closure.
-/
import Derived.Test.YtcdnakcojanaeabGreatTrMath
import Derived.Deep.RegionHeld3
namespace Go.Proofs.YtcdnakcojanaeabGreat
open Go.ChangeShapes Go.WideShapes Go.ChangeAt Go.RowKit

theorem ret_bool {a b : Bool} (h : a = b) : Ending.returned (.bool a) = .returned (.bool b) := by rw [h]

/-- A text's octets in a new row. -/
theorem conv_bytes (s : ByteArray) (w : World) : ∃ cap W', (convert 9 126 (.string s)).run Tryz.prog w = .ok (.slice (some ⟨w.heap.size, 0, none⟩) s.size cap) W' ∧ LayB W' (some ⟨w.heap.size, 0, none⟩) s.data.toList ∧ Below w.heap.size w W' := by
  refine ⟨_, _, run_bytes_of_string (P := Tryz.prog) w 9 126 5 s Tryz.underlying9 Tryz.underlying126 Tryz.underlying5, ?_, ?_⟩
  · intro i o hi
    refine ⟨w.heap.size, 0, rfl, ?_⟩
    have hb := heap_alloc_new w.drew (.cells (bytesRow s (grownCap w s.size 0 5)) 5 ((bytesRow s (grownCap w s.size 0 5)).size, (bytesRow s (grownCap w s.size 0 5)).size + 1))
    have hlt : i < s.data.size := by have := (List.getElem?_eq_some_iff.1 hi).1; simpa using this
    have hi' : s.data[i]? = some o := by rw [← Array.getElem?_toList]; exact hi
    have hb' : (w.drew.alloc (.cells (bytesRow s (grownCap w s.size 0 5)) 5 ((bytesRow s (grownCap w s.size 0 5)).size, (bytesRow s (grownCap w s.size 0 5)).size + 1))).heap[w.heap.size]? = _ := hb
    simp only [World.cell?, hb', Nat.zero_add]
    simp [bytesRow, Array.getElem?_append]
    rw [if_pos (by exact hlt), hi']
    rfl
  · exact ((Below.refl _ _).drew).alloc (by simp) _

set_option maxRecDepth 100000 in
theorem other_any (o : UInt8) (w : World) : Calls Tryz.prog 102 #[.int .u8 (o.toNat : Int)] w fun e w' => e = .returned (.bool (!ltr o)) ∧ w' = w := by
  by_cases h1 : (o.toNat : Int) < 97
  · have h1d : decide ((o.toNat : Int) < 97) = true := decide_eq_true h1
    have e : (!ltr o) = true := by simp [ltr]; omega
    rw [e]
    go_enter Tryz.func102, Tryz.ntmps102
    go_wp2_with fail
    go_ret
    exact ⟨rfl, rfl⟩
  · have h1d : decide ((o.toNat : Int) < 97) = false := decide_eq_false h1
    by_cases h2 : 122 < (o.toNat : Int)
    · have h2d : decide (122 < (o.toNat : Int)) = true := decide_eq_true h2
      have e : (!ltr o) = true := by simp [ltr]; omega
      rw [e]
      go_enter Tryz.func102, Tryz.ntmps102
      go_wp2_with fail
      go_ret
      exact ⟨rfl, rfl⟩
    · have h2d : decide (122 < (o.toNat : Int)) = false := decide_eq_false h2
      have e : (!ltr o) = false := by simp [ltr]; omega
      rw [e]
      go_enter Tryz.func102, Tryz.ntmps102
      go_wp2_with fail
      go_ret
      exact ⟨rfl, rfl⟩

set_option maxRecDepth 100000 in
set_option maxHeartbeats 1600000 in
theorem index_any (l : List UInt8) (a : Option Addr) (c : Nat) (w : World) (hl : LayB w a l) (hlen : l.length ≤ 140737488351232) :
    Calls Tryz.prog 104 #[.slice a l.length c, .func (.func 102) #[] #[]] w fun e w' => ∃ i : Int, e = .returned (.int .i64 i) ∧ (decide (0 ≤ i) = !l.all ltr) ∧ w' = w := by
  have HL : Hid (LayB w a l) := hl
  clear hl
  go_enter Tryz.func104, Tryz.ntmps104
  go_wp2_with fail
  go_loopw [8] (fun i wr => ∃ m : Nat, m ≤ l.length ∧ i = .int .i64 m ∧ Hid ((l.take m).all ltr = true) ∧ Hid (wr = w)) (fun i _ => l.length - (intOf i).toNat)
  case atStart => exact ⟨0, Nat.zero_le _, rfl, (by simp [Hid]), rfl⟩
  case round =>
    obtain ⟨m, hm, rfl, HZ, HW⟩ := hrel
    obtain rfl := HW.out
    clear HW
    by_cases hlt : m < l.length
    · obtain ⟨b, o, rfl, q0⟩ := HL.out m l[m] (by simp [hlt])
      have hm1 : (m : Int) < (l.length : Int) := by omega
      have HC : Hid (Calls Tryz.prog 102 #[.int .u8 (l[m].toNat : Int)] wr _) := other_any l[m] wr
      have HTK : Hid (l.take (m + 1) = l.take m ++ [l[m]]) := List.take_succ_eq_append_getElem hlt
      have HO : Hid (l[m] ∈ l) := List.getElem_mem hlt
      have HE : Hid (∃ v, v = l[m]) := ⟨_, rfl⟩
      obtain ⟨v, hv⟩ := HE.out
      clear HE
      rw [← hv] at q0 HC HTK HO
      clear hv
      by_cases hz : ltr v = true
      · have HZ2 : Hid ((l.take (m + 1)).all ltr = true) := by show _ = _; rw [HTK.out, List.all_append, HZ.out]; simp [hz]
        rw [hz] at HC
        clear hz
        go_wp2_with (refine HC.out.mono ?_; rintro e w2 ⟨rfl, hw2⟩; subst hw2)
        exact ⟨⟨m + 1, by omega, by go_num, HZ2.out, by first | exact rfl | exact True.intro⟩, by simp [intOf]; omega⟩
      · have hzf : ltr v = false := by simpa using hz
        have HZ2 : Hid (l.all ltr = false) := by show _ = _; rw [List.all_eq_false]; exact ⟨v, HO.out, by simp [hzf]⟩
        rw [hzf] at HC
        clear hz hzf
        go_wp2_with (refine HC.out.mono ?_; rintro e w2 ⟨rfl, hw2⟩; subst hw2)
        go_ret
        exact ⟨m, rfl, by rw [HZ2.out]; simp, rfl⟩
    · have hme : m = l.length := by omega
      subst hme
      go_wp2_with fail
      go_ret
      have h := HZ.out
      rw [List.take_length] at h
      exact ⟨-1, rfl, by rw [h]; rfl, rfl⟩

set_option maxRecDepth 100000 in
theorem contains_any (l : List UInt8) (a : Option Addr) (c : Nat) (w : World) (hl : LayB w a l) (hlen : l.length ≤ 140737488351232) :
    Calls Tryz.prog 103 #[.slice a l.length c, .func (.func 102) #[] #[]] w fun e w' => e = .returned (.bool (!l.all ltr)) ∧ w' = w := by
  have HC : Hid (Calls Tryz.prog 104 #[.slice a l.length c, .func (.func 102) #[] #[]] w _) := index_any l a c w hl hlen
  clear hl
  go_enter Tryz.func103, Tryz.ntmps103
  go_wp2_with (refine HC.out.mono ?_; rintro e w2 ⟨i, rfl, hi, hw2⟩; subst hw2)
  go_ret
  exact ⟨rfl, rfl⟩

set_option maxRecDepth 100000 in
theorem name_any (s : ByteArray) (w : World) (hs : s.size ≤ 140737488351232) :
    Calls Tryz.prog 100 #[.string s] w fun e w' => e = .returned (.bool (nameB s)) ∧ Below w.heap.size w w' := by
  by_cases h1 : 1 ≤ (s.size : Int)
  · have h1d : decide (1 ≤ (s.size : Int)) = true := decide_eq_true h1
    by_cases h2 : (s.size : Int) ≤ 16
    · have h2d : decide ((s.size : Int) ≤ 16) = true := decide_eq_true h2
      obtain ⟨cap, W', hconv, hlay, hbel⟩ := conv_bytes s w
      have e : nameB s = s.data.toList.all ltr := by
        unfold nameB
        rw [decide_eq_true (by omega), decide_eq_true (by omega)]; rfl
      rw [e]
      have hsz : s.data.toList.length = s.size := by cases s; rfl
      have HC : Hid (Calls Tryz.prog 103 #[.slice (some ⟨w.heap.size, 0, none⟩) s.data.toList.length cap, .func (.func 102) #[] #[]] W' _) := contains_any _ _ cap W' hlay (by omega)
      rw [hsz] at HC
      clear hsz hlay e
      have HB : Hid (Below w.heap.size w W') := hbel
      clear hbel
      go_enter Tryz.func100, Tryz.ntmps100
      go_wp2_with (refine HC.out.mono ?_; rintro e w2 ⟨rfl, hw2⟩; subst hw2)
      go_ret
      exact ⟨ret_bool (by simp), HB.out⟩
    · have h2d : decide ((s.size : Int) ≤ 16) = false := decide_eq_false h2
      have e : nameB s = false := by
        unfold nameB
        rw [decide_eq_true (by omega : 1 ≤ s.size), decide_eq_false (by omega : ¬ s.size ≤ 16)]; rfl
      rw [e]
      go_enter Tryz.func100, Tryz.ntmps100
      go_wp2_with fail
      go_ret
      exact ⟨rfl, Below.refl _ _⟩
  · have h1d : decide (1 ≤ (s.size : Int)) = false := decide_eq_false h1
    have e : nameB s = false := by
      unfold nameB
      rw [decide_eq_false (by omega : ¬ 1 ≤ s.size)]; rfl
    rw [e]
    go_enter Tryz.func100, Tryz.ntmps100
    go_wp2_with fail
    go_ret
    exact ⟨rfl, Below.refl _ _⟩
end Go.Proofs.YtcdnakcojanaeabGreat
