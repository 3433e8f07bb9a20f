/-
  SpoilValue writes over what a value holds in memory of its own, and nothing else.
-/
import Derived.Test.YtfdbhojghkdlkaaJ9
namespace Go.Proofs.Ytfdbhojghkdlkaa
open Go.ChangeShapes Go.WideShapes Go.ChangeAt Go.RowKit

/-- All but F's blocks is as it was. -/
structure Kept (F : Nat → Prop) (w w' : World) : Prop where
  os : w'.os = w.os
  tape : w'.tape = w.tape
  output : w'.output = w.output
  size : w.heap.size ≤ w'.heap.size
  block : ∀ b, b < w.heap.size → ¬ F b → w'.heap[b]? = w.heap[b]?

theorem Kept.refl (F : Nat → Prop) (w : World) : Kept F w w := ⟨rfl, rfl, rfl, Nat.le_refl _, fun _ _ _ => rfl⟩
theorem Kept.trans {F : Nat → Prop} {a b c : World} (h : Kept F a b) (k : Kept F b c) : Kept F a c :=
  ⟨k.os.trans h.os, k.tape.trans h.tape, k.output.trans h.output, Nat.le_trans h.size k.size, fun j hj hn => (k.block j (Nat.lt_of_lt_of_le hj h.size) hn).trans (h.block j hj hn)⟩
theorem Kept.mono {F F' : Nat → Prop} {a b : World} (h : Kept F a b) (hF : ∀ j, F j → F' j) : Kept F' a b := ⟨h.os, h.tape, h.output, h.size, fun j hj hn => h.block j hj fun q => hn (hF j q)⟩
theorem Kept.of_below {F : Nat → Prop} {a b : World} (h : Below a.heap.size a b) : Kept F a b := ⟨h.os, h.tape, h.output, h.size, fun j hj _ => h.block j hj⟩
theorem Kept.setCell {F : Nat → Prop} {a b : World} (h : Kept F a b) {g o : Nat} (v : Value) (hg : F g) : Kept F a (b.setCell ⟨g, o, none⟩ v) :=
  ⟨h.os, h.tape, h.output, by simpa [World.setCell] using h.size, fun j hj hn => by
    have : ¬ g = j := fun e => hn (by rw [← e]; exact hg)
    simpa [World.setCell, Array.getElem?_modify, this] using h.block j hj hn⟩

theorem set_one_cell {w : World} {g o : Nat} {cur : Array Value} {t : TypeId} (h : w.heap[g]? = some (.cells cur t (0, 0))) (v : Value) : (w.setCell ⟨g, o, none⟩ v).heap[g]? = some (.cells (cur.setIfInBounds o v) t (0, 0)) := by
  simp [World.setCell, Array.getElem?_modify, h]

theorem sets5 {w : World} {g o : Nat} {cur : Array Value} {t : TypeId} (h : w.heap[g]? = some (.cells cur t (0, 0))) (v0 v1 v2 v3 v4 : Value) :
    ∃ cur' : Array Value, (((((w.setCell ⟨g, o, none⟩ v0).setCell ⟨g, o + 1, none⟩ v1).setCell ⟨g, o + 2, none⟩ v2).setCell ⟨g, o + 3, none⟩ v3).setCell ⟨g, o + 4, none⟩ v4).heap[g]? = some (.cells cur' t (0, 0)) ∧ cur'.size = cur.size ∧ ∀ j, o + 5 ≤ j → cur'[j]? = cur[j]? := by
  refine ⟨_, set_one_cell (set_one_cell (set_one_cell (set_one_cell (set_one_cell h v0) v1) v2) v3) v4, by simp, ?_⟩
  intro j hj
  have e0 : ¬ o = j := by omega
  have e1 : ¬ o + 1 = j := by omega
  have e2 : ¬ o + 2 = j := by omega
  have e3 : ¬ o + 3 = j := by omega
  have e4 : ¬ o + 4 = j := by omega
  simp [e0, e1, e2, e3, e4]

theorem cell_of {w : World} {g : Nat} {cur : Array Value} {t : TypeId} (h : w.heap[g]? = some (.cells cur t (0, 0))) (j : Nat) : w.cell? ⟨g, j, none⟩ = cur[j]? ∧ w.frozen? ⟨g, j, none⟩ = false := by
  simp [World.cell?, World.frozen?, h]

end Go.Proofs.Ytfdbhojghkdlkaa

/-
  The program's checkEffect, idOf and Check: they answer what the mathematics does, and make only new memory.
-/
namespace Go.Proofs.Ytfdbhojghkdlkaa
open Go.ChangeShapes Go.WideShapes Go.ChangeAt Go.RowKit

set_option maxRecDepth 100000 in
theorem idOf_any (a b : Int) (w : World) (h1 : 0 ≤ a) (h2 : a ≤ 2199023255552) (h3 : 0 ≤ b) (h4 : b ≤ 1000000) : Calls Try.prog 31 #[.int .i64 a, .int .i64 b] w fun e w' => e = .returned (.int .i64 (32 * a + b)) ∧ w' = w := by
  go_enter Try.func31, Try.ntmps31
  go_wp2_with fail
  go_ret
  exact ⟨rfl, rfl⟩

theorem empty_of {nm : ByteArray} (h : nm.size = 0) : nm.toList = [] ∧ nm.toList.isEmpty = true := by
  have e : nm.toList = [] := List.eq_nil_of_length_eq_zero (by rw [ByteArray.toList_eq]; exact h)
  rw [e]; exact ⟨rfl, rfl⟩
theorem empty_not {nm : ByteArray} (h : ¬ nm.size = 0) : ¬ nm.toList = [] ∧ nm.toList.isEmpty = false := by
  have e : ¬ nm.toList = [] := fun e => h (by have := congrArg List.length e; rw [ByteArray.toList_eq] at this; exact this)
  refine ⟨e, ?_⟩
  cases hl : nm.toList with
  | nil => exact absurd hl e
  | cons => rfl

theorem box6 {w : World} {g : Nat} {d0 c0 c1 c2 c3 c4 : Value} {t : TypeId} (h : w.heap[g]? = some (.cells #[d0, c0, c1, c2, c3, c4] t (0, 0))) :
    w.cell? ⟨g, 0, none⟩ = some d0 ∧ w.cell? ⟨g, 1, none⟩ = some c0 ∧ w.cell? ⟨g, 2, none⟩ = some c1 ∧ w.cell? ⟨g, 3, none⟩ = some c2 ∧ w.cell? ⟨g, 4, none⟩ = some c3 ∧ w.cell? ⟨g, 5, none⟩ = some c4 := by
  simp [World.cell?, h]
theorem box7 {w : World} {g : Nat} {d0 d1 c0 c1 c2 c3 c4 : Value} {t : TypeId} (h : w.heap[g]? = some (.cells #[d0, d1, c0, c1, c2, c3, c4] t (0, 0))) :
    w.cell? ⟨g, 0, none⟩ = some d0 ∧ w.cell? ⟨g, 1, none⟩ = some d1 ∧ w.cell? ⟨g, 2, none⟩ = some c0 ∧ w.cell? ⟨g, 3, none⟩ = some c1 ∧ w.cell? ⟨g, 4, none⟩ = some c2 ∧ w.cell? ⟨g, 5, none⟩ = some c3 ∧ w.cell? ⟨g, 6, none⟩ = some c4 := by
  simp [World.cell?, h]

set_option maxRecDepth 100000 in
set_option maxHeartbeats 1600000 in
theorem checkEffect_any {n : Nat} (nm : ByteArray) (u : V n) (k bb : Int) (t : ByteArray) (ka : Option Addr) (kl kc : Nat) (ja : Option Addr) (jl jc : Nat) (w : World) (hl : Lay w n (mk k bb t ka kl kc ja jl jc) u) (hn : nm.size ≤ 140737488351232) :
    Calls Try.prog 32 #[.agg #[.string nm, .int .i64 k, .int .u64 bb, .string t, .slice ka kl kc, .slice ja jl jc]] w fun e w' => e = .returned (.int .i64 (effE nm u)) ∧ Below w.heap.size w w' := by
  have B0 : Hid (Below w.heap.size w (w.alloc (.cells #[.string nm, .int .i64 k, .int .u64 bb, .string t, .slice ka kl kc, .slice ja jl jc] 52))) := below_one _ _
  have C1 : Hid (∀ w', Below w.heap.size w w' → Calls Try.prog 33 #[mk k bb t ka kl kc ja jl jc] w' fun e w'' => e = .returned (.int .i64 (chk u)) ∧ Below w'.heap.size w' w'') := fun w' hb => check_any n _ _ _ (Lay.below n hl hb)
  clear hl
  by_cases h0 : nm.size = 0
  · have E : Hid (effE nm u = 31) := by show _ = _; unfold effE; rw [if_pos (Or.inl h0)]
    obtain ⟨z1, z2⟩ := empty_of h0
    clear h0
    go_enter Try.func32, Try.ntmps32
    go_wp2_with fail
    go_ret
    exact ⟨by rw [E.out]; rfl, B0.out⟩
  · obtain ⟨z1, z2⟩ := empty_not h0
    by_cases h1 : 16 < nm.size
    · have E : Hid (effE nm u = 31) := by show _ = _; unfold effE; rw [if_pos (Or.inr h1)]
      go_enter Try.func32, Try.ntmps32
      go_wp2_with fail
      go_ret
      exact ⟨by rw [E.out]; rfl, B0.out⟩
    · have E : Hid (effE nm u = chk u) := by show _ = _; unfold effE; rw [if_neg (by omega)]
      have hle : nm.size ≤ 16 := by omega
      clear h1 h0
      generalize chk u = cu at *
      go_enter Try.func32, Try.ntmps32
      go_wp2_with fail
      refine (C1.out _ B0.out).mono ?_
      rintro e w1 ⟨rfl, hb1⟩
      go_wp2_with fail
      go_ret
      exact ⟨by rw [E.out]; rfl, nxt B0.out hb1⟩
end Go.Proofs.Ytfdbhojghkdlkaa

/-
  The program's Check.
-/
namespace Go.Proofs.Ytfdbhojghkdlkaa
open Go.ChangeShapes Go.WideShapes Go.ChangeAt Go.RowKit

set_option maxRecDepth 100000 in
set_option maxHeartbeats 3200000 in
theorem bcheck_any {n : Nat} (L : Int) (its : List (Tm n)) (ia : Option Addr) (ic : Nat) (w : World) (hT : TIs w n ia ic its) :
    Calls Try.prog 15 #[.agg #[.int .i64 L, .slice ia its.length ic]] w fun e w' => e = .returned (.int .i64 (chkB L its)) ∧ Below w.heap.size w w' := by
  have HT : Hid (TIs w n ia ic its) := hT
  have hlen := hT.2.2.1
  clear hT
  have X0 : Hid ((w.alloc (.cells #[.int .i64 L, .slice ia its.length ic] 26)).heap[w.heap.size]? = some (.cells #[.int .i64 L, .slice ia its.length ic] 26 (0, 0))) := heap_alloc_new _ _
  have B0 : Hid (Below w.heap.size w (w.alloc (.cells #[.int .i64 L, .slice ia its.length ic] 26))) := below_one _ _
  by_cases h0 : L < 0
  · have E : Hid (chkB L its = 9) := by show _ = _; unfold chkB; rw [if_neg (by omega)]
    go_enter Try.func15, Try.ntmps15
    go_wp2_with fail
    go_ret
    exact ⟨by rw [E.out]; rfl, B0.out⟩
  · by_cases h1 : 1099511627776 < L
    · have E : Hid (chkB L its = 9) := by show _ = _; unfold chkB; rw [if_neg (by omega)]
      go_enter Try.func15, Try.ntmps15
      go_wp2_with fail
      go_ret
      exact ⟨by rw [E.out]; rfl, B0.out⟩
    · by_cases h2 : 256 < its.length
      · have E : Hid (chkB L its = 9) := by show _ = _; unfold chkB; rw [if_neg (by omega)]
        go_enter Try.func15, Try.ntmps15
        go_wp2_with fail
        go_ret
        exact ⟨by rw [E.out]; rfl, B0.out⟩
      · have EC : Hid (chkB L its = if okT L 32 its = true then 0 else 9) := by
          show _ = _
          unfold chkB
          by_cases hk : okT L 32 its = true
          · rw [if_pos hk, if_pos (by refine ⟨by omega, by omega, by omega, hk⟩)]
          · rw [if_neg hk, if_neg (fun h => hk h.2.2.2)]
        have hL0 : 0 ≤ L := by omega
        have hL1 : L ≤ 1099511627776 := by omega
        have hn : its.length ≤ 256 := by omega
        clear h0 h1 h2
        go_enter Try.func15, Try.ntmps15
        go_wp2_with (go_at_call 31; refine (idOf_any 1 0 _ (by decide) (by decide) (by decide) (by decide)).mono ?_; rintro e w1 ⟨rfl, rfl⟩)
        generalize w.alloc (.cells #[.int .i64 L, .slice ia its.length ic] 26) = W0 at *
        go_loopw [3, 24] (fun v i wr => ∃ (m : Nat) (lo : Int), m ≤ its.length ∧ v = .int .i64 lo ∧ i = .int .i64 m ∧ 32 ≤ lo ∧ lo ≤ 70368744177664 ∧ Hid (okT L 32 its = okT L lo (its.drop m)) ∧
            Hid (wr.heap[w.heap.size]? = some (.cells #[.int .i64 L, .slice ia its.length ic] 26 (0, 0))) ∧ Hid (Below w.heap.size w wr)) (fun _ i _ => its.length - (intOf i).toNat)
        case atStart => exact ⟨0, 32, Nat.zero_le _, rfl, rfl, by decide, by decide, (by show _ = _; rw [List.drop_zero]), X0.out, B0.out⟩
        case round =>
          obtain ⟨m, lo, hm, rfl, rfl, hlo, hlo2, HO, HB, HW⟩ := hrel
          by_cases hlt : m < its.length
          · obtain ⟨b, o, k, bb, t, ka, kl, kc, ja, jl, jc, rfl, q0, q1, q2, q3, q4, q5, q6, hl, hk⟩ := (HT.out.below HW.out).at m hlt
            have hm1 : (m : Int) < (its.length : Int) := by omega
            have HD : Hid _ := okT_drop hlt lo HO.out
            obtain ⟨⟨r1, r2⟩, r3⟩ := hk
            obtain ⟨x0, -⟩ := cell_of HB.out 0
            obtain ⟨x1, -⟩ := cell_of HB.out 1
            simp only [List.getElem?_toArray, List.getElem?_cons_zero, List.getElem?_cons_succ] at x0 x1
            have C2 : Hid (∀ w', Below wr.heap.size wr w' → Calls Try.prog 32 #[.agg #[.string its[m].2.1, .int .i64 k, .int .u64 bb, .string t, .slice ka kl kc, .slice ja jl jc]] w' fun e w'' => e = .returned (.int .i64 (effE its[m].2.1 its[m].2.2)) ∧ Below w'.heap.size w' w'') :=
              fun w' hb => checkEffect_any _ _ k bb t ka kl kc ja jl jc w' (Lay.below n hl hb) r3
            clear hl
            generalize its[m].1 = id at *
            generalize its[m].2.1 = nm at *
            generalize effE nm its[m].2.2 = ee at *
            have B1 : Hid (Below wr.heap.size wr (wr.alloc (.cells #[.int .i64 id, .string nm, .int .i64 k, .int .u64 bb, .string t, .slice ka kl kc, .slice ja jl jc] 54))) := below_one _ _
            have X1 : Hid ((wr.alloc (.cells #[.int .i64 id, .string nm, .int .i64 k, .int .u64 bb, .string t, .slice ka kl kc, .slice ja jl jc] 54)).heap[wr.heap.size]? = some (.cells #[.int .i64 id, .string nm, .int .i64 k, .int .u64 bb, .string t, .slice ka kl kc, .slice ja jl jc] 54 (0, 0))) := heap_alloc_new _ _
            have x0' := keepc B1.out _ _ x0
            obtain ⟨y0, y1, y2, y3, y4, y5, y6⟩ := box7 X1.out
            by_cases c1 : id < lo
            · have E : Hid (chkB L its = 9) := by
                show _ = _
                rw [EC.out, HD.out, if_neg (by simp; omega)]
              have hd1 : decide (id < lo) = true := by simpa using c1
              go_wp2_with fail
              go_quiet (fail)
              go_wp2_with fail
              go_ret
              exact ⟨by rw [E.out]; rfl, (nxt HW.out B1.out).trans (Below_drewN _ _ _)⟩
            · have hd1 : decide (id < lo) = false := by simpa using c1
              have ha : IntKind.i64.wrap (L + 1) = L + 1 := by rw [IntKind.wrap_i64]; omega
              by_cases c2 : 32 * (L + 1) ≤ id
              · have E : Hid (chkB L its = 9) := by
                  show _ = _
                  rw [EC.out, HD.out, if_neg (by simp; omega)]
                have hd2 : decide (32 * (L + 1) ≤ id) = true := by simpa using c2
                go_wp2_with fail
                go_quiet ((go_at_call 31; exact Calls.quiet_of_same (idOf_any _ 0 _ (by omega) (by omega) (by decide) (by decide))))
                go_wp2_with fail
                go_ret
                exact ⟨by rw [E.out]; rfl, (nxt HW.out B1.out).trans (Below_drewN _ _ _)⟩
              · have hd2 : decide (32 * (L + 1) ≤ id) = false := by simpa using c2
                by_cases c3 : ee = 0
                · subst c3
                  have EN : Hid (okT L 32 its = okT L (id + 1) (its.drop (m + 1))) := by
                    show _ = _
                    rw [HD.out, decide_eq_true (by omega), decide_eq_true (by omega)]
                    simp
                  go_wp2_with fail
                  go_region_held3 (fun w' => w'.cell? ⟨w.heap.size, 0, none⟩ = some (.int .i64 L) ∧ w'.cell? ⟨wr.heap.size, 0, none⟩ = some (.int .i64 id) ∧ w'.cell? ⟨wr.heap.size, 1, none⟩ = some (.string nm) ∧ w'.cell? ⟨wr.heap.size, 2, none⟩ = some (.int .i64 k) ∧
                    w'.cell? ⟨wr.heap.size, 3, none⟩ = some (.int .u64 bb) ∧ w'.cell? ⟨wr.heap.size, 4, none⟩ = some (.string t) ∧ w'.cell? ⟨wr.heap.size, 5, none⟩ = some (.slice ka kl kc) ∧ w'.cell? ⟨wr.heap.size, 6, none⟩ = some (.slice ja jl jc)) (go_keep)
                    (first
                      | (go_at_call 31; refine (idOf_any _ 0 _ (by omega) (by omega) (by decide) (by decide)).mono ?_; rintro e w2 ⟨rfl, hw2⟩; subst w2)
                      | (go_at_call 32; refine (C2.out _ B1.out.drew).mono ?_; rintro e w2 ⟨rfl, hb2⟩; have hk2 := keepc hb2))
                  have K2 : Hid (Below wr.heap.size wr w2) := nxt B1.out.drew hb2
                  go_wp2_with fail
                  go_roundw
                  case rel => exact ⟨m + 1, id + 1, by omega, rfl, by go_num, by omega, by omega, EN.out, (K2.out.block _ (lt_of_block HB.out)).trans HB.out, nxt HW.out K2.out⟩
                  case measure => simp [intOf]; omega
                · have E : Hid (chkB L its = 9) := by
                    show _ = _
                    rw [EC.out, HD.out, if_neg (by simp [c3])]
                  have hd3 : (ee == 0) = false := by simpa using c3
                  have hd4 : (ee != 0) = true := by simpa using c3
                  go_wp2_with fail
                  go_region_held3 (fun w' => w'.cell? ⟨w.heap.size, 0, none⟩ = some (.int .i64 L) ∧ w'.cell? ⟨wr.heap.size, 0, none⟩ = some (.int .i64 id) ∧ w'.cell? ⟨wr.heap.size, 1, none⟩ = some (.string nm) ∧ w'.cell? ⟨wr.heap.size, 2, none⟩ = some (.int .i64 k) ∧
                    w'.cell? ⟨wr.heap.size, 3, none⟩ = some (.int .u64 bb) ∧ w'.cell? ⟨wr.heap.size, 4, none⟩ = some (.string t) ∧ w'.cell? ⟨wr.heap.size, 5, none⟩ = some (.slice ka kl kc) ∧ w'.cell? ⟨wr.heap.size, 6, none⟩ = some (.slice ja jl jc)) (go_keep)
                    (first
                      | (go_at_call 31; refine (idOf_any _ 0 _ (by omega) (by omega) (by decide) (by decide)).mono ?_; rintro e w2 ⟨rfl, hw2⟩; subst w2)
                      | (go_at_call 32; refine (C2.out _ B1.out.drew).mono ?_; rintro e w2 ⟨rfl, hb2⟩; have hk2 := keepc hb2))
                  have K2 : Hid (Below wr.heap.size wr w2) := nxt B1.out.drew hb2
                  go_wp2_with fail
                  go_ret
                  exact ⟨by rw [E.out]; rfl, nxt HW.out K2.out⟩
          · have E : Hid (chkB L its = 0) := by
              show _ = _
              rw [EC.out, HO.out, List.drop_eq_nil_of_le (by omega)]
              rfl
            go_wp2_with fail
            go_ret
            exact ⟨by rw [E.out]; rfl, HW.out⟩
end Go.Proofs.Ytfdbhojghkdlkaa
