/-
  The program's frameOf and Encode.
-/
import Derived.Test.YtocodkoanjcmkacSnPut
import Derived.Deep.OwnRows
namespace Go.Proofs.Ytocodkoanjcmkac
open Go.ChangeShapes Go.WideShapes Go.ChangeAt Go.RowKit Go.Deep
open Se

theorem kept_below {F : Nat → Prop} {w w' : World} {B : Nat} (h : Kept F w w') (hB : B ≤ w.heap.size) (hF : ∀ b, F b → B ≤ b) : Below B w w' := ⟨h.os, h.tape, h.output, h.size, fun k hk => h.block k (by omega) fun e => by have := hF k e; omega⟩

/-- Zeros, as cells. -/
def zeros (n : Nat) : List Value := List.replicate n (.int .u8 0)
theorem zeros_length (n : Nat) : (zeros n).length = n := List.length_replicate
theorem zeros_cells (n : Nat) : zeros n = cellsO (List.replicate n 0) := by simp [zeros, cellsO]

/-- make of so many octets. -/
theorem wpList_mkZ (w : World) {ops : Array Oper} {rest : List Oper} {o : Oper} {a : Act} {Q : Exit → Act → World → Prop} (hg : o.guard = none) (l c : Operand) (hop : o.op = Op.makeSlice 22 l c)
    (L C : Int) (n : Nat) (hl : a.eval l = .int .i64 L) (hc : a.eval c = .int .i64 C) (hL : L = (n : Int)) (hC : C = (n : Int)) (hn : n ≤ 281474976710656)
    (hK : ∀ w', Hid (w'.heap[w.heap.size]? = some (.cells (zeros n).toArray 5 (0, 0))) → Hid (Below w.heap.size w w') → wpList Try.prog ops Q rest (a.put o.dst (.slice (some ⟨w.heap.size, 0, none⟩) n n)) w') : wpList Try.prog ops Q (o :: rest) a w := by
  obtain ⟨i0, hi, hz0, hz1, hz2⟩ := info_parts Try.infoU8
  subst hL hC
  refine wpList_make_row w hg l c 22 hop 5 i0 _ Try.underlying22 hi hz0 hz1 rfl .i64 .i64 n hl hc (by rw [hz2]; omega) (by omega) ?_
  refine hK _ ?_ (below_one _ _)
  show _ = _
  have e : madeCells #[Value.int .u8 0] n = (zeros n).toArray := by rw [← Array.toList_inj, toList_madeCells_one]; rfl
  rw [e]
  exact heap_alloc_new _ _

/-- A row of octets that is known whole. -/
theorem Bs.of_row {w : World} {g B : Nat} {l : List UInt8} (h : w.heap[g]? = some (.cells (cellsO l).toArray 5 (0, 0))) (hB : B ≤ g) (hl : l.length ≤ 1000000) : Bs w B (.slice (some ⟨g, 0, none⟩) l.length l.length) l := by
  refine ⟨by rw [cellsO_length]; omega, Or.inr ⟨g, l.length, _, rfl, hB, h, Nat.le_refl _, by unfold maxLen; omega, by simp [cellsO_length], ?_⟩⟩
  rw [List.take_of_length_le (by simp [cellsO_length])]

/-- Two splices that fill a row. -/
theorem splice2 {α : Type} (Z X Y : List α) (h : Z.length = X.length + Y.length) : splice (splice Z 0 X) X.length Y = X ++ Y := by
  have e1 : splice Z 0 X = X ++ Z.drop X.length := by simp [splice]
  rw [e1, splice, List.take_left]
  have e2 : (X ++ Z.drop X.length).drop (X.length + Y.length) = [] := List.drop_eq_nil_of_le (by rw [List.length_append, List.length_drop]; omega)
  rw [e2, List.append_nil]

theorem Try.infoU8s : (Try.prog.info? 5).map (·.size) = some 1 := by kernel_rfl

set_option maxRecDepth 100000 in
set_option maxHeartbeats 3200000 in
theorem frameOf_any (e q : Int) (a : Option Addr) (c : Nat) (d : List UInt8) (w : World) (ho : Oct w a c d) (hd : d.length ≤ 8000) (h1 : 0 ≤ e ∧ e ≤ 1099511627776) (h2 : 0 ≤ q ∧ q ≤ 1099511627776) :
    Calls Try.prog 24 #[.agg #[.int .i64 e, .int .i64 q, .slice a d.length c]] w fun x w' => ∃ s, x = .returned s ∧ Bs w' w.heap.size s (sfr e q d) ∧ Below w.heap.size w w' := by
  have HO : Hid (Oct w a c d) := ho
  clear ho
  have HPT : Hid (putR 3 (inner e q d) = (0, sfr e q d)) := put_sfr hd
  generalize sfr e q d = FR at *
  obtain ⟨Z, hZ⟩ : ∃ Z : List Value, Z = [.int .u8 0, .int .u8 0, .int .u8 0, .int .u8 0, .int .u8 0, .int .u8 0, .int .u8 0, .int .u8 0, .int .u8 0, .int .u8 0, .int .u8 0, .int .u8 0, .int .u8 0, .int .u8 0, .int .u8 0, .int .u8 0] := ⟨_, rfl⟩
  have HZL : Hid (Z.length = 16) := by show _ = _; rw [hZ]; rfl
  have HZU : Hid (∀ (j : Nat) (v : Value), Z[j]? = some v → ∃ z : Int, v = .int .u8 z ∧ 0 ≤ z ∧ z ≤ 255) := by
    intro j v hv
    have := List.mem_of_getElem? hv
    rw [hZ] at this
    simp at this
    exact ⟨0, this, by omega, by omega⟩
  have B0 : Hid (Below w.heap.size w ((w.alloc (.cells #[.int .i64 e, .int .i64 q, .slice a d.length c] 25)).alloc (.cells Z.toArray 67))) := nxt (below_one _ _) (below_one _ _)
  have X0 : Hid (((w.alloc (.cells #[.int .i64 e, .int .i64 q, .slice a d.length c] 25)).alloc (.cells Z.toArray 67)).heap[w.heap.size]? = some (.cells #[.int .i64 e, .int .i64 q, .slice a d.length c] 25 (0, 0))) := (Below.heap_alloc _ _ _ (by simp)).trans (heap_alloc_new _ _)
  have Y0 : Hid (((w.alloc (.cells #[.int .i64 e, .int .i64 q, .slice a d.length c] 25)).alloc (.cells Z.toArray 67)).heap[w.heap.size + 1]? = some (.cells Z.toArray 67 (0, 0))) := heap_new2 _ _ _
  subst hZ
  go_enter Try.func24, Try.ntmps24
  go_wp2_with fail
  generalize (w.alloc (.cells #[.int .i64 e, .int .i64 q, .slice a d.length c] 25)).alloc (.cells _ 67) = W at *
  generalize [.int .u8 0, .int .u8 0, .int .u8 0, .int .u8 0, .int .u8 0, .int .u8 0, .int .u8 0, .int .u8 0, .int .u8 0, .int .u8 0, .int .u8 0, .int .u8 0, .int .u8 0, .int .u8 0, .int .u8 0, Value.int .u8 0] = Z at *
  obtain ⟨x0, -⟩ := cell_of X0.out 0
  simp at x0
  have x0d : W.drew.cell? ⟨w.heap.size, 0, none⟩ = some (.int .i64 e) := x0
  have HC1 : Hid (Calls Try.prog 33 #[.slice (some ⟨w.heap.size + 1, 0, none⟩) 8 16, .int .i64 e] W.drew _) := putNumber_any (w.heap.size + 1) 0 16 Z _ e W.drew Y0.out (by have := HZL.out; omega) HZU.out h1.1 (by omega)
  go_region_with ((go_at_call 33; refine HC1.out.mono ?_; rintro x w1 ⟨rfl, hy1, hk1⟩))
  have E12 : Hid (splice (splice Z 0 (cellsO (octs e))) 8 (cellsO (octs q)) = cellsO (octs e ++ octs q)) := by
    show _ = _
    have := splice2 Z (cellsO (octs e)) (cellsO (octs q)) (by rw [HZL.out, cellsO_length, cellsO_length, octs_length, octs_length])
    rw [cellsO_length, octs_length] at this
    rw [this, cellsO_append]
  have E1L : Hid ((splice Z 0 (cellsO (octs e))).length = 16) := by show _ = _; rw [length_splice _ _ _ (by rw [HZL.out, cellsO_length, octs_length]; omega)]; exact HZL.out
  have E1U : Hid (∀ (j : Nat) (v : Value), (splice Z 0 (cellsO (octs e)))[j]? = some v → ∃ z : Int, v = .int .u8 z ∧ 0 ≤ z ∧ z ≤ 255) := by
    intro j v hv
    have hm := List.mem_of_getElem? hv
    simp only [splice, List.take_zero, List.nil_append, List.mem_append] at hm
    rcases hm with hm | hm
    · simp only [cellsO, List.mem_map] at hm
      obtain ⟨o, -, rfl⟩ := hm
      exact ⟨o.toNat, rfl, by omega, by have := o.toNat_lt; omega⟩
    · obtain ⟨k, hk⟩ := List.mem_iff_getElem?.1 (List.mem_of_mem_drop hm)
      exact HZU.out k v hk
  have Y1 : Hid (w1.heap[w.heap.size + 1]? = some (.cells (splice Z 0 (cellsO (octs e))).toArray 67 (0, 0))) := hy1
  have X1 : Hid (w1.heap[w.heap.size]? = some (.cells #[.int .i64 e, .int .i64 q, .slice a d.length c] 25 (0, 0))) := (hk1.block _ (show w.heap.size < W.heap.size from lt_of_block X0.out) (by omega)).trans X0.out
  have B1 : Hid (Below w.heap.size w w1) := (B0.out.trans (Below.refl _ _).drew).trans (kept_below hk1 (show w.heap.size ≤ W.heap.size from B0.out.size) (by omega))
  clear hy1 hk1 HC1 x0 x0d X0 Y0 B0
  generalize splice Z 0 (cellsO (octs e)) = Z1 at *
  go_wp2_with fail
  obtain ⟨x1, -⟩ := cell_of X1.out 1
  simp at x1
  have x1d : w1.drew.cell? ⟨w.heap.size, 1, none⟩ = some (.int .i64 q) := x1
  have HC2 : Hid (Calls Try.prog 33 #[.slice (some ⟨w.heap.size + 1, 8, none⟩) 8 8, .int .i64 q] w1.drew _) := putNumber_any (w.heap.size + 1) 8 8 Z1 _ q w1.drew Y1.out (by have := E1L.out; omega) E1U.out h2.1 (by omega)
  go_region_with ((go_at_call 33; refine HC2.out.mono ?_; rintro x w2 ⟨rfl, hy2, hk2⟩))
  have Y2 : Hid (w2.heap[w.heap.size + 1]? = some (.cells (cellsO (octs e ++ octs q)).toArray 67 (0, 0))) := by rw [E12.out] at hy2; exact hy2
  have X2 : Hid (w2.heap[w.heap.size]? = some (.cells #[.int .i64 e, .int .i64 q, .slice a d.length c] 25 (0, 0))) := (hk2.block _ (show w.heap.size < w1.heap.size from lt_of_block X1.out) (by omega)).trans X1.out
  have B2 : Hid (Below w.heap.size w w2) := (B1.out.trans (Below.refl _ _).drew).trans (kept_below hk2 (show w.heap.size ≤ w1.heap.size from B1.out.size) (by omega))
  clear hy2 hk2 HC2 x1 x1d X1 Y1 B1 E12 E1L E1U HZU
  have HHL : Hid ((octs e ++ octs q).length = 16) := by show _ = _; rw [List.length_append, octs_length, octs_length]
  have HIN : Hid (octs e ++ octs q ++ d = inner e q d) := by show _ = _; rw [inner, List.append_assoc]
  generalize octs e ++ octs q = H at *
  obtain ⟨x2, -⟩ := cell_of X2.out 2
  simp at x2
  go_wp2_with (refine wpList_mkZ _ rfl _ _ rfl _ _ (16 + d.length) rfl rfl ?c0 ?c1 ?c2 ?_)
  case c0 => omega
  case c1 => omega
  case c2 => omega
  intro w3 Z3 B23
  have Y3 : Hid (w3.heap[w.heap.size + 1]? = some (.cells (cellsO H).toArray 67 (0, 0))) := (B23.out.block _ (lt_of_block Y2.out)).trans Y2.out
  have X3 : Hid (w3.heap[w.heap.size]? = some (.cells #[.int .i64 e, .int .i64 q, .slice a d.length c] 25 (0, 0))) := (B23.out.block _ (lt_of_block X2.out)).trans X2.out
  have B3 : Hid (Below w.heap.size w w3) := nxt B2.out B23.out
  have hg2 : w.heap.size + 1 < w2.heap.size := lt_of_block Y2.out
  clear X2 Y2 B2 x2 B23
  generalize w2.heap.size = g2 at *
  go_wp2_with (refine wpList_copy_splice rfl (.tmp 20) (.tmp 21) 22 22 rfl 5 Try.underlying22 Try.infoU8s (some ⟨g2, 0, none⟩) (some ⟨w.heap.size + 1, 0, none⟩) (16 + d.length) (16 + d.length) 16 16 rfl rfl g2 0 (zeros (16 + d.length)) _ Z3.out (cellsO H) ?k0 ?k1 ?k2 (one_cells H) (w.heap.size + 2) w3 (Below.refl _ _) ?k3 ?_)
  case k0 => rw [cellsO_length, HHL.out]; show _ = min 16 (16 + d.length); omega
  case k1 =>
    intro _ j v hj
    exact (cell_of Y3.out _).1.trans (by rw [List.getElem?_toArray]; exact hj)
  case k2 => rw [cellsO_length, HHL.out, zeros_length]; omega
  case k3 => omega
  intro w4 Z4 hB4
  have Y4 : Hid (Below w.heap.size w w4) := B3.out.trans (hB4.mono (by omega))
  have X4 : Hid (w4.heap[w.heap.size]? = some (.cells #[.int .i64 e, .int .i64 q, .slice a d.length c] 25 (0, 0))) := (hB4.block _ (by omega)).trans X3.out
  have hl4 : w.heap.size + 1 < w4.heap.size := Nat.lt_of_lt_of_le (lt_of_block Y3.out) hB4.size
  have hg4 : g2 < w4.heap.size := lt_of_block Z4.out
  have HS4 : Hid ((splice (zeros (16 + d.length)) 0 (cellsO H)).length = 16 + d.length) := by show _ = _; rw [length_splice _ _ _ (by rw [zeros_length, cellsO_length, HHL.out]; omega), zeros_length]
  have HS5 : Hid (splice (splice (zeros (16 + d.length)) 0 (cellsO H)) 16 (cellsO d) = cellsO (inner e q d)) := by
    show _ = _
    have := splice2 (zeros (16 + d.length)) (cellsO H) (cellsO d) (by rw [zeros_length, cellsO_length, cellsO_length, HHL.out])
    rw [cellsO_length, HHL.out] at this
    rw [this, ← cellsO_append, HIN.out]
  clear hB4 X3 Y3 B3 Z3
  generalize splice (zeros (16 + d.length)) 0 (cellsO H) = Z5 at *
  obtain ⟨x2, -⟩ := cell_of X4.out 2
  simp at x2
  have x2d : w4.drew.cell? ⟨w.heap.size, 2, none⟩ = some (.slice a d.length c) := x2
  have HL5 : Hid ((cellsO d).length = d.length) := cellsO_length d
  have HSRC : Hid (0 < (cellsO d).length → ∃ ad, a = some ad ∧ ∀ j v, (cellsO d)[j]? = some v → w4.drew.cell? (ad.add j) = some v) := by
    intro hp
    rw [cellsO_length] at hp
    have hO := HO.out.below Y4.out
    obtain ⟨b, off, rfl, -⟩ := layB_get hO.1 hp
    refine ⟨_, rfl, fun j v hj => ?_⟩
    rw [add_plain]
    simp only [cellsO, List.getElem?_map, Option.map_eq_some_iff] at hj
    obtain ⟨o', ho', rfl⟩ := hj
    obtain ⟨b', off', e', hc⟩ := hO.1 j o' ho'
    cases e'
    exact hc
  have HPOS : Hid (0 < (cellsO d).length → (if d = [] then some ⟨g2, 0, none⟩ else some ⟨g2, 16, none⟩ : Option Addr) = some ⟨g2, 16, none⟩) := by
    intro hp
    rw [if_neg (by intro e; rw [e] at hp; simp [cellsO] at hp)]
  have Z4d : Hid (w4.drew.heap[g2]? = some (.cells Z5.toArray 5 (0, 0))) := Z4.out
  have q3 : (16 : Int) ≤ 16 + (d.length : Int) := by omega
  go_wp2_with fail
  go_region_law (refine step_copy_splice rfl (.tmp 24) (.tmp 26) 22 22 rfl 5 Try.underlying22 Try.infoU8s (if d = [] then some ⟨g2, 0, none⟩ else some ⟨g2, 16, none⟩) a d.length d.length d.length c rfl rfl g2 16 Z5 5 Z4d.out (cellsO d) (by rw [HL5.out]; exact (Nat.min_self _).symm) (fun hp => ⟨HPOS.out hp, HSRC.out hp⟩) (by rw [HL5.out, HS4.out]; omega) (one_cells d) (w.heap.size + 2) w4 ((Below.refl _ _).drew) (by omega) ?_; intro w5 Z6 hB5)
  have S5 : Hid (Bs w5 (w.heap.size + 2) (.slice (some ⟨g2, 0, none⟩) (16 + d.length) (16 + d.length)) (inner e q d)) := by
    have := Z6.out
    rw [HS5.out] at this
    have h := Bs.of_row (B := w.heap.size + 2) this (by omega) (by rw [inner_length]; omega)
    rw [inner_length] at h
    exact h
  have B5 : Hid (Below w.heap.size w w5) := Y4.out.trans (hB5.mono (by omega))
  have HIL : Hid ((inner e q d).length = 16 + d.length) := inner_length e q d
  have HC : Hid (Calls Try.prog 34 #[.agg #[.int .i64 3, .slice (some ⟨g2, 0, none⟩) (16 + d.length) (16 + d.length)]] w5 fun x w' => ∃ s, x = .returned (.tuple #[s, .int .i64 0]) ∧ Bs w' w5.heap.size s (FR) ∧ Below w5.heap.size w5 w') := by
    have := put_any 3 (some ⟨g2, 0, none⟩) (16 + d.length) (inner e q d) w5 (S5.out.oct (by rw [HIL.out]; omega))
    rw [HPT.out, HIL.out] at this
    exact this
  clear hB5 Z6 HSRC HPOS Z4 Z4d x2 x2d X4 Y4 HS4 HS5
  go_wp2_with (go_at_call 34; refine HC.out.mono ?_; rintro x w6 ⟨s6, rfl, hs6, hb6⟩; have H6 : Hid (Bs w6 w5.heap.size s6 (FR)) := hs6; have B6 : Hid (Below w.heap.size w w6) := nxt B5.out hb6; clear hs6 hb6)
  all_goals
    go_ret
    refine ⟨s6, rfl, Bs.up H6.out ?_, B6.out⟩
    intro g hg
    have h1 := (H6.out.base g hg).1
    have h2 := B5.out.size
    omega

set_option maxRecDepth 100000 in
set_option maxHeartbeats 3200000 in
theorem encode_any (e q : Int) (a : Option Addr) (c : Nat) (d : List UInt8) (w : World) (ho : Oct w a c d) :
    Calls Try.prog 10 #[.agg #[.int .i64 e, .int .i64 q, .slice a d.length c]] w fun x w' => ∃ s, x = .returned (.tuple #[s, .int .i64 (encR e q d).1]) ∧ Bs w' w.heap.size s (encR e q d).2 ∧ Below w.heap.size w w' := by
  have HO : Hid (Oct w a c d) := ho
  clear ho
  have HCK : Hid (∀ W, Calls Try.prog 19 #[.agg #[.int .i64 e, .int .i64 q, .slice a d.length c]] W fun x w' => x = .returned (.int .i64 (chkS e q d.length)) ∧ Below W.heap.size W w') := fun W => check_any e q a d.length c W
  by_cases hck : chkS e q d.length = 0
  · rw [enc_ok hck]
    obtain ⟨h1, h2, h3⟩ := chk_ok hck
    rw [hck] at HCK
    have HF : Hid (∀ W, Below w.heap.size w W → Calls Try.prog 24 #[.agg #[.int .i64 e, .int .i64 q, .slice a d.length c]] W _) := fun W hb => frameOf_any e q a c d W (HO.out.below hb) h3 h1 h2
    have HSL : Hid ((sfr e q d).length = 24 + d.length) := sfr_length e q d
    have HSO : Hid (splice (zeros 8160) 0 (cellsO (sfr e q d)) = cellsO (slotO e q d)) := by
      show _ = _
      have e1 : splice (zeros 8160) 0 (cellsO (sfr e q d)) = cellsO (sfr e q d) ++ (zeros 8160).drop (sfr e q d).length := by simp [splice, cellsO_length]
      rw [e1, slotO, cellsO_append, HSL.out]
      congr 1
      simp only [zeros, List.drop_replicate, cellsO, List.map_replicate]
      congr 1
      omega
    have HLO : Hid ((slotO e q d).length = 8160) := slotO_length h3
    generalize slotO e q d = SO at *
    generalize sfr e q d = F at *
    have X0 : Hid ((w.alloc (.cells #[.int .i64 e, .int .i64 q, .slice a d.length c] 25)).heap[w.heap.size]? = some (.cells #[.int .i64 e, .int .i64 q, .slice a d.length c] 25 (0, 0))) := heap_alloc_new _ _
    have B0 : Hid (Below w.heap.size w (w.alloc (.cells #[.int .i64 e, .int .i64 q, .slice a d.length c] 25))) := below_one _ _
    go_enter Try.func10, Try.ntmps10
    go_wp2_with fail
    refine (HCK.out _).mono ?_
    rintro x w1 ⟨rfl, hb1⟩
    have X1 : Hid (w1.heap[w.heap.size]? = some (.cells #[.int .i64 e, .int .i64 q, .slice a d.length c] 25 (0, 0))) := (hb1.block _ (lt_of_block X0.out)).trans X0.out
    have B1 : Hid (Below w.heap.size w w1) := nxt B0.out hb1
    clear hb1 X0 B0 HCK
    go_wp2_with (refine wpList_mkZ _ rfl _ _ rfl _ _ 8160 rfl rfl ?c0 ?c1 ?c2 ?_)
    case c0 => rfl
    case c1 => rfl
    case c2 => omega
    intro w2 Z2 B12
    have X2 : Hid (w2.heap[w.heap.size]? = some (.cells #[.int .i64 e, .int .i64 q, .slice a d.length c] 25 (0, 0))) := (B12.out.block _ (lt_of_block X1.out)).trans X1.out
    have B2 : Hid (Below w.heap.size w w2) := nxt B1.out B12.out
    have hg : w.heap.size < w1.heap.size := lt_of_block X1.out
    have hg2 : w1.heap.size < w2.heap.size := lt_of_block Z2.out
    clear X1 B1 B12
    generalize w1.heap.size = g2 at *
    obtain ⟨x0, -⟩ := cell_of X2.out 0
    obtain ⟨x1, -⟩ := cell_of X2.out 1
    obtain ⟨x2, -⟩ := cell_of X2.out 2
    simp at x0 x1 x2
    go_wp2_with fail
    refine (HF.out w2 B2.out).mono ?_
    rintro x w3 ⟨s3, rfl, hs3, hb3⟩
    obtain ⟨a3, c3, rfl⟩ := hs3.shape
    have hl3 : F.length ≤ 9000 := by have := HSL.out; omega
    have S3 : Hid (Bs w3 w2.heap.size (.slice a3 F.length c3) F) := hs3
    have Z3 : Hid (w3.heap[g2]? = some (.cells (zeros 8160).toArray 5 (0, 0))) := (hb3.block _ hg2).trans Z2.out
    have B3 : Hid (Below w.heap.size w w3) := nxt B2.out hb3
    have hw3 : w.heap.size < w3.heap.size := Nat.lt_of_lt_of_le (lt_of_block X2.out) hb3.size
    have HCL : Hid ((cellsO F).length = F.length) := cellsO_length F
    have hl8 : F.length ≤ 8160 := by have := HSL.out; omega
    have HL8 : Hid (F.length ≤ 8160) := hl8
    clear hs3 hb3 X2 x0 x1 x2 Z2 B2 hl8 hl3
    go_wp2_with (refine wpList_copy_splice rfl _ _ 22 22 rfl 5 Try.underlying22 Try.infoU8s (some ⟨g2, 0, none⟩) a3 8160 8160 F.length c3 rfl rfl g2 0 (zeros 8160) 5 Z3.out (cellsO F) ?k0 ?k1 ?k2 (one_cells F) (w.heap.size + 1) w3 (Below.refl _ _) ?k3 ?_)
    case k0 => rw [HCL.out]; have := HL8.out; show _ = min F.length 8160; omega
    case k1 =>
      intro hp
      rw [HCL.out] at hp
      obtain ⟨b, off, rfl, -⟩ := layB_get S3.out.lay hp
      refine ⟨_, rfl, fun j v hj => ?_⟩
      rw [add_plain]
      simp only [cellsO, List.getElem?_map, Option.map_eq_some_iff] at hj
      obtain ⟨o', ho', rfl⟩ := hj
      obtain ⟨b', off', e', hc⟩ := S3.out.lay j o' ho'
      cases e'
      exact hc
    case k2 => rw [HCL.out, zeros_length]; have := HL8.out; omega
    case k3 => omega
    intro w4 Z4 hB4
    have S4 : Hid (Bs w4 w.heap.size (.slice (some ⟨g2, 0, none⟩) 8160 8160) SO) := by
      have := Z4.out
      rw [HSO.out] at this
      have h := Bs.of_row (B := w.heap.size) this (by omega) (by rw [HLO.out]; omega)
      rw [HLO.out] at h
      exact h
    have B4 : Hid (Below w.heap.size w w4) := B3.out.trans (hB4.mono (by omega))
    clear hB4 Z4 Z3 S3 B3
    go_wp2_with fail
    exact bodyPost_ret (v := .tuple #[.slice (some ⟨g2, 0, none⟩) 8160 8160, .int .i64 0]) (by simp [results, Try.results10, go_sem]) rfl ⟨_, rfl, S4.out, B4.out⟩
  · rw [enc_bad hck]
    have hne : (chkS e q d.length == 0) = false := by simpa using hck
    have hne' : (chkS e q d.length != 0) = true := by simpa using hck
    clear hck
    generalize chkS e q d.length = ck at *
    have B0 : Hid (Below w.heap.size w (w.alloc (.cells #[.int .i64 e, .int .i64 q, .slice a d.length c] 25))) := below_one _ _
    go_enter Try.func10, Try.ntmps10
    go_wp2_with fail
    refine (HCK.out _).mono ?_
    rintro x w1 ⟨rfl, hb1⟩
    have B1 : Hid (Below w.heap.size w w1) := nxt B0.out hb1
    clear hb1 B0 HCK
    go_wp2_with fail
    exact bodyPost_ret (v := .tuple #[.slice none 0 0, .int .i64 ck]) (by simp [results, Try.results10, go_sem]) rfl ⟨_, rfl, Bs.nil _ _, B1.out⟩
end Go.Proofs.Ytocodkoanjcmkac
