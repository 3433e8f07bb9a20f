/-
  What layer 7's statements call besides: of, same, alive; a snapshot among the arguments.
-/
import Derived.Test.YtocodkoanjcmkacSnNew
import Derived.Lib.SlBytesConst
import Derived.Deep.RegionHeld3
namespace Go.Proofs.Ytocodkoanjcmkac
open Go.ChangeShapes Go.WideShapes Go.ChangeAt Go.RowKit Go.Deep
open Se

theorem of_cells3 {w w1 : World} {g : Nat} {x y z : Value} {t : TypeId} (h : w1.heap[g]? = w.drew.heap[g]?) (hx : w.heap[g]? = some (.cells #[x, y, z] t (0, 0))) : (w1.cell? ⟨g, 0, none⟩ = some x ∧ w1.cell? ⟨g, 1, none⟩ = some y ∧ w1.cell? ⟨g, 2, none⟩ = some z) ∧ w1.frozen? ⟨g, 0, none⟩ = false ∧ w1.frozen? ⟨g, 1, none⟩ = false ∧ w1.frozen? ⟨g, 2, none⟩ = false := by
  have h' : w1.heap[g]? = some (.cells #[x, y, z] t (0, 0)) := h.trans hx
  exact ⟨⟨(cell_of h' 0).1, (cell_of h' 1).1, (cell_of h' 2).1⟩, (cell_of h' 0).2, (cell_of h' 1).2, (cell_of h' 2).2⟩

set_option maxRecDepth 100000 in
set_option maxHeartbeats 1600000 in
theorem of_any (e q : Int) (a : Option Addr) (c : Nat) (d : List UInt8) (w : World) (ho : Oct w a c d) (hl : d.length ≤ 140737488351232) :
    Calls Try.prog 8 #[.agg #[.int .i64 e, .int .i64 q, .slice a d.length c]] w fun x w' => ∃ s, x = .returned (.agg #[.int .i64 e, .int .i64 q, s]) ∧ Bs w' w.heap.size s d ∧ Below w.heap.size w w' := by
  have HO : Hid (Oct w a c d) := ho
  clear ho
  have B0 : Hid (Below w.heap.size w ((w.alloc (.cells #[.int .i64 e, .int .i64 q, .slice a d.length c] 24)).alloc (.cells #[.int .i64 0, .int .i64 0, .slice none 0 0] 25))) := nxt (below_one _ _) (below_one _ _)
  have X0 : Hid (((w.alloc (.cells #[.int .i64 e, .int .i64 q, .slice a d.length c] 24)).alloc (.cells #[.int .i64 0, .int .i64 0, .slice none 0 0] 25)).heap[w.heap.size]? = some (.cells #[.int .i64 e, .int .i64 q, .slice a d.length c] 24 (0, 0))) := (Below.heap_alloc _ _ _ (by simp)).trans (heap_alloc_new _ _)
  have Y0 : Hid (((w.alloc (.cells #[.int .i64 e, .int .i64 q, .slice a d.length c] 24)).alloc (.cells #[.int .i64 0, .int .i64 0, .slice none 0 0] 25)).heap[w.heap.size + 1]? = some (.cells #[.int .i64 0, .int .i64 0, .slice none 0 0] 25 (0, 0))) := heap_new2 _ _ _
  go_enter Try.func8, Try.ntmps8
  go_wp2_with fail
  generalize (w.alloc (.cells #[.int .i64 e, .int .i64 q, .slice a d.length c] 24)).alloc (.cells #[.int .i64 0, .int .i64 0, .slice none 0 0] 25) = W at *
  obtain ⟨x0, -⟩ := cell_of X0.out 0
  obtain ⟨x1, -⟩ := cell_of X0.out 1
  obtain ⟨x2, -⟩ := cell_of X0.out 2
  simp at x0 x1 x2
  have x0' : W.drew.cell? ⟨w.heap.size, 0, none⟩ = some (.int .i64 e) := x0
  have x1' : W.drew.cell? ⟨w.heap.size, 1, none⟩ = some (.int .i64 q) := x1
  have x2' : W.drew.cell? ⟨w.heap.size, 2, none⟩ = some (.slice a d.length c) := x2
  have HCB : Hid (Calls Try.prog 22 #[.slice a d.length c] W.drew fun e w' => ∃ s, e = .returned s ∧ Bs w' W.heap.size s d ∧ Below W.heap.size W.drew w') := copyB_any a c d W.drew (HO.out.below B0.out.drew) hl
  go_region_held3 (fun w' => w'.cell? ⟨w.heap.size, 0, none⟩ = some (.int .i64 e) ∧ w'.cell? ⟨w.heap.size, 1, none⟩ = some (.int .i64 q) ∧ w'.cell? ⟨w.heap.size, 2, none⟩ = some (.slice a d.length c)) (go_keep) ((go_at_call 22; refine HCB.out.mono ?_; rintro x w1 ⟨s1, rfl, hs1, hb1⟩; have y0 := keepc hb1 _ _ x0'; have y1 := keepc hb1 _ _ x1'; have y2 := keepc hb1 _ _ x2'; obtain ⟨⟨t0, t1, t2⟩, q0, q1, q2⟩ := of_cells3 (hb1.block _ (lt_of_block Y0.out)) Y0.out; obtain ⟨a1, c1, rfl⟩ := hs1.shape))
  all_goals
    have hw : w.heap.size + 1 < W.heap.size := lt_of_block Y0.out
    have Y1 : w1.heap[w.heap.size + 1]? = some (.cells #[.int .i64 0, .int .i64 0, .slice none 0 0] 25 (0, 0)) := (hb1.block _ hw).trans Y0.out
    have S3 : Hid ((((w1.setCell ⟨w.heap.size + 1, 0, none⟩ (.int .i64 e)).setCell ⟨w.heap.size + 1, 1, none⟩ (.int .i64 q)).setCell ⟨w.heap.size + 1, 2, none⟩ (.slice a1 d.length c1)).heap[w.heap.size + 1]? = some (.cells #[.int .i64 e, .int .i64 q, .slice a1 d.length c1] 25 (0, 0))) := boxed3 Y1 _ _ _
    have B1 : Hid (Below w.heap.size w (((w1.setCell ⟨w.heap.size + 1, 0, none⟩ (.int .i64 e)).setCell ⟨w.heap.size + 1, 1, none⟩ (.int .i64 q)).setCell ⟨w.heap.size + 1, 2, none⟩ (.slice a1 d.length c1))) := Below.box3 (B0.out.drew.trans (hb1.mono (by have := B0.out.size; show w.heap.size ≤ W.heap.size; omega))) (by omega) _ _ _
    have S1 : Hid (Bs (((w1.setCell ⟨w.heap.size + 1, 0, none⟩ (.int .i64 e)).setCell ⟨w.heap.size + 1, 1, none⟩ (.int .i64 q)).setCell ⟨w.heap.size + 1, 2, none⟩ (.slice a1 d.length c1)) w.heap.size (.slice a1 d.length c1) d) := by
      refine Bs.up (B := W.heap.size) (ownsRow_same hs1 ?_) ?_
      · intro g hg
        have := (hs1.base g hg).1
        rw [Below.heap_setCell _ _ _ _ (by show g ≠ w.heap.size + 1; omega), Below.heap_setCell _ _ _ _ (by show g ≠ w.heap.size + 1; omega), Below.heap_setCell _ _ _ _ (by show g ≠ w.heap.size + 1; omega)]
      · intro g hg
        have := (hs1.base g hg).1
        omega
    clear hs1 hb1 y0 y1 y2 t0 t1 t2 q0 q1 q2 Y1
    generalize ((w1.setCell ⟨w.heap.size + 1, 0, none⟩ (.int .i64 e)).setCell ⟨w.heap.size + 1, 1, none⟩ (.int .i64 q)).setCell ⟨w.heap.size + 1, 2, none⟩ (.slice a1 d.length c1) = W4 at *
    obtain ⟨s0, -⟩ := cell_of S3.out 0
    obtain ⟨s1, -⟩ := cell_of S3.out 1
    obtain ⟨s2, -⟩ := cell_of S3.out 2
    simp at s0 s1 s2
    go_wp2_with fail
    exact bodyPost_ret (v := .agg #[.int .i64 e, .int .i64 q, .slice a1 d.length c1]) (by simp [results, Try.results8, go_sem, s0, s1, s2]) rfl ⟨_, rfl, S1.out, B1.out⟩

set_option maxRecDepth 100000 in
set_option maxHeartbeats 1600000 in
theorem same_any (e q e' q' : Int) (a a' : Option Addr) (c c' : Nat) (d d' : List UInt8) (w : World) (h : LayB w a d) (h' : LayB w a' d') :
    Calls Try.prog 18 #[.agg #[.int .i64 e, .int .i64 q, .slice a d.length c], .agg #[.int .i64 e', .int .i64 q', .slice a' d'.length c']] w fun x w' => x = .returned (.bool (e == e' && q == q' && d == d')) ∧ Below w.heap.size w w' := by
  have HL : Hid (LayB w a d) := h
  have HL' : Hid (LayB w a' d') := h'
  clear h h'
  cases hk : (e == e') with
  | true =>
    cases hq : (q == q') with
    | true =>
      go_enter Try.func18, Try.ntmps18
      go_wp2_with fail
      refine (sameB_any d d' a a' c c' _ ((HL.out.below (below_one _ _)).below (below_one _ _)) ((HL'.out.below (below_one _ _)).below (below_one _ _))).mono ?_
      rintro x w1 ⟨rfl, rfl⟩
      go_wp2_with fail
      go_ret
      exact ⟨rfl, nxt (below_one _ _) (below_one _ _)⟩
    | false =>
      go_enter Try.func18, Try.ntmps18
      go_wp2_with fail
      go_ret
      exact ⟨rfl, nxt (below_one _ _) (below_one _ _)⟩
  | false =>
    go_enter Try.func18, Try.ntmps18
    go_wp2_with fail
    go_ret
    exact ⟨rfl, nxt (below_one _ _) (below_one _ _)⟩

/-- Octets that a text's row holds. -/
theorem oct_const (w : World) (l : List UInt8) (C : Array Value) (r : Nat × Nat) (h : C.toList = cellsO l) (hl : l.length ≤ 1000) : Oct (w.alloc (.cells C 5 r)) (some ⟨w.heap.size, 0, none⟩) l.length l := by
  refine ⟨fun i o hi => ⟨w.heap.size, 0, rfl, ?_⟩, Nat.le_refl _, by omega, by omega, (fun e => by cases e), fun ad e _ => by cases e; rfl⟩
  have h2 : (w.alloc (.cells C 5 r)).heap[w.heap.size]? = some (.cells C 5 r) := heap_alloc_new _ _
  simp only [World.cell?, h2, Nat.zero_add]
  have : C[i]? = some (.int .u8 (o.toNat : Int)) := by
    rw [← Array.getElem?_toList, h, cellsO, List.getElem?_map, hi]
    rfl
  simpa using this

/-- Encode of a snapshot that may be. -/
theorem encode_ok {e q : Int} {a : Option Addr} {c : Nat} {d : List UInt8} {w : World} (ho : Oct w a c d) (hk : chkS e q d.length = 0) :
    Calls Try.prog 10 #[.agg #[.int .i64 e, .int .i64 q, .slice a d.length c]] w fun x w' => ∃ a1 c1, x = .returned (.tuple #[.slice a1 8160 c1, .int .i64 0]) ∧ Bs w' w.heap.size (.slice a1 8160 c1) (slotO e q d) ∧ Below w.heap.size w w' := by
  have h := encode_any e q a c d w ho
  rw [enc_ok hk] at h
  refine h.mono ?_
  rintro x w' ⟨s, rfl, hs, hb⟩
  simp only at hs
  obtain ⟨a1, c1, rfl⟩ := hs.shape
  rw [slotO_length (chk_ok hk).2.2] at hs ⊢
  exact ⟨a1, c1, rfl, hs, hb⟩

set_option maxRecDepth 100000 in
set_option maxHeartbeats 1600000 in
theorem alive_any (w : World) : Calls Try.prog 21 #[] w fun e w' => e = .returned (.bool true) ∧ Below w.heap.size w w' := by
  have hcv : ∀ w', _ := fun w' => Go.Lib.run_convert_bytes_const (P := Try.prog) w' 22 5 #[.int .u8 120] 1 1 Try.underlying22 Try.underlying5
  have HE1 : Hid (Calls Try.prog 10 #[.agg #[.int .i64 4, .int .i64 0, .slice none 0 0]] w fun x w' => ∃ a1 c1, x = .returned (.tuple #[.slice a1 8160 c1, .int .i64 0]) ∧ Bs w' w.heap.size (.slice a1 8160 c1) (slotO 4 0 []) ∧ Below w.heap.size w w') := encode_ok (Oct.none w none) (by decide)
  have HE2 : Hid (∀ W C r, C.toList = cellsO [120] → Calls Try.prog 10 #[.agg #[.int .i64 5, .int .i64 0, .slice (some ⟨W.heap.size, 0, none⟩) 1 1]] (W.alloc (.cells C 5 r)) fun x w' => ∃ a1 c1, x = .returned (.tuple #[.slice a1 8160 c1, .int .i64 0]) ∧ Bs w' W.heap.size (.slice a1 8160 c1) (slotO 5 0 [120]) ∧ Below W.heap.size W w') := by
    intro W C r h
    refine (encode_ok (oct_const W [120] C r h (by simp)) (by decide)).mono ?_
    rintro x w' ⟨a1, c1, rfl, hs, hb⟩
    exact ⟨a1, c1, rfl, hs.up (fun g hg => by have := (hs.base g hg).1; simp at this; omega), nxt (below_one _ _) hb⟩
  have HD : Hid (newR (decR (slotO 4 0 [])) (decR (slotO 5 0 [120])) = (0, 1, 5, 0, [120])) := by
    show _ = _
    rw [dec_slot (by decide), dec_slot (by decide)]
    decide
  have HL1 : Hid ((slotO 4 0 []).length = 8160) := slotO_length (by simp)
  have HL2 : Hid ((slotO 5 0 [120]).length = 8160) := slotO_length (by simp)
  generalize slotO 4 0 [] = S1 at *
  generalize slotO 5 0 [120] = S2 at *
  go_enter Try.func21, Try.ntmps21
  go_wp2_with fail
  refine HE1.out.mono ?_
  rintro x w1 ⟨a1, c1, rfl, hs1, hb1⟩
  have H1 : Hid (Bs w1 w.heap.size (.slice a1 8160 c1) S1) := hs1
  have B1 : Hid (Below w.heap.size w w1) := hb1
  clear hs1 hb1 HE1
  go_wp2_with fail
  refine (HE2.out w1 _ _ rfl).mono ?_
  rintro x w2 ⟨a2, c2, rfl, hs2, hb2⟩
  have H2 : Hid (Bs w2 w1.heap.size (.slice a2 8160 c2) S2) := hs2
  have G2 : Hid (Bs w2 w.heap.size (.slice a1 8160 c1) S1) := H1.out.below hb2
  have B2 : Hid (Below w.heap.size w w2) := nxt B1.out hb2
  clear hs2 hb2 HE2 H1 B1
  have HN : Hid (Calls Try.prog 14 #[.slice a1 8160 c1, .slice a2 8160 c2] w2 (NewPost w2 (0, 1, 5, 0, [120]))) := by
    have := newest_any a1 a2 c1 c2 S1 S2 w2 (G2.out.oct (by rw [HL1.out]; omega)) (H2.out.oct (by rw [HL2.out]; omega))
    rw [HD.out, HL1.out, HL2.out] at this
    exact this
  go_wp2_with fail
  refine HN.out.mono ?_
  rintro x w3 ⟨a3, c3, rfl, -, hb3⟩
  simp only
  have B3 : Hid (Below w.heap.size w w3) := nxt B2.out hb3
  clear hb3 HN B2
  go_wp2_with (go_at_call 17; refine (num_any _ _).mono ?_; rintro x w4 ⟨rfl, hw4⟩; subst w4)
  go_ret
  exact ⟨rfl, nxt B3.out (below_one _ _)⟩

/-- A snapshot that came in. -/
def SnIs (w : World) (x : Value) (s : Sn) : Prop := ∃ a c, x = .agg #[.int .i64 s.1, .int .i64 s.2.1, .slice a s.2.2.length c] ∧ ((-9223372036854775808 ≤ s.1 ∧ s.1 ≤ 9223372036854775807) ∧ -9223372036854775808 ≤ s.2.1 ∧ s.2.1 ≤ 9223372036854775807) ∧ Oct w a c s.2.2 ∧ s.2.2.length ≤ 140737488351232

theorem Try.cellsSn : Try.prog.cellsOf 24 = 3 := by kernel_rfl
theorem Try.cellsInt : Try.prog.cellsOf 3 = 1 := by kernel_rfl
theorem Try.cellsBs : Try.prog.cellsOf 22 = 1 := by kernel_rfl

theorem sn_of_trod {H : Type} {enc : TypeId × Value → H} {w : World} {d : DataW H} {fuel : Nat} {cs : List Value} {pl : List MemPlace} (hwt : ∀ n ∈ d.weights Try.prog 24, n ≤ reachBytes)
    (h : DataW.trod enc Try.prog w 0 (fun _ => true) true fuel 24 cs = some (d, pl)) : ∃ s, SnIs w (.agg cs.toArray) s := by
  obtain ⟨xs, n, _, hx, hl, hlen, hf⟩ := DataW.trod_struct Try.underlying24 h
  match xs, hlen with
  | [y0, y1, y2], _ =>
  rw [Try.cellsSn] at hl
  match cs, hl with
  | [c0, c1, c2], _ =>
  have f0 : DataW.trod enc Try.prog w 0 (fun _ => true) true n 3 (([c0, c1, c2].drop 0).take (Try.prog.cellsOf 3)) = some y0 := hf 0 _ rfl
  rw [Try.cellsInt] at f0
  have f1 : DataW.trod enc Try.prog w 0 (fun _ => true) true n 3 (([c0, c1, c2].drop 1).take (Try.prog.cellsOf 3)) = some y1 := hf 1 _ rfl
  rw [Try.cellsInt] at f1
  have f2 : DataW.trod enc Try.prog w 0 (fun _ => true) true n 22 (([c0, c1, c2].drop 2).take (Try.prog.cellsOf 22)) = some y2 := hf 2 _ rfl
  rw [Try.cellsBs] at f2
  obtain ⟨k0, e0, rfl, w0⟩ := DataW.trod_int Try.underlying3 f0
  have e0' : c0 = .int .i64 k0 := by simpa using e0
  subst e0'
  obtain ⟨k1, e1, rfl, w1⟩ := DataW.trod_int Try.underlying3 f1
  have e1' : c1 = .int .i64 k1 := by simpa using e1
  subst e1'
  have hd : d = .agg [.lit (.int .i64 k0), .lit (.int .i64 k1), y2.1] := by
    have := congrArg Prod.fst hx
    simpa using this
  subst hd
  have ew : (DataW.agg [.lit (.int .i64 k0), .lit (.int .i64 k1), y2.1] : DataW H).weights Try.prog 24 = y2.1.weights Try.prog 22 := by
    simp [DataW.weights, Try.underlying24, DataW.weightsEach]
  rw [ew] at hwt
  have b0 := bounds_i64 w0
  have b1 := bounds_i64 w1
  have f2' : DataW.trod enc Try.prog w 0 (fun _ => true) true n 22 [c2] = some (y2.1, y2.2) := f2
  obtain ⟨bs, a, c, rfl, ho, hl⟩ := bytes_of_trod hwt f2'
  exact ⟨(k0, k1, bs), a, c, rfl, ⟨⟨by simp only; omega, by simp only; omega⟩, by simp only; omega, by simp only; omega⟩, ho, hl⟩

theorem sn_of_arg {H : Type} {enc : TypeId × Value → H} {w : World} {base : Nat} {x : Value} {d : DataW H} {pl : List MemPlace} (hx : Value.okWide Try.prog w .any base 24 x) (h : DataW.Trod enc Try.prog w 0 (fun _ => true) true 24 x d pl)
    (hw : ∀ n ∈ d.weights Try.prog 24, n ≤ reachBytes) : ∃ s, SnIs w x s := by
  obtain ⟨fuel, hf⟩ := h
  obtain ⟨f, hv⟩ := sn_of_trod hw hf
  obtain ⟨cs, rfl⟩ : ∃ cs, x = .agg cs := by
    unfold Value.okWide at hx
    rw [Try.underlying24] at hx
    obtain ⟨cs, h, _⟩ := hx
    exact ⟨cs, h⟩
  exact ⟨f, by simpa [Value.cells] using hv⟩
end Go.Proofs.Ytocodkoanjcmkac
