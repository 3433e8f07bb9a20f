/-
  What the statements of the frames call besides: of, same, alive; frames among the arguments.
-/
import Derived.Test.YtihncekjbmepoacSeGet
import Derived.Lib.SlBytesConst
namespace Go.Proofs.Ytihncekjbmepoac
open Go.ChangeShapes Go.WideShapes Go.ChangeAt Go.RowKit Go.Deep
open Se

theorem of_cells {w w1 : World} {g : Nat} {x y : Value} {t : TypeId} (h : w1.heap[g]? = w.drew.heap[g]?) (hx : w.heap[g]? = some (.cells #[x, y] t (0, 0))) : w1.cell? ⟨g, 0, none⟩ = some x ∧ w1.cell? ⟨g, 1, none⟩ = some y ∧ w1.frozen? ⟨g, 0, none⟩ = false ∧ w1.frozen? ⟨g, 1, none⟩ = false := by
  have h2 : w1.heap[g]? = some (.cells #[x, y] t (0, 0)) := h.trans hx
  simp [World.cell?, World.frozen?, h2]

set_option maxRecDepth 100000 in
set_option maxHeartbeats 3200000 in
theorem of_any (k : Int) (a : Option Addr) (c : Nat) (d : List UInt8) (w : World) (ho : Oct w a c d) (hl : d.length ≤ 140737488351232) :
    Calls Try.prog 8 #[.agg #[.int .i64 k, .slice a d.length c]] w fun e w' => ∃ s, e = .returned (.agg #[.int .i64 k, s]) ∧ Bs w' w.heap.size s d ∧ Below w.heap.size w w' := by
  have HO : Hid (Oct w a c d) := ho
  clear ho
  go_enter Try.func8, Try.ntmps8
  go_wp2_with fail
  have B0 : Hid (Below w.heap.size w ((w.alloc (.cells #[.int .i64 k, .slice a d.length c] 24)).alloc (.cells #[.int .i64 0, .slice none 0 0] 25))) := nxt (below_one _ _) (below_one _ _)
  have X0 : Hid (((w.alloc (.cells #[.int .i64 k, .slice a d.length c] 24)).alloc (.cells #[.int .i64 0, .slice none 0 0] 25)).heap[w.heap.size]? = some (.cells #[.int .i64 k, .slice a d.length c] 24 (0, 0))) := (Below.heap_alloc _ _ _ (by simp)).trans (heap_alloc_new _ _)
  have Y0 : Hid (((w.alloc (.cells #[.int .i64 k, .slice a d.length c] 24)).alloc (.cells #[.int .i64 0, .slice none 0 0] 25)).heap[w.heap.size + 1]? = some (.cells #[.int .i64 0, .slice none 0 0] 25 (0, 0))) := heap_new2 _ _ _
  generalize (w.alloc (.cells #[.int .i64 k, .slice a d.length c] 24)).alloc (.cells #[.int .i64 0, .slice none 0 0] 25) = W at *
  obtain ⟨x0, -⟩ := cell_of X0.out 0
  obtain ⟨x1, -⟩ := cell_of X0.out 1
  simp at x0 x1
  have x0' : W.drew.cell? ⟨w.heap.size, 0, none⟩ = some (.int .i64 k) := x0
  have x1' : W.drew.cell? ⟨w.heap.size, 1, none⟩ = some (.slice a d.length c) := x1
  go_region_with ((go_at_call 9; refine (copyB_any a c d _ (HO.out.below B0.out.drew) hl).mono ?_; rintro e w1 ⟨s1, rfl, hs1, hb1⟩; have y0 := keepc hb1 _ _ x0'; obtain ⟨t0, t1, q0, q1⟩ := of_cells (hb1.block _ (lt_of_block Y0.out)) Y0.out; obtain ⟨a1, c1, rfl⟩ := hs1.shape))
  all_goals
    have hw : w.heap.size + 1 < W.heap.size := lt_of_block Y0.out
    have B1 : Hid (Below w.heap.size w w1) := B0.out.drew.trans (hb1.mono (by have := B0.out.size; show w.heap.size ≤ W.heap.size; omega))
    have S1 : Hid (Bs w1 W.heap.size (.slice a1 d.length c1) d) := hs1
    clear hs1 hb1
    go_wp2_with fail
    refine bodyPost_ret (v := .agg #[.int .i64 k, .slice a1 d.length c1]) (by simp [results, Try.results8, go_sem, t0, t1]) rfl ?_
    refine ⟨_, rfl, ?_, (B1.out.setCell (by show w.heap.size ≤ w.heap.size + 1; omega) _).setCell (by show w.heap.size ≤ w.heap.size + 1; omega) _⟩
    have h := S1.out
    refine Bs.up (B := W.heap.size) (ownsRow_same h ?_) ?_
    · intro g hg
      have := (h.base g hg).1
      rw [Below.heap_setCell _ _ _ _ (by show g ≠ w.heap.size + 1; omega), Below.heap_setCell _ _ _ _ (by show g ≠ w.heap.size + 1; omega)]
    · intro g hg
      have := (h.base g hg).1
      omega

set_option maxRecDepth 100000 in
set_option maxHeartbeats 1600000 in
theorem same_any (k k' : Int) (a a' : Option Addr) (c c' : Nat) (d d' : List UInt8) (w : World) (h : LayB w a d) (h' : LayB w a' d') :
    Calls Try.prog 18 #[.agg #[.int .i64 k, .slice a d.length c], .agg #[.int .i64 k', .slice a' d'.length c']] w fun e w' => e = .returned (.bool (k == k' && d == d')) ∧ Below w.heap.size w w' := by
  have HL : Hid (LayB w a d) := h
  have HL' : Hid (LayB w a' d') := h'
  clear h h'
  cases hk : (k == k') with
  | true =>
    go_enter Try.func18, Try.ntmps18
    go_wp2_with fail
    refine (sameB_any d d' a a' c c' _ ((HL.out.below (below_one _ _)).below (below_one _ _)) ((HL'.out.below (below_one _ _)).below (below_one _ _))).mono ?_
    rintro e w1 ⟨rfl, rfl⟩
    go_wp2_with fail
    go_ret
    exact ⟨rfl, nxt (below_one _ _) (below_one _ _)⟩
  | false =>
    go_enter Try.func18, Try.ntmps18
    go_wp2_with fail
    go_ret
    exact ⟨rfl, nxt (below_one _ _) (below_one _ _)⟩

/-- The page's example, and the sum of nine digits. -/
theorem ex_put : putR 1 [97] = (0, frame 1 [97]) := by decide +kernel
theorem ex_frame : frame 1 [97] = [1, 0, 0, 1, 97, 11, 147, 11, 131] := by decide +kernel
theorem ex_sum : sum [49, 50, 51, 52, 53, 54, 55, 56, 57] = 759025838 := by decide +kernel

/-- Octets that a text's row holds. -/
theorem oct_const (w : World) (l : List UInt8) (C : Array Value) (r : Nat × Nat) (h : C.toList = cellsO l) (hl : l.length ≤ 1000) : Oct (w.alloc (.cells C 5 r)) (some ⟨w.heap.size, 0, none⟩) l.length l := by
  refine ⟨fun i o hi => ⟨w.heap.size, 0, rfl, ?_⟩, Nat.le_refl _, by omega, by omega, (fun e => by cases e), fun ad e _ => by cases e; rfl⟩
  have h2 : (w.alloc (.cells C 5 r)).heap[w.heap.size]? = some (.cells C 5 r) := heap_alloc_new _ _
  simp only [World.cell?, h2, Nat.zero_add]
  have : C[i]? = some (.int .u8 (o.toNat : Int)) := by
    rw [← Array.getElem?_toList, h, cellsO, List.getElem?_map, hi]
    rfl
  simpa using this

set_option maxRecDepth 100000 in
set_option maxHeartbeats 1600000 in
theorem alive_any (w : World) : Calls Try.prog 22 #[] w fun e w' => e = .returned (.bool true) ∧ Below w.heap.size w w' := by
  have hcv := Go.Lib.run_convert_bytes_const (P := Try.prog) w 22 5 #[.int .u8 97] 1 1 Try.underlying22 Try.underlying5
  have hcv2 : ∀ w', _ := fun w' => Go.Lib.run_convert_bytes_const (P := Try.prog) w' 22 5 #[.int .u8 49, .int .u8 50, .int .u8 51, .int .u8 52, .int .u8 53, .int .u8 54, .int .u8 55, .int .u8 56, .int .u8 57] 9 9 Try.underlying22 Try.underlying5
  go_enter Try.func22, Try.ntmps22
  go_wp2_with fail
  have HP := put_any 1 (some ⟨w.heap.size, 0, none⟩) 1 [97] (w.alloc (.cells #[.int .u8 97] 5 (1, 1 + 1))) (oct_const w [97] _ _ rfl (by simp))
  rw [ex_put, ex_frame] at HP
  refine HP.mono ?_
  rintro e w1 ⟨s1, rfl, hs1, hb1⟩
  obtain ⟨a1, c1, rfl⟩ := hs1.shape
  have HO : Hid (Oct w1 a1 c1 [1, 0, 0, 1, 97, 11, 147, 11, 131]) := hs1.oct (by simp)
  have B1 : Hid (Below w.heap.size w w1) := nxt (below_one _ _) hb1
  clear HP hs1 hb1
  go_wp2_with fail
  refine (num_any _ _).mono ?_
  rintro e w2 ⟨rfl, hw2⟩
  subst w2
  obtain ⟨b, off, rfl, -⟩ := layB_get HO.out.1 (show 0 < 9 by decide)
  have hc9 : 9 ≤ c1 := HO.out.2.1
  go_wp2_with (refine wpList_strG _ (.tmp 20) rfl (by rfl) (some ⟨b, off, none⟩) c1 5 [1, 0, 0, 1, 97] rfl rfl ?l0 ?_)
  case l0 => exact (Oct.part HO.out 0 5 (by decide) (by decide)).1
  have HS := sum_any (some ⟨w1.heap.size, 0, none⟩) 9 [49, 50, 51, 52, 53, 54, 55, 56, 57] (w1.alloc (.cells #[.int .u8 49, .int .u8 50, .int .u8 51, .int .u8 52, .int .u8 53, .int .u8 54, .int .u8 55, .int .u8 56, .int .u8 57] 5 (9, 9 + 1))) (oct_const w1 [49, 50, 51, 52, 53, 54, 55, 56, 57] _ _ rfl (by simp)).1 (by simp)
  rw [ex_sum] at HS
  refine HS.mono ?_
  rintro e w3 ⟨rfl, hb3⟩
  have B3 : Hid (Below w.heap.size w w3) := nxt (nxt B1.out (below_one _ _)) hb3
  clear HS hb3
  go_wp2_with fail
  go_ret
  exact ⟨rfl, B3.out⟩

/-- A frame that came in. -/
def FrameIs (w : World) (x : Value) (f : Int × List UInt8) : Prop := ∃ a c, x = .agg #[.int .i64 f.1, .slice a f.2.length c] ∧ (-9223372036854775808 ≤ f.1 ∧ f.1 ≤ 9223372036854775807) ∧ Oct w a c f.2 ∧ f.2.length ≤ 140737488351232

theorem Try.cellsFr : Try.prog.cellsOf 24 = 2 := by kernel_rfl
theorem Try.cellsInt : Try.prog.cellsOf 3 = 1 := by kernel_rfl
theorem Try.cellsBs : Try.prog.cellsOf 22 = 1 := by kernel_rfl

theorem frame_of_trod {H : Type} {enc : TypeId × Value → H} {w : World} {d : DataW H} {fuel : Nat} {cs : List Value} {pl : List MemPlace} (hwt : ∀ n ∈ d.weights Try.prog 24, n ≤ reachBytes)
    (h : DataW.trod enc Try.prog w 0 (fun _ => true) true fuel 24 cs = some (d, pl)) : ∃ f, FrameIs w (.agg cs.toArray) f := by
  obtain ⟨xs, n, _, hx, hl, hlen, hf⟩ := DataW.trod_struct Try.underlying24 h
  match xs, hlen with
  | [y0, y1], _ =>
  rw [Try.cellsFr] at hl
  match cs, hl with
  | [c0, c1], _ =>
  have f0 : DataW.trod enc Try.prog w 0 (fun _ => true) true n 3 (([c0, c1].drop 0).take (Try.prog.cellsOf 3)) = some y0 := hf 0 _ rfl
  rw [Try.cellsInt] at f0
  have f1 : DataW.trod enc Try.prog w 0 (fun _ => true) true n 22 (([c0, c1].drop 1).take (Try.prog.cellsOf 22)) = some y1 := hf 1 _ rfl
  rw [Try.cellsBs] at f1
  obtain ⟨kk, e0, rfl, w0⟩ := DataW.trod_int Try.underlying3 f0
  have e0' : c0 = .int .i64 kk := by simpa using e0
  subst e0'
  have hd : d = .agg [.lit (.int .i64 kk), y1.1] := by
    have := congrArg Prod.fst hx
    simpa using this
  subst hd
  have ew : (DataW.agg [.lit (.int .i64 kk), y1.1] : DataW H).weights Try.prog 24 = y1.1.weights Try.prog 22 := by
    simp [DataW.weights, Try.underlying24, DataW.weightsEach]
  rw [ew] at hwt
  have b0 := bounds_i64 w0
  have f1' : DataW.trod enc Try.prog w 0 (fun _ => true) true n 22 [c1] = some (y1.1, y1.2) := f1
  obtain ⟨bs, a, c, rfl, ho, hl⟩ := bytes_of_trod hwt f1'
  exact ⟨(kk, bs), a, c, rfl, by omega, ho, hl⟩

theorem fr_of_arg {H : Type} {enc : TypeId × Value → H} {w : World} {base : Nat} {x : Value} {d : DataW H} {pl : List MemPlace} (hx : Value.okWide Try.prog w .any base 24 x) (h : DataW.Trod enc Try.prog w 0 (fun _ => true) true 24 x d pl)
    (hw : ∀ n ∈ d.weights Try.prog 24, n ≤ reachBytes) : ∃ f, FrameIs w x f := by
  obtain ⟨fuel, hf⟩ := h
  obtain ⟨f, hv⟩ := frame_of_trod hw hf
  obtain ⟨cs, rfl⟩ : ∃ cs, x = .agg cs := by
    unfold Value.okWide at hx
    rw [Try.underlying24] at hx
    obtain ⟨cs, h, _⟩ := hx
    exact ⟨cs, h⟩
  exact ⟨f, by simpa [Value.cells] using hv⟩
end Go.Proofs.Ytihncekjbmepoac
