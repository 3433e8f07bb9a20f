/-
  The program's frameOf, placeFor; bytes.Clone.
-/
import Derived.Test.YtocodkoanjcmkabWlCheck
import Derived.Test.YtocodkoanjcmkabOcStep
import Derived.Deep.OwnRows
namespace Go.Proofs.Ytocodkoanjcmkab
open Go.ChangeShapes Go.WideShapes Go.ChangeAt Go.RowKit Go.Deep
open Se

/-- A number in eight octets, the highest first. -/
def oct (b : Int) (i : Nat) : UInt8 := UInt8.ofNat (b.toNat / 2 ^ (8 * (7 - i)))
def octs (b : Int) : List UInt8 := (List.range 8).map (oct b)
theorem octs_length (b : Int) : (octs b).length = 8 := by simp [octs]
theorem octs_take {b : Int} {m : Nat} (h : m < 8) : (octs b).take (m + 1) = (octs b).take m ++ [oct b m] := by
  rw [List.take_succ_eq_append_getElem (by rw [octs_length]; omega)]
  simp [octs]
theorem oct_val {b : Int} (h0 : 0 ≤ b) (m : Nat) : b / 2 ^ (8 * (7 - m)) % 256 = ((oct b m).toNat : Int) := by
  obtain ⟨n, rfl⟩ : ∃ n : Nat, b = n := ⟨b.toNat, by omega⟩
  simp only [oct, Int.toNat_natCast, UInt8.toNat_ofNat']
  generalize 8 * (7 - m) = k
  rw [Int.natCast_emod, Int.natCast_ediv, Int.natCast_pow]
  rfl
theorem numO_octs {b : Int} (h0 : 0 ≤ b) (h1 : b < 18446744073709551616) : numO (octs b) = b := by
  obtain ⟨n, rfl⟩ : ∃ n : Nat, b = n := ⟨b.toNat, by omega⟩
  simp only [octs, numO, List.range, List.range.loop, List.map_cons, List.map_nil, List.foldl_cons, List.foldl_nil, oct, UInt8.toNat_ofNat', Int.toNat_natCast]
  simp only [show 8 * (7 - 0) = 56 by rfl, show 8 * (7 - 1) = 48 by rfl, show 8 * (7 - 2) = 40 by rfl, show 8 * (7 - 3) = 32 by rfl, show 8 * (7 - 4) = 24 by rfl, show 8 * (7 - 5) = 16 by rfl, show 8 * (7 - 6) = 8 by rfl, show 8 * (7 - 7) = 0 by rfl]
  omega
/-- A record's octets. -/
def rfr (nx : Int) (d : List UInt8) : List UInt8 := frame 2 (octs nx ++ d)
theorem rfr_length (nx : Int) (d : List UInt8) : (rfr nx d).length = 16 + d.length := by
  rw [rfr, frame_length, List.length_append, octs_length]
  omega

theorem eql_nil (w : World) (a : Option Addr) (l c : Nat) : Sem.run Try.prog (binOp .eql 25 (.slice a l c) (.slice none 0 0)) w = .ok (.bool a.isNone) w := by
  exact Lib.run_eql_slice_nil w 25 5 a l c 0 0 Try.underlying25

set_option maxRecDepth 100000 in
theorem clone_any (a : Option Addr) (c : Nat) (l : List UInt8) (w : World) (ho : Oct w a c l) (hl : l.length ≤ 140737488351232) :
    Calls Try.prog 37 #[.slice a l.length c] w fun e w' => ∃ s, e = .returned s ∧ Bs w' w.heap.size s l ∧ Below w.heap.size w w' := by
  have HO : Hid (Oct w a c l) := ho
  cases a with
  | none =>
    have hc := ho.2.2.2.2.1 rfl
    have hl0 : l = [] := List.eq_nil_of_length_eq_zero (by have := ho.2.1; omega)
    subst hl0 hc
    clear ho
    have hnil := fun w l c => eql_nil w none l c
    simp only [Option.isNone_none] at hnil
    go_enter Try.func37, Try.ntmps37
    go_wp2_with fail
    go_ret
    exact ⟨_, rfl, Bs.nil _ _, Below.refl _ _⟩
  | some ad =>
    clear ho
    have B0 : Hid (Bs (w.alloc (.cells #[] 5)) w.heap.size (.slice (some ⟨w.heap.size, 0, none⟩) 0 0) []) := Bs.made w [] #[] rfl _ (Nat.le_refl _) (by simp)
    have HO2 : Hid (Oct (w.alloc (.cells #[] 5)) (some ad) c l) := HO.out.below (below_one _ _)
    have hnil := fun w l c => eql_nil w (some ad) l c
    simp only [Option.isNone_some] at hnil
    go_enter Try.func37, Try.ntmps37
    go_wp2_with (at_builtin; refine wpList_appO _ rfl _ _ rfl w.heap.size _ [] l rfl B0.out (some ad) c rfl HO2.out ?d0 ?d1 ?_)
    case d0 => simp; omega
    case d1 => simp
    intro s w1 h1 h2
    have H1 : Hid (Bs w1 w.heap.size s l) := by show Bs _ _ _ _; simpa using h1
    have B1 : Hid (Below w.heap.size w w1) := (RowTo.pre (below_one w _) h2).below (Nat.le_refl _) (fun g hg => by simp [Value.ownBlock] at hg; omega)
    clear h1 h2
    go_wp2_with fail
    go_ret
    exact ⟨s, rfl, H1.out, B1.out⟩

theorem Try.infoBs : (Try.prog.info? 25).map (fun i => (i.zero, i.size, i.bytes)) = some (some (.slice none 0 0), 1, 24) := by kernel_rfl

set_option maxRecDepth 100000 in
set_option maxHeartbeats 3200000 in
theorem frameOf_any (nx : Int) (a : Option Addr) (c : Nat) (d : List UInt8) (w : World) (ho : Oct w a c d) (hd : d.length ≤ 400) (h1 : 0 ≤ nx) (_h2 : nx ≤ 9223372036854775807) :
    Calls Try.prog 30 #[.agg #[.int .i64 nx, .slice a d.length c]] w fun e w' => ∃ s, e = .returned s ∧ Bs w' w.heap.size s (rfr nx d) ∧ Below w.heap.size w w' := by
  have HO : Hid (Oct w a c d) := ho
  clear ho
  have HNX : Hid (0 ≤ nx) := h1
  go_enter Try.func30, Try.ntmps30
  have B0 : Hid (Below w.heap.size w (w.alloc (.cells #[.int .i64 nx, .slice a d.length c] 66))) := below_one _ _
  have X0 : Hid ((w.alloc (.cells #[.int .i64 nx, .slice a d.length c] 66)).heap[w.heap.size]? = some (.cells #[.int .i64 nx, .slice a d.length c] 66 (0, 0))) := heap_alloc_new _ _
  go_wp2_with (refine wpList_mkB _ rfl _ _ rfl _ (8 + d.length) rfl rfl (by push_cast; omega) (by omega) ?_)
  intro s2 w2 hs2 hb2
  have X2 : Hid (w2.heap[w.heap.size]? = some (.cells #[.int .i64 nx, .slice a d.length c] 66 (0, 0))) := (hb2.block _ (by simp)).trans (heap_alloc_new _ _)
  have S2 : Hid (Bs w2 (w.heap.size + 1) s2 []) := hs2
  have B2 : Hid (Below w.heap.size w w2) := (below_one w _).trans (hb2.mono (by simp))
  have hw2 : w.heap.size < w2.heap.size := lt_of_block X2.out
  clear hs2 hb2 B0 X0
  go_wp2_with fail
  go_loopw [3, 4] (fun v i wr => ∃ (m : Nat), m ≤ 8 ∧ i = .int .i64 (56 - 8 * (m : Int)) ∧ Hid (Bs wr (w.heap.size + 1) v ((octs nx).take m)) ∧ Hid (Below (w.heap.size + 1) w2 wr)) (fun _ i _ => (intOf i + 8).toNat)
  case atStart => exact ⟨0, by omega, rfl, S2.out, Below.refl _ _⟩
  case round =>
    obtain ⟨m, hm, rfl, HR, HT⟩ := hrel
    have hsz := HT.out.size
    have HX : Hid (wr.heap[w.heap.size]? = some (.cells #[.int .i64 nx, .slice a d.length c] 66 (0, 0))) := (HT.out.block _ (by omega)).trans X2.out
    obtain ⟨x0, -⟩ := cell_of HX.out 0
    obtain ⟨x1, -⟩ := cell_of HX.out 1
    simp at x0 x1
    by_cases hlt : m < 8
    · have hm1 : (0 : Int) ≤ 56 - 8 * (m : Int) := by omega
      have hm2 : (56 : Int) - 8 * (m : Int) ≤ 56 := by omega
      have e1 : ((56 : Int) - 8 * (m : Int)).toNat = 8 * (7 - m) := by omega
      go_wp2_with (at_builtin; refine wpList_app _ rfl _ _ rfl (w.heap.size + 1) _ ((octs nx).take m) [oct nx m] rfl ?d0 ⟨wr.heap.size, 0, none⟩ 1 rfl ?d1 ?d2 ?d3 ?_)
      case d0 => exact HR.out.below (below_one _ _)
      case d1 => exact new_octets wr _ _ _ (by simp [cellsO, oct_val HNX.out])
      case d2 => have := List.length_take_le m (octs nx); simp only [List.length_singleton]; omega
      case d3 => simp; omega
      intro s1 w1 k1 k2
      have R1 : Hid (Below (w.heap.size + 1) w2 w1) := HT.out.trans ((k2.pre (below_one _ _)).below (by omega) fun g hg => (HR.out.base g hg).1)
      have H1 : Hid (Bs w1 (w.heap.size + 1) s1 ((octs nx).take (m + 1))) := by
        show Bs _ _ _ _
        rw [octs_take hlt]
        exact k1
      clear k1 k2 x0 x1
      go_wp2_with fail
      refine ⟨⟨m + 1, by omega, by congr 1; omega, H1.out, R1.out⟩, ?_⟩
      simp [intOf]
      omega
    · have hme : m = 8 := by omega
      subst hme
      have hRx := HR.out
      rw [List.take_of_length_le (by rw [octs_length]; omega)] at hRx
      obtain ⟨va, vc, rfl⟩ := hRx.shape
      have HR8 : Hid (Bs wr (w.heap.size + 1) (.slice va (octs nx).length vc) (octs nx)) := hRx
      clear hRx
      have hol := octs_length nx
      have HBW : Hid (Below w.heap.size w wr) := B2.out.trans (HT.out.mono (by omega))
      have HP : Hid (putR 2 (octs nx ++ d) = (0, rfr nx d)) := put_ok (by decide) (by rw [List.length_append]; omega)
      have HL : Hid ((octs nx ++ d).length ≤ 408) := by show _ ≤ _; rw [List.length_append]; omega
      clear HR hol
      generalize octs nx = F at *
      go_wp2_with (at_builtin; refine wpList_appO _ rfl _ _ rfl (w.heap.size + 1) _ F d rfl HR8.out a c rfl (HO.out.below HBW.out) ?d0 ?d1 ?_)
      case d0 => have := HL.out; rw [List.length_append] at this; omega
      case d1 => omega
      intro s5 w5 hs5 hr5
      obtain ⟨a5, c5, rfl⟩ := hs5.shape
      have O5 : Hid (Oct w5 a5 c5 (F ++ d)) := hs5.oct (by have := HL.out; omega)
      have B5 : Hid (Below w.heap.size w w5) := HBW.out.trans ((hr5.below (by omega) fun g hg => (HR8.out.base g hg).1).mono (by omega))
      have HC : Hid (Calls Try.prog 44 #[.agg #[.int .i64 2, .slice a5 (F ++ d).length c5]] w5 _) := put_any 2 a5 c5 (F ++ d) w5 O5.out
      rw [HP.out] at HC
      clear hs5 hr5
      generalize (F ++ d).length = l5 at *
      go_wp2_with (go_at_call 44; refine HC.out.mono ?_; rintro e w6 ⟨s6, rfl, hs6, hb6⟩; have H6 : Hid (Bs w6 w5.heap.size s6 (rfr nx d)) := hs6; have B6 : Hid (Below w.heap.size w w6) := nxt B5.out hb6; clear hs6 hb6)
      go_ret
      exact ⟨_, rfl, H6.out.up (fun g hg => by have := (H6.out.base g hg).1; have := B5.out.size; omega), B6.out⟩

/-- Whether a frame of so many octets finds room in the last segment. -/
def fitR (ss : List (List UInt8)) (n : Nat) : Bool := match ss.getLast? with | some s => decide (s.length + n ≤ 480) | none => false
def plc (ss : List (List UInt8)) (n : Nat) : Nat := if fitR ss n = true then ss.length - 1 else ss.length

set_option maxRecDepth 100000 in
set_option maxHeartbeats 1600000 in
theorem placeFor_any (ss : List (List UInt8)) (nx : Int) (n : Nat) (a : Option Addr) (c : Nat) (w : World) (hS : LayS w a ss) (hn : ss.length ≤ 200000000000000) (h1 : n ≤ 1000) :
    Calls Try.prog 31 #[.agg #[.slice a ss.length c, .int .i64 nx], .int .i64 n] w fun e w' => e = .returned (.int .i64 (plc ss n)) ∧ Below w.heap.size w w' := by
  by_cases he : ss = []
  · subst he
    go_enter Try.func31, Try.ntmps31
    go_wp2_with fail
    go_ret
    exact ⟨rfl, below_one _ _⟩
  · have hlen : 0 < ss.length := List.length_pos_iff.2 he
    obtain ⟨l, hl⟩ : ∃ l, ss[ss.length - 1]? = some l := ⟨_, List.getElem?_eq_getElem (by omega)⟩
    have hf : fitR ss n = decide (l.length + n ≤ 480) := by
      unfold fitR
      rw [List.getLast?_eq_getElem?, hl]
    obtain ⟨b, off, a1, c1, rfl, q1, q2, q3⟩ := hS _ l hl
    have HP : Hid (plc ss n = if l.length + n ≤ 480 then ss.length - 1 else ss.length) := by
      show _ = _
      unfold plc
      rw [hf]
      simp
    clear hl hf q2 hS he
    generalize plc ss n = R at *
    have e1 : ((ss.length : Int) - 1).toNat = ss.length - 1 := by omega
    have q1' : ∀ o, (w.alloc o).cell? ⟨b, off + (ss.length - 1), none⟩ = some (.slice a1 l.length c1) := fun o => keepc (below_one _ _) _ _ q1
    clear q1
    generalize ss.length = L at *
    have hL : (0 : Int) ≤ (L : Int) - 1 := by omega
    have hL2 : (L : Int) - 1 < L := by omega
    by_cases hfit : l.length + n ≤ 480
    · have hfb : (l.length : Int) + n ≤ 480 := by omega
      rw [if_pos hfit] at HP
      have hcast : ((L - 1 : Nat) : Int) = (L : Int) - 1 := by omega
      have HCA : Hid (((L - 1 : Nat) : Int) = (L : Int) - 1) := hcast
      clear hcast
      go_enter Try.func31, Try.ntmps31
      go_wp2_with fail
      go_ret
      exact ⟨by rw [HP.out, HCA.out]; rfl, below_one _ _⟩
    · have hfb : ¬ (l.length : Int) + n ≤ 480 := by omega
      rw [if_neg hfit] at HP
      go_enter Try.func31, Try.ntmps31
      go_wp2_with fail
      go_ret
      exact ⟨by rw [HP.out]; rfl, below_one _ _⟩
end Go.Proofs.Ytocodkoanjcmkab
