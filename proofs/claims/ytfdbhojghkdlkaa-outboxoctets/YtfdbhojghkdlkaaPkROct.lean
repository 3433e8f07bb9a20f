/-
  The page's octets and Encode.
-/
import Derived.Test.YtfdbhojghkdlkaaJ11
namespace Go.Proofs.Ytfdbhojghkdlkaa
open Go.ChangeShapes Go.WideShapes Go.ChangeAt Go.RowKit
open Fl

/-- Octets just laid are a row of one's own. -/
theorem Bs.made (w : World) (m : List UInt8) (cs : Array Value) (h : cs.toList = cellsO m) (B : Nat) (hB : B ≤ w.heap.size) (hm : m.length ≤ 1000) : Bs (w.alloc (.cells cs 5)) B (.slice (some ⟨w.heap.size, 0, none⟩) m.length m.length) m := by
  have hl : cs.size = m.length := by rw [← Array.length_toList, h, cellsO_length]
  refine ⟨by rw [cellsO_length]; omega, Or.inr ⟨w.heap.size, m.length, cs, rfl, hB, heap_alloc_new _ _, Nat.le_refl _, by unfold maxLen; omega, by omega, ?_⟩⟩
  rw [List.take_of_length_le (by rw [Array.length_toList]; omega)]
  exact h

set_option maxRecDepth 100000 in
set_option maxHeartbeats 1600000 in
theorem rocts_any (b : Int) (w : World) (hU : U b) :
    Calls Try.prog 19 #[.int .u64 b, .int .i64 8] w fun e w' => ∃ s, e = .returned s ∧ Bs w' w.heap.size s (octs b) ∧ Below w.heap.size w w' := by
  have HU : Hid (U b) := hU
  clear hU
  go_enter Try.func19, Try.ntmps19
  go_wp2_with fail
  go_loopw [5, 6] (fun v i wr => ∃ (m : Nat), m ≤ 8 ∧ i = .int .i64 (7 - (m : Int)) ∧ Hid (Bs wr w.heap.size v ((octs b).take m)) ∧ Hid (RowTo w wr (.slice none 0 0) v)) (fun _ i _ => (intOf i + 1).toNat)
  case atStart => exact ⟨0, by omega, rfl, Bs.nil _ _, RowTo.refl _ _⟩
  case round =>
    obtain ⟨m, hm, rfl, HR, HT⟩ := hrel
    have hsz := HT.out.grown.size
    by_cases hlt : m < 8
    · have hm1 : (0 : Int) ≤ 7 - (m : Int) := by omega
      have hm2 : (7 : Int) - (m : Int) ≤ 7 := by omega
      have e1 : ((8 : Int) * (7 - (m : Int))).toNat = 8 * (7 - m) := by omega
      go_wp2_with (at_builtin; refine wpList_app _ rfl _ _ rfl w.heap.size _ ((octs b).take m) [oct b m] rfl ?d0 ⟨wr.heap.size, 0, none⟩ 1 rfl ?d1 ?d2 ?d3 ?_)
      case d0 => exact HR.out.below (below_one _ _)
      case d1 => exact new_octets wr _ _ _ (by simp [cellsO, oct_val HU.out])
      case d2 => have := List.length_take_le m (octs b); simp only [List.length_singleton]; omega
      case d3 => simp; omega
      intro s1 w1 h1 h2
      have R1 : Hid (RowTo w w1 (.slice none 0 0) s1) := HT.out.trans (h2.pre (below_one _ _))
      have H1 : Hid (Bs w1 w.heap.size s1 ((octs b).take (m + 1))) := by
        show Bs _ _ _ _
        rw [octs_take hlt]
        exact h1
      clear h1 h2
      go_wp2_with fail
      go_roundw
      case rel => exact ⟨m + 1, by omega, by congr 1; omega, H1.out, R1.out⟩
      case measure => simp [intOf]; omega
    · have hme : m = 8 := by omega
      subst hme
      go_wp2_with fail
      go_ret
      refine ⟨_, rfl, ?_, HT.out.below (Nat.le_refl _) fun g hg => by simp [Value.ownBlock] at hg⟩
      have := HR.out
      rw [List.take_of_length_le (by rw [octs_length]; omega)] at this
      exact this
set_option maxRecDepth 100000 in
set_option maxHeartbeats 6400000 in
theorem roct_any (n : Nat) : ∀ (u : V n) (x : Value) (w : World), Lay w n x u → okV n u → (enc n u).length ≤ 1000000 →
    Calls Try.prog 37 #[x] w fun e w' => ∃ s, e = .returned s ∧ Bs w' w.heap.size s (enc n u) ∧ Below w.heap.size w w' := by
  induction n with
  | zero => intro u; exact u.elim
  | succ n ih =>
    rintro ⟨k, b, t, ks, its⟩ x w ⟨ka, kc, ia, ic, rfl, hfit, nk, ni, hks, his⟩ ⟨hmay, hos⟩ hlen
    have hU : U b := hfit.2.1
    have hm := may_iff.1 hmay
    have HS : Hid (LayS w ka ks) := hks
    have HI : Hid (LayI w (Lay w n) ia its) := his
    have HOS : Hid (∀ u ∈ its, okV n u) := hos
    have hir := hfit.2.2.2.2.2.2.2.2
    have hkr := hfit.2.2.2.2.2.1
    clear hks his hos hmay nk ni hfit
    generalize hil : its.length = il at hm
    cases hm with
    | nothing =>
      have hE : enc (n + 1) (0, 0, ⟨#[]⟩, [], its) = [0] := by simp [enc]
      rw [hE] at hlen ⊢
      go_enter Try.func37, Try.ntmps37
      go_wp2_with fail
      go_ret
      refine ⟨_, rfl, ?_, nxt (below_one _ _) (below_one _ _)⟩
      have := Bs.made (w.alloc (.cells #[.int .i64 0, .int .u64 0, .string ⟨#[]⟩, .slice ka 0 kc, .slice ia 0 ic] 50)) [0] #[.int .u8 0] (by simp [cellsO]) w.heap.size (by simp) (by simp)
      simpa [hil] using this
    | truth b h =>
      have hE : enc (n + 1) (1, b, ⟨#[]⟩, [], its) = [UInt8.ofNat (1 + b.toNat)] := by simp [enc]
      rw [hE] at hlen ⊢
      have hb01 : b = 0 ∨ b = 1 := by have := hU.1; omega
      clear hE
      rcases hb01 with rfl | rfl
      · go_enter Try.func37, Try.ntmps37
        go_wp2_with fail
        go_ret
        refine ⟨_, rfl, ?_, nxt (below_one _ _) (below_one _ _)⟩
        have := Bs.made (w.alloc (.cells #[.int .i64 1, .int .u64 0, .string ⟨#[]⟩, .slice ka 0 kc, .slice ia 0 ic] 50)) [1] #[.int .u8 1] (by simp [cellsO]) w.heap.size (by simp) (by simp)
        simpa [hil] using this
      · go_enter Try.func37, Try.ntmps37
        go_wp2_with fail
        go_ret
        refine ⟨_, rfl, ?_, nxt (below_one _ _) (below_one _ _)⟩
        have := Bs.made (w.alloc (.cells #[.int .i64 1, .int .u64 1, .string ⟨#[]⟩, .slice ka 0 kc, .slice ia 0 ic] 50)) [2] #[.int .u8 2] (by simp [cellsO]) w.heap.size (by simp) (by simp)
        simpa [hil] using this
    | number b h =>
      have hE : enc (n + 1) (2, b, ⟨#[]⟩, [], its) = 3 :: octs b := by simp [enc]
      rw [hE] at hlen ⊢
      have HU : Hid (U b) := hU
      obtain rfl : its = [] := List.eq_nil_of_length_eq_zero hil
      clear hE hU h
      go_enter Try.func37, Try.ntmps37
      go_wp2_with fail
      have S1 := Bs.made (w.alloc (.cells #[.int .i64 2, .int .u64 b, .string ⟨#[]⟩, .slice ka 0 kc, .slice ia 0 ic] 50)) [3] #[.int .u8 3] (by simp [cellsO]) w.heap.size (by simp) (by simp)
      have B1 : Hid (Below w.heap.size w ((w.alloc (.cells #[.int .i64 2, .int .u64 b, .string ⟨#[]⟩, .slice ka 0 kc, .slice ia 0 ic] 50)).alloc (.cells #[.int .u8 3] 5))) := nxt (below_one _ _) (below_one _ _)
      have HS1 : Hid (Bs ((w.alloc (.cells #[.int .i64 2, .int .u64 b, .string ⟨#[]⟩, .slice ka 0 kc, .slice ia 0 ic] 50)).alloc (.cells #[.int .u8 3] 5)) w.heap.size (.slice (some ⟨w.heap.size + 1, 0, none⟩) 1 1) [3]) := by show Bs _ _ _ _; simpa using S1
      clear S1
      generalize (w.alloc (.cells #[.int .i64 2, .int .u64 b, .string ⟨#[]⟩, .slice ka 0 kc, .slice ia 0 ic] 50)).alloc (.cells #[.int .u8 3] 5) = W1 at *
      refine (rocts_any b W1 HU.out).mono ?_
      rintro e w2 ⟨s2, rfl, h2, hb2⟩
      obtain ⟨a2, c2, rfl⟩ := h2.shape
      have O2 : Hid (Oct w2 a2 c2 (octs b)) := h2.oct (by rw [octs_length]; omega)
      have S2 : Hid (Bs w2 w.heap.size (.slice (some ⟨w.heap.size + 1, 0, none⟩) 1 1) [3]) := HS1.out.below hb2
      have B2 : Hid (Below w.heap.size w w2) := nxt B1.out hb2
      clear h2 hb2 HS1 B1
      go_wp2_with (at_builtin; refine wpList_appO _ rfl _ _ rfl w.heap.size _ [3] (octs b) rfl S2.out a2 c2 rfl O2.out ?d0 B2.out.size ?_)
      case d0 => rw [octs_length]; simp
      intro s3 w3 h3 h4
      have H3 : Hid (Bs w3 w.heap.size s3 (3 :: octs b)) := by show Bs _ _ _ _; simpa using h3
      have B3 : Hid (Below w.heap.size w w3) := B2.out.trans (h4.below B2.out.size fun g hg => (S2.out.base g hg).1)
      clear h3 h4
      go_wp2_with fail
      go_ret
      exact ⟨s3, rfl, H3.out, B3.out⟩
    | text t h =>
      have hE : enc (n + 1) (3, 0, t, [], its) = 4 :: txt t := by simp [enc]
      rw [hE] at hlen ⊢
      have HT : Hid (t.size ≤ 128) := h
      obtain rfl : its = [] := List.eq_nil_of_length_eq_zero hil
      clear hE hU
      go_enter Try.func37, Try.ntmps37
      have S1 := Bs.made (w.alloc (.cells #[.int .i64 3, .int .u64 0, .string t, .slice ka 0 kc, .slice ia 0 ic] 50)) [4, UInt8.ofNat t.size] #[.int .u8 4, .int .u8 (t.size : Int)] (by simp [cellsO]; omega) w.heap.size (by simp) (by simp)
      have B1 : Hid (Below w.heap.size w ((w.alloc (.cells #[.int .i64 3, .int .u64 0, .string t, .slice ka 0 kc, .slice ia 0 ic] 50)).alloc (.cells #[.int .u8 4, .int .u8 (t.size : Int)] 5))) := nxt (below_one _ _) (below_one _ _)
      have HS1 : Hid (Bs ((w.alloc (.cells #[.int .i64 3, .int .u64 0, .string t, .slice ka 0 kc, .slice ia 0 ic] 50)).alloc (.cells #[.int .u8 4, .int .u8 (t.size : Int)] 5)) w.heap.size (.slice (some ⟨w.heap.size + 1, 0, none⟩) 2 2) [4, UInt8.ofNat t.size]) := by show Bs _ _ _ _; simpa using S1
      clear S1
      go_wp2_with (at_builtin; refine wpList_apps _ rfl _ _ rfl w.heap.size _ [4, UInt8.ofNat t.size] t rfl HS1.out rfl ?d0 B1.out.size ?_)
      case d0 => simp; omega
      intro s3 w3 h3 h4
      have H3 : Hid (Bs w3 w.heap.size s3 (4 :: txt t)) := by show Bs _ _ _ _; simpa [txt] using h3
      have B3 : Hid (Below w.heap.size w w3) := B1.out.trans (h4.below B1.out.size fun g hg => (HS1.out.base g hg).1)
      clear h3 h4
      go_wp2_with fail
      go_ret
      exact ⟨s3, rfl, H3.out, B3.out⟩
    | list _ h =>
      subst hil
      have hE : enc (n + 1) (4, 0, ⟨#[]⟩, [], its) = 5 :: UInt8.ofNat its.length :: (its.map (enc n)).flatten := by simp [enc, pcs]
      rw [hE] at hlen ⊢
      have hlen1 : 2 + (its.map (enc n)).flatten.length ≤ 1000000 := by simp only [List.length_cons] at hlen; omega
      clear hE hlen
      go_enter Try.func37, Try.ntmps37
      have S1 := Bs.made (w.alloc (.cells #[.int .i64 4, .int .u64 0, .string ⟨#[]⟩, .slice ka 0 kc, .slice ia its.length ic] 50)) [5, UInt8.ofNat its.length] #[.int .u8 5, .int .u8 (its.length : Int)] (by simp [cellsO]; omega) w.heap.size (by simp) (by simp)
      have B1 : Hid (Below w.heap.size w ((w.alloc (.cells #[.int .i64 4, .int .u64 0, .string ⟨#[]⟩, .slice ka 0 kc, .slice ia its.length ic] 50)).alloc (.cells #[.int .u8 5, .int .u8 (its.length : Int)] 5))) := nxt (below_one _ _) (below_one _ _)
      have HS1 : Hid (Bs ((w.alloc (.cells #[.int .i64 4, .int .u64 0, .string ⟨#[]⟩, .slice ka 0 kc, .slice ia its.length ic] 50)).alloc (.cells #[.int .u8 5, .int .u8 (its.length : Int)] 5)) w.heap.size (.slice (some ⟨w.heap.size + 1, 0, none⟩) 2 2) [5, UInt8.ofNat its.length]) := by show Bs _ _ _ _; simpa using S1
      have X1 : Hid (((w.alloc (.cells #[.int .i64 4, .int .u64 0, .string ⟨#[]⟩, .slice ka 0 kc, .slice ia its.length ic] 50)).alloc (.cells #[.int .u8 5, .int .u8 (its.length : Int)] 5)).heap[w.heap.size]? = some (.cells #[.int .i64 4, .int .u64 0, .string ⟨#[]⟩, .slice ka 0 kc, .slice ia its.length ic] 50 (0, 0))) := (Below.heap_alloc _ _ _ (by simp)).trans (heap_alloc_new _ _)
      clear S1
      go_wp2_with fail
      generalize (w.alloc (.cells #[.int .i64 4, .int .u64 0, .string ⟨#[]⟩, .slice ka 0 kc, .slice ia its.length ic] 50)).alloc (.cells #[.int .u8 5, .int .u8 (its.length : Int)] 5) = W1 at *
      go_loopw [3, 4] (fun v i wr => ∃ (m : Nat), m ≤ its.length ∧ i = .int .i64 m ∧ Hid (Bs wr w.heap.size v ([5, UInt8.ofNat its.length] ++ ((its.map (enc n)).take m).flatten)) ∧ Hid (Below w.heap.size w wr) ∧
          Hid (wr.heap[w.heap.size]? = some (.cells #[.int .i64 4, .int .u64 0, .string ⟨#[]⟩, .slice ka 0 kc, .slice ia its.length ic] 50 (0, 0)))) (fun _ i _ => its.length - (intOf i).toNat)
      case atStart => exact ⟨0, Nat.zero_le _, rfl, (by show Bs _ _ _ _; simpa using HS1.out), B1.out, X1.out⟩
      case round =>
        obtain ⟨m, hm, rfl, HR, BW, HX⟩ := hrel
        obtain ⟨x0, x1, x2, x3, x4, -⟩ := box_cells HX.out
        have hsw := BW.out.size
        by_cases hlt : m < its.length
        · have hm1 : (m : Int) < (its.length : Int) := by omega
          obtain ⟨bb, o, c0, c1, c2, c3, c4, rfl, q0, q1, q2, q3, q4, hl⟩ := HI.out m its[m] (by simp [hlt])
          have hq : bb < w.heap.size := lt_of_cell q0
          rw [← BW.out.cell (by exact hq)] at q0 q1 q2 q3 q4
          obtain ⟨k5, b5, t5, ka5, kl5, kc5, ia5, il5, ic5, rfl, rfl, rfl, rfl, rfl⟩ := Lay.five n hl
          have HL : Hid (Lay w n (mk k5 b5 t5 ka5 kl5 kc5 ia5 il5 ic5) its[m]) := hl
          have HOK : Hid (okV n its[m]) := HOS.out _ (by simp)
          obtain ⟨e1, e2⟩ := flat_take (l := its.map (enc n)) (m := m) (e := enc n its[m]) (by simp [hlt])
          have E1 : Hid (((its.map (enc n)).take (m + 1)).flatten = ((its.map (enc n)).take m).flatten ++ enc n its[m]) := e1
          generalize hitem : its[m] = item at *
          clear hitem hl e1
          go_wp2_with fail
          refine (ih item _ wr (Lay.below n HL.out BW.out) HOK.out (by omega)).mono ?_
          rintro e w2 ⟨s2, rfl, h2, hb2⟩
          obtain ⟨a2, c2, rfl⟩ := h2.shape
          have O2 : Hid (Oct w2 a2 c2 (enc n item)) := h2.oct (by omega)
          have R2 : Hid (Bs w2 w.heap.size u3 ([5, UInt8.ofNat its.length] ++ ((its.map (enc n)).take m).flatten)) := HR.out.below hb2
          have X2 : Hid (w2.heap[w.heap.size]? = some (.cells #[.int .i64 4, .int .u64 0, .string ⟨#[]⟩, .slice ka 0 kc, .slice (some ⟨bb, o, none⟩) its.length ic] 50 (0, 0))) := (hb2.block _ (lt_of_block HX.out)).trans HX.out
          have BW2 : Hid (Below w.heap.size w w2) := nxt BW.out hb2
          clear h2 hb2 x0 x1 x2 x3 x4 q0 q1 q2 q3 q4
          go_wp2_with (at_builtin; refine wpList_appO _ rfl _ _ rfl w.heap.size _ ([5, UInt8.ofNat its.length] ++ ((its.map (enc n)).take m).flatten) (enc n item) rfl R2.out a2 c2 rfl O2.out ?d0 BW2.out.size ?_)
          case d0 => simp only [List.length_append, List.length_cons, List.length_nil]; omega
          intro s3 w3 h3 h4
          have R3 : Hid (Bs w3 w.heap.size s3 ([5, UInt8.ofNat its.length] ++ ((its.map (enc n)).take (m + 1)).flatten)) := by
            show Bs _ _ _ _
            rw [E1.out, ← List.append_assoc]
            first | exact h3 | simpa using h3
          have X3 : Hid (w3.heap[w.heap.size]? = some (.cells #[.int .i64 4, .int .u64 0, .string ⟨#[]⟩, .slice ka 0 kc, .slice (some ⟨bb, o, none⟩) its.length ic] 50 (0, 0))) := (h4.block (lt_of_block X2.out) (R2.out.ne X2.out (by decide))).trans X2.out
          have B3 : Hid (Below w.heap.size w w3) := BW2.out.trans (h4.below BW2.out.size fun g hg => (R2.out.base g hg).1)
          clear h3 h4
          go_wp2_with fail
          go_roundw
          case rel => exact ⟨m + 1, by omega, by go_num, R3.out, B3.out, X3.out⟩
          case measure => simp [intOf]; omega
        · have hme : m = its.length := by omega
          subst hme
          go_wp2_with fail
          go_ret
          refine ⟨_, rfl, ?_, BW.out⟩
          have := HR.out
          rw [flat_all (by simp)] at this
          simpa using this
    | record _ h hk =>
      have hE : enc (n + 1) (5, 0, ⟨#[]⟩, ks, its) = 6 :: UInt8.ofNat its.length :: (List.zipWith (fun s e => txt s ++ e) ks (its.map (enc n))).flatten := by simp [enc, pcs]
      rw [hE] at hlen ⊢
      have hlen1 : 2 + (List.zipWith (fun s e => txt s ++ e) ks (its.map (enc n))).flatten.length ≤ 1000000 := by simp only [List.length_cons] at hlen; omega
      obtain ⟨pc, hpc⟩ : ∃ pc, pc = List.zipWith (fun s e => txt s ++ e) ks (its.map (enc n)) := ⟨_, rfl⟩
      have HPL : Hid (pc.length = ks.length) := by show _ = _; rw [hpc]; simp; omega
      have HPC : Hid (∀ m, (h1 : m < ks.length) → (h2 : m < its.length) → pc[m]? = some (txt ks[m] ++ enc n its[m])) := by
        intro m h1 h2
        rw [hpc, List.getElem?_zipWith, List.getElem?_eq_getElem h1, List.getElem?_map, List.getElem?_eq_getElem h2]
        rfl
      have HKS : Hid (∀ k ∈ ks, k.size ≤ 16) := rise_mem none ks (rise_of_keys hk)
      rw [← hpc] at hlen1 ⊢
      have HIL : Hid (its.length = ks.length) := hil
      rw [hil] at hir ⊢
      clear hpc hk hil hE hlen
      go_enter Try.func37, Try.ntmps37
      have S1 := Bs.made (w.alloc (.cells #[.int .i64 5, .int .u64 0, .string ⟨#[]⟩, .slice ka ks.length kc, .slice ia ks.length ic] 50)) [6, UInt8.ofNat ks.length] #[.int .u8 6, .int .u8 (ks.length : Int)] (by simp [cellsO]; omega) w.heap.size (by simp) (by simp)
      have B1 : Hid (Below w.heap.size w ((w.alloc (.cells #[.int .i64 5, .int .u64 0, .string ⟨#[]⟩, .slice ka ks.length kc, .slice ia ks.length ic] 50)).alloc (.cells #[.int .u8 6, .int .u8 (ks.length : Int)] 5))) := nxt (below_one _ _) (below_one _ _)
      have HS1 : Hid (Bs ((w.alloc (.cells #[.int .i64 5, .int .u64 0, .string ⟨#[]⟩, .slice ka ks.length kc, .slice ia ks.length ic] 50)).alloc (.cells #[.int .u8 6, .int .u8 (ks.length : Int)] 5)) w.heap.size (.slice (some ⟨w.heap.size + 1, 0, none⟩) 2 2) [6, UInt8.ofNat ks.length]) := by show Bs _ _ _ _; simpa using S1
      have X1 : Hid (((w.alloc (.cells #[.int .i64 5, .int .u64 0, .string ⟨#[]⟩, .slice ka ks.length kc, .slice ia ks.length ic] 50)).alloc (.cells #[.int .u8 6, .int .u8 (ks.length : Int)] 5)).heap[w.heap.size]? = some (.cells #[.int .i64 5, .int .u64 0, .string ⟨#[]⟩, .slice ka ks.length kc, .slice ia ks.length ic] 50 (0, 0))) := (Below.heap_alloc _ _ _ (by simp)).trans (heap_alloc_new _ _)
      clear S1
      go_wp2_with fail
      generalize (w.alloc (.cells #[.int .i64 5, .int .u64 0, .string ⟨#[]⟩, .slice ka ks.length kc, .slice ia ks.length ic] 50)).alloc (.cells #[.int .u8 6, .int .u8 (ks.length : Int)] 5) = W1 at *
      go_loopw [3, 4] (fun v i wr => ∃ (m : Nat), m ≤ ks.length ∧ i = .int .i64 m ∧ Hid (Bs wr w.heap.size v ([6, UInt8.ofNat ks.length] ++ (pc.take m).flatten)) ∧ Hid (Below w.heap.size w wr) ∧
          Hid (wr.heap[w.heap.size]? = some (.cells #[.int .i64 5, .int .u64 0, .string ⟨#[]⟩, .slice ka ks.length kc, .slice ia ks.length ic] 50 (0, 0)))) (fun _ i _ => ks.length - (intOf i).toNat)
      case atStart => exact ⟨0, Nat.zero_le _, rfl, (by show Bs _ _ _ _; simpa using HS1.out), B1.out, X1.out⟩
      case round =>
        obtain ⟨m, hm, rfl, HR, BW, HX⟩ := hrel
        obtain ⟨x0, x1, x2, x3, x4, -⟩ := box_cells HX.out
        have hsw := BW.out.size
        by_cases hlt : m < ks.length
        · have hli : m < its.length := by have := HIL.out; omega
          have hm1 : (m : Int) < (ks.length : Int) := by omega
          obtain ⟨bb, o, c0, c1, c2, c3, c4, rfl, q0, q1, q2, q3, q4, hl⟩ := HI.out m (its[m]'(by have := HIL.out; omega)) (by simp)
          have hq : bb < w.heap.size := lt_of_cell q0
          obtain ⟨k5, b5, t5, ka5, kl5, kc5, ia5, il5, ic5, rfl, rfl, rfl, rfl, rfl⟩ := Lay.five n hl
          have HQ : Hid (_ ∧ _ ∧ _ ∧ _ ∧ _) := ⟨q0, q1, q2, q3, q4⟩
          have HL : Hid (Lay w n (mk k5 b5 t5 ka5 kl5 kc5 ia5 il5 ic5) its[m]) := hl
          have HOK : Hid (okV n its[m]) := HOS.out _ (by simp)
          obtain ⟨e1, e2⟩ := flat_take (l := pc) (m := m) (e := txt ks[m] ++ enc n its[m]) (HPC.out m hlt hli)
          have E1 : Hid ((pc.take (m + 1)).flatten = (pc.take m).flatten ++ (txt ks[m] ++ enc n its[m])) := e1
          obtain ⟨gk, ok, hka, kc0, -⟩ := HS.out m ks[m] (by simp)
          cases hka
          have hkz := HKS.out ks[m] (by simp)
          have HKC : Hid (w.cell? ⟨gk, ok + m, none⟩ = some (.string ks[m])) := kc0
          replace kc0 := keepc BW.out _ _ kc0
          have e2' : (pc.take m).flatten.length + ((txt ks[m]).length + (enc n its[m]).length) ≤ pc.flatten.length := by rw [List.length_append] at e2; exact e2
          have htl : (txt ks[m]).length = ks[m].size + 1 := by simp [txt, toList_length]
          clear hl e1 e2 q0 q1 q2 q3 q4
          generalize hkey : ks[m] = key at *
          generalize hitem : its[m] = item at *
          clear hkey hitem
          go_wp2_with (at_builtin; refine wpList_app _ rfl _ _ rfl w.heap.size _ ([6, UInt8.ofNat ks.length] ++ (pc.take m).flatten) [UInt8.ofNat key.size] rfl ?d0 ⟨wr.heap.size, 0, none⟩ 1 rfl ?d1 ?d2 ?d3 ?_)
          case d0 => exact HR.out.below (below_one _ _)
          case d1 => exact new_octets wr _ _ _ (by simp [cellsO]; omega)
          case d2 => simp only [List.length_append, List.length_cons, List.length_nil]; omega
          case d3 => simp; omega
          intro s4 w4 h3 h4
          have R4 : Hid (Bs w4 w.heap.size s4 ([6, UInt8.ofNat ks.length] ++ (pc.take m).flatten ++ [UInt8.ofNat key.size])) := by show Bs _ _ _ _; first | exact h3 | simpa using h3
          have X4 : Hid (w4.heap[w.heap.size]? = some (.cells #[.int .i64 5, .int .u64 0, .string ⟨#[]⟩, .slice (some ⟨gk, ok, none⟩) ks.length kc, .slice (some ⟨bb, o, none⟩) ks.length ic] 50 (0, 0))) := (h4.block (by simp; omega) (HR.out.ne HX.out (by decide))).trans ((Below.heap_alloc _ _ _ (lt_of_block HX.out)).trans HX.out)
          have B4 : Hid (Below w.heap.size w w4) := (nxt BW.out (below_one _ _)).trans (h4.below (by simp; omega) fun g hg => (HR.out.base g hg).1)
          clear h3 h4 x0 x1 x2 x3 x4 kc0
          obtain ⟨x0, x1, x2, x3, x4, -⟩ := box_cells X4.out
          have kc1 := keepc B4.out _ _ HKC.out
          have hs4 := B4.out.size
          go_wp2_with (at_builtin; refine wpList_apps _ rfl _ _ rfl w.heap.size _ ([6, UInt8.ofNat ks.length] ++ (pc.take m).flatten ++ [UInt8.ofNat key.size]) key rfl R4.out rfl ?d0 hs4 ?_)
          case d0 => simp only [List.length_append, List.length_cons, List.length_nil]; omega
          intro s5 w5 h3 h4
          have R5 : Hid (Bs w5 w.heap.size s5 ([6, UInt8.ofNat ks.length] ++ (pc.take m).flatten ++ txt key)) := by show Bs _ _ _ _; first | exact h3 | simpa [txt] using h3
          have X5 : Hid (w5.heap[w.heap.size]? = some (.cells #[.int .i64 5, .int .u64 0, .string ⟨#[]⟩, .slice (some ⟨gk, ok, none⟩) ks.length kc, .slice (some ⟨bb, o, none⟩) ks.length ic] 50 (0, 0))) := (h4.block (lt_of_block X4.out) (R4.out.ne X4.out (by decide))).trans X4.out
          have B5 : Hid (Below w.heap.size w w5) := B4.out.trans (h4.below B4.out.size fun g hg => (R4.out.base g hg).1)
          clear h3 h4 x0 x1 x2 x3 x4 kc1 R4 X4 B4 hs4
          obtain ⟨x0, x1, x2, x3, x4, -⟩ := box_cells X5.out
          have q0 := keepc B5.out _ _ HQ.out.1
          have q1 := keepc B5.out _ _ HQ.out.2.1
          have q2 := keepc B5.out _ _ HQ.out.2.2.1
          have q3 := keepc B5.out _ _ HQ.out.2.2.2.1
          have q4 := keepc B5.out _ _ HQ.out.2.2.2.2
          go_wp2_with fail
          refine (ih item _ w5 (Lay.below n HL.out B5.out) HOK.out (by omega)).mono ?_
          rintro e w2 ⟨s2, rfl, h2, hb2⟩
          obtain ⟨a2, c2, rfl⟩ := h2.shape
          have O2 : Hid (Oct w2 a2 c2 (enc n item)) := h2.oct (by omega)
          have R2 : Hid (Bs w2 w.heap.size s5 ([6, UInt8.ofNat ks.length] ++ (pc.take m).flatten ++ txt key)) := R5.out.below hb2
          have X2 : Hid (w2.heap[w.heap.size]? = some (.cells #[.int .i64 5, .int .u64 0, .string ⟨#[]⟩, .slice (some ⟨gk, ok, none⟩) ks.length kc, .slice (some ⟨bb, o, none⟩) ks.length ic] 50 (0, 0))) := (hb2.block _ (lt_of_block X5.out)).trans X5.out
          have BW2 : Hid (Below w.heap.size w w2) := nxt B5.out hb2
          clear h2 hb2 x0 x1 x2 x3 x4 q0 q1 q2 q3 q4 R5 X5 B5
          go_wp2_with (at_builtin; refine wpList_appO _ rfl _ _ rfl w.heap.size _ ([6, UInt8.ofNat ks.length] ++ (pc.take m).flatten ++ txt key) (enc n item) rfl R2.out a2 c2 rfl O2.out ?d0 BW2.out.size ?_)
          case d0 => simp only [List.length_append, List.length_cons, List.length_nil]; omega
          intro s3 w3 h3 h4
          have R3 : Hid (Bs w3 w.heap.size s3 ([6, UInt8.ofNat ks.length] ++ (pc.take (m + 1)).flatten)) := by
            show Bs _ _ _ _
            rw [E1.out]
            simpa using h3
          have X3 : Hid (w3.heap[w.heap.size]? = some (.cells #[.int .i64 5, .int .u64 0, .string ⟨#[]⟩, .slice (some ⟨gk, ok, none⟩) ks.length kc, .slice (some ⟨bb, o, none⟩) ks.length ic] 50 (0, 0))) := (h4.block (lt_of_block X2.out) (R2.out.ne X2.out (by decide))).trans X2.out
          have B3 : Hid (Below w.heap.size w w3) := BW2.out.trans (h4.below BW2.out.size fun g hg => (R2.out.base g hg).1)
          clear h3 h4
          go_wp2_with fail
          go_roundw
          case rel => exact ⟨m + 1, by omega, by go_num, R3.out, B3.out, X3.out⟩
          case measure => simp [intOf]; omega
        · have hme : m = ks.length := by omega
          subst hme
          go_wp2_with fail
          go_ret
          refine ⟨_, rfl, ?_, BW.out⟩
          have := HR.out
          rw [flat_all (by have := HPL.out; omega)] at this
          simpa using this

set_option maxRecDepth 100000 in
set_option maxHeartbeats 1600000 in
theorem rencode_any (n : Nat) (v : V n) (x : Value) (w : World) (hx : Lay w n x v) :
    Calls Try.prog 20 #[x] w fun e w' => ∃ s, e = .returned (.tuple #[s, .int .i64 (chk v)]) ∧ Bs w' w.heap.size s (if chk v = 0 then enc n v else []) ∧ Below w.heap.size w w' := by
  obtain ⟨k, b, t, ka, kl, kc, ia, il, ic, rfl⟩ := Lay.shape n hx
  have HX : Hid (Lay w n (mk k b t ka kl kc ia il ic) v) := hx
  clear hx
  have C1 : Hid (∀ w', Below w.heap.size w w' → Calls Try.prog 36 #[mk k b t ka kl kc ia il ic] w' fun e w'' => e = .returned (.int .i64 (chk v)) ∧ Below w'.heap.size w' w'') := fun w' hb => rcheck_any n _ _ _ (Lay.below n HX.out hb)
  by_cases h0 : chk v = 0
  · have HOK : Hid (okV n v) := ok_of_chk h0
    have hlen : (enc n v).length ≤ 100000 := by have := enc_len n v (ok_of_chk h0); have := cnt_of_chk h0; omega
    rw [if_pos h0]
    rw [h0] at C1 ⊢
    clear h0
    go_enter Try.func20, Try.ntmps20
    go_wp2_with fail
    refine (C1.out _ (below_one _ _)).mono ?_
    rintro e w1 ⟨rfl, hb1⟩
    have X1 : Hid (w1.heap[w.heap.size]? = some (.cells #[.int .i64 k, .int .u64 b, .string t, .slice ka kl kc, .slice ia il ic] 50 (0, 0))) := (hb1.block _ (by simp)).trans (heap_alloc_new _ _)
    have B1 : Hid (Below w.heap.size w w1) := nxt (below_one _ _) hb1
    clear hb1
    obtain ⟨x0, x1, x2, x3, x4, -⟩ := box_cells X1.out
    go_wp2_with fail
    refine (roct_any n v _ w1 (Lay.below n HX.out B1.out) HOK.out (by omega)).mono ?_
    rintro e w2 ⟨s, rfl, h3, h4⟩
    have hs := B1.out.size
    go_wp2_with fail
    refine bodyPost_ret (v := .tuple #[s, .int .i64 0]) (by simp [results, Try.results20, go_sem]) rfl ?_
    exact ⟨s, rfl, h3.up fun g hg => by have := (h3.base g hg).1; omega, nxt B1.out h4⟩
  · rw [if_neg h0]
    have h0' : (chk v == 0) = false := by simpa using h0
    have h1' : (chk v != 0) = true := by simpa using h0
    clear h0
    generalize chk v = ce at *
    go_enter Try.func20, Try.ntmps20
    go_wp2_with fail
    refine (C1.out _ (below_one _ _)).mono ?_
    rintro e w1 ⟨rfl, hb1⟩
    go_wp2_with fail
    refine bodyPost_ret (v := .tuple #[.slice none 0 0, .int .i64 ce]) (by simp [results, Try.results20, go_sem]) rfl ?_
    exact ⟨_, rfl, Bs.nil _ _, nxt (below_one _ _) hb1⟩
end Go.Proofs.Ytfdbhojghkdlkaa
