/-
  The page's octets and Encode. (Printed by wip/make/mkexroct.py.)
-/
import Derived.Test.YtnliokikcpnllaaExWalk
import Derived.Test.YtnliokikcpnllaaExEncM
import Derived.Test.YtnliokikcpnllaaOcOcts
import Derived.Test.YtnliokikcpnllaaOcNum
namespace Go.Proofs.Ytnliokikcpnllaa
open Go.ChangeShapes Go.WideShapes Go.ChangeAt Go.RowKit
open Fl

theorem flatX_take {l : List (List UInt8)} {m : Nat} {e : List UInt8} (h : l[m]? = some e) : (l.take (m + 1)).flatten = (l.take m).flatten ++ e ∧ (l.take m).flatten.length + e.length ≤ l.flatten.length := by
  obtain ⟨hlt, he⟩ := List.getElem?_eq_some_iff.1 h
  have h1 : (l.take (m + 1)).flatten = (l.take m).flatten ++ e := by
    rw [List.take_succ_eq_append_getElem hlt, List.flatten_append, he]
    simp
  refine ⟨h1, ?_⟩
  have h2 := congrArg (fun z : List (List UInt8) => z.flatten.length) (List.take_append_drop (m + 1) l)
  simp only [List.flatten_append, List.length_append, h1] at h2
  omega

theorem flatX_all {l : List (List UInt8)} {m : Nat} (h : l.length ≤ m) : (l.take m).flatten = l.flatten := by rw [List.take_of_length_le h]

theorem Bs.neX {w : World} {B : Nat} {v : Value} {l : List UInt8} (h : Bs w B v l) {j : Nat} {c : Array Value} {ty : TypeId} {m : Nat × Nat} (hj : w.heap[j]? = some (.cells c ty m)) (hty : ty ≠ 5) : v.ownBlock ≠ some j := by
  intro e
  obtain ⟨h1, h2⟩ := h
  rcases h2 with ⟨rfl, _⟩ | ⟨g, cap, cur, rfl, _, hb, _⟩
  · cases e
  · simp only [Value.ownBlock, Option.some.injEq] at e
    subst e
    rw [hj] at hb
    simp only [Option.some.injEq, Obj.cells.injEq] at hb
    exact hty hb.2.1

/-- Each part may be. -/
def okX : (n : Nat) → X n → Prop
  | 0, _ => True
  | n + 1, (k, b, t, its) => mayX k b t its.length = true ∧ ∀ u ∈ its, okX n u

theorem fold_each {α : Type} {f : α → Nat × Int → Except Int (Nat × Int)} {p : α → Prop} (hf : ∀ a s s', f a s = .ok s' → p a) : ∀ (l : List α) (s s' : Nat × Int), foldX f l s = .ok s' → ∀ a ∈ l, p a
  | [], _, _, _ => by intro a ha; cases ha
  | a :: l, s, s', h => by
    simp only [foldX] at h
    cases hfa : f a s with
    | error e' => rw [hfa] at h; cases h
    | ok s1 =>
      rw [hfa] at h
      intro x hx
      rcases List.mem_cons.1 hx with rfl | hx
      · exact hf _ _ _ hfa
      · exact fold_each hf l s1 s' h x hx

theorem okX_of (n : Nat) : ∀ (u : X n) (d : Int) (s s' : Nat × Int), pre stM n u d s = .ok s' → okX n u := by
  induction n with
  | zero => intro u; exact u.elim
  | succ n ih =>
    rintro ⟨k, b, t, its⟩ d s s' h
    obtain ⟨s1, h1, h2⟩ := pre_inv h
    exact ⟨(stM_ok h1).2.2.1, fold_each (fun u s s' hu => ih u (d + 1) s s' hu) its s1 s' h2⟩

set_option maxRecDepth 100000 in
set_option maxHeartbeats 6400000 in
theorem roctX_any (n : Nat) : ∀ (u : X n) (x : Value) (w : World), LayX w n x u → okX n u → (encX n u).length ≤ 1000000 →
    Calls Try.prog 30 #[x] w fun e w' => ∃ s, e = .returned s ∧ Bs w' w.heap.size s (encX n u) ∧ Below w.heap.size w w' := by
  induction n with
  | zero => intro u; exact u.elim
  | succ n ih =>
    rintro ⟨k, b, t, its⟩ x w ⟨ia, ic, rfl, hfit, ni, his⟩ ⟨hmay, hos⟩ hlen
    have hU : U b := hfit.2.1
    obtain ⟨⟨hk0, hk29⟩, hbit, ⟨ht0, ht1⟩, ⟨hn0, hn1⟩⟩ := mayX_iff.1 hmay
    have ht2 := texB_le k
    have hn2 := argB_le k
    have hts : t.size ≤ 128 := by omega
    have hns : its.length ≤ 8 := by omega
    have HU : Hid (U b) := hU
    have HI : Hid (LayJ w (LayX w n) ia its) := his
    have HOS : Hid (∀ u ∈ its, okX n u) := hos
    have hle : encX (n + 1) (k, b, t, its) = octP (k, b, t, its.length) ++ (its.map (encX n)).flatten := rfl
    rw [hle] at hlen ⊢
    have hlen1 : (octP (k, b, t, its.length)).length + (its.map (encX n)).flatten.length ≤ 1000000 := by simpa using hlen
    obtain ⟨kn, hkn, rfl⟩ : ∃ kn : Nat, kn ≤ 29 ∧ k = (kn : Int) := ⟨k.toNat, by omega, by omega⟩
    clear hfit hmay hbit ht0 ht1 hn0 hn1 ht2 hn2 hk0 hk29 hU hos his ni hle hlen
    have ev : ((UInt8.ofNat kn).toNat : Int) = (kn : Int) := byte_val (by omega)
    have em : (kn : Int) % 256 = (kn : Int) := by omega
    by_cases k3 : kn = 3
    · subst k3
      obtain ⟨P, hP⟩ : ∃ P, P = octP (((3 : Nat) : Int), b, t, its.length) := ⟨_, rfl⟩
      rw [← hP] at hlen1 ⊢
      have HP : Hid (P = UInt8.ofNat 3 :: octs b) := hP
      clear hP ev em hkn
      have S1 := Bs.made (w.alloc (.cells #[.int .i64 3, .int .u64 b, .string t, .slice ia its.length ic] 25)) [UInt8.ofNat 3] #[.int .u8 3] (by simp [cellsO]) w.heap.size (by simp) (by simp)
      have B1 : Hid (Below w.heap.size w ((w.alloc (.cells #[.int .i64 3, .int .u64 b, .string t, .slice ia its.length ic] 25)).alloc (.cells #[.int .u8 3] 5))) := nxt (below_one _ _) (below_one _ _)
      have HS1 : Hid (Bs ((w.alloc (.cells #[.int .i64 3, .int .u64 b, .string t, .slice ia its.length ic] 25)).alloc (.cells #[.int .u8 3] 5)) w.heap.size (.slice (some ⟨w.heap.size + 1, 0, none⟩) 1 1) [UInt8.ofNat 3]) := by show Bs _ _ _ _; simpa using S1
      have X1 : Hid (((w.alloc (.cells #[.int .i64 3, .int .u64 b, .string t, .slice ia its.length ic] 25)).alloc (.cells #[.int .u8 3] 5)).heap[w.heap.size]? = some (.cells #[.int .i64 3, .int .u64 b, .string t, .slice ia its.length ic] 25 (0, 0))) := (Below.heap_alloc _ _ _ (by simp)).trans (heap_alloc_new _ _)
      clear S1
      go_enter Try.func30, Try.ntmps30
      go_wp2_with fail
      generalize ((w.alloc (.cells #[.int .i64 3, .int .u64 b, .string t, .slice ia its.length ic] 25)).alloc (.cells #[.int .u8 3] 5)) = W1 at *
      refine (roct8_any b W1 HU.out.1).mono ?_
      rintro e w2 ⟨s2, rfl, h2, hb2⟩
      obtain ⟨a2, c2, rfl⟩ := h2.shape
      have O2 : Hid (Oct w2 a2 c2 (octs b)) := h2.oct (by rw [octs_length]; omega)
      have S2 : Hid (Bs w2 w.heap.size (.slice (some ⟨w.heap.size + 1, 0, none⟩) 1 1) [UInt8.ofNat 3]) := HS1.out.below hb2
      have B2 : Hid (Below w.heap.size w w2) := nxt B1.out hb2
      have X2 : Hid (w2.heap[w.heap.size]? = some (.cells #[.int .i64 3, .int .u64 b, .string t, .slice ia its.length ic] 25 (0, 0))) := (hb2.block _ (lt_of_block X1.out)).trans X1.out
      clear h2 hb2 HS1 B1 X1
      go_wp2_with (at_builtin; refine wpList_appO _ rfl _ _ rfl w.heap.size _ [UInt8.ofNat 3] (octs b) rfl S2.out a2 c2 rfl O2.out ?d0 B2.out.size ?_)
      case d0 => rw [octs_length]; simp
      intro s3 w3 h3 h4
      have H3 : Hid (Bs w3 w.heap.size s3 P) := by show Bs _ _ _ _; rw [HP.out]; simpa using h3
      have B3 : Hid (Below w.heap.size w w3) := B2.out.trans (h4.below B2.out.size fun g hg => (S2.out.base g hg).1)
      have X3 : Hid (w3.heap[w.heap.size]? = some (.cells #[.int .i64 3, .int .u64 b, .string t, .slice ia its.length ic] 25 (0, 0))) := (h4.block (lt_of_block X2.out) (S2.out.neX X2.out (by decide))).trans X2.out
      clear h3 h4 S2 B2 X2 O2
      obtain ⟨y0, y1, y2, y3, -⟩ := box4 X3.out
      go_wp2_with fail
      go_loopw [3, 4] (fun v i wr => ∃ (m : Nat), m ≤ its.length ∧ i = .int .i64 m ∧ Hid (Bs wr w.heap.size v (P ++ ((its.map (encX n)).take m).flatten)) ∧ Hid (Below w.heap.size w wr) ∧
          Hid (wr.heap[w.heap.size]? = some (.cells #[.int .i64 3, .int .u64 b, .string t, .slice ia its.length ic] 25 (0, 0)))) (fun _ i _ => its.length - (intOf i).toNat)
      case atStart => exact ⟨0, Nat.zero_le _, rfl, (by show Bs _ _ _ _; simpa using H3.out), B3.out, X3.out⟩
      case round =>
        obtain ⟨m, hm, rfl, HR, BW, HX⟩ := hrel
        obtain ⟨x0, x1, x2, x3, -⟩ := box4 HX.out
        have hsw := BW.out.size
        by_cases hlt : m < its.length
        · have hm1 : (m : Int) < (its.length : Int) := by omega
          obtain ⟨g1, o1, k1, b1, t1, ja, jl, jc, rfl, q0, q1, q2, q3, hl⟩ := (LayJ.below HI.out BW.out).at m hlt
          have HL : Hid (LayX wr n (mkX k1 b1 t1 ja jl jc) its[m]) := hl
          have HOK : Hid (okX n its[m]) := HOS.out _ (by simp)
          obtain ⟨e1, e2⟩ := flatX_take (l := its.map (encX n)) (m := m) (e := encX n its[m]) (by simp [hlt])
          have E1 : Hid (((its.map (encX n)).take (m + 1)).flatten = ((its.map (encX n)).take m).flatten ++ encX n its[m]) := e1
          generalize hitem : its[m] = item at *
          clear hitem hl e1
          go_wp2_with fail
          refine (ih item _ wr HL.out HOK.out (by omega)).mono ?_
          rintro e w5 ⟨s5, rfl, h5, hb5⟩
          obtain ⟨a5, c5, rfl⟩ := h5.shape
          have O5 : Hid (Oct w5 a5 c5 (encX n item)) := h5.oct (by omega)
          have R5 : Hid (Bs w5 w.heap.size u3 (P ++ ((its.map (encX n)).take m).flatten)) := HR.out.below hb5
          have X5 : Hid (w5.heap[w.heap.size]? = some (.cells #[.int .i64 3, .int .u64 b, .string t, .slice (some ⟨g1, o1, none⟩) its.length ic] 25 (0, 0))) := (hb5.block _ (lt_of_block HX.out)).trans HX.out
          have BW5 : Hid (Below w.heap.size w w5) := nxt BW.out hb5
          clear h5 hb5 x0 x1 x2 x3 q0 q1 q2 q3
          go_wp2_with (at_builtin; refine wpList_appO _ rfl _ _ rfl w.heap.size _ (P ++ ((its.map (encX n)).take m).flatten) (encX n item) rfl R5.out a5 c5 rfl O5.out ?d0 BW5.out.size ?_)
          case d0 => simp only [List.length_append]; omega
          intro s6 w6 h6 h7
          have R6 : Hid (Bs w6 w.heap.size s6 (P ++ ((its.map (encX n)).take (m + 1)).flatten)) := by
            show Bs _ _ _ _
            rw [E1.out]
            simpa using h6
          have X6 : Hid (w6.heap[w.heap.size]? = some (.cells #[.int .i64 3, .int .u64 b, .string t, .slice (some ⟨g1, o1, none⟩) its.length ic] 25 (0, 0))) := (h7.block (lt_of_block X5.out) (R5.out.neX X5.out (by decide))).trans X5.out
          have B6 : Hid (Below w.heap.size w w6) := BW5.out.trans (h7.below BW5.out.size fun g hg => (R5.out.base g hg).1)
          clear h6 h7
          go_wp2_with fail
          go_roundw
          case rel => exact ⟨m + 1, by omega, by go_num, R6.out, B6.out, X6.out⟩
          case measure => simp [intOf]; omega
        · have hme : m = its.length := by omega
          subst hme
          go_wp2_with fail
          go_ret
          refine ⟨_, rfl, ?_, BW.out⟩
          have := HR.out
          rw [flatX_all (by simp)] at this
          simpa using this
    by_cases k23 : kn = 23
    · subst k23
      obtain ⟨P, hP⟩ : ∃ P, P = octP (((23 : Nat) : Int), b, t, its.length) := ⟨_, rfl⟩
      rw [← hP] at hlen1 ⊢
      have HP : Hid (P = [UInt8.ofNat 23, UInt8.ofNat its.length]) := hP
      clear hP ev em hkn k3
      have S1 := Bs.made (w.alloc (.cells #[.int .i64 23, .int .u64 b, .string t, .slice ia its.length ic] 25)) [UInt8.ofNat 23] #[.int .u8 23] (by simp [cellsO]) w.heap.size (by simp) (by simp)
      have B1 : Hid (Below w.heap.size w ((w.alloc (.cells #[.int .i64 23, .int .u64 b, .string t, .slice ia its.length ic] 25)).alloc (.cells #[.int .u8 23] 5))) := nxt (below_one _ _) (below_one _ _)
      have HS1 : Hid (Bs ((w.alloc (.cells #[.int .i64 23, .int .u64 b, .string t, .slice ia its.length ic] 25)).alloc (.cells #[.int .u8 23] 5)) w.heap.size (.slice (some ⟨w.heap.size + 1, 0, none⟩) 1 1) [UInt8.ofNat 23]) := by show Bs _ _ _ _; simpa using S1
      have X1 : Hid (((w.alloc (.cells #[.int .i64 23, .int .u64 b, .string t, .slice ia its.length ic] 25)).alloc (.cells #[.int .u8 23] 5)).heap[w.heap.size]? = some (.cells #[.int .i64 23, .int .u64 b, .string t, .slice ia its.length ic] 25 (0, 0))) := (Below.heap_alloc _ _ _ (by simp)).trans (heap_alloc_new _ _)
      clear S1
      go_enter Try.func30, Try.ntmps30
      have ev2 : ((UInt8.ofNat its.length).toNat : Int) = (its.length : Int) := byte_val (by omega)
      have em2 : (its.length : Int) % 256 = (its.length : Int) := by omega
      go_wp2_with (at_builtin; refine wpList_app _ rfl _ _ rfl w.heap.size _ [UInt8.ofNat 23] [UInt8.ofNat its.length] rfl ?d0 ⟨w.heap.size + 2, 0, none⟩ 1 rfl ?d1 ?d2 ?d3 ?_)
      case d0 => exact HS1.out.below (below_one _ _)
      case d1 => exact new_octets' _ _ _ _ _ (by simp) (by simp [cellsO]; omega)
      case d2 => simp
      case d3 => simp; omega
      intro s3 w3 h3 h4
      have H3 : Hid (Bs w3 w.heap.size s3 P) := by show Bs _ _ _ _; rw [HP.out]; simpa using h3
      have B3 : Hid (Below w.heap.size w w3) := (nxt B1.out (below_one _ _)).trans (h4.below (by simp; omega) fun g hg => (HS1.out.base g hg).1)
      have X3 : Hid (w3.heap[w.heap.size]? = some (.cells #[.int .i64 23, .int .u64 b, .string t, .slice ia its.length ic] 25 (0, 0))) := (h4.block (by simp; omega) (by simp [Value.ownBlock])).trans ((Below.heap_alloc _ _ _ (by simp; omega)).trans X1.out)
      clear h3 h4 HS1 B1 X1
      obtain ⟨y0, y1, y2, y3, -⟩ := box4 X3.out
      go_wp2_with fail
      go_loopw [3, 4] (fun v i wr => ∃ (m : Nat), m ≤ its.length ∧ i = .int .i64 m ∧ Hid (Bs wr w.heap.size v (P ++ ((its.map (encX n)).take m).flatten)) ∧ Hid (Below w.heap.size w wr) ∧
          Hid (wr.heap[w.heap.size]? = some (.cells #[.int .i64 23, .int .u64 b, .string t, .slice ia its.length ic] 25 (0, 0)))) (fun _ i _ => its.length - (intOf i).toNat)
      case atStart => exact ⟨0, Nat.zero_le _, rfl, (by show Bs _ _ _ _; simpa using H3.out), B3.out, X3.out⟩
      case round =>
        obtain ⟨m, hm, rfl, HR, BW, HX⟩ := hrel
        obtain ⟨x0, x1, x2, x3, -⟩ := box4 HX.out
        have hsw := BW.out.size
        by_cases hlt : m < its.length
        · have hm1 : (m : Int) < (its.length : Int) := by omega
          obtain ⟨g1, o1, k1, b1, t1, ja, jl, jc, rfl, q0, q1, q2, q3, hl⟩ := (LayJ.below HI.out BW.out).at m hlt
          have HL : Hid (LayX wr n (mkX k1 b1 t1 ja jl jc) its[m]) := hl
          have HOK : Hid (okX n its[m]) := HOS.out _ (by simp)
          obtain ⟨e1, e2⟩ := flatX_take (l := its.map (encX n)) (m := m) (e := encX n its[m]) (by simp [hlt])
          have E1 : Hid (((its.map (encX n)).take (m + 1)).flatten = ((its.map (encX n)).take m).flatten ++ encX n its[m]) := e1
          generalize hitem : its[m] = item at *
          clear hitem hl e1
          go_wp2_with fail
          refine (ih item _ wr HL.out HOK.out (by omega)).mono ?_
          rintro e w5 ⟨s5, rfl, h5, hb5⟩
          obtain ⟨a5, c5, rfl⟩ := h5.shape
          have O5 : Hid (Oct w5 a5 c5 (encX n item)) := h5.oct (by omega)
          have R5 : Hid (Bs w5 w.heap.size u3 (P ++ ((its.map (encX n)).take m).flatten)) := HR.out.below hb5
          have X5 : Hid (w5.heap[w.heap.size]? = some (.cells #[.int .i64 23, .int .u64 b, .string t, .slice (some ⟨g1, o1, none⟩) its.length ic] 25 (0, 0))) := (hb5.block _ (lt_of_block HX.out)).trans HX.out
          have BW5 : Hid (Below w.heap.size w w5) := nxt BW.out hb5
          clear h5 hb5 x0 x1 x2 x3 q0 q1 q2 q3
          go_wp2_with (at_builtin; refine wpList_appO _ rfl _ _ rfl w.heap.size _ (P ++ ((its.map (encX n)).take m).flatten) (encX n item) rfl R5.out a5 c5 rfl O5.out ?d0 BW5.out.size ?_)
          case d0 => simp only [List.length_append]; omega
          intro s6 w6 h6 h7
          have R6 : Hid (Bs w6 w.heap.size s6 (P ++ ((its.map (encX n)).take (m + 1)).flatten)) := by
            show Bs _ _ _ _
            rw [E1.out]
            simpa using h6
          have X6 : Hid (w6.heap[w.heap.size]? = some (.cells #[.int .i64 23, .int .u64 b, .string t, .slice (some ⟨g1, o1, none⟩) its.length ic] 25 (0, 0))) := (h7.block (lt_of_block X5.out) (R5.out.neX X5.out (by decide))).trans X5.out
          have B6 : Hid (Below w.heap.size w w6) := BW5.out.trans (h7.below BW5.out.size fun g hg => (R5.out.base g hg).1)
          clear h6 h7
          go_wp2_with fail
          go_roundw
          case rel => exact ⟨m + 1, by omega, by go_num, R6.out, B6.out, X6.out⟩
          case measure => simp [intOf]; omega
        · have hme : m = its.length := by omega
          subst hme
          go_wp2_with fail
          go_ret
          refine ⟨_, rfl, ?_, BW.out⟩
          have := HR.out
          rw [flatX_all (by simp)] at this
          simpa using this
    by_cases k4 : kn = 4
    · subst k4
      obtain ⟨P, hP⟩ : ∃ P, P = octP (((4 : Nat) : Int), b, t, its.length) := ⟨_, rfl⟩
      rw [← hP] at hlen1 ⊢
      have HP : Hid (P = UInt8.ofNat 4 :: UInt8.ofNat t.size :: t.toList) := hP
      clear hP ev em hkn k3 k23
      have S1 := Bs.made (w.alloc (.cells #[.int .i64 4, .int .u64 b, .string t, .slice ia its.length ic] 25)) [UInt8.ofNat 4] #[.int .u8 4] (by simp [cellsO]) w.heap.size (by simp) (by simp)
      have B1 : Hid (Below w.heap.size w ((w.alloc (.cells #[.int .i64 4, .int .u64 b, .string t, .slice ia its.length ic] 25)).alloc (.cells #[.int .u8 4] 5))) := nxt (below_one _ _) (below_one _ _)
      have HS1 : Hid (Bs ((w.alloc (.cells #[.int .i64 4, .int .u64 b, .string t, .slice ia its.length ic] 25)).alloc (.cells #[.int .u8 4] 5)) w.heap.size (.slice (some ⟨w.heap.size + 1, 0, none⟩) 1 1) [UInt8.ofNat 4]) := by show Bs _ _ _ _; simpa using S1
      have X1 : Hid (((w.alloc (.cells #[.int .i64 4, .int .u64 b, .string t, .slice ia its.length ic] 25)).alloc (.cells #[.int .u8 4] 5)).heap[w.heap.size]? = some (.cells #[.int .i64 4, .int .u64 b, .string t, .slice ia its.length ic] 25 (0, 0))) := (Below.heap_alloc _ _ _ (by simp)).trans (heap_alloc_new _ _)
      clear S1
      go_enter Try.func30, Try.ntmps30
      have ev2 : ((UInt8.ofNat t.size).toNat : Int) = (t.size : Int) := byte_val (by omega)
      have em2 : (t.size : Int) % 256 = (t.size : Int) := by omega
      go_wp2_with (at_builtin; refine wpList_app _ rfl _ _ rfl w.heap.size _ [UInt8.ofNat 4] [UInt8.ofNat t.size] rfl ?d0 ⟨w.heap.size + 2, 0, none⟩ 1 rfl ?d1 ?d2 ?d3 ?_)
      case d0 => exact HS1.out.below (below_one _ _)
      case d1 => exact new_octets' _ _ _ _ _ (by simp) (by simp [cellsO]; omega)
      case d2 => simp
      case d3 => simp; omega
      intro s2 w2 h1 h2
      have S2 : Hid (Bs w2 w.heap.size s2 ([UInt8.ofNat 4] ++ [UInt8.ofNat t.size])) := h1
      have B2 : Hid (Below w.heap.size w w2) := (nxt B1.out (below_one _ _)).trans (h2.below (by simp; omega) fun g hg => (HS1.out.base g hg).1)
      have X2 : Hid (w2.heap[w.heap.size]? = some (.cells #[.int .i64 4, .int .u64 b, .string t, .slice ia its.length ic] 25 (0, 0))) := (h2.block (by simp; omega) (by simp [Value.ownBlock])).trans ((Below.heap_alloc _ _ _ (by simp; omega)).trans X1.out)
      clear h1 h2 HS1 B1 X1
      obtain ⟨y0, y1, y2, y3, -⟩ := box4 X2.out
      go_wp2_with (at_builtin; refine wpList_apps _ rfl _ _ rfl w.heap.size _ ([UInt8.ofNat 4] ++ [UInt8.ofNat t.size]) t rfl S2.out rfl ?d0 B2.out.size ?_)
      case d0 => simp; omega
      intro s3 w3 h3 h4
      have H3 : Hid (Bs w3 w.heap.size s3 P) := by show Bs _ _ _ _; rw [HP.out]; simpa using h3
      have B3 : Hid (Below w.heap.size w w3) := B2.out.trans (h4.below B2.out.size fun g hg => (S2.out.base g hg).1)
      have X3 : Hid (w3.heap[w.heap.size]? = some (.cells #[.int .i64 4, .int .u64 b, .string t, .slice ia its.length ic] 25 (0, 0))) := (h4.block (lt_of_block X2.out) (S2.out.neX X2.out (by decide))).trans X2.out
      clear h3 h4 S2 B2 X2 y0 y1 y2 y3
      obtain ⟨y0, y1, y2, y3, -⟩ := box4 X3.out
      go_wp2_with fail
      go_loopw [3, 4] (fun v i wr => ∃ (m : Nat), m ≤ its.length ∧ i = .int .i64 m ∧ Hid (Bs wr w.heap.size v (P ++ ((its.map (encX n)).take m).flatten)) ∧ Hid (Below w.heap.size w wr) ∧
          Hid (wr.heap[w.heap.size]? = some (.cells #[.int .i64 4, .int .u64 b, .string t, .slice ia its.length ic] 25 (0, 0)))) (fun _ i _ => its.length - (intOf i).toNat)
      case atStart => exact ⟨0, Nat.zero_le _, rfl, (by show Bs _ _ _ _; simpa using H3.out), B3.out, X3.out⟩
      case round =>
        obtain ⟨m, hm, rfl, HR, BW, HX⟩ := hrel
        obtain ⟨x0, x1, x2, x3, -⟩ := box4 HX.out
        have hsw := BW.out.size
        by_cases hlt : m < its.length
        · have hm1 : (m : Int) < (its.length : Int) := by omega
          obtain ⟨g1, o1, k1, b1, t1, ja, jl, jc, rfl, q0, q1, q2, q3, hl⟩ := (LayJ.below HI.out BW.out).at m hlt
          have HL : Hid (LayX wr n (mkX k1 b1 t1 ja jl jc) its[m]) := hl
          have HOK : Hid (okX n its[m]) := HOS.out _ (by simp)
          obtain ⟨e1, e2⟩ := flatX_take (l := its.map (encX n)) (m := m) (e := encX n its[m]) (by simp [hlt])
          have E1 : Hid (((its.map (encX n)).take (m + 1)).flatten = ((its.map (encX n)).take m).flatten ++ encX n its[m]) := e1
          generalize hitem : its[m] = item at *
          clear hitem hl e1
          go_wp2_with fail
          refine (ih item _ wr HL.out HOK.out (by omega)).mono ?_
          rintro e w5 ⟨s5, rfl, h5, hb5⟩
          obtain ⟨a5, c5, rfl⟩ := h5.shape
          have O5 : Hid (Oct w5 a5 c5 (encX n item)) := h5.oct (by omega)
          have R5 : Hid (Bs w5 w.heap.size u3 (P ++ ((its.map (encX n)).take m).flatten)) := HR.out.below hb5
          have X5 : Hid (w5.heap[w.heap.size]? = some (.cells #[.int .i64 4, .int .u64 b, .string t, .slice (some ⟨g1, o1, none⟩) its.length ic] 25 (0, 0))) := (hb5.block _ (lt_of_block HX.out)).trans HX.out
          have BW5 : Hid (Below w.heap.size w w5) := nxt BW.out hb5
          clear h5 hb5 x0 x1 x2 x3 q0 q1 q2 q3
          go_wp2_with (at_builtin; refine wpList_appO _ rfl _ _ rfl w.heap.size _ (P ++ ((its.map (encX n)).take m).flatten) (encX n item) rfl R5.out a5 c5 rfl O5.out ?d0 BW5.out.size ?_)
          case d0 => simp only [List.length_append]; omega
          intro s6 w6 h6 h7
          have R6 : Hid (Bs w6 w.heap.size s6 (P ++ ((its.map (encX n)).take (m + 1)).flatten)) := by
            show Bs _ _ _ _
            rw [E1.out]
            simpa using h6
          have X6 : Hid (w6.heap[w.heap.size]? = some (.cells #[.int .i64 4, .int .u64 b, .string t, .slice (some ⟨g1, o1, none⟩) its.length ic] 25 (0, 0))) := (h7.block (lt_of_block X5.out) (R5.out.neX X5.out (by decide))).trans X5.out
          have B6 : Hid (Below w.heap.size w w6) := BW5.out.trans (h7.below BW5.out.size fun g hg => (R5.out.base g hg).1)
          clear h6 h7
          go_wp2_with fail
          go_roundw
          case rel => exact ⟨m + 1, by omega, by go_num, R6.out, B6.out, X6.out⟩
          case measure => simp [intOf]; omega
        · have hme : m = its.length := by omega
          subst hme
          go_wp2_with fail
          go_ret
          refine ⟨_, rfl, ?_, BW.out⟩
          have := HR.out
          rw [flatX_all (by simp)] at this
          simpa using this
    by_cases k8 : kn = 8
    · subst k8
      obtain ⟨P, hP⟩ : ∃ P, P = octP (((8 : Nat) : Int), b, t, its.length) := ⟨_, rfl⟩
      rw [← hP] at hlen1 ⊢
      have HP : Hid (P = UInt8.ofNat 8 :: UInt8.ofNat t.size :: t.toList) := hP
      clear hP ev em hkn k3 k23
      have S1 := Bs.made (w.alloc (.cells #[.int .i64 8, .int .u64 b, .string t, .slice ia its.length ic] 25)) [UInt8.ofNat 8] #[.int .u8 8] (by simp [cellsO]) w.heap.size (by simp) (by simp)
      have B1 : Hid (Below w.heap.size w ((w.alloc (.cells #[.int .i64 8, .int .u64 b, .string t, .slice ia its.length ic] 25)).alloc (.cells #[.int .u8 8] 5))) := nxt (below_one _ _) (below_one _ _)
      have HS1 : Hid (Bs ((w.alloc (.cells #[.int .i64 8, .int .u64 b, .string t, .slice ia its.length ic] 25)).alloc (.cells #[.int .u8 8] 5)) w.heap.size (.slice (some ⟨w.heap.size + 1, 0, none⟩) 1 1) [UInt8.ofNat 8]) := by show Bs _ _ _ _; simpa using S1
      have X1 : Hid (((w.alloc (.cells #[.int .i64 8, .int .u64 b, .string t, .slice ia its.length ic] 25)).alloc (.cells #[.int .u8 8] 5)).heap[w.heap.size]? = some (.cells #[.int .i64 8, .int .u64 b, .string t, .slice ia its.length ic] 25 (0, 0))) := (Below.heap_alloc _ _ _ (by simp)).trans (heap_alloc_new _ _)
      clear S1
      go_enter Try.func30, Try.ntmps30
      have ev2 : ((UInt8.ofNat t.size).toNat : Int) = (t.size : Int) := byte_val (by omega)
      have em2 : (t.size : Int) % 256 = (t.size : Int) := by omega
      go_wp2_with (at_builtin; refine wpList_app _ rfl _ _ rfl w.heap.size _ [UInt8.ofNat 8] [UInt8.ofNat t.size] rfl ?d0 ⟨w.heap.size + 2, 0, none⟩ 1 rfl ?d1 ?d2 ?d3 ?_)
      case d0 => exact HS1.out.below (below_one _ _)
      case d1 => exact new_octets' _ _ _ _ _ (by simp) (by simp [cellsO]; omega)
      case d2 => simp
      case d3 => simp; omega
      intro s2 w2 h1 h2
      have S2 : Hid (Bs w2 w.heap.size s2 ([UInt8.ofNat 8] ++ [UInt8.ofNat t.size])) := h1
      have B2 : Hid (Below w.heap.size w w2) := (nxt B1.out (below_one _ _)).trans (h2.below (by simp; omega) fun g hg => (HS1.out.base g hg).1)
      have X2 : Hid (w2.heap[w.heap.size]? = some (.cells #[.int .i64 8, .int .u64 b, .string t, .slice ia its.length ic] 25 (0, 0))) := (h2.block (by simp; omega) (by simp [Value.ownBlock])).trans ((Below.heap_alloc _ _ _ (by simp; omega)).trans X1.out)
      clear h1 h2 HS1 B1 X1
      obtain ⟨y0, y1, y2, y3, -⟩ := box4 X2.out
      go_wp2_with (at_builtin; refine wpList_apps _ rfl _ _ rfl w.heap.size _ ([UInt8.ofNat 8] ++ [UInt8.ofNat t.size]) t rfl S2.out rfl ?d0 B2.out.size ?_)
      case d0 => simp; omega
      intro s3 w3 h3 h4
      have H3 : Hid (Bs w3 w.heap.size s3 P) := by show Bs _ _ _ _; rw [HP.out]; simpa using h3
      have B3 : Hid (Below w.heap.size w w3) := B2.out.trans (h4.below B2.out.size fun g hg => (S2.out.base g hg).1)
      have X3 : Hid (w3.heap[w.heap.size]? = some (.cells #[.int .i64 8, .int .u64 b, .string t, .slice ia its.length ic] 25 (0, 0))) := (h4.block (lt_of_block X2.out) (S2.out.neX X2.out (by decide))).trans X2.out
      clear h3 h4 S2 B2 X2 y0 y1 y2 y3
      obtain ⟨y0, y1, y2, y3, -⟩ := box4 X3.out
      go_wp2_with fail
      go_loopw [3, 4] (fun v i wr => ∃ (m : Nat), m ≤ its.length ∧ i = .int .i64 m ∧ Hid (Bs wr w.heap.size v (P ++ ((its.map (encX n)).take m).flatten)) ∧ Hid (Below w.heap.size w wr) ∧
          Hid (wr.heap[w.heap.size]? = some (.cells #[.int .i64 8, .int .u64 b, .string t, .slice ia its.length ic] 25 (0, 0)))) (fun _ i _ => its.length - (intOf i).toNat)
      case atStart => exact ⟨0, Nat.zero_le _, rfl, (by show Bs _ _ _ _; simpa using H3.out), B3.out, X3.out⟩
      case round =>
        obtain ⟨m, hm, rfl, HR, BW, HX⟩ := hrel
        obtain ⟨x0, x1, x2, x3, -⟩ := box4 HX.out
        have hsw := BW.out.size
        by_cases hlt : m < its.length
        · have hm1 : (m : Int) < (its.length : Int) := by omega
          obtain ⟨g1, o1, k1, b1, t1, ja, jl, jc, rfl, q0, q1, q2, q3, hl⟩ := (LayJ.below HI.out BW.out).at m hlt
          have HL : Hid (LayX wr n (mkX k1 b1 t1 ja jl jc) its[m]) := hl
          have HOK : Hid (okX n its[m]) := HOS.out _ (by simp)
          obtain ⟨e1, e2⟩ := flatX_take (l := its.map (encX n)) (m := m) (e := encX n its[m]) (by simp [hlt])
          have E1 : Hid (((its.map (encX n)).take (m + 1)).flatten = ((its.map (encX n)).take m).flatten ++ encX n its[m]) := e1
          generalize hitem : its[m] = item at *
          clear hitem hl e1
          go_wp2_with fail
          refine (ih item _ wr HL.out HOK.out (by omega)).mono ?_
          rintro e w5 ⟨s5, rfl, h5, hb5⟩
          obtain ⟨a5, c5, rfl⟩ := h5.shape
          have O5 : Hid (Oct w5 a5 c5 (encX n item)) := h5.oct (by omega)
          have R5 : Hid (Bs w5 w.heap.size u3 (P ++ ((its.map (encX n)).take m).flatten)) := HR.out.below hb5
          have X5 : Hid (w5.heap[w.heap.size]? = some (.cells #[.int .i64 8, .int .u64 b, .string t, .slice (some ⟨g1, o1, none⟩) its.length ic] 25 (0, 0))) := (hb5.block _ (lt_of_block HX.out)).trans HX.out
          have BW5 : Hid (Below w.heap.size w w5) := nxt BW.out hb5
          clear h5 hb5 x0 x1 x2 x3 q0 q1 q2 q3
          go_wp2_with (at_builtin; refine wpList_appO _ rfl _ _ rfl w.heap.size _ (P ++ ((its.map (encX n)).take m).flatten) (encX n item) rfl R5.out a5 c5 rfl O5.out ?d0 BW5.out.size ?_)
          case d0 => simp only [List.length_append]; omega
          intro s6 w6 h6 h7
          have R6 : Hid (Bs w6 w.heap.size s6 (P ++ ((its.map (encX n)).take (m + 1)).flatten)) := by
            show Bs _ _ _ _
            rw [E1.out]
            simpa using h6
          have X6 : Hid (w6.heap[w.heap.size]? = some (.cells #[.int .i64 8, .int .u64 b, .string t, .slice (some ⟨g1, o1, none⟩) its.length ic] 25 (0, 0))) := (h7.block (lt_of_block X5.out) (R5.out.neX X5.out (by decide))).trans X5.out
          have B6 : Hid (Below w.heap.size w w6) := BW5.out.trans (h7.below BW5.out.size fun g hg => (R5.out.base g hg).1)
          clear h6 h7
          go_wp2_with fail
          go_roundw
          case rel => exact ⟨m + 1, by omega, by go_num, R6.out, B6.out, X6.out⟩
          case measure => simp [intOf]; omega
        · have hme : m = its.length := by omega
          subst hme
          go_wp2_with fail
          go_ret
          refine ⟨_, rfl, ?_, BW.out⟩
          have := HR.out
          rw [flatX_all (by simp)] at this
          simpa using this
    by_cases k25 : kn = 25
    · subst k25
      obtain ⟨P, hP⟩ : ∃ P, P = octP (((25 : Nat) : Int), b, t, its.length) := ⟨_, rfl⟩
      rw [← hP] at hlen1 ⊢
      have HP : Hid (P = UInt8.ofNat 25 :: UInt8.ofNat t.size :: t.toList) := hP
      clear hP ev em hkn k3 k23
      have S1 := Bs.made (w.alloc (.cells #[.int .i64 25, .int .u64 b, .string t, .slice ia its.length ic] 25)) [UInt8.ofNat 25] #[.int .u8 25] (by simp [cellsO]) w.heap.size (by simp) (by simp)
      have B1 : Hid (Below w.heap.size w ((w.alloc (.cells #[.int .i64 25, .int .u64 b, .string t, .slice ia its.length ic] 25)).alloc (.cells #[.int .u8 25] 5))) := nxt (below_one _ _) (below_one _ _)
      have HS1 : Hid (Bs ((w.alloc (.cells #[.int .i64 25, .int .u64 b, .string t, .slice ia its.length ic] 25)).alloc (.cells #[.int .u8 25] 5)) w.heap.size (.slice (some ⟨w.heap.size + 1, 0, none⟩) 1 1) [UInt8.ofNat 25]) := by show Bs _ _ _ _; simpa using S1
      have X1 : Hid (((w.alloc (.cells #[.int .i64 25, .int .u64 b, .string t, .slice ia its.length ic] 25)).alloc (.cells #[.int .u8 25] 5)).heap[w.heap.size]? = some (.cells #[.int .i64 25, .int .u64 b, .string t, .slice ia its.length ic] 25 (0, 0))) := (Below.heap_alloc _ _ _ (by simp)).trans (heap_alloc_new _ _)
      clear S1
      go_enter Try.func30, Try.ntmps30
      have ev2 : ((UInt8.ofNat t.size).toNat : Int) = (t.size : Int) := byte_val (by omega)
      have em2 : (t.size : Int) % 256 = (t.size : Int) := by omega
      go_wp2_with (at_builtin; refine wpList_app _ rfl _ _ rfl w.heap.size _ [UInt8.ofNat 25] [UInt8.ofNat t.size] rfl ?d0 ⟨w.heap.size + 2, 0, none⟩ 1 rfl ?d1 ?d2 ?d3 ?_)
      case d0 => exact HS1.out.below (below_one _ _)
      case d1 => exact new_octets' _ _ _ _ _ (by simp) (by simp [cellsO]; omega)
      case d2 => simp
      case d3 => simp; omega
      intro s2 w2 h1 h2
      have S2 : Hid (Bs w2 w.heap.size s2 ([UInt8.ofNat 25] ++ [UInt8.ofNat t.size])) := h1
      have B2 : Hid (Below w.heap.size w w2) := (nxt B1.out (below_one _ _)).trans (h2.below (by simp; omega) fun g hg => (HS1.out.base g hg).1)
      have X2 : Hid (w2.heap[w.heap.size]? = some (.cells #[.int .i64 25, .int .u64 b, .string t, .slice ia its.length ic] 25 (0, 0))) := (h2.block (by simp; omega) (by simp [Value.ownBlock])).trans ((Below.heap_alloc _ _ _ (by simp; omega)).trans X1.out)
      clear h1 h2 HS1 B1 X1
      obtain ⟨y0, y1, y2, y3, -⟩ := box4 X2.out
      go_wp2_with (at_builtin; refine wpList_apps _ rfl _ _ rfl w.heap.size _ ([UInt8.ofNat 25] ++ [UInt8.ofNat t.size]) t rfl S2.out rfl ?d0 B2.out.size ?_)
      case d0 => simp; omega
      intro s3 w3 h3 h4
      have H3 : Hid (Bs w3 w.heap.size s3 P) := by show Bs _ _ _ _; rw [HP.out]; simpa using h3
      have B3 : Hid (Below w.heap.size w w3) := B2.out.trans (h4.below B2.out.size fun g hg => (S2.out.base g hg).1)
      have X3 : Hid (w3.heap[w.heap.size]? = some (.cells #[.int .i64 25, .int .u64 b, .string t, .slice ia its.length ic] 25 (0, 0))) := (h4.block (lt_of_block X2.out) (S2.out.neX X2.out (by decide))).trans X2.out
      clear h3 h4 S2 B2 X2 y0 y1 y2 y3
      obtain ⟨y0, y1, y2, y3, -⟩ := box4 X3.out
      go_wp2_with fail
      go_loopw [3, 4] (fun v i wr => ∃ (m : Nat), m ≤ its.length ∧ i = .int .i64 m ∧ Hid (Bs wr w.heap.size v (P ++ ((its.map (encX n)).take m).flatten)) ∧ Hid (Below w.heap.size w wr) ∧
          Hid (wr.heap[w.heap.size]? = some (.cells #[.int .i64 25, .int .u64 b, .string t, .slice ia its.length ic] 25 (0, 0)))) (fun _ i _ => its.length - (intOf i).toNat)
      case atStart => exact ⟨0, Nat.zero_le _, rfl, (by show Bs _ _ _ _; simpa using H3.out), B3.out, X3.out⟩
      case round =>
        obtain ⟨m, hm, rfl, HR, BW, HX⟩ := hrel
        obtain ⟨x0, x1, x2, x3, -⟩ := box4 HX.out
        have hsw := BW.out.size
        by_cases hlt : m < its.length
        · have hm1 : (m : Int) < (its.length : Int) := by omega
          obtain ⟨g1, o1, k1, b1, t1, ja, jl, jc, rfl, q0, q1, q2, q3, hl⟩ := (LayJ.below HI.out BW.out).at m hlt
          have HL : Hid (LayX wr n (mkX k1 b1 t1 ja jl jc) its[m]) := hl
          have HOK : Hid (okX n its[m]) := HOS.out _ (by simp)
          obtain ⟨e1, e2⟩ := flatX_take (l := its.map (encX n)) (m := m) (e := encX n its[m]) (by simp [hlt])
          have E1 : Hid (((its.map (encX n)).take (m + 1)).flatten = ((its.map (encX n)).take m).flatten ++ encX n its[m]) := e1
          generalize hitem : its[m] = item at *
          clear hitem hl e1
          go_wp2_with fail
          refine (ih item _ wr HL.out HOK.out (by omega)).mono ?_
          rintro e w5 ⟨s5, rfl, h5, hb5⟩
          obtain ⟨a5, c5, rfl⟩ := h5.shape
          have O5 : Hid (Oct w5 a5 c5 (encX n item)) := h5.oct (by omega)
          have R5 : Hid (Bs w5 w.heap.size u3 (P ++ ((its.map (encX n)).take m).flatten)) := HR.out.below hb5
          have X5 : Hid (w5.heap[w.heap.size]? = some (.cells #[.int .i64 25, .int .u64 b, .string t, .slice (some ⟨g1, o1, none⟩) its.length ic] 25 (0, 0))) := (hb5.block _ (lt_of_block HX.out)).trans HX.out
          have BW5 : Hid (Below w.heap.size w w5) := nxt BW.out hb5
          clear h5 hb5 x0 x1 x2 x3 q0 q1 q2 q3
          go_wp2_with (at_builtin; refine wpList_appO _ rfl _ _ rfl w.heap.size _ (P ++ ((its.map (encX n)).take m).flatten) (encX n item) rfl R5.out a5 c5 rfl O5.out ?d0 BW5.out.size ?_)
          case d0 => simp only [List.length_append]; omega
          intro s6 w6 h6 h7
          have R6 : Hid (Bs w6 w.heap.size s6 (P ++ ((its.map (encX n)).take (m + 1)).flatten)) := by
            show Bs _ _ _ _
            rw [E1.out]
            simpa using h6
          have X6 : Hid (w6.heap[w.heap.size]? = some (.cells #[.int .i64 25, .int .u64 b, .string t, .slice (some ⟨g1, o1, none⟩) its.length ic] 25 (0, 0))) := (h7.block (lt_of_block X5.out) (R5.out.neX X5.out (by decide))).trans X5.out
          have B6 : Hid (Below w.heap.size w w6) := BW5.out.trans (h7.below BW5.out.size fun g hg => (R5.out.base g hg).1)
          clear h6 h7
          go_wp2_with fail
          go_roundw
          case rel => exact ⟨m + 1, by omega, by go_num, R6.out, B6.out, X6.out⟩
          case measure => simp [intOf]; omega
        · have hme : m = its.length := by omega
          subst hme
          go_wp2_with fail
          go_ret
          refine ⟨_, rfl, ?_, BW.out⟩
          have := HR.out
          rw [flatX_all (by simp)] at this
          simpa using this
    · have d3 : ((kn : Int) == 3) = false := by simp; omega
      have d4 : ((kn : Int) == 4) = false := by simp; omega
      have d8 : ((kn : Int) == 8) = false := by simp; omega
      have d25 : ((kn : Int) == 25) = false := by simp; omega
      have d23 : ((kn : Int) == 23) = false := by simp; omega
      have HE : octP ((kn : Int), b, t, its.length) = [UInt8.ofNat kn] := by
        unfold octP
        simp only [Int.toNat_natCast]
        rw [if_neg (by omega), if_neg (by omega), if_neg (by omega)]
      rw [HE] at hlen1 ⊢
      obtain ⟨P, hP⟩ : ∃ P, P = [UInt8.ofNat kn] := ⟨_, rfl⟩
      rw [← hP] at hlen1 ⊢
      have HP : Hid (P = [UInt8.ofNat kn]) := hP
      clear hP HE k3 k4 k8 k25 k23
      have S1 := Bs.made (w.alloc (.cells #[.int .i64 (kn : Int), .int .u64 b, .string t, .slice ia its.length ic] 25)) [UInt8.ofNat kn] #[.int .u8 (kn : Int)] (by simp [cellsO]; omega) w.heap.size (by simp) (by simp)
      have B1 : Hid (Below w.heap.size w ((w.alloc (.cells #[.int .i64 (kn : Int), .int .u64 b, .string t, .slice ia its.length ic] 25)).alloc (.cells #[.int .u8 (kn : Int)] 5))) := nxt (below_one _ _) (below_one _ _)
      have HS1 : Hid (Bs ((w.alloc (.cells #[.int .i64 (kn : Int), .int .u64 b, .string t, .slice ia its.length ic] 25)).alloc (.cells #[.int .u8 (kn : Int)] 5)) w.heap.size (.slice (some ⟨w.heap.size + 1, 0, none⟩) 1 1) [UInt8.ofNat kn]) := by show Bs _ _ _ _; simpa using S1
      have X1 : Hid (((w.alloc (.cells #[.int .i64 (kn : Int), .int .u64 b, .string t, .slice ia its.length ic] 25)).alloc (.cells #[.int .u8 (kn : Int)] 5)).heap[w.heap.size]? = some (.cells #[.int .i64 (kn : Int), .int .u64 b, .string t, .slice ia its.length ic] 25 (0, 0))) := (Below.heap_alloc _ _ _ (by simp)).trans (heap_alloc_new _ _)
      clear S1
      go_enter Try.func30, Try.ntmps30
      have H3 : Hid (Bs ((w.alloc (.cells #[.int .i64 (kn : Int), .int .u64 b, .string t, .slice ia its.length ic] 25)).alloc (.cells #[.int .u8 (kn : Int)] 5)) w.heap.size (.slice (some ⟨w.heap.size + 1, 0, none⟩) 1 1) P) := by show Bs _ _ _ _; rw [HP.out]; exact HS1.out
      have B3 : Hid (Below w.heap.size w ((w.alloc (.cells #[.int .i64 (kn : Int), .int .u64 b, .string t, .slice ia its.length ic] 25)).alloc (.cells #[.int .u8 (kn : Int)] 5))) := B1.out
      have X3 : Hid (((w.alloc (.cells #[.int .i64 (kn : Int), .int .u64 b, .string t, .slice ia its.length ic] 25)).alloc (.cells #[.int .u8 (kn : Int)] 5)).heap[w.heap.size]? = some (.cells #[.int .i64 (kn : Int), .int .u64 b, .string t, .slice ia its.length ic] 25 (0, 0))) := X1.out
      clear HS1 B1 X1
      go_wp2_with fail
      go_loopw [3, 4] (fun v i wr => ∃ (m : Nat), m ≤ its.length ∧ i = .int .i64 m ∧ Hid (Bs wr w.heap.size v (P ++ ((its.map (encX n)).take m).flatten)) ∧ Hid (Below w.heap.size w wr) ∧
          Hid (wr.heap[w.heap.size]? = some (.cells #[.int .i64 (kn : Int), .int .u64 b, .string t, .slice ia its.length ic] 25 (0, 0)))) (fun _ i _ => its.length - (intOf i).toNat)
      case atStart => exact ⟨0, Nat.zero_le _, rfl, (by show Bs _ _ _ _; simpa using H3.out), B3.out, X3.out⟩
      case round =>
        obtain ⟨m, hm, rfl, HR, BW, HX⟩ := hrel
        obtain ⟨x0, x1, x2, x3, -⟩ := box4 HX.out
        have hsw := BW.out.size
        by_cases hlt : m < its.length
        · have hm1 : (m : Int) < (its.length : Int) := by omega
          obtain ⟨g1, o1, k1, b1, t1, ja, jl, jc, rfl, q0, q1, q2, q3, hl⟩ := (LayJ.below HI.out BW.out).at m hlt
          have HL : Hid (LayX wr n (mkX k1 b1 t1 ja jl jc) its[m]) := hl
          have HOK : Hid (okX n its[m]) := HOS.out _ (by simp)
          obtain ⟨e1, e2⟩ := flatX_take (l := its.map (encX n)) (m := m) (e := encX n its[m]) (by simp [hlt])
          have E1 : Hid (((its.map (encX n)).take (m + 1)).flatten = ((its.map (encX n)).take m).flatten ++ encX n its[m]) := e1
          generalize hitem : its[m] = item at *
          clear hitem hl e1
          go_wp2_with fail
          refine (ih item _ wr HL.out HOK.out (by omega)).mono ?_
          rintro e w5 ⟨s5, rfl, h5, hb5⟩
          obtain ⟨a5, c5, rfl⟩ := h5.shape
          have O5 : Hid (Oct w5 a5 c5 (encX n item)) := h5.oct (by omega)
          have R5 : Hid (Bs w5 w.heap.size u3 (P ++ ((its.map (encX n)).take m).flatten)) := HR.out.below hb5
          have X5 : Hid (w5.heap[w.heap.size]? = some (.cells #[.int .i64 (kn : Int), .int .u64 b, .string t, .slice (some ⟨g1, o1, none⟩) its.length ic] 25 (0, 0))) := (hb5.block _ (lt_of_block HX.out)).trans HX.out
          have BW5 : Hid (Below w.heap.size w w5) := nxt BW.out hb5
          clear h5 hb5 x0 x1 x2 x3 q0 q1 q2 q3
          go_wp2_with (at_builtin; refine wpList_appO _ rfl _ _ rfl w.heap.size _ (P ++ ((its.map (encX n)).take m).flatten) (encX n item) rfl R5.out a5 c5 rfl O5.out ?d0 BW5.out.size ?_)
          case d0 => simp only [List.length_append]; omega
          intro s6 w6 h6 h7
          have R6 : Hid (Bs w6 w.heap.size s6 (P ++ ((its.map (encX n)).take (m + 1)).flatten)) := by
            show Bs _ _ _ _
            rw [E1.out]
            simpa using h6
          have X6 : Hid (w6.heap[w.heap.size]? = some (.cells #[.int .i64 (kn : Int), .int .u64 b, .string t, .slice (some ⟨g1, o1, none⟩) its.length ic] 25 (0, 0))) := (h7.block (lt_of_block X5.out) (R5.out.neX X5.out (by decide))).trans X5.out
          have B6 : Hid (Below w.heap.size w w6) := BW5.out.trans (h7.below BW5.out.size fun g hg => (R5.out.base g hg).1)
          clear h6 h7
          go_wp2_with fail
          go_roundw
          case rel => exact ⟨m + 1, by omega, by go_num, R6.out, B6.out, X6.out⟩
          case measure => simp [intOf]; omega
        · have hme : m = its.length := by omega
          subst hme
          go_wp2_with fail
          go_ret
          refine ⟨_, rfl, ?_, BW.out⟩
          have := HR.out
          rw [flatX_all (by simp)] at this
          simpa using this

set_option maxRecDepth 100000 in
set_option maxHeartbeats 1600000 in
theorem rencX_err {n : Nat} {v : X n} {x : Value} {w : World} (hl : LayX w n x v) {er : Int} (h : pre stM n v 1 (0, 0) = .error er) :
    Calls Try.prog 14 #[x] w fun e w' => e = .returned (.tuple #[.slice none 0 0, .int .i64 er]) ∧ Below w.heap.size w w' := by
  have hne : (er == 0) = false := by rcases preX_err n _ _ _ _ h with h | h | h <;> rw [h] <;> rfl
  obtain ⟨k, b, t, ia, il, ic, rfl⟩ := LayX.shape n hl
  have HC : Hid (Calls Try.prog 19 #[mkX k b t ia il ic] (w.alloc (.cells #[.int .i64 k, .int .u64 b, .string t, .slice ia il ic] 25)) fun e w' => e = .returned (.int .i64 er) ∧ Below (w.alloc (.cells #[.int .i64 k, .int .u64 b, .string t, .slice ia il ic] 25)).heap.size (w.alloc (.cells #[.int .i64 k, .int .u64 b, .string t, .slice ia il ic] 25)) w') := by
    have := rcheckX_any n v (mkX k b t ia il ic) (w.alloc (.cells #[.int .i64 k, .int .u64 b, .string t, .slice ia il ic] 25)) (LayX.below n hl (below_one _ _))
    rw [h] at this
    exact this
  clear hl h
  go_enter Try.func14, Try.ntmps14
  go_wp2_with fail
  refine HC.out.mono ?_
  rintro e w1 ⟨rfl, hb1⟩
  go_wp2_with fail
  go_ret2
  exact ⟨rfl, nxt (below_one _ _) hb1⟩

set_option maxRecDepth 100000 in
set_option maxHeartbeats 1600000 in
theorem rencX_ok {n : Nat} {v : X n} {x : Value} {w : World} (hl : LayX w n x v) {s : Nat × Int} (h : pre stM n v 1 (0, 0) = .ok s) (hlen : (encX n v).length ≤ 12800) :
    Calls Try.prog 14 #[x] w fun e w' => ∃ a c, e = .returned (.tuple #[.slice a (encX n v).length c, .int .i64 0]) ∧ Bs w' w.heap.size (.slice a (encX n v).length c) (encX n v) ∧ Below w.heap.size w w' := by
  obtain ⟨k, b, t, ia, il, ic, rfl⟩ := LayX.shape n hl
  have HL : Hid (LayX w n (mkX k b t ia il ic) v) := hl
  have HOK : Hid (okX n v) := okX_of n v _ _ _ h
  have HC : Hid (Calls Try.prog 19 #[mkX k b t ia il ic] (w.alloc (.cells #[.int .i64 k, .int .u64 b, .string t, .slice ia il ic] 25)) fun e w' => e = .returned (.int .i64 0) ∧ Below (w.alloc (.cells #[.int .i64 k, .int .u64 b, .string t, .slice ia il ic] 25)).heap.size (w.alloc (.cells #[.int .i64 k, .int .u64 b, .string t, .slice ia il ic] 25)) w') := by
    have := rcheckX_any n v (mkX k b t ia il ic) (w.alloc (.cells #[.int .i64 k, .int .u64 b, .string t, .slice ia il ic] 25)) (LayX.below n hl (below_one _ _))
    rw [h] at this
    exact this
  clear hl h
  go_enter Try.func14, Try.ntmps14
  go_wp2_with fail
  refine HC.out.mono ?_
  rintro e w1 ⟨rfl, hb1⟩
  have B1 : Hid (Below w.heap.size w w1) := nxt (below_one _ _) hb1
  obtain ⟨x0, x1, x2, x3, -⟩ := box4 ((hb1.block _ (by simp)).trans (heap_alloc_new w (.cells #[.int .i64 k, .int .u64 b, .string t, .slice ia il ic] 25)))
  clear hb1 HC
  go_wp2_with fail
  refine (roctX_any n v _ w1 (LayX.below n HL.out B1.out) HOK.out (by omega)).mono ?_
  rintro e w2 ⟨s2, rfl, h2, hb2⟩
  obtain ⟨a2, c2, rfl⟩ := h2.shape
  have H2 : Hid (Bs w2 w.heap.size (.slice a2 (encX n v).length c2) (encX n v)) := h2.up fun g hg => by have := (h2.base g hg).1; have := B1.out.size; omega
  clear h2
  go_wp2_with fail
  go_ret2
  exact ⟨a2, c2, rfl, H2.out, nxt B1.out hb2⟩
end Go.Proofs.Ytnliokikcpnllaa
