/-
  The page's Decode of a box.
-/
import Derived.Test.YtfdbhojghkdlkaaObREnc
import Derived.Test.YtfdbhojghkdlkaaJ18
import Derived.Test.YtfdbhojghkdlkaaJ20
namespace Go.Proofs.Ytfdbhojghkdlkaa
open Go.ChangeShapes Go.WideShapes Go.ChangeAt Go.RowKit
open Fl

theorem Oct.mid {w : World} {a : Option Addr} {c : Nat} {l : List UInt8} (h : Oct w a c l) (n k : Nat) (hn : n + k ≤ l.length) (hk : 0 < k) : Oct w (a.map fun x => x.add n) (c - n) ((l.drop n).take k) :=
  (h.tail n (by omega) (by have := h.2.1; omega)).head k


theorem Oct.at {w : World} {b off c : Nat} {l : List UInt8} (h : Oct w (some ⟨b, off, none⟩) c l) (n : Nat) (hn : n ≤ l.length) (hc : ¬ c = n) : Oct w (some ⟨b, off + n, none⟩) (c - n) (l.drop n) := by
  have := h.tail n hn hc
  rwa [Option.map, add_plain] at this

theorem set7_five {W : World} {g : Nat} {c0 c1 c2 c3 c4 c5 c6 : Value} {t : TypeId} (h : W.heap[g]? = some (.cells #[c0, c1, c2, c3, c4, c5, c6] t (0, 0))) (v2 v3 v4 v5 v6 : Value) :
    (((((W.setCell ⟨g, 2, none⟩ v2).setCell ⟨g, 3, none⟩ v3).setCell ⟨g, 4, none⟩ v4).setCell ⟨g, 5, none⟩ v5).setCell ⟨g, 6, none⟩ v6).heap[g]? = some (.cells #[c0, c1, v2, v3, v4, v5, v6] t (0, 0)) := by
  simp [World.setCell, Array.getElem?_modify, h]

theorem rdIt_tmQ {u : Tm 8} {l r : List UInt8} (h : rdIt nmQ l = .ok (u, r)) : TmOk u := by
  by_cases hs : l.length < 9 ∨ l.length < 9 + lenI l
  · rw [rdIt_short hs] at h; cases h
  by_cases ht : (takeR (l.drop (9 + lenI l))).1 = 0
  · obtain ⟨v, m, h1, h2, h3⟩ := rdIt_ok (f := nmQ) hs ht
    rw [h3] at h
    simp only [Except.ok.injEq, Prod.mk.injEq] at h
    obtain ⟨rfl, rfl⟩ := h
    refine ⟨?_, ?_⟩
    · show -9223372036854775808 ≤ nmQ _ ∧ nmQ _ ≤ 9223372036854775807
      have hb := numO_bound 8 (l.take 8) (by rw [List.length_take]; omega)
      unfold nmQ
      generalize numO (l.take 8) = y at *
      split <;> omega
    · show ((l.drop 9).take (lenI l)).length ≤ _
      have hlt : 8 < l.length := by omega
      have f4 : lenI l = l[8].toNat := by unfold lenI; simp [hlt]
      have := l[8].toNat_lt
      rw [List.length_take]
      omega
  · rw [rdIt_err hs ht] at h; cases h
theorem iter_tmQ : ∀ (m : Nat) (a b : List (Tm 8)) (l r : List UInt8), iterE (stIt nmQ) m (a, l) = .ok (b, r) → (∀ u ∈ a, TmOk u) → (∀ u ∈ b, TmOk u) ∧ b.length = a.length + m
  | 0, a, b, l, r, h, ha => by
    simp only [iterE, Except.ok.injEq, Prod.mk.injEq] at h
    obtain ⟨rfl, rfl⟩ := h
    exact ⟨ha, rfl⟩
  | m + 1, a, b, l, r, h, ha => by
    cases h1 : rdIt nmQ l with
    | error e => simp [iterE, stIt_err h1] at h
    | ok q =>
      obtain ⟨t, r1⟩ := q
      simp only [iterE, stIt_ok h1] at h
      obtain ⟨h2, h3⟩ := iter_tmQ m _ _ _ _ h (fun u hu => by
        rcases List.mem_append.1 hu with hu | hu
        · exact ha u hu
        · rw [List.mem_singleton.1 hu]; exact rdIt_tmQ h1)
      exact ⟨h2, by rw [h3]; simp; omega⟩

theorem takeR_le (l : List UInt8) : (takeR l).2.2 ≤ l.length := by
  unfold takeR
  split
  · exact Nat.zero_le _
  · split
    · exact Nat.zero_le _
    · exact Nat.sub_le _ _

set_option maxRecDepth 100000 in
set_option maxHeartbeats 25600000 in
theorem rbdecode_any (a : Option Addr) (c : Nat) (x : List UInt8) (w : World) (ho : Oct w a c x) :
    Calls Try.prog 9 #[.slice a x.length c] w (BoxPost w (decB nmQ x)) := by
  have HO : Hid (Oct w a c x) := ho
  have hc1 := ho.2.1
  have hc2 := ho.2.2.1
  have hc3 := ho.2.2.2.1
  clear ho
  have B0 : Hid (Below w.heap.size w (w.alloc (.cells #[.int .i64 0, .slice none 0 0] 24))) := below_one _ _
  have X0 : Hid ((w.alloc (.cells #[.int .i64 0, .slice none 0 0] 24)).heap[w.heap.size]? = some (.cells #[.int .i64 0, .slice none 0 0] 24 (0, 0))) := heap_alloc_new _ _
  obtain ⟨y0, yf0⟩ := cell_of X0.out 0
  obtain ⟨y1, yf1⟩ := cell_of X0.out 1
  simp only [List.getElem?_toArray, List.getElem?_cons_zero, List.getElem?_cons_succ] at y0 y1
  have ER : Hid (∀ (w' : World) (e : Int), Below w.heap.size w w' → (decB nmQ x).1 = e → e ≠ 0 → BoxPost w (decB nmQ x) (.returned (.tuple #[.agg #[.int .i64 0, .slice none 0 0], .int .i64 e])) w') := fun w' e hb h1 h2 => by
    have h3 := decB_err (f := nmQ) (x := x) (by rw [h1]; exact h2)
    have h4 : decB nmQ x = (e, 0, []) := Prod.ext h1 h3
    rw [h4]
    exact ⟨_, _, rfl, CopyInv.none _ hb⟩
  by_cases h10 : x.length < 10
  · have h10' : (x.length : Int) < 10 := by omega
    have HE : Hid ((decB nmQ x).1 = 8) := by show _ = _; unfold decB; rw [if_pos h10]
    go_enter Try.func9, Try.ntmps9
    go_wp2_with fail
    refine bodyPost_ret (v := .tuple #[.agg #[.int .i64 0, .slice none 0 0], .int .i64 8]) (by simp [results, Try.results9, go_sem, y0, y1]) rfl ?_
    exact ER.out _ 8 B0.out HE.out (by decide)
  · have h10' : ¬ (x.length : Int) < 10 := by omega
    have hx10 : (10 : Int) ≤ (x.length : Int) := by omega
    have hxc : (10 : Int) ≤ (c : Int) := by omega
    go_enter Try.func9, Try.ntmps9
    go_wp2_with fail
    have C1 : Hid (∀ W, Below w.heap.size w W → Calls Try.prog 22 #[.slice a 8 c] W fun e w' => e = .returned (.int .i64 (nmQ (x.take 8))) ∧ w' = W) := fun W hb => by
      have h1 : (x.take 8).length = 8 := by rw [List.length_take]; omega
      have := rnum_any a c (x.take 8) W ((HO.out.below hb).head 8).1 (by omega)
      rwa [h1] at this
    refine (C1.out _ B0.out).mono ?_
    rintro e w1 ⟨rfl, rfl⟩
    obtain ⟨L, HL⟩ : ∃ L, Hid (nmQ (x.take 8) = L) := ⟨_, rfl⟩
    rw [HL.out]
    clear C1 y0 y1 yf0 yf1
    have hsz0 : (w.alloc (.cells #[.int .i64 0, .slice none 0 0] 24)).heap.size = w.heap.size + 1 := by simp
    have T0 : Hid (((w.alloc (.cells #[.int .i64 0, .slice none 0 0] 24)).alloc (.cells #[.int .i64 L, .slice none 0 0] 24)).heap[w.heap.size + 1]? = some (.cells #[.int .i64 L, .slice none 0 0] 24 (0, 0))) := heap_new2 _ _ _
    have B1 : Hid (Below w.heap.size w ((w.alloc (.cells #[.int .i64 0, .slice none 0 0] 24)).alloc (.cells #[.int .i64 L, .slice none 0 0] 24))) := below_two _ _ _
    have B01 : Hid (Below (w.alloc (.cells #[.int .i64 0, .slice none 0 0] 24)).heap.size (w.alloc (.cells #[.int .i64 0, .slice none 0 0] 24)) ((w.alloc (.cells #[.int .i64 0, .slice none 0 0] 24)).alloc (.cells #[.int .i64 L, .slice none 0 0] 24))) := below_one _ _
    have hc8 : ¬ c = 8 := by omega
    go_wp2_with fail
    have C2 : Hid (∀ W, Below w.heap.size w W → Calls Try.prog 23 #[.slice (a.map fun x => x.add 8) 2 (c - 8)] W fun e w' => e = .returned (.int .u64 (numO ((x.drop 8).take 2))) ∧ w' = W) := fun W hb => by
      have h1 : ((x.drop 8).take 2).length = 2 := by rw [List.length_take, List.length_drop]; omega
      have := rnumber_any (a.map fun x => x.add 8) (c - 8) ((x.drop 8).take 2) W ((HO.out.below hb).mid 8 2 (by omega) (by omega)).1 (by omega)
      rwa [h1] at this
    refine (C2.out _ B1.out).mono ?_
    rintro e w2 ⟨rfl, rfl⟩
    have HB2 := numO_bound 2 ((x.drop 8).take 2) (by rw [List.length_take, List.length_drop]; omega)
    obtain ⟨n, hn, HN⟩ : ∃ n : Nat, n < 65536 ∧ Hid (numO ((x.drop 8).take 2) = n ∧ cntB x = n) := ⟨(numO ((x.drop 8).take 2)).toNat, by omega, by omega, rfl⟩
    rw [HN.out.1]
    clear HB2 C2
    have wn : IntKind.i64.wrap (n : Int) = (n : Int) := by rw [IntKind.wrap_i64]; omega
    generalize (w.alloc (.cells #[.int .i64 0, .slice none 0 0] 24)).alloc (.cells #[.int .i64 L, .slice none 0 0] 24) = W2 at *
    generalize w.alloc (.cells #[.int .i64 0, .slice none 0 0] 24) = W1 at *
    have X2 : Hid (W2.heap[w.heap.size]? = some (.cells #[.int .i64 0, .slice none 0 0] 24 (0, 0))) := (B01.out.block _ (by omega)).trans X0.out
    obtain ⟨y0, yf0⟩ := cell_of X2.out 0
    obtain ⟨y1, yf1⟩ := cell_of X2.out 1
    simp only [List.getElem?_toArray, List.getElem?_cons_zero, List.getElem?_cons_succ] at y0 y1
    by_cases h256 : 256 < n
    · have h256' : (256 : Int) < (n : Int) := by omega
      have HE : Hid ((decB nmQ x).1 = 3) := by show _ = _; unfold decB; rw [if_neg h10, if_pos (by rw [HN.out.2]; exact h256)]
      go_wp2_with fail
      refine bodyPost_ret (v := .tuple #[.agg #[.int .i64 0, .slice none 0 0], .int .i64 3]) (by simp [results, Try.results9, go_sem, y0, y1]) rfl ?_
      exact ER.out _ 3 ((B1.out.setCell (p := ⟨w.heap.size, 0, none⟩) (Nat.le_refl _) _).setCell (p := ⟨w.heap.size, 1, none⟩) (Nat.le_refl _) _) HE.out (by decide)
    · have h256' : ¬ (256 : Int) < (n : Int) := by omega
      clear y0 y1 yf0 yf1
      have hW1 : W1.heap.size = w.heap.size + 1 := hsz0
      go_wp2_with fail
      go_loopw [6, 7] (fun v6 v7 wr => ∃ (m pos : Nat) (v : Value) (H : Nat → Prop) (its : List (Tm 8)), m ≤ n ∧ pos ≤ x.length ∧ v7 = .int .i64 m ∧ v6 = .int .i64 pos ∧ Hid (PgI W1 wr (w.heap.size + 1) L v its H) ∧ Hid (iterE (stIt nmQ) m ([], x.drop 10) = .ok (its, x.drop pos) ∧ its.length = m)) (fun _ i _ => n - (intOf i).toNat)
      case atStart => exact ⟨0, 10, _, _, [], Nat.zero_le _, by omega, rfl, rfl, ⟨OwnR.nil _ _, fun _ h => h.elim, B01.out, by omega, T0.out⟩, rfl, rfl⟩
      case round =>
        obtain ⟨m, pos, v, H, its, hm, hpos, rfl, rfl, HI, HIT⟩ := hrel
        obtain ⟨va, vc, rfl⟩ := HI.out.1.shape
        have HBW : Hid (Below w.heap.size w wr) := nxt B0.out HI.out.2.2.1
        have HX : Hid (wr.heap[w.heap.size]? = some (.cells #[.int .i64 0, .slice none 0 0] 24 (0, 0))) := (HI.out.2.2.1.block _ (by omega)).trans X0.out
        obtain ⟨t0, tf0⟩ := cell_of HI.out.2.2.2.2 0
        obtain ⟨t1, tf1⟩ := cell_of HI.out.2.2.2.2 1
        obtain ⟨y0, yf0⟩ := cell_of HX.out 0
        obtain ⟨y1, yf1⟩ := cell_of HX.out 1
        simp only [List.getElem?_toArray, List.getElem?_cons_zero, List.getElem?_cons_succ] at t0 t1 y0 y1
        have BADE : Hid (∀ e, rdIt nmQ (x.drop pos) = .error e → m < n → (decB nmQ x).1 = e) := fun e h1 h2 => by
          unfold decB
          rw [if_neg h10, if_neg (by rw [HN.out.2]; exact h256), HN.out.2, iterE_bad HIT.out.1 (stIt_err h1) h2]
        have B2S : Hid (∀ v0 v1, Below w.heap.size w ((wr.setCell ⟨w.heap.size, 0, none⟩ v0).setCell ⟨w.heap.size, 1, none⟩ v1)) := fun v0 v1 => (HBW.out.setCell (p := ⟨w.heap.size, 0, none⟩) (Nat.le_refl _) _).setCell (p := ⟨w.heap.size, 1, none⟩) (Nat.le_refl _) _
        by_cases hlt : m < n
        · have hm1 : (m : Int) < (n : Int) := by omega
          have hdl : (x.drop pos).length = x.length - pos := List.length_drop
          by_cases hs9 : x.length - pos < 9
          · have hs9' : (x.length : Int) - (pos : Int) < 9 := by omega
            have HE : Hid ((decB nmQ x).1 = 8) := BADE.out 8 (rdIt_short (by omega)) hlt
            go_wp2_with fail
            refine bodyPost_ret (v := .tuple #[.agg #[.int .i64 0, .slice none 0 0], .int .i64 8]) (by simp [results, Try.results9, go_sem, y0, y1]) rfl ?_
            exact ER.out _ 8 (B2S.out _ _) HE.out (by decide)
          · have hs9' : ¬ (x.length : Int) - (pos : Int) < 9 := by omega
            have hlt8 : pos + 8 < x.length := by omega
            obtain ⟨o, HOO⟩ : ∃ o, Hid (x[pos + 8]? = some o) := ⟨x[pos + 8], by show _ = _; simp [hlt8]⟩
            obtain ⟨b, off, rfl, q0⟩ := (HO.out.below HBW.out).1 (pos + 8) o HOO.out
            have HLI : Hid (lenI (x.drop pos) = o.toNat) := by show _ = _; unfold lenI; rw [List.getElem?_drop, HOO.out]
            have ho256 := o.toNat_lt
            obtain ⟨k, hko⟩ : ∃ k, o.toNat = k := ⟨_, rfl⟩
            rw [hko] at q0 HLI ho256
            clear hko
            by_cases hsk : x.length - pos < 9 + k
            · have hsk' : (x.length : Int) - (pos : Int) < 9 + (k : Int) := by omega
              have HE : Hid ((decB nmQ x).1 = 8) := BADE.out 8 (rdIt_short (by rw [HLI.out]; omega)) hlt
              go_wp2_with fail
              refine bodyPost_ret (v := .tuple #[.agg #[.int .i64 0, .slice none 0 0], .int .i64 8]) (by simp [results, Try.results9, go_sem, y0, y1]) rfl ?_
              exact ER.out _ 8 (B2S.out _ _) HE.out (by decide)
            · have hsk' : ¬ (x.length : Int) - (pos : Int) < 9 + (k : Int) := by omega
              have hcp : ¬ c = pos := by omega
              have HOB : Hid (∀ W, Below w.heap.size w W → Oct W (some ⟨b, off, none⟩) c x) := fun W hb => HO.out.below hb
              have C1 : Hid (∀ W, Below w.heap.size w W → Calls Try.prog 22 #[.slice (some ⟨b, off + pos, none⟩) 8 (c - pos)] W fun e w' => e = .returned (.int .i64 (nmQ ((x.drop pos).take 8))) ∧ w' = W) := fun W hb => by
                have h1 : ((x.drop pos).take 8).length = 8 := by rw [List.length_take, List.length_drop]; omega
                have h2 := ((HOB.out W hb).at pos (by omega) hcp).head 8
                have := rnum_any (some ⟨b, off + pos, none⟩) (c - pos) ((x.drop pos).take 8) W h2.1 (by omega)
                rwa [h1] at this
              have HSH : Hid (¬ ((x.drop pos).length < 9 ∨ (x.drop pos).length < 9 + lenI (x.drop pos))) := by show ¬ _; rw [HLI.out, List.length_drop]; omega
              clear hdl hs9
              go_wp2_with fail
              refine (C1.out _ HBW.out).mono ?_
              rintro e w3 ⟨rfl, rfl⟩
              obtain ⟨id, HID⟩ : ∃ id, Hid (nmQ ((x.drop pos).take 8) = id) := ⟨_, rfl⟩
              rw [HID.out]
              clear C1
              have Z4 : Hid ((w3.alloc (.cells #[.int .i64 id, .string ⟨#[]⟩, .int .i64 0, .int .u64 0, .string ⟨#[]⟩, .slice none 0 0, .slice none 0 0] 54)).heap[w3.heap.size]? = some (.cells #[.int .i64 id, .string ⟨#[]⟩, .int .i64 0, .int .u64 0, .string ⟨#[]⟩, .slice none 0 0, .slice none 0 0] 54 (0, 0))) := heap_alloc_new _ _
              have B4 : Hid (Below w3.heap.size w3 (w3.alloc (.cells #[.int .i64 id, .string ⟨#[]⟩, .int .i64 0, .int .u64 0, .string ⟨#[]⟩, .slice none 0 0, .slice none 0 0] 54))) := below_one _ _
              have q0a := keepc B4.out _ _ q0
              have hw34 : (w3.alloc (.cells #[.int .i64 id, .string ⟨#[]⟩, .int .i64 0, .int .u64 0, .string ⟨#[]⟩, .slice none 0 0, .slice none 0 0] 54)).heap.size = w3.heap.size + 1 := by simp
              obtain ⟨z0, z1, z2, z3, z4, z5, z6⟩ := seven_cells' Z4.out
              have g1 := (cell_of Z4.out 1).2
              by_cases hA : c = pos + 9
              · have hk0 : k = 0 := by omega
                subst hk0
                have hAt : (c = pos + 9) = True := eq_true hA
                have HAA : Hid (c = pos + 9) := hA
                clear hA
                have HNM : Hid (LayB (w3.alloc (.cells #[.int .i64 id, .string ⟨#[]⟩, .int .i64 0, .int .u64 0, .string ⟨#[]⟩, .slice none 0 0, .slice none 0 0] 54)) (some ⟨b, off, none⟩) ((x.drop (pos + 9)).take 0)) := (((HOB.out _ (nxt HBW.out B4.out)).end (pos + 9) HAA.out).head 0).1
                have hnl : ((x.drop (pos + 9)).take 0).length = 0 := by rw [List.length_take, List.length_drop]; omega
                obtain ⟨nm, HNE⟩ : ∃ nm, Hid ((x.drop (pos + 9)).take 0 = nm) := ⟨_, rfl⟩
                rw [HNE.out] at HNM hnl
                have hconv : Sem.run Try.prog (convert 25 9 (.slice (some ⟨b, off, none⟩) 0 0)) (w3.alloc (.cells #[.int .i64 id, .string ⟨#[]⟩, .int .i64 0, .int .u64 0, .string ⟨#[]⟩, .slice none 0 0, .slice none 0 0] 54)) = .ok (.string ⟨nm.toArray⟩) (w3.alloc (.cells #[.int .i64 id, .string ⟨#[]⟩, .int .i64 0, .int .u64 0, .string ⟨#[]⟩, .slice none 0 0, .slice none 0 0] 54)) := by
                  have h := run_str (c := 0) HNM.out
                  rwa [hnl] at h
                go_wp2_with fail
                have B5 : Hid (Below w3.heap.size w3 (w3.alloc (.cells #[.int .i64 id, .string ⟨nm.toArray⟩, .int .i64 0, .int .u64 0, .string ⟨#[]⟩, .slice none 0 0, .slice none 0 0] 54))) := below_one _ _
                have Z5 : Hid ((w3.alloc (.cells #[.int .i64 id, .string ⟨nm.toArray⟩, .int .i64 0, .int .u64 0, .string ⟨#[]⟩, .slice none 0 0, .slice none 0 0] 54)).heap[w3.heap.size]? = some (.cells #[.int .i64 id, .string ⟨nm.toArray⟩, .int .i64 0, .int .u64 0, .string ⟨#[]⟩, .slice none 0 0, .slice none 0 0] 54 (0, 0))) := heap_alloc_new _ _
                generalize w3.alloc (.cells #[.int .i64 id, .string ⟨nm.toArray⟩, .int .i64 0, .int .u64 0, .string ⟨#[]⟩, .slice none 0 0, .slice none 0 0] 54) = w5 at *
                clear z0 z1 z2 z3 z4 z5 z6 g1 Z4 B4 HNM q0a hw34 hconv
                have HT5 : Hid (Calls Try.prog 24 #[.slice (some ⟨b, off, none⟩) (x.length - (pos + 9)) 0] w5 fun e w' => ∃ y F, e = .returned (.tuple #[y, .int .i64 ((takeR (x.drop (pos + 9))).2.2 : Int), .int .i64 (takeR (x.drop (pos + 9))).1]) ∧ Own w' (takeR (x.drop (pos + 9))).2.1.1 y (takeR (x.drop (pos + 9))).2.1.2 F ∧ (∀ b, F b → w5.heap.size ≤ b ∧ b < w'.heap.size) ∧ Below w5.heap.size w5 w') := by
                  have h1 := (HOB.out _ (nxt HBW.out B5.out)).end (pos + 9) HAA.out
                  have := rtk_any _ _ _ _ h1
                  rwa [List.length_drop] at this
                have hnn : (takeR (x.drop (pos + 9))).2.2 ≤ x.length - (pos + 9) := by
                  have h1 := takeR_le (x.drop (pos + 9))
                  rwa [List.length_drop] at h1
                obtain ⟨R, HR⟩ : ∃ R, Hid (takeR (x.drop (pos + 9)) = R) := ⟨_, rfl⟩
                rw [HR.out] at HT5 hnn
                obtain ⟨er, ⟨mm, u⟩, nn⟩ := R
                simp only at HT5 hnn
                refine HT5.out.mono ?_
                rintro e w6 ⟨y, F, rfl, hO, hF, hb6⟩
                obtain ⟨k5, b5, t5, ka5, kl5, kc5, ia5, il5, ic5, rfl⟩ := Lay.shape mm (Own.lay mm hO)
                have HO6 : Hid (Own w6 mm (mk k5 b5 t5 ka5 kl5 kc5 ia5 il5 ic5) u F) := hO
                have HF6 : Hid (∀ b, F b → w5.heap.size ≤ b ∧ b < w6.heap.size) := hF
                have B6 : Hid (Below w5.heap.size w5 w6) := hb6
                have B36 : Hid (Below w3.heap.size w3 w6) := nxt B5.out hb6
                have Z6 : Hid (w6.heap[w3.heap.size]? = some (.cells #[.int .i64 id, .string ⟨nm.toArray⟩, .int .i64 0, .int .u64 0, .string ⟨#[]⟩, .slice none 0 0, .slice none 0 0] 54 (0, 0))) := (hb6.block _ (lt_of_block Z5.out)).trans Z5.out
                have hz6 : w3.heap.size < w6.heap.size := lt_of_block Z6.out
                clear hO hF hb6 HT5 t0 t1 tf0 tf1 y0 y1 yf0 yf1 q0
                have HDR : Hid ((x.drop pos).drop (9 + lenI (x.drop pos)) = x.drop (pos + 9)) := by show _ = _; rw [HLI.out, List.drop_drop]
                have B7 : Hid (Below w6.heap.size w6 (w6.alloc (.cells #[.int .i64 k5, .int .u64 b5, .string t5, .slice ka5 kl5 kc5, .slice ia5 il5 ic5] 50))) := below_one _ _
                have B37 : Hid (Below w3.heap.size w3 (w6.alloc (.cells #[.int .i64 k5, .int .u64 b5, .string t5, .slice ka5 kl5 kc5, .slice ia5 il5 ic5] 50))) := nxt B36.out B7.out
                have X7 : Hid ((w6.alloc (.cells #[.int .i64 k5, .int .u64 b5, .string t5, .slice ka5 kl5 kc5, .slice ia5 il5 ic5] 50)).heap[w.heap.size]? = some (.cells #[.int .i64 0, .slice none 0 0] 24 (0, 0))) := (B37.out.block _ (lt_of_block HX.out)).trans HX.out
                by_cases he : er = 0
                · exfalso
                  have h0 : x.drop (pos + 9) = [] := List.drop_eq_nil_of_le (by have := HAA.out; omega)
                  have h1 := HR.out
                  rw [h0] at h1
                  have h2 : (8 : Int) = er := congrArg Prod.fst h1
                  omega
                · have HE : Hid ((decB nmQ x).1 = er) := by
                    have h1 := rdIt_err (f := nmQ) HSH.out (by rw [HDR.out, HR.out]; exact he)
                    rw [HDR.out, HR.out] at h1
                    exact BADE.out er h1 hlt
                  have HE0 : Hid (er ≠ 0) := he
                  have hd1 : (er == 0) = false := by simpa using he
                  have hd2 : (er != 0) = true := by simpa using he
                  have B2T : Hid (∀ v0 v1, Below w.heap.size w (((w6.alloc (.cells #[.int .i64 k5, .int .u64 b5, .string t5, .slice ka5 kl5 kc5, .slice ia5 il5 ic5] 50)).setCell ⟨w.heap.size, 0, none⟩ v0).setCell ⟨w.heap.size, 1, none⟩ v1)) := fun v0 v1 => ((nxt HBW.out B37.out).setCell (p := ⟨w.heap.size, 0, none⟩) (Nat.le_refl _) _).setCell (p := ⟨w.heap.size, 1, none⟩) (Nat.le_refl _) _
                  obtain ⟨y0, yf0⟩ := cell_of X7.out 0
                  obtain ⟨y1, yf1⟩ := cell_of X7.out 1
                  simp only [List.getElem?_toArray, List.getElem?_cons_zero, List.getElem?_cons_succ] at y0 y1
                  clear he
                  go_wp2_with fail
                  refine bodyPost_ret (v := .tuple #[.agg #[.int .i64 0, .slice none 0 0], .int .i64 er]) (by simp [results, Try.results9, go_sem, y0, y1]) rfl ?_
                  exact ER.out _ er (B2T.out _ _) HE.out HE0.out
              · by_cases hB : c = pos + 9 + k
                · have hBt : (c = pos + 9 + k) = True := eq_true hB
                  have HBB : Hid (c = pos + 9 + k) := hB
                  clear hB
                  have HNM : Hid (LayB (w3.alloc (.cells #[.int .i64 id, .string ⟨#[]⟩, .int .i64 0, .int .u64 0, .string ⟨#[]⟩, .slice none 0 0, .slice none 0 0] 54)) (some ⟨b, off + (pos + 9), none⟩) ((x.drop (pos + 9)).take k)) := (((HOB.out _ (nxt HBW.out B4.out)).at (pos + 9) (by omega) hA).head k).1
                  have hnl : ((x.drop (pos + 9)).take k).length = k := by rw [List.length_take, List.length_drop]; omega
                  obtain ⟨nm, HNE⟩ : ∃ nm, Hid ((x.drop (pos + 9)).take k = nm) := ⟨_, rfl⟩
                  rw [HNE.out] at HNM hnl
                  have hconv : Sem.run Try.prog (convert 25 9 (.slice (some ⟨b, off + (pos + 9), none⟩) k (c - (pos + 9)))) (w3.alloc (.cells #[.int .i64 id, .string ⟨#[]⟩, .int .i64 0, .int .u64 0, .string ⟨#[]⟩, .slice none 0 0, .slice none 0 0] 54)) = .ok (.string ⟨nm.toArray⟩) (w3.alloc (.cells #[.int .i64 id, .string ⟨#[]⟩, .int .i64 0, .int .u64 0, .string ⟨#[]⟩, .slice none 0 0, .slice none 0 0] 54)) := by
                    have h := run_str (c := c - (pos + 9)) HNM.out
                    rwa [hnl] at h
                  go_wp2_with fail
                  have B5 : Hid (Below w3.heap.size w3 (w3.alloc (.cells #[.int .i64 id, .string ⟨nm.toArray⟩, .int .i64 0, .int .u64 0, .string ⟨#[]⟩, .slice none 0 0, .slice none 0 0] 54))) := below_one _ _
                  have Z5 : Hid ((w3.alloc (.cells #[.int .i64 id, .string ⟨nm.toArray⟩, .int .i64 0, .int .u64 0, .string ⟨#[]⟩, .slice none 0 0, .slice none 0 0] 54)).heap[w3.heap.size]? = some (.cells #[.int .i64 id, .string ⟨nm.toArray⟩, .int .i64 0, .int .u64 0, .string ⟨#[]⟩, .slice none 0 0, .slice none 0 0] 54 (0, 0))) := heap_alloc_new _ _
                  generalize w3.alloc (.cells #[.int .i64 id, .string ⟨nm.toArray⟩, .int .i64 0, .int .u64 0, .string ⟨#[]⟩, .slice none 0 0, .slice none 0 0] 54) = w5 at *
                  clear z0 z1 z2 z3 z4 z5 z6 g1 Z4 B4 HNM q0a hw34 hconv
                  have HT5 : Hid (Calls Try.prog 24 #[.slice (some ⟨b, off, none⟩) (x.length - (pos + 9 + k)) 0] w5 fun e w' => ∃ y F, e = .returned (.tuple #[y, .int .i64 ((takeR (x.drop (pos + 9 + k))).2.2 : Int), .int .i64 (takeR (x.drop (pos + 9 + k))).1]) ∧ Own w' (takeR (x.drop (pos + 9 + k))).2.1.1 y (takeR (x.drop (pos + 9 + k))).2.1.2 F ∧ (∀ b, F b → w5.heap.size ≤ b ∧ b < w'.heap.size) ∧ Below w5.heap.size w5 w') := by
                    have h1 := (HOB.out _ (nxt HBW.out B5.out)).end (pos + 9 + k) HBB.out
                    have := rtk_any _ _ _ _ h1
                    rwa [List.length_drop] at this
                  have hnn : (takeR (x.drop (pos + 9 + k))).2.2 ≤ x.length - (pos + 9 + k) := by
                    have h1 := takeR_le (x.drop (pos + 9 + k))
                    rwa [List.length_drop] at h1
                  obtain ⟨R, HR⟩ : ∃ R, Hid (takeR (x.drop (pos + 9 + k)) = R) := ⟨_, rfl⟩
                  rw [HR.out] at HT5 hnn
                  obtain ⟨er, ⟨mm, u⟩, nn⟩ := R
                  simp only at HT5 hnn
                  refine HT5.out.mono ?_
                  rintro e w6 ⟨y, F, rfl, hO, hF, hb6⟩
                  obtain ⟨k5, b5, t5, ka5, kl5, kc5, ia5, il5, ic5, rfl⟩ := Lay.shape mm (Own.lay mm hO)
                  have HO6 : Hid (Own w6 mm (mk k5 b5 t5 ka5 kl5 kc5 ia5 il5 ic5) u F) := hO
                  have HF6 : Hid (∀ b, F b → w5.heap.size ≤ b ∧ b < w6.heap.size) := hF
                  have B6 : Hid (Below w5.heap.size w5 w6) := hb6
                  have B36 : Hid (Below w3.heap.size w3 w6) := nxt B5.out hb6
                  have Z6 : Hid (w6.heap[w3.heap.size]? = some (.cells #[.int .i64 id, .string ⟨nm.toArray⟩, .int .i64 0, .int .u64 0, .string ⟨#[]⟩, .slice none 0 0, .slice none 0 0] 54 (0, 0))) := (hb6.block _ (lt_of_block Z5.out)).trans Z5.out
                  have hz6 : w3.heap.size < w6.heap.size := lt_of_block Z6.out
                  clear hO hF hb6 HT5 t0 t1 tf0 tf1 y0 y1 yf0 yf1 q0
                  have HDR : Hid ((x.drop pos).drop (9 + lenI (x.drop pos)) = x.drop (pos + 9 + k)) := by show _ = _; rw [HLI.out, List.drop_drop, Nat.add_assoc]
                  have B7 : Hid (Below w6.heap.size w6 (w6.alloc (.cells #[.int .i64 k5, .int .u64 b5, .string t5, .slice ka5 kl5 kc5, .slice ia5 il5 ic5] 50))) := below_one _ _
                  have B37 : Hid (Below w3.heap.size w3 (w6.alloc (.cells #[.int .i64 k5, .int .u64 b5, .string t5, .slice ka5 kl5 kc5, .slice ia5 il5 ic5] 50))) := nxt B36.out B7.out
                  have X7 : Hid ((w6.alloc (.cells #[.int .i64 k5, .int .u64 b5, .string t5, .slice ka5 kl5 kc5, .slice ia5 il5 ic5] 50)).heap[w.heap.size]? = some (.cells #[.int .i64 0, .slice none 0 0] 24 (0, 0))) := (B37.out.block _ (lt_of_block HX.out)).trans HX.out
                  by_cases he : er = 0
                  · exfalso
                    have h0 : x.drop (pos + 9 + k) = [] := List.drop_eq_nil_of_le (by have := HBB.out; omega)
                    have h1 := HR.out
                    rw [h0] at h1
                    have h2 : (8 : Int) = er := congrArg Prod.fst h1
                    omega
                  · have HE : Hid ((decB nmQ x).1 = er) := by
                      have h1 := rdIt_err (f := nmQ) HSH.out (by rw [HDR.out, HR.out]; exact he)
                      rw [HDR.out, HR.out] at h1
                      exact BADE.out er h1 hlt
                    have HE0 : Hid (er ≠ 0) := he
                    have hd1 : (er == 0) = false := by simpa using he
                    have hd2 : (er != 0) = true := by simpa using he
                    have B2T : Hid (∀ v0 v1, Below w.heap.size w (((w6.alloc (.cells #[.int .i64 k5, .int .u64 b5, .string t5, .slice ka5 kl5 kc5, .slice ia5 il5 ic5] 50)).setCell ⟨w.heap.size, 0, none⟩ v0).setCell ⟨w.heap.size, 1, none⟩ v1)) := fun v0 v1 => ((nxt HBW.out B37.out).setCell (p := ⟨w.heap.size, 0, none⟩) (Nat.le_refl _) _).setCell (p := ⟨w.heap.size, 1, none⟩) (Nat.le_refl _) _
                    obtain ⟨y0, yf0⟩ := cell_of X7.out 0
                    obtain ⟨y1, yf1⟩ := cell_of X7.out 1
                    simp only [List.getElem?_toArray, List.getElem?_cons_zero, List.getElem?_cons_succ] at y0 y1
                    clear he
                    go_wp2_with fail
                    refine bodyPost_ret (v := .tuple #[.agg #[.int .i64 0, .slice none 0 0], .int .i64 er]) (by simp [results, Try.results9, go_sem, y0, y1]) rfl ?_
                    exact ER.out _ er (B2T.out _ _) HE.out HE0.out
                · have HNM : Hid (LayB (w3.alloc (.cells #[.int .i64 id, .string ⟨#[]⟩, .int .i64 0, .int .u64 0, .string ⟨#[]⟩, .slice none 0 0, .slice none 0 0] 54)) (some ⟨b, off + (pos + 9), none⟩) ((x.drop (pos + 9)).take k)) := (((HOB.out _ (nxt HBW.out B4.out)).at (pos + 9) (by omega) hA).head k).1
                  have hnl : ((x.drop (pos + 9)).take k).length = k := by rw [List.length_take, List.length_drop]; omega
                  obtain ⟨nm, HNE⟩ : ∃ nm, Hid ((x.drop (pos + 9)).take k = nm) := ⟨_, rfl⟩
                  rw [HNE.out] at HNM hnl
                  have hconv : Sem.run Try.prog (convert 25 9 (.slice (some ⟨b, off + (pos + 9), none⟩) k (c - (pos + 9)))) (w3.alloc (.cells #[.int .i64 id, .string ⟨#[]⟩, .int .i64 0, .int .u64 0, .string ⟨#[]⟩, .slice none 0 0, .slice none 0 0] 54)) = .ok (.string ⟨nm.toArray⟩) (w3.alloc (.cells #[.int .i64 id, .string ⟨#[]⟩, .int .i64 0, .int .u64 0, .string ⟨#[]⟩, .slice none 0 0, .slice none 0 0] 54)) := by
                    have h := run_str (c := c - (pos + 9)) HNM.out
                    rwa [hnl] at h
                  go_wp2_with fail
                  have B5 : Hid (Below w3.heap.size w3 (w3.alloc (.cells #[.int .i64 id, .string ⟨nm.toArray⟩, .int .i64 0, .int .u64 0, .string ⟨#[]⟩, .slice none 0 0, .slice none 0 0] 54))) := below_one _ _
                  have Z5 : Hid ((w3.alloc (.cells #[.int .i64 id, .string ⟨nm.toArray⟩, .int .i64 0, .int .u64 0, .string ⟨#[]⟩, .slice none 0 0, .slice none 0 0] 54)).heap[w3.heap.size]? = some (.cells #[.int .i64 id, .string ⟨nm.toArray⟩, .int .i64 0, .int .u64 0, .string ⟨#[]⟩, .slice none 0 0, .slice none 0 0] 54 (0, 0))) := heap_alloc_new _ _
                  generalize w3.alloc (.cells #[.int .i64 id, .string ⟨nm.toArray⟩, .int .i64 0, .int .u64 0, .string ⟨#[]⟩, .slice none 0 0, .slice none 0 0] 54) = w5 at *
                  clear z0 z1 z2 z3 z4 z5 z6 g1 Z4 B4 HNM q0a hw34 hconv
                  have HT5 : Hid (Calls Try.prog 24 #[.slice (some ⟨b, off + (pos + 9 + k), none⟩) (x.length - (pos + 9 + k)) (c - (pos + 9 + k))] w5 fun e w' => ∃ y F, e = .returned (.tuple #[y, .int .i64 ((takeR (x.drop (pos + 9 + k))).2.2 : Int), .int .i64 (takeR (x.drop (pos + 9 + k))).1]) ∧ Own w' (takeR (x.drop (pos + 9 + k))).2.1.1 y (takeR (x.drop (pos + 9 + k))).2.1.2 F ∧ (∀ b, F b → w5.heap.size ≤ b ∧ b < w'.heap.size) ∧ Below w5.heap.size w5 w') := by
                    have h1 := (HOB.out _ (nxt HBW.out B5.out)).at (pos + 9 + k) (by omega) hB
                    have := rtk_any _ _ _ _ h1
                    rwa [List.length_drop] at this
                  have hnn : (takeR (x.drop (pos + 9 + k))).2.2 ≤ x.length - (pos + 9 + k) := by
                    have h1 := takeR_le (x.drop (pos + 9 + k))
                    rwa [List.length_drop] at h1
                  obtain ⟨R, HR⟩ : ∃ R, Hid (takeR (x.drop (pos + 9 + k)) = R) := ⟨_, rfl⟩
                  rw [HR.out] at HT5 hnn
                  obtain ⟨er, ⟨mm, u⟩, nn⟩ := R
                  simp only at HT5 hnn
                  refine HT5.out.mono ?_
                  rintro e w6 ⟨y, F, rfl, hO, hF, hb6⟩
                  obtain ⟨k5, b5, t5, ka5, kl5, kc5, ia5, il5, ic5, rfl⟩ := Lay.shape mm (Own.lay mm hO)
                  have HO6 : Hid (Own w6 mm (mk k5 b5 t5 ka5 kl5 kc5 ia5 il5 ic5) u F) := hO
                  have HF6 : Hid (∀ b, F b → w5.heap.size ≤ b ∧ b < w6.heap.size) := hF
                  have B6 : Hid (Below w5.heap.size w5 w6) := hb6
                  have B36 : Hid (Below w3.heap.size w3 w6) := nxt B5.out hb6
                  have Z6 : Hid (w6.heap[w3.heap.size]? = some (.cells #[.int .i64 id, .string ⟨nm.toArray⟩, .int .i64 0, .int .u64 0, .string ⟨#[]⟩, .slice none 0 0, .slice none 0 0] 54 (0, 0))) := (hb6.block _ (lt_of_block Z5.out)).trans Z5.out
                  have hz6 : w3.heap.size < w6.heap.size := lt_of_block Z6.out
                  clear hO hF hb6 HT5 t0 t1 tf0 tf1 y0 y1 yf0 yf1 q0
                  have HDR : Hid ((x.drop pos).drop (9 + lenI (x.drop pos)) = x.drop (pos + 9 + k)) := by show _ = _; rw [HLI.out, List.drop_drop, Nat.add_assoc]
                  have B7 : Hid (Below w6.heap.size w6 (w6.alloc (.cells #[.int .i64 k5, .int .u64 b5, .string t5, .slice ka5 kl5 kc5, .slice ia5 il5 ic5] 50))) := below_one _ _
                  have B37 : Hid (Below w3.heap.size w3 (w6.alloc (.cells #[.int .i64 k5, .int .u64 b5, .string t5, .slice ka5 kl5 kc5, .slice ia5 il5 ic5] 50))) := nxt B36.out B7.out
                  have X7 : Hid ((w6.alloc (.cells #[.int .i64 k5, .int .u64 b5, .string t5, .slice ka5 kl5 kc5, .slice ia5 il5 ic5] 50)).heap[w.heap.size]? = some (.cells #[.int .i64 0, .slice none 0 0] 24 (0, 0))) := (B37.out.block _ (lt_of_block HX.out)).trans HX.out
                  by_cases he : er = 0
                  · subst he
                    obtain ⟨v8, m8, r1, r2, r3⟩ := rdIt_ok (f := nmQ) HSH.out (by rw [HDR.out, HR.out])
                    rw [HDR.out, HR.out] at r1
                    simp only [Prod.mk.injEq, true_and, Sigma.mk.injEq] at r1
                    obtain ⟨⟨rfl, r1⟩, rfl⟩ := r1
                    obtain rfl := eq_of_heq r1
                    have HNX : Hid (rdIt nmQ (x.drop pos) = .ok ((id, ⟨nm.toArray⟩, u), x.drop (pos + 9 + k + nn))) := by
                      show _ = _
                      rw [r3, HDR.out, HLI.out, HID.out, List.drop_drop, List.drop_drop, HNE.out]
                    clear r1 r2 r3
                    have T6 : Hid (w6.heap[w.heap.size + 1]? = some (.cells #[.int .i64 L, .slice va its.length vc] 24 (0, 0))) := (B36.out.block _ (lt_of_block HI.out.2.2.2.2)).trans HI.out.2.2.2.2
                    have hTlt : w.heap.size + 1 < w3.heap.size := lt_of_block HI.out.2.2.2.2
                    have F6 : Hid (∀ b, F b → w3.heap.size < b ∧ b < w6.heap.size) := fun b hb => ⟨by have := (HF6.out b hb).1; have := lt_of_block Z5.out; omega, (HF6.out b hb).2⟩
                    obtain ⟨z0, z1, z2, z3, z4, z5, z6⟩ := seven_cells' Z6.out
                    have g2 := (cell_of Z6.out 2).2
                    have g3 := (cell_of Z6.out 3).2
                    have g4 := (cell_of Z6.out 4).2
                    have g5 := (cell_of Z6.out 5).2
                    have g6 := (cell_of Z6.out 6).2
                    obtain ⟨t1, tf1⟩ := cell_of T6.out 1
                    simp only [List.getElem?_toArray, List.getElem?_cons_zero, List.getElem?_cons_succ] at t1
                    have hne1 : ¬ w.heap.size + 1 = w3.heap.size := by omega
                    have hne2 : ¬ w3.heap.size = w.heap.size + 1 := by omega
                    have hz61 : ¬ w3.heap.size = w6.heap.size := by omega
                    have hz62 : ¬ w6.heap.size = w3.heap.size := by omega
                    have HLEN : Hid ((its.length + 1) * 104 ≤ 140737488355328) := by show _ ≤ _; rw [HIT.out.2]; omega
                    obtain ⟨W8, HW8⟩ : ∃ W8, Hid (W8 = ((((((w6.setCell ⟨w3.heap.size, 2, none⟩ (.int .i64 k5)).setCell ⟨w3.heap.size, 3, none⟩ (.int .u64 b5)).setCell ⟨w3.heap.size, 4, none⟩ (.string t5)).setCell ⟨w3.heap.size, 5, none⟩ (.slice ka5 kl5 kc5)).setCell ⟨w3.heap.size, 6, none⟩ (.slice ia5 il5 ic5)).alloc (.cells #[.int .i64 k5, .int .u64 b5, .string t5, .slice ka5 kl5 kc5, .slice ia5 il5 ic5] 50))) := ⟨_, rfl⟩
                    have HB8 : Hid (Below w3.heap.size w3 W8) := by rw [HW8.out]; exact nxt (below_five B36.out (Nat.le_refl _) _ _ _ _ _ _ _ _ _ _) (below_one _ _)
                    have HF8 : Hid (∀ b, F b → w3.heap.size ≤ b ∧ b < W8.heap.size) := fun b hb => ⟨by have := (F6.out b hb).1; omega, by rw [HW8.out]; have := (F6.out b hb).2; simp [World.setCell]; omega⟩
                    have HO8 : Hid (Own W8 8 (mk k5 b5 t5 ka5 kl5 kc5 ia5 il5 ic5) u F) := by
                      rw [HW8.out]
                      refine HO6.out.same 8 fun b hb => ?_
                      rw [Below.heap_alloc _ _ _ (by simp [World.setCell]; exact (F6.out b hb).2)]
                      exact five_other _ _ _ _ _ _ _ _ _ _ (by have := (F6.out b hb).1; omega)
                    have SD : Hid _ := PgI.side HI.out HB8.out HO8.out HF8.out (.cells #[.int .i64 id, .string ⟨nm.toArray⟩, .int .i64 k5, .int .u64 b5, .string t5, .slice ka5 kl5 kc5, .slice ia5 il5 ic5] 54)
                    have NEWS : Hid (∀ j y, ([.int .i64 id, .string ⟨nm.toArray⟩, .int .i64 k5, .int .u64 b5, .string t5, .slice ka5 kl5 kc5, .slice ia5 il5 ic5] : List Value)[j]? = some y → (W8.alloc (.cells #[.int .i64 id, .string ⟨nm.toArray⟩, .int .i64 k5, .int .u64 b5, .string t5, .slice ka5 kl5 kc5, .slice ia5 il5 ic5] 54)).cell? ((⟨W8.heap.size, 0, none⟩ : Addr).add j) = some y) := fun j y hj => newCellsA W8 _ _ j y (by simpa using hj)
                    have Z8 : Hid (W8.heap[w3.heap.size]? = some (.cells #[.int .i64 id, .string ⟨nm.toArray⟩, .int .i64 k5, .int .u64 b5, .string t5, .slice ka5 kl5 kc5, .slice ia5 il5 ic5] 54 (0, 0))) := by
                      rw [HW8.out, Below.heap_alloc _ _ _ (by simp [World.setCell]; exact hz6)]
                      exact set7_five Z6.out _ _ _ _ _
                    have T8 : Hid (W8.heap[w.heap.size + 1]? = some (.cells #[.int .i64 L, .slice va its.length vc] 24 (0, 0))) := (HB8.out.block _ hTlt).trans HI.out.2.2.2.2
                    clear HF6 HR hA hB X7 HNE
                    go_upto_region 22 with fail
                    rw [← HW8.out]
                    clear z0 z1 z2 z3 z4 z5 z6 g2 g3 g4 g5 g6 t1 tf1 HW8 B7 B37 B36 B6 B5 Z5 Z6 HO6 hz61 hz62
                    obtain ⟨z0, z1, z2, z3, z4, z5, z6⟩ := seven_cells' Z8.out
                    obtain ⟨t1, tf1⟩ := cell_of T8.out 1
                    simp only [List.getElem?_toArray, List.getElem?_cons_zero, List.getElem?_cons_succ] at t1
                    go_wp2_with (at_builtin; refine wpList_pushT _ rfl _ _ rfl (.slice va its.length vc) its H rfl SD.out.1 (id, ⟨nm.toArray⟩, u) F (.int .i64 k5) (.int .u64 b5) (.string t5) (.slice ka5 kl5 kc5) (.slice ia5 il5 ic5) SD.out.2.1 SD.out.2.2.1 SD.out.2.2.2.1 SD.out.2.2.2.2 ⟨W8.heap.size, 0, none⟩ 1 rfl NEWS.out HLEN.out ?_)
                    intro v' w9 q1 q2 q3 q4
                    have q3' : v'.ownBlock = (Value.slice va its.length vc).ownBlock ∨ ∀ g, v'.ownBlock = some g → (W8.alloc (.cells #[.int .i64 id, .string ⟨nm.toArray⟩, .int .i64 k5, .int .u64 b5, .string t5, .slice ka5 kl5 kc5, .slice ia5 il5 ic5] 54)).heap.size ≤ g := by simpa using q3
                    have NX := PgI.next HI.out HB8.out HF8.out q1 q2 q3' q4
                    obtain ⟨c9, f9⟩ := cell_of NX.2.1 1
                    simp only [List.getElem?_toArray, List.getElem?_cons_zero, List.getElem?_cons_succ] at c9
                    obtain ⟨av', cv', rfl⟩ := q1.shape
                    have hle : (its ++ [((id, ⟨nm.toArray⟩, u) : Tm 8)]).length = its.length + 1 := by simp
                    have NX0 := NX.1
                    rw [hle] at NX0
                    have NX1 : Hid _ := NX0
                    clear NX0
                    have NXI : Hid (iterE (stIt nmQ) (m + 1) ([], x.drop 10) = .ok (its ++ [((id, ⟨nm.toArray⟩, u) : Tm 8)], x.drop (pos + 9 + k + nn)) ∧ (its ++ [((id, ⟨nm.toArray⟩, u) : Tm 8)]).length = m + 1) := ⟨iterE_one HIT.out.1 (stIt_ok HNX.out), by rw [List.length_append, HIT.out.2]; rfl⟩
                    have hfin : pos + 9 + k + nn ≤ x.length := by omega
                    clear q1 q2 q3 q3' q4 NX SD NEWS z0 z1 z2 z3 z4 z5 z6 t1 tf1 hsk' hnl hnn
                    go_wp2_with fail
                    refine ⟨?_, ?_⟩
                    · repeat apply Exists.intro
                      refine ⟨?_, rfl⟩
                      exact ⟨m + 1, pos + 9 + k + nn, _, _, its ++ [((id, ⟨nm.toArray⟩, u) : Tm 8)], by omega, hfin, by go_num, by go_num, NX1.out, NXI.out⟩
                    · simp [intOf]; omega
                  · have HE : Hid ((decB nmQ x).1 = er) := by
                      have h1 := rdIt_err (f := nmQ) HSH.out (by rw [HDR.out, HR.out]; exact he)
                      rw [HDR.out, HR.out] at h1
                      exact BADE.out er h1 hlt
                    have HE0 : Hid (er ≠ 0) := he
                    have hd1 : (er == 0) = false := by simpa using he
                    have hd2 : (er != 0) = true := by simpa using he
                    have B2T : Hid (∀ v0 v1, Below w.heap.size w (((w6.alloc (.cells #[.int .i64 k5, .int .u64 b5, .string t5, .slice ka5 kl5 kc5, .slice ia5 il5 ic5] 50)).setCell ⟨w.heap.size, 0, none⟩ v0).setCell ⟨w.heap.size, 1, none⟩ v1)) := fun v0 v1 => ((nxt HBW.out B37.out).setCell (p := ⟨w.heap.size, 0, none⟩) (Nat.le_refl _) _).setCell (p := ⟨w.heap.size, 1, none⟩) (Nat.le_refl _) _
                    obtain ⟨y0, yf0⟩ := cell_of X7.out 0
                    obtain ⟨y1, yf1⟩ := cell_of X7.out 1
                    simp only [List.getElem?_toArray, List.getElem?_cons_zero, List.getElem?_cons_succ] at y0 y1
                    clear he
                    go_wp2_with fail
                    refine bodyPost_ret (v := .tuple #[.agg #[.int .i64 0, .slice none 0 0], .int .i64 er]) (by simp [results, Try.results9, go_sem, y0, y1]) rfl ?_
                    exact ER.out _ er (B2T.out _ _) HE.out HE0.out
        · have hme : m = n := by omega
          subst hme
          have HTM : Hid (∀ u ∈ its, TmOk u) := (iter_tmQ _ _ _ _ _ HIT.out.1 (fun u hu => by simp at hu)).1
          have HE : Hid (decB nmQ x = if 0 < (x.drop pos).length then (23, 0, []) else if chkB L its = 0 then (0, L, its) else (9, 0, [])) := by
            show _ = _
            unfold decB
            rw [if_neg h10, if_neg (by rw [HN.out.2]; exact h256), HN.out.2, HIT.out.1, HL.out]
          have hil : its.length ≤ 256 := by rw [HIT.out.2]; omega
          rw [List.length_drop] at HE
          clear BADE hlt h10 h256 h256' h10'
          by_cases hp : pos < x.length
          · have hp' : (pos : Int) < (x.length : Int) := by omega
            have HE1 : Hid ((decB nmQ x).1 = 23) := by show _ = _; rw [HE.out, if_pos (by omega)]
            go_wp2_with fail
            refine bodyPost_ret (v := .tuple #[.agg #[.int .i64 0, .slice none 0 0], .int .i64 23]) (by simp [results, Try.results9, go_sem, y0, y1]) rfl ?_
            exact ER.out _ 23 (B2S.out _ _) HE1.out (by decide)
          · have hp' : ¬ (pos : Int) < (x.length : Int) := by omega
            rw [if_neg (by omega)] at HE
            have HT : Hid (TIs wr 8 va vc its) := by
              obtain ⟨ia, ic, e, h⟩ := OwnR.tis HI.out.1 (by omega) HTM.out
              simp only [Value.slice.injEq, true_and] at e
              obtain ⟨rfl, rfl⟩ := e
              exact h
            have CC : Hid (Calls Try.prog 18 #[.agg #[.int .i64 L, .slice va its.length vc]] wr fun e w' => e = .returned (.int .i64 (chkB L its)) ∧ Below wr.heap.size wr w') := rbcheck_any L its va vc wr HT.out
            go_wp2_with fail
            refine CC.out.mono ?_
            rintro e w4 ⟨rfl, hb4⟩
            have B4 : Hid (Below wr.heap.size wr w4) := hb4
            have T4 : Hid (w4.heap[w.heap.size + 1]? = some (.cells #[.int .i64 L, .slice va its.length vc] 24 (0, 0))) := (hb4.block _ (lt_of_block HI.out.2.2.2.2)).trans HI.out.2.2.2.2
            have X4 : Hid (w4.heap[w.heap.size]? = some (.cells #[.int .i64 0, .slice none 0 0] 24 (0, 0))) := (hb4.block _ (lt_of_block HX.out)).trans HX.out
            clear hb4 t0 t1 tf0 tf1 y0 y1 yf0 yf1 CC
            obtain ⟨t0, tf0⟩ := cell_of T4.out 0
            obtain ⟨t1, tf1⟩ := cell_of T4.out 1
            obtain ⟨y0, yf0⟩ := cell_of X4.out 0
            obtain ⟨y1, yf1⟩ := cell_of X4.out 1
            simp only [List.getElem?_toArray, List.getElem?_cons_zero, List.getElem?_cons_succ] at t0 t1 y0 y1
            by_cases hc : chkB L its = 0
            · rw [if_pos hc] at HE
              rw [hc]
              clear hc
              have PG4 : Hid (PgI W1 w4 (w.heap.size + 1) L (.slice va its.length vc) its H) := ⟨HI.out.1.same fun b hb => B4.out.block b (HI.out.2.1 b hb).2.2, fun b hb => ⟨(HI.out.2.1 b hb).1, (HI.out.2.1 b hb).2.1, by have := (HI.out.2.1 b hb).2.2; have := B4.out.size; omega⟩, nxt HI.out.2.2.1 B4.out, HI.out.2.2.2.1, T4.out⟩
              go_wp2_with fail
              refine bodyPost_ret (v := .tuple #[.agg #[.int .i64 L, .slice va its.length vc], .int .i64 0]) (by simp [results, Try.results9, go_sem, y0, y1]) rfl ?_
              rw [HE.out]
              exact ⟨_, H, rfl, PG4.out.out2 B0.out (Nat.le_refl _) (by omega) _ _⟩
            · rw [if_neg hc] at HE
              have h9 : chkB L its = 9 := (chkB_cases L its).resolve_left hc
              rw [h9]
              clear hc h9
              go_wp2_with fail
              refine bodyPost_ret (v := .tuple #[.agg #[.int .i64 0, .slice none 0 0], .int .i64 9]) (by simp [results, Try.results9, go_sem, y0, y1]) rfl ?_
              exact ER.out _ 9 (((nxt HBW.out B4.out).setCell (p := ⟨w.heap.size, 0, none⟩) (Nat.le_refl _) _).setCell (p := ⟨w.heap.size, 1, none⟩) (Nat.le_refl _) _) (by rw [HE.out]) (by decide)
end Go.Proofs.Ytfdbhojghkdlkaa
