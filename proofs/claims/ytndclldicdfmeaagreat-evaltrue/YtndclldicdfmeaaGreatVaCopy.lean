/-
  CopyValue: whatever value it is handed, what it answers reads as the same tree, in new memory of its own; nothing that was there has turned.
-/
import Derived.Test.YtndclldicdfmeaaGreatVaBase
namespace Go.Proofs.YtndclldicdfmeaaGreat
open Go.ChangeShapes Go.WideShapes Go.ChangeAt Go.RowKit

theorem Tryz.infoStr : (Tryz.prog.info? 9).map (fun i => (i.zero, i.size, i.bytes)) = some (some (.string ⟨#[]⟩), 1, 16) := by kernel_rfl
theorem Tryz.infoVal : (Tryz.prog.info? 29).map (fun i => (i.zero, i.size, i.bytes)) = some (some (mk 0 0 ⟨#[]⟩ none 0 0 none 0 0), 5, 80) := by kernel_rfl

theorem getElem?_five {xs : List Value} {c0 c1 c2 c3 c4 : Value} {m : Nat} (h : xs.length = m * 5) :
    (xs ++ [c0, c1, c2, c3, c4])[m * 5]? = some c0 ∧ (xs ++ [c0, c1, c2, c3, c4])[m * 5 + 1]? = some c1 ∧ (xs ++ [c0, c1, c2, c3, c4])[m * 5 + 2]? = some c2 ∧ (xs ++ [c0, c1, c2, c3, c4])[m * 5 + 3]? = some c3 ∧
      (xs ++ [c0, c1, c2, c3, c4])[m * 5 + 4]? = some c4 := by
  refine ⟨?_, ?_, ?_, ?_, ?_⟩
  all_goals
    rw [List.getElem?_append_right (by omega)]
    simp [h]

theorem copy_step {w1 w2 wr : World} {n m B : Nat} {its : List (V n)} {xs : List Value} {G : Nat → Nat → Prop} {v v' : Value} {u : V n} {c0 c1 c2 c3 c4 : Value} {F : Nat → Prop} {o : Obj}
    (hm : its[m]? = some u) (hlen : xs.length = m * 5) (HX : Items (Own wr n) its m xs G) (HG : ∀ i b, i < m → G i b → B ≤ b ∧ b < wr.heap.size ∧ v.ownBlock ≠ some b)
    (HD : ∀ i j b, i < m → j < m → G i b → G j b → i = j) (hvb : ∀ g, v.ownBlock = some g → g < wr.heap.size)
    (ho : Own w1 n (.agg #[c0, c1, c2, c3, c4]) u F) (hF : ∀ b, F b → wr.heap.size ≤ b ∧ b < w1.heap.size) (hB : B ≤ wr.heap.size) (hb : Below wr.heap.size wr w1)
    (hg : (w1.alloc o).grownBy w2 v.ownBlock) (hv' : v'.ownBlock = v.ownBlock ∨ ∀ g, v'.ownBlock = some g → w1.heap.size + 1 ≤ g) :
    ∃ G', Items (Own w2 n) its (m + 1) (xs ++ [c0, c1, c2, c3, c4]) G' ∧ (∀ i b, i < m + 1 → G' i b → B ≤ b ∧ b < w2.heap.size ∧ v'.ownBlock ≠ some b) ∧ (∀ i j b, i < m + 1 → j < m + 1 → G' i b → G' j b → i = j) ∧
      (∀ j, j < wr.heap.size → v.ownBlock ≠ some j → w2.heap[j]? = wr.heap[j]?) ∧ wr.heap.size ≤ w2.heap.size ∧ Below wr.heap.size wr (w1.alloc o) := by
  have hs1 := hb.size
  have hs2 : w1.heap.size + 1 ≤ w2.heap.size := by have := hg.size; simpa using this
  have keep1 : ∀ j, j < w1.heap.size → v.ownBlock ≠ some j → w2.heap[j]? = w1.heap[j]? := fun j hj hne => by
    rw [hg.block j (by simp; omega) (fun e => hne e.symm)]
    exact Below.heap_alloc _ _ _ hj
  have keep : ∀ j, j < wr.heap.size → v.ownBlock ≠ some j → w2.heap[j]? = wr.heap[j]? := fun j hj hne => by
    rw [keep1 j (by omega) hne]
    exact hb.block j hj
  have q := getElem?_five (c0 := c0) (c1 := c1) (c2 := c2) (c3 := c3) (c4 := c4) hlen
  refine ⟨fun i b => if i = m then F b else G i b, ?_, ?_, ?_, keep, by omega, hb.alloc (by omega) _⟩
  · intro i u' hi hu'
    by_cases him : i = m
    · subst him
      rw [hm] at hu'
      cases hu'
      refine ⟨c0, c1, c2, c3, c4, q.1, q.2.1, q.2.2.1, q.2.2.2.1, q.2.2.2.2, ?_⟩
      simp only [if_true]
      exact ho.same n fun b hbF => keep1 b (hF b hbF).2 (fun e => by have := hvb b e; have := (hF b hbF).1; omega)
    · obtain ⟨d0, d1, d2, d3, d4, e0, e1, e2, e3, e4, hO⟩ := HX i u' (by omega) hu'
      refine ⟨d0, d1, d2, d3, d4, ?_, ?_, ?_, ?_, ?_, ?_⟩
      · rw [List.getElem?_append_left (by omega)]; exact e0
      · rw [List.getElem?_append_left (by omega)]; exact e1
      · rw [List.getElem?_append_left (by omega)]; exact e2
      · rw [List.getElem?_append_left (by omega)]; exact e3
      · rw [List.getElem?_append_left (by omega)]; exact e4
      · simp only [him, if_false]
        exact hO.same n fun b hbG => keep b (HG i b (by omega) hbG).2.1 (HG i b (by omega) hbG).2.2
  · intro i b hi hGi
    by_cases him : i = m
    · simp only [him, if_true] at hGi
      have := hF b hGi
      refine ⟨by omega, by omega, fun e => ?_⟩
      rcases hv' with hv' | hv'
      · have := hvb b (by rw [← hv']; exact e); omega
      · have := hv' b e; omega
    · simp only [him, if_false] at hGi
      have := HG i b (by omega) hGi
      refine ⟨by omega, by omega, fun e => ?_⟩
      rcases hv' with hv' | hv'
      · exact this.2.2 (by rw [← hv']; exact e)
      · have := hv' b e; omega
  · intro i j b hi hj hGi hGj
    by_cases him : i = m <;> by_cases hjm : j = m
    · omega
    · simp only [him, if_true] at hGi
      simp only [hjm, if_false] at hGj
      have := hF b hGi
      have := HG j b (by omega) hGj
      omega
    · simp only [him, if_false] at hGi
      simp only [hjm, if_true] at hGj
      have := hF b hGj
      have := HG i b (by omega) hGi
      omega
    · simp only [him, if_false] at hGi
      simp only [hjm, if_false] at hGj
      exact HD i j b (by omega) (by omega) hGi hGj

theorem heap_new2 (w : World) (o o' : Obj) : ((w.alloc o).alloc o').heap[w.heap.size + 1]? = some o' := by
  have e : (w.alloc o).heap.size = w.heap.size + 1 := by simp
  rw [← e]
  exact heap_alloc_new _ _

theorem slice_of_own {w : World} {base : Nat} {e : TypeId} {size : Nat} {v : Value} {n : Nat} {xs : List Value} (h : w.ownsRow base e size v n xs) : ∃ a c, v = .slice a n c := by
  obtain ⟨_, h2⟩ := h
  rcases h2 with ⟨hv, hn⟩ | ⟨g, cap, cur, hv, _⟩
  · exact ⟨none, 0, by rw [hv, hn]⟩
  · exact ⟨_, _, hv⟩

theorem cap_of_own {w : World} {base : Nat} {e : TypeId} {size : Nat} {a : Option Addr} {l c n : Nat} {xs : List Value} (h : w.ownsRow base e size (.slice a l c) n xs) : l ≤ c ∧ c ≤ 9223372036854775807 := by
  obtain ⟨_, h2⟩ := h
  rcases h2 with ⟨hv, hn⟩ | ⟨g, cap, cur, hv, _, _, h1, h2, _⟩
  · simp only [Value.slice.injEq] at hv; omega
  · simp only [Value.slice.injEq] at hv; unfold maxLen at h2; omega

theorem ownsRow_base0 {w : World} {base : Nat} {e : TypeId} {size : Nat} {v : Value} {n : Nat} {xs : List Value} (h : w.ownsRow base e size v n xs) : w.ownsRow 0 e size v n xs := by
  obtain ⟨h1, h2⟩ := h
  refine ⟨h1, ?_⟩
  rcases h2 with h2 | ⟨g, cap, cur, hv, _, r⟩
  · exact Or.inl h2
  · exact Or.inr ⟨g, cap, cur, hv, Nat.zero_le _, r⟩

theorem box_cells {w : World} {g : Nat} {c0 c1 c2 c3 c4 : Value} {t : TypeId} (h : w.heap[g]? = some (.cells #[c0, c1, c2, c3, c4] t (0, 0))) :
    w.cell? ⟨g, 0, none⟩ = some c0 ∧ w.cell? ⟨g, 1, none⟩ = some c1 ∧ w.cell? ⟨g, 2, none⟩ = some c2 ∧ w.cell? ⟨g, 3, none⟩ = some c3 ∧ w.cell? ⟨g, 4, none⟩ = some c4 ∧
      w.frozen? ⟨g, 0, none⟩ = false ∧ w.frozen? ⟨g, 1, none⟩ = false ∧ w.frozen? ⟨g, 2, none⟩ = false ∧ w.frozen? ⟨g, 3, none⟩ = false ∧ w.frozen? ⟨g, 4, none⟩ = false := by
  simp [World.cell?, World.frozen?, h]

theorem copy_done {wr w2 w' : World} {n B : Nat} {k b : Int} {t : ByteArray} {ks : List ByteArray} {its : List (V n)} {kc ic kc' ic' : Nat} {ka' ia' : Option Addr} {xs : List Value} {G : Nat → Nat → Prop}
    (hfit : Fit k b t ks.length kc its.length ic) (hB : B ≤ wr.heap.size) (hI : wr.ownsRow B 29 5 (.slice ia' its.length ic') its.length xs)
    (hka : ∀ g, (Value.slice ka' ks.length kc').ownBlock = some g → wr.heap.size ≤ g) (hK : w2.ownsRow wr.heap.size 9 1 (.slice ka' ks.length kc') ks.length (ks.map Value.string))
    (HX : Items (Own wr n) its its.length xs G) (HG : ∀ i b, i < its.length → G i b → B ≤ b ∧ b < wr.heap.size ∧ (Value.slice ia' its.length ic').ownBlock ≠ some b)
    (HD : ∀ i j b, i < its.length → j < its.length → G i b → G j b → i = j) (hs : ∀ s ∈ ks, s.size ≤ 140737488351232)
    (h12 : ∀ j, j < wr.heap.size → w2.heap[j]? = wr.heap[j]?) (h2 : ∀ j, B ≤ j → w'.heap[j]? = w2.heap[j]?) :
    Own w' (n + 1) (mk k b t ka' ks.length kc' ia' its.length ic') (k, b, t, ks, its) (fun g => B ≤ g ∧ g < w2.heap.size) := by
  obtain ⟨h_k, h_b, h_t, hkl, hkc, hkr, hil, hic, hir⟩ := hfit
  have hs12 : wr.heap.size ≤ w2.heap.size := by
    by_cases h0 : wr.heap.size = 0
    · omega
    · have := h12 (wr.heap.size - 1) (by omega)
      have h1 : wr.heap[wr.heap.size - 1]? = some wr.heap[wr.heap.size - 1] := by simp
      rw [h1] at this
      have := lt_of_block this
      omega
  have cK := cap_of_own hK
  have cI := cap_of_own hI
  refine ⟨ka', kc', ia', ic', xs, G, rfl, ⟨h_k, h_b, h_t, cK.1, cK.2, hkr, cI.1, cI.2, hir⟩, hs, ?_, ?_, ?_, ?_, ?_, ?_, HD⟩
  · refine ownsRow_same (w := w2) (ownsRow_base0 hK) fun g hg => h2 g ?_
    have := hka g hg
    omega
  · refine ownsRow_same (w := wr) (ownsRow_base0 hI) fun g hg => ?_
    have := hI.lt g hg
    rw [h2 g (by omega), h12 g (by omega)]
  · intro g hg
    have := hka g hg
    have := hK.lt g hg
    exact ⟨by omega, by omega⟩
  · intro g hg
    have := hI.lt g hg
    exact ⟨by omega, by omega⟩
  · intro i u hi hu
    obtain ⟨c0, c1, c2, c3, c4, e0, e1, e2, e3, e4, ho⟩ := HX i u hi hu
    refine ⟨c0, c1, c2, c3, c4, e0, e1, e2, e3, e4, ho.same n fun g hg => ?_⟩
    have := HG i g hi hg
    rw [h2 g (by omega), h12 g (by omega)]
  · intro i g hi hg
    have := HG i g hi hg
    exact ⟨⟨by omega, by omega⟩, fun e => by have := hka g e; omega, this.2.2⟩

set_option maxRecDepth 100000 in
set_option maxHeartbeats 1600000 in
theorem copy_any (n : Nat) : ∀ (v : V n) (x : Value) (w : World), Lay w n x v →
    Calls Tryz.prog 19 #[x] w fun e w' => ∃ y F, e = .returned y ∧ Own w' n y v F ∧ (∀ b, F b → w.heap.size ≤ b ∧ b < w'.heap.size) ∧ Below w.heap.size w w' := by
  induction n with
  | zero => intro v; exact v.elim
  | succ n ih =>
    rintro ⟨k, b, t, ks, its⟩ x w ⟨ka, kc, ia, ic, rfl, hfit, nk, ni, hks, his⟩
    have HF : Hid (Fit k b t ks.length kc its.length ic) := hfit
    have HN : Hid (ka = none → ks.length = 0 ∧ kc = 0) := nk
    obtain ⟨hk, hb, ht, hkl, hkc, hkr, hil, hic, hir⟩ := hfit
    obtain ⟨i0, hi, hz0, hz1, hz2⟩ := info_parts Tryz.infoVal
    obtain ⟨i1, hi1, hz01, hz11, hz21⟩ := info_parts Tryz.infoStr
    clear hk hb ht hkl hkc hil hic nk ni
    have HS : Hid (LayS w ka ks) := hks
    have HI : Hid (LayI w (Lay w n) ia its) := his
    clear hks his
    go_enter Tryz.func19, Tryz.ntmps19
    go_wp2_with fail
    go_loopw [4, 5] (fun v i wr => ∃ (m : Nat) (xs : List Value) (G : Nat → Nat → Prop), m ≤ its.length ∧ i = .int .i64 m ∧ wr.ownsRow (w.heap.size + 2) 29 5 v m xs ∧ Hid (Items (Own wr n) its m xs G) ∧
        Hid (∀ i b, i < m → G i b → w.heap.size + 2 ≤ b ∧ b < wr.heap.size ∧ v.ownBlock ≠ some b) ∧ Hid (∀ i j b, i < m → j < m → G i b → G j b → i = j) ∧
        Hid (wr.heap[w.heap.size]? = some (.cells #[.int .i64 k, .int .u64 b, .string t, .slice ka ks.length kc, .slice ia its.length ic] 29 (0, 0))) ∧
        Hid (wr.heap[w.heap.size + 1]? = some (.cells #[.int .i64 0, .int .u64 0, .string ⟨#[]⟩, .slice none 0 0, .slice none 0 0] 29 (0, 0))) ∧ Hid (Below w.heap.size w wr))
      (fun _ i _ => its.length - (intOf i).toNat)
    case atStart =>
      refine ⟨0, [], fun _ _ => False, Nat.zero_le _, rfl, World.ownsRow_nil _ _ _ _, fun i _ hi => by omega, fun i _ hi => by omega, fun i _ _ hi => by omega, ?_, ?_, ?_⟩
      · exact (Below.heap_alloc _ _ _ (by simp)).trans (heap_alloc_new _ _)
      · exact heap_new2 _ _ _
      · exact ((Below.refl _ _).alloc (Nat.le_refl _) _).alloc (by simp) _
    case round =>
      obtain ⟨m, xs, G, hm, rfl, hown, HX, HG, HD, HB, HR, HW⟩ := hrel
      have b4 : wr.cell? ⟨w.heap.size, 4, none⟩ = some (.slice ia its.length ic) := by have := HB.out; simp [World.cell?, this]
      by_cases hlt : m < its.length
      · obtain ⟨bb, o, c0, c1, c2, c3, c4, rfl, q0, q1, q2, q3, q4, hl⟩ := HI.out m its[m] (by simp [hlt])
        have hq : bb < w.heap.size := lt_of_cell q0
        rw [← HW.out.cell (by exact hq)] at q0 q1 q2 q3 q4
        have HL : Hid (Lay w n (.agg #[c0, c1, c2, c3, c4]) its[m]) := hl
        clear hl
        have HO : Hid (wr.ownsRow (w.heap.size + 2) 29 5 u4 m xs) := hown
        have hvb : ∀ g, u4.ownBlock = some g → g < wr.heap.size := fun g hg => (hown.lt g hg).2
        have HV : Hid (∀ g, u4.ownBlock = some g → g < wr.heap.size) := hvb
        have hwr := HW.out.size
        have hwr2 := lt_of_block HR.out
        clear hown hvb
        go_wp2_with (first
          | (go_at_call 19; refine (ih _ _ _ (Lay.below n HL.out HW.out)).mono ?_; rintro e w1 ⟨y, F, rfl, ho, hF, hbel⟩; obtain ⟨k', b', t', ka', kl', kc', ia', il', ic', rfl⟩ := Lay.shape n (Own.lay n ho))
          | (at_builtin; refine wpList_append_apart _ rfl _ _ 27 rfl (w.heap.size + 2) 29 i0 _ 5 80 Tryz.underlying27 hi hz0 hz1 hz2 rfl (by decide) _ m xs rfl ?d0 (some ⟨w1.heap.size, 0, none⟩) 1 1 [.int .i64 k', .int .u64 b', .string t', .slice ka' kl' kc', .slice ia' il' ic'] rfl (by simp) rfl ?d1 ?d2 ?d3 ?d4 ?d5 ?_))
        case d0 =>
          exact ownsRow_same HO.out fun g hg => by
            have h1 := HV.out g hg
            have h2 := hbel.size
            rw [Below.heap_alloc _ _ _ (by omega)]
            exact hbel.block g h1
        case d1 =>
          intro ad e j u hj
          cases e
          have := heap_alloc_new w1 (.cells #[.int .i64 k', .int .u64 b', .string t', .slice ka' kl' kc', .slice ia' il' ic'] 29)
          rw [add_plain]
          simp only [World.cell?, this]
          simpa using hj
        case d2 => intro u hu; simp at hu; rcases hu with rfl | rfl | rfl | rfl | rfl <;> rfl
        case d3 => unfold maxLen; omega
        case d4 => omega
        case d5 => have := hbel.size; simp; omega
        · intro v' w2 hown' hgrow hv'
          obtain ⟨G', hX', hG', hD', hkeep, hsz, hbl⟩ := copy_step (B := w.heap.size + 2) (u := its[m]) (by simp [hlt]) HO.out.1 HX.out HG.out HD.out HV.out ho hF (by omega) hbel hgrow hv'
          have R1 : Hid (w2.heap[w.heap.size]? = some (.cells #[.int .i64 k, .int .u64 b, .string t, .slice ka ks.length kc, .slice (some ⟨bb, o, none⟩) its.length ic] 29 (0, 0))) := by
            show _ = _
            rw [hkeep _ (by omega) (fun e => by have := (HO.out.lt _ e).1; omega)]
            exact HB.out
          have R2 : Hid (w2.heap[w.heap.size + 1]? = some (.cells #[.int .i64 0, .int .u64 0, .string ⟨#[]⟩, .slice none 0 0, .slice none 0 0] 29 (0, 0))) := by
            show _ = _
            rw [hkeep _ (by omega) (fun e => by have := (HO.out.lt _ e).1; omega)]
            exact HR.out
          have R3 : Hid (Below w.heap.size w w2) := (HW.out.trans (hbl.mono hwr)).grown hgrow (by have := hbel.size; simp; omega) (fun g hg => by have := (HO.out.lt g hg).1; omega)
          have R4 : Hid (w2.ownsRow (w.heap.size + 2) 29 5 v' (m + 1) (xs ++ [.int .i64 k', .int .u64 b', .string t', .slice ka' kl' kc', .slice ia' il' ic'])) := hown'
          have RX : Hid (Items (Own w2 n) its (m + 1) (xs ++ [.int .i64 k', .int .u64 b', .string t', .slice ka' kl' kc', .slice ia' il' ic']) G') := hX'
          have RG : Hid (∀ i b, i < m + 1 → G' i b → w.heap.size + 2 ≤ b ∧ b < w2.heap.size ∧ v'.ownBlock ≠ some b) := hG'
          have RD : Hid (∀ i j b, i < m + 1 → j < m + 1 → G' i b → G' j b → i = j) := hD'
          clear hown' hX' hG' hD' hkeep hbl hgrow hv' hsz ho hF hbel
          go_wp2_with fail
          go_roundw
          case rel => exact ⟨m + 1, _, G', by omega, by go_num, R4.out, RX, RG, RD, R1, R2, R3⟩
          case measure => simp [intOf]; omega
      · have hme : m = its.length := by omega
        subst hme
        have HO : Hid (wr.ownsRow (w.heap.size + 2) 29 5 u4 its.length xs) := hown
        have hwr := HW.out.size
        have hwr2 := lt_of_block HR.out
        have b3 : wr.cell? ⟨w.heap.size, 3, none⟩ = some (.slice ka ks.length kc) := by have := HB.out; simp [World.cell?, this]
        clear hown
        go_wp2_with (at_builtin; refine wpList_append_apart _ rfl _ _ 26 rfl wr.heap.size 9 i1 _ 1 16 Tryz.underlying26 hi1 hz01 hz11 hz21 rfl (by decide) _ 0 [] rfl (World.ownsRow_nil _ _ _ _) ka ks.length kc (ks.map Value.string) rfl HN.out (by simp) ?f1 ?f2 ?f3 ?f4 ?f5 ?_)
        case f1 =>
          intro ad e j u hj
          subst e
          simp only [List.getElem?_map, Option.map_eq_some_iff] at hj
          obtain ⟨s, hs, rfl⟩ := hj
          obtain ⟨b2, o2, e, hc, _⟩ := HS.out j s hs
          cases e
          rw [add_plain, HW.out.cell (lt_of_cell hc)]
          exact hc
        case f2 => intro u hu; simp only [List.mem_map] at hu; obtain ⟨s, _, rfl⟩ := hu; rfl
        case f3 => unfold maxLen; omega
        case f4 => omega
        case f5 => exact Nat.le_refl _
        · intro v' w2 hown' hgrow hv'
          obtain ⟨ka', kc', rfl⟩ := slice_of_own hown'
          obtain ⟨ia', ic', rfl⟩ := slice_of_own HO.out
          have hk2 : ∀ j, j < wr.heap.size → w2.heap[j]? = wr.heap[j]? := fun j hj => hgrow.block j hj (by simp [Value.ownBlock])
          have p0 := hk2 _ (Nat.lt_of_succ_lt hwr2)
          have p1 := hk2 _ hwr2
          rw [HB.out] at p0
          rw [HR.out] at p1
          obtain ⟨x0, x1, x2, x3, x4, y0, y1, y2, y3, y4⟩ := box_cells p0
          obtain ⟨z0, z1, z2, z3, z4, f0, f1, f2, f3, f4⟩ := box_cells p1
          clear p0 p1 hk2
          go_wp2_with fail
          refine bodyPost_ret (v := mk k b t ka' ks.length kc' ia' its.length ic') (by simp [results, Tryz.results19, go_sem, z0, z1, z2, z3, z4]) rfl ?_
          have hs2 := hgrow.size
          refine ⟨_, fun g => w.heap.size + 2 ≤ g ∧ g < w2.heap.size, rfl, copy_done (B := w.heap.size + 2) (wr := wr) HF.out ?_ HO.out (fun g hg => hv'.elim (fun e => by rw [e] at hg; cases hg) (fun e => e g hg)) hown' HX.out HG.out HD.out (fun s hs => ?_) (fun j hj => hgrow.block j hj (by simp [Value.ownBlock])) (fun j hj => ?_), ?_, ?_⟩
          · omega
          · obtain ⟨j, hj⟩ := List.getElem?_of_mem hs
            obtain ⟨_, _, _, _, h⟩ := HS.out j s hj
            exact h
          · repeat rw [Below.heap_setCell _ _ _ _ (by simp; omega)]
          · intro g hg
            simp
            omega
          · have hR := HW.out.trans ((Below.refl _ _).grown hgrow hwr (fun g hg => by simp [Value.ownBlock] at hg))
            exact ((((((hR.setCell (by simp) _).setCell (by simp) _).setCell (by simp) _).setCell (by simp) _).setCell (by simp) _).setCell (by simp) _).setCell (by simp) _
end Go.Proofs.YtndclldicdfmeaaGreat
