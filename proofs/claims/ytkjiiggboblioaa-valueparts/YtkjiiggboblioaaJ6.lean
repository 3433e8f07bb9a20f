/-
  A part with room made, as a tree in memory of its own.
-/
import Derived.Test.YtkjiiggboblioaaJ5
namespace Go.Proofs.Ytkjiiggboblioaa
open Go.ChangeShapes Go.WideShapes Go.ChangeAt Go.RowKit
open Fl

theorem room_pack {n g o a : Nat} {w w2 : World} {cur cur' : Array Value} {k b : Int} {t : ByteArray} {ks ks' : List ByteArray} {its : List (V (n + 1))} {F : Nat → Prop} {ka ia : Option Addr} {kc ic : Nat} {xs : List Value} {G : Nat → Nat → Prop} {vk vi : Value}
    (hfit : Fit k b t ks.length kc its.length ic) (hI : w.ownsRow 0 26 5 (.slice ia its.length ic) its.length xs)
    (fK : ∀ b, (Value.slice ka ks.length kc).ownBlock = some b → F b) (fI : ∀ b, (Value.slice ia its.length ic).ownBlock = some b → F b) (hit : Items (Own w (n + 1)) its its.length xs G)
    (hG : ∀ i b, i < its.length → G i b → F b ∧ (Value.slice ka ks.length kc).ownBlock ≠ some b ∧ (Value.slice ia its.length ic).ownBlock ≠ some b) (hd : ∀ i j b, i < its.length → j < its.length → G i b → G j b → i = j)
    (hF : ∀ b, F b → b < w.heap.size) (hg : ¬ F g) (hgw : w.heap[g]? = some (.cells cur 26 (0, 0))) (ha : a ≤ its.length)
    (hc : w2.heap[g]? = some (.cells cur' 26 (0, 0))) (hsz : cur'.size = cur.size) (hout : ∀ j, j < o ∨ o + 5 ≤ j → cur'[j]? = cur[j]?)
    (c0 : cur'[o]? = some (.int .i64 k)) (c1 : cur'[o + 1]? = some (.int .u64 b)) (c2 : cur'[o + 2]? = some (.string t)) (c3 : cur'[o + 3]? = some vk) (c4 : cur'[o + 4]? = some vi)
    (hvk : w2.ownsRow 0 9 1 vk ks'.length (ks'.map Value.string)) (hvi : w2.ownsRow 0 26 5 vi (its.length + 1) (xs.take (a * 5) ++ zcells ++ xs.drop (a * 5)))
    (R : Roomy w w2 g (Value.slice ka ks.length kc).ownBlock (Value.slice ia its.length ic).ownBlock) (bk : vk.ownBlock = (Value.slice ka ks.length kc).ownBlock ∨ ∀ b, vk.ownBlock = some b → w.heap.size ≤ b)
    (bi : vi.ownBlock = (Value.slice ia its.length ic).ownBlock ∨ ∀ b, vi.ownBlock = some b → w.heap.size ≤ b) (hs' : ∀ s ∈ ks', s.size ≤ 140737488351232) (lk : ks'.length * 16 ≤ 140737488351232) (li : (its.length + 1) * 80 ≤ 140737488351232) :
    ∃ x2 F2, At w2 g o x2 ∧ Own w2 (n + 2) x2 (k, b, t, ks', ins its a (nil5 n)) F2 ∧ (∀ b, F2 b → (F b ∨ w.heap.size ≤ b) ∧ b < w2.heap.size) ∧ ¬ F2 g ∧ Ch F g o w w2 := by
  have hgl := lt_of_block hgw
  have hrs := R.size
  obtain ⟨ka2, kc2, rfl⟩ := slice_of_own hvk
  obtain ⟨ia2, ic2, rfl⟩ := slice_of_own hvi
  have kIn : ∀ b', (Value.slice ka2 ks'.length kc2).ownBlock = some b' → (F b' ∨ w.heap.size ≤ b') ∧ b' < w2.heap.size ∧ b' ≠ g := fun b' hb' => by
    refine ⟨bk.elim (fun e => Or.inl (fK b' (by rw [← e]; exact hb'))) (fun e => Or.inr (e b' hb')), (hvk.lt b' hb').2, fun e => ?_⟩
    rcases bk with e' | e'
    · exact hg (by rw [← e]; exact fK b' (by rw [← e']; exact hb'))
    · have := e' b' hb'; omega
  have iIn : ∀ b', (Value.slice ia2 (its.length + 1) ic2).ownBlock = some b' → (F b' ∨ w.heap.size ≤ b') ∧ b' < w2.heap.size ∧ b' ≠ g := fun b' hb' => by
    refine ⟨bi.elim (fun e => Or.inl (fI b' (by rw [← e]; exact hb'))) (fun e => Or.inr (e b' hb')), (hvi.lt b' hb').2, fun e => ?_⟩
    rcases bi with e' | e'
    · exact hg (by rw [← e]; exact fI b' (by rw [← e']; exact hb'))
    · have := e' b' hb'; omega
  have hkeep : ∀ j b', j < its.length → G j b' → w2.heap[b']? = w.heap[b']? := fun j b' hj hb' => by
    have := hG j b' hj hb'
    exact R.block b' (hF b' this.1) (fun e => hg (by rw [← e]; exact this.1)) this.2.1 this.2.2
  have hln := ins_length its a (nil5 n) ha
  have hIt := items_ins ha (by have := hI.1; omega) hit hkeep
  have cK := cap_of_own hvk
  have cI := cap_of_own hvi
  obtain ⟨h_k, h_b, h_t, -⟩ := hfit
  have gIn : ∀ j b', j < its.length + 1 → (if j < a then G j b' else if j = a then False else G (j - 1) b') → ∃ j', j' < its.length ∧ G j' b' ∧ (j' = if j < a then j else j - 1) ∧ j ≠ a := fun j b' hj h => by
    by_cases h1 : j < a
    · rw [if_pos h1] at h; exact ⟨j, by omega, h, by rw [if_pos h1], by omega⟩
    · rw [if_neg h1] at h
      by_cases h2 : j = a
      · rw [if_pos h2] at h; exact h.elim
      · rw [if_neg h2] at h; exact ⟨j - 1, by omega, h, by rw [if_neg h1], h2⟩
  refine ⟨mk k b t ka2 ks'.length kc2 ia2 (its.length + 1) ic2, fun b' => (F b' ∨ w.heap.size ≤ b') ∧ b' < w2.heap.size ∧ b' ≠ g, ⟨cur', _, _, _, _, _, hc, rfl, c0, c1, c2, c3, c4⟩, ?_, fun b' hb' => ⟨hb'.1, hb'.2.1⟩, fun h => h.2.2 rfl, ?_⟩
  · refine ⟨ka2, kc2, ia2, ic2, xs.take (a * 5) ++ zcells ++ xs.drop (a * 5), fun j b' => if j < a then G j b' else if j = a then False else G (j - 1) b', by rw [hln], by rw [hln]; exact ⟨h_k, h_b, h_t, cK.1, cK.2, lk, cI.1, cI.2, li⟩, hs', hvk, by rw [hln]; exact hvi, kIn, by rw [hln]; exact iIn, by rw [hln]; exact hIt, ?_, ?_⟩
    · intro j b' hj hGj
      rw [hln] at hj ⊢
      obtain ⟨j', hj', hGj', -, -⟩ := gIn j b' hj hGj
      have q := hG j' b' hj' hGj'
      have hl := hF b' q.1
      refine ⟨⟨Or.inl q.1, by omega, fun e => hg (by rw [← e]; exact q.1)⟩, fun e => ?_, fun e => ?_⟩
      · rcases bk with e' | e'
        · exact q.2.1 (by rw [← e']; exact e)
        · have := e' b' e; omega
      · rcases bi with e' | e'
        · exact q.2.2 (by rw [← e']; exact e)
        · have := e' b' e; omega
    · intro j1 j2 b' h1 h2 g1 g2
      rw [hln] at h1 h2
      obtain ⟨p1, q1, r1, s1, t1⟩ := gIn j1 b' h1 g1
      obtain ⟨p2, q2, r2, s2, t2⟩ := gIn j2 b' h2 g2
      have := hd p1 p2 b' q1 q2 r1 r2
      split at s1 <;> split at s2 <;> omega
  · refine ⟨R.os, R.tape, R.output, R.size, fun j hj hn hjg => R.block j hj hjg (fun e => hn (fK j e)) (fun e => hn (fI j e)), fun c hcw => ?_⟩
    rw [hgw] at hcw
    have e : cur = c := by simpa using hcw
    subst e
    exact ⟨cur', hc, hsz, hout⟩
end Go.Proofs.Ytkjiiggboblioaa

/-
  makeRoom on a part, in general.
-/
namespace Go.Proofs.Ytkjiiggboblioaa
open Go.ChangeShapes Go.WideShapes Go.ChangeAt Go.RowKit
open Fl

theorem set_here {c : Array Value} {j : Nat} (v : Value) (h : j < c.size) : (c.setIfInBounds j v)[j]? = some v := by
  rw [Array.getElem?_setIfInBounds]
  simp [h]

theorem plc_kind {k : Int} {ks : List ByteArray} {il : Nat} {s : St} (h : (plc k ks il s).1 = 71 ∨ (plc k ks il s).1 = 82) : (s.1 = true ∧ k = 5) ∨ (s.1 = false ∧ k = 4) := by
  unfold plc at h
  by_cases h1 : s.1 = true
  · rw [if_pos h1] at h
    by_cases h2 : k = 5
    · exact Or.inl ⟨h1, h2⟩
    · rw [if_neg h2] at h; simp at h
  · rw [if_neg h1] at h
    by_cases h2 : k = 4
    · exact Or.inr ⟨by simpa using h1, h2⟩
    · rw [if_neg h2] at h; simp at h

theorem may_le {k b : Int} {t : ByteArray} {ks : List ByteArray} {il : Nat} (h : mayB k b t ks il = true) : il ≤ 32 := by
  unfold mayB at h
  split at h
  · simp only [Bool.and_eq_true] at h; have := h.2.2.2; simp at this; omega
  · split at h
    · simp only [Bool.and_eq_true] at h; have := h.2.2.2; simp at this; omega
    · split at h
      · simp only [Bool.and_eq_true] at h; have := h.2.2.2; simp at this; omega
      · split at h
        · simp only [Bool.and_eq_true] at h; have := h.2.2.2; simp at this; omega
        · split at h
          · simp only [Bool.and_eq_true] at h; have := h.2.2.2; simp at this; omega
          · split at h
            · simp only [Bool.and_eq_true] at h; have := h.2.2.1; simp at this; omega
            · cases h

theorem room_own {n g o : Nat} {w : World} {x : Value} {k b : Int} {t : ByteArray} {ks : List ByteArray} {its : List (V (n + 1))} {F : Nat → Prop} (s : St) (ha : At w g o x) (ho : Own w (n + 2) x (k, b, t, ks, its) F) (hF : ∀ b, F b → b < w.heap.size) (hg : ¬ F g)
    (hm : mayB k b t ks its.length = true) (hks : s.2.1.size ≤ 140737488351232) (hp : (plc k ks its.length s).1 = 71 ∨ (plc k ks its.length s).1 = 82) (hr : roomE its.length s = 0) :
    Calls Try.prog 19 #[.pointer (some ⟨g, o, none⟩), .agg #[.bool s.1, .string s.2.1, .int .i64 s.2.2]] w fun e w2 => e = .returned (.tuple #[.int .i64 (roomAt ks its.length s : Int), .int .i64 0]) ∧
      ∃ x2 F2, At w2 g o x2 ∧ Own w2 (n + 2) x2 (k, b, t, (if s.1 = true then ins ks (roomAt ks its.length s) s.2.1 else ks), ins its (roomAt ks its.length s) (nil5 n)) F2 ∧ (∀ b, F2 b → (F b ∨ w.heap.size ≤ b) ∧ b < w2.heap.size) ∧ ¬ F2 g ∧ Ch F g o w w2 := by
  obtain ⟨cur, d0, d1, d2, d3, d4, hgw, hxe, p0, p1, p2, p3, p4⟩ := ha
  obtain ⟨ka, kc, ia, ic, xs, G, rfl, hfit, hs, hK, hI, fK, fI, hit, hG, hd⟩ := ho
  simp only [mk, Value.agg.injEq, Array.mk.injEq, List.cons.injEq, and_true] at hxe
  obtain ⟨rfl, rfl, rfl, rfl, rfl⟩ := hxe
  have hil := may_le hm
  have hx5 := hI.1
  have h1 := one_of_own rfl hx5 hit
  have hgK : (Value.slice ka ks.length kc).ownBlock ≠ some g := fun e => hg (fK g e)
  have hgI : (Value.slice ia its.length ic).ownBlock ≠ some g := fun e => hg (fI g e)
  obtain ⟨q, key, idx⟩ := s
  have lt5 : o + 4 < cur.size := (Array.getElem?_eq_some_iff.1 p4).1
  rcases plc_kind hp with ⟨hq, rfl⟩ | ⟨hq, rfl⟩
  · simp only at hq hks
    subst hq
    obtain ⟨hup, hkl⟩ := up_of_may hm
    have hkey : keyB key = true := by
      cases h : keyB key with
      | true => rfl
      | false => simp [roomE, h] at hr
    have hil' : its.length < 32 := by
      simp only [roomE, if_true, hkey] at hr
      by_cases h : its.length = 32
      · rw [if_pos h] at hr; cases hr
      · omega
    have hlb := lb_le ks key
    refine (room_key g o kc its.length ic ka ia cur ks xs key idx w hgw p3 p4 hK hs hup hI h1 hgK hgI hil' hkl hkey).mono ?_
    rintro e w2 ⟨rfl, vk, vi, q1, q2, q3, q4, q5, q6⟩
    refine ⟨rfl, ?_⟩
    have hat : roomAt ks its.length (true, key, idx) = lb ks key := rfl
    simp only [hat, if_true]
    have hkl' : (ins ks (lb ks key) key).length = its.length + 1 := by rw [ins_length _ _ _ hlb, hkl]
    refine room_pack (ks' := ins ks (lb ks key) key) (vk := vk) (vi := vi) (o := o) hfit hI fK fI hit hG hd hF hg hgw (by omega) q1 (by simp) ?_ ?_ ?_ ?_ ?_ ?_ ?_ q3 q4 q5 q6 ?_ (by omega) (by omega)
    · intro j hj
      rw [Array.getElem?_setIfInBounds_ne (by omega), Array.getElem?_setIfInBounds_ne (by omega)]
    · rw [Array.getElem?_setIfInBounds_ne (by omega), Array.getElem?_setIfInBounds_ne (by omega)]; exact p0
    · rw [Array.getElem?_setIfInBounds_ne (by omega), Array.getElem?_setIfInBounds_ne (by omega)]; exact p1
    · rw [Array.getElem?_setIfInBounds_ne (by omega), Array.getElem?_setIfInBounds_ne (by omega)]; exact p2
    · rw [Array.getElem?_setIfInBounds_ne (by omega)]; exact set_here _ (by omega)
    · exact set_here _ (by rw [Array.size_setIfInBounds]; omega)
    · rw [hkl']; exact q2
    · intro s' hs'
      unfold ins at hs'
      rcases List.mem_append.1 hs' with h' | h'
      · exact hs s' (List.mem_of_mem_take h')
      · rcases List.mem_cons.1 h' with rfl | h'
        · exact hks
        · exact hs s' (List.mem_of_mem_drop h')
  · simp only at hq hks
    subst hq
    have hxi : idx = its.length := by
      simp only [roomE] at hr
      by_cases h : idx = its.length
      · exact h
      · simp [h] at hr
    subst hxi
    have hil' : its.length < 32 := by
      simp only [roomE] at hr
      by_cases h : its.length = 32
      · simp [h] at hr
      · omega
    refine (room_idx g o its.length ic ia cur xs key w hgw p4 hI h1 hgI hil').mono ?_
    rintro e w2 ⟨rfl, vi, q1, q2, q3, q4⟩
    refine ⟨rfl, ?_⟩
    have hat : roomAt ks its.length (false, key, (its.length : Int)) = its.length := rfl
    simp only [hat]
    rw [if_neg (by decide)]
    have hkw : w2.ownsRow 0 9 1 (.slice ka ks.length kc) ks.length (ks.map Value.string) := ownsRow_same hK fun b' hb' => q3.block b' (hK.lt b' hb').2 (fun e => hgK (by rw [← e]; exact hb')) (ne_blocks hK hI b' hb') (by simp)
    refine room_pack (ks' := ks) (vk := .slice ka ks.length kc) (vi := vi) (o := o) hfit hI fK fI hit hG hd hF hg hgw (Nat.le_refl _) q1 (by simp) ?_ ?_ ?_ ?_ ?_ ?_ hkw q2 ⟨q3.os, q3.tape, q3.output, q3.size, fun j hj hjg _ hji => q3.block j hj hjg hji (by simp)⟩ (Or.inl rfl) q4 hs hfit.2.2.2.2.2.1 (by omega)
    · intro j hj
      rw [Array.getElem?_setIfInBounds_ne (by omega)]
    · rw [Array.getElem?_setIfInBounds_ne (by omega)]; exact p0
    · rw [Array.getElem?_setIfInBounds_ne (by omega)]; exact p1
    · rw [Array.getElem?_setIfInBounds_ne (by omega)]; exact p2
    · rw [Array.getElem?_setIfInBounds_ne (by omega)]; exact p3
    · exact set_here _ (by omega)
end Go.Proofs.Ytkjiiggboblioaa
