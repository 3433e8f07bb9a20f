/-
  makeRoom on a part, in general.
-/
import Derived.Test.YtocodkoanjcmkaaVaRoomPack
namespace Go.Proofs.Ytocodkoanjcmkaa
open Go.ChangeShapes Go.WideShapes Go.ChangeAt Go.RowKit
open Fl

theorem set_here {c : Array Value} {j : Nat} (v : Value) (h : j < c.size) : (c.setIfInBounds j v)[j]? = some v := by
  rw [Array.getElem?_setIfInBounds]
  simp [h]

theorem plc_kind {k : Int} {ks : List ByteArray} {il : Nat} {s : St} (h : (plc k ks il s).1 = 71 ∨ (plc k ks il s).1 = 82) : (s.1 = true ∧ k = 5) ∨ (s.1 = false ∧ k = 4) := by
  unfold plc at h
  by_cases h1 : s.1 = true
  · rw [if_pos h1] at h
    by_cases h2 : k = 5
    · exact Or.inl ⟨h1, h2⟩
    · rw [if_neg h2] at h; simp at h
  · rw [if_neg h1] at h
    by_cases h2 : k = 4
    · exact Or.inr ⟨by simpa using h1, h2⟩
    · rw [if_neg h2] at h; simp at h

theorem may_le {k b : Int} {t : ByteArray} {ks : List ByteArray} {il : Nat} (h : mayB k b t ks il = true) : il ≤ 32 := by
  unfold mayB at h
  split at h
  · simp only [Bool.and_eq_true] at h; have := h.2.2.2; simp at this; omega
  · split at h
    · simp only [Bool.and_eq_true] at h; have := h.2.2.2; simp at this; omega
    · split at h
      · simp only [Bool.and_eq_true] at h; have := h.2.2.2; simp at this; omega
      · split at h
        · simp only [Bool.and_eq_true] at h; have := h.2.2.2; simp at this; omega
        · split at h
          · simp only [Bool.and_eq_true] at h; have := h.2.2.2; simp at this; omega
          · split at h
            · simp only [Bool.and_eq_true] at h; have := h.2.2.1; simp at this; omega
            · cases h

theorem room_own {n g o : Nat} {w : World} {x : Value} {k b : Int} {t : ByteArray} {ks : List ByteArray} {its : List (V (n + 1))} {F : Nat → Prop} (s : St) (ha : At w g o x) (ho : Own w (n + 2) x (k, b, t, ks, its) F) (hF : ∀ b, F b → b < w.heap.size) (hg : ¬ F g)
    (hm : mayB k b t ks its.length = true) (hks : s.2.1.size ≤ 140737488351232) (hp : (plc k ks its.length s).1 = 71 ∨ (plc k ks its.length s).1 = 82) (hr : roomE its.length s = 0) :
    Calls Try.prog 36 #[.pointer (some ⟨g, o, none⟩), .agg #[.bool s.1, .string s.2.1, .int .i64 s.2.2]] w fun e w2 => e = .returned (.tuple #[.int .i64 (roomAt ks its.length s : Int), .int .i64 0]) ∧
      ∃ x2 F2, At w2 g o x2 ∧ Own w2 (n + 2) x2 (k, b, t, (if s.1 = true then ins ks (roomAt ks its.length s) s.2.1 else ks), ins its (roomAt ks its.length s) (nil5 n)) F2 ∧ (∀ b, F2 b → (F b ∨ w.heap.size ≤ b) ∧ b < w2.heap.size) ∧ ¬ F2 g ∧ Ch F g o w w2 := by
  obtain ⟨cur, d0, d1, d2, d3, d4, hgw, hxe, p0, p1, p2, p3, p4⟩ := ha
  obtain ⟨ka, kc, ia, ic, xs, G, rfl, hfit, hs, hK, hI, fK, fI, hit, hG, hd⟩ := ho
  simp only [mk, Value.agg.injEq, Array.mk.injEq, List.cons.injEq, and_true] at hxe
  obtain ⟨rfl, rfl, rfl, rfl, rfl⟩ := hxe
  have hil := may_le hm
  have hx5 := hI.1
  have h1 := one_of_own rfl hx5 hit
  have hgK : (Value.slice ka ks.length kc).ownBlock ≠ some g := fun e => hg (fK g e)
  have hgI : (Value.slice ia its.length ic).ownBlock ≠ some g := fun e => hg (fI g e)
  obtain ⟨q, key, idx⟩ := s
  have lt5 : o + 4 < cur.size := (Array.getElem?_eq_some_iff.1 p4).1
  rcases plc_kind hp with ⟨hq, rfl⟩ | ⟨hq, rfl⟩
  · simp only at hq hks
    subst hq
    obtain ⟨hup, hkl⟩ := up_of_may hm
    have hkey : keyB key = true := by
      cases h : keyB key with
      | true => rfl
      | false => simp [roomE, h] at hr
    have hil' : its.length < 32 := by
      simp only [roomE, if_true, hkey] at hr
      by_cases h : its.length = 32
      · rw [if_pos h] at hr; cases hr
      · omega
    have hlb := lb_le ks key
    refine (room_key g o kc its.length ic ka ia cur ks xs key idx w hgw p3 p4 hK hs hup hI h1 hgK hgI hil' hkl hkey).mono ?_
    rintro e w2 ⟨rfl, vk, vi, q1, q2, q3, q4, q5, q6⟩
    refine ⟨rfl, ?_⟩
    have hat : roomAt ks its.length (true, key, idx) = lb ks key := rfl
    simp only [hat, if_true]
    have hkl' : (ins ks (lb ks key) key).length = its.length + 1 := by rw [ins_length _ _ _ hlb, hkl]
    refine room_pack (ks' := ins ks (lb ks key) key) (vk := vk) (vi := vi) (o := o) hfit hI fK fI hit hG hd hF hg hgw (by omega) q1 (by simp) ?_ ?_ ?_ ?_ ?_ ?_ ?_ q3 q4 q5 q6 ?_ (by omega) (by omega)
    · intro j hj
      rw [Array.getElem?_setIfInBounds_ne (by omega), Array.getElem?_setIfInBounds_ne (by omega)]
    · rw [Array.getElem?_setIfInBounds_ne (by omega), Array.getElem?_setIfInBounds_ne (by omega)]; exact p0
    · rw [Array.getElem?_setIfInBounds_ne (by omega), Array.getElem?_setIfInBounds_ne (by omega)]; exact p1
    · rw [Array.getElem?_setIfInBounds_ne (by omega), Array.getElem?_setIfInBounds_ne (by omega)]; exact p2
    · rw [Array.getElem?_setIfInBounds_ne (by omega)]; exact set_here _ (by omega)
    · exact set_here _ (by rw [Array.size_setIfInBounds]; omega)
    · rw [hkl']; exact q2
    · intro s' hs'
      unfold ins at hs'
      rcases List.mem_append.1 hs' with h' | h'
      · exact hs s' (List.mem_of_mem_take h')
      · rcases List.mem_cons.1 h' with rfl | h'
        · exact hks
        · exact hs s' (List.mem_of_mem_drop h')
  · simp only at hq hks
    subst hq
    have hxi : idx = its.length := by
      simp only [roomE] at hr
      by_cases h : idx = its.length
      · exact h
      · simp [h] at hr
    subst hxi
    have hil' : its.length < 32 := by
      simp only [roomE] at hr
      by_cases h : its.length = 32
      · simp [h] at hr
      · omega
    refine (room_idx g o its.length ic ia cur xs key w hgw p4 hI h1 hgI hil').mono ?_
    rintro e w2 ⟨rfl, vi, q1, q2, q3, q4⟩
    refine ⟨rfl, ?_⟩
    have hat : roomAt ks its.length (false, key, (its.length : Int)) = its.length := rfl
    simp only [hat]
    rw [if_neg (by decide)]
    have hkw : w2.ownsRow 0 9 1 (.slice ka ks.length kc) ks.length (ks.map Value.string) := ownsRow_same hK fun b' hb' => q3.block b' (hK.lt b' hb').2 (fun e => hgK (by rw [← e]; exact hb')) (ne_blocks hK hI b' hb') (by simp)
    refine room_pack (ks' := ks) (vk := .slice ka ks.length kc) (vi := vi) (o := o) hfit hI fK fI hit hG hd hF hg hgw (Nat.le_refl _) q1 (by simp) ?_ ?_ ?_ ?_ ?_ ?_ hkw q2 ⟨q3.os, q3.tape, q3.output, q3.size, fun j hj hjg _ hji => q3.block j hj hjg hji (by simp)⟩ (Or.inl rfl) q4 hs hfit.2.2.2.2.2.1 (by omega)
    · intro j hj
      rw [Array.getElem?_setIfInBounds_ne (by omega)]
    · rw [Array.getElem?_setIfInBounds_ne (by omega)]; exact p0
    · rw [Array.getElem?_setIfInBounds_ne (by omega)]; exact p1
    · rw [Array.getElem?_setIfInBounds_ne (by omega)]; exact p2
    · rw [Array.getElem?_setIfInBounds_ne (by omega)]; exact p3
    · exact set_here _ (by omega)
end Go.Proofs.Ytocodkoanjcmkaa
