/-
  A part with room made, as a tree in memory of its own.
-/
import Derived.Test.YtocodkoanjcmkaaVaRoomOwn
namespace Go.Proofs.Ytocodkoanjcmkaa
open Go.ChangeShapes Go.WideShapes Go.ChangeAt Go.RowKit
open Fl

theorem room_pack {n g o a : Nat} {w w2 : World} {cur cur' : Array Value} {k b : Int} {t : ByteArray} {ks ks' : List ByteArray} {its : List (V (n + 1))} {F : Nat → Prop} {ka ia : Option Addr} {kc ic : Nat} {xs : List Value} {G : Nat → Nat → Prop} {vk vi : Value}
    (hfit : Fit k b t ks.length kc its.length ic) (hI : w.ownsRow 0 26 5 (.slice ia its.length ic) its.length xs)
    (fK : ∀ b, (Value.slice ka ks.length kc).ownBlock = some b → F b) (fI : ∀ b, (Value.slice ia its.length ic).ownBlock = some b → F b) (hit : Items (Own w (n + 1)) its its.length xs G)
    (hG : ∀ i b, i < its.length → G i b → F b ∧ (Value.slice ka ks.length kc).ownBlock ≠ some b ∧ (Value.slice ia its.length ic).ownBlock ≠ some b) (hd : ∀ i j b, i < its.length → j < its.length → G i b → G j b → i = j)
    (hF : ∀ b, F b → b < w.heap.size) (hg : ¬ F g) (hgw : w.heap[g]? = some (.cells cur 26 (0, 0))) (ha : a ≤ its.length)
    (hc : w2.heap[g]? = some (.cells cur' 26 (0, 0))) (hsz : cur'.size = cur.size) (hout : ∀ j, j < o ∨ o + 5 ≤ j → cur'[j]? = cur[j]?)
    (c0 : cur'[o]? = some (.int .i64 k)) (c1 : cur'[o + 1]? = some (.int .u64 b)) (c2 : cur'[o + 2]? = some (.string t)) (c3 : cur'[o + 3]? = some vk) (c4 : cur'[o + 4]? = some vi)
    (hvk : w2.ownsRow 0 9 1 vk ks'.length (ks'.map Value.string)) (hvi : w2.ownsRow 0 26 5 vi (its.length + 1) (xs.take (a * 5) ++ zcells ++ xs.drop (a * 5)))
    (R : Roomy w w2 g (Value.slice ka ks.length kc).ownBlock (Value.slice ia its.length ic).ownBlock) (bk : vk.ownBlock = (Value.slice ka ks.length kc).ownBlock ∨ ∀ b, vk.ownBlock = some b → w.heap.size ≤ b)
    (bi : vi.ownBlock = (Value.slice ia its.length ic).ownBlock ∨ ∀ b, vi.ownBlock = some b → w.heap.size ≤ b) (hs' : ∀ s ∈ ks', s.size ≤ 140737488351232) (lk : ks'.length * 16 ≤ 140737488351232) (li : (its.length + 1) * 80 ≤ 140737488351232) :
    ∃ x2 F2, At w2 g o x2 ∧ Own w2 (n + 2) x2 (k, b, t, ks', ins its a (nil5 n)) F2 ∧ (∀ b, F2 b → (F b ∨ w.heap.size ≤ b) ∧ b < w2.heap.size) ∧ ¬ F2 g ∧ Ch F g o w w2 := by
  have hgl := lt_of_block hgw
  have hrs := R.size
  obtain ⟨ka2, kc2, rfl⟩ := slice_of_own hvk
  obtain ⟨ia2, ic2, rfl⟩ := slice_of_own hvi
  have kIn : ∀ b', (Value.slice ka2 ks'.length kc2).ownBlock = some b' → (F b' ∨ w.heap.size ≤ b') ∧ b' < w2.heap.size ∧ b' ≠ g := fun b' hb' => by
    refine ⟨bk.elim (fun e => Or.inl (fK b' (by rw [← e]; exact hb'))) (fun e => Or.inr (e b' hb')), (hvk.lt b' hb').2, fun e => ?_⟩
    rcases bk with e' | e'
    · exact hg (by rw [← e]; exact fK b' (by rw [← e']; exact hb'))
    · have := e' b' hb'; omega
  have iIn : ∀ b', (Value.slice ia2 (its.length + 1) ic2).ownBlock = some b' → (F b' ∨ w.heap.size ≤ b') ∧ b' < w2.heap.size ∧ b' ≠ g := fun b' hb' => by
    refine ⟨bi.elim (fun e => Or.inl (fI b' (by rw [← e]; exact hb'))) (fun e => Or.inr (e b' hb')), (hvi.lt b' hb').2, fun e => ?_⟩
    rcases bi with e' | e'
    · exact hg (by rw [← e]; exact fI b' (by rw [← e']; exact hb'))
    · have := e' b' hb'; omega
  have hkeep : ∀ j b', j < its.length → G j b' → w2.heap[b']? = w.heap[b']? := fun j b' hj hb' => by
    have := hG j b' hj hb'
    exact R.block b' (hF b' this.1) (fun e => hg (by rw [← e]; exact this.1)) this.2.1 this.2.2
  have hln := ins_length its a (nil5 n) ha
  have hIt := items_ins ha (by have := hI.1; omega) hit hkeep
  have cK := cap_of_own hvk
  have cI := cap_of_own hvi
  obtain ⟨h_k, h_b, h_t, -⟩ := hfit
  have gIn : ∀ j b', j < its.length + 1 → (if j < a then G j b' else if j = a then False else G (j - 1) b') → ∃ j', j' < its.length ∧ G j' b' ∧ (j' = if j < a then j else j - 1) ∧ j ≠ a := fun j b' hj h => by
    by_cases h1 : j < a
    · rw [if_pos h1] at h; exact ⟨j, by omega, h, by rw [if_pos h1], by omega⟩
    · rw [if_neg h1] at h
      by_cases h2 : j = a
      · rw [if_pos h2] at h; exact h.elim
      · rw [if_neg h2] at h; exact ⟨j - 1, by omega, h, by rw [if_neg h1], h2⟩
  refine ⟨mk k b t ka2 ks'.length kc2 ia2 (its.length + 1) ic2, fun b' => (F b' ∨ w.heap.size ≤ b') ∧ b' < w2.heap.size ∧ b' ≠ g, ⟨cur', _, _, _, _, _, hc, rfl, c0, c1, c2, c3, c4⟩, ?_, fun b' hb' => ⟨hb'.1, hb'.2.1⟩, fun h => h.2.2 rfl, ?_⟩
  · refine ⟨ka2, kc2, ia2, ic2, xs.take (a * 5) ++ zcells ++ xs.drop (a * 5), fun j b' => if j < a then G j b' else if j = a then False else G (j - 1) b', by rw [hln], by rw [hln]; exact ⟨h_k, h_b, h_t, cK.1, cK.2, lk, cI.1, cI.2, li⟩, hs', hvk, by rw [hln]; exact hvi, kIn, by rw [hln]; exact iIn, by rw [hln]; exact hIt, ?_, ?_⟩
    · intro j b' hj hGj
      rw [hln] at hj ⊢
      obtain ⟨j', hj', hGj', -, -⟩ := gIn j b' hj hGj
      have q := hG j' b' hj' hGj'
      have hl := hF b' q.1
      refine ⟨⟨Or.inl q.1, by omega, fun e => hg (by rw [← e]; exact q.1)⟩, fun e => ?_, fun e => ?_⟩
      · rcases bk with e' | e'
        · exact q.2.1 (by rw [← e']; exact e)
        · have := e' b' e; omega
      · rcases bi with e' | e'
        · exact q.2.2 (by rw [← e']; exact e)
        · have := e' b' e; omega
    · intro j1 j2 b' h1 h2 g1 g2
      rw [hln] at h1 h2
      obtain ⟨p1, q1, r1, s1, t1⟩ := gIn j1 b' h1 g1
      obtain ⟨p2, q2, r2, s2, t2⟩ := gIn j2 b' h2 g2
      have := hd p1 p2 b' q1 q2 r1 r2
      split at s1 <;> split at s2 <;> omega
  · refine ⟨R.os, R.tape, R.output, R.size, fun j hj hn hjg => R.block j hj hjg (fun e => hn (fK j e)) (fun e => hn (fI j e)), fun c hcw => ?_⟩
    rw [hgw] at hcw
    have e : cur = c := by simpa using hcw
    subst e
    exact ⟨cur', hc, hsz, hout⟩
end Go.Proofs.Ytocodkoanjcmkaa
