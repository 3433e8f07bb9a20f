/-
  The page's reader: fields of a record, what the loop keeps.
-/
import Derived.Test.YtclmlifhhfkagaaPkRMem
namespace Go.Proofs.Ytclmlifhhfkagaa
open Go.ChangeShapes Go.WideShapes Go.ChangeAt Go.RowKit
open Fl

theorem rdText_bad {o : UInt8} {r : List UInt8} (h : o.toNat < 1 ∨ 16 < o.toNat) : rdText 1 16 (o :: r) = .error 5 := by
  simp only [rdText]; rw [if_pos h]
theorem rdText_short {o : UInt8} {r : List UInt8} (h : ¬ (o.toNat < 1 ∨ 16 < o.toNat)) (h1 : r.length < o.toNat) : rdText 1 16 (o :: r) = .error 8 := by
  simp only [rdText, nxtN]; rw [if_neg h, if_pos h1]
theorem rdText_good {o : UInt8} {r : List UInt8} (h : ¬ (o.toNat < 1 ∨ 16 < o.toNat)) (h1 : o.toNat ≤ r.length) : rdText 1 16 (o :: r) = .ok (⟨(r.take o.toNat).toArray⟩, r.drop o.toNat) := by
  simp only [rdText, nxtN]; rw [if_neg h, if_neg (by omega)]

/-- What the loop over a record's fields keeps. -/
def FInv (n M : Nat) (start : Except Int (List ByteArray × List (V n) × RS)) (p : Nat) (a : Option Addr) (c : Nat) (bs : List UInt8) (w wr : World) (m : Nat) (last : ByteArray) (kv v : Value) : Prop :=
  (∃ ks acc s xs H, m ≤ M ∧ acc.length = m ∧ ks.length = m ∧ (∀ k ∈ ks, k.size ≤ 16) ∧ (∀ k, ks.getLast? = some k → k = last) ∧ start = iterE (stepF (rd n)) (M - m) (ks, acc, s) ∧ RAt wr p a c bs s ∧ s.2 + s.1.length ≤ 281474976710656 ∧ Mem w wr p kv v ks m xs ∧
    OwnL wr n v acc H ∧ (∀ b, H b → w.heap.size + 2 ≤ b ∧ b < wr.heap.size) ∧ ∀ b, kv.ownBlock = some b → ¬ H b) ∨
  (∃ er ks xs L, start = .error er ∧ RErr wr p 281474976710660 er ∧ Mem w wr p kv v ks L xs)

/-- Behind the key. -/
def KInv (n M : Nat) (start : Except Int (List ByteArray × List (V n) × RS)) (p : Nat) (a : Option Addr) (c : Nat) (bs : List UInt8) (w wc : World) (m : Nat) (last : ByteArray) (kv v : Value) : Prop :=
  (∃ ks acc s xs H, m < M ∧ acc.length = m ∧ ks.length = m + 1 ∧ (∀ k ∈ ks, k.size ≤ 16) ∧ ks.getLast? = some last ∧ (∀ er, rd n s = .error er → start = .error er) ∧ (∀ u s', rd n s = .ok (u, s') → start = iterE (stepF (rd n)) (M - (m + 1)) (ks, acc ++ [u], s')) ∧
    RAt wc p a c bs s ∧ s.2 + s.1.length ≤ 281474976710656 ∧ Mem w wc p kv v ks m xs ∧ OwnL wc n v acc H ∧ (∀ b, H b → w.heap.size + 2 ≤ b ∧ b < wc.heap.size) ∧ ∀ b, kv.ownBlock = some b → ¬ H b) ∨
  (∃ er ks xs, start = .error er ∧ RErr wc p 281474976710658 er ∧ Mem w wc p kv v ks m xs)

theorem KInv.ok {n M : Nat} {start : Except Int (List ByteArray × List (V n) × RS)} {p : Nat} {a : Option Addr} {c : Nat} {bs : List UInt8} {w wX w4 : World} {m : Nat} {key : ByteArray} {kv v kv' : Value} {ks : List ByteArray} {acc : List (V n)} {s : RS} {xs : List Value} {H : Nat → Prop} {o : Obj}
    (hM : m < M) (h1 : acc.length = m) (h2 : ks.length = m) (h3 : ∀ k ∈ ks, k.size ≤ 16) (h4 : key.size ≤ 16) (h5 : ∀ er, rd n s = .error er → start = .error er) (h6 : ∀ u s', rd n s = .ok (u, s') → start = iterE (stepF (rd n)) (M - (m + 1)) (ks ++ [key], acc ++ [u], s'))
    (h7 : RAt wX p a c bs s) (h8 : s.2 + s.1.length ≤ 281474976710656) (h9 : Mem w wX p kv v ks m xs) (hL : OwnL wX n v acc H) (hH : ∀ b, H b → w.heap.size + 2 ≤ b ∧ b < wX.heap.size) (hk : ∀ b, kv.ownBlock = some b → ¬ H b)
    (k1 : OwnK w4 kv' (ks ++ [key])) (k2 : (wX.alloc o).grownBy w4 kv.ownBlock) (k3 : kv'.ownBlock = kv.ownBlock ∨ ∀ g, kv'.ownBlock = some g → (wX.alloc o).heap.size ≤ g) :
    KInv n M start p a c bs w (w4.setCell ⟨w.heap.size, 3, none⟩ kv') m key kv' v := by
  obtain ⟨q1, q2, q3, q4⟩ := h9.key k1 k2 k3
  have hp := h9.lt
  have hw := h9.grown.size
  refine Or.inl ⟨ks ++ [key], acc, s, xs, H, hM, h1, by simp [h2], fun k hk => ?_, by simp, h5, h6, h7.same (q2 p (by omega) (by omega) fun e => by have := (h9.keyr p e).1; omega), h8, q1, hL.same fun b hb => q2 b (hH b hb).2 (by have := (hH b hb).1; omega) fun e => hk b e hb, fun b hb => by have := hH b hb; omega, fun b hb hHb => ?_⟩
  · rcases List.mem_append.1 hk with hk | hk
    · exact h3 k hk
    · simp at hk; subst hk; exact h4
  · rcases k3 with e | e
    · exact hk b (by rw [← e]; exact hb) hHb
    · have := e b hb
      have := (hH b hHb).2
      simp at *
      omega

theorem KInv.err {n M : Nat} {start : Except Int (List ByteArray × List (V n) × RS)} {p : Nat} {a : Option Addr} {c : Nat} {bs : List UInt8} {w wX w4 : World} {m : Nat} {key : ByteArray} {kv v kv' : Value} {ks ks' : List ByteArray} {xs : List Value} {o : Obj} {er : Int}
    (h5 : start = .error er) (h7 : RErr wX p 281474976710658 er) (h9 : Mem w wX p kv v ks m xs)
    (k1 : OwnK w4 kv' ks') (k2 : (wX.alloc o).grownBy w4 kv.ownBlock) (k3 : kv'.ownBlock = kv.ownBlock ∨ ∀ g, kv'.ownBlock = some g → (wX.alloc o).heap.size ≤ g) :
    KInv n M start p a c bs w (w4.setCell ⟨w.heap.size, 3, none⟩ kv') m key kv' v := by
  obtain ⟨q1, q2, q3, q4⟩ := h9.key k1 k2 k3
  have hp := h9.lt
  have hw := h9.grown.size
  exact Or.inr ⟨er, ks', xs, h5, h7.same (q2 p (by omega) (by omega) fun e => by have := (h9.keyr p e).1; omega), q1⟩

/-- The call of value behind the key. -/
theorem KInv.calls {n M : Nat} {start : Except Int (List ByteArray × List (V n) × RS)} {p : Nat} {a : Option Addr} {c : Nat} {bs : List UInt8} {w wc : World} {m : Nat} {last : ByteArray} {kv v : Value} {d : Int} {s0 : RS} (h : KInv n M start p a c bs w wc m last kv v) (hv : ValAt n) (hr : RAt w p a c bs s0) (ho : Oct w a c bs) (hd1 : 1 ≤ d) (hd : d + 1 + n = 9) :
    (∃ er ks xs, start = .error er ∧ Mem w wc p kv v ks m xs ∧ Calls Try.prog 40 #[.pointer (some ⟨p, 0, none⟩), .int .i64 (d + 1)] wc.drew fun e w3 => ∃ y, e = .returned y ∧ (wc.grownBy w3 (some p) ∧ RErr w3 p 281474976710660 er ∧ Some5 y)) ∨
    (∃ ks acc u s' xs H, m < M ∧ acc.length = m ∧ ks.length = m + 1 ∧ (∀ k ∈ ks, k.size ≤ 16) ∧ ks.getLast? = some last ∧ start = iterE (stepF (rd n)) (M - (m + 1)) (ks, acc ++ [u], s') ∧ s'.2 + s'.1.length ≤ 281474976710656 ∧ Mem w wc p kv v ks m xs ∧ OwnL wc n v acc H ∧ (∀ b, H b → w.heap.size + 2 ≤ b ∧ b < wc.heap.size) ∧ (∀ b, kv.ownBlock = some b → ¬ H b) ∧
      Calls Try.prog 40 #[.pointer (some ⟨p, 0, none⟩), .int .i64 (d + 1)] wc.drew fun e w3 => ∃ y, e = .returned y ∧ (wc.grownBy w3 (some p) ∧ RAt w3 p a c bs s' ∧ ∃ F, Own w3 n y u F ∧ ∀ b, F b → wc.heap.size ≤ b ∧ b < w3.heap.size)) := by
  rcases h with ⟨ks, acc, s, xs, H, hM, h1, h2, h3, h4, h5, h6, h7, h8, h9, hL, hH, hk⟩ | ⟨er, ks, xs, h1, h2, h3⟩
  · have HCP := hv s p a c bs (d + 1) wc.drew (h7.same rfl) (by
      have := ho.grown4 hr h9.grown
      exact this.below (Below_drewN _ _ 1)) h8 (by omega) hd
    cases hrd : rd n s with
    | error er =>
      rw [hrd] at HCP
      refine Or.inl ⟨er, ks, xs, h5 er hrd, h9, HCP.mono fun e w3 hp => ?_⟩
      obtain ⟨hg, ⟨er', q1, q2, y, q3, q4⟩ | ⟨u', s'', q1, _⟩⟩ := hp
      · cases q1
        exact ⟨y, q3, ⟨hg.os, hg.tape, hg.output, hg.size, hg.block⟩, q2, q4⟩
      · cases q1
    | ok us =>
      obtain ⟨u, s'⟩ := us
      rw [hrd] at HCP
      refine Or.inr ⟨ks, acc, u, s', xs, H, hM, h1, h2, h3, h4, h6 u s' hrd, Nat.le_trans (rd_sum hrd).2 h8, h9, hL, hH, hk, HCP.mono fun e w3 hp => ?_⟩
      obtain ⟨hg, ⟨er, q1, _⟩ | ⟨u', s'', q1, q2, y, F, q3, q4, q5⟩⟩ := hp
      · cases q1
      · cases q1
        exact ⟨y, q3, ⟨hg.os, hg.tape, hg.output, hg.size, hg.block⟩, q2, F, q4, q5⟩
  · refine Or.inl ⟨er, ks, xs, h1, h3, (rvalue_err p 281474976710658 er (d + 1) wc.drew (h2.same rfl) (by decide)).mono fun e w3 hp => ?_⟩
    obtain ⟨hg, q2, y, q3, q4⟩ := hp
    exact ⟨y, q3, ⟨hg.os, hg.tape, hg.output, hg.size, hg.block⟩, q2.mono (by decide), q4⟩

theorem FInv.err {n M : Nat} {start : Except Int (List ByteArray × List (V n) × RS)} {p : Nat} {a : Option Addr} {c : Nat} {bs : List UInt8} {w wc w3 w5 : World} {m L' : Nat} {last : ByteArray} {kv v v' : Value} {ks : List ByteArray} {xs xs' : List Value} {o : Obj} {er : Int}
    (h5 : start = .error er) (hg : wc.grownBy w3 (some p)) (h7 : RErr w3 p 281474976710660 er) (h9 : Mem w wc p kv v ks m xs)
    (k1 : w5.ownsRow 0 50 5 v' L' xs') (k2 : (w3.alloc o).grownBy w5 v.ownBlock) (k3 : v'.ownBlock = v.ownBlock ∨ ∀ g, v'.ownBlock = some g → (w3.alloc o).heap.size ≤ g) :
    FInv n M start p a c bs w (w5.setCell ⟨w.heap.size, 4, none⟩ v') (m + 1) last kv v' := by
  have h10 := h9.next hg
  obtain ⟨q1, q2, q3, q4⟩ := h10.item k1 k2 k3
  have hp := h9.lt
  have hw := h10.grown.size
  exact Or.inr ⟨er, ks, _, _, h5, h7.same (q2 p (by omega) (by omega) fun e => by have := (h10.rowr p e).1; omega), q1⟩

theorem FInv.ok {n M : Nat} {start : Except Int (List ByteArray × List (V n) × RS)} {p : Nat} {a : Option Addr} {c : Nat} {bs : List UInt8} {w wc w3 w5 : World} {m : Nat} {last : ByteArray} {kv v v' : Value} {ks : List ByteArray} {acc : List (V n)} {u : V n} {s' : RS} {xs : List Value} {H F : Nat → Prop} {o : Obj}
    (hM : m < M) (h1 : acc.length = m) (h2 : ks.length = m + 1) (h3 : ∀ k ∈ ks, k.size ≤ 16) (h4 : ks.getLast? = some last) (h5 : start = iterE (stepF (rd n)) (M - (m + 1)) (ks, acc ++ [u], s')) (h8 : s'.2 + s'.1.length ≤ 281474976710656) (h9 : Mem w wc p kv v ks m xs) (hL : OwnL wc n v acc H) (hH : ∀ b, H b → w.heap.size + 2 ≤ b ∧ b < wc.heap.size) (hk : ∀ b, kv.ownBlock = some b → ¬ H b)
    (hg : wc.grownBy w3 (some p)) (h7 : RAt w3 p a c bs s') (hF : ∀ b, F b → wc.heap.size ≤ b ∧ b < w3.heap.size)
    (k1 : OwnL w5 n v' (acc ++ [u]) (fun b => H b ∨ F b ∨ v'.ownBlock = some b)) (k2 : (w3.alloc o).grownBy w5 v.ownBlock) (k3 : v'.ownBlock = v.ownBlock ∨ ∀ g, v'.ownBlock = some g → (w3.alloc o).heap.size ≤ g) :
    FInv n M start p a c bs w (w5.setCell ⟨w.heap.size, 4, none⟩ v') (m + 1) last kv v' := by
  have h10 := h9.next hg
  have k1' := k1
  obtain ⟨xs', G, r1, r2⟩ := k1'
  have hl : (acc ++ [u]).length = m + 1 := by simp [h1]
  rw [hl] at r1
  obtain ⟨q1, q2, q3, q4⟩ := h10.item r1 k2 k3
  have hp := h9.lt
  have hw := h10.grown.size
  have hwc := hg.size
  have sw : (w5.setCell ⟨w.heap.size, 4, none⟩ v').heap.size = w5.heap.size := by simp [World.setCell]
  have rng : ∀ b, (H b ∨ F b ∨ v'.ownBlock = some b) → w.heap.size + 2 ≤ b ∧ b < w5.heap.size := fun b hb => by
    have hwc2 : w.heap.size + 2 ≤ wc.heap.size := lt_of_block h9.res
    rcases hb with hb | hb | hb
    · have := hH b hb; omega
    · have := hF b hb; omega
    · have := q1.rowr b hb; omega
  refine Or.inl ⟨ks, acc ++ [u], s', xs', _, by omega, hl, h2, h3, fun k hk => by rw [h4] at hk; exact (Option.some.inj hk).symm, h5, h7.same (q2 p (by omega) (by omega) fun e => by have := (h10.rowr p e).1; omega), h8, q1, k1.same fun b hb => Below.heap_setCell _ _ _ _ (by have := (rng b hb).1; simp only; omega), fun b hb => by rw [sw]; exact rng b hb, fun b hb hHb => ?_⟩
  have hb2 := (h9.keyr b hb).2
  rcases hHb with e | e | e
  · exact hk b hb e
  · have := (hF b e).1; omega
  · rcases k3 with e' | e'
    · exact hk b hb ((hL.lt b (by rw [← e']; exact e)).1)
    · have := e' b e
      simp at this
      omega
end Go.Proofs.Ytclmlifhhfkagaa
