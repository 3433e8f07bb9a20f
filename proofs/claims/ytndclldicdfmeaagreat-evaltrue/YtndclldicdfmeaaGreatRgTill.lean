/-
  A region whose order is open, of which one operation (a store, say) comes behind all that read what it changes: what is read may be taken first, though it does not stay behind that operation.
-/
import Derived.Test.YtndclldicdfmeaaGreatRows
import Derived.WalkKit
import Derived.ProofKit
import Derived.OrdersHeld
import Derived.Below
namespace Go.Proofs.YtndclldicdfmeaaGreat.Rg
open Go Go.RowKit

section
variable {P : Program} {ops : Array Oper} {Q : Exit → Act → World → Prop} {S : World → Prop} {k : Nat}

/-- Whatever comes up: behind each operation but number k the world is one of S. -/
def Till (P : Program) (ops : Array Oper) (Q : Exit → Act → World → Prop) (S : World → Prop) (k : Nat) : Nat → Array Bool → Act → World → Prop
  | 0, listed, a, w => Region.ready .any ops listed = [] ∧ Q .normal a w
  | n + 1, listed, a, w => (Region.ready .any ops listed = [] → Q .normal a w) ∧
      ∀ i ∈ Region.ready .any ops listed, wpOp P ops Q i (fun a' w' => (i ≠ k → S w') ∧ Till P ops Q S k n (listed.setIfInBounds i true) a' w') a w

theorem Till.any : ∀ {n : Nat} {listed : Array Bool} {a : Act} {w : World}, Till P ops Q S k n listed a w → wpAny P .any ops Q n listed a w
  | 0, _, _, _, h => h
  | _ + 1, _, _, _, h => And.intro h.1 fun i hi => wpOp_mono (fun _ _ q => Till.any q.2) (h.2 i hi)

/-- Does number k wait for number i? -/
def waitsB (ops : Array Oper) (k i : Nat) : Bool := match ops[k]? with
  | none => false
  | some o => o.after.any fun e => Region.binds .any e && e.on == i

theorem not_ready {i : Nat} {listed : Array Bool} (hw : waitsB ops k i = true) (hi : i ∈ Region.ready .any ops listed) : ¬ k ∈ Region.ready .any ops listed := by
  intro hk
  obtain ⟨_, o, ho, hall⟩ := mem_ready.1 hk
  unfold waitsB at hw
  rw [ho] at hw
  obtain ⟨e, he, hb⟩ := Array.any_eq_true'.1 hw
  simp only [Bool.and_eq_true, beq_iff_eq] at hb
  have h1 := hall e he hb.1
  rw [hb.2] at h1
  have h0 := (mem_ready.1 hi).1
  by_cases hlt : i < listed.size
  · simp only [Array.getD_eq_getD_getElem?, Array.getElem?_eq_getElem hlt, Option.getD_some] at h0 h1
    rw [h0] at h1
    cases h1
  · simp [Array.getElem?_eq_none (Nat.le_of_not_lt hlt)] at h0

/-- What only reads, and gives its value in every world of S, and for which number k waits, may be taken first. -/
theorem Till.take {i : Nat} {oi : Oper} {v : Value} (d : Option Tmp) (hi : ops[i]? = some oi) (hd : oi.dst = d) (hs : Region.noSelect ops = true) (hk : waitsB ops k i = true) (hQ : ∀ c a w, Q (.panic c) (a.put d v) w → Q (.panic c) a w) :
    ∀ {n : Nat} {listed : Array Bool} {a : Act} {w : World}, Region.free .any ops listed i = true → (Region.ready .any ops listed).contains i = true → YieldsIf P ops S oi v a → S w →
      Till P ops Q S k n (listed.setIfInBounds i true) (a.put d v) w → Till P ops Q S k (n + 1) listed a w := by
  subst hd
  have key : ∀ (n : Nat) (listed : Array Bool) (a : Act) (w : World),
      (∀ j oj, ops[j]? = some oj → j ≠ i → listed.getD j true = false → (∀ e ∈ oj.after, Region.binds .any e = true → e.on ≠ i) → oi.apart ops oj = true) → i ∈ Region.ready .any ops listed → YieldsIf P ops S oi v a → S w →
      Till P ops Q S k n (listed.setIfInBounds i true) (a.put oi.dst v) w → Till P ops Q S k (n + 1) listed a w := by
    intro n
    induction n with
    | zero =>
      intro listed a w _ hr hy hS H
      refine ⟨fun e => absurd hr (by rw [e]; simp), fun j hj => ?_⟩
      by_cases hji : j = i
      · rw [hji] at hj ⊢
        exact hy.wpOp hi hS ⟨fun _ => hS, H⟩
      · exact absurd (ready_mono hj hji) (by rw [H.1]; simp)
    | succ n ih =>
      intro listed a w hap hr hy hS H
      refine ⟨fun e => absurd hr (by rw [e]; simp), fun j hj => ?_⟩
      by_cases hji : j = i
      · rw [hji] at hj ⊢
        exact hy.wpOp hi hS ⟨fun _ => hS, H⟩
      · have hjk : j ≠ k := fun e => not_ready hk hr (by rw [← e]; exact hj)
        obtain ⟨hun, oj, hoj, hall⟩ := mem_ready.1 hj
        have hno : ∀ e ∈ oj.after, Region.binds .any e = true → e.on ≠ i := fun e he hb e1 => by
          refine not_ready (k := j) (ops := ops) (i := i) ?_ hr hj
          unfold waitsB
          rw [hoj]
          exact Array.any_eq_true'.2 ⟨e, he, by simp [hb, e1]⟩
        have h2 := wpOp_putIf hoj (hap j oj hoj hji hun hno) (fun cs b => Region.noSelect_spec hs i oi cs b hi) (fun cs b => Region.noSelect_spec hs j oj cs b hoj) hQ hy (H.2 j (ready_mono hj hji))
        refine wpOp_mono (fun a' w' q => ⟨fun _ => q.2.1 hjk, ih _ a' w' (fun m om hm hmi hmu hmo => hap m om hm hmi ?_ hmo) (ready_mono hr (Ne.symm hji)) q.1 (q.2.1 hjk) ?_⟩) h2
        · by_cases e : j = m
          · rw [← e]; exact hun
          · rwa [getD_set_ne true e] at hmu
        · rw [Array.setIfInBounds_comm _ _ hji]
          exact q.2.2
  intro n listed a w hf hr hy hS H
  exact key n listed a w (Region.free_spec hi hf) (by simpa using hr) hy hS H

/-- One of those that may come up. -/
theorem Till.all {rs : List Nat} {n : Nat} {listed : Array Bool} {a : Act} {w : World} (hr : Region.ready .any ops listed = rs) (hne : rs ≠ []) (h : ∀ i ∈ rs, wpOp P ops Q i (fun a' w' => (i ≠ k → S w') ∧ Till P ops Q S k n (listed.setIfInBounds i true) a' w') a w) :
    Till P ops Q S k (n + 1) listed a w := ⟨fun h0 => absurd (hr.symm.trans h0) hne, by rw [hr]; exact h⟩

theorem Till.one {i : Nat} {o : Oper} {n : Nat} {listed : Array Bool} {a : Act} {w : World} (hr : Region.ready .any ops listed = [i]) (ho : ops[i]? = some o) (hg : o.guard = none)
    (h : Oper.wp P o a w (fun a' w' => (i ≠ k → S w') ∧ Till P ops Q S k n (listed.setIfInBounds i true) a' w') Q) : Till P ops Q S k (n + 1) listed a w := by
  refine Till.all hr (by simp) fun j hj => ?_
  rw [List.mem_singleton] at hj
  subst hj
  unfold wpOp
  simp only [ho]
  rw [if_pos (by simp [Region.wanted, hg])]
  exact Or.inl h

/-- The same, with what follows as a letter. -/
theorem Till.oneK {i : Nat} {o : Oper} {n : Nat} {listed : Array Bool} {a : Act} {w : World} (hr : Region.ready .any ops listed = [i]) (ho : ops[i]? = some o) (hg : o.guard = none)
    (h : ∀ K : Act → World → Prop, Hid (∀ a' w', (i ≠ k → S w') → Till P ops Q S k n (listed.setIfInBounds i true) a' w' → K a' w') → Oper.wp P o a w K Q) : Till P ops Q S k (n + 1) listed a w :=
  Till.one hr ho hg (h _ fun _ _ q1 q2 => ⟨q1, q2⟩)

theorem Till.two {i j : Nat} {oi oj : Oper} {n : Nat} {listed : Array Bool} {a : Act} {w : World} (hr : Region.ready .any ops listed = [i, j]) (hi : ops[i]? = some oi) (hj : ops[j]? = some oj) (gi : oi.guard = none) (gj : oj.guard = none)
    (h1 : Oper.wp P oi a w (fun a' w' => (i ≠ k → S w') ∧ Till P ops Q S k n (listed.setIfInBounds i true) a' w') Q) (h2 : Oper.wp P oj a w (fun a' w' => (j ≠ k → S w') ∧ Till P ops Q S k n (listed.setIfInBounds j true) a' w') Q) : Till P ops Q S k (n + 1) listed a w := by
  refine Till.all hr (by simp) fun m hm => ?_
  simp only [List.mem_cons, List.not_mem_nil, or_false] at hm
  rcases hm with rfl | rfl
  · unfold wpOp
    simp only [hi]
    rw [if_pos (by simp [Region.wanted, gi])]
    exact Or.inl h1
  · unfold wpOp
    simp only [hj]
    rw [if_pos (by simp [Region.wanted, gj])]
    exact Or.inl h2

theorem Till.twoK {i j : Nat} {oi oj : Oper} {n : Nat} {listed : Array Bool} {a : Act} {w : World} (hr : Region.ready .any ops listed = [i, j]) (hi : ops[i]? = some oi) (hj : ops[j]? = some oj) (gi : oi.guard = none) (gj : oj.guard = none)
    (h1 : ∀ K : Act → World → Prop, Hid (∀ a' w', (i ≠ k → S w') → Till P ops Q S k n (listed.setIfInBounds i true) a' w' → K a' w') → Oper.wp P oi a w K Q)
    (h2 : ∀ K : Act → World → Prop, Hid (∀ a' w', (j ≠ k → S w') → Till P ops Q S k n (listed.setIfInBounds j true) a' w' → K a' w') → Oper.wp P oj a w K Q) : Till P ops Q S k (n + 1) listed a w :=
  Till.two hr hi hj gi gj (h1 _ fun _ _ q1 q2 => ⟨q1, q2⟩) (h2 _ fun _ _ q1 q2 => ⟨q1, q2⟩)

theorem Till.done {n : Nat} {listed : Array Bool} {a : Act} {w : World} (hr : Region.ready .any ops listed = []) (h : Q .normal a w) : Till P ops Q S k n listed a w := by
  cases n with
  | zero => exact ⟨hr, h⟩
  | succ n => exact ⟨fun _ => h, by rw [hr]; intro i hi; cases hi⟩

theorem Till.region {id : Nat} {a : Act} {w : World} (S : World → Prop) (k : Nat) (hm : P.follows .mixedOrders = true) (h : Till P ops Q S k ops.size (Array.replicate ops.size false) a w.drew) : (Code.region id ops true).wp P Q a w :=
  wp_region_any hm h.any
end
end Go.Proofs.YtndclldicdfmeaaGreat.Rg
