/-
  Nodes in a row of one's own, their attributes and kids in rows of their own.
-/
import Derived.Test.YtcdnakcojanaeabGreatDoCheck
namespace Go.Proofs.YtcdnakcojanaeabGreat
open Go.ChangeShapes Go.WideShapes Go.ChangeAt Go.RowKit Go.Deep
open Do

theorem Tryz.infoNode : (Tryz.prog.info? 41).map (fun i => (i.zero, i.size, i.bytes)) = some (some (mkN 0 0 ⟨#[]⟩ ⟨#[]⟩ ⟨#[]⟩ none 0 0 none 0 0), 7, 112) := by kernel_rfl
theorem Tryz.infoAtr : (Tryz.prog.info? 43).map (fun i => (i.zero, i.size, i.bytes)) = some (some (.agg #[.string ⟨#[]⟩, .string ⟨#[]⟩]), 2, 32) := by kernel_rfl

/-- A node's cells. -/
def cellsN (n : Nd) (av kv : Value) : List Value := [.int .i64 n.id, .int .i64 n.par, .string n.tag, .string n.key, .string n.txt, av, kv]

/-- Nodes' cells, with their slices. -/
def rowN : List Nd → (Nat → Value) → (Nat → Value) → List Value
  | [], _, _ => []
  | n :: r, ab, kb => cellsN n (ab 0) (kb 0) ++ rowN r (fun i => ab (i + 1)) (fun i => kb (i + 1))

theorem cellsN_length (n : Nd) (av kv : Value) : (cellsN n av kv).length = 7 := rfl
theorem rowN_length : ∀ (ns : List Nd) (ab kb : Nat → Value), (rowN ns ab kb).length = ns.length * 7
  | [], _, _ => rfl
  | n :: r, ab, kb => by simp only [rowN, List.length_append, cellsN_length, rowN_length r, List.length_cons]; omega

theorem rowN_at : ∀ {ns : List Nd} {ab kb : Nat → Value} {i j : Nat} {n : Nd}, ns[i]? = some n → j < 7 → (rowN ns ab kb)[i * 7 + j]? = (cellsN n (ab i) (kb i))[j]?
  | [], _, _, _, _, _, h, _ => by simp at h
  | m :: r, ab, kb, 0, j, n, h, hj => by
    simp only [List.getElem?_cons_zero, Option.some.injEq] at h
    subst h
    simp only [rowN, Nat.zero_mul, Nat.zero_add]
    rw [List.getElem?_append_left (by rw [cellsN_length]; exact hj)]
  | m :: r, ab, kb, i + 1, j, n, h, hj => by
    simp only [rowN]
    rw [List.getElem?_append_right (by rw [cellsN_length]; omega), cellsN_length]
    have e : (i + 1) * 7 + j - 7 = i * 7 + j := by omega
    rw [e]
    exact rowN_at (by simpa using h) hj

theorem rowN_snoc : ∀ (ns : List Nd) (ab kb : Nat → Value) (n : Nd), rowN (ns ++ [n]) ab kb = rowN ns ab kb ++ cellsN n (ab ns.length) (kb ns.length)
  | [], _, _, _ => by simp [rowN]
  | m :: r, ab, kb, n => by
    simp only [List.cons_append, rowN, rowN_snoc r, List.length_cons, List.append_assoc]

theorem rowN_congr : ∀ (ns : List Nd) {ab kb ab' kb' : Nat → Value}, (∀ i, i < ns.length → ab i = ab' i ∧ kb i = kb' i) → rowN ns ab kb = rowN ns ab' kb'
  | [], _, _, _, _, _ => rfl
  | m :: r, ab, kb, ab', kb', h => by
    have h0 := h 0 (by simp)
    simp only [rowN]
    rw [h0.1, h0.2, rowN_congr r fun i hi => h (i + 1) (by simpa using hi)]

/-- A row of nodes is read: its cells. -/
theorem rowN_cells {w : World} {B : Nat} {a : Option Addr} {l c : Nat} {ns : List Nd} {ab kb : Nat → Value} (h : w.ownsRow B 41 7 (.slice a l c) ns.length (rowN ns ab kb)) {i : Nat} {n : Nd} (hi : ns[i]? = some n) :
    ∃ g, a = some ⟨g, 0, none⟩ ∧ w.cell? ⟨g, i * 7, none⟩ = some (.int .i64 n.id) ∧ w.cell? ⟨g, i * 7 + 1, none⟩ = some (.int .i64 n.par) ∧ w.cell? ⟨g, i * 7 + 2, none⟩ = some (.string n.tag) ∧ w.cell? ⟨g, i * 7 + 3, none⟩ = some (.string n.key) ∧ w.cell? ⟨g, i * 7 + 4, none⟩ = some (.string n.txt) ∧ w.cell? ⟨g, i * 7 + 5, none⟩ = some (ab i) ∧ w.cell? ⟨g, i * 7 + 6, none⟩ = some (kb i) := by
  have e : ∀ (j : Nat) (v : Value), j < 7 → (cellsN n (ab i) (kb i))[j]? = some v → ∃ g, a = some ⟨g, 0, none⟩ ∧ w.cell? ⟨g, i * 7 + j, none⟩ = some v := by
    intro j v hj hv
    obtain ⟨g, h1, h2⟩ := cells_of_own h (i * 7 + j) v (by rw [rowN_at hi hj]; exact hv)
    rw [Nat.zero_add] at h2
    exact ⟨g, h1, h2⟩
  obtain ⟨g, ha, q0⟩ := e 0 _ (by omega) rfl
  subst ha
  have f : ∀ (j : Nat) (v : Value), j < 7 → (cellsN n (ab i) (kb i))[j]? = some v → w.cell? ⟨g, i * 7 + j, none⟩ = some v := by
    intro j v hj hv
    obtain ⟨g', h1, h2⟩ := e j v hj hv
    cases h1
    exact h2
  exact ⟨g, rfl, q0, f 1 _ (by omega) rfl, f 2 _ (by omega) rfl, f 3 _ (by omega) rfl, f 4 _ (by omega) rfl, f 5 _ (by omega) rfl, f 6 _ (by omega) rfl⟩

/-- Attributes in a row of one's own. -/
def OwnA (w : World) (B : Nat) (v : Value) (ats : List Atr) : Prop := w.ownsRow B 43 2 v ats.length (cellsA ats)

theorem OwnA.nil (w : World) (B : Nat) : OwnA w B (.slice none 0 0) [] := World.ownsRow_nil _ _ _ _
theorem OwnA.shape {w : World} {B : Nat} {v : Value} {l : List Atr} (h : OwnA w B v l) : ∃ a c, v = .slice a l.length c := slice_of_own h
theorem OwnA.same {w w' : World} {B : Nat} {v : Value} {l : List Atr} (h : OwnA w B v l) (hk : ∀ b, v.ownBlock = some b → w'.heap[b]? = w.heap[b]?) : OwnA w' B v l := ownsRow_same h hk
theorem OwnA.below {w w' : World} {B : Nat} {v : Value} {l : List Atr} (h : OwnA w B v l) (hb : Below w.heap.size w w') : OwnA w' B v l := ownsRow_same h fun g hg => hb.block g (h.lt g hg).2
theorem OwnA.lay {w : World} {B : Nat} {a : Option Addr} {n c : Nat} {l : List Atr} (h : OwnA w B (.slice a n c) l) (hs : ∀ s ∈ l, s.1.size ≤ 140737488351232 ∧ s.2.size ≤ 140737488351232) : LayA w a l := by
  intro i s hi
  obtain ⟨h1, h2⟩ := cellsA_at l i s hi
  obtain ⟨g, ha, q1⟩ := cells_of_own h _ _ h1
  obtain ⟨g', ha', q2⟩ := cells_of_own h _ _ h2
  rw [ha] at ha'
  cases ha'
  have := hs s (List.mem_of_getElem? hi)
  exact ⟨g, 0, ha, q1, by rw [← Nat.add_assoc] at q2; exact q2, this.1, this.2⟩
theorem OwnA.block {w : World} {B : Nat} {v : Value} {l : List Atr} (h : OwnA w B v l) {g : Nat} (hg : v.ownBlock = some g) : ∃ cur, w.heap[g]? = some (.cells cur 43 (0, 0)) ∧ B ≤ g := by
  obtain ⟨h1, h2⟩ := h
  rcases h2 with ⟨rfl, _⟩ | ⟨g', cap, cur, rfl, hB, hb, _⟩
  · cases hg
  · simp only [Value.ownBlock, Option.some.injEq] at hg
    subst hg
    exact ⟨cur, hb, hB⟩

/-- What a node's own data keep to. -/
structure NdFit (n : Nd) : Prop where
  id : -9223372036854775808 ≤ n.id ∧ n.id ≤ 9223372036854775807
  par : -9223372036854775808 ≤ n.par ∧ n.par ≤ 9223372036854775807
  node : NodeOk n.tag n.key n.txt n.ats.length 0
  atr : ∀ s ∈ n.ats, s.1.size ≤ 140737488351232 ∧ s.2.size ≤ 140737488351232
  kids : I64 n.kids ∧ n.kids.length * 8 ≤ 140737488351232

/-- Slices of which no two share a block. -/
def ApartF (n : Nat) (f : Nat → Value) : Prop := ∀ i j g, i < n → j < n → i ≠ j → (f i).ownBlock = some g → (f j).ownBlock ≠ some g

/-- Nodes of one's own. -/
structure OwnN (w : World) (B : Nat) (v : Value) (ns : List Nd) (ab kb : Nat → Value) : Prop where
  row : w.ownsRow B 41 7 v ns.length (rowN ns ab kb)
  ats : ∀ (i : Nat) (n : Nd), ns[i]? = some n → OwnA w B (ab i) n.ats
  kids : ∀ (i : Nat) (n : Nd), ns[i]? = some n → OwnZ w B (kb i) n.kids
  apa : ApartF ns.length ab
  apk : ApartF ns.length kb
  fit : ∀ n ∈ ns, NdFit n

theorem OwnN.nil (w : World) (B : Nat) : OwnN w B (.slice none 0 0) [] (fun _ => .slice none 0 0) (fun _ => .slice none 0 0) :=
  ⟨World.ownsRow_nil _ _ _ _, fun i n h => by simp at h, fun i n h => by simp at h, fun i j g h => by simp at h, fun i j g h => by simp at h, fun n h => by cases h⟩

/-- The blocks of a row of nodes. -/
def footN (v : Value) (n : Nat) (ab kb : Nat → Value) (b : Nat) : Prop := v.ownBlock = some b ∨ (∃ i, i < n ∧ (ab i).ownBlock = some b) ∨ ∃ i, i < n ∧ (kb i).ownBlock = some b

theorem OwnN.same {w w' : World} {B : Nat} {v : Value} {ns : List Nd} {ab kb : Nat → Value} (h : OwnN w B v ns ab kb) (hk : ∀ b, footN v ns.length ab kb b → w'.heap[b]? = w.heap[b]?) : OwnN w' B v ns ab kb :=
  ⟨ownsRow_same h.row fun g hg => hk g (Or.inl hg), fun i n hi => (h.ats i n hi).same fun b hb => hk b (Or.inr (Or.inl ⟨i, (List.getElem?_eq_some_iff.1 hi).1, hb⟩)), fun i n hi => (h.kids i n hi).same fun b hb => hk b (Or.inr (Or.inr ⟨i, (List.getElem?_eq_some_iff.1 hi).1, hb⟩)), h.apa, h.apk, h.fit⟩

theorem OwnN.foot {w : World} {B : Nat} {v : Value} {ns : List Nd} {ab kb : Nat → Value} (h : OwnN w B v ns ab kb) {b : Nat} (hb : footN v ns.length ab kb b) : B ≤ b ∧ b < w.heap.size := by
  rcases hb with hb | ⟨i, hi, hb⟩ | ⟨i, hi, hb⟩
  · exact h.row.lt b hb
  · exact (h.ats i ns[i] (List.getElem?_eq_getElem hi)).lt b hb
  · exact (h.kids i ns[i] (List.getElem?_eq_getElem hi)).lt b hb

theorem OwnN.below {w w' : World} {B : Nat} {v : Value} {ns : List Nd} {ab kb : Nat → Value} (h : OwnN w B v ns ab kb) (hb : Below w.heap.size w w') : OwnN w' B v ns ab kb := h.same fun b hb' => hb.block b (h.foot hb').2

theorem OwnN.shape {w : World} {B : Nat} {v : Value} {ns : List Nd} {ab kb : Nat → Value} (h : OwnN w B v ns ab kb) : ∃ a c, v = .slice a ns.length c := slice_of_own h.row

/-- They may be read. -/
theorem OwnN.lay {w : World} {B : Nat} {a : Option Addr} {l c : Nat} {ns : List Nd} {ab kb : Nat → Value} (h : OwnN w B (.slice a l c) ns ab kb) : LayN w a ns := by
  intro i n hi
  obtain ⟨g, rfl, q0, q1, q2, q3, q4, q5, q6⟩ := rowN_cells h.row hi
  have hA := h.ats i n hi
  have hK := h.kids i n hi
  obtain ⟨aa, ac, ea⟩ := hA.shape
  obtain ⟨ka, kc, ek⟩ := hK.shape
  have hf := h.fit n (List.mem_of_getElem? hi)
  rw [ea] at q5 hA
  rw [ek] at q6 hK
  have hnm := hK.nm hf.kids.1 hf.kids.2
  refine ⟨g, 0, aa, ac, ka, kc, rfl, ?_⟩
  rw [Nat.zero_add]
  refine ⟨q0, q1, q2, q3, q4, q5, q6, ⟨hf.id, hf.par, hf.node, ⟨(cap_of_own hA).1, (cap_of_own hA).2, hf.node.2.2.2.1, none_of_own hA⟩, hnm.2.1, hnm.2.2.1, hnm.2.2.2.1, hnm.2.2.2.2.1, hnm.2.2.2.2.2⟩, hA.lay hf.atr, hnm.1⟩
end Go.Proofs.YtcdnakcojanaeabGreat
