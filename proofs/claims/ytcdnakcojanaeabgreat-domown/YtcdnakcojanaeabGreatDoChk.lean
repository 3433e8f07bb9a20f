/-
  The program's parts of Check: isText, idsMayBe, Contains, kidsMayBe, parentMayBe, comesOut, withinItself, rootMayBe.
-/
import Derived.Test.YtcdnakcojanaeabGreatDoBase
namespace Go.Proofs.YtcdnakcojanaeabGreat
open Go.ChangeShapes Go.WideShapes Go.ChangeAt Go.RowKit Go.Deep
open Do

/-- A node laid in a box. -/
theorem NdAt.box {w w1 : World} {n : Nd} {aa : Option Addr} {ac : Nat} {ka : Option Addr} {kc B : Nat} {t : TypeId} (hB : w1.heap[B]? = some (.cells #[.int .i64 n.id, .int .i64 n.par, .string n.tag, .string n.key, .string n.txt, .slice aa n.ats.length ac, .slice ka n.kids.length kc] t (0, 0)))
    (hf : FitN n aa ac ka kc) (h1 : LayA w aa n.ats) (h2 : LayZ w ka n.kids) (hb : Below w.heap.size w w1) : NdAt w1 B 0 n aa ac ka kc := by
  have e : ∀ j v, (#[.int .i64 n.id, .int .i64 n.par, .string n.tag, .string n.key, .string n.txt, .slice aa n.ats.length ac, .slice ka n.kids.length kc] : Array Value)[j]? = some v → w1.cell? ⟨B, j, none⟩ = some v := fun j v h => (cell_of hB j).1.trans h
  exact ⟨e 0 _ rfl, e 1 _ rfl, e 2 _ rfl, e 3 _ rfl, e 4 _ rfl, e 5 _ rfl, e 6 _ rfl, hf, h1.below hb, h2.below hb⟩

theorem istextN_any (i p : Int) (g k t : ByteArray) (aa : Option Addr) (al ac : Nat) (ka : Option Addr) (kl kc : Nat) (w : World) :
    Calls Tryz.prog 56 #[mkN i p g k t aa al ac ka kl kc] w fun e w' => e = .returned (.bool g.toList.isEmpty) ∧ Below w.heap.size w w' := by
  go_enter Tryz.func56, Tryz.ntmps56
  go_wp2_with fail
  go_ret
  refine ⟨?_, below_one _ _⟩
  first | rfl | simp

set_option maxRecDepth 100000 in
set_option maxHeartbeats 1600000 in
theorem ids_any (s : Ds) (a : Option Addr) (c : Nat) (w : World) (hL : LayN w a s.nodes) (hn : s.nodes.length ≤ 1024) :
    Calls Tryz.prog 28 #[.agg #[.slice a s.nodes.length c, .int .i64 s.root, .int .i64 s.next]] w fun e w' => e = .returned (.bool (idsB s.next s.nodes 0)) ∧ Below w.heap.size w w' := by
  have HL : Hid (LayN w a s.nodes) := hL
  clear hL
  obtain ⟨ns, root, next⟩ := s
  simp only at *
  go_enter Tryz.func28, Tryz.ntmps28
  go_wp2_with fail
  have X1 : Hid ((w.alloc (.cells #[.slice a ns.length c, .int .i64 root, .int .i64 next] 30)).heap[w.heap.size]? = some (.cells #[.slice a ns.length c, .int .i64 root, .int .i64 next] 30 (0, 0))) := heap_alloc_new _ _
  have K1 : Hid (Below w.heap.size w (w.alloc (.cells #[.slice a ns.length c, .int .i64 root, .int .i64 next] 30))) := below_one _ _
  generalize w.alloc (.cells #[.slice a ns.length c, .int .i64 root, .int .i64 next] 30) = W1 at *
  go_loopw [3, 9] (fun v3 v9 wr => ∃ (i : Nat) (last : Int), i ≤ ns.length ∧ v9 = .int .i64 (i : Int) ∧ v3 = .int .i64 last ∧ Hid (idsB next ns 0 = idsB next (ns.drop i) last) ∧ Hid (Below W1.heap.size W1 wr)) (fun _ v9 _ => ns.length - (intOf v9).toNat)
  case atStart => exact ⟨0, 0, Nat.zero_le _, rfl, rfl, (show _ = _ from by simp), Below.refl _ _⟩
  case round =>
    obtain ⟨i, last, hi, rfl, rfl, HE, HB⟩ := hrel
    by_cases hlt : i < ns.length
    · obtain ⟨b, o, aa, ac, ka, kc, ha, hN⟩ := HL.out.below (nxt K1.out HB.out) i ns[i] (List.getElem?_eq_getElem hlt)
      subst ha
      obtain ⟨r0, r1, r2, r3, r4, r5, r6, -, -, -⟩ := hN
      have HD : Hid (ns.drop i = ns[i] :: ns.drop (i + 1)) := List.drop_eq_getElem_cons hlt
      rw [HD.out] at HE
      generalize hm : ns[i] = m at *
      obtain ⟨mi, mp, mg, mk, mt, ma, mks⟩ := m
      simp only at *
      clear hm HD
      by_cases hle : mi ≤ last
      · have HE' : Hid (idsB next ns 0 = false) := by show _ = _; rw [HE.out]; simp [idsB, hle]
        clear HE
        go_wp2_with fail
        go_ret
        exact ⟨by rw [HE'.out]; rfl, nxt K1.out (nxt HB.out (below_one _ _))⟩
      · have HE' : Hid (idsB next ns 0 = idsB next (ns.drop (i + 1)) mi) := by show _ = _; rw [HE.out]; simp [idsB, hle]
        clear HE
        go_wp2_with fail
        go_roundw
        case rel => exact ⟨i + 1, mi, by omega, by go_num, rfl, HE'.out, nxt HB.out (below_one _ _)⟩
        case measure => simp [intOf]; omega
    · have HE' : Hid (idsB next ns 0 = decide (last < next)) := by show _ = _; rw [HE.out, List.drop_eq_nil_of_le (by omega)]; rfl
      have X2 := (HB.out.block _ (lt_of_block X1.out)).trans X1.out
      obtain ⟨x2, -⟩ := cell_of X2 2
      simp at x2
      clear HE X2
      go_wp2_with fail
      go_ret
      exact ⟨by rw [HE'.out]; rfl, nxt K1.out HB.out⟩

/-- Where a number first is in a list. -/
def ixZ : List Int → Int → Option Nat
  | [], _ => none
  | y :: r, x => if x = y then some 0 else (ixZ r x).map (· + 1)

theorem ixZ_none {l : List Int} {x : Int} : ixZ l x = none ↔ ¬ x ∈ l := by
  induction l with
  | nil => simp [ixZ]
  | cons y r ih =>
    simp only [ixZ, List.mem_cons]
    split
    · rename_i h; simp [h]
    · rename_i h; simp [h, ih]

theorem ixZ_contains (l : List Int) (x : Int) : (ixZ l x).isSome = l.contains x := by
  cases h : ixZ l x with
  | none =>
    have := ixZ_none.1 h
    simp [this]
  | some p =>
    have : x ∈ l := by
      rcases Classical.em (x ∈ l) with h' | h'
      · exact h'
      · rw [ixZ_none.2 h'] at h; cases h
    simp [this]

def ixI (l : List Int) (x : Int) : Int := match ixZ l x with
  | some p => (p : Int)
  | none => -1

theorem ixZ_take : ∀ {l : List Int} {x : Int} {i : Nat} {y : Int}, (∀ m z, m < i → l[m]? = some z → ¬ x = z) → l[i]? = some y → x = y → ixZ l x = some i
  | [], _, _, _, _, h, _ => by simp at h
  | z :: r, x, 0, y, _, h, e => by simp at h; subst h; simp [ixZ, e]
  | z :: r, x, i + 1, y, h1, h, e => by
    have hz := h1 0 z (by omega) (by simp)
    have := ixZ_take (l := r) (i := i) (fun m u hm hu => h1 (m + 1) u (by omega) (by simpa using hu)) (by simpa using h) e
    simp [ixZ, hz, this]

set_option maxRecDepth 100000 in
set_option maxHeartbeats 1600000 in
theorem indexZ_any (ks : List Int) (x : Int) (a : Option Addr) (c : Nat) (w : World) (hl : LayZ w a ks) (hn : ks.length ≤ 140737488351232) :
    Calls Tryz.prog 79 #[.slice a ks.length c, .int .i64 x] w fun e w' => e = .returned (.int .i64 (ixI ks x)) ∧ w' = w := by
  have HL : Hid (LayZ w a ks) := hl
  clear hl
  go_enter Tryz.func79, Tryz.ntmps79
  go_wp2_with fail
  go_loopw [8] (fun v8 wr => ∃ i : Nat, i ≤ ks.length ∧ v8 = .int .i64 (i : Int) ∧ Hid (∀ m z, m < i → ks[m]? = some z → ¬ x = z) ∧ wr = w) (fun v8 _ => ks.length - (intOf v8).toNat)
  case atStart => exact ⟨0, Nat.zero_le _, rfl, (show ∀ m z, m < 0 → ks[m]? = some z → ¬ x = z from fun m z h => by omega), rfl⟩
  case round =>
    obtain ⟨i, hi, rfl, HN, rfl⟩ := hrel
    by_cases hlt : i < ks.length
    · obtain ⟨b, o, ha, r1, _⟩ := HL.out i ks[i] (List.getElem?_eq_getElem hlt)
      subst ha
      have HG : Hid (ks[i]? = some ks[i]) := List.getElem?_eq_getElem hlt
      by_cases he : x = ks[i]
      · have HR : Hid (ixI ks x = (i : Int)) := by show _ = _; unfold ixI; rw [ixZ_take HN.out HG.out he]
        have he1 : (x == ks[i]) = true := by simpa using he
        clear he HG HN
        generalize ks[i] = y at *
        go_wp2_with fail
        go_ret
        exact ⟨by rw [HR.out]; rfl, rfl⟩
      · have HN' : Hid (∀ m z, m < i + 1 → ks[m]? = some z → ¬ x = z) := by
          intro m z hm hz
          by_cases e : m = i
          · subst e
            rw [HG.out] at hz
            cases hz
            exact he
          · exact HN.out m z (by omega) hz
        have he1 : (x == ks[i]) = false := by simpa using he
        clear he HG HN
        generalize ks[i] = y at *
        go_wp2_with fail
        go_roundw
        case rel => exact ⟨i + 1, by omega, by go_num, HN'.out, trivial⟩
        case measure => simp [intOf]; omega
    · have HR : Hid (ixI ks x = -1) := by
        show _ = _
        unfold ixI
        have : ixZ ks x = none := ixZ_none.2 fun hm => by
          obtain ⟨m, hm1, hm2⟩ := List.getElem_of_mem hm
          exact HN.out m ks[m] (by omega) (List.getElem?_eq_getElem hm1) hm2.symm
        rw [this]
      clear HN
      go_wp2_with fail
      go_ret
      exact ⟨by rw [HR.out]; rfl, rfl⟩

set_option maxRecDepth 100000 in
theorem containsZ_any (ks : List Int) (x : Int) (a : Option Addr) (c : Nat) (w : World) (hl : LayZ w a ks) (hn : ks.length ≤ 140737488351232) :
    Calls Tryz.prog 57 #[.slice a ks.length c, .int .i64 x] w fun e w' => e = .returned (.bool (ks.contains x)) ∧ w' = w := by
  have HC : Hid (Calls Tryz.prog 79 #[.slice a ks.length c, .int .i64 x] w _) := indexZ_any ks x a c w hl hn
  have HE : Hid (ks.contains x = (ixZ ks x).isSome) := (ixZ_contains ks x).symm
  rw [HE.out]
  clear hl HE
  cases h : ixZ ks x with
  | none =>
    have HR : Hid (ixI ks x = -1) := by show _ = _; unfold ixI; rw [h]
    rw [HR.out] at HC
    clear h
    go_enter Tryz.func57, Tryz.ntmps57
    go_wp2_with (go_at_call 79; refine HC.out.mono ?_; rintro e w1 ⟨rfl, hb1⟩; subst hb1)
    go_ret
    exact ⟨rfl, rfl⟩
  | some p =>
    have HR : Hid (ixI ks x = (p : Int)) := by show _ = _; unfold ixI; rw [h]
    rw [HR.out] at HC
    clear h
    go_enter Tryz.func57, Tryz.ntmps57
    go_wp2_with (go_at_call 79; refine HC.out.mono ?_; rintro e w1 ⟨rfl, hb1⟩; subst hb1)
    go_ret
    exact ⟨by simp, rfl⟩
end Go.Proofs.YtcdnakcojanaeabGreat
