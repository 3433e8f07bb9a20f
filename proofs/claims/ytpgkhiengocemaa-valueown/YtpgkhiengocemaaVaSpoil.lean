/-
  SpoilValue writes over what a value holds in memory of its own, and nothing else.
-/
import Derived.Test.YtpgkhiengocemaaVaOwn
namespace Go.Proofs.Ytpgkhiengocemaa
open Go.ChangeShapes Go.WideShapes Go.ChangeAt Go.RowKit

/-- All but F's blocks is as it was. -/
structure Kept (F : Nat → Prop) (w w' : World) : Prop where
  os : w'.os = w.os
  tape : w'.tape = w.tape
  output : w'.output = w.output
  size : w.heap.size ≤ w'.heap.size
  block : ∀ b, b < w.heap.size → ¬ F b → w'.heap[b]? = w.heap[b]?

theorem Kept.refl (F : Nat → Prop) (w : World) : Kept F w w := ⟨rfl, rfl, rfl, Nat.le_refl _, fun _ _ _ => rfl⟩
theorem Kept.trans {F : Nat → Prop} {a b c : World} (h : Kept F a b) (k : Kept F b c) : Kept F a c :=
  ⟨k.os.trans h.os, k.tape.trans h.tape, k.output.trans h.output, Nat.le_trans h.size k.size, fun j hj hn => (k.block j (Nat.lt_of_lt_of_le hj h.size) hn).trans (h.block j hj hn)⟩
theorem Kept.mono {F F' : Nat → Prop} {a b : World} (h : Kept F a b) (hF : ∀ j, F j → F' j) : Kept F' a b := ⟨h.os, h.tape, h.output, h.size, fun j hj hn => h.block j hj fun q => hn (hF j q)⟩
theorem Kept.of_below {F : Nat → Prop} {a b : World} (h : Below a.heap.size a b) : Kept F a b := ⟨h.os, h.tape, h.output, h.size, fun j hj _ => h.block j hj⟩
theorem Kept.setCell {F : Nat → Prop} {a b : World} (h : Kept F a b) {g o : Nat} (v : Value) (hg : F g) : Kept F a (b.setCell ⟨g, o, none⟩ v) :=
  ⟨h.os, h.tape, h.output, by simpa [World.setCell] using h.size, fun j hj hn => by
    have : ¬ g = j := fun e => hn (by rw [← e]; exact hg)
    simpa [World.setCell, Array.getElem?_modify, this] using h.block j hj hn⟩

theorem set_one_cell {w : World} {g o : Nat} {cur : Array Value} {t : TypeId} (h : w.heap[g]? = some (.cells cur t (0, 0))) (v : Value) : (w.setCell ⟨g, o, none⟩ v).heap[g]? = some (.cells (cur.setIfInBounds o v) t (0, 0)) := by
  simp [World.setCell, Array.getElem?_modify, h]

theorem sets5 {w : World} {g o : Nat} {cur : Array Value} {t : TypeId} (h : w.heap[g]? = some (.cells cur t (0, 0))) (v0 v1 v2 v3 v4 : Value) :
    ∃ cur' : Array Value, (((((w.setCell ⟨g, o, none⟩ v0).setCell ⟨g, o + 1, none⟩ v1).setCell ⟨g, o + 2, none⟩ v2).setCell ⟨g, o + 3, none⟩ v3).setCell ⟨g, o + 4, none⟩ v4).heap[g]? = some (.cells cur' t (0, 0)) ∧ cur'.size = cur.size ∧ ∀ j, o + 5 ≤ j → cur'[j]? = cur[j]? := by
  refine ⟨_, set_one_cell (set_one_cell (set_one_cell (set_one_cell (set_one_cell h v0) v1) v2) v3) v4, by simp, ?_⟩
  intro j hj
  have e0 : ¬ o = j := by omega
  have e1 : ¬ o + 1 = j := by omega
  have e2 : ¬ o + 2 = j := by omega
  have e3 : ¬ o + 3 = j := by omega
  have e4 : ¬ o + 4 = j := by omega
  simp [e0, e1, e2, e3, e4]

theorem cell_of {w : World} {g : Nat} {cur : Array Value} {t : TypeId} (h : w.heap[g]? = some (.cells cur t (0, 0))) (j : Nat) : w.cell? ⟨g, j, none⟩ = cur[j]? ∧ w.frozen? ⟨g, j, none⟩ = false := by
  simp [World.cell?, World.frozen?, h]

set_option maxRecDepth 100000 in
set_option maxHeartbeats 3200000 in
theorem spoil_any (n : Nat) : ∀ (v : V n) (x : Value) (F : Nat → Prop) (w : World), Own w n x v F → (∀ b, F b → b < w.heap.size) →
    Calls Try.prog 8 #[x] w fun e w' => e = .returned (.tuple #[]) ∧ Kept F w w' := by
  induction n with
  | zero => intro v; exact v.elim
  | succ n ih =>
    rintro ⟨k, b, t, ks, its⟩ x F w ⟨ka, kc, ia, ic, xs, G, rfl, hfit, hs, hK, hI, fK, fI, hit, hG, hd⟩ hF
    obtain ⟨-, -, -, -, -, hkr, -, -, hir⟩ := hfit
    have HK : Hid (w.ownsRow 0 9 1 (.slice ka ks.length kc) ks.length (ks.map Value.string)) := hK
    have HI : Hid (w.ownsRow 0 26 5 (.slice ia its.length ic) its.length xs) := hI
    have FK : Hid (∀ b, (Value.slice ka ks.length kc).ownBlock = some b → F b) := fK
    have FI : Hid (∀ b, (Value.slice ia its.length ic).ownBlock = some b → F b) := fI
    have HT : Hid (Items (Own w n) its its.length xs G) := hit
    have HG : Hid (∀ i b, i < its.length → G i b → F b ∧ (Value.slice ka ks.length kc).ownBlock ≠ some b ∧ (Value.slice ia its.length ic).ownBlock ≠ some b) := hG
    have HD : Hid (∀ i j b, i < its.length → j < its.length → G i b → G j b → i = j) := hd
    have HF : Hid (∀ b, F b → b < w.heap.size) := hF
    clear hs hK hI fK fI hit hG hd hF
    go_enter Try.func8, Try.ntmps8
    go_wp2_with fail
    have X0 : Hid ((w.alloc (.cells #[.int .i64 k, .int .u64 b, .string t, .slice ka ks.length kc, .slice ia its.length ic] 26)).heap[w.heap.size]? = some (.cells #[.int .i64 k, .int .u64 b, .string t, .slice ka ks.length kc, .slice ia its.length ic] 26 (0, 0))) := heap_alloc_new _ _
    have B0 : Hid (Below w.heap.size w (w.alloc (.cells #[.int .i64 k, .int .u64 b, .string t, .slice ka ks.length kc, .slice ia its.length ic] 26))) := below_one _ _
    generalize w.alloc (.cells #[.int .i64 k, .int .u64 b, .string t, .slice ka ks.length kc, .slice ia its.length ic] 26) = W at *
    go_loopw [2] (fun i wr => ∃ m : Nat, m ≤ ks.length ∧ i = .int .i64 m ∧ Hid (Kept (fun b => (Value.slice ka ks.length kc).ownBlock = some b) W wr) ∧
        Hid (∀ g, ka = some ⟨g, 0, none⟩ → 0 < ks.length → ∃ cur : Array Value, wr.heap[g]? = some (.cells cur 9 (0, 0)) ∧ ks.length ≤ cur.size)) (fun i _ => ks.length - (intOf i).toNat)
    case atStart =>
      refine ⟨0, Nat.zero_le _, rfl, Kept.refl _ _, ?_⟩
      intro g hg hpos
      rcases HK.out.2 with ⟨h1, h2⟩ | ⟨g', cap, cur, h1, _, h3, h4, _, h6, _⟩
      · omega
      · simp only [Value.slice.injEq] at h1
        rw [hg] at h1
        simp only [Option.some.injEq, Addr.mk.injEq, and_true] at h1
        rw [← h1.1] at h3
        exact ⟨cur, (B0.out.block _ (lt_of_block h3)).trans h3, by omega⟩
    case round =>
      obtain ⟨m, hm, rfl, HW, HC⟩ := hrel
      have hbx : wr.heap[w.heap.size]? = some (.cells #[.int .i64 k, .int .u64 b, .string t, .slice ka ks.length kc, .slice ia its.length ic] 26 (0, 0)) := by
        rw [HW.out.block _ (lt_of_block X0.out) (fun e => by have := HF.out _ (FK.out _ e); omega)]
        exact X0.out
      obtain ⟨x0, x1, x2, x3, x4, -⟩ := box_cells hbx
      have HX : Hid (wr.heap[w.heap.size]? = some (.cells #[.int .i64 k, .int .u64 b, .string t, .slice ka ks.length kc, .slice ia its.length ic] 26 (0, 0))) := hbx
      clear hbx
      by_cases hlt : m < ks.length
      · have hm1 : (m : Int) < (ks.length : Int) := by omega
        obtain ⟨g, rfl⟩ : ∃ g, ka = some ⟨g, 0, none⟩ := by
          rcases HK.out.2 with ⟨h1, h2⟩ | ⟨g', cap, cur, h1, _⟩
          · omega
          · simp only [Value.slice.injEq] at h1; exact ⟨g', h1.1⟩
        obtain ⟨cur, hcur, hcs⟩ := HC.out g rfl (by omega)
        obtain ⟨c0, hc0⟩ : ∃ c, wr.cell? ⟨g, m, none⟩ = some c := ⟨cur[m]'(by omega), by rw [(cell_of hcur m).1]; simp⟩
        have hf0 := (cell_of hcur m).2
        have R1 : Hid _ := HW.out.setCell (g := g) (o := m) (.string ⟨#[115, 112, 111, 105, 108, 116]⟩) rfl
        have R2 : Hid _ := set_one_cell (o := m) hcur (.string ⟨#[115, 112, 111, 105, 108, 116]⟩)
        go_wp2_with fail
        go_roundw
        case rel => exact ⟨m + 1, by omega, by go_num, R1.out, (fun g' hg' _ => by cases hg'; exact ⟨_, R2.out, by simpa using hcs⟩)⟩
        case measure => simp [intOf]; omega
      · go_wp2_with fail
        clear x0 x1 x2 x3 x4
        have HW2 : Hid (Kept (fun b => (Value.slice ka ks.length kc).ownBlock = some b) W wr) := HW
        go_loopw [3] (fun i wr2 => ∃ m : Nat, m ≤ its.length ∧ i = .int .i64 m ∧ Hid (Kept (fun b => (Value.slice ka ks.length kc).ownBlock = some b ∨ (Value.slice ia its.length ic).ownBlock = some b ∨ ∃ i, i < m ∧ G i b) W wr2) ∧
            Hid (∀ g, ia = some ⟨g, 0, none⟩ → 0 < its.length → ∃ cur : Array Value, wr2.heap[g]? = some (.cells cur 26 (0, 0)) ∧ its.length * 5 ≤ cur.size ∧ ∀ j, m * 5 ≤ j → j < its.length * 5 → cur[j]? = xs[j]?)) (fun i _ => its.length - (intOf i).toNat)
        case atStart =>
          refine ⟨0, Nat.zero_le _, rfl, HW2.out.mono (fun j h => Or.inl h), ?_⟩
          intro g hg hpos
          rcases HI.out.2 with ⟨h1, h2⟩ | ⟨g', cap, cur, h1, _, h3, h4, _, h6, h7⟩
          · omega
          · simp only [Value.slice.injEq] at h1
            rw [hg] at h1
            simp only [Option.some.injEq, Addr.mk.injEq, and_true] at h1
            rw [← h1.1] at h3
            refine ⟨cur, ?_, by omega, ?_⟩
            · rw [HW2.out.block g (Nat.lt_of_lt_of_le (lt_of_block h3) B0.out.size) (fun e => ?_)]
              · exact (B0.out.block _ (lt_of_block h3)).trans h3
              · rcases HK.out.2 with ⟨q1, q2⟩ | ⟨gk, capk, curk, q1, _, q3, _⟩
                · rw [q1] at e; cases e
                · rw [q1] at e
                  simp only [Value.ownBlock, Option.some.injEq] at e
                  rw [e, h3] at q3
                  simp only [Option.some.injEq, Obj.cells.injEq] at q3
                  exact absurd q3.2.1 (by decide)
            · intro j _ hj
              rw [← h7, List.getElem?_take, if_pos hj]
              simp
        case round =>
          obtain ⟨m2, hm2, rfl, HU, HC2⟩ := hrel
          have hbx : wr.heap[w.heap.size]? = some (.cells #[.int .i64 k, .int .u64 b, .string t, .slice ka ks.length kc, .slice ia its.length ic] 26 (0, 0)) := by
            rw [HU.out.block _ (lt_of_block X0.out) (fun e => by
              rcases e with e | e | ⟨i, hi, e⟩
              · have := HF.out _ (FK.out _ e); omega
              · have := HF.out _ (FI.out _ e); omega
              · have := HF.out _ (HG.out i _ (by omega) e).1; omega)]
            exact X0.out
          obtain ⟨x0, x1, x2, x3, x4, -⟩ := box_cells hbx
          have HX2 : Hid (wr.heap[w.heap.size]? = some (.cells #[.int .i64 k, .int .u64 b, .string t, .slice ka ks.length kc, .slice ia its.length ic] 26 (0, 0))) := hbx
          clear hbx
          by_cases hlt2 : m2 < its.length
          · have hm1 : (m2 : Int) < (its.length : Int) := by omega
            obtain ⟨g, rfl⟩ : ∃ g, ia = some ⟨g, 0, none⟩ := by
              rcases HI.out.2 with ⟨h1, h2⟩ | ⟨g', cap, cur, h1, _⟩
              · omega
              · simp only [Value.slice.injEq] at h1; exact ⟨g', h1.1⟩
            obtain ⟨cur, hcur, hcs, hrow⟩ := HC2.out g rfl (by omega)
            obtain ⟨c0, c1, c2, c3, c4, e0, e1, e2, e3, e4, hO⟩ := HT.out m2 its[m2] hlt2 (by simp)
            obtain ⟨k5, b5, t5, ka5, kl5, kc5, ia5, il5, ic5, rfl, rfl, rfl, rfl, rfl⟩ := Lay.five n (Own.lay n hO)
            have hOw : Own wr n (mk k5 b5 t5 ka5 kl5 kc5 ia5 il5 ic5) its[m2] (G m2) := Own.same n hO fun b' hb' => by
              have hg' := HG.out m2 b' hlt2 hb'
              have hlw := HF.out b' hg'.1
              rw [HU.out.block b' (Nat.lt_of_lt_of_le hlw B0.out.size) (fun e => by
                rcases e with e | e | ⟨i, hi, e⟩
                · exact hg'.2.1 e
                · exact hg'.2.2 e
                · have := HD.out i m2 b' (by omega) hlt2 e hb'; omega)]
              exact B0.out.block b' hlw
            have hGm : ∀ b', G m2 b' → b' < wr.heap.size := fun b' hb' => by
              have := HF.out b' (HG.out m2 b' hlt2 hb').1
              have := B0.out.size
              have := HU.out.size
              omega
            have HCall : Hid (Calls Try.prog 8 #[mk k5 b5 t5 ka5 kl5 kc5 ia5 il5 ic5] wr fun e w' => e = .returned (.tuple #[]) ∧ Kept (G m2) wr w') := ih _ _ _ _ hOw hGm
            have d0 := (cell_of hcur (m2 * 5)).1.trans ((hrow _ (by omega) (by omega)).trans e0)
            have d1 := (cell_of hcur (m2 * 5 + 1)).1.trans ((hrow _ (by omega) (by omega)).trans e1)
            have d2 := (cell_of hcur (m2 * 5 + 2)).1.trans ((hrow _ (by omega) (by omega)).trans e2)
            have d3 := (cell_of hcur (m2 * 5 + 3)).1.trans ((hrow _ (by omega) (by omega)).trans e3)
            have d4 := (cell_of hcur (m2 * 5 + 4)).1.trans ((hrow _ (by omega) (by omega)).trans e4)
            have hgG : ¬ G m2 g := fun e => (HG.out m2 g hlt2 e).2.2 rfl
            have hwG : ¬ G m2 w.heap.size := fun e => by have := HF.out _ (HG.out m2 _ hlt2 e).1; omega
            have HCUR : Hid (wr.heap[g]? = some (.cells cur 26 (0, 0))) := hcur
            have HROW : Hid (∀ j, m2 * 5 ≤ j → j < its.length * 5 → cur[j]? = xs[j]?) := hrow
            have HgG : Hid (¬ G m2 g) := hgG
            have HwG : Hid (¬ G m2 w.heap.size) := hwG
            clear hcur hrow e0 e1 e2 e3 e4 hO hOw hGm hgG hwG
            go_wp2_with fail
            refine HCall.out.mono ?_
            rintro e w2 ⟨rfl, hk2⟩
            have hcur2 := (hk2.block g (lt_of_block HCUR.out) HgG.out).trans HCUR.out
            obtain ⟨y0, y1, y2, y3, y4, -⟩ := box_cells ((hk2.block _ (lt_of_block HX2.out) HwG.out).trans HX2.out)
            have ex : ∀ j, j < its.length * 5 → ∃ c, w2.cell? ⟨g, j, none⟩ = some c := fun j hj => ⟨cur[j]'(by omega), by rw [(cell_of hcur2 j).1]; simp⟩
            obtain ⟨a0, z0⟩ := ex (m2 * 5) (by omega)
            obtain ⟨a1, z1⟩ := ex (m2 * 5 + 1) (by omega)
            obtain ⟨a2, z2⟩ := ex (m2 * 5 + 2) (by omega)
            obtain ⟨a3, z3⟩ := ex (m2 * 5 + 3) (by omega)
            obtain ⟨a4, z4⟩ := ex (m2 * 5 + 4) (by omega)
            have f0 := (cell_of hcur2 (m2 * 5)).2
            have f1 := (cell_of hcur2 (m2 * 5 + 1)).2
            have f2 := (cell_of hcur2 (m2 * 5 + 2)).2
            have f3 := (cell_of hcur2 (m2 * 5 + 3)).2
            have f4 := (cell_of hcur2 (m2 * 5 + 4)).2
            obtain ⟨cur', hcur', hsz', hrow'⟩ := sets5 (o := m2 * 5) hcur2 (.int .i64 (-1)) (.int .u64 0) (.string ⟨#[]⟩) (.slice none 0 0) (.slice none 0 0)
            have hk3 : Kept (fun b => (Value.slice ka ks.length kc).ownBlock = some b ∨ (Value.slice (some ⟨g, 0, none⟩) its.length ic).ownBlock = some b ∨ ∃ i, i < m2 + 1 ∧ G i b) W w2 := by
              refine (HU.out.mono ?_).trans (hk2.mono ?_)
              · rintro j (e | e | ⟨i, hi, e⟩)
                · exact Or.inl e
                · exact Or.inr (Or.inl e)
                · exact Or.inr (Or.inr ⟨i, by omega, e⟩)
              · intro j e
                exact Or.inr (Or.inr ⟨m2, by omega, e⟩)
            have R1 : Hid _ := ((((hk3.setCell (g := g) (o := m2 * 5) (.int .i64 (-1)) (Or.inr (Or.inl rfl))).setCell (g := g) (o := m2 * 5 + 1) (.int .u64 0) (Or.inr (Or.inl rfl))).setCell (g := g) (o := m2 * 5 + 2) (.string ⟨#[]⟩) (Or.inr (Or.inl rfl))).setCell (g := g) (o := m2 * 5 + 3) (.slice none 0 0) (Or.inr (Or.inl rfl))).setCell (g := g) (o := m2 * 5 + 4) (.slice none 0 0) (Or.inr (Or.inl rfl))
            have R2 : Hid _ := hcur'
            have R3 : Hid (its.length * 5 ≤ cur'.size ∧ ∀ j, (m2 + 1) * 5 ≤ j → j < its.length * 5 → cur'[j]? = xs[j]?) := ⟨by omega, fun j h1 h2 => (hrow' j (by omega)).trans (HROW.out j (by omega) h2)⟩
            clear ex hcur' hsz' hrow' hk3 hcur2 d0 d1 d2 d3 d4 x0 x1 x2 x3 x4
            go_wp2_with fail
            go_roundw
            case rel => exact ⟨m2 + 1, by omega, by go_num, R1.out, (fun g' hg' _ => by cases hg'; exact ⟨_, R2.out, R3.out⟩)⟩
            case measure => simp [intOf]; omega
          · have HU2 : Hid (Kept F w wr) := by
              have h1 : Kept F w W := Kept.of_below B0.out
              refine h1.trans (HU.out.mono ?_)
              rintro j (e | e | ⟨i, hi, e⟩)
              · exact FK.out _ e
              · exact FI.out _ e
              · exact (HG.out i j (by omega) e).1
            go_wp2_with fail
            go_end0
            exact ⟨rfl, HU2.out⟩
end Go.Proofs.Ytpgkhiengocemaa
