/-
  A region whose order is open: operations that only read, one call that makes memory, a new variable, the call's answer put into it ('x, e := f(..)' where x has an address). In whatever order they come, the same stands at the end.
-/
import Derived.Test.YtchohjbiiaddmaaRows
import Derived.WalkKit
import Derived.ProofKit
import Derived.OpenShut
import Derived.WalkLawsBesides
import Derived.BigQuiet
import Derived.Deep.QuietTactic
import Derived.Deep.Strs
import Derived.Deep.LoopGhost
import Derived.Deep.RegionWith
import Derived.Deep.DeepCutAuto
import Derived.Deep.MidRow
import Derived.Laws.AppendOwnNone
namespace Go.Proofs.Ytchohjbiiaddmaa.Rg
open Go.ChangeShapes Go.WideShapes Go.ChangeAt Go.RowKit

def cnt : List Bool → Nat
  | [] => 0
  | b :: l => (if b then 0 else 1) + cnt l

theorem cnt_set : ∀ (l : List Bool) (i : Nat), l[i]? = some false → cnt (l.set i true) + 1 = cnt l
  | [], _, h => by simp at h
  | b :: l, 0, h => by
    simp at h
    subst h
    simp [cnt]
    omega
  | b :: l, i + 1, h => by
    have := cnt_set l i (by simpa using h)
    simp only [List.set_cons_succ, cnt]
    omega

theorem cnt_zero : ∀ (l : List Bool) (i : Nat), cnt l = 0 → l[i]? ≠ some false
  | [], _, _ => by simp
  | b :: l, 0, h => by
    cases b <;> simp [cnt] at h ⊢
  | b :: l, i + 1, h => by
    have := cnt_zero l i (by simp only [cnt] at h; omega)
    simpa using this

theorem cnt_le : ∀ l : List Bool, cnt l ≤ l.length
  | [] => Nat.le_refl _
  | b :: l => by
    have := cnt_le l
    cases b <;> simp [cnt] <;> omega

theorem get_of_ready {md : Region.Mode} {ops : Array Oper} {listed : Array Bool} {i : Nat} (hz : listed.size = ops.size) (h : i ∈ Region.ready md ops listed) : listed.toList[i]? = some false := by
  obtain ⟨h1, o, ho, _⟩ := mem_ready.1 h
  have hlt : i < listed.size := by rw [hz]; exact (Array.getElem?_eq_some_iff.1 ho).1
  rw [Array.getElem?_toList, Array.getElem?_eq_getElem hlt]
  rw [Array.getD_eq_getD_getElem?, Array.getElem?_eq_getElem hlt] at h1
  simpa using h1

theorem wpAny_inv {P : Program} {md : Region.Mode} {ops : Array Oper} {Q : Exit → Act → World → Prop} {J : Array Bool → Act → World → Prop}
    (hz : ∀ listed a w, J listed a w → listed.size = ops.size)
    (hstep : ∀ listed a w i, J listed a w → i ∈ Region.ready md ops listed → wpOp P ops Q i (J (listed.setIfInBounds i true)) a w)
    (hend : ∀ listed a w, J listed a w → Region.ready md ops listed = [] → Q .normal a w) :
    ∀ (fuel : Nat) (listed : Array Bool) (a : Act) (w : World), J listed a w → cnt listed.toList ≤ fuel → wpAny P md ops Q fuel listed a w := by
  intro fuel
  induction fuel with
  | zero =>
    intro listed a w hJ hc
    have hr : Region.ready md ops listed = [] := by
      cases h : Region.ready md ops listed with
      | nil => rfl
      | cons i r => exact absurd (get_of_ready (hz _ _ _ hJ) (by rw [h]; exact List.mem_cons_self)) (cnt_zero _ _ (by omega))
    exact ⟨hr, hend _ _ _ hJ hr⟩
  | succ fuel ih =>
    intro listed a w hJ hc
    refine ⟨hend _ _ _ hJ, fun i hi => wpOp_mono (fun a' w' hJ' => ih _ _ _ hJ' ?_) (hstep _ _ _ _ hJ hi)⟩
    have := cnt_set _ i (get_of_ready (hz _ _ _ hJ) hi)
    rw [Array.toList_setIfInBounds]
    omega

theorem wpOp_of {P : Program} {ops : Array Oper} {Q : Exit → Act → World → Prop} {i : Nat} {o : Oper} {K : Act → World → Prop} {a : Act} {w : World} (ho : ops[i]? = some o) (hg : o.guard = none) (h : o.wp P a w K Q) : wpOp P ops Q i K a w := by
  unfold wpOp
  simp only [ho]
  rw [if_pos (by simp [Region.wanted, hg])]
  exact Or.inl h

theorem getS {l : Array Bool} {i : Nat} (j : Nat) (hi : i < l.size) : (l.setIfInBounds i true).getD j false = if i = j then true else l.getD j false := by
  by_cases h : i = j
  · subst h
    simp [hi]
  · rw [if_neg h, getD_set_ne _ h]

/-- What an operation gives, put among what the others gave. -/
def upd (f : Nat → Value) (i : Nat) (v : Value) : Nat → Value := fun j => if j = i then v else f j
theorem upd_same (f : Nat → Value) (i : Nat) (v : Value) : upd f i v i = v := if_pos rfl
theorem upd_other (f : Nat → Value) {i j : Nat} (v : Value) (h : j ≠ i) : upd f i v j = f j := if_neg h

/-- All cells of a block are written. -/
theorem setCells_all (g : Nat) (t : TypeId) (m : Nat × Nat) : ∀ (l : List Value) (o : Nat) (pre : List Value) (w : World) (rest : List Value), o = pre.length → rest.length = l.length →
    w.heap[g]? = some (.cells (pre ++ rest).toArray t m) → (w.setCells g o l).heap[g]? = some (.cells (pre ++ l).toArray t m)
  | [], o, pre, w, rest, ho, hr, h => by
    have : rest = [] := List.length_eq_zero_iff.1 hr
    subst this
    exact h
  | v :: l, o, pre, w, rest, ho, hr, h => by
    cases rest with
    | nil => simp at hr
    | cons r rest =>
      have h1 : (w.setCell ⟨g, o, none⟩ v).heap[g]? = some (.cells ((pre ++ [v]) ++ rest).toArray t m) := by
        subst ho
        simp [World.setCell, Array.getElem?_modify, h]
      have := setCells_all g t m l (o + 1) (pre ++ [v]) (w.setCell ⟨g, o, none⟩ v) rest (by simp [ho]) (by simpa using hr) h1
      rw [List.append_assoc] at this
      exact this

theorem setCells_rest (g : Nat) : ∀ (l : List Value) (o : Nat) (w : World), (∀ k, k ≠ g → (w.setCells g o l).heap[k]? = w.heap[k]?) ∧ (w.setCells g o l).heap.size = w.heap.size ∧ (w.setCells g o l).os = w.os ∧ (w.setCells g o l).tape = w.tape ∧ (w.setCells g o l).output = w.output
  | [], _, w => ⟨fun _ _ => rfl, rfl, rfl, rfl, rfl⟩
  | v :: l, o, w => by
    obtain ⟨h1, h2, h3, h4, h5⟩ := setCells_rest g l (o + 1) (w.setCell ⟨g, o, none⟩ v)
    refine ⟨fun k hk => (h1 k hk).trans ?_, h2.trans (by simp [World.setCell]), h3.trans (by simp [World.setCell]), h4.trans (by simp [World.setCell]), h5.trans (by simp [World.setCell])⟩
    have hk' : ¬ g = k := fun e => hk e.symm
    simp [World.setCell, Array.getElem?_modify, hk']

/-- What has come up so far. -/
def J (n : Nat) (F : (Nat → Value) → Act) (ic ia is : Nat) (pre : Nat → Bool) (val : Value → Nat → Value) (T : TypeId) (Z : Array Value) (cs : Value → Array Value) (R : Value → (Nat → Prop) → World → Prop) (w : World) (l : Array Bool) (a : Act) (wr : World) : Prop :=
  l.size = n ∧ ∃ (f : Nat → Value) (y : Value) (H : Nat → Prop) (g : Nat), a = F f ∧ Below w.heap.size w wr ∧
    (∀ i, l.getD i false = true → i ≠ ic → i ≠ ia → i ≠ is → f i = val y i) ∧ (∀ i, l.getD i false = true → i ≠ ic → i ≠ ia → i ≠ is → pre i = false → l.getD ic false = true) ∧
    (l.getD ic false = true → f ic = y ∧ R y H wr) ∧ (∀ b, H b → w.heap.size ≤ b ∧ b < wr.heap.size) ∧
    (l.getD ia false = true → f ia = .pointer (some ⟨g, 0, none⟩) ∧ w.heap.size ≤ g ∧ ¬ H g ∧ wr.heap[g]? = some (.cells (if l.getD is false = true then cs y else Z) T (0, 0))) ∧
    (l.getD is false = true → l.getD ic false = true ∧ l.getD ia false = true)

theorem boxed_region {P : Program} {id : Nat} {ops : Array Oper} {w : World} {Q : Exit → Act → World → Prop} (hm : P.follows .mixedOrders = true) (F : (Nat → Value) → Act) (f0 : Nat → Value)
    (ic ia is ix : Nat) (pre : Nat → Bool) (val : Value → Nat → Value) (T : TypeId) (Z : Array Value) (cs : Value → Array Value) (R : Value → (Nat → Prop) → World → Prop)
    (hne : ic ≠ ia ∧ ic ≠ is ∧ ia ≠ is ∧ ix ≠ ic ∧ ix ≠ ia ∧ ix ≠ is) (hix : pre ix = false)
    (hg : ∀ (i : Nat) (o : Oper), ops[i]? = some o → o.guard = none) (hord : ∀ (i : Nat) (o : Oper), ops[i]? = some o → ∀ e ∈ o.after, Region.binds .any e = true → e.on < i)
    (hput : ∀ (i : Nat) (o : Oper), ops[i]? = some o → i ≠ is → ∀ f v, (F f).put o.dst v = F (upd f i v))
    (hpost : ∀ (i : Nat) (o : Oper), ops[i]? = some o → i ≠ ic → i ≠ ia → i ≠ is → pre i = false → ∃ e ∈ o.after, Region.binds .any e = true ∧ (e.on = ic ∨ (e.on ≠ ic ∧ e.on ≠ ia ∧ e.on ≠ is ∧ pre e.on = false)))
    (hpre : ∀ y y' i, pre i = true → val y i = val y' i) (hvc : ∀ y, val y ic = y)
    (hplain : ∀ (i : Nat) (o : Oper), ops[i]? = some o → i ≠ ic → i ≠ ia → i ≠ is → ∀ (f : Nat → Value) (y : Value) (H : Nat → Prop) (wr : World) (K : Act → World → Prop), Below w.heap.size w wr → (∀ e ∈ o.after, Region.binds .any e = true → e.on ≠ ia → e.on ≠ is → f e.on = val y e.on) → (pre i = false → R y H wr) →
      K ((F f).put o.dst (val y i)) wr → o.wp P (F f) wr K Q)
    (hcall : ∀ (o : Oper), ops[ic]? = some o → (∀ e ∈ o.after, Region.binds .any e = true → e.on ≠ ia ∧ e.on ≠ is ∧ pre e.on = true) ∧ ∀ (f : Nat → Value) (wr : World) (K : Act → World → Prop), Below w.heap.size w wr → (∀ e ∈ o.after, Region.binds .any e = true → ∀ y, f e.on = val y e.on) →
      (∀ y H wr', R y H wr' → Below wr.heap.size wr wr' → (∀ b, H b → wr.heap.size ≤ b ∧ b < wr'.heap.size) → K ((F f).put o.dst y) wr') → o.wp P (F f) wr K Q)
    (halloc : ∀ (o : Oper), ops[ia]? = some o → ∀ (f : Nat → Value) (wr : World) (K : Act → World → Prop), K ((F f).put o.dst (.pointer (some ⟨wr.heap.size, 0, none⟩))) (wr.alloc (.cells Z T)) → o.wp P (F f) wr K Q)
    (hstore : ∀ (o : Oper), ops[is]? = some o → (∃ e ∈ o.after, Region.binds .any e = true ∧ e.on = ia) ∧ (∃ e ∈ o.after, Region.binds .any e = true ∧ e.on = ix) ∧ o.dst = none ∧ ∃ sp sx, o.op = .store T (.tmp sp) (.tmp sx) ∧ ∀ f, (F f).eval (.tmp sp) = f ia ∧ (F f).eval (.tmp sx) = f ix)
    (hcs : ∀ y H wr, R y H wr → val y ix = .agg (cs y) ∧ (cs y).size = Z.size ∧ (cs y).all (·.oneCell') = true) (hsz : (P.info? T).map (·.size) = some Z.size)
    (hR : ∀ y H wr wr', R y H wr → (∀ b, H b → wr'.heap[b]? = wr.heap[b]?) → R y H wr')
    (hhave : (∃ o : Oper, ops[ic]? = some o) ∧ (∃ o : Oper, ops[ia]? = some o) ∧ (∃ o : Oper, ops[is]? = some o))
    (h : ∀ f y H g wr, (∀ i, i < ops.size → i ≠ ia → i ≠ is → f i = val y i) → f ia = .pointer (some ⟨g, 0, none⟩) → R y H wr → (∀ b, H b → w.heap.size ≤ b ∧ b < wr.heap.size ∧ b ≠ g) → w.heap.size ≤ g → wr.heap[g]? = some (.cells (cs y) T (0, 0)) → Below w.heap.size w wr → Q .normal (F f) wr) :
    (Code.region id ops true).wp P Q (F f0) w := by
  obtain ⟨n1, n2, n3, n4, n5, n6⟩ := hne
  refine wp_region_any hm ?_
  refine wpAny_inv (J := J ops.size F ic ia is pre val T Z cs R w) (fun l a wr hJ => hJ.1) ?_ ?_ _ _ _ _ ?_ ?_
  · rintro l a wr i ⟨hz, f, y, H, g, rfl, hb, h1, h2, h3, h4, h5, h6⟩ hi
    obtain ⟨hn, o, ho, hdep⟩ := mem_ready.1 hi
    have hlt : i < ops.size := (Array.getElem?_eq_some_iff.1 ho).1
    have gs : ∀ j, (l.setIfInBounds i true).getD j false = if i = j then true else l.getD j false := fun j => getS j (by omega)
    have hn' : l.getD i false = false := by
      rw [Array.getD_eq_getD_getElem?, Array.getElem?_eq_getElem (by omega)] at hn ⊢
      simpa using hn
    have hzz : (l.setIfInBounds i true).size = ops.size := by simp [hz]
    refine wpOp_of ho (hg i o ho) ?_
    by_cases ec : i = ic
    · subst ec
      obtain ⟨d1, d2⟩ := hcall o ho
      refine d2 f wr _ hb (fun e he hbd y' => ?_) ?_
      · obtain ⟨q1, q2, q3⟩ := d1 e he hbd
        have hl := hdep e he hbd
        have hlt' := hord i o ho e he hbd
        rw [h1 _ hl (by omega) q1 q2]
        exact hpre _ _ _ q3
      · intro y' H' wr' hR' hb' hH'
        rw [hput i o ho (by exact n2)]
        have hsw := hb.size
        have hsw' := hb'.size
        have nis : ¬ l.getD is false = true := fun e => by rw [(h6 e).1] at hn'; cases hn'
        refine ⟨hzz, _, y', H', g, rfl, hb.trans (hb'.mono hb.size), ?_, ?_, ?_, ?_, ?_, ?_⟩
        · intro j hj j1 j2 j3
          rw [gs, if_neg (fun e => j1 e.symm)] at hj
          rw [upd_other _ _ j1, h1 j hj j1 j2 j3]
          refine hpre _ _ _ ?_
          cases hp : pre j with
          | true => rfl
          | false => rw [h2 j hj j1 j2 j3 hp] at hn'; cases hn'
        · intro j hj j1 j2 j3 _
          rw [gs, if_pos rfl]
        · intro _
          exact ⟨upd_same _ _ _, hR'⟩
        · intro b hb0
          have := hH' b hb0
          exact ⟨by omega, this.2⟩
        · intro hj
          rw [gs, if_neg n1] at hj
          obtain ⟨r1, r2, r3, r4⟩ := h5 hj
          have hl := lt_of_block r4
          refine ⟨(upd_other _ _ (Ne.symm n1)).trans r1, r2, fun e => by have := hH' _ e; omega, ?_⟩
          rw [hb'.block _ hl, r4, if_neg nis, gs, if_neg n2, if_neg nis]
        · intro hj
          rw [gs, if_neg n2] at hj
          exact absurd hj nis
    · by_cases ea : i = ia
      · subst ea
        refine halloc o ho f wr _ ?_
        rw [hput i o ho n3]
        have nis : ¬ l.getD is false = true := fun e => by rw [(h6 e).2] at hn'; cases hn'
        have ba : Below wr.heap.size wr (wr.alloc (.cells Z T)) := (Below.refl _ _).alloc (Nat.le_refl _) _
        have hsw := hb.size
        refine ⟨hzz, _, y, H, wr.heap.size, rfl, hb.trans (ba.mono hb.size), ?_, ?_, ?_, ?_, ?_, ?_⟩
        · intro j hj j1 j2 j3
          rw [gs, if_neg (fun e => j2 e.symm)] at hj
          rw [upd_other _ _ j2]
          exact h1 j hj j1 j2 j3
        · intro j hj j1 j2 j3 hp
          rw [gs, if_neg (fun e => j2 e.symm)] at hj
          rw [gs, if_neg (Ne.symm n1)]
          exact h2 j hj j1 j2 j3 hp
        · intro hj
          rw [gs, if_neg (Ne.symm n1)] at hj
          obtain ⟨r1, r2⟩ := h3 hj
          exact ⟨(upd_other _ _ n1).trans r1, hR _ _ _ _ r2 fun b hb0 => ba.block b (h4 b hb0).2⟩
        · intro b hb0
          have := h4 b hb0
          have := ba.size
          exact ⟨by omega, by omega⟩
        · intro _
          refine ⟨upd_same _ _ _, hsw, fun e => by have := (h4 _ e).2; omega, ?_⟩
          rw [gs, if_neg n3, if_neg nis]
          exact heap_alloc_new _ _
        · intro hj
          rw [gs, if_neg n3] at hj
          exact absurd hj nis
      · by_cases es : i = is
        · subst es
          obtain ⟨⟨e1, he1, hb1, hi1⟩, ⟨e2, he2, hb2, hi2⟩, hdst, sp, sx, hop, hev⟩ := hstore o ho
          have la : l.getD ia false = true := by rw [← hi1]; exact hdep e1 he1 hb1
          have lx : l.getD ix false = true := by rw [← hi2]; exact hdep e2 he2 hb2
          have lc := h2 ix lx n4 n5 n6 hix
          obtain ⟨r1, r2, r3, r4⟩ := h5 la
          obtain ⟨t1, t2⟩ := h3 lc
          obtain ⟨u1, u2, u3⟩ := hcs y H wr t2
          rw [if_neg (by rw [hn']; decide)] at r4
          have hfx : f ix = .agg (cs y) := (h1 ix lx n4 n5 n6).trans u1
          refine wp_store_mid T _ _ hop g 0 (cs y) ((hev f).1.trans r1) ((hev f).2.trans hfx) ?_ (by rw [u2]; exact hsz) u3 ?_
          · intro j hj
            rw [u2] at hj
            simp only [World.cell?, World.frozen?, r4, Nat.zero_add]
            simp [hj]
          · rw [hdst]
            obtain ⟨s1, s2, s3, s4, s5⟩ := setCells_rest g (cs y).toList 0 wr
            have s6 := setCells_all g T (0, 0) (cs y).toList 0 [] wr Z.toList rfl (by simp [u2]) (by simpa using r4)
            have hb' : Below w.heap.size w (wr.setCells g 0 (cs y).toList) := ⟨s3.trans hb.os, s4.trans hb.tape, s5.trans hb.output, by rw [s2]; exact hb.size, fun k hk => (s1 k (by omega)).trans (hb.block k hk)⟩
            refine ⟨hzz, f, y, H, g, rfl, hb', ?_, ?_, ?_, ?_, ?_, ?_⟩
            · intro j hj j1 j2 j3
              rw [gs, if_neg (fun e => j3 e.symm)] at hj
              exact h1 j hj j1 j2 j3
            · intro j hj j1 j2 j3 hp
              rw [gs, if_neg (fun e => j3 e.symm)] at hj
              rw [gs, if_neg (Ne.symm n2)]
              exact h2 j hj j1 j2 j3 hp
            · intro _
              exact ⟨t1, hR _ _ _ _ t2 fun b hb0 => s1 b fun e => r3 (by rw [← e]; exact hb0)⟩
            · intro b hb0
              rw [s2]
              exact h4 b hb0
            · intro _
              refine ⟨r1, r2, r3, ?_⟩
              rw [gs, if_pos rfl, if_pos rfl]
              simpa using s6
            · intro _
              rw [gs, if_neg (Ne.symm n2), gs, if_neg (Ne.symm n3)]
              exact ⟨lc, la⟩
        · have hpc : pre i = false → l.getD ic false = true := fun hp => by
            obtain ⟨e, he, hbd, hor⟩ := hpost i o ho ec ea es hp
            have hl := hdep e he hbd
            rcases hor with hor | ⟨q1, q2, q3, q4⟩
            · rw [← hor]; exact hl
            · exact h2 _ hl q1 q2 q3 q4
          refine hplain i o ho ec ea es f y H wr _ hb (fun e he hbd q1 q2 => ?_) (fun hp => (h3 (hpc hp)).2) ?_
          · have hl := hdep e he hbd
            by_cases q3 : e.on = ic
            · rw [q3] at hl ⊢
              rw [hvc]
              exact (h3 hl).1
            · exact h1 _ hl q3 q1 q2
          · rw [hput i o ho es]
            refine ⟨hzz, _, y, H, g, rfl, hb, ?_, ?_, ?_, h4, ?_, ?_⟩
            · intro j hj j1 j2 j3
              by_cases eij : j = i
              · rw [eij, upd_same]
              · rw [gs, if_neg (fun e => eij e.symm)] at hj
                rw [upd_other _ _ eij]
                exact h1 j hj j1 j2 j3
            · intro j hj j1 j2 j3 hp
              rw [gs, if_neg ec]
              by_cases eij : j = i
              · rw [eij] at hp
                exact hpc hp
              · rw [gs, if_neg (fun e => eij e.symm)] at hj
                exact h2 j hj j1 j2 j3 hp
            · intro hj
              rw [gs, if_neg ec] at hj
              obtain ⟨r1, r2⟩ := h3 hj
              exact ⟨(upd_other _ _ (Ne.symm ec)).trans r1, r2⟩
            · intro hj
              rw [gs, if_neg ea] at hj
              obtain ⟨r1, r2, r3, r4⟩ := h5 hj
              refine ⟨(upd_other _ _ (Ne.symm ea)).trans r1, r2, r3, ?_⟩
              rw [r4, gs, if_neg es]
            · intro hj
              rw [gs, if_neg es] at hj
              rw [gs, if_neg ec, gs, if_neg ea]
              exact h6 hj
  · rintro l a wr ⟨hz, f, y, H, g, rfl, hb, h1, h2, h3, h4, h5, h6⟩ hr
    have all : ∀ n i, i < n → i < ops.size → l.getD i false = true := by
      intro n
      induction n with
      | zero => intro i hi; omega
      | succ n ih =>
        intro i hi hlt
        obtain ⟨o, ho⟩ : ∃ o, ops[i]? = some o := ⟨_, Array.getElem?_eq_getElem hlt⟩
        cases hh : l.getD i true with
        | false =>
          have : i ∈ Region.ready .any ops l := mem_ready.2 ⟨hh, o, ho, fun e he hbd => ih _ (by have := hord i o ho e he hbd; omega) (by have := hord i o ho e he hbd; omega)⟩
          rw [hr] at this
          cases this
        | true =>
          rw [Array.getD_eq_getD_getElem?, Array.getElem?_eq_getElem (by omega)] at hh ⊢
          simpa using hh
    obtain ⟨⟨oc, hoc⟩, ⟨oa, hoa⟩, ⟨os, hos⟩⟩ := hhave
    have lt : ∀ {i : Nat} {o : Oper}, ops[i]? = some o → i < ops.size := fun ho => (Array.getElem?_eq_some_iff.1 ho).1
    have lc := all _ ic (Nat.lt_succ_self _) (lt hoc)
    have la := all _ ia (Nat.lt_succ_self _) (lt hoa)
    have ls := all _ is (Nat.lt_succ_self _) (lt hos)
    obtain ⟨t1, t2⟩ := h3 lc
    obtain ⟨r1, r2, r3, r4⟩ := h5 la
    rw [if_pos ls] at r4
    refine h f y H g wr (fun i hi q1 q2 => ?_) r1 t2 (fun b hb0 => ⟨(h4 b hb0).1, (h4 b hb0).2, fun e => r3 (by rw [← e]; exact hb0)⟩) r2 r4 hb
    by_cases q3 : i = ic
    · rw [q3, hvc]
      exact t1
    · exact h1 i (all _ i (Nat.lt_succ_self _) hi) q3 q1 q2
  · have none8 : ∀ j, (Array.replicate ops.size false).getD j false = false := by
      intro j
      rw [Array.getD_eq_getD_getElem?]
      by_cases hj : j < (Array.replicate ops.size false).size
      · rw [Array.getElem?_eq_getElem hj]; simp
      · rw [Array.getElem?_eq_none (by omega)]; rfl
    refine ⟨by simp, f0, undef, fun _ => False, 0, rfl, (Below.refl _ _).drew, ?_⟩
    simp only [none8]
    simp
  · have := cnt_le (Array.replicate ops.size false).toList
    simpa using this
end Go.Proofs.Ytchohjbiiaddmaa.Rg
