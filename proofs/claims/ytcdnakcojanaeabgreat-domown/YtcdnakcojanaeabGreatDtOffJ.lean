/-
  The page's off. (Printed by wip/make/mkdtoff.py.)
-/
import Derived.Test.YtcdnakcojanaeabGreatDuPgJ
import Derived.Test.YtcdnakcojanaeabGreatDbPageJ
import Derived.Test.YtcdnakcojanaeabGreatDoOff
import Derived.Test.YtcdnakcojanaeabGreatRgStoreM
namespace Go.Proofs.YtcdnakcojanaeabGreat
open Go.ChangeShapes Go.WideShapes Go.ChangeAt Go.RowKit Go.Deep
open Do
namespace Pg

theorem OwnN.setK {w w2 : World} {B g c l : Nat} {ns : List Nd} {ab kb : Nat → Value} (h : OwnN w B (.slice (some ⟨g, 0, none⟩) l c) ns ab kb) (hb : Below w.heap.size w w2) (hB : B ≤ w.heap.size) {q : Nat} {n : Nd} (hq : ns[q]? = some n) {kv : Value} {ks : List Int} (hK : OwnZ w2 w.heap.size kv ks) (hk : I64 ks ∧ ks.length * 8 ≤ 140737488351232) :
    OwnN (w2.setCell ⟨g, q * 7 + 6, none⟩ kv) B (.slice (some ⟨g, 0, none⟩) l c) (ns.set q (n.withKids ks)) ab (upd kb q kv) := by
  have h' := h.below hb
  obtain ⟨cur, hcur⟩ := h'.rowBlock
  have neA : ∀ {v : Value} {l : List Atr} {D : Nat}, OwnA w2 D v l → ∀ b, v.ownBlock = some b → b ≠ g := by
    rintro v l D hv b hb rfl
    obtain ⟨cu, hc, -⟩ := hv.block hb
    rw [hcur] at hc
    simp at hc
  have neK : ∀ {v : Value} {l : List Int} {D : Nat}, OwnZ w2 D v l → ∀ b, v.ownBlock = some b → b ≠ g := by
    rintro v l D hv b hb rfl
    obtain ⟨cu, hc, -⟩ := hv.block hb
    rw [hcur] at hc
    simp at hc
  have hK' : OwnZ w2 B kv ks := hK.less hB
  have hlen : (ns.set q (n.withKids ks)).length = ns.length := by simp
  refine ⟨?_, ?_, ?_, ?_, ?_, ?_⟩
  · rw [hlen, ← rowN_setK ns ab kb q n ks kv hq]
    exact ownsRow_set h'.row _ _
  · intro i m hm
    rcases get_set_cases hm with ⟨rfl, rfl⟩ | ⟨hi, hm⟩
    · have ho := h'.ats i n hq
      exact ho.same fun b hb => heap_set_other _ (neA ho b hb)
    · have ho := h'.ats i m hm
      exact ho.same fun b hb => heap_set_other _ (neA ho b hb)
  · intro i m hm
    rcases get_set_cases hm with ⟨rfl, rfl⟩ | ⟨hi, hm⟩
    · rw [upd_same]
      exact hK'.same fun b hb => heap_set_other _ (neK hK' b hb)
    · rw [upd_other _ _ hi]
      have ho := h'.kids i m hm
      exact ho.same fun b hb => heap_set_other _ (neK ho b hb)
  · rw [hlen]; exact h.apa
  · rw [hlen]
    intro i j b hi hj hij hb1 hb2
    have old : ∀ m, m < ns.length → (kb m).ownBlock = some b → b < w.heap.size := fun m hm h1 => ((h.kids m ns[m] (List.getElem?_eq_getElem hm)).lt b h1).2
    by_cases e : i = q
    · subst e
      rw [upd_same] at hb1
      rw [upd_other _ _ (by omega)] at hb2
      have h1 := (hK.lt b hb1).1
      have h2 := old j hj hb2
      omega
    · rw [upd_other _ _ e] at hb1
      by_cases e' : j = q
      · subst e'
        rw [upd_same] at hb2
        have h1 := (hK.lt b hb2).1
        have h2 := old i hi hb1
        omega
      · rw [upd_other _ _ e'] at hb2
        exact h.apk i j b hi hj hij hb1 hb2
  · intro m hm
    rcases List.mem_or_eq_of_mem_set hm with hm | rfl
    · exact h.fit m hm
    · have hf := h.fit n (List.mem_of_getElem? hq)
      exact ⟨hf.id, hf.par, hf.node, hf.atr, hk⟩

theorem OwnN.setP {w : World} {B g c l : Nat} {ns : List Nd} {ab kb : Nat → Value} (h : OwnN w B (.slice (some ⟨g, 0, none⟩) l c) ns ab kb) {q : Nat} {n : Nd} (hq : ns[q]? = some n) {x : Int} (hx : -9223372036854775808 ≤ x ∧ x ≤ 9223372036854775807) :
    OwnN (w.setCell ⟨g, q * 7 + 1, none⟩ (.int .i64 x)) B (.slice (some ⟨g, 0, none⟩) l c) (ns.set q (n.withPar x)) ab kb := by
  obtain ⟨cur, hcur⟩ := h.rowBlock
  have hlen : (ns.set q (n.withPar x)).length = ns.length := by simp
  refine ⟨?_, ?_, ?_, by rw [hlen]; exact h.apa, by rw [hlen]; exact h.apk, ?_⟩
  · rw [hlen, ← rowN_setP ns ab kb q n x hq]
    exact ownsRow_set h.row _ _
  · intro i m hm
    have ho : OwnA w B (ab i) m.ats := by
      rcases get_set_cases hm with ⟨rfl, rfl⟩ | ⟨hi, hm⟩
      · exact h.ats i n hq
      · exact h.ats i m hm
    refine ho.same fun b hb => heap_set_other _ ?_
    rintro rfl
    obtain ⟨cu, hc, -⟩ := ho.block hb
    rw [hcur] at hc
    simp at hc
  · intro i m hm
    have ho : OwnZ w B (kb i) m.kids := by
      rcases get_set_cases hm with ⟨rfl, rfl⟩ | ⟨hi, hm⟩
      · exact h.kids i n hq
      · exact h.kids i m hm
    refine ho.same fun b hb => heap_set_other _ ?_
    rintro rfl
    obtain ⟨cu, hc, -⟩ := ho.block hb
    rw [hcur] at hc
    simp at hc
  · intro m hm
    rcases List.mem_or_eq_of_mem_set hm with hm | rfl
    · exact h.fit m hm
    · have hf := h.fit n (List.mem_of_getElem? hq)
      exact ⟨hf.id, hx, hf.node, hf.atr, hf.kids⟩

end Pg

namespace Do
/-- Nodes behind a number taken from among the kids of a parent, if there is one. -/
def offQ (ns : List Nd) (x p : Int) : List Nd := match pl ns p with
  | none => ns
  | some q => match ns[q]? with
    | none => ns
    | some m => ns.set q (m.withKids (lessZ m.kids x))

/-- What the page's off leaves. -/
def offP (ns : List Nd) (x : Int) : List Nd := match pl ns x with
  | none => ns
  | some t => match ns[t]? with
    | none => ns
    | some n => match (offQ ns x n.par)[t]? with
      | none => ns
      | some n1 => (offQ ns x n.par).set t (n1.withPar 0)

theorem offQ_length (ns : List Nd) (x p : Int) : (offQ ns x p).length = ns.length := by
  unfold offQ
  split
  · rfl
  · split
    · rfl
    · simp
end Do

/-- A row of one's own among a display's. -/
theorem Pg.OwnN.ds {w : World} {B : Nat} {a : Option Addr} {c : Nat} {ns : List Nd} {ab kb : Nat → Value} {root next : Int} (h : Pg.OwnN w B (.slice a ns.length c) ns ab kb) (hn : ns.length ≤ 1024) (hr : -9223372036854775808 ≤ root ∧ root ≤ 9223372036854775807) (hx : -9223372036854775808 ≤ next ∧ next ≤ 9223372036854775807) : DsIs w ⟨ns, root, next⟩ a c :=
  ⟨h.lay, by show _ ≤ _; simp only; omega, cap_of_own h.row, hr, hx⟩

set_option maxRecDepth 100000 in
set_option maxHeartbeats 1600000 in
theorem roff_any (ns : List Nd) (root next x : Int) (t : Nat) (n : Nd) (va : Option Addr) (vc : Nat) (ab kb : Nat → Value) (B : Nat) (w : World) (hO : Pg.OwnN w B (.slice va ns.length vc) ns ab kb) (hB : B ≤ w.heap.size) (hn : ns.length ≤ 1024) (ht : pl ns x = some t) (hnt : ns[t]? = some n) (hr : -9223372036854775808 ≤ root ∧ root ≤ 9223372036854775807) (hx : -9223372036854775808 ≤ next ∧ next ≤ 9223372036854775807) :
    Calls Tryz.prog 52 #[.agg #[.slice va ns.length vc, .int .i64 root, .int .i64 next], .int .i64 x] w fun e w' => e = .returned (.tuple #[]) ∧ (∃ kb', Pg.OwnN w' B (.slice va ns.length vc) (offP ns x) ab kb' ∧ ∀ i, kb' i = kb i ∨ ∀ b, (kb' i).ownBlock = some b → w.heap.size ≤ b) ∧ Kept (fun b => (Value.slice va ns.length vc).ownBlock = some b) w w' := by
  have HO : Hid (Pg.OwnN w B (.slice va ns.length vc) ns ab kb) := hO
  have HB : Hid (B ≤ w.heap.size) := hB
  have HPL : Hid (∀ W z, Below w.heap.size w W → Calls Tryz.prog 22 #[.agg #[.slice va ns.length vc, .int .i64 root, .int .i64 next], .int .i64 z] W fun e w' => e = .returned (.int .i64 (plI ns z)) ∧ Below W.heap.size W w') := fun W z hb => rplace_any ⟨ns, root, next⟩ z va vc W ((hO.below hb).ds hn hr hx)
  have HPX : Hid (plI ns x = (t : Int)) := plI_some ht
  have htl : t < ns.length := (List.getElem?_eq_some_iff.1 hnt).1
  have HOP : Hid (offP ns x = match (offQ ns x n.par)[t]? with | none => ns | some n1 => (offQ ns x n.par).set t (n1.withPar 0)) := by
    show _ = _
    unfold offP
    rw [ht]
    simp only
    rw [hnt]
  have HT : Hid (ns[t]? = some n) := hnt
  obtain ⟨b, hva, -⟩ := Pg.rowN_cells hO.row hnt
  subst hva
  clear hO hB ht hnt
  have X1 : Hid ((w.alloc (.cells #[.slice (some ⟨b, 0, none⟩) ns.length vc, .int .i64 root, .int .i64 next] 24)).heap[w.heap.size]? = some (.cells #[.slice (some ⟨b, 0, none⟩) ns.length vc, .int .i64 root, .int .i64 next] 24 (0, 0))) := heap_alloc_new _ _
  have B1 : Hid (Below w.heap.size w (w.alloc (.cells #[.slice (some ⟨b, 0, none⟩) ns.length vc, .int .i64 root, .int .i64 next] 24))) := below_one _ _
  go_enter Tryz.func52, Tryz.ntmps52
  obtain ⟨y0, y1, y2⟩ := three X1.out
  go_wp2_with fail
  generalize w.alloc (.cells #[.slice (some ⟨b, 0, none⟩) ns.length vc, .int .i64 root, .int .i64 next] 24) = W1 at *
  refine (HPL.out W1 x B1.out).mono ?_
  rintro e w2 ⟨rfl, hb2⟩
  rw [HPX.out]
  have B2 : Hid (Below w.heap.size w w2) := nxt B1.out hb2
  have X2 : Hid (w2.heap[w.heap.size]? = some (.cells #[.slice (some ⟨b, 0, none⟩) ns.length vc, .int .i64 root, .int .i64 next] 24 (0, 0))) := (hb2.block _ (lt_of_block X1.out)).trans X1.out
  clear hb2 X1 B1 y0 y1 y2
  obtain ⟨q0, q1, q2⟩ := three X2.out
  have O2 : Hid (Pg.OwnN w2 B (.slice (some ⟨b, 0, none⟩) ns.length vc) ns ab kb) := HO.out.below B2.out
  obtain ⟨g, hg, -, r1, -, -, -, -, -⟩ := Pg.rowN_cells O2.out.row HT.out
  simp only [Option.some.injEq, Addr.mk.injEq, and_true] at hg
  subst hg
  have e0 : ∀ z : Cls w2, z.1.cell? ⟨w.heap.size, 0, none⟩ = some (.slice (some ⟨b, 0, none⟩) ns.length vc) := fun z => Cls.cell q0 z
  have e1 : ∀ z : Cls w2, z.1.cell? ⟨w.heap.size, 1, none⟩ = some (.int .i64 root) := fun z => Cls.cell q1 z
  have e2 : ∀ z : Cls w2, z.1.cell? ⟨w.heap.size, 2, none⟩ = some (.int .i64 next) := fun z => Cls.cell q2 z
  have e4 : ∀ z : Cls w2, z.1.cell? ⟨b, t * 7 + 1, none⟩ = some (.int .i64 n.par) := fun z => Cls.cell r1 z
  have CP : Hid (∀ z : Cls w2, Calls Tryz.prog 22 #[.agg #[.slice (some ⟨b, 0, none⟩) ns.length vc, .int .i64 root, .int .i64 next], .int .i64 n.par] z.1 fun e w' => e = .returned (.int .i64 (plI ns n.par)) ∧ Below z.1.heap.size z.1 w') := fun z => HPL.out z.1 _ (nxt B2.out z.2)
  have inst : Nonempty (Cls w2) := ⟨⟨_, Below.refl _ _⟩⟩
  go_wp2_with fail
  refine wp_region_cls (by kernel_rfl) (by kernel_rfl) ?_
  repeat (go_big_quiet_step ((go_at_call 22; exact Calls.cls (CP.out _))))
  refine wpQuiet_nil ?_
  intro _ hw'
  obtain ⟨z, hw''⟩ := hw'
  subst hw''
  have X3 : Hid (z.1.heap[w.heap.size]? = some (.cells #[.slice (some ⟨b, 0, none⟩) ns.length vc, .int .i64 root, .int .i64 next] 24 (0, 0))) := (z.2.block _ (lt_of_block X2.out)).trans X2.out
  have B3 : Hid (Below w.heap.size w z.1) := nxt B2.out z.2
  have O3 : Hid (Pg.OwnN z.1 B (.slice (some ⟨b, 0, none⟩) ns.length vc) ns ab kb) := O2.out.below z.2
  clear q0 q1 q2 r1 CP e0 e1 e2 e4 inst O2 X2 B2
  generalize z.1 = wr at *
  clear z
  obtain ⟨y0, y1, y2⟩ := three X3.out
  -- what is left to do behind both ends
  have HEND : Hid (∀ (ns1 : List Nd) (n1 : Nd) (kb1 : Nat → Value) (W : World), ns1.length = ns.length → ns1[t]? = some n1 → offP ns x = ns1.set t (n1.withPar 0) → Pg.OwnN W B (.slice (some ⟨b, 0, none⟩) ns.length vc) ns1 ab kb1 → (∀ i, kb1 i = kb i ∨ ∀ b', (kb1 i).ownBlock = some b' → w.heap.size ≤ b') → Kept (fun j => (Value.slice (some ⟨b, 0, none⟩) ns.length vc).ownBlock = some j) w W →
      (∃ kb', Pg.OwnN (W.setCell ⟨b, t * 7 + 1, none⟩ (.int .i64 0)) B (.slice (some ⟨b, 0, none⟩) ns.length vc) (offP ns x) ab kb' ∧ ∀ i, kb' i = kb i ∨ ∀ b', (kb' i).ownBlock = some b' → w.heap.size ≤ b') ∧ Kept (fun j => (Value.slice (some ⟨b, 0, none⟩) ns.length vc).ownBlock = some j) w (W.setCell ⟨b, t * 7 + 1, none⟩ (.int .i64 0))) := by
    intro ns1 n1 kb1 W _ h1 h2 h3 h4 h5
    rw [h2]
    exact ⟨⟨kb1, h3.setP h1 (by omega), h4⟩, h5.setCell _ rfl⟩
  cases hp : pl ns n.par with
  | none =>
    have HOQ : Hid (offQ ns x n.par = ns) := by show _ = _; unfold offQ; rw [hp]
    rw [HOQ.out, HT.out] at HOP
    simp only at HOP
    rw [plI_none hp]
    clear hp
    have HFR : Hid (wr.frozen? ⟨b, t * 7 + 1, none⟩ = false) := own_frozen O3.out.row _
    obtain ⟨g, hg, -, r1, -, -, -, -, -⟩ := Pg.rowN_cells O3.out.row HT.out
    simp only [Option.some.injEq, Addr.mk.injEq, and_true] at hg
    subst hg
    have r1f := HFR.out
    have HF := HEND.out ns n kb wr rfl HT.out HOP.out O3.out (fun _ => Or.inl rfl) (Kept.of_below B3.out)
    have HFF : Hid (_ ∧ _) := HF
    clear HF
    go_wp2_with fail
    go_end0
    exact ⟨rfl, HFF.out.1, HFF.out.2⟩
  | some q =>
    obtain ⟨m, hm1, -⟩ := pl_some hp
    have hql : q < ns.length := (List.getElem?_eq_some_iff.1 hm1).1
    have HOQ : Hid (offQ ns x n.par = ns.set q (m.withKids (lessZ m.kids x))) := by show _ = _; unfold offQ; rw [hp]; simp only; rw [hm1]
    rw [plI_some hp]
    have HM : Hid (ns[q]? = some m) := hm1
    have HFT : Hid (NdFit m) := HO.out.fit m (List.mem_of_getElem? hm1)
    have g0 : decide ((0 : Int) ≤ (q : Int)) = true := decide_eq_true (by omega)
    have g0' : decide ((q : Int) < 0) = false := decide_eq_false (by omega)
    clear hp hm1
    obtain ⟨n1, hn1⟩ : ∃ n1, (ns.set q (m.withKids (lessZ m.kids x)))[t]? = some n1 := ⟨_, List.getElem?_eq_getElem (by simpa using htl)⟩
    have HN1 : Hid ((ns.set q (m.withKids (lessZ m.kids x)))[t]? = some n1) := hn1
    rw [HOQ.out, hn1] at HOP
    simp only at HOP
    clear hn1
    obtain ⟨g, hg, -, -, -, -, -, -, r6⟩ := Pg.rowN_cells O3.out.row HM.out
    simp only [Option.some.injEq, Addr.mk.injEq, and_true] at hg
    subst hg
    obtain ⟨mka, mkc, hks⟩ := (O3.out.kids q m HM.out).shape
    have HKO : Hid (OwnZ wr B (kb q) m.kids) := O3.out.kids q m HM.out
    rw [hks] at r6 HKO
    have HS0 : (fun w' : World => w'.heap[w.heap.size]? = some (.cells #[.slice (some ⟨b, 0, none⟩) ns.length vc, .int .i64 root, .int .i64 next] 24 (0, 0)) ∧ w'.cell? ⟨b, q * 7 + 6, none⟩ = some (.slice mka m.kids.length mkc)) wr.drew := ⟨X3.out, r6⟩
    go_wp2_with fail
    · refine Rg.Till.region (fun w' : World => w'.heap[w.heap.size]? = some (.cells #[.slice (some ⟨b, 0, none⟩) ns.length vc, .int .i64 root, .int .i64 next] 24 (0, 0)) ∧ w'.cell? ⟨b, q * 7 + 6, none⟩ = some (.slice mka m.kids.length mkc)) 13 (by kernel_rfl) ?_
      show Rg.Till _ _ _ _ _ 14 (Array.replicate 14 false) _ _
      refine Rg.Till.take (i := 0) (v := .pointer (some ⟨w.heap.size, 0, none⟩)) (some 19) rfl rfl (by kernel_rfl) (by kernel_rfl) (fun _ _ _ h => h) (by kernel_rfl) (by kernel_rfl) (Or.inl ⟨rfl, fun w' hS => ?_⟩) HS0 ?_
      · obtain ⟨y0, y1, y2⟩ := three hS.1; have y3 := hS.2; go_simp
      simp only [Act.put, List.setIfInBounds_toArray, List.set_cons_zero, List.set_cons_succ]
      refine Rg.Till.take (i := 1) (v := .slice (some ⟨b, 0, none⟩) ns.length vc) (some 20) rfl rfl (by kernel_rfl) (by kernel_rfl) (fun _ _ _ h => h) (by kernel_rfl) (by kernel_rfl) (Or.inl ⟨rfl, fun w' hS => ?_⟩) HS0 ?_
      · obtain ⟨y0, y1, y2⟩ := three hS.1; have y3 := hS.2; go_simp
      simp only [Act.put, List.setIfInBounds_toArray, List.set_cons_zero, List.set_cons_succ]
      refine Rg.Till.take (i := 2) (v := .int .i64 (q : Int)) (some 21) rfl rfl (by kernel_rfl) (by kernel_rfl) (fun _ _ _ h => h) (by kernel_rfl) (by kernel_rfl) (Or.inl ⟨rfl, fun w' hS => ?_⟩) HS0 ?_
      · obtain ⟨y0, y1, y2⟩ := three hS.1; have y3 := hS.2; go_simp
      simp only [Act.put, List.setIfInBounds_toArray, List.set_cons_zero, List.set_cons_succ]
      refine Rg.Till.take (i := 3) (v := .pointer (some ⟨w.heap.size, 0, none⟩)) (some 22) rfl rfl (by kernel_rfl) (by kernel_rfl) (fun _ _ _ h => h) (by kernel_rfl) (by kernel_rfl) (Or.inl ⟨rfl, fun w' hS => ?_⟩) HS0 ?_
      · obtain ⟨y0, y1, y2⟩ := three hS.1; have y3 := hS.2; go_simp
      simp only [Act.put, List.setIfInBounds_toArray, List.set_cons_zero, List.set_cons_succ]
      refine Rg.Till.take (i := 4) (v := .slice (some ⟨b, 0, none⟩) ns.length vc) (some 23) rfl rfl (by kernel_rfl) (by kernel_rfl) (fun _ _ _ h => h) (by kernel_rfl) (by kernel_rfl) (Or.inl ⟨rfl, fun w' hS => ?_⟩) HS0 ?_
      · obtain ⟨y0, y1, y2⟩ := three hS.1; have y3 := hS.2; go_simp
      simp only [Act.put, List.setIfInBounds_toArray, List.set_cons_zero, List.set_cons_succ]
      refine Rg.Till.take (i := 5) (v := .int .i64 (q : Int)) (some 24) rfl rfl (by kernel_rfl) (by kernel_rfl) (fun _ _ _ h => h) (by kernel_rfl) (by kernel_rfl) (Or.inl ⟨rfl, fun w' hS => ?_⟩) HS0 ?_
      · obtain ⟨y0, y1, y2⟩ := three hS.1; have y3 := hS.2; go_simp
      simp only [Act.put, List.setIfInBounds_toArray, List.set_cons_zero, List.set_cons_succ]
      refine Rg.Till.take (i := 6) (v := .pointer (some ⟨b, q * 7, none⟩)) (some 25) rfl rfl (by kernel_rfl) (by kernel_rfl) (fun _ _ _ h => h) (by kernel_rfl) (by kernel_rfl) (Or.inl ⟨rfl, fun w' hS => ?_⟩) HS0 ?_
      · obtain ⟨y0, y1, y2⟩ := three hS.1; have y3 := hS.2; go_simp
      simp only [Act.put, List.setIfInBounds_toArray, List.set_cons_zero, List.set_cons_succ]
      refine Rg.Till.take (i := 7) (v := .pointer (some ⟨b, q * 7 + 6, none⟩)) (some 26) rfl rfl (by kernel_rfl) (by kernel_rfl) (fun _ _ _ h => h) (by kernel_rfl) (by kernel_rfl) (Or.inl ⟨rfl, fun w' hS => ?_⟩) HS0 ?_
      · obtain ⟨y0, y1, y2⟩ := three hS.1; have y3 := hS.2; go_simp
      simp only [Act.put, List.setIfInBounds_toArray, List.set_cons_zero, List.set_cons_succ]
      refine Rg.Till.take (i := 8) (v := .slice mka m.kids.length mkc) (some 27) rfl rfl (by kernel_rfl) (by kernel_rfl) (fun _ _ _ h => h) (by kernel_rfl) (by kernel_rfl) (Or.inl ⟨rfl, fun w' hS => ?_⟩) HS0 ?_
      · obtain ⟨y0, y1, y2⟩ := three hS.1; have y3 := hS.2; go_simp
      simp only [Act.put, List.setIfInBounds_toArray, List.set_cons_zero, List.set_cons_succ]
      refine Rg.Till.take (i := 9) (v := .int .i64 x) (some 28) rfl rfl (by kernel_rfl) (by kernel_rfl) (fun _ _ _ h => h) (by kernel_rfl) (by kernel_rfl) (Or.inl ⟨rfl, fun w' hS => ?_⟩) HS0 ?_
      · obtain ⟨y0, y1, y2⟩ := three hS.1; have y3 := hS.2; go_simp
      simp only [Act.put, List.setIfInBounds_toArray, List.set_cons_zero, List.set_cons_succ]
      refine Rg.Till.oneK (i := 10) (by kernel_rfl) rfl rfl ?_
      intro K hK
      refine op_call2 (d := some 29) rfl 51 (by intros; go_simp) _ _ _ rfl _ _ rfl rfl ((rless_any m.kids x mka mkc wr.drew (HKO.out.nm HFT.out.kids.1 HFT.out.kids.2)).mono ?_)
      rintro e w4 ⟨kv, rfl, hk4, hb4⟩
      obtain ⟨k4a, k4c, rfl⟩ := hk4.shape
      have hb4' : Below wr.heap.size wr w4 := (Below.refl _ wr).drew.trans hb4
      have HSQ : (fun w' : World => w'.heap[w.heap.size]? = some (.cells #[.slice (some ⟨b, 0, none⟩) ns.length vc, .int .i64 root, .int .i64 next] 24 (0, 0)) ∧ w'.cell? ⟨b, q * 7 + 6, none⟩ = some (.slice mka m.kids.length mkc)) w4 := ⟨(hb4'.block _ (lt_of_block X3.out)).trans X3.out, keepc hb4' _ _ r6⟩
      refine ⟨_, rfl, hK.out _ _ (fun _ => HSQ) ?_⟩
      clear hK K
      simp only [Act.put, List.setIfInBounds_toArray, List.set_cons_zero, List.set_cons_succ]
      refine Rg.Till.oneK (i := 11) (by kernel_rfl) rfl rfl ?_
      intro K hK
      go_simp
      refine hK.out _ _ (fun _ => HSQ) ?_
      clear hK K
      refine Rg.Till.oneK (i := 12) (by kernel_rfl) rfl rfl ?_
      intro K hK
      go_simp
      refine hK.out _ _ (fun _ => HSQ) ?_
      clear hK K
      have z6 := HSQ.2
      have f6 : w4.frozen? ⟨b, q * 7 + 6, none⟩ = false := own_frozen (O3.out.below hb4').row _
      refine Rg.Till.oneK (i := 13) (by kernel_rfl) rfl rfl ?_
      intro K hK
      go_simp
      refine hK.out _ _ (fun h => absurd rfl h) ?_
      clear hK K
      refine Rg.Till.done (by kernel_rfl) ?_
      have hbb : b < w.heap.size := (HO.out.foot (Or.inl rfl)).2
      have X5 : Hid ((w4.setCell ⟨b, q * 7 + 6, none⟩ (.slice k4a (lessZ m.kids x).length k4c)).heap[w.heap.size]? = some (.cells #[.slice (some ⟨b, 0, none⟩) ns.length vc, .int .i64 root, .int .i64 next] 24 (0, 0))) := (heap_set_other _ (by omega)).trans HSQ.1
      have O5 : Hid (Pg.OwnN (w4.setCell ⟨b, q * 7 + 6, none⟩ (.slice k4a (lessZ m.kids x).length k4c)) B (.slice (some ⟨b, 0, none⟩) ns.length vc) (ns.set q (m.withKids (lessZ m.kids x))) ab (upd kb q (.slice k4a (lessZ m.kids x).length k4c))) := O3.out.setK hb4' (Nat.le_trans HB.out B3.out.size) HM.out hk4 (lessZ_i64 x HFT.out.kids)
      have K5 : Hid (Kept (fun j => (Value.slice (some ⟨b, 0, none⟩) ns.length vc).ownBlock = some j) w (w4.setCell ⟨b, q * 7 + 6, none⟩ (.slice k4a (lessZ m.kids x).length k4c))) := (Kept.of_below (nxt B3.out hb4')).setCell _ rfl
      have N5 : Hid (∀ i, (upd kb q (Value.slice k4a (lessZ m.kids x).length k4c)) i = kb i ∨ ∀ b', ((upd kb q (Value.slice k4a (lessZ m.kids x).length k4c)) i).ownBlock = some b' → w.heap.size ≤ b') := by
        intro i
        by_cases e : i = q
        · right
          rw [e, upd_same]
          exact fun b' h1 => Nat.le_trans B3.out.size (hk4.lt b' h1).1
        · left
          exact upd_other _ _ e
      clear HS0 HSQ z6 f6 hk4 hb4 hb4' hbb r6 y0 y1 y2
      generalize w4.setCell ⟨b, q * 7 + 6, none⟩ (.slice k4a (lessZ m.kids x).length k4c) = W5 at *
      generalize upd kb q (.slice k4a (lessZ m.kids x).length k4c) = kb5 at *
      obtain ⟨y0, y1, y2⟩ := three X5.out
      have hlen : (ns.set q (m.withKids (lessZ m.kids x))).length = ns.length := by simp
      obtain ⟨g, hg, -, r1, -, -, -, -, -⟩ := Pg.rowN_cells (a := some ⟨b, 0, none⟩) (l := ns.length) (c := vc) O5.out.row HN1.out
      simp only [Option.some.injEq, Addr.mk.injEq, and_true] at hg
      subst hg
      have r1f : W5.frozen? ⟨b, t * 7 + 1, none⟩ = false := own_frozen O5.out.row _
      have HFF : Hid (_ ∧ _) := HEND.out _ n1 kb5 W5 hlen HN1.out HOP.out O5.out N5.out K5.out
      go_wp2_with fail
      go_end0
      exact ⟨rfl, HFF.out.1, HFF.out.2⟩
end Go.Proofs.YtcdnakcojanaeabGreat

/-
  The page's root. (Printed by wip/make/mkdtroot.py.)
-/
namespace Go.Proofs.YtcdnakcojanaeabGreat
open Go.ChangeShapes Go.WideShapes Go.ChangeAt Go.RowKit Go.Deep
open Do

set_option maxRecDepth 100000 in
set_option maxHeartbeats 3200000 in
theorem rroot_any (s : Ds) (p : Pt) (B : Nat) (w : World) (v : Value) (ab kb : Nat → Value) (hO : Pg.OwnN w B v s.nodes ab kb) (hB : B ≤ w.heap.size) (hp : PtOk p) (hn : s.nodes.length ≤ 1024) (hr : -9223372036854775808 ≤ s.root ∧ s.root ≤ 9223372036854775807) (hx : -9223372036854775808 ≤ s.next ∧ s.next ≤ 9223372036854775807) :
    Calls Tryz.prog 21 #[.agg #[v, .int .i64 s.root, .int .i64 s.next], mkP p] w fun e w' => PgPost w w' B e (errD (rootD s p)) := by
  obtain ⟨vr, vc, hvs⟩ := hO.shape
  subst hvs
  have HO : Hid (Pg.OwnN w B (.slice vr s.nodes.length vc) s.nodes ab kb) := hO
  have HB : Hid (B ≤ w.heap.size) := hB
  have HP : Hid (PtOk p) := hp
  obtain ⟨ns, root, next⟩ := s
  obtain ⟨pw, pi, pp, pat, pg, pk, pt, pn, pv⟩ := p
  simp only at *
  clear hO hB hp
  obtain ⟨K3, hK3⟩ : ∃ W : World, W = ((w.alloc (.cells #[.slice vr ns.length vc, .int .i64 root, .int .i64 next] 24)).alloc (.cells #[.int .i64 pw, .int .i64 pi, .int .i64 pp, .int .i64 pat, .string pg, .string pk, .string pt, .string pn, .string pv] 26)).alloc (.cells #[.slice none 0 0, .int .i64 0, .int .i64 0] 24) := ⟨_, rfl⟩
  have B3 : Hid (Below w.heap.size w K3) := by show Below _ _ _; rw [hK3]; exact nxt (two_new _ _ _) (below_one _ _)
  have X3 : Hid (K3.heap[w.heap.size]? = some (.cells #[.slice vr ns.length vc, .int .i64 root, .int .i64 next] 24 (0, 0)) ∧ K3.heap[w.heap.size + 1]? = some (.cells #[.int .i64 pw, .int .i64 pi, .int .i64 pp, .int .i64 pat, .string pg, .string pk, .string pt, .string pn, .string pv] 26 (0, 0)) ∧ K3.heap[w.heap.size + 2]? = some (.cells #[.slice none 0 0, .int .i64 0, .int .i64 0] 24 (0, 0))) := by show _ ∧ _ ∧ _; rw [hK3]; exact three_new _ _ _ _
  go_enter Tryz.func21, Tryz.ntmps21
  obtain ⟨x0, x1, x2⟩ := three X3.out.1
  obtain ⟨n0, n1, n2, n3, n4, n5, n6, n7, n8⟩ := nine X3.out.2.1
  obtain ⟨⟨z0, z1, z2⟩, zf0, zf1, zf2⟩ : (K3.cell? ⟨w.heap.size + 2, 0, none⟩ = some (.slice none 0 0) ∧ K3.cell? ⟨w.heap.size + 2, 1, none⟩ = some (.int .i64 0) ∧ K3.cell? ⟨w.heap.size + 2, 2, none⟩ = some (.int .i64 0)) ∧ K3.frozen? ⟨w.heap.size + 2, 0, none⟩ = false ∧ K3.frozen? ⟨w.heap.size + 2, 1, none⟩ = false ∧ K3.frozen? ⟨w.heap.size + 2, 2, none⟩ = false := ⟨three X3.out.2.2, (cell_of X3.out.2.2 0).2, (cell_of X3.out.2.2 1).2, (cell_of X3.out.2.2 2).2⟩
  have HPL : Hid (∀ W z, Below w.heap.size w W → Calls Tryz.prog 22 #[.agg #[.slice vr ns.length vc, .int .i64 root, .int .i64 next], .int .i64 z] W fun e w' => e = .returned (.int .i64 (plI ns z)) ∧ Below W.heap.size W w') := fun W z hb => rplace_any ⟨ns, root, next⟩ z vr vc W ((HO.out.below hb).ds hn hr hx)
  by_cases h0 : pi = 0
  · have g0 : (pi != 0) = false := by simpa using h0
    have HR : Hid (errD (rootD ⟨ns, root, next⟩ ⟨pw, pi, pp, pat, pg, pk, pt, pn, pv⟩) = (0, ⟨ns, pi, next⟩)) := by
      show _ = _
      unfold rootD
      simp only
      rw [if_pos h0, h0]
      exact errD_zero
    clear h0
    go_wp2_with fail
    have X9 : (((w.alloc (.cells #[.slice vr ns.length vc, .int .i64 pi, .int .i64 next] 24)).alloc (.cells #[.int .i64 pw, .int .i64 pi, .int .i64 pp, .int .i64 pat, .string pg, .string pk, .string pt, .string pn, .string pv] 26)).alloc (.cells #[.slice vr ns.length vc, .int .i64 pi, .int .i64 next] 24)).heap[w.heap.size + 1 + 1]? = some (.cells #[.slice vr ns.length vc, .int .i64 pi, .int .i64 next] 24 (0, 0)) := (three_new _ _ _ _).2.2
    have B9 : Below w.heap.size w (((w.alloc (.cells #[.slice vr ns.length vc, .int .i64 pi, .int .i64 next] 24)).alloc (.cells #[.int .i64 pw, .int .i64 pi, .int .i64 pp, .int .i64 pat, .string pg, .string pk, .string pt, .string pn, .string pv] 26)).alloc (.cells #[.slice vr ns.length vc, .int .i64 pi, .int .i64 next] 24)) := nxt (two_new _ _ _) (below_one _ _)
    clear x0 x1 x2 n0 n1 n2 n3 n4 n5 n6 n7 n8 z0 z1 z2 zf0 zf1 zf2 X3 B3 hK3
    generalize ((w.alloc (.cells #[.slice vr ns.length vc, .int .i64 pi, .int .i64 next] 24)).alloc (.cells #[.int .i64 pw, .int .i64 pi, .int .i64 pp, .int .i64 pat, .string pg, .string pk, .string pt, .string pn, .string pv] 26)).alloc (.cells #[.slice vr ns.length vc, .int .i64 pi, .int .i64 next] 24) = W9 at *
    obtain ⟨c0, c1, c2⟩ := three X9
    refine bodyPost_ret (v := .tuple #[.agg #[.slice vr ns.length vc, .int .i64 pi, .int .i64 next], .int .i64 0]) (by simp [results, Tryz.results21, go_sem, c0, c1, c2]) rfl ?_
    rw [HR.out]
    exact ⟨_, _, _, rfl, HO.out.below B9, B9.mono HB.out⟩
  · have g0 : (pi != 0) = true := by simpa using h0
    go_wp2_with fail
    rw [← hK3]
    clear hK3
    refine (HPL.out K3 pi B3.out).mono ?_
    rintro e w4 ⟨rfl, hb4⟩
    have B4 : Hid (Below w.heap.size w w4) := nxt B3.out hb4
    have X4 : Hid (w4.heap[w.heap.size]? = some (.cells #[.slice vr ns.length vc, .int .i64 root, .int .i64 next] 24 (0, 0)) ∧ w4.heap[w.heap.size + 1]? = some (.cells #[.int .i64 pw, .int .i64 pi, .int .i64 pp, .int .i64 pat, .string pg, .string pk, .string pt, .string pn, .string pv] 26 (0, 0)) ∧ w4.heap[w.heap.size + 2]? = some (.cells #[.slice none 0 0, .int .i64 0, .int .i64 0] 24 (0, 0))) := ⟨(hb4.block _ (lt_of_block X3.out.1)).trans X3.out.1, (hb4.block _ (lt_of_block X3.out.2.1)).trans X3.out.2.1, (hb4.block _ (lt_of_block X3.out.2.2)).trans X3.out.2.2⟩
    clear hb4 x0 x1 x2 n0 n1 n2 n3 n4 n5 n6 n7 n8 z0 z1 z2 zf0 zf1 zf2
    obtain ⟨x0, x1, x2⟩ := three X4.out.1
    have xf1 := (cell_of X4.out.1 1).2
    obtain ⟨n0, n1, n2, n3, n4, n5, n6, n7, n8⟩ := nine X4.out.2.1
    obtain ⟨⟨z0, z1, z2⟩, zf0, zf1, zf2⟩ : (w4.cell? ⟨w.heap.size + 2, 0, none⟩ = some (.slice none 0 0) ∧ w4.cell? ⟨w.heap.size + 2, 1, none⟩ = some (.int .i64 0) ∧ w4.cell? ⟨w.heap.size + 2, 2, none⟩ = some (.int .i64 0)) ∧ w4.frozen? ⟨w.heap.size + 2, 0, none⟩ = false ∧ w4.frozen? ⟨w.heap.size + 2, 1, none⟩ = false ∧ w4.frozen? ⟨w.heap.size + 2, 2, none⟩ = false := ⟨three X4.out.2.2, (cell_of X4.out.2.2 0).2, (cell_of X4.out.2.2 1).2, (cell_of X4.out.2.2 2).2⟩
    cases hp : pl ns pi with
    | none =>
      rw [plI_none hp]
      have HR : Hid (errD (rootD ⟨ns, root, next⟩ ⟨pw, pi, pp, pat, pg, pk, pt, pn, pv⟩) = (71, noD)) := by
        show _ = _
        unfold rootD
        simp only
        rw [if_neg h0, hp]
        exact errD_err (by decide)
      clear hp
      go_wp2_with fail
      have HZ' : w4.heap[w.heap.size + 1 + 1]? = some (.cells #[.slice none 0 0, .int .i64 0, .int .i64 0] 24 (0, 0)) := X4.out.2.2
      obtain ⟨f1, f2, f3⟩ := state_fin (v := .slice none 0 0) (r := .int .i64 0) (n := .int .i64 0) HZ'
      have f3 := f3 w.heap.size w (by omega) B4.out
      clear x0 x1 x2 n0 n1 n2 n3 n4 n5 n6 n7 n8 z0 z1 z2 zf0 zf1 zf2
      generalize ((w4.setCell ⟨w.heap.size + 1 + 1, 0, none⟩ (.slice none 0 0)).setCell ⟨w.heap.size + 1 + 1, 1, none⟩ (.int .i64 0)).setCell ⟨w.heap.size + 1 + 1, 2, none⟩ (.int .i64 0) = W9 at *
      obtain ⟨c0, c1, c2⟩ := three f1
      refine bodyPost_ret (v := .tuple #[.agg #[.slice none 0 0, .int .i64 0, .int .i64 0], .int .i64 71]) (by simp [results, Tryz.results21, go_sem, c0, c1, c2]) rfl ?_
      rw [HR.out]
      exact ⟨_, _, _, rfl, noD_pg _ _, f3.mono HB.out⟩
    | some q =>
      rw [plI_some hp]
      obtain ⟨m, hm1, -⟩ := pl_some hp
      have hql : q < ns.length := (List.getElem?_eq_some_iff.1 hm1).1
      have HRE : Hid ((rootD ⟨ns, root, next⟩ ⟨pw, pi, pp, pat, pg, pk, pt, pn, pv⟩) = if m.tag.size = 0 then (81, ⟨ns, root, next⟩) else if m.par ≠ 0 then (9, ⟨ns, root, next⟩) else (0, ⟨ns, pi, next⟩)) := by show _ = _; unfold rootD; simp only; rw [if_neg h0, hp]; simp only; rw [hm1]
      obtain ⟨b, o, maa, mac, mka, mkc, ha', hN⟩ := (HO.out.below B4.out).lay q m hm1
      have HAV : Hid (vr = some ⟨b, o, none⟩) := ha'
      have r1 := hN.c1
      have r2 := hN.c2
      have gq : decide ((q : Int) < 0) = false := decide_eq_false (by omega)
      clear hm1 hp hN h0
      by_cases hg : m.tag.size = 0
      · rw [if_pos hg] at HRE
        have g2 := empty_true hg
        subst ha'
        have HR : Hid (errD (rootD ⟨ns, root, next⟩ ⟨pw, pi, pp, pat, pg, pk, pt, pn, pv⟩) = (81, noD)) := by show _ = _; rw [HRE.out]; exact errD_err (by decide)
        go_wp2_with fail
        have HZ' : w4.heap[w.heap.size + 1 + 1]? = some (.cells #[.slice none 0 0, .int .i64 0, .int .i64 0] 24 (0, 0)) := X4.out.2.2
        obtain ⟨f1, f2, f3⟩ := state_fin (v := .slice none 0 0) (r := .int .i64 0) (n := .int .i64 0) HZ'
        have f3 := f3 w.heap.size w (by omega) B4.out
        clear x0 x1 x2 n0 n1 n2 n3 n4 n5 n6 n7 n8 z0 z1 z2 zf0 zf1 zf2 xf1
        generalize ((w4.setCell ⟨w.heap.size + 1 + 1, 0, none⟩ (.slice none 0 0)).setCell ⟨w.heap.size + 1 + 1, 1, none⟩ (.int .i64 0)).setCell ⟨w.heap.size + 1 + 1, 2, none⟩ (.int .i64 0) = W9 at *
        obtain ⟨c0, c1, c2⟩ := three f1
        refine bodyPost_ret (v := .tuple #[.agg #[.slice none 0 0, .int .i64 0, .int .i64 0], .int .i64 81]) (by simp [results, Tryz.results21, go_sem, c0, c1, c2]) rfl ?_
        rw [HR.out]
        exact ⟨_, _, _, rfl, noD_pg _ _, f3.mono HB.out⟩
      rw [if_neg hg] at HRE
      have g2 := empty_false hg
      by_cases hpr : m.par = 0
      · rw [if_neg (by simpa using hpr)] at HRE
        have g3 : (m.par != 0) = false := by simpa using hpr
        have HR : Hid (errD (rootD ⟨ns, root, next⟩ ⟨pw, pi, pp, pat, pg, pk, pt, pn, pv⟩) = (0, ⟨ns, pi, next⟩)) := by show _ = _; rw [HRE.out]; exact errD_zero
        clear hpr
        subst ha'
        go_wp2_with fail
        have hsA : (w4.setCell ⟨w.heap.size, 1, none⟩ (.int .i64 pi)).heap[w.heap.size]? = some (.cells #[.slice (some ⟨b, o, none⟩) ns.length vc, .int .i64 pi, .int .i64 next] 24 (0, 0)) := by rw [set_one_cell X4.out.1]; simp
        have HZA : (w4.setCell ⟨w.heap.size, 1, none⟩ (.int .i64 pi)).heap[w.heap.size + 1 + 1]? = some (.cells #[.slice none 0 0, .int .i64 0, .int .i64 0] 24 (0, 0)) := (heap_set_other _ (by omega)).trans X4.out.2.2
        have hO0 := HO.out.below B4.out
        have NA : Pg.OwnN (w4.setCell ⟨w.heap.size, 1, none⟩ (.int .i64 pi)) B (.slice (some ⟨b, o, none⟩) ns.length vc) ns ab kb := hO0.same fun b hb => heap_set_other _ (hO0.notState X4.out.1 hb)
        have hbw := B4.out
        have BA : Below w.heap.size w (w4.setCell ⟨w.heap.size, 1, none⟩ (.int .i64 pi)) := ⟨hbw.os, hbw.tape, hbw.output, by have := hbw.size; simpa [World.setCell] using this, fun j hj => (heap_set_other _ (by omega)).trans (hbw.block j hj)⟩
        obtain ⟨f1, f2, f3⟩ := state_fin (v := .slice (some ⟨b, o, none⟩) ns.length vc) (r := .int .i64 pi) (n := .int .i64 next) HZA
        have f3 := f3 w.heap.size w (by omega) BA
        have NZ : Hid (Pg.OwnN ((((w4.setCell ⟨w.heap.size, 1, none⟩ (.int .i64 pi)).setCell ⟨w.heap.size + 1 + 1, 0, none⟩ (.slice (some ⟨b, o, none⟩) ns.length vc)).setCell ⟨w.heap.size + 1 + 1, 1, none⟩ (.int .i64 pi)).setCell ⟨w.heap.size + 1 + 1, 2, none⟩ (.int .i64 next)) B (.slice (some ⟨b, o, none⟩) ns.length vc) ns ab kb) := NA.same fun b hb => f2 b (NA.notState HZA hb)
        clear f2 HZA BA NA hbw hO0 hsA x0 x1 x2 n0 n1 n2 n3 n4 n5 n6 n7 n8 z0 z1 z2 zf0 zf1 zf2 xf1
        generalize (((w4.setCell ⟨w.heap.size, 1, none⟩ (.int .i64 pi)).setCell ⟨w.heap.size + 1 + 1, 0, none⟩ (.slice (some ⟨b, o, none⟩) ns.length vc)).setCell ⟨w.heap.size + 1 + 1, 1, none⟩ (.int .i64 pi)).setCell ⟨w.heap.size + 1 + 1, 2, none⟩ (.int .i64 next) = W9 at *
        obtain ⟨c0, c1, c2⟩ := three f1
        refine bodyPost_ret (v := .tuple #[.agg #[.slice (some ⟨b, o, none⟩) ns.length vc, .int .i64 pi, .int .i64 next], .int .i64 0]) (by simp [results, Tryz.results21, go_sem, c0, c1, c2]) rfl ?_
        rw [HR.out]
        exact ⟨_, _, _, rfl, NZ.out, f3.mono HB.out⟩
      · rw [if_pos hpr] at HRE
        have g3 : (m.par != 0) = true := by simpa using hpr
        clear hpr
        subst ha'
        have HR : Hid (errD (rootD ⟨ns, root, next⟩ ⟨pw, pi, pp, pat, pg, pk, pt, pn, pv⟩) = (9, noD)) := by show _ = _; rw [HRE.out]; exact errD_err (by decide)
        go_wp2_with fail
        have HZ' : w4.heap[w.heap.size + 1 + 1]? = some (.cells #[.slice none 0 0, .int .i64 0, .int .i64 0] 24 (0, 0)) := X4.out.2.2
        obtain ⟨f1, f2, f3⟩ := state_fin (v := .slice none 0 0) (r := .int .i64 0) (n := .int .i64 0) HZ'
        have f3 := f3 w.heap.size w (by omega) B4.out
        clear x0 x1 x2 n0 n1 n2 n3 n4 n5 n6 n7 n8 z0 z1 z2 zf0 zf1 zf2 xf1
        generalize ((w4.setCell ⟨w.heap.size + 1 + 1, 0, none⟩ (.slice none 0 0)).setCell ⟨w.heap.size + 1 + 1, 1, none⟩ (.int .i64 0)).setCell ⟨w.heap.size + 1 + 1, 2, none⟩ (.int .i64 0) = W9 at *
        obtain ⟨c0, c1, c2⟩ := three f1
        refine bodyPost_ret (v := .tuple #[.agg #[.slice none 0 0, .int .i64 0, .int .i64 0], .int .i64 9]) (by simp [results, Tryz.results21, go_sem, c0, c1, c2]) rfl ?_
        rw [HR.out]
        exact ⟨_, _, _, rfl, noD_pg _ _, f3.mono HB.out⟩
end Go.Proofs.YtcdnakcojanaeabGreat
