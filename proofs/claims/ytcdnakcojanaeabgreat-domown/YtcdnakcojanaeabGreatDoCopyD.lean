/-
  The program's copyOf: a display in memory of its own.
-/
import Derived.Test.YtcdnakcojanaeabGreatDoCopyA
import Derived.Deep.RegionHeld3
namespace Go.Proofs.YtcdnakcojanaeabGreat
open Go.ChangeShapes Go.WideShapes Go.ChangeAt Go.RowKit Go.Deep
open Do

/-- A function turned at one place. -/
def upd (f : Nat → Value) (i : Nat) (v : Value) : Nat → Value := fun j => if j = i then v else f j
theorem upd_same (f : Nat → Value) (i : Nat) (v : Value) : upd f i v i = v := by simp [upd]
theorem upd_other (f : Nat → Value) {i j : Nat} (v : Value) (h : j ≠ i) : upd f i v j = f j := by simp [upd, h]

theorem ownsRow_set {w : World} {B : Nat} {e : TypeId} {sz g n c l : Nat} {xs : List Value} (h : w.ownsRow B e sz (.slice (some ⟨g, 0, none⟩) l c) n xs) (j : Nat) (x : Value) :
    (w.setCell ⟨g, j, none⟩ x).ownsRow B e sz (.slice (some ⟨g, 0, none⟩) l c) n (xs.set j x) := by
  obtain ⟨h1, h2⟩ := h
  rcases h2 with ⟨h3, -⟩ | ⟨g', cap, cur, h3, h4, h5, h6, h7, h8, h9⟩
  · simp at h3
  · simp only [Value.slice.injEq, Option.some.injEq, Addr.mk.injEq, and_true] at h3
    obtain ⟨rfl, rfl, rfl⟩ := h3
    refine ⟨by simpa using h1, Or.inr ⟨g, c, _, rfl, h4, set_one_cell h5 _, h6, h7, by simpa using h8, ?_⟩⟩
    rw [← h9]
    simp [List.take_set]

/-- Cells of a row of one's own may be written. -/
theorem own_frozen {w : World} {B : Nat} {e : TypeId} {sz g n c l : Nat} {xs : List Value} (h : w.ownsRow B e sz (.slice (some ⟨g, 0, none⟩) l c) n xs) (j : Nat) : w.frozen? ⟨g, j, none⟩ = false := by
  obtain ⟨h1, h2⟩ := h
  rcases h2 with ⟨h3, -⟩ | ⟨g', cap, cur, h3, h4, h5, -⟩
  · simp at h3
  · simp only [Value.slice.injEq, Option.some.injEq, Addr.mk.injEq, and_true] at h3
    obtain ⟨rfl, -, rfl⟩ := h3
    exact (cell_of h5 j).2

theorem rowN_upd : ∀ (ns : List Nd) (fa fk : Nat → Value) (i : Nat) (av kv : Value), i < ns.length → ((rowN ns fa fk).set (i * 7 + 5) av).set (i * 7 + 6) kv = rowN ns (upd fa i av) (upd fk i kv)
  | [], _, _, _, _, _, h => by simp at h
  | n :: r, fa, fk, 0, av, kv, _ => by
    simp only [rowN, Nat.zero_mul, Nat.zero_add, upd_same]
    have e : rowN r (fun i => upd fa 0 av (i + 1)) (fun i => upd fk 0 kv (i + 1)) = rowN r (fun i => fa (i + 1)) (fun i => fk (i + 1)) := rowN_congr r fun i _ => ⟨upd_other _ _ (by omega), upd_other _ _ (by omega)⟩
    rw [e, List.set_append_left _ _ (by rw [cellsN_length]; omega), List.set_append_left _ _ (by simp [cellsN])]
    simp [cellsN]
  | n :: r, fa, fk, i + 1, av, kv, h => by
    have ih := rowN_upd r (fun j => fa (j + 1)) (fun j => fk (j + 1)) i av kv (by simpa using h)
    simp only [rowN]
    have e1 : (i + 1) * 7 + 5 - 7 = i * 7 + 5 := by omega
    have e2 : (i + 1) * 7 + 6 - 7 = i * 7 + 6 := by omega
    rw [List.set_append_right _ _ (by rw [cellsN_length]; omega), cellsN_length, e1, List.set_append_right _ _ (by rw [cellsN_length]; omega), cellsN_length, e2, ih]
    have e3 : upd fa (i + 1) av 0 = fa 0 ∧ upd fk (i + 1) kv 0 = fk 0 := ⟨upd_other _ _ (by omega), upd_other _ _ (by omega)⟩
    rw [e3.1, e3.2]
    congr 1
    refine rowN_congr r fun j _ => ⟨?_, ?_⟩
    · simp [upd]
    · simp [upd]

/-- A display's copy behind the first i nodes. -/
structure CpI (wr : World) (B : Nat) (v : Value) (ns : List Nd) (ab kb : Nat → Value) (i : Nat) (fa fk : Nat → Value) : Prop where
  row : wr.ownsRow B 41 7 v ns.length (rowN ns fa fk)
  ats : ∀ (j : Nat) (n : Nd), j < i → ns[j]? = some n → OwnA wr B (fa j) n.ats
  kids : ∀ (j : Nat) (n : Nd), j < i → ns[j]? = some n → OwnZ wr B (fk j) n.kids
  apa : ApartF i fa
  apk : ApartF i fk
  rest : ∀ j, i ≤ j → fa j = ab j ∧ fk j = kb j

theorem CpI.below {w w' : World} {B : Nat} {v : Value} {ns : List Nd} {ab kb : Nat → Value} {i : Nat} {fa fk : Nat → Value} (h : CpI w B v ns ab kb i fa fk) (hb : Below w.heap.size w w') : CpI w' B v ns ab kb i fa fk :=
  ⟨ownsRow_same h.row fun g hg => hb.block g (h.row.lt g hg).2, fun j n hj hn => (h.ats j n hj hn).below hb, fun j n hj hn => (h.kids j n hj hn).below hb, h.apa, h.apk, h.rest⟩

/-- A node's slices are laid anew. -/
theorem CpI.next {w w2 w3 : World} {B g c : Nat} {ns : List Nd} {ab kb : Nat → Value} {i : Nat} {fa fk : Nat → Value} {n : Nd} {av kv : Value} (h : CpI w B (.slice (some ⟨g, 0, none⟩) ns.length c) ns ab kb i fa fk) (hi : ns[i]? = some n)
    (h2 : Below w.heap.size w w2) (h3 : Below w2.heap.size w2 w3) (hA : OwnA w2 w.heap.size av n.ats) (hK : OwnZ w3 w2.heap.size kv n.kids) (hB : B ≤ w.heap.size) :
    CpI ((w3.setCell ⟨g, i * 7 + 5, none⟩ av).setCell ⟨g, i * 7 + 6, none⟩ kv) B (.slice (some ⟨g, 0, none⟩) ns.length c) ns ab kb (i + 1) (upd fa i av) (upd fk i kv) := by
  have hil : i < ns.length := (List.getElem?_eq_some_iff.1 hi).1
  have h' := h.below (nxt h2 h3)
  have hs2 := h2.size
  have hg : ∃ cur, w3.heap[g]? = some (.cells cur 41 (0, 0)) := by
    rcases h'.row.2 with ⟨q, -⟩ | ⟨g', cap, cur, q, _, q2, -⟩
    · simp at q
    · simp only [Value.slice.injEq, Option.some.injEq, Addr.mk.injEq, and_true] at q
      obtain ⟨rfl, -, -⟩ := q
      exact ⟨cur, q2⟩
  obtain ⟨cur, hcur⟩ := hg
  have keep : ∀ b, b ≠ g → ((w3.setCell ⟨g, i * 7 + 5, none⟩ av).setCell ⟨g, i * 7 + 6, none⟩ kv).heap[b]? = w3.heap[b]? := fun b hb => (heap_set_other _ hb).trans (heap_set_other _ hb)
  have neA : ∀ {v : Value} {l : List Atr} {D : Nat}, OwnA w3 D v l → ∀ b, v.ownBlock = some b → b ≠ g := by
    rintro v l D hv b hb rfl
    obtain ⟨cu, hc, -⟩ := hv.block hb
    rw [hcur] at hc
    simp at hc
  have neK : ∀ {v : Value} {l : List Int} {D : Nat}, OwnZ w3 D v l → ∀ b, v.ownBlock = some b → b ≠ g := by
    rintro v l D hv b hb rfl
    obtain ⟨cu, hc, -⟩ := hv.block hb
    rw [hcur] at hc
    simp at hc
  have hA3 : OwnA w3 B av n.ats := by
    have := hA.below h3
    obtain ⟨q1, q2⟩ := this
    rcases q2 with ⟨rfl, q3⟩ | ⟨g', cap, cu, rfl, q3, r⟩
    · exact ⟨q1, Or.inl ⟨rfl, q3⟩⟩
    · exact ⟨q1, Or.inr ⟨g', cap, cu, rfl, by omega, r⟩⟩
  have hK3 : OwnZ w3 B kv n.kids := hK.less (by omega)
  refine ⟨?_, ?_, ?_, ?_, ?_, ?_⟩
  · rw [← rowN_upd ns fa fk i av kv hil]
    exact ownsRow_set (ownsRow_set h'.row _ _) _ _
  · intro j m hj hm
    by_cases e : j = i
    · subst e
      rw [hi] at hm
      cases hm
      rw [upd_same]
      exact hA3.same fun b hb => keep b (neA hA3 b hb)
    · rw [upd_other _ _ e]
      have := h'.ats j m (by omega) hm
      exact this.same fun b hb => keep b (neA this b hb)
  · intro j m hj hm
    by_cases e : j = i
    · subst e
      rw [hi] at hm
      cases hm
      rw [upd_same]
      exact hK3.same fun b hb => keep b (neK hK3 b hb)
    · rw [upd_other _ _ e]
      have := h'.kids j m (by omega) hm
      exact this.same fun b hb => keep b (neK this b hb)
  · intro j k b hj hk hjk hb hb'
    have old : ∀ m, m < i → (fa m).ownBlock = some b → b < w.heap.size := fun m hm h1 => ((h.ats m ns[m] hm (List.getElem?_eq_getElem (by omega))).lt b h1).2
    by_cases e : j = i
    · subst e
      rw [upd_same] at hb
      rw [upd_other _ _ (by omega)] at hb'
      have h1 := (hA.lt b hb).1
      have h2 := old k (by omega) hb'
      omega
    · rw [upd_other _ _ e] at hb
      by_cases e' : k = i
      · subst e'
        rw [upd_same] at hb'
        have h1 := (hA.lt b hb').1
        have h2 := old j (by omega) hb
        omega
      · rw [upd_other _ _ e'] at hb'
        exact h.apa j k b (by omega) (by omega) hjk hb hb'
  · intro j k b hj hk hjk hb hb'
    have old : ∀ m, m < i → (fk m).ownBlock = some b → b < w.heap.size := fun m hm h1 => ((h.kids m ns[m] hm (List.getElem?_eq_getElem (by omega))).lt b h1).2
    by_cases e : j = i
    · subst e
      rw [upd_same] at hb
      rw [upd_other _ _ (by omega)] at hb'
      have h1 := (hK.lt b hb).1
      have h2 := old k (by omega) hb'
      omega
    · rw [upd_other _ _ e] at hb
      by_cases e' : k = i
      · subst e'
        rw [upd_same] at hb'
        have h1 := (hK.lt b hb').1
        have h2 := old j (by omega) hb
        omega
      · rw [upd_other _ _ e'] at hb'
        exact h.apk j k b (by omega) (by omega) hjk hb hb'
  · intro j hj
    rw [upd_other _ _ (by omega), upd_other _ _ (by omega)]
    exact h.rest j (by omega)

theorem own_less {w : World} {B B' : Nat} {e : TypeId} {sz : Nat} {v : Value} {n : Nat} {xs : List Value} (h : w.ownsRow B e sz v n xs) (hB : B' ≤ B) : w.ownsRow B' e sz v n xs := by
  obtain ⟨h1, h2⟩ := h
  rcases h2 with ⟨rfl, h3⟩ | ⟨g, cap, cur, rfl, hg, r⟩
  · exact ⟨h1, Or.inl ⟨rfl, h3⟩⟩
  · exact ⟨h1, Or.inr ⟨g, cap, cur, rfl, by omega, r⟩⟩
theorem OwnN.less {w : World} {B B' : Nat} {v : Value} {ns : List Nd} {ab kb : Nat → Value} (h : OwnN w B v ns ab kb) (hB : B' ≤ B) : OwnN w B' v ns ab kb :=
  ⟨own_less h.row hB, fun i n hi => own_less (h.ats i n hi) hB, fun i n hi => (h.kids i n hi).less hB, h.apa, h.apk, h.fit⟩

/-- A display in memory of its own, by its value. -/
def DsOwn (w : World) (B : Nat) (x : Value) (s : Ds) : Prop := ∃ v ab kb, x = .agg #[v, .int .i64 s.root, .int .i64 s.next] ∧ OwnN w B v s.nodes ab kb

theorem fit_of {w : World} {n : Nd} {aa : Option Addr} {ac : Nat} {ka : Option Addr} {kc : Nat} (hf : FitN n aa ac ka kc) (hA : LayA w aa n.ats) (hK : LayZ w ka n.kids) : NdFit n := by
  refine ⟨hf.id, hf.par, hf.node, fun s hs => ?_, hK.i64, hf.kids.2.2.1⟩
  obtain ⟨i, hi, rfl⟩ := List.getElem_of_mem hs
  obtain ⟨_, _, _, _, _, h1, h2⟩ := hA i n.ats[i] (List.getElem?_eq_getElem hi)
  exact ⟨h1, h2⟩

set_option maxRecDepth 100000 in
set_option maxHeartbeats 3200000 in
theorem copyD_any (s : Ds) (a : Option Addr) (c : Nat) (w : World) (hs : DsIs w s a c) :
    Calls Tryz.prog 15 #[.agg #[.slice a s.nodes.length c, .int .i64 s.root, .int .i64 s.next]] w fun e w' => ∃ x, e = .returned x ∧ DsOwn w' w.heap.size x s ∧ Below w.heap.size w w' := by
  obtain ⟨ns, root, next⟩ := s
  obtain ⟨hL, hln, hcp, hr, hx⟩ := hs
  simp only at *
  obtain ⟨ab, kb, hsrc⟩ := hL.src
  have HS : Hid (SrcN w a ns ab kb) := hsrc
  have HFIT : Hid (∀ n ∈ ns, NdFit n) := by
    intro n hn
    obtain ⟨i, hi, rfl⟩ := List.getElem_of_mem hn
    obtain ⟨b, o, aa, ac, ka, kc, _, h2, _⟩ := hsrc i ns[i] (List.getElem?_eq_getElem hi)
    exact fit_of h2.fit h2.ats h2.kids
  clear hL hsrc
  have K2 : Hid (Below w.heap.size w ((w.alloc (.cells #[.slice a ns.length c, .int .i64 root, .int .i64 next] 30)).alloc (.cells #[.slice none 0 0, .int .i64 0, .int .i64 0] 30))) := two_new _ _ _
  have X1 : Hid (((w.alloc (.cells #[.slice a ns.length c, .int .i64 root, .int .i64 next] 30)).alloc (.cells #[.slice none 0 0, .int .i64 0, .int .i64 0] 30)).heap[w.heap.size]? = some (.cells #[.slice a ns.length c, .int .i64 root, .int .i64 next] 30 (0, 0))) := ((below_one _ _).block _ (by simp)).trans (heap_alloc_new _ _)
  have X2 : Hid (((w.alloc (.cells #[.slice a ns.length c, .int .i64 root, .int .i64 next] 30)).alloc (.cells #[.slice none 0 0, .int .i64 0, .int .i64 0] 30)).heap[w.heap.size + 1]? = some (.cells #[.slice none 0 0, .int .i64 0, .int .i64 0] 30 (0, 0))) := heap_new2 _ _ _
  have Z2 : Hid (((w.alloc (.cells #[.slice a ns.length c, .int .i64 root, .int .i64 next] 30)).alloc (.cells #[.slice none 0 0, .int .i64 0, .int .i64 0] 30)).heap.size = w.heap.size + 2) := by show _ = _; simp
  go_enter Tryz.func15, Tryz.ntmps15
  go_wp2_with fail
  generalize (w.alloc (.cells #[.slice a ns.length c, .int .i64 root, .int .i64 next] 30)).alloc (.cells #[.slice none 0 0, .int .i64 0, .int .i64 0] 30) = W1 at *
  refine (copyM_any ns ab kb a c W1 (HS.out.below K2.out) hln).mono ?_
  rintro e w2 ⟨v, rfl, ho2, hb2⟩
  obtain ⟨va, vc, hvs⟩ := slice_of_own ho2
  subst hvs
  have O2 : Hid (CpI w2 W1.heap.size (.slice va ns.length vc) ns ab kb 0 ab kb) := ⟨ho2, fun j n h => by omega, fun j n h => by omega, fun i j g h => by omega, fun i j g h => by omega, fun j _ => ⟨rfl, rfl⟩⟩
  have B2 : Hid (Below W1.heap.size W1 w2) := hb2
  clear ho2 hb2
  go_wp2_with fail
  go_loopw [11] (fun v11 wr => ∃ (i : Nat) (fa fk : Nat → Value), i ≤ ns.length ∧ v11 = .int .i64 (i : Int) ∧ Hid (CpI wr W1.heap.size (.slice va ns.length vc) ns ab kb i fa fk) ∧ Hid (Below W1.heap.size W1 wr)) (fun v11 _ => ns.length - (intOf v11).toNat)
  case atStart => exact ⟨0, ab, kb, Nat.zero_le _, rfl, O2.out, B2.out⟩
  case round =>
    obtain ⟨i, fa, fk, hi, rfl, HC, HB⟩ := hrel
    clear O2 B2
    by_cases hlt : i < ns.length
    · obtain ⟨b, o, aa, ac, ka, kc, ha, hN, hab, hkb⟩ := HS.out.below (nxt K2.out HB.out) i ns[i] (List.getElem?_eq_getElem hlt)
      subst ha
      have hrest := HC.out.rest i (Nat.le_refl _)
      obtain ⟨g, hva, q0, q1, q2, q3, q4, q5, q6⟩ := rowN_cells HC.out.row (List.getElem?_eq_getElem hlt)
      subst hva
      rw [hrest.1, hab] at q5
      rw [hrest.2, hkb] at q6
      have HCA : Hid (∀ W, Below wr.heap.size wr W → Calls Tryz.prog 37 #[.slice aa ns[i].ats.length ac] W fun e w' => ∃ v, e = .returned v ∧ OwnA w' W.heap.size v ns[i].ats ∧ Below W.heap.size W w') := fun W hb => copyA_any ns[i].ats aa ac W (hN.ats.below hb) hN.fit.ats.2.2.1
      have HCZ : Hid (∀ W, Below wr.heap.size wr W → Calls Tryz.prog 38 #[.slice ka ns[i].kids.length kc] W fun e w' => ∃ v, e = .returned v ∧ OwnZ w' W.heap.size v ns[i].kids ∧ Below W.heap.size W w') := fun W hb => copyZ_any ns[i].kids ka kc W ⟨hN.kids.below hb, hN.fit.kids.1, hN.fit.kids.2.1, hN.fit.kids.2.2.1, hN.fit.kids.2.2.2.1, hN.fit.kids.2.2.2.2⟩
      have HG : Hid (ns[i]? = some ns[i]) := List.getElem?_eq_getElem hlt
      clear hN hab hkb hrest
      generalize hm : ns[i] = m at *
      obtain ⟨mi, mp, mg, mk, mt, ma, mks⟩ := m
      simp only at *
      have X4 : Hid ((wr.alloc (.cells #[.int .i64 mi, .int .i64 mp, .string mg, .string mk, .string mt, .slice aa ma.length ac, .slice ka mks.length kc] 41)).heap[wr.heap.size]? = some (.cells #[.int .i64 mi, .int .i64 mp, .string mg, .string mk, .string mt, .slice aa ma.length ac, .slice ka mks.length kc] 41 (0, 0))) := heap_alloc_new _ _
      have B4 : Hid (Below wr.heap.size wr (wr.alloc (.cells #[.int .i64 mi, .int .i64 mp, .string mg, .string mk, .string mt, .slice aa ma.length ac, .slice ka mks.length kc] 41))) := below_one _ _
      have C4 : Hid (CpI (wr.alloc (.cells #[.int .i64 mi, .int .i64 mp, .string mg, .string mk, .string mt, .slice aa ma.length ac, .slice ka mks.length kc] 41)) W1.heap.size (.slice (some ⟨g, 0, none⟩) ns.length vc) ns ab kb i fa fk) := HC.out.below (below_one _ _)
      go_wp2_with fail
      clear q0 q1 q2 q3 q4 q5 q6
      have HNE : Hid (wr.heap.size ≠ g) := by
        show _ ≠ _
        have := (HC.out.row.lt g rfl).2
        omega
      generalize wr.alloc (.cells #[.int .i64 mi, .int .i64 mp, .string mg, .string mk, .string mt, .slice aa ma.length ac, .slice ka mks.length kc] 41) = W4 at *
      obtain ⟨-, -, -, -, -, z5, z6⟩ := seven X4.out
      have BW : Hid (Below W1.heap.size W1 W4) := nxt HB.out B4.out
      have z5' : W4.drew.cell? ⟨wr.heap.size, 5, none⟩ = some (.slice aa ma.length ac) := z5
      have z6' : W4.drew.cell? ⟨wr.heap.size, 6, none⟩ = some (.slice ka mks.length kc) := z6
      have BD : Hid (Below wr.heap.size wr W4.drew) := B4.out.drew
      have CD : Hid (CpI W4.drew W1.heap.size (.slice (some ⟨g, 0, none⟩) ns.length vc) ns ab kb i fa fk) := C4.out.below (Below.refl _ W4).drew
      go_region_held3 (fun w' => w'.cell? ⟨wr.heap.size, 5, none⟩ = some (.slice aa ma.length ac) ∧ w'.cell? ⟨wr.heap.size, 6, none⟩ = some (.slice ka mks.length kc)) (go_keep) (first
        | (go_at_call 37; refine (HCA.out W4.drew BD.out).mono ?_; rintro e w5 ⟨av, rfl, hA5, hb5⟩; have u5 := keepc hb5 _ _ z5'; have u6 := keepc hb5 _ _ z6'; obtain ⟨a5, c5, rfl⟩ := hA5.shape)
        | (go_at_call 38; refine (HCZ.out w5 (nxt BD.out hb5)).mono ?_; rintro e w6 ⟨kv, rfl, hK6, hb6⟩; have t5 := keepc hb6 _ _ u5; have t6 := keepc hb6 _ _ u6; obtain ⟨a6, c6, rfl⟩ := hK6.shape
           obtain ⟨g', hg', -, -, -, -, -, p5, p6⟩ := rowN_cells (CD.out.below (nxt hb5 hb6)).row HG.out
           cases hg'
           have f5 := own_frozen (CD.out.below (nxt hb5 hb6)).row (i * 7 + 5)
           have f6 := own_frozen (CD.out.below (nxt hb5 hb6)).row (i * 7 + 6)
           have k5 : ∀ v, (w6.setCell ⟨g, i * 7 + 5, none⟩ v).cell? ⟨wr.heap.size, 5, none⟩ = some (.slice aa ma.length ac) := fun v => (World.cell?_of_block (heap_set_other v HNE.out)).trans t5
           have k6 : ∀ v, (w6.setCell ⟨g, i * 7 + 5, none⟩ v).cell? ⟨wr.heap.size, 6, none⟩ = some (.slice ka mks.length kc) := fun v => (World.cell?_of_block (heap_set_other v HNE.out)).trans t6
           have l5 : ∀ v v', ((w6.setCell ⟨g, i * 7 + 5, none⟩ v).setCell ⟨g, i * 7 + 6, none⟩ v').cell? ⟨wr.heap.size, 5, none⟩ = some (.slice aa ma.length ac) := fun v v' => (World.cell?_of_block (heap_set_other v' HNE.out)).trans (k5 v)
           have l6 : ∀ v v', ((w6.setCell ⟨g, i * 7 + 5, none⟩ v).setCell ⟨g, i * 7 + 6, none⟩ v').cell? ⟨wr.heap.size, 6, none⟩ = some (.slice ka mks.length kc) := fun v v' => (World.cell?_of_block (heap_set_other v' HNE.out)).trans (k6 v)))
      have N6 : Hid (CpI ((w6.setCell ⟨g, i * 7 + 5, none⟩ (.slice a5 ma.length c5)).setCell ⟨g, i * 7 + 6, none⟩ (.slice a6 mks.length c6)) W1.heap.size (.slice (some ⟨g, 0, none⟩) ns.length vc) ns ab kb (i + 1) (upd fa i (.slice a5 ma.length c5)) (upd fk i (.slice a6 mks.length c6))) := CD.out.next HG.out hb5 hb6 hA5 hK6 BW.out.size
      have B6 : Hid (Below W1.heap.size W1 ((w6.setCell ⟨g, i * 7 + 5, none⟩ (.slice a5 ma.length c5)).setCell ⟨g, i * 7 + 6, none⟩ (.slice a6 mks.length c6))) := by
        have hg := (HC.out.row.lt g rfl).1
        have h6 : Below W1.heap.size W1 w6 := nxt (BW.out.drew) (nxt hb5 hb6)
        exact ⟨h6.os, h6.tape, h6.output, by have := h6.size; simpa [World.setCell] using this, fun j hj => (heap_set_other _ (by omega)).trans ((heap_set_other _ (by omega)).trans (h6.block j hj))⟩
      clear hA5 hb5 u5 u6 hK6 hb6 t5 t6 p5 p6 f5 f6 k5 k6 l5 l6 z5 z6 z5' z6'
      generalize (w6.setCell ⟨g, i * 7 + 5, none⟩ (.slice a5 ma.length c5)).setCell ⟨g, i * 7 + 6, none⟩ (.slice a6 mks.length c6) = W7 at *
      go_wp2_with fail
      go_roundw
      case rel => exact ⟨i + 1, _, _, by omega, by go_num, N6.out, B6.out⟩
      case measure => simp [intOf]; omega
    · have hin : i = ns.length := by omega
      subst hin
      obtain ⟨z0, z1, z2⟩ := three ((HB.out.block _ (lt_of_block X1.out)).trans X1.out)
      have X3 : Hid (wr.heap[w.heap.size + 1]? = _) := (HB.out.block _ (lt_of_block X2.out)).trans X2.out
      obtain ⟨y0, y0f⟩ := cell_of X3.out 0
      obtain ⟨y1, y1f⟩ := cell_of X3.out 1
      obtain ⟨y2, y2f⟩ := cell_of X3.out 2
      simp at y0 y1 y2
      clear HS
      go_wp2_with fail
      have h8 : (((wr.setCell ⟨w.heap.size + 1, 0, none⟩ (.slice va ns.length vc)).setCell ⟨w.heap.size + 1, 1, none⟩ (.int .i64 root)).setCell ⟨w.heap.size + 1, 2, none⟩ (.int .i64 next)).heap[w.heap.size + 1]? = some (.cells #[.slice va ns.length vc, .int .i64 root, .int .i64 next] 30 (0, 0)) := by
        rw [set_one_cell (set_one_cell (set_one_cell X3.out _) _) _]
        simp
      have keep : ∀ b, b ≠ w.heap.size + 1 → (((wr.setCell ⟨w.heap.size + 1, 0, none⟩ (.slice va ns.length vc)).setCell ⟨w.heap.size + 1, 1, none⟩ (.int .i64 root)).setCell ⟨w.heap.size + 1, 2, none⟩ (.int .i64 next)).heap[b]? = wr.heap[b]? := fun b hb => (heap_set_other _ hb).trans ((heap_set_other _ hb).trans (heap_set_other _ hb))
      have hz := Z2.out
      have hsz : (((wr.setCell ⟨w.heap.size + 1, 0, none⟩ (.slice va ns.length vc)).setCell ⟨w.heap.size + 1, 1, none⟩ (.int .i64 root)).setCell ⟨w.heap.size + 1, 2, none⟩ (.int .i64 next)).heap.size = wr.heap.size := by simp [World.setCell]
      have hos : (((wr.setCell ⟨w.heap.size + 1, 0, none⟩ (.slice va ns.length vc)).setCell ⟨w.heap.size + 1, 1, none⟩ (.int .i64 root)).setCell ⟨w.heap.size + 1, 2, none⟩ (.int .i64 next)).os = wr.os ∧ (((wr.setCell ⟨w.heap.size + 1, 0, none⟩ (.slice va ns.length vc)).setCell ⟨w.heap.size + 1, 1, none⟩ (.int .i64 root)).setCell ⟨w.heap.size + 1, 2, none⟩ (.int .i64 next)).tape = wr.tape ∧ (((wr.setCell ⟨w.heap.size + 1, 0, none⟩ (.slice va ns.length vc)).setCell ⟨w.heap.size + 1, 1, none⟩ (.int .i64 root)).setCell ⟨w.heap.size + 1, 2, none⟩ (.int .i64 next)).output = wr.output := ⟨rfl, rfl, rfl⟩
      generalize ((wr.setCell ⟨w.heap.size + 1, 0, none⟩ (.slice va ns.length vc)).setCell ⟨w.heap.size + 1, 1, none⟩ (.int .i64 root)).setCell ⟨w.heap.size + 1, 2, none⟩ (.int .i64 next) = W8 at *
      obtain ⟨c0, c1, c2⟩ := three h8
      refine bodyPost_ret (v := .agg #[.slice va ns.length vc, .int .i64 root, .int .i64 next]) (by simp [results, Tryz.results15, go_sem, c0, c1, c2]) rfl ?_
      have hO : OwnN wr W1.heap.size (.slice va ns.length vc) ns fa fk := ⟨HC.out.row, fun j n hn => HC.out.ats j n (List.getElem?_eq_some_iff.1 hn).1 hn, fun j n hn => HC.out.kids j n (List.getElem?_eq_some_iff.1 hn).1 hn, HC.out.apa, HC.out.apk, HFIT.out⟩
      have hO8 : OwnN W8 w.heap.size (.slice va ns.length vc) ns fa fk := (hO.same fun b hb => keep b (by have := (hO.foot hb).1; omega)).less (by omega)
      have hw := K2.out
      have hB := HB.out
      refine ⟨_, rfl, ⟨_, fa, fk, rfl, hO8⟩, ⟨hos.1.trans (hB.os.trans hw.os), hos.2.1.trans (hB.tape.trans hw.tape), hos.2.2.trans (hB.output.trans hw.output), by have := hB.size; omega, fun j hj => (keep j (by omega)).trans ((hB.block j (by omega)).trans (hw.block j hj))⟩⟩
end Go.Proofs.YtcdnakcojanaeabGreat
