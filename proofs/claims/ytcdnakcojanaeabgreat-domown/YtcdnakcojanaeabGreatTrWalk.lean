/-
  The program's walk through a tree's nodes, measure, Check, Size.
-/
import Derived.Test.YtcdnakcojanaeabGreatTrTwice
namespace Go.Proofs.YtcdnakcojanaeabGreat
open Go.ChangeShapes Go.WideShapes Go.ChangeAt Go.RowKit

theorem Kept.low {F : Nat → Prop} {B : Nat} {a b : World} (h : Kept F a b) (hF : ∀ j, F j → B ≤ j) (hB : B ≤ a.heap.size) : Below B a b := ⟨h.os, h.tape, h.output, h.size, fun j hj => h.block j (by omega) fun q => by have := hF j q; omega⟩

/-- What the walk leaves: the tally P alone has turned; without an error it holds how many nodes there were and how deep. -/
def WkPost (w w' : World) (P D : Nat) (R : Int × Nat × Nat) : Prop := Kept (fun j => j = P) w w' ∧ ∃ a b : Int, w'.heap[P]? = some (.cells #[.int .i64 a, .int .i64 b] 107 (0, 0)) ∧ (R.1 = 0 → a = (R.2.1 : Int) ∧ b = ((max D R.2.2 : Nat) : Int))

theorem tally_two {w : World} {P : Nat} {a b : Value} {t : TypeId} (h : w.heap[P]? = some (.cells #[a, b] t (0, 0))) (o : Obj) (a' b' : Value) :
    (((w.setCell ⟨P, 0, none⟩ a').setCell ⟨P, 1, none⟩ b').alloc o).heap[P]? = some (.cells #[a', b'] t (0, 0)) ∧ (((w.setCell ⟨P, 0, none⟩ a').setCell ⟨P, 1, none⟩ b').alloc o).heap[w.heap.size]? = some o ∧
      Kept (fun j => j = P) w (((w.setCell ⟨P, 0, none⟩ a').setCell ⟨P, 1, none⟩ b').alloc o) := by
  have hlt := lt_of_block h
  have hs : ((w.setCell ⟨P, 0, none⟩ a').setCell ⟨P, 1, none⟩ b').heap.size = w.heap.size := by simp [World.setCell]
  have hk : Kept (fun j => j = P) w ((w.setCell ⟨P, 0, none⟩ a').setCell ⟨P, 1, none⟩ b') := Kept.setCell (F := fun j => j = P) (g := P) (Kept.setCell (F := fun j => j = P) (g := P) (Kept.refl _ _) _ rfl) _ rfl
  refine ⟨?_, ?_, hk.trans (Kept.of_below (below_one _ _))⟩
  · have := set_one_cell (set_one_cell h (o := 0) a') (o := 1) b'
    rw [Below.heap_alloc _ _ _ (by rw [hs]; exact hlt)]
    simpa using this
  · rw [← hs]; exact heap_alloc_new _ _

/-- Where the loop over the kids stands. -/
def WkInv {n : Nat} (w0 w wr : World) (P D L c m : Nat) (its : List (T n)) (d' : Nat) (c' : Nat) : Prop :=
  wkK (fun u c' => wk u (L + 1) c') (its.take m) (c + 1) L = (0, c', d') ∧ wr.heap[P]? = some (.cells #[.int .i64 (c' : Int), .int .i64 ((max D d' : Nat) : Int)] 107 (0, 0)) ∧ Kept (fun j => j = P) w wr ∧ Below w0.heap.size w0 wr

set_option maxRecDepth 100000 in
set_option maxHeartbeats 6400000 in
theorem walk_any (n : Nat) : ∀ (v : T n) (x : Value) (P c D L : Nat) (w0 w : World), LayT w0 n x v → Below w0.heap.size w0 w → w0.heap.size ≤ P → w.heap[P]? = some (.cells #[.int .i64 c, .int .i64 D] 107 (0, 0)) → c ≤ 256 → L ≤ 9 → D ≤ 9 →
    Calls Tryz.prog 91 #[.pointer (some ⟨P, 0, none⟩), x, .int .i64 L] w fun e w' => e = .returned (.int .i64 (wk v L c).1) ∧ WkPost w w' P D (wk v L c) := by
  induction n with
  | zero => intro v; exact v.elim
  | succ n ih =>
    rintro ⟨g, k, t, ats, its⟩ x P c D L w0 w ⟨aa, ac, ia, ic, rfl, hfit, nk, ni, hA, hI⟩ hb hP hT hc hL hD
    obtain ⟨hg1, hk1, ht1, -, -, ha1, -, -, hi1⟩ := hfit
    have HP : Hid (w.heap[P]? = some (.cells #[.int .i64 c, .int .i64 D] 107 (0, 0))) := hT
    have hPl := lt_of_block hT
    have HB : Hid (Below w0.heap.size w0 w) := hb
    have HI : Hid (LayI w0 (LayT w0 n) ia its) := hI
    have C1 : Hid (∀ W, Below w0.heap.size w0 W → Calls Tryz.prog 95 #[mkT g k t aa ats.length ac ia its.length ic] W fun e w' => e = .returned (.bool (nodeB g k t ats its.length)) ∧ Below W.heap.size W w') := fun W h => node_any g k t ats aa ac its.length ia ic W (hA.below h) ⟨hg1, hk1, ht1, ha1, hi1⟩
    have C2 : Hid (∀ W, Below w0.heap.size w0 W → Calls Tryz.prog 96 #[.slice ia its.length ic] W fun e w' => e = .returned (.bool (twB (keysT its))) ∧ Below W.heap.size W w') := fun W h => twice_any its ia ic W (LayI.below hI h) hi1
    have IH : Hid (∀ (v : T n) (x : Value) (P c D L : Nat) (w0 w : World), LayT w0 n x v → Below w0.heap.size w0 w → w0.heap.size ≤ P → w.heap[P]? = some (.cells #[.int .i64 c, .int .i64 D] 107 (0, 0)) → c ≤ 256 → L ≤ 9 → D ≤ 9 →
      Calls Tryz.prog 91 #[.pointer (some ⟨P, 0, none⟩), x, .int .i64 L] w fun e w' => e = .returned (.int .i64 (wk v L c).1) ∧ WkPost w w' P D (wk v L c)) := ih
    have HR : Hid (wk (n := n + 1) (g, k, t, ats, its) L c = _) := wk_node g k t ats its L c
    generalize wk (n := n + 1) (g, k, t, ats, its) L c = R at *
    clear ih hA hI hb nk ni hT
    obtain ⟨p0, f0⟩ := cell_of (HP.out) 0
    obtain ⟨p1, f1⟩ := cell_of (HP.out) 1
    simp at p0 p1
    obtain ⟨M, hM⟩ : ∃ M, M = max D L := ⟨_, rfl⟩
    have hM9 : M ≤ 9 := by omega
    have HK2 : Hid (_ ∧ _ ∧ _) := tally_two HP.out (.cells #[.string g, .string k, .string t, .slice aa ats.length ac, .slice ia its.length ic] 53) (.int .i64 ((c : Int) + 1)) (.int .i64 (M : Int))
    have hws : P < w.heap.size := hPl
    go_enter Tryz.func91, Tryz.ntmps91
    go_upto_region 3 with fail
    have hMe : (if D < L then (L : Int) else (D : Int)) = (M : Int) := by rw [hM]; split <;> omega
    rw [hMe]
    clear hMe p0 p1 f0 f1
    have HM : Hid (M = max D L) := hM
    clear hM
    generalize (((w.setCell ⟨P, 0, none⟩ (.int .i64 ((c : Int) + 1))).setCell ⟨P, 1, none⟩ (.int .i64 (M : Int))).alloc (.cells #[.string g, .string k, .string t, .slice aa ats.length ac, .slice ia its.length ic] 53)) = W2 at *
    obtain ⟨hP2, hX2, hK2⟩ := HK2.out
    have KP : Hid (W2.heap[P]? = some (.cells #[.int .i64 ((c : Int) + 1), .int .i64 (M : Int)] 107 (0, 0))) := hP2
    have KX : Hid (W2.heap[w.heap.size]? = _) := hX2
    have KK : Hid (Kept (fun j => j = P) w W2) := hK2
    have KB : Hid (Below w0.heap.size w0 W2) := HB.out.trans (hK2.low (fun j e => by omega) HB.out.size)
    clear HK2 hP2 hX2 hK2
    obtain ⟨p0, f0⟩ := cell_of (KP.out) 0
    obtain ⟨p1, f1⟩ := cell_of (KP.out) 1
    simp at p0 p1
    obtain ⟨x0, x1, x2, x3, x4, -⟩ := box_cells KX.out
    by_cases h1 : 8 < L
    · have E : Hid (R = (10, c, L)) := by show _ = _; rw [HR.out, if_pos h1]
      go_wp2_with fail
      go_ret
      exact ⟨by rw [E.out]; rfl, KK.out, _, _, KP.out, fun e => by rw [E.out] at e; simp at e⟩
    · by_cases h2 : 256 ≤ c
      · have E : Hid (R = (3, c, L)) := by show _ = _; rw [HR.out, if_neg h1, if_pos h2]
        go_wp2_with fail
        go_ret
        exact ⟨by rw [E.out]; rfl, KK.out, _, _, KP.out, fun e => by rw [E.out] at e; simp at e⟩
      · have hR2 := HR.out
        rw [if_neg h1, if_neg h2] at hR2
        have HR2 : Hid (R = _) := hR2
        clear hR2 HR
        generalize nodeB g k t ats its.length = nb at *
        cases nb
        · have E : Hid (R = (9, c, L)) := by show _ = _; rw [HR2.out, if_pos rfl]
          go_wp2_with (go_at_call 95; refine (C1.out _ KB.out).mono ?_; rintro e w3 ⟨rfl, hb3⟩)
          go_ret
          exact ⟨by rw [E.out]; rfl, KK.out.trans (Kept.of_below hb3), _, _, (hb3.block _ (lt_of_block KP.out)).trans KP.out, fun e => by rw [E.out] at e; simp at e⟩
        · generalize twB (keysT its) = tb at *
          cases tb
          · have E : Hid (R = wkK (fun u c' => wk u (L + 1) c') its (c + 1) L) := by show _ = _; rw [HR2.out, if_neg (by decide), if_neg (by decide)]
            go_wp2_with (first
              | (go_at_call 95; refine (C1.out _ KB.out).mono ?_; rintro e w3 ⟨rfl, hb3⟩; obtain ⟨y0, y1, y2, y3, y4, -⟩ := box_cells ((hb3.block _ (lt_of_block KX.out)).trans KX.out))
              | (go_at_call 96; refine (C2.out _ (nxt KB.out hb3)).mono ?_; rintro e w4 ⟨rfl, hb4⟩; obtain ⟨z0, z1, z2, z3, z4, -⟩ := box_cells (((nxt hb3 hb4).block _ (lt_of_block KX.out)).trans KX.out)))
            have KB4 : Hid (Below w0.heap.size w0 w4) := nxt (nxt KB.out hb3) hb4
            have KK4 : Hid (Kept (fun j => j = P) w w4) := KK.out.trans (Kept.of_below (nxt hb3 hb4))
            have KP4 : Hid (w4.heap[P]? = some (.cells #[.int .i64 ((c : Int) + 1), .int .i64 (M : Int)] 107 (0, 0))) := ((nxt hb3 hb4).block _ (lt_of_block KP.out)).trans KP.out
            clear hb3 hb4 p0 p1 f0 f1 x0 x1 x2 x3 x4 y0 y1 y2 y3 y4 z0 z1 z2 z3 z4 C1 C2 KB KK KP KX HR2
            go_loopw [46] (fun i wr => ∃ m c' d' : Nat, m ≤ its.length ∧ i = .int .i64 m ∧ c' ≤ 256 ∧ d' ≤ 9 ∧ Hid (WkInv w0 w wr P D L c m its d' c')) (fun i _ => its.length - (intOf i).toNat)
            case atStart =>
              have e1 : (((c + 1 : Nat) : Nat) : Int) = (c : Int) + 1 := by omega
              exact ⟨0, c + 1, L, Nat.zero_le _, rfl, by omega, by omega, rfl, by rw [← HM.out, e1]; exact KP4.out, KK4.out, KB4.out⟩
            case round =>
              obtain ⟨m, c', d', hm, rfl, hc', hd', HV⟩ := hrel
              by_cases hlt : m < its.length
              · obtain ⟨b, o, g1, k1, t1, aa1, al1, ac1, ja, jl, jc, rfl, q0, q1, q2, q3, q4, hl, -, -, -⟩ := HI.out.at m hlt
                have hm1 : (m : Int) < (its.length : Int) := by omega
                replace q0 := keepc HV.out.2.2.2 _ _ q0
                replace q1 := keepc HV.out.2.2.2 _ _ q1
                replace q2 := keepc HV.out.2.2.2 _ _ q2
                replace q3 := keepc HV.out.2.2.2 _ _ q3
                replace q4 := keepc HV.out.2.2.2 _ _ q4
                have hck := IH.out its[m] _ P c' (max D d') (L + 1) w0 (wr.alloc (.cells #[.string g1, .string k1, .string t1, .slice aa1 al1 ac1, .slice ja jl jc] 53)) hl (HV.out.2.2.2.alloc HV.out.2.2.2.size _) hP ((Below.heap_alloc _ _ _ (lt_of_block HV.out.2.1)).trans HV.out.2.1) hc' (by omega) (by omega)
                have hL1 : (((L + 1 : Nat) : Nat) : Int) = (L : Int) + 1 := by omega
                rw [hL1] at hck
                have CK : Hid (Calls Tryz.prog 91 #[.pointer (some ⟨P, 0, none⟩), mkT g1 k1 t1 aa1 al1 ac1 ja jl jc, .int .i64 ((L : Int) + 1)] (wr.alloc (.cells #[.string g1, .string k1, .string t1, .slice aa1 al1 ac1, .slice ja jl jc] 53)) _) := hck
                have HWK : Hid (_ = _) := wkK_take (f := fun u c' => wk u (L + 1) c') its m (c + 1) L hlt (by rw [HV.out.1])
                have HO : Hid (_ ∧ _) := wk_ok n its[m] (L + 1) c' (by omega) hc'
                have HW2 := HWK.out
                rw [HV.out.1] at HW2
                have HW3 : Hid (wkK (fun u c' => wk u (L + 1) c') (its.take (m + 1)) (c + 1) L = if (wk its[m] (L + 1) c').1 = 0 then (0, (wk its[m] (L + 1) c').2.1, max d' (wk its[m] (L + 1) c').2.2) else wk its[m] (L + 1) c') := HW2
                clear HW2 HWK hck hl hL1
                generalize wk its[m] (L + 1) c' = Rm at *
                obtain ⟨em, cm, dm⟩ := Rm
                by_cases hem : em = 0
                · subst hem
                  have hE : (((0 : Int), cm, dm) : Int × Nat × Nat).1 = 0 := rfl
                  go_wp2_with (refine CK.out.mono ?_; rintro e w5 ⟨rfl, hk5, a5, b5, hp5, h5⟩; simp only)
                  obtain ⟨rfl, rfl⟩ := h5 rfl
                  have ho := HO.out
                  have K5 : Kept (fun j => j = P) wr w5 := (Kept.of_below (below_one _ _)).trans hk5
                  go_roundw
                  case rel =>
                    refine ⟨m + 1, cm, max d' dm, by omega, by go_num, ho.1, by have := ho.2.2.1; simp only at this; omega, ?_, ?_, HV.out.2.2.1.trans K5, HV.out.2.2.2.trans (K5.low (fun j e => by omega) HV.out.2.2.2.size)⟩
                    · have := HW3.out; rwa [if_pos rfl] at this
                    · rw [hp5, Nat.max_assoc]
                  case measure => simp [intOf]; omega
                · have hd1 : (em == 0) = false := by simpa using hem
                  have hd2 : (em != 0) = true := by simpa using hem
                  have hfin : Hid (R = (em, cm, dm)) := by
                    show _ = _
                    have h3 := HW3.out
                    rw [if_neg hem] at h3
                    rw [E.out, wkK_err its (m + 1) (c + 1) L (by rw [h3]; exact hem), h3]
                  have HEM : Hid (¬ em = 0) := hem
                  clear hem
                  go_wp2_with (refine CK.out.mono ?_; rintro e w5 ⟨rfl, hk5, a5, b5, hp5, h5⟩; simp only)
                  go_ret
                  have K5 : Kept (fun j => j = P) wr w5 := (Kept.of_below (below_one _ _)).trans hk5
                  exact ⟨by rw [hfin.out]; rfl, HV.out.2.2.1.trans K5, a5, b5, hp5, fun e => absurd (by rw [hfin.out] at e; exact e) HEM.out⟩
              · have hme : m = its.length := by omega
                subst hme
                have hfin : Hid (R = (0, c', d')) := by
                  show _ = _
                  have := HV.out.1
                  rw [List.take_length] at this
                  rw [E.out, this]
                go_wp2_with fail
                go_ret
                exact ⟨by rw [hfin.out]; rfl, HV.out.2.2.1, _, _, HV.out.2.1, fun _ => by rw [hfin.out]; exact ⟨rfl, rfl⟩⟩
          · have E : Hid (R = (6, c, L)) := by show _ = _; rw [HR2.out, if_neg (by decide), if_pos rfl]
            go_wp2_with (first
              | (go_at_call 95; refine (C1.out _ KB.out).mono ?_; rintro e w3 ⟨rfl, hb3⟩; obtain ⟨y0, y1, y2, y3, y4, -⟩ := box_cells ((hb3.block _ (lt_of_block KX.out)).trans KX.out))
              | (go_at_call 96; refine (C2.out _ (nxt KB.out hb3)).mono ?_; rintro e w4 ⟨rfl, hb4⟩))
            go_ret
            exact ⟨by rw [E.out]; rfl, KK.out.trans (Kept.of_below (nxt hb3 hb4)), _, _, ((nxt hb3 hb4).block _ (lt_of_block KP.out)).trans KP.out, fun e => by rw [E.out] at e; simp at e⟩
end Go.Proofs.YtcdnakcojanaeabGreat
