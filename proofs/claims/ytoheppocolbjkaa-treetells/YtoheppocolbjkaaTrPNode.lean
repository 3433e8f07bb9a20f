/-
  The printer's node: a node that may be, and all within it.
-/
import Derived.Test.YtoheppocolbjkaaTrPrt
namespace Go.Proofs.Ytoheppocolbjkaa
open Go.ChangeShapes Go.WideShapes Go.ChangeAt Go.RowKit

/-- Where the printer stands behind some octets: from a world w on. -/
def PS (w0 w wr : World) (B P q : Nat) (l : List UInt8) : Prop := Pr wr B P q l ∧ Kp w wr ∧ Below B w wr ∧ Below w0.heap.size w0 wr ∧ B ≤ wr.heap.size

theorem PS.more {w0 w wr : World} {B P q : Nat} {l : List UInt8} (h : PS w0 w wr B P q l) {w' : World} (hb : Below wr.heap.size wr w') : PS w0 w w' B P q l :=
  ⟨h.1.below hb, h.2.1.trans (Kp.of_below hb), h.2.2.1.trans (hb.mono h.2.2.2.2), nxt h.2.2.2.1 hb, Nat.le_trans h.2.2.2.2 hb.size⟩
theorem PS.post {w0 w wr w' : World} {B P q : Nat} {l l' : List UInt8} {e : Ending} (h : PS w0 w wr B P q l) (h0 : w0.heap.size ≤ B) (hp : PrPost wr B P q l' e w') : PS w0 w w' B P q l' :=
  ⟨hp.2.1, h.2.1.trans hp.2.2.1, h.2.2.1.trans hp.2.2.2, h.2.2.2.1.trans (hp.2.2.2.mono h0), Nat.le_trans h.2.2.2.2 hp.2.2.2.size⟩

theorem put_post (B P q b : Nat) (l : List UInt8) (ss : List ByteArray) (w : World) (h : Pr w B P q l) (hB : B ≤ w.heap.size) (hl : l.length + (catB ss).length ≤ 1000000000) (hn : ss.length ≤ 100) (hs : w.heap[b]? = some (.cells (ss.map Value.string).toArray 9 (0, 0))) :
    Calls Try.prog 32 #[.pointer (some ⟨P, 0, none⟩), .slice (some ⟨b, 0, none⟩) ss.length ss.length] w (PrPost w B P q (l ++ catB ss)) := put_any B P q b l ss w h hB hl hn hs

theorem catB1 (a : ByteArray) : catB [a] = a.toList := by simp [catB]
theorem catB2 (g : ByteArray) : catB [⟨#[60]⟩, g] = [60] ++ g.toList := by simp [catB, ByteArray.toList_eq]
theorem catB3 (g : ByteArray) : catB [⟨#[60, 47]⟩, g, ⟨#[62]⟩] = [60, 47] ++ (g.toList ++ [62]) := by simp [catB, ByteArray.toList_eq]
theorem catBg : catB [⟨#[62]⟩] = [62] := by simp [catB, ByteArray.toList_eq]

/-- The same, beside the node's own box. -/
def St (w0 w wr : World) (B P q : Nat) (l : List UInt8) (cs : Array Value) : Prop := PS w0 w wr B P q l ∧ wr.heap[w.heap.size]? = some (.cells cs 25 (0, 0))
theorem St.more {w0 w wr : World} {B P q : Nat} {l : List UInt8} {cs : Array Value} (h : St w0 w wr B P q l cs) {w' : World} (hb : Below wr.heap.size wr w') : St w0 w w' B P q l cs := ⟨h.1.more hb, (hb.block _ (lt_of_block h.2)).trans h.2⟩
theorem St.post {w0 w wr w' : World} {B P q : Nat} {l l' : List UInt8} {cs : Array Value} {e : Ending} (h : St w0 w wr B P q l cs) (h0 : w0.heap.size ≤ B) (hp : PrPost wr B P q l' e w') : St w0 w w' B P q l' cs := ⟨h.1.post h0 hp, hp.2.2.1.at (by decide) (by decide) h.2⟩
theorem St.fin {w0 w wr : World} {B P q : Nat} {l : List UInt8} {cs : Array Value} (h : St w0 w wr B P q l cs) : PrPost w B P q l (.returned (.tuple #[])) wr := ⟨rfl, h.1.1, h.1.2.1, h.1.2.2.1⟩
theorem St.put {w0 w wr : World} {B P q : Nat} {l : List UInt8} {cs : Array Value} (h : St w0 w wr B P q l cs) (ss : List ByteArray) (hl : l.length + (catB ss).length ≤ 1000000000) (hn : ss.length ≤ 100) :
    Calls Try.prog 32 #[.pointer (some ⟨P, 0, none⟩), .slice (some ⟨wr.heap.size, 0, none⟩) ss.length ss.length] (wr.alloc (.cells (ss.map Value.string).toArray 9)) (PrPost (wr.alloc (.cells (ss.map Value.string).toArray 9)) B P q (l ++ catB ss)) :=
  put_post B P q wr.heap.size l ss _ (h.more (below_one _ _)).1.1 (h.more (below_one _ _)).1.2.2.2.2 hl hn (heap_alloc_new _ _)
theorem prtAs_take_le (ats : List Atr) (m : Nat) : (prtAs (ats.take m)).length ≤ (prtAs ats).length := by
  conv => rhs; rw [← List.take_append_drop m ats, prtAs_append, List.length_append]
  omega
theorem cat_take_le {α : Type} (f : α → List UInt8) (l : List α) (m : Nat) : (cat f (l.take m)).length ≤ (cat f l).length := by
  conv => rhs; rw [← List.take_append_drop m l, cat_append, List.length_append]
  omega
theorem prtAs_snoc {ats : List Atr} {m : Nat} (h : m < ats.length) : prtAs (ats.take (m + 1)) = prtAs (ats.take m) ++ prtA ats[m] := by
  rw [List.take_succ_eq_append_getElem h, prtAs_append]; simp [prtAs]
theorem cat_snoc {α : Type} {f : α → List UInt8} {l : List α} {m : Nat} (h : m < l.length) : cat f (l.take (m + 1)) = cat f (l.take m) ++ f l[m] := by
  rw [List.take_succ_eq_append_getElem h, cat_append]; simp [cat]

set_option maxRecDepth 100000 in
set_option maxHeartbeats 12800000 in
theorem pnode_any (n : Nat) : ∀ (v : T n) (x : Value) (B P q : Nat) (l : List UInt8) (w0 w : World), LayT w0 n x v → Below w0.heap.size w0 w → w0.heap.size ≤ B → B ≤ w.heap.size → Pr w B P q l → okN v → l.length + (prt v).length ≤ 1000000000 →
    Calls Try.prog 28 #[.pointer (some ⟨P, 0, none⟩), x] w (PrPost w B P q (l ++ prt v)) := by
  induction n with
  | zero => intro v; exact v.elim
  | succ n ih =>
    rintro ⟨g, k, t, ats, its⟩ x B P q l w0 w ⟨aa, ac, ia, ic, rfl, hfit, nk, ni, hA, hI⟩ hb hB0 hB hpr hok hlen
    obtain ⟨-, -, -, -, -, ha1, -, -, hi1⟩ := hfit
    obtain ⟨hnb, hkids⟩ := okN_node.1 hok
    have HA : Hid (LayA w0 aa ats) := hA
    have HI : Hid (LayI w0 (LayT w0 n) ia its) := hI
    have HKI : Hid (∀ u ∈ its, okN u) := hkids
    have IH : Hid (∀ (v : T n) (x : Value) (B P q : Nat) (l : List UInt8) (w0 w : World), LayT w0 n x v → Below w0.heap.size w0 w → w0.heap.size ≤ B → B ≤ w.heap.size → Pr w B P q l → okN v → l.length + (prt v).length ≤ 1000000000 →
      Calls Try.prog 28 #[.pointer (some ⟨P, 0, none⟩), x] w (PrPost w B P q (l ++ prt v))) := ih
    have HE : Hid (prt (n := n + 1) (g, k, t, ats, its) = _) := prt_node g k t ats its
    generalize prt (n := n + 1) (g, k, t, ats, its) = R at *
    have C0 : Hid (∀ W, Calls Try.prog 37 #[mkT g k t aa ats.length ac ia its.length ic] W fun e w' => e = .returned (.bool g.toList.isEmpty) ∧ Below W.heap.size W w') := fun W => istext_any _ _ _ _ _ W
    have S0 : Hid (PS w0 w w B P q l) := ⟨hpr, Kp.refl _, Below.refl _ _, hb, hB⟩
    have HN : Hid (_ ∨ _) := node_ok hnb
    have HLEN : Hid (l.length + R.length ≤ 1000000000) := hlen
    clear hA hI hkids ih hok hnb hb hpr nk ni hlen
    have hw0 : w0.heap.size ≤ w.heap.size := Nat.le_trans hB0 hB
    by_cases h0 : g.size = 0
    · have d0 := empty_true h0
      have ht : t.size ≤ 128 := by
        rcases HN.out with ⟨-, e, -⟩ | ⟨e, -⟩
        · exact e
        · exact absurd h0 e
      have E : Hid (R = esc t.toList) := by show _ = _; rw [HE.out, if_pos h0]
      clear HE HN h0
      go_enter Try.func28, Try.ntmps28
      go_wp2_with (go_at_call 37; refine (C0.out _).mono ?_; rw [d0]; rintro e w1 ⟨rfl, hb1⟩)
      have X1 := boxed hb1
      obtain ⟨y0, y1, y2, y3, y4, -⟩ := box_cells X1
      have S1 : Hid (PS w0 w w1 B P q l) := S0.out.more (nxt (below_one _ _) hb1)
      obtain ⟨p, v, -, hpv⟩ := S1.out.1
      obtain ⟨-, -, x2, -⟩ := three_cells hpv.2.2.1
      simp only [safeF] at x2
      have CS : Hid (∀ W, Below w1.heap.size w1 W → Calls Try.prog 41 #[.slice (some ⟨q, 0, none⟩) 4 4, .string t] W fun e w' => e = .returned (.string (escB t)) ∧ Below W.heap.size W w') := fun W hW => safe_any t q W ((hW.block _ (lt_of_block hpv.2.1)).trans hpv.2.1) (by omega)
      have HC : Hid (catB [escB t] = R) := by show _ = _; rw [catB1, escB_toList, E.out]
      have HL : Hid (l.length + (catB [escB t]).length ≤ 1000000000) := by show _ ≤ _; rw [HC.out]; exact HLEN.out
      have CP : Hid (∀ w2, Below w1.heap.size w1 w2 → Calls Try.prog 32 #[.pointer (some ⟨P, 0, none⟩), .slice (some ⟨w2.heap.size, 0, none⟩) 1 1] (w2.alloc (.cells #[.string (escB t)] 9)) (PrPost (w2.alloc (.cells #[.string (escB t)] 9)) B P q (l ++ R))) := by
        intro w2 hw2
        rw [← HC.out]
        exact put_post B P q w2.heap.size l [escB t] _ (S1.out.more (nxt hw2 (below_one _ _))).1 (S1.out.more (nxt hw2 (below_one _ _))).2.2.2.2 HL.out (by simp) (heap_alloc_new _ _)
      have x2d : w1.drew.cell? ⟨P, 2, none⟩ = _ := x2
      have y2d : w1.drew.cell? ⟨w.heap.size, 2, none⟩ = _ := y2
      clear hpv hb1
      generalize escB t = et at *
      go_region_with (first
        | (go_at_call 41; refine (CS.out _ (Below.refl _ w1).drew).mono ?_; rintro e w2 ⟨rfl, hb2⟩)
        | (go_at_call 32; refine (CP.out _ ((Below.refl _ w1).drew.trans hb2)).mono ?_; rintro e w3 ⟨rfl, h1, h2, h3⟩))
      all_goals
        go_wp2_with fail
        go_end0
        exact ⟨rfl, ((S1.out.more (nxt ((Below.refl _ w1).drew.trans hb2) (below_one _ _))).post hB0 ⟨rfl, h1, h2, h3⟩).1, ((S1.out.more (nxt ((Below.refl _ w1).drew.trans hb2) (below_one _ _))).post hB0 ⟨rfl, h1, h2, h3⟩).2.1, ((S1.out.more (nxt ((Below.refl _ w1).drew.trans hb2) (below_one _ _))).post hB0 ⟨rfl, h1, h2, h3⟩).2.2.1⟩
    · have d0 := empty_false h0
      obtain ⟨hk16, hats⟩ : k.size ≤ 16 ∧ ∀ a ∈ ats, a.1.size ≤ 16 ∧ a.2.size ≤ 128 := by
        rcases HN.out with ⟨e, -⟩ | ⟨-, -, -, e1, -, -, -, e2, -⟩
        · exact absurd e h0
        · exact ⟨e1, e2⟩
      have HAT : Hid (∀ a ∈ ats, a.1.size ≤ 16 ∧ a.2.size ≤ 128) := hats
      have E : Hid (R = [60] ++ (g.toList ++ (prtK k ++ (prtAs ats ++ ([62] ++ (cat prt its ++ ([60, 47] ++ (g.toList ++ [62])))))))) := by show _ = _; rw [HE.out, if_neg h0]
      have HRL : Hid (l.length + (1 + g.toList.length + (prtK k).length + (prtAs ats).length + 1 + (cat prt its).length + 2 + g.toList.length + 1) ≤ 1000000000) := by
        have := HLEN.out
        rw [E.out] at this
        simp only [List.length_append, List.length_cons, List.length_nil] at this
        show _ ≤ _
        omega
      clear HE HN h0 hats HLEN
      have HCS : Hid (∀ W, Below (w.alloc (.cells #[.string g, .string k, .string t, .slice aa ats.length ac, .slice ia its.length ic] 25)).heap.size (w.alloc (.cells #[.string g, .string k, .string t, .slice aa ats.length ac, .slice ia its.length ic] 25)) W → St w0 w W B P q l #[.string g, .string k, .string t, .slice aa ats.length ac, .slice ia its.length ic]) := fun W hW => ⟨S0.out.more (nxt (below_one _ _) hW), boxed hW⟩
      go_enter Try.func28, Try.ntmps28
      go_wp2_with (go_at_call 37; refine (C0.out _).mono ?_; rw [d0]; rintro e w1 ⟨rfl, hb1⟩; obtain ⟨y0, y1, y2, y3, y4, -⟩ := box_cells (boxed hb1))
      have S1 : Hid (St w0 w w1 B P q l #[.string g, .string k, .string t, .slice aa ats.length ac, .slice ia its.length ic]) := HCS.out w1 hb1
      have hp2 := S1.out.put [⟨#[60]⟩, g] (by rw [catB2]; have := HRL.out; simp only [List.length_append, List.length_cons, List.length_nil]; omega) (by simp)
      rw [catB2] at hp2
      refine Calls.mono hp2 ?_
      rintro e w2 h2
      have S2 : Hid (St w0 w w2 B P q (l ++ ([60] ++ g.toList)) #[.string g, .string k, .string t, .slice aa ats.length ac, .slice ia its.length ic]) := (S1.out.more (below_one _ _)).post hB0 h2
      obtain ⟨rfl, -⟩ := h2
      clear y0 y1 y2 y3 y4 hp2 S0 HCS C0
      obtain ⟨y0, y1, y2, y3, y4, -⟩ := box_cells S2.out.2
      go_upto_if 27 with fail
      go_cut [31] (fun _ wc => Hid (St w0 w wc B P q (l ++ ([60] ++ g.toList) ++ prtK k) #[.string g, .string k, .string t, .slice aa ats.length ac, .slice ia its.length ic]))
      case first =>
        by_cases hk0 : k.size = 0
        · have dk := empty_true hk0
          have HPK : Hid (prtK k = []) := by show _ = _; unfold prtK; rw [if_pos hk0]
          rw [dk, Bool.not_true]
          clear dk hk0
          go_wp2_with fail
          go_meet
          show St _ _ _ _ _ _ _ _
          rw [HPK.out, List.append_nil]
          exact S2.out
        · have dk := empty_false hk0
          have HPK : Hid (prtK k = prtA (keyS, k)) := by show _ = _; unfold prtK; rw [if_neg hk0]
          have hca := attr_any B P q (l ++ ([60] ++ g.toList)) keyS k w2 S2.out.1.1 S2.out.1.2.2.2.2 (by omega) (by have := HRL.out; rw [HPK.out] at this; simp only [List.length_append, List.length_cons, List.length_nil]; omega)
          have CA : Hid (Calls Try.prog 42 #[.pointer (some ⟨P, 0, none⟩), .string ⟨#[107, 101, 121]⟩, .string k] w2 _) := hca
          clear hca hk0
          rw [dk, Bool.not_false]
          clear dk
          go_wp2_with fail
          refine CA.out.mono ?_
          rintro e w3 h3
          obtain ⟨rfl, h3b⟩ := h3
          go_wp2_with fail
          go_meet
          show St _ _ _ _ _ _ _ _
          rw [HPK.out]
          exact S2.out.post hB0 ⟨rfl, h3b⟩
      case rest =>
        have S3 := hcut
        clear y0 y1 y2 y3 y4 hcut S2 S1
        have HRL3 : Hid ((l ++ ([60] ++ g.toList) ++ prtK k).length + ((prtAs ats).length + 1 + (cat prt its).length + 2 + g.toList.length + 1) ≤ 1000000000) := by
          have := HRL.out
          show _ ≤ _
          simp only [List.length_append, List.length_cons, List.length_nil]
          omega
        have E3 : Hid (l ++ R = (l ++ ([60] ++ g.toList) ++ prtK k) ++ (prtAs ats ++ ([62] ++ (cat prt its ++ ([60, 47] ++ (g.toList ++ [62])))))) := by
          show _ = _
          rw [E.out]; simp only [List.append_assoc]
        clear E HRL
        generalize l ++ ([60] ++ g.toList) ++ prtK k = l3 at *
        obtain ⟨y0, y1, y2, y3, y4, -⟩ := box_cells S3.out.2
        go_wp2_with fail
        clear y0 y1 y2 y3 y4
        obtain ⟨W3, hW3⟩ : ∃ W, W = wc := ⟨_, rfl⟩
        subst hW3
        go_loopw [35] (fun i wr => ∃ m : Nat, m ≤ ats.length ∧ i = .int .i64 m ∧ Hid (St w0 w wr B P q (l3 ++ prtAs (ats.take m)) #[.string g, .string k, .string t, .slice aa ats.length ac, .slice ia its.length ic])) (fun i _ => ats.length - (intOf i).toNat)
        case atStart => exact ⟨0, Nat.zero_le _, rfl, by show St _ _ _ _ _ _ _ _; simpa [prtAs] using S3.out⟩
        case round =>
          obtain ⟨m, hm, rfl, SM⟩ := hrel
          by_cases hlt : m < ats.length
          · have hm1 : (m : Int) < (ats.length : Int) := by omega
            obtain ⟨b, o, rfl, q0, q1, -, -⟩ := (HA.out.below SM.out.1.2.2.2.1) m ats[m] (by simp [hlt])
            have HT : Hid (prtAs (ats.take (m + 1)) = prtAs (ats.take m) ++ prtA ats[m]) := prtAs_snoc hlt
            have hle := prtAs_take_le ats (m + 1)
            rw [HT.out, List.length_append] at hle
            have hsz := HAT.out ats[m] (List.getElem_mem hlt)
            have hca := attr_any B P q (l3 ++ prtAs (ats.take m)) ats[m].1 ats[m].2 (wr.alloc (.cells #[.string ats[m].1, .string ats[m].2] 67)) (SM.out.more (below_one _ _)).1.1 (SM.out.more (below_one _ _)).1.2.2.2.2 (by omega) (by have := HRL3.out; show _ + (prtA ats[m]).length ≤ _; rw [List.length_append]; omega)
            have CA : Hid (Calls Try.prog 42 #[.pointer (some ⟨P, 0, none⟩), .string ats[m].1, .string ats[m].2] (wr.alloc (.cells #[.string ats[m].1, .string ats[m].2] 67)) _) := hca
            clear hca hle hsz
            generalize ats[m] = am at *
            obtain ⟨a1, a2⟩ := am
            simp only at q0 q1 CA
            go_wp2_with (refine CA.out.mono ?_; rintro e w5 h5; obtain ⟨rfl, h5b⟩ := h5)
            go_roundw
            case rel => exact ⟨m + 1, by omega, by go_num, by show St _ _ _ _ _ _ _ _; rw [HT.out, ← List.append_assoc]; exact (SM.out.more (below_one _ _)).post hB0 ⟨rfl, h5b⟩⟩
            case measure => simp [intOf]; omega
          · have hme : m = ats.length := by omega
            subst hme
            have s4 := SM.out
            rw [List.take_length] at s4
            have S4 : Hid (St w0 w wr B P q (l3 ++ prtAs ats) #[.string g, .string k, .string t, .slice aa ats.length ac, .slice ia its.length ic]) := s4
            have HRL4 : Hid ((l3 ++ prtAs ats).length + (1 + (cat prt its).length + 2 + g.toList.length + 1) ≤ 1000000000) := by
              have := HRL3.out
              show _ ≤ _
              rw [List.length_append]
              omega
            have E4 : Hid (l ++ R = (l3 ++ prtAs ats) ++ ([62] ++ (cat prt its ++ ([60, 47] ++ (g.toList ++ [62]))))) := by show _ = _; rw [E3.out]; simp only [List.append_assoc]
            clear s4 SM S3 HRL3 E3
            generalize l3 ++ prtAs ats = l4 at *
            have hp5 := S4.out.put [⟨#[62]⟩] (by rw [catBg]; have := HRL4.out; simp only [List.length_cons, List.length_nil]; omega) (by simp)
            rw [catBg] at hp5
            have CP5 : Hid (Calls Try.prog 32 #[.pointer (some ⟨P, 0, none⟩), .slice (some ⟨wr.heap.size, 0, none⟩) 1 1] (wr.alloc (.cells #[.string ⟨#[62]⟩] 9)) _) := hp5
            clear hp5
            go_upto_region 12 with (refine CP5.out.mono ?_; rintro e w5 h5; obtain ⟨rfl, h5b⟩ := h5)
            have S5 : Hid (St w0 w w5 B P q (l4 ++ [62]) #[.string g, .string k, .string t, .slice aa ats.length ac, .slice ia its.length ic]) := (S4.out.more (below_one _ _)).post hB0 ⟨rfl, h5b⟩
            have HRL5 : Hid ((l4 ++ [62]).length + ((cat prt its).length + 2 + g.toList.length + 1) ≤ 1000000000) := by
              have := HRL4.out
              show _ ≤ _
              simp only [List.length_append, List.length_cons, List.length_nil]
              omega
            have E5 : Hid (l ++ R = (l4 ++ [62]) ++ (cat prt its ++ ([60, 47] ++ (g.toList ++ [62])))) := by show _ = _; rw [E4.out]; simp only [List.append_assoc]
            clear S4 HRL4 E4 h5b CP5
            generalize l4 ++ [62] = l5 at *
            obtain ⟨y0, y1, y2, y3, y4, -⟩ := box_cells S5.out.2
            go_wp2_with fail
            clear y0 y1 y2 y3 y4
            go_loopw [52] (fun i wr => ∃ m : Nat, m ≤ its.length ∧ i = .int .i64 m ∧ Hid (St w0 w wr B P q (l5 ++ cat prt (its.take m)) #[.string g, .string k, .string t, .slice aa ats.length ac, .slice ia its.length ic])) (fun i _ => its.length - (intOf i).toNat)
            case atStart => exact ⟨0, Nat.zero_le _, rfl, by show St _ _ _ _ _ _ _ _; simpa [cat] using S5.out⟩
            case round =>
              obtain ⟨m, hm, rfl, SM⟩ := hrel
              by_cases hlt : m < its.length
              · have hm1 : (m : Int) < (its.length : Int) := by omega
                obtain ⟨b, o, g1, k1, t1, aa1, al1, ac1, ja, jl, jc, rfl, q0, q1, q2, q3, q4, hl, -, -, -⟩ := HI.out.at m hlt
                replace q0 := keepc SM.out.1.2.2.2.1 _ _ q0
                replace q1 := keepc SM.out.1.2.2.2.1 _ _ q1
                replace q2 := keepc SM.out.1.2.2.2.1 _ _ q2
                replace q3 := keepc SM.out.1.2.2.2.1 _ _ q3
                replace q4 := keepc SM.out.1.2.2.2.1 _ _ q4
                have HT : Hid (cat prt (its.take (m + 1)) = cat prt (its.take m) ++ prt its[m]) := cat_snoc hlt
                have hle := cat_take_le prt its (m + 1)
                rw [HT.out, List.length_append] at hle
                have hck := IH.out its[m] _ B P q (l5 ++ cat prt (its.take m)) w0 (wr.alloc (.cells #[.string g1, .string k1, .string t1, .slice aa1 al1 ac1, .slice ja jl jc] 25)) hl (SM.out.more (below_one _ _)).1.2.2.2.1 hB0 (SM.out.more (below_one _ _)).1.2.2.2.2 (SM.out.more (below_one _ _)).1.1 (HKI.out _ (List.getElem_mem hlt)) (by have := HRL5.out; rw [List.length_append]; omega)
                have CK : Hid (Calls Try.prog 28 #[.pointer (some ⟨P, 0, none⟩), mkT g1 k1 t1 aa1 al1 ac1 ja jl jc] (wr.alloc (.cells #[.string g1, .string k1, .string t1, .slice aa1 al1 ac1, .slice ja jl jc] 25)) _) := hck
                clear hck hl hle
                go_wp2_with (refine CK.out.mono ?_; rintro e w7 h7; obtain ⟨rfl, h7b⟩ := h7)
                go_roundw
                case rel => exact ⟨m + 1, by omega, by go_num, by show St _ _ _ _ _ _ _ _; rw [HT.out, ← List.append_assoc]; exact (SM.out.more (below_one _ _)).post hB0 ⟨rfl, h7b⟩⟩
                case measure => simp [intOf]; omega
              · have hme : m = its.length := by omega
                subst hme
                have s6 := SM.out
                rw [List.take_length] at s6
                have S6 : Hid (St w0 w wr B P q (l5 ++ cat prt its) #[.string g, .string k, .string t, .slice aa ats.length ac, .slice ia its.length ic]) := s6
                have HRL6 : Hid ((l5 ++ cat prt its).length + (2 + (g.toList.length + 1)) ≤ 1000000000) := by
                  have := HRL5.out
                  show _ ≤ _
                  rw [List.length_append]
                  omega
                have E6 : Hid (l ++ R = (l5 ++ cat prt its) ++ ([60, 47] ++ (g.toList ++ [62]))) := by show _ = _; rw [E5.out]; simp only [List.append_assoc]
                clear s6 SM S5 HRL5 E5
                generalize l5 ++ cat prt its = l6 at *
                have hp7 := S6.out.put [⟨#[60, 47]⟩, g, ⟨#[62]⟩] (by rw [catB3]; have := HRL6.out; simp only [List.length_append, List.length_cons, List.length_nil]; omega) (by simp)
                rw [catB3] at hp7
                have CP7 : Hid (Calls Try.prog 32 #[.pointer (some ⟨P, 0, none⟩), .slice (some ⟨wr.heap.size, 0, none⟩) 3 3] (wr.alloc (.cells #[.string ⟨#[60, 47]⟩, .string g, .string ⟨#[62]⟩] 9)) _) := hp7
                clear hp7
                obtain ⟨y0, y1, y2, y3, y4, -⟩ := box_cells S6.out.2
                go_wp2_with (refine CP7.out.mono ?_; rintro e w8 h8; obtain ⟨rfl, h8b⟩ := h8)
                go_end0
                rw [E6.out]
                exact ((S6.out.more (below_one _ _)).post hB0 ⟨rfl, h8b⟩).fin
end Go.Proofs.Ytoheppocolbjkaa
