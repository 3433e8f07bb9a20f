/-
  The places of the longest rising part, and the others: split, Longest, Length, Moves.
-/
import Derived.Test.YteceljjmandnmaaLiLens
namespace Go.Proofs.Yteceljjmandnmaa
open Go.ChangeShapes Go.WideShapes Go.ChangeAt Go.RowKit Go.Deep
open Li

/-- Places as whole numbers. -/
def ints (l : List Nat) : List Int := l.map fun (n : Nat) => (n : Int)

theorem ints_length (l : List Nat) : (ints l).length = l.length := by simp [ints]
theorem ints_append (l m : List Nat) : ints (l ++ m) = ints l ++ ints m := by simp [ints]
theorem ints_at {l : List Nat} {i : Nat} (h : i < (ints l).length) : (ints l)[i] = ((l[i]'(by rwa [ints_length] at h) : Nat) : Int) := by simp [ints]

/-- Two rows of one's own, apart. -/
structure Two (wr : World) (B : Nat) (v u : Value) (l m : List Int) : Prop where
  a : OwnI wr B v l
  b : OwnI wr B u m
  ap : ∀ g, v.ownBlock = some g → u.ownBlock ≠ some g

theorem Two.below {w w' : World} {B : Nat} {v u : Value} {l m : List Int} (h : Two w B v u l m) (k : Below w.heap.size w w') : Two w' B v u l m := ⟨h.a.below k, h.b.below k, h.ap⟩
theorem Two.swap {w : World} {B : Nat} {v u : Value} {l m : List Int} (h : Two w B v u l m) : Two w B u v m l := ⟨h.b, h.a, fun g h1 h2 => h.ap g h2 h1⟩
theorem Two.grow {w w' : World} {B : Nat} {v u v' : Value} {l m l' : List Int} (h : Two w B v u l m) (ho : OwnI w' B v' l') (hg : w.grownBy w' v.ownBlock) (hp : v'.ownBlock = v.ownBlock ∨ ∀ g, v'.ownBlock = some g → w.heap.size ≤ g) : Two w' B v' u l' m := by
  have hu : ∀ g, u.ownBlock = some g → g < w.heap.size := fun g hg => (h.b.lt g hg).2
  refine ⟨ho, h.b.same fun b hb => hg.block b (hu b hb) (fun e => h.ap b e.symm hb), fun g h1 h2 => ?_⟩
  rcases hp with e | e
  · exact h.ap g (by rw [← e]; exact h1) h2
  · have := e g h1
    have := hu g h2
    omega

theorem OwnI.less {w : World} {B B' : Nat} {v : Value} {l : List Int} (h : OwnI w B v l) (hB : B' ≤ B) : OwnI w B' v l := by
  obtain ⟨h1, h2⟩ := h
  rcases h2 with ⟨rfl, h3⟩ | ⟨g, cap, cur, rfl, hg, r⟩
  · exact ⟨h1, Or.inl ⟨rfl, h3⟩⟩
  · exact ⟨h1, Or.inr ⟨g, cap, cur, rfl, by omega, r⟩⟩

theorem grown_below {w w' : World} {B : Nat} {v : Value} {l : List Int} (h : OwnI w B v l) (hg : w.grownBy w' v.ownBlock) (hB : B ≤ w.heap.size) : Below B w w' :=
  ⟨hg.os, hg.tape, hg.output, hg.size, fun j hj => hg.block j (by omega) (fun e => by have := (h.lt j e.symm).1; omega)⟩

theorem sp_drop {fs : List Nat} {p due : Nat} (h : p < fs.length) : sp (fs.drop p) due p = if fs[p] = due then (p :: (sp (fs.drop (p + 1)) (due - 1) (p + 1)).1, (sp (fs.drop (p + 1)) (due - 1) (p + 1)).2) else ((sp (fs.drop (p + 1)) due (p + 1)).1, p :: (sp (fs.drop (p + 1)) due (p + 1)).2) := by
  rw [List.drop_eq_getElem_cons h]
  rfl

theorem fr_pos (ks : List Int) {p : Nat} (h : p < (fr ks).length) : 1 ≤ (fr ks)[p] ∧ (fr ks)[p] ≤ ks.length := by
  have hp : p < ks.length := by rwa [fr_length] at h
  obtain ⟨h1, h2, -⟩ := fr_heads ks p (fr ks)[p] ks[p] (List.getElem?_eq_getElem h) (List.getElem?_eq_getElem hp)
  have := heads_le ks
  omega

set_option maxRecDepth 100000 in
set_option maxHeartbeats 1600000 in
theorem split_any (ks : List Int) (la : Option Addr) (c : Nat) (w : World) (hl : LayI w la ks) (hn : ks.length ≤ 256) :
    Calls Try.prog 19 #[.slice la ks.length c] w fun e w' => ∃ v u, e = .returned (.tuple #[v, u]) ∧ Two w' w.heap.size v u (ints (lon ks)) (ints (mov ks)) ∧ Below w.heap.size w w' := by
  have HC : Hid (Calls Try.prog 21 #[.slice la ks.length c] w _) := lengths_any ks la c w hl hn
  clear hl
  have hll : len ks ≤ 256 := by have := heads_le_len ks; omega
  have HLL : Hid (len ks ≤ (heads ks).length) := Nat.le_refl _
  have HM : Hid (lon ks = (sp ((fr ks).drop 0) (len ks) 0).1 ∧ mov ks = (sp ((fr ks).drop 0) (len ks) 0).2) := ⟨by simp [lon], by simp [mov]⟩
  have HP : Hid (∀ p (h : p < (fr ks).length), 1 ≤ (fr ks)[p] ∧ (fr ks)[p] ≤ ks.length) := fun p h => fr_pos ks h
  have HFL : Hid ((fr ks).length = ks.length) := fr_length ks
  go_enter Try.func19, Try.ntmps19
  go_wp2_with (go_at_call 21; refine HC.out.mono ?_; rintro e w1 ⟨rfl, h1, h2⟩; have H1 : Hid (OwnI w1 w.heap.size (.slice (some ⟨w.heap.size, 0, none⟩) ks.length ks.length) ((fr ks).map fun (f : Nat) => (f : Int))) := h1; have H2 : Hid (Below w.heap.size w w1) := h2; clear h1 h2)
  generalize fr ks = fs at *
  generalize len ks = ln at *
  clear HC HLL
  go_loopw [2, 3, 5, 14] (fun v2 v3 v5 v14 wr => ∃ (p due : Nat) (lg ot : List Nat), p ≤ ks.length ∧ due ≤ 256 ∧ v14 = .int .i64 (p : Int) ∧ v5 = .int .i64 (due : Int) ∧ lg.length + ot.length = p ∧ Hid (Two wr w1.heap.size v2 v3 (ints lg) (ints ot)) ∧ Hid (Below w1.heap.size w1 wr) ∧ Hid (lon ks = lg ++ (sp (fs.drop p) due p).1 ∧ mov ks = ot ++ (sp (fs.drop p) due p).2)) (fun _ _ _ v14 _ => ks.length - (intOf v14).toNat)
  case atStart => exact ⟨0, ln, [], [], Nat.zero_le _, hll, rfl, rfl, rfl, ⟨OwnI.nil _ _, OwnI.nil _ _, fun g h => by cases h⟩, Below.refl _ _, HM.out⟩
  case round =>
    obtain ⟨p, due, lg, ot, hp, hd, rfl, rfl, hlo, HT, HB, HS⟩ := hrel
    by_cases hlt : p < ks.length
    · have hpf : p < fs.length := by rw [HFL.out]; exact hlt
      obtain ⟨r1, -⟩ := (H1.out.below HB.out).cell (j := p) (by simpa using hpf)
      simp only [List.getElem_map] at r1
      have hf1 := HP.out p hpf
      by_cases he : fs[p] = due
      · have HS' : Hid (lon ks = (lg ++ [p]) ++ (sp (fs.drop (p + 1)) (due - 1) (p + 1)).1 ∧ mov ks = ot ++ (sp (fs.drop (p + 1)) (due - 1) (p + 1)).2) := by
          show _ ∧ _
          have h := HS.out
          rw [sp_drop hpf, if_pos he] at h
          simpa using h
        rw [he] at r1 hf1
        obtain ⟨a2, c2, hv2⟩ := HT.out.a.shape
        obtain ⟨a3, c3, hv3⟩ := HT.out.b.shape
        subst hv2 hv3
        have hd1 : 1 ≤ due := hf1.1
        clear hf1 he HS
        have HTX : Hid (Two (wr.alloc (.cells #[.int .i64 (p : Int)] 3)) w1.heap.size (.slice a2 (ints lg).length c2) (.slice a3 (ints ot).length c3) (ints lg) (ints ot)) := HT.out.below (below_one _ _)
        have HBX : Hid (Below w1.heap.size w1 (wr.alloc (.cells #[.int .i64 (p : Int)] 3))) := nxt HB.out (below_one _ _)
        have HNW : Hid ((wr.alloc (.cells #[.int .i64 (p : Int)] 3)).cell? ((⟨wr.heap.size, 0, none⟩ : Addr).add 0) = some (.int .i64 (p : Int))) := newCells wr _ _ 0 _ rfl
        have HSZ : Hid ((((ints lg).length + 1) * 8 ≤ 140737488355328) ∧ w1.heap.size ≤ (wr.alloc (.cells #[.int .i64 (p : Int)] 3)).heap.size) := ⟨by rw [ints_length]; omega, HBX.out.size⟩
        clear HT HB
        go_wp2_with (refine wpList_pushI _ rfl (.tmp 23) (.tmp 25) rfl w1.heap.size _ (ints lg) rfl HTX.out.a (p : Int) ⟨wr.heap.size, 0, none⟩ 1 rfl HNW.out HSZ.out.1 HSZ.out.2 ?_; intro v' w' q1 q2 q3; have T' := (HTX.out.grow q1 q2 q3); have BB : Hid (Below w1.heap.size w1 w') := HBX.out.trans (grown_below HTX.out.a q2 HSZ.out.2); have TT : Hid (Two w' w1.heap.size _ _ _ _) := T'; clear q1 q2 q3 T')
        go_roundw
        case rel => exact ⟨p + 1, due - 1, lg ++ [p], ot, by omega, by omega, by go_num, by go_num, by simp; omega, by rw [ints_append]; exact TT.out, BB.out, HS'.out⟩
        case measure => simp [intOf]; omega
      · have HS' : Hid (lon ks = lg ++ (sp (fs.drop (p + 1)) due (p + 1)).1 ∧ mov ks = (ot ++ [p]) ++ (sp (fs.drop (p + 1)) due (p + 1)).2) := by
          show _ ∧ _
          have h := HS.out
          rw [sp_drop hpf, if_neg he] at h
          simpa using h
        obtain ⟨a2, c2, hv2⟩ := HT.out.a.shape
        obtain ⟨a3, c3, hv3⟩ := HT.out.b.shape
        subst hv2 hv3
        have hq : (((fs[p] : Nat) : Int) == (due : Int)) = false := by simp; omega
        clear he HS
        generalize fs[p] = f at *
        have HTX : Hid (Two (wr.alloc (.cells #[.int .i64 (p : Int)] 3)) w1.heap.size (.slice a2 (ints lg).length c2) (.slice a3 (ints ot).length c3) (ints lg) (ints ot)) := HT.out.below (below_one _ _)
        have HBX : Hid (Below w1.heap.size w1 (wr.alloc (.cells #[.int .i64 (p : Int)] 3))) := nxt HB.out (below_one _ _)
        have HNW : Hid ((wr.alloc (.cells #[.int .i64 (p : Int)] 3)).cell? ((⟨wr.heap.size, 0, none⟩ : Addr).add 0) = some (.int .i64 (p : Int))) := newCells wr _ _ 0 _ rfl
        have HSZ : Hid ((((ints ot).length + 1) * 8 ≤ 140737488355328) ∧ w1.heap.size ≤ (wr.alloc (.cells #[.int .i64 (p : Int)] 3)).heap.size) := ⟨by rw [ints_length]; omega, HBX.out.size⟩
        clear HT HB
        go_wp2_with (refine wpList_pushI _ rfl (.tmp 29) (.tmp 31) rfl w1.heap.size _ (ints ot) rfl HTX.out.swap.a (p : Int) ⟨wr.heap.size, 0, none⟩ 1 rfl HNW.out HSZ.out.1 HSZ.out.2 ?_; intro v' w' q1 q2 q3; have T' := (HTX.out.swap.grow q1 q2 q3).swap; have BB : Hid (Below w1.heap.size w1 w') := HBX.out.trans (grown_below HTX.out.swap.a q2 HSZ.out.2); have TT : Hid (Two w' w1.heap.size _ _ _ _) := T'; clear q1 q2 q3 T')
        go_roundw
        case rel => exact ⟨p + 1, due, lg, ot ++ [p], by omega, by omega, by go_num, rfl, by simp; omega, by rw [ints_append]; exact TT.out, BB.out, HS'.out⟩
        case measure => simp [intOf]; omega
    · have hpn : p = ks.length := by omega
      have HS' : Hid (lon ks = lg ∧ mov ks = ot) := by
        show _ ∧ _
        have h := HS.out
        rw [List.drop_eq_nil_of_le (by rw [HFL.out]; omega)] at h
        simpa [sp] using h
      clear HS
      go_wp2_with fail
      go_ret2
      refine ⟨_, _, rfl, ?_, H2.out.trans (HB.out.mono H2.out.size)⟩
      rw [HS'.out.1, HS'.out.2]
      exact ⟨HT.out.a.less H2.out.size, HT.out.b.less H2.out.size, HT.out.ap⟩

/-- What Longest, Moves, Length answer; the error. -/
def lonR (ks : List Int) : List Int := if ks.length ≤ 256 then ints (lon ks) else []
def movR (ks : List Int) : List Int := if ks.length ≤ 256 then ints (mov ks) else []
def lenR (ks : List Int) : Int := if ks.length ≤ 256 then (len ks : Int) else 0
def errR (ks : List Int) : Int := if ks.length ≤ 256 then 0 else 3

set_option maxRecDepth 100000 in
theorem longest_any (ks : List Int) (la : Option Addr) (c : Nat) (w : World) (hl : Nm w la c ks) :
    Calls Try.prog 10 #[.slice la ks.length c] w fun e w' => ∃ v, e = .returned (.tuple #[v, .int .i64 (errR ks)]) ∧ OwnI w' w.heap.size v (lonR ks) ∧ Below w.heap.size w w' := by
  by_cases hn : ks.length ≤ 256
  · have HC : Hid (Calls Try.prog 19 #[.slice la ks.length c] w _) := split_any ks la c w hl.1 hn
    have e1 : lonR ks = ints (lon ks) := if_pos hn
    have e2 : errR ks = 0 := if_pos hn
    rw [e1, e2]
    clear hl e1 e2
    go_enter Try.func10, Try.ntmps10
    go_wp2_with (go_at_call 19; refine HC.out.mono ?_; rintro e w1 ⟨v, u, rfl, h1, h2⟩; have H1 : Hid (Two w1 w.heap.size v u (ints (lon ks)) (ints (mov ks))) := h1; have H2 : Hid (Below w.heap.size w w1) := h2; clear h1 h2)
    go_ret2
    exact ⟨_, rfl, H1.out.a, H2.out⟩
  · have e1 : lonR ks = [] := if_neg hn
    have e2 : errR ks = 3 := if_neg hn
    have hln : ks.length ≤ 140737488351232 := by have := hl.2.2.2.1; omega
    rw [e1, e2]
    clear hl e1 e2
    go_enter Try.func10, Try.ntmps10
    go_wp2_with fail
    go_ret2
    exact ⟨_, rfl, OwnI.nil _ _, Below.refl _ _⟩

set_option maxRecDepth 100000 in
theorem moves_any (ks : List Int) (la : Option Addr) (c : Nat) (w : World) (hl : Nm w la c ks) :
    Calls Try.prog 14 #[.slice la ks.length c] w fun e w' => ∃ v, e = .returned (.tuple #[v, .int .i64 (errR ks)]) ∧ OwnI w' w.heap.size v (movR ks) ∧ Below w.heap.size w w' := by
  by_cases hn : ks.length ≤ 256
  · have HC : Hid (Calls Try.prog 19 #[.slice la ks.length c] w _) := split_any ks la c w hl.1 hn
    have e1 : movR ks = ints (mov ks) := if_pos hn
    have e2 : errR ks = 0 := if_pos hn
    rw [e1, e2]
    clear hl e1 e2
    go_enter Try.func14, Try.ntmps14
    go_wp2_with (go_at_call 19; refine HC.out.mono ?_; rintro e w1 ⟨v, u, rfl, h1, h2⟩; have H1 : Hid (Two w1 w.heap.size v u (ints (lon ks)) (ints (mov ks))) := h1; have H2 : Hid (Below w.heap.size w w1) := h2; clear h1 h2)
    go_ret2
    exact ⟨_, rfl, H1.out.b, H2.out⟩
  · have e1 : movR ks = [] := if_neg hn
    have e2 : errR ks = 3 := if_neg hn
    have hln : ks.length ≤ 140737488351232 := by have := hl.2.2.2.1; omega
    rw [e1, e2]
    clear hl e1 e2
    go_enter Try.func14, Try.ntmps14
    go_wp2_with fail
    go_ret2
    exact ⟨_, rfl, OwnI.nil _ _, Below.refl _ _⟩

set_option maxRecDepth 100000 in
theorem length_any (ks : List Int) (la : Option Addr) (c : Nat) (w : World) (hl : Nm w la c ks) :
    Calls Try.prog 12 #[.slice la ks.length c] w fun e w' => e = .returned (.tuple #[.int .i64 (lenR ks), .int .i64 (errR ks)]) ∧ Below w.heap.size w w' := by
  by_cases hn : ks.length ≤ 256
  · have HC : Hid (Calls Try.prog 21 #[.slice la ks.length c] w _) := lengths_any ks la c w hl.1 hn
    have e1 : lenR ks = (len ks : Int) := if_pos hn
    have e2 : errR ks = 0 := if_pos hn
    rw [e1, e2]
    clear hl e1 e2
    go_enter Try.func12, Try.ntmps12
    go_wp2_with (go_at_call 21; refine HC.out.mono ?_; rintro e w1 ⟨rfl, h1, h2⟩; have H2 : Hid (Below w.heap.size w w1) := h2; clear h1 h2)
    go_ret2
    exact ⟨rfl, H2.out⟩
  · have e1 : lenR ks = 0 := if_neg hn
    have e2 : errR ks = 3 := if_neg hn
    have hln : ks.length ≤ 140737488351232 := by have := hl.2.2.2.1; omega
    rw [e1, e2]
    clear hl e1 e2
    go_enter Try.func12, Try.ntmps12
    go_wp2_with fail
    go_ret2
    exact ⟨rfl, Below.refl _ _⟩
end Go.Proofs.Yteceljjmandnmaa
