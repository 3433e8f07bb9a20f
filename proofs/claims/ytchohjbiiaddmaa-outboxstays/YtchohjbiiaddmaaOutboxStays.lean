/-
  OutboxStays: for every two lists of numbers and every list of effects: what is acknowledged is never told again; all else is, under its number, in order. No condition. (Printed by wip/make/mkstays.py.)
-/
import Derived.Test.YtchohjbiiaddmaaObStay
import Derived.Test.YtchohjbiiaddmaaRgOps
import Derived.Deep.CutRange
namespace Go.Proofs.Ytchohjbiiaddmaa.outboxStays
open Go.ChangeShapes Go.WideShapes Go.ChangeAt Go.RowKit Go.Deep Go.ChangeMaps

/-- Where the loop stands. -/
def Inv {n : Nat} (w wr : World) (P m last : Nat) (L : Int) (its : List (Tm n)) (v : Value) : Prop := BoxW wr (P + 1) P L its v ∧ OwnI wr (P + 1) v (ids its) ∧ chkB L its = 0 ∧ L ≤ last ∧ its.length ≤ 3 * m ∧ Below w.heap.size w wr ∧ w.heap.size ≤ P

/-- The parts of an answer. -/
def fstT : Value → Value
  | .tuple vs => vs.getD 0 undef
  | _ => undef
def sndT : Value → Value
  | .tuple vs => vs.getD 1 undef
  | _ => undef
def trdT : Value → Value
  | .tuple vs => vs.getD 2 undef
  | _ => undef
theorem fst2 (a b : Value) : fstT (.tuple #[a, b]) = a := rfl
theorem snd2 (a b : Value) : sndT (.tuple #[a, b]) = b := rfl
theorem fst3 (a b c : Value) : fstT (.tuple #[a, b, c]) = a := rfl
theorem snd3 (a b c : Value) : sndT (.tuple #[a, b, c]) = b := rfl
theorem trd3 (a b c : Value) : trdT (.tuple #[a, b, c]) = c := rfl
def csT (y : Value) : Array Value := match fstT y with
  | .agg cs => cs
  | _ => #[]

/-- What Add's region gives, operation by operation. -/
def rvAdd (v0 v1 v2 v3 v4 : Value) (y : Value) : Nat → Value
  | 0 => v0
  | 1 => v1
  | 2 => v2
  | 3 => v3
  | 4 => v4
  | 5 => y
  | 6 => y
  | 7 => fstT y
  | 8 => sndT y
  | 11 => sndT y
  | _ => undef
theorem rvAdd_pre (v0 v1 v2 v3 v4 y y' : Value) (i : Nat) (h : decide (i ≤ 4) = true) : rvAdd v0 v1 v2 v3 v4 y i = rvAdd v0 v1 v2 v3 v4 y' i := by
  have : i ≤ 4 := by simpa using h
  obtain rfl | rfl | rfl | rfl | rfl : i = 0 ∨ i = 1 ∨ i = 2 ∨ i = 3 ∨ i = 4 := by omega
  all_goals rfl
def RAdd {n : Nat} (L er : Int) (its : List (Tm n)) (y : Value) (H : Nat → Prop) (wr : World) : Prop := ∃ a c, y = .tuple #[.agg #[.int .i64 L, .slice a its.length c], .int .i64 er] ∧ OwnR (shT n) wr (.slice a its.length c) its H

/-- What Ack's region gives. -/
def rvAck (v0 v1 v2 v3 v4 : Value) (y : Value) : Nat → Value
  | 0 => v0
  | 1 => v1
  | 2 => v2
  | 3 => v3
  | 4 => v4
  | 5 => y
  | 6 => y
  | 7 => fstT y
  | 8 => sndT y
  | 9 => trdT y
  | 12 => sndT y
  | 13 => trdT y
  | _ => undef
theorem rvAck_pre (v0 v1 v2 v3 v4 y y' : Value) (i : Nat) (h : decide (i ≤ 4) = true) : rvAck v0 v1 v2 v3 v4 y i = rvAck v0 v1 v2 v3 v4 y' i := by
  have : i ≤ 4 := by simpa using h
  obtain rfl | rfl | rfl | rfl | rfl : i = 0 ∨ i = 1 ∨ i = 2 ∨ i = 3 ∨ i = 4 := by omega
  all_goals rfl
def RAck {n : Nat} (L : Int) (b : Bool) (its : List (Tm n)) (y : Value) (H : Nat → Prop) (wr : World) : Prop := ∃ a c, y = .tuple #[.agg #[.int .i64 L, .slice a its.length c], .bool b, .int .i64 0] ∧ OwnR (shT n) wr (.slice a its.length c) its H

theorem two_range {w : World} {b : Nat} {x y : Value} {t : TypeId} (h : w.heap[b]? = some (.cells #[x, y] t (0, 0))) : w.rangeAt b 0 [x, y] := by
  intro j v hj
  match j, hj with
  | 0, hj => simp at hj; subst hj; exact (cell_of h 0).1
  | 1, hj => simp at hj; subst hj; exact (cell_of h 1).1
  | j + 2, hj => simp at hj

/-- A box in a variable, its cells, its items to be read. -/
theorem boxv_open {n : Nat} {wr : World} {B P : Nat} {L : Int} {its : List (Tm n)} (h : BoxV wr B P L its) (h0 : chkB L its = 0) : ∃ a c, wr.heap[P]? = some (.cells #[.int .i64 L, .slice a its.length c] 26 (0, 0)) ∧ TIs wr n a c its := by
  obtain ⟨a, c, -, y1, -, -, ht⟩ := h.read h0
  obtain ⟨a', c', H, h1, -⟩ := h
  have e := (cell_of h1 1).1
  rw [y1] at e
  simp only [List.getElem?_toArray, List.getElem?_cons_zero, List.getElem?_cons_succ, Option.some.injEq, Value.slice.injEq] at e
  obtain ⟨rfl, -, rfl⟩ := e
  exact ⟨a, c, h1, ht⟩

theorem OwnI.setP {wr : World} {P : Nat} {v : Value} {js : List Int} (h : OwnI wr (P + 1) v js) (x y : Value) : OwnI ((wr.setCell ⟨P, 0, none⟩ x).setCell ⟨P, 1, none⟩ y) (P + 1) v js :=
  h.same fun b hb => set2_other _ _ (by have := (h.lt b hb).1; omega)

set_option maxRecDepth 100000 in
set_option maxHeartbeats 12800000 in
theorem walk (n : Nat) (ss : List Int) (x0 : Value) (l : List (Ef n)) (x1 : Value) (ks : List Int) (x2 : Value) (w : World) (hs : IntsArg w x0 ss) (hl : EffsArg w n x1 l) (ha : IntsArg w x2 ks) :
    Calls Try.prog 4 #[x0, x1, x2] w fun e w' => e = .returned (.bool true) ∧ Below w.heap.size w w' := by
  obtain ⟨a, c, rfl, hc1, hc2, hks⟩ := hs
  obtain ⟨ea, ec, rfl, hE⟩ := hl
  obtain ⟨a2, c2, rfl, hd1, hd2, has⟩ := ha
  have HK : Hid (∀ i v, ss[i]? = some v → ∃ b o, a = some (⟨b, o, none⟩ : Addr) ∧ w.cell? ⟨b, o + i, none⟩ = some (.int .i64 v) ∧ -9223372036854775808 ≤ v ∧ v ≤ 9223372036854775807) := hks
  have HA : Hid (∀ i v, ks[i]? = some v → ∃ b o, a2 = some (⟨b, o, none⟩ : Addr) ∧ w.cell? ⟨b, o + i, none⟩ = some (.int .i64 v) ∧ -9223372036854775808 ≤ v ∧ v ≤ 9223372036854775807) := has
  have HE : Hid (EIs w n ea ec l) := hE
  have he1 := hE.1
  have he2 := hE.2.1
  clear hks has hE
  go_enter Try.func4, Try.ntmps4
  go_wp2_with (go_at_call 14; refine (alive_any _).mono ?_; rintro e w1 ⟨rfl, hb1⟩)
  have B1 : Hid (Below w.heap.size w w1) := hb1
  clear hb1
  refine (new_any _).mono ?_
  rintro e w2 ⟨rfl, hb2⟩
  have B2 : Hid (Below w.heap.size w w2) := nxt B1.out hb2
  clear hb2 B1
  have V0 : Hid (BoxV (n := n) (w2.alloc (.cells #[.int .i64 0, .slice none 0 0] 26)) (w2.heap.size + 1) w2.heap.size 0 []) := BoxV.empty _ _ _
  have B3 : Hid (Below w.heap.size w (w2.alloc (.cells #[.int .i64 0, .slice none 0 0] 26))) := nxt B2.out (below_one _ _)
  have hP := B2.out.size
  go_wp2_with fail
  generalize w2.alloc (.cells #[.int .i64 0, .slice none 0 0] 26) = W3 at *
  generalize w2.heap.size = P at *
  clear B2
  go_loopw [8, 9, 10] (fun v8 v9 v10 wr => ∃ (m last : Nat) (L : Int) (its : List (Tm n)), m ≤ 12 ∧ m ≤ ss.length ∧ v10 = .int .i64 m ∧ v9 = .int .i64 last ∧ last ≤ 5 * m ∧ Hid (Inv w wr P m last L its v8)) (fun _ _ v10 _ => 12 - (intOf v10).toNat)
  case atStart => exact ⟨0, 0, 0, [], by decide, Nat.zero_le _, rfl, rfl, by decide, V0.out.toW (fun g hg => by cases hg), OwnI.nil _ _, by simp [chkB, okT], Int.le_refl _, Nat.zero_le _, B3.out, hP⟩
  case round =>
    obtain ⟨m, last, L, its, hm, hmk, rfl, rfl, hlast, HI⟩ := hrel
    by_cases hlt : m < ss.length
    · have hlt1 : (m : Int) < (ss.length : Int) := by omega
      by_cases hl2 : m < 12
      · have hl3 : decide ((m : Int) < 12) = true := by simp; omega
        obtain ⟨kb, ko, rfl, kc, kv1, kv2⟩ := HK.out m ss[m] (by simp [hlt])
        replace kc := keepc HI.out.2.2.2.2.2.1 _ _ kc
        generalize ss[m] = kv at *
        go_upto_region 10 with fail
        obtain ⟨K, k1, k2, hK⟩ := placeAt kv ((last : Int) + 1) 5 (by decide) (by decide) (by omega) (by omega)
        rw [hK]
        generalize (wrap64 (kv.tmod 5 + 5)).tmod 5 = z3 at *
        generalize wrap64 (kv.tmod 5 + 5) = z2 at *
        generalize kv.tmod 5 = z1 at *
        clear hK kc kv1 kv2 hl3
        obtain ⟨W, hW⟩ : ∃ W, W = wr := ⟨_, rfl⟩
        subst hW
        go_cut [11] (fun v wc => ∃ j : Nat, v = .int .i64 j ∧ j ≤ l.length ∧ j ≤ 3 ∧ Hid (wc = W))
        case first =>
          obtain ⟨r, h4, h5⟩ : ∃ r : Nat, ((m : Int)).tmod 4 = r ∧ r ≤ 3 := ⟨m % 4, tmod4 m, by omega⟩
          go_wp2_with fail
          all_goals
            clear h4
            go_meet
            first
              | exact ⟨r, rfl, by omega, h5, rfl⟩
              | exact ⟨l.length, rfl, Nat.le_refl _, by omega, rfl⟩
        case rest =>
          obtain ⟨j, rfl, hj1, hj2, HW⟩ := hcut
          obtain rfl := HW.out
          clear HW
          obtain ⟨W, hW⟩ : ∃ W, W = wc := ⟨_, rfl⟩
          subst hW
          go_upto_region 11 with fail
          obtain ⟨ba, bc, hbx, ht⟩ := boxv_open HI.out.1.toV HI.out.2.2.1
          have HBX : Hid (W.heap[P]? = some (.cells #[.int .i64 L, .slice ba its.length bc] 26 (0, 0))) := hbx
          have HLJ : Hid ((l.take j).length = j) := by show _ = _; rw [List.length_take]; omega
          have CADD : Hid (∀ wr, Below W.heap.size W wr → Calls Try.prog 16 #[.agg #[.int .i64 L, .slice ba its.length bc], .int .i64 K, .slice ea j ec] wr (BoxPost wr (addR L its K (l.take j)))) := fun wr hb => by
            have := add_any L K its ba bc (l.take j) ea ec wr (ht.below hb) (((HE.out.below HI.out.2.2.2.2.2.1).below hb).take j)
            rwa [HLJ.out] at this
          have HSOME : Hid ((addR L its K (l.take j)).1 = 0 → addR L its K (l.take j) = (0, (K : Int), its ++ nums K 0 (l.take j)) ∧ chkB K (its ++ nums K 0 (l.take j)) = 0) := addR_some
          clear ht hbx
          generalize addR L its K (l.take j) = RA at *
          obtain ⟨er, L', its'⟩ := RA
          simp only at HSOME
          refine Rg.boxed_call (by kernel_rfl) 5 9 10 7 186 12 61 (fun i => decide (i ≤ 4)) (rvAdd (.agg #[.int .i64 L, .slice ba its.length bc]) (.int .i64 K) (.slice ea l.length ec) (.int .i64 j) (.slice ea j ec)) 26 #[.int .i64 0, .slice none 0 0] csT
            (RAdd L' er its') (by kernel_rfl) rfl (rvAdd_pre _ _ _ _ _) (fun _ => rfl) ?plain ?call ?alloc ?store rfl rfl ?cs (by kernel_rfl) ?R ?h
          case plain =>
            refine ⟨⟨⟨⟨⟨⟨⟨⟨⟨⟨⟨⟨trivial, ?o0⟩, ?o1⟩, ?o2⟩, ?o3⟩, ?o4⟩, ?o5⟩, ?o6⟩, ?o7⟩, ?o8⟩, ?o9⟩, ?o10⟩, ?o11⟩
            case o0 =>
              intro _ _ _ o ho ρ y H wr hb hs _
              obtain rfl := Option.some.inj ho
              exact Rg.x_load rfl (hs.free 7 (by kernel_rfl)) (two_range ((hb.block _ (lt_of_block HBX.out)).trans HBX.out)) Try.underlying26 rfl (by kernel_rfl)
            case o1 =>
              intro _ _ _ o ho ρ y H wr hb hs _
              obtain rfl := Option.some.inj ho
              exact Rg.x_move (Or.inl rfl) (hs.free 9 (by kernel_rfl))
            case o2 =>
              intro _ _ _ o ho ρ y H wr hb hs _
              obtain rfl := Option.some.inj ho
              exact Rg.x_move (Or.inl rfl) (hs.free 1 (by kernel_rfl))
            case o3 =>
              intro _ _ _ o ho ρ y H wr hb hs _
              obtain rfl := Option.some.inj ho
              exact Rg.x_move (Or.inl rfl) (hs.free 11 (by kernel_rfl))
            case o4 =>
              intro _ _ _ o ho ρ y H wr hb hs _
              obtain rfl := Option.some.inj ho
              exact Rg.x_sliceHi rfl (hs.at 2 57 (by kernel_rfl) (by decide) (by decide) rfl) (hs.at 3 58 (by kernel_rfl) (by decide) (by decide) rfl) (by omega) Try.underlying44 (z := 6) (by kernel_rfl)
            case o5 => exact fun h => absurd rfl h
            case o6 =>
              intro _ _ _ o ho ρ y H wr hb hs _
              obtain rfl := Option.some.inj ho
              exact Rg.x_move (Or.inl rfl) (hs.at 5 60 (by kernel_rfl) (by decide) (by decide) rfl)
            case o7 =>
              intro _ _ _ o ho ρ y H wr hb hs hr
              obtain rfl := Option.some.inj ho
              obtain ⟨a6, c6, rfl, -⟩ := hr rfl
              exact Rg.x_extract rfl (hs.at 6 54 (by kernel_rfl) (by decide) (by decide) rfl) rfl
            case o8 =>
              intro _ _ _ o ho ρ y H wr hb hs hr
              obtain rfl := Option.some.inj ho
              obtain ⟨a6, c6, rfl, -⟩ := hr rfl
              exact Rg.x_extract rfl (hs.at 6 54 (by kernel_rfl) (by decide) (by decide) rfl) rfl
            case o9 => exact fun _ h => absurd rfl h
            case o10 => exact fun _ _ h => absurd rfl h
            case o11 =>
              intro _ _ _ o ho ρ y H wr hb hs _
              obtain rfl := Option.some.inj ho
              exact Rg.x_move (Or.inr rfl) (hs.at 8 62 (by kernel_rfl) (by decide) (by decide) rfl)
          case call =>
            intro o ho ρ wr hb hs
            obtain rfl := Option.some.inj ho
            refine ⟨16, _, Rg.x_call3 (by intros; go_simp) ((hs undef).fn _) rfl ((hs undef).at 0 55 (by kernel_rfl) (by decide) (by decide) rfl) ((hs undef).at 1 56 (by kernel_rfl) (by decide) (by decide) rfl) ((hs undef).at 4 59 (by kernel_rfl) (by decide) (by decide) rfl), ?_⟩
            have hc := CADD.out wr hb
            refine hc.mono ?_
            rintro e w6 ⟨v6, H6, rfl, h6⟩
            obtain ⟨a6, c6, rfl⟩ := h6.1.shape
            exact ⟨_, H6, rfl, ⟨a6, c6, rfl, h6.1⟩, h6.2.2, h6.2.1⟩
          case alloc =>
            intro o ho ρ wr
            obtain rfl := Option.some.inj ho
            unfold execOp
            go_simp
          case store =>
            intro o ho
            obtain rfl := Option.some.inj ho
            rfl
          case cs =>
            rintro y H wr ⟨a6, c6, rfl, -⟩
            exact ⟨rfl, rfl, by simp [csT, fstT, Value.oneCell']⟩
          case R =>
            rintro y H wr wr' ⟨a6, c6, rfl, ho⟩ hk
            exact ⟨a6, c6, rfl, ho.same hk⟩
          case h =>
            rintro y H g wr ⟨a6, c6, rfl, ho⟩ hH hg hbk hb
            simp only [Rg.dsts, List.map_cons, List.map_nil, Rg.setAll, List.setIfInBounds_toArray, List.set_cons_succ, List.set_cons_zero, rvAdd, fst2, snd2, Nat.reduceAdd, Nat.reduceEqDiff, reduceIte]
            have HBK : Hid (wr.heap[g]? = some (.cells #[.int .i64 L', .slice a6 its'.length c6] 26 (0, 0))) := hbk
            have VG : Hid (BoxV wr W.heap.size g L' its') := ⟨a6, c6, H, hbk, ho, fun b hb0 => ⟨(hH b hb0).1, (hH b hb0).2.2, (hH b hb0).2.1⟩⟩
            have HB6 : Hid (Below W.heap.size W wr) := hb
            have HIW : Hid (BoxW wr (P + 1) P L its u8 ∧ OwnI wr (P + 1) u8 (ids its) ∧ Below w.heap.size w wr) := ⟨HI.out.1.below hb, HI.out.2.1.below hb, nxt HI.out.2.2.2.2.2.1 hb⟩
            have hPW : P < W.heap.size := HI.out.1.toV.lt
            have hLK := HI.out.2.2.2.1
            have hl3m := HI.out.2.2.2.2.1
            have HC0 : Hid (chkB L its = 0) := HI.out.2.2.1
            have HU8 : Hid (∀ b, u8.ownBlock = some b → b < W.heap.size) := fun b hb0 => (HI.out.2.1.lt b hb0).2
            clear ho hH hg hbk hb HI HBX
            obtain ⟨y0, -⟩ := cell_of HBK.out 0
            obtain ⟨y1, -⟩ := cell_of HBK.out 1
            simp at y0 y1
            by_cases he : er = 0
            · subst he
              obtain ⟨hRA, hchk⟩ := HSOME.out rfl
              simp only [Prod.mk.injEq, true_and] at hRA
              obtain ⟨rfl, hits⟩ := hRA
              have HITS : Hid (its' = its ++ nums K 0 (l.take j)) := hits
              rw [← hits] at hchk
              have HCK : Hid (chkB K its' = 0) := hchk
              have HLN : Hid (its'.length = its.length + j) := by show _ = _; rw [hits, List.length_append, nums_length, HLJ.out]
              clear hits hchk HSOME
              obtain ⟨p8, q8, g8⟩ := HIW.out.1.toV.cells2
              obtain ⟨z0, f0⟩ := cell_of g8 0
              obtain ⟨z1', f1⟩ := cell_of g8 1
              simp at z0 z1'
              have VM : Hid (BoxW _ (P + 1) P K its' u8) := ((VG.out.move g8 hPW y1).toW (v := u8) HU8.out).more (by omega)
              have OM : Hid (OwnI _ (P + 1) u8 (ids its)) := OwnI.setP HIW.out.2.1 (.int .i64 K) (.slice a6 its'.length c6)
              have BM : Hid _ := (HIW.out.2.2.setCell (p := ⟨P, 0, none⟩) hP (.int .i64 K)).setCell (p := ⟨P, 1, none⟩) hP (.slice a6 its'.length c6)
              clear g8 HBK VG
              go_wp2_with (go_at_call 12; refine (num_any _ _).mono ?_; rintro e w8 ⟨rfl, hw8⟩; subst w8)
              generalize (wr.setCell ⟨P, 0, none⟩ (.int .i64 K)).setCell ⟨P, 1, none⟩ (.slice a6 its'.length c6) = W8 at *
              clear y0 y1 z0 z1' f0 f1 HIW HU8 HB6 CADD
              have hK66 : K ≤ 66 := by omega
              have HIL : Hid (its.length ≤ 36) := by show _ ≤ _; omega
              go_loopw [8, 14] (fun v8 v14 wr => ∃ q : Nat, q ≤ j ∧ v14 = .int .i64 q ∧ Hid (BoxW wr (P + 1) P K its' v8) ∧ Hid (OwnI wr (P + 1) v8 (ids (its ++ nums K 0 ((l.take j).take q)))) ∧ Hid (Below w.heap.size w wr)) (fun _ i _ => j - (intOf i).toNat)
              case atStart => exact ⟨0, Nat.zero_le _, rfl, VM.out, by show OwnI _ _ _ _; simpa [nums] using OM.out, BM.out⟩
              case round =>
                obtain ⟨q, hq, rfl, HBW, HOI, HBB⟩ := hrel
                by_cases hqj : q < j
                · have hqj1 : (q : Int) < (j : Int) := by omega
                  have hPW2 : P < wr.heap.size := HBW.out.toV.lt
                  have S1 : Hid (OwnI (wr.alloc (.cells #[.int .i64 (32 * (K : Int) + (q : Int))] 3)) (P + 1) u8 (ids (its ++ nums K 0 ((l.take j).take q)))) := HOI.out.below (below_one _ _)
                  have S2 : Hid (BoxW (wr.alloc (.cells #[.int .i64 (32 * (K : Int) + (q : Int))] 3)) (P + 1) P K its' u8) := HBW.out.below (below_one _ _)
                  have HNC : Hid ((wr.alloc (.cells #[.int .i64 (32 * (K : Int) + (q : Int))] 3)).cell? ((⟨wr.heap.size, 0, none⟩ : Addr).add 0) = some (.int .i64 (32 * (K : Int) + (q : Int)))) := (cell_of (heap_alloc_new _ _) 0).1
                  have HIDL : Hid ((ids (its ++ nums K 0 ((l.take j).take q))).length ≤ 39) := by
                    show _ ≤ _
                    have := HIL.out
                    rw [ids_length, List.length_append, nums_length, List.length_take, List.length_take]
                    omega
                  have HSN : Hid (ids (its ++ nums K 0 ((l.take j).take (q + 1))) = ids (its ++ nums K 0 ((l.take j).take q)) ++ [32 * (K : Int) + (q : Int)]) := ids_snoc K (l.take j) its q (by rw [HLJ.out]; exact hqj)
                  generalize ids (its ++ nums K 0 ((l.take j).take q)) = cur at *
                  go_wp2_with (at_builtin; refine wpList_pushI _ rfl _ _ rfl (P + 1) _ cur rfl S1.out (32 * (K : Int) + (q : Int)) ⟨wr.heap.size, 0, none⟩ 1 rfl HNC.out ?d0 ?d1 ?_)
                  case d0 => have := HIDL.out; omega
                  case d1 => simp; omega
                  intro v' w5 q1 q2 q3
                  have T1 : Hid (BoxW w5 (P + 1) P K its' v') := S2.out.grow (fun e => by have := (S1.out.lt _ e).1; omega) q2 (by simpa using q3)
                  have T2 : Hid (OwnI w5 (P + 1) v' (ids (its ++ nums K 0 ((l.take j).take (q + 1))))) := by show OwnI _ _ _ _; rw [HSN.out]; exact q1
                  have T3 : Hid (Below w.heap.size w w5) := (nxt HBB.out (below_one _ _)).grown q2 (by simp; have := HBB.out.size; omega) (fun g hg => by have := (S1.out.lt g hg).1; omega)
                  clear q1 q2 q3
                  go_wp2_with fail
                  go_roundw
                  case rel => exact ⟨q + 1, by omega, by go_num, T1.out, T2.out, T3.out⟩
                  case measure => simp [intOf]; omega
                · have hqe : q = j := by omega
                  subst hqe
                  have hoi := HOI.out
                  rw [List.take_take, Nat.min_self, ← HITS.out] at hoi
                  have HOW : Hid (OwnI wr (P + 1) u8 (ids its')) := hoi
                  clear hoi HOI
                  obtain ⟨wa, wcap, rfl⟩ := HOW.out.shape
                  rw [ids_length] at HOW HBW
                  rw [ids_length]
                  by_cases hak : m < ks.length
                  · have hak1 : (m : Int) < (ks.length : Int) := by omega
                    by_cases hwn : 0 < its'.length
                    · have hwn1 : (0 : Int) < (its'.length : Int) := by omega
                      have hwz : ((its'.length : Int) == 0) = false := beq_eq_false_iff_ne.2 (by omega)
                      have hwp : decide ((0 : Int) < (its'.length : Int)) = true := decide_eq_true hwn1
                      obtain ⟨ab, ao, rfl, ac, av1, av2⟩ := HA.out m ks[m] (by simp [hak])
                      replace ac := keepc HBB.out _ _ ac
                      have hl300 : its'.length ≤ 39 := by have := HLN.out; have := HIL.out; omega
                      generalize ks[m] = av at *
                      go_upto_region 20 with fail
                      obtain ⟨at', hat1, hAT⟩ := placeQ av its'.length hwn1 (by omega)
                      rw [hAT]
                      generalize wrap64 (av.tmod its'.length + its'.length) = x2 at *
                      generalize av.tmod its'.length = x1 at *
                      clear hAT ac av1 av2 hwz hwp
                      have hat : at' < its'.length := by omega
                      clear hat1
                      obtain ⟨wg, rfl, hcw⟩ := HOW.out.at at' (by rw [ids_length]; exact hat)
                      rw [ids_at hat] at hcw
                      have hin := okT_mem (chkB_ok HCK.out).2.2.2 its'[at'] (List.getElem_mem hat)
                      have HRK : Hid (ackR K its' its'[at'].1 = (0, true, (K : Int), rem its'[at'].1 its')) := by
                        show _ = _
                        unfold ackR
                        rw [if_pos HCK.out, if_pos ⟨hin.1, hin.2.1⟩, any_true hat rfl]
                      have HR2 : Hid (ackR K (rem its'[at'].1 its') its'[at'].1 = (0, false, (K : Int), rem its'[at'].1 its')) := ack_twice HCK.out ⟨hin.1, hin.2.1⟩
                      have HCR : Hid (chkB K (rem its'[at'].1 its') = 0) := rem_ok HCK.out
                      have HIR : Hid (ids (rem its'[at'].1 its') = (ids its').take at' ++ (ids its').drop (at' + 1)) := ids_rem (chkB_ok HCK.out).2.2.2 at' hat
                      have HLR : Hid ((rem its'[at'].1 its').length ≤ its'.length) := List.length_filter_le _ _
                      clear hin
                      generalize its'[at'].1 = idw at *
                      generalize rem idw its' = rest at *
                      have HCW : Hid (wr.cell? ⟨wg, 0 + at', none⟩ = some (.int .i64 idw)) := hcw
                      obtain ⟨bb, bcc, hbx2, ht2⟩ := boxv_open HBW.out.toV HCK.out
                      have HBX2 : Hid (wr.heap[P]? = some (.cells #[.int .i64 K, .slice bb its'.length bcc] 26 (0, 0))) := hbx2
                      have CK1 : Hid (∀ W, Below wr.heap.size wr W → Calls Try.prog 17 #[.agg #[.int .i64 K, .slice bb its'.length bcc], .int .i64 idw] W (AckPost W (0, true, (K : Int), rest))) := fun W hb => by
                        have := ack_any K idw its' bb bcc W (ht2.below hb)
                        rwa [HRK.out] at this
                      clear hcw hbx2 ht2 HRK
                      refine Rg.boxed_call (by kernel_rfl) 5 10 11 7 186 16 108 (fun i => decide (i ≤ 4)) (rvAck (.agg #[.int .i64 K, .slice bb its'.length bcc]) (.slice (some ⟨wg, 0, none⟩) its'.length wcap) (.int .i64 at') (.pointer (some ⟨wg, 0 + at', none⟩)) (.int .i64 idw)) 26 #[.int .i64 0, .slice none 0 0] csT
                        (RAck K true rest) (by kernel_rfl) rfl (rvAck_pre _ _ _ _ _) (fun _ => rfl) ?plain ?call ?alloc ?store rfl rfl ?cs (by kernel_rfl) ?R ?h
                      case plain =>
                        refine ⟨⟨⟨⟨⟨⟨⟨⟨⟨⟨⟨⟨⟨⟨trivial, ?o0⟩, ?o1⟩, ?o2⟩, ?o3⟩, ?o4⟩, ?o5⟩, ?o6⟩, ?o7⟩, ?o8⟩, ?o9⟩, ?o10⟩, ?o11⟩, ?o12⟩, ?o13⟩
                        case o0 =>
                          intro _ _ _ o ho ρ y H wr hb hs _
                          obtain rfl := Option.some.inj ho
                          exact Rg.x_load rfl (hs.free 7 (by kernel_rfl)) (two_range ((hb.block _ (lt_of_block HBX2.out)).trans HBX2.out)) Try.underlying26 rfl (by kernel_rfl)
                        case o1 =>
                          intro _ _ _ o ho ρ y H wr hb hs _
                          obtain rfl := Option.some.inj ho
                          exact Rg.x_move (Or.inl rfl) (hs.free 8 (by kernel_rfl))
                        case o2 =>
                          intro _ _ _ o ho ρ y H wr hb hs _
                          obtain rfl := Option.some.inj ho
                          exact Rg.x_move (Or.inl rfl) (hs.free 15 (by kernel_rfl))
                        case o3 =>
                          intro _ _ _ o ho ρ y H wr hb hs _
                          obtain rfl := Option.some.inj ho
                          exact Rg.x_index1 rfl (hs.at 1 103 (by kernel_rfl) (by decide) (by decide) rfl) (hs.at 2 104 (by kernel_rfl) (by decide) (by decide) rfl) hat Try.underlying43 (by kernel_rfl)
                        case o4 =>
                          intro _ _ _ o ho ρ y H wr hb hs _
                          obtain rfl := Option.some.inj ho
                          exact Rg.x_loadInt rfl (hs.at 3 105 (by kernel_rfl) (by decide) (by decide) rfl) Try.underlying3 (keepc hb _ _ HCW.out)
                        case o5 => exact fun h => absurd rfl h
                        case o6 =>
                          intro _ _ _ o ho ρ y H wr hb hs _
                          obtain rfl := Option.some.inj ho
                          exact Rg.x_move (Or.inl rfl) (hs.at 5 107 (by kernel_rfl) (by decide) (by decide) rfl)
                        case o7 =>
                          intro _ _ _ o ho ρ y H wr hb hs hr
                          obtain rfl := Option.some.inj ho
                          obtain ⟨a6, c6, rfl, -⟩ := hr rfl
                          exact Rg.x_extract rfl (hs.at 6 101 (by kernel_rfl) (by decide) (by decide) rfl) rfl
                        case o8 =>
                          intro _ _ _ o ho ρ y H wr hb hs hr
                          obtain rfl := Option.some.inj ho
                          obtain ⟨a6, c6, rfl, -⟩ := hr rfl
                          exact Rg.x_extract rfl (hs.at 6 101 (by kernel_rfl) (by decide) (by decide) rfl) rfl
                        case o9 =>
                          intro _ _ _ o ho ρ y H wr hb hs hr
                          obtain rfl := Option.some.inj ho
                          obtain ⟨a6, c6, rfl, -⟩ := hr rfl
                          exact Rg.x_extract rfl (hs.at 6 101 (by kernel_rfl) (by decide) (by decide) rfl) rfl
                        case o10 => exact fun _ h => absurd rfl h
                        case o11 => exact fun _ _ h => absurd rfl h
                        case o12 =>
                          intro _ _ _ o ho ρ y H wr hb hs _
                          obtain rfl := Option.some.inj ho
                          exact Rg.x_move (Or.inr rfl) (hs.at 8 109 (by kernel_rfl) (by decide) (by decide) rfl)
                        case o13 =>
                          intro _ _ _ o ho ρ y H wr hb hs _
                          obtain rfl := Option.some.inj ho
                          exact Rg.x_move (Or.inr rfl) (hs.at 9 110 (by kernel_rfl) (by decide) (by decide) rfl)
                      case call =>
                        intro o ho ρ wr hb hs
                        obtain rfl := Option.some.inj ho
                        refine ⟨17, _, Rg.x_call2 (by intros; go_simp) ((hs undef).fn _) rfl ((hs undef).at 0 102 (by kernel_rfl) (by decide) (by decide) rfl) ((hs undef).at 4 106 (by kernel_rfl) (by decide) (by decide) rfl), ?_⟩
                        refine (CK1.out wr hb).mono ?_
                        rintro e w6 ⟨v6, H6, rfl, h6⟩
                        obtain ⟨a6, c6, rfl⟩ := h6.1.shape
                        exact ⟨_, H6, rfl, ⟨a6, c6, rfl, h6.1⟩, h6.2.2, h6.2.1⟩
                      case alloc =>
                        intro o ho ρ wr
                        obtain rfl := Option.some.inj ho
                        unfold execOp
                        go_simp
                      case store =>
                        intro o ho
                        obtain rfl := Option.some.inj ho
                        rfl
                      case cs =>
                        rintro y H wr ⟨a6, c6, rfl, -⟩
                        exact ⟨rfl, rfl, by simp [csT, fstT, Value.oneCell']⟩
                      case R =>
                        rintro y H wr wr' ⟨a6, c6, rfl, ho⟩ hk
                        exact ⟨a6, c6, rfl, ho.same hk⟩
                      case h =>
                        rintro y H g2 wr2 ⟨a7, c7, rfl, ho⟩ hH hg hbk hb
                        simp only [Rg.dsts, List.map_cons, List.map_nil, Rg.setAll, List.setIfInBounds_toArray, List.set_cons_succ, List.set_cons_zero, rvAck, fst3, snd3, trd3, Nat.reduceAdd, Nat.reduceEqDiff, reduceIte]
                        have VG2 : Hid (BoxV wr2 wr.heap.size g2 K rest) := ⟨a7, c7, H, hbk, ho, fun b hb0 => ⟨(hH b hb0).1, (hH b hb0).2.2, (hH b hb0).2.1⟩⟩
                        have HB7 : Hid (Below wr.heap.size wr wr2) := hb
                        have HCW3 : Hid (wr2.cell? ⟨wg, 0 + at', none⟩ = some (.int .i64 idw)) := keepc hb _ _ HCW.out
                        clear ho hH hg hbk hb CK1 HBX2 HCW
                        obtain ⟨bd, bcd, hbx3, ht3⟩ := boxv_open VG2.out HCR.out
                        have HBX3 : Hid (wr2.heap[g2]? = some (.cells #[.int .i64 K, .slice bd rest.length bcd] 26 (0, 0))) := hbx3
                        have CK2 : Hid (∀ W, Below wr2.heap.size wr2 W → Calls Try.prog 17 #[.agg #[.int .i64 K, .slice bd rest.length bcd], .int .i64 idw] W (AckPost W (0, false, (K : Int), rest))) := fun W hb => by
                          have := ack_any K idw rest bd bcd W (ht3.below hb)
                          rwa [HR2.out] at this
                        clear hbx3 ht3 HR2
                        go_upto_region 21 with fail
                        refine Rg.boxed_call (by kernel_rfl) 5 10 11 7 186 19 118 (fun i => decide (i ≤ 4)) (rvAck (.agg #[.int .i64 K, .slice bd rest.length bcd]) (.slice (some ⟨wg, 0, none⟩) its'.length wcap) (.int .i64 at') (.pointer (some ⟨wg, 0 + at', none⟩)) (.int .i64 idw)) 26 #[.int .i64 0, .slice none 0 0] csT
                          (RAck K false rest) (by kernel_rfl) rfl (rvAck_pre _ _ _ _ _) (fun _ => rfl) ?plain ?call ?alloc ?store rfl rfl ?cs (by kernel_rfl) ?R ?h
                        case plain =>
                          refine ⟨⟨⟨⟨⟨⟨⟨⟨⟨⟨⟨⟨⟨⟨trivial, ?o0⟩, ?o1⟩, ?o2⟩, ?o3⟩, ?o4⟩, ?o5⟩, ?o6⟩, ?o7⟩, ?o8⟩, ?o9⟩, ?o10⟩, ?o11⟩, ?o12⟩, ?o13⟩
                          case o0 =>
                            intro _ _ _ o ho ρ y H wr hb hs _
                            obtain rfl := Option.some.inj ho
                            exact Rg.x_load rfl (hs.free 16 (by kernel_rfl)) (two_range ((hb.block _ (lt_of_block HBX3.out)).trans HBX3.out)) Try.underlying26 rfl (by kernel_rfl)
                          case o1 =>
                            intro _ _ _ o ho ρ y H wr hb hs _
                            obtain rfl := Option.some.inj ho
                            exact Rg.x_move (Or.inl rfl) (hs.free 8 (by kernel_rfl))
                          case o2 =>
                            intro _ _ _ o ho ρ y H wr hb hs _
                            obtain rfl := Option.some.inj ho
                            exact Rg.x_move (Or.inl rfl) (hs.free 15 (by kernel_rfl))
                          case o3 =>
                            intro _ _ _ o ho ρ y H wr hb hs _
                            obtain rfl := Option.some.inj ho
                            exact Rg.x_index1 rfl (hs.at 1 113 (by kernel_rfl) (by decide) (by decide) rfl) (hs.at 2 114 (by kernel_rfl) (by decide) (by decide) rfl) hat Try.underlying43 (by kernel_rfl)
                          case o4 =>
                            intro _ _ _ o ho ρ y H wr hb hs _
                            obtain rfl := Option.some.inj ho
                            exact Rg.x_loadInt rfl (hs.at 3 115 (by kernel_rfl) (by decide) (by decide) rfl) Try.underlying3 (keepc hb _ _ HCW3.out)
                          case o5 => exact fun h => absurd rfl h
                          case o6 =>
                            intro _ _ _ o ho ρ y H wr hb hs _
                            obtain rfl := Option.some.inj ho
                            exact Rg.x_move (Or.inl rfl) (hs.at 5 117 (by kernel_rfl) (by decide) (by decide) rfl)
                          case o7 =>
                            intro _ _ _ o ho ρ y H wr hb hs hr
                            obtain rfl := Option.some.inj ho
                            obtain ⟨a6, c6, rfl, -⟩ := hr rfl
                            exact Rg.x_extract rfl (hs.at 6 111 (by kernel_rfl) (by decide) (by decide) rfl) rfl
                          case o8 =>
                            intro _ _ _ o ho ρ y H wr hb hs hr
                            obtain rfl := Option.some.inj ho
                            obtain ⟨a6, c6, rfl, -⟩ := hr rfl
                            exact Rg.x_extract rfl (hs.at 6 111 (by kernel_rfl) (by decide) (by decide) rfl) rfl
                          case o9 =>
                            intro _ _ _ o ho ρ y H wr hb hs hr
                            obtain rfl := Option.some.inj ho
                            obtain ⟨a6, c6, rfl, -⟩ := hr rfl
                            exact Rg.x_extract rfl (hs.at 6 111 (by kernel_rfl) (by decide) (by decide) rfl) rfl
                          case o10 => exact fun _ h => absurd rfl h
                          case o11 => exact fun _ _ h => absurd rfl h
                          case o12 =>
                            intro _ _ _ o ho ρ y H wr hb hs _
                            obtain rfl := Option.some.inj ho
                            exact Rg.x_move (Or.inr rfl) (hs.at 8 119 (by kernel_rfl) (by decide) (by decide) rfl)
                          case o13 =>
                            intro _ _ _ o ho ρ y H wr hb hs _
                            obtain rfl := Option.some.inj ho
                            exact Rg.x_move (Or.inr rfl) (hs.at 9 120 (by kernel_rfl) (by decide) (by decide) rfl)
                        case call =>
                          intro o ho ρ wr hb hs
                          obtain rfl := Option.some.inj ho
                          refine ⟨17, _, Rg.x_call2 (by intros; go_simp) ((hs undef).fn _) rfl ((hs undef).at 0 112 (by kernel_rfl) (by decide) (by decide) rfl) ((hs undef).at 4 116 (by kernel_rfl) (by decide) (by decide) rfl), ?_⟩
                          refine (CK2.out wr hb).mono ?_
                          rintro e w6 ⟨v6, H6, rfl, h6⟩
                          obtain ⟨a6, c6, rfl⟩ := h6.1.shape
                          exact ⟨_, H6, rfl, ⟨a6, c6, rfl, h6.1⟩, h6.2.2, h6.2.1⟩
                        case alloc =>
                          intro o ho ρ wr
                          obtain rfl := Option.some.inj ho
                          unfold execOp
                          go_simp
                        case store =>
                          intro o ho
                          obtain rfl := Option.some.inj ho
                          rfl
                        case cs =>
                          rintro y H wr ⟨a6, c6, rfl, -⟩
                          exact ⟨rfl, rfl, by simp [csT, fstT, Value.oneCell']⟩
                        case R =>
                          rintro y H wr wr' ⟨a6, c6, rfl, ho⟩ hk
                          exact ⟨a6, c6, rfl, ho.same hk⟩
                        case h =>
                          rintro y H g3 wr3 ⟨a8, c8, rfl, -⟩ - - hbk3 hb3
                          simp only [Rg.dsts, List.map_cons, List.map_nil, Rg.setAll, List.setIfInBounds_toArray, List.set_cons_succ, List.set_cons_zero, rvAck, fst3, snd3, trd3, Nat.reduceAdd, Nat.reduceEqDiff, reduceIte]
                          have HG3 : Hid (wr3.heap[g3]? = some (.cells #[.int .i64 K, .slice a8 rest.length c8] 26 (0, 0))) := hbk3
                          have HG2 : Hid (wr3.heap[g2]? = some (.cells #[.int .i64 K, .slice bd rest.length bcd] 26 (0, 0))) := (hb3.block _ (lt_of_block HBX3.out)).trans HBX3.out
                          have HB8 : Hid (Below wr.heap.size wr wr3) := nxt HB7.out hb3
                          have V9 : Hid (BoxV wr3 wr.heap.size g2 K rest) := VG2.out.below hb3
                          clear hbk3 hb3 HBX3 CK2 HCW3 VG2 HB7
                          have HW9 : Hid (BoxW wr3 (P + 1) P K its' (.slice (some ⟨wg, 0, none⟩) its'.length wcap) ∧ OwnI wr3 (P + 1) (.slice (some ⟨wg, 0, none⟩) its'.length wcap) (ids its') ∧ Below w.heap.size w wr3) := ⟨HBW.out.below HB8.out, HOW.out.below HB8.out, nxt HBB.out HB8.out⟩
                          obtain ⟨p8, q8, g8⟩ := HW9.out.1.toV.cells2
                          obtain ⟨z0, f0⟩ := cell_of g8 0
                          obtain ⟨z1', f1⟩ := cell_of g8 1
                          obtain ⟨y0, -⟩ := cell_of HG2.out 0
                          obtain ⟨y1, -⟩ := cell_of HG2.out 1
                          obtain ⟨t1, -⟩ := cell_of HG3.out 1
                          simp at z0 z1' y0 y1 t1
                          have hPW3 : P < wr.heap.size := HBW.out.toV.lt
                          have VM2 : Hid (BoxW _ (P + 1) P K rest (.slice none 0 0)) := ((V9.out.move g8 hPW3 y1).toW (v := .slice none 0 0) (fun g hg => by cases hg)).more (by omega)
                          have OM2 : Hid (OwnI _ (P + 1) (.slice (some ⟨wg, 0, none⟩) its'.length wcap) (ids its')) := OwnI.setP HW9.out.2.1 (.int .i64 K) (.slice bd rest.length bcd)
                          have BM2 : Hid _ := (HW9.out.2.2.setCell (p := ⟨P, 0, none⟩) hP (.int .i64 K)).setCell (p := ⟨P, 1, none⟩) hP (.slice bd rest.length bcd)
                          clear g8 HG2 HG3 V9 HW9 HBW HOW
                          go_upto_region 26 with (go_at_call 12; refine (num_any _ _).mono ?_; rintro e w8 ⟨rfl, hw8⟩; subst w8)
                          generalize (wr3.setCell ⟨P, 0, none⟩ (.int .i64 K)).setCell ⟨P, 1, none⟩ (.slice bd rest.length bcd) = W9 at *
                          clear z0 z1' f0 f1 y0 y1 t1 HB8
                          obtain ⟨hwc1, hwc2⟩ := OM2.out.cap
                          have hPW9 : P < W9.heap.size := VM2.out.toV.lt
                          have HTL : Hid (((ids its').take at').length = at') := by show _ = _; rw [List.length_take, ids_length]; omega
                          have HDL : Hid (((ids its').drop (at' + 1)).length = its'.length - (at' + 1)) := by show _ = _; rw [List.length_drop, ids_length]
                          go_wp2_with (at_builtin; refine wpList_appJ _ rfl _ _ rfl (P + 1) _ [] ((ids its').take at') _ rfl (OwnI.nil _ _) _ _ rfl ?n0 ?n1 ?n2 ?d0 ?d1 ?_)
                          case n0 => exact HTL.out
                          case n1 => exact fun e => by cases e
                          case n2 => exact OM2.out.take at'
                          case d0 => rw [HTL.out]; simp; omega
                          case d1 => omega
                          intro v1 w10 q1 q2 q3
                          have Q1 : Hid (OwnI w10 (P + 1) v1 ((ids its').take at')) := q1
                          have VM3 : Hid (BoxW w10 (P + 1) P K rest v1) := VM2.out.grow (fun e => by cases e) q2 q3
                          have OM3 : Hid (OwnI w10 (P + 1) (.slice (some ⟨wg, 0, none⟩) its'.length wcap) (ids its')) := OM2.out.same fun b hb0 => q2.block b (OM2.out.lt b hb0).2 (fun e => by cases e)
                          have BM3 : Hid (Below w.heap.size w w10) := BM2.out.grown q2 BM2.out.size (fun g hg => by cases hg)
                          have hPW10 : P < w10.heap.size := VM3.out.toV.lt
                          clear q1 q2 q3 VM2 OM2 BM2
                          by_cases hcap : wcap = at' + 1
                          · subst hcap
                            go_wp2_with (at_builtin; refine wpList_appJ _ rfl _ _ rfl (P + 1) _ ((ids its').take at') ((ids its').drop (at' + 1)) _ rfl Q1.out _ _ rfl ?n0 ?n1 ?n2 ?d0 ?d1 ?_)
                            case n0 => first | exact HDL.out | (rw [HDL.out]; omega)
                            case n2 =>
                              (try intro ad had)
                              (try cases had)
                              intro i k hk
                              have hlt9 := (List.getElem?_eq_some_iff.1 hk).1
                              simp only [List.length_drop, ids_length] at hlt9
                              omega
                            case d0 => rw [HTL.out, HDL.out]; omega
                            case d1 => omega
                            try case n1 => exact fun e => by cases e
                            intro v' w' q1 q2 q3
                            have T1 : Hid (BoxW w' (P + 1) P K rest v') := VM3.out.grow (fun e => by have := (Q1.out.lt _ e).1; omega) q2 q3
                            have T2 : Hid (OwnI w' (P + 1) v' (ids rest)) := by show OwnI _ _ _ _; rw [HIR.out]; exact q1
                            have T3 : Hid (Below w.heap.size w w') := BM3.out.grown q2 BM3.out.size (fun g hg => by have := (Q1.out.lt g hg).1; omega)
                            clear q1 q2 q3
                            go_wp2_with fail
                            go_roundw
                            case rel => exact ⟨m + 1, K, K, rest, by omega, by omega, by go_num, rfl, by omega, T1.out, T2.out, HCR.out, Int.le_refl _, by have := HLN.out; have := HLR.out; omega, T3.out, hP⟩
                            case measure => simp [intOf]; omega
                          · skip
                            go_wp2_with (at_builtin; refine wpList_appJ _ rfl _ _ rfl (P + 1) _ ((ids its').take at') ((ids its').drop (at' + 1)) _ rfl Q1.out _ _ rfl ?k0 ?k1 ?k2 ?e0 ?e1 ?_)
                            case k0 => first | exact HDL.out | (rw [HDL.out]; omega)
                            case k2 =>
                              (try intro ad had)
                              (try cases had)
                              intro i k hk
                              have h9 := OM3.out.drop (at' + 1) wg rfl i k (by first | exact hk | (rw [List.getElem?_drop]; exact hk))
                              first
                                | exact h9
                                | (rw [add_plain] at h9; exact h9)
                            case e0 => rw [HTL.out, HDL.out]; omega
                            case e1 => omega
                            try case k1 => exact fun e => by cases e
                            intro v' w' q1 q2 q3
                            have T1 : Hid (BoxW w' (P + 1) P K rest v') := VM3.out.grow (fun e => by have := (Q1.out.lt _ e).1; omega) q2 q3
                            have T2 : Hid (OwnI w' (P + 1) v' (ids rest)) := by show OwnI _ _ _ _; rw [HIR.out]; exact q1
                            have T3 : Hid (Below w.heap.size w w') := BM3.out.grown q2 BM3.out.size (fun g hg => by have := (Q1.out.lt g hg).1; omega)
                            clear q1 q2 q3
                            go_wp2_with fail
                            go_roundw
                            case rel => exact ⟨m + 1, K, K, rest, by omega, by omega, by go_num, rfl, by omega, T1.out, T2.out, HCR.out, Int.le_refl _, by have := HLN.out; have := HLR.out; omega, T3.out, hP⟩
                            case measure => simp [intOf]; omega
                    · have hwp : decide ((0 : Int) < (its'.length : Int)) = false := decide_eq_false (by omega)
                      go_wp2_with fail
                      go_roundw
                      case rel => exact ⟨m + 1, K, K, its', by omega, by omega, by go_num, rfl, by omega, HBW.out, HOW.out, HCK.out, Int.le_refl _, by have := HLN.out; omega, HBB.out, hP⟩
                      case measure => simp [intOf]; omega
                  · go_wp2_with fail
                    go_roundw
                    case rel => exact ⟨m + 1, K, K, its', by omega, by omega, by go_num, rfl, by omega, HBW.out, HOW.out, HCK.out, Int.le_refl _, by have := HLN.out; omega, HBB.out, hP⟩
                    case measure => simp [intOf]; omega
            · have hd1 : (er == 0) = false := by simpa using he
              have hd2 : (er != 0) = true := by simpa using he
              clear he
              go_wp2_with (go_at_call 12; refine (num_any _ _).mono ?_; rintro e w8 ⟨rfl, hw8⟩; subst w8)
              go_roundw
              case rel => exact ⟨m + 1, K, L, its, by omega, by omega, by go_num, rfl, by omega, HIW.out.1, HIW.out.2.1, HC0.out, by omega, by omega, HIW.out.2.2, hP⟩
              case measure => simp [intOf]; omega
      · have hl3 : decide ((m : Int) < 12) = false := by simp; omega
        obtain ⟨ba, bc, hbx, ht⟩ := boxv_open HI.out.1.toV HI.out.2.2.1
        obtain ⟨y0, -⟩ := cell_of hbx 0
        obtain ⟨y1, -⟩ := cell_of hbx 1
        simp at y0 y1
        have HNX : Hid (nextR L its 1073741824 = (0, its)) := by
          show _ = _
          have h256 := (chkB_ok HI.out.2.2.1).2.2.1
          unfold nextR
          rw [if_pos HI.out.2.2.1, if_pos (by decide), List.take_of_length_le (by show its.length ≤ 1073741824; omega)]
        have CN : Hid (Calls Try.prog 18 #[.agg #[.int .i64 L, .slice ba its.length bc], .int .i64 1073741824] wr (ListPost wr (0, its))) := by
          have := next_box L 1073741824 its ba bc wr ht (by decide)
          rwa [HNX.out] at this
        have HOW : Hid (OwnI wr (P + 1) u8 (ids its)) := HI.out.2.1
        have HTK : Hid ((∀ u ∈ its, TmOk u) ∧ its.length * 104 ≤ 140737488351232) := tm_ok HI.out.2.2.1
        have hl256 : its.length ≤ 256 := (chkB_ok HI.out.2.2.1).2.2.1
        have HBB : Hid (Below w.heap.size w wr) := HI.out.2.2.2.2.2.1
        clear hbx ht HNX HI
        obtain ⟨wa, wcap, rfl⟩ := HOW.out.shape
        rw [ids_length] at HOW
        rw [ids_length]
        go_wp2_with fail
        refine CN.out.mono ?_
        rintro e w4 ⟨v4, H4, rfl, h4⟩
        obtain ⟨a4, c4, rfl⟩ := h4.1.shape
        obtain ⟨a4', c4', e4, ht4⟩ := h4.1.tis HTK.out.2 HTK.out.1
        simp only [Value.slice.injEq] at e4
        obtain ⟨rfl, -, rfl⟩ := e4
        have HT4 : Hid (TIs w4 n a4 c4 its) := ht4
        have HO4 : Hid (OwnI w4 (P + 1) (.slice wa its.length wcap) (ids its)) := HOW.out.below h4.2.2
        have HB4 : Hid (Below w.heap.size w w4) := nxt HBB.out h4.2.2
        clear h4 ht4 CN HOW HBB y0 y1
        have hnn : ((its.length : Int) != (its.length : Int)) = false := by simp
        go_wp2_with (go_at_call 12; refine (num_any _ _).mono ?_; rintro e w8 ⟨rfl, hw8⟩; subst w8)
        go_loopw [25] (fun v25 wr => ∃ q : Nat, q ≤ its.length ∧ v25 = .int .i64 q ∧ Hid (Below w4.heap.size w4 wr)) (fun i _ => its.length - (intOf i).toNat)
        case atStart => exact ⟨0, Nat.zero_le _, rfl, Below.refl _ _⟩
        case round =>
          obtain ⟨q, hq, rfl, HB5⟩ := hrel
          by_cases hql : q < its.length
          · have hql1 : (q : Int) < (its.length : Int) := by omega
            obtain ⟨b5, o5, -, -, -, -, -, -, -, -, -, rfl, c5, -⟩ := (HT4.out.below HB5.out).at q hql
            obtain ⟨g5, rfl, d5⟩ := (HO4.out.below HB5.out).at q (by rw [ids_length]; exact hql)
            rw [ids_at hql, Nat.zero_add] at d5
            generalize its[q].1 = id5 at *
            go_wp2_with fail
            go_quiet (fail)
            go_wp2_with fail
            refine ⟨⟨q + 1, by omega, by go_num, HB5.out.trans (Below_drewN _ _ _)⟩, ?_⟩
            simp [intOf]; omega
          · go_wp2_with fail
            go_ret
            exact ⟨rfl, nxt HB4.out HB5.out⟩
    · have hlt1 : decide ((m : Int) < (ss.length : Int)) = false := decide_eq_false (by omega)
      obtain ⟨ba, bc, hbx, ht⟩ := boxv_open HI.out.1.toV HI.out.2.2.1
      obtain ⟨y0, -⟩ := cell_of hbx 0
      obtain ⟨y1, -⟩ := cell_of hbx 1
      simp at y0 y1
      have HNX : Hid (nextR L its 1073741824 = (0, its)) := by
        show _ = _
        have h256 := (chkB_ok HI.out.2.2.1).2.2.1
        unfold nextR
        rw [if_pos HI.out.2.2.1, if_pos (by decide), List.take_of_length_le (by show its.length ≤ 1073741824; omega)]
      have CN : Hid (Calls Try.prog 18 #[.agg #[.int .i64 L, .slice ba its.length bc], .int .i64 1073741824] wr (ListPost wr (0, its))) := by
        have := next_box L 1073741824 its ba bc wr ht (by decide)
        rwa [HNX.out] at this
      have HOW : Hid (OwnI wr (P + 1) u8 (ids its)) := HI.out.2.1
      have HTK : Hid ((∀ u ∈ its, TmOk u) ∧ its.length * 104 ≤ 140737488351232) := tm_ok HI.out.2.2.1
      have hl256 : its.length ≤ 256 := (chkB_ok HI.out.2.2.1).2.2.1
      have HBB : Hid (Below w.heap.size w wr) := HI.out.2.2.2.2.2.1
      clear hbx ht HNX HI
      obtain ⟨wa, wcap, rfl⟩ := HOW.out.shape
      rw [ids_length] at HOW
      rw [ids_length]
      go_wp2_with fail
      refine CN.out.mono ?_
      rintro e w4 ⟨v4, H4, rfl, h4⟩
      obtain ⟨a4, c4, rfl⟩ := h4.1.shape
      obtain ⟨a4', c4', e4, ht4⟩ := h4.1.tis HTK.out.2 HTK.out.1
      simp only [Value.slice.injEq] at e4
      obtain ⟨rfl, -, rfl⟩ := e4
      have HT4 : Hid (TIs w4 n a4 c4 its) := ht4
      have HO4 : Hid (OwnI w4 (P + 1) (.slice wa its.length wcap) (ids its)) := HOW.out.below h4.2.2
      have HB4 : Hid (Below w.heap.size w w4) := nxt HBB.out h4.2.2
      clear h4 ht4 CN HOW HBB y0 y1
      have hnn : ((its.length : Int) != (its.length : Int)) = false := by simp
      go_wp2_with (go_at_call 12; refine (num_any _ _).mono ?_; rintro e w8 ⟨rfl, hw8⟩; subst w8)
      go_loopw [25] (fun v25 wr => ∃ q : Nat, q ≤ its.length ∧ v25 = .int .i64 q ∧ Hid (Below w4.heap.size w4 wr)) (fun i _ => its.length - (intOf i).toNat)
      case atStart => exact ⟨0, Nat.zero_le _, rfl, Below.refl _ _⟩
      case round =>
        obtain ⟨q, hq, rfl, HB5⟩ := hrel
        by_cases hql : q < its.length
        · have hql1 : (q : Int) < (its.length : Int) := by omega
          obtain ⟨b5, o5, -, -, -, -, -, -, -, -, -, rfl, c5, -⟩ := (HT4.out.below HB5.out).at q hql
          obtain ⟨g5, rfl, d5⟩ := (HO4.out.below HB5.out).at q (by rw [ids_length]; exact hql)
          rw [ids_at hql, Nat.zero_add] at d5
          generalize its[q].1 = id5 at *
          go_wp2_with fail
          go_quiet (fail)
          go_wp2_with fail
          refine ⟨⟨q + 1, by omega, by go_num, HB5.out.trans (Below_drewN _ _ _)⟩, ?_⟩
          simp [intOf]; omega
        · go_wp2_with fail
          go_ret
          exact ⟨rfl, nxt HB4.out HB5.out⟩

set_option maxRecDepth 100000 in
set_option maxHeartbeats 1600000 in
theorem lifted (os : Os) (started : os.Started) (H : Type) (enc : TypeId × Value → H) :
    ReturnsInHanded {} Try.checked os 4 .any (Rows.outboxStaysSpec.pre6 enc Try.prog Try.f4 Rows.outboxStaysRow.domain false) (Rows.outboxStaysSpec.post enc Try.prog Try.f4 false true false false) := by
  refine returnsInHanded_of_change_sized (C := Try.checked) Try.own started (by kernel_rfl) Try.func4
    (ChangeSpec.witness6 (enc := enc) (C := Try.checked) false ⟨#[], #[.slice none 0 0, .slice none 0 0, .slice none 0 0], []⟩ 8 (by kernel_rfl) (by kernel_rfl) (by kernel_rfl) (by kernel_rfl)) ?_
  intro W base args ds gs before hval0 hW _ hsz0 _
  have hsz : (DataW.weightsEach Try.prog (Try.f4.params.toList ++ Rows.outboxStaysSpec.plain.varTypes Try.prog) (ds ++ gs)).all (· ≤ reachBytes) = true := hsz0
  have hval : ∀ (j : Nat) t v, Try.f4.params[j]? = some t → args[j]? = some v → Value.okWide Try.prog W .any base t v := hval0
  have hW' := hW
  obtain ⟨p, q, hA0, hV, rfl, hfz, hnd⟩ := hW
  have hA : DataW.TrodAll enc Try.prog W 0 (fun _ => true) true Try.f4.params.toList args.toList ds p := hA0
  rw [Try.params4] at hA hval hsz
  obtain ⟨v0, vs0, d0, ds0, p0, q0, hargs, rfl, rfl, h0, r0⟩ := trodAll_cons hA
  obtain ⟨v1, vs1, d1, ds1, p1, q1, rfl, rfl, rfl, h1, r1⟩ := trodAll_cons r0
  obtain ⟨v2, vs2, d2, ds2, p2, q2, rfl, rfl, rfl, h2, r2⟩ := trodAll_cons r1
  obtain ⟨rfl, rfl, rfl⟩ := trodAll_nil r2
  obtain rfl : args = #[v0, v1, v2] := by cases args; simp_all
  obtain ⟨rfl, rfl⟩ := trodVars_none hV
  clear hA0 hval0
  simp only [List.append_nil] at hW' hsz
  have hlt : ∀ x ∈ p0 ++ p1 ++ p2, x.block < W.heap.size := fun x hx => hW'.lt x (by simpa using hx)
  have hall : ∀ x ∈ DataW.weightsEach Try.prog [43, 44, 43] [d0, d1, d2], x ≤ reachBytes := fun x hx => of_decide_eq_true (List.all_eq_true.1 hsz x hx)
  have g0 : ∀ x ∈ d0.weights Try.prog 43, x ≤ reachBytes := fun x hx => hall x (DataW.weights_mem_each (j := 0) rfl rfl x hx)
  obtain ⟨u0, l0⟩ := intsA_of_arg (hval 0 _ v0 rfl rfl) h0 g0
  have g1 : ∀ x ∈ d1.weights Try.prog 44, x ≤ reachBytes := fun x hx => hall x (DataW.weights_mem_each (j := 1) rfl rfl x hx)
  obtain ⟨u1, l1⟩ := effs_of_arg (k := SizeOf.sizeOf d1) (hval 1 _ v1 rfl rfl) h1 (by omega) g1
  have g2 : ∀ x ∈ d2.weights Try.prog 43, x ≤ reachBytes := fun x hx => hall x (DataW.weights_mem_each (j := 2) rfl rfl x hx)
  obtain ⟨u2, l2⟩ := intsA_of_arg (hval 2 _ v2 rfl rfl) h2 g2
  refine (walk _ u0 v0 u1 v1 u2 v2 W l0 l1 l2).mono fun e W' ⟨he, bel⟩ => ?_
  subst he
  exact ⟨_, rfl, _, _, _, [], _, [], hW', trodAll_mk1 (shut_bool Try.underlying4 _), (trodAll_cons_mk (Below.trod Try.laidOut (by kernel_rfl) (of_decide_eq_true (by kernel_rfl)) h0 bel (fun x hx => hlt x (by simp [hx]))) (trodAll_cons_mk (Below.trod Try.laidOut (by kernel_rfl) (of_decide_eq_true (by kernel_rfl)) h1 bel (fun x hx => hlt x (by simp [hx]))) (trodAll_cons_mk (Below.trod Try.laidOut (by kernel_rfl) (of_decide_eq_true (by kernel_rfl)) h2 bel (fun x hx => hlt x (by simp [hx]))) trodAll_mk0))), rfl, bel.frame _, fun h => by cases h⟩

theorem over : Rows.outboxStaysRow.holds Try.pinned (OpenSpec.ofChange Rows.outboxStaysSpec) :=
  OpenClaim.holds_of_wide 4 Try.f4 rfl rfl rfl rfl rfl rfl rfl ⟨rfl, rfl, rfl, rfl, rfl⟩ rfl rfl rfl rfl rfl (by kernel_rfl) Try.func4 (by kernel_rfl)
    (of_decide_eq_true (by kernel_rfl)) (by unfold Func.isWrapper; first | (rw [if_pos (by decide +kernel)]; kernel_rfl) | (rw [if_neg (by decide +kernel)]; exact ⟨rfl, rfl⟩))
    (fun os started H enc _ => lifted os started H enc)

/-- THE STATEMENT. -/
theorem proved : Rows.OutboxStaysSaid := over
#print axioms proved
end Go.Proofs.Ytchohjbiiaddmaa.outboxStays
