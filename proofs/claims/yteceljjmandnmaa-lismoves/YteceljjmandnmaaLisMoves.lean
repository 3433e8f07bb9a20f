/-
  LisMoves holds for all three numbers: a rising list of which one number is put elsewhere has at most one place that moves, and none just where it was put back. No condition.
-/
import Derived.Test.YteceljjmandnmaaLiLaw
namespace Go.Proofs.Yteceljjmandnmaa.lisMoves
open Go.ChangeShapes Go.WideShapes Go.ChangeAt Go.RowKit Go.Deep
open Li

/-- The numbers from 0 on without F. -/
def without (F m : Nat) : List Int := (List.range m).map fun j => ((if j < F then j else j + 1 : Nat) : Int)

theorem without_length (F m : Nat) : (without F m).length = m := by simp [without]
theorem without_at {F m j : Nat} (h : j < m) : (without F m)[j]? = some ((if j < F then j else j + 1 : Nat) : Int) := by simp [without, h]
theorem without_succ (F m : Nat) : without F (m + 1) = without F m ++ [((if m < F then m else m + 1 : Nat) : Int)] := by simp [without, List.range_succ]

theorem without_rises (F m : Nat) : Rises (without F m) := by
  rw [Rises, List.pairwise_iff_getElem]
  intro i j hi hj hij
  simp only [without, List.getElem_map, List.getElem_range]
  split <;> split <;> omega

/-- One number put at T. -/
def put (F T m : Nat) : List Int := (without F m).take T ++ (F : Int) :: (without F m).drop T

theorem put_length {F T m : Nat} (h : T ≤ m) : (put F T m).length = m + 1 := by simp [put, without_length]; omega

theorem put_i64 {F T m : Nat} (hF : F ≤ 100) (hm : m ≤ 100) : I64 (put F T m) := by
  intro x hx
  have hw : ∀ y ∈ without F m, 0 ≤ y ∧ y ≤ 200 := by
    intro y hy
    simp only [without, List.mem_map, List.mem_range] at hy
    obtain ⟨j, hj, rfl⟩ := hy
    split <;> omega
  rcases List.mem_append.1 hx with h | h
  · have := hw x (List.mem_of_mem_take h)
    omega
  · rcases List.mem_cons.1 h with rfl | h
    · omega
    · have := hw x (List.mem_of_mem_drop h)
      omega

theorem put_len (F T m : Nat) : m ≤ len (put F T m) := by
  have hs : (without F m).Sublist (put F T m) := by
    have h1 : ((without F m).take T ++ (without F m).drop T).Sublist (put F T m) := (List.Sublist.refl _).append (List.sublist_cons_self _ _)
    rwa [List.take_append_drop] at h1
  have := rise_le _ _ hs (without_rises F m)
  rwa [without_length] at this

theorem put_same (F m : Nat) : Rises (put F F m) := by
  have hr := without_rises F m
  have h1 : Rises ((without F m).take F) := hr.sublist (List.take_sublist _ _)
  have h2 : Rises ((without F m).drop F) := hr.sublist (List.drop_sublist _ _)
  have b1 : ∀ x ∈ (without F m).take F, x < (F : Int) := by
    intro x hx
    obtain ⟨j, hj, rfl⟩ := List.getElem_of_mem hx
    simp only [List.length_take, without_length] at hj
    simp only [List.getElem_take, without, List.getElem_map, List.getElem_range]
    rw [if_pos (by omega)]
    omega
  have b2 : ∀ x ∈ (without F m).drop F, (F : Int) < x := by
    intro x hx
    obtain ⟨j, hj, rfl⟩ := List.getElem_of_mem hx
    simp only [List.length_drop, without_length] at hj
    simp only [List.getElem_drop, without, List.getElem_map, List.getElem_range]
    rw [if_neg (by omega)]
    omega
  refine List.pairwise_append.2 ⟨h1, List.pairwise_cons.2 ⟨b2, h2⟩, fun x hx y hy => ?_⟩
  rcases List.mem_cons.1 hy with rfl | hy
  · exact b1 x hx
  · have := b1 x hx
    have := b2 y hy
    omega

theorem put_other {F T m : Nat} (hF : F ≤ m) (hT : T ≤ m) (h : ¬ F = T) : ¬ Rises (put F T m) := by
  intro hr
  rw [Rises, List.pairwise_iff_getElem] at hr
  have hl := put_length (F := F) hT
  have eT : (put F T m)[T]? = some (F : Int) := by
    unfold put
    rw [List.getElem?_append_right (by simp; omega)]
    simp [without_length, Nat.min_eq_left hT]
  rcases Nat.lt_or_ge T F with h1 | h1
  · have e2 : (put F T m)[T + 1]? = some (T : Int) := by
      unfold put
      rw [List.getElem?_append_right (by simp; omega)]
      have e : T + 1 - ((without F m).take T).length = 1 := by simp [without_length]; omega
      rw [e, List.getElem?_cons_succ, List.getElem?_drop, Nat.add_zero, without_at (by omega), if_pos h1]
    have := hr T (T + 1) (by omega) (by omega) (by omega)
    rw [List.getElem?_eq_getElem (by omega)] at eT e2
    simp only [Option.some.injEq] at eT e2
    omega
  · have e2 : (put F T m)[T - 1]? = some (T : Int) := by
      unfold put
      rw [List.getElem?_append_left (by simp [without_length]; omega), List.getElem?_take, if_pos (by omega), without_at (by omega), if_neg (by omega)]
      have : T - 1 + 1 = T := by omega
      rw [this]
    have := hr (T - 1) T (by omega) (by omega) (by omega)
    rw [List.getElem?_eq_getElem (by omega)] at eT e2
    simp only [Option.some.injEq] at eT e2
    omega

/-- How many places move. -/
theorem put_moves {F T m : Nat} (hF : F ≤ m) (hT : T ≤ m) : (mov (put F T m)).length ≤ 1 ∧ ((mov (put F T m)).length = 0 ↔ F = T) := by
  have h1 := put_len F T m
  have h2 := mov_length (put F T m)
  have h3 := put_length (F := F) hT
  have h4 := heads_le_len (put F T m)
  refine ⟨by omega, fun h => ?_, fun h => ?_⟩
  · rcases Nat.decEq F T with hn | hn
    · exfalso
      have hp := pk_rises (put F T m)
      have e := (pk_sub (put F T m) (len (put F T m))).eq_of_length (by rw [hp.2]; omega)
      rw [e] at hp
      exact put_other hF hT hn hp.1
    · exact hn
  · subst h
    rw [(mov_rises (put_same F m)).1]
    rfl

theorem tmod_pos (v q : Int) (hq : 0 < q) : -q < v.tmod q ∧ v.tmod q < q ∧ ∃ r : Nat, (r : Int) < q ∧ (v.tmod q + q).tmod q = r := by
  have h1 := Int.lt_tmod_of_pos v hq
  have h2 := Int.tmod_lt_of_pos v hq
  have h3 := Int.tmod_lt_of_pos (v.tmod q + q) hq
  have h4 := Int.tmod_nonneg q (show 0 ≤ v.tmod q + q by omega)
  exact ⟨h1, h2, ((v.tmod q + q).tmod q).toNat, by omega, by omega⟩

theorem placed (v q : Int) (hq : 0 < q) (hq2 : q ≤ 1000000) : ∃ r : Nat, (r : Int) < q ∧ (wrap64 (v.tmod q + q)).tmod q = r := by
  obtain ⟨r1, r2, r, r3, r4⟩ := tmod_pos v q hq
  have e : wrap64 (v.tmod q + q) = v.tmod q + q := by
    generalize v.tmod q = t at r1 r2 ⊢
    clear r4
    exact IntWalk.wrap64_in _ (by omega)
  rw [e, r4]
  exact ⟨r, r3, rfl⟩

theorem none_of_own {w : World} {base : Nat} {e : TypeId} {size : Nat} {ia : Option Addr} {l c n : Nat} {xs : List Value} (h : w.ownsRow base e size (.slice ia l c) n xs) (hn : ia = none) : l = 0 ∧ c = 0 := by
  obtain ⟨_, h2⟩ := h
  rcases h2 with ⟨hv, h3⟩ | ⟨g, cap, cur, hv, _⟩
  · simp only [Value.slice.injEq] at hv
    omega
  · simp only [Value.slice.injEq] at hv
    rw [hn] at hv
    cases hv.1

set_option maxRecDepth 100000 in
set_option maxHeartbeats 6400000 in
theorem walk (x y z : Int) (w : World) (hx : (Lit.int .i64 x).wf = true) (hy : (Lit.int .i64 y).wf = true) (hz : (Lit.int .i64 z).wf = true) :
    Calls Try.prog 8 #[.int .i64 x, .int .i64 y, .int .i64 z] w fun e w' => e = .returned (.bool true) ∧ Below w.heap.size w w' := by
  have bx := bounds_i64 hx
  have by_ := bounds_i64 hy
  have bz := bounds_i64 hz
  clear hx hy hz
  obtain ⟨r, hr, hre⟩ := placed x 60 (by decide) (by decide)
  have HRE : Hid ((wrap64 (x.tmod 60 + 60)).tmod 60 = (r : Int)) := hre
  clear hre
  go_enter Try.func8, Try.ntmps8
  go_wp2_with fail
  refine (alive_any _).mono ?_
  rintro e w1 ⟨rfl, hb1⟩
  have B1 : Hid (Below w.heap.size w w1) := hb1
  clear hb1
  go_wp2_with fail
  have hw1 : wrap64 (1 + (r : Int)) = ((r + 1 : Nat) : Int) := by rw [IntWalk.wrap64_in _ (by omega)]; omega
  rw [HRE.out, hw1]
  clear HRE hw1
  generalize wrap64 (x.tmod 60 + 60) = x1
  generalize x.tmod 60 = x2
  obtain ⟨N, hN⟩ : ∃ N, r + 1 = N := ⟨_, rfl⟩
  rw [hN]
  obtain ⟨F, hF, hFe⟩ := placed y (N : Int) (by omega) (by omega)
  obtain ⟨T, hT, hTe⟩ := placed z (N : Int) (by omega) (by omega)
  have HFE : Hid ((wrap64 (y.tmod (N : Int) + (N : Int))).tmod (N : Int) = (F : Int)) := hFe
  have HTE : Hid ((wrap64 (z.tmod (N : Int) + (N : Int))).tmod (N : Int) = (T : Int)) := hTe
  clear hFe hTe bx
  have hN0 : ¬ (N : Int) = 0 := by omega
  go_quiet (fail)
  go_wp2_with fail
  rw [HFE.out, HTE.out]
  clear HFE HTE by_ bz
  generalize wrap64 (y.tmod (N : Int) + (N : Int)) = y1
  generalize y.tmod (N : Int) = y2
  generalize wrap64 (z.tmod (N : Int) + (N : Int)) = z1
  generalize z.tmod (N : Int) = z2
  have hFr : F < N := by omega
  have hTr : T < N := by omega
  have hN60 : N ≤ 60 := by omega
  clear hF hT hN0 hN hr
  have BD : Hid (Below w.heap.size w (w1.drewN nq)) := nxt B1.out (Below_drewN _ _ _)
  clear B1
  generalize w1.drewN nq = W0 at *
  go_loopw [7, 8] (fun v7 v8 wr => ∃ i m : Nat, i ≤ N ∧ v8 = .int .i64 (i : Int) ∧ ((i ≤ F ∧ m = i) ∨ (F < i ∧ m + 1 = i)) ∧ Hid (OwnI wr W0.heap.size v7 (without F m)) ∧ Hid (Below W0.heap.size W0 wr)) (fun _ v8 _ => N - (intOf v8).toNat)
  case atStart => exact ⟨0, 0, Nat.zero_le _, rfl, Or.inl ⟨Nat.zero_le _, rfl⟩, OwnI.nil _ _, Below.refl _ _⟩
  case round =>
    obtain ⟨i, m, hi, rfl, hm, HO, HB⟩ := hrel
    by_cases hlt : i < N
    · by_cases he : i = F
      · subst he
        have hmi : m = i := by omega
        subst hmi
        clear hm
        go_wp2_with fail
        go_roundw
        case rel => exact ⟨m + 1, m, by omega, by go_num, Or.inr ⟨by omega, rfl⟩, HO.out, HB.out⟩
        case measure => simp [intOf]; omega
      · have hq : ((i : Int) != (F : Int)) = true := by simp; omega
        obtain ⟨la, lc, hlv⟩ := HO.out.shape
        rw [without_length] at hlv
        subst hlv
        have HE : Hid (without F (m + 1) = without F m ++ [(i : Int)]) := by
          show _ = _
          rw [without_succ]
          congr 3
          split <;> omega
        have HOX : Hid (OwnI (wr.alloc (.cells #[.int .i64 (i : Int)] 3)) W0.heap.size (.slice la m lc) (without F m)) := HO.out.below (below_one _ _)
        have HBX : Hid (Below W0.heap.size W0 (wr.alloc (.cells #[.int .i64 (i : Int)] 3))) := nxt HB.out (below_one _ _)
        have HNW : Hid ((wr.alloc (.cells #[.int .i64 (i : Int)] 3)).cell? ((⟨wr.heap.size, 0, none⟩ : Addr).add 0) = some (.int .i64 (i : Int))) := newCells wr _ _ 0 _ rfl
        have HSZ : Hid (((without F m).length + 1) * 8 ≤ 140737488355328 ∧ W0.heap.size ≤ (wr.alloc (.cells #[.int .i64 (i : Int)] 3)).heap.size) := ⟨by rw [without_length]; omega, HBX.out.size⟩
        have HM : Hid ((i + 1 ≤ F ∧ m + 1 = i + 1) ∨ (F < i + 1 ∧ m + 1 + 1 = i + 1)) := by show _ ∨ _; omega
        clear HO HB hm he
        go_wp2_with (refine wpList_pushI _ rfl (.tmp 41) (.tmp 43) rfl W0.heap.size _ (without F m) rfl HOX.out (i : Int) ⟨wr.heap.size, 0, none⟩ 1 rfl HNW.out HSZ.out.1 HSZ.out.2 ?_; intro v' w' q1 q2 q3; have OO : Hid (OwnI w' W0.heap.size v' (without F m ++ [(i : Int)])) := q1; have BB : Hid (Below W0.heap.size W0 w') := HBX.out.trans (grown_below HOX.out q2 HSZ.out.2); clear q1 q2 q3)
        go_roundw
        case rel => exact ⟨i + 1, m + 1, by omega, by go_num, HM.out, by rw [HE.out]; exact OO.out, BB.out⟩
        case measure => simp [intOf]; omega
    · have hmr : m + 1 = N := by omega
      have hir : i = N := by omega
      have hFm : F ≤ m := by omega
      have hTm : T ≤ m := by omega
      clear hm hlt
      obtain ⟨la, lc, hlv⟩ := HO.out.shape
      rw [without_length] at hlv
      subst hlv
      have hlc := (cap_of_own HO.out).1
      have hlc2 := (cap_of_own HO.out).2
      obtain ⟨W4, hW4⟩ : ∃ W, W = wr := ⟨_, rfl⟩
      subst hW4
      have HC1 : Hid (∀ ad, la = some ad → ∀ i k, ((without F m).take T)[i]? = some k → W4.cell? (ad.add i) = some (.int .i64 k)) := HO.out.take T
      have HN1 : Hid (la = none → ((without F m).take T).length = 0 ∧ lc = 0) := by
        intro e
        have := none_of_own HO.out e
        simp [without_length]
        omega
      have HL1 : Hid (((without F m).take T).length = T) := by show _ = _; simp [without_length]; omega
      have HS1 : Hid ((([] : List Int).length + ((without F m).take T).length) * 8 ≤ 140737488355328) := by show _ ≤ _; have := HL1.out; simp only [List.length_nil]; omega
      have HS2 : Hid (((without F m).take T).length + 1 ≤ 1000) := by show _ ≤ _; have := HL1.out; omega
      have HL3 : Hid (((without F m).drop T).length = m - T) := by show _ = _; simp [without_length]
      have HS3 : Hid ((((without F m).take T ++ [(F : Int)]).length + ((without F m).drop T).length) * 8 ≤ 140737488355328) := by show _ ≤ _; have h1 := HL1.out; have h3 := HL3.out; simp only [List.length_append, List.length_cons, List.length_nil]; omega
      have HPUT : Hid (((without F m).take T ++ [(F : Int)]) ++ (without F m).drop T = put F T m) := by show _ = _; simp [put]
      have HPL : Hid ((put F T m).length = m + 1) := put_length hTm
      have HPI : Hid (I64 (put F T m)) := put_i64 (by omega) (by omega)
      have HPM : Hid ((mov (put F T m)).length ≤ 1 ∧ ((mov (put F T m)).length = 0 ↔ F = T)) := put_moves hFm hTm
      have BE : Hid (Below w.heap.size w W4) := BD.out.trans (HB.out.mono BD.out.size)
      have HOW : Hid (∀ w6, Below W4.heap.size W4 w6 → OwnI w6 W0.heap.size (.slice la m lc) (without F m)) := fun w6 hb => HO.out.below hb
      by_cases hcT : lc = T
      · have hmT : m = T := by omega
        have HD3 : Hid ((without F m).drop T = []) := List.drop_eq_nil_of_le (by rw [without_length]; omega)
        subst hcT
        subst hmT
        clear HO HB BD
        go_wp2_with (first
        | (refine wpList_appI _ rfl (.tmp 45) (.tmp 48) rfl W4.heap.size _ [] ((without F m).take m) rfl (OwnI.nil _ _) la m (by rw [HL1.out]; rfl) HN1.out HC1.out HS1.out (Nat.le_refl _) ?_; intro v5 w5 q1 q2 q3; have O5 : Hid (OwnI w5 W4.heap.size v5 ((without F m).take m)) := q1; have B5 : Hid (Below W4.heap.size W4 w5) := grown_below (OwnI.nil _ _) q2 (Nat.le_refl _); clear q1 q2 q3; have OX : Hid (OwnI (w5.alloc (.cells #[.int .i64 (F : Int)] 3)) W4.heap.size v5 ((without F m).take m)) := O5.out.below (below_one _ _); have BX : Hid (Below W4.heap.size W4 (w5.alloc (.cells #[.int .i64 (F : Int)] 3))) := B5.out.trans ((below_one _ _).mono B5.out.size))
        | (refine wpList_pushI _ rfl (.tmp 50) (.tmp 52) rfl W4.heap.size _ ((without F m).take m) rfl OX.out (F : Int) ⟨w5.heap.size, 0, none⟩ 1 rfl (newCells w5 _ _ 0 _ rfl) (by have := HS2.out; omega) BX.out.size ?_; intro v6 w6 q1 q2 q3; have O6 : Hid (OwnI w6 W4.heap.size v6 ((without F m).take m ++ [(F : Int)])) := q1; have B6 : Hid (Below W4.heap.size W4 w6) := BX.out.trans (grown_below OX.out q2 BX.out.size); clear q1 q2 q3)
        | (refine wpList_appI _ rfl (.tmp 54) (.tmp 57) rfl W4.heap.size _ ((without F m).take m ++ [(F : Int)]) ((without F m).drop m) rfl O6.out la _ (by rw [HD3.out]; rfl) (fun e => ⟨by rw [HD3.out]; rfl, by first | rfl | omega⟩) (fun ad e i k hk => by rw [HD3.out] at hk; cases hk) HS3.out B6.out.size ?_; intro v7 w7 q1 q2 q3; have O7 : Hid (OwnI w7 W4.heap.size v7 (((without F m).take m ++ [(F : Int)]) ++ (without F m).drop m)) := q1; have B7 : Hid (Below W4.heap.size W4 w7) := B6.out.trans ((grown_below O6.out q2 B6.out.size)); clear q1 q2 q3))
        rw [HPUT.out] at O7
        obtain ⟨va, vc, hvs⟩ := O7.out.shape
        subst hvs
        clear O5 O6 OX BX HC1 HN1 HL1 HS1 HS2 HS3 HL3 B5 B6
        refine (moves_n (put F m m) (put F m m).length rfl (by have := HPL.out; omega) va vc w7 (O7.out.nm HPI.out (by have := HPL.out; omega))).mono ?_
        rintro e w8 ⟨v8, rfl, ho8, hb8⟩
        have B8 : Hid (Below w.heap.size w w8) := BE.out.trans ((B7.out.trans (hb8.mono B7.out.size)).mono BE.out.size)
        obtain ⟨ua, uc, hus⟩ := ho8.shape
        subst hus
        rw [ints_length]
        clear ho8 hb8 B7 O7
        generalize (mov (put F m m)).length = q at *
        obtain ⟨hq1, hq2⟩ := HPM.out
        by_cases hFT : F = m
        · have hq0 : q = 0 := hq2.2 hFT
          subst hq0 hFT
          clear hq1 hq2 HPM
          go_wp2_with (go_at_call 17; refine (num_any _ _).mono ?_; rintro e w9 ⟨rfl, h9⟩; subst w9)
          go_ret
          exact ⟨rfl, B8.out⟩
        · have hq0 : q = 1 := by
            have : ¬ q = 0 := fun h => hFT (hq2.1 h)
            omega
          subst hq0
          have hqq : ((F : Int) == (m : Int)) = false := by simp; omega
          clear hq1 hq2 HPM
          go_wp2_with (go_at_call 17; refine (num_any _ _).mono ?_; rintro e w9 ⟨rfl, h9⟩; subst w9)
          go_ret
          exact ⟨rfl, B8.out⟩
      · obtain ⟨g, hg⟩ : ∃ g, la = some ⟨g, 0, none⟩ := by
          obtain ⟨h1, h2⟩ := HO.out
          rcases h2 with ⟨hv, h3⟩ | ⟨g, cap, cur, hv, _⟩
          · simp only [Value.slice.injEq] at hv
            omega
          · simp only [Value.slice.injEq] at hv
            exact ⟨g, hv.1⟩
        subst hg
        have HC3 : Hid (∀ w6, Below W4.heap.size W4 w6 → ∀ ad, some (⟨g, T, none⟩ : Addr) = some ad → ∀ i k, ((without F m).drop T)[i]? = some k → w6.cell? (ad.add i) = some (.int .i64 k)) := by
          intro w6 hb ad e i k hk
          cases e
          exact (HOW.out w6 hb).drop T g rfl i k hk
        clear HO HB BD
        go_wp2_with (first
        | (refine wpList_appI _ rfl (.tmp 45) (.tmp 48) rfl W4.heap.size _ [] ((without F m).take T) rfl (OwnI.nil _ _) (some ⟨g, 0, none⟩) lc (by rw [HL1.out]; rfl) HN1.out HC1.out HS1.out (Nat.le_refl _) ?_; intro v5 w5 q1 q2 q3; have O5 : Hid (OwnI w5 W4.heap.size v5 ((without F m).take T)) := q1; have B5 : Hid (Below W4.heap.size W4 w5) := grown_below (OwnI.nil _ _) q2 (Nat.le_refl _); clear q1 q2 q3; have OX : Hid (OwnI (w5.alloc (.cells #[.int .i64 (F : Int)] 3)) W4.heap.size v5 ((without F m).take T)) := O5.out.below (below_one _ _); have BX : Hid (Below W4.heap.size W4 (w5.alloc (.cells #[.int .i64 (F : Int)] 3))) := B5.out.trans ((below_one _ _).mono B5.out.size))
        | (refine wpList_pushI _ rfl (.tmp 50) (.tmp 52) rfl W4.heap.size _ ((without F m).take T) rfl OX.out (F : Int) ⟨w5.heap.size, 0, none⟩ 1 rfl (newCells w5 _ _ 0 _ rfl) (by have := HS2.out; omega) BX.out.size ?_; intro v6 w6 q1 q2 q3; have O6 : Hid (OwnI w6 W4.heap.size v6 ((without F m).take T ++ [(F : Int)])) := q1; have B6 : Hid (Below W4.heap.size W4 w6) := BX.out.trans (grown_below OX.out q2 BX.out.size); clear q1 q2 q3)
        | (refine wpList_appI _ rfl (.tmp 54) (.tmp 57) rfl W4.heap.size _ ((without F m).take T ++ [(F : Int)]) ((without F m).drop T) rfl O6.out (some ⟨g, T, none⟩) _ (by rw [HL3.out]; rfl) (fun e => by cases e) (HC3.out _ B6.out) HS3.out B6.out.size ?_; intro v7 w7 q1 q2 q3; have O7 : Hid (OwnI w7 W4.heap.size v7 (((without F m).take T ++ [(F : Int)]) ++ (without F m).drop T)) := q1; have B7 : Hid (Below W4.heap.size W4 w7) := B6.out.trans ((grown_below O6.out q2 B6.out.size)); clear q1 q2 q3))
        rw [HPUT.out] at O7
        obtain ⟨va, vc, hvs⟩ := O7.out.shape
        subst hvs
        clear O5 O6 OX BX HC1 HN1 HL1 HS1 HS2 HS3 HL3 B5 B6
        refine (moves_n (put F T m) (put F T m).length rfl (by have := HPL.out; omega) va vc w7 (O7.out.nm HPI.out (by have := HPL.out; omega))).mono ?_
        rintro e w8 ⟨v8, rfl, ho8, hb8⟩
        have B8 : Hid (Below w.heap.size w w8) := BE.out.trans ((B7.out.trans (hb8.mono B7.out.size)).mono BE.out.size)
        obtain ⟨ua, uc, hus⟩ := ho8.shape
        subst hus
        rw [ints_length]
        clear ho8 hb8 B7 O7
        generalize (mov (put F T m)).length = q at *
        obtain ⟨hq1, hq2⟩ := HPM.out
        by_cases hFT : F = T
        · have hq0 : q = 0 := hq2.2 hFT
          subst hq0 hFT
          clear hq1 hq2 HPM
          go_wp2_with (go_at_call 17; refine (num_any _ _).mono ?_; rintro e w9 ⟨rfl, h9⟩; subst w9)
          go_ret
          exact ⟨rfl, B8.out⟩
        · have hq0 : q = 1 := by
            have : ¬ q = 0 := fun h => hFT (hq2.1 h)
            omega
          subst hq0
          have hqq : ((F : Int) == (T : Int)) = false := by simp; omega
          clear hq1 hq2 HPM
          go_wp2_with (go_at_call 17; refine (num_any _ _).mono ?_; rintro e w9 ⟨rfl, h9⟩; subst w9)
          go_ret
          exact ⟨rfl, B8.out⟩

set_option maxRecDepth 100000 in
set_option maxHeartbeats 1600000 in
theorem lifted (os : Os) (started : os.Started) (H : Type) (enc : TypeId × Value → H) :
    ReturnsInHanded {} Try.checked os 8 .any (Rows.lisMovesSpec.pre6 enc Try.prog Try.f8 Rows.lisMovesRow.domain false) (Rows.lisMovesSpec.post enc Try.prog Try.f8 false true false false) := by
  refine returnsInHanded_of_change_sized (C := Try.checked) Try.own started (by kernel_rfl) Try.func8
    (ChangeSpec.witness6 (enc := enc) (C := Try.checked) false ⟨#[], #[.int .i64 0, .int .i64 0, .int .i64 0], []⟩ 8 (by kernel_rfl) (by kernel_rfl) (by kernel_rfl) (by kernel_rfl)) ?_
  intro W base args ds gs before hval0 hW _ hsz0 _
  have hsz : (DataW.weightsEach Try.prog (Try.f8.params.toList ++ Rows.lisMovesSpec.plain.varTypes Try.prog) (ds ++ gs)).all (· ≤ reachBytes) = true := hsz0
  have hval : ∀ (j : Nat) t v, Try.f8.params[j]? = some t → args[j]? = some v → Value.okWide Try.prog W .any base t v := hval0
  have hW' := hW
  obtain ⟨p, q, hA0, hV, rfl, hfz, hnd⟩ := hW
  have hA : DataW.TrodAll enc Try.prog W 0 (fun _ => true) true Try.f8.params.toList args.toList ds p := hA0
  rw [Try.params8] at hA hval hsz
  obtain ⟨v0, vs0, d0, ds0, p0, q0, hargs, rfl, rfl, h0, r0⟩ := trodAll_cons hA
  obtain ⟨v1, vs1, d1, ds1, p1, q1, rfl, rfl, rfl, h1, r1⟩ := trodAll_cons r0
  obtain ⟨v2, vs2, d2, ds2, p2, q2, rfl, rfl, rfl, h2, r2⟩ := trodAll_cons r1
  obtain ⟨rfl, rfl, rfl⟩ := trodAll_nil r2
  obtain rfl : args = #[v0, v1, v2] := by cases args; simp_all
  obtain ⟨rfl, rfl⟩ := trodVars_none hV
  clear hA0 hval0
  simp only [List.append_nil] at hW' hsz
  have hlt : ∀ x ∈ p0 ++ p1 ++ p2, x.block < W.heap.size := fun x hx => hW'.lt x (by simpa using hx)
  have hall : ∀ x ∈ DataW.weightsEach Try.prog [3, 3, 3] [d0, d1, d2], x ≤ reachBytes := fun x hx => of_decide_eq_true (List.all_eq_true.1 hsz x hx)
  obtain ⟨a0, rfl, rfl, rfl, w0⟩ := open_int Try.underlying3 (hval 0 3 v0 rfl rfl) h0
  obtain ⟨a1, rfl, rfl, rfl, w1⟩ := open_int Try.underlying3 (hval 1 3 v1 rfl rfl) h1
  obtain ⟨a2, rfl, rfl, rfl, w2⟩ := open_int Try.underlying3 (hval 2 3 v2 rfl rfl) h2
  refine (walk a0 a1 a2 W w0 w1 w2).mono fun e W' ⟨he, bel⟩ => ?_
  subst he
  exact ⟨_, rfl, _, _, _, [], _, [], hW', trodAll_mk1 (shut_bool Try.underlying4 _), (trodAll_cons_mk (shut_int Try.underlying3 w0) (trodAll_cons_mk (shut_int Try.underlying3 w1) (trodAll_cons_mk (shut_int Try.underlying3 w2) trodAll_mk0))), rfl, bel.frame _, fun h => by cases h⟩

theorem over : Rows.lisMovesRow.holds Try.pinned (OpenSpec.ofChange Rows.lisMovesSpec) :=
  OpenClaim.holds_of_wide 8 Try.f8 rfl rfl rfl rfl rfl rfl rfl ⟨rfl, rfl, rfl, rfl, rfl⟩ rfl rfl rfl rfl rfl (by kernel_rfl) Try.func8 (by kernel_rfl)
    (of_decide_eq_true (by kernel_rfl)) (by unfold Func.isWrapper; first | (rw [if_pos (by decide +kernel)]; kernel_rfl) | (rw [if_neg (by decide +kernel)]; exact ⟨rfl, rfl⟩))
    (fun os started H enc _ => lifted os started H enc)

/-- THE STATEMENT. -/
theorem proved : Rows.LisMovesSaid := over
#print axioms proved
end Go.Proofs.Yteceljjmandnmaa.lisMoves
