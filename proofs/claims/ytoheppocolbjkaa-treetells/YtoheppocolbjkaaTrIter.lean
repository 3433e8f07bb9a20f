/-
  The function that hands a tree's texts out.
-/
import Derived.Test.YtoheppocolbjkaaTrRange
namespace Go.Proofs.Ytoheppocolbjkaa
open Go.ChangeShapes Go.WideShapes Go.ChangeAt Go.RowKit Go.Deep

attribute [local go_sem] Oper.semAt_some

theorem texts_fn (g k t : ByteArray) (aa : Option Addr) (al ac : Nat) (ia : Option Addr) (il ic : Nat) (w : World) :
    Calls Try.prog 31 #[mkT g k t aa al ac ia il ic] w fun e w' => e = .returned (.func (.func 44) #[] #[.pointer (some ⟨w.heap.size, 0, none⟩)]) ∧ w' = w.alloc (.cells #[.string g, .string k, .string t, .slice aa al ac, .slice ia il ic] 25) := by
  go_enter Try.func31, Try.ntmps31
  go_wp2_with fail
  go_ret
  exact ⟨rfl, rfl⟩

set_option maxRecDepth 100000 in
set_option maxHeartbeats 1600000 in
theorem texts_iter (w0 : World) (n : Nat) : ∀ v : T n, TxtIter w0 n v := by
  induction n with
  | zero => intro v; exact v.elim
  | succ n ih =>
    rintro ⟨g', k', t', ats, its⟩ g k t aa al ac ia il ic L D l Inv W Pt hlay hp hD stI hI0 hY h0 hlen
    obtain ⟨aa', ac', ia', ic', hx, hfit, -, hin, -, hI⟩ := hlay
    simp only [mkT, Value.agg.injEq, Array.mk.injEq, List.cons.injEq, and_true, Value.string.injEq, Value.slice.injEq] at hx
    obtain ⟨rfl, rfl, rfl, ⟨rfl, rfl, rfl⟩, rfl, rfl, rfl⟩ := hx
    have HFT : Hid (FitT g k t ats.length ac its.length ic) := hfit
    have hicc := hfit.2.2.2.2.2.2.1
    have hic := hfit.2.2.2.2.2.2.2.1
    have HLI : Hid (LayI w0 (LayT w0 n) ia its) := hI
    have HST : Hid (∀ l W W', Inv l W → Stay D W W' → Inv l W') := stI
    have HI0 : Hid (∀ l W, Inv l W → Below w0.heap.size w0 W) := hI0
    have HYY : Hid (∀ l s W, Inv l W → D ≤ W.heap.size → l.length + s.size ≤ 1000000000 → ∀ d, YieldAt Fence.wide d Try.prog L #[.string s] W fun e W' => e = .returned (.bool true) ∧ Inv (l ++ s.toList) W' ∧ Kp W W' ∧ W.heap.size ≤ W'.heap.size) := hY
    have H0 : Hid (Inv l W) := h0
    have HP : Hid (W.heap[Pt]? = some (.cells #[.string g, .string k, .string t, .slice aa ats.length ac, .slice ia its.length ic] 25 (0, 0))) := hp
    have HDD : Hid (D ≤ W.heap.size) := hD
    have HLEN : Hid (l.length + (txt (n := n + 1) (g, k, t, ats, its)).length ≤ 1000000000) := hlen
    have IH : Hid (∀ v : T n, TxtIter w0 n v) := ih
    have HE : Hid (txt (n := n + 1) (g, k, t, ats, its) = if g.size = 0 then t.toList else cat txt its) := txt_node g k t ats its
    clear hfit hI stI hI0 hY h0 hp hD hlen ih hin
    generalize txt (n := n + 1) (g, k, t, ats, its) = R at *
    have HB1 : Hid (Below W.heap.size W (W.alloc (.cells #[.func (.yield L) #[] #[]] 43))) := below_one _ _
    have HY1 : Hid ((W.alloc (.cells #[.func (.yield L) #[] #[]] 43)).heap[W.heap.size]? = some (.cells #[.func (.yield L) #[] #[]] 43 (0, 0))) := heap_alloc_new _ _
    refine (callsIn_wide (n := 9)).1 (callsIn_of_wp_marks Try.func44 rfl trivial ?_ rfl)
    simp only [Try.ntmps44, List.size_toArray, List.length_cons, List.length_nil, Nat.reduceAdd, Nat.reduceSub, Array.replicate_succ, Array.replicate_zero, List.push_toArray, List.append_toArray, List.nil_append, List.cons_append]
    obtain ⟨x0, x1, x2, x3, x4, -⟩ := box_cells ((HB1.out.block _ (lt_of_block HP.out)).trans HP.out)
    gi_wp2
    refine ⟨trivial, (callsIn_wide.2 (istext_any g k t _ _ _)).mono ?_⟩
    rintro e w2 ⟨rfl, hb2⟩
    have HB2 : Hid (Below W.heap.size W w2) := nxt HB1.out hb2
    have HY2 : Hid (w2.heap[W.heap.size]? = some (.cells #[.func (.yield L) #[] #[]] 43 (0, 0))) := (hb2.block _ (lt_of_block HY1.out)).trans HY1.out
    clear x0 x1 x2 x3 x4 hb2 HY1 HB1
    have HI2 : Hid (Inv l w2) := HST.out _ _ _ H0.out (Stay.of_below HB2.out HDD.out)
    have HD2 : Hid (D ≤ w2.heap.size) := Nat.le_trans HDD.out HB2.out.size
    obtain ⟨x0, x1, x2, x3, x4, -⟩ := box_cells ((HB2.out.block _ (lt_of_block HP.out)).trans HP.out)
    obtain ⟨y0, -⟩ := cell_of HY2.out 0
    simp at y0
    by_cases hg : g.size = 0
    · rw [empty_true hg]
      have E : Hid (R = t.toList) := by show _ = _; rw [HE.out, if_pos hg]
      obtain ⟨fn, tmps, assign, body, hy, hR⟩ := HYY.out l t w2 HI2.out HD2.out (by have := HLEN.out; rw [E.out, toList_len] at this; exact this) 8
      have HR : Hid (RoundIn Fence.wide 8 Try.prog L fn tmps assign body w2 _) := hR
      clear hR HYY hg HE
      gi_wp2
      refine HR.out.mono ?_
      rintro e w3 ⟨rfl, h3, hk3, hs3⟩
      have H3 : Hid (Inv (l ++ t.toList) w3 ∧ Kp w2 w3 ∧ w2.heap.size ≤ w3.heap.size) := ⟨h3, hk3, hs3⟩
      clear h3 hk3 hs3 HR hy
      gi_wp2
      refine leaves_marks w3.heap.size (fun W _ => results_none rfl _ _ _) [] [] w3 ⟨rfl, List.nodup_nil, fun _ h => by cases h⟩ ?_
      intro W' hk
      refine ⟨rfl, ?_, ?_, ?_⟩
      · rw [E.out]
        exact HST.out _ _ _ H3.out.1 (hk.less (Nat.le_trans HD2.out H3.out.2.2))
      · have k1 : Kp W w3 := (Kp.of_below HB2.out).trans H3.out.2.1
        exact fun j o hf hj => (hk.old j (by have := lt_of_block hj; have := HB2.out.size; have := H3.out.2.2; omega)).trans (k1 j o hf hj)
      · have := HB2.out.size
        have := H3.out.2.2
        have := hk.kp.1
        omega
    · rw [empty_false hg]
      have E : Hid (R = cat txt its) := by show _ = _; rw [HE.out, if_neg hg]
      clear hg HE
      gi_wp2
      clear x0 x1 x2 x3 x4 y0
      have HM0 : Hid (Marks w2.heap.size w2 [] []) := ⟨rfl, List.nodup_nil, fun _ h => by cases h⟩
      refine wpIn_loop (fun a W' => ∃ (m : Nat) (u4 u5 u16 u17 u18 u19 u20 u21 u22 u23 u24 u25 u26 : Value) (ds : List Deferred) (Ds : List Nat), a = { tmps := #[.func (.yield L) #[] #[], .pointer (some ⟨Pt, 0, none⟩), .pointer (some ⟨W.heap.size, 0, none⟩), undef, u4, u5, mkT g k t aa ats.length ac ia its.length ic, .bool false, undef, undef, undef, undef, .pointer (some ⟨Pt, 4, none⟩), .slice ia its.length ic, .int .i64 (its.length : Nat), .int .i64 ((m : Nat) : Int), u16, u17, u18, u19, u20, u21, u22, u23, u24, u25, u26], defers := ds } ∧ m ≤ its.length ∧ Hid (Inv (l ++ cat txt (its.take m)) W') ∧ Hid (Kp w2 W') ∧ Hid (w2.heap.size ≤ W'.heap.size) ∧ Hid (Marks w2.heap.size W' ds Ds))
        (fun a _ => its.length - (intOf (a.tmps.getD 15 undef)).toNat) ?start ?round
      case start => exact ⟨0, undef, undef, undef, undef, undef, undef, undef, undef, undef, undef, undef, undef, undef, [], [], rfl, by omega, by show Inv _ _; simpa [cat] using HI2.out, Kp.refl _, Nat.le_refl _, HM0.out⟩
      case round =>
        rintro _ W3 ⟨m, u4, u5, u16, u17, u18, u19, u20, u21, u22, u23, u24, u25, u26, ds, Ds, rfl, hm, HI3, HK3, HS3, HM3⟩
        by_cases hlt : m < its.length
        · have hm1 : (m : Int) < (its.length : Int) := by omega
          obtain ⟨b, o, g1, k1, t1, aa1, al1, ac1, ja, jl, jc, rfl, q0, q1, q2, q3, q4, hl, -, -, -⟩ := HLI.out.at m hlt
          have HBW := HI0.out _ _ HI3.out
          replace q0 := keepc HBW _ _ q0
          replace q1 := keepc HBW _ _ q1
          replace q2 := keepc HBW _ _ q2
          replace q3 := keepc HBW _ _ q3
          replace q4 := keepc HBW _ _ q4
          have HLK : Hid (LayT w0 n (mkT g1 k1 t1 aa1 al1 ac1 ja jl jc) its[m]) := hl
          have HT : Hid (cat txt (its.take (m + 1)) = cat txt (its.take m) ++ txt its[m]) := cat_snoc hlt
          have HLM : Hid ((l ++ cat txt (its.take m)).length + (txt its[m]).length ≤ 1000000000) := by
            have hle := cat_take_le txt its (m + 1)
            have := HLEN.out
            rw [E.out] at this
            rw [HT.out, List.length_append] at hle
            show _ ≤ _
            rw [List.length_append]
            omega
          have ITK : Hid (TxtIter w0 n its[m]) := IH.out its[m]
          clear hl HBW
          generalize its[m] = kid at *
          gi_wp2
          refine ⟨trivial, (callsIn_wide.2 (texts_fn g1 k1 t1 aa1 al1 ac1 ja jl jc _)).mono ?_⟩
          rintro e W5 ⟨rfl, hW5⟩
          have HB5 : Hid (Below W3.heap.size W3 W5) := by
            show Below _ _ _
            rw [hW5]
            exact nxt (below_one _ _) (below_one _ _)
          have HSZ5 : Hid (W5.heap.size = W3.heap.size + 2) := by
            show _ = _
            rw [hW5]
            simp
          have HP5 : Hid (W5.heap[W3.heap.size + 1]? = some (.cells #[.string g1, .string k1, .string t1, .slice aa1 al1 ac1, .slice ja jl jc] 25 (0, 0))) := by
            show _ = _
            have h := heap_alloc_new (W3.alloc (.cells #[.string g1, .string k1, .string t1, .slice aa1 al1 ac1, .slice ja jl jc] 25)) (.cells #[.string g1, .string k1, .string t1, .slice aa1 al1 ac1, .slice ja jl jc] 25)
            rw [← hW5, World.size_alloc] at h
            exact h
          clear hW5 q0 q1 q2 q3 q4
          gi_wp2
          have HI5 : Hid (Inv (l ++ cat txt (its.take m)) W5) := HST.out _ _ _ HI3.out (Stay.of_below HB5.out (Nat.le_trans HD2.out HS3.out))
          have HK5 : Hid (Kp w2 W5) := HK3.out.trans (Kp.of_below HB5.out)
          have HD5 : Hid (D ≤ W5.heap.size) := Nat.le_trans (Nat.le_trans HD2.out HS3.out) HB5.out.size
          refine range_txt (by omega) rfl (W3.heap.size + 1) rfl w0 n kid ITK.out g1 k1 t1 aa1 al1 ac1 ja jl jc HLK.out HP5.out Inv (l ++ cat txt (its.take m)) D HD5.out HST.out HI0.out HI5.out HLM.out
            (fun s => { tmps := #[.func (.yield L) #[] #[], .pointer (some ⟨Pt, 0, none⟩), .pointer (some ⟨W.heap.size, 0, none⟩), undef, .pointer (some ⟨W3.heap.size, 0, none⟩), .string s, mkT g k t aa ats.length ac (some ⟨b, o, none⟩) its.length ic, .bool false, undef, undef, undef, undef, .pointer (some ⟨Pt, 4, none⟩), .slice (some ⟨b, o, none⟩) its.length ic, .int .i64 (its.length : Nat), .int .i64 ((m : Nat) : Int), .bool true, .pointer (some ⟨b, o + m * 5, none⟩), mkT g1 k1 t1 aa1 al1 ac1 ja jl jc, mkT g1 k1 t1 aa1 al1 ac1 ja jl jc, .func (.func 44) #[] #[.pointer (some ⟨W3.heap.size + 1, 0, none⟩)], .string s, u22, u23, u24, u25, u26], defers := [] }) ?hassign ?hbody ?hdone
          case hassign =>
            intro rl s W' K hK
            gi_wp2
            exact hK
          case hbody =>
            intro rl l' s W' hI' hk' hs' hls
            obtain ⟨fn, tmps, assign, body, hy, hR⟩ := HYY.out l' s W' hI' (Nat.le_trans HD5.out hs') hls 6
            have HR : Hid (RoundIn Fence.wide 6 Try.prog L fn tmps assign body W' _) := hR
            obtain ⟨y0, -⟩ := cell_of ((HK5.out.trans hk').at (by decide) (by decide) HY2.out) 0
            simp at y0
            clear hR HYY hI' hk'
            gi_wp2
            refine RoundIn.mono (F := Fence.wide.inRound rl) HR.out ?_
            rintro e W6 ⟨rfl, h6, hk6, hs6⟩
            have H6 : Hid (Inv (l' ++ s.toList) W6 ∧ Kp W' W6 ∧ W'.heap.size ≤ W6.heap.size) := ⟨h6, hk6, hs6⟩
            clear h6 hk6 hs6 HR hy
            gi_wp2
            exact H6.out
          case hdone =>
            intro W' hI' hd hk' hs'
            have H9 : Hid (Inv (l ++ cat txt (its.take m) ++ txt kid) W' ∧ W'.heap[W5.heap.size]? = some (.deferred (some [])) ∧ Kp W5 W' ∧ W5.heap.size + 2 ≤ W'.heap.size) := ⟨hI', hd, hk', hs'⟩
            clear hI' hd hk' hs'
            dsimp only
            gi_wp2
            have h1 := HS3.out
            have h2 := HSZ5.out
            have h3 := H9.out.2.2.2
            refine ⟨⟨m + 1, _, _, _, _, _, _, _, _, _, _, _, _, _, _, W5.heap.size :: Ds, rfl, by omega, ?_, ?_, ?_, ?_⟩, ?_⟩
            · show Inv _ _
              rw [HT.out, ← List.append_assoc]
              exact H9.out.1
            · exact HK5.out.trans H9.out.2.2.1
            · show _ ≤ _
              omega
            · exact Marks.more HM3.out ((Kp.of_below HB5.out).trans H9.out.2.2.1) H9.out.2.1 (by omega) (by omega)
            · simp [intOf]
              omega
        · have hme : m = its.length := by omega
          subst hme
          gi_wp2
          refine leaves_marks w2.heap.size (fun W _ => results_none rfl _ _ _) Ds ds W3 HM3.out ?_
          intro W' hk
          refine ⟨rfl, ?_, ?_, ?_⟩
          · have h := HST.out _ _ _ HI3.out (hk.less HD2.out)
            rw [List.take_length] at h
            rw [E.out]
            exact h
          · have k1 : Kp W W3 := (Kp.of_below HB2.out).trans HK3.out
            exact fun j o hf hj => (hk.old j (by have := lt_of_block hj; have := HB2.out.size; omega)).trans (k1 j o hf hj)
          · have := HB2.out.size
            have := HS3.out
            have := hk.kp.1
            omega
end Go.Proofs.Ytoheppocolbjkaa
