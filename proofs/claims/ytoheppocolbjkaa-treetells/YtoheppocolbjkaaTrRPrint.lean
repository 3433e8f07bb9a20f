/-
  The page's safe, printed, Print, texts, Texts.
-/
import Derived.Test.YtoheppocolbjkaaTrTexts
import Derived.Test.YtoheppocolbjkaaTrRSize
import Derived.Laws.DeepStrings4
namespace Go.Proofs.Ytoheppocolbjkaa
open Go.ChangeShapes Go.WideShapes Go.ChangeAt Go.RowKit Go.Deep Go.ChangeMaps

theorem slice_st (q : ByteArray) (i j : Int) (a b : Nat) (ha : i = a) (hb : j = b) (h1 : a ≤ b) (h2 : b ≤ q.size) (w : World) : (Instr.slice 9 (.string q) (some (.int .i64 i)) (some (.int .i64 j)) none).run Try.prog w = .ok (.string (q.extract a b)) w := by
  subst ha hb
  rw [run_slice_string_if (P := Try.prog) (w := w) 9 q .i64 .i64 a b Try.underlying9, if_pos (by omega), if_pos (by omega)]
  simp

theorem tl_append (a b : ByteArray) : (a ++ b).toList = a.toList ++ b.toList := by simp [ByteArray.toList_eq]
theorem tl_one (s : ByteArray) (m : Nat) (h : m < s.size) : (s.extract m (m + 1)).toList = [s[m]] := by
  rw [ByteArray.toList_eq]
  apply List.ext_getElem?
  intro i
  have e1 : (s.extract m (m + 1)).data = s.data.extract m (m + 1) := by simp
  rw [e1, Array.toList_extract, List.extract_eq_take_drop, List.getElem?_take]
  by_cases hi : i < m + 1 - m
  · rw [if_pos hi, List.getElem?_drop]
    have : i = 0 := by omega
    subst this
    have hm : m < s.data.toList.length := by simpa using h
    simp only [Nat.add_zero, List.getElem?_eq_getElem hm, List.getElem?_cons_zero]
    rfl
  · rw [if_neg hi]
    have : ¬ i < 1 := by omega
    simp [this]
theorem tl_take (s : ByteArray) (m : Nat) (h : m < s.size) : s.toList.take (m + 1) = s.toList.take m ++ [s[m]] := by
  have hl : m < s.toList.length := by rw [toList_len]; exact h
  rw [List.take_succ_eq_append_getElem hl]
  congr 2
  simp only [ByteArray.toList_eq]
  rfl
theorem ba_eq {a b : ByteArray} (h : a.toList = b.toList) : a = b := by
  rw [ByteArray.toList_eq, ByteArray.toList_eq] at h
  cases a; cases b
  simpa using h

set_option maxRecDepth 100000 in
set_option maxHeartbeats 1600000 in
theorem rsafe_any (s : ByteArray) (w : World) (hs : s.size ≤ 1000000) : Calls Try.prog 43 #[.string s] w fun e w' => e = .returned (.string (escB s)) ∧ w' = w := by
  go_enter Try.func43, Try.ntmps43
  go_wp2_with fail
  go_loop [3, 4] (fun v3 v4 => ∃ (m : Nat) (S : ByteArray), m ≤ s.size ∧ v3 = .string S ∧ v4 = .int .i64 m ∧ Hid (S.toList = esc (s.toList.take m))) (fun _ v4 => s.size - (intOf v4).toNat)
  case atStart => exact ⟨0, ⟨#[]⟩, Nat.zero_le _, rfl, rfl, by show _ = _; rw [ByteArray.toList_eq]; rfl⟩
  case round =>
    obtain ⟨m, S, hm, rfl, rfl, HS⟩ := hrel
    by_cases hlt : m < s.size
    · have hm1 : (m : Int) < (s.size : Int) := by omega
      have hsz : S.size ≤ 6000000 := by
        have h1 := esc_len (s.toList.take m)
        rw [← HS.out, toList_len, List.length_take, toList_len] at h1
        omega
      have HT : Hid (∀ X : ByteArray, X.toList = escO s[m] → (S ++ X).toList = esc (s.toList.take (m + 1))) := fun X hX => by
        rw [tl_append, HS.out, hX, tl_take s m hlt, esc_append]
        simp [esc]
      have hsl := fun wx => slice_st s (m : Int) ((m : Int) + 1) m (m + 1) rfl (by omega) (by omega) (by omega) wx
      have hcat : S.size + (s.extract m (m + 1)).size ≤ 9223372036854775807 := by rw [ByteArray.size_extract]; omega
      have HX : Hid ((s.extract m (m + 1)).toList = [s[m]]) := tl_one s m hlt
      have ne : ∀ c : UInt8, ¬ s[m] = c → ((s[m].toNat : Int) == (c.toNat : Int)) = false := fun c hc => by
        rw [beq_eq_false_iff_ne]; intro e; exact hc (UInt8.toNat_inj.1 (by omega))
      have ye : ∀ c : UInt8, s[m] = c → ((s[m].toNat : Int) == (c.toNat : Int)) = true := fun c hc => by
        rw [hc]; simp
      by_cases h38 : s[m] = 38
      · have e1 : ((s[m].toNat : Int) == 38) = true := ye 38 h38
        have HF := HT.out ⟨#[38, 97, 109, 112, 59]⟩ (by rw [h38, ByteArray.toList_eq]; rfl)
        clear ne ye h38
        go_wp2_with fail
        go_round
        case rel => exact ⟨m + 1, _, by omega, rfl, by go_num, HF⟩
        case measure => simp [intOf]; omega
      · have e1 : ((s[m].toNat : Int) == 38) = false := ne 38 h38
        by_cases h60 : s[m] = 60
        · have e2 : ((s[m].toNat : Int) == 60) = true := ye 60 h60
          have HF := HT.out ⟨#[38, 108, 116, 59]⟩ (by rw [h60, ByteArray.toList_eq]; rfl)
          clear ne ye h38 h60
          go_wp2_with fail
          go_round
          case rel => exact ⟨m + 1, _, by omega, rfl, by go_num, HF⟩
          case measure => simp [intOf]; omega
        · have e2 : ((s[m].toNat : Int) == 60) = false := ne 60 h60
          by_cases h62 : s[m] = 62
          · have e3 : ((s[m].toNat : Int) == 62) = true := ye 62 h62
            have HF := HT.out ⟨#[38, 103, 116, 59]⟩ (by rw [h62, ByteArray.toList_eq]; rfl)
            clear ne ye h38 h60 h62
            go_wp2_with fail
            go_round
            case rel => exact ⟨m + 1, _, by omega, rfl, by go_num, HF⟩
            case measure => simp [intOf]; omega
          · have e3 : ((s[m].toNat : Int) == 62) = false := ne 62 h62
            by_cases h34 : s[m] = 34
            · have e4 : ((s[m].toNat : Int) == 34) = true := ye 34 h34
              have HF := HT.out ⟨#[38, 113, 117, 111, 116, 59]⟩ (by rw [h34, ByteArray.toList_eq]; rfl)
              clear ne ye h38 h60 h62 h34
              go_wp2_with fail
              go_round
              case rel => exact ⟨m + 1, _, by omega, rfl, by go_num, HF⟩
              case measure => simp [intOf]; omega
            · have e4 : ((s[m].toNat : Int) == 34) = false := ne 34 h34
              have HF := HT.out (s.extract m (m + 1)) (by rw [HX.out]; unfold escO; rw [if_neg h38, if_neg h60, if_neg h62, if_neg h34])
              clear ne ye h38 h60 h62 h34
              go_wp2_with fail
              go_round
              case rel => exact ⟨m + 1, _, by omega, rfl, by go_num, HF⟩
              case measure => simp [intOf]; omega
    · have hme : m = s.size := by omega
      subst hme
      have HF : Hid (S = escB s) := by
        refine ba_eq ?_
        have h1 := HS.out
        rw [← toList_len, List.take_length] at h1
        rw [h1, escB_toList]
      clear HS
      obtain rfl := HF.out
      clear HF
      go_wp2_with fail
      go_ret
      exact ⟨rfl, rfl⟩

theorem tl_mk (l : List UInt8) : (⟨l.toArray⟩ : ByteArray).toList = l := by rw [ByteArray.toList_eq]

/-- All texts of a tree that may be, as the page has them. -/
theorem txt_ok {n : Nat} {g k t : ByteArray} {ats : List Atr} {its : List (T n)} (h : okN (n := n + 1) (g, k, t, ats, its)) : txt (n := n + 1) (g, k, t, ats, its) = t.toList ++ cat txt its := by
  rw [txt_node]
  rcases node_ok (okN_node.1 h).1 with ⟨h0, -, -, -, h5⟩ | ⟨h0, -, -, -, h4, -⟩
  · have : its = [] := List.length_eq_zero_iff.1 h5
    rw [if_pos h0, this]
    simp [cat]
  · have : t.toList = [] := by
      apply List.length_eq_zero_iff.1
      rw [toList_len]
      exact h4
    rw [if_neg h0, this]
    rfl

set_option maxRecDepth 100000 in
set_option maxHeartbeats 1600000 in
theorem rtexts_any (n : Nat) : ∀ (v : T n) (x : Value) (w : World), LayT w n x v → okN v → (txt v).length ≤ 1000000000 →
    Calls Try.prog 33 #[x] w fun e w' => e = .returned (.string ⟨(txt v).toArray⟩) ∧ Below w.heap.size w w' := by
  induction n with
  | zero => intro v; exact v.elim
  | succ n ih =>
    rintro ⟨g, k, t, ats, its⟩ x w hv hok hlen
    have htx := txt_ok hok
    have HLEN : Hid ((t.toList ++ cat txt its).length ≤ 1000000000) := by rw [htx] at hlen; exact hlen
    rw [htx]
    clear htx hlen
    have HOK : Hid (∀ u ∈ its, okN u) := (okN_node.1 hok).2
    have IH : Hid (∀ (v : T n) (x : Value) (w : World), LayT w n x v → okN v → (txt v).length ≤ 1000000000 → Calls Try.prog 33 #[x] w fun e w' => e = .returned (.string ⟨(txt v).toArray⟩) ∧ Below w.heap.size w w') := ih
    obtain ⟨aa, ac, ia, ic, rfl, hfit, -, -, -, hI⟩ := hv
    have hi1 := hfit.2.2.2.2.2.2.2.2
    have HI : Hid (LayI w (LayT w n) ia its) := hI
    clear hok ih hfit hI
    have X0 : Hid ((w.alloc (.cells #[.string g, .string k, .string t, .slice aa ats.length ac, .slice ia its.length ic] 25)).heap[w.heap.size]? = some (.cells #[.string g, .string k, .string t, .slice aa ats.length ac, .slice ia its.length ic] 25 (0, 0))) := heap_alloc_new _ _
    go_enter Try.func33, Try.ntmps33
    go_wp2_with fail
    go_loopw [3, 4] (fun u3 u4 wr => ∃ (m : Nat) (S : ByteArray), m ≤ its.length ∧ u4 = .int .i64 m ∧ u3 = .string S ∧ Hid (S.toList = t.toList ++ cat txt (its.take m)) ∧ Hid (wr.heap[w.heap.size]? = some (.cells #[.string g, .string k, .string t, .slice aa ats.length ac, .slice ia its.length ic] 25 (0, 0))) ∧ Hid (Below w.heap.size w wr)) (fun _ i _ => its.length - (intOf i).toNat)
    case atStart => exact ⟨0, t, Nat.zero_le _, rfl, rfl, by show _ = _; simp [cat], X0.out, below_one _ _⟩
    case round =>
      obtain ⟨m, S, hm, rfl, rfl, HP, HX, HB⟩ := hrel
      obtain ⟨y0, y1, y2, y3, y4, -⟩ := box_cells HX.out
      by_cases hlt : m < its.length
      · obtain ⟨b, o, g1, k1, t1, aa1, al1, ac1, ja, jl, jc, rfl, q0, q1, q2, q3, q4, hl, -, -, -⟩ := (LayI.below HI.out HB.out).at m hlt
        have hm1 : (m : Int) < (its.length : Int) := by omega
        have HT : Hid (cat txt (its.take (m + 1)) = cat txt (its.take m) ++ txt its[m]) := cat_snoc hlt
        have hle := cat_take_le txt its (m + 1)
        have hle2 := HLEN.out
        have hle3 := congrArg List.length HP.out
        rw [HT.out, List.length_append] at hle
        rw [List.length_append] at hle2 hle3
        rw [toList_len] at hle3
        have hck := IH.out its[m] _ wr hl (HOK.out _ (List.getElem_mem hlt)) (by omega)
        have CK : Hid (Calls Try.prog 33 #[mkT g1 k1 t1 aa1 al1 ac1 ja jl jc] wr _) := hck
        have hul : (⟨(txt its[m]).toArray⟩ : ByteArray).size = (txt its[m]).length := rfl
        have HUL : Hid ((⟨(txt its[m]).toArray⟩ : ByteArray).toList = txt its[m]) := tl_mk _
        have hss : S.size + (⟨(txt its[m]).toArray⟩ : ByteArray).size ≤ 1000000000 := by rw [hul]; omega
        clear hck hl hle hle2 hle3 hul
        generalize (⟨(txt its[m]).toArray⟩ : ByteArray) = U at *
        go_wp2_with (refine CK.out.mono ?_; rintro e w5 ⟨rfl, hb5⟩)
        go_roundw
        case rel => exact ⟨m + 1, _, by omega, by go_num, rfl, by show _ = _; rw [HT.out, tl_append, HP.out, HUL.out, List.append_assoc], (hb5.block _ (lt_of_block HX.out)).trans HX.out, nxt HB.out hb5⟩
        case measure => simp [intOf]; omega
      · have hme : m = its.length := by omega
        subst hme
        have HF : Hid (S = ⟨(t.toList ++ cat txt its).toArray⟩) := by
          refine ba_eq ?_
          rw [HP.out, List.take_length]
          exact (tl_mk _).symm
        clear HP
        obtain rfl := HF.out
        clear HF
        go_wp2_with fail
        go_ret
        exact ⟨rfl, HB.out⟩

set_option maxRecDepth 100000 in
set_option maxHeartbeats 1600000 in
theorem rTexts_any (n : Nat) (v : T n) (x : Value) (w : World) (hv : LayT w n x v) :
    Calls Try.prog 15 #[x] w fun e w' => e = .returned (.tuple #[.string (txB v), .int .i64 (sizeT v).1]) ∧ Below w.heap.size w w' := by
  have HV : Hid (LayT w n x v) := hv
  obtain ⟨g, k, t, aa, al, ac, ia, il, ic, rfl⟩ := LayT.shape n hv
  clear hv
  have CC : Hid (∀ W, Below w.heap.size w W → Calls Try.prog 18 #[mkT g k t aa al ac ia il ic] W fun e w' => e = .returned (.int .i64 (sizeT v).1) ∧ Below W.heap.size W w') := fun W h => rcheck_any n v _ W (HV.out.below n h)
  by_cases he : (sizeT v).1 = 0
  · have hO := print_ok he
    have HP : Hid (txB v = ⟨(txt v).toArray⟩) := by show _ = _; unfold txB; rw [if_pos he]
    have CT : Hid (∀ W, Below w.heap.size w W → Calls Try.prog 33 #[mkT g k t aa al ac ia il ic] W fun e w' => e = .returned (.string ⟨(txt v).toArray⟩) ∧ Below W.heap.size W w') := fun W h => rtexts_any n v _ W (HV.out.below n h) hO.1 (by have := txt_le n v; omega)
    rw [he] at CC
    rw [he, HP.out]
    clear he hO
    generalize (⟨(txt v).toArray⟩ : ByteArray) = R at *
    go_enter Try.func15, Try.ntmps15
    go_wp2_with fail
    refine (CC.out _ (below_one _ _)).mono ?_
    rintro e w1 ⟨rfl, hb1⟩
    obtain ⟨y0, y1, y2, y3, y4, -⟩ := box_cells (boxed hb1)
    have B1 : Below w.heap.size w w1 := nxt (below_one _ _) hb1
    go_wp2_with fail
    refine (CT.out _ B1).mono ?_
    rintro e w2 ⟨rfl, hb2⟩
    go_wp2_with fail
    go_ret2
    exact ⟨rfl, nxt B1 hb2⟩
  · have HP : Hid (txB v = ⟨#[]⟩) := by show _ = _; unfold txB; rw [if_neg he]
    have hd1 : ((sizeT v).1 == 0) = false := by simpa using he
    have hd2 : ((sizeT v).1 != 0) = true := by simpa using he
    rw [HP.out]
    clear he HP
    generalize (sizeT v).1 = er at *
    go_enter Try.func15, Try.ntmps15
    go_wp2_with fail
    refine (CC.out _ (below_one _ _)).mono ?_
    rintro e w1 ⟨rfl, hb1⟩
    go_wp2_with fail
    go_ret2
    exact ⟨rfl, nxt (below_one _ _) hb1⟩

set_option maxRecDepth 100000 in
set_option maxHeartbeats 3200000 in
theorem rprinted_any (n : Nat) : ∀ (v : T n) (x : Value) (w : World), LayT w n x v → okN v → (prt v).length ≤ 1000000000 →
    Calls Try.prog 30 #[x] w fun e w' => e = .returned (.string ⟨(prt v).toArray⟩) ∧ Below w.heap.size w w' := by
  induction n with
  | zero => intro v; exact v.elim
  | succ n ih =>
    rintro ⟨g, k, t, ats, its⟩ x w hv hok hlen
    have HOK : Hid (∀ u ∈ its, okN u) := (okN_node.1 hok).2
    have HN : Hid _ := node_ok (okN_node.1 hok).1
    have HE : Hid (prt (n := n + 1) (g, k, t, ats, its) = if g.size = 0 then esc t.toList else [60] ++ (g.toList ++ (prtK k ++ (prtAs ats ++ ([62] ++ (cat prt its ++ ([60, 47] ++ (g.toList ++ [62])))))))) := prt_node g k t ats its
    have HLEN : Hid ((prt (n := n + 1) (g, k, t, ats, its)).length ≤ 1000000000) := hlen
    have IH : Hid (∀ (v : T n) (x : Value) (w : World), LayT w n x v → okN v → (prt v).length ≤ 1000000000 → Calls Try.prog 30 #[x] w fun e w' => e = .returned (.string ⟨(prt v).toArray⟩) ∧ Below w.heap.size w w') := ih
    obtain ⟨aa, ac, ia, ic, rfl, hfit, -, -, hA, hI⟩ := hv
    have hi1 := hfit.2.2.2.2.2.2.2.2
    have ha1 := hfit.2.2.2.2.2.1
    have HI : Hid (LayI w (LayT w n) ia its) := hI
    have HA : Hid (LayA w aa ats) := hA
    clear hok ih hfit hI hA hlen
    have X0 : Hid ((w.alloc (.cells #[.string g, .string k, .string t, .slice aa ats.length ac, .slice ia its.length ic] 25)).heap[w.heap.size]? = some (.cells #[.string g, .string k, .string t, .slice aa ats.length ac, .slice ia its.length ic] 25 (0, 0))) := heap_alloc_new _ _
    generalize prt (n := n + 1) (g, k, t, ats, its) = R at *
    by_cases h0 : g.size = 0
    · have d0 := empty_true h0
      have hE := HE.out
      rw [if_pos h0] at hE
      have ht : t.size ≤ 1000000 := by
        rcases HN.out with ⟨-, h, -⟩ | ⟨h, -⟩
        · omega
        · exact absurd h0 h
      have CS : Hid (∀ W, Calls Try.prog 43 #[.string t] W fun e w' => e = .returned (.string ⟨R.toArray⟩) ∧ w' = W) := fun W => by
        have := rsafe_any t W ht
        rw [hE]
        exact this
      clear HE hE HN h0
      go_enter Try.func30, Try.ntmps30
      go_wp2_with fail
      refine (CS.out _).mono ?_
      rintro e w1 ⟨rfl, hw1⟩
      subst w1
      go_wp2_with fail
      go_ret
      exact ⟨rfl, below_one _ _⟩
    · have d0 := empty_false h0
      obtain ⟨hg16, hk16, hats⟩ : g.size ≤ 16 ∧ k.size ≤ 16 ∧ ∀ a ∈ ats, a.1.size ≤ 16 ∧ a.2.size ≤ 128 := by
        rcases HN.out with ⟨e, -⟩ | ⟨-, -, e0, e1, -, -, -, e2, -⟩
        · exact absurd e h0
        · exact ⟨e0, e1, e2⟩
      have HAT : Hid (∀ a ∈ ats, a.1.size ≤ 16 ∧ a.2.size ≤ 128) := hats
      have E : Hid (R = [60] ++ (g.toList ++ (prtK k ++ (prtAs ats ++ ([62] ++ (cat prt its ++ ([60, 47] ++ (g.toList ++ [62])))))))) := by show _ = _; rw [HE.out, if_neg h0]
      have HRL : Hid (1 + g.toList.length + (prtK k).length + (prtAs ats).length + 1 + (cat prt its).length + 2 + g.toList.length + 1 ≤ 1000000000) := by
        have := HLEN.out
        rw [E.out] at this
        simp only [List.length_append, List.length_cons, List.length_nil] at this
        show _ ≤ _
        omega
      clear HE HN h0 hats HLEN
      go_enter Try.func30, Try.ntmps30
      go_upto_if 17 with fail
      have HG : Hid ((⟨#[60]⟩ ++ g : ByteArray).toList = [60] ++ g.toList) := by show _ = _; rw [tl_append, ByteArray.toList_eq]
      have hgs : (⟨#[60]⟩ ++ g : ByteArray).size ≤ 17 := by have h1 := congrArg List.length HG.out; rw [toList_len] at h1; rw [h1, List.length_append, toList_len]; simp; omega
      have HB0 : Hid (Below w.heap.size w (w.alloc (.cells #[.string g, .string k, .string t, .slice aa ats.length ac, .slice ia its.length ic] 25))) := below_one _ _
      generalize (⟨#[60]⟩ ++ g : ByteArray) = S0 at *
      obtain ⟨y0, y1, y2, y3, y4, -⟩ := box_cells X0.out
      generalize w.alloc (.cells #[.string g, .string k, .string t, .slice aa ats.length ac, .slice ia its.length ic] 25) = W0 at *
      go_cut [3] (fun v wc => ∃ S : ByteArray, v = .string S ∧ Hid (S.toList = [60] ++ g.toList ++ prtK k) ∧ Hid (wc = W0))
      case first =>
        by_cases hk0 : k.size = 0
        · have dk := empty_true hk0
          have HPK : Hid (prtK k = []) := by show _ = _; unfold prtK; rw [if_pos hk0]
          rw [dk, Bool.not_true]
          clear dk hk0
          go_wp2_with fail
          go_meet
          exact ⟨_, rfl, by show _ = _; rw [HPK.out, HG.out, List.append_nil], rfl⟩
        · have dk := empty_false hk0
          have HPK : Hid (prtK k = prtA (keyS, k)) := by show _ = _; unfold prtK; rw [if_neg hk0]
          have CS : Hid (∀ W, Calls Try.prog 43 #[.string k] W fun e w' => e = .returned (.string (escB k)) ∧ w' = W) := fun W => rsafe_any k W (by omega)
          have hes : (escB k).size ≤ 96 := by have h1 := esc_len k.toList; rw [← escB_toList, toList_len, toList_len] at h1; omega
          have HEK : Hid ((escB k).toList = esc k.toList) := escB_toList k
          clear hk0
          rw [dk, Bool.not_false]
          clear dk
          generalize escB k = ek at *
          go_wp2_with fail
          refine (CS.out _).mono ?_
          rintro e w1 ⟨rfl, hw1⟩
          subst w1
          go_wp2_with fail
          go_meet
          refine ⟨_, rfl, ?_, rfl⟩
          show _ = _
          rw [HPK.out, tl_append, tl_append, tl_append, HG.out, HEK.out]
          unfold prtA keyS
          simp only [ByteArray.toList_eq, List.append_assoc]
          rfl
      case rest =>
        obtain ⟨S1, rfl, HS1, HW⟩ := hcut
        obtain rfl := HW.out
        clear HW HG hgs
        have HRL1 : Hid (S1.toList.length + ((prtAs ats).length + 1 + (cat prt its).length + 2 + g.toList.length + 1) ≤ 1000000000) := by
          have := HRL.out
          show _ ≤ _
          rw [HS1.out]
          simp only [List.length_append, List.length_cons, List.length_nil]
          omega
        have E1 : Hid (R = S1.toList ++ (prtAs ats ++ ([62] ++ (cat prt its ++ ([60, 47] ++ (g.toList ++ [62])))))) := by
          show _ = _
          rw [E.out, HS1.out]; simp only [List.append_assoc]
        clear E HRL HS1
        go_wp2_with fail
        clear y0 y1 y2 y3 y4
        obtain ⟨W3, hW3⟩ : ∃ W, W = wc := ⟨_, rfl⟩
        subst hW3
        go_loopw [3, 4] (fun u3 u4 wr => ∃ (m : Nat) (S : ByteArray), m ≤ ats.length ∧ u4 = .int .i64 m ∧ u3 = .string S ∧ Hid (S.toList = S1.toList ++ prtAs (ats.take m)) ∧ Hid (wr.heap[w.heap.size]? = some (.cells #[.string g, .string k, .string t, .slice aa ats.length ac, .slice ia its.length ic] 25 (0, 0))) ∧ Hid (Below w.heap.size w wr)) (fun _ i _ => ats.length - (intOf i).toNat)
        case atStart => exact ⟨0, S1, Nat.zero_le _, rfl, rfl, by show _ = _; simp [prtAs], X0.out, HB0.out⟩
        case round =>
          obtain ⟨m, S, hm, rfl, rfl, HP, HX, HB⟩ := hrel
          obtain ⟨y0, y1, y2, y3, y4, -⟩ := box_cells HX.out
          by_cases hlt : m < ats.length
          · have hm1 : (m : Int) < (ats.length : Int) := by omega
            obtain ⟨b, o, rfl, q0, q1, -, -⟩ := (HA.out.below HB.out) m ats[m] (by simp [hlt])
            have HT : Hid (prtAs (ats.take (m + 1)) = prtAs (ats.take m) ++ prtA ats[m]) := prtAs_snoc hlt
            have hle := prtAs_take_le ats m
            have hle2 := HRL1.out
            have hle3 := congrArg List.length HP.out
            rw [List.length_append, toList_len, toList_len] at hle3
            rw [toList_len] at hle2
            have hss : S.size ≤ 1000000000 := by omega
            obtain ⟨hn1, hn2⟩ := HAT.out ats[m] (List.getElem_mem hlt)
            clear hle hle2 hle3
            generalize ats[m] = am at *
            obtain ⟨a1, a2⟩ := am
            simp only at q0 q1 hn1 hn2
            have CS : Hid (∀ W, Calls Try.prog 43 #[.string a2] W fun e w' => e = .returned (.string (escB a2)) ∧ w' = W) := fun W => rsafe_any a2 W (by omega)
            have hes : (escB a2).size ≤ 768 := by have h1 := esc_len a2.toList; rw [← escB_toList, toList_len, toList_len] at h1; omega
            have HEK : Hid ((escB a2).toList = esc a2.toList) := escB_toList a2
            generalize escB a2 = ek at *
            go_wp2_with fail
            go_quiet ((go_at_call 43; exact Calls.quiet_of_same (CS.out _)))
            go_wp2_with fail
            refine ⟨⟨m + 1, _, by omega, by go_num, rfl, ?_, HX.out, HB.out.trans (Below_drewN _ _ _)⟩, ?_⟩
            · show _ = _
              rw [HT.out, tl_append, tl_append, tl_append, tl_append, tl_append, HP.out, HEK.out]
              unfold prtA
              have e1 : (⟨#[32]⟩ : ByteArray).toList = [32] := by rw [ByteArray.toList_eq]
              have e2 : (⟨#[61, 34]⟩ : ByteArray).toList = [61, 34] := by rw [ByteArray.toList_eq]
              have e3 : (⟨#[34]⟩ : ByteArray).toList = [34] := by rw [ByteArray.toList_eq]
              rw [e1, e2, e3]
              simp only [List.append_assoc]
            · simp [intOf]; omega
          · have hme : m = ats.length := by omega
            subst hme
            have hP := HP.out
            rw [List.take_length] at hP
            have HRL4 : Hid (S.toList.length + (1 + (cat prt its).length + 2 + g.toList.length + 1) ≤ 1000000000) := by
              have := HRL1.out
              show _ ≤ _
              rw [hP, List.length_append]
              omega
            have E4 : Hid (R = S.toList ++ ([62] ++ (cat prt its ++ ([60, 47] ++ (g.toList ++ [62]))))) := by show _ = _; rw [E1.out, hP]; simp only [List.append_assoc]
            have hss : S.size ≤ 1000000000 := by have := HRL4.out; rw [toList_len] at this; omega
            have HBR : Hid (Below w.heap.size w wr) := HB.out
            have HXR : Hid (wr.heap[w.heap.size]? = some (.cells #[.string g, .string k, .string t, .slice aa ats.length ac, .slice ia its.length ic] 25 (0, 0))) := HX.out
            clear hP HP E1 HRL1 HB HX X0 HB0
            go_wp2_with fail
            clear y0 y1 y2 y3 y4
            have HS5 : Hid ((S ++ ⟨#[62]⟩ : ByteArray).toList = S.toList ++ [62]) := by show _ = _; rw [tl_append]; congr 1; rw [ByteArray.toList_eq]
            generalize (S ++ ⟨#[62]⟩ : ByteArray) = S5 at *
            have HRL5 : Hid (S5.toList.length + ((cat prt its).length + 2 + g.toList.length + 1) ≤ 1000000000) := by
              have := HRL4.out
              show _ ≤ _
              rw [HS5.out, List.length_append]
              simp only [List.length_cons, List.length_nil]
              omega
            have E5 : Hid (R = S5.toList ++ (cat prt its ++ ([60, 47] ++ (g.toList ++ [62])))) := by show _ = _; rw [E4.out, HS5.out]; simp only [List.append_assoc]
            clear E4 HRL4 HS5 hss
            obtain ⟨W4, hW4⟩ : ∃ W, W = wr := ⟨_, rfl⟩
            subst hW4
            go_loopw [3, 5] (fun u3 u5 wr => ∃ (m : Nat) (S : ByteArray), m ≤ its.length ∧ u5 = .int .i64 m ∧ u3 = .string S ∧ Hid (S.toList = S5.toList ++ cat prt (its.take m)) ∧ Hid (wr.heap[w.heap.size]? = some (.cells #[.string g, .string k, .string t, .slice aa ats.length ac, .slice ia its.length ic] 25 (0, 0))) ∧ Hid (Below w.heap.size w wr)) (fun _ i _ => its.length - (intOf i).toNat)
            case atStart => exact ⟨0, S5, Nat.zero_le _, rfl, rfl, by show _ = _; simp [cat], HXR.out, HBR.out⟩
            case round =>
              obtain ⟨m, S, hm, rfl, rfl, HP, HX, HB⟩ := hrel
              obtain ⟨y0, y1, y2, y3, y4, -⟩ := box_cells HX.out
              by_cases hlt : m < its.length
              · obtain ⟨b, o, g1, k1, t1, aa1, al1, ac1, ja, jl, jc, rfl, q0, q1, q2, q3, q4, hl, -, -, -⟩ := (LayI.below HI.out HB.out).at m hlt
                have hm1 : (m : Int) < (its.length : Int) := by omega
                have HT : Hid (cat prt (its.take (m + 1)) = cat prt (its.take m) ++ prt its[m]) := cat_snoc hlt
                have hle := cat_take_le prt its (m + 1)
                have hle2 := HRL5.out
                have hle3 := congrArg List.length HP.out
                rw [HT.out, List.length_append] at hle
                rw [List.length_append, toList_len, toList_len] at hle3
                rw [toList_len] at hle2
                have hck := IH.out its[m] _ wr hl (HOK.out _ (List.getElem_mem hlt)) (by omega)
                have CK : Hid (Calls Try.prog 30 #[mkT g1 k1 t1 aa1 al1 ac1 ja jl jc] wr _) := hck
                have hul : (⟨(prt its[m]).toArray⟩ : ByteArray).size = (prt its[m]).length := rfl
                have HUL : Hid ((⟨(prt its[m]).toArray⟩ : ByteArray).toList = prt its[m]) := tl_mk _
                have hss : S.size + (⟨(prt its[m]).toArray⟩ : ByteArray).size ≤ 1000000000 := by rw [hul]; omega
                clear hck hl hle hle2 hle3 hul
                generalize (⟨(prt its[m]).toArray⟩ : ByteArray) = U at *
                go_wp2_with (refine CK.out.mono ?_; rintro e w5 ⟨rfl, hb5⟩)
                go_roundw
                case rel => exact ⟨m + 1, _, by omega, by go_num, rfl, by show _ = _; rw [HT.out, tl_append, HP.out, HUL.out, List.append_assoc], (hb5.block _ (lt_of_block HX.out)).trans HX.out, nxt HB.out hb5⟩
                case measure => simp [intOf]; omega
              · have hme : m = its.length := by omega
                subst hme
                have hss : S.size ≤ 1000000000 := by
                  have h1 := congrArg List.length HP.out
                  have h2 := HRL5.out
                  rw [List.take_length, List.length_append, toList_len] at h1
                  omega
                have HF : Hid (S ++ ⟨#[60, 47]⟩ ++ g ++ ⟨#[62]⟩ = (⟨R.toArray⟩ : ByteArray)) := by
                  refine ba_eq ?_
                  have e2 : (⟨#[60, 47]⟩ : ByteArray).toList = [60, 47] := by rw [ByteArray.toList_eq]
                  have e3 : (⟨#[62]⟩ : ByteArray).toList = [62] := by rw [ByteArray.toList_eq]
                  have e4 := HP.out
                  rw [List.take_length] at e4
                  rw [tl_append, tl_append, tl_append, e2, e3, e4, show (⟨R.toArray⟩ : ByteArray).toList = R from tl_mk R, E5.out]
                  simp only [List.append_assoc]
                clear HP
                go_wp2_with fail
                rw [HF.out]
                go_ret
                exact ⟨rfl, HB.out⟩

set_option maxRecDepth 100000 in
set_option maxHeartbeats 1600000 in
theorem rPrint_any (n : Nat) (v : T n) (x : Value) (w : World) (hv : LayT w n x v) :
    Calls Try.prog 13 #[x] w fun e w' => e = .returned (.tuple #[.string (prB v), .int .i64 (sizeT v).1]) ∧ Below w.heap.size w w' := by
  have HV : Hid (LayT w n x v) := hv
  obtain ⟨g, k, t, aa, al, ac, ia, il, ic, rfl⟩ := LayT.shape n hv
  clear hv
  have CC : Hid (∀ W, Below w.heap.size w W → Calls Try.prog 18 #[mkT g k t aa al ac ia il ic] W fun e w' => e = .returned (.int .i64 (sizeT v).1) ∧ Below W.heap.size W w') := fun W h => rcheck_any n v _ W (HV.out.below n h)
  by_cases he : (sizeT v).1 = 0
  · have hO := print_ok he
    have HP : Hid (prB v = ⟨(prt v).toArray⟩) := by show _ = _; unfold prB; rw [if_pos he]
    have CT : Hid (∀ W, Below w.heap.size w W → Calls Try.prog 30 #[mkT g k t aa al ac ia il ic] W fun e w' => e = .returned (.string ⟨(prt v).toArray⟩) ∧ Below W.heap.size W w') := fun W h => rprinted_any n v _ W (HV.out.below n h) hO.1 (by omega)
    rw [he] at CC
    rw [he, HP.out]
    clear he hO
    generalize (⟨(prt v).toArray⟩ : ByteArray) = R at *
    go_enter Try.func13, Try.ntmps13
    go_wp2_with fail
    refine (CC.out _ (below_one _ _)).mono ?_
    rintro e w1 ⟨rfl, hb1⟩
    obtain ⟨y0, y1, y2, y3, y4, -⟩ := box_cells (boxed hb1)
    have B1 : Below w.heap.size w w1 := nxt (below_one _ _) hb1
    go_wp2_with fail
    refine (CT.out _ B1).mono ?_
    rintro e w2 ⟨rfl, hb2⟩
    go_wp2_with fail
    go_ret2
    exact ⟨rfl, nxt B1 hb2⟩
  · have HP : Hid (prB v = ⟨#[]⟩) := by show _ = _; unfold prB; rw [if_neg he]
    have hd1 : ((sizeT v).1 == 0) = false := by simpa using he
    have hd2 : ((sizeT v).1 != 0) = true := by simpa using he
    rw [HP.out]
    clear he HP
    generalize (sizeT v).1 = er at *
    go_enter Try.func13, Try.ntmps13
    go_wp2_with fail
    refine (CC.out _ (below_one _ _)).mono ?_
    rintro e w1 ⟨rfl, hb1⟩
    go_wp2_with fail
    go_ret2
    exact ⟨rfl, nxt (below_one _ _) hb1⟩
end Go.Proofs.Ytoheppocolbjkaa
