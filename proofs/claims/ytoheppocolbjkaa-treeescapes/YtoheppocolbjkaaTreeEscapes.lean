/-
  TreeEscapes: for every text: the print of its first 128 octets has no < and no >, and no quotes; with its four names turned back it is the text. No condition.
-/
import Derived.Test.YtoheppocolbjkaaTrBackM
import Derived.Deep.CutRange
import Derived.Laws.DeepStrings4
namespace Go.Proofs.Ytoheppocolbjkaa.treeEscapes
open Go.ChangeShapes Go.WideShapes Go.ChangeAt Go.RowKit Go.Deep Go.ChangeMaps

theorem slice_at (q : ByteArray) (i j : Int) (a b : Nat) (ha : i = a) (hb : j = b) (h1 : a ≤ b) (h2 : b ≤ q.size) (w : World) : (Instr.slice 9 (.string q) (some (.int .i64 i)) (some (.int .i64 j)) none).run Try.prog w = .ok (.string (q.extract a b)) w := by
  subst ha hb
  rw [run_slice_string_if (P := Try.prog) (w := w) 9 q .i64 .i64 a b Try.underlying9, if_pos (by omega), if_pos (by omega)]
  simp

/-- Where the loop over the names stands: not yet found, or found. -/
def Nm (k j I : Nat) (B B2 : ByteArray) (v6 v7 v8 : Value) : Prop := (v8 = .bool false ∧ v6 = .string B ∧ v7 = .int .i64 I ∧ j ≤ k) ∨ (v8 = .bool true ∧ v6 = .string B2 ∧ v7 = .int .i64 ((I + (ms k).size : Nat) : Int) ∧ j = k + 1)

set_option maxRecDepth 100000 in
set_option maxHeartbeats 6400000 in
theorem walk (s0 : ByteArray) (w : World) (hs0 : s0.size ≤ 140737488351232) :
    Calls Try.prog 8 #[.string s0] w fun e w' => e = .returned (.bool true) ∧ Below w.heap.size w w' := by
  go_enter Try.func8, Try.ntmps8
  go_upto_region 3 with (go_at_call 20; refine (alive_any _).mono ?_; rintro e w1 ⟨rfl, hb1⟩)
  have B1 : Hid (Below w.heap.size w w1) := hb1
  clear hb1
  go_cut [0] (fun v wc => ∃ s : ByteArray, v = .string s ∧ s.size ≤ 128 ∧ Hid (wc = w1))
  case first =>
    by_cases h1 : s0.size ≤ 128
    · go_wp2_with fail
      all_goals
        go_meet
        exact ⟨_, rfl, by first | (simp [ByteArray.size_extract]; done) | (simp [ByteArray.size_extract]; omega) | omega, rfl⟩
    · go_wp2_with fail
      all_goals
        go_meet
        exact ⟨_, rfl, by first | (simp [ByteArray.size_extract]; done) | (simp [ByteArray.size_extract]; omega) | omega, rfl⟩
  case rest =>
    obtain ⟨s, rfl, hs, HW⟩ := hcut
    obtain rfl := HW.out
    clear HW hs0
    have hcp := print_any 2 (pv s) _ (wc.alloc (.cells #[.string ⟨#[]⟩, .string ⟨#[]⟩, .string s, .slice none 0 0, .slice none 0 0] 25)) (pv_lay (by omega) (heap_alloc_new _ _))
    rw [pv_size hs] at hcp
    have CP : Hid (Calls Try.prog 12 #[mkT ⟨#[112]⟩ ⟨#[]⟩ ⟨#[]⟩ none 0 0 (some ⟨wc.heap.size, 0, none⟩) 1 1] (wc.alloc (.cells #[.string ⟨#[]⟩, .string ⟨#[]⟩, .string s, .slice none 0 0, .slice none 0 0] 25)) fun e w' => e = .returned (.tuple #[.string (prB (pv s)), .int .i64 0]) ∧ Below (wc.alloc (.cells #[.string ⟨#[]⟩, .string ⟨#[]⟩, .string s, .slice none 0 0, .slice none 0 0] 25)).heap.size (wc.alloc (.cells #[.string ⟨#[]⟩, .string ⟨#[]⟩, .string s, .slice none 0 0, .slice none 0 0] 25)) w') := hcp
    have hpl : (prB (pv s)).toList = [60, 112, 62] ++ (esc s.toList ++ [60, 47, 112, 62]) := by
      unfold prB
      rw [pv_size hs, if_pos rfl, ByteArray.toList_eq, ← pv_prt]
    have HPL : Hid ((prB (pv s)).toList = [60, 112, 62] ++ (esc s.toList ++ [60, 47, 112, 62])) := hpl
    have hsz : (prB (pv s)).size = (esc s.toList).length + 7 := by
      rw [← toList_len, hpl]; simp
    have HSZ : Hid ((prB (pv s)).size = (esc s.toList).length + 7) := hsz
    have hln : (esc s.toList).length ≤ 768 := by
      have := esc_len s.toList
      rw [toList_len] at this
      omega
    have hp1 : 7 ≤ (prB (pv s)).size := by omega
    have hp2 : (prB (pv s)).size ≤ 775 := by omega
    clear hcp hpl hsz hln
    generalize prB (pv s) = p at *
    have hp7 : decide ((p.size : Int) < 7) = false := decide_eq_false (by omega)
    have f1 : ((p.extract 0 3).toList == [60, 112, 62]) = true := by rw [ext_toList, HPL.out]; simp
    have f2 : ((p.extract (p.size - 4) p.size).toList == [60, 47, 112, 62]) = true := by
      rw [ext_toList, HPL.out, HSZ.out]
      rw [show (esc s.toList).length + 7 - 4 = ([60, 112, 62] ++ esc s.toList).length by simp, ← List.append_assoc, List.drop_left]
      simp
    have HQ : Hid ((p.extract 3 (p.size - 4)).toList = esc s.toList) := by
      show _ = _
      rw [ext_toList, HPL.out, HSZ.out]
      rw [show (esc s.toList).length + 7 - 4 - 3 = (esc s.toList).length by omega]
      simp
    go_wp2_with (go_at_call 12; refine CP.out.mono ?_; rintro e w2 ⟨rfl, hb2⟩)
    go_wp2_with (go_at_call 16; refine (num_any _ _).mono ?_; rintro e w6 ⟨rfl, hw6⟩; subst w6)
    have HB2 : Hid (Below w.heap.size w w2) := nxt B1.out (nxt (below_one _ _) hb2)
    clear hb2 f1 f2 hp7 CP
    have hsl := fun wx => slice_at p 3 ((p.size : Int) - 4) 3 (p.size - 4) rfl (by omega) (by omega) (by omega) wx
    have HQS : Hid ((p.extract 3 (p.size - 4)).size = (esc s.toList).length) := by show _ = _; rw [← toList_len, HQ.out]
    have hq9 : (p.extract 3 (p.size - 4)).size ≤ 768 := by have := HQS.out; have := HSZ.out; omega
    generalize p.extract 3 (p.size - 4) = q at *
    go_wp2_with fail
    clear hsl
    have HN : Hid ((w2.alloc (.cells #[.string ⟨#[38, 97, 109, 112, 59]⟩, .string ⟨#[38, 108, 116, 59]⟩, .string ⟨#[38, 103, 116, 59]⟩, .string ⟨#[38, 113, 117, 111, 116, 59]⟩] 9)).heap[w2.heap.size]? = _) := heap_alloc_new _ _
    have HB3 : Hid (Below w.heap.size w (w2.alloc (.cells #[.string ⟨#[38, 97, 109, 112, 59]⟩, .string ⟨#[38, 108, 116, 59]⟩, .string ⟨#[38, 103, 116, 59]⟩, .string ⟨#[38, 113, 117, 111, 116, 59]⟩] 9))) := nxt HB2.out (below_one _ _)
    generalize (w2.alloc (.cells #[.string ⟨#[38, 97, 109, 112, 59]⟩, .string ⟨#[38, 108, 116, 59]⟩, .string ⟨#[38, 103, 116, 59]⟩, .string ⟨#[38, 113, 117, 111, 116, 59]⟩] 9)) = W3 at *
    generalize w2.heap.size = nb at *
    clear HPL HSZ hp1 hp2 HB2
    go_loop [6, 7] (fun v6 v7 => ∃ (m I : Nat) (B : ByteArray), v6 = .string B ∧ v7 = .int .i64 I ∧ I ≤ q.size ∧ Hid (B.toList = s.toList.take m) ∧ Hid (I = (esc (s.toList.take m)).length) ∧ Hid (m ≤ s.toList.length)) (fun _ v7 => q.size - (intOf v7).toNat)
    case atStart => exact ⟨0, 0, ⟨#[]⟩, rfl, rfl, Nat.zero_le _, (by show _ = _; rw [ByteArray.toList_eq]; rfl), rfl, Nat.zero_le _⟩
    case round =>
      obtain ⟨m, I, B, rfl, rfl, hI, HBM, HIM, HM⟩ := hrel
      by_cases hlt : I < q.size
      · have hml : m < s.toList.length := by
          have h1 := HM.out
          have h2 := HIM.out
          have h3 := HQS.out
          by_cases e : m = s.toList.length
          · exfalso
            rw [e, List.take_length] at h2
            omega
          · omega
        have hI1 : (I : Int) < (q.size : Int) := by omega
        obtain ⟨o, hd1, hd2, hd3, hd4⟩ := place hml
        have HD : Hid (q.toList.drop I = escO o ++ esc (s.toList.drop (m + 1))) := by show _ = _; rw [HQ.out, HIM.out]; exact hd1
        have HL : Hid ((esc (s.toList.take (m + 1))).length = I + (escO o).length) := by show _ = _; rw [HIM.out]; exact hd2
        have HTK : Hid (s.toList.take (m + 1) = s.toList.take m ++ [o]) := hd3
        have HM2 : Hid (m + 1 ≤ s.toList.length) := hml
        have HLQ : Hid (I + (escO o).length ≤ q.size) := by show _ ≤ _; rw [HIM.out, HQS.out]; exact hd4
        clear hml hd1 hd2 hd3 hd4
        have hBs : B.size ≤ 128 := by
          have h1 := toList_len B
          rw [HBM.out, List.length_take, toList_len] at h1
          omega
        rcases esc_mark o with ⟨o0, o1, o2, o3, oe⟩ | ⟨k, hk, ok, oe⟩
        · have hqi : q[I] = o := at_drop hlt (z := esc (s.toList.drop (m + 1))) (by rw [HD.out, oe]; rfl)
          have ne : ∀ c : UInt8, o ≠ c → ((q[I].toNat : Int) == (c.toNat : Int)) = false := fun c hc => by
            rw [hqi, beq_eq_false_iff_ne]; intro e; exact hc (UInt8.toNat_inj.1 (by omega))
          have n60 : ((q[I].toNat : Int) == 60) = false := ne 60 o1
          have n62 : ((q[I].toNat : Int) == 62) = false := ne 62 o2
          have n34 : ((q[I].toNat : Int) == 34) = false := ne 34 o3
          have n38 : ((q[I].toNat : Int) == 38) = false := ne 38 o0
          have m38 : ((q[I].toNat : Int) != 38) = true := by rw [bne, n38]; rfl
          have hsl := fun wx => slice_at q (I : Int) ((I : Int) + 1) I (I + 1) rfl (by omega) (by omega) (by omega) wx
          have HX : Hid ((B ++ q.extract I (I + 1)).toList = s.toList.take (m + 1)) := by
            show _ = _
            rw [app_toList, ext_toList, HBM.out, HD.out, oe, HTK.out]
            simp
          have HI2 : Hid (I + 1 = (esc (s.toList.take (m + 1))).length) := by show _ = _; rw [HL.out, oe]; rfl
          clear ne hqi oe HLQ
          have hcat : B.size + (q.extract I (I + 1)).size ≤ 9223372036854775807 := by rw [ByteArray.size_extract]; omega
          go_wp2_with fail
          go_round
          case rel => exact ⟨m + 1, I + 1, _, rfl, by go_num, by omega, HX.out, HI2.out, HM2.out⟩
          case measure => simp [intOf]; omega
        · obtain ⟨z, hz⟩ := ms_head hk
          have hqi : q[I] = 38 := at_drop hlt (z := z ++ esc (s.toList.drop (m + 1))) (by rw [HD.out, oe, hz]; rfl)
          have n60 : ((q[I].toNat : Int) == 60) = false := by rw [hqi]; rfl
          have n62 : ((q[I].toNat : Int) == 62) = false := by rw [hqi]; rfl
          have n34 : ((q[I].toNat : Int) == 34) = false := by rw [hqi]; rfl
          have n38 : ((q[I].toNat : Int) == 38) = true := by rw [hqi]; rfl
          have m38 : ((q[I].toNat : Int) != 38) = false := by rw [hqi]; rfl
          have HOE : Hid (escO o = (ms k).toList) := oe
          have HOK : Hid (o = mo k) := ok
          have HDK : Hid (q.toList.drop I = (ms k).toList ++ esc (s.toList.drop (m + 1))) := by show _ = _; rw [HD.out, oe]
          have HLQ2 : Hid (I + (ms k).size ≤ q.size) := by have := HLQ.out; rw [oe, toList_len] at this; exact this
          clear hqi oe ok hz HLQ
          go_wp2_with fail
          go_loop [6, 7, 8, 9] (fun v6 v7 v8 v9 => ∃ j : Nat, j ≤ 4 ∧ v9 = .int .i64 j ∧ Hid (Nm k j I B (B ++ (⟨#[38, 60, 62, 34]⟩ : ByteArray).extract k (k + 1)) v6 v7 v8)) (fun _ _ _ v9 => 4 - (intOf v9).toNat)
          case atStart => exact ⟨0, by omega, rfl, Or.inl ⟨rfl, rfl, rfl, Nat.zero_le _⟩⟩
          case round =>
            obtain ⟨j, hj4, rfl, HNM⟩ := hrel
            rcases HNM.out with ⟨rfl, rfl, rfl, hjk⟩ | ⟨rfl, rfl, rfl, hjk⟩
            · have hj : j < 4 := by omega
              have hj1 : (j : Int) < 4 := by omega
              have q0 := names_at HN.out hj
              have hms : (ms j).size ≤ 6 := ms_size j
              by_cases hjk2 : j < k
              · have HNE := ms_ne hjk2 hk (esc (s.toList.drop (m + 1)))
                have HT : Hid (I + (ms j).size ≤ q.size → ((q.extract I (I + (ms j).size)).toList == (ms j).toList) = false) := fun hle => by
                  rw [ext_toList, HDK.out, beq_eq_false_iff_ne, show I + (ms j).size - I = (ms j).size by omega]
                  exact HNE
                clear HNE
                generalize ms j = nj at *
                by_cases hle : I + nj.size ≤ q.size
                · have dl : decide ((nj.size : Int) ≤ (q.size : Int) - (I : Int)) = true := decide_eq_true (by omega)
                  have ht := HT.out hle
                  have hsl := fun wx => slice_at q (I : Int) ((I : Int) + (nj.size : Int)) I (I + nj.size) rfl (by omega) (by omega) hle wx
                  clear HT
                  go_wp2_with fail
                  go_round
                  case rel => exact ⟨j + 1, by omega, by go_num, Or.inl ⟨rfl, rfl, rfl, by omega⟩⟩
                  case measure => simp [intOf]; omega
                · have dl : decide ((nj.size : Int) ≤ (q.size : Int) - (I : Int)) = false := decide_eq_false (by omega)
                  clear HT
                  go_wp2_with fail
                  go_round
                  case rel => exact ⟨j + 1, by omega, by go_num, Or.inl ⟨rfl, rfl, rfl, by omega⟩⟩
                  case measure => simp [intOf]; omega
              · have hje : j = k := by omega
                subst hje
                have hle := HLQ2.out
                have ht : ((q.extract I (I + (ms j).size)).toList == (ms j).toList) = true := by
                  rw [ext_toList, HDK.out, beq_iff_eq, show I + (ms j).size - I = (ms j).toList.length by rw [toList_len]; omega, List.take_left]
                have hst := fun wx => slice_at ⟨#[38, 60, 62, 34]⟩ (j : Int) ((j : Int) + 1) j (j + 1) rfl (by omega) (by omega) (by show j + 1 ≤ 4; omega) wx
                have HFIN : Hid (∀ x y z, x = Value.bool true → y = Value.string (B ++ (⟨#[38, 60, 62, 34]⟩ : ByteArray).extract j (j + 1)) → z = Value.int .i64 ((I + (ms j).size : Nat) : Int) → Nm j (j + 1) I B (B ++ (⟨#[38, 60, 62, 34]⟩ : ByteArray).extract j (j + 1)) y z x) := fun x y z h1 h2 h3 => Or.inr ⟨h1, h2, h3, rfl⟩
                have hcat : B.size + ((⟨#[38, 60, 62, 34]⟩ : ByteArray).extract j (j + 1)).size ≤ 9223372036854775807 := by rw [ByteArray.size_extract]; omega
                generalize ms j = nj at *
                generalize (⟨#[38, 60, 62, 34]⟩ : ByteArray).extract j (j + 1) = ex at *
                have dl : decide ((nj.size : Int) ≤ (q.size : Int) - (I : Int)) = true := decide_eq_true (by omega)
                have hsl := fun wx => slice_at q (I : Int) ((I : Int) + (nj.size : Int)) I (I + nj.size) rfl (by omega) (by omega) hle wx
                go_wp2_with fail
                go_round
                case rel => exact ⟨j + 1, by omega, by go_num, HFIN.out _ _ _ rfl rfl (by go_num)⟩
                case measure => simp [intOf]; omega
            · subst hjk
              have HX : Hid ((B ++ (⟨#[38, 60, 62, 34]⟩ : ByteArray).extract k (k + 1)).toList = s.toList.take (m + 1)) := by
                show _ = _
                rw [app_toList, mo_text hk, HBM.out, HTK.out, HOK.out]
              have HI2 : Hid (I + (ms k).size = (esc (s.toList.take (m + 1))).length) := by show _ = _; rw [HL.out, HOE.out, toList_len]
              have hle := HLQ2.out
              have hpos : 0 < (ms k).size := by
                obtain ⟨z, hz⟩ := ms_head hk
                rw [← toList_len, hz]; simp
              generalize ms k = nk at *
              generalize B ++ (⟨#[38, 60, 62, 34]⟩ : ByteArray).extract k (k + 1) = B2 at *
              go_wp2_with fail
              all_goals
                go_round
                case rel => exact ⟨m + 1, I + nk.size, _, rfl, by go_num, by omega, HX.out, HI2.out, HM2.out⟩
                case measure => simp [intOf]; omega
      · have hE : s.toList.take m = s.toList := esc_end (by have := HIM.out; have := HQS.out; omega)
        have hfin : (B.toList == s.toList) = true := by rw [HBM.out, hE]; simp
        clear hE
        go_wp2_with fail
        go_ret
        exact ⟨rfl, HB3.out⟩

set_option maxRecDepth 100000 in
set_option maxHeartbeats 1600000 in
theorem lifted (os : Os) (started : os.Started) (H : Type) (enc : TypeId × Value → H) :
    ReturnsInHanded {} Try.checked os 8 .any (Rows.treeEscapesSpec.pre6 enc Try.prog Try.f8 Rows.treeEscapesRow.domain false) (Rows.treeEscapesSpec.post enc Try.prog Try.f8 false true false false) := by
  refine returnsInHanded_of_change_sized (C := Try.checked) Try.own started (by kernel_rfl) Try.func8
    (ChangeSpec.witness6 (enc := enc) (C := Try.checked) false ⟨#[], #[.string ⟨#[]⟩], []⟩ 8 (by kernel_rfl) (by kernel_rfl) (by kernel_rfl) (by kernel_rfl)) ?_
  intro W base args ds gs before hval0 hW _ hsz0 _
  have hsz : (DataW.weightsEach Try.prog (Try.f8.params.toList ++ Rows.treeEscapesSpec.plain.varTypes Try.prog) (ds ++ gs)).all (· ≤ reachBytes) = true := hsz0
  have hval : ∀ (j : Nat) t v, Try.f8.params[j]? = some t → args[j]? = some v → Value.okWide Try.prog W .any base t v := hval0
  have hW' := hW
  obtain ⟨p, q, hA0, hV, rfl, hfz, hnd⟩ := hW
  have hA : DataW.TrodAll enc Try.prog W 0 (fun _ => true) true Try.f8.params.toList args.toList ds p := hA0
  rw [Try.params8] at hA hval hsz
  obtain ⟨v0, vs0, d0, ds0, p0, q0, hargs, rfl, rfl, h0, r0⟩ := trodAll_cons hA
  obtain ⟨rfl, rfl, rfl⟩ := trodAll_nil r0
  obtain rfl : args = #[v0] := by cases args; simp_all
  obtain ⟨rfl, rfl⟩ := trodVars_none hV
  clear hA0 hval0
  simp only [List.append_nil] at hW' hsz
  have hlt : ∀ x ∈ p0, x.block < W.heap.size := fun x hx => hW'.lt x (by simpa using hx)
  have hall : ∀ x ∈ DataW.weightsEach Try.prog [9] [d0], x ≤ reachBytes := fun x hx => of_decide_eq_true (List.all_eq_true.1 hsz x hx)
  have g0 : ∀ x ∈ d0.weights Try.prog 9, x ≤ reachBytes := fun x hx => hall x (DataW.weights_mem_each (j := 0) rfl rfl x hx)
  obtain ⟨u0, rfl, hd0, rfl, w0⟩ := open_string Try.underlying9 (hval 0 _ v0 rfl rfl) h0
  have l0 : u0.size ≤ 140737488351232 := by have := g0 u0.data.toList.length (by rw [hd0]; simp [DataW.weights]); rw [reach_eq] at this; have e : u0.data.toList.length = u0.size := (by cases u0; rfl); omega
  subst hd0
  refine (walk u0 W l0).mono fun e W' ⟨he, bel⟩ => ?_
  subst he
  exact ⟨_, rfl, _, _, _, [], _, [], hW', trodAll_mk1 (shut_bool Try.underlying4 _), (trodAll_cons_mk (shut_string Try.underlying9 w0) trodAll_mk0), rfl, bel.frame _, fun h => by cases h⟩

theorem over : Rows.treeEscapesRow.holds Try.pinned (OpenSpec.ofChange Rows.treeEscapesSpec) :=
  OpenClaim.holds_of_wide 8 Try.f8 rfl rfl rfl rfl rfl rfl rfl ⟨rfl, rfl, rfl, rfl, rfl⟩ rfl rfl rfl rfl rfl (by kernel_rfl) Try.func8 (by kernel_rfl)
    (of_decide_eq_true (by kernel_rfl)) (by unfold Func.isWrapper; first | (rw [if_pos (by decide +kernel)]; kernel_rfl) | (rw [if_neg (by decide +kernel)]; exact ⟨rfl, rfl⟩))
    (fun os started H enc _ => lifted os started H enc)

/-- THE STATEMENT. -/
theorem proved : Rows.TreeEscapesSaid := over
#print axioms proved
end Go.Proofs.Ytoheppocolbjkaa.treeEscapes
