/-
  Writes are laid into sectors: the program's lay.
-/
import Derived.Test.YtokebdeaahdcjabDkRange
namespace Go.Proofs.Ytokebdeaahdcjab
open Go.ChangeShapes Go.WideShapes Go.ChangeAt Go.RowKit Go.Deep
open Dk (Wr St)

attribute [local go_sem] Oper.semAt_some

theorem lay1_succ : ∀ (i : Nat) (ss : List (List UInt8)) (a : Nat) (d : List UInt8), 48 * i < d.length → Dk.lay1 (i + 1) ss a d = Dk.putS (Dk.lay1 i ss a d) (a + i) ((d.drop (48 * i)).take 48)
  | 0, ss, a, d, h => by
    have h0 : d ≠ [] := by rintro rfl; simp at h
    simp [Dk.lay1, h0]
  | i + 1, ss, a, d, h => by
    have h0 : d ≠ [] := by rintro rfl; simp at h
    have e1 : Dk.lay1 (i + 1 + 1) ss a d = Dk.lay1 (i + 1) (Dk.putS ss a (d.take 48)) (a + 1) (d.drop 48) := by rw [Dk.lay1, if_neg h0]
    have e2 : Dk.lay1 (i + 1) ss a d = Dk.lay1 i (Dk.putS ss a (d.take 48)) (a + 1) (d.drop 48) := by rw [Dk.lay1, if_neg h0]
    rw [e1, e2, lay1_succ i _ _ _ (by rw [List.length_drop]; omega), List.drop_drop]
    have e3 : a + 1 + i = a + (i + 1) := by omega
    have e4 : 48 + 48 * i = 48 * (i + 1) := by omega
    rw [e3, e4]

theorem lay1_more : ∀ (k q : Nat) (ss : List (List UInt8)) (a : Nat) (d : List UInt8), d.length = 48 * k → k ≤ q → Dk.lay1 q ss a d = Dk.lay1 k ss a d
  | 0, 0, _, _, _, _, _ => rfl
  | 0, q + 1, ss, a, d, h, _ => by
    have h0 : d = [] := List.eq_nil_of_length_eq_zero (by omega)
    simp [Dk.lay1, h0]
  | k + 1, 0, _, _, _, _, hq => by omega
  | k + 1, q + 1, ss, a, d, h, hq => by
    have h0 : d ≠ [] := by rintro rfl; simp at h
    rw [Dk.lay1, Dk.lay1, if_neg h0, if_neg h0]
    exact lay1_more k q _ _ _ (by rw [List.length_drop]; omega) (by omega)

theorem layA_take (kp : Nat → Int) (ss : List (List UInt8)) (ws : List Wr) (m : Nat) (x : Wr) (h : ws[m]? = some x) : Dk.layA kp 0 ss (ws.take (m + 1)) = Dk.lay1 (kp m).toNat (Dk.layA kp 0 ss (ws.take m)) x.sec.toNat x.d := by
  have hlt := (List.getElem?_eq_some_iff.1 h).1
  have e : ws.take (m + 1) = ws.take m ++ [x] := by
    rw [List.take_succ_eq_append_getElem hlt]
    rw [List.getElem?_eq_getElem hlt] at h
    simp only [Option.some.injEq] at h
    rw [h]
  rw [e, Dk.layA_snoc, List.length_take, Nat.min_eq_left (by omega), Nat.zero_add]

theorem Try.sizeU8 : (Try.prog.info? 5).map (·.size) = some 1 := by kernel_rfl

/-- What holds of the loop over a write's sectors: i sectors are laid. -/
structure LInv (w0 W0 : World) (T Bl : Nat) (wins : List (Option (Nat × Nat))) (ss : List (List UInt8)) (left : Int) (i : Nat) (W : World) : Prop where
  bel : Below w0.heap.size w0 W
  size : W0.heap.size ≤ W.heap.size
  kn : ∀ (j : Nat) (o : Obj), W0.heap[j]? = some o → j ≠ Bl → (∀ cs r, o ≠ .cells cs 5 r) → W.heap[j]? = some o
  wn : Wn W T wins ss
  lf : W.heap[Bl]? = some (.cells #[.int .i64 left] 3 (0, 0))

theorem LInv.stay {w0 W0 W W' : World} {T Bl B : Nat} {wins : List (Option (Nat × Nat))} {ss : List (List UInt8)} {left : Int} {i : Nat} (h : LInv w0 W0 T Bl wins ss left i W) (k : Stay B W W') (h0 : w0.heap.size ≤ W0.heap.size) (hB : B = W0.heap.size) : LInv w0 W0 T Bl wins ss left i W' :=
  ⟨Below.stay h.bel k (by omega), Nat.le_trans h.size k.kp.1, fun j o hj hn hu => (k.old j (by rw [hB]; exact lt_of_block hj)).trans (h.kn j o hj hn hu), h.wn.keep k.kp, k.kp.2 _ _ _ _ h.lf⟩

set_option maxRecDepth 100000 in
set_option maxHeartbeats 3200000 in
theorem lay_any (kf : Nat) (lb : Array Value) (kp : Nat → Int) (w0 w : World) (T c : Nat) (wins : List (Option (Nat × Nat))) (ss : List (List UInt8)) (ws : List Wr) (aw : Option Addr) (cw : Nat)
    (eg : ∀ args w, (callFunc kf args).run Try.prog w = .ok (.enter kf args) w)
    (hk : ∀ (i : Nat) W, i < ws.length → Below w0.heap.size w0 W → Calls Try.prog kf (#[.int .i64 (i : Nat)] ++ lb) W fun e W' => e = .returned (.int .i64 (kp i)) ∧ W' = W)
    (hkp : ∀ i, -9223372036854775808 ≤ kp i ∧ kp i ≤ 9223372036854775807)
    (hb : Below w0.heap.size w0 w) (hwn : Wn w T wins ss) (hap : Apart wins) (hup : WinsUp w0.heap.size wins) (hlw : LayW w0 aw ws) (hok : ∀ x ∈ ws, Dk.OkW ss.length x) (hn : ss.length ≤ 4096) (hm : ws.length ≤ 4096) :
    Calls Try.prog 37 #[.slice (some ⟨T, 0, none⟩) ss.length c, .slice aw ws.length cw, .func (.func kf) #[] lb] w fun e w' => e = .returned (.tuple #[]) ∧ Wn w' T wins (Dk.layA kp 0 ss ws) ∧ Below w0.heap.size w0 w' ∧ KpN w w' := by
  refine (callsIn_wide (n := 9)).1 (callsIn_of_wp_marks Try.func37 rfl trivial ?_ rfl)
  simp only [Try.ntmps37, List.size_toArray, List.length_cons, List.length_nil, Nat.reduceAdd, Nat.reduceSub, Array.replicate_succ, Array.replicate_zero, List.push_toArray, List.append_toArray, List.nil_append, List.cons_append]
  gi_wp2
  have HB0 : Hid (Below w0.heap.size w0 (w.alloc (.cells #[.slice (some ⟨T, 0, none⟩) ss.length c] 22))) := hb.alloc hb.size _
  have HN0 : Hid (KpN w (w.alloc (.cells #[.slice (some ⟨T, 0, none⟩) ss.length c] 22))) := KpN.below (below_one _ _)
  have HX0 : Hid ((w.alloc (.cells #[.slice (some ⟨T, 0, none⟩) ss.length c] 22)).heap[w.heap.size]? = some (.cells #[.slice (some ⟨T, 0, none⟩) ss.length c] 22 (0, 0))) := heap_alloc_new _ _
  have HW0 : Hid (Wn (w.alloc (.cells #[.slice (some ⟨T, 0, none⟩) ss.length c] 22)) T wins ss) := hwn.keep (KpC.below (below_one _ _))
  have HZ0 : Hid ((w.alloc (.cells #[.slice (some ⟨T, 0, none⟩) ss.length c] 22)).heap.size = w.heap.size + 1) := by show _ = _; simp
  have HLW : Hid (LayW w0 aw ws) := hlw
  have HOK : Hid (∀ x ∈ ws, Dk.OkW ss.length x) := hok
  have HAP : Hid (Apart wins) := hap
  have HUP : Hid (WinsUp w0.heap.size wins) := hup
  have HK : Hid (∀ (i : Nat) W, i < ws.length → Below w0.heap.size w0 W → Calls Try.prog kf (#[.int .i64 (i : Nat)] ++ lb) W fun e W' => e = .returned (.int .i64 (kp i)) ∧ W' = W) := hk
  have HKP : Hid (∀ i, -9223372036854775808 ≤ kp i ∧ kp i ≤ 9223372036854775807) := hkp
  have HSZ : Hid (w0.heap.size ≤ w.heap.size) := hb.size
  clear hb hwn hlw hok hap hup hk hkp
  generalize w.alloc (.cells #[.slice (some ⟨T, 0, none⟩) ss.length c] 22) = w1 at *
  refine wpIn_loop (fun a W => ∃ (m : Nat) (u6 u7 u8 u9 u10 u14 u15 u16 u17 u18 u19 u20 u21 u22 u23 u24 u25 u26 u27 u28 u29 u30 u31 u32 u33 u34 u35 u36 u37 u38 : Value) (ds : List Deferred) (Ds : List Nat), a = { tmps := #[.slice (some ⟨T, 0, none⟩) ss.length c, .slice aw ws.length cw, .func (.func kf) #[] lb, .pointer (some ⟨w.heap.size, 0, none⟩), undef, undef, u6, u7, u8, u9, u10, .slice aw ws.length cw, .int .i64 (ws.length : Nat), .int .i64 ((m : Nat) : Int), u14, u15, u16, u17, u18, u19, u20, u21, u22, u23, u24, u25, u26, u27, u28, u29, u30, u31, u32, u33, u34, u35, u36, u37, u38], defers := ds } ∧ m ≤ ws.length ∧ Hid (Marks (w.heap.size + 1) W ds Ds) ∧ Hid (Below w0.heap.size w0 W) ∧ Hid (KpN w1 W) ∧ Hid (Wn W T wins (Dk.layA kp 0 ss (ws.take m))))
    (fun a _ => ws.length - (intOf (a.tmps.getD 13 undef)).toNat) ?start ?round
  case start => exact ⟨0, undef, undef, undef, undef, undef, undef, undef, undef, undef, undef, undef, undef, undef, undef, undef, undef, undef, undef, undef, undef, undef, undef, undef, undef, undef, undef, undef, undef, undef, undef, [], [], rfl, by omega, ⟨rfl, List.nodup_nil, fun _ h => by cases h⟩, HB0.out, KpN.refl _, by show Wn _ _ _ _; simpa [Dk.layA] using HW0.out⟩
  case round =>
    rintro _ W ⟨m, u6, u7, u8, u9, u10, u14, u15, u16, u17, u18, u19, u20, u21, u22, u23, u24, u25, u26, u27, u28, u29, u30, u31, u32, u33, u34, u35, u36, u37, u38, ds, Ds, rfl, hm1, HM, HB, HN, HW⟩
    by_cases hlt : m < ws.length
    · have hlt1 : (m : Int) < (ws.length : Int) := by omega
      obtain ⟨x, hx⟩ : ∃ x, ws[m]? = some x := ⟨_, List.getElem?_eq_getElem hlt⟩
      obtain ⟨b, off, a1, c1, rfl, q0, q1, q2, q3, q4, q5, q6⟩ := (HLW.out.below HB.out) m x hx
      have HQ3 : Hid (Oct w0 a1 c1 x.d) := by
        obtain ⟨b', off', a1', c1', e, p0, p1, p2, p3, -⟩ := HLW.out m x hx
        cases e
        have := (keepc HB.out _ _ p2).symm.trans q2
        simp only [Option.some.injEq, Value.slice.injEq, true_and] at this
        obtain ⟨rfl, rfl⟩ := this
        exact p3
      have HX : Hid (ws[m]? = some x) := hx
      have HXO : Hid (Dk.OkW ss.length x) := HOK.out x (List.mem_of_getElem? hx)
      clear hx q3
      have HB1 : Hid (Below w0.heap.size w0 (W.alloc (.cells #[.bool x.fl, .int .i64 x.sec, .slice a1 x.d.length c1] 28))) := HB.out.alloc HB.out.size _
      gi_wp2
      refine ⟨trivial, (callsIn_wide.2 (HK.out m _ hlt HB1.out)).mono ?_⟩
      rintro e W2 ⟨rfl, rfl⟩
      gi_wp2
      refine ⟨trivial, (callsIn_wide.2 (cut_any x.sec a1 x.d.length c1 _)).mono ?_⟩
      rintro e W5 ⟨rfl, hW5⟩
      have hsz5 : W5.heap.size = W.heap.size + 4 := by rw [hW5]; simp
      have HB5 : Hid (Below W.heap.size W W5) := by
        show Below _ _ _
        rw [hW5]
        exact nxt (nxt (nxt (below_one _ _) (below_one _ _)) (below_one _ _)) (below_one _ _)
      have HP1 : Hid (W5.cell? ⟨W.heap.size + 1 + 1, 0, none⟩ = some (.int .i64 x.sec)) := by
        show _ = _
        have h := heap_alloc_new ((W.alloc (.cells #[.bool x.fl, .int .i64 x.sec, .slice a1 x.d.length c1] 28)).alloc (.cells #[.int .i64 (kp m)] 3)) (.cells #[.int .i64 x.sec] 3)
        have h' := (Below.heap_alloc _ (.cells #[.slice a1 x.d.length c1] 26) _ (lt_of_block h)).trans h
        rw [← hW5] at h'
        simp only [World.size_alloc] at h'
        exact (cell_of h' 0).1
      have HP2 : Hid (W5.cell? ⟨W.heap.size + 1 + 1 + 1, 0, none⟩ = some (.slice a1 x.d.length c1)) := by
        show _ = _
        have h := heap_alloc_new (((W.alloc (.cells #[.bool x.fl, .int .i64 x.sec, .slice a1 x.d.length c1] 28)).alloc (.cells #[.int .i64 (kp m)] 3)).alloc (.cells #[.int .i64 x.sec] 3)) (.cells #[.slice a1 x.d.length c1] 26)
        rw [← hW5] at h
        simp only [World.size_alloc] at h
        exact (cell_of h 0).1
      have HLF : Hid (W5.heap[W.heap.size + 1]? = some (.cells #[.int .i64 (kp m)] 3 (0, 0))) := by
        show _ = _
        have h := heap_alloc_new (W.alloc (.cells #[.bool x.fl, .int .i64 x.sec, .slice a1 x.d.length c1] 28)) (.cells #[.int .i64 (kp m)] 3)
        have h1 := (Below.heap_alloc _ (.cells #[.int .i64 x.sec] 3) _ (lt_of_block h)).trans h
        have h2 := (Below.heap_alloc _ (.cells #[.slice a1 x.d.length c1] 26) _ (lt_of_block h1)).trans h1
        rw [← hW5] at h2
        simp only [World.size_alloc] at h2
        exact h2
      clear hW5 HB1 q0 q1 q2
      have HSB : Hid (W5.heap[w.heap.size]? = some (.cells #[.slice (some ⟨T, 0, none⟩) ss.length c] 22 (0, 0))) := by
        have h := HN.out.2 _ _ HX0.out (by intro cs r e; simp at e)
        exact (HB5.out.block _ (lt_of_block h)).trans h
      have HB0' : Hid (Below w0.heap.size w0 W5) := HB.out.trans (HB5.out.mono HB.out.size)
      have HW5 : Hid (Wn W5 T wins (Dk.layA kp 0 ss (ws.take m))) := HW.out.keep (KpC.below HB5.out)
      have HLEN : Hid ((Dk.layA kp 0 ss (ws.take m)).length = ss.length) := Dk.layA_length _ _ _ _
      have HTK : Hid (Dk.layA kp 0 ss (ws.take (m + 1)) = Dk.lay1 (kp m).toNat (Dk.layA kp 0 ss (ws.take m)) x.sec.toNat x.d) := layA_take kp ss ws m x HX.out
      have HKM : Hid (-9223372036854775808 ≤ kp m ∧ kp m ≤ 9223372036854775807) := HKP.out m
      have HM5 : Hid (Marks (w.heap.size + 1) W5 ds Ds ∧ KpN w1 W5 ∧ (∀ D ∈ Ds, D < W5.heap.size)) := by
        have h := HM.out.keep (KpN.below HB5.out)
        exact ⟨h, HN.out.trans (KpN.below HB5.out), fun D hD => lt_of_block (h.there D hD).2⟩
      have HLT : Hid (w0.heap.size ≤ W.heap.size + 1) := by
        have := HB.out.size
        show _ ≤ _
        omega
      have HLT2 : Hid (w.heap.size + 1 ≤ W.heap.size) := by
        have h1 := HN.out.1
        have h2 := HZ0.out
        show _ ≤ _
        omega
      have HSZ5 : Hid (W5.heap.size = W.heap.size + 4) := hsz5
      clear HM HB HN HW HK HKP HOK HLW HX HB0 HN0 HX0 HW0 hsz5
      gi_wp2
      generalize Dk.layA kp 0 ss (ws.take m) = SS at *
      generalize kp m = KM at *
      obtain ⟨-, hs0, hd0, hd48, hfit⟩ := HXO.out
      obtain ⟨fl, sec, d⟩ := x
      simp only at *
      obtain ⟨sn, rfl⟩ : ∃ sn : Nat, sec = (sn : Int) := ⟨sec.toNat, by omega⟩
      rw [Int.toNat_natCast] at *
      obtain ⟨k, hk⟩ : ∃ k, d.length = 48 * k := ⟨d.length / 48, by omega⟩
      have HKL : Hid (d.length = 48 * k) := hk
      clear hk
      obtain ⟨b2, o2, rfl⟩ : ∃ b2 o2, a1 = some (⟨b2, o2, none⟩ : Addr) := by
        obtain ⟨b2, o2, e, -⟩ := HQ3.out.1 0 _ (List.getElem?_eq_getElem hd0)
        exact ⟨b2, o2, e⟩
      have FIN : Hid (∀ W' : World, (∃ lf, LInv w0 W5 T (W.heap.size + 1) wins (Dk.lay1 KM.toNat SS sn d) lf 0 W') → W'.heap[W5.heap.size]? = some (.deferred (some [])) →
          Marks (w.heap.size + 1) W' ({ target := .collected W5.heap.size, args := #[] } :: ds) (W5.heap.size :: Ds) ∧ Below w0.heap.size w0 W' ∧ KpN w1 W' ∧ Wn W' T wins (Dk.layA kp 0 ss (ws.take (m + 1)))) := by
        rintro W' ⟨lf, hI⟩ hd
        obtain ⟨hm5, hn5, hd5⟩ := HM5.out
        refine ⟨⟨?_, ?_, ?_⟩, hI.bel, ⟨?_, ?_⟩, ?_⟩
        · rw [hm5.same]; rfl
        · refine List.nodup_cons.2 ⟨fun h => ?_, hm5.nodup⟩
          have := hd5 _ h
          omega
        · intro D hD
          rcases List.mem_cons.1 hD with rfl | h
          · exact ⟨by have := HSZ5.out; have := HLT2.out; omega, hd⟩
          · have h1 := hm5.there D h
            refine ⟨h1.1, hI.kn _ _ h1.2 ?_ (by intro cs r e; cases e)⟩
            rintro rfl
            have h2 := h1.2
            rw [HLF.out] at h2
            cases h2
        · exact Nat.le_trans hn5.1 hI.size
        · intro j o hj hn
          refine hI.kn _ _ (hn5.2 j o hj hn) ?_ hn
          have h1 := lt_of_block hj
          have h2 := HZ0.out
          have h3 := HLT2.out
          omega
        · rw [HTK.out]
          exact hI.wn
      refine range_cut (by omega) rfl (W.heap.size + 1 + 1) (W.heap.size + 1 + 1 + 1) rfl sn b2 o2 c1 k (some ⟨b2, o2, none⟩) (fun _ => rfl) ?hc ?hf HP1.out ?hp2
        (fun i W' => LInv w0 W5 T (W.heap.size + 1) wins (Dk.lay1 i SS sn d) (KM - i) i W' ∧ i ≤ KM.toNat) (fun id W' => id = 2 ∧ ∃ lf, LInv w0 W5 T (W.heap.size + 1) wins (Dk.lay1 KM.toNat SS sn d) lf 0 W') ?stI ?stX ?h0 (fun i => { tmps := #[.slice (some ⟨T, 0, none⟩) ss.length c, .slice (some ⟨b, off, none⟩) ws.length cw, .func (.func kf) #[] lb, .pointer (some ⟨w.heap.size, 0, none⟩), undef, undef, .int .i64 (m : Nat), .pointer (some ⟨W.heap.size, 0, none⟩), .pointer (some ⟨W.heap.size + 1, 0, none⟩), .int .i64 ((sn + i : Nat) : Int), .slice (some ⟨b2, o2 + 48 * i, none⟩) 48 (c1 - 48 * i), .slice (some ⟨b, off, none⟩) ws.length cw, .int .i64 (ws.length : Nat), .int .i64 (m : Nat), .bool true, .int .i64 (m : Nat), .pointer (some ⟨b, off + m * 3, none⟩), .agg #[.bool fl, .int .i64 (sn : Nat), .slice (some ⟨b2, o2, none⟩) d.length c1], .func (.func kf) #[] lb, .int .i64 (m : Nat), .int .i64 KM, .pointer (some ⟨W.heap.size, 1, none⟩), .int .i64 (sn : Nat), .pointer (some ⟨W.heap.size, 2, none⟩), .slice (some ⟨b2, o2, none⟩) d.length c1, .func (.func 47) #[] #[.pointer (some ⟨W.heap.size + 1 + 1, 0, none⟩), .pointer (some ⟨W.heap.size + 1 + 1 + 1, 0, none⟩)], .int .i64 ((sn + i : Nat) : Int), .slice (some ⟨b2, o2 + 48 * i, none⟩) 48 (c1 - 48 * i), u28, u29, u30, u31, u32, u33, u34, u35, u36, u37, u38], defers := [] }) ?hassign ?hbody ?hdone ?hstop
      case hc => have := HQ3.out.2.1; have := HKL.out; omega
      case hf => have := HKL.out; omega
      case hp2 => rw [← HKL.out]; exact HP2.out
      case stI => exact fun i W' W'' h st => ⟨h.1.stay st HB0'.out.size rfl, h.2⟩
      case stX => exact fun id W' W'' h st => ⟨h.1, h.2.imp fun lf hh => hh.stay st HB0'.out.size rfl⟩
      case h0 => exact ⟨⟨HB0'.out, Nat.le_refl _, fun j o h _ _ => h, HW5.out, by rw [HLF.out]; simp⟩, by omega⟩
      case hassign =>
        intro l i W' K hK
        generalize sn + i = si at *
        gi_wp2
        exact hK
      case hdone =>
        intro W' h hd
        have HF : Hid (∃ lf, LInv w0 W5 T (W.heap.size + 1) wins (Dk.lay1 KM.toNat SS sn d) lf 0 W') := ⟨_, h.1.bel, h.1.size, h.1.kn, by rw [lay1_more k _ _ _ _ HKL.out h.2]; exact h.1.wn, h.1.lf⟩
        have HD : Hid (W'.heap[W5.heap.size]? = some (.deferred (some []))) := hd
        clear h hd
        dsimp only
        gi_wp2
        obtain ⟨g1, g2, g3, g4⟩ := FIN.out W' HF.out HD.out
        refine ⟨⟨m + 1, _, _, _, _, _, _, _, _, _, _, _, _, _, _, _, _, _, _, _, _, _, _, _, _, _, _, _, _, _, _, _, W5.heap.size :: Ds, rfl, by omega, g1, g2, g3, g4⟩, ?_⟩
        simp [intOf]
        omega
      case hstop =>
        rintro id W' ⟨rfl, h⟩ hd
        have HF : Hid (∃ lf, LInv w0 W5 T (W.heap.size + 1) wins (Dk.lay1 KM.toNat SS sn d) lf 0 W') := h
        have HD : Hid (W'.heap[W5.heap.size]? = some (.deferred (some []))) := hd
        clear h hd
        dsimp only
        gi_wp2
        obtain ⟨g1, g2, g3, g4⟩ := FIN.out W' HF.out HD.out
        refine ⟨⟨m + 1, _, _, _, _, _, _, _, _, _, _, _, _, _, _, _, _, _, _, _, _, _, _, _, _, _, _, _, _, _, _, _, W5.heap.size :: Ds, rfl, by omega, g1, g2, g3, g4⟩, ?_⟩
        simp [intOf]
        omega
      case hbody =>
        rintro l i W' hi ⟨hI, hle⟩ hsz
        obtain ⟨PE, hPE⟩ : ∃ PE, PE = roundEnd W5.heap.size ((fun i W' => LInv w0 W5 T (W.heap.size + 1) wins (Dk.lay1 i SS sn d) (KM - i) i W' ∧ i ≤ KM.toNat) (i + 1)) (fun id W' => id = 2 ∧ ∃ lf, LInv w0 W5 T (W.heap.size + 1) wins (Dk.lay1 KM.toNat SS sn d) lf 0 W') W' := ⟨_, rfl⟩
        have HPE : Hid (PE = roundEnd W5.heap.size ((fun i W' => LInv w0 W5 T (W.heap.size + 1) wins (Dk.lay1 i SS sn d) (KM - i) i W' ∧ i ≤ KM.toNat) (i + 1)) (fun id W' => id = 2 ∧ ∃ lf, LInv w0 W5 T (W.heap.size + 1) wins (Dk.lay1 KM.toNat SS sn d) lf 0 W') W') := hPE
        refine (?_ : Code.wpIn _ _ _ _ (roundEnd W5.heap.size ((fun i W' => LInv w0 W5 T (W.heap.size + 1) wins (Dk.lay1 i SS sn d) (KM - i) i W' ∧ i ≤ KM.toNat) (i + 1)) (fun id W' => id = 2 ∧ ∃ lf, LInv w0 W5 T (W.heap.size + 1) wins (Dk.lay1 KM.toNat SS sn d) lf 0 W') W') _ _)
        rw [← hPE]
        clear hPE
        have hsi : sn + i < ss.length := by have := HKL.out; omega
        obtain ⟨bel, size, kn, wn, lf⟩ := hI
        have hbx := kn _ _ HSB.out (by have := HLT2.out; omega) (by intro cs r e; simp at e)
        obtain ⟨x3, -⟩ := cell_of hbx 0
        obtain ⟨xl, fl'⟩ := cell_of lf 0
        simp at x3 xl
        by_cases hleft : KM - i ≤ 0
        · have hlb : decide (KM - i ≤ 0) = true := decide_eq_true hleft
          have HE : Hid (∀ a, PE (.exit 2) a W') := by
            intro a
            rw [HPE.out]
            have hik : i = KM.toNat := by omega
            subst hik
            exact ⟨⟨Nat.le_refl _, fun _ _ _ h _ => h⟩, rfl, _, bel, size, kn, wn, lf⟩
          clear bel kn wn lf hbx
          gi_wp2
          exact HE.out _
        · have hlb : decide (KM - i ≤ 0) = false := decide_eq_false hleft
          have HBEL : Hid (Below w0.heap.size w0 W') := bel
          have HKN : Hid (∀ (j : Nat) (o : Obj), W5.heap[j]? = some o → j ≠ W.heap.size + 1 → (∀ cs r, o ≠ .cells cs 5 r) → W'.heap[j]? = some o) := kn
          have HWN : Hid (Wn W' T wins (Dk.lay1 i SS sn d)) := wn
          have HLFF : Hid (W'.heap[W.heap.size + 1]? = some (.cells #[.int .i64 (KM - i)] 3 (0, 0))) := lf
          have hlen1 : (Dk.lay1 i SS sn d).length = ss.length := (Dk.lay1_length _ _ _ _).trans HLEN.out
          obtain ⟨wnn, lrow, v, hw1, hl1, hcell, hwin⟩ := wn.row (i := sn + i) (by omega)
          have HSUC : Hid (Dk.lay1 (i + 1) SS sn d = Dk.putS (Dk.lay1 i SS sn d) (sn + i) ((d.drop (48 * i)).take 48)) := lay1_succ i SS sn d (by have := HKL.out; omega)
          have HP48 : Hid (((d.drop (48 * i)).take 48).length = 48) := by
            show _ = _
            have := HKL.out
            rw [List.length_take, List.length_drop]
            omega
          have HSRC : Hid (∀ j u, (cellsO ((d.drop (48 * i)).take 48))[j]? = some u → W'.cell? ((⟨b2, o2 + 48 * i, none⟩ : Addr).add j) = some u) := by
            intro j u hj
            simp only [cellsO, List.getElem?_map, Option.map_eq_some_iff] at hj
            obtain ⟨o', ho', rfl⟩ := hj
            rw [List.getElem?_take] at ho'
            split at ho'
            · rw [List.getElem?_drop] at ho'
              obtain ⟨b', off', e, hc'⟩ := (HQ3.out.below bel).1 _ _ ho'
              cases e
              rw [add_plain, Nat.add_assoc]
              exact hc'
            · cases ho'
          generalize (d.drop (48 * i)).take 48 = piece at *
          have HKM2 : Hid (i + 1 ≤ KM.toNat ∧ KM - ((i + 1 : Nat) : Int) = KM - i - 1) := by show _ ∧ _; omega
          have hkm1 := HKM.out.1
          have hkm2 := HKM.out.2
          have hpos : 0 < KM - (i : Int) := by omega
          have hup2 : KM - (i : Int) ≤ 9223372036854775807 := by omega
          have HLE : Hid (¬ KM - (i : Int) ≤ 0) := hleft
          -- how the round ends, once a world with the piece laid is there
          have HEND : Hid (∀ W2 : World, Below w0.heap.size w0 W2 → W5.heap.size ≤ W2.heap.size → KpN W' W2 → Wn W2 T wins (Dk.lay1 (i + 1) SS sn d) → KpO W5.heap.size W' W2 →
              ∀ a, PE .normal a (W2.setCell ⟨W.heap.size + 1, 0, none⟩ (.int .i64 (KM - i - 1)))) := by
            intro W2 hb2 hs2 hn2 hw2 ho2 _
            rw [HPE.out]
            have hl2 : W2.heap[W.heap.size + 1]? = some (.cells #[.int .i64 (KM - i)] 3 (0, 0)) := hn2.2 _ _ HLFF.out (by intro cs r e; simp at e)
            have hoth : ∀ j, j ≠ W.heap.size + 1 → (W2.setCell ⟨W.heap.size + 1, 0, none⟩ (.int .i64 (KM - i - 1))).heap[j]? = W2.heap[j]? := fun j hj => Below.heap_setCell _ _ _ _ hj
            have hset : (W2.setCell ⟨W.heap.size + 1, 0, none⟩ (.int .i64 (KM - i - 1))).heap[W.heap.size + 1]? = some (.cells #[.int .i64 (KM - i - 1)] 3 (0, 0)) := Boxed.set _ hl2
            have hsize : (W2.setCell ⟨W.heap.size + 1, 0, none⟩ (.int .i64 (KM - i - 1))).heap.size = W2.heap.size := by simp [World.setCell]
            refine ⟨⟨by rw [hsize]; exact ho2.1, fun j o hj h1 h2 => ?_⟩, ⟨?_, ?_, ?_, ?_, ?_⟩, HKM2.out.1⟩
            · have h3 := ho2.2 j o hj h1 h2
              rw [hoth j (by have := HSZ5.out; omega)]
              exact h3
            · exact hb2.setCell (by show w0.heap.size ≤ W.heap.size + 1; exact HLT.out) _
            · rw [hsize]; exact hs2
            · intro j o h1 h2 h3
              rw [hoth j h2]
              exact hn2.2 _ _ (HKN.out j o h1 h2 h3) h3
            · obtain ⟨tab, t1, t2, t3⟩ := hw2.tab
              have hne : ∀ (g : Nat) (cs : Array Value) (t : TypeId) (r : Nat × Nat), t ≠ 3 → W2.heap[g]? = some (.cells cs t r) → (W2.setCell ⟨W.heap.size + 1, 0, none⟩ (.int .i64 (KM - i - 1))).heap[g]? = some (.cells cs t r) := by
                intro g cs t r ht hg
                rw [hoth g (by rintro rfl; rw [hl2] at hg; simp only [Option.some.injEq, Obj.cells.injEq] at hg; exact ht hg.2.1.symm)]
                exact hg
              refine ⟨hw2.len, tab, hne _ _ _ _ (by decide) t1, t2, fun q wq lq h1 h2 => ?_⟩
              obtain ⟨xq, e1, e2⟩ := t3 q wq lq h1 h2
              refine ⟨xq, e1, ?_⟩
              cases wq with
              | none => exact e2
              | some pq =>
                obtain ⟨cq, curq, f1, f2, f3, f4, f5, f6⟩ := e2
                exact ⟨cq, curq, f1, f2, f3, f4, hne _ _ _ _ (by decide) f5, f6⟩
            · rw [hset, HKM2.out.2]
          have hsi2 : ((sn + i : Nat) : Int) < (ss.length : Int) := by omega
          clear bel kn wn lf hbx hleft
          cases wnn with
          | none =>
            obtain ⟨rfl, rfl⟩ := hwin
            have HE := HEND.out W' HBEL.out size (KpN.refl _) (by rw [HSUC.out, putS_none hl1]; exact HWN.out) ⟨Nat.le_refl _, fun _ _ _ h _ => h⟩
            have HEE : Hid (∀ a, PE _ a _) := HE
            clear HE hl1 hlen1
            generalize sn + i = si at *
            gi_wp2_with (refine wpListIn_copy_nothing rfl (.tmp 33) (.tmp 34) 26 26 rfl 5 Try.underlying26 Try.sizeU8 none _ 0 0 48 _ rfl rfl rfl ?_)
            gi_wp2
            exact HEE.out _
          | some p =>
            obtain ⟨g, o⟩ := p
            obtain ⟨c2, cur, rfl, hc2, hc3, hrow, hg, ho, hcon⟩ := hwin
            have hgu : w0.heap.size ≤ g := HUP.out _ _ _ hw1
            have hXl : (cellsO piece).length = 48 := by rw [cellsO_length]; exact HP48.out
            have hput := HWN.out.put HAP.out hw1 HP48.out hg ho
            rw [← HSUC.out] at hput
            have HE := HEND.out (W'.setRow g (cur.toList.take o ++ (cellsO piece ++ cur.toList.drop (o + (cellsO piece).length))).toArray) (below_setRow HBEL.out hgu _) (by simpa [World.setRow] using size) (KpN.row hg) hput
              ⟨by simp [World.setRow], fun j ob _ h1 h2 => (setRow_other W' g j _ (by rintro rfl; rw [hg] at h1; cases h1; simp [Obj.isCells] at h2)).trans h1⟩
            have HEE : Hid (∀ a, PE _ a _) := HE
            have hl2 : (W'.setRow g (cur.toList.take o ++ (cellsO piece ++ cur.toList.drop (o + (cellsO piece).length))).toArray).heap[W.heap.size + 1]? = some (.cells #[.int .i64 (KM - i)] 3 (0, 0)) := (KpN.row hg).2 _ _ HLFF.out (by intro cs r e; simp at e)
            have HL2 : Hid (_ = _) := hl2
            have HG : Hid (W'.heap[g]? = some (.cells cur 5 (0, 0))) := hg
            clear HE hl1 hlen1 hput hl2 hrow hcon hg HEND
            generalize sn + i = si at *
            gi_wp2_with (refine wpListIn_copy_own rfl (.tmp 33) (.tmp 34) 26 26 rfl 5 Try.underlying26 Try.sizeU8 g o 48 c2 ⟨b2, o2 + 48 * i, none⟩ 48 _ rfl rfl cur 5 HG.out (cellsO piece) ?d1 HSRC.out ?d2 (one_cells piece) ?_)
            intro W2 hW2
            rw [hXl, ← hW2.out] at HL2 HEE
            clear hW2
            obtain ⟨yl, gl⟩ := cell_of HL2.out 0
            simp at yl
            gi_wp2
            exact HEE.out _
    · have hme : m = ws.length := by omega
      subst hme
      gi_wp2
      refine leaves_marks (w.heap.size + 1) (fun W => results_none rfl _ _ _) Ds ds W HM.out ?_
      intro W' hk
      have hw : Dk.layA kp 0 ss ws = Dk.layA kp 0 ss (ws.take ws.length) := by rw [List.take_length]
      refine ⟨rfl, by rw [hw]; exact HW.out.keep hk.2.2.2.2.1, ?_, ?_⟩
      · have hs := HSZ.out
        exact HB.out.trans ⟨hk.2.1, hk.2.2.1, hk.2.2.2.1, by rw [hk.1]; exact Nat.le_refl _, fun j hj => hk.2.2.2.2.2 j (by omega)⟩
      · have h1 := HN0.out.trans HN.out
        exact ⟨by rw [hk.1]; exact h1.1, fun j o hj hn => (hk.2.2.2.2.2 j (by have := lt_of_block hj; omega)).trans (h1.2 j o hj hn)⟩
end Go.Proofs.Ytokebdeaahdcjab
