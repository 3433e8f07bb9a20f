/-
  The program's Read.
-/
import Derived.Test.YtokebdeaahdcjabDkCrash
import Derived.Test.YtokebdeaahdcjabDkAsk
namespace Go.Proofs.Ytokebdeaahdcjab
open Go.ChangeShapes Go.WideShapes Go.ChangeAt Go.RowKit Go.Deep
open Dk (Wr St)

attribute [local go_sem] Oper.semAt_some

theorem Oct.nil (w : World) : Oct w none 0 [] := ⟨fun i s hi => by simp at hi, by simp, by simp, by simp, fun _ => rfl, fun ad h => by cases h⟩

theorem Oct.keep {W W' : World} {a : Option Addr} {c : Nat} {l : List UInt8} (h : Oct W a c l) (k : KpC W W') : Oct W' a c l := by
  refine ⟨?_, h.2⟩
  intro i o hi
  obtain ⟨b, off, e, hc⟩ := h.1 i o hi
  refine ⟨b, off, e, ?_⟩
  unfold World.cell? at hc ⊢
  split at hc
  · rename_i cs t r _ hb
    rw [k.2 _ _ _ _ hb]
    exact hc
  · cases hc

/-- What holds of the loop over the sectors that are asked for. -/
structure RInv (w1 : World) (k lo : Nat) (ss : List (List UInt8)) (i : Nat) (W : World) : Prop where
  bel : Below w1.heap.size w1 W
  wn : Wn W (w1.heap.size + 1) (winsR lo i w1.heap.size ss.length) (Dk.mask lo i ss)
  bb : ∃ cur : Array Value, W.heap[w1.heap.size]? = some (.cells cur 5 (0, 0)) ∧ cur.size = 48 * k
  ab : W.heap[w1.heap.size + 1 + 1]? = some (.cells #[.slice (some ⟨w1.heap.size + 1, 0, none⟩) ss.length ss.length] 22 (0, 0))

theorem RInv.stay {w1 W W' : World} {k lo i B : Nat} {ss : List (List UInt8)} (h : RInv w1 k lo ss i W) (st : Stay B W W') (hB : w1.heap.size ≤ B) : RInv w1 k lo ss i W' := by
  obtain ⟨h1, h2, ⟨cur, h3, h4⟩, h5⟩ := h
  exact ⟨Below.stay h1 st hB, h2.keep st.kp, ⟨cur, st.kp.2 _ _ _ _ h3, h4⟩, st.kp.2 _ _ _ _ h5⟩

theorem kpn_row {W : World} {g : Nat} {cur cs : Array Value} (hg : W.heap[g]? = some (.cells cur 5 (0, 0))) : KpN W (W.setRow g cs) := KpN.row hg

set_option maxRecDepth 100000 in
set_option maxHeartbeats 6400000 in
theorem read_any (s : St) (sec n : Int) (a a' : Option Addr) (c c' : Nat) (w : World) (hS : LayS w a s.secs) (hW : LayW w a' s.cache) (hn : s.secs.length ≤ 200000000000000) (hm : s.cache.length ≤ 200000000000000)
    (h1 : -9223372036854775808 ≤ sec ∧ sec ≤ 9223372036854775807) (h2 : -9223372036854775808 ≤ n ∧ n ≤ 9223372036854775807) :
    Calls Try.prog 15 #[.agg #[.slice a s.secs.length c, .slice a' s.cache.length c'], .int .i64 sec, .int .i64 n] w fun e w' => ∃ ra rc, e = .returned (.tuple #[.slice ra (Dk.readR s sec n).2.length rc, .int .i64 (Dk.readR s sec n).1]) ∧ Oct w' ra rc (Dk.readR s sec n).2 ∧ Below w.heap.size w w' := by
  have HS : Hid (LayS w a s.secs) := hS
  have HW : Hid (LayW w a' s.cache) := hW
  clear hS hW
  have HB : Hid (Below w.heap.size w (w.alloc (.cells #[.slice a s.secs.length c, .slice a' s.cache.length c'] 30))) := below_one _ _
  have X0 : Hid ((w.alloc (.cells #[.slice a s.secs.length c, .slice a' s.cache.length c'] 30)).heap[w.heap.size]? = some (.cells #[.slice a s.secs.length c, .slice a' s.cache.length c'] 30 (0, 0))) := heap_alloc_new _ _
  have HCK : Hid (∀ W, Below w.heap.size w W → Calls Try.prog 20 #[.agg #[.slice a s.secs.length c, .slice a' s.cache.length c']] W fun e w' => e = .returned (.int .i64 (Dk.chk s)) ∧ Below W.heap.size W w') :=
    fun W hb => check_any s a a' c c' W (HS.out.below hb) (HW.out.below hb) hn hm
  refine (callsIn_wide (n := 9)).1 (callsIn_of_wp_marks Try.func15 rfl trivial ?_ rfl)
  simp only [Try.ntmps15, List.size_toArray, List.length_cons, List.length_nil, Nat.reduceAdd, Nat.reduceSub, Array.replicate_succ, Array.replicate_zero, List.push_toArray, List.append_toArray, List.nil_append, List.cons_append]
  by_cases hc : Dk.chk s = 0
  · have hok := Dk.chk_zero.1 hc
    rw [hc] at HCK
    by_cases hr : sec < 0 ∨ n < 0 ∨ (s.secs.length : Int) - sec < n
    · have HD : Hid (Dk.readR s sec n = (4, [])) := by
        show _ = _
        unfold Dk.readR
        rw [if_neg (by rw [hc]; simp), if_pos hr]
      rw [HD.out]
      obtain ⟨ss, ws⟩ := s
      simp only at *
      have hlen := hok.hi
      simp only at hlen
      clear hok hc HD
      by_cases hs0 : sec < 0
      · have hsb : decide (sec < 0) = true := decide_eq_true hs0
        clear hr
        gi_wp2
        refine ⟨trivial, (callsIn_wide.2 (HCK.out _ HB.out)).mono ?_⟩
        rintro e w1 ⟨rfl, hb1⟩
        have HB1 : Hid (Below w.heap.size w w1) := nxt HB.out hb1
        have c0 := (cell_of ((hb1.block _ (lt_of_block X0.out)).trans X0.out) 0).1
        simp at c0
        clear hb1
        gi_wp2
        refine ⟨.tuple #[.slice none 0 0, .int .i64 4], ?_, none, 0, rfl, Oct.nil _, HB1.out⟩
        simp [results, Try.results15, go_sem]
      have hsb : decide (sec < 0) = false := decide_eq_false hs0
      by_cases hn0 : n < 0
      · have hnb : decide (n < 0) = true := decide_eq_true hn0
        clear hr
        gi_wp2
        refine ⟨trivial, (callsIn_wide.2 (HCK.out _ HB.out)).mono ?_⟩
        rintro e w1 ⟨rfl, hb1⟩
        have HB1 : Hid (Below w.heap.size w w1) := nxt HB.out hb1
        have c0 := (cell_of ((hb1.block _ (lt_of_block X0.out)).trans X0.out) 0).1
        simp at c0
        clear hb1
        gi_wp2
        refine ⟨.tuple #[.slice none 0 0, .int .i64 4], ?_, none, 0, rfl, Oct.nil _, HB1.out⟩
        simp [results, Try.results15, go_sem]
      have hnb : decide (n < 0) = false := decide_eq_false hn0
      · have hlb : decide ((ss.length : Int) - sec < n) = true := decide_eq_true (by omega)
        have hs1 : 0 ≤ sec := by omega
        clear hr
        gi_wp2
        refine ⟨trivial, (callsIn_wide.2 (HCK.out _ HB.out)).mono ?_⟩
        rintro e w1 ⟨rfl, hb1⟩
        have HB1 : Hid (Below w.heap.size w w1) := nxt HB.out hb1
        have c0 := (cell_of ((hb1.block _ (lt_of_block X0.out)).trans X0.out) 0).1
        simp at c0
        clear hb1
        gi_wp2
        refine ⟨.tuple #[.slice none 0 0, .int .i64 4], ?_, none, 0, rfl, Oct.nil _, HB1.out⟩
        simp [results, Try.results15, go_sem]
    · have hs0 : 0 ≤ sec := by omega
      have hn0 : 0 ≤ n := by omega
      obtain ⟨lo, rfl⟩ : ∃ lo : Nat, sec = (lo : Int) := ⟨sec.toNat, by omega⟩
      obtain ⟨k, rfl⟩ : ∃ k : Nat, n = (k : Int) := ⟨n.toNat, by omega⟩
      have hlo : lo + k ≤ s.secs.length := by omega
      have HD : Hid (Dk.readR s lo k = (0, (((Dk.full s).drop lo).take k).flatten)) := by
        show _ = _
        unfold Dk.readR
        rw [if_neg (by rw [hc]; simp), if_neg hr]
        simp
      rw [HD.out]
      have hmk1 : ∀ w, Sem.run Try.prog (Instr.makeSlice 26 (.int .i64 ((k : Int) * 48)) (.int .i64 ((k : Int) * 48))) w = .ok (.slice (some ⟨w.heap.size, 0, none⟩) (48 * k) (48 * k)) (w.alloc (.cells (madeCells #[.int .u8 0] (48 * k)) 5)) := by
        intro w
        have := run_make_row' (P := Try.prog) 26 5 (.int .u8 0) 1 Try.underlying26 Try.infoU8 rfl .i64 .i64 (48 * k) (by have := hok.hi; omega) (by have := hok.hi; omega) w
        rw [show ((48 * k : Nat) : Int) = (k : Int) * 48 by omega] at this
        exact this
      have hmk2 : ∀ w, Sem.run Try.prog (Instr.makeSlice 22 (.int .i64 (s.secs.length : Nat)) (.int .i64 (s.secs.length : Nat))) w = .ok (.slice (some ⟨w.heap.size, 0, none⟩) s.secs.length s.secs.length) (w.alloc (.cells (madeCells #[.slice none 0 0] s.secs.length) 26)) :=
        fun w => run_make_row' 22 26 (.slice none 0 0) 24 Try.underlying22 Try.infoBs rfl .i64 .i64 s.secs.length (by have := hok.hi; omega) (by have := hok.hi; omega) w
      have HOK : Hid (Dk.Ok s) := hok
      have h4096 := hok.hi
      have hsb : decide ((lo : Int) < 0) = false := decide_eq_false (by omega)
      have hnb : decide ((k : Int) < 0) = false := decide_eq_false (by omega)
      have hlb : decide ((s.secs.length : Int) - lo < k) = false := decide_eq_false (by omega)
      clear hr hs0 hn0 hok hc HD
      generalize hFL : Dk.full s = FL at *
      have HFL : Hid (Dk.full s = FL) := hFL
      clear hFL
      obtain ⟨ss, ws⟩ := s
      simp only at *
      gi_wp2
      refine ⟨trivial, (callsIn_wide.2 (HCK.out _ HB.out)).mono ?_⟩
      rintro e w1 ⟨rfl, hb1⟩
      have HB1 : Hid (Below w.heap.size w w1) := nxt HB.out hb1
      have X1 : Hid (w1.heap[w.heap.size]? = some (.cells #[.slice a ss.length c, .slice a' ws.length c'] 30 (0, 0))) := (hb1.block _ (lt_of_block X0.out)).trans X0.out
      have c0 := (cell_of X1.out 0).1
      simp at c0
      have c0' : ∀ o, (w1.alloc o).cell? ⟨w.heap.size, 0, none⟩ = some (.slice a ss.length c) := fun o => keepc (below_one _ _) _ _ c0
      clear hb1 X0
      gi_wp2
      refine ⟨trivial, (callsIn_wide.2 (cut_any lo (some ⟨w1.heap.size, 0, none⟩) (48 * k) (48 * k) _)).mono ?_⟩
      rintro e W5 ⟨rfl, hW5⟩
      have hG := heap_alloc_new w1 (.cells (madeCells #[.int .u8 0] (48 * k)) 5)
      have hT := heap_alloc_new (w1.alloc (.cells (madeCells #[.int .u8 0] (48 * k)) 5)) (.cells (madeCells #[.slice none 0 0] ss.length) 26)
      have hA := heap_alloc_new ((w1.alloc (.cells (madeCells #[.int .u8 0] (48 * k)) 5)).alloc (.cells (madeCells #[.slice none 0 0] ss.length) 26)) (.cells #[.slice (some ⟨w1.heap.size + 1, 0, none⟩) ss.length ss.length] 22)
      have hP1 := heap_alloc_new (((w1.alloc (.cells (madeCells #[.int .u8 0] (48 * k)) 5)).alloc (.cells (madeCells #[.slice none 0 0] ss.length) 26)).alloc (.cells #[.slice (some ⟨w1.heap.size + 1, 0, none⟩) ss.length ss.length] 22)) (.cells #[.int .i64 (lo : Nat)] 3)
      have hP2 := heap_alloc_new ((((w1.alloc (.cells (madeCells #[.int .u8 0] (48 * k)) 5)).alloc (.cells (madeCells #[.slice none 0 0] ss.length) 26)).alloc (.cells #[.slice (some ⟨w1.heap.size + 1, 0, none⟩) ss.length ss.length] 22)).alloc (.cells #[.int .i64 (lo : Nat)] 3)) (.cells #[.slice (some ⟨w1.heap.size, 0, none⟩) (48 * k) (48 * k)] 26)
      replace hG := ((nxt (nxt (nxt (below_one (w1.alloc (.cells (madeCells #[.int .u8 0] (48 * k)) 5)) (.cells (madeCells #[.slice none 0 0] ss.length) 26)) (below_one _ (.cells #[.slice (some ⟨w1.heap.size + 1, 0, none⟩) ss.length ss.length] 22))) (below_one _ (.cells #[.int .i64 (lo : Nat)] 3))) (below_one _ (.cells #[.slice (some ⟨w1.heap.size, 0, none⟩) (48 * k) (48 * k)] 26))).block _ (lt_of_block hG)).trans hG
      replace hT := ((nxt (nxt (below_one _ (.cells #[.slice (some ⟨w1.heap.size + 1, 0, none⟩) ss.length ss.length] 22)) (below_one _ (.cells #[.int .i64 (lo : Nat)] 3))) (below_one _ (.cells #[.slice (some ⟨w1.heap.size, 0, none⟩) (48 * k) (48 * k)] 26))).block _ (lt_of_block hT)).trans hT
      replace hA := ((nxt (below_one _ (.cells #[.int .i64 (lo : Nat)] 3)) (below_one _ (.cells #[.slice (some ⟨w1.heap.size, 0, none⟩) (48 * k) (48 * k)] 26))).block _ (lt_of_block hA)).trans hA
      replace hP1 := ((below_one _ (.cells #[.slice (some ⟨w1.heap.size, 0, none⟩) (48 * k) (48 * k)] 26)).block _ (lt_of_block hP1)).trans hP1
      rw [← hW5] at hG hT hA hP1 hP2
      simp only [World.size_alloc] at hG hT hA hP1 hP2
      have hsz5 : W5.heap.size = w1.heap.size + 5 := by rw [hW5]; simp
      have HB5 : Hid (Below w1.heap.size w1 W5) := by
        show Below _ _ _
        rw [hW5]
        exact nxt (nxt (nxt (nxt (below_one _ _) (below_one _ _)) (below_one _ _)) (below_one _ _)) (below_one _ _)
      have HSZ5 : Hid (W5.heap.size = w1.heap.size + 5) := hsz5
      have HG : Hid (W5.heap[w1.heap.size]? = some (.cells (madeCells #[.int .u8 0] (48 * k)) 5 (0, 0))) := hG
      have HT : Hid (W5.heap[w1.heap.size + 1]? = some (.cells (madeCells #[.slice none 0 0] ss.length) 26 (0, 0))) := hT
      have HA : Hid (W5.heap[w1.heap.size + 1 + 1]? = some (.cells #[.slice (some ⟨w1.heap.size + 1, 0, none⟩) ss.length ss.length] 22 (0, 0))) := hA
      have HP1 : Hid (W5.cell? ⟨w1.heap.size + 1 + 1 + 1, 0, none⟩ = some (.int .i64 (lo : Nat))) := (cell_of hP1 0).1
      have HP2 : Hid (W5.cell? ⟨w1.heap.size + 1 + 1 + 1 + 1, 0, none⟩ = some (.slice (some ⟨w1.heap.size, 0, none⟩) (48 * k) (48 * k))) := (cell_of hP2 0).1
      have HS1 : Hid (LayS w1 a ss) := HS.out.below HB1.out
      have HW1 : Hid (LayW w1 a' ws) := HW.out.below HB1.out
      clear hW5 hG hT hA hP1 hP2 hsz5 c0 c0' HS HW HCK HB hmk1 hmk2
      gi_wp2
      refine range_cut (by omega) rfl (w1.heap.size + 1 + 1 + 1) (w1.heap.size + 1 + 1 + 1 + 1) rfl lo w1.heap.size 0 (48 * k) k (some ⟨w1.heap.size, 0, none⟩) (fun _ => rfl) (Nat.le_refl _) (by omega) HP1.out HP2.out
        (RInv w1 k lo ss) (fun _ _ => False) ?stI ?stX ?h0 (fun i => { tmps := #[.agg #[.slice a ss.length c, .slice a' ws.length c'], .int .i64 (lo : Nat), .int .i64 (k : Nat), .pointer (some ⟨w.heap.size, 0, none⟩), undef, undef, .slice none 0 0, .int .i64 0, .int .i64 0, .slice (some ⟨w1.heap.size, 0, none⟩) (48 * k) (48 * k), .pointer (some ⟨w1.heap.size + 1 + 1, 0, none⟩), .int .i64 ((lo + i : Nat) : Int), .slice (some ⟨w1.heap.size, 48 * i, none⟩) 48 (48 * k - 48 * i), .agg #[.slice a ss.length c, .slice a' ws.length c'], .int .i64 0, .int .i64 0, .bool false, undef, .int .i64 (lo : Nat), .bool false, .bool false, .int .i64 (k : Nat), .bool false, .bool false, .bool false, .int .i64 (k : Nat), .pointer (some ⟨w.heap.size, 0, none⟩), .slice a ss.length c, .int .i64 (ss.length : Nat), .int .i64 (lo : Nat), .int .i64 ((ss.length : Int) - lo), .bool false, .bool false, .int .i64 (k : Nat), .int .i64 ((k : Int) * 48), .slice (some ⟨w1.heap.size, 0, none⟩) (48 * k) (48 * k), .pointer (some ⟨w.heap.size, 0, none⟩), .slice a ss.length c, .int .i64 (ss.length : Nat), .slice (some ⟨w1.heap.size + 1, 0, none⟩) ss.length ss.length, .int .i64 (lo : Nat), .slice (some ⟨w1.heap.size, 0, none⟩) (48 * k) (48 * k), .func (.func 47) #[] #[.pointer (some ⟨w1.heap.size + 1 + 1 + 1, 0, none⟩), .pointer (some ⟨w1.heap.size + 1 + 1 + 1 + 1, 0, none⟩)], .int .i64 ((lo + i : Nat) : Int), .slice (some ⟨w1.heap.size, 48 * i, none⟩) 48 (48 * k - 48 * i), undef, undef, undef, undef, undef, undef, undef, undef, undef, undef, undef, undef, undef, undef, undef, undef], defers := [] }) ?hassign ?hbody ?hdone ?hstop
      case stI => exact fun i W' W'' h st => h.stay st (by have := HSZ5.out; omega)
      case stX => exact fun id W' W'' h st => h
      case h0 => exact ⟨HB5.out, Wn.none HT.out rfl, ⟨_, HG.out, size_madeCells _ _⟩, HA.out⟩
      case hassign =>
        intro l i W' K hK
        generalize lo + i = si at *
        simp only [Nat.zero_add]
        gi_wp2
        exact hK
      case hstop => exact fun id W' h hd => h.elim
      case hbody =>
        intro l i W' hi h hsz
        obtain ⟨PE, hPE⟩ : ∃ PE, PE = roundEnd W5.heap.size (RInv w1 k lo ss (i + 1)) (fun _ _ => False) W' := ⟨_, rfl⟩
        have HPE : Hid (PE = roundEnd W5.heap.size (RInv w1 k lo ss (i + 1)) (fun _ _ => False) W') := hPE
        refine (?_ : Code.wpIn _ _ _ _ (roundEnd W5.heap.size (RInv w1 k lo ss (i + 1)) (fun _ _ => False) W') _ _)
        rw [← hPE]
        clear hPE
        obtain ⟨bel, wn, ⟨cur, hcur, hcs⟩, ab⟩ := h
        have hsi : lo + i < ss.length := by omega
        obtain ⟨row, hrow⟩ : ∃ row, ss[lo + i]? = some row := ⟨_, List.getElem?_eq_getElem hsi⟩
        have h48 : row.length = 48 := HOK.out.rows row (List.mem_of_getElem? hrow)
        obtain ⟨b, off, a1, c1, rfl, q1, q2, -⟩ := (HS1.out.below bel) (lo + i) row hrow
        rw [h48] at q1
        have hx := (bel.block _ (lt_of_block X1.out)).trans X1.out
        have x0 := (cell_of hx 0).1
        simp at x0
        obtain ⟨tab, t1, t2, -⟩ := wn.tab
        rw [Dk.mask_length] at t2
        obtain ⟨ad, rfl⟩ : ∃ ad, a1 = some ad := by
          obtain ⟨b', off', e, -⟩ := q2.1 0 _ (List.getElem?_eq_getElem (by omega : 0 < row.length))
          exact ⟨_, e⟩
        have HSRC : Hid (∀ j u, (cellsO row)[j]? = some u → W'.cell? (ad.add j) = some u) := by
          intro j u hj
          simp only [cellsO, List.getElem?_map, Option.map_eq_some_iff] at hj
          obtain ⟨o', ho', rfl⟩ := hj
          obtain ⟨b', off', e, hc'⟩ := q2.1 _ _ ho'
          cases e
          rw [add_plain]
          exact hc'
        have hXl : (cellsO row).length = 48 := by rw [cellsO_length]; exact h48
        have hap := kpn_row hcur (cs := (cur.toList.take (48 * i) ++ (cellsO row ++ cur.toList.drop (48 * i + (cellsO row).length))).toArray)
        have ab2 := hap.2 _ _ ab (by intro cs r e; simp at e)
        have t12 := hap.2 _ _ t1 (by intro cs r e; simp at e)
        have HE : Hid (∀ a, PE .normal a ((W'.setRow w1.heap.size (cur.toList.take (48 * i) ++ (cellsO row ++ cur.toList.drop (48 * i + (cellsO row).length))).toArray).setCell ⟨w1.heap.size + 1, lo + i, none⟩ (.slice (some ⟨w1.heap.size, 48 * i, none⟩) 48 (48 * k - 48 * i)))) := by
          intro _
          rw [HPE.out]
          have hs5 := HSZ5.out
          have hTs := set_one_cell (o := lo + i) t12 (.slice (some ⟨w1.heap.size, 48 * i, none⟩) 48 (48 * k - 48 * i))
          have hoth : ∀ j, j ≠ w1.heap.size → j ≠ w1.heap.size + 1 → ((W'.setRow w1.heap.size (cur.toList.take (48 * i) ++ (cellsO row ++ cur.toList.drop (48 * i + (cellsO row).length))).toArray).setCell ⟨w1.heap.size + 1, lo + i, none⟩ (.slice (some ⟨w1.heap.size, 48 * i, none⟩) 48 (48 * k - 48 * i))).heap[j]? = W'.heap[j]? := fun j h1 h2 => by
            rw [Below.heap_setCell _ _ _ _ h2, setRow_other _ _ _ _ h1]
          refine ⟨⟨by simp [World.setRow, World.setCell], fun j o hj h1 _ => by rw [hoth j (by omega) (by omega)]; exact h1⟩, ?_, ?_, ?_, ?_⟩
          · exact (below_setRow bel (Nat.le_refl _) _).setCell (by show w1.heap.size ≤ w1.heap.size + 1; omega) _
          · exact wn.ask hcur hcs hi hrow h48 (by omega) (by omega)
          · refine ⟨_, (Below.heap_setCell _ _ _ _ (by show w1.heap.size ≠ w1.heap.size + 1; omega)).trans (setRow_heap W' w1.heap.size cur _ _ _ hcur), ?_⟩
            rw [over_size _ _ _ (by omega)]
            exact hcs
          · rw [hoth _ (by omega) (by omega)]
            exact ab
        have HCUR : Hid (W'.heap[w1.heap.size]? = some (.cells cur 5 (0, 0)) ∧ cur.size = 48 * k) := ⟨hcur, hcs⟩
        have HAB2 : Hid (_ = _) := ab2
        have HT12 : Hid (_ = _) := t12
        have hsi2 : ((lo + i : Nat) : Int) < (ss.length : Int) := by omega
        have HTS : Hid (tab.size = tab.size ∧ ss.length ≤ tab.size) := ⟨rfl, t2⟩
        have HI : Hid (i < k) := hi
        clear bel wn ab hrow q2 hx hap ab2 t12 t1 t2 hcur hcs h48 hi
        generalize lo + i = si at *
        gi_wp2_with (refine wpListIn_copy_own rfl (.tmp 45) (.tmp 50) 26 26 rfl 5 Try.underlying26 Try.sizeU8 w1.heap.size (48 * i) 48 _ ad 48 _ rfl rfl cur 5 HCUR.out.1 (cellsO row) hXl HSRC.out (by have := HCUR.out.2; have := HI.out; omega) (one_cells row) ?_)
        intro W2 hW2
        rw [hXl, ← hW2.out] at HAB2 HT12 HE
        clear hW2
        have y0 := (cell_of HAB2.out 0).1
        have z0 := (cell_of HT12.out si).1
        have z1 := (cell_of HT12.out si).2
        rw [Array.getElem?_eq_getElem (by have := HTS.out.2; omega)] at z0
        simp at y0
        gi_wp2
        exact HE.out _
      case hdone =>
        intro W' h hd
        obtain ⟨bel, wn, -, ab⟩ := h
        have hx := (bel.block _ (lt_of_block X1.out)).trans X1.out
        have x1 := (cell_of hx 1).1
        have y0 := (cell_of ab 0).1
        simp at x1 y0
        have HD : Hid (W'.heap[W5.heap.size]? = some (.deferred (some []))) := hd
        have hokk := HOK.out
        have hl1 : (Dk.mask lo k ss).length = ss.length := Dk.mask_length _ _ _
        have hlay := lay_any 40 #[] (fun _ => 4096) w1 W' (w1.heap.size + 1) ss.length (winsR lo k w1.heap.size ss.length) (Dk.mask lo k ss) ws a' c' (enters_of Try.func40 (by kernel_rfl) rfl) (fun i W'' _ _ => by simpa using whole_any i W'') (fun _ => by omega) bel wn (winsR_apart _ _ _ _) (winsR_up (Nat.le_refl _)) HW1.out (by rw [hl1]; exact hokk.fits) (by rw [hl1]; exact h4096) hokk.few
        rw [hl1, Dk.layA_mask lo k ws _ 0 ss hokk.rows (fun x hx => (hokk.fits x hx).2.2.2.1)] at hlay
        have hFL : Dk.layA (fun _ => 4096) 0 ss ws = FL := HFL.out
        rw [hFL] at hlay
        have HLAY : Hid (Calls Try.prog 37 #[.slice (some ⟨w1.heap.size + 1, 0, none⟩) ss.length ss.length, .slice a' ws.length c', .func (.func 40) #[] #[]] W' _) := hlay
        have HFLL : Hid (FL.length = ss.length ∧ ∀ l ∈ FL, l.length = 48) := by
          rw [← hFL]
          exact ⟨Dk.layA_length _ _ _ _, Dk.layA_rows _ _ _ _ hokk.rows (fun x hx => (hokk.fits x hx).2.2.2.1)⟩
        clear bel wn ab hx hd hlay hokk hFL hl1
        dsimp only
        gi_wp2
        refine ⟨trivial, (callsIn_wide.2 HLAY.out).mono ?_⟩
        rintro e w3 ⟨rfl, k1, k2, k3⟩
        have HD3 : Hid (w3.heap[W5.heap.size]? = some (.deferred (some []))) := k3.2 _ _ HD.out (by intro cs r e; cases e)
        have HK1 : Hid (Wn w3 (w1.heap.size + 1) (winsR lo k w1.heap.size ss.length) (Dk.mask lo k FL)) := k1
        have HK2 : Hid (Below w1.heap.size w1 w3) := k2
        clear k1 k2 k3 x1 y0 HLAY
        gi_wp2
        refine ⟨by simp, .inl ⟨_, _, rfl, run_takeDeferred HD3.out, ?_⟩⟩
        have hwn := HK1.out
        rw [← HFLL.out.1] at hwn
        obtain ⟨q1, q2⟩ := hwn.asked (c := 48 * k) HFLL.out.2 (by rw [HFLL.out.1]; exact hlo) (Nat.le_refl _) (by omega)
        refine ⟨.tuple #[.slice (some ⟨w1.heap.size, 0, none⟩) (48 * k) (48 * k), .int .i64 0], by simp [results, Try.results15, go_sem], some ⟨w1.heap.size, 0, none⟩, 48 * k, by rw [q1], q2.keep (KpC.put _ HD3.out rfl), ?_⟩
        have hs5 := HSZ5.out
        have hs1 := HB1.out.size
        exact (nxt HB1.out HK2.out).trans ⟨rfl, rfl, rfl, by simp [World.putObj], fun j hj => World.putObj_heap_other (by omega)⟩
  · have HDR : Hid (Dk.readR s sec n = (Dk.chk s, [])) := by
      show _ = _
      unfold Dk.readR
      rw [if_pos hc]
    rw [HDR.out]
    have hcb : (Dk.chk s != 0) = true := by simp [hc]
    generalize Dk.chk s = ck at *
    obtain ⟨ss, ws⟩ := s
    simp only at *
    clear hc
    gi_wp2
    refine ⟨trivial, (callsIn_wide.2 (HCK.out _ HB.out)).mono ?_⟩
    rintro e w1 ⟨rfl, hb1⟩
    have HB1 : Hid (Below w.heap.size w w1) := nxt HB.out hb1
    clear hb1
    gi_wp2
    refine ⟨.tuple #[.slice none 0 0, .int .i64 ck], ?_, none, 0, rfl, Oct.nil _, HB1.out⟩
    simp [results, Try.results15, go_sem]
end Go.Proofs.Ytokebdeaahdcjab
