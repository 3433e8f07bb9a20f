/-
  Set: a part of a value set, in memory of its own.
-/
import Derived.Test.YtkjiiggboblioaaVaSetDone
import Derived.Test.YtkjiiggboblioaaVaGetOne
namespace Go.Proofs.Ytkjiiggboblioaa
open Go.ChangeShapes Go.WideShapes Go.ChangeAt Go.RowKit
open Fl

theorem foldE_map {α β S : Type} (f : β → S → Except Int S) (g : α → β) : ∀ (l : List α) (s : S), foldE f (l.map g) s = foldE (fun a => f (g a)) l s
  | [], _ => rfl
  | a :: l, s => by
    simp only [List.map_cons, foldE]
    cases f (g a) s with
    | error e => rfl
    | ok s' => exact foldE_map f g l s'

theorem wk_up (n : Nat) : ∀ (v : V n) (l : Int) (s : Nat × Int), wk (n + 1) (up n v) l s = wk n v l s := by
  induction n with
  | zero => intro v; exact v.elim
  | succ n ih =>
    rintro ⟨k, b, t, ks, its⟩ l ⟨c, d⟩
    have e : (fun (u : V n) => wk (n + 1) (up n u) (l + 1)) = fun u => wk n u (l + 1) := by funext u s; exact ih u (l + 1) s
    simp only [up, wk, List.length_map, foldE_map, e]

theorem chk_ups {n : Nat} (v : V n) : ∀ p, chk (ups v p) = chk v
  | 0 => rfl
  | p + 1 => by
    have := chk_ups v p
    have e := wk_up (n + p) (ups v p) 1 (0, 0)
    unfold chk at this ⊢
    show (msr (wk (n + p + 1) (up (n + p) (ups v p)) 1 (0, 0))).2.2 = _
    rw [e]
    exact this

/-- The two boxes that stay: x's, and the result's. -/
def Stay (w w' : World) (o o' : Obj) : Prop := w'.heap[w.heap.size + 1]? = some o ∧ w'.heap[w.heap.size + 1 + 1]? = some o'
theorem Stay.below {w a b : World} {o o' : Obj} {B : Nat} (h : Stay w a o o') (hb : Below B a b) (hB : w.heap.size + 2 < B) : Stay w b o o' := ⟨(hb.block _ (by omega)).trans h.1, (hb.block _ (by omega)).trans h.2⟩

theorem three_new (w : World) (o o' o'' : Obj) {w1 : World} (hb : Below (((w.alloc o).alloc o').alloc o'').heap.size (((w.alloc o).alloc o').alloc o'') w1) :
    w1.heap[w.heap.size]? = some o ∧ Stay w w1 o' o'' ∧ Below w.heap.size w w1 ∧ w.heap.size + 3 ≤ w1.heap.size := by
  have hs := hb.size
  refine ⟨?_, ⟨?_, ?_⟩, nxt (below_three _ _ _ _) hb, by simpa using hs⟩
  · rw [hb.block _ (by simp; omega), Below.heap_alloc _ _ _ (by simp; omega), Below.heap_alloc _ _ _ (by simp)]
    exact heap_alloc_new _ _
  · rw [hb.block _ (by simp), Below.heap_alloc _ _ _ (by simp)]
    exact heap_new2 _ _ _
  · rw [hb.block _ (by simp)]
    have e : ((w.alloc o).alloc o').heap.size = w.heap.size + 1 + 1 := by simp
    rw [← e]
    exact heap_alloc_new _ _

theorem done_cell {w : World} {g o : Nat} (h : ∃ cur : Array Value, w.heap[g]? = some (.cells cur 26 (0, 0)) ∧ o + 4 < cur.size) (j : Nat) (hj : j ≤ 4) : ∃ c, w.cell? ⟨g, o + j, none⟩ = some c := by
  obtain ⟨cur, hc, ho⟩ := h
  exact ⟨cur[o + j]'(by omega), by rw [(cell_of hc (o + j)).1]; simp⟩
theorem done_free {w : World} {g o : Nat} (h : ∃ cur : Array Value, w.heap[g]? = some (.cells cur 26 (0, 0)) ∧ o + 4 < cur.size) (j : Nat) : w.frozen? ⟨g, o + j, none⟩ = false := by
  obtain ⟨cur, hc, ho⟩ := h
  exact (cell_of hc (o + j)).2

set_option maxRecDepth 100000 in
set_option maxHeartbeats 6400000 in
theorem set_any {n : Nat} (ps : List St) (v : V (n + ps.length)) (x : V n) (xv xx : Value) (pa : Option Addr) (pc : Nat) (w : World) (hv : Lay w (n + ps.length) xv v) (hx : Lay w n xx x) (hp : LayP w pa ps) (hlen : ps.length * 32 ≤ 140737488351232) :
    Calls Try.prog 7 #[xv, .slice pa ps.length pc, xx] w fun e w' => ∃ y E, e = .returned (.tuple #[y, .int .i64 (setR ps v x).1]) ∧ Own w' (setR ps v x).2.1 y (setR ps v x).2.2 E ∧ (∀ b, E b → w.heap.size ≤ b ∧ b < w'.heap.size) ∧ Below w.heap.size w w' := by
  obtain ⟨k, b, t, ka, kl, kc, ia, il, ic, rfl⟩ := Lay.shape _ hv
  obtain ⟨k2, b2, t2, ka2, kl2, kc2, ia2, il2, ic2, rfl⟩ := Lay.shape _ hx
  have HV : Hid (Lay w (n + ps.length) (mk k b t ka kl kc ia il ic) v) := hv
  have HX : Hid (Lay w n (mk k2 b2 t2 ka2 kl2 kc2 ia2 il2 ic2) x) := hx
  have HP : Hid (LayP w pa ps) := hp
  have HXN : Hid (Lay w (n + ps.length) (mk k2 b2 t2 ka2 kl2 kc2 ia2 il2 ic2) (ups x ps.length)) := Lay.ups hx ps.length
  clear hv hx hp
  have HBO : Hid (∀ w', Below w.heap.size w w' → Calls Try.prog 18 #[.agg #[.int .i64 k, .int .u64 b, .string t, .slice ka kl kc, .slice ia il ic, .int .i64 k2, .int .u64 b2, .string t2, .slice ka2 kl2 kc2, .slice ia2 il2 ic2]] w' fun e w'' => e = .returned (.int .i64 (if chk v = 0 then chk x else chk v)) ∧ Below w'.heap.size w' w'') := fun w' hb => by
    have := both_any (n + ps.length) v (ups x ps.length) k b k2 b2 t t2 ka ia ka2 ia2 kl kc il ic kl2 kc2 il2 ic2 w' (Lay.below _ HV.out hb) (Lay.below _ HXN.out hb)
    rw [chk_ups] at this
    exact this
  by_cases h0 : (if chk v = 0 then chk x else chk v) = 0
  · have hv0 : chk v = 0 := by split at h0 <;> assumption
    have hx0 : chk x = 0 := by rw [if_pos hv0] at h0; exact h0
    rw [h0] at HBO
    have HR : Hid (setR ps v x = if (setV x ps v).1 = 0 then if chk (setV x ps v).2 = 0 then (0, ⟨_, (setV x ps v).2⟩) else (chk (setV x ps v).2, zeroT) else ((setV x ps v).1, zeroT)) := by show _ = _; unfold setR; rw [if_pos hv0, if_pos hx0]
    have HOK : Hid (okV (n + ps.length) v) := ok_of_chk hv0
    clear h0 hv0 hx0 HXN
    go_enter Try.func7, Try.ntmps7
    go_wp2_with fail
    refine (HBO.out _ (below_three _ _ _ _)).mono ?_
    rintro e w1 ⟨rfl, hb1⟩
    obtain ⟨hbox, hst, hbw, hsz⟩ := three_new w _ _ _ hb1
    obtain ⟨x0, x1, x2, x3, x4, -⟩ := box_cells hbox
    have ST1 : Hid (Stay w w1 _ _) := hst
    have B1 : Hid (Below w.heap.size w w1) := hbw
    have S1 : Hid (w.heap.size + 3 ≤ w1.heap.size) := hsz
    clear hb1 hbox hst hbw hsz HBO
    go_wp2_with (go_at_call 14; refine (copyOf_any _ v _ _ (Lay.below _ HV.out B1.out)).mono ?_; rintro e w2 ⟨y2, F, rfl, ho, hF, hb2⟩; obtain ⟨k5, b5, t5, ka5, kl5, kc5, ia5, il5, ic5, rfl⟩ := Lay.shape _ (Own.lay _ ho))
    have hal := heap_alloc_new w2 (.cells #[.int .i64 k5, .int .u64 b5, .string t5, .slice ka5 kl5 kc5, .slice ia5 il5 ic5] 26)
    have hb2' := below_one w2 (.cells #[.int .i64 k5, .int .u64 b5, .string t5, .slice ka5 kl5 kc5, .slice ia5 il5 ic5] 26)
    have hs12 := hb2.size
    have hs1 := S1.out
    have REL : Hid (SetRel ps v x (w.heap.size + 3) w2.heap.size 0 w2.heap.size 0 (w2.alloc (.cells #[.int .i64 k5, .int .u64 b5, .string t5, .slice ka5 kl5 kc5, .slice ia5 il5 ic5] 26))) := by
      refine SetRel.start ⟨_, _, _, _, _, _, hal, rfl, rfl, rfl, rfl, rfl, rfl⟩ (Own.next _ ho (fun b' hb' => (hF b' hb').2) hb2') (fun b' hb' => ⟨by have := (hF b' hb').1; omega, by have := (hF b' hb').2; have := hb2'.size; omega⟩) (fun e => by have := (hF _ e).2; omega) (by omega) HOK.out
    have ST4 : Hid (Stay w (w2.alloc (.cells #[.int .i64 k5, .int .u64 b5, .string t5, .slice ka5 kl5 kc5, .slice ia5 il5 ic5] 26)) (.cells #[.int .i64 k2, .int .u64 b2, .string t2, .slice ka2 kl2 kc2, .slice ia2 il2 ic2] 26 (0, 0)) (.cells #[.int .i64 0, .int .u64 0, .string ⟨#[]⟩, .slice none 0 0, .slice none 0 0] 26 (0, 0))) := (ST1.out.below hb2 (by omega)).below hb2' (by omega)
    have B4 : Hid (Below w.heap.size w (w2.alloc (.cells #[.int .i64 k5, .int .u64 b5, .string t5, .slice ka5 kl5 kc5, .slice ia5 il5 ic5] 26))) := nxt (nxt B1.out hb2) hb2'
    have HGW : Hid (w.heap.size + 3 ≤ w2.heap.size) := by show _ ≤ _; omega
    clear hal hb2' hs12 hs1 ho hF hb2 ST1 B1 S1 HOK
    generalize w2.alloc (.cells #[.int .i64 k5, .int .u64 b5, .string t5, .slice ka5 kl5 kc5, .slice ia5 il5 ic5] 26) = W4 at *
    generalize w2.heap.size = gw at *
    go_loopw [10, 29] (fun part i wr => ∃ (m g o : Nat), m ≤ ps.length ∧ i = .int .i64 m ∧ part = .pointer (some ⟨g, o, none⟩) ∧ Hid (SetRel ps v x (w.heap.size + 3) gw m g o wr) ∧
        Hid (Stay w wr (.cells #[.int .i64 k2, .int .u64 b2, .string t2, .slice ka2 kl2 kc2, .slice ia2 il2 ic2] 26 (0, 0)) (.cells #[.int .i64 0, .int .u64 0, .string ⟨#[]⟩, .slice none 0 0, .slice none 0 0] 26 (0, 0))) ∧ Hid (Below w.heap.size w wr)) (fun _ i _ => ps.length - (intOf i).toNat)
    case atStart => exact ⟨0, gw, 0, Nat.zero_le _, rfl, rfl, REL.out, ST4.out, B4.out⟩
    case round =>
      obtain ⟨m, g, o, hm, rfl, rfl, HREL, HST, HW⟩ := hrel
      by_cases hlt : m < ps.length
      · obtain ⟨⟨q, key, idx⟩, hst⟩ : ∃ s, ps[m]? = some s := ⟨ps[m], by simp [hlt]⟩
        obtain ⟨gp, op, rfl, c0, c1, c2, hks, hidx⟩ := HP.out m _ hst
        simp only at c0 c1 c2 hks hidx
        replace c0 := keepc HW.out _ _ c0
        replace c1 := keepc HW.out _ _ c1
        replace c2 := keepc HW.out _ _ c2
        have hm1 : (m : Int) < (ps.length : Int) := by omega
        obtain ⟨k1, b1, t1, ka1, ks, kc1, ia1, il1, ic1, cur, ND⟩ := HREL.out.node hst
        have HND : Hid (Node ps v x (w.heap.size + 3) gw m g o wr (q, key, idx) k1 b1 t1 ka1 ks kc1 ia1 il1 ic1 cur) := ND
        clear ND hst
        go_wp2_with fail
        have SB : Hid ((wr.alloc (.cells #[.bool q, .string key, .int .i64 idx] 42)).heap[wr.heap.size]? = some (.cells #[.bool q, .string key, .int .i64 idx] 42 (0, 0))) := heap_alloc_new _ _
        have BS : Hid (Below wr.heap.size wr (wr.alloc (.cells #[.bool q, .string key, .int .i64 idx] 42))) := below_one _ _
        generalize wr.alloc (.cells #[.bool q, .string key, .int .i64 idx] 42) = W5 at *
        have inst : Nonempty (Cls W5) := ⟨⟨W5, Below.refl _ _⟩⟩
        have hcur5 := (BS.out.block _ (lt_of_block HND.out.block)).trans HND.out.block
        have X0 := fun s => Cls.cell ((cell_of hcur5 o).1.trans HND.out.p0) s
        have X1 := fun s => Cls.cell ((cell_of hcur5 (o + 1)).1.trans HND.out.p1) s
        have X2 := fun s => Cls.cell ((cell_of hcur5 (o + 2)).1.trans HND.out.p2) s
        have X3 := fun s => Cls.cell ((cell_of hcur5 (o + 3)).1.trans HND.out.p3) s
        have X4 := fun s => Cls.cell ((cell_of hcur5 (o + 4)).1.trans HND.out.p4) s
        have Y0 := fun s => Cls.cell ((cell_of SB.out 0).1.trans (by rfl : (#[.bool q, .string key, .int .i64 idx] : Array Value)[0]? = some (.bool q))) s
        have Y1 := fun s => Cls.cell ((cell_of SB.out 1).1.trans (by rfl : (#[.bool q, .string key, .int .i64 idx] : Array Value)[1]? = some (.string key))) s
        have Y2 := fun s => Cls.cell ((cell_of SB.out 2).1.trans (by rfl : (#[.bool q, .string key, .int .i64 idx] : Array Value)[2]? = some (.int .i64 idx))) s
        have CF : Hid (∀ s : Cls W5, Calls Try.prog 13 #[mk k1 b1 t1 ka1 ks.length kc1 ia1 il1 ic1, .agg #[.bool q, .string key, .int .i64 idx]] s.1 fun e w'' => e = .returned (.tuple #[.int .i64 ((plc k1 ks il1 (q, key, idx)).2 : Int), .int .i64 (plc k1 ks il1 (q, key, idx)).1]) ∧ Below s.1.heap.size s.1 w'') := fun s =>
          find_any k1 b1 t1 ka1 kc1 ia1 il1 ic1 ks (q, key, idx) s.1 HND.out.up (LayS.below HND.out.keys (nxt BS.out s.2)) HND.out.kl hidx HND.out.ilr
        have HKS : Hid (key.size ≤ 140737488351232) := hks
        clear hcur5 c0 c1 c2 hks hidx
        generalize hpl : plc k1 ks il1 (q, key, idx) = r at *
        obtain ⟨er, at'⟩ := r
        simp only at CF
        have HPL : Hid (plc k1 ks il1 (q, key, idx) = (er, at')) := hpl
        clear hpl
        by_cases he : er = 0
        · subst he
          obtain ⟨hat, gi, rfl, hrel'⟩ := HND.out.here (by rw [HPL.out])
          rw [HPL.out] at hat hrel'
          simp only at hat hrel'
          have HREL' : Hid (SetRel ps v x (w.heap.size + 3) gw (m + 1) gi (at' * 5) wr) := hrel'
          have hat1 : (at' : Int) < (il1 : Int) := by omega
          clear hrel'
          by_cases hl : m + 1 = ps.length
          all_goals
            first
              | (have hl' : ((m : Int) == (ps.length : Int) - 1) = true := by simp; omega)
              | (have hl' : ((m : Int) == (ps.length : Int) - 1) = false := by simp; omega)
            refine wp_region_cls (by kernel_rfl) (by kernel_rfl) ?_
            repeat (go_big_quiet_step ((go_at_call 13; exact Calls.cls (CF.out _))))
            refine wpQuiet_nil ?_
            intro _ hw'
            obtain ⟨s, hw''⟩ := hw'
            subst hw''
            have x4 := X4 s
            clear X0 X1 X2 X3 X4 Y0 Y1 Y2
            have R1 : Hid (SetRel ps v x (w.heap.size + 3) gw (m + 1) gi (at' * 5) s.1) := HREL'.out.below (nxt BS.out s.2)
            have R2 : Hid (Stay w s.1 _ _) := HST.out.below (nxt BS.out s.2) (lt_of_block HST.out.2)
            have R3 : Hid (Below w.heap.size w s.1) := nxt HW.out (nxt BS.out s.2)
            go_wp2_with fail
            go_roundw
            case rel => exact ⟨m + 1, gi, at' * 5, by omega, by go_num, rfl, R1.out, R2.out, R3.out⟩
            case measure => simp [intOf]; omega
        · have he' : (er == 0) = false := by simpa using he
          have HNE : Hid (er ≠ 0) := he
          by_cases hl : m + 1 = ps.length
          · have hl' : ((m : Int) == (ps.length : Int) - 1) = true := by simp; omega
            by_cases h7 : er = 71 ∨ er = 82
            · by_cases hrm : roomE il1 (q, key, idx) = 0
              · have HRM : Hid (∀ w2, Below wr.heap.size wr w2 → Calls Try.prog 19 #[.pointer (some ⟨g, o, none⟩), .agg #[.bool q, .string key, .int .i64 idx]] w2 fun e w3 => e = .returned (.tuple #[.int .i64 (roomAt ks il1 (q, key, idx) : Int), .int .i64 0]) ∧
                    ∃ gi ic' cur', w3.heap[g]? = some (.cells cur' 26 (0, 0)) ∧ cur'[o + 4]? = some (.slice (some ⟨gi, 0, none⟩) (il1 + 1) ic') ∧ roomAt ks il1 (q, key, idx) ≤ il1 ∧ SetRel ps v x (w.heap.size + 3) gw (m + 1) gi (roomAt ks il1 (q, key, idx) * 5) w3 ∧ Below (w.heap.size + 3) w2 w3) := HND.out.room (by rw [HPL.out]; exact h7) hl hrm HKS.out
                have hil := HND.out.ilr
                clear hrm
                generalize roomAt ks il1 (q, key, idx) = ra at *
                rcases h7 with rfl | rfl
                all_goals
                  refine wp_region_cls (by kernel_rfl) (by kernel_rfl) ?_
                  repeat (go_big_quiet_step ((go_at_call 13; exact Calls.cls (CF.out _))))
                  refine wpQuiet_nil ?_
                  intro _ hw'
                  obtain ⟨s, hw''⟩ := hw'
                  subst hw''
                  have y0 := Y0 s
                  have y1 := Y1 s
                  have y2 := Y2 s
                  clear X0 X1 X2 X3 X4 Y0 Y1 Y2
                  have R2 : Hid (Stay w s.1 _ _) := HST.out.below (nxt BS.out s.2) (lt_of_block HST.out.2)
                  have R3 : Hid (Below w.heap.size w s.1) := nxt HW.out (nxt BS.out s.2)
                  go_wp2_with (go_at_call 19; refine (HRM.out _ (nxt BS.out s.2)).mono ?_; rintro e w3 ⟨rfl, gi, ic', cur', hc3, hc4, hra, hrel3, hb3⟩; have x4 := (cell_of hc3 (o + 4)).1.trans hc4; have hra1 : (ra : Int) < ((il1 + 1 : Nat) : Int) := (by omega); have hra2 : (ra : Int) < (il1 : Int) + 1 := (by omega))
                  have T1 : Hid (SetRel ps v x (w.heap.size + 3) gw (m + 1) gi (ra * 5) w3) := hrel3
                  have T2 : Hid (Stay w w3 _ _) := R2.out.below hb3 (by omega)
                  have T3 : Hid (Below w.heap.size w w3) := R3.out.trans (hb3.mono (by omega))
                  clear hrel3 hb3 hc3 hc4
                  go_roundw
                  case rel => exact ⟨m + 1, gi, ra * 5, by omega, by go_num, rfl, T1.out, T2.out, T3.out⟩
                  case measure => simp [intOf]; omega
              · have HER : Hid ((setV x ps v).1 = roomE il1 (q, key, idx)) := HND.out.full (by rw [HPL.out]; exact h7) hl hrm
                have HRE : Hid (∀ w2, Below wr.heap.size wr w2 → Calls Try.prog 19 #[.pointer (some ⟨g, o, none⟩), .agg #[.bool q, .string key, .int .i64 idx]] w2 fun e w'' => e = .returned (.tuple #[.int .i64 0, .int .i64 (roomE il1 (q, key, idx))]) ∧ Below w2.heap.size w2 w'') := fun w2 hb =>
                  room_err g o il1 ic1 ia1 cur (q, key, idx) w2 ((hb.block _ (lt_of_block HND.out.block)).trans HND.out.block) HND.out.p4 HKS.out HND.out.il32 hrm
                have hrm' : (roomE il1 (q, key, idx) == 0) = false := by simpa using hrm
                have HNR : Hid (roomE il1 (q, key, idx) ≠ 0) := hrm
                clear hrm
                generalize roomE il1 (q, key, idx) = re at *
                rcases h7 with rfl | rfl
                all_goals
                  refine wp_region_cls (by kernel_rfl) (by kernel_rfl) ?_
                  repeat (go_big_quiet_step ((go_at_call 13; exact Calls.cls (CF.out _))))
                  refine wpQuiet_nil ?_
                  intro _ hw'
                  obtain ⟨s, hw''⟩ := hw'
                  subst hw''
                  have y0 := Y0 s
                  have y1 := Y1 s
                  have y2 := Y2 s
                  clear X0 X1 X2 X3 X4 Y0 Y1 Y2
                  have R2 : Hid (Stay w s.1 _ _) := HST.out.below (nxt BS.out s.2) (lt_of_block HST.out.2)
                  have R3 : Hid (Below w.heap.size w s.1) := nxt HW.out (nxt BS.out s.2)
                  go_wp2_with (go_at_call 19; refine (HRE.out _ (nxt BS.out s.2)).mono ?_; rintro e w3 ⟨rfl, hb3⟩; obtain ⟨z0, z1, z2, z3, z4, f0, f1, f2, f3, f4⟩ := box_cells ((hb3.block _ (lt_of_block R2.out.2)).trans R2.out.2))
                  have T3 : Hid (Below w.heap.size w w3) := nxt R3.out hb3
                  refine bodyPost_ret (v := .tuple #[mk 0 0 ⟨#[]⟩ none 0 0 none 0 0, .int .i64 re]) (by simp [results, Try.results7, go_sem, z0, z1, z2, z3, z4]) rfl ?_
                  rw [HR.out, if_neg (by rw [HER.out]; exact HNR.out), HER.out]
                  refine ⟨_, fun _ => False, rfl, own_zero _, fun b' hb' => hb'.elim, ?_⟩
                  exact ((((T3.out.setCell (by simp; omega) _).setCell (by simp; omega) _).setCell (by simp; omega) _).setCell (by simp; omega) _).setCell (by simp; omega) _
            · have HER : Hid ((setV x ps v).1 = er) := by have := HND.out.err (by rw [HPL.out]; exact he) (by rw [HPL.out]; exact Or.inr h7); rw [HPL.out] at this; exact this
              have h71 : (er == 71) = false := by simp; omega
              have h82 : (er == 82) = false := by simp; omega
              clear he h7
              refine wp_region_cls (by kernel_rfl) (by kernel_rfl) ?_
              repeat (go_big_quiet_step ((go_at_call 13; exact Calls.cls (CF.out _))))
              refine wpQuiet_nil ?_
              intro _ hw'
              obtain ⟨s, hw''⟩ := hw'
              subst hw''
              clear X0 X1 X2 X3 X4 Y0 Y1 Y2
              have R2 : Hid (Stay w s.1 _ _) := HST.out.below (nxt BS.out s.2) (lt_of_block HST.out.2)
              have R3 : Hid (Below w.heap.size w s.1) := nxt HW.out (nxt BS.out s.2)
              obtain ⟨z0, z1, z2, z3, z4, f0, f1, f2, f3, f4⟩ := box_cells R2.out.2
              go_wp2_with fail
              refine bodyPost_ret (v := .tuple #[mk 0 0 ⟨#[]⟩ none 0 0 none 0 0, .int .i64 er]) (by simp [results, Try.results7, go_sem, z0, z1, z2, z3, z4]) rfl ?_
              rw [HR.out, if_neg (by rw [HER.out]; exact HNE.out), HER.out]
              refine ⟨_, fun _ => False, rfl, own_zero _, fun b' hb' => hb'.elim, ?_⟩
              exact ((((R3.out.setCell (by simp; omega) _).setCell (by simp; omega) _).setCell (by simp; omega) _).setCell (by simp; omega) _).setCell (by simp; omega) _
          · have hl' : ((m : Int) == (ps.length : Int) - 1) = false := by simp; omega
            have HER : Hid ((setV x ps v).1 = er) := by have := HND.out.err (by rw [HPL.out]; exact he) (Or.inl (by omega)); rw [HPL.out] at this; exact this
            clear he
            refine wp_region_cls (by kernel_rfl) (by kernel_rfl) ?_
            repeat (go_big_quiet_step ((go_at_call 13; exact Calls.cls (CF.out _))))
            refine wpQuiet_nil ?_
            intro _ hw'
            obtain ⟨s, hw''⟩ := hw'
            subst hw''
            clear X0 X1 X2 X3 X4 Y0 Y1 Y2
            have R2 : Hid (Stay w s.1 _ _) := HST.out.below (nxt BS.out s.2) (lt_of_block HST.out.2)
            have R3 : Hid (Below w.heap.size w s.1) := nxt HW.out (nxt BS.out s.2)
            obtain ⟨z0, z1, z2, z3, z4, f0, f1, f2, f3, f4⟩ := box_cells R2.out.2
            go_wp2_with fail
            refine bodyPost_ret (v := .tuple #[mk 0 0 ⟨#[]⟩ none 0 0 none 0 0, .int .i64 er]) (by simp [results, Try.results7, go_sem, z0, z1, z2, z3, z4]) rfl ?_
            rw [HR.out, if_neg (by rw [HER.out]; exact HNE.out), HER.out]
            refine ⟨_, fun _ => False, rfl, own_zero _, fun b' hb' => hb'.elim, ?_⟩
            exact ((((R3.out.setCell (by simp; omega) _).setCell (by simp; omega) _).setCell (by simp; omega) _).setCell (by simp; omega) _).setCell (by simp; omega) _
      · have hm' : m = ps.length := by omega
        subst hm'
        obtain ⟨y0, y1, y2, y3, y4, -⟩ := box_cells HST.out.1
        go_upto_region 18 with (go_at_call 14; refine (copyOf_any n x _ _ (Lay.below n HX.out HW.out)).mono ?_; rintro e w2 ⟨y2, E, rfl, ho, hE, hb2⟩; obtain ⟨k5, b5, t5, ka5, kl5, kc5, ia5, il5, ic5, rfl⟩ := Lay.shape n (Own.lay n ho); have HDN : Hid _ := HREL.out.done hb2 ho hE; have HB2 : Hid (Below wr.heap.size wr w2) := hb2; obtain ⟨a0, z0⟩ := done_cell HDN.out.2.2.1 0 (by omega); rw [Nat.add_zero] at z0; obtain ⟨a1, z1⟩ := done_cell HDN.out.2.2.1 1 (by omega); obtain ⟨a2, z2⟩ := done_cell HDN.out.2.2.1 2 (by omega); obtain ⟨a3, z3⟩ := done_cell HDN.out.2.2.1 3 (by omega); obtain ⟨a4, z4⟩ := done_cell HDN.out.2.2.1 4 (by omega); have f0 := done_free HDN.out.2.2.1 0; rw [Nat.add_zero] at f0; have f1 := done_free HDN.out.2.2.1 1; have f2 := done_free HDN.out.2.2.1 2; have f3 := done_free HDN.out.2.2.1 3; have f4 := done_free HDN.out.2.2.1 4; clear ho hE hb2)
        obtain ⟨hz, hAg, ⟨cur, hcur, -⟩, yy, E0, q1, q2, q3, q4⟩ := HDN.out
        have hbp : Below (w.heap.size + 3) w2 (put5 w2 g o (.int .i64 k5) (.int .u64 b5) (.string t5) (.slice ka5 kl5 kc5) (.slice ia5 il5 ic5)) := ⟨by simp [put5, World.setCell], by simp [put5, World.setCell], by simp [put5, World.setCell], by rw [put5_size]; exact Nat.le_refl _, fun j hj => put5_other _ _ _ _ _ _ _ _ j (by omega)⟩
        have hsw := lt_of_block HST.out.2
        have hs2 := HB2.out.size
        rw [← put5_size w2 g o (.int .i64 k5) (.int .u64 b5) (.string t5) (.slice ka5 kl5 kc5) (.slice ia5 il5 ic5)] at q3
        have ST6 : Hid (Stay w (put5 w2 g o (.int .i64 k5) (.int .u64 b5) (.string t5) (.slice ka5 kl5 kc5) (.slice ia5 il5 ic5)) _ _) := (HST.out.below HB2.out hsw).below hbp (by omega)
        have B6 : Hid (Below w.heap.size w (put5 w2 g o (.int .i64 k5) (.int .u64 b5) (.string t5) (.slice ka5 kl5 kc5) (.slice ia5 il5 ic5))) := (nxt HW.out HB2.out).trans (hbp.mono (by omega))
        unfold put5 at q1 q2 q3 ST6 B6
        clear hbp hsw hs2 HDN z0 z1 z2 z3 z4 f0 f1 f2 f3 f4 hcur y0 y1 y2 y3 y4
        generalize ((((w2.setCell ⟨g, o, none⟩ (.int .i64 k5)).setCell ⟨g, o + 1, none⟩ (.int .u64 b5)).setCell ⟨g, o + 2, none⟩ (.string t5)).setCell ⟨g, o + 3, none⟩ (.slice ka5 kl5 kc5)).setCell ⟨g, o + 4, none⟩ (.slice ia5 il5 ic5) = W6 at *
        have hly := Own.lay _ q2
        obtain ⟨k6, b6, t6, ka6, kl6, kc6, ia6, il6, ic6, rfl⟩ := Lay.shape _ hly
        obtain ⟨cw, e0, e1, e2, e3, e4, hcw, hxe, u0, u1, u2, u3, u4⟩ := q1
        simp only [mk, Value.agg.injEq, Array.mk.injEq, List.cons.injEq, and_true] at hxe
        obtain ⟨rfl, rfl, rfl, rfl, rfl⟩ := hxe
        have v0 := (cell_of hcw 0).1.trans u0
        have v1 := (cell_of hcw 1).1.trans u1
        have v2 := (cell_of hcw 2).1.trans u2
        have v3 := (cell_of hcw 3).1.trans u3
        have v4 := (cell_of hcw 4).1.trans u4
        have HCW : Hid (W6.heap[gw]? = some (.cells cw 26 (0, 0))) := hcw
        have HU : Hid (_ ∧ _ ∧ _ ∧ _ ∧ _) := ⟨u0, u1, u2, u3, u4⟩
        have HO6 : Hid (Own W6 (n + ps.length) (mk k6 b6 t6 ka6 kl6 kc6 ia6 il6 ic6) (setV x ps v).2 E0) := q2
        have HE6 : Hid (∀ b, E0 b → w.heap.size + 3 ≤ b ∧ b < W6.heap.size) := q3
        have HZ : Hid ((setV x ps v).1 = 0) := hz
        have CK : Hid (Calls Try.prog 12 #[mk k6 b6 t6 ka6 kl6 kc6 ia6 il6 ic6] W6 fun e w'' => e = .returned (.int .i64 (chk (setV x ps v).2)) ∧ Below W6.heap.size W6 w'') := check_any _ _ _ _ hly
        clear hly q2 q3 q4 hz hcw u0 u1 u2 u3 u4
        by_cases hck : chk (setV x ps v).2 = 0
        · have HR2 : Hid (setR ps v x = (0, ⟨_, (setV x ps v).2⟩)) := by show _ = _; rw [HR.out, if_pos HZ.out, if_pos hck]
          rw [hck] at CK
          clear hck HR
          go_wp2_with (go_at_call 12; refine CK.out.mono ?_; rintro e w7 ⟨rfl, hb7⟩; have hcw7 := (hb7.block _ (lt_of_block HCW.out)).trans HCW.out; have m0 := (cell_of hcw7 0).1.trans HU.out.1; have m1 := (cell_of hcw7 1).1.trans HU.out.2.1; have m2 := (cell_of hcw7 2).1.trans HU.out.2.2.1; have m3 := (cell_of hcw7 3).1.trans HU.out.2.2.2.1; have m4 := (cell_of hcw7 4).1.trans HU.out.2.2.2.2; obtain ⟨z0, z1, z2, z3, z4, f0, f1, f2, f3, f4⟩ := box_cells ((hb7.block _ (lt_of_block ST6.out.2)).trans ST6.out.2); have HB7 : Hid (Below W6.heap.size W6 w7) := hb7; have HZ7 : Hid _ := ((hb7.block _ (lt_of_block ST6.out.2)).trans ST6.out.2); clear hb7 hcw7)
          refine bodyPost_ret (v := .tuple #[mk k6 b6 t6 ka6 kl6 kc6 ia6 il6 ic6, .int .i64 0]) (by simp [results, Try.results7, go_sem, z0, z1, z2, z3, z4]) rfl ?_
          rw [HR2.out]
          obtain ⟨s1, s2, -⟩ := five_sets HZ7.out (by simp) (.int .i64 k6) (.int .u64 b6) (.string t6) (.slice ka6 kl6 kc6) (.slice ia6 il6 ic6)
          have hs7 := HB7.out.size
          refine ⟨_, E0, rfl, Own.same _ HO6.out fun b' hb' => (s1 b' (by have := (HE6.out b' hb').1; omega)).trans (HB7.out.block b' (HE6.out b' hb').2), fun b' hb' => ⟨by have := (HE6.out b' hb').1; omega, by rw [s2]; have := (HE6.out b' hb').2; omega⟩, ?_⟩
          exact (((((nxt B6.out HB7.out).setCell (by simp; omega) _).setCell (by simp; omega) _).setCell (by simp; omega) _).setCell (by simp; omega) _).setCell (by simp; omega) _
        · have hck' : (chk (setV x ps v).2 == 0) = false := by simpa using hck
          have HR2 : Hid (setR ps v x = (chk (setV x ps v).2, zeroT)) := by show _ = _; rw [HR.out, if_pos HZ.out, if_neg hck]
          clear hck HR
          generalize chk (setV x ps v).2 = cc at *
          go_wp2_with (go_at_call 12; refine CK.out.mono ?_; rintro e w7 ⟨rfl, hb7⟩; have hcw7 := (hb7.block _ (lt_of_block HCW.out)).trans HCW.out; have m0 := (cell_of hcw7 0).1.trans HU.out.1; have m1 := (cell_of hcw7 1).1.trans HU.out.2.1; have m2 := (cell_of hcw7 2).1.trans HU.out.2.2.1; have m3 := (cell_of hcw7 3).1.trans HU.out.2.2.2.1; have m4 := (cell_of hcw7 4).1.trans HU.out.2.2.2.2; obtain ⟨z0, z1, z2, z3, z4, f0, f1, f2, f3, f4⟩ := box_cells ((hb7.block _ (lt_of_block ST6.out.2)).trans ST6.out.2); have HB7 : Hid (Below W6.heap.size W6 w7) := hb7; have HZ7 : Hid _ := ((hb7.block _ (lt_of_block ST6.out.2)).trans ST6.out.2); clear hb7 hcw7)
          refine bodyPost_ret (v := .tuple #[mk 0 0 ⟨#[]⟩ none 0 0 none 0 0, .int .i64 cc]) (by simp [results, Try.results7, go_sem, z0, z1, z2, z3, z4]) rfl ?_
          rw [HR2.out]
          refine ⟨_, fun _ => False, rfl, own_zero _, fun b' hb' => hb'.elim, ?_⟩
          exact (((((nxt B6.out HB7.out).setCell (by simp; omega) _).setCell (by simp; omega) _).setCell (by simp; omega) _).setCell (by simp; omega) _).setCell (by simp; omega) _
  · have h0' : ((if chk v = 0 then chk x else chk v) == 0) = false := by simpa using h0
    have HR : Hid (setR ps v x = ((if chk v = 0 then chk x else chk v), zeroT)) := by
      show _ = _
      unfold setR
      by_cases hv0 : chk v = 0
      · rw [if_pos hv0] at h0 ⊢
        rw [if_neg h0, if_pos hv0]
      · rw [if_neg hv0, if_neg hv0]
    generalize (if chk v = 0 then chk x else chk v) = ce at *
    clear h0 HXN
    go_enter Try.func7, Try.ntmps7
    go_wp2_with fail
    refine (HBO.out _ (below_three _ _ _ _)).mono ?_
    rintro e w1 ⟨rfl, hb1⟩
    obtain ⟨-, hst, hbw, -⟩ := three_new w _ _ _ hb1
    obtain ⟨z0, z1, z2, z3, z4, f0, f1, f2, f3, f4⟩ := box_cells hst.2
    have B1 : Hid (Below w.heap.size w w1) := hbw
    clear hb1 hst hbw HBO
    go_wp2_with fail
    refine bodyPost_ret (v := .tuple #[mk 0 0 ⟨#[]⟩ none 0 0 none 0 0, .int .i64 ce]) (by simp [results, Try.results7, go_sem, z0, z1, z2, z3, z4]) rfl ?_
    rw [HR.out]
    refine ⟨_, fun _ => False, rfl, own_zero _, fun b' hb' => hb'.elim, ?_⟩
    exact ((((B1.out.setCell (by simp; omega) _).setCell (by simp; omega) _).setCell (by simp; omega) _).setCell (by simp; omega) _).setCell (by simp; omega) _
end Go.Proofs.Ytkjiiggboblioaa
