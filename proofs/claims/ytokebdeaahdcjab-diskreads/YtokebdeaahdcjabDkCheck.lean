/-
  Check, and why a write is refused.
-/
import Derived.Test.YtokebdeaahdcjabDkBase
namespace Go.Proofs.Ytokebdeaahdcjab
open Go.ChangeShapes Go.WideShapes Go.ChangeAt Go.RowKit Go.Deep
open Dk (Wr St)

theorem chk_nine {s : St} (h : ¬ Dk.Ok s) : Dk.chk s = 9 := by
  rcases Dk.chk_or s with e | e
  · exact absurd (Dk.chk_zero.1 e) h
  · exact e

theorem box_new (w : World) (x y : Value) (t : TypeId) : (w.alloc (.cells #[x, y] t)).cell? ⟨w.heap.size, 0, none⟩ = some x ∧ (w.alloc (.cells #[x, y] t)).cell? ⟨w.heap.size, 1, none⟩ = some y := by
  have := heap_alloc_new w (.cells #[x, y] t)
  exact ⟨(cell_of this 0).1, (cell_of this 1).1⟩

set_option maxRecDepth 100000 in
set_option maxHeartbeats 3200000 in
theorem check_any (s : St) (a a' : Option Addr) (c c' : Nat) (w : World) (hS : LayS w a s.secs) (hW : LayW w a' s.cache) (hn : s.secs.length ≤ 200000000000000) (hm : s.cache.length ≤ 200000000000000) :
    Calls Try.prog 20 #[.agg #[.slice a s.secs.length c, .slice a' s.cache.length c']] w fun e w' => e = .returned (.int .i64 (Dk.chk s)) ∧ Below w.heap.size w w' := by
  obtain ⟨ss, ws⟩ := s
  simp only at hS hW hn hm ⊢
  have HS : Hid (LayS w a ss) := hS
  have HW : Hid (LayW w a' ws) := hW
  clear hS hW
  have B0 : Hid (Below w.heap.size w (w.alloc (.cells #[.slice a ss.length c, .slice a' ws.length c'] 30))) := below_one _ _
  by_cases h1 : ss.length < 1
  · have h1b : decide ((ss.length : Int) < 1) = true := decide_eq_true (by omega)
    have HR : Hid (Dk.chk ⟨ss, ws⟩ = 9) := chk_nine fun h => by have := h.lo; simp only at this; omega
    generalize Dk.chk ⟨ss, ws⟩ = res at *
    go_enter Try.func20, Try.ntmps20
    go_wp2_with fail
    go_ret
    exact ⟨by rw [HR.out]; rfl, B0.out⟩
  have h1b : decide ((ss.length : Int) < 1) = false := decide_eq_false (by omega)
  by_cases h2 : 4096 < ss.length
  · have h2b : decide (4096 < (ss.length : Int)) = true := decide_eq_true (by omega)
    have HR : Hid (Dk.chk ⟨ss, ws⟩ = 9) := chk_nine fun h => by have := h.hi; simp only at this; omega
    generalize Dk.chk ⟨ss, ws⟩ = res at *
    go_enter Try.func20, Try.ntmps20
    go_wp2_with fail
    go_ret
    exact ⟨by rw [HR.out]; rfl, B0.out⟩
  have h2b : decide (4096 < (ss.length : Int)) = false := decide_eq_false (by omega)
  by_cases h3 : 4096 < ws.length
  · have h3b : decide (4096 < (ws.length : Int)) = true := decide_eq_true (by omega)
    have HR : Hid (Dk.chk ⟨ss, ws⟩ = 9) := chk_nine fun h => by have := h.few; simp only at this; omega
    generalize Dk.chk ⟨ss, ws⟩ = res at *
    go_enter Try.func20, Try.ntmps20
    go_wp2_with fail
    go_ret
    exact ⟨by rw [HR.out]; rfl, B0.out⟩
  have h3b : decide (4096 < (ws.length : Int)) = false := decide_eq_false (by omega)
  have hchk : ∀ r, Dk.chk ⟨ss, ws⟩ = r → Hid (Dk.chk ⟨ss, ws⟩ = r) := fun r h => h
  have H9 : Hid (¬ Dk.Ok ⟨ss, ws⟩ → Dk.chk ⟨ss, ws⟩ = 9) := chk_nine
  have H0 : Hid (Dk.Ok ⟨ss, ws⟩ → Dk.chk ⟨ss, ws⟩ = 0) := Dk.chk_zero.2
  clear hchk
  generalize Dk.chk ⟨ss, ws⟩ = res at *
  go_enter Try.func20, Try.ntmps20
  obtain ⟨x0, x1⟩ := box_new w (.slice a ss.length c) (.slice a' ws.length c') 30
  have hwsz : (w.alloc (.cells #[.slice a ss.length c, .slice a' ws.length c'] 30)).heap.size = w.heap.size + 1 := by simp
  go_wp2_with fail
  generalize w.alloc (.cells #[.slice a ss.length c, .slice a' ws.length c'] 30) = W at *
  go_loopw [26] (fun i wr => ∃ m : Nat, m ≤ ss.length ∧ i = .int .i64 m ∧ wr = W ∧ Hid (∀ j l, j < m → ss[j]? = some l → l.length = 48)) (fun i _ => ss.length - (intOf i).toNat)
  case atStart => exact ⟨0, by omega, rfl, rfl, fun j l h _ => by omega⟩
  case round =>
    obtain ⟨m, hm1, rfl, rfl, HI⟩ := hrel
    by_cases hlt : m < ss.length
    · have hlt1 : (m : Int) < (ss.length : Int) := by omega
      obtain ⟨l, hl⟩ : ∃ l, ss[m]? = some l := ⟨_, List.getElem?_eq_getElem hlt⟩
      obtain ⟨b, off, a1, c1, rfl, q1, -⟩ := (HS.out.below B0.out) m l hl
      by_cases h48 : l.length = 48
      · have h48b : ((l.length : Int) != 48) = false := by simp; omega
        have HI2 : Hid (∀ j l, j < m + 1 → ss[j]? = some l → l.length = 48) := by
          intro j l' hj hl'
          by_cases e : j = m
          · subst e
            rw [hl] at hl'
            cases hl'
            exact h48
          · exact HI.out j l' (by omega) hl'
        clear hl h48
        go_wp2_with fail
        exact ⟨⟨m + 1, by omega, by go_num, trivial, HI2.out⟩, by simp [intOf]; omega⟩
      · have h48b : ((l.length : Int) != 48) = true := by simp; omega
        have HR : Hid (res = 9) := H9.out fun h => h48 (h.rows l (List.mem_of_getElem? hl))
        clear hl h48
        go_wp2_with fail
        go_ret
        exact ⟨by rw [HR.out]; rfl, B0.out⟩
    · have hme : m = ss.length := by omega
      subst hme
      go_wp2_with fail
      have HI' : Hid (∀ l ∈ ss, l.length = 48) := by
        intro l hl
        obtain ⟨j, hj⟩ := List.mem_iff_getElem?.1 hl
        exact HI.out j l (List.getElem?_eq_some_iff.1 hj).1 hj
      clear HI
      go_loopw [37] (fun i wr => ∃ m : Nat, m ≤ ws.length ∧ i = .int .i64 m ∧ Hid (Below w.heap.size w wr) ∧ Hid (∀ j x, j < m → ws[j]? = some x → Dk.OkW ss.length x)) (fun i _ => ws.length - (intOf i).toNat)
      case atStart => exact ⟨0, by omega, rfl, B0.out, fun j l h _ => by omega⟩
      case round =>
        obtain ⟨m, hm1, rfl, HB, HI⟩ := hrel
        by_cases hlt : m < ws.length
        · have hlt1 : (m : Int) < (ws.length : Int) := by omega
          obtain ⟨x, hx⟩ : ∃ x, ws[m]? = some x := ⟨_, List.getElem?_eq_getElem hlt⟩
          obtain ⟨b, off, a1, c1, rfl, q0, q1, q2, q3, q4, q5, q6⟩ := (HW.out.below HB.out) m x hx
          have HX : Hid (ws[m]? = some x) := hx
          clear hx
          cases hfl : x.fl with
          | true =>
            have HR : Hid (res = 9) := H9.out fun h => by
              have := (h.fits x (List.mem_of_getElem? HX.out)).1
              rw [hfl] at this
              cases this
            rw [hfl] at q0
            have B1 : Hid (Below w.heap.size w (wr.alloc (.cells #[.bool true, .int .i64 x.sec, .slice a1 x.d.length c1] 28))) := nxt HB.out (below_one _ _)
            clear hfl
            go_wp2_with fail
            go_ret
            refine ⟨by rw [HR.out]; rfl, ?_⟩
            exact B1.out
          | false =>
            rw [hfl] at q0
            have B1 : Hid (Below w.heap.size w (wr.alloc (.cells #[.bool false, .int .i64 x.sec, .slice a1 x.d.length c1] 28))) := nxt HB.out (below_one _ _)
            have HMF : Hid (∀ W, Calls Try.prog 42 #[.agg #[.bool false, .int .i64 x.sec, .slice a1 x.d.length c1], .int .i64 (ss.length : Nat)] W fun e w' => e = .returned (.int .i64 (Dk.misfit x ss.length)) ∧ Below W.heap.size W w') := by
              intro W
              have := misfit_any x ss.length a1 c1 W (by omega) q4 q5 q6
              rw [hfl] at this
              exact this
            by_cases hz : Dk.misfit x ss.length = 0
            · have HO2 : Hid (∀ j x, j < m + 1 → ws[j]? = some x → Dk.OkW ss.length x) := by
                intro j y hj hy
                by_cases e : j = m
                · subst e
                  have := HX.out
                  rw [this] at hy
                  cases hy
                  exact ⟨hfl, Dk.misfit_zero.1 hz⟩
                · exact HI.out j y (by omega) hy
              rw [hz] at HMF
              clear hz hfl
              go_wp2_with (go_at_call 42; refine (HMF.out _).mono ?_; rintro e w1 ⟨rfl, hb1⟩; have HB1 : Hid (Below _ _ _) := nxt B1.out hb1; clear hb1)
              exact ⟨⟨m + 1, by omega, by go_num, HB1.out, HO2.out⟩, by simp [intOf]; omega⟩
            · have hzb : (Dk.misfit x ss.length != 0) = true := by simp [hz]
              have HR : Hid (res = 9) := H9.out fun h => hz (Dk.misfit_zero.2 (h.fits x (List.mem_of_getElem? HX.out)).2)
              generalize Dk.misfit x ss.length = mf at *
              clear hz hfl
              go_wp2_with (go_at_call 42; refine (HMF.out _).mono ?_; rintro e w1 ⟨rfl, hb1⟩; have HB1 : Hid (Below _ _ _) := nxt B1.out hb1; clear hb1)
              go_ret
              exact ⟨by rw [HR.out]; rfl, HB1.out⟩
        · have hme : m = ws.length := by omega
          subst hme
          have HR : Hid (res = 0) := by
            refine H0.out ⟨by simp only; omega, by simp only; omega, by simp only; omega, HI'.out, ?_⟩
            intro x hx
            obtain ⟨j, hj⟩ := List.mem_iff_getElem?.1 hx
            exact HI.out j x (List.getElem?_eq_some_iff.1 hj).1 hj
          go_wp2_with fail
          go_ret
          exact ⟨by rw [HR.out]; rfl, HB.out⟩

set_option maxRecDepth 100000 in
set_option maxHeartbeats 1600000 in
theorem refusal_any (s : St) (x : Wr) (a a' b : Option Addr) (c c' d : Nat) (w : World) (hn : s.secs.length ≤ 200000000000000) (hm : s.cache.length ≤ 4096) (hd : x.d.length ≤ 140737488351232) (h1 : -9223372036854775808 ≤ x.sec) (h2 : x.sec ≤ 9223372036854775807) :
    Calls Try.prog 29 #[.agg #[.slice a s.secs.length c, .slice a' s.cache.length c'], .agg #[.bool x.fl, .int .i64 x.sec, .slice b x.d.length d]] w fun e w' => e = .returned (.int .i64 (Dk.refusal s x)) ∧ Below w.heap.size w w' := by
  have HMF : Hid (∀ W, Calls Try.prog 42 #[.agg #[.bool x.fl, .int .i64 x.sec, .slice b x.d.length d], .int .i64 (s.secs.length : Nat)] W fun e w' => e = .returned (.int .i64 (Dk.misfit x s.secs.length)) ∧ Below W.heap.size W w') := fun W => misfit_any x s.secs.length b d W hn hd h1 h2
  have HR : Hid (Dk.refusal s x = if x.fl then (if x.sec ≠ 0 ∨ x.d.length ≠ 0 then 1 else 0) else if Dk.misfit x s.secs.length ≠ 0 then Dk.misfit x s.secs.length else if s.cache.length = 4096 then 51 else 0) := rfl
  obtain ⟨fl, sec, dd⟩ := x
  obtain ⟨ss, ws⟩ := s
  simp only at *
  have BL : Hid (Below w.heap.size w ((w.alloc (.cells #[.slice a ss.length c, .slice a' ws.length c'] 30)).alloc (.cells #[.bool fl, .int .i64 sec, .slice b dd.length d] 28))) := nxt (below_one _ _) (below_one _ _)
  generalize Dk.refusal ⟨ss, ws⟩ ⟨fl, sec, dd⟩ = res at *
  generalize Dk.misfit ⟨fl, sec, dd⟩ ss.length = mf at *
  have hq := heap_alloc_new w (.cells #[.slice a ss.length c, .slice a' ws.length c'] 30)
  have hq2 := (Below.heap_alloc (w.alloc (.cells #[.slice a ss.length c, .slice a' ws.length c'] 30)) (.cells #[.bool fl, .int .i64 sec, .slice b dd.length d] 28) w.heap.size (by simp)).trans hq
  have X0 : Hid (((w.alloc (.cells #[.slice a ss.length c, .slice a' ws.length c'] 30)).alloc (.cells #[.bool fl, .int .i64 sec, .slice b dd.length d] 28)).cell? ⟨w.heap.size, 0, none⟩ = some (.slice a ss.length c)) := (cell_of hq2 0).1
  have X1 : Hid (((w.alloc (.cells #[.slice a ss.length c, .slice a' ws.length c'] 30)).alloc (.cells #[.bool fl, .int .i64 sec, .slice b dd.length d] 28)).cell? ⟨w.heap.size, 1, none⟩ = some (.slice a' ws.length c')) := (cell_of hq2 1).1
  clear hq hq2
  cases fl with
  | true =>
    by_cases hs : sec = 0
    · have hsb : (sec != 0) = false := by simp [hs]
      by_cases hd0 : dd.length = 0
      · have hdb : ((dd.length : Int) != 0) = false := by simp only [bne_eq_false_iff_eq]; omega
        have H : Hid (res = 0) := by
          show _ = _
          rw [HR.out]
          simp [hs, hd0]
        clear hs hd0
        go_enter Try.func29, Try.ntmps29
        go_wp2_with fail
        go_ret
        exact ⟨by rw [H.out]; rfl, BL.out⟩
      · have hdb : ((dd.length : Int) != 0) = true := by simp only [bne_iff_ne, ne_eq]; omega
        have H : Hid (res = 1) := by
          show _ = _
          rw [HR.out]
          simp only [if_true]
          exact if_pos (Or.inr hd0)
        clear hs hd0
        go_enter Try.func29, Try.ntmps29
        go_wp2_with fail
        go_ret
        exact ⟨by rw [H.out]; rfl, BL.out⟩
    · have hsb : (sec != 0) = true := by simp [hs]
      have H : Hid (res = 1) := by
        show _ = _
        rw [HR.out]
        simp only [if_true]
        exact if_pos (Or.inl hs)
      clear hs
      go_enter Try.func29, Try.ntmps29
      go_wp2_with fail
      go_ret
      exact ⟨by rw [H.out]; rfl, BL.out⟩
  | false =>
    by_cases hz : mf = 0
    · have hzb : (mf != 0) = false := by simp [hz]
      by_cases h4 : ws.length = 4096
      · have h4b : ((ws.length : Int) == 4096) = true := by simp; omega
        have H : Hid (res = 51) := by
          show _ = _
          rw [HR.out]
          simp [hz, h4]
        clear hz h4
        go_enter Try.func29, Try.ntmps29
        go_wp2_with (go_at_call 42; refine (HMF.out _).mono ?_; rintro e w1 ⟨rfl, hb1⟩; have z1 := keepc hb1 _ _ X1.out; have z0 := keepc hb1 _ _ X0.out; have HB1 : Hid (Below _ _ _) := nxt BL.out hb1; clear hb1)
        go_ret
        exact ⟨by rw [H.out]; rfl, HB1.out⟩
      · have h4b : ((ws.length : Int) == 4096) = false := by simp; omega
        have H : Hid (res = 0) := by
          show _ = _
          rw [HR.out]
          simp [hz, h4]
        clear hz h4
        go_enter Try.func29, Try.ntmps29
        go_wp2_with (go_at_call 42; refine (HMF.out _).mono ?_; rintro e w1 ⟨rfl, hb1⟩; have z1 := keepc hb1 _ _ X1.out; have z0 := keepc hb1 _ _ X0.out; have HB1 : Hid (Below _ _ _) := nxt BL.out hb1; clear hb1)
        go_ret
        exact ⟨by rw [H.out]; rfl, HB1.out⟩
    · have hzb : (mf != 0) = true := by simp [hz]
      have H : Hid (res = mf) := by
        show _ = _
        rw [HR.out]
        simp [hz]
      clear hz
      go_enter Try.func29, Try.ntmps29
      go_wp2_with (go_at_call 42; refine (HMF.out _).mono ?_; rintro e w1 ⟨rfl, hb1⟩; have HB1 : Hid (Below _ _ _) := nxt BL.out hb1; clear hb1)
      go_ret
      exact ⟨by rw [H.out]; rfl, HB1.out⟩
end Go.Proofs.Ytokebdeaahdcjab
