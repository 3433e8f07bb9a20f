/-
  The page's Check.
-/
import Derived.Test.YtokebdeaahdcjabDkCheck
namespace Go.Proofs.Ytokebdeaahdcjab
open Go.ChangeShapes Go.WideShapes Go.ChangeAt Go.RowKit Go.Deep
open Dk (Wr St)

def fitsB (x : Wr) (n : Nat) : Bool := decide (0 ≤ x.sec) && (decide (x.sec ≤ n) && decide ((Dk.need x.d : Int) ≤ n - x.sec))

set_option maxRecDepth 100000 in
set_option maxHeartbeats 1600000 in
theorem fits_any (s : St) (x : Wr) (a a' b : Option Addr) (c c' d : Nat) (w : World) (hn : s.secs.length ≤ 200000000000000) (hd : x.d.length ≤ 140737488351232) (h1 : -9223372036854775808 ≤ x.sec) (h2 : x.sec ≤ 9223372036854775807) :
    Calls Try.prog 34 #[.agg #[.slice a s.secs.length c, .slice a' s.cache.length c'], .agg #[.bool x.fl, .int .i64 x.sec, .slice b x.d.length d]] w fun e w' => e = .returned (.bool (fitsB x s.secs.length)) ∧ Below w.heap.size w w' := by
  obtain ⟨ss, ws⟩ := s
  obtain ⟨fl, sec, dd⟩ := x
  simp only at *
  have BL : Hid (Below w.heap.size w ((w.alloc (.cells #[.slice a ss.length c, .slice a' ws.length c'] 25)).alloc (.cells #[.bool fl, .int .i64 sec, .slice b dd.length d] 28))) := nxt (below_one _ _) (below_one _ _)
  have hq := heap_alloc_new w (.cells #[.slice a ss.length c, .slice a' ws.length c'] 25)
  have hq2 := (Below.heap_alloc (w.alloc (.cells #[.slice a ss.length c, .slice a' ws.length c'] 25)) (.cells #[.bool fl, .int .i64 sec, .slice b dd.length d] 28) w.heap.size (by simp)).trans hq
  have x0 : ((w.alloc (.cells #[.slice a ss.length c, .slice a' ws.length c'] 25)).alloc (.cells #[.bool fl, .int .i64 sec, .slice b dd.length d] 28)).cell? ⟨w.heap.size, 0, none⟩ = some (.slice a ss.length c) := (cell_of hq2 0).1
  clear hq hq2
  by_cases hs : 0 ≤ sec
  · have hsb : decide (0 ≤ sec) = true := decide_eq_true hs
    by_cases hl : sec ≤ ss.length
    · have hlb : decide (sec ≤ (ss.length : Int)) = true := decide_eq_true hl
      have hq : ((dd.length : Int) + 48 - 1) / 48 = ((Dk.need dd : Nat) : Int) := by
        unfold Dk.need
        omega
      have HR : Hid (fitsB ⟨fl, sec, dd⟩ ss.length = decide (((dd.length : Int) + 48 - 1) / 48 ≤ ss.length - sec)) := by
        show _ = _
        unfold fitsB
        rw [hq]
        simp [hsb, hlb]
      generalize fitsB ⟨fl, sec, dd⟩ ss.length = res at *
      clear hq
      go_enter Try.func34, Try.ntmps34
      go_wp2_with fail
      go_ret
      exact ⟨by rw [HR.out]; rfl, BL.out⟩
    · have hlb : decide (sec ≤ (ss.length : Int)) = false := decide_eq_false hl
      have HR : Hid (fitsB ⟨fl, sec, dd⟩ ss.length = false) := by
        show _ = _
        unfold fitsB
        simp only [hlb, Bool.false_and, Bool.and_false]
      generalize fitsB ⟨fl, sec, dd⟩ ss.length = res at *
      go_enter Try.func34, Try.ntmps34
      go_wp2_with fail
      go_ret
      exact ⟨by rw [HR.out]; rfl, BL.out⟩
  · have hsb : decide (0 ≤ sec) = false := decide_eq_false hs
    have HR : Hid (fitsB ⟨fl, sec, dd⟩ ss.length = false) := by
      show _ = _
      unfold fitsB
      simp only [hsb, Bool.false_and]
    generalize fitsB ⟨fl, sec, dd⟩ ss.length = res at *
    go_enter Try.func34, Try.ntmps34
    go_wp2_with fail
    go_ret
    exact ⟨by rw [HR.out]; rfl, BL.out⟩

theorem okW_fits {x : Wr} {n : Nat} : Dk.OkW n x ↔ x.fl = false ∧ x.d.length ≠ 0 ∧ x.d.length % 48 = 0 ∧ fitsB x n = true := by
  unfold Dk.OkW fitsB Dk.need
  simp only [Bool.and_eq_true, decide_eq_true_eq]
  constructor
  · rintro ⟨h1, h2, h3, h4, h5⟩
    exact ⟨h1, by omega, h4, h2, by omega, by omega⟩
  · rintro ⟨h1, h2, h3, h4, h5, h6⟩
    exact ⟨h1, h4, by omega, h3, by omega⟩

set_option maxRecDepth 100000 in
set_option maxHeartbeats 3200000 in
theorem rcheck_any (s : St) (a a' : Option Addr) (c c' : Nat) (w : World) (hS : LayS w a s.secs) (hW : LayW w a' s.cache) (hn : s.secs.length ≤ 200000000000000) (hm : s.cache.length ≤ 200000000000000) :
    Calls Try.prog 21 #[.agg #[.slice a s.secs.length c, .slice a' s.cache.length c']] w fun e w' => e = .returned (.int .i64 (Dk.chk s)) ∧ Below w.heap.size w w' := by
  obtain ⟨ss, ws⟩ := s
  simp only at hS hW hn hm ⊢
  have HS : Hid (LayS w a ss) := hS
  have HW : Hid (LayW w a' ws) := hW
  clear hS hW
  have B0 : Hid (Below w.heap.size w (w.alloc (.cells #[.slice a ss.length c, .slice a' ws.length c'] 25))) := below_one _ _
  by_cases h1 : ss.length < 1
  · have h1b : decide ((ss.length : Int) < 1) = true := decide_eq_true (by omega)
    have HR : Hid (Dk.chk ⟨ss, ws⟩ = 9) := chk_nine fun h => by have := h.lo; simp only at this; omega
    generalize Dk.chk ⟨ss, ws⟩ = res at *
    go_enter Try.func21, Try.ntmps21
    go_wp2_with fail
    go_ret
    exact ⟨by rw [HR.out]; rfl, B0.out⟩
  have h1b : decide ((ss.length : Int) < 1) = false := decide_eq_false (by omega)
  by_cases h2 : 4096 < ss.length
  · have h2b : decide (4096 < (ss.length : Int)) = true := decide_eq_true (by omega)
    have HR : Hid (Dk.chk ⟨ss, ws⟩ = 9) := chk_nine fun h => by have := h.hi; simp only at this; omega
    generalize Dk.chk ⟨ss, ws⟩ = res at *
    go_enter Try.func21, Try.ntmps21
    go_wp2_with fail
    go_ret
    exact ⟨by rw [HR.out]; rfl, B0.out⟩
  have h2b : decide (4096 < (ss.length : Int)) = false := decide_eq_false (by omega)
  by_cases h3 : 4096 < ws.length
  · have h3b : decide (4096 < (ws.length : Int)) = true := decide_eq_true (by omega)
    have HR : Hid (Dk.chk ⟨ss, ws⟩ = 9) := chk_nine fun h => by have := h.few; simp only at this; omega
    generalize Dk.chk ⟨ss, ws⟩ = res at *
    go_enter Try.func21, Try.ntmps21
    go_wp2_with fail
    go_ret
    exact ⟨by rw [HR.out]; rfl, B0.out⟩
  have h3b : decide (4096 < (ws.length : Int)) = false := decide_eq_false (by omega)
  have H9 : Hid (¬ Dk.Ok ⟨ss, ws⟩ → Dk.chk ⟨ss, ws⟩ = 9) := chk_nine
  have H0 : Hid (Dk.Ok ⟨ss, ws⟩ → Dk.chk ⟨ss, ws⟩ = 0) := Dk.chk_zero.2
  generalize Dk.chk ⟨ss, ws⟩ = res at *
  go_enter Try.func21, Try.ntmps21
  obtain ⟨x0, x1⟩ := box_new w (.slice a ss.length c) (.slice a' ws.length c') 25
  go_wp2_with fail
  generalize w.alloc (.cells #[.slice a ss.length c, .slice a' ws.length c'] 25) = W at *
  go_loopw [3] (fun i wr => ∃ m : Nat, m ≤ ss.length ∧ i = .int .i64 m ∧ wr = W ∧ Hid (∀ j l, j < m → ss[j]? = some l → l.length = 48)) (fun i _ => ss.length - (intOf i).toNat)
  case atStart => exact ⟨0, by omega, rfl, rfl, fun j l h _ => by omega⟩
  case round =>
    obtain ⟨m, hm1, rfl, hwr, HI⟩ := hrel
    subst wr
    by_cases hlt : m < ss.length
    · have hlt1 : (m : Int) < (ss.length : Int) := by omega
      obtain ⟨l, hl⟩ : ∃ l, ss[m]? = some l := ⟨_, List.getElem?_eq_getElem hlt⟩
      obtain ⟨b, off, a1, c1, rfl, q1, -⟩ := (HS.out.below B0.out) m l hl
      by_cases h48 : l.length = 48
      · have h48b : ((l.length : Int) != 48) = false := by simp; omega
        have HI2 : Hid (∀ j l, j < m + 1 → ss[j]? = some l → l.length = 48) := by
          intro j l' hj hl'
          by_cases e : j = m
          · subst e
            rw [hl] at hl'
            cases hl'
            exact h48
          · exact HI.out j l' (by omega) hl'
        clear hl h48
        go_wp2_with fail
        exact ⟨⟨m + 1, by omega, by go_num, trivial, HI2.out⟩, by simp [intOf]; omega⟩
      · have h48b : ((l.length : Int) != 48) = true := by simp; omega
        have HR : Hid (res = 9) := H9.out fun h => h48 (h.rows l (List.mem_of_getElem? hl))
        clear hl h48
        go_wp2_with fail
        go_ret
        exact ⟨by rw [HR.out]; rfl, B0.out⟩
    · have hme : m = ss.length := by omega
      subst hme
      go_wp2_with fail
      have HI' : Hid (∀ l ∈ ss, l.length = 48) := by
        intro l hl
        obtain ⟨j, hj⟩ := List.mem_iff_getElem?.1 hl
        exact HI.out j l (List.getElem?_eq_some_iff.1 hj).1 hj
      clear HI
      go_loopw [4] (fun i wr => ∃ m : Nat, m ≤ ws.length ∧ i = .int .i64 m ∧ Hid (Below W.heap.size W wr) ∧ Hid (∀ j x, j < m → ws[j]? = some x → Dk.OkW ss.length x)) (fun i _ => ws.length - (intOf i).toNat)
      case atStart => exact ⟨0, by omega, rfl, Below.refl _ _, fun j l h _ => by omega⟩
      case round =>
        obtain ⟨m, hm1, rfl, HB, HI⟩ := hrel
        have y0 := keepc HB.out _ _ x0
        have y1 := keepc HB.out _ _ x1
        by_cases hlt : m < ws.length
        · have hlt1 : (m : Int) < (ws.length : Int) := by omega
          obtain ⟨x, hx⟩ : ∃ x, ws[m]? = some x := ⟨_, List.getElem?_eq_getElem hlt⟩
          obtain ⟨b, off, a1, c1, rfl, q0, q1, q2, q3, q4, q5, q6⟩ := (HW.out.below (nxt B0.out HB.out)) m x hx
          have HX : Hid (ws[m]? = some x) := hx
          have y0' : ∀ o, (wr.alloc o).cell? ⟨w.heap.size, 0, none⟩ = some (.slice a ss.length c) := fun o => keepc (below_one _ _) _ _ y0
          have y1' : ∀ o, (wr.alloc o).cell? ⟨w.heap.size, 1, none⟩ = some (.slice (some ⟨b, off, none⟩) ws.length c') := fun o => keepc (below_one _ _) _ _ y1
          have B1 : Hid (∀ o, Below W.heap.size W (wr.alloc o)) := fun o => nxt HB.out (below_one _ _)
          have HN : Hid (¬ Dk.OkW ss.length x → res = 9) := fun h => H9.out fun h' => h (h'.fits x (List.mem_of_getElem? HX.out))
          have HFT : Hid (∀ W', Calls Try.prog 34 #[.agg #[.slice a ss.length c, .slice (some ⟨b, off, none⟩) ws.length c'], .agg #[.bool x.fl, .int .i64 x.sec, .slice a1 x.d.length c1]] W' fun e w' => e = .returned (.bool (fitsB x ss.length)) ∧ Below W'.heap.size W' w') :=
            fun W' => fits_any ⟨ss, ws⟩ x a (some ⟨b, off, none⟩) a1 c c' c1 W' hn q4 q5 q6
          have HO2 : Hid (Dk.OkW ss.length x → ∀ j x, j < m + 1 → ws[j]? = some x → Dk.OkW ss.length x) := by
            intro hok j y hj hy
            by_cases e : j = m
            · subst e
              have := HX.out
              rw [this] at hy
              cases hy
              exact hok
            · exact HI.out j y (by omega) hy
          have HIF : Hid (Dk.OkW ss.length x ↔ x.fl = false ∧ x.d.length ≠ 0 ∧ x.d.length % 48 = 0 ∧ fitsB x ss.length = true) := okW_fits
          generalize fitsB x ss.length = fb at *
          obtain ⟨fl, sec, d⟩ := x
          simp only at *
          clear hx q3 HI HX
          cases fl with
          | true =>
            have HR : Hid (res = 9) := HN.out fun h => by have := (HIF.out.1 h).1; cases this
            go_wp2_with fail
            go_ret
            exact ⟨by rw [HR.out]; rfl, nxt B0.out (B1.out _)⟩
          | false =>
            by_cases hd0 : d.length = 0
            · have HR : Hid (res = 9) := HN.out fun h => (HIF.out.1 h).2.1 hd0
              have hdb : ((d.length : Int) == 0) = true := by simp only [beq_iff_eq]; omega
              clear hd0
              go_wp2_with fail
              go_ret
              exact ⟨by rw [HR.out]; rfl, nxt B0.out (B1.out _)⟩
            · have hdb : ((d.length : Int) == 0) = false := by simp only [beq_eq_false_iff_ne, ne_eq]; omega
              by_cases hm48 : d.length % 48 = 0
              · have hmb : ((d.length : Int) % 48 != 0) = false := by simp; omega
                cases fb with
                | true =>
                  have HOK : Hid (Dk.OkW ss.length ⟨false, sec, d⟩) := HIF.out.2 ⟨rfl, hd0, hm48, rfl⟩
                  clear hd0 hm48
                  go_wp2_with (go_at_call 34; refine (HFT.out _).mono ?_; rintro e w1 ⟨rfl, hb1⟩; have HB1 : Hid (Below W.heap.size W w1) := nxt (B1.out _) hb1; clear hb1)
                  exact ⟨⟨m + 1, by omega, by go_num, HB1.out, HO2.out HOK.out⟩, by simp [intOf]; omega⟩
                | false =>
                  have HR : Hid (res = 9) := HN.out fun h => by have := (HIF.out.1 h).2.2.2; cases this
                  clear hd0 hm48
                  go_wp2_with (go_at_call 34; refine (HFT.out _).mono ?_; rintro e w1 ⟨rfl, hb1⟩; have HB1 : Hid (Below W.heap.size W w1) := nxt (B1.out _) hb1; clear hb1)
                  go_ret
                  exact ⟨by rw [HR.out]; rfl, nxt B0.out HB1.out⟩
              · have hmb : ((d.length : Int) % 48 != 0) = true := by simp; omega
                have HR : Hid (res = 9) := HN.out fun h => hm48 (HIF.out.1 h).2.2.1
                clear hd0 hm48
                go_wp2_with fail
                go_ret
                exact ⟨by rw [HR.out]; rfl, nxt B0.out (B1.out _)⟩
        · have hme : m = ws.length := by omega
          subst hme
          have HR : Hid (res = 0) := by
            refine H0.out ⟨by simp only; omega, by simp only; omega, by simp only; omega, HI'.out, ?_⟩
            intro x hx
            obtain ⟨j, hj⟩ := List.mem_iff_getElem?.1 hx
            exact HI.out j x (List.getElem?_eq_some_iff.1 hj).1 hj
          go_wp2_with fail
          go_ret
          exact ⟨by rw [HR.out]; rfl, nxt B0.out HB.out⟩
end Go.Proofs.Ytokebdeaahdcjab
