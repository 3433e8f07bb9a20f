/-
  Logs that Append built, as mathematics.
-/
import Derived.Test.YtocodkoanjcmkabWlRecs
namespace Go.Proofs.Ytocodkoanjcmkab
open Go.ChangeShapes Go.WideShapes Go.ChangeAt Go.RowKit Go.Deep
open Se

/-- Records' octets, one behind the other. -/
def frs (rs : List Rc) : List UInt8 := (rs.map fun r => rfr r.1 r.2).flatten
theorem frs_cons (r : Rc) (rs : List Rc) : frs (r :: rs) = rfr r.1 r.2 ++ frs rs := by simp [frs]
theorem frs_append (rs qs : List Rc) : frs (rs ++ qs) = frs rs ++ frs qs := by simp [frs]
theorem frs_one (r : Rc) : frs [r] = rfr r.1 r.2 := by simp [frs]
theorem frs_pos {rs : List Rc} (h : rs ≠ []) : 16 ≤ (frs rs).length := by
  cases rs with
  | nil => exact absurd rfl h
  | cons r rs => rw [frs_cons, List.length_append, rfr_length]; omega
/-- Numbers rise by one; each record may be. -/
def Num : Int → List Rc → Prop
  | _, [] => True
  | d, r :: rs => r.1 = d ∧ r.2.length ≤ 400 ∧ Num (d + 1) rs
theorem Num.app : ∀ {rs qs : List Rc} {d : Int}, Num d (rs ++ qs) ↔ Num d rs ∧ Num (d + rs.length) qs
  | [], qs, d => by simp [Num]
  | r :: rs, qs, d => by
    have ih := Num.app (rs := rs) (qs := qs) (d := d + 1)
    simp only [List.cons_append, Num, ih, List.length_cons]
    rw [show d + ((rs.length + 1 : Nat) : Int) = d + 1 + rs.length by omega]
    constructor
    · rintro ⟨h1, h2, h3, h4⟩; exact ⟨⟨h1, h2, h3⟩, h4⟩
    · rintro ⟨⟨h1, h2, h3⟩, h4⟩; exact ⟨h1, h2, h3, h4⟩

theorem tk_rfr {d : Int} {x : List UInt8} (rest : List UInt8) (h0 : 0 ≤ d) (h1 : d ≤ 9223372036854775807) (hx : x.length ≤ 400) : tkR (rfr d x ++ rest) = (d, x, 16 + x.length, true) := by
  have hol := octs_length d
  have hg : getR (rfr d x ++ rest) = (0, 2, octs d ++ x, (frame 2 (octs d ++ x)).length) := get_put (by decide) (by rw [List.length_append]; omega) rest
  have ht : (octs d ++ x).take 8 = octs d := by rw [← hol]; exact List.take_left
  have hd : (octs d ++ x).drop 8 = x := by rw [← hol]; exact List.drop_left
  have hfl : (frame 2 (octs d ++ x)).length = 16 + x.length := by rw [frame_length, List.length_append]; omega
  unfold tkR
  rw [hg]
  simp only [ht, hd, hfl, numO_octs h0 (show d < 18446744073709551616 by omega), List.length_append, hol]
  rw [if_neg (by simp), if_neg (by simp), if_neg (by omega), if_neg (by omega), if_neg (by omega)]

theorem wrap_id {n : Int} (h0 : -9223372036854775808 ≤ n) (h1 : n ≤ 9223372036854775807) : wrap64 n = n := by unfold wrap64; omega

theorem sc_frs : ∀ (rs : List Rc) (d : Int) (rest : List UInt8), Num d rs → 0 ≤ d → d + rs.length ≤ 9223372036854775807 →
    scR (frs rs ++ rest) d = (rs ++ (scR rest (d + rs.length)).1, (frs rs).length + (scR rest (d + rs.length)).2)
  | [], d, rest, _, _, _ => by simp [frs]
  | r :: rs, d, rest, hn, h0, h1 => by
    obtain ⟨e, hx, hn'⟩ := hn
    simp only [List.length_cons] at h1
    have hk := tk_rfr (x := r.2) (frs rs ++ rest) h0 (by omega) hx
    have ea : frs (r :: rs) ++ rest = rfr d r.2 ++ (frs rs ++ rest) := by rw [frs_cons, e, List.append_assoc]
    have hdr : (rfr d r.2 ++ (frs rs ++ rest)).drop (16 + r.2.length) = frs rs ++ rest := by rw [← rfr_length d r.2]; exact List.drop_left
    rw [ea, scR_yes (by rw [hk]; exact ⟨rfl, rfl⟩), hk]
    simp only [hdr]
    rw [wrap_id (by omega) (by omega), sc_frs rs (d + 1) rest hn' (by omega) (by omega)]
    have er : (d, r.2) = r := by rw [← e]
    simp only [List.length_cons]
    rw [show d + ((rs.length + 1 : Nat) : Int) = d + 1 + rs.length by omega, frs_cons, List.length_append, rfr_length, er]
    simp only [List.cons_append, Nat.add_assoc]
theorem sc_stop {l : List UInt8} (h : (tkR l).2.2.2 = false) (d : Int) : scR l d = ([], 0) := scR_no (by rw [h]; simp)
theorem tk_nil : (tkR []).2.2.2 = false := by
  have : (getR []).1 = 8 := rfl
  unfold tkR
  rw [if_pos (by rw [this]; decide)]
theorem sc_all {rs : List Rc} {d : Int} (hn : Num d rs) (h0 : 0 ≤ d) (h1 : d + rs.length ≤ 9223372036854775807) : scR (frs rs) d = (rs, (frs rs).length) := by
  have := sc_frs rs d [] hn h0 h1
  rw [List.append_nil, sc_stop tk_nil] at this
  simpa using this

/-- A log that was built. -/
structure Lg (f : Int) (gs : List (List Rc)) (ss : List (List UInt8)) (nx : Int) : Prop where
  segs : ss = gs.map frs
  ne : ∀ g ∈ gs, g ≠ []
  len : ∀ g ∈ gs, (frs g).length ≤ 480
  num : Num f gs.flatten
  next : nx = f + gs.flatten.length
  lo : 1 ≤ f
  hi : nx ≤ 1099511627776
  few : gs.length ≤ 64

theorem run_built : ∀ (gs : List (List Rc)) (d : Int), (∀ g ∈ gs, g ≠ []) → (∀ g ∈ gs, (frs g).length ≤ 480) → Num d gs.flatten → 0 ≤ d → d + gs.flatten.length ≤ 1099511627776 →
    runS (gs.map frs) d = some (d + gs.flatten.length) ∧ allR (gs.map frs) d = gs.flatten
  | [], d, _, _, _, _, _ => by simp [runS, allR]
  | g :: gs, d, hne, hl, hn, h0, h1 => by
    rw [List.flatten_cons, Num.app] at hn
    simp only [List.flatten_cons, List.length_append] at h1
    have hg := sc_all hn.1 h0 (by omega)
    have h16 := frs_pos (hne g (by simp))
    have hl1 := hl g (by simp)
    obtain ⟨i1, i2⟩ := run_built gs (d + g.length) (fun x hx => hne x (by simp [hx])) (fun x hx => hl x (by simp [hx])) hn.2 (by omega) (by omega)
    simp only [List.map_cons, runS, allR, hg, List.flatten_cons, List.length_append]
    rw [if_neg (by omega), if_neg (by omega), wrap_id (by omega) (by omega), i1, i2]
    refine ⟨?_, rfl⟩
    rw [show d + ((g.length + gs.flatten.length : Nat) : Int) = d + g.length + gs.flatten.length by omega]
theorem Lg.old {f nx : Int} {gs : List (List Rc)} {ss : List (List UInt8)} (h : Lg f gs ss nx) : oldR ss nx = f := by
  rw [h.segs]
  cases gs with
  | nil => simp [oldR, h.next]
  | cons g gs =>
    have hg := h.ne g (by simp)
    have hn := h.num
    have h1 := h.lo
    have h2 := h.hi
    have h3 := h.next
    cases g with
    | nil => exact absurd rfl hg
    | cons r rs =>
      simp only [List.flatten_cons, List.cons_append, Num] at hn
      simp only [List.map_cons, oldR]
      rw [frs_cons, hn.1, tk_rfr _ (by omega) (by omega) hn.2.1]
theorem Lg.chk {f nx : Int} {gs : List (List Rc)} {ss : List (List UInt8)} (h : Lg f gs ss nx) : chkW ss nx = 0 := by
  have h1 := h.lo
  have h2 := h.hi
  have h3 := h.next
  have h4 := h.few
  have hr := (run_built gs f h.ne h.len h.num (by omega) (by omega)).1
  unfold chkW
  rw [h.old, h.segs, hr, if_neg (by rw [List.length_map]; omega), if_neg (by omega), if_pos (by rw [h3])]
theorem Lg.recs {f nx : Int} {gs : List (List Rc)} {ss : List (List UInt8)} (h : Lg f gs ss nx) : recR ss nx = (0, gs.flatten) := by
  have h1 := h.lo
  have h2 := h.hi
  have h3 := h.next
  have hr := (run_built gs f h.ne h.len h.num (by omega) (by omega)).2
  unfold recR
  rw [h.chk, if_neg (by simp), h.old, h.segs, hr]
theorem Lg.new {f : Int} (h0 : 1 ≤ f) (h1 : f ≤ 1099511627776) : Lg f [] [] f := ⟨rfl, by simp, by simp, trivial, by simp, h0, h1, by simp⟩
theorem plc_le (ss : List (List UInt8)) (n : Nat) : plc ss n ≤ ss.length := by unfold plc; split <;> omega
theorem Lg.long {f nx : Int} {gs : List (List Rc)} {ss : List (List UInt8)} (h : Lg f gs ss nx) {d : List UInt8} (hd : 400 < d.length) : appR ss nx d = (5, 0, []) := by
  unfold appR
  rw [h.chk, if_neg (by simp), if_pos hd]
theorem Lg.app {f nx : Int} {gs : List (List Rc)} {ss : List (List UInt8)} (h : Lg f gs ss nx) {d : List UInt8} (hd : d.length ≤ 400) (hnx : nx < 1099511627776) (hg : gs.length < 64) :
    appR ss nx d = (0, plc ss (16 + d.length), addS ss (rfr nx d)) ∧ nxtR ss nx d = nx + 1 ∧ ∃ gs', Lg f gs' (addS ss (rfr nx d)) (nx + 1) ∧ gs'.flatten = gs.flatten ++ [(nx, d)] ∧ gs'.length ≤ gs.length + 1 := by
  have ha : appR ss nx d = (0, plc ss (16 + d.length), addS ss (rfr nx d)) := by
    unfold appR
    have hp := plc_le ss (16 + d.length)
    have hl : ss.length = gs.length := by rw [h.segs, List.length_map]
    rw [h.chk, if_neg (by simp), if_neg (by omega), if_neg (by omega)]
  refine ⟨ha, by unfold nxtR; rw [ha]; simp, ?_⟩
  have hfl := rfr_length nx d
  have mk : ∀ gs' : List (List Rc), addS ss (rfr nx d) = gs'.map frs → (∀ g ∈ gs', g ≠ []) → (∀ g ∈ gs', (frs g).length ≤ 480) → gs'.flatten = gs.flatten ++ [(nx, d)] → gs'.length ≤ gs.length + 1 → Lg f gs' (addS ss (rfr nx d)) (nx + 1) := by
    intro gs' e1 e2 e3 e4 e5
    have h3 := h.next
    refine ⟨e1, e2, e3, ?_, ?_, h.lo, by omega, by omega⟩
    · rw [e4, Num.app]
      exact ⟨h.num, by rw [← h3]; exact ⟨rfl, hd, trivial⟩⟩
    · rw [e4, List.length_append, List.length_singleton]
      omega
  rcases List.eq_nil_or_concat gs with rfl | ⟨is, g, rfl⟩
  · have e1 : addS ss (rfr nx d) = [[(nx, d)]].map frs := by
      rw [h.segs]
      simp [addS, frs]
    exact ⟨[[(nx, d)]], mk _ e1 (by simp) (by simp [frs]; omega) (by simp) (by simp), by simp, by simp⟩
  · have hss : ss = is.map frs ++ [frs g] := by rw [h.segs]; simp
    have hls : ss.getLast? = some (frs g) := by rw [hss]; simp
    have hdl : ss.dropLast = is.map frs := by rw [hss]; simp
    by_cases hfit : (frs g).length + (rfr nx d).length ≤ 480
    · have e1 : addS ss (rfr nx d) = (is ++ [g ++ [(nx, d)]]).map frs := by
        unfold addS
        rw [hls]
        simp only
        rw [if_pos hfit, hdl]
        simp [frs_append, frs_one]
      refine ⟨is ++ [g ++ [(nx, d)]], mk _ e1 ?_ ?_ (by simp) (by simp), by simp, by simp⟩
      · intro x hx
        rcases List.mem_append.1 hx with q | q
        · exact h.ne x (by simp [q])
        · simp at q; subst q; simp
      · intro x hx
        rcases List.mem_append.1 hx with q | q
        · exact h.len x (by simp [q])
        · simp at q
          subst q
          rw [frs_append, frs_one, List.length_append]
          omega
    · have e1 : addS ss (rfr nx d) = ((is ++ [g]) ++ [[(nx, d)]]).map frs := by
        unfold addS
        rw [hls]
        simp only
        rw [if_neg hfit, hss]
        simp [frs_one]
      refine ⟨(is ++ [g]) ++ [[(nx, d)]], mk _ e1 ?_ ?_ (by simp) (by simp), by simp, by simp⟩
      · intro x hx
        rcases List.mem_append.1 hx with q | q
        · exact h.ne x (by simpa using q)
        · simp at q; subst q; simp
      · intro x hx
        rcases List.mem_append.1 hx with q | q
        · exact h.len x (by simpa using q)
        · simp at q
          subst q
          rw [frs_one]
          show (rfr nx d).length ≤ 480
          omega
end Go.Proofs.Ytocodkoanjcmkab
