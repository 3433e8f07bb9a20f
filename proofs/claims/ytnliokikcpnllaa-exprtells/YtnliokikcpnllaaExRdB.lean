/-
  The program's reader: an op, a number, a text, a count; what it keeps.
-/
import Derived.Test.YtnliokikcpnllaaExRd
import Derived.Test.YtnliokikcpnllaaExOf
namespace Go.Proofs.Ytnliokikcpnllaa
open Go.ChangeShapes Go.WideShapes Go.ChangeAt Go.RowKit
open Fl

theorem octs_numO {a : List UInt8} (h : a.length = 8) : octs (numO a) = a ∧ U (numO a) := by
  match a, h with
  | [a0, a1, a2, a3, a4, a5, a6, a7], _ =>
    have h0 := a0.toNat_lt
    have h1 := a1.toNat_lt
    have h2 := a2.toNat_lt
    have h3 := a3.toNat_lt
    have h4 := a4.toNat_lt
    have h5 := a5.toNat_lt
    have h6 := a6.toNat_lt
    have h7 := a7.toNat_lt
    have e : ∃ N : Nat, numO [a0, a1, a2, a3, a4, a5, a6, a7] = N ∧ N = (((((((a0.toNat * 256 + a1.toNat) * 256 + a2.toNat) * 256 + a3.toNat) * 256 + a4.toNat) * 256 + a5.toNat) * 256 + a6.toNat) * 256 + a7.toNat) := by
      refine ⟨_, ?_, rfl⟩
      simp only [numO, List.foldl_cons, List.foldl_nil]
      omega
    obtain ⟨N, e1, e2⟩ := e
    rw [e1]
    refine ⟨?_, by unfold U; omega⟩
    simp only [octs, List.range, List.range.loop, List.map_cons, List.map_nil, oct, Int.toNat_natCast]
    simp only [show 8 * (7 - 0) = 56 by rfl, show 8 * (7 - 1) = 48 by rfl, show 8 * (7 - 2) = 40 by rfl, show 8 * (7 - 3) = 32 by rfl, show 8 * (7 - 4) = 24 by rfl, show 8 * (7 - 5) = 16 by rfl, show 8 * (7 - 6) = 8 by rfl, show 8 * (7 - 7) = 0 by rfl]
    simp only [List.cons.injEq, and_true]
    refine ⟨?_, ?_, ?_, ?_, ?_, ?_, ?_, ?_⟩ <;> (apply UInt8.toNat_inj.1; rw [UInt8.toNat_ofNat']; omega)

/-- A number of eight octets. -/
def bitsR (s : SX) : Except Int (Int × SX) := if s.1.length < 8 then .error 8 else if can (numO (s.1.take 8)) = numO (s.1.take 8) then .ok (numO (s.1.take 8), (s.1.drop 8, s.2)) else .error 1

/-- An op. -/
def opR (s : SX) : Except Int (Int × SX) := match octetX s with
  | .error e => .error e
  | .ok (k, s') => if withinB k 0 29 = true then .ok (k, s') else .error 22

/-- A text of so many octets. -/
def textR (lo hi : Int) (s : SX) : Except Int (ByteArray × SX) := match octetX s with
  | .error e => .error e
  | .ok (n, s') => if withinB n lo hi = true then (if s'.1.length < n.toNat then .error 8 else .ok (⟨(s'.1.take n.toNat).toArray⟩, (s'.1.drop n.toNat, s'.2))) else .error 5

/-- How many parts. -/
def countR (k : Int) (s : SX) : Except Int (Int × SX) := if (argB k).1 = (argB k).2 then .ok ((argB k).1, s) else match octetX s with
  | .error e => .error e
  | .ok (n, s') => if (argB k).2 < n then .error 3 else .ok (n, s')

set_option maxRecDepth 100000 in
set_option maxHeartbeats 3200000 in
theorem bitsX_rd (p : Nat) (l : List UInt8) (q : Nat) (w : World) (hr : RdX w p (l, q)) :
    Calls Try.prog 57 #[.pointer (some ⟨p, 0, none⟩)] w (RPost (bitsR (l, q)) p (fun b => .int .u64 b) w) := by
  have HN : Hid (Calls Try.prog 68 #[.pointer (some ⟨p, 0, none⟩), .int .i64 ((8 : Nat) : Int)] w _) := nextX_any 8 p (l, q) w hr (by decide)
  go_enter Try.func57, Try.ntmps57
  go_wp2_with fail
  refine HN.out.mono ?_
  rintro e w2 ⟨hg2, ⟨h5, rfl⟩ | ⟨h5, h6, a', c', rfl, h7⟩⟩
  · go_wp2_with fail
    refine ⟨rfl, hg2, Or.inr ⟨8, ?_, rfl⟩⟩
    unfold bitsR
    rw [if_pos h5]
  · have H6 : Hid (RdX w2 p (l.drop 8, q)) := h6
    have H7 : Hid (LayB w2 a' (l.take 8)) := h7
    have G2 : Hid (w.grownBy w2 (some p)) := hg2
    have h5' : 8 ≤ l.length := h5
    have hlt : (l.take 8).length = 8 := by rw [List.length_take]; omega
    have HE : Hid (can (numO (l.take 8)) = numO (l.take 8) → bitsR (l, q) = .ok (numO (l.take 8), (l.drop 8, q))) := by
      intro h
      unfold bitsR
      rw [if_neg (by omega)]
      simp only
      rw [if_pos h]
    have HF : Hid (¬ can (numO (l.take 8)) = numO (l.take 8) → bitsR (l, q) = .error 1) := by
      intro h
      unfold bitsR
      rw [if_neg (by omega)]
      simp only
      rw [if_neg h]
    have HU : Hid (U (numO (l.take 8))) := (octs_numO hlt).2
    clear h6 h7 hg2
    generalize l.take 8 = l8 at *
    go_wp2_with fail
    go_loopw [3, 9] (fun b i wr => ∃ (m : Nat), m ≤ 8 ∧ i = .int .i64 m ∧ b = .int .u64 (numO (l8.take m)) ∧ Hid (wr = w2)) (fun _ i _ => 8 - (intOf i).toNat)
    case atStart => exact ⟨0, by omega, rfl, rfl, rfl⟩
    case round =>
      obtain ⟨m, hm, rfl, rfl, HW⟩ := hrel
      obtain rfl := HW.out
      by_cases hlt8 : m < 8
      · have hm1 : (m : Int) < 8 := by omega
        obtain ⟨o, hoo⟩ : ∃ o, l8[m]? = some o := ⟨l8[m]'(by omega), by simp⟩
        obtain ⟨gb, go, rfl, hc⟩ := H7.out m o hoo
        have HS : Hid (bits .or .u64 (IntKind.u64.wrap (numO (l8.take m) * 256)) (IntKind.u64.wrap (o.toNat : Int)) = numO (l8.take (m + 1))) := by
          show _ = _
          obtain ⟨hml, heq⟩ := List.getElem?_eq_some_iff.1 hoo
          have hb := numO_bound m (l8.take m) (by rw [List.length_take]; omega)
          have hp : (256 : Int) ^ m ≤ 256 ^ 7 := by
            have : (256 : Nat) ^ m ≤ 256 ^ 7 := Nat.pow_le_pow_right (by decide) (by omega)
            exact_mod_cast this
          rw [or_octet o hb.1 (by omega), List.take_succ_eq_append_getElem hml, heq, numO_snoc]
        clear hoo
        generalize numO (l8.take m) = nb at *
        go_wp2_with fail
        refine ⟨⟨m + 1, by omega, by go_num, by rw [HS.out], trivial⟩, ?_⟩
        simp [intOf]
        omega
      · have hme : m = 8 := by omega
        subst hme
        rw [List.take_of_length_le (by omega)]
        generalize numO l8 = nb at *
        by_cases hcan : can nb = nb
        · have hc' : (can nb == nb) = true := by simpa using hcan
          go_wp2_with (go_at_call 69; refine (canon_any _ _ HU.out).mono ?_; rintro e w' ⟨rfl, rfl⟩)
          go_ret
          exact ⟨G2.out, Or.inl ⟨_, _, HE.out hcan, rfl, H6.out⟩⟩
        · have hc' : (can nb == nb) = false := by simpa using hcan
          go_wp2_with (go_at_call 69; refine (canon_any _ _ HU.out).mono ?_; rintro e w' ⟨rfl, rfl⟩)
          exact ⟨rfl, G2.out, Or.inr ⟨1, HF.out hcan, rfl⟩⟩

theorem octetX_bd {s s' : SX} {k : Int} (h : octetX s = .ok (k, s')) : 0 ≤ k ∧ k ≤ 255 := by
  obtain ⟨l, q⟩ := s
  cases l with
  | nil => cases h
  | cons o r =>
    simp only [octetX] at h
    cases h
    have := o.toNat_lt
    omega

set_option maxRecDepth 100000 in
theorem opX_rd (p : Nat) (s : SX) (w : World) (hr : RdX w p s) : Calls Try.prog 56 #[.pointer (some ⟨p, 0, none⟩)] w (RPost (opR s) p I64 w) := by
  have HN : Hid (Calls Try.prog 67 #[.pointer (some ⟨p, 0, none⟩)] w (RPost (octetX s) p I64 w)) := octetX_any p s w hr
  clear hr
  unfold opR
  cases h1 : octetX s with
  | error er =>
    rw [h1] at HN
    clear h1
    go_enter Try.func56, Try.ntmps56
    go_wp2_with fail
    refine HN.out.mono ?_
    intro e w1 hp
    obtain ⟨rfl, hg⟩ := RPost.err hp
    go_wp2_with fail
    exact ⟨rfl, hg, Or.inr ⟨er, rfl, rfl⟩⟩
  | ok ks =>
    obtain ⟨k, s'⟩ := ks
    rw [h1] at HN
    clear h1
    have HO := isop_any k
    simp only
    cases hb : withinB k 0 29 with
    | false =>
      rw [hb] at HO
      clear hb
      go_enter Try.func56, Try.ntmps56
      go_wp2_with fail
      refine HN.out.mono ?_
      intro e w1 hp
      obtain ⟨rfl, hg, hR⟩ := RPost.ok hp
      clear hp hR
      go_wp2_with (go_at_call 64; refine (HO _).mono ?_; rintro e w2 ⟨rfl, rfl⟩)
      exact ⟨rfl, hg, Or.inr ⟨22, rfl, rfl⟩⟩
    | true =>
      rw [hb] at HO
      clear hb
      go_enter Try.func56, Try.ntmps56
      go_wp2_with fail
      refine HN.out.mono ?_
      intro e w1 hp
      obtain ⟨rfl, hg, hR⟩ := RPost.ok hp
      have HR : Hid (RdX w1 p s') := hR
      clear hp hR
      go_wp2_with (go_at_call 64; refine (HO _).mono ?_; rintro e w2 ⟨rfl, rfl⟩)
      go_ret
      exact ⟨hg, Or.inl ⟨k, s', rfl, rfl, HR.out⟩⟩

set_option maxRecDepth 100000 in
theorem countX_rd (k : Int) (p : Nat) (s : SX) (w : World) (hr : RdX w p s) : Calls Try.prog 60 #[.pointer (some ⟨p, 0, none⟩), .int .i64 k] w (RPost (countR k s) p I64 w) := by
  have HN : Hid (Calls Try.prog 67 #[.pointer (some ⟨p, 0, none⟩)] w (RPost (octetX s) p I64 w)) := octetX_any p s w hr
  have HRD : Hid (RdX w p s) := hr
  have HA := argb_any k
  clear hr
  unfold countR
  generalize (argB k).1 = al at *
  generalize (argB k).2 = am at *
  by_cases h0 : al = am
  · subst h0
    rw [if_pos rfl]
    go_enter Try.func60, Try.ntmps60
    go_wp2_with (go_at_call 63; refine (HA _).mono ?_; rintro e w2 ⟨rfl, rfl⟩)
    go_ret
    exact ⟨World.grownBy.refl _ _, Or.inl ⟨al, s, rfl, rfl, HRD.out⟩⟩
  · rw [if_neg h0]
    have d0 : (al == am) = false := by simpa using h0
    clear h0
    cases h1 : octetX s with
    | error er =>
      rw [h1] at HN
      clear h1
      go_enter Try.func60, Try.ntmps60
      go_wp2_with (go_at_call 63; refine (HA _).mono ?_; rintro e w2 ⟨rfl, rfl⟩)
      refine HN.out.mono ?_
      intro e w1 hp
      obtain ⟨rfl, hg⟩ := RPost.err hp
      go_wp2_with fail
      exact ⟨rfl, hg, Or.inr ⟨er, rfl, rfl⟩⟩
    | ok ks =>
      obtain ⟨n, s'⟩ := ks
      rw [h1] at HN
      clear h1
      simp only
      by_cases h2 : am < n
      · rw [if_pos h2]
        go_enter Try.func60, Try.ntmps60
        go_wp2_with (go_at_call 63; refine (HA _).mono ?_; rintro e w2 ⟨rfl, rfl⟩)
        refine HN.out.mono ?_
        intro e w1 hp
        obtain ⟨rfl, hg, hR⟩ := RPost.ok hp
        clear hp hR
        go_wp2_with fail
        exact ⟨rfl, hg, Or.inr ⟨3, rfl, rfl⟩⟩
      · rw [if_neg h2]
        have d2 : decide (am < n) = false := by simpa using h2
        clear h2
        go_enter Try.func60, Try.ntmps60
        go_wp2_with (go_at_call 63; refine (HA _).mono ?_; rintro e w2 ⟨rfl, rfl⟩)
        refine HN.out.mono ?_
        intro e w1 hp
        obtain ⟨rfl, hg, hR⟩ := RPost.ok hp
        have HR : Hid (RdX w1 p s') := hR
        clear hp hR
        go_wp2_with fail
        go_ret
        exact ⟨hg, Or.inl ⟨n, s', rfl, rfl, HR.out⟩⟩

set_option maxRecDepth 100000 in
set_option maxHeartbeats 1600000 in
theorem textX_rd (lo hi : Int) (p : Nat) (s : SX) (w : World) (hr : RdX w p s) : Calls Try.prog 58 #[.pointer (some ⟨p, 0, none⟩), .int .i64 lo, .int .i64 hi] w (RPost (textR lo hi s) p Value.string w) := by
  have HN : Hid (Calls Try.prog 67 #[.pointer (some ⟨p, 0, none⟩)] w (RPost (octetX s) p I64 w)) := octetX_any p s w hr
  clear hr
  unfold textR
  cases h1 : octetX s with
  | error er =>
    rw [h1] at HN
    clear h1
    go_enter Try.func58, Try.ntmps58
    go_wp2_with fail
    refine HN.out.mono ?_
    intro e w1 hp
    obtain ⟨rfl, hg⟩ := RPost.err hp
    go_wp2_with fail
    exact ⟨rfl, hg, Or.inr ⟨er, rfl, rfl⟩⟩
  | ok ks =>
    obtain ⟨k, s'⟩ := ks
    obtain ⟨hk0, hk1⟩ := octetX_bd h1
    rw [h1] at HN
    clear h1
    have HO := within_any k lo hi
    simp only
    obtain ⟨kn, hkn, rfl⟩ : ∃ kn : Nat, kn ≤ 255 ∧ k = (kn : Int) := ⟨k.toNat, by omega, by omega⟩
    clear hk0 hk1
    simp only [Int.toNat_natCast]
    cases hb : withinB (kn : Int) lo hi with
    | false =>
      rw [hb] at HO
      clear hb
      go_enter Try.func58, Try.ntmps58
      go_wp2_with fail
      refine HN.out.mono ?_
      intro e w1 hp
      obtain ⟨rfl, hg, hR⟩ := RPost.ok hp
      clear hp hR
      go_wp2_with (go_at_call 66; refine (HO _).mono ?_; rintro e w2 ⟨rfl, rfl⟩)
      exact ⟨rfl, hg, Or.inr ⟨5, rfl, rfl⟩⟩
    | true =>
      rw [hb] at HO
      clear hb
      rw [if_pos rfl]
      by_cases h5 : s'.1.length < kn
      · rw [if_pos h5]
        go_enter Try.func58, Try.ntmps58
        go_wp2_with fail
        refine HN.out.mono ?_
        intro e w1 hp
        obtain ⟨rfl, hg, hR⟩ := RPost.ok hp
        have HX : Hid (Calls Try.prog 68 #[.pointer (some ⟨p, 0, none⟩), .int .i64 (kn : Int)] w1 (NextPost kn p s' w1)) := nextX_any kn p s' w1 hR (by omega)
        have HG : Hid (w.grownBy w1 (some p)) := hg
        clear hp hR hg
        go_wp2_with (go_at_call 66; refine (HO _).mono ?_; rintro e w2 ⟨rfl, rfl⟩)
        refine HX.out.mono ?_
        rintro e w2 ⟨hg2, ⟨-, rfl⟩ | ⟨h6, -⟩⟩
        · go_wp2_with fail
          exact ⟨rfl, grown_transX HG.out hg2, Or.inr ⟨8, rfl, rfl⟩⟩
        · exact absurd h5 (by omega)
      · rw [if_neg h5]
        have hln : (s'.1.take kn).length = kn := by rw [List.length_take]; omega
        have HLN : Hid ((s'.1.take kn).length = kn) := hln
        have H5 : Hid (¬ s'.1.length < kn) := h5
        clear h5 hln
        go_enter Try.func58, Try.ntmps58
        go_wp2_with fail
        refine HN.out.mono ?_
        intro e w1 hp
        obtain ⟨rfl, hg, hR⟩ := RPost.ok hp
        have HX : Hid (Calls Try.prog 68 #[.pointer (some ⟨p, 0, none⟩), .int .i64 (kn : Int)] w1 (NextPost kn p s' w1)) := nextX_any kn p s' w1 hR (by omega)
        have HG : Hid (w.grownBy w1 (some p)) := hg
        clear hp hR hg
        go_wp2_with (go_at_call 66; refine (HO _).mono ?_; rintro e w2 ⟨rfl, rfl⟩)
        refine HX.out.mono ?_
        rintro e w2 ⟨hg2, ⟨h6, -⟩ | ⟨h6, hR2, a', c', rfl, h7⟩⟩
        · exact absurd h6 H5.out
        · have HR2 : Hid (RdX w2 p (s'.1.drop kn, s'.2)) := hR2
          have HG2 : Hid (w.grownBy w2 (some p)) := grown_transX HG.out hg2
          have HL : Hid (LayB w2 a' (s'.1.take kn)) := h7
          clear hR2 hg2 h7 h6
          go_wp2_with (refine wpList_strG _ (.tmp 18) rfl (by rfl) a' c' kn (s'.1.take kn) HLN.out rfl HL.out ?_)
          go_ret
          exact ⟨HG2.out, Or.inl ⟨_, _, rfl, rfl, HR2.out⟩⟩
end Go.Proofs.Ytnliokikcpnllaa
