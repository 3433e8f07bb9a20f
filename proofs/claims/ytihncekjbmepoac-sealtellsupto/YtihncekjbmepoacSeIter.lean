/-
  The function that hands frames out, for every loop body that keeps its word.
-/
import Derived.Test.YtihncekjbmepoacSeScanM
import Derived.RangeFuncBound
import Derived.RangeFuncCalls
import Derived.OwnWalkIn
import Derived.TacticsInMore
import Derived.LoopNIn
import Derived.LoopIn
namespace Go.Proofs.Ytihncekjbmepoac
open Go.ChangeShapes Go.WideShapes Go.ChangeAt Go.RowKit Go.Deep
open Se

/-- How long a slice is. -/
def slLen : Value → Nat
  | .slice _ n _ => n
  | _ => 0

theorem Oct.rest {w : World} {a : Option Addr} {c : Nat} {l : List UInt8} (h : Oct w a c l) (i : Nat) (hi : i ≤ l.length) (h0 : 0 < i) :
    ∃ ad : Addr, a = some ad ∧ ∀ ad', (ad' = ad ∧ c = i ∨ ad' = ad.add i ∧ i < c) → Oct w (some ad') (c - i) (l.drop i) := by
  obtain ⟨h1, h2, h3, h4, h5, h6⟩ := h
  cases a with
  | none => have := h5 rfl; omega
  | some ad =>
    refine ⟨ad, rfl, ?_⟩
    have had := h6 ad rfl (by omega)
    generalize ad.block = b at *
    generalize ad.off = off at *
    subst had
    rintro ad' (⟨rfl, hc⟩ | ⟨rfl, hc⟩)
    · have hn : l.drop i = [] := List.drop_of_length_le (by omega)
      rw [hn]
      exact ⟨fun k o hk => by simp at hk, by simp, by omega, by simp, (fun e => by cases e), fun ad e h => by omega⟩
    · rw [add_plain]
      refine ⟨fun k o hk => ⟨b, off + i, rfl, ?_⟩, by rw [List.length_drop]; omega, by omega, by rw [List.length_drop]; omega, (fun e => by cases e), fun ad e _ => by cases e; rfl⟩
      rw [List.getElem?_drop] at hk
      obtain ⟨_, _, e, hc'⟩ := h1 (i + k) o hk
      cases e
      rw [Nat.add_assoc]
      exact hc'

theorem getR_small {l : List UInt8} (h : (getR l).1 = 0) : (getR l).2.2.2 ≤ 100000 := by
  unfold getR at h ⊢
  split at h
  · simp at h
  · rename_i h8
    rw [if_neg h8]
    split at h
    · simp at h
    · rename_i hk
      rw [if_neg hk]
      split at h
      · simp at h
      · rename_i h5
        rw [if_neg h5]
        split at h
        · simp at h
        · rename_i hs
          rw [if_neg hs]
          split at h
          · rename_i he
            rw [if_pos he]
            simp
            omega
          · simp at h

set_option maxRecDepth 100000 in
set_option maxHeartbeats 3200000 in
theorem iter_any (m : Nat) (h1 : 1 ≤ m) (a : Option Addr) (c : Nat) (l : List UInt8) (w : World) (ho : Oct w a c l) (A O D L Bb : Nat) (rec : Loop)
    (hY : ∀ W fs i k a' c' d nn, ScInv w A O D L rec W fs i → Bs W 0 (.slice a' d.length c') d → nn ≤ 100000 → i + nn ≤ l.length → 8 * fs.length ≤ i → YieldAt Fence.wide (m - 1) Try.prog L #[.agg #[.int .i64 k, .slice a' d.length c'], .int .i64 (nn : Nat)] W fun e W' =>
      e = .returned (.bool true) ∧ ScInv w A O D L rec W' (fs ++ [(k, d)]) (i + nn))
    (W : World) (hBb : W.cell? ⟨Bb, 0, none⟩ = some (.slice a l.length c)) (h0 : ScInv w A O D L rec W [] 0) :
    CallsIn Fence.wide m Try.prog 31 #[.func (.yield L) #[] #[], .pointer (some ⟨Bb, 0, none⟩)] W fun e W' => (∃ v, e = .returned v) ∧ ScInv w A O D L rec W' (scanR l).1 (scanR l).2 := by
  have HO : Hid (Oct w a c l) := ho
  have hl4 := ho.2.2.2.1
  have H0 : Hid (ScInv w A O D L rec W [] 0) := h0
  clear ho h0
  refine callsIn_of_wp Try.func31 rfl trivial ?_ rfl
  simp only [Try.ntmps31, List.size_toArray, List.length_cons, List.length_nil, Nat.reduceAdd, Nat.reduceSub, Array.replicate_succ, Array.replicate_zero, List.push_toArray, List.append_toArray, List.nil_append, List.cons_append]
  gi_wp2
  gi_loopw [3] (fun v wr => ∃ (i : Nat) (fs : List (Int × List UInt8)) (a' : Option Addr), i ≤ l.length ∧ v = .slice a' (l.length - i) (c - i) ∧ Hid (Oct w a' (c - i) (l.drop i)) ∧ Hid (ScInv w A O D L rec wr fs i) ∧ Hid (8 * fs.length ≤ i)
      ∧ Hid ((scanR l).1 = fs ++ (scanR (l.drop i)).1 ∧ (scanR l).2 = i + (scanR (l.drop i)).2)) (fun v _ => slLen v)
  case atStart => exact ⟨0, [], a, by omega, by simp, by show Oct _ _ _ _; simpa using HO.out, H0.out, by show 8 * 0 ≤ 0; omega, by show _ ∧ _; simp⟩
  case round =>
    obtain ⟨i, fs, a', hi, rfl, HO', HI, HF, HS⟩ := hrel
    have hlen : (l.drop i).length = l.length - i := List.length_drop
    have HG := get_any a' (c - i) (l.drop i) wr (HO'.out.below HI.out.bel)
    rw [hlen] at HG
    by_cases hg : (getR (l.drop i)).1 = 0
    · have hok := getR_ok hg
      rw [hlen] at hok
      have HS2 : Hid ((scanR l).1 = (fs ++ [((getR (l.drop i)).2.1, (getR (l.drop i)).2.2.1)]) ++ (scanR (l.drop (i + (getR (l.drop i)).2.2.2))).1 ∧ (scanR l).2 = (i + (getR (l.drop i)).2.2.2) + (scanR (l.drop (i + (getR (l.drop i)).2.2.2))).2) := by
        have := HS.out
        rw [scanR_yes hg, List.drop_drop] at this
        show _ ∧ _
        refine ⟨by rw [this.1]; simp, by rw [this.2]; simp only; omega⟩
      have HRS : Hid (∃ ad : Addr, a' = some ad ∧ ∀ ad', (ad' = ad ∧ c - i = (getR (l.drop i)).2.2.2 ∨ ad' = ad.add (getR (l.drop i)).2.2.2 ∧ (getR (l.drop i)).2.2.2 < c - i) → Oct w (some ad') (c - i - (getR (l.drop i)).2.2.2) ((l.drop i).drop (getR (l.drop i)).2.2.2)) := HO'.out.rest _ (by rw [hlen]; omega) (by omega)
      rw [List.drop_drop] at HRS
      have hci : l.length ≤ c := HO.out.2.1
      have hc63 : c ≤ 9223372036854775807 := HO.out.2.2.1
      have hnn : (getR (l.drop i)).2.2.2 ≤ 100000 := by
        have := getR_small hg
        exact this
      generalize (getR (l.drop i)).2.2.2 = nn at *
      generalize (getR (l.drop i)).2.2.1 = d at *
      generalize (getR (l.drop i)).2.1 = k at *
      rw [hg] at HG
      have HGG : Hid (CallsIn Fence.wide (m - 1) Try.prog 12 #[.slice a' (l.length - i) (c - i)] wr _) := callsIn_wide.2 HG
      have HYY : Hid (∀ W fs i k a' c' d nn, ScInv w A O D L rec W fs i → Bs W 0 (.slice a' d.length c') d → nn ≤ 100000 → i + nn ≤ l.length → 8 * fs.length ≤ i → YieldAt Fence.wide (m - 1) Try.prog L #[.agg #[.int .i64 k, .slice a' d.length c'], .int .i64 (nn : Nat)] W fun e W' =>
        e = .returned (.bool true) ∧ ScInv w A O D L rec W' (fs ++ [(k, d)]) (i + nn)) := hY
      clear HG hY hg
      obtain ⟨hok1, hok2, hok3⟩ := hok
      gi_wp2
      refine ⟨trivial, ?_⟩
      refine HGG.out.mono ?_
      rintro e w1 ⟨s1, rfl, hs1, hb1⟩
      obtain ⟨a1, c1, rfl⟩ := hs1.shape
      have I2 : ScInv w A O D L rec (w1.alloc (.cells #[.int .i64 k, .slice a1 d.length c1] 25)) fs i := (HI.out.below hb1).below (below_one _ _)
      have S2 : Bs (w1.alloc (.cells #[.int .i64 k, .slice a1 d.length c1] 25)) 0 (.slice a1 d.length c1) d := (hs1.below (below_one _ _)).up fun g _ => Nat.zero_le _
      obtain ⟨fn, tmps, assign, body, hy, hR⟩ := HYY.out _ fs i k a1 c1 d nn I2 S2 hnn (by omega) HF.out
      have HR : Hid (RoundIn Fence.wide (m - 1) Try.prog L fn tmps assign body (w1.alloc (.cells #[.int .i64 k, .slice a1 d.length c1] 25)) _) := hR
      clear hs1 hb1 HGG I2 S2 hR HYY
      gi_wp2
      refine HR.out.mono ?_
      rintro e w2 ⟨rfl, hI2⟩
      have I2 : Hid (ScInv w A O D L rec w2 (fs ++ [(k, d)]) (i + nn)) := hI2
      obtain ⟨ad, rfl, hrs⟩ := HRS.out
      have HRS2 : Hid (∀ ad', (ad' = ad ∧ c - i = nn ∨ ad' = ad.add nn ∧ nn < c - i) → Oct w (some ad') (c - i - nn) (l.drop (i + nn))) := hrs
      clear hI2 HR hy HRS hrs
      have h2 : (nn : Int) ≤ ((l.length - i : Nat) : Int) := by omega
      have h3 : ((l.length - i : Nat) : Int) ≤ ((c - i : Nat) : Int) := by omega
      gi_wp2
      refine ⟨⟨i + nn, fs ++ [(k, d)], if c - i = nn then some ad else some (ad.add nn), by omega, by rw [Nat.sub_sub, Nat.sub_sub], ?_, I2.out, ?_, HS2.out⟩, ?_⟩
      · show Oct _ _ _ _
        rw [← Nat.sub_sub]
        by_cases hcn : c - i = nn
        · rw [if_pos hcn]
          exact HRS2.out ad (Or.inl ⟨rfl, hcn⟩)
        · rw [if_neg hcn]
          exact HRS2.out (ad.add nn) (Or.inr ⟨rfl, by omega⟩)
      · show 8 * (fs ++ [(k, d)]).length ≤ i + nn
        have := HF.out
        rw [List.length_append, List.length_singleton]
        omega
      · show l.length - i - nn < l.length - i
        omega
    · have HS2 : Hid ((scanR l).1 = fs ∧ (scanR l).2 = i) := by
        have := HS.out
        rw [scanR_no hg] at this
        show _ ∧ _
        simpa using this
      have hne : ((getR (l.drop i)).1 != 0) = true := by simpa using hg
      clear hg
      generalize getR (l.drop i) = G at *
      have HGG : Hid (CallsIn Fence.wide (m - 1) Try.prog 12 #[.slice a' (l.length - i) (c - i)] wr _) := callsIn_wide.2 HG
      clear HG
      gi_wp2
      refine ⟨trivial, ?_⟩
      refine HGG.out.mono ?_
      rintro e w1 ⟨s1, rfl, hs1, hb1⟩
      obtain ⟨a1, c1, rfl⟩ := hs1.shape
      have I2 : Hid (ScInv w A O D L rec w1 fs i) := HI.out.below hb1
      clear hs1 hb1 HGG
      gi_wp2
      refine ⟨fun _ h => (by cases h), ?_⟩
      gi_wp2
      refine bodyPost_ret (results_none rfl _ _ _) rfl ?_
      refine ⟨⟨_, rfl⟩, ?_⟩
      rw [HS2.out.1, HS2.out.2]
      exact I2.out.below (below_one _ _)
end Go.Proofs.Ytihncekjbmepoac
