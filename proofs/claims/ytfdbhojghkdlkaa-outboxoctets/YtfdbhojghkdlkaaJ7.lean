/-
  The program's reader: texts, counts, numbers.
-/
import Derived.Test.YtfdbhojghkdlkaaPkNext
namespace Go.Proofs.Ytfdbhojghkdlkaa
open Go.ChangeShapes Go.WideShapes Go.ChangeAt Go.RowKit
open Fl

set_option maxRecDepth 100000 in
theorem rcount_any (p : Nat) (a : Option Addr) (c : Nat) (bs : List UInt8) (l : List UInt8) (q : Nat) (w : World) (hr : RdAt w p a c bs (l, q)) (ho : Oct w a c bs) :
    Calls Try.prog 91 #[.pointer (some ⟨p, 0, none⟩)] w (RdPost (rdCount l) q p a c bs (fun m => .int .i64 (m : Int)) w) := by
  have HC : Hid (Calls Try.prog 83 #[.pointer (some ⟨p, 0, none⟩)] w (RdPost (rdOct l) q p a c bs (fun o => .int .u8 (o.toNat : Int)) w)) := octet_any p a c bs l q w hr ho
  cases l with
  | nil =>
    go_enter Try.func91, Try.ntmps91
    go_wp2_with fail
    refine HC.out.mono ?_
    intro e w1 h1
    obtain ⟨rfl, hg⟩ := RdPost.err h1
    go_wp2_with fail
    exact ⟨rfl, hg, Or.inr ⟨8, rfl, rfl⟩⟩
  | cons o l =>
    have h256 := o.toNat_lt
    by_cases h : 32 < o.toNat
    · have h' : (32 : Int) < (o.toNat : Int) := by omega
      have HR : Hid (rdCount (o :: l) = .error 3) := by show _ = _; simp only [rdCount]; rw [if_pos h]
      clear h
      go_enter Try.func91, Try.ntmps91
      go_wp2_with fail
      refine HC.out.mono ?_
      intro e w1 h1
      obtain ⟨rfl, hg, h2⟩ := RdPost.ok h1
      clear h1 h2
      go_wp2_with fail
      exact ⟨rfl, hg, Or.inr ⟨3, HR.out, rfl⟩⟩
    · have h' : ¬ (32 : Int) < (o.toNat : Int) := by omega
      have HR : Hid (rdCount (o :: l) = .ok (o.toNat, l)) := by show _ = _; simp only [rdCount]; rw [if_neg h]
      clear h
      go_enter Try.func91, Try.ntmps91
      go_wp2_with fail
      refine HC.out.mono ?_
      intro e w1 h1
      obtain ⟨rfl, hg, h2⟩ := RdPost.ok h1
      have H2 : Hid (RdAt w1 p a c bs (l, q)) := h2
      clear h1 h2
      go_wp2_with fail
      go_ret
      exact ⟨hg, Or.inl ⟨_, _, HR.out, rfl, H2.out⟩⟩

set_option maxRecDepth 100000 in
theorem rtext_any (lo hi : Nat) (p : Nat) (a : Option Addr) (c : Nat) (bs : List UInt8) (l : List UInt8) (q : Nat) (w : World) (hr : RdAt w p a c bs (l, q)) (ho : Oct w a c bs) :
    Calls Try.prog 85 #[.pointer (some ⟨p, 0, none⟩), .int .i64 lo, .int .i64 hi] w (RdPost (rdText lo hi l) q p a c bs (fun t => .string t) w) := by
  have HC : Hid (Calls Try.prog 83 #[.pointer (some ⟨p, 0, none⟩)] w (RdPost (rdOct l) q p a c bs (fun o => .int .u8 (o.toNat : Int)) w)) := octet_any p a c bs l q w hr ho
  have HRD : Hid (RdAt w p a c bs (l, q)) := hr
  have HO : Hid (Oct w a c bs) := ho
  clear hr ho
  cases l with
  | nil =>
    go_enter Try.func85, Try.ntmps85
    go_wp2_with fail
    refine HC.out.mono ?_
    intro e w1 h1
    obtain ⟨rfl, hg⟩ := RdPost.err h1
    go_wp2_with fail
    exact ⟨rfl, hg, Or.inr ⟨8, rfl, rfl⟩⟩
  | cons o l =>
    have h256 := o.toNat_lt
    by_cases h : o.toNat < lo ∨ hi < o.toNat
    · have HR : Hid (rdText lo hi (o :: l) = .error 5) := by show _ = _; simp only [rdText]; rw [if_pos h]
      by_cases h1 : o.toNat < lo
      · have h' : (o.toNat : Int) < (lo : Int) := by omega
        clear h h1
        go_enter Try.func85, Try.ntmps85
        go_wp2_with fail
        refine HC.out.mono ?_
        intro e w1 h1
        obtain ⟨rfl, hg, h2⟩ := RdPost.ok h1
        clear h1 h2
        go_wp2_with fail
        exact ⟨rfl, hg, Or.inr ⟨5, HR.out, rfl⟩⟩
      · have h2 := h.resolve_left h1
        have h' : ¬ (o.toNat : Int) < (lo : Int) := by omega
        have h2' : (hi : Int) < (o.toNat : Int) := by omega
        clear h h1 h2
        go_enter Try.func85, Try.ntmps85
        go_wp2_with fail
        refine HC.out.mono ?_
        intro e w1 h1
        obtain ⟨rfl, hg, h2⟩ := RdPost.ok h1
        clear h1 h2
        go_wp2_with fail
        exact ⟨rfl, hg, Or.inr ⟨5, HR.out, rfl⟩⟩
    · have h1 : ¬ (o.toNat : Int) < (lo : Int) := by omega
      have h2 : ¬ (hi : Int) < (o.toNat : Int) := by omega
      have HRE : Hid (l.length < o.toNat → rdText lo hi (o :: l) = .error 8) := by
        intro h3
        simp only [rdText, nxtN]
        rw [if_neg h, if_pos h3]
      have HRO : Hid (¬ l.length < o.toNat → rdText lo hi (o :: l) = .ok (⟨(l.take o.toNat).toArray⟩, l.drop o.toNat)) := by
        intro h3
        simp only [rdText, nxtN]
        rw [if_neg h, if_neg h3]
      clear h
      go_enter Try.func85, Try.ntmps85
      go_wp2_with fail
      refine HC.out.mono ?_
      intro e w1 h3
      obtain ⟨rfl, hg, h4⟩ := RdPost.ok h3
      have H4 : Hid (RdAt w1 p a c bs (l, q)) := h4
      have HG : Hid (w.grownBy w1 (some p)) := hg
      clear h3 h4 hg
      go_wp2_with fail
      refine (next_any o.toNat p a c bs (l, q) w1 H4.out (HO.out.grown HRD.out HG.out) (by omega)).mono ?_
      rintro e w2 ⟨hg2, ⟨h5, rfl⟩ | ⟨h5, h6, a', c', rfl, h7⟩⟩
      · go_wp2_with fail
        exact ⟨rfl, grown_trans HG.out hg2, Or.inr ⟨8, HRE.out h5, rfl⟩⟩
      · replace h5 : o.toNat ≤ l.length := h5
        have H6 : Hid (RdAt w2 p a c bs (l.drop o.toNat, q)) := h6
        have H7 : Hid (LayB w2 a' (l.take o.toNat)) := h7
        have G2 : Hid (w.grownBy w2 (some p)) := grown_trans HG.out hg2
        have hlt : (l.take o.toNat).length = o.toNat := by rw [List.length_take]; omega
        have HR2 : Hid (rdText lo hi (o :: l) = .ok (⟨(l.take o.toNat).toArray⟩, l.drop o.toNat)) := HRO.out (by omega)
        clear h6 h7 hg2
        go_wp2_with (refine wpList_strG _ (.tmp 22) rfl (by rfl) a' c' o.toNat (l.take o.toNat) hlt rfl H7.out ?_)
        go_ret
        exact ⟨G2.out, Or.inl ⟨_, _, HR2.out, rfl, H6.out⟩⟩

theorem numO_snoc (l : List UInt8) (o : UInt8) : numO (l ++ [o]) = numO l * 256 + (o.toNat : Int) := by simp [numO, List.foldl_append]

theorem numO_bound : ∀ (k : Nat) (l : List UInt8), l.length = k → 0 ≤ numO l ∧ numO l < (256 : Int) ^ k
  | 0, l, h => by
    have := List.eq_nil_of_length_eq_zero h
    subst this
    simp [numO]
  | k + 1, l, h => by
    obtain ⟨l', o, rfl⟩ : ∃ l' o, l = l' ++ [o] := ⟨l.dropLast, l.getLast (by intro e; rw [e] at h; simp at h), (List.dropLast_concat_getLast _).symm⟩
    have h1 := numO_bound k l' (by simpa using h)
    have h2 := o.toNat_lt
    rw [numO_snoc, Int.pow_succ]
    omega

theorem or_octet {x : Int} (o : UInt8) (h0 : 0 ≤ x) (h1 : x < 72057594037927936) : bits .or .u64 (IntKind.u64.wrap (x * 256)) (IntKind.u64.wrap (o.toNat : Int)) = x * 256 + (o.toNat : Int) := by
  have h2 := o.toNat_lt
  have e1 : IntKind.u64.wrap (x * 256) = x * 256 := by rw [IntKind.wrap_u64]; omega
  have e2 : IntKind.u64.wrap (o.toNat : Int) = (o.toNat : Int) := by rw [IntKind.wrap_u64]; omega
  rw [e1, e2, u64_or _ _ (by omega) (by omega) (by omega) (by omega)]
  obtain ⟨n, rfl⟩ : ∃ n : Nat, x = n := ⟨x.toNat, by omega⟩
  have e3 : ((n : Int) * 256).toNat = 2 ^ 8 * n := by omega
  rw [e3, Int.toNat_natCast, ← Nat.two_pow_add_eq_or_of_lt h2]
  omega

set_option maxRecDepth 100000 in
set_option maxHeartbeats 1600000 in
theorem rbits_any (p : Nat) (a : Option Addr) (c : Nat) (bs : List UInt8) (l : List UInt8) (q : Nat) (w : World) (hr : RdAt w p a c bs (l, q)) (ho : Oct w a c bs) :
    Calls Try.prog 84 #[.pointer (some ⟨p, 0, none⟩)] w (RdPost (rdBits l) q p a c bs (fun b => .int .u64 b) w) := by
  have HN : Hid (Calls Try.prog 90 #[.pointer (some ⟨p, 0, none⟩), .int .i64 ((8 : Nat) : Int)] w _) := next_any 8 p a c bs (l, q) w hr ho (by decide)
  go_enter Try.func84, Try.ntmps84
  go_wp2_with fail
  refine HN.out.mono ?_
  rintro e w2 ⟨hg2, ⟨h5, rfl⟩ | ⟨h5, h6, a', c', rfl, h7⟩⟩
  · go_wp2_with fail
    refine ⟨rfl, hg2, Or.inr ⟨8, ?_, rfl⟩⟩
    unfold rdBits nxtN
    rw [if_pos h5]
  · have H6 : Hid (RdAt w2 p a c bs (l.drop 8, q)) := h6
    have H7 : Hid (LayB w2 a' (l.take 8)) := h7
    have G2 : Hid (w.grownBy w2 (some p)) := hg2
    have hlt : (l.take 8).length = 8 := by rw [List.length_take]; omega
    have HE : Hid (can (numO (l.take 8)) = numO (l.take 8) → rdBits l = .ok (numO (l.take 8), l.drop 8)) := by
      intro h
      unfold rdBits nxtN
      rw [if_neg (by omega)]
      simp only
      rw [if_pos h]
    have HF : Hid (¬ can (numO (l.take 8)) = numO (l.take 8) → rdBits l = .error 1) := by
      intro h
      unfold rdBits nxtN
      rw [if_neg (by omega)]
      simp only
      rw [if_neg h]
    have HU : Hid (U (numO (l.take 8))) := (octs_numO hlt).2
    clear h6 h7 hg2
    generalize l.take 8 = l8 at *
    go_wp2_with fail
    go_loopw [3, 9] (fun b i wr => ∃ (m : Nat), m ≤ 8 ∧ i = .int .i64 m ∧ b = .int .u64 (numO (l8.take m)) ∧ Hid (wr = w2)) (fun _ i _ => 8 - (intOf i).toNat)
    case atStart => exact ⟨0, by omega, rfl, rfl, rfl⟩
    case round =>
      obtain ⟨m, hm, rfl, rfl, HW⟩ := hrel
      obtain rfl := HW.out
      by_cases hlt8 : m < 8
      · have hm1 : (m : Int) < 8 := by omega
        obtain ⟨o, hoo⟩ : ∃ o, l8[m]? = some o := ⟨l8[m]'(by omega), by simp⟩
        obtain ⟨gb, go, rfl, hc⟩ := H7.out m o hoo
        have HS : Hid (bits .or .u64 (IntKind.u64.wrap (numO (l8.take m) * 256)) (IntKind.u64.wrap (o.toNat : Int)) = numO (l8.take (m + 1))) := by
          show _ = _
          obtain ⟨hml, heq⟩ := List.getElem?_eq_some_iff.1 hoo
          have hb := numO_bound m (l8.take m) (by rw [List.length_take]; omega)
          have hp : (256 : Int) ^ m ≤ 256 ^ 7 := by
            have : (256 : Nat) ^ m ≤ 256 ^ 7 := Nat.pow_le_pow_right (by decide) (by omega)
            exact_mod_cast this
          rw [or_octet o hb.1 (by omega), List.take_succ_eq_append_getElem hml, heq, numO_snoc]
        clear hoo
        generalize numO (l8.take m) = nb at *
        go_wp2_with fail
        refine ⟨⟨m + 1, by omega, by go_num, by rw [HS.out], trivial⟩, ?_⟩
        simp [intOf]
        omega
      · have hme : m = 8 := by omega
        subst hme
        rw [List.take_of_length_le (by omega)]
        generalize numO l8 = nb at *
        by_cases hcan : can nb = nb
        · have hc' : (can nb == nb) = true := by simpa using hcan
          go_wp2_with (go_at_call 76; refine (canon_any _ _ HU.out).mono ?_; rintro e w' ⟨rfl, rfl⟩)
          go_ret
          exact ⟨G2.out, Or.inl ⟨_, _, HE.out hcan, rfl, H6.out⟩⟩
        · have hc' : (can nb == nb) = false := by simpa using hcan
          go_wp2_with (go_at_call 76; refine (canon_any _ _ HU.out).mono ?_; rintro e w' ⟨rfl, rfl⟩)
          exact ⟨rfl, G2.out, Or.inr ⟨1, HF.out hcan, rfl⟩⟩
end Go.Proofs.Ytfdbhojghkdlkaa

/-
  The program's reader: items, one behind the other.
-/
namespace Go.Proofs.Ytfdbhojghkdlkaa
open Go.ChangeShapes Go.WideShapes Go.ChangeAt Go.RowKit
open Fl

set_option maxRecDepth 100000 in
theorem keep_none (p : Nat) (a : Option Addr) (c : Nat) (bs : List UInt8) (s : RS) (w : World) (hr : RdAt w p a c bs s) (h : 512 < s.2) (v : Value) (k b : Int) (t : ByteArray) (ka : Option Addr) (kl kc : Nat) (ia : Option Addr) (il ic : Nat) :
    Calls Try.prog 92 #[.pointer (some ⟨p, 0, none⟩), v, mk k b t ka kl kc ia il ic] w fun e w' => e = .returned (.slice none 0 0) ∧ Below w.heap.size w w' := by
  obtain ⟨i, hi, _, hb⟩ := hr
  have hb' := (Below.heap_alloc w (.cells #[.int .i64 k, .int .u64 b, .string t, .slice ka kl kc, .slice ia il ic] 50) _ (lt_of_block hb)).trans hb
  obtain ⟨x0, x1, x2, -⟩ := rd_cells hb'
  have h' : (512 : Int) < (s.2 : Int) := by omega
  clear hb hb'
  go_enter Try.func92, Try.ntmps92
  go_wp2_with fail
  go_ret
  exact ⟨rfl, below_one _ _⟩

set_option maxRecDepth 100000 in
set_option maxHeartbeats 1600000 in
theorem keep_some (p : Nat) (a : Option Addr) (c : Nat) (bs : List UInt8) (s : RS) (w : World) (hr : RdAt w p a c bs s) (h : ¬ 512 < s.2) {n : Nat} (v : Value) (its : List (V n)) (H : Nat → Prop) (hL : OwnL w n v its H) (u : V n) (F : Nat → Prop) (y : Value) (ho : Own w n y u F)
    (hF : ∀ b, F b → ¬ H b) (hH : ∀ b, H b → b < w.heap.size) (hFl : ∀ b, F b → b < w.heap.size) (hlen : its.length ≤ 32) :
    Calls Try.prog 92 #[.pointer (some ⟨p, 0, none⟩), v, y] w fun e w' => ∃ v', e = .returned v' ∧ OwnL w' n v' (its ++ [u]) (fun b => H b ∨ F b ∨ v'.ownBlock = some b) ∧ w.grownBy w' v.ownBlock ∧ (v'.ownBlock = v.ownBlock ∨ ∀ g, v'.ownBlock = some g → w.heap.size ≤ g) := by
  obtain ⟨k, b, t, ka, kl, kc, ia, il, ic, rfl⟩ := Lay.shape n (Own.lay n ho)
  obtain ⟨i, hi, _, hb⟩ := hr
  have hb' := (Below.heap_alloc w (.cells #[.int .i64 k, .int .u64 b, .string t, .slice ka kl kc, .slice ia il ic] 50) _ (lt_of_block hb)).trans hb
  obtain ⟨x0, x1, x2, -⟩ := rd_cells hb'
  have h' : ¬ (512 : Int) < (s.2 : Int) := by omega
  have HL : Hid (OwnL w n v its H) := hL
  have HO : Hid (Own w n (mk k b t ka kl kc ia il ic) u F) := ho
  have HF : Hid (∀ b, F b → ¬ H b) := hF
  have HH : Hid (∀ b, H b → b < w.heap.size) := hH
  have HFl : Hid (∀ b, F b → b < w.heap.size) := hFl
  clear hb hb' h hL ho hF hH hFl
  go_enter Try.func92, Try.ntmps92
  go_wp2_with (at_builtin; refine wpList_push _ rfl _ _ rfl v its H rfl ?d0 u F (.int .i64 k) (.int .u64 b) (.string t) (.slice ka kl kc) (.slice ia il ic) ?d1 HF.out ?d2 ?d3 ⟨w.heap.size + 1, 0, none⟩ 1 rfl ?d4 ?d5 ?_)
  case d0 => exact HL.out.same fun b hb => by rw [Below.heap_alloc _ _ _ (by have := HH.out b hb; simp; omega), Below.heap_alloc _ _ _ (HH.out b hb)]
  case d1 => exact HO.out.same n fun b hb => by rw [Below.heap_alloc _ _ _ (by have := HFl.out b hb; simp; omega), Below.heap_alloc _ _ _ (HFl.out b hb)]
  case d2 => intro b hb; have := HH.out b hb; simp; omega
  case d3 => intro b hb; have := HFl.out b hb; simp; omega
  case d5 => omega
  · intro v' w' h1 h2 h3
    have H1 : Hid (OwnL w' n v' (its ++ [u]) (fun b => H b ∨ F b ∨ v'.ownBlock = some b)) := h1
    have G2 : Hid (w.grownBy w' v.ownBlock) := ⟨h2.os, h2.tape, h2.output, by have := h2.size; (try simp at this); omega, fun k hk hn => by rw [h2.block k (by first | omega | (simp; omega)) hn, Below.heap_alloc _ _ _ (by first | omega | (simp; omega)), Below.heap_alloc _ _ _ hk]⟩
    have P3 : Hid (v'.ownBlock = v.ownBlock ∨ ∀ g, v'.ownBlock = some g → w.heap.size ≤ g) := h3.imp id fun e g hg => by have := e g hg; (try simp at this); omega
    clear h1 h2 h3
    go_wp2_with fail
    go_ret
    exact ⟨v', rfl, H1.out, G2.out, P3.out⟩
end Go.Proofs.Ytfdbhojghkdlkaa
