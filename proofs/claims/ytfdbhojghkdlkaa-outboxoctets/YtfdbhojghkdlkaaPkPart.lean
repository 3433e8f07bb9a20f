/-
  The program's reader: parts.
-/
import Derived.Test.YtfdbhojghkdlkaaJ7
namespace Go.Proofs.Ytfdbhojghkdlkaa
open Go.ChangeShapes Go.WideShapes Go.ChangeAt Go.RowKit
open Fl

theorem prts_sum {n : Nat} (h : ∀ u : V n, okV n u → prts n u ≤ (enc n u).length) : ∀ its : List (V n), (∀ u ∈ its, okV n u) → (its.map (prts n)).sum ≤ (its.map (enc n)).flatten.length
  | [], _ => by simp
  | u :: its, ho => by
    have h1 := h u (ho u (by simp))
    have h2 := prts_sum h its (fun v hv => ho v (by simp [hv]))
    simp only [List.map_cons, List.flatten_cons, List.length_append, List.sum_cons]
    omega

theorem zip_ge : ∀ (ks : List ByteArray) (es : List (List UInt8)), ks.length = es.length → es.flatten.length ≤ (List.zipWith (fun s e => txt s ++ e) ks es).flatten.length
  | [], [], _ => by simp
  | [], _ :: _, h => by simp at h
  | _ :: _, [], h => by simp at h
  | k :: ks, e :: es, h => by
    have h2 := zip_ge ks es (by simpa using h)
    simp only [List.zipWith_cons_cons, List.flatten_cons, List.length_append]
    omega

theorem prts_le : ∀ (n : Nat) (u : V n), okV n u → prts n u ≤ (enc n u).length
  | 0, u, _ => u.elim
  | n + 1, u, ho => by
    obtain ⟨k, b, t, ks, its⟩ := u
    obtain ⟨hm, hos⟩ := ho
    have hs := prts_sum (prts_le n) its hos
    have hm' := may_iff.1 hm
    generalize hil : its.length = il at hm'
    cases hm' with
    | nothing => rw [List.eq_nil_of_length_eq_zero hil]; simp [enc, prts]
    | truth b _ => rw [List.eq_nil_of_length_eq_zero hil]; simp [enc, prts]
    | number b _ => rw [List.eq_nil_of_length_eq_zero hil]; simp [enc, prts]
    | text t hs => rw [List.eq_nil_of_length_eq_zero hil]; simp [enc, prts]
    | list _ hs =>
      simp only [enc, pcs, show ¬ (4 : Int) = 0 by decide, show ¬ (4 : Int) = 1 by decide, show ¬ (4 : Int) = 2 by decide, show ¬ (4 : Int) = 3 by decide, show ¬ (4 : Int) = 5 by decide, if_false, if_true, prts, List.length_cons]
      omega
    | record _ hs hk =>
      have hz := zip_ge ks (its.map (enc n)) (by simp; omega)
      simp only [enc, pcs, show ¬ (5 : Int) = 0 by decide, show ¬ (5 : Int) = 1 by decide, show ¬ (5 : Int) = 2 by decide, show ¬ (5 : Int) = 3 by decide, show ¬ (5 : Int) = 4 by decide, if_false, if_true, prts, List.length_cons]
      omega

/-- Parts and octets: what is left of both. -/
theorem rd_sum {n : Nat} {s s' : RS} {u : V n} (h : rd n s = .ok (u, s')) : s.2 ≤ s'.2 ∧ s'.2 + s'.1.length ≤ s.2 + s.1.length := by
  obtain ⟨l, p⟩ := s
  obtain ⟨r, p'⟩ := s'
  obtain ⟨rfl, h1, -, rfl⟩ := enc_rd n l p u r p' h
  have := prts_le n u h1
  simp only [List.length_append]
  omega

/-- A value that is a value at least. -/
def Some5 (y : Value) : Prop := ∃ k b t ka kl kc ia il ic, y = mk k b t ka kl kc ia il ic

/-- What the reading of a part leaves. -/
def PartPost (n : Nat) (r : Except Int (V n × RS)) (p : Nat) (a : Option Addr) (c : Nat) (bs : List UInt8) (w : World) (e : Ending) (w' : World) : Prop :=
  w.grownBy w' (some p) ∧ ((∃ er, r = .error er ∧ e = pan er) ∨ (∃ u s', r = .ok (u, s') ∧ RdAt w' p a c bs s' ∧ ∃ y, e = .returned y ∧ Some5 y ∧ (s'.2 ≤ 512 → ∃ F, Own w' n y u F ∧ ∀ b, F b → w.heap.size ≤ b ∧ b < w'.heap.size)))

theorem PartPost.err {n : Nat} {er : Int} {p : Nat} {a : Option Addr} {c : Nat} {bs : List UInt8} {w w' : World} {e : Ending} (h : PartPost n (.error er) p a c bs w e w') : e = pan er ∧ w.grownBy w' (some p) := by
  obtain ⟨hg, ⟨er', h1, h2⟩ | ⟨u, s', h1, _⟩⟩ := h
  · cases h1; exact ⟨h2, hg⟩
  · cases h1
theorem PartPost.ok {n : Nat} {u : V n} {s' : RS} {p : Nat} {a : Option Addr} {c : Nat} {bs : List UInt8} {w w' : World} {e : Ending} (h : PartPost n (.ok (u, s')) p a c bs w e w') :
    w.grownBy w' (some p) ∧ RdAt w' p a c bs s' ∧ ∃ y, e = .returned y ∧ Some5 y ∧ (s'.2 ≤ 512 → ∃ F, Own w' n y u F ∧ ∀ b, F b → w.heap.size ≤ b ∧ b < w'.heap.size) := by
  obtain ⟨hg, ⟨er', h1, h2⟩ | ⟨u', s'', h1, h2⟩⟩ := h
  · cases h1
  · cases h1; exact ⟨hg, h2⟩

/-- The contract of part, at one depth. -/
def PartAt (n : Nat) : Prop := ∀ (s : RS) (p : Nat) (a : Option Addr) (c : Nat) (bs : List UInt8) (d : Int) (w : World), RdAt w p a c bs s → Oct w a c bs → s.2 + s.1.length ≤ 281474976710656 → 1 ≤ d → d + n = 9 →
  Calls Try.prog 79 #[.pointer (some ⟨p, 0, none⟩), .int .i64 d] w (PartPost n (rd n s) p a c bs w)

/-- Items so far: in memory of their own, unless there are too many parts. -/
def Held (w wr : World) {n : Nat} (v : Value) (acc : List (V n)) (s : RS) : Prop := s.2 ≤ 512 → ∃ H, OwnL wr n v acc H ∧ ∀ b, H b → w.heap.size ≤ b ∧ b < wr.heap.size

/-- What the reading of items leaves. -/
def ItemsPost (n : Nat) (r : Except Int (List (V n) × RS)) (p : Nat) (a : Option Addr) (c : Nat) (bs : List UInt8) (w : World) (e : Ending) (w' : World) : Prop :=
  w.grownBy w' (some p) ∧ ((∃ er, r = .error er ∧ e = pan er) ∨ (∃ its s', r = .ok (its, s') ∧ RdAt w' p a c bs s' ∧ ∃ va vl vc, e = .returned (.slice va vl vc) ∧ Held w w' (.slice va vl vc) its s'))

def rdItems (n : Nat) (s : RS) : Except Int (List (V n) × RS) := match rdCount s.1 with
  | .error e => .error e
  | .ok (m, r) => iterE (stepI (rd n)) m ([], (r, s.2))

theorem Held.step {w wr w1 : World} {n p : Nat} {v : Value} {acc : List (V n)} {s s' : RS} (h : Held w wr v acc s) (hs : s.2 ≤ s'.2) (hg : wr.grownBy w1 (some p)) (hp : p < w.heap.size) : Held w w1 v acc s' := by
  intro h5
  obtain ⟨H, h1, h2⟩ := h (by omega)
  refine ⟨H, h1.same fun b hb => hg.block b (h2 b hb).2 fun e => ?_, fun b hb => ⟨(h2 b hb).1, Nat.lt_of_lt_of_le (h2 b hb).2 hg.size⟩⟩
  simp only [Option.some.injEq] at e
  have := (h2 b hb).1
  omega

set_option maxRecDepth 100000 in
set_option maxHeartbeats 3200000 in
theorem items_any (n : Nat) (hp : PartAt n) (s : RS) (p : Nat) (a : Option Addr) (c : Nat) (bs : List UInt8) (d : Int) (w : World) (hr : RdAt w p a c bs s) (ho : Oct w a c bs) (hb : s.2 + s.1.length ≤ 281474976710656) (hd1 : 1 ≤ d) (hd : d + 1 + n = 9) :
    Calls Try.prog 86 #[.pointer (some ⟨p, 0, none⟩), .int .i64 d] w (ItemsPost n (rdItems n s) p a c bs w) := by
  obtain ⟨l, q⟩ := s
  have HP : Hid (PartAt n) := hp
  have HRD : Hid (RdAt w p a c bs (l, q)) := hr
  have HO : Hid (Oct w a c bs) := ho
  have hd8 : d ≤ 8 := by omega
  have HD : Hid (d + 1 + (n : Int) = 9) := hd
  clear hd
  have HPW : Hid (p < w.heap.size) := by obtain ⟨i, _, _, h⟩ := hr; exact lt_of_block h
  have HC : Hid (Calls Try.prog 91 #[.pointer (some ⟨p, 0, none⟩)] w (RdPost (rdCount l) q p a c bs (fun m => .int .i64 (m : Int)) w)) := rcount_any p a c bs l q w hr ho
  clear hr ho hp
  cases hc : rdCount l with
  | error er =>
    rw [hc] at HC
    have HR : Hid (rdItems n (l, q) = .error er) := by show _ = _; unfold rdItems; simp only [hc]
    clear hc
    go_enter Try.func86, Try.ntmps86
    go_wp2_with fail
    refine HC.out.mono ?_
    intro e w1 h1
    obtain ⟨rfl, hg⟩ := RdPost.err h1
    go_wp2_with fail
    exact ⟨rfl, hg, Or.inl ⟨er, HR.out, rfl⟩⟩
  | ok mr =>
    obtain ⟨M, r⟩ := mr
    rw [hc] at HC
    have HR : Hid (rdItems n (l, q) = iterE (stepI (rd n)) M ([], (r, q))) := by show _ = _; unfold rdItems; simp only [hc]
    obtain ⟨hlr, hM⟩ := rdCount_ok hc
    have HQ : Hid (q + r.length ≤ 281474976710656) := by show _ ≤ _; subst hlr; simp only [List.length_cons] at hb; omega
    clear hc hlr hb
    go_enter Try.func86, Try.ntmps86
    go_wp2_with fail
    refine HC.out.mono ?_
    intro e w1 h1
    obtain ⟨rfl, hg, h2⟩ := RdPost.ok h1
    have H2 : Hid (RdAt w1 p a c bs (r, q)) := h2
    have G1 : Hid (w.grownBy w1 (some p)) := hg
    clear h1 h2 hg
    go_wp2_with fail
    go_loopw [5, 8] (fun v i wr => ∃ (m : Nat) (acc : List (V n)) (s : RS) (va : Option Addr) (vl vc : Nat), m ≤ M ∧ i = .int .i64 m ∧ v = .slice va vl vc ∧ Hid (acc.length = m) ∧ Hid (iterE (stepI (rd n)) M ([], (r, q)) = iterE (stepI (rd n)) (M - m) (acc, s)) ∧
        Hid (RdAt wr p a c bs s) ∧ Hid (w.grownBy wr (some p)) ∧ Hid (Held w wr (.slice va vl vc) acc s) ∧ Hid (s.2 + s.1.length ≤ 281474976710656)) (fun _ i _ => M - (intOf i).toNat)
    case atStart => exact ⟨0, [], (r, q), none, 0, 0, Nat.zero_le _, rfl, rfl, rfl, rfl, H2.out, G1.out, fun _ => ⟨_, OwnL.nil _ _, fun b hb => hb.elim⟩, HQ.out⟩
    case round =>
      obtain ⟨m, acc, s, va, vl, vc, hm, rfl, rfl, HA, HE, HS, HG, HH, HB⟩ := hrel
      by_cases hlt : m < M
      · have hm1 : (m : Int) < (M : Int) := by omega
        have HMk : Hid (M - m = (M - (m + 1)) + 1) := by show _ = _; omega
        have HOr : Hid (Oct wr a c bs) := HO.out.grown HRD.out HG.out
        have HCP : Hid (Calls Try.prog 79 #[.pointer (some ⟨p, 0, none⟩), .int .i64 (d + 1)] wr (PartPost n (rd n s) p a c bs wr)) := HP.out s p a c bs (d + 1) wr HS.out HOr.out HB.out (by omega) HD.out
        cases hrd : rd n s with
        | error er =>
          rw [hrd] at HCP
          have HRE : Hid (rdItems n (l, q) = .error er) := by
            show _ = _
            rw [HR.out, HE.out, HMk.out]
            simp only [iterE, stepI, hrd]
          clear hrd
          go_wp2_with fail
          refine HCP.out.mono ?_
          intro e w2 h1
          obtain ⟨rfl, hg⟩ := PartPost.err h1
          go_wp2_with fail
          exact ⟨rfl, grown_trans HG.out hg, Or.inl ⟨er, HRE.out, rfl⟩⟩
        | ok us =>
          obtain ⟨u, s'⟩ := us
          rw [hrd] at HCP
          have HRE : Hid (iterE (stepI (rd n)) M ([], (r, q)) = iterE (stepI (rd n)) (M - (m + 1)) (acc ++ [u], s')) := by
            show _ = _
            rw [HE.out, HMk.out]
            simp only [iterE, stepI, hrd]
          have HSU : Hid (s.2 ≤ s'.2 ∧ s'.2 + s'.1.length ≤ s.2 + s.1.length) := rd_sum hrd
          clear hrd
          go_wp2_with fail
          refine HCP.out.mono ?_
          intro e w2 h1
          obtain ⟨hg, h2, y, rfl, ⟨k, b, t, ka, kl, kc, ia, il, ic, rfl⟩, h3⟩ := PartPost.ok h1
          have G2 : Hid (w.grownBy w2 (some p)) := grown_trans HG.out hg
          have R2 : Hid (RdAt w2 p a c bs s') := h2
          have HGW : Hid (wr.grownBy w2 (some p)) := hg
          have HB2 : Hid (s'.2 + s'.1.length ≤ 281474976710656) := Nat.le_trans HSU.out.2 HB.out
          have HY : Hid (s'.2 ≤ 512 → ∃ F, Own w2 n (mk k b t ka kl kc ia il ic) u F ∧ ∀ b, F b → wr.heap.size ≤ b ∧ b < w2.heap.size) := h3
          have HW2 : Hid (wr.heap.size ≤ w2.heap.size) := hg.size
          have HHw : Hid (Held w wr (.slice va vl vc) acc s) := HH.out
          clear h1 h2 h3 hg HH
          go_wp2_with fail
          by_cases h5 : 512 < s'.2
          · refine (keep_none p a c bs s' w2 R2.out h5 _ _ _ _ _ _ _ _ _ _).mono ?_
            rintro e w3 ⟨rfl, hb3⟩
            have G3 : Hid (w.grownBy w3 (some p)) := grown_below G2.out hb3
            have R3 : Hid (RdAt w3 p a c bs s') := by obtain ⟨i, q1, q2, q3⟩ := R2.out; exact ⟨i, q1, q2, (hb3.block _ (lt_of_block q3)).trans q3⟩
            have H53 : Hid (512 < s'.2) := h5
            clear hb3 h5
            go_wp2_with fail
            go_roundw
            case rel => exact ⟨m + 1, acc ++ [u], s', none, 0, 0, by omega, by go_num, rfl, (by show _ = _; rw [List.length_append, HA.out]; rfl), HRE.out, R3.out, G3.out, fun h => absurd h (by have := H53.out; omega), HB2.out⟩
            case measure => simp [intOf]; omega
          · obtain ⟨H0, hL0, hH0⟩ := HHw.out (by have := HSU.out.1; omega)
            obtain ⟨F, hF1, hF2⟩ := HY.out (by omega)
            have hpw := HPW.out
            have hw2 := HW2.out
            have hwr := HG.out.size
            have hL2 : OwnL w2 n (.slice va vl vc) acc H0 := hL0.same fun b hb => HGW.out.block b (hH0 b hb).2 fun e => by
              simp only [Option.some.injEq] at e
              have := (hH0 b hb).1
              omega
            refine (keep_some p a c bs s' w2 R2.out h5 (.slice va vl vc) acc H0 hL2 u F _ hF1 (fun b hb hb' => by have := (hF2 b hb).1; have := (hH0 b hb').2; omega) (fun b hb => by have := (hH0 b hb).2; omega) (fun b hb => (hF2 b hb).2) (by rw [HA.out]; omega)).mono ?_
            rintro e w3 ⟨v', rfl, h1, h2, h3⟩
            obtain ⟨va', vc', rfl⟩ := h1.shape
            have hw3 := h2.size
            have hlt3 := h1.lt
            have hv0 : ∀ g, (Value.slice va vl vc).ownBlock = some g → w.heap.size ≤ g ∧ g < wr.heap.size := fun g hg => hH0 g (hL0.lt g hg).1
            have G3 : Hid (w.grownBy w3 (some p)) := ⟨h2.os.trans G2.out.os, h2.tape.trans G2.out.tape, h2.output.trans G2.out.output, Nat.le_trans G2.out.size hw3, fun k hk hn => (h2.block k (by omega) (fun e => by have := (hv0 k e.symm).1; omega)).trans (G2.out.block k hk hn)⟩
            have R3 : Hid (RdAt w3 p a c bs s') := by
              obtain ⟨i, q1, q2, q3⟩ := R2.out
              exact ⟨i, q1, q2, (h2.block _ (lt_of_block q3) (fun e => by have := (hv0 p e.symm).1; omega)).trans q3⟩
            have H3 : Hid (Held w w3 (.slice va' (acc ++ [u]).length vc') (acc ++ [u]) s') := fun _ => ⟨_, h1, fun b hb => by
              rcases hb with hb | hb | hb
              · have := hH0 b hb; omega
              · have := hF2 b hb; omega
              · have h4 := (hlt3 b hb).2
                rcases h3 with e | e
                · have := hv0 b (by rw [← e]; exact hb); omega
                · have := e b hb; omega⟩
            have HA3 : Hid ((acc ++ [u]).length = m + 1) := by show _ = _; rw [List.length_append, HA.out]; rfl
            clear h1 h2 h3 hlt3 hv0 hL2 hL0 hH0 hF1 hF2 h5
            generalize acc ++ [u] = acc' at *
            go_wp2_with fail
            go_roundw
            case rel => exact ⟨m + 1, acc', s', va', acc'.length, vc', by omega, by go_num, rfl, HA3.out, HRE.out, R3.out, G3.out, H3.out, HB2.out⟩
            case measure => simp [intOf]; omega
      · have hme : m = M := by omega
        subst hme
        have HRE : Hid (rdItems n (l, q) = .ok (acc, s)) := by
          show _ = _
          rw [HR.out, HE.out, Nat.sub_self]
          rfl
        go_wp2_with fail
        go_ret
        exact ⟨HG.out, Or.inr ⟨acc, s, HRE.out, HS.out, va, vl, vc, rfl, HH.out⟩⟩
end Go.Proofs.Ytfdbhojghkdlkaa
