/-
  The program's reader: a record's fields.
-/
import Derived.Test.YtfdbhojghkdlkaaPkPart
namespace Go.Proofs.Ytfdbhojghkdlkaa
open Go.ChangeShapes Go.WideShapes Go.ChangeAt Go.RowKit
open Fl

/-- append of a key to keys of one's own. -/
theorem wpList_pushK (w : World) {ops : Array Oper} {rest : List Oper} {o : Oper} {a : Act} {Q : Exit → Act → World → Prop} (hgd : o.guard = none) (s x : Operand)
    (hop : o.op = .call { callee := .builtin .append, args := #[s, x], argTypes := #[47, 47] })
    (v : Value) (ks : List ByteArray) (hs : a.eval s = v) (hK : OwnK w v ks) (key : ByteArray) (ad : Addr) (c : Nat) (hx : a.eval x = .slice (some ad) 1 c) (hnew : w.cell? (ad.add 0) = some (.string key)) (hlen : (ks.length + 1) * 16 ≤ 140737488355328)
    (h : ∀ v' w', OwnK w' v' (ks ++ [key]) → w.grownBy w' v.ownBlock → (v'.ownBlock = v.ownBlock ∨ ∀ g, v'.ownBlock = some g → w.heap.size ≤ g) → wpList Try.prog ops Q rest (a.put o.dst v') w') : wpList Try.prog ops Q (o :: rest) a w := by
  obtain ⟨i0, hi, hz0, hz1, hz2⟩ := info_parts Try.infoStr
  refine wpList_append_apart w hgd s x 47 hop 0 9 i0 _ 1 16 Try.underlying47 hi hz0 hz1 hz2 rfl (by decide) v ks.length (ks.map Value.string) hs hK (some ad) 1 c [.string key] hx (by simp) rfl ?_ ?_ (by unfold maxLen; omega) hlen (Nat.zero_le _) ?_
  · intro ad' e j u hj
    cases e
    match j, hj with
    | 0, hj => simp at hj; subst hj; exact hnew
    | j + 1, hj => simp at hj
  · intro u hu
    simp at hu
    subst hu
    rfl
  · intro v' w' q1 q2 q3
    refine h v' w' ?_ q2 q3
    unfold OwnK
    simpa using q1

/-- Items so far, and keys. -/
def HeldF (w wr : World) {n : Nat} (kv v : Value) (acc : List (V n)) (s : RS) : Prop := s.2 ≤ 512 → ∃ H, OwnL wr n v acc H ∧ (∀ b, H b → w.heap.size ≤ b ∧ b < wr.heap.size) ∧ ∀ b, kv.ownBlock = some b → ¬ H b

/-- Keys so far. -/
def KeysAt (w wr : World) (kv : Value) (ks : List ByteArray) : Prop := OwnK wr kv ks ∧ (∀ b, kv.ownBlock = some b → w.heap.size ≤ b ∧ b < wr.heap.size) ∧ ∀ k ∈ ks, k.size ≤ 16

def FieldsPost (n : Nat) (r : Except Int (List ByteArray × List (V n) × RS)) (p : Nat) (a : Option Addr) (c : Nat) (bs : List UInt8) (w : World) (e : Ending) (w' : World) : Prop :=
  w.grownBy w' (some p) ∧ ((∃ er, r = .error er ∧ e = pan er) ∨ (∃ ks its s', r = .ok (ks, its, s') ∧ RdAt w' p a c bs s' ∧ ∃ ka kl kc va vl vc, e = .returned (.tuple #[.slice ka kl kc, .slice va vl vc]) ∧ KeysAt w w' (.slice ka kl kc) ks ∧ HeldF w w' (.slice ka kl kc) (.slice va vl vc) its s'))

def rdFields (n : Nat) (s : RS) : Except Int (List ByteArray × List (V n) × RS) := match rdCount s.1 with
  | .error e => .error e
  | .ok (m, r) => iterE (stepF (rd n)) m ([], [], (r, s.2))

theorem last_cell {w : World} {ka : Option Addr} {kl kc : Nat} {ks : List ByteArray} (h : OwnK w (.slice ka kl kc) ks) (hpos : 0 < ks.length) : ∃ key g, ks.getLast? = some key ∧ ka = some ⟨g, 0, none⟩ ∧ kl = ks.length ∧ w.cell? ⟨g, ks.length - 1, none⟩ = some (.string key) := by
  obtain ⟨key, hk⟩ : ∃ key, ks[ks.length - 1]? = some key := ⟨ks[ks.length - 1], by simp⟩
  have hc : (ks.map Value.string)[ks.length - 1]? = some (.string key) := by simp [hk]
  have hown := h
  obtain ⟨h1, h2⟩ := h
  rcases h2 with ⟨h3, h4⟩ | ⟨g, cap, cur, h3, h4, h5⟩
  · omega
  · simp only [Value.slice.injEq] at h3
    obtain ⟨rfl, rfl, rfl⟩ := h3
    have := World.ownsRow.cells hown (g := g) rfl _ _ hc
    rw [add_plain] at this
    exact ⟨key, g, by rw [List.getLast?_eq_getElem?]; exact hk, rfl, rfl, by simpa using this⟩

set_option maxRecDepth 100000 in
set_option maxHeartbeats 6400000 in
theorem fields_any (n : Nat) (hp : PartAt n) (s : RS) (p : Nat) (a : Option Addr) (c : Nat) (bs : List UInt8) (d : Int) (w : World) (hr : RdAt w p a c bs s) (ho : Oct w a c bs) (hb : s.2 + s.1.length ≤ 281474976710656) (hd1 : 1 ≤ d) (hd : d + 1 + n = 9) :
    Calls Try.prog 87 #[.pointer (some ⟨p, 0, none⟩), .int .i64 d] w (FieldsPost n (rdFields n s) p a c bs w) := by
  obtain ⟨l, q⟩ := s
  have HP : Hid (PartAt n) := hp
  have HRD : Hid (RdAt w p a c bs (l, q)) := hr
  have HO : Hid (Oct w a c bs) := ho
  have hd8 : d ≤ 8 := by omega
  have HD : Hid (d + 1 + (n : Int) = 9) := hd
  clear hd
  have HPW : Hid (p < w.heap.size) := by obtain ⟨i, _, _, h⟩ := hr; exact lt_of_block h
  have HC : Hid (Calls Try.prog 91 #[.pointer (some ⟨p, 0, none⟩)] w (RdPost (rdCount l) q p a c bs (fun m => .int .i64 (m : Int)) w)) := rcount_any p a c bs l q w hr ho
  clear hr ho hp
  cases hc : rdCount l with
  | error er =>
    rw [hc] at HC
    have HR : Hid (rdFields n (l, q) = .error er) := by show _ = _; unfold rdFields; simp only [hc]
    clear hc
    go_enter Try.func87, Try.ntmps87
    go_wp2_with fail
    refine HC.out.mono ?_
    intro e w1 h1
    obtain ⟨rfl, hg⟩ := RdPost.err h1
    go_wp2_with fail
    exact ⟨rfl, hg, Or.inl ⟨er, HR.out, rfl⟩⟩
  | ok mr =>
    obtain ⟨M, r⟩ := mr
    rw [hc] at HC
    have HR : Hid (rdFields n (l, q) = iterE (stepF (rd n)) M ([], [], (r, q))) := by show _ = _; unfold rdFields; simp only [hc]
    obtain ⟨hlr, hM⟩ := rdCount_ok hc
    have HQ : Hid (q + r.length ≤ 281474976710656) := by show _ ≤ _; subst hlr; simp only [List.length_cons] at hb; omega
    clear hc hlr hb
    go_enter Try.func87, Try.ntmps87
    go_wp2_with fail
    refine HC.out.mono ?_
    intro e w1 h1
    obtain ⟨rfl, hg, h2⟩ := RdPost.ok h1
    have H2 : Hid (RdAt w1 p a c bs (r, q)) := h2
    have G1 : Hid (w.grownBy w1 (some p)) := hg
    clear h1 h2 hg
    go_wp2_with fail
    go_loopw [6, 7, 12] (fun kv v i wr => ∃ (m : Nat) (ks : List ByteArray) (acc : List (V n)) (s : RS) (ka : Option Addr) (kl kc : Nat) (va : Option Addr) (vl vc : Nat), m ≤ M ∧ i = .int .i64 m ∧ kv = .slice ka kl kc ∧ v = .slice va vl vc ∧ Hid (acc.length = m) ∧ Hid (ks.length = m) ∧ Hid (iterE (stepF (rd n)) M ([], [], (r, q)) = iterE (stepF (rd n)) (M - m) (ks, acc, s)) ∧
        Hid (RdAt wr p a c bs s) ∧ Hid (w.grownBy wr (some p)) ∧ Hid (KeysAt w wr (.slice ka kl kc) ks) ∧ Hid (HeldF w wr (.slice ka kl kc) (.slice va vl vc) acc s) ∧ Hid (s.2 + s.1.length ≤ 281474976710656)) (fun _ _ i _ => M - (intOf i).toNat)
    case atStart => exact ⟨0, [], [], (r, q), none, 0, 0, none, 0, 0, Nat.zero_le _, rfl, rfl, rfl, rfl, rfl, rfl, H2.out, G1.out, ⟨OwnK.nil _, fun b hb => by simp [Value.ownBlock] at hb, by simp⟩, fun _ => ⟨_, OwnL.nil _ _, fun b hb => hb.elim, fun b _ hb => hb.elim⟩, HQ.out⟩
    case round =>
      obtain ⟨m, ks, acc, ⟨ls, qs⟩, ka, kl, kc, va, vl, vc, hm, rfl, rfl, rfl, HA, HKL, HE, HS, HG, HK, HH, HB⟩ := hrel
      by_cases hlt : m < M
      · have hm1 : (m : Int) < (M : Int) := by omega
        have HMk : Hid (M - m = (M - (m + 1)) + 1) := by show _ = _; omega
        have HOr : Hid (Oct wr a c bs) := HO.out.grown HRD.out HG.out
        have HCT : Hid (Calls Try.prog 85 #[.pointer (some ⟨p, 0, none⟩), .int .i64 ((1 : Nat) : Int), .int .i64 ((16 : Nat) : Int)] wr (RdPost (rdText 1 16 ls) qs p a c bs (fun t => .string t) wr)) := rtext_any 1 16 p a c bs ls qs wr HS.out HOr.out
        cases hrt : rdText 1 16 ls with
        | error er =>
          rw [hrt] at HCT
          have HRE : Hid (rdFields n (l, q) = .error er) := by
            show _ = _
            rw [HR.out, HE.out, HMk.out]
            simp only [iterE, stepF, hrt]
          clear hrt
          go_wp2_with fail
          refine HCT.out.mono ?_
          intro e w2 h1
          obtain ⟨rfl, hg⟩ := RdPost.err h1
          go_wp2_with fail
          exact ⟨rfl, grown_trans HG.out hg, Or.inl ⟨er, HRE.out, rfl⟩⟩
        | ok kr =>
          obtain ⟨key, rk⟩ := kr
          rw [hrt] at HCT
          obtain ⟨hlk, hk1, hk16⟩ := rdText_ok hrt
          have HBk : Hid (qs + rk.length ≤ 281474976710656) := by
            show _ ≤ _
            have := HB.out
            simp only [hlk, List.length_append] at this
            omega
          have HS32 : Hid (okNext ks.getLast? key = false → stepF (rd n) (ks, acc, (ls, qs)) = .error 32) := fun h => by simp only [stepF, hrt]; rw [if_pos h]
          have HSe : Hid (okNext ks.getLast? key = true → ∀ er, rd n (rk, qs) = .error er → stepF (rd n) (ks, acc, (ls, qs)) = .error er) := fun h er he => by simp only [stepF, hrt, he]; rw [if_neg (by rw [h]; decide)]
          have HSo : Hid (okNext ks.getLast? key = true → ∀ u s', rd n (rk, qs) = .ok (u, s') → stepF (rd n) (ks, acc, (ls, qs)) = .ok (ks ++ [key], acc ++ [u], s')) := fun h u s' he => by simp only [stepF, hrt, he]; rw [if_neg (by rw [h]; decide)]
          clear hrt hlk
          go_wp2_with fail
          refine HCT.out.mono ?_
          intro e w2 h1
          obtain ⟨rfl, hg, h2⟩ := RdPost.ok h1
          have G2 : Hid (w.grownBy w2 (some p)) := grown_trans HG.out hg
          have R2 : Hid (RdAt w2 p a c bs (rk, qs)) := h2
          have hpw := HPW.out
          have hwr := HG.out.size
          have hw2 := hg.size
          have K2 : Hid (KeysAt w w2 (.slice ka kl kc) ks) := ⟨HK.out.1.same fun b hb => hg.block b (HK.out.2.1 b hb).2 fun e => by
              simp only [Option.some.injEq] at e
              have := (HK.out.2.1 b hb).1
              omega, fun b hb => ⟨(HK.out.2.1 b hb).1, by have := (HK.out.2.1 b hb).2; omega⟩, HK.out.2.2⟩
          have HH2 : Hid (HeldF w w2 (.slice ka kl kc) (.slice va vl vc) acc (rk, qs)) := fun h5 => by
            obtain ⟨H, q1, q2, q3⟩ := HH.out h5
            exact ⟨H, q1.same fun b hb => hg.block b (q2 b hb).2 fun e => by
              simp only [Option.some.injEq] at e
              have := (q2 b hb).1
              omega, fun b hb => ⟨(q2 b hb).1, by have := (q2 b hb).2; omega⟩, q3⟩
          clear h1 h2 hg HK HH HG HS
          by_cases hm0 : m = 0
          · have hg0 : ¬ (0 : Int) < (m : Int) := by omega
            have HOK : Hid (okNext ks.getLast? key = true) := by
              obtain rfl : ks = [] := List.eq_nil_of_length_eq_zero (by rw [HKL.out]; exact hm0)
              rfl
            clear hm0
            go_wp2_with (at_builtin; refine wpList_pushK _ rfl _ _ rfl (.slice ka kl kc) ks rfl ?d0 key ⟨w2.heap.size, 0, none⟩ 1 rfl ?d1 ?d2 ?_)
            case d0 => exact K2.out.1.same fun b hb => Below.heap_alloc _ _ _ (K2.out.2.1 b hb).2
            case d1 => exact newCells w2 #[.string key] _ 0 _ (by simp)
            case d2 => have := HKL.out; omega
            intro kv' w3 h1 h2 h3
            obtain ⟨ka', kc', rfl⟩ := OwnK.shape h1
            have hw3 : w2.heap.size + 1 ≤ w3.heap.size := by have := h2.size; simpa using this
            have hkv : ∀ b, (Value.slice ka' (ks ++ [key]).length kc').ownBlock = some b → w.heap.size ≤ b ∧ b < w3.heap.size ∧ ((Value.slice ka kl kc).ownBlock = some b ∨ w2.heap.size ≤ b) := fun b hb => by
              have h4 := (World.ownsRow.lt h1 b hb).2
              rcases h3 with e | e
              · rw [e] at hb
                have := K2.out.2.1 b hb
                exact ⟨this.1, by omega, Or.inl hb⟩
              · have := e b hb
                (try simp at this)
                exact ⟨by omega, h4, Or.inr (by omega)⟩
            have kp3 : ∀ b, b < w2.heap.size → (Value.slice ka kl kc).ownBlock ≠ some b → w3.heap[b]? = w2.heap[b]? := fun b hb hn => by
              rw [h2.block b (by simp; omega) (fun e => hn e.symm)]
              exact Below.heap_alloc _ _ _ hb
            have G3 : Hid (w.grownBy w3 (some p)) := ⟨h2.os.trans G2.out.os, h2.tape.trans G2.out.tape, h2.output.trans G2.out.output, by omega, fun k hk hn => (kp3 k (by omega) (fun e => by have := (K2.out.2.1 k e).1; omega)).trans (G2.out.block k hk hn)⟩
            have R3 : Hid (RdAt w3 p a c bs (rk, qs)) := by
              obtain ⟨i, q1, q2, q3⟩ := R2.out
              exact ⟨i, q1, q2, (kp3 _ (lt_of_block q3) (fun e => by have := (K2.out.2.1 p e).1; omega)).trans q3⟩
            have K3 : Hid (KeysAt w w3 (.slice ka' (ks ++ [key]).length kc') (ks ++ [key])) := ⟨h1, fun b hb => ⟨(hkv b hb).1, (hkv b hb).2.1⟩, fun k hk => by
              rcases List.mem_append.1 hk with hk | hk
              · exact K2.out.2.2 k hk
              · simp at hk; subst hk; exact hk16⟩
            have H3 : Hid (HeldF w w3 (.slice ka' (ks ++ [key]).length kc') (.slice va vl vc) acc (rk, qs)) := fun h5 => by
              obtain ⟨H, q1, q2, q3⟩ := HH2.out h5
              refine ⟨H, q1.same fun b hb => kp3 b (q2 b hb).2 fun e => q3 b e hb, fun b hb => ⟨(q2 b hb).1, by have := (q2 b hb).2; omega⟩, fun b hb hH => ?_⟩
              rcases (hkv b hb).2.2 with e | e
              · exact q3 b e hH
              · have := (q2 b hH).2; omega
            have HA3 : Hid ((ks ++ [key]).length = m + 1) := by show _ = _; rw [List.length_append, HKL.out]; rfl
            clear h1 h2 h3 hkv kp3 K2 HH2 G2 R2 hw3 hw2
            have HOr3 : Hid (Oct w3 a c bs) := HO.out.grown HRD.out G3.out
            have HCP : Hid (Calls Try.prog 79 #[.pointer (some ⟨p, 0, none⟩), .int .i64 (d + 1)] w3 (PartPost n (rd n (rk, qs)) p a c bs w3)) := HP.out (rk, qs) p a c bs (d + 1) w3 R3.out HOr3.out HBk.out (by omega) HD.out
            cases hrd : rd n (rk, qs) with
            | error er =>
              rw [hrd] at HCP
              have HRE : Hid (rdFields n (l, q) = .error er) := by
                show _ = _
                rw [HR.out, HE.out, HMk.out]
                simp only [iterE, HSe.out HOK.out er hrd]
              clear hrd
              go_wp2_with fail
              refine HCP.out.mono ?_
              intro e w4 h1
              obtain ⟨rfl, hg⟩ := PartPost.err h1
              go_wp2_with fail
              exact ⟨rfl, grown_trans G3.out hg, Or.inl ⟨er, HRE.out, rfl⟩⟩
            | ok us =>
              obtain ⟨u, s'⟩ := us
              rw [hrd] at HCP
              have HRE : Hid (iterE (stepF (rd n)) M ([], [], (r, q)) = iterE (stepF (rd n)) (M - (m + 1)) (ks ++ [key], acc ++ [u], s')) := by
                show _ = _
                rw [HE.out, HMk.out]
                simp only [iterE, HSo.out HOK.out u s' hrd]
              have HSU : Hid (qs ≤ s'.2 ∧ s'.2 + s'.1.length ≤ qs + rk.length) := rd_sum hrd
              clear hrd
              generalize ks ++ [key] = ks' at *
              go_wp2_with fail
              refine HCP.out.mono ?_
              intro e w4 h1
              obtain ⟨hg, h2, y, rfl, ⟨k, b, t, ka5, kl5, kc5, ia5, il5, ic5, rfl⟩, h3⟩ := PartPost.ok h1
              have hw4 := hg.size
              have hw3 := G3.out.size
              have G4 : Hid (w.grownBy w4 (some p)) := grown_trans G3.out hg
              have R4 : Hid (RdAt w4 p a c bs s') := h2
              have HB4 : Hid (s'.2 + s'.1.length ≤ 281474976710656) := Nat.le_trans HSU.out.2 HBk.out
              have K4 : Hid (KeysAt w w4 (.slice ka' ks'.length kc') ks') := ⟨K3.out.1.same fun b hb => hg.block b (K3.out.2.1 b hb).2 fun e => by
                  simp only [Option.some.injEq] at e
                  have := (K3.out.2.1 b hb).1
                  omega, fun b hb => ⟨(K3.out.2.1 b hb).1, by have := (K3.out.2.1 b hb).2; omega⟩, K3.out.2.2⟩
              have HGW : Hid (w3.grownBy w4 (some p)) := hg
              have HY : Hid (s'.2 ≤ 512 → ∃ F, Own w4 n (mk k b t ka5 kl5 kc5 ia5 il5 ic5) u F ∧ ∀ b, F b → w3.heap.size ≤ b ∧ b < w4.heap.size) := h3
              clear h1 h2 h3 hg
              go_wp2_with fail
              by_cases h5 : 512 < s'.2
              · refine (keep_none p a c bs s' w4 R4.out h5 _ _ _ _ _ _ _ _ _ _).mono ?_
                rintro e w5 ⟨rfl, hb5⟩
                have hw5 := hb5.size
                have G5 : Hid (w.grownBy w5 (some p)) := grown_below G4.out hb5
                have R5 : Hid (RdAt w5 p a c bs s') := by obtain ⟨i, q1, q2, q3⟩ := R4.out; exact ⟨i, q1, q2, (hb5.block _ (lt_of_block q3)).trans q3⟩
                have K5 : Hid (KeysAt w w5 (.slice ka' ks'.length kc') ks') := ⟨K4.out.1.same fun b hb => hb5.block b (K4.out.2.1 b hb).2, fun b hb => ⟨(K4.out.2.1 b hb).1, by have := (K4.out.2.1 b hb).2; omega⟩, K4.out.2.2⟩
                have H53 : Hid (512 < s'.2) := h5
                clear hb5 h5
                go_wp2_with fail
                go_roundw
                case rel => exact ⟨m + 1, ks', acc ++ [u], s', ka', ks'.length, kc', none, 0, 0, by omega, by go_num, rfl, rfl, (by show _ = _; rw [List.length_append, HA.out]; rfl), HA3.out, HRE.out, R5.out, G5.out, K5.out, fun h => absurd h (by have := H53.out; omega), HB4.out⟩
                case measure => simp [intOf]; omega
              · obtain ⟨H0, hL0, hH0, hK0⟩ := H3.out (by have := HSU.out.1; simp only; omega)
                obtain ⟨F, hF1, hF2⟩ := HY.out (by omega)
                have hL4 : OwnL w4 n (.slice va vl vc) acc H0 := hL0.same fun b hb => HGW.out.block b (hH0 b hb).2 fun e => by
                  simp only [Option.some.injEq] at e
                  have := (hH0 b hb).1
                  omega
                refine (keep_some p a c bs s' w4 R4.out h5 (.slice va vl vc) acc H0 hL4 u F _ hF1 (fun b hb hb' => by have := (hF2 b hb).1; have := (hH0 b hb').2; omega) (fun b hb => by have := (hH0 b hb).2; omega) (fun b hb => (hF2 b hb).2) (by rw [HA.out]; omega)).mono ?_
                rintro e w5 ⟨v', rfl, h1, h2, h3⟩
                obtain ⟨va', vc', rfl⟩ := h1.shape
                have hw5 := h2.size
                have hlt5 := h1.lt
                have hv0 : ∀ g, (Value.slice va vl vc).ownBlock = some g → H0 g := fun g hg => (hL0.lt g hg).1
                have G5 : Hid (w.grownBy w5 (some p)) := ⟨h2.os.trans G4.out.os, h2.tape.trans G4.out.tape, h2.output.trans G4.out.output, Nat.le_trans G4.out.size hw5, fun k hk hn => (h2.block k (by omega) (fun e => by have := (hH0 k (hv0 k e.symm)).1; omega)).trans (G4.out.block k hk hn)⟩
                have R5 : Hid (RdAt w5 p a c bs s') := by
                  obtain ⟨i, q1, q2, q3⟩ := R4.out
                  exact ⟨i, q1, q2, (h2.block _ (lt_of_block q3) (fun e => by have := (hH0 p (hv0 p e.symm)).1; omega)).trans q3⟩
                have K5 : Hid (KeysAt w w5 (.slice ka' ks'.length kc') ks') := ⟨K4.out.1.same fun b hb => h2.block b (K4.out.2.1 b hb).2 (fun e => hK0 b hb (hv0 b e.symm)), fun b hb => ⟨(K4.out.2.1 b hb).1, by have := (K4.out.2.1 b hb).2; omega⟩, K4.out.2.2⟩
                have H5 : Hid (HeldF w w5 (.slice ka' ks'.length kc') (.slice va' (acc ++ [u]).length vc') (acc ++ [u]) s') := fun _ => ⟨_, h1, fun b hb => by
                  rcases hb with hb | hb | hb
                  · have := hH0 b hb; omega
                  · have := hF2 b hb; omega
                  · have h4 := (hlt5 b hb).2
                    rcases h3 with e | e
                    · have := hH0 b (hv0 b (by rw [← e]; exact hb)); omega
                    · have := e b hb; omega, fun b hb hH => by
                  have hb3 := (K3.out.2.1 b hb).2
                  rcases hH with hH | hH | hH
                  · exact hK0 b hb hH
                  · have := (hF2 b hH).1; omega
                  · rcases h3 with e | e
                    · exact hK0 b hb (hv0 b (by rw [← e]; exact hH))
                    · have := e b hH; omega⟩
                have HA5 : Hid ((acc ++ [u]).length = m + 1) := by show _ = _; rw [List.length_append, HA.out]; rfl
                clear h1 h2 h3 hlt5 hv0 hL4 hL0 hH0 hK0 hF1 hF2 h5
                generalize acc ++ [u] = acc' at *
                go_wp2_with fail
                go_roundw
                case rel => exact ⟨m + 1, ks', acc', s', ka', ks'.length, kc', va', acc'.length, vc', by omega, by go_num, rfl, rfl, HA5.out, HA3.out, HRE.out, R5.out, G5.out, K5.out, H5.out, HB4.out⟩
                case measure => simp [intOf]; omega
          · have hg0 : (0 : Int) < (m : Int) := by omega
            obtain ⟨last, gk, hlast, rfl, rfl, hcell⟩ := last_cell K2.out.1 (by rw [HKL.out]; omega)
            have hi0 : (0 : Int) ≤ (m : Int) - 1 := by omega
            have hi1 : (m : Int) - 1 < (ks.length : Int) := by rw [HKL.out]; omega
            have hi2 : ((m : Int) - 1).toNat = ks.length - 1 := by rw [HKL.out]; omega
            clear hm0
            cases hb : Op.bytesLess last.toList key.toList with
            | false =>
              have HRE : Hid (rdFields n (l, q) = .error 32) := by
                show _ = _
                rw [HR.out, HE.out, HMk.out]
                simp only [iterE, HS32.out (by rw [hlast]; exact hb)]
              clear hlast
              go_wp2_with fail
              exact ⟨rfl, G2.out, Or.inl ⟨32, HRE.out, rfl⟩⟩
            | true =>
              have HOK : Hid (okNext ks.getLast? key = true) := by show _ = _; rw [hlast]; exact hb
              clear hlast
              go_wp2_with (at_builtin; refine wpList_pushK _ rfl _ _ rfl (.slice (some ⟨gk, 0, none⟩) ks.length kc) ks rfl ?d0 key ⟨w2.heap.size, 0, none⟩ 1 rfl ?d1 ?d2 ?_)
              case d0 => exact K2.out.1.same fun b hb => Below.heap_alloc _ _ _ (K2.out.2.1 b hb).2
              case d1 => exact newCells w2 #[.string key] _ 0 _ (by simp)
              case d2 => have := HKL.out; omega
              intro kv' w3 h1 h2 h3
              obtain ⟨ka', kc', rfl⟩ := OwnK.shape h1
              have hw3 : w2.heap.size + 1 ≤ w3.heap.size := by have := h2.size; simpa using this
              have hkv : ∀ b, (Value.slice ka' (ks ++ [key]).length kc').ownBlock = some b → w.heap.size ≤ b ∧ b < w3.heap.size ∧ ((Value.slice (some ⟨gk, 0, none⟩) ks.length kc).ownBlock = some b ∨ w2.heap.size ≤ b) := fun b hb => by
                have h4 := (World.ownsRow.lt h1 b hb).2
                rcases h3 with e | e
                · rw [e] at hb
                  have := K2.out.2.1 b hb
                  exact ⟨this.1, by omega, Or.inl hb⟩
                · have := e b hb
                  (try simp at this)
                  exact ⟨by omega, h4, Or.inr (by omega)⟩
              have kp3 : ∀ b, b < w2.heap.size → (Value.slice (some ⟨gk, 0, none⟩) ks.length kc).ownBlock ≠ some b → w3.heap[b]? = w2.heap[b]? := fun b hb hn => by
                rw [h2.block b (by simp; omega) (fun e => hn e.symm)]
                exact Below.heap_alloc _ _ _ hb
              have G3 : Hid (w.grownBy w3 (some p)) := ⟨h2.os.trans G2.out.os, h2.tape.trans G2.out.tape, h2.output.trans G2.out.output, by omega, fun k hk hn => (kp3 k (by omega) (fun e => by have := (K2.out.2.1 k e).1; omega)).trans (G2.out.block k hk hn)⟩
              have R3 : Hid (RdAt w3 p a c bs (rk, qs)) := by
                obtain ⟨i, q1, q2, q3⟩ := R2.out
                exact ⟨i, q1, q2, (kp3 _ (lt_of_block q3) (fun e => by have := (K2.out.2.1 p e).1; omega)).trans q3⟩
              have K3 : Hid (KeysAt w w3 (.slice ka' (ks ++ [key]).length kc') (ks ++ [key])) := ⟨h1, fun b hb => ⟨(hkv b hb).1, (hkv b hb).2.1⟩, fun k hk => by
                rcases List.mem_append.1 hk with hk | hk
                · exact K2.out.2.2 k hk
                · simp at hk; subst hk; exact hk16⟩
              have H3 : Hid (HeldF w w3 (.slice ka' (ks ++ [key]).length kc') (.slice va vl vc) acc (rk, qs)) := fun h5 => by
                obtain ⟨H, q1, q2, q3⟩ := HH2.out h5
                refine ⟨H, q1.same fun b hb => kp3 b (q2 b hb).2 fun e => q3 b e hb, fun b hb => ⟨(q2 b hb).1, by have := (q2 b hb).2; omega⟩, fun b hb hH => ?_⟩
                rcases (hkv b hb).2.2 with e | e
                · exact q3 b e hH
                · have := (q2 b hH).2; omega
              have HA3 : Hid ((ks ++ [key]).length = m + 1) := by show _ = _; rw [List.length_append, HKL.out]; rfl
              clear h1 h2 h3 hkv kp3 K2 HH2 G2 R2 hw3 hw2
              have HOr3 : Hid (Oct w3 a c bs) := HO.out.grown HRD.out G3.out
              have HCP : Hid (Calls Try.prog 79 #[.pointer (some ⟨p, 0, none⟩), .int .i64 (d + 1)] w3 (PartPost n (rd n (rk, qs)) p a c bs w3)) := HP.out (rk, qs) p a c bs (d + 1) w3 R3.out HOr3.out HBk.out (by omega) HD.out
              cases hrd : rd n (rk, qs) with
              | error er =>
                rw [hrd] at HCP
                have HRE : Hid (rdFields n (l, q) = .error er) := by
                  show _ = _
                  rw [HR.out, HE.out, HMk.out]
                  simp only [iterE, HSe.out HOK.out er hrd]
                clear hrd
                go_wp2_with fail
                refine HCP.out.mono ?_
                intro e w4 h1
                obtain ⟨rfl, hg⟩ := PartPost.err h1
                go_wp2_with fail
                exact ⟨rfl, grown_trans G3.out hg, Or.inl ⟨er, HRE.out, rfl⟩⟩
              | ok us =>
                obtain ⟨u, s'⟩ := us
                rw [hrd] at HCP
                have HRE : Hid (iterE (stepF (rd n)) M ([], [], (r, q)) = iterE (stepF (rd n)) (M - (m + 1)) (ks ++ [key], acc ++ [u], s')) := by
                  show _ = _
                  rw [HE.out, HMk.out]
                  simp only [iterE, HSo.out HOK.out u s' hrd]
                have HSU : Hid (qs ≤ s'.2 ∧ s'.2 + s'.1.length ≤ qs + rk.length) := rd_sum hrd
                clear hrd
                generalize ks ++ [key] = ks' at *
                go_wp2_with fail
                refine HCP.out.mono ?_
                intro e w4 h1
                obtain ⟨hg, h2, y, rfl, ⟨k, b, t, ka5, kl5, kc5, ia5, il5, ic5, rfl⟩, h3⟩ := PartPost.ok h1
                have hw4 := hg.size
                have hw3 := G3.out.size
                have G4 : Hid (w.grownBy w4 (some p)) := grown_trans G3.out hg
                have R4 : Hid (RdAt w4 p a c bs s') := h2
                have HB4 : Hid (s'.2 + s'.1.length ≤ 281474976710656) := Nat.le_trans HSU.out.2 HBk.out
                have K4 : Hid (KeysAt w w4 (.slice ka' ks'.length kc') ks') := ⟨K3.out.1.same fun b hb => hg.block b (K3.out.2.1 b hb).2 fun e => by
                    simp only [Option.some.injEq] at e
                    have := (K3.out.2.1 b hb).1
                    omega, fun b hb => ⟨(K3.out.2.1 b hb).1, by have := (K3.out.2.1 b hb).2; omega⟩, K3.out.2.2⟩
                have HGW : Hid (w3.grownBy w4 (some p)) := hg
                have HY : Hid (s'.2 ≤ 512 → ∃ F, Own w4 n (mk k b t ka5 kl5 kc5 ia5 il5 ic5) u F ∧ ∀ b, F b → w3.heap.size ≤ b ∧ b < w4.heap.size) := h3
                clear h1 h2 h3 hg
                go_wp2_with fail
                by_cases h5 : 512 < s'.2
                · refine (keep_none p a c bs s' w4 R4.out h5 _ _ _ _ _ _ _ _ _ _).mono ?_
                  rintro e w5 ⟨rfl, hb5⟩
                  have hw5 := hb5.size
                  have G5 : Hid (w.grownBy w5 (some p)) := grown_below G4.out hb5
                  have R5 : Hid (RdAt w5 p a c bs s') := by obtain ⟨i, q1, q2, q3⟩ := R4.out; exact ⟨i, q1, q2, (hb5.block _ (lt_of_block q3)).trans q3⟩
                  have K5 : Hid (KeysAt w w5 (.slice ka' ks'.length kc') ks') := ⟨K4.out.1.same fun b hb => hb5.block b (K4.out.2.1 b hb).2, fun b hb => ⟨(K4.out.2.1 b hb).1, by have := (K4.out.2.1 b hb).2; omega⟩, K4.out.2.2⟩
                  have H53 : Hid (512 < s'.2) := h5
                  clear hb5 h5
                  go_wp2_with fail
                  go_roundw
                  case rel => exact ⟨m + 1, ks', acc ++ [u], s', ka', ks'.length, kc', none, 0, 0, by omega, by go_num, rfl, rfl, (by show _ = _; rw [List.length_append, HA.out]; rfl), HA3.out, HRE.out, R5.out, G5.out, K5.out, fun h => absurd h (by have := H53.out; omega), HB4.out⟩
                  case measure => simp [intOf]; omega
                · obtain ⟨H0, hL0, hH0, hK0⟩ := H3.out (by have := HSU.out.1; simp only; omega)
                  obtain ⟨F, hF1, hF2⟩ := HY.out (by omega)
                  have hL4 : OwnL w4 n (.slice va vl vc) acc H0 := hL0.same fun b hb => HGW.out.block b (hH0 b hb).2 fun e => by
                    simp only [Option.some.injEq] at e
                    have := (hH0 b hb).1
                    omega
                  refine (keep_some p a c bs s' w4 R4.out h5 (.slice va vl vc) acc H0 hL4 u F _ hF1 (fun b hb hb' => by have := (hF2 b hb).1; have := (hH0 b hb').2; omega) (fun b hb => by have := (hH0 b hb).2; omega) (fun b hb => (hF2 b hb).2) (by rw [HA.out]; omega)).mono ?_
                  rintro e w5 ⟨v', rfl, h1, h2, h3⟩
                  obtain ⟨va', vc', rfl⟩ := h1.shape
                  have hw5 := h2.size
                  have hlt5 := h1.lt
                  have hv0 : ∀ g, (Value.slice va vl vc).ownBlock = some g → H0 g := fun g hg => (hL0.lt g hg).1
                  have G5 : Hid (w.grownBy w5 (some p)) := ⟨h2.os.trans G4.out.os, h2.tape.trans G4.out.tape, h2.output.trans G4.out.output, Nat.le_trans G4.out.size hw5, fun k hk hn => (h2.block k (by omega) (fun e => by have := (hH0 k (hv0 k e.symm)).1; omega)).trans (G4.out.block k hk hn)⟩
                  have R5 : Hid (RdAt w5 p a c bs s') := by
                    obtain ⟨i, q1, q2, q3⟩ := R4.out
                    exact ⟨i, q1, q2, (h2.block _ (lt_of_block q3) (fun e => by have := (hH0 p (hv0 p e.symm)).1; omega)).trans q3⟩
                  have K5 : Hid (KeysAt w w5 (.slice ka' ks'.length kc') ks') := ⟨K4.out.1.same fun b hb => h2.block b (K4.out.2.1 b hb).2 (fun e => hK0 b hb (hv0 b e.symm)), fun b hb => ⟨(K4.out.2.1 b hb).1, by have := (K4.out.2.1 b hb).2; omega⟩, K4.out.2.2⟩
                  have H5 : Hid (HeldF w w5 (.slice ka' ks'.length kc') (.slice va' (acc ++ [u]).length vc') (acc ++ [u]) s') := fun _ => ⟨_, h1, fun b hb => by
                    rcases hb with hb | hb | hb
                    · have := hH0 b hb; omega
                    · have := hF2 b hb; omega
                    · have h4 := (hlt5 b hb).2
                      rcases h3 with e | e
                      · have := hH0 b (hv0 b (by rw [← e]; exact hb)); omega
                      · have := e b hb; omega, fun b hb hH => by
                    have hb3 := (K3.out.2.1 b hb).2
                    rcases hH with hH | hH | hH
                    · exact hK0 b hb hH
                    · have := (hF2 b hH).1; omega
                    · rcases h3 with e | e
                      · exact hK0 b hb (hv0 b (by rw [← e]; exact hH))
                      · have := e b hH; omega⟩
                  have HA5 : Hid ((acc ++ [u]).length = m + 1) := by show _ = _; rw [List.length_append, HA.out]; rfl
                  clear h1 h2 h3 hlt5 hv0 hL4 hL0 hH0 hK0 hF1 hF2 h5
                  generalize acc ++ [u] = acc' at *
                  go_wp2_with fail
                  go_roundw
                  case rel => exact ⟨m + 1, ks', acc', s', ka', ks'.length, kc', va', acc'.length, vc', by omega, by go_num, rfl, rfl, HA5.out, HA3.out, HRE.out, R5.out, G5.out, K5.out, H5.out, HB4.out⟩
                  case measure => simp [intOf]; omega
      · have hme : m = M := by omega
        subst hme
        have HRE : Hid (rdFields n (l, q) = .ok (ks, acc, (ls, qs))) := by
          show _ = _
          rw [HR.out, HE.out, Nat.sub_self]
          rfl
        go_wp2_with fail
        refine bodyPost_ret (v := .tuple #[.slice ka kl kc, .slice va vl vc]) (by simp [results, Try.results87, go_sem]) rfl ?_
        exact ⟨HG.out, Or.inr ⟨ks, acc, (ls, qs), HRE.out, HS.out, ka, kl, kc, va, vl, vc, rfl, HK.out, HH.out⟩⟩
end Go.Proofs.Ytfdbhojghkdlkaa
