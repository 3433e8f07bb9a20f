/-
  The program's Take and Decode.
-/
import Derived.Test.YtfdbhojghkdlkaaPkTake
namespace Go.Proofs.Ytfdbhojghkdlkaa
open Go.ChangeShapes Go.WideShapes Go.ChangeAt Go.RowKit
open Fl

theorem Oct.below {w w' : World} {a : Option Addr} {c : Nat} {bs : List UInt8} (h : Oct w a c bs) (hb : Below w.heap.size w w') : Oct w' a c bs := ⟨h.1.below hb, h.2⟩

/-- A result's variable written, with what is one's own elsewhere. -/
theorem fin_own {w W W5 : World} {n : Nat} {y : Value} {u : V n} {F : Nat → Prop} (hb : Below w.heap.size w W) (e1 : ∀ k, k ≠ w.heap.size → W5.heap[k]? = W.heap[k]?) (e2 : W5.heap.size = W.heap.size) (e3 : W5.os = W.os) (e4 : W5.tape = W.tape) (e5 : W5.output = W.output)
    (ho : Own W n y u F) (hF : ∀ b, F b → w.heap.size < b ∧ b < W.heap.size) : Own W5 n y u F ∧ (∀ b, F b → w.heap.size ≤ b ∧ b < W5.heap.size) ∧ Below w.heap.size w W5 :=
  ⟨ho.same n fun b hb' => e1 b (by have := (hF b hb').1; omega), fun b hb' => by have := hF b hb'; omega, ⟨e3.trans hb.os, e4.trans hb.tape, e5.trans hb.output, by have := hb.size; omega, fun k hk => (e1 k (by omega)).trans (hb.block k hk)⟩⟩

set_option maxRecDepth 100000 in
theorem take_any (a : Option Addr) (c : Nat) (bs : List UInt8) (w : World) (ho : Oct w a c bs) :
    Calls Try.prog 65 #[.slice a bs.length c] w fun e w' => ∃ y F, e = .returned (.tuple #[y, .int .i64 ((takeR bs).2.2 : Int), .int .i64 (takeR bs).1]) ∧ Own w' (takeR bs).2.1.1 y (takeR bs).2.1.2 F ∧ (∀ b, F b → w.heap.size ≤ b ∧ b < w'.heap.size) ∧ Below w.heap.size w w' := by
  have HC : Hid (∀ w', Below w.heap.size w w' → Calls Try.prog 71 #[.slice a bs.length c] w' _) := fun w' hb => read_any a c bs w' (ho.below hb)
  clear ho
  generalize takeR bs = R at *
  obtain ⟨er, ⟨m, u⟩, nn⟩ := R
  go_enter Try.func65, Try.ntmps65
  go_wp2_with fail
  refine (HC.out _ (below_one _ _)).mono ?_
  rintro e w2 ⟨y, F, rfl, h1, h2, h3⟩
  obtain ⟨k, b, t, ka, kl, kc, ia, il, ic, rfl⟩ := Lay.shape _ (Own.lay _ h1)
  have HX : Hid (w2.heap[w.heap.size]? = _) := (h3.block _ (by simp)).trans (heap_alloc_new _ _)
  have HB : Hid (Below w.heap.size w w2) := nxt (below_one _ _) h3
  have HF : Hid (∀ b, F b → w.heap.size < b ∧ b < w2.heap.size) := fun b hb => by have := h2 b hb; simp at this; omega
  have HW : Hid (Own w2 m (mk k b t ka kl kc ia il ic) u F) := h1
  obtain ⟨z0, z1, z2, z3, z4, f0, f1, f2, f3, f4⟩ := box_cells HX.out
  clear h1 h2 h3
  go_wp2_with fail
  refine bodyPost_ret (v := .tuple #[mk k b t ka kl kc ia il ic, .int .i64 nn, .int .i64 er]) (by simp [results, Try.results65, go_sem, z0, z1, z2, z3, z4]) rfl ?_
  obtain ⟨e1, e2, e3, e4, e5⟩ := five_fin w2 w.heap.size (.int .i64 k) (.int .u64 b) (.string t) (.slice ka kl kc) (.slice ia il ic)
  generalize (((((w2.setCell ⟨w.heap.size, 0, none⟩ (.int .i64 k)).setCell ⟨w.heap.size, 1, none⟩ (.int .u64 b)).setCell ⟨w.heap.size, 2, none⟩ (.string t)).setCell ⟨w.heap.size, 3, none⟩ (.slice ka kl kc)).setCell ⟨w.heap.size, 4, none⟩ (.slice ia il ic)) = W5 at *
  exact ⟨_, F, rfl, fin_own HB.out e1 e2 e3 e4 e5 HW.out HF.out⟩

/-- Decode's answer. -/
def decR (bs : List UInt8) : Int × PT := if (takeR bs).1 = 0 then if (takeR bs).2.2 < bs.length then (23, zeroPT) else (0, (takeR bs).2.1) else ((takeR bs).1, zeroPT)

end Go.Proofs.Ytfdbhojghkdlkaa

/-
  Octets among the arguments.
-/
namespace Go.Proofs.Ytfdbhojghkdlkaa
open Go.ChangeShapes Go.WideShapes Go.ChangeAt Go.RowKit Go.Deep
open Fl

/-- A slice of octets that came in. -/
def BytesIs (w : World) (x : Value) (bs : List UInt8) : Prop := ∃ a c, x = .slice a bs.length c ∧ Oct w a c bs ∧ bs.length ≤ 140737488351232

theorem Try.cellsU8 : Try.prog.cellsOf 5 = 1 := by kernel_rfl
theorem Try.bytesU8 : Try.prog.bytesOf 5 = 1 := by kernel_rfl

theorem cells_one {w : World} {a : Addr} {cs : List Value} (h : w.cells? 0 a 1 = some cs) : ∃ c0, cs = [c0] ∧ w.cell? (a.add 0) = some c0 := by
  simp only [World.cells?, Nat.zero_le, if_true, show List.range 1 = [0] from rfl, List.mapM_cons, List.mapM_nil] at h
  cases h0 : w.cell? (a.add 0) with
  | none => simp [h0] at h
  | some c0 =>
    simp [h0] at h
    exact ⟨c0, h.symm, rfl⟩

set_option maxRecDepth 100000 in
theorem bytes_of_trod {H : Type} {enc : TypeId × Value → H} {w : World} {d : DataW H} {fuel : Nat} {c : Value} {pl : List MemPlace} (hwt : ∀ n ∈ d.weights Try.prog 25, n ≤ reachBytes)
    (h : DataW.trod enc Try.prog w 0 (fun _ => true) true fuel 25 [c] = some (d, pl)) : ∃ bs : List UInt8, BytesIs w c bs := by
  rcases open_slice Try.underlying25 h with ⟨h1, h2⟩ | ⟨a, len, cap, m, n', D, Pl, h1, _, hl1, hm1, hm2, h2, h3⟩
  · simp only [List.cons.injEq, and_true] at h1
    exact ⟨[], none, 0, h1, ⟨fun i s hi => by simp at hi, by simp, by simp, by simp, fun _ => rfl, fun ad h => by cases h⟩, by simp⟩
  · simp only [List.cons.injEq, and_true] at h1
    simp only [if_true] at hm2
    subst hm2
    rw [Try.cellsU8] at h2 h3
    have h2' : d = .slice ((List.range len).map D) ((List.range (m - len)).map fun j => D (len + j)) := congrArg Prod.fst h2
    rw [h2'] at hwt
    unfold maxLen at hm1
    have spot : 0 < m → a = ⟨a.block, a.off, none⟩ := by
      intro hm0
      obtain ⟨cs0, q0, _⟩ := h3 0 hm0
      obtain ⟨z0, _, p0⟩ := cells_one q0
      have hs := spot_none p0
      simpa only [Nat.zero_mul, Addr.add, if_true] using hs
    have each : ∀ i, i < len → ∃ o : UInt8, ∃ b off, some a = some (⟨b, off, none⟩ : Addr) ∧ w.cell? ⟨b, off + i, none⟩ = some (.int .u8 (o.toNat : Int)) := by
      intro i hi
      obtain ⟨cs', q, htr⟩ := h3 i (by omega)
      obtain ⟨c0, rfl, p0⟩ := cells_one q
      obtain ⟨kk, e2, -, w2⟩ := DataW.trod_int Try.underlying5 htr
      have e2' : c0 = .int .u8 kk := by simpa using e2
      subst e2'
      have b2 := bounds_u8 w2
      refine ⟨UInt8.ofNat kk.toNat, a.block, a.off, by rw [← spot (by omega)], ?_⟩
      have hk : ((UInt8.ofNat kk.toNat).toNat : Int) = kk := by
        rw [UInt8.toNat_ofNat']
        omega
      rw [hk]
      have hs := spot (by omega)
      generalize a.block = ab at *
      generalize a.off = ao at *
      subst hs
      rw [add_plain, add_plain] at p0
      simpa using p0
    obtain ⟨bs, hlen', hbs⟩ := list_of each
    have hbl : bs.length ≤ 140737488351232 := ?_
    · exact ⟨bs, some a, m, by rw [hlen']; exact h1, ⟨fun i o hi => hbs i o hi, by omega, hm1, by omega, by simp, fun ad h => by cases h; exact spot⟩, hbl⟩
    have := hwt _ (by simp only [DataW.weights, Try.underlying25]; exact List.mem_cons_self)
    simp only [List.length_map, List.length_range, Try.bytesU8] at this
    rw [reach_eq] at this
    omega

set_option maxRecDepth 100000 in
theorem bytes_of_arg {H : Type} {enc : TypeId × Value → H} {w : World} {base : Nat} {x : Value} {d : DataW H} {pl : List MemPlace} (hx : Value.okWide Try.prog w .any base 25 x) (h : DataW.Trod enc Try.prog w 0 (fun _ => true) true 25 x d pl)
    (hw : ∀ n ∈ d.weights Try.prog 25, n ≤ reachBytes) : ∃ bs : List UInt8, BytesIs w x bs := by
  obtain ⟨fuel, hf⟩ := h
  unfold Value.okWide at hx
  rw [Try.underlying25] at hx
  have hc : x.cells = #[x] ∨ ∃ cs, x = .agg cs := by cases x <;> simp [Value.cells]
  rcases hc with hc | ⟨cs, rfl⟩
  · rw [hc] at hf
    exact bytes_of_trod hw hf
  · exfalso
    simp [Cell.okWide, Cell.ok, Try.underlying25] at hx
end Go.Proofs.Ytfdbhojghkdlkaa

/-
  Pack's answers: plain mathematics.
-/
namespace Go.Proofs.Ytfdbhojghkdlkaa
open Go.ChangeShapes Go.WideShapes Go.ChangeAt Go.RowKit
open Fl

theorem Bs.oct {w : World} {B : Nat} {a : Option Addr} {n c : Nat} {l : List UInt8} (h : Bs w B (.slice a n c) l) (hl : l.length ≤ 200000000000000) : Oct w a c l := by
  refine ⟨h.lay, ?_⟩
  obtain ⟨h1, h2⟩ := h
  rcases h2 with ⟨h3, h4⟩ | ⟨g, cap, cur, h3, h4, h5, h6, h7, _⟩
  · simp only [Value.slice.injEq] at h3
    obtain ⟨rfl, rfl, rfl⟩ := h3
    exact ⟨by omega, by omega, hl, fun _ => rfl, fun ad h => by cases h⟩
  · simp only [Value.slice.injEq] at h3
    obtain ⟨rfl, rfl, rfl⟩ := h3
    unfold maxLen at h7
    exact ⟨h6, by omega, hl, by simp, fun ad h _ => by cases h; rfl⟩

theorem take_enc {v : V 8} (hv : chk v = 0) (hb : bitsV 8 v) (r : List UInt8) : takeR (enc 8 v ++ r) = (0, ⟨8, v⟩, (enc 8 v).length) := by
  have h := cnt_of_chk hv
  unfold takeR
  rw [rd_enc 8 v (ok_of_chk hv) hb r 0]
  simp only [Nat.zero_add]
  rw [if_neg (by omega), List.length_append, Nat.add_sub_cancel]

theorem dec_enc {v : V 8} (hv : chk v = 0) (hb : bitsV 8 v) : decR (enc 8 v) = (0, ⟨8, v⟩) := by
  have h := take_enc hv hb []
  rw [List.append_nil] at h
  unfold decR
  rw [h]
  simp

theorem take_cut {v : V 8} (hv : chk v = 0) (hb : bitsV 8 v) {j : Nat} (hj : j < (enc 8 v).length) : takeR ((enc 8 v).take j) = (8, zeroPT, 0) := by
  unfold takeR
  rw [rd_cut 8 v (ok_of_chk hv) hb ((enc 8 v).take j) ((enc 8 v).drop j) (List.take_append_drop j _).symm (by
    intro e
    have := congrArg List.length e
    simp at this
    omega) 0]

theorem iterE_pos {S : Type} {f : S → Except Int S} (hf : ∀ s e, f s = .error e → 0 < e) : ∀ (m : Nat) (s : S) (e : Int), iterE f m s = .error e → 0 < e
  | 0, s, e, h => by cases h
  | m + 1, s, e, h => by
    simp only [iterE] at h
    cases h1 : f s with
    | error e' => rw [h1] at h; simp only [Except.error.injEq] at h; subst h; exact hf s _ h1
    | ok s' => rw [h1] at h; exact iterE_pos hf m s' e h

theorem nxtN_pos {m : Nat} {l : List UInt8} {e : Int} (h : nxtN m l = .error e) : 0 < e := by
  unfold nxtN at h
  split at h
  · simp only [Except.error.injEq] at h; omega
  · cases h

theorem rdText_pos {lo hi : Nat} {l : List UInt8} {e : Int} (h : rdText lo hi l = .error e) : 0 < e := by
  cases l with
  | nil => simp only [rdText, Except.error.injEq] at h; omega
  | cons o l =>
    simp only [rdText] at h
    split at h
    · simp only [Except.error.injEq] at h; omega
    · cases h1 : nxtN o.toNat l with
      | error e' => rw [h1] at h; simp only [Except.error.injEq] at h; subst h; exact nxtN_pos h1
      | ok p => rw [h1] at h; cases h

theorem rdBits_pos {l : List UInt8} {e : Int} (h : rdBits l = .error e) : 0 < e := by
  unfold rdBits at h
  cases h1 : nxtN 8 l with
  | error e' => rw [h1] at h; simp only [Except.error.injEq] at h; subst h; exact nxtN_pos h1
  | ok p =>
    rw [h1] at h
    simp only at h
    split at h
    · cases h
    · simp only [Except.error.injEq] at h; omega

theorem rdCount_pos {l : List UInt8} {e : Int} (h : rdCount l = .error e) : 0 < e := by
  cases l with
  | nil => simp only [rdCount, Except.error.injEq] at h; omega
  | cons o l =>
    simp only [rdCount] at h
    split at h
    · simp only [Except.error.injEq] at h; omega
    · cases h

theorem rd_pos : ∀ (n : Nat) (s : RS) (e : Int), rd n s = .error e → 0 < e
  | 0, s, e, h => by simp only [rd, Except.error.injEq] at h; omega
  | n + 1, (l, p), e, h => by
    cases l with
    | nil => simp only [rd, Except.error.injEq] at h; omega
    | cons o l =>
      have hI : ∀ s e, stepI (rd n) s = .error e → 0 < e := by
        intro s e h
        unfold stepI at h
        cases h1 : rd n s.2 with
        | error e' => rw [h1] at h; simp only [Except.error.injEq] at h; subst h; exact rd_pos n _ _ h1
        | ok q => rw [h1] at h; cases h
      have hF : ∀ s e, stepF (rd n) s = .error e → 0 < e := by
        intro s e h
        unfold stepF at h
        cases h1 : rdText 1 16 s.2.2.1 with
        | error e' => rw [h1] at h; simp only [Except.error.injEq] at h; subst h; exact rdText_pos h1
        | ok q =>
          rw [h1] at h
          simp only at h
          split at h
          · simp only [Except.error.injEq] at h; omega
          · cases h2 : rd n (q.2, s.2.2.2) with
            | error e' => rw [h2] at h; simp only [Except.error.injEq] at h; subst h; exact rd_pos n _ _ h2
            | ok q' => rw [h2] at h; cases h
      simp only [rd] at h
      split at h
      · cases h
      · split at h
        · cases h
        · split at h
          · cases h1 : rdBits l with
            | error e' => rw [h1] at h; simp only [Except.error.injEq] at h; subst h; exact rdBits_pos h1
            | ok q => rw [h1] at h; cases h
          · split at h
            · cases h1 : rdText 0 128 l with
              | error e' => rw [h1] at h; simp only [Except.error.injEq] at h; subst h; exact rdText_pos h1
              | ok q => rw [h1] at h; cases h
            · split at h
              · cases h1 : rdCount l with
                | error e' => rw [h1] at h; simp only [Except.error.injEq] at h; subst h; exact rdCount_pos h1
                | ok q =>
                  rw [h1] at h
                  simp only at h
                  cases h2 : iterE (stepI (rd n)) q.1 ([], (q.2, p + 1)) with
                  | error e' => rw [h2] at h; simp only [Except.error.injEq] at h; subst h; exact iterE_pos hI _ _ _ h2
                  | ok q' => rw [h2] at h; cases h
              · split at h
                · cases h1 : rdCount l with
                  | error e' => rw [h1] at h; simp only [Except.error.injEq] at h; subst h; exact rdCount_pos h1
                  | ok q =>
                    rw [h1] at h
                    simp only at h
                    cases h2 : iterE (stepF (rd n)) q.1 ([], [], (q.2, p + 1)) with
                    | error e' => rw [h2] at h; simp only [Except.error.injEq] at h; subst h; exact iterE_pos hF _ _ _ h2
                    | ok q' => rw [h2] at h; cases h
                · simp only [Except.error.injEq] at h; omega

/-- What is taken is a value's octets. -/
theorem take_back {b : List UInt8} (h : (takeR b).1 = 0) : ∃ (v : V 8) (r : List UInt8), takeR b = (0, ⟨8, v⟩, b.length - r.length) ∧ b = enc 8 v ++ r ∧ chk v = 0 ∧ bitsV 8 v := by
  unfold takeR at h ⊢
  cases h1 : rd 8 (b, 0) with
  | error e => rw [h1] at h; simp only at h; have := rd_pos 8 _ _ h1; omega
  | ok q =>
    obtain ⟨v, r, p⟩ := q
    rw [h1] at h
    simp only at h ⊢
    obtain ⟨e1, e2, e3, e4⟩ := enc_rd 8 _ _ _ _ _ h1
    by_cases h5 : 512 < p
    · rw [if_pos h5] at h; simp at h
    · rw [if_neg h5]
      exact ⟨v, r, rfl, e1, chk_of_ok e2 (by omega), e3⟩

theorem dec_back {b : List UInt8} (h : (decR b).1 = 0) : ∃ v : V 8, decR b = (0, ⟨8, v⟩) ∧ b = enc 8 v ∧ chk v = 0 ∧ bitsV 8 v := by
  unfold decR at h ⊢
  by_cases h0 : (takeR b).1 = 0
  · rw [if_pos h0] at h ⊢
    obtain ⟨v, r, e1, e2, e3, e4⟩ := take_back h0
    rw [e1] at h ⊢
    simp only at h ⊢
    by_cases h1 : b.length - r.length < b.length
    · rw [if_pos h1] at h; simp at h
    · rw [if_neg h1]
      have hr : r = [] := by
        apply List.eq_nil_of_length_eq_zero
        have := congrArg List.length e2
        rw [List.length_append] at this
        omega
      subst hr
      exact ⟨v, rfl, by simpa using e2, e3, e4⟩
  · rw [if_neg h0] at h
    exact absurd h h0

theorem dec_err {b : List UInt8} (h : (decR b).1 ≠ 0) : (decR b).2 = zeroPT := by
  unfold decR at h ⊢
  split
  · split
    · rfl
    · rename_i h1 h2
      rw [if_pos h1, if_neg h2] at h
      exact absurd rfl h
  · rfl

theorem enc_pos {n : Nat} (v : V n) : 0 < (enc n v).length := by
  cases n with
  | zero => exact v.elim
  | succ n =>
    obtain ⟨k, b, t, ks, its⟩ := v
    simp only [enc]
    split
    · simp
    · split
      · simp
      · split
        · simp
        · split <;> simp
end Go.Proofs.Ytfdbhojghkdlkaa
