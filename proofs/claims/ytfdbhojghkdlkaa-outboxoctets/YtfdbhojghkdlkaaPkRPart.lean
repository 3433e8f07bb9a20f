/-
  The page's reader: items of a list.
-/
import Derived.Test.YtfdbhojghkdlkaaPkRNext
namespace Go.Proofs.Ytfdbhojghkdlkaa
open Go.ChangeShapes Go.WideShapes Go.ChangeAt Go.RowKit
open Fl

/-- What the page's reading of a part leaves. -/
def VPost (n : Nat) (r : Except Int (V n × RS)) (p : Nat) (a : Option Addr) (c : Nat) (bs : List UInt8) (w : World) (e : Ending) (w' : World) : Prop :=
  w.grownBy w' (some p) ∧ ((∃ er, r = .error er ∧ RErr w' p 281474976710660 er ∧ ∃ y, e = .returned y ∧ Some5 y) ∨ (∃ u s', r = .ok (u, s') ∧ RAt w' p a c bs s' ∧ ∃ y F, e = .returned y ∧ Own w' n y u F ∧ ∀ b, F b → w.heap.size ≤ b ∧ b < w'.heap.size))

/-- The contract of the page's value, at one depth. -/
def ValAt (n : Nat) : Prop := ∀ (s : RS) (p : Nat) (a : Option Addr) (c : Nat) (bs : List UInt8) (d : Int) (w : World), RAt w p a c bs s → Oct w a c bs → s.2 + s.1.length ≤ 281474976710656 → 1 ≤ d → d + n = 9 →
  Calls Try.prog 40 #[.pointer (some ⟨p, 0, none⟩), .int .i64 d] w (VPost n (rd n s) p a c bs w)

/-- The variable of a value that is being read. -/
def vbox (k : Int) (kv v : Value) : Obj := .cells #[.int .i64 k, .int .u64 0, .string ⟨#[]⟩, kv, v] 50 (0, 0)

/-- What the loop over a list's items keeps. -/
def IInv (n M : Nat) (start : Except Int (List (V n) × RS)) (p : Nat) (a : Option Addr) (c : Nat) (bs : List UInt8) (w wr : World) (m : Nat) (v : Value) : Prop :=
  (∃ acc s, m ≤ M ∧ acc.length = m ∧ start = iterE (stepI (rd n)) (M - m) (acc, s) ∧ RAt wr p a c bs s ∧ s.2 + s.1.length ≤ 281474976710656 ∧ ∃ H, OwnL wr n v acc H ∧ ∀ b, H b → w.heap.size + 2 ≤ b ∧ b < wr.heap.size) ∨
  (∃ er, start = .error er ∧ RErr wr p 281474976710660 er)

/-- The list's variable holds the new row: what stays. -/
theorem items_next {w wr w3 w5 : World} {n p : Nat} {o : Obj} {v v' : Value} {its : List (V n)} {H F : Nat → Prop} (hp : p < w.heap.size) (HG : w.grownBy wr (some p)) (hg3 : wr.grownBy w3 (some p)) (hwr : w.heap.size + 2 ≤ wr.heap.size)
    (HH : ∀ b, H b → w.heap.size + 2 ≤ b ∧ b < wr.heap.size) (hv : ∀ b, v.ownBlock = some b → H b) (hF : ∀ b, F b → wr.heap.size ≤ b ∧ b < w3.heap.size)
    (k1 : OwnL w5 n v' its (fun b => H b ∨ F b ∨ v'.ownBlock = some b)) (k2 : (w3.alloc o).grownBy w5 v.ownBlock) (k3 : v'.ownBlock = v.ownBlock ∨ ∀ g, v'.ownBlock = some g → (w3.alloc o).heap.size ≤ g) (x : Value) :
    (∀ k, k < wr.heap.size → k ≠ w.heap.size → k ≠ p → ¬ H k → (w5.setCell ⟨w.heap.size, 4, none⟩ x).heap[k]? = wr.heap[k]?) ∧ (w5.setCell ⟨w.heap.size, 4, none⟩ x).heap[p]? = w3.heap[p]? ∧ w.grownBy (w5.setCell ⟨w.heap.size, 4, none⟩ x) (some p) ∧
    ∃ H', OwnL (w5.setCell ⟨w.heap.size, 4, none⟩ x) n v' its H' ∧ ∀ b, H' b → w.heap.size + 2 ≤ b ∧ b < (w5.setCell ⟨w.heap.size, 4, none⟩ x).heap.size := by
  have s3 := hg3.size
  have s5 : w3.heap.size + 1 ≤ w5.heap.size := by have := k2.size; simpa using this
  have sw : (w5.setCell ⟨w.heap.size, 4, none⟩ x).heap.size = w5.heap.size := by simp [World.setCell]
  have kp : ∀ k, k < w3.heap.size → k ≠ w.heap.size → ¬ H k → (w5.setCell ⟨w.heap.size, 4, none⟩ x).heap[k]? = w3.heap[k]? := fun k hk hn hH => by
    rw [Below.heap_setCell _ _ _ _ hn, k2.block k (by simp; omega) (fun e => hH (hv k e.symm)), Below.heap_alloc _ _ _ hk]
  have hpH : ¬ H p := fun h => by have := (HH p h).1; omega
  refine ⟨fun k hk hn hkp hH => (kp k (by omega) hn hH).trans (hg3.block k hk (by simpa using hkp)), kp p (by omega) (by omega) hpH, ?_, ?_⟩
  · refine ⟨?_, ?_, ?_, by omega, fun k hk hn => ?_⟩
    · have : (w5.setCell ⟨w.heap.size, 4, none⟩ x).os = w5.os := by simp [World.setCell]
      exact this.trans (k2.os.trans (hg3.os.trans HG.os))
    · have : (w5.setCell ⟨w.heap.size, 4, none⟩ x).tape = w5.tape := by simp [World.setCell]
      exact this.trans (k2.tape.trans (hg3.tape.trans HG.tape))
    · have : (w5.setCell ⟨w.heap.size, 4, none⟩ x).output = w5.output := by simp [World.setCell]
      exact this.trans (k2.output.trans (hg3.output.trans HG.output))
    · rw [kp k (by omega) (by omega) (fun h => by have := (HH k h).1; omega), hg3.block k (by omega) hn, HG.block k hk hn]
  · have rng : ∀ b, (H b ∨ F b ∨ v'.ownBlock = some b) → w.heap.size + 2 ≤ b ∧ b < w5.heap.size := by
      intro b hb
      rcases hb with hb | hb | hb
      · have := HH b hb; omega
      · have := hF b hb; omega
      · have h1 := (k1.lt b hb).2
        rcases k3 with e | e
        · have := HH b (hv b (by rw [← e]; exact hb)); omega
        · have := e b hb
          simp at this
          omega
    exact ⟨_, k1.same fun b hb => Below.heap_setCell _ _ _ _ (by have := (rng b hb).1; simp only; omega), fun b hb => by rw [sw]; exact rng b hb⟩

theorem items_keep {w wr w3 w5 : World} {p : Nat} {o : Obj} {v : Value} {H : Nat → Prop} (hp : p < w.heap.size) (HG : w.grownBy wr (some p)) (hg3 : wr.grownBy w3 (some p)) (hwr : w.heap.size + 2 ≤ wr.heap.size)
    (HH : ∀ b, H b → w.heap.size + 2 ≤ b ∧ b < wr.heap.size) (hv : ∀ b, v.ownBlock = some b → H b) (k2 : (w3.alloc o).grownBy w5 v.ownBlock) (x : Value) :
    (∀ k, k < wr.heap.size → k ≠ w.heap.size → k ≠ p → ¬ H k → (w5.setCell ⟨w.heap.size, 4, none⟩ x).heap[k]? = wr.heap[k]?) ∧ (w5.setCell ⟨w.heap.size, 4, none⟩ x).heap[p]? = w3.heap[p]? ∧ w.grownBy (w5.setCell ⟨w.heap.size, 4, none⟩ x) (some p) := by
  have s3 := hg3.size
  have s5 : w3.heap.size + 1 ≤ w5.heap.size := by have := k2.size; simpa using this
  have sw : (w5.setCell ⟨w.heap.size, 4, none⟩ x).heap.size = w5.heap.size := by simp [World.setCell]
  have kp : ∀ k, k < w3.heap.size → k ≠ w.heap.size → ¬ H k → (w5.setCell ⟨w.heap.size, 4, none⟩ x).heap[k]? = w3.heap[k]? := fun k hk hn hH => by
    rw [Below.heap_setCell _ _ _ _ hn, k2.block k (by simp; omega) (fun e => hH (hv k e.symm)), Below.heap_alloc _ _ _ hk]
  have hpH : ¬ H p := fun h => by have := (HH p h).1; omega
  refine ⟨fun k hk hn hkp hH => (kp k (by omega) hn hH).trans (hg3.block k hk (by simpa using hkp)), kp p (by omega) (by omega) hpH, ?_⟩
  refine ⟨?_, ?_, ?_, by omega, fun k hk hn => ?_⟩
  · have : (w5.setCell ⟨w.heap.size, 4, none⟩ x).os = w5.os := by simp [World.setCell]
    exact this.trans (k2.os.trans (hg3.os.trans HG.os))
  · have : (w5.setCell ⟨w.heap.size, 4, none⟩ x).tape = w5.tape := by simp [World.setCell]
    exact this.trans (k2.tape.trans (hg3.tape.trans HG.tape))
  · have : (w5.setCell ⟨w.heap.size, 4, none⟩ x).output = w5.output := by simp [World.setCell]
    exact this.trans (k2.output.trans (hg3.output.trans HG.output))
  · rw [kp k (by omega) (by omega) (fun h => by have := (HH k h).1; omega), hg3.block k (by omega) hn, HG.block k hk hn]

set_option maxRecDepth 100000 in
set_option maxHeartbeats 6400000 in
theorem ritems_any (n : Nat) (hv : ValAt n) (s : RS) (p : Nat) (a : Option Addr) (c : Nat) (bs : List UInt8) (d : Int) (w : World) (hr : RAt w p a c bs s) (ho : Oct w a c bs) (hb : s.2 + s.1.length ≤ 281474976710656) (hd1 : 1 ≤ d) (hd : d + 1 + n = 9) :
    Calls Try.prog 58 #[.pointer (some ⟨p, 0, none⟩), mk 4 0 ⟨#[]⟩ none 0 0 none 0 0, .int .i64 d] w fun e w' => w.grownBy w' (some p) ∧
      ((∃ er, rdItems n s = .error er ∧ RErr w' p 281474976710660 er ∧ ∃ y, e = .returned y ∧ Some5 y) ∨ (∃ its s', rdItems n s = .ok (its, s') ∧ RAt w' p a c bs s' ∧ ∃ ia ic H, e = .returned (mk 4 0 ⟨#[]⟩ none 0 0 ia its.length ic) ∧ OwnL w' n (.slice ia its.length ic) its H ∧ ∀ b, H b → w.heap.size ≤ b ∧ b < w'.heap.size)) := by
  obtain ⟨l, q⟩ := s
  have HV : Hid (ValAt n) := hv
  have HRD : Hid (RAt w p a c bs (l, q)) := hr
  have HO : Hid (Oct w a c bs) := ho
  have hd8 : d ≤ 8 := by omega
  have hwrap : IntKind.i64.wrap (d + 1) = d + 1 := by simp [IntKind.wrap, IntKind.bits, IntKind.signed]; omega
  have HD : Hid (d + 1 + (n : Int) = 9) := hd
  have HPW : Hid (p < w.heap.size) := by obtain ⟨i, _, _, h⟩ := hr; exact lt_of_block h
  have HB : Hid (q + l.length ≤ 281474976710656) := hb
  clear hr ho hv hd hb
  go_enter Try.func58, Try.ntmps58
  go_wp2_with fail
  have B1 : Hid (Below w.heap.size w ((w.alloc (.cells #[.int .i64 4, .int .u64 0, .string ⟨#[]⟩, .slice none 0 0, .slice none 0 0] 50)).alloc (.cells #[.int .i64 0, .int .u64 0, .string ⟨#[]⟩, .slice none 0 0, .slice none 0 0] 50))) := below_two _ _ _
  have XV1 : Hid (((w.alloc (.cells #[.int .i64 4, .int .u64 0, .string ⟨#[]⟩, .slice none 0 0, .slice none 0 0] 50)).alloc (.cells #[.int .i64 0, .int .u64 0, .string ⟨#[]⟩, .slice none 0 0, .slice none 0 0] 50)).heap[w.heap.size]? = some (.cells #[.int .i64 4, .int .u64 0, .string ⟨#[]⟩, .slice none 0 0, .slice none 0 0] 50 (0, 0))) := (Below.heap_alloc _ _ _ (by simp)).trans (heap_alloc_new _ _)
  have XR1 : Hid (((w.alloc (.cells #[.int .i64 4, .int .u64 0, .string ⟨#[]⟩, .slice none 0 0, .slice none 0 0] 50)).alloc (.cells #[.int .i64 0, .int .u64 0, .string ⟨#[]⟩, .slice none 0 0, .slice none 0 0] 50)).heap[w.heap.size + 1]? = some (.cells #[.int .i64 0, .int .u64 0, .string ⟨#[]⟩, .slice none 0 0, .slice none 0 0] 50 (0, 0))) := heap_new2 _ _ _
  generalize (w.alloc (.cells #[.int .i64 4, .int .u64 0, .string ⟨#[]⟩, .slice none 0 0, .slice none 0 0] 50)).alloc (.cells #[.int .i64 0, .int .u64 0, .string ⟨#[]⟩, .slice none 0 0, .slice none 0 0] 50) = W1 at *
  have R1 : Hid (RAt W1 p a c bs (l, q)) := HRD.out.same (B1.out.block _ HPW.out)
  have HW1 : Hid (w.heap.size + 2 ≤ W1.heap.size) := lt_of_block XR1.out
  refine (roctet_any p a c bs l q W1 R1.out (HO.out.below B1.out)).mono ?_
  rintro e w2 ⟨hg2, ⟨rfl, rfl, hE⟩ | ⟨o, r, rfl, rfl, hA⟩⟩
  · have hpw0 := HPW.out
    have G2 : Hid (w.grownBy w2 (some p)) := grown_trans (grown_of_below B1.out) hg2
    have XV : Hid (w2.heap[w.heap.size]? = some (.cells #[.int .i64 4, .int .u64 0, .string ⟨#[]⟩, .slice none 0 0, .slice none 0 0] 50 (0, 0))) := (hg2.block _ (lt_of_block XV1.out) (by simp; omega)).trans XV1.out
    have XR : Hid (w2.heap[w.heap.size + 1]? = some (.cells #[.int .i64 0, .int .u64 0, .string ⟨#[]⟩, .slice none 0 0, .slice none 0 0] 50 (0, 0))) := (hg2.block _ (lt_of_block XR1.out) (by simp; omega)).trans XR1.out
    have HR : Hid (rdItems n ([], q) = .error 8) := rfl
    have HE8 : Hid (RErr w2 p q 8) := hE
    clear hE hg2 XV1 XR1 R1 B1 hpw0
    go_wp2_with fail
    refine (rfail_err p q _ 8 _ w2 HE8.out).mono ?_
    rintro e w3 ⟨rfl, hw3⟩
    subst w3
    have hE0 := HE8.out
    obtain ⟨hne, q', hq', sl, i, hb⟩ := hE0
    obtain ⟨y0, y1, y2, y3, g0, g1, g2, g3⟩ := rd4_cells hb
    have hne' : ((8 : Int) == 0) = false := by decide
    have HE : Hid (RErr w2 p 281474976710660 8) := (HE8.out).mono (by have := HB.out; omega)
    obtain ⟨x0, x1, x2, x3, x4, -⟩ := box_cells XV.out
    obtain ⟨z0, z1, z2, z3, z4, f0, f1, f2, f3, f4⟩ := box_cells XR.out
    clear hb hne
    go_wp2_with fail
    refine wp_loop_rounds 1 ?_
    rw [rounds_succ]
    go_wp2_with fail
    refine bodyPost_ret (v := mk 4 0 ⟨#[]⟩ none 0 0 none 0 0) (by simp [results, Try.results58, go_sem, z0, z1, z2, z3, z4]) rfl ?_
    obtain ⟨e1, e2, e3, e4, e5⟩ := five_fin w2 (w.heap.size + 1) (.int .i64 4) (.int .u64 0) (.string ⟨#[]⟩) (.slice none 0 0) (.slice none 0 0)
    generalize (((((w2.setCell ⟨w.heap.size + 1, 0, none⟩ (.int .i64 4)).setCell ⟨w.heap.size + 1, 1, none⟩ (.int .u64 0)).setCell ⟨w.heap.size + 1, 2, none⟩ (.string ⟨#[]⟩)).setCell ⟨w.heap.size + 1, 3, none⟩ (.slice none 0 0)).setCell ⟨w.heap.size + 1, 4, none⟩ (.slice none 0 0)) = W5 at *
    have hpw := HPW.out
    refine ⟨⟨e3.trans (G2.out).os, e4.trans (G2.out).tape, e5.trans (G2.out).output, by have := (G2.out).size; omega, fun k hk hn => (e1 k (by omega)).trans ((G2.out).block k hk hn)⟩, Or.inl ⟨8, HR.out, HE.out.same (e1 p (by omega)), _, rfl, _, _, _, _, _, _, _, _, _, rfl⟩⟩
  · have hpw0 := HPW.out
    have h256 := o.toNat_lt
    have G2 : Hid (w.grownBy w2 (some p)) := grown_trans (grown_of_below B1.out) hg2
    have XV : Hid (w2.heap[w.heap.size]? = some (.cells #[.int .i64 4, .int .u64 0, .string ⟨#[]⟩, .slice none 0 0, .slice none 0 0] 50 (0, 0))) := (hg2.block _ (lt_of_block XV1.out) (by simp; omega)).trans XV1.out
    have XR : Hid (w2.heap[w.heap.size + 1]? = some (.cells #[.int .i64 0, .int .u64 0, .string ⟨#[]⟩, .slice none 0 0, .slice none 0 0] 50 (0, 0))) := (hg2.block _ (lt_of_block XR1.out) (by simp; omega)).trans XR1.out
    have R2 : Hid (RAt w2 p a c bs (r, q)) := hA
    have HW2 : Hid (w.heap.size + 2 ≤ w2.heap.size) := Nat.le_trans HW1.out hg2.size
    clear hA hg2 XV1 XR1 R1 B1 hpw0 HW1
    by_cases h32 : 32 < o.toNat
    · have h32' : (32 : Int) < (o.toNat : Int) := by omega
      have HR : Hid (rdItems n (o :: r, q) = .error 3) := by show _ = _; simp only [rdItems, rdCount]; rw [if_pos h32]
      clear h32
      go_wp2_with fail
      refine (rfail_set p a c bs (r, q) 3 w2 R2.out (by decide)).mono ?_
      rintro e w3 ⟨rfl, hg3, hE3⟩
      have hpw0 := HPW.out
      have G3 : Hid (w.grownBy w3 (some p)) := grown_trans G2.out hg3
      have XV3 : Hid (w3.heap[w.heap.size]? = some (.cells #[.int .i64 4, .int .u64 0, .string ⟨#[]⟩, .slice none 0 0, .slice none 0 0] 50 (0, 0))) := (hg3.block _ (lt_of_block XV.out) (by simp; omega)).trans XV.out
      have XR3 : Hid (w3.heap[w.heap.size + 1]? = some (.cells #[.int .i64 0, .int .u64 0, .string ⟨#[]⟩, .slice none 0 0, .slice none 0 0] 50 (0, 0))) := (hg3.block _ (lt_of_block XR.out) (by simp; omega)).trans XR.out
      have HE3 : Hid (RErr w3 p q 3) := hE3
      clear hE3 hg3 XV XR hpw0 G2 R2
      have XV := XV3
      have XR := XR3
      clear XV3 XR3
      have hE0 := HE3.out
      obtain ⟨hne, q', hq', sl, i, hb⟩ := hE0
      obtain ⟨y0, y1, y2, y3, g0, g1, g2, g3⟩ := rd4_cells hb
      have hne' : ((3 : Int) == 0) = false := by decide
      have HE : Hid (RErr w3 p 281474976710660 3) := (HE3.out).mono (by have := HB.out; omega)
      obtain ⟨x0, x1, x2, x3, x4, -⟩ := box_cells XV.out
      obtain ⟨z0, z1, z2, z3, z4, f0, f1, f2, f3, f4⟩ := box_cells XR.out
      clear hb hne
      go_wp2_with fail
      refine wp_loop_rounds 1 ?_
      rw [rounds_succ]
      go_wp2_with fail
      refine bodyPost_ret (v := mk 4 0 ⟨#[]⟩ none 0 0 none 0 0) (by simp [results, Try.results58, go_sem, z0, z1, z2, z3, z4]) rfl ?_
      obtain ⟨e1, e2, e3, e4, e5⟩ := five_fin w3 (w.heap.size + 1) (.int .i64 4) (.int .u64 0) (.string ⟨#[]⟩) (.slice none 0 0) (.slice none 0 0)
      generalize (((((w3.setCell ⟨w.heap.size + 1, 0, none⟩ (.int .i64 4)).setCell ⟨w.heap.size + 1, 1, none⟩ (.int .u64 0)).setCell ⟨w.heap.size + 1, 2, none⟩ (.string ⟨#[]⟩)).setCell ⟨w.heap.size + 1, 3, none⟩ (.slice none 0 0)).setCell ⟨w.heap.size + 1, 4, none⟩ (.slice none 0 0)) = W5 at *
      have hpw := HPW.out
      refine ⟨⟨e3.trans (G3.out).os, e4.trans (G3.out).tape, e5.trans (G3.out).output, by have := (G3.out).size; omega, fun k hk hn => (e1 k (by omega)).trans ((G3.out).block k hk hn)⟩, Or.inl ⟨3, HR.out, HE.out.same (e1 p (by omega)), _, rfl, _, _, _, _, _, _, _, _, _, rfl⟩⟩
    · have h32' : decide ((32 : Int) < (o.toNat : Int)) = false := by simp; omega
      have HR : Hid (rdItems n (o :: r, q) = iterE (stepI (rd n)) o.toNat ([], (r, q))) := by show _ = _; simp only [rdItems, rdCount]; rw [if_neg h32]
      have HM : Hid (o.toNat ≤ 32) := by show _ ≤ _; omega
      have HQ : Hid (q + r.length ≤ 281474976710656) := by show _ ≤ _; have := HB.out; simp only [List.length_cons] at this; omega
      clear h32
      generalize o.toNat = M at *
      go_wp2_with fail
      obtain ⟨i0, hi0, hri0, hblk⟩ := R2.out
      refine (rfail_no p _ w2 hblk).mono ?_
      clear hblk hri0 hi0
      rintro e w3 ⟨rfl, hw3⟩
      subst w3
      go_wp2_with fail
      go_loopw [9] (fun i wr => ∃ (m : Nat) (va : Option Addr) (vl vc : Nat), i = .int .i64 m ∧ m ≤ 1000 ∧ Hid (wr.heap[w.heap.size]? = some (.cells #[.int .i64 4, .int .u64 0, .string ⟨#[]⟩, .slice none 0 0, .slice va vl vc] 50 (0, 0))) ∧ Hid (wr.heap[w.heap.size + 1]? = some (.cells #[.int .i64 0, .int .u64 0, .string ⟨#[]⟩, .slice none 0 0, .slice none 0 0] 50 (0, 0))) ∧ Hid (w.grownBy wr (some p)) ∧ Hid (IInv n M (iterE (stepI (rd n)) M ([], (r, q))) p a c bs w wr m (.slice va vl vc))) (fun i _ => 1000 - (intOf i).toNat)
      case atStart => exact ⟨0, none, 0, 0, rfl, by omega, XV.out, XR.out, G2.out, Or.inl ⟨[], (r, q), Nat.zero_le _, rfl, rfl, R2.out, HQ.out, _, OwnL.nil _ _, fun b hb => hb.elim⟩⟩
      case round =>
        obtain ⟨m, va, vl, vc, rfl, hm1000, XV, XR, HG, HIN⟩ := hrel
        obtain ⟨x0, x1, x2, x3, x4, h0, h1, h2, h3, h4⟩ := box_cells XV.out
        obtain ⟨z0, z1, z2, z3, z4, f0, f1, f2, f3, f4⟩ := box_cells XR.out
        rcases HIN.out with ⟨acc, s, hmM, hacc, hit, hA, hsum, H, hL, hH⟩ | ⟨er, hit, hE⟩
        · obtain ⟨ii, hii, hsi, hblk⟩ := hA
          obtain ⟨y0, y1, y2, y3, g0, g1, g2, g3⟩ := rd4_cells hblk
          have RA : Hid (RAt wr p a c bs s) := ⟨ii, hii, hsi, hblk⟩
          have HIT : Hid (iterE (stepI (rd n)) M ([], (r, q)) = iterE (stepI (rd n)) (M - m) (acc, s)) := hit
          have HSM : Hid (s.2 + s.1.length ≤ 281474976710656) := hsum
          have HL : Hid (OwnL wr n (.slice va vl vc) acc H) := hL
          have HH : Hid (∀ b, H b → w.heap.size + 2 ≤ b ∧ b < wr.heap.size) := hH
          have HAC : Hid (acc.length = m) := hacc
          clear hblk hsi hii hit hsum hL hH HIN hacc
          by_cases hlt : m < M
          · have hm1 : (m : Int) < (M : Int) := by omega
            have HMk : Hid (M - m = (M - (m + 1)) + 1) := by show _ = _; omega
            have hpw := HPW.out
            have HCP : Hid (Calls Try.prog 40 #[.pointer (some ⟨p, 0, none⟩), .int .i64 (d + 1)] wr.drew (VPost n (rd n s) p a c bs wr.drew)) := HV.out s p a c bs (d + 1) wr.drew (RA.out.same rfl) (by
              have := HO.out.grown4 HRD.out HG.out
              exact this.below (Below_drewN _ _ 1)) HSM.out (by omega) HD.out
            cases hrd : rd n s with
            | error er =>
              rw [hrd] at HCP
              have HRE : Hid (iterE (stepI (rd n)) M ([], (r, q)) = .error er) := by
                show _ = _
                rw [HIT.out, HMk.out]
                simp only [iterE, stepI, hrd]
              have HC2 : Hid (Calls Try.prog 40 #[.pointer (some ⟨p, 0, none⟩), .int .i64 (d + 1)] wr.drew fun e w3 => ∃ y, e = .returned y ∧ (wr.grownBy w3 (some p) ∧ RErr w3 p 281474976710660 er ∧ Some5 y)) := HCP.out.mono fun e w3 hp => by
                obtain ⟨hg, ⟨er', h1, h2, y, h3, h4⟩ | ⟨u', s'', h1, _⟩⟩ := hp
                · cases h1
                  exact ⟨y, h3, ⟨hg.os, hg.tape, hg.output, hg.size, hg.block⟩, h2, h4⟩
                · cases h1
              obtain ⟨xs, G, hrow, -, hrH, -⟩ := HL.out
              have HRow : Hid (∀ w', wr.grownBy w' (some p) → w'.ownsRow 0 50 5 (.slice va vl vc) acc.length xs) := fun w' hg => ownsRow_same hrow fun b hb => hg.block b (hrow.lt b hb).2 fun e => by
                simp only [Option.some.injEq] at e
                have := (HH.out b (hrH b hb)).1
                omega
              have HRH : Hid (∀ b, (Value.slice va vl vc).ownBlock = some b → H b) := hrH
              obtain ⟨i9, hi9, hz0, hz1, hz2⟩ := info_parts Try.infoVal
              have hlen32 : (acc.length + 1) * 80 ≤ 140737488355328 := by have := HAC.out; omega
              have hlm : acc.length + 1 ≤ maxLen := by unfold maxLen; omega
              have HXV : Hid (∀ w', wr.grownBy w' (some p) → w'.heap[w.heap.size]? = some (.cells #[.int .i64 4, .int .u64 0, .string ⟨#[]⟩, .slice none 0 0, .slice va vl vc] 50 (0, 0))) := fun w' hg => (hg.block _ (lt_of_block XV.out) (by simp; omega)).trans XV.out
              clear hrd hlt hrow hrH
              go_wp2_with fail
              go_region_law (first
                | (refine step_call2 rfl 40 (by intros; go_simp) _ _ _ rfl (.pointer (some ⟨p, 0, none⟩)) (.int .i64 (d + 1)) (by first | (simp [Act.eval]; done) | simp [Act.eval, Act.put]) (by first | (simp [Act.eval]; done) | simp [Act.eval, Act.put]) _ HC2.out ?_; intro y w3 hR; obtain ⟨hg3, hE3, k5, b5, t5, ka5, kl5, kc5, ia5, il5, ic5, rfl⟩ := hR; have c4 := (box_cells (HXV.out w3 hg3)).2.2.2.2.1; have C4 : ∀ o, (w3.alloc o).cell? ⟨w.heap.size, 4, none⟩ = some (.slice va vl vc) := fun o => keepc (below_one _ _) _ _ c4)
                | (refine step_append rfl _ _ 48 rfl 0 50 i9 _ 5 80 Try.underlying48 hi9 hz0 hz1 hz2 rfl (by decide) (.slice va vl vc) acc.length xs (by first | (simp [Act.eval]; done) | simp [Act.eval, Act.put]) (HRow.out _ (grown_below hg3 (below_one _ _))) ⟨w3.heap.size, 0, none⟩ 1 1 [.int .i64 k5, .int .u64 b5, .string t5, .slice ka5 kl5 kc5, .slice ia5 il5 ic5] (by first | (simp [Act.eval]; done) | simp [Act.eval, Act.put]) rfl (fun j u hj => newCells w3 _ _ j u (by simpa using hj)) (by intro u hu; simp at hu; rcases hu with rfl | rfl | rfl | rfl | rfl <;> rfl) hlm hlen32 (Nat.zero_le _) ?_; intro v' w5 k1 k2 k3; obtain ⟨va', vc', rfl⟩ := slice_of_own k1; have b5' := (k2.block w.heap.size (by have := lt_of_block (HXV.out w3 hg3); simp; omega) (fun e => by have := (HH.out _ (HRH.out _ e.symm)).1; omega)).trans ((Below.heap_alloc _ _ _ (lt_of_block (HXV.out w3 hg3))).trans (HXV.out w3 hg3)); obtain ⟨t0, t1, t2, t3, t4, s0, s1, s2, s3, s4⟩ := box_cells b5'))
              all_goals
                have kb5 : (w5.setCell ⟨w.heap.size, 4, none⟩ (.slice va' (acc.length + 1) vc')).heap[w.heap.size]? = some (.cells #[.int .i64 4, .int .u64 0, .string ⟨#[]⟩, .slice none 0 0, .slice va' (acc.length + 1) vc'] 50 (0, 0)) := by
                  rw [set_one_cell (o := 4) b5']
                  simp
                have hwr2 : w.heap.size + 2 ≤ wr.heap.size := lt_of_block XR.out
                obtain ⟨i1, i2, i3⟩ := items_keep hpw HG.out hg3 hwr2 HH.out HRH.out k2 (.slice va' (acc.length + 1) vc')
                have KB : Hid (_ = _) := kb5
                have XR6 : Hid ((w5.setCell ⟨w.heap.size, 4, none⟩ (.slice va' (acc.length + 1) vc')).heap[w.heap.size + 1]? = some (.cells #[.int .i64 0, .int .u64 0, .string ⟨#[]⟩, .slice none 0 0, .slice none 0 0] 50 (0, 0))) := (i1 _ (lt_of_block XR.out) (by omega) (by omega) (fun h => by have := (HH.out _ h).1; omega)).trans XR.out
                have G6 : Hid (w.grownBy _ (some p)) := i3
                have RE6 : Hid (RErr (w5.setCell ⟨w.heap.size, 4, none⟩ (.slice va' (acc.length + 1) vc')) p 281474976710660 er) := hE3.same i2
                clear kb5 i1 i2 i3 k1 k2 k3 hE3 hg3 b5' t0 t1 t2 t3 t4 s0 s1 s2 s3 s4
                generalize w5.setCell ⟨w.heap.size, 4, none⟩ (.slice va' (acc.length + 1) vc') = W6 at *
                go_wp2_with fail
                go_roundw
                case rel => exact ⟨m + 1, va', acc.length + 1, vc', by go_num, by have := HM.out; omega, KB.out, XR6.out, G6.out, Or.inr ⟨er, HRE.out, RE6.out⟩⟩
                case measure => simp [intOf]; omega
            | ok us =>
              obtain ⟨u, s'⟩ := us
              rw [hrd] at HCP
              have HRE : Hid (iterE (stepI (rd n)) M ([], (r, q)) = iterE (stepI (rd n)) (M - (m + 1)) (acc ++ [u], s')) := by
                show _ = _
                rw [HIT.out, HMk.out]
                simp only [iterE, stepI, hrd]
              have HSU : Hid (s'.2 + s'.1.length ≤ 281474976710656) := Nat.le_trans (rd_sum hrd).2 HSM.out
              have HC2 : Hid (Calls Try.prog 40 #[.pointer (some ⟨p, 0, none⟩), .int .i64 (d + 1)] wr.drew fun e w3 => ∃ y, e = .returned y ∧ (wr.grownBy w3 (some p) ∧ RAt w3 p a c bs s' ∧ ∃ F, Own w3 n y u F ∧ ∀ b, F b → wr.heap.size ≤ b ∧ b < w3.heap.size)) := HCP.out.mono fun e w3 hp => by
                obtain ⟨hg, ⟨er, h1, _⟩ | ⟨u', s'', h1, h2, y, F, h3, h4, h5⟩⟩ := hp
                · cases h1
                · cases h1
                  exact ⟨y, h3, ⟨hg.os, hg.tape, hg.output, hg.size, hg.block⟩, h2, F, h4, h5⟩
              have hlen32 : (acc.length + 1) * 80 ≤ 140737488355328 := by have := HAC.out; omega
              have HHL : Hid (∀ w', wr.grownBy w' (some p) → OwnL w' n (.slice va vl vc) acc H) := fun w' hg => HL.out.same fun b hb => hg.block b (HH.out b hb).2 fun e => by
                simp only [Option.some.injEq] at e
                have := (HH.out b hb).1
                omega
              have HXV : Hid (∀ w', wr.grownBy w' (some p) → w'.heap[w.heap.size]? = some (.cells #[.int .i64 4, .int .u64 0, .string ⟨#[]⟩, .slice none 0 0, .slice va vl vc] 50 (0, 0))) := fun w' hg => (hg.block _ (lt_of_block XV.out) (by simp; omega)).trans XV.out
              clear hrd hlt
              go_wp2_with fail
              go_region_law (first
                | (refine step_call2 rfl 40 (by intros; go_simp) _ _ _ rfl (.pointer (some ⟨p, 0, none⟩)) (.int .i64 (d + 1)) (by first | (simp [Act.eval]; done) | simp [Act.eval, Act.put]) (by first | (simp [Act.eval]; done) | simp [Act.eval, Act.put]) _ HC2.out ?_; intro y w3 hR; obtain ⟨hg3, hA3, F, hown, hF⟩ := hR; obtain ⟨k5, b5, t5, ka5, kl5, kc5, ia5, il5, ic5, rfl⟩ := Lay.shape n (Own.lay n hown); have c4 := (box_cells (HXV.out w3 hg3)).2.2.2.2.1; have C4 : ∀ o, (w3.alloc o).cell? ⟨w.heap.size, 4, none⟩ = some (.slice va vl vc) := fun o => keepc (below_one _ _) _ _ c4)
                | (refine step_push rfl _ _ rfl (.slice va vl vc) acc H (by first | (simp [Act.eval]; done) | simp [Act.eval, Act.put]) (HHL.out _ (grown_below hg3 (below_one _ _))) u F (.int .i64 k5) (.int .u64 b5) (.string t5) (.slice ka5 kl5 kc5) (.slice ia5 il5 ic5) (hown.same n fun b hb => Below.heap_alloc _ _ _ (hF b hb).2) (fun b hb hb' => by have := (hF b hb).1; have := (HH.out b hb').2; omega) (fun b hb => by have := (HH.out b hb).2; have := hg3.size; simp; omega) (fun b hb => by have := (hF b hb).2; simp; omega) ⟨w3.heap.size, 0, none⟩ 1 (by first | (simp [Act.eval]; done) | simp [Act.eval, Act.put]) (fun j u hj => newCells w3 _ _ j u (by simpa using hj)) hlen32 ?_; intro v' w5 k1 k2 k3; obtain ⟨va', vc', rfl⟩ := OwnL.shape k1; have b5' := (k2.block w.heap.size (by have := lt_of_block (HXV.out w3 hg3); simp; omega) (fun e => by have := (HH.out _ ((HL.out).lt _ e.symm).1).1; omega)).trans ((Below.heap_alloc _ _ _ (lt_of_block (HXV.out w3 hg3))).trans (HXV.out w3 hg3)); obtain ⟨t0, t1, t2, t3, t4, s0, s1, s2, s3, s4⟩ := box_cells b5'))
              all_goals
                have hlen' : (acc ++ [u]).length = acc.length + 1 := by simp
                rw [hlen'] at k1 k3
                have kb5 : (w5.setCell ⟨w.heap.size, 4, none⟩ (.slice va' (acc.length + 1) vc')).heap[w.heap.size]? = some (.cells #[.int .i64 4, .int .u64 0, .string ⟨#[]⟩, .slice none 0 0, .slice va' (acc.length + 1) vc'] 50 (0, 0)) := by
                  rw [set_one_cell (o := 4) b5']
                  simp
                have hwr2 : w.heap.size + 2 ≤ wr.heap.size := lt_of_block XR.out
                obtain ⟨i1, i2, i3, i4⟩ := items_next hpw HG.out hg3 hwr2 HH.out (fun b hb => (HL.out.lt b hb).1) hF k1 k2 k3 (.slice va' (acc.length + 1) vc')
                have KB : Hid (_ = _) := kb5
                have XR6 : Hid ((w5.setCell ⟨w.heap.size, 4, none⟩ (.slice va' (acc.length + 1) vc')).heap[w.heap.size + 1]? = some (.cells #[.int .i64 0, .int .u64 0, .string ⟨#[]⟩, .slice none 0 0, .slice none 0 0] 50 (0, 0))) := (i1 _ (lt_of_block XR.out) (by omega) (by omega) (fun h => by have := (HH.out _ h).1; omega)).trans XR.out
                have G6 : Hid (w.grownBy _ (some p)) := i3
                have RA6 : Hid (RAt (w5.setCell ⟨w.heap.size, 4, none⟩ (.slice va' (acc.length + 1) vc')) p a c bs s') := hA3.same i2
                have OL6 : Hid (∃ H', OwnL (w5.setCell ⟨w.heap.size, 4, none⟩ (.slice va' (acc.length + 1) vc')) n (.slice va' (acc.length + 1) vc') (acc ++ [u]) H' ∧ _) := i4
                have HA6 : Hid ((acc ++ [u]).length = m + 1) := by show _ = _; rw [List.length_append, HAC.out]; rfl
                clear kb5 i1 i2 i3 i4 k1 k2 k3 hown hF hA3 hg3 b5' t0 t1 t2 t3 t4 s0 s1 s2 s3 s4
                generalize w5.setCell ⟨w.heap.size, 4, none⟩ (.slice va' (acc.length + 1) vc') = W6 at *
                generalize acc ++ [u] = acc' at *
                go_wp2_with fail
                go_roundw
                case rel => exact ⟨m + 1, va', acc.length + 1, vc', by go_num, by omega, KB.out, XR6.out, G6.out, Or.inl ⟨acc', s', by omega, HA6.out, HRE.out, RA6.out, HSU.out, OL6.out⟩⟩
                case measure => simp [intOf]; omega
          · have hme : m = M := by omega
            subst hme
            have hnn : ¬ (m : Int) < (m : Int) := by omega
            have HRE : Hid (rdItems n (o :: r, q) = .ok (acc, s)) := by
              show _ = _
              rw [HR.out, HIT.out, Nat.sub_self]
              rfl
            go_wp2_with fail
            refine bodyPost_ret (v := mk 4 0 ⟨#[]⟩ none 0 0 va vl vc) (by simp [results, Try.results58, go_sem, z0, z1, z2, z3, z4]) rfl ?_
            obtain ⟨e1, e2, e3, e4, e5⟩ := five_fin wr (w.heap.size + 1) (.int .i64 4) (.int .u64 0) (.string ⟨#[]⟩) (.slice none 0 0) (.slice va vl vc)
            generalize (((((wr.setCell ⟨w.heap.size + 1, 0, none⟩ (.int .i64 4)).setCell ⟨w.heap.size + 1, 1, none⟩ (.int .u64 0)).setCell ⟨w.heap.size + 1, 2, none⟩ (.string ⟨#[]⟩)).setCell ⟨w.heap.size + 1, 3, none⟩ (.slice none 0 0)).setCell ⟨w.heap.size + 1, 4, none⟩ (.slice va vl vc)) = W5 at *
            have hpw := HPW.out
            have hgr : w.grownBy W5 (some p) := ⟨e3.trans HG.out.os, e4.trans HG.out.tape, e5.trans HG.out.output, by have := HG.out.size; omega, fun k hk hn => (e1 k (by omega)).trans (HG.out.block k hk hn)⟩
            obtain ⟨a', c', ev⟩ := HL.out.shape
            simp only [Value.slice.injEq] at ev
            obtain ⟨rfl, rfl, rfl⟩ := ev
            exact ⟨hgr, Or.inr ⟨acc, s.1, s.2, HRE.out, RA.out.same (e1 p (by omega)), va, vc, rfl, H, HL.out.same fun b hb => e1 b (by have := (HH.out b hb).1; omega), fun b hb => by have := HH.out b hb; omega⟩⟩
        · have hE0 := hE
          obtain ⟨hne, q', hq', sl, i, hbk⟩ := hE0
          obtain ⟨y0, y1, y2, y3, g0, g1, g2, g3⟩ := rd4_cells hbk
          have hne' : (er == 0) = false := by simpa using hne
          have HE : Hid (RErr wr p 281474976710660 er) := hE
          have HRE : Hid (rdItems n (o :: r, q) = .error er) := by show _ = _; rw [HR.out, hit]
          clear hbk hne hE hit HIN
          by_cases hlt : (m : Int) < (M : Int)
          all_goals
            go_wp2_with fail
            refine bodyPost_ret (v := mk 4 0 ⟨#[]⟩ none 0 0 va vl vc) (by simp [results, Try.results58, go_sem, z0, z1, z2, z3, z4]) rfl ?_
            obtain ⟨e1, e2, e3, e4, e5⟩ := five_fin wr (w.heap.size + 1) (.int .i64 4) (.int .u64 0) (.string ⟨#[]⟩) (.slice none 0 0) (.slice va vl vc)
            generalize (((((wr.setCell ⟨w.heap.size + 1, 0, none⟩ (.int .i64 4)).setCell ⟨w.heap.size + 1, 1, none⟩ (.int .u64 0)).setCell ⟨w.heap.size + 1, 2, none⟩ (.string ⟨#[]⟩)).setCell ⟨w.heap.size + 1, 3, none⟩ (.slice none 0 0)).setCell ⟨w.heap.size + 1, 4, none⟩ (.slice va vl vc)) = W5 at *
            have hpw := HPW.out
            have hgr : w.grownBy W5 (some p) := ⟨e3.trans HG.out.os, e4.trans HG.out.tape, e5.trans HG.out.output, by have := HG.out.size; omega, fun k hk hn => (e1 k (by omega)).trans (HG.out.block k hk hn)⟩
            exact ⟨hgr, Or.inl ⟨er, HRE.out, HE.out.same (e1 p (by omega)), _, rfl, _, _, _, _, _, _, _, _, _, rfl⟩⟩
end Go.Proofs.Ytfdbhojghkdlkaa
