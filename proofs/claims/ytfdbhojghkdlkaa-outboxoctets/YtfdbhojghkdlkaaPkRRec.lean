/-
  The page's reader: fields of a record.
-/
import Derived.Test.YtfdbhojghkdlkaaJ19
import Derived.Deep.CutRange
namespace Go.Proofs.Ytfdbhojghkdlkaa
open Go.ChangeShapes Go.WideShapes Go.ChangeAt Go.RowKit
open Fl

/-- What the page's reading of fields leaves. -/
def RFPost (n : Nat) (x : Except Int (List ByteArray × List (V n) × RS)) (p : Nat) (a : Option Addr) (c : Nat) (bs : List UInt8) (w : World) (e : Ending) (w' : World) : Prop :=
  w.grownBy w' (some p) ∧
      ((∃ er, x = .error er ∧ RErr w' p 281474976710660 er ∧ ∃ y, e = .returned y ∧ Some5 y) ∨ (∃ ks its s', x = .ok (ks, its, s') ∧ RAt w' p a c bs s' ∧ ∃ ka kc ia ic H, e = .returned (mk 5 0 ⟨#[]⟩ ka ks.length kc ia its.length ic) ∧ OwnK w' (.slice ka ks.length kc) ks ∧ OwnL w' n (.slice ia its.length ic) its H ∧ (∀ b, (Value.slice ka ks.length kc).ownBlock = some b → ¬ H b) ∧ (∀ k ∈ ks, k.size ≤ 16) ∧ ks.length ≤ 32 ∧ its.length ≤ 32 ∧ (∀ b, H b → w.heap.size ≤ b ∧ b < w'.heap.size) ∧ ∀ b, (Value.slice ka ks.length kc).ownBlock = some b → w.heap.size ≤ b ∧ b < w'.heap.size))

set_option maxRecDepth 100000 in
set_option maxHeartbeats 6400000 in
theorem rfields_any (n : Nat) (hv : ValAt n) (s : RS) (p : Nat) (a : Option Addr) (c : Nat) (bs : List UInt8) (d : Int) (w : World) (hr : RAt w p a c bs s) (ho : Oct w a c bs) (hb : s.2 + s.1.length ≤ 281474976710656) (hd1 : 1 ≤ d) (hd : d + 1 + n = 9) :
    Calls Try.prog 58 #[.pointer (some ⟨p, 0, none⟩), mk 5 0 ⟨#[]⟩ none 0 0 none 0 0, .int .i64 d] w (RFPost n (rdFields n s) p a c bs w) := by
  obtain ⟨l, q⟩ := s
  have HV : Hid (ValAt n) := hv
  have HRD : Hid (RAt w p a c bs (l, q)) := hr
  have HO : Hid (Oct w a c bs) := ho
  have hd8 : d ≤ 8 := by omega
  have hwrap : IntKind.i64.wrap (d + 1) = d + 1 := by simp [IntKind.wrap, IntKind.bits, IntKind.signed]; omega
  have HD : Hid (d + 1 + (n : Int) = 9) := hd
  have HPW : Hid (p < w.heap.size) := by obtain ⟨i, _, _, h⟩ := hr; exact lt_of_block h
  have HB : Hid (q + l.length ≤ 281474976710656) := hb
  clear hr ho hv hd hb
  go_enter Try.func58, Try.ntmps58
  go_wp2_with fail
  have B1 : Hid (Below w.heap.size w ((w.alloc (.cells #[.int .i64 5, .int .u64 0, .string ⟨#[]⟩, .slice none 0 0, .slice none 0 0] 50)).alloc (.cells #[.int .i64 0, .int .u64 0, .string ⟨#[]⟩, .slice none 0 0, .slice none 0 0] 50))) := below_two _ _ _
  have XV1 : Hid (((w.alloc (.cells #[.int .i64 5, .int .u64 0, .string ⟨#[]⟩, .slice none 0 0, .slice none 0 0] 50)).alloc (.cells #[.int .i64 0, .int .u64 0, .string ⟨#[]⟩, .slice none 0 0, .slice none 0 0] 50)).heap[w.heap.size]? = some (.cells #[.int .i64 5, .int .u64 0, .string ⟨#[]⟩, .slice none 0 0, .slice none 0 0] 50 (0, 0))) := (Below.heap_alloc _ _ _ (by simp)).trans (heap_alloc_new _ _)
  have XR1 : Hid (((w.alloc (.cells #[.int .i64 5, .int .u64 0, .string ⟨#[]⟩, .slice none 0 0, .slice none 0 0] 50)).alloc (.cells #[.int .i64 0, .int .u64 0, .string ⟨#[]⟩, .slice none 0 0, .slice none 0 0] 50)).heap[w.heap.size + 1]? = some (.cells #[.int .i64 0, .int .u64 0, .string ⟨#[]⟩, .slice none 0 0, .slice none 0 0] 50 (0, 0))) := heap_new2 _ _ _
  generalize (w.alloc (.cells #[.int .i64 5, .int .u64 0, .string ⟨#[]⟩, .slice none 0 0, .slice none 0 0] 50)).alloc (.cells #[.int .i64 0, .int .u64 0, .string ⟨#[]⟩, .slice none 0 0, .slice none 0 0] 50) = W1 at *
  have R1 : Hid (RAt W1 p a c bs (l, q)) := HRD.out.same (B1.out.block _ HPW.out)
  have HW1 : Hid (w.heap.size + 2 ≤ W1.heap.size) := lt_of_block XR1.out
  refine (roctet_any p a c bs l q W1 R1.out (HO.out.below B1.out)).mono ?_
  rintro e w2 ⟨hg2, ⟨rfl, rfl, hE⟩ | ⟨o, r, rfl, rfl, hA⟩⟩
  · have hpw0 := HPW.out
    have G2 : Hid (w.grownBy w2 (some p)) := grown_trans (grown_of_below B1.out) hg2
    have XV : Hid (w2.heap[w.heap.size]? = some (.cells #[.int .i64 5, .int .u64 0, .string ⟨#[]⟩, .slice none 0 0, .slice none 0 0] 50 (0, 0))) := (hg2.block _ (lt_of_block XV1.out) (by simp; omega)).trans XV1.out
    have XR : Hid (w2.heap[w.heap.size + 1]? = some (.cells #[.int .i64 0, .int .u64 0, .string ⟨#[]⟩, .slice none 0 0, .slice none 0 0] 50 (0, 0))) := (hg2.block _ (lt_of_block XR1.out) (by simp; omega)).trans XR1.out
    have HR : Hid (rdFields n ([], q) = .error 8) := rfl
    have HE8 : Hid (RErr w2 p q 8) := hE
    clear hE hg2 XV1 XR1 R1 B1 hpw0
    go_wp2_with fail
    refine (rfail_err p q _ 8 _ w2 HE8.out).mono ?_
    rintro e w3 ⟨rfl, hw3⟩
    subst w3
    have hE0 := HE8.out
    obtain ⟨hne, q', hq', sl, i, hb⟩ := hE0
    obtain ⟨y0, y1, y2, y3, g0, g1, g2, g3⟩ := rd4_cells hb
    have hne' : ((8 : Int) == 0) = false := by decide
    have HE : Hid (RErr w2 p 281474976710660 8) := (HE8.out).mono (by have := HB.out; omega)
    obtain ⟨x0, x1, x2, x3, x4, -⟩ := box_cells XV.out
    obtain ⟨z0, z1, z2, z3, z4, f0, f1, f2, f3, f4⟩ := box_cells XR.out
    clear hb hne
    go_wp2_with fail
    refine wp_loop_rounds 1 ?_
    rw [rounds_succ]
    go_wp2_with fail
    refine bodyPost_ret (v := mk 5 0 ⟨#[]⟩ none 0 0 none 0 0) (by simp [results, Try.results58, go_sem, z0, z1, z2, z3, z4]) rfl ?_
    obtain ⟨e1, e2, e3, e4, e5⟩ := five_fin w2 (w.heap.size + 1) (.int .i64 5) (.int .u64 0) (.string ⟨#[]⟩) (.slice none 0 0) (.slice none 0 0)
    generalize (((((w2.setCell ⟨w.heap.size + 1, 0, none⟩ (.int .i64 5)).setCell ⟨w.heap.size + 1, 1, none⟩ (.int .u64 0)).setCell ⟨w.heap.size + 1, 2, none⟩ (.string ⟨#[]⟩)).setCell ⟨w.heap.size + 1, 3, none⟩ (.slice none 0 0)).setCell ⟨w.heap.size + 1, 4, none⟩ (.slice none 0 0)) = W5 at *
    have hpw := HPW.out
    refine ⟨⟨e3.trans (G2.out).os, e4.trans (G2.out).tape, e5.trans (G2.out).output, by have := (G2.out).size; omega, fun k hk hn => (e1 k (by omega)).trans ((G2.out).block k hk hn)⟩, Or.inl ⟨8, HR.out, HE.out.same (e1 p (by omega)), _, rfl, _, _, _, _, _, _, _, _, _, rfl⟩⟩
  · have hpw0 := HPW.out
    have h256 := o.toNat_lt
    have G2 : Hid (w.grownBy w2 (some p)) := grown_trans (grown_of_below B1.out) hg2
    have XV : Hid (w2.heap[w.heap.size]? = some (.cells #[.int .i64 5, .int .u64 0, .string ⟨#[]⟩, .slice none 0 0, .slice none 0 0] 50 (0, 0))) := (hg2.block _ (lt_of_block XV1.out) (by simp; omega)).trans XV1.out
    have XR : Hid (w2.heap[w.heap.size + 1]? = some (.cells #[.int .i64 0, .int .u64 0, .string ⟨#[]⟩, .slice none 0 0, .slice none 0 0] 50 (0, 0))) := (hg2.block _ (lt_of_block XR1.out) (by simp; omega)).trans XR1.out
    have R2 : Hid (RAt w2 p a c bs (r, q)) := hA
    have HW2 : Hid (w.heap.size + 2 ≤ w2.heap.size) := Nat.le_trans HW1.out hg2.size
    clear hA hg2 XV1 XR1 R1 B1 hpw0 HW1
    by_cases h32 : 32 < o.toNat
    · have h32' : (32 : Int) < (o.toNat : Int) := by omega
      have HR : Hid (rdFields n (o :: r, q) = .error 3) := by show _ = _; simp only [rdFields, rdCount]; rw [if_pos h32]
      clear h32
      go_wp2_with fail
      refine (rfail_set p a c bs (r, q) 3 w2 R2.out (by decide)).mono ?_
      rintro e w3 ⟨rfl, hg3, hE3⟩
      have hpw0 := HPW.out
      have G3 : Hid (w.grownBy w3 (some p)) := grown_trans G2.out hg3
      have XV3 : Hid (w3.heap[w.heap.size]? = some (.cells #[.int .i64 5, .int .u64 0, .string ⟨#[]⟩, .slice none 0 0, .slice none 0 0] 50 (0, 0))) := (hg3.block _ (lt_of_block XV.out) (by simp; omega)).trans XV.out
      have XR3 : Hid (w3.heap[w.heap.size + 1]? = some (.cells #[.int .i64 0, .int .u64 0, .string ⟨#[]⟩, .slice none 0 0, .slice none 0 0] 50 (0, 0))) := (hg3.block _ (lt_of_block XR.out) (by simp; omega)).trans XR.out
      have HE3 : Hid (RErr w3 p q 3) := hE3
      clear hE3 hg3 XV XR hpw0 G2 R2
      have XV := XV3
      have XR := XR3
      clear XV3 XR3
      have hE0 := HE3.out
      obtain ⟨hne, q', hq', sl, i, hb⟩ := hE0
      obtain ⟨y0, y1, y2, y3, g0, g1, g2, g3⟩ := rd4_cells hb
      have hne' : ((3 : Int) == 0) = false := by decide
      have HE : Hid (RErr w3 p 281474976710660 3) := (HE3.out).mono (by have := HB.out; omega)
      obtain ⟨x0, x1, x2, x3, x4, -⟩ := box_cells XV.out
      obtain ⟨z0, z1, z2, z3, z4, f0, f1, f2, f3, f4⟩ := box_cells XR.out
      clear hb hne
      go_wp2_with fail
      refine wp_loop_rounds 1 ?_
      rw [rounds_succ]
      go_wp2_with fail
      refine bodyPost_ret (v := mk 5 0 ⟨#[]⟩ none 0 0 none 0 0) (by simp [results, Try.results58, go_sem, z0, z1, z2, z3, z4]) rfl ?_
      obtain ⟨e1, e2, e3, e4, e5⟩ := five_fin w3 (w.heap.size + 1) (.int .i64 5) (.int .u64 0) (.string ⟨#[]⟩) (.slice none 0 0) (.slice none 0 0)
      generalize (((((w3.setCell ⟨w.heap.size + 1, 0, none⟩ (.int .i64 5)).setCell ⟨w.heap.size + 1, 1, none⟩ (.int .u64 0)).setCell ⟨w.heap.size + 1, 2, none⟩ (.string ⟨#[]⟩)).setCell ⟨w.heap.size + 1, 3, none⟩ (.slice none 0 0)).setCell ⟨w.heap.size + 1, 4, none⟩ (.slice none 0 0)) = W5 at *
      have hpw := HPW.out
      refine ⟨⟨e3.trans (G3.out).os, e4.trans (G3.out).tape, e5.trans (G3.out).output, by have := (G3.out).size; omega, fun k hk hn => (e1 k (by omega)).trans ((G3.out).block k hk hn)⟩, Or.inl ⟨3, HR.out, HE.out.same (e1 p (by omega)), _, rfl, _, _, _, _, _, _, _, _, _, rfl⟩⟩
    · have h32' : decide ((32 : Int) < (o.toNat : Int)) = false := by simp; omega
      have HR : Hid (rdFields n (o :: r, q) = iterE (stepF (rd n)) o.toNat ([], [], (r, q))) := by show _ = _; simp only [rdFields, rdCount]; rw [if_neg h32]
      have HM : Hid (o.toNat ≤ 32) := by show _ ≤ _; omega
      have HQ : Hid (q + r.length ≤ 281474976710656) := by show _ ≤ _; have := HB.out; simp only [List.length_cons] at this; omega
      clear h32
      generalize o.toNat = M at *
      go_wp2_with fail
      obtain ⟨i0, hi0, hri0, hblk⟩ := R2.out
      refine (rfail_no p _ w2 hblk).mono ?_
      clear hblk hri0 hi0
      rintro e w3 ⟨rfl, hw3⟩
      subst w3
      go_wp2_with fail
      go_loopg [8, 9] 1000 (fun k s8 s9 wr => ∃ (m : Nat) (last : ByteArray) (ka : Option Addr) (kl kc : Nat) (va : Option Addr) (vl vc : Nat), s8 = .string last ∧ s9 = .int .i64 m ∧ m + k = 1000 ∧ Hid (FInv n M (iterE (stepF (rd n)) M ([], [], (r, q))) p a c bs w wr m last (.slice ka kl kc) (.slice va vl vc)))
      case atStart => exact ⟨0, ⟨#[]⟩, none, 0, 0, none, 0, 0, rfl, rfl, by omega, Or.inl ⟨[], [], (r, q), [], _, Nat.zero_le _, rfl, rfl, by simp, by simp, rfl, R2.out, HQ.out, ⟨XV.out, XR.out, G2.out, HPW.out, OwnK.nil _, fun b hb => by simp [Value.ownBlock] at hb, World.ownsRow_nil _ _ _ _, fun b hb => by simp [Value.ownBlock] at hb⟩, OwnL.nil _ _, fun b hb => hb.elim, fun b _ hb => hb.elim⟩⟩
      case round =>
        obtain ⟨m, last, ka, kl, kc, va, vl, vc, rfl, rfl, hmk, HIN⟩ := hrel
        rcases HIN.out with ⟨ks, acc, s, xs, H, hmM, hacc, hksl, hks, hlast, hit, hA, hsum, hMem, hL, hH, hkH⟩ | ⟨er, ks, xs, L, hit, hE, hMem⟩
        · obtain ⟨ii, hii, hsi, hblk⟩ := hA
          obtain ⟨y0, y1, y2, y3, g0, g1, g2, g3⟩ := rd4_cells hblk
          have RA : Hid (RAt wr p a c bs s) := ⟨ii, hii, hsi, hblk⟩
          have HIT : Hid (iterE (stepF (rd n)) M ([], [], (r, q)) = iterE (stepF (rd n)) (M - m) (ks, acc, s)) := hit
          have HSM : Hid (s.2 + s.1.length ≤ 281474976710656) := hsum
          have HL : Hid (OwnL wr n (.slice va vl vc) acc H) := hL
          have HH : Hid (∀ b, H b → w.heap.size + 2 ≤ b ∧ b < wr.heap.size) := hH
          have HKH : Hid (∀ b, (Value.slice ka kl kc).ownBlock = some b → ¬ H b) := hkH
          have HAC : Hid (acc.length = m) := hacc
          have HKL : Hid (ks.length = m) := hksl
          have HKS : Hid (∀ k ∈ ks, k.size ≤ 16) := hks
          have HLA : Hid (∀ k, ks.getLast? = some k → k = last) := hlast
          have MM : Hid (Mem w wr p (.slice ka kl kc) (.slice va vl vc) ks m xs) := hMem
          obtain ⟨x0, x1, x2, x3, x4, h0, h1, h2, h3, h4⟩ := box_cells MM.out.box
          obtain ⟨z0, z1, z2, z3, z4, f0, f1, f2, f3, f4⟩ := box_cells MM.out.res
          clear hblk hsi hii hit hsum hL hH HIN hacc hksl hks hlast hMem hkH
          by_cases hlt : m < M
          · have hm1 : (m : Int) < (M : Int) := by omega
            have HMk : Hid (M - m = (M - (m + 1)) + 1) := by show _ = _; omega
            have HLT : Hid (m < M) := hlt
            have HMK : Hid (m + gk = 1000) := hmk
            obtain ⟨ls, qs⟩ := s
            clear hlt hmk
            go_upto_if 32 with fail
            go_cut [8] from 18 to 71 (fun s8 wc => ∃ (last' : ByteArray) (ka' : Option Addr) (kl' kc' : Nat), s8 = .string last' ∧ Hid (KInv n M (iterE (stepF (rd n)) M ([], [], (r, q))) p a c bs w wc m last' (.slice ka' kl' kc') (.slice va vl vc)))
            case first =>
              go_upto_region 8 with fail
              clear x0 x1 x2 x3 x4 h0 h1 h2 h3 h4 z0 z1 z2 z3 z4 f0 f1 f2 f3 f4 y0 y1 y2 y3 g0 g1 g2 g3
              go_cut [10] from 18 to 71 (fun s10 wc => Hid (wr.grownBy wc (some p)) ∧ ((∃ o r, Hid (ls = o :: r) ∧ s10 = .int .i64 (o.toNat : Int) ∧ Hid (RAt wc p a c bs (r, qs))) ∨ (Hid (rdText 1 16 ls = .error 8) ∧ s10 = .int .i64 0 ∧ Hid (RErr wc p 281474976710658 8))))
              case first =>
                go_wp2_with fail
                refine (roctet_any p a c bs ls qs wr RA.out (HO.out.grown4 HRD.out MM.out.grown)).mono ?_
                rintro e w3 ⟨hg3, ⟨hl, rfl, hE⟩ | ⟨o', r', hl, rfl, hA⟩⟩
                · have X1 : Hid (wr.grownBy w3 (some p)) := hg3
                  have X2 : Hid (RErr w3 p 281474976710658 8) := hE.mono (by have := HSM.out; (try simp only at this); omega)
                  have X3 : Hid (rdText 1 16 ls = .error 8) := by show _ = _; rw [hl]; rfl
                  clear hg3 hE hl
                  go_wp2_with fail
                  go_meet
                  case rel => exact ⟨X1.out, Or.inr ⟨X3.out, rfl, X2.out⟩⟩
                · have X1 : Hid (wr.grownBy w3 (some p)) := hg3
                  have X2 : Hid (RAt w3 p a c bs (r', qs)) := hA
                  have X3 : Hid (ls = o' :: r') := hl
                  clear hg3 hA hl
                  go_wp2_with fail
                  go_meet
                  case rel => exact ⟨X1.out, Or.inl ⟨o', r', X3.out, rfl, X2.out⟩⟩
              case rest =>
                obtain ⟨X1, hcut⟩ := hcut
                go_upto_region 9 with fail
                go_cut [10] from 18 to 71 (fun s10 wd => Hid (wr.grownBy wd (some p)) ∧ ((∃ o r, Hid (ls = o :: r) ∧ Hid (¬ (o.toNat < 1 ∨ 16 < o.toNat)) ∧ s10 = .int .i64 (o.toNat : Int) ∧ Hid (RAt wd p a c bs (r, qs))) ∨ (∃ er k, Hid (rdText 1 16 ls = .error er) ∧ s10 = .int .i64 k ∧ Hid (RErr wd p 281474976710658 er))))
                case first =>
                  rcases hcut with ⟨o', r', X3, rfl, X2⟩ | ⟨X3, rfl, X2⟩
                  · have h256' := o'.toNat_lt
                    by_cases hbad : o'.toNat < 1 ∨ 16 < o'.toNat
                    · have Y3 : Hid (rdText 1 16 ls = .error 5) := by show _ = _; rw [X3.out]; exact rdText_bad hbad
                      by_cases hz : o'.toNat < 1
                      · have hz' : decide ((o'.toNat : Int) < 1) = true := by simp; omega
                        clear hbad hz
                        go_wp2_with fail
                        refine (rfail_set p a c bs (r', qs) 5 wc X2.out (by decide)).mono ?_
                        rintro e w3 ⟨rfl, hg3, hE3⟩
                        have X4 : Hid (wr.grownBy w3 (some p)) := grown_trans X1.out hg3
                        have X5 : Hid (RErr w3 p 281474976710658 5) := hE3.mono (by have := HSM.out; (try simp only at this ⊢); omega)
                        clear hg3 hE3
                        go_wp2_with fail
                        go_meet
                        case rel => exact ⟨X4.out, Or.inr ⟨5, _, Y3.out, rfl, X5.out⟩⟩
                      · have hz' : decide ((o'.toNat : Int) < 1) = false := by simp; omega
                        have hz2 : decide ((16 : Int) < (o'.toNat : Int)) = true := by simp; omega
                        clear hbad hz
                        go_wp2_with fail
                        refine (rfail_set p a c bs (r', qs) 5 wc X2.out (by decide)).mono ?_
                        rintro e w3 ⟨rfl, hg3, hE3⟩
                        have X4 : Hid (wr.grownBy w3 (some p)) := grown_trans X1.out hg3
                        have X5 : Hid (RErr w3 p 281474976710658 5) := hE3.mono (by have := HSM.out; (try simp only at this ⊢); omega)
                        clear hg3 hE3
                        go_wp2_with fail
                        go_meet
                        case rel => exact ⟨X4.out, Or.inr ⟨5, _, Y3.out, rfl, X5.out⟩⟩
                    · have hz' : decide ((o'.toNat : Int) < 1) = false := by simp; omega
                      have hz2 : decide ((16 : Int) < (o'.toNat : Int)) = false := by simp; omega
                      have Y3 : Hid (¬ (o'.toNat < 1 ∨ 16 < o'.toNat)) := hbad
                      clear hbad
                      obtain ⟨i5, hi5, hri5, hblk5⟩ := X2.out
                      clear hi5 hri5
                      go_wp2_with fail
                      refine (rfail_no p _ wc hblk5).mono ?_
                      clear hblk5
                      rintro e w3 ⟨rfl, hw3⟩
                      subst w3
                      go_wp2_with fail
                      go_meet
                      case rel => exact ⟨X1.out, Or.inl ⟨o', r', X3.out, Y3.out, rfl, X2.out⟩⟩
                  · go_wp2_with fail
                    refine (rfail_err p _ _ _ _ wc X2.out).mono ?_
                    rintro e w3 ⟨rfl, hw3⟩
                    subst w3
                    go_wp2_with fail
                    go_meet
                    case rel => exact ⟨X1.out, Or.inr ⟨8, _, X3.out, rfl, X2.out⟩⟩
                case rest =>
                  obtain ⟨X1, hcut⟩ := hcut
                  go_upto_region 10 with fail
                  go_cut [11] from 18 to 71 (fun s11 wd => Hid (wr.grownBy wd (some p)) ∧ ((∃ key rk, Hid (rdText 1 16 ls = .ok (key, rk)) ∧ s11 = .string key ∧ Hid (RAt wd p a c bs (rk, qs))) ∨ (∃ er t, Hid (rdText 1 16 ls = .error er) ∧ s11 = .string t ∧ Hid (RErr wd p 281474976710658 er))))
                  case first =>
                    rcases hcut with ⟨o', r', X3, Y3, rfl, X2⟩ | ⟨er, k', X3, rfl, X2⟩
                    · have h256' := o'.toNat_lt
                      go_wp2_with fail
                      refine (rtake_any o'.toNat p a c bs (r', qs) wc X2.out (HO.out.grown4 HRD.out (grown_trans MM.out.grown X1.out)) (by omega)).mono ?_
                      rintro e w3 ⟨hg3, ⟨h5, rfl, hE⟩ | ⟨h5, h6, a', c', rfl, h7⟩⟩
                      · have X4 : Hid (wr.grownBy w3 (some p)) := grown_trans X1.out hg3
                        have X5 : Hid (RErr w3 p 281474976710658 8) := hE.mono (by have := HSM.out; (try simp only at this ⊢); omega)
                        have X6 : Hid (rdText 1 16 ls = .error 8) := by show _ = _; rw [X3.out]; exact rdText_short Y3.out h5
                        clear hg3 hE h5
                        go_wp2_with (refine wpList_strG _ (.tmp 45) rfl (by rfl) none 0 0 [] rfl rfl (fun i o hi => by simp at hi) ?_)
                        go_meet
                        case rel => exact ⟨X4.out, Or.inr ⟨8, _, X6.out, rfl, X5.out⟩⟩
                      · have X4 : Hid (wr.grownBy w3 (some p)) := grown_trans X1.out hg3
                        have X5 : Hid (RAt w3 p a c bs (r'.drop o'.toNat, qs)) := h6
                        have X6 : Hid (rdText 1 16 ls = .ok (⟨(r'.take o'.toNat).toArray⟩, r'.drop o'.toNat)) := by show _ = _; rw [X3.out]; exact rdText_good Y3.out h5
                        have X7 : Hid (LayB w3 a' (r'.take o'.toNat)) := h7
                        have hlt' : (r'.take o'.toNat).length = o'.toNat := by rw [List.length_take]; exact Nat.min_eq_left h5
                        clear hg3 h5 h6 h7
                        go_wp2_with (refine wpList_strG _ (.tmp 45) rfl (by rfl) a' c' o'.toNat (r'.take o'.toNat) hlt' rfl X7.out ?_)
                        go_meet
                        case rel => exact ⟨X4.out, Or.inl ⟨_, _, X6.out, rfl, X5.out⟩⟩
                    · go_wp2_with fail
                      refine (rtake_err p _ _ _ wc X2.out).mono ?_
                      rintro e w3 ⟨rfl, hw3⟩
                      subst w3
                      go_wp2_with (refine wpList_strG _ (.tmp 45) rfl (by rfl) none 0 0 [] rfl rfl (fun i o hi => by simp at hi) ?_)
                      go_meet
                      case rel => exact ⟨X1.out, Or.inr ⟨er, _, X3.out, rfl, X2.out⟩⟩
                  case rest =>
                    obtain ⟨X1, hcut⟩ := hcut
                    go_upto_region 11 with fail
                    go_cut [11] from 18 to 71 (fun s11 wd => Hid (wr.grownBy wd (some p)) ∧ ((∃ key rk, Hid (rdText 1 16 ls = .ok (key, rk)) ∧ Hid (okNext ks.getLast? key = true) ∧ s11 = .string key ∧ Hid (RAt wd p a c bs (rk, qs))) ∨ (∃ er t, Hid (stepF (rd n) (ks, acc, (ls, qs)) = .error er) ∧ s11 = .string t ∧ Hid (RErr wd p 281474976710658 er))))
                    case first =>
                      have hm0 : m = 0 ∨ 0 < m := by omega
                      rcases hcut with ⟨key, rk, X3, rfl, X2⟩ | ⟨er, t, X3, rfl, X2⟩
                      · rcases hm0 with hm0 | hm0
                        · have hg0 : ¬ ((0 : Int) < (m : Int)) := by omega
                          have X4 : Hid (okNext ks.getLast? key = true) := by
                            obtain rfl : ks = [] := List.eq_nil_of_length_eq_zero (by rw [HKL.out]; exact hm0)
                            rfl
                          clear hm0
                          obtain ⟨i5, hi5, hri5, hblk5⟩ := X2.out
                          clear hi5 hri5
                          go_wp2_with fail
                          refine (rfail_no p _ wc hblk5).mono ?_
                          clear hblk5
                          rintro e w3 ⟨rfl, hw3⟩
                          subst w3
                          go_wp2_with fail
                          go_meet
                          case rel => exact ⟨X1.out, Or.inl ⟨key, rk, X3.out, X4.out, rfl, X2.out⟩⟩
                        · have hg0 : (0 : Int) < (m : Int) := by omega
                          have XL : Hid (ks.getLast? = some last) := by
                            show _ = _
                            cases hk : ks.getLast? with
                            | none => have q1 := List.getLast?_eq_none_iff.1 hk; have q2 := HKL.out; rw [q1] at q2; simp at q2; omega
                            | some k => rw [HLA.out k hk]
                          clear hm0
                          cases hb : Op.bytesLess last.toList key.toList with
                          | false =>
                            have X4 : Hid (stepF (rd n) (ks, acc, (ls, qs)) = .error 32) := by
                              show _ = _
                              simp only [stepF, X3.out, XL.out, okNext, hb]
                              rfl
                            have HLE : Hid ((Op.bytesLess key.toList last.toList || key.toList == last.toList) = true) := by
                              show _ = _
                              have := less_turn last.toList key.toList
                              rw [hb] at this
                              revert this
                              cases Op.bytesLess key.toList last.toList <;> cases key.toList == last.toList <;> simp
                            clear hb
                            go_wp2_with fail
                            rw [HLE.out]
                            refine (rfail_set p a c bs (rk, qs) 32 wc X2.out (by decide)).mono ?_
                            rintro e w3 ⟨rfl, hg3, hE3⟩
                            have X5 : Hid (wr.grownBy w3 (some p)) := grown_trans X1.out hg3
                            have X6 : Hid (RErr w3 p 281474976710658 32) := hE3.mono (by have := HSM.out; (try simp only at this ⊢); omega)
                            clear hg3 hE3
                            go_wp2_with fail
                            go_meet
                            case rel => exact ⟨X5.out, Or.inr ⟨32, _, X4.out, rfl, X6.out⟩⟩
                          | true =>
                            have X4 : Hid (okNext ks.getLast? key = true) := by show _ = _; rw [XL.out]; exact hb
                            have HLE : Hid ((Op.bytesLess key.toList last.toList || key.toList == last.toList) = false) := by
                              show _ = _
                              have := less_turn last.toList key.toList
                              rw [hb] at this
                              revert this
                              cases Op.bytesLess key.toList last.toList <;> cases key.toList == last.toList <;> simp
                            clear hb
                            obtain ⟨i5, hi5, hri5, hblk5⟩ := X2.out
                            clear hi5 hri5
                            go_wp2_with fail
                            rw [HLE.out]
                            refine (rfail_no p _ wc hblk5).mono ?_
                            clear hblk5
                            rintro e w3 ⟨rfl, hw3⟩
                            subst w3
                            go_wp2_with fail
                            go_meet
                            case rel => exact ⟨X1.out, Or.inl ⟨key, rk, X3.out, X4.out, rfl, X2.out⟩⟩
                      · have X4 : Hid (stepF (rd n) (ks, acc, (ls, qs)) = .error er) := by
                          show _ = _
                          simp only [stepF, X3.out]
                        rcases hm0 with hm0 | hm0
                        · have hg0 : ¬ ((0 : Int) < (m : Int)) := by omega
                          clear hm0
                          go_wp2_with fail
                          refine (rfail_err p _ _ _ _ wc X2.out).mono ?_
                          rintro e w3 ⟨rfl, hw3⟩
                          subst w3
                          go_wp2_with fail
                          go_meet
                          case rel => exact ⟨X1.out, Or.inr ⟨er, _, X4.out, rfl, X2.out⟩⟩
                        · have hg0 : (0 : Int) < (m : Int) := by omega
                          clear hm0
                          go_wp2_with fail
                          refine (rfail_err p _ _ _ _ wc X2.out).mono ?_
                          rintro e w3 ⟨rfl, hw3⟩
                          subst w3
                          go_wp2_with fail
                          go_meet
                          case rel => exact ⟨X1.out, Or.inr ⟨er, _, X4.out, rfl, X2.out⟩⟩
                    case rest =>
                      obtain ⟨X1, hcut⟩ := hcut
                      have M3 : Hid (Mem w wc p (.slice ka kl kc) (.slice va vl vc) ks m xs) := MM.out.next X1.out
                      obtain ⟨x0, x1, x2, x3, x4, h0, h1, h2, h3, h4⟩ := box_cells M3.out.box
                      have C3 : ∀ o, (wc.alloc o).cell? ⟨w.heap.size, 3, none⟩ = some (.slice ka kl kc) := fun o => keepc (below_one _ _) _ _ x3
                      rcases hcut with ⟨key, rk, X3, X4, rfl, X2⟩ | ⟨er, t, X4, rfl, X2⟩
                      · have hk16 : Hid (key.size ≤ 16) := (rdText_ok X3.out).2.2
                        have HS1 : Hid (∀ er, rd n (rk, qs) = .error er → iterE (stepF (rd n)) M ([], [], (r, q)) = .error er) := fun er he => by
                          rw [HIT.out, HMk.out]
                          simp only [iterE, stepF, X3.out, he]
                          rw [if_neg (by rw [X4.out]; decide)]
                        have HS2 : Hid (∀ u s', rd n (rk, qs) = .ok (u, s') → iterE (stepF (rd n)) M ([], [], (r, q)) = iterE (stepF (rd n)) (M - (m + 1)) (ks ++ [key], acc ++ [u], s')) := fun u s' he => by
                          rw [HIT.out, HMk.out]
                          simp only [iterE, stepF, X3.out, he]
                          rw [if_neg (by rw [X4.out]; decide)]
                        have HSR : Hid (qs + rk.length ≤ 281474976710656) := by
                          show _ ≤ _
                          have h1 := (rdText_ok X3.out).1
                          have h2 := HSM.out
                          simp only [h1, List.length_append] at h2
                          omega
                        go_wp2_with (at_builtin; refine wpList_pushK _ rfl _ _ rfl (.slice ka kl kc) ks rfl ?d0 key ⟨wc.heap.size, 0, none⟩ 1 rfl ?d1 ?d2 ?_)
                        case d0 => exact M3.out.keys.same fun b hb => Below.heap_alloc _ _ _ (M3.out.keyr b hb).2
                        try (case d1 => exact newCells wc #[.string key] _ 0 _ (by simp))
                        case d2 => have := HKL.out; omega
                        intro kv' w4 k1 k2 k3
                        obtain ⟨ka', kc', rfl⟩ := OwnK.shape k1
                        replace k3 : (Value.slice ka' (ks ++ [key]).length kc').ownBlock = (Value.slice ka kl kc).ownBlock ∨ ∀ g, (Value.slice ka' (ks ++ [key]).length kc').ownBlock = some g → (wc.alloc (.cells #[.string key] 9)).heap.size ≤ g := k3.imp_right fun h g hg => by have := h g hg; simpa using this
                        obtain ⟨t0, t1, t2, t3, t4, s0, s1, s2, s3, s4⟩ := box_cells (M3.out.key k1 k2 k3).2.2.2
                        have KI : Hid (KInv n M (iterE (stepF (rd n)) M ([], [], (r, q))) p a c bs w (w4.setCell ⟨w.heap.size, 3, none⟩ (.slice ka' (ks ++ [key]).length kc')) m key (.slice ka' (ks ++ [key]).length kc') (.slice va vl vc)) :=
                          KInv.ok HLT.out HAC.out HKL.out HKS.out hk16.out HS1.out HS2.out X2.out HSR.out M3.out (HL.out.same fun b hb => X1.out.block b (HH.out b hb).2 fun e => by
                            simp only [Option.some.injEq] at e
                            have := (HH.out b hb).1
                            have := HPW.out
                            omega) (fun b hb => by have := HH.out b hb; have := X1.out.size; omega) HKH.out k1 k2 k3
                        clear k1 k2 k3 x0 x1 x2 x3 x4 h0 h1 h2 h3 h4 C3
                        generalize (ks ++ [key]).length = kl' at *
                        go_wp2_with fail
                        go_meet
                        case rel => exact ⟨key, ka', kl', kc', rfl, KI.out⟩
                      · have HS1 : Hid (iterE (stepF (rd n)) M ([], [], (r, q)) = .error er) := by
                          show _ = _
                          rw [HIT.out, HMk.out]
                          simp only [iterE, X4.out]
                        go_wp2_with (at_builtin; refine wpList_pushK _ rfl _ _ rfl (.slice ka kl kc) ks rfl ?e0 t ⟨wc.heap.size, 0, none⟩ 1 rfl ?e1 ?e2 ?_)
                        case e0 => exact M3.out.keys.same fun b hb => Below.heap_alloc _ _ _ (M3.out.keyr b hb).2
                        try (case e1 => exact newCells wc #[.string t] _ 0 _ (by simp))
                        case e2 => have := HKL.out; omega
                        intro kv' w4 k1 k2 k3
                        obtain ⟨ka', kc', rfl⟩ := OwnK.shape k1
                        replace k3 : (Value.slice ka' (ks ++ [t]).length kc').ownBlock = (Value.slice ka kl kc).ownBlock ∨ ∀ g, (Value.slice ka' (ks ++ [t]).length kc').ownBlock = some g → (wc.alloc (.cells #[.string t] 9)).heap.size ≤ g := k3.imp_right fun h g hg => by have := h g hg; simpa using this
                        obtain ⟨t0, t1, t2, t3, t4, s0, s1, s2, s3, s4⟩ := box_cells (M3.out.key k1 k2 k3).2.2.2
                        have KI : Hid (KInv n M (iterE (stepF (rd n)) M ([], [], (r, q))) p a c bs w (w4.setCell ⟨w.heap.size, 3, none⟩ (.slice ka' (ks ++ [t]).length kc')) m t (.slice ka' (ks ++ [t]).length kc') (.slice va vl vc)) :=
                          KInv.err HS1.out X2.out M3.out k1 k2 k3
                        clear k1 k2 k3 x0 x1 x2 x3 x4 h0 h1 h2 h3 h4 C3
                        generalize (ks ++ [t]).length = kl' at *
                        go_wp2_with fail
                        go_meet
                        case rel => exact ⟨t, ka', kl', kc', rfl, KI.out⟩
            case rest =>
              obtain ⟨last', ka', kl', kc', rfl, KI⟩ := hcut
              clear x0 x1 x2 x3 x4 h0 h1 h2 h3 h4 z0 z1 z2 z3 z4 f0 f1 f2 f3 f4 y0 y1 y2 y3 g0 g1 g2 g3
              clear MM HL HH HKH HAC HKL HKS HLA HIT RA HSM
              have hmlt : m < 32 := Nat.lt_of_lt_of_le HLT.out HM.out
              rcases KI.out.calls HV.out HRD.out HO.out hd1 HD.out with ⟨er, ks', xs', hst, hMm, hC⟩ | ⟨ks', acc', u, s', xs', H', hMl, hal, hkl, hk16, hlas, hst, hsu, hMm, hOL, hHr, hkH, hC⟩
              · have ST : Hid (iterE (stepF (rd n)) M ([], [], (r, q)) = .error er) := hst
                have M4 : Hid (Mem w wc p (.slice ka' kl' kc') (.slice va vl vc) ks' m xs') := hMm
                have HC2 : Hid (Calls Try.prog 40 #[.pointer (some ⟨p, 0, none⟩), .int .i64 (d + 1)] wc.drew fun e w3 => ∃ y, e = .returned y ∧ (wc.grownBy w3 (some p) ∧ RErr w3 p 281474976710660 er ∧ Some5 y)) := hC
                have HXV : Hid (∀ w', wc.grownBy w' (some p) → w'.heap[w.heap.size]? = some (.cells #[.int .i64 5, .int .u64 0, .string ⟨#[]⟩, .slice ka' kl' kc', .slice va vl vc] 50 (0, 0))) := fun w' hg => (M4.out.next hg).box
                have HRow : Hid (∀ w', wc.grownBy w' (some p) → w'.ownsRow 0 50 5 (.slice va vl vc) m xs') := fun w' hg => (M4.out.next hg).row
                obtain ⟨x0, x1, x2, x3, x4, h0, h1, h2, h3, h4⟩ := box_cells M4.out.box
                obtain ⟨i9, hi9, hz0, hz1, hz2⟩ := info_parts Try.infoVal
                have hlen32 : (m + 1) * 80 ≤ 140737488355328 := by omega
                have hlm : m + 1 ≤ maxLen := by unfold maxLen; omega
                clear hst hMm hC KI
                go_wp2_with fail
                go_region_law (first
                  | (refine step_call2 rfl 40 (by intros; go_simp) _ _ _ rfl (.pointer (some ⟨p, 0, none⟩)) (.int .i64 (d + 1)) (by first | (simp [Act.eval]; done) | simp [Act.eval, Act.put]) (by first | (simp [Act.eval]; done) | simp [Act.eval, Act.put]) _ HC2.out ?_; intro y w3 hR; obtain ⟨hg3, hE3, k5, b5, t5, ka5, kl5, kc5, ia5, il5, ic5, rfl⟩ := hR; have c4 := (box_cells (HXV.out w3 hg3)).2.2.2.2.1; have C4 : ∀ o, (w3.alloc o).cell? ⟨w.heap.size, 4, none⟩ = some (.slice va vl vc) := fun o => keepc (below_one _ _) _ _ c4)
                  | (refine step_append rfl _ _ 48 rfl 0 50 i9 _ 5 80 Try.underlying48 hi9 hz0 hz1 hz2 rfl (by decide) (.slice va vl vc) m xs' (by first | (simp [Act.eval]; done) | simp [Act.eval, Act.put]) (HRow.out _ (grown_below hg3 (below_one _ _))) ⟨w3.heap.size, 0, none⟩ 1 1 [.int .i64 k5, .int .u64 b5, .string t5, .slice ka5 kl5 kc5, .slice ia5 il5 ic5] (by first | (simp [Act.eval]; done) | simp [Act.eval, Act.put]) rfl (fun j u hj => newCells w3 _ _ j u (by simpa using hj)) (by intro u hu; simp at hu; rcases hu with rfl | rfl | rfl | rfl | rfl <;> rfl) hlm hlen32 (Nat.zero_le _) ?_; intro v' w5 k1 k2 k3; obtain ⟨va', vc', rfl⟩ := slice_of_own k1; have b5' := ((M4.out.next hg3).item k1 k2 k3).2.2.2; obtain ⟨t0, t1, t2, t3, t4, s0, s1, s2, s3, s4⟩ := box_cells b5'))
                all_goals
                  have FI : Hid (FInv n M (iterE (stepF (rd n)) M ([], [], (r, q))) p a c bs w (w5.setCell ⟨w.heap.size, 4, none⟩ (.slice va' (m + 1) vc')) (m + 1) last' (.slice ka' kl' kc') (.slice va' (m + 1) vc')) := FInv.err ST.out hg3 hE3 M4.out k1 k2 k3
                  clear k1 k2 k3 hE3 hg3 b5' t0 t1 t2 t3 t4 s0 s1 s2 s3 s4
                  generalize w5.setCell ⟨w.heap.size, 4, none⟩ (.slice va' (m + 1) vc') = W6 at *
                  go_wp2_with fail
                  go_roundg (gk - 1)
                  case measure => have := HMK.out; omega
                  case rel => exact ⟨m + 1, last', ka', kl', kc', va', m + 1, vc', rfl, by go_num, by have := HMK.out; omega, FI.out⟩
              · have ST : Hid (iterE (stepF (rd n)) M ([], [], (r, q)) = iterE (stepF (rd n)) (M - (m + 1)) (ks', acc' ++ [u], s')) := hst
                have M4 : Hid (Mem w wc p (.slice ka' kl' kc') (.slice va vl vc) ks' m xs') := hMm
                have HC2 : Hid (Calls Try.prog 40 #[.pointer (some ⟨p, 0, none⟩), .int .i64 (d + 1)] wc.drew fun e w3 => ∃ y, e = .returned y ∧ (wc.grownBy w3 (some p) ∧ RAt w3 p a c bs s' ∧ ∃ F, Own w3 n y u F ∧ ∀ b, F b → wc.heap.size ≤ b ∧ b < w3.heap.size)) := hC
                have HL : Hid (OwnL wc n (.slice va vl vc) acc' H') := hOL
                have HH : Hid (∀ b, H' b → w.heap.size + 2 ≤ b ∧ b < wc.heap.size) := hHr
                have HKH : Hid (∀ b, (Value.slice ka' kl' kc').ownBlock = some b → ¬ H' b) := hkH
                have HAL : Hid (acc'.length = m) := hal
                have HKL : Hid (ks'.length = m + 1) := hkl
                have HKS : Hid (∀ k ∈ ks', k.size ≤ 16) := hk16
                have HLA : Hid (ks'.getLast? = some last') := hlas
                have HSU : Hid (s'.2 + s'.1.length ≤ 281474976710656) := hsu
                have HXV : Hid (∀ w', wc.grownBy w' (some p) → w'.heap[w.heap.size]? = some (.cells #[.int .i64 5, .int .u64 0, .string ⟨#[]⟩, .slice ka' kl' kc', .slice va vl vc] 50 (0, 0))) := fun w' hg => (M4.out.next hg).box
                have HHL : Hid (∀ w', wc.grownBy w' (some p) → OwnL w' n (.slice va vl vc) acc' H') := fun w' hg => HL.out.same fun b hb => hg.block b (HH.out b hb).2 fun e => by
                  simp only [Option.some.injEq] at e
                  have := (HH.out b hb).1
                  have := HPW.out
                  omega
                obtain ⟨x0, x1, x2, x3, x4, h0, h1, h2, h3, h4⟩ := box_cells M4.out.box
                have hlen32 : (acc'.length + 1) * 80 ≤ 140737488355328 := by have := HAL.out; omega
                clear hst hMm hC KI hOL hHr hkH hal hkl hk16 hlas hsu hMl
                go_wp2_with fail
                go_region_law (first
                  | (refine step_call2 rfl 40 (by intros; go_simp) _ _ _ rfl (.pointer (some ⟨p, 0, none⟩)) (.int .i64 (d + 1)) (by first | (simp [Act.eval]; done) | simp [Act.eval, Act.put]) (by first | (simp [Act.eval]; done) | simp [Act.eval, Act.put]) _ HC2.out ?_; intro y w3 hR; obtain ⟨hg3, hA3, F, hown, hF⟩ := hR; obtain ⟨k5, b5, t5, ka5, kl5, kc5, ia5, il5, ic5, rfl⟩ := Lay.shape n (Own.lay n hown); have c4 := (box_cells (HXV.out w3 hg3)).2.2.2.2.1; have C4 : ∀ o, (w3.alloc o).cell? ⟨w.heap.size, 4, none⟩ = some (.slice va vl vc) := fun o => keepc (below_one _ _) _ _ c4)
                  | (refine step_push rfl _ _ rfl (.slice va vl vc) acc' H' (by first | (simp [Act.eval]; done) | simp [Act.eval, Act.put]) (HHL.out _ (grown_below hg3 (below_one _ _))) u F (.int .i64 k5) (.int .u64 b5) (.string t5) (.slice ka5 kl5 kc5) (.slice ia5 il5 ic5) (hown.same n fun b hb => Below.heap_alloc _ _ _ (hF b hb).2) (fun b hb hb' => by have := (hF b hb).1; have := (HH.out b hb').2; omega) (fun b hb => by have := (HH.out b hb).2; have := hg3.size; simp; omega) (fun b hb => by have := (hF b hb).2; simp; omega) ⟨w3.heap.size, 0, none⟩ 1 (by first | (simp [Act.eval]; done) | simp [Act.eval, Act.put]) (fun j u hj => newCells w3 _ _ j u (by simpa using hj)) hlen32 ?_; intro v' w5 k1 k2 k3; obtain ⟨va', vc', rfl⟩ := OwnL.shape k1; have b5' := ((M4.out.next hg3).item (Exists.choose_spec (Exists.choose_spec k1)).1 k2 k3).2.2.2; obtain ⟨t0, t1, t2, t3, t4, s0, s1, s2, s3, s4⟩ := box_cells b5'))
                all_goals
                  have hlen' : (acc' ++ [u]).length = acc'.length + 1 := by simp
                  have FI : Hid (FInv n M (iterE (stepF (rd n)) M ([], [], (r, q))) p a c bs w (w5.setCell ⟨w.heap.size, 4, none⟩ (.slice va' (acc' ++ [u]).length vc')) (m + 1) last' (.slice ka' kl' kc') (.slice va' (acc' ++ [u]).length vc')) := FInv.ok HLT.out HAL.out HKL.out HKS.out HLA.out ST.out HSU.out M4.out HL.out HH.out HKH.out hg3 hA3 hF k1 k2 k3
                  rw [hlen'] at FI
                  clear k1 k2 k3 hown hF hA3 hg3 b5' t0 t1 t2 t3 t4 s0 s1 s2 s3 s4 hlen'
                  generalize w5.setCell ⟨w.heap.size, 4, none⟩ (.slice va' (acc'.length + 1) vc') = W6 at *
                  go_wp2_with fail
                  go_roundg (gk - 1)
                  case measure => have := HMK.out; omega
                  case rel => exact ⟨m + 1, last', ka', kl', kc', va', acc'.length + 1, vc', rfl, by go_num, by have := HMK.out; omega, FI.out⟩
          · have hme : m = M := by omega
            subst hme
            have hnn : ¬ (m : Int) < (m : Int) := by omega
            have HRE : Hid (rdFields n (o :: r, q) = .ok (ks, acc, s)) := by
              show _ = _
              rw [HR.out, HIT.out, Nat.sub_self]
              rfl
            go_wp2_with fail
            refine bodyPost_ret (v := mk 5 0 ⟨#[]⟩ ka kl kc va vl vc) (by simp [results, Try.results58, go_sem, z0, z1, z2, z3, z4]) rfl ?_
            obtain ⟨e1, e2, e3, e4, e5⟩ := five_fin wr (w.heap.size + 1) (.int .i64 5) (.int .u64 0) (.string ⟨#[]⟩) (.slice ka kl kc) (.slice va vl vc)
            generalize (((((wr.setCell ⟨w.heap.size + 1, 0, none⟩ (.int .i64 5)).setCell ⟨w.heap.size + 1, 1, none⟩ (.int .u64 0)).setCell ⟨w.heap.size + 1, 2, none⟩ (.string ⟨#[]⟩)).setCell ⟨w.heap.size + 1, 3, none⟩ (.slice ka kl kc)).setCell ⟨w.heap.size + 1, 4, none⟩ (.slice va vl vc)) = W5 at *
            have hpw := HPW.out
            have hgw := MM.out.grown
            have hgr : w.grownBy W5 (some p) := ⟨e3.trans hgw.os, e4.trans hgw.tape, e5.trans hgw.output, by have := hgw.size; omega, fun k hk hn => (e1 k (by omega)).trans (hgw.block k hk hn)⟩
            obtain ⟨a', c', ev⟩ := HL.out.shape
            simp only [Value.slice.injEq] at ev
            obtain ⟨rfl, rfl, rfl⟩ := ev
            obtain ⟨a', c', ev⟩ := MM.out.keys.shape
            simp only [Value.slice.injEq] at ev
            obtain ⟨rfl, rfl, rfl⟩ := ev
            have hm32 := HM.out
            exact ⟨hgr, Or.inr ⟨ks, acc, s, HRE.out, RA.out.same (e1 p (by omega)), ka, kc, va, vc, H, rfl, MM.out.keys.same fun b hb => e1 b (by have := (MM.out.keyr b hb).1; omega), HL.out.same fun b hb => e1 b (by have := (HH.out b hb).1; omega), HKH.out, HKS.out, by rw [HKL.out]; exact hm32, by rw [HAC.out]; exact hm32, fun b hb => by have := HH.out b hb; omega, fun b hb => by have := MM.out.keyr b hb; omega⟩⟩
        · have hE0 := hE
          obtain ⟨hne, q', hq', sl, i, hbk⟩ := hE0
          obtain ⟨y0, y1, y2, y3, g0, g1, g2, g3⟩ := rd4_cells hbk
          have hne' : (er == 0) = false := by simpa using hne
          have HE : Hid (RErr wr p 281474976710660 er) := hE
          have HRE : Hid (rdFields n (o :: r, q) = .error er) := by show _ = _; rw [HR.out, hit]
          have MM : Hid (Mem w wr p (.slice ka kl kc) (.slice va vl vc) ks L xs) := hMem
          obtain ⟨x0, x1, x2, x3, x4, h0, h1, h2, h3, h4⟩ := box_cells MM.out.box
          obtain ⟨z0, z1, z2, z3, z4, f0, f1, f2, f3, f4⟩ := box_cells MM.out.res
          clear hbk hne hE hit HIN hMem
          by_cases hlt : (m : Int) < (M : Int)
          all_goals
            go_wp2_with fail
            refine bodyPost_ret (v := mk 5 0 ⟨#[]⟩ ka kl kc va vl vc) (by simp [results, Try.results58, go_sem, z0, z1, z2, z3, z4]) rfl ?_
            obtain ⟨e1, e2, e3, e4, e5⟩ := five_fin wr (w.heap.size + 1) (.int .i64 5) (.int .u64 0) (.string ⟨#[]⟩) (.slice ka kl kc) (.slice va vl vc)
            generalize (((((wr.setCell ⟨w.heap.size + 1, 0, none⟩ (.int .i64 5)).setCell ⟨w.heap.size + 1, 1, none⟩ (.int .u64 0)).setCell ⟨w.heap.size + 1, 2, none⟩ (.string ⟨#[]⟩)).setCell ⟨w.heap.size + 1, 3, none⟩ (.slice ka kl kc)).setCell ⟨w.heap.size + 1, 4, none⟩ (.slice va vl vc)) = W5 at *
            have hpw := HPW.out
            have hgw := MM.out.grown
            have hgr : w.grownBy W5 (some p) := ⟨e3.trans hgw.os, e4.trans hgw.tape, e5.trans hgw.output, by have := hgw.size; omega, fun k hk hn => (e1 k (by omega)).trans (hgw.block k hk hn)⟩
            exact ⟨hgr, Or.inl ⟨er, HRE.out, HE.out.same (e1 p (by omega)), _, rfl, _, _, _, _, _, _, _, _, _, rfl⟩⟩
end Go.Proofs.Ytfdbhojghkdlkaa
