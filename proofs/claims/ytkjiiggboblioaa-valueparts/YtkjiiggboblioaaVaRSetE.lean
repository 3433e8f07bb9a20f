/-
  The page's set: a path of two steps or more whose first leads nowhere.
-/
import Derived.Test.YtkjiiggboblioaaVaRSet
namespace Go.Proofs.Ytkjiiggboblioaa
open Go.ChangeShapes Go.WideShapes Go.ChangeAt Go.RowKit
open Fl

set_option maxRecDepth 100000 in
set_option maxHeartbeats 6400000 in
theorem rset_err {m n : Nat} (k b : Int) (t : ByteArray) (ks : List ByteArray) (its : List (V m)) (s : St) (x : V n) (xv yv : Value) (F Fx : Nat → Prop) (pa : Option Addr) (pl pc : Nat) (w : World) (hm : mayB k b t ks its.length = true) (ho : Own w (m + 1) xv (k, b, t, ks, its) F) (hx : Own w n yv x Fx)
    (ps : List St) (hp : LayP w pa (s :: ps)) (hpl : (s :: ps).length = pl) (h2 : 2 ≤ pl) (r : Int × V (m + 1)) (hr : r.1 = (plc k ks its.length s).1) (he : (plc k ks its.length s).1 ≠ 0) :
    Calls Try.prog 20 #[xv, .slice pa pl pc, yv] w (SetPost w F Fx r) := by
  have hup : k = 5 → Up ks := fun e => by subst e; exact (up_of_may hm).1
  obtain ⟨gp, op, rfl, p0, p1, p2, hz, hsx⟩ := hp 0 s rfl
  simp only [Nat.zero_mul, Nat.add_zero] at p0 p1 p2
  obtain ⟨ka, kc, ia, ic, G, rfl, hfit, -, hS, -⟩ := own_cells ho
  obtain ⟨k5, b5, t5, ka5, kl5, kc5, ia5, il5, ic5, rfl⟩ := Lay.shape n (Own.lay n hx)
  have HPL : Hid (∀ W, Below w.heap.size w W → Calls Try.prog 16 #[mk k b t ka ks.length kc ia its.length ic, .agg #[.bool s.1, .string s.2.1, .int .i64 s.2.2]] W fun e w' => e = .returned (.tuple #[.int .i64 (rplc (plc k ks its.length s)), .int .i64 (plc k ks its.length s).1]) ∧ Below W.heap.size W w') := fun W hb => place_any k b t ka kc ia its.length ic ks s W hup (LayS.below hS hb) hfit.2.2.2.2.2.1 hsx hfit.2.2.2.2.2.2.2.2
  generalize rplc (plc k ks its.length s) = rp at *
  rw [← hr] at he HPL
  obtain ⟨q, key, ix⟩ := s
  simp only at p0 p1 p2
  have he' : (r.1 == 0) = false := by simpa using he
  have HE : Hid (r.1 ≠ 0) := he
  have hl0 : ((pl : Int) == 0) = false := by simp; omega
  have hl1 : ((pl : Int) == 1) = false := by simp; omega
  have hpi : 0 < pl := by omega
  have hpz : ¬ pl = 0 := by omega
  have hpj : (0 : Int) < (pl : Int) := by omega
  have HPC : Hid (w.cell? ⟨gp, op, none⟩ = some (.bool q) ∧ w.cell? ⟨gp, op + 1, none⟩ = some (.string key) ∧ w.cell? ⟨gp, op + 2, none⟩ = some (.int .i64 ix)) := ⟨p0, p1, p2⟩
  clear ho hx hm hp hpl hup hr he p0 p1 p2 hz hsx hS hfit
  go_enter Try.func20, Try.ntmps20
  go_upto_region 1 with fail
  obtain ⟨hb0, hst, hb, hsz⟩ := three_new w (.cells #[.int .i64 k, .int .u64 b, .string t, .slice ka ks.length kc, .slice ia its.length ic] 26) (.cells #[.int .i64 k5, .int .u64 b5, .string t5, .slice ka5 kl5 kc5, .slice ia5 il5 ic5] 26) (.cells #[.int .i64 0, .int .u64 0, .string ⟨#[]⟩, .slice none 0 0, .slice none 0 0] 26) (Below.refl _ _)
  generalize ((w.alloc (.cells #[.int .i64 k, .int .u64 b, .string t, .slice ka ks.length kc, .slice ia its.length ic] 26)).alloc (.cells #[.int .i64 k5, .int .u64 b5, .string t5, .slice ka5 kl5 kc5, .slice ia5 il5 ic5] 26)).alloc (.cells #[.int .i64 0, .int .u64 0, .string ⟨#[]⟩, .slice none 0 0, .slice none 0 0] 26) = W at *
  have HB : Hid (Below w.heap.size w W ∧ w.heap.size + 3 ≤ W.heap.size) := ⟨hb, hsz⟩
  have HRB : Hid (W.heap[w.heap.size + 1 + 1]? = some _) := hst.2
  have HSP : Hid (∀ W' : World, Below W.heap.size W W' → (W'.cell? ⟨w.heap.size, 0, none⟩ = some (.int .i64 k) ∧ W'.cell? ⟨w.heap.size, 1, none⟩ = some (.int .u64 b) ∧ W'.cell? ⟨w.heap.size, 2, none⟩ = some (.string t) ∧ W'.cell? ⟨w.heap.size, 3, none⟩ = some (.slice ka ks.length kc) ∧ W'.cell? ⟨w.heap.size, 4, none⟩ = some (.slice ia its.length ic) ∧ W'.cell? ⟨gp, op, none⟩ = some (.bool q) ∧ W'.cell? ⟨gp, op + 1, none⟩ = some (.string key) ∧ W'.cell? ⟨gp, op + 2, none⟩ = some (.int .i64 ix))) := fun W' hk => by
    obtain ⟨x0, x1, x2, x3, x4, -⟩ := box_cells ((hk.block _ (lt_of_block hb0)).trans hb0)
    exact ⟨x0, x1, x2, x3, x4, keepc (nxt HB.out.1 hk) _ _ HPC.out.1, keepc (nxt HB.out.1 hk) _ _ HPC.out.2.1, keepc (nxt HB.out.1 hk) _ _ HPC.out.2.2⟩
  clear hb hst hb0 hsz HPC
  have hcur : Below W.heap.size W W := Below.refl _ _
  go_wp2_with fail
  go_region_held3 (fun w' => (w'.cell? ⟨w.heap.size, 0, none⟩ = some (.int .i64 k) ∧ w'.cell? ⟨w.heap.size, 1, none⟩ = some (.int .u64 b) ∧ w'.cell? ⟨w.heap.size, 2, none⟩ = some (.string t) ∧ w'.cell? ⟨w.heap.size, 3, none⟩ = some (.slice ka ks.length kc) ∧ w'.cell? ⟨w.heap.size, 4, none⟩ = some (.slice ia its.length ic) ∧ w'.cell? ⟨gp, op, none⟩ = some (.bool q) ∧ w'.cell? ⟨gp, op + 1, none⟩ = some (.string key) ∧ w'.cell? ⟨gp, op + 2, none⟩ = some (.int .i64 ix))) ((first | with_reducible exact HSP.out _ hcur | with_reducible exact HSP.out _ hcur.drew)) ((go_at_call 16; refine (HPL.out _ (HB.out.1.drew)).mono ?_; rintro e w5 ⟨rfl, hb5⟩; have hcur : Below W.heap.size W w5 := hcur.drew.trans hb5))
  all_goals
    have B2 : Hid (Below w.heap.size w w5) := nxt HB.out.1 hcur
    obtain ⟨u0, u1, u2, u3, u4, v0, v1, v2, v3, v4⟩ := box_cells ((hcur.block _ (lt_of_block HRB.out)).trans HRB.out)
    go_wp2_with fail
    refine bodyPost_ret (v := .tuple #[mk 0 0 ⟨#[]⟩ none 0 0 none 0 0, .int .i64 r.1]) (by simp [results, Try.results20, go_sem, u0, u1, u2, u3, u4]) rfl ?_
    exact set_done (by omega) (Kept.of_below B2.out) (fun h => absurd h HE.out) (fun _ => rfl)
end Go.Proofs.Ytkjiiggboblioaa
