/-
  The program's take: any patch. (Printed by wip/make/mkdotake.py.)
-/
import Derived.Test.YtcdnakcojanaeabGreatDoMarkJ
import Derived.Test.YtcdnakcojanaeabGreatDoKeepMJ
namespace Go.Proofs.YtcdnakcojanaeabGreat
open Go.ChangeShapes Go.WideShapes Go.ChangeAt Go.RowKit Go.Deep
open Do

theorem okd_out {s : Ds} (h : OkD s) : ∀ x q, pl s.nodes x = some q → Out s.nodes (s.nodes.length + 1) x := by
  intro x q hq
  obtain ⟨n, h1, -⟩ := pl_some hq
  obtain ⟨k, hk⟩ := (h.good.at (at_nd hq h1)).out
  exact (out_len hk).mono (by omega)
theorem okd_par {s : Ds} (h : OkD s) : ∀ n ∈ s.nodes, n.par ≠ 0 → ∃ q, pl s.nodes n.par = some q := by
  intro n hn h0
  obtain ⟨m, h1, -⟩ := h.good.par n hn h0
  obtain ⟨q, h2, -⟩ := nd_at h1
  exact ⟨q, h2⟩
theorem okd_kids {s : Ds} (h : OkD s) : ∀ n ∈ s.nodes, n.kids.length ≤ 32 := fun n hn => (alone_iff.1 (h.good.alone n hn)).2.2
theorem okd_ats {s : Ds} (h : OkD s) : ∀ n ∈ s.nodes, UpA n.ats ∧ n.ats.length ≤ 16 := fun n hn => alone_upA (h.good.alone n hn)

theorem PtPost.from {w W w' : World} {B P : Nat} {e : Ending} {r : Int × Ds} (hb : Below B w W) (h : PtPost W w' B P e r) : PtPost w w' B P e r := ⟨h.1, h.2.1, hb.trans h.2.2⟩

set_option maxRecDepth 100000 in
set_option maxHeartbeats 1600000 in
theorem take_any (s : Ds) (p : Pt) (B P : Nat) (w : World) (hs : DsAt w B P s) (hp : PtOk p) (hB : B ≤ w.heap.size) (hok : OkD s) :
    Calls Tryz.prog 16 #[.pointer (some ⟨P, 0, none⟩), mkP p] w fun e w' => PtPost w w' B P e (takeD s p) := by
  have HS : Hid (∀ W, Below w.heap.size w W → DsAt W B P s) := fun W hb => hs.below hb
  have HOK : Hid (OkD s) := hok
  have HPO : Hid (PtOk p) := hp
  clear hs hok hp
  obtain ⟨P0, hP0⟩ : ∃ q : Pt, q = p := ⟨p, rfl⟩
  have HPE : Hid (P0 = p) := hP0
  obtain ⟨ns, root, next⟩ := s
  obtain ⟨pw, pi, pp, pat, pg, pk, pt, pn, pv⟩ := p
  subst hP0
  simp only at *
  have B1 : Hid (Below w.heap.size w (w.alloc (.cells #[.int .i64 pw, .int .i64 pi, .int .i64 pp, .int .i64 pat, .string pg, .string pk, .string pt, .string pn, .string pv] 35))) := below_one _ _
  have X1 : Hid ((w.alloc (.cells #[.int .i64 pw, .int .i64 pi, .int .i64 pp, .int .i64 pat, .string pg, .string pk, .string pt, .string pn, .string pv] 35)).heap[w.heap.size]? = some (.cells #[.int .i64 pw, .int .i64 pi, .int .i64 pp, .int .i64 pat, .string pg, .string pk, .string pt, .string pn, .string pv] 35 (0, 0))) := heap_alloc_new _ _
  have HBW : Hid (Below B w (w.alloc (.cells #[.int .i64 pw, .int .i64 pi, .int .i64 pp, .int .i64 pat, .string pg, .string pk, .string pt, .string pn, .string pv] 35))) := (below_one w _).mono hB
  by_cases h1 : pw = 1
  · subst h1
    have HR : Hid (takeD ⟨ns, root, next⟩ ⟨1, pi, pp, pat, pg, pk, pt, pn, pv⟩ = createD ⟨ns, root, next⟩ ⟨1, pi, pp, pat, pg, pk, pt, pn, pv⟩) := by show _ = _; unfold takeD; simp
    have HC : Hid (∀ W, Below w.heap.size w W → Calls Tryz.prog 39 #[.pointer (some ⟨P, 0, none⟩), mkP ⟨1, pi, pp, pat, pg, pk, pt, pn, pv⟩] W fun e w' => PtPost W w' B P e (createD ⟨ns, root, next⟩ ⟨1, pi, pp, pat, pg, pk, pt, pn, pv⟩)) := fun W hb => create_any ⟨ns, root, next⟩ ⟨1, pi, pp, pat, pg, pk, pt, pn, pv⟩ B P W (HS.out W hb) HPO.out (Nat.le_trans hB hb.size) HOK.out.len HOK.out.nx
    clear HS HOK HPO HPE
    obtain ⟨y0, y1, y2, y3, y4, y5, y6, y7, y8⟩ := nine X1.out
    go_enter Tryz.func16, Tryz.ntmps16
    go_wp2_with (go_at_call 39; refine (HC.out _ B1.out).mono ?_; rintro e w2 ⟨rfl, h2, hb2⟩; have H2 : Hid (DsAt w2 B P (createD ⟨ns, root, next⟩ ⟨1, pi, pp, pat, pg, pk, pt, pn, pv⟩).2 ∧ Below B w w2) := ⟨h2, HBW.out.trans hb2⟩; clear h2 hb2)
    go_ret
    rw [HR.out]
    exact ⟨rfl, H2.out⟩
  · have g1 : (pw == 1) = false := by simpa using h1
    by_cases h2 : pw = 2
    · subst h2
      have HR : Hid (takeD ⟨ns, root, next⟩ ⟨2, pi, pp, pat, pg, pk, pt, pn, pv⟩ = hangD ⟨ns, root, next⟩ ⟨2, pi, pp, pat, pg, pk, pt, pn, pv⟩) := by show _ = _; unfold takeD; simp
      have HC : Hid (∀ W, Below w.heap.size w W → Calls Tryz.prog 40 #[.pointer (some ⟨P, 0, none⟩), mkP ⟨2, pi, pp, pat, pg, pk, pt, pn, pv⟩] W fun e w' => PtPost W w' B P e (hangD ⟨ns, root, next⟩ ⟨2, pi, pp, pat, pg, pk, pt, pn, pv⟩)) := fun W hb => hang_any ⟨ns, root, next⟩ ⟨2, pi, pp, pat, pg, pk, pt, pn, pv⟩ B P W (HS.out W hb) HPO.out (Nat.le_trans hB hb.size) HOK.out.len HOK.out.good.up (okd_out HOK.out) (okd_par HOK.out) (okd_kids HOK.out)
      clear HS HOK HPO HPE
      obtain ⟨y0, y1, y2, y3, y4, y5, y6, y7, y8⟩ := nine X1.out
      go_enter Tryz.func16, Tryz.ntmps16
      go_wp2_with (go_at_call 40; refine (HC.out _ B1.out).mono ?_; rintro e w2 ⟨rfl, h2, hb2⟩; have H2 : Hid (DsAt w2 B P (hangD ⟨ns, root, next⟩ ⟨2, pi, pp, pat, pg, pk, pt, pn, pv⟩).2 ∧ Below B w w2) := ⟨h2, HBW.out.trans hb2⟩; clear h2 hb2)
      go_ret
      rw [HR.out]
      exact ⟨rfl, H2.out⟩
    · have g2 : (pw == 2) = false := by simpa using h2
      by_cases h3 : pw = 3
      · subst h3
        have HR : Hid (takeD ⟨ns, root, next⟩ ⟨3, pi, pp, pat, pg, pk, pt, pn, pv⟩ = awayD ⟨ns, root, next⟩ ⟨3, pi, pp, pat, pg, pk, pt, pn, pv⟩) := by show _ = _; unfold takeD; simp
        have HC : Hid (∀ W, Below w.heap.size w W → Calls Tryz.prog 41 #[.pointer (some ⟨P, 0, none⟩), mkP ⟨3, pi, pp, pat, pg, pk, pt, pn, pv⟩] W fun e w' => PtPost W w' B P e (awayD ⟨ns, root, next⟩ ⟨3, pi, pp, pat, pg, pk, pt, pn, pv⟩)) := fun W hb => away_any ⟨ns, root, next⟩ ⟨3, pi, pp, pat, pg, pk, pt, pn, pv⟩ B P W (HS.out W hb) (Nat.le_trans hB hb.size) HOK.out
        clear HS HOK HPO HPE
        obtain ⟨y0, y1, y2, y3, y4, y5, y6, y7, y8⟩ := nine X1.out
        go_enter Tryz.func16, Tryz.ntmps16
        go_wp2_with (go_at_call 41; refine (HC.out _ B1.out).mono ?_; rintro e w2 ⟨rfl, h2, hb2⟩; have H2 : Hid (DsAt w2 B P (awayD ⟨ns, root, next⟩ ⟨3, pi, pp, pat, pg, pk, pt, pn, pv⟩).2 ∧ Below B w w2) := ⟨h2, HBW.out.trans hb2⟩; clear h2 hb2)
        go_ret
        rw [HR.out]
        exact ⟨rfl, H2.out⟩
      · have g3 : (pw == 3) = false := by simpa using h3
        by_cases h4 : pw = 4
        · subst h4
          have HR : Hid (takeD ⟨ns, root, next⟩ ⟨4, pi, pp, pat, pg, pk, pt, pn, pv⟩ = setD ⟨ns, root, next⟩ ⟨4, pi, pp, pat, pg, pk, pt, pn, pv⟩) := by show _ = _; unfold takeD; simp
          have HC : Hid (∀ W, Below w.heap.size w W → Calls Tryz.prog 42 #[.pointer (some ⟨P, 0, none⟩), mkP ⟨4, pi, pp, pat, pg, pk, pt, pn, pv⟩] W fun e w' => PtPost W w' B P e (setD ⟨ns, root, next⟩ ⟨4, pi, pp, pat, pg, pk, pt, pn, pv⟩)) := fun W hb => set_any ⟨ns, root, next⟩ ⟨4, pi, pp, pat, pg, pk, pt, pn, pv⟩ B P W (HS.out W hb) HPO.out (Nat.le_trans hB hb.size) HOK.out.len HOK.out.good.up (okd_ats HOK.out)
          clear HS HOK HPO HPE
          obtain ⟨y0, y1, y2, y3, y4, y5, y6, y7, y8⟩ := nine X1.out
          go_enter Tryz.func16, Tryz.ntmps16
          go_wp2_with (go_at_call 42; refine (HC.out _ B1.out).mono ?_; rintro e w2 ⟨rfl, h2, hb2⟩; have H2 : Hid (DsAt w2 B P (setD ⟨ns, root, next⟩ ⟨4, pi, pp, pat, pg, pk, pt, pn, pv⟩).2 ∧ Below B w w2) := ⟨h2, HBW.out.trans hb2⟩; clear h2 hb2)
          go_ret
          rw [HR.out]
          exact ⟨rfl, H2.out⟩
        · have g4 : (pw == 4) = false := by simpa using h4
          by_cases h5 : pw = 5
          · subst h5
            have HR : Hid (takeD ⟨ns, root, next⟩ ⟨5, pi, pp, pat, pg, pk, pt, pn, pv⟩ = unsetD ⟨ns, root, next⟩ ⟨5, pi, pp, pat, pg, pk, pt, pn, pv⟩) := by show _ = _; unfold takeD; simp
            have HC : Hid (∀ W, Below w.heap.size w W → Calls Tryz.prog 43 #[.pointer (some ⟨P, 0, none⟩), mkP ⟨5, pi, pp, pat, pg, pk, pt, pn, pv⟩] W fun e w' => PtPost W w' B P e (unsetD ⟨ns, root, next⟩ ⟨5, pi, pp, pat, pg, pk, pt, pn, pv⟩)) := fun W hb => unset_any ⟨ns, root, next⟩ ⟨5, pi, pp, pat, pg, pk, pt, pn, pv⟩ B P W (HS.out W hb) (Nat.le_trans hB hb.size) HOK.out.len HOK.out.good.up (okd_ats HOK.out)
            clear HS HOK HPO HPE
            obtain ⟨y0, y1, y2, y3, y4, y5, y6, y7, y8⟩ := nine X1.out
            go_enter Tryz.func16, Tryz.ntmps16
            go_wp2_with (go_at_call 43; refine (HC.out _ B1.out).mono ?_; rintro e w2 ⟨rfl, h2, hb2⟩; have H2 : Hid (DsAt w2 B P (unsetD ⟨ns, root, next⟩ ⟨5, pi, pp, pat, pg, pk, pt, pn, pv⟩).2 ∧ Below B w w2) := ⟨h2, HBW.out.trans hb2⟩; clear h2 hb2)
            go_ret
            rw [HR.out]
            exact ⟨rfl, H2.out⟩
          · have g5 : (pw == 5) = false := by simpa using h5
            by_cases h6 : pw = 6
            · subst h6
              have HR : Hid (takeD ⟨ns, root, next⟩ ⟨6, pi, pp, pat, pg, pk, pt, pn, pv⟩ = textD ⟨ns, root, next⟩ ⟨6, pi, pp, pat, pg, pk, pt, pn, pv⟩) := by show _ = _; unfold takeD; simp
              have HC : Hid (∀ W, Below w.heap.size w W → Calls Tryz.prog 44 #[.pointer (some ⟨P, 0, none⟩), mkP ⟨6, pi, pp, pat, pg, pk, pt, pn, pv⟩] W fun e w' => PtPost W w' B P e (textD ⟨ns, root, next⟩ ⟨6, pi, pp, pat, pg, pk, pt, pn, pv⟩)) := fun W hb => setText_any ⟨ns, root, next⟩ ⟨6, pi, pp, pat, pg, pk, pt, pn, pv⟩ B P W (HS.out W hb) HPO.out (Nat.le_trans hB hb.size) HOK.out.len HOK.out.good.up
              clear HS HOK HPO HPE
              obtain ⟨y0, y1, y2, y3, y4, y5, y6, y7, y8⟩ := nine X1.out
              go_enter Tryz.func16, Tryz.ntmps16
              go_wp2_with (go_at_call 44; refine (HC.out _ B1.out).mono ?_; rintro e w2 ⟨rfl, h2, hb2⟩; have H2 : Hid (DsAt w2 B P (textD ⟨ns, root, next⟩ ⟨6, pi, pp, pat, pg, pk, pt, pn, pv⟩).2 ∧ Below B w w2) := ⟨h2, HBW.out.trans hb2⟩; clear h2 hb2)
              go_ret
              rw [HR.out]
              exact ⟨rfl, H2.out⟩
            · have g6 : (pw == 6) = false := by simpa using h6
              by_cases h7 : pw = 7
              · subst h7
                have HR : Hid (takeD ⟨ns, root, next⟩ ⟨7, pi, pp, pat, pg, pk, pt, pn, pv⟩ = rootD ⟨ns, root, next⟩ ⟨7, pi, pp, pat, pg, pk, pt, pn, pv⟩) := by show _ = _; unfold takeD; simp
                have HC : Hid (∀ W, Below w.heap.size w W → Calls Tryz.prog 45 #[.pointer (some ⟨P, 0, none⟩), mkP ⟨7, pi, pp, pat, pg, pk, pt, pn, pv⟩] W fun e w' => PtPost W w' B P e (rootD ⟨ns, root, next⟩ ⟨7, pi, pp, pat, pg, pk, pt, pn, pv⟩)) := fun W hb => setRoot_any ⟨ns, root, next⟩ ⟨7, pi, pp, pat, pg, pk, pt, pn, pv⟩ B P W (HS.out W hb) (Nat.le_trans hB hb.size) HOK.out.len HOK.out.good.up
                clear HS HOK HPO HPE
                obtain ⟨y0, y1, y2, y3, y4, y5, y6, y7, y8⟩ := nine X1.out
                go_enter Tryz.func16, Tryz.ntmps16
                go_wp2_with (go_at_call 45; refine (HC.out _ B1.out).mono ?_; rintro e w2 ⟨rfl, h2, hb2⟩; have H2 : Hid (DsAt w2 B P (rootD ⟨ns, root, next⟩ ⟨7, pi, pp, pat, pg, pk, pt, pn, pv⟩).2 ∧ Below B w w2) := ⟨h2, HBW.out.trans hb2⟩; clear h2 hb2)
                go_ret
                rw [HR.out]
                exact ⟨rfl, H2.out⟩
              · have g7 : (pw == 7) = false := by simpa using h7
                have HR : Hid (takeD ⟨ns, root, next⟩ ⟨pw, pi, pp, pat, pg, pk, pt, pn, pv⟩ = (22, ⟨ns, root, next⟩)) := by show _ = _; unfold takeD; simp [h1, h2, h3, h4, h5, h6, h7]
                have HST : Hid (DsAt (w.alloc (.cells #[.int .i64 pw, .int .i64 pi, .int .i64 pp, .int .i64 pat, .string pg, .string pk, .string pt, .string pn, .string pv] 35)) B P ⟨ns, root, next⟩) := HS.out _ B1.out
                clear HS HOK HPO HPE h1 h2 h3 h4 h5 h6 h7
                obtain ⟨y0, y1, y2, y3, y4, y5, y6, y7, y8⟩ := nine X1.out
                go_enter Tryz.func16, Tryz.ntmps16
                go_wp2_with fail
                go_ret
                rw [HR.out]
                exact ⟨rfl, HST.out, HBW.out⟩
end Go.Proofs.YtcdnakcojanaeabGreat

/-
  The program's Apply: a patch done to a copy.
-/
namespace Go.Proofs.YtcdnakcojanaeabGreat
open Go.ChangeShapes Go.WideShapes Go.ChangeAt Go.RowKit Go.Deep
open Do

namespace Do
/-- No display. -/
def noD : Ds := ⟨[], 0, 0⟩
/-- What Apply answers. -/
def applyD (s : Ds) (p : Pt) : Int × Ds := if okD s = true then (if (takeD s p).1 = 0 then takeD s p else ((takeD s p).1, noD)) else (9, noD)
end Do

theorem noD_own (w : World) (B : Nat) : DsOwn w B (.agg #[.slice none 0 0, .int .i64 0, .int .i64 0]) noD :=
  ⟨.slice none 0 0, fun _ => .slice none 0 0, fun _ => .slice none 0 0, rfl, ⟨World.ownsRow_nil _ _ _ _, (fun i n h => by simp [noD] at h), (fun i n h => by simp [noD] at h), (fun i j g h => by simp [noD] at h), (fun i j g h => by simp [noD] at h), (fun n h => by simp [noD] at h)⟩⟩

/-- A display and an error are answered. -/
def DsPost (w w' : World) (e : Ending) (r : Int × Ds) : Prop := ∃ x, e = .returned (.tuple #[x, .int .i64 r.1]) ∧ DsOwn w' w.heap.size x r.2 ∧ Below w.heap.size w w'

/-- The three cells of a display's variable are set. -/
theorem state_fin {W : World} {R : Nat} {z0 z1 z2 v r n : Value} {t : TypeId} (h : W.heap[R]? = some (.cells #[z0, z1, z2] t (0, 0))) :
    (((W.setCell ⟨R, 0, none⟩ v).setCell ⟨R, 1, none⟩ r).setCell ⟨R, 2, none⟩ n).heap[R]? = some (.cells #[v, r, n] t (0, 0)) ∧ (∀ b, b ≠ R → (((W.setCell ⟨R, 0, none⟩ v).setCell ⟨R, 1, none⟩ r).setCell ⟨R, 2, none⟩ n).heap[b]? = W.heap[b]?) ∧
      (∀ B w, B ≤ R → Below B w W → Below B w (((W.setCell ⟨R, 0, none⟩ v).setCell ⟨R, 1, none⟩ r).setCell ⟨R, 2, none⟩ n)) := by
  have keep : ∀ b, b ≠ R → (((W.setCell ⟨R, 0, none⟩ v).setCell ⟨R, 1, none⟩ r).setCell ⟨R, 2, none⟩ n).heap[b]? = W.heap[b]? := fun b hb => (heap_set_other _ hb).trans ((heap_set_other _ hb).trans (heap_set_other _ hb))
  refine ⟨?_, keep, fun B w hB hb => ⟨hb.os, hb.tape, hb.output, by have := hb.size; simpa [World.setCell] using this, fun j hj => (keep j (by omega)).trans (hb.block j hj)⟩⟩
  rw [set_one_cell (set_one_cell (set_one_cell h _) _) _]
  simp

theorem DsOwn.same {w w' : World} {B : Nat} {x : Value} {s : Ds} (h : DsOwn w B x s) (hk : ∀ b, B ≤ b → w'.heap[b]? = w.heap[b]?) : DsOwn w' B x s := by
  obtain ⟨v, ab, kb, h1, h2⟩ := h
  exact ⟨v, ab, kb, h1, h2.same fun b hb => hk b (h2.foot hb).1⟩
theorem DsOwn.less {w : World} {B B' : Nat} {x : Value} {s : Ds} (h : DsOwn w B x s) (hB : B' ≤ B) : DsOwn w B' x s := by
  obtain ⟨v, ab, kb, h1, h2⟩ := h
  exact ⟨v, ab, kb, h1, h2.less hB⟩
theorem DsOwn.below {w w' : World} {B : Nat} {x : Value} {s : Ds} (h : DsOwn w B x s) (hb : Below w.heap.size w w') : DsOwn w' B x s := by
  obtain ⟨v, ab, kb, h1, h2⟩ := h
  exact ⟨v, ab, kb, h1, h2.below hb⟩

set_option maxRecDepth 100000 in
set_option maxHeartbeats 3200000 in
theorem apply_any (s : Ds) (p : Pt) (a : Option Addr) (c : Nat) (w : World) (hs : DsIs w s a c) (hp : PtOk p) :
    Calls Tryz.prog 6 #[.agg #[.slice a s.nodes.length c, .int .i64 s.root, .int .i64 s.next], mkP p] w fun e w' => DsPost w w' e (applyD s p) := by
  have HS : Hid (∀ W, Below w.heap.size w W → DsIs W s a c) := fun W hb => hs.below hb
  have HPO : Hid (PtOk p) := hp
  have HCK : Hid (∀ W, Below w.heap.size w W → Calls Tryz.prog 14 #[.agg #[.slice a s.nodes.length c, .int .i64 s.root, .int .i64 s.next]] W fun e w' => e = .returned (.int .i64 (chkD s)) ∧ Below W.heap.size W w') := fun W hb => checkD_any s a c W (hs.below hb)
  have HCP : Hid (∀ W, Below w.heap.size w W → Calls Tryz.prog 15 #[.agg #[.slice a s.nodes.length c, .int .i64 s.root, .int .i64 s.next]] W fun e w' => ∃ x, e = .returned x ∧ DsOwn w' W.heap.size x s ∧ Below W.heap.size W w') := fun W hb => copyD_any s a c W (hs.below hb)
  have HTK : Hid (∀ W B P, DsAt W B P s → B ≤ W.heap.size → okD s = true → Calls Tryz.prog 16 #[.pointer (some ⟨P, 0, none⟩), mkP p] W fun e w' => PtPost W w' B P e (takeD s p)) := fun W B P h1 h2 h3 => take_any s p B P W h1 hp h2 (okD_iff.1 h3)
  have HAP : Hid (applyD s p = _) := rfl
  unfold applyD chkD at *
  clear hs hp HPO HS
  generalize hr : takeD s p = r at *
  generalize hk : okD s = k at *
  clear hr hk
  obtain ⟨K3, hK3⟩ : ∃ W : World, W = ((w.alloc (.cells #[.slice a s.nodes.length c, .int .i64 s.root, .int .i64 s.next] 30)).alloc (.cells #[.int .i64 p.what, .int .i64 p.id, .int .i64 p.par, .int .i64 p.at_, .string p.tag, .string p.key, .string p.txt, .string p.name, .string p.val] 35)).alloc (.cells #[.slice none 0 0, .int .i64 0, .int .i64 0] 30) := ⟨_, rfl⟩
  have B3 : Hid (Below w.heap.size w K3) := by show Below _ _ _; rw [hK3]; exact nxt (two_new _ _ _) (below_one _ _)
  have Y0 : Hid (K3.heap[w.heap.size]? = some (.cells #[.slice a s.nodes.length c, .int .i64 s.root, .int .i64 s.next] 30 (0, 0))) := by show _ = _; rw [hK3]; exact ((below_one _ _).block _ (by simp; omega)).trans (((below_one _ _).block _ (by simp)).trans (heap_alloc_new _ _))
  have Y1 : Hid (K3.heap[w.heap.size + 1]? = some (.cells #[.int .i64 p.what, .int .i64 p.id, .int .i64 p.par, .int .i64 p.at_, .string p.tag, .string p.key, .string p.txt, .string p.name, .string p.val] 35 (0, 0))) := by show _ = _; rw [hK3]; exact ((below_one _ _).block _ (by simp)).trans (heap_new2 _ _ _)
  have Y2 : Hid (K3.heap[w.heap.size + 2]? = some (.cells #[.slice none 0 0, .int .i64 0, .int .i64 0] 30 (0, 0))) := by show _ = _; rw [hK3]; have := heap_new2 ((w.alloc (.cells #[.slice a s.nodes.length c, .int .i64 s.root, .int .i64 s.next] 30))) (.cells #[.int .i64 p.what, .int .i64 p.id, .int .i64 p.par, .int .i64 p.at_, .string p.tag, .string p.key, .string p.txt, .string p.name, .string p.val] 35) (.cells #[.slice none 0 0, .int .i64 0, .int .i64 0] 30); simpa using this
  have Z3 : Hid (K3.heap.size = w.heap.size + 3) := by show _ = _; rw [hK3]; simp
  go_enter Tryz.func6, Tryz.ntmps6
  go_wp2_with fail
  rw [← hK3]
  clear hK3
  obtain ⟨y0, y1, y2⟩ := three Y0.out
  cases k with
  | false =>
    have HC9 : Hid (∀ W, Below w.heap.size w W → Calls Tryz.prog 14 #[.agg #[.slice a s.nodes.length c, .int .i64 s.root, .int .i64 s.next]] W fun e w' => e = .returned (.int .i64 9) ∧ Below W.heap.size W w') := HCK.out
    clear HCK HCP HTK
    go_wp2_with fail
    refine (HC9.out K3 B3.out).mono ?_
    rintro e w4 ⟨rfl, hb4⟩
    have B4 : Hid (Below w.heap.size w w4) := nxt B3.out hb4
    have R4 : Hid (w4.heap[w.heap.size + 2]? = _) := (hb4.block _ (lt_of_block Y2.out)).trans Y2.out
    obtain ⟨z0, z0f⟩ := cell_of R4.out 0
    obtain ⟨z1, z1f⟩ := cell_of R4.out 1
    obtain ⟨z2, z2f⟩ := cell_of R4.out 2
    simp at z0 z1 z2
    clear hb4 y0 y1 y2
    go_wp2_with fail
    obtain ⟨f1, f2, f3⟩ := state_fin (v := .slice none 0 0) (r := .int .i64 0) (n := .int .i64 0) R4.out
    have f3 := f3 w.heap.size w (by omega) B4.out
    generalize ((w4.setCell ⟨w.heap.size + 2, 0, none⟩ (.slice none 0 0)).setCell ⟨w.heap.size + 2, 1, none⟩ (.int .i64 0)).setCell ⟨w.heap.size + 2, 2, none⟩ (.int .i64 0) = W8 at *
    obtain ⟨c0, c1, c2⟩ := three f1
    refine bodyPost_ret (v := .tuple #[.agg #[.slice none 0 0, .int .i64 0, .int .i64 0], .int .i64 9]) (by simp [results, Tryz.results6, go_sem, c0, c1, c2]) rfl ?_
    exact ⟨_, rfl, noD_own _ _, f3⟩
  | true =>
    have HC0 : Hid (∀ W, Below w.heap.size w W → Calls Tryz.prog 14 #[.agg #[.slice a s.nodes.length c, .int .i64 s.root, .int .i64 s.next]] W fun e w' => e = .returned (.int .i64 0) ∧ Below W.heap.size W w') := HCK.out
    clear HCK
    go_wp2_with fail
    refine (HC0.out K3 B3.out).mono ?_
    rintro e w4 ⟨rfl, hb4⟩
    have B4 : Hid (Below w.heap.size w w4) := nxt B3.out hb4
    have R4 : Hid (w4.heap[w.heap.size + 2]? = _) := (hb4.block _ (lt_of_block Y2.out)).trans Y2.out
    have S4 : Hid (w4.heap[w.heap.size]? = _) := (hb4.block _ (lt_of_block Y0.out)).trans Y0.out
    have P4 : Hid (w4.heap[w.heap.size + 1]? = _) := (hb4.block _ (lt_of_block Y1.out)).trans Y1.out
    clear hb4 y0 y1 y2
    obtain ⟨y0, y1, y2⟩ := three S4.out
    go_wp2_with fail
    refine (HCP.out w4 B4.out).mono ?_
    rintro e w5 ⟨x, rfl, hx5, hb5⟩
    obtain ⟨v, ab, kb, rfl, hO⟩ := hx5
    obtain ⟨va, vc, hvs⟩ := hO.shape
    subst hvs
    have B5 : Hid (Below w.heap.size w w5) := nxt B4.out hb5
    have R5 : Hid (w5.heap[w.heap.size + 2]? = _) := (hb5.block _ (lt_of_block R4.out)).trans R4.out
    have P5 : Hid (w5.heap[w.heap.size + 1]? = _) := (hb5.block _ (lt_of_block P4.out)).trans P4.out
    have D6 : Hid (DsAt (w5.alloc (.cells #[.slice va s.nodes.length vc, .int .i64 s.root, .int .i64 s.next] 30)) w4.heap.size w5.heap.size s) := ⟨_, ab, kb, heap_alloc_new _ _, hO.below (below_one _ _), hb5.size⟩
    have HB6 : Hid (w4.heap.size ≤ (w5.alloc (.cells #[.slice va s.nodes.length vc, .int .i64 s.root, .int .i64 s.next] 30)).heap.size) := Nat.le_trans hb5.size (below_one _ _).size
    have B6 : Hid (Below w.heap.size w (w5.alloc (.cells #[.slice va s.nodes.length vc, .int .i64 s.root, .int .i64 s.next] 30))) := nxt B5.out (below_one _ _)
    have P6 : Hid ((w5.alloc (.cells #[.slice va s.nodes.length vc, .int .i64 s.root, .int .i64 s.next] 30)).heap[w.heap.size + 1]? = _) := ((below_one _ _).block _ (lt_of_block P5.out)).trans P5.out
    have R6 : Hid ((w5.alloc (.cells #[.slice va s.nodes.length vc, .int .i64 s.root, .int .i64 s.next] 30)).heap[w.heap.size + 2]? = _) := ((below_one _ _).block _ (lt_of_block R5.out)).trans R5.out
    have HT6 := HTK.out _ _ _ D6.out HB6.out (by trivial)
    clear hO hb5 y0 y1 y2
    obtain ⟨n0, n1, n2, n3, n4, n5, n6, n7, n8⟩ := nine P6.out
    have HT6' : Hid (Calls Tryz.prog 16 #[.pointer (some ⟨w5.heap.size, 0, none⟩), mkP p] (w5.alloc (.cells #[.slice va s.nodes.length vc, .int .i64 s.root, .int .i64 s.next] 30)) _) := HT6
    clear HT6
    go_wp2_with fail
    clear n0 n1 n2 n3 n4 n5 n6 n7 n8
    generalize w5.alloc (.cells #[.slice va s.nodes.length vc, .int .i64 s.root, .int .i64 s.next] 30) = W6 at *
    refine HT6'.out.mono ?_
    rintro e w7 ⟨rfl, hd7, hb7⟩
    obtain ⟨v7, ab7, kb7, hP7, hO7, hBP7⟩ := hd7
    obtain ⟨v7a, v7c, hv7⟩ := hO7.shape
    subst hv7
    have HL4 : Hid (w.heap.size + 3 ≤ w4.heap.size) := by show _ ≤ _; have h1 := lt_of_block R4.out; omega
    have B7 : Hid (Below w.heap.size w w7) := B6.out.trans (hb7.mono (by have := HL4.out; omega))
    have R7 : Hid (w7.heap[w.heap.size + 2]? = _) := (hb7.block _ (by have := HL4.out; omega)).trans R6.out
    have P7 : Hid (w7.heap[w5.heap.size]? = some (.cells #[.slice v7a r.2.nodes.length v7c, .int .i64 r.2.root, .int .i64 r.2.next] 30 (0, 0))) := hP7
    have O7 : Hid (OwnN w7 w4.heap.size (.slice v7a r.2.nodes.length v7c) r.2.nodes ab7 kb7) := hO7
    clear hP7 hO7 hBP7 hb7 HT6'
    obtain ⟨z0, z0f⟩ := cell_of R7.out 0
    obtain ⟨z1, z1f⟩ := cell_of R7.out 1
    obtain ⟨z2, z2f⟩ := cell_of R7.out 2
    simp at z0 z1 z2
    by_cases h0 : r.1 = 0
    · have g0 : (r.1 != 0) = false := by simpa using h0
      have HEQ : Hid (r.1 = 0) := h0
      clear h0
      obtain ⟨q0, q1, q2⟩ := three P7.out
      go_wp2_with fail
      obtain ⟨f1, f2, f3⟩ := state_fin (v := .slice v7a r.2.nodes.length v7c) (r := .int .i64 r.2.root) (n := .int .i64 r.2.next) R7.out
      have f3 := f3 w.heap.size w (by omega) B7.out
      generalize ((w7.setCell ⟨w.heap.size + 2, 0, none⟩ (.slice v7a r.2.nodes.length v7c)).setCell ⟨w.heap.size + 2, 1, none⟩ (.int .i64 r.2.root)).setCell ⟨w.heap.size + 2, 2, none⟩ (.int .i64 r.2.next) = W8 at *
      obtain ⟨c0, c1, c2⟩ := three f1
      refine bodyPost_ret (v := .tuple #[.agg #[.slice v7a r.2.nodes.length v7c, .int .i64 r.2.root, .int .i64 r.2.next], .int .i64 0]) (by simp [results, Tryz.results6, go_sem, c0, c1, c2]) rfl ?_
      refine ⟨_, by rw [HEQ.out], ⟨_, ab7, kb7, rfl, ?_⟩, f3⟩
      have hL := HL4.out
      exact (O7.out.same fun b hb => f2 b (by have := (O7.out.foot hb).1; omega)).less (by omega)
    · have g0 : (r.1 != 0) = true := by simpa using h0
      have HEQ : Hid (¬ r.1 = 0) := h0
      clear h0
      go_wp2_with fail
      obtain ⟨f1, f2, f3⟩ := state_fin (v := .slice none 0 0) (r := .int .i64 0) (n := .int .i64 0) R7.out
      have f3 := f3 w.heap.size w (by omega) B7.out
      generalize ((w7.setCell ⟨w.heap.size + 2, 0, none⟩ (.slice none 0 0)).setCell ⟨w.heap.size + 2, 1, none⟩ (.int .i64 0)).setCell ⟨w.heap.size + 2, 2, none⟩ (.int .i64 0) = W8 at *
      obtain ⟨c0, c1, c2⟩ := three f1
      refine bodyPost_ret (v := .tuple #[.agg #[.slice none 0 0, .int .i64 0, .int .i64 0], .int .i64 r.1]) (by simp [results, Tryz.results6, go_sem, c0, c1, c2]) rfl ?_
      exact ⟨_, rfl, noD_own _ _, f3⟩
end Go.Proofs.YtcdnakcojanaeabGreat

/-
  The program's Run: patches one after another; its New.
-/
namespace Go.Proofs.YtcdnakcojanaeabGreat
open Go.ChangeShapes Go.WideShapes Go.ChangeAt Go.RowKit Go.Deep
open Do

namespace Do
/-- Patches one after another, k were done: the display behind them, how many were done, the error. -/
def runL : Ds → List Pt → Nat → Ds × Nat × Int
  | s, [], k => (s, k, 0)
  | s, p :: r, k => if (takeD s p).1 = 0 then runL (takeD s p).2 r (k + 1) else (s, k, (takeD s p).1)
/-- What Run answers. -/
def runD (s : Ds) (ps : List Pt) : Ds × Nat × Int := if okD s = true then runL s ps 0 else (noD, 0, 9)

theorem runL_cons {s : Ds} {p : Pt} {r : List Pt} {k : Nat} : runL s (p :: r) k = if (takeD s p).1 = 0 then runL (takeD s p).2 r (k + 1) else (s, k, (takeD s p).1) := rfl
end Do

/-- A row of patches. -/
def LayP (w : World) (a : Option Addr) (ps : List Pt) : Prop := ∀ i p, ps[i]? = some p → ∃ b o, a = some ⟨b, o, none⟩ ∧
  (w.cell? ⟨b, o + i * 9, none⟩ = some (.int .i64 p.what) ∧ w.cell? ⟨b, o + i * 9 + 1, none⟩ = some (.int .i64 p.id) ∧ w.cell? ⟨b, o + i * 9 + 2, none⟩ = some (.int .i64 p.par) ∧ w.cell? ⟨b, o + i * 9 + 3, none⟩ = some (.int .i64 p.at_) ∧
    w.cell? ⟨b, o + i * 9 + 4, none⟩ = some (.string p.tag) ∧ w.cell? ⟨b, o + i * 9 + 5, none⟩ = some (.string p.key) ∧ w.cell? ⟨b, o + i * 9 + 6, none⟩ = some (.string p.txt) ∧ w.cell? ⟨b, o + i * 9 + 7, none⟩ = some (.string p.name) ∧ w.cell? ⟨b, o + i * 9 + 8, none⟩ = some (.string p.val)) ∧ PtOk p

theorem LayP.below {w w' : World} {a : Option Addr} {ps : List Pt} (h : LayP w a ps) (hb : Below w.heap.size w w') : LayP w' a ps := by
  intro i p hi
  obtain ⟨b, o, h1, ⟨q0, q1, q2, q3, q4, q5, q6, q7, q8⟩, h3⟩ := h i p hi
  exact ⟨b, o, h1, ⟨keepc hb _ _ q0, keepc hb _ _ q1, keepc hb _ _ q2, keepc hb _ _ q3, keepc hb _ _ q4, keepc hb _ _ q5, keepc hb _ _ q6, keepc hb _ _ q7, keepc hb _ _ q8⟩, h3⟩

/-- A display, a number and an error are answered. -/
def RunPost (w w' : World) (e : Ending) (r : Ds × Nat × Int) : Prop := ∃ x, e = .returned (.tuple #[x, .int .i64 (r.2.1 : Int), .int .i64 r.2.2]) ∧ DsOwn w' w.heap.size x r.1 ∧ Below w.heap.size w w'

theorem new_any (w : World) : Calls Tryz.prog 11 #[] w fun e w' => e = .returned (.agg #[.slice none 0 0, .int .i64 0, .int .i64 1]) ∧ Below w.heap.size w w' := by
  go_enter Tryz.func11, Tryz.ntmps11
  go_wp2_with fail
  refine bodyPost_ret (v := .agg #[.slice none 0 0, .int .i64 0, .int .i64 1]) (by simp [results, Tryz.results11, go_sem]) rfl ?_
  exact ⟨rfl, below_one _ _⟩

set_option maxRecDepth 100000 in
set_option maxHeartbeats 3200000 in
theorem run_any (s : Ds) (ps : List Pt) (a : Option Addr) (c : Nat) (pa : Option Addr) (pc : Nat) (w : World) (hs : DsIs w s a c) (hl : LayP w pa ps) (hlen : ps.length ≤ 140737488351232) :
    Calls Tryz.prog 10 #[.agg #[.slice a s.nodes.length c, .int .i64 s.root, .int .i64 s.next], .slice pa ps.length pc] w fun e w' => RunPost w w' e (runD s ps) := by
  have HL : Hid (LayP w pa ps) := hl
  have HCK : Hid (∀ W, Below w.heap.size w W → Calls Tryz.prog 14 #[.agg #[.slice a s.nodes.length c, .int .i64 s.root, .int .i64 s.next]] W fun e w' => e = .returned (.int .i64 (chkD s)) ∧ Below W.heap.size W w') := fun W hb => checkD_any s a c W (hs.below hb)
  have HCP : Hid (∀ W, Below w.heap.size w W → Calls Tryz.prog 15 #[.agg #[.slice a s.nodes.length c, .int .i64 s.root, .int .i64 s.next]] W fun e w' => ∃ x, e = .returned x ∧ DsOwn w' W.heap.size x s ∧ Below W.heap.size W w') := fun W hb => copyD_any s a c W (hs.below hb)
  have HOK : Hid (okD s = true → OkD s) := fun h => okD_iff.1 h
  unfold runD
  unfold chkD at HCK
  clear hs hl
  generalize hk : okD s = k at *
  clear hk
  obtain ⟨K3, hK3⟩ : ∃ W : World, W = (w.alloc (.cells #[.slice a s.nodes.length c, .int .i64 s.root, .int .i64 s.next] 30)).alloc (.cells #[.slice none 0 0, .int .i64 0, .int .i64 0] 30) := ⟨_, rfl⟩
  have B3 : Hid (Below w.heap.size w K3) := by show Below _ _ _; rw [hK3]; exact two_new _ _ _
  have Y0 : Hid (K3.heap[w.heap.size]? = some (.cells #[.slice a s.nodes.length c, .int .i64 s.root, .int .i64 s.next] 30 (0, 0))) := by show _ = _; rw [hK3]; exact ((below_one _ _).block _ (by simp)).trans (heap_alloc_new _ _)
  have Y2 : Hid (K3.heap[w.heap.size + 1]? = some (.cells #[.slice none 0 0, .int .i64 0, .int .i64 0] 30 (0, 0))) := by show _ = _; rw [hK3]; exact heap_new2 _ _ _
  go_enter Tryz.func10, Tryz.ntmps10
  go_wp2_with fail
  rw [← hK3]
  clear hK3
  obtain ⟨y0, y1, y2⟩ := three Y0.out
  cases k with
  | false =>
    have HC9 : Hid (∀ W, Below w.heap.size w W → Calls Tryz.prog 14 #[.agg #[.slice a s.nodes.length c, .int .i64 s.root, .int .i64 s.next]] W fun e w' => e = .returned (.int .i64 9) ∧ Below W.heap.size W w') := HCK.out
    clear HCK HCP HOK
    go_wp2_with fail
    refine (HC9.out K3 B3.out).mono ?_
    rintro e w4 ⟨rfl, hb4⟩
    have B4 : Hid (Below w.heap.size w w4) := nxt B3.out hb4
    have R4 : Hid (w4.heap[w.heap.size + 1]? = _) := (hb4.block _ (lt_of_block Y2.out)).trans Y2.out
    obtain ⟨z0, z0f⟩ := cell_of R4.out 0
    obtain ⟨z1, z1f⟩ := cell_of R4.out 1
    obtain ⟨z2, z2f⟩ := cell_of R4.out 2
    simp at z0 z1 z2
    clear hb4 y0 y1 y2
    go_wp2_with fail
    obtain ⟨f1, f2, f3⟩ := state_fin (v := .slice none 0 0) (r := .int .i64 0) (n := .int .i64 0) R4.out
    have f3 := f3 w.heap.size w (by omega) B4.out
    generalize ((w4.setCell ⟨w.heap.size + 1, 0, none⟩ (.slice none 0 0)).setCell ⟨w.heap.size + 1, 1, none⟩ (.int .i64 0)).setCell ⟨w.heap.size + 1, 2, none⟩ (.int .i64 0) = W8 at *
    obtain ⟨c0, c1, c2⟩ := three f1
    refine bodyPost_ret (v := .tuple #[.agg #[.slice none 0 0, .int .i64 0, .int .i64 0], .int .i64 0, .int .i64 9]) (by simp [results, Tryz.results10, go_sem, c0, c1, c2]) rfl ?_
    exact ⟨_, rfl, noD_own _ _, f3⟩
  | true =>
    have HC0 : Hid (∀ W, Below w.heap.size w W → Calls Tryz.prog 14 #[.agg #[.slice a s.nodes.length c, .int .i64 s.root, .int .i64 s.next]] W fun e w' => e = .returned (.int .i64 0) ∧ Below W.heap.size W w') := HCK.out
    have HOD : Hid (OkD s) := HOK.out rfl
    clear HCK HOK
    go_wp2_with fail
    refine (HC0.out K3 B3.out).mono ?_
    rintro e w4 ⟨rfl, hb4⟩
    have B4 : Hid (Below w.heap.size w w4) := nxt B3.out hb4
    have R4 : Hid (w4.heap[w.heap.size + 1]? = _) := (hb4.block _ (lt_of_block Y2.out)).trans Y2.out
    have S4 : Hid (w4.heap[w.heap.size]? = _) := (hb4.block _ (lt_of_block Y0.out)).trans Y0.out
    clear hb4 y0 y1 y2
    obtain ⟨y0, y1, y2⟩ := three S4.out
    go_wp2_with fail
    refine (HCP.out w4 B4.out).mono ?_
    rintro e w5 ⟨x, rfl, hx5, hb5⟩
    obtain ⟨v, ab, kb, rfl, hO⟩ := hx5
    obtain ⟨va, vc, hvs⟩ := hO.shape
    subst hvs
    have B5 : Hid (Below w.heap.size w w5) := nxt B4.out hb5
    have R5 : Hid (w5.heap[w.heap.size + 1]? = _) := (hb5.block _ (lt_of_block R4.out)).trans R4.out
    have HL4 : Hid (w.heap.size + 2 ≤ w4.heap.size) := by show _ ≤ _; have h1 := lt_of_block R4.out; omega
    have D6 : Hid (DsAt (w5.alloc (.cells #[.slice va s.nodes.length vc, .int .i64 s.root, .int .i64 s.next] 30)) w4.heap.size w5.heap.size s) := ⟨_, ab, kb, heap_alloc_new _ _, hO.below (below_one _ _), hb5.size⟩
    have HB6 : Hid (w4.heap.size ≤ (w5.alloc (.cells #[.slice va s.nodes.length vc, .int .i64 s.root, .int .i64 s.next] 30)).heap.size) := Nat.le_trans hb5.size (below_one _ _).size
    have B6 : Hid (Below w.heap.size w (w5.alloc (.cells #[.slice va s.nodes.length vc, .int .i64 s.root, .int .i64 s.next] 30))) := nxt B5.out (below_one _ _)
    have R6 : Hid ((w5.alloc (.cells #[.slice va s.nodes.length vc, .int .i64 s.root, .int .i64 s.next] 30)).heap[w.heap.size + 1]? = _) := ((below_one _ _).block _ (lt_of_block R5.out)).trans R5.out
    clear hO hb5 y0 y1 y2 HCP HC0
    go_wp2_with fail
    generalize w5.alloc (.cells #[.slice va s.nodes.length vc, .int .i64 s.root, .int .i64 s.next] 30) = W6 at *
    have HB4 := HL4.out
    go_loopw [22] (fun v22 wr => ∃ (i : Nat) (si : Ds), i ≤ ps.length ∧ v22 = .int .i64 (i : Int) ∧ Hid (DsAt wr w4.heap.size w5.heap.size si ∧ OkD si ∧ runL s ps 0 = runL si (ps.drop i) i) ∧ Hid (Below w.heap.size w wr ∧ w4.heap.size ≤ wr.heap.size) ∧ Hid (wr.heap[w.heap.size + 1]? = some (.cells #[.slice none 0 0, .int .i64 0, .int .i64 0] 30 (0, 0)))) (fun v22 _ => ps.length - (intOf v22).toNat)
    case atStart => exact ⟨0, s, Nat.zero_le _, rfl, ⟨D6.out, HOD.out, rfl⟩, ⟨B6.out, HB6.out⟩, R6.out⟩
    case round =>
      obtain ⟨i, si, hi, rfl, HD, HB, HR⟩ := hrel
      clear D6 B6 R6 HB6 HOD
      by_cases hlt : i < ps.length
      · obtain ⟨b, o, ha, ⟨q0, q1, q2, q3, q4, q5, q6, q7, q8⟩, hpo⟩ := HL.out.below HB.out.1 i ps[i] (List.getElem?_eq_getElem hlt)
        subst ha
        have HPO : Hid (PtOk ps[i]) := hpo
        have HDR : Hid (ps.drop i = ps[i] :: ps.drop (i + 1)) := List.drop_eq_getElem_cons hlt
        clear hpo
        generalize ps[i] = p at *
        have X7 : Hid ((wr.alloc (.cells #[.int .i64 p.what, .int .i64 p.id, .int .i64 p.par, .int .i64 p.at_, .string p.tag, .string p.key, .string p.txt, .string p.name, .string p.val] 35)).heap[wr.heap.size]? = some (.cells #[.int .i64 p.what, .int .i64 p.id, .int .i64 p.par, .int .i64 p.at_, .string p.tag, .string p.key, .string p.txt, .string p.name, .string p.val] 35 (0, 0))) := heap_alloc_new _ _
        have B7 : Hid (Below wr.heap.size wr (wr.alloc (.cells #[.int .i64 p.what, .int .i64 p.id, .int .i64 p.par, .int .i64 p.at_, .string p.tag, .string p.key, .string p.txt, .string p.name, .string p.val] 35))) := below_one _ _
        have HT7 : Hid (Calls Tryz.prog 16 #[.pointer (some ⟨w5.heap.size, 0, none⟩), mkP p] (wr.alloc (.cells #[.int .i64 p.what, .int .i64 p.id, .int .i64 p.par, .int .i64 p.at_, .string p.tag, .string p.key, .string p.txt, .string p.name, .string p.val] 35)) _) := take_any si p w4.heap.size w5.heap.size _ (HD.out.1.below B7.out) HPO.out (Nat.le_trans HB.out.2 B7.out.size) HD.out.2.1
        obtain ⟨n0, n1, n2, n3, n4, n5, n6, n7, n8⟩ := nine X7.out
        go_wp2_with fail
        refine HT7.out.mono ?_
        rintro e w8 ⟨rfl, hd8, hb8⟩
        have hB8 : Below w.heap.size w w8 := HB.out.1.trans ((B7.out.mono HB.out.1.size).trans (hb8.mono (by omega)))
        have HB8 : Hid (Below w.heap.size w w8 ∧ w4.heap.size ≤ w8.heap.size) := ⟨hB8, Nat.le_trans HB.out.2 (Nat.le_trans B7.out.size hb8.size)⟩
        have HR8 : Hid (w8.heap[w.heap.size + 1]? = some (.cells #[.slice none 0 0, .int .i64 0, .int .i64 0] 30 (0, 0))) := (hb8.block _ (by omega)).trans ((B7.out.block _ (lt_of_block HR.out)).trans HR.out)
        have HTO := take_ok HD.out.2.1 p
        have HEQ : Hid (runL s ps 0 = if (takeD si p).1 = 0 then runL (takeD si p).2 (ps.drop (i + 1)) (i + 1) else (si, i, (takeD si p).1)) := by
          show _ = _
          rw [HD.out.2.2, HDR.out, runL_cons]
        have HD8 : Hid (DsAt w8 w4.heap.size w5.heap.size (takeD si p).2) := hd8
        have HTK : Hid (OkD (takeD si p).2 ∧ ((takeD si p).1 ≠ 0 → (takeD si p).2 = si)) := ⟨HTO.1, HTO.2.1⟩
        clear hd8 hb8 hB8 HTO n0 n1 n2 n3 n4 n5 n6 n7 n8 q0 q1 q2 q3 q4 q5 q6 q7 q8 HT7 HD X7 B7 HB HR HDR HPO
        generalize takeD si p = r at *
        by_cases h0 : r.1 = 0
        · have g0 : (r.1 != 0) = false := by simpa using h0
          rw [if_pos h0] at HEQ
          clear h0
          go_wp2_with fail
          go_roundw
          case rel => exact ⟨i + 1, r.2, by omega, by go_num, ⟨HD8.out, HTK.out.1, HEQ.out⟩, HB8.out, HR8.out⟩
          case measure => simp [intOf]; omega
        · have g0 : (r.1 != 0) = true := by simpa using h0
          rw [if_neg h0] at HEQ
          have hsi := HTK.out.2 h0
          rw [hsi] at HD8
          obtain ⟨v8, ab8, kb8, hP8, hO8, -⟩ := HD8.out
          obtain ⟨v8a, v8c, hv8⟩ := hO8.shape
          subst hv8
          have O8 : Hid (OwnN w8 w4.heap.size (.slice v8a si.nodes.length v8c) si.nodes ab8 kb8) := hO8
          obtain ⟨q0, q1, q2⟩ := three hP8
          obtain ⟨z0, z0f⟩ := cell_of HR8.out 0
          obtain ⟨z1, z1f⟩ := cell_of HR8.out 1
          obtain ⟨z2, z2f⟩ := cell_of HR8.out 2
          simp at z0 z1 z2
          clear h0 hsi hP8 hO8 HD8 HTK
          go_wp2_with fail
          obtain ⟨f1, f2, f3⟩ := state_fin (v := .slice v8a si.nodes.length v8c) (r := .int .i64 si.root) (n := .int .i64 si.next) HR8.out
          have f3 := f3 w.heap.size w (by omega) HB8.out.1
          generalize ((w8.setCell ⟨w.heap.size + 1, 0, none⟩ (.slice v8a si.nodes.length v8c)).setCell ⟨w.heap.size + 1, 1, none⟩ (.int .i64 si.root)).setCell ⟨w.heap.size + 1, 2, none⟩ (.int .i64 si.next) = W8 at *
          obtain ⟨c0, c1, c2⟩ := three f1
          refine bodyPost_ret (v := .tuple #[.agg #[.slice v8a si.nodes.length v8c, .int .i64 si.root, .int .i64 si.next], .int .i64 (i : Int), .int .i64 r.1]) (by simp [results, Tryz.results10, go_sem, c0, c1, c2]) rfl ?_
          rw [HEQ.out]
          exact ⟨_, rfl, ⟨_, ab8, kb8, rfl, (O8.out.same fun b hb => f2 b (by have := (O8.out.foot hb).1; omega)).less (by omega)⟩, f3⟩
      · have hie : i = ps.length := by omega
        have HEQ : Hid (runL s ps 0 = (si, ps.length, 0)) := by
          show _ = _
          rw [HD.out.2.2, hie, List.drop_length]
          rfl
        subst hie
        obtain ⟨v8, ab8, kb8, hP8, hO8, -⟩ := HD.out.1
        obtain ⟨v8a, v8c, hv8⟩ := hO8.shape
        subst hv8
        have O8 : Hid (OwnN wr w4.heap.size (.slice v8a si.nodes.length v8c) si.nodes ab8 kb8) := hO8
        obtain ⟨q0, q1, q2⟩ := three hP8
        obtain ⟨z0, z0f⟩ := cell_of HR.out 0
        obtain ⟨z1, z1f⟩ := cell_of HR.out 1
        obtain ⟨z2, z2f⟩ := cell_of HR.out 2
        simp at z0 z1 z2
        clear hP8 hO8 HD
        go_wp2_with fail
        obtain ⟨f1, f2, f3⟩ := state_fin (v := .slice v8a si.nodes.length v8c) (r := .int .i64 si.root) (n := .int .i64 si.next) HR.out
        have f3 := f3 w.heap.size w (by omega) HB.out.1
        generalize ((wr.setCell ⟨w.heap.size + 1, 0, none⟩ (.slice v8a si.nodes.length v8c)).setCell ⟨w.heap.size + 1, 1, none⟩ (.int .i64 si.root)).setCell ⟨w.heap.size + 1, 2, none⟩ (.int .i64 si.next) = W8 at *
        obtain ⟨c0, c1, c2⟩ := three f1
        refine bodyPost_ret (v := .tuple #[.agg #[.slice v8a si.nodes.length v8c, .int .i64 si.root, .int .i64 si.next], .int .i64 (ps.length : Int), .int .i64 0]) (by simp [results, Tryz.results10, go_sem, c0, c1, c2]) rfl ?_
        rw [HEQ.out]
        exact ⟨_, rfl, ⟨_, ab8, kb8, rfl, (O8.out.same fun b hb => f2 b (by have := (O8.out.foot hb).1; omega)).less (by omega)⟩, f3⟩
end Go.Proofs.YtcdnakcojanaeabGreat
