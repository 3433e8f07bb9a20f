/-
  The program's reader: a part, whatever it is.
-/
import Derived.Test.YtfdbhojghkdlkaaPkField
namespace Go.Proofs.Ytfdbhojghkdlkaa
open Go.ChangeShapes Go.WideShapes Go.ChangeAt Go.RowKit
open Fl

theorem leaf_own (w : World) (n : Nat) (k b : Int) (t : ByteArray) (h1 : -9223372036854775808 ≤ k ∧ k ≤ 9223372036854775807) (h2 : U b) (h3 : t.size ≤ 140737488351232) : Own w (n + 1) (mk k b t none 0 0 none 0 0) (k, b, t, [], []) (fun _ => False) := by
  have := OwnL.part (k := k) (b := b) (t := t) (ka := none) (ia := none) (kc := 0) (ic := 0) (OwnL.nil w n) (OwnK.nil w) (fun b hb => by simp [Value.ownBlock] at hb) h1 h2 h3 (by simp) (by simp) (by simp)
  exact Own.more _ this fun b hb => by rcases hb with hb | hb; exact hb; simp [Value.ownBlock] at hb

/-- The result's variable is written, nothing else. -/
theorem five_fin (W : World) (g : Nat) (v0 v1 v2 v3 v4 : Value) :
    (∀ k, k ≠ g → (((((W.setCell ⟨g, 0, none⟩ v0).setCell ⟨g, 1, none⟩ v1).setCell ⟨g, 2, none⟩ v2).setCell ⟨g, 3, none⟩ v3).setCell ⟨g, 4, none⟩ v4).heap[k]? = W.heap[k]?) ∧
    (((((W.setCell ⟨g, 0, none⟩ v0).setCell ⟨g, 1, none⟩ v1).setCell ⟨g, 2, none⟩ v2).setCell ⟨g, 3, none⟩ v3).setCell ⟨g, 4, none⟩ v4).heap.size = W.heap.size ∧
    (((((W.setCell ⟨g, 0, none⟩ v0).setCell ⟨g, 1, none⟩ v1).setCell ⟨g, 2, none⟩ v2).setCell ⟨g, 3, none⟩ v3).setCell ⟨g, 4, none⟩ v4).os = W.os ∧
    (((((W.setCell ⟨g, 0, none⟩ v0).setCell ⟨g, 1, none⟩ v1).setCell ⟨g, 2, none⟩ v2).setCell ⟨g, 3, none⟩ v3).setCell ⟨g, 4, none⟩ v4).tape = W.tape ∧
    (((((W.setCell ⟨g, 0, none⟩ v0).setCell ⟨g, 1, none⟩ v1).setCell ⟨g, 2, none⟩ v2).setCell ⟨g, 3, none⟩ v3).setCell ⟨g, 4, none⟩ v4).output = W.output := by
  refine ⟨?_, ?_, by simp [World.setCell], by simp [World.setCell], by simp [World.setCell]⟩
  · intro k hk
    rw [Below.heap_setCell _ _ _ _ hk, Below.heap_setCell _ _ _ _ hk, Below.heap_setCell _ _ _ _ hk, Below.heap_setCell _ _ _ _ hk, Below.heap_setCell _ _ _ _ hk]
  · simp [World.setCell]

/-- The end of a part: what was read, the variable written. -/
theorem part_fin {w W W' : World} {n p : Nat} {a : Option Addr} {c : Nat} {bs : List UInt8} {u : V (n + 1)} {s s' : RS} {y : Value} {F : Nat → Prop} (hr : rd (n + 1) s = .ok (u, s')) (hg : w.grownBy W (some p)) (hp : p < w.heap.size) (hR : RdAt W p a c bs s')
    (hk : ∀ k, k ≠ w.heap.size → W'.heap[k]? = W.heap[k]?) (hs : W'.heap.size = W.heap.size) (ho : W'.os = W.os) (ht : W'.tape = W.tape) (hou : W'.output = W.output) (h5 : Some5 y)
    (hO : s'.2 ≤ 512 → Own W (n + 1) y u F ∧ ∀ b, F b → w.heap.size < b ∧ b < W.heap.size) :
    PartPost (n + 1) (rd (n + 1) s) p a c bs w (.returned y) W' := by
  refine ⟨⟨ho.trans hg.os, ht.trans hg.tape, hou.trans hg.output, by rw [hs]; exact hg.size, fun k hk' hn => (hk k (by omega)).trans (hg.block k hk' hn)⟩, Or.inr ⟨u, s', hr, ?_, y, rfl, h5, ?_⟩⟩
  · obtain ⟨i, q1, q2, q3⟩ := hR
    exact ⟨i, q1, q2, (hk p (by omega)).trans q3⟩
  · intro h
    obtain ⟨h1, h2⟩ := hO h
    exact ⟨F, h1.same _ fun b hb => hk b (by have := (h2 b hb).1; omega), fun b hb => ⟨by have := (h2 b hb).1; omega, by rw [hs]; exact (h2 b hb).2⟩⟩

theorem set_two_cell {w : World} {g : Nat} {x y z : Value} {t : TypeId} (h : w.heap[g]? = some (.cells #[x, y, z] t (0, 0))) (v : Value) : (w.setCell ⟨g, 2, none⟩ v).heap[g]? = some (.cells #[x, y, v] t (0, 0)) := by
  simp [World.setCell, Array.getElem?_modify, h]

theorem rd_items {n : Nat} {o : UInt8} {r : List UInt8} {q : Nat} (h : o.toNat = 5) : rd (n + 1) (o :: r, q) = match rdItems n (r, q + 1) with | .error e => .error e | .ok (its, s) => .ok ((4, 0, ⟨#[]⟩, [], its), s) := by
  simp only [rd, h, rdItems]
  cases rdCount r with
  | error e => rfl
  | ok mr => obtain ⟨m, r'⟩ := mr; rfl

theorem rd_fields {n : Nat} {o : UInt8} {r : List UInt8} {q : Nat} (h : o.toNat = 6) : rd (n + 1) (o :: r, q) = match rdFields n (r, q + 1) with | .error e => .error e | .ok (ks, its, s) => .ok ((5, 0, ⟨#[]⟩, ks, its), s) := by
  simp only [rd, h, rdFields]
  cases rdCount r with
  | error e => rfl
  | ok mr => obtain ⟨m, r'⟩ := mr; rfl

theorem items_len {n : Nat} {s s' : RS} {its : List (V n)} (h : rdItems n s = .ok (its, s')) : its.length ≤ 32 := by
  unfold rdItems at h
  cases hc : rdCount s.1 with
  | error e => rw [hc] at h; cases h
  | ok mr =>
    obtain ⟨m, r⟩ := mr
    rw [hc] at h
    obtain ⟨l, p⟩ := s'
    obtain ⟨its', h1, h2, -⟩ := items_ok (fun l p u r p' => enc_rd n l p u r p') _ _ _ _ _ _ _ h
    have := (rdCount_ok hc).2
    rw [List.nil_append] at h1
    subst h1
    omega

theorem fields_len {n : Nat} {s s' : RS} {ks : List ByteArray} {its : List (V n)} (h : rdFields n s = .ok (ks, its, s')) : its.length ≤ 32 ∧ ks.length ≤ 32 := by
  unfold rdFields at h
  cases hc : rdCount s.1 with
  | error e => rw [hc] at h; cases h
  | ok mr =>
    obtain ⟨m, r⟩ := mr
    rw [hc] at h
    obtain ⟨l, p⟩ := s'
    obtain ⟨ks', its', h0, h1, h2, h3, -⟩ := fields_ok (fun l p u r p' => enc_rd n l p u r p') _ _ _ _ _ _ _ _ _ rfl h
    have := (rdCount_ok hc).2
    rw [List.nil_append] at h1 h0
    subst h1 h0
    omega

theorem ItemsPost.err {n : Nat} {er : Int} {p : Nat} {a : Option Addr} {c : Nat} {bs : List UInt8} {w w' : World} {e : Ending} (h : ItemsPost n (.error er) p a c bs w e w') : e = pan er ∧ w.grownBy w' (some p) := by
  obtain ⟨hg, ⟨er', h1, h2⟩ | ⟨u, s', h1, _⟩⟩ := h
  · cases h1; exact ⟨h2, hg⟩
  · cases h1
theorem ItemsPost.ok {n : Nat} {its : List (V n)} {s' : RS} {p : Nat} {a : Option Addr} {c : Nat} {bs : List UInt8} {w w' : World} {e : Ending} (h : ItemsPost n (.ok (its, s')) p a c bs w e w') :
    w.grownBy w' (some p) ∧ RdAt w' p a c bs s' ∧ ∃ va vl vc, e = .returned (.slice va vl vc) ∧ Held w w' (.slice va vl vc) its s' := by
  obtain ⟨hg, ⟨er', h1, h2⟩ | ⟨u', s'', h1, h2⟩⟩ := h
  · cases h1
  · cases h1; exact ⟨hg, h2⟩
theorem FieldsPost.err {n : Nat} {er : Int} {p : Nat} {a : Option Addr} {c : Nat} {bs : List UInt8} {w w' : World} {e : Ending} (h : FieldsPost n (.error er) p a c bs w e w') : e = pan er ∧ w.grownBy w' (some p) := by
  obtain ⟨hg, ⟨er', h1, h2⟩ | ⟨u, s', _, h1, _⟩⟩ := h
  · cases h1; exact ⟨h2, hg⟩
  · cases h1
theorem FieldsPost.ok {n : Nat} {ks : List ByteArray} {its : List (V n)} {s' : RS} {p : Nat} {a : Option Addr} {c : Nat} {bs : List UInt8} {w w' : World} {e : Ending} (h : FieldsPost n (.ok (ks, its, s')) p a c bs w e w') :
    w.grownBy w' (some p) ∧ RdAt w' p a c bs s' ∧ ∃ ka kl kc va vl vc, e = .returned (.tuple #[.slice ka kl kc, .slice va vl vc]) ∧ KeysAt w w' (.slice ka kl kc) ks ∧ HeldF w w' (.slice ka kl kc) (.slice va vl vc) its s' := by
  obtain ⟨hg, ⟨er', h1, h2⟩ | ⟨u', s'', _, h1, h2⟩⟩ := h
  · cases h1
  · cases h1; exact ⟨hg, h2⟩

set_option maxRecDepth 100000 in
set_option maxHeartbeats 6400000 in
theorem part_all : ∀ n, PartAt n
  | 0 => by
    intro s p a c bs d w hr ho hb hd1 hd
    have hd9 : d = 9 := by omega
    subst hd9
    have HR : Hid (RdAt w p a c bs s) := hr
    go_enter Try.func79, Try.ntmps79
    go_wp2_with fail
    exact ⟨rfl, grown_of_below (below_one _ _), Or.inl ⟨10, rfl, rfl⟩⟩
  | n + 1 => by
    intro s p a c bs d w hr ho hb hd1 hd
    obtain ⟨l, q⟩ := s
    have hd8 : d ≤ 8 := by omega
    have HD : Hid (d + 1 + (n : Int) = 9) := by show _ = _; omega
    have HPA : Hid (PartAt n) := part_all n
    have HRD : Hid (RdAt w p a c bs (l, q)) := hr
    have HO : Hid (Oct w a c bs) := ho
    have HB : Hid (q + l.length ≤ 281474976710656) := hb
    obtain ⟨i, hi, hli, hblk⟩ := hr
    simp only at hli hblk
    have hpw : p < w.heap.size := lt_of_block hblk
    have hq : q ≤ 281474976710656 := by simp only at hb; omega
    obtain ⟨x0, x1, x2, f0, f1, f2⟩ := rd_cells hblk
    have HBL : Hid (_ = _) := hblk
    have HLI : Hid (l = bs.drop i) := hli
    clear hb hd ho hblk hli
    go_enter Try.func79, Try.ntmps79
    go_wp2_with fail
    have R1 : Hid (RdAt ((w.setCell ⟨p, 2, none⟩ (.int .i64 ((q : Int) + 1))).alloc (.cells #[.int .i64 0, .int .u64 0, .string ⟨#[]⟩, .slice none 0 0, .slice none 0 0] 50)) p a c bs (l, q + 1)) := ⟨i, hi, HLI.out, (Below.heap_alloc _ _ _ (by simp [World.setCell]; omega)).trans (set_two_cell HBL.out _)⟩
    have G1 : Hid (w.grownBy ((w.setCell ⟨p, 2, none⟩ (.int .i64 ((q : Int) + 1))).alloc (.cells #[.int .i64 0, .int .u64 0, .string ⟨#[]⟩, .slice none 0 0, .slice none 0 0] 50)) (some p)) := ⟨rfl, rfl, rfl, by simp [World.setCell], fun k hk hn => by
      rw [Below.heap_alloc _ _ _ (by simp [World.setCell]; omega), Below.heap_setCell _ _ _ _ (fun e => hn (by rw [e]))]⟩
    have X1 : Hid (((w.setCell ⟨p, 2, none⟩ (.int .i64 ((q : Int) + 1))).alloc (.cells #[.int .i64 0, .int .u64 0, .string ⟨#[]⟩, .slice none 0 0, .slice none 0 0] 50)).heap[w.heap.size]? = some (.cells #[.int .i64 0, .int .u64 0, .string ⟨#[]⟩, .slice none 0 0, .slice none 0 0] 50 (0, 0))) := by
      have := heap_alloc_new (w.setCell ⟨p, 2, none⟩ (.int .i64 ((q : Int) + 1))) (.cells #[.int .i64 0, .int .u64 0, .string ⟨#[]⟩, .slice none 0 0, .slice none 0 0] 50)
      rw [show (w.setCell ⟨p, 2, none⟩ (.int .i64 ((q : Int) + 1))).heap.size = w.heap.size by simp [World.setCell]] at this
      exact this
    clear x0 x1 x2 f0 f1 f2 HBL hi HLI
    generalize (w.setCell ⟨p, 2, none⟩ (.int .i64 ((q : Int) + 1))).alloc (.cells #[.int .i64 0, .int .u64 0, .string ⟨#[]⟩, .slice none 0 0, .slice none 0 0] 50) = W1 at *
    have O1 : Hid (Oct W1 a c bs) := HO.out.grown HRD.out G1.out
    have HC := octet_any p a c bs l (q + 1) W1 R1.out O1.out
    cases l with
    | nil =>
      refine HC.mono ?_
      intro e w2 h1
      obtain ⟨rfl, hg⟩ := RdPost.err h1
      go_wp2_with fail
      exact ⟨rfl, grown_trans G1.out hg, Or.inl ⟨8, rfl, rfl⟩⟩
    | cons o r =>
      refine HC.mono ?_
      intro e w2 h1
      obtain ⟨rfl, hg, h2⟩ := RdPost.ok h1
      have R2 : Hid (RdAt w2 p a c bs (r, q + 1)) := h2
      have G2 : Hid (w.grownBy w2 (some p)) := grown_trans G1.out hg
      have X2 : Hid (w2.heap[w.heap.size]? = some (.cells #[.int .i64 0, .int .u64 0, .string ⟨#[]⟩, .slice none 0 0, .slice none 0 0] 50 (0, 0))) := (hg.block _ (lt_of_block X1.out) (by simp; omega)).trans X1.out
      have O2 : Hid (Oct w2 a c bs) := HO.out.grown HRD.out G2.out
      have HB2 : Hid (q + 1 + r.length ≤ 281474976710656) := by show _ ≤ _; have := HB.out; simp only [List.length_cons] at this; omega
      have h256 := o.toNat_lt
      obtain ⟨z0, z1, z2, z3, z4, f0, f1, f2, f3, f4⟩ := box_cells X2.out
      clear h1 h2 hg HC R1 G1 X1 O1 HB
      generalize hov : o.toNat = ov at *
      by_cases h0 : ov = 0
      · subst h0
        have HR : Hid (rd (n + 1) (o :: r, q) = .ok ((0, 0, ⟨#[]⟩, [], []), (r, q + 1))) := by show _ = _; simp only [rd, hov, if_true]
        go_wp2_with fail
        refine bodyPost_ret (v := mk 0 0 ⟨#[]⟩ none 0 0 none 0 0) (by simp [results, Try.results79, go_sem, z0, z1, z2, z3, z4]) rfl ?_
        obtain ⟨e1, e2, e3, e4, e5⟩ := five_fin w2 w.heap.size (.int .i64 0) (.int .u64 0) (.string ⟨#[]⟩) (.slice none 0 0) (.slice none 0 0)
        generalize (((((w2.setCell ⟨w.heap.size, 0, none⟩ (.int .i64 0)).setCell ⟨w.heap.size, 1, none⟩ (.int .u64 0)).setCell ⟨w.heap.size, 2, none⟩ (.string ⟨#[]⟩)).setCell ⟨w.heap.size, 3, none⟩ (.slice none 0 0)).setCell ⟨w.heap.size, 4, none⟩ (.slice none 0 0)) = W5 at *
        exact part_fin HR.out G2.out hpw R2.out e1 e2 e3 e4 e5 ⟨_, _, _, _, _, _, _, _, _, rfl⟩ (fun _ => ⟨leaf_own _ n 0 0 _ (by decide) (U_small (by decide) (by decide)) (by decide), fun b hb => hb.elim⟩)
      by_cases h1 : ov = 1
      · subst h1
        have HR : Hid (rd (n + 1) (o :: r, q) = .ok ((1, 0, ⟨#[]⟩, [], []), (r, q + 1))) := by show _ = _; simp [rd, hov]
        clear h0 h256
        go_wp2_with fail
        refine bodyPost_ret (v := mk 1 0 ⟨#[]⟩ none 0 0 none 0 0) (by simp [results, Try.results79, go_sem, z0, z1, z2, z3, z4]) rfl ?_
        obtain ⟨e1, e2, e3, e4, e5⟩ := five_fin w2 w.heap.size (.int .i64 1) (.int .u64 0) (.string ⟨#[]⟩) (.slice none 0 0) (.slice none 0 0)
        generalize (((((w2.setCell ⟨w.heap.size, 0, none⟩ (.int .i64 1)).setCell ⟨w.heap.size, 1, none⟩ (.int .u64 0)).setCell ⟨w.heap.size, 2, none⟩ (.string ⟨#[]⟩)).setCell ⟨w.heap.size, 3, none⟩ (.slice none 0 0)).setCell ⟨w.heap.size, 4, none⟩ (.slice none 0 0)) = W5 at *
        exact part_fin HR.out G2.out hpw R2.out e1 e2 e3 e4 e5 ⟨_, _, _, _, _, _, _, _, _, rfl⟩ (fun _ => ⟨leaf_own _ n 1 0 _ (by decide) (U_small (by decide) (by decide)) (by decide), fun b hb => hb.elim⟩)
      by_cases h2 : ov = 2
      · subst h2
        have HR : Hid (rd (n + 1) (o :: r, q) = .ok ((1, 1, ⟨#[]⟩, [], []), (r, q + 1))) := by show _ = _; simp [rd, hov]
        clear h0 h1 h256
        go_wp2_with fail
        refine bodyPost_ret (v := mk 1 1 ⟨#[]⟩ none 0 0 none 0 0) (by simp [results, Try.results79, go_sem, z0, z1, z2, z3, z4]) rfl ?_
        obtain ⟨e1, e2, e3, e4, e5⟩ := five_fin w2 w.heap.size (.int .i64 1) (.int .u64 1) (.string ⟨#[]⟩) (.slice none 0 0) (.slice none 0 0)
        generalize (((((w2.setCell ⟨w.heap.size, 0, none⟩ (.int .i64 1)).setCell ⟨w.heap.size, 1, none⟩ (.int .u64 1)).setCell ⟨w.heap.size, 2, none⟩ (.string ⟨#[]⟩)).setCell ⟨w.heap.size, 3, none⟩ (.slice none 0 0)).setCell ⟨w.heap.size, 4, none⟩ (.slice none 0 0)) = W5 at *
        exact part_fin HR.out G2.out hpw R2.out e1 e2 e3 e4 e5 ⟨_, _, _, _, _, _, _, _, _, rfl⟩ (fun _ => ⟨leaf_own _ n 1 1 _ (by decide) (U_small (by decide) (by decide)) (by decide), fun b hb => hb.elim⟩)
      by_cases h3 : ov = 3
      · subst h3
        have HCb : Hid (Calls Try.prog 84 #[.pointer (some ⟨p, 0, none⟩)] w2 (RdPost (rdBits r) (q + 1) p a c bs (fun b => .int .u64 b) w2)) := rbits_any p a c bs r (q + 1) w2 R2.out O2.out
        clear h0 h1 h2 h256
        cases hrb : rdBits r with
        | error er =>
          rw [hrb] at HCb
          have HR : Hid (rd (n + 1) (o :: r, q) = .error er) := by show _ = _; simp [rd, hov, hrb]
          clear hrb hov
          go_wp2_with fail
          refine HCb.out.mono ?_
          intro e w3 h1
          obtain ⟨rfl, hg⟩ := RdPost.err h1
          go_wp2_with fail
          exact ⟨rfl, grown_trans G2.out hg, Or.inl ⟨er, HR.out, rfl⟩⟩
        | ok br =>
          obtain ⟨b, r'⟩ := br
          rw [hrb] at HCb
          have HR : Hid (rd (n + 1) (o :: r, q) = .ok ((2, b, ⟨#[]⟩, [], []), (r', q + 1))) := by show _ = _; simp [rd, hov, hrb]
          have HU : Hid (U b) := (rdBits_ok hrb).2.1
          clear hrb hov
          go_wp2_with fail
          refine HCb.out.mono ?_
          intro e w3 h1
          obtain ⟨rfl, hg, h2⟩ := RdPost.ok h1
          clear h1
          have R3 : Hid (RdAt w3 p a c bs (r', q + 1)) := h2
          have G3 : Hid (w.grownBy w3 (some p)) := grown_trans G2.out hg
          have X3 : Hid (w3.heap[w.heap.size]? = some (.cells #[.int .i64 0, .int .u64 0, .string ⟨#[]⟩, .slice none 0 0, .slice none 0 0] 50 (0, 0))) := (hg.block _ (lt_of_block X2.out) (by simp; omega)).trans X2.out
          have HW2 : Hid (w.heap.size < w2.heap.size) := lt_of_block X2.out
          clear z0 z1 z2 z3 z4 f0 f1 f2 f3 f4 hg h2
          obtain ⟨z0, z1, z2, z3, z4, f0, f1, f2, f3, f4⟩ := box_cells X3.out
          go_wp2_with fail
          refine bodyPost_ret (v := mk 2 b ⟨#[]⟩ none 0 0 none 0 0) (by simp [results, Try.results79, go_sem, z0, z1, z2, z3, z4]) rfl ?_
          obtain ⟨e1, e2, e3, e4, e5⟩ := five_fin w3 w.heap.size (.int .i64 2) (.int .u64 b) (.string ⟨#[]⟩) (.slice none 0 0) (.slice none 0 0)
          generalize (((((w3.setCell ⟨w.heap.size, 0, none⟩ (.int .i64 2)).setCell ⟨w.heap.size, 1, none⟩ (.int .u64 b)).setCell ⟨w.heap.size, 2, none⟩ (.string ⟨#[]⟩)).setCell ⟨w.heap.size, 3, none⟩ (.slice none 0 0)).setCell ⟨w.heap.size, 4, none⟩ (.slice none 0 0)) = W5 at *
          exact part_fin HR.out G3.out hpw R3.out e1 e2 e3 e4 e5 ⟨_, _, _, _, _, _, _, _, _, rfl⟩ (fun _ => ⟨leaf_own _ n 2 b _ (by decide) HU.out (by decide), fun b hb => hb.elim⟩)
      by_cases h4 : ov = 4
      · subst h4
        have HCt : Hid (Calls Try.prog 85 #[.pointer (some ⟨p, 0, none⟩), .int .i64 ((0 : Nat) : Int), .int .i64 ((128 : Nat) : Int)] w2 (RdPost (rdText 0 128 r) (q + 1) p a c bs (fun t => .string t) w2)) := rtext_any 0 128 p a c bs r (q + 1) w2 R2.out O2.out
        clear h0 h1 h2 h3 h256
        cases hrb : rdText 0 128 r with
        | error er =>
          rw [hrb] at HCt
          have HR : Hid (rd (n + 1) (o :: r, q) = .error er) := by show _ = _; simp [rd, hov, hrb]
          clear hrb hov
          go_wp2_with fail
          refine HCt.out.mono ?_
          intro e w3 h1
          obtain ⟨rfl, hg⟩ := RdPost.err h1
          go_wp2_with fail
          exact ⟨rfl, grown_trans G2.out hg, Or.inl ⟨er, HR.out, rfl⟩⟩
        | ok br =>
          obtain ⟨t, r'⟩ := br
          rw [hrb] at HCt
          have HR : Hid (rd (n + 1) (o :: r, q) = .ok ((3, 0, t, [], []), (r', q + 1))) := by show _ = _; simp [rd, hov, hrb]
          have HT : Hid (t.size ≤ 128) := (rdText_ok hrb).2.2
          clear hrb hov
          go_wp2_with fail
          refine HCt.out.mono ?_
          intro e w3 h1
          obtain ⟨rfl, hg, h2⟩ := RdPost.ok h1
          clear h1
          have R3 : Hid (RdAt w3 p a c bs (r', q + 1)) := h2
          have G3 : Hid (w.grownBy w3 (some p)) := grown_trans G2.out hg
          have X3 : Hid (w3.heap[w.heap.size]? = some (.cells #[.int .i64 0, .int .u64 0, .string ⟨#[]⟩, .slice none 0 0, .slice none 0 0] 50 (0, 0))) := (hg.block _ (lt_of_block X2.out) (by simp; omega)).trans X2.out
          have HW2 : Hid (w.heap.size < w2.heap.size) := lt_of_block X2.out
          clear z0 z1 z2 z3 z4 f0 f1 f2 f3 f4 hg h2
          obtain ⟨z0, z1, z2, z3, z4, f0, f1, f2, f3, f4⟩ := box_cells X3.out
          go_wp2_with fail
          refine bodyPost_ret (v := mk 3 0 t none 0 0 none 0 0) (by simp [results, Try.results79, go_sem, z0, z1, z2, z3, z4]) rfl ?_
          obtain ⟨e1, e2, e3, e4, e5⟩ := five_fin w3 w.heap.size (.int .i64 3) (.int .u64 0) (.string t) (.slice none 0 0) (.slice none 0 0)
          generalize (((((w3.setCell ⟨w.heap.size, 0, none⟩ (.int .i64 3)).setCell ⟨w.heap.size, 1, none⟩ (.int .u64 0)).setCell ⟨w.heap.size, 2, none⟩ (.string t)).setCell ⟨w.heap.size, 3, none⟩ (.slice none 0 0)).setCell ⟨w.heap.size, 4, none⟩ (.slice none 0 0)) = W5 at *
          exact part_fin HR.out G3.out hpw R3.out e1 e2 e3 e4 e5 ⟨_, _, _, _, _, _, _, _, _, rfl⟩ (fun _ => ⟨leaf_own _ n 3 0 t (by decide) (U_small (by decide) (by decide)) (by have := HT.out; omega), fun b hb => hb.elim⟩)
      by_cases h5 : ov = 5
      · subst h5
        have HCi : Hid (Calls Try.prog 86 #[.pointer (some ⟨p, 0, none⟩), .int .i64 d] w2 (ItemsPost n (rdItems n (r, q + 1)) p a c bs w2)) := items_any n HPA.out (r, q + 1) p a c bs d w2 R2.out O2.out HB2.out hd1 HD.out
        have HRR := rd_items (n := n) (r := r) (q := q) hov
        clear h0 h1 h2 h3 h4 h256
        cases hrb : rdItems n (r, q + 1) with
        | error er =>
          rw [hrb] at HCi
          have HR : Hid (rd (n + 1) (o :: r, q) = .error er) := by show _ = _; rw [HRR, hrb]
          clear hrb hov HRR
          go_wp2_with fail
          refine HCi.out.mono ?_
          intro e w3 h1
          obtain ⟨rfl, hg⟩ := ItemsPost.err h1
          go_wp2_with fail
          exact ⟨rfl, grown_trans G2.out hg, Or.inl ⟨er, HR.out, rfl⟩⟩
        | ok br =>
          obtain ⟨its, s'⟩ := br
          rw [hrb] at HCi
          have HR : Hid (rd (n + 1) (o :: r, q) = .ok ((4, 0, ⟨#[]⟩, [], its), s')) := by show _ = _; rw [HRR, hrb]
          have HLN : Hid (its.length ≤ 32) := items_len hrb
          clear hrb hov HRR
          go_wp2_with fail
          refine HCi.out.mono ?_
          intro e w3 h1
          obtain ⟨hg, h2, va, vl, vc, rfl, hh⟩ := ItemsPost.ok h1
          have HH : Hid (Held w2 w3 (.slice va vl vc) its s') := hh
          clear h1 hh
          have R3 : Hid (RdAt w3 p a c bs s') := h2
          have G3 : Hid (w.grownBy w3 (some p)) := grown_trans G2.out hg
          have X3 : Hid (w3.heap[w.heap.size]? = some (.cells #[.int .i64 0, .int .u64 0, .string ⟨#[]⟩, .slice none 0 0, .slice none 0 0] 50 (0, 0))) := (hg.block _ (lt_of_block X2.out) (by simp; omega)).trans X2.out
          have HW2 : Hid (w.heap.size < w2.heap.size) := lt_of_block X2.out
          clear z0 z1 z2 z3 z4 f0 f1 f2 f3 f4 hg h2
          obtain ⟨z0, z1, z2, z3, z4, f0, f1, f2, f3, f4⟩ := box_cells X3.out
          go_wp2_with fail
          refine bodyPost_ret (v := mk 4 0 ⟨#[]⟩ none 0 0 va vl vc) (by simp [results, Try.results79, go_sem, z0, z1, z2, z3, z4]) rfl ?_
          obtain ⟨e1, e2, e3, e4, e5⟩ := five_fin w3 w.heap.size (.int .i64 4) (.int .u64 0) (.string ⟨#[]⟩) (.slice none 0 0) (.slice va vl vc)
          generalize (((((w3.setCell ⟨w.heap.size, 0, none⟩ (.int .i64 4)).setCell ⟨w.heap.size, 1, none⟩ (.int .u64 0)).setCell ⟨w.heap.size, 2, none⟩ (.string ⟨#[]⟩)).setCell ⟨w.heap.size, 3, none⟩ (.slice none 0 0)).setCell ⟨w.heap.size, 4, none⟩ (.slice va vl vc)) = W5 at *
          by_cases h5 : s'.2 ≤ 512
          · obtain ⟨H, hL, hH⟩ := HH.out h5
            obtain ⟨a', c', ev⟩ := hL.shape
            simp only [Value.slice.injEq] at ev
            obtain ⟨rfl, rfl, rfl⟩ := ev
            have hown := OwnL.part (k := 4) (b := 0) (t := ⟨#[]⟩) (ka := none) (kc := 0) hL (OwnK.nil w3) (fun b hb => by simp [Value.ownBlock] at hb) (by decide) (by decide) (by decide) (by simp) (by have := HLN.out; omega) (by simp)
            exact part_fin HR.out G3.out hpw R3.out e1 e2 e3 e4 e5 ⟨_, _, _, _, _, _, _, _, _, rfl⟩ (fun _ => ⟨hown, fun b hb => by
              rcases hb with hb | hb
              · have := hH b hb; have := HW2.out; omega
              · simp [Value.ownBlock] at hb⟩)
          · exact part_fin (F := fun _ => False) HR.out G3.out hpw R3.out e1 e2 e3 e4 e5 ⟨_, _, _, _, _, _, _, _, _, rfl⟩ (fun h => absurd h h5)
      by_cases h6 : ov = 6
      · subst h6
        have HCi : Hid (Calls Try.prog 87 #[.pointer (some ⟨p, 0, none⟩), .int .i64 d] w2 (FieldsPost n (rdFields n (r, q + 1)) p a c bs w2)) := fields_any n HPA.out (r, q + 1) p a c bs d w2 R2.out O2.out HB2.out hd1 HD.out
        have HRR := rd_fields (n := n) (r := r) (q := q) hov
        clear h0 h1 h2 h3 h4 h5 h256
        cases hrb : rdFields n (r, q + 1) with
        | error er =>
          rw [hrb] at HCi
          have HR : Hid (rd (n + 1) (o :: r, q) = .error er) := by show _ = _; rw [HRR, hrb]
          clear hrb hov HRR
          go_wp2_with fail
          refine HCi.out.mono ?_
          intro e w3 h1
          obtain ⟨rfl, hg⟩ := FieldsPost.err h1
          go_wp2_with fail
          exact ⟨rfl, grown_trans G2.out hg, Or.inl ⟨er, HR.out, rfl⟩⟩
        | ok br =>
          obtain ⟨ks, its, s'⟩ := br
          rw [hrb] at HCi
          have HR : Hid (rd (n + 1) (o :: r, q) = .ok ((5, 0, ⟨#[]⟩, ks, its), s')) := by show _ = _; rw [HRR, hrb]
          have HLN : Hid (its.length ≤ 32 ∧ ks.length ≤ 32) := fields_len hrb
          clear hrb hov HRR
          go_wp2_with fail
          refine HCi.out.mono ?_
          intro e w3 h1
          obtain ⟨hg, h2, ka, kl, kc, va, vl, vc, rfl, hk, hh⟩ := FieldsPost.ok h1
          have HH : Hid (HeldF w2 w3 (.slice ka kl kc) (.slice va vl vc) its s') := hh
          have HK : Hid (KeysAt w2 w3 (.slice ka kl kc) ks) := hk
          clear h1 hh hk
          have R3 : Hid (RdAt w3 p a c bs s') := h2
          have G3 : Hid (w.grownBy w3 (some p)) := grown_trans G2.out hg
          have X3 : Hid (w3.heap[w.heap.size]? = some (.cells #[.int .i64 0, .int .u64 0, .string ⟨#[]⟩, .slice none 0 0, .slice none 0 0] 50 (0, 0))) := (hg.block _ (lt_of_block X2.out) (by simp; omega)).trans X2.out
          have HW2 : Hid (w.heap.size < w2.heap.size) := lt_of_block X2.out
          clear z0 z1 z2 z3 z4 f0 f1 f2 f3 f4 hg h2
          obtain ⟨z0, z1, z2, z3, z4, f0, f1, f2, f3, f4⟩ := box_cells X3.out
          go_wp2_with fail
          refine bodyPost_ret (v := mk 5 0 ⟨#[]⟩ ka kl kc va vl vc) (by simp [results, Try.results79, go_sem, z0, z1, z2, z3, z4]) rfl ?_
          obtain ⟨e1, e2, e3, e4, e5⟩ := five_fin w3 w.heap.size (.int .i64 5) (.int .u64 0) (.string ⟨#[]⟩) (.slice ka kl kc) (.slice va vl vc)
          generalize (((((w3.setCell ⟨w.heap.size, 0, none⟩ (.int .i64 5)).setCell ⟨w.heap.size, 1, none⟩ (.int .u64 0)).setCell ⟨w.heap.size, 2, none⟩ (.string ⟨#[]⟩)).setCell ⟨w.heap.size, 3, none⟩ (.slice ka kl kc)).setCell ⟨w.heap.size, 4, none⟩ (.slice va vl vc)) = W5 at *
          by_cases h5 : s'.2 ≤ 512
          · obtain ⟨H, hL, hH, hKH⟩ := HH.out h5
            obtain ⟨a', c', ev⟩ := hL.shape
            simp only [Value.slice.injEq] at ev
            obtain ⟨rfl, rfl, rfl⟩ := ev
            obtain ⟨a', c', ev⟩ := OwnK.shape HK.out.1
            simp only [Value.slice.injEq] at ev
            obtain ⟨rfl, rfl, rfl⟩ := ev
            have hown := OwnL.part (k := 5) (b := 0) (t := ⟨#[]⟩) hL HK.out.1 hKH (by decide) (by decide) (by decide) (by have := HLN.out.2; omega) (by have := HLN.out.1; omega) (fun k hk => by have := HK.out.2.2 k hk; omega)
            exact part_fin HR.out G3.out hpw R3.out e1 e2 e3 e4 e5 ⟨_, _, _, _, _, _, _, _, _, rfl⟩ (fun _ => ⟨hown, fun b hb => by
              rcases hb with hb | hb
              · have := hH b hb; have := HW2.out; omega
              · have := HK.out.2.1 b hb; have := HW2.out; omega⟩)
          · exact part_fin (F := fun _ => False) HR.out G3.out hpw R3.out e1 e2 e3 e4 e5 ⟨_, _, _, _, _, _, _, _, _, rfl⟩ (fun h => absurd h h5)
      have HR : Hid (rd (n + 1) (o :: r, q) = .error 22) := by
        show _ = _
        simp only [rd, hov]
        rw [if_neg h0, if_neg (by omega), if_neg h3, if_neg h4, if_neg h5, if_neg h6]
      have d0 : ((ov : Int) == 0) = false := by simp; omega
      have d1 : ((ov : Int) == 1) = false := by simp; omega
      have d2 : ((ov : Int) == 2) = false := by simp; omega
      have d3 : ((ov : Int) == 3) = false := by simp; omega
      have d4 : ((ov : Int) == 4) = false := by simp; omega
      have d5 : ((ov : Int) == 5) = false := by simp; omega
      have d6 : ((ov : Int) == 6) = false := by simp; omega
      clear hov h0 h1 h2 h3 h4 h5 h6 h256
      go_wp2_with fail
      exact ⟨rfl, G2.out, Or.inl ⟨22, HR.out, rfl⟩⟩
end Go.Proofs.Ytfdbhojghkdlkaa
