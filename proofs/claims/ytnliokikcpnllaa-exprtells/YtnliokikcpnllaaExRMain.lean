/-
  The page's reading of a part whose op may be. (Printed by wip/make/mkexrmain.py.)
-/
import Derived.Test.YtnliokikcpnllaaExRKids
import Derived.OrdersHeld
namespace Go.Proofs.Ytnliokikcpnllaa
open Go.ChangeShapes Go.WideShapes Go.ChangeAt Go.RowKit Go.Deep
open Fl

/-- What reading with n levels left answers. -/
def RXs (n : Nat) : Prop := ∀ (d : Int) (s : SX) (p : Nat) (a : Option Addr) (c : Nat) (bs : List UInt8) (w : World), d + (n : Int) = 9 → 1 ≤ d → RAtX w p a c bs s → Oct w a c bs → s.1.length + s.2 ≤ 1000000000000000 →
    Calls Try.prog 33 #[.pointer (some ⟨p, 0, none⟩), .int .i64 d] w (RXPost n (rdX n s) p a c bs w)

theorem RAtX.bump {w : World} {p : Nat} {a : Option Addr} {c : Nat} {bs l : List UInt8} {q : Nat} (h : RAtX w p a c bs (l, q)) : RAtX (w.setCell ⟨p, 2, none⟩ (.int .i64 ((q : Int) + 1))) p a c bs (l, q + 1) := by
  obtain ⟨i, h1, h2, h3⟩ := h
  exact ⟨i, h1, h2, set4X_two h3 _⟩

theorem set_fieldX {W : World} {E o : Nat} {cs : Array Value} {ty : TypeId} (h : W.heap[E]? = some (.cells cs ty (0, 0))) (v : Value) : (W.setCell ⟨E, o, none⟩ v).heap[E]? = some (.cells (cs.setIfInBounds o v) ty (0, 0)) := set_one_cell h v

theorem grown_setE {w W : World} {p E o : Nat} (h : w.grownBy W (some p)) (hE : w.heap.size ≤ E) (v : Value) : w.grownBy (W.setCell ⟨E, o, none⟩ v) (some p) :=
  ⟨h.os, h.tape, h.output, by simpa [World.setCell] using h.size, fun k hk hne => (Below.heap_setCell _ _ _ _ (by show k ≠ E; omega)).trans (h.block k hk hne)⟩

set_option maxRecDepth 100000 in
set_option maxHeartbeats 6400000 in


theorem rexprX_main (n : Nat) (ih : RXs n) (d : Int) (o : UInt8) (l : List UInt8) (q : Nat) (p : Nat) (a : Option Addr) (c : Nat) (bs : List UInt8) (w : World) (hdn : d + ((n + 1 : Nat) : Int) = 9) (hd1 : 1 ≤ d) (hr : RAtX w p a c bs (o :: l, q)) (ho : Oct w a c bs) (hb : (o :: l).length + q ≤ 1000000000000000) (h29 : o.toNat ≤ 29) :
    Calls Try.prog 33 #[.pointer (some ⟨p, 0, none⟩), .int .i64 d] w (RXPost (n + 1) (rdX (n + 1) (o :: l, q)) p a c bs w) := by
  have IH : Hid (RXs n) := ih
  have hp : p < w.heap.size := by obtain ⟨i, -, -, h⟩ := hr; exact lt_of_block h
  have HR0 : Hid (RAtX w p a c bs (o :: l, q)) := hr
  have hA0 := hr.same ((below_one w (.cells #[.int .i64 0, .int .u64 0, .string ⟨#[]⟩, .slice none 0 0] 25)).block p hp)
  obtain ⟨i0, hi0, hd0, hbA⟩ := hA0
  have HF := rfailX_no p 10 _ hbA
  have ho1 := ho.below (below_one w (.cells #[.int .i64 0, .int .u64 0, .string ⟨#[]⟩, .slice none 0 0] 25))
  have hdd : decide ((8 : Int) < d) = false := by simp; omega
  have HT := roctetX_any p a c bs (o :: l) q _ ⟨i0, hi0, hd0, hbA⟩ ho1
  have HO : Hid (Oct w a c bs) := ho
  obtain ⟨kn, hkn⟩ : ∃ kn : Nat, kn = o.toNat := ⟨_, rfl⟩
  have HRD : Hid (rdX (n + 1) (o :: l, q) = match headR (kn : Int) (l, q + 1) with
      | .error e => .error e
      | .ok (b, t, s2) => match countR (kn : Int) s2 with
        | .error e => .error e
        | .ok (m, s3) => match iterX (rdX n) m.toNat s3 with
          | .error e => .error e
          | .ok (its, s4) => .ok (((kn : Int), b, t, its), s4)) := by
    have h1 : opR ((o :: l, q).1, (o :: l, q).2 + 1) = .ok ((kn : Int), (l, q + 1)) := by
      simp only [opR, octetX]
      rw [if_pos (by rw [within_iff]; omega), hkn]
    show _ = _
    simp only [rdX]
    rw [h1]
    rfl
  have HA0 : ∀ w, Calls Try.prog 48 #[.int .i64 (kn : Int)] w fun e w' => e = .returned (.int .i64 (rargN (kn : Int))) ∧ w' = w := rargs_any (kn : Int)
  have hrn : rargN (kn : Int) = if kn = 23 then -1 else (argB (kn : Int)).1 := by
    unfold rargN
    rw [if_pos (by rw [within_iff]; omega)]
    by_cases h : kn = 23
    · rw [if_pos (by omega), if_pos h]
    · rw [if_neg (by omega), if_neg h]
  have HNV : Hid (rargN (kn : Int) = if kn = 23 then -1 else (argB (kn : Int)).1) := hrn
  have hrn2 : ((rargN (kn : Int)) == -2) = false := by
    rw [hrn]
    by_cases h : kn = 23
    · rw [if_pos h]; rfl
    · rw [if_neg h]
      have := (argB_small (k := (kn : Int)) (by omega)).2.1
      simp
      omega
  generalize rargN (kn : Int) = nv at *
  have hqq : (q : Int) ≤ 1000000000000000 := by simp only [List.length_cons] at hb; omega
  have HB : Hid (l.length + q + 1 ≤ 1000000000000000) := by show _ ≤ _; simp only [List.length_cons] at hb; omega
  clear hr hbA hi0 hd0 ho ho1 ih hrn hb
  go_enter Try.func33, Try.ntmps33
  go_wp2_with fail
  refine HF.mono ?_
  rintro e w1 ⟨rfl, hw1⟩
  subst hw1
  go_wp2_with fail
  refine HT.mono ?_
  rintro e w2 ⟨hg2, ⟨h2, -⟩ | ⟨o2, r2, h2, rfl, he2⟩⟩
  · cases h2
  cases h2
  rw [← hkn]
  have hk29 : kn ≤ 29 := by omega
  have HE1 : Hid (RAtX w2 p a c bs (l, q)) := he2
  have HG1 : Hid (w.grownBy w2 (some p)) := below_grownX (below_one _ _) hg2
  have HZ1 : Hid (w2.heap[w.heap.size]? = some (.cells #[.int .i64 0, .int .u64 0, .string ⟨#[]⟩, .slice none 0 0] 25 (0, 0))) := (hg2.block _ (by simp) (by simp; omega)).trans (heap_alloc_new _ _)
  clear hg2 he2 HF HT hkn h29
  go_wp2_with fail
  refine (HA0 _).mono ?_
  rintro e w3 ⟨rfl, hw3⟩
  subst hw3
  have hp2 : p < w2.heap.size := Nat.lt_of_lt_of_le hp HG1.out.size
  have HR4 : Hid (RAtX (w2.alloc (.cells #[.int .i64 (kn : Int), .int .u64 0, .string ⟨#[]⟩, .slice none 0 0] 25)) p a c bs (l, q)) := HE1.out.same ((below_one _ _).block p hp2)
  have HG4 : Hid (w.grownBy (w2.alloc (.cells #[.int .i64 (kn : Int), .int .u64 0, .string ⟨#[]⟩, .slice none 0 0] 25)) (some p)) := grown_belowX HG1.out (below_one _ _)
  have HZ4 : Hid ((w2.alloc (.cells #[.int .i64 (kn : Int), .int .u64 0, .string ⟨#[]⟩, .slice none 0 0] 25)).heap[w.heap.size]? = some (.cells #[.int .i64 0, .int .u64 0, .string ⟨#[]⟩, .slice none 0 0] 25 (0, 0))) := ((below_one _ _).block _ (lt_of_block HZ1.out)).trans HZ1.out
  have HX4 : Hid ((w2.alloc (.cells #[.int .i64 (kn : Int), .int .u64 0, .string ⟨#[]⟩, .slice none 0 0] 25)).heap[w2.heap.size]? = some (.cells #[.int .i64 (kn : Int), .int .u64 0, .string ⟨#[]⟩, .slice none 0 0] 25 (0, 0))) := heap_alloc_new _ _
  have HSZ : w.heap.size < w2.heap.size := lt_of_block HZ1.out
  clear HE1 HG1 HZ1
  go_wp2_with fail
  generalize w2.alloc (.cells #[.int .i64 (kn : Int), .int .u64 0, .string ⟨#[]⟩, .slice none 0 0] 25) = W4 at *
  generalize w2.heap.size = E at *
  obtain ⟨i4, hi4, hd4, hb4⟩ := HR4.out
  refine (rfailX_no p 22 W4 hb4).mono ?_
  rintro e w5 ⟨rfl, hw5⟩
  subst hw5
  have HR6 : Hid (RAtX (w5.setCell ⟨p, 2, none⟩ (.int .i64 ((q : Int) + 1))) p a c bs (l, q + 1)) := HR4.out.bump
  have HG6 : Hid (w.grownBy (w5.setCell ⟨p, 2, none⟩ (.int .i64 ((q : Int) + 1))) (some p)) := grown_transX HG4.out (grown_setX _)
  have HZ6 : Hid ((w5.setCell ⟨p, 2, none⟩ (.int .i64 ((q : Int) + 1))).heap[w.heap.size]? = some (.cells #[.int .i64 0, .int .u64 0, .string ⟨#[]⟩, .slice none 0 0] 25 (0, 0))) := (Below.heap_setCell _ _ _ _ (by show w.heap.size ≠ p; omega)).trans HZ4.out
  have HX6 : Hid ((w5.setCell ⟨p, 2, none⟩ (.int .i64 ((q : Int) + 1))).heap[E]? = some (.cells #[.int .i64 (kn : Int), .int .u64 0, .string ⟨#[]⟩, .slice none 0 0] 25 (0, 0))) := (Below.heap_setCell _ _ _ _ (by show E ≠ p; omega)).trans HX4.out
  obtain ⟨x0, x1, x2, x3, f0, f1, f2, f3⟩ := rd4X_cells hb4
  clear hb4 hi4 hd4 HR4 HG4 HZ4 HX4
  go_upto_region 5 with fail
  generalize w5.setCell ⟨p, 2, none⟩ (.int .i64 ((q : Int) + 1)) = W6 at *
  clear x0 x1 x2 x3 f0 f1 f2 f3
  obtain ⟨i6, hi6, hd6, hb6⟩ := HR6.out
  obtain ⟨x0, x1, x2, x3, -⟩ := rd4X_cells hb6
  obtain ⟨z0, z1, z2, z3, -⟩ := box4 HX6.out
  clear hb6 hi6 hd6
  go_wp2_with fail
  refine (HA0 _).mono ?_
  rintro e w7 ⟨rfl, hw7⟩
  subst hw7
  clear HA0
  go_upto_region 9 with fail
  clear x0 x1 x2 x3 z0 z1 z2 z3
  rename_i K1 hK1 K0 hK0
  have RERR : Hid (∀ (W : World) (er mv k' b' : Int) (t' : ByteArray) (Kq : Nat) (u7 u8 u9 u42 u43 u44 u45 u46 u47 u48 u49 u50 u51 u52 u53 u54 u55 u56 u57 u58 u59 u60 u61 u62 u63 u64 u65 u66 u67 u68 u69 u70 u71 u72 u73 u74 u75 u76 u77 u78 u79 u80 u81 u82 u83 u84 u85 u86 u87 u88 u89 u90 : Value), rdX (n + 1) (o :: l, q) = .error er → RErrX W p Kq er → w.grownBy W (some p) → W.heap[w.heap.size]? = some (.cells #[.int .i64 0, .int .u64 0, .string ⟨#[]⟩, .slice none 0 0] 25 (0, 0)) →
      W.heap[E]? = some (.cells #[.int .i64 k', .int .u64 b', .string t', .slice none 0 0] 25 (0, 0)) → K1 { tmps := #[.pointer (some ⟨p, 0, none⟩), .int .i64 d, undef, undef, .pointer (some ⟨w.heap.size, 0, none⟩), .pointer (some ⟨E, 0, none⟩), .int .i64 mv, u7, u8, u9, undef, .pointer (some ⟨p, 0, none⟩), .int .i64 d, .bool false, .tuple #[], .pointer (some ⟨p, 0, none⟩), .int .i64 (kn : Int), .agg #[.int .i64 (kn : Int), .int .u64 0, .string ⟨#[]⟩, .slice none 0 0], .pointer (some ⟨p, 0, none⟩), .pointer (some ⟨E, 0, none⟩), .int .i64 (kn : Int), .int .i64 nv, .bool false, .tuple #[], .pointer (some ⟨p, 0, none⟩), .pointer (some ⟨p, 0, none⟩), .pointer (some ⟨p, 2, none⟩), .int .i64 (q : Int), .int .i64 ((q : Int) + 1), .pointer (some ⟨p, 0, none⟩), .pointer (some ⟨p, 2, none⟩), .pointer (some ⟨p, 0, none⟩), .pointer (some ⟨p, 0, none⟩), .pointer (some ⟨p, 3, none⟩), .int .i64 0, .bool false, undef, .pointer (some ⟨E, 0, none⟩), .int .i64 (kn : Int), .int .i64 nv, .pointer (some ⟨E, 0, none⟩), .int .i64 (kn : Int), u42, u43, u44, u45, u46, u47, u48, u49, u50, u51, u52, u53, u54, u55, u56, u57, u58, u59, u60, u61, u62, u63, u64, u65, u66, u67, u68, u69, u70, u71, u72, u73, u74, u75, u76, u77, u78, u79, u80, u81, u82, u83, u84, u85, u86, u87, u88, u89, u90, undef, undef, undef, undef, undef, undef, undef, undef, undef, undef, undef, undef, undef, undef, undef, undef, undef, undef, undef, undef, undef, undef], defers := [] } W) := by
    intro W er mv k' b' t' Kq u7 u8 u9 u42 u43 u44 u45 u46 u47 u48 u49 u50 u51 u52 u53 u54 u55 u56 u57 u58 u59 u60 u61 u62 u63 u64 u65 u66 u67 u68 u69 u70 u71 u72 u73 u74 u75 u76 u77 u78 u79 u80 u81 u82 u83 u84 u85 u86 u87 u88 u89 u90 hrd he hg hz hx
    have HRE : Hid (rdX (n + 1) (o :: l, q) = .error er) := hrd
    have HE : Hid (RErrX W p Kq er) := he
    have HG : Hid (w.grownBy W (some p)) := hg
    have HZ : Hid (W.heap[w.heap.size]? = _) := hz
    have HX : Hid (W.heap[E]? = _) := hx
    obtain ⟨hne, q9, hq9, sl9, i9, hb9⟩ := he
    obtain ⟨y0, y1, y2, y3, -⟩ := rd4X_cells hb9
    obtain ⟨v0, v1, v2, v3, -⟩ := box4 hx
    obtain ⟨z0, z1, z2, z3, zf0, zf1, zf2, zf3⟩ := box4 hz
    have he0 : (er == 0) = false := by simpa using hne
    clear hrd hg hz hx hb9 hq9 hne
    apply hK1
    clear hK1 hK0 HR6 HG6 HZ6 HX6 HRD
    go_wp2_with fail
    go_loopw [10] (fun v10 wr => v10 = .int .i64 0 ∧ Hid (wr = W)) (fun _ _ => 0)
    case atStart => exact ⟨rfl, rfl⟩
    case round =>
      obtain ⟨rfl, HW⟩ := hrel
      obtain rfl := HW.out
      obtain ⟨T2, O2, -⟩ := set4 HZ.out (.int .i64 k') (.int .u64 b') (.string t') (.slice none 0 0)
      have HE7 : Hid (RErrX _ p Kq er) := HE.out.same (O2 p (by omega))
      have HG7 : Hid (w.grownBy _ (some p)) := grown_setsX HG.out HZ.out (by omega) (.int .i64 k') (.int .u64 b') (.string t') (.slice none 0 0)
      have HT7 : Hid _ := T2
      clear T2 O2 HE HG HZ HX
      by_cases hmv : 0 < mv
      all_goals
        go_wp2_with fail
        generalize ((((wr.setCell ⟨w.heap.size, 0, none⟩ (.int .i64 k')).setCell ⟨w.heap.size, 1, none⟩ (.int .u64 b')).setCell ⟨w.heap.size, 2, none⟩ (.string t')).setCell ⟨w.heap.size, 3, none⟩ (.slice none 0 0)) = W7 at *
        clear z0 z1 z2 z3
        obtain ⟨z0, z1, z2, z3, -⟩ := box4 HT7.out
        refine bodyPost_ret (v := mkX k' b' t' none 0 0) (by simp [results, Try.results33, go_sem, z0, z1, z2, z3]) rfl ?_
        exact ⟨HG7.out, Or.inl ⟨er, Kq, _, _, _, _, _, _, HRE.out, rfl, HE7.out⟩⟩
  have ROK : Hid (∀ (W : World) (b' : Int) (t' : ByteArray) (s3 : SX) (M : Nat) (u7 u8 u9 u42 u43 u44 u45 u46 u47 u48 u49 u50 u51 u52 u53 u54 u55 u56 u57 u58 u59 u60 u61 u62 u63 u64 u65 u66 u67 u68 u69 u70 u71 u72 u73 u74 u75 u76 u77 u78 u79 u80 u81 u82 u83 u84 u85 u86 u87 u88 u89 u90 : Value), M ≤ 8 → (U b' ∧ t'.size ≤ 255) → s3.1.length + s3.2 ≤ 1000000000000000 → (rdX (n + 1) (o :: l, q) = match iterX (rdX n) M s3 with | .error e => .error e | .ok (its, s4) => .ok (((kn : Int), b', t', its), s4)) → RAtX W p a c bs s3 → w.grownBy W (some p) → W.heap[w.heap.size]? = some (.cells #[.int .i64 0, .int .u64 0, .string ⟨#[]⟩, .slice none 0 0] 25 (0, 0)) →
      W.heap[E]? = some (.cells #[.int .i64 (kn : Int), .int .u64 b', .string t', .slice none 0 0] 25 (0, 0)) → K1 { tmps := #[.pointer (some ⟨p, 0, none⟩), .int .i64 d, undef, undef, .pointer (some ⟨w.heap.size, 0, none⟩), .pointer (some ⟨E, 0, none⟩), .int .i64 (M : Int), u7, u8, u9, undef, .pointer (some ⟨p, 0, none⟩), .int .i64 d, .bool false, .tuple #[], .pointer (some ⟨p, 0, none⟩), .int .i64 (kn : Int), .agg #[.int .i64 (kn : Int), .int .u64 0, .string ⟨#[]⟩, .slice none 0 0], .pointer (some ⟨p, 0, none⟩), .pointer (some ⟨E, 0, none⟩), .int .i64 (kn : Int), .int .i64 nv, .bool false, .tuple #[], .pointer (some ⟨p, 0, none⟩), .pointer (some ⟨p, 0, none⟩), .pointer (some ⟨p, 2, none⟩), .int .i64 (q : Int), .int .i64 ((q : Int) + 1), .pointer (some ⟨p, 0, none⟩), .pointer (some ⟨p, 2, none⟩), .pointer (some ⟨p, 0, none⟩), .pointer (some ⟨p, 0, none⟩), .pointer (some ⟨p, 3, none⟩), .int .i64 0, .bool false, undef, .pointer (some ⟨E, 0, none⟩), .int .i64 (kn : Int), .int .i64 nv, .pointer (some ⟨E, 0, none⟩), .int .i64 (kn : Int), u42, u43, u44, u45, u46, u47, u48, u49, u50, u51, u52, u53, u54, u55, u56, u57, u58, u59, u60, u61, u62, u63, u64, u65, u66, u67, u68, u69, u70, u71, u72, u73, u74, u75, u76, u77, u78, u79, u80, u81, u82, u83, u84, u85, u86, u87, u88, u89, u90, undef, undef, undef, undef, undef, undef, undef, undef, undef, undef, undef, undef, undef, undef, undef, undef, undef, undef, undef, undef, undef, undef], defers := [] } W) := by
    intro W b' t' s3 M u7 u8 u9 u42 u43 u44 u45 u46 u47 u48 u49 u50 u51 u52 u53 u54 u55 u56 u57 u58 u59 u60 u61 u62 u63 u64 u65 u66 u67 u68 u69 u70 u71 u72 u73 u74 u75 u76 u77 u78 u79 u80 u81 u82 u83 u84 u85 u86 u87 u88 u89 u90 hM hbt hs3 hrd hr3 hg hz hx
    have HRE : Hid (rdX (n + 1) (o :: l, q) = match iterX (rdX n) M s3 with | .error e => .error e | .ok (its, s4) => .ok (((kn : Int), b', t', its), s4)) := hrd
    have K6 : Hid (RKidsI w p a c bs E n (kn : Int) b' t' W s3 [] none 0) := ⟨hx, hz, hr3, hg, [], fun _ _ => False, RowX.nil _ _ _ _⟩
    have HBT : Hid (U b' ∧ t'.size ≤ 255) := hbt
    have HS3 : Hid (s3.1.length + s3.2 ≤ 1000000000000000) := hs3
    clear hrd hr3 hg hz hx hbt hs3
    apply hK1
    clear hK1 hK0 HR6 HG6 HZ6 HX6 HRD RERR HNV HB
    go_wp2_with fail
    go_loopw [10] (fun v10 wr => (∃ (j : Nat) (r : List (X n)) (s' : SX) (va : Option Addr) (vc : Nat), j ≤ M ∧ v10 = .int .i64 (j : Int) ∧ Hid (iterX (rdX n) j s3 = .ok (r, s')) ∧ Hid (RKidsI w p a c bs E n (kn : Int) b' t' wr s' r va vc)) ∨
        (∃ (j : Nat) (er : Int) (va : Option Addr) (vl vc : Nat), j ≤ M ∧ v10 = .int .i64 (j : Int) ∧ Hid (rdX (n + 1) (o :: l, q) = .error er) ∧ Hid (RKidsE w p E (kn : Int) b' t' wr er va vl vc))) (fun v10 _ => M - (intOf v10).toNat)
    case atStart => exact Or.inl ⟨0, [], s3, none, 0, Nat.zero_le _, rfl, rfl, K6.out⟩
    case round =>
      clear K6
      rcases hrel with ⟨j, r, s', va, vc, hj, rfl, HIT, HK⟩ | ⟨j, er, va, vl, vc, hj, rfl, HR2, HK⟩
      · obtain ⟨i5, hi5, hd5, hb5⟩ := HK.out.rd
        obtain ⟨y0, y1, y2, y3, -⟩ := rd4X_cells hb5
        clear hb5 hi5 hd5
        by_cases hlt : j < M
        · have hj1 : (j : Int) < (M : Int) := by omega
          have HRL : Hid (r.length = j) := iterX_len _ _ _ _ HIT.out
          have hbd : s'.1.length + s'.2 ≤ 1000000000000000 := by
            have q := (iterX_less (fun s a s' h => rdX_less n s s' a h) _ _ _ _ HIT.out).1
            have := HS3.out
            omega
          have CP : Hid (∀ W, RAtX W p a c bs s' → Oct W a c bs → Calls Try.prog 33 #[.pointer (some ⟨p, 0, none⟩), .int .i64 (d + 1)] W (RXPost n (rdX n s') p a c bs W)) := fun W h h' => IH.out (d + 1) s' p a c bs W (by omega) (by omega) h h' hbd
          have HOD : Hid (Oct wr.drew a c bs) := (HO.out.grown4X HR0.out HK.out.grown).below ((Below.refl _ _).drew)
          have HRW : Hid (RAtX wr.drew p a c bs s') := HK.out.rd.same rfl
          have HSTOP : Hid (∀ er, iterX (rdX n) (j + 1) s3 = .error er → iterX (rdX n) M s3 = .error er) := fun er h => by
            have := iterX_stop h (M - (j + 1))
            rwa [show j + 1 + (M - (j + 1)) = M by omega] at this
          have HNX := iterX_next HIT.out
          have HS0 : (fun w' : World => w'.cell? ⟨E, 3, none⟩ = some (.slice va r.length vc)) wr.drew := (box4 HK.out.box).2.2.2.1
          obtain ⟨xs, hxs0⟩ := HK.out.row
          have hxs : Hid (∃ G, RowX 25 wr (E + 1) (.slice va r.length vc) n r r.length xs G) := hxs0
          clear hxs0 hbd
          cases hrd : rdX n s' with
          | error er =>
            rw [hrd] at CP HNX
            have HNE : Hid (rdX (n + 1) (o :: l, q) = .error er) := by
              show _ = _
              rw [HRE.out, HSTOP.out er HNX]
            clear hrd HNX
            go_wp2_with fail
            clear y0 y1 y2 y3
            refine Rg.Till.region (fun w' => w'.cell? ⟨E, 3, none⟩ = some (.slice va r.length vc)) 9 (by kernel_rfl) ?_
            show Rg.Till _ _ _ _ _ 10 (Array.replicate 10 false) _ _
            refine Rg.Till.take (i := 0) (v := (.pointer (some ⟨E, 3, none⟩))) (some 103) rfl rfl (by kernel_rfl) (by kernel_rfl) (fun _ _ _ h => h) (by kernel_rfl) (by kernel_rfl) (Or.inl ⟨rfl, fun w' hS => ?_⟩) HS0 ?_
            · have y3 := hS; go_simp
            simp only [Act.put, List.setIfInBounds_toArray, List.set_cons_zero, List.set_cons_succ]
            refine Rg.Till.take (i := 1) (v := (.slice va r.length vc)) (some 104) rfl rfl (by kernel_rfl) (by kernel_rfl) (fun _ _ _ h => h) (by kernel_rfl) (by kernel_rfl) (Or.inl ⟨rfl, fun w' hS => ?_⟩) HS0 ?_
            · have y3 := hS; go_simp
            simp only [Act.put, List.setIfInBounds_toArray, List.set_cons_zero, List.set_cons_succ]
            refine Rg.Till.take (i := 2) (v := (.pointer (some ⟨p, 0, none⟩))) (some 105) rfl rfl (by kernel_rfl) (by kernel_rfl) (fun _ _ _ h => h) (by kernel_rfl) (by kernel_rfl) (Or.inl ⟨rfl, fun w' hS => ?_⟩) HS0 ?_
            · have y3 := hS; go_simp
            simp only [Act.put, List.setIfInBounds_toArray, List.set_cons_zero, List.set_cons_succ]
            refine Rg.Till.take (i := 3) (v := (.int .i64 d)) (some 106) rfl rfl (by kernel_rfl) (by kernel_rfl) (fun _ _ _ h => h) (by kernel_rfl) (by kernel_rfl) (Or.inl ⟨rfl, fun w' hS => ?_⟩) HS0 ?_
            · have y3 := hS; go_simp
            simp only [Act.put, List.setIfInBounds_toArray, List.set_cons_zero, List.set_cons_succ]
            refine Rg.Till.take (i := 4) (v := (.int .i64 (d + 1))) (some 107) rfl rfl (by kernel_rfl) (by kernel_rfl) (fun _ _ _ h => h) (by kernel_rfl) (by kernel_rfl) (Or.inl ⟨rfl, fun w' hS => ?_⟩) HS0 ?_
            · have y3 := hS; go_simp; rw [IntKind.wrap_i64]; omega
            simp only [Act.put, List.setIfInBounds_toArray, List.set_cons_zero, List.set_cons_succ]
            refine Rg.Till.one (i := 5) (by kernel_rfl) rfl rfl ?_
            refine op_call2R (d := some 108) rfl 33 (fun _ _ _ => rfl) _ _ _ rfl _ _ rfl rfl ?_
            refine (CP.out _ HRW.out HOD.out).mono ?_
            rintro e w7 ⟨hg7, ⟨er', Kq, k2, b2, t2, ja, jl, jc, h1, rfl, he7⟩ | ⟨v2, s5, k2, b2, t2, ja, jl, jc, F2, h1, -⟩⟩
            rotate_left
            · cases h1
            cases h1
            have hE7 : w7.heap[E]? = _ := (hg7.block E (lt_of_block HK.out.box) (by simp; omega)).trans HK.out.box
            have HS7 : (fun w' : World => w'.cell? ⟨E, 3, none⟩ = some (.slice va r.length vc)) w7 := (box4 hE7).2.2.2.1
            refine ⟨_, rfl, fun _ => HS7, ?_⟩
            simp only [Act.put, List.setIfInBounds_toArray, List.set_cons_zero, List.set_cons_succ]
            have HS8 : (fun w' : World => w'.cell? ⟨E, 3, none⟩ = some (.slice va r.length vc)) (w7.alloc (.cells #[.int .i64 k2, .int .u64 b2, .string t2, .slice ja jl jc] 25)) := keepc (below_one _ _) _ _ HS7
            have hrow8 : (w7.alloc (.cells #[.int .i64 k2, .int .u64 b2, .string t2, .slice ja jl jc] 25)).ownsRow (E + 1) 25 4 (.slice va r.length vc) r.length xs := by
              obtain ⟨G, hrow⟩ := hxs.out
              exact ownsRow_same hrow.row fun g hg => ((below_one w7 _).block g (by have := (hrow.row.lt g hg).2; have := hg7.size; exact Nat.lt_of_lt_of_le (hrow.row.lt g hg).2 hg7.size)).trans (hg7.block g (hrow.row.lt g hg).2 (by have := (hrow.row.lt g hg).1; simp; omega))
            refine Rg.Till.oneK (i := 6) (by kernel_rfl) rfl rfl fun K hK => ?_
            go_simp
            refine hK.out _ _ (fun _ => HS8) ?_
            clear hK K
            refine Rg.Till.one (i := 7) (by kernel_rfl) rfl rfl ?_
            refine op_pushR (d := some 110) rfl rfl _ _ rfl (E + 1) (.slice va r.length vc) r.length xs rfl hrow8 k2 b2 t2 ja jl jc ⟨w7.heap.size, 0, none⟩ 1 rfl (fun j u hj => newCells w7 _ _ j u (by rw [← Array.getElem?_toList]; exact hj)) (by have := HRL.out; omega) (by have := lt_of_block hE7; simp; omega) ?_
            intro v' w9 g1 g2 g3
            have hst := (HK.out.stay hp HSZ ((Below.refl _ wr).drew) hg7 (below_one w7 _) g2 v').1
            obtain ⟨-, -, -, z3, -, -, -, zf3⟩ := box4 hst
            obtain ⟨va', vc', rfl, hKE⟩ := HK.out.pushE hp HSZ ((Below.refl _ wr).drew) hg7 he7 (below_one w7 _) g1 g2
            have HKE : Hid (RKidsE w p E (kn : Int) b' t' (w9.setCell ⟨E, 3, none⟩ (.slice va' (r.length + 1) vc')) er va' (r.length + 1) vc') := hKE
            clear hKE he7
            have HS0 : (fun w' : World => w'.cell? ⟨E, 3, none⟩ = some (.slice va r.length vc)) w9 := z3
            clear hst hg7 g1 g2 g3 hE7 HS7 HS8 hrow8
            refine ⟨fun _ => HS0, ?_⟩
            simp only [Act.put, List.setIfInBounds_toArray, List.set_cons_zero, List.set_cons_succ]
            refine Rg.Till.take (i := 8) (v := (.pointer (some ⟨E, 3, none⟩))) (some 111) rfl rfl (by kernel_rfl) (by kernel_rfl) (fun _ _ _ h => h) (by kernel_rfl) (by kernel_rfl) (Or.inl ⟨rfl, fun w' hS => ?_⟩) HS0 ?_
            · have y3 := hS; go_simp
            simp only [Act.put, List.setIfInBounds_toArray, List.set_cons_zero, List.set_cons_succ]
            refine Rg.Till.oneK (i := 9) (by kernel_rfl) rfl rfl fun K hK => ?_
            go_simp
            refine hK.out _ _ (fun h => absurd rfl h) ?_
            clear hK K
            refine Rg.Till.done (by kernel_rfl) ?_
            clear HS0 z3 zf3
            go_wp2_with fail
            go_roundw
            case rel => exact Or.inr ⟨j + 1, er, va', r.length + 1, vc', by omega, by go_num, HNE.out, HKE.out⟩
            case measure => simp [intOf]; omega
          | ok us =>
            obtain ⟨u, s5⟩ := us
            rw [hrd] at CP HNX
            have HIT2 : Hid (iterX (rdX n) (j + 1) s3 = .ok (r ++ [u], s5)) := HNX
            clear hrd HNX HSTOP HIT
            go_wp2_with fail
            clear y0 y1 y2 y3
            refine Rg.Till.region (fun w' => w'.cell? ⟨E, 3, none⟩ = some (.slice va r.length vc)) 9 (by kernel_rfl) ?_
            show Rg.Till _ _ _ _ _ 10 (Array.replicate 10 false) _ _
            refine Rg.Till.take (i := 0) (v := (.pointer (some ⟨E, 3, none⟩))) (some 103) rfl rfl (by kernel_rfl) (by kernel_rfl) (fun _ _ _ h => h) (by kernel_rfl) (by kernel_rfl) (Or.inl ⟨rfl, fun w' hS => ?_⟩) HS0 ?_
            · have y3 := hS; go_simp
            simp only [Act.put, List.setIfInBounds_toArray, List.set_cons_zero, List.set_cons_succ]
            refine Rg.Till.take (i := 1) (v := (.slice va r.length vc)) (some 104) rfl rfl (by kernel_rfl) (by kernel_rfl) (fun _ _ _ h => h) (by kernel_rfl) (by kernel_rfl) (Or.inl ⟨rfl, fun w' hS => ?_⟩) HS0 ?_
            · have y3 := hS; go_simp
            simp only [Act.put, List.setIfInBounds_toArray, List.set_cons_zero, List.set_cons_succ]
            refine Rg.Till.take (i := 2) (v := (.pointer (some ⟨p, 0, none⟩))) (some 105) rfl rfl (by kernel_rfl) (by kernel_rfl) (fun _ _ _ h => h) (by kernel_rfl) (by kernel_rfl) (Or.inl ⟨rfl, fun w' hS => ?_⟩) HS0 ?_
            · have y3 := hS; go_simp
            simp only [Act.put, List.setIfInBounds_toArray, List.set_cons_zero, List.set_cons_succ]
            refine Rg.Till.take (i := 3) (v := (.int .i64 d)) (some 106) rfl rfl (by kernel_rfl) (by kernel_rfl) (fun _ _ _ h => h) (by kernel_rfl) (by kernel_rfl) (Or.inl ⟨rfl, fun w' hS => ?_⟩) HS0 ?_
            · have y3 := hS; go_simp
            simp only [Act.put, List.setIfInBounds_toArray, List.set_cons_zero, List.set_cons_succ]
            refine Rg.Till.take (i := 4) (v := (.int .i64 (d + 1))) (some 107) rfl rfl (by kernel_rfl) (by kernel_rfl) (fun _ _ _ h => h) (by kernel_rfl) (by kernel_rfl) (Or.inl ⟨rfl, fun w' hS => ?_⟩) HS0 ?_
            · have y3 := hS; go_simp; rw [IntKind.wrap_i64]; omega
            simp only [Act.put, List.setIfInBounds_toArray, List.set_cons_zero, List.set_cons_succ]
            refine Rg.Till.one (i := 5) (by kernel_rfl) rfl rfl ?_
            refine op_call2R (d := some 108) rfl 33 (fun _ _ _ => rfl) _ _ _ rfl _ _ rfl rfl ?_
            refine (CP.out _ HRW.out HOD.out).mono ?_
            rintro e w7 ⟨hg7, ⟨er', Kq, k2, b2, t2, ja, jl, jc, h1, -⟩ | ⟨v2, s6, k2, b2, t2, ja, jl, jc, F2, h1, rfl, ho7, hF7, hr7⟩⟩
            · cases h1
            cases h1
            have hE7 : w7.heap[E]? = _ := (hg7.block E (lt_of_block HK.out.box) (by simp; omega)).trans HK.out.box
            have HS7 : (fun w' : World => w'.cell? ⟨E, 3, none⟩ = some (.slice va r.length vc)) w7 := (box4 hE7).2.2.2.1
            refine ⟨_, rfl, fun _ => HS7, ?_⟩
            simp only [Act.put, List.setIfInBounds_toArray, List.set_cons_zero, List.set_cons_succ]
            have HS8 : (fun w' : World => w'.cell? ⟨E, 3, none⟩ = some (.slice va r.length vc)) (w7.alloc (.cells #[.int .i64 k2, .int .u64 b2, .string t2, .slice ja jl jc] 25)) := keepc (below_one _ _) _ _ HS7
            have hrow8 : (w7.alloc (.cells #[.int .i64 k2, .int .u64 b2, .string t2, .slice ja jl jc] 25)).ownsRow (E + 1) 25 4 (.slice va r.length vc) r.length xs := by
              obtain ⟨G, hrow⟩ := hxs.out
              exact ownsRow_same hrow.row fun g hg => ((below_one w7 _).block g (by have := (hrow.row.lt g hg).2; have := hg7.size; exact Nat.lt_of_lt_of_le (hrow.row.lt g hg).2 hg7.size)).trans (hg7.block g (hrow.row.lt g hg).2 (by have := (hrow.row.lt g hg).1; simp; omega))
            refine Rg.Till.oneK (i := 6) (by kernel_rfl) rfl rfl fun K hK => ?_
            go_simp
            refine hK.out _ _ (fun _ => HS8) ?_
            clear hK K
            refine Rg.Till.one (i := 7) (by kernel_rfl) rfl rfl ?_
            refine op_pushR (d := some 110) rfl rfl _ _ rfl (E + 1) (.slice va r.length vc) r.length xs rfl hrow8 k2 b2 t2 ja jl jc ⟨w7.heap.size, 0, none⟩ 1 rfl (fun j u hj => newCells w7 _ _ j u (by rw [← Array.getElem?_toList]; exact hj)) (by have := HRL.out; omega) (by have := lt_of_block hE7; simp; omega) ?_
            intro v' w9 g1 g2 g3
            have hst := (HK.out.stay hp HSZ ((Below.refl _ wr).drew) hg7 (below_one w7 _) g2 v').1
            obtain ⟨-, -, -, z3, -, -, -, zf3⟩ := box4 hst
            obtain ⟨va', vc', hv', hKI⟩ := HK.out.push hp HSZ ((Below.refl _ wr).drew) hg7 hr7 ho7 hF7 (below_one w7 _) hxs.out g1 g2 g3
            have hle : (r ++ [u]).length = r.length + 1 := by simp
            rw [hle] at hv'
            subst hv'
            have HKI : Hid (RKidsI w p a c bs E n (kn : Int) b' t' (w9.setCell ⟨E, 3, none⟩ (.slice va' (r.length + 1) vc')) s5 (r ++ [u]) va' vc') := hKI
            clear hKI ho7 hF7 hr7 hle
            have HS0 : (fun w' : World => w'.cell? ⟨E, 3, none⟩ = some (.slice va r.length vc)) w9 := z3
            clear hst hg7 g1 g2 g3 hE7 HS7 HS8 hrow8
            refine ⟨fun _ => HS0, ?_⟩
            simp only [Act.put, List.setIfInBounds_toArray, List.set_cons_zero, List.set_cons_succ]
            refine Rg.Till.take (i := 8) (v := (.pointer (some ⟨E, 3, none⟩))) (some 111) rfl rfl (by kernel_rfl) (by kernel_rfl) (fun _ _ _ h => h) (by kernel_rfl) (by kernel_rfl) (Or.inl ⟨rfl, fun w' hS => ?_⟩) HS0 ?_
            · have y3 := hS; go_simp
            simp only [Act.put, List.setIfInBounds_toArray, List.set_cons_zero, List.set_cons_succ]
            refine Rg.Till.oneK (i := 9) (by kernel_rfl) rfl rfl fun K hK => ?_
            go_simp
            refine hK.out _ _ (fun h => absurd rfl h) ?_
            clear hK K
            refine Rg.Till.done (by kernel_rfl) ?_
            clear HS0 z3 zf3
            go_wp2_with fail
            go_roundw
            case rel => exact Or.inl ⟨j + 1, r ++ [u], s5, va', vc', by omega, by go_num, HIT2.out, HKI.out⟩
            case measure => simp [intOf]; omega
        · have hje : j = M := by omega
          subst hje
          have HRL : Hid (r.length = j) := iterX_len _ _ _ _ HIT.out
          have HRV : Hid (rdX (n + 1) (o :: l, q) = .ok (((kn : Int), b', t', r), s')) := by
            show _ = _
            rw [HRE.out, HIT.out]
          obtain ⟨v0, v1, v2, v3, -⟩ := box4 HK.out.box
          obtain ⟨z0, z1, z2, z3, zf0, zf1, zf2, zf3⟩ := box4 HK.out.zero
          obtain ⟨T2, O2, S2⟩ := set4 HK.out.zero (.int .i64 (kn : Int)) (.int .u64 b') (.string t') (.slice va r.length vc)
          have HR7 : Hid (RAtX _ p a c bs s') := HK.out.rd.same (O2 p (by omega))
          have HG7 : Hid (w.grownBy _ (some p)) := grown_setsX HK.out.grown HK.out.zero (by omega) (.int .i64 (kn : Int)) (.int .u64 b') (.string t') (.slice va r.length vc)
          have HT7 : Hid _ := T2
          have HO7 : Hid _ := O2
          have HS7 : Hid _ := S2
          clear T2 O2 S2
          go_wp2_with fail
          generalize ((((wr.setCell ⟨w.heap.size, 0, none⟩ (.int .i64 (kn : Int))).setCell ⟨w.heap.size, 1, none⟩ (.int .u64 b')).setCell ⟨w.heap.size, 2, none⟩ (.string t')).setCell ⟨w.heap.size, 3, none⟩ (.slice va r.length vc)) = W7 at *
          clear z0 z1 z2 z3
          obtain ⟨z0, z1, z2, z3, -⟩ := box4 HT7.out
          obtain ⟨xs, G, hrow⟩ := HK.out.row
          have hown := hrow.own (w' := W7) (k := (kn : Int)) (b := b') (t := t') ⟨by omega, by omega⟩ HBT.out.1 (by have := HBT.out.2; omega) (by have := HRL.out; omega) (fun j hj _ => HO7.out j (by omega))
          refine bodyPost_ret (v := mkX (kn : Int) b' t' va r.length vc) (by simp [results, Try.results33, go_sem, z0, z1, z2, z3]) rfl ?_
          exact ⟨HG7.out, Or.inr ⟨_, _, _, _, _, _, _, _, _, HRV.out, rfl, hown, fun g hg => ⟨by omega, by rw [HS7.out]; exact hg.2⟩, HR7.out⟩⟩
      · obtain ⟨Kq, he⟩ := HK.out.rd
        have HE : Hid (RErrX wr p Kq er) := he
        obtain ⟨hne, q9, hq9, sl9, i9, hb9⟩ := he
        obtain ⟨y0, y1, y2, y3, -⟩ := rd4X_cells hb9
        obtain ⟨v0, v1, v2, v3, -⟩ := box4 HK.out.box
        obtain ⟨z0, z1, z2, z3, zf0, zf1, zf2, zf3⟩ := box4 HK.out.zero
        have he0 : (er == 0) = false := by simpa using hne
        obtain ⟨T2, O2, -⟩ := set4 HK.out.zero (.int .i64 (kn : Int)) (.int .u64 b') (.string t') (.slice va vl vc)
        have HE7 : Hid (RErrX _ p Kq er) := HE.out.same (O2 p (by omega))
        have HG7 : Hid (w.grownBy _ (some p)) := grown_setsX HK.out.grown HK.out.zero (by omega) (.int .i64 (kn : Int)) (.int .u64 b') (.string t') (.slice va vl vc)
        have HT7 : Hid _ := T2
        clear T2 O2 HE hb9 hq9 hne
        by_cases hlt : (j : Int) < (M : Int)
        all_goals
          go_wp2_with fail
          generalize ((((wr.setCell ⟨w.heap.size, 0, none⟩ (.int .i64 (kn : Int))).setCell ⟨w.heap.size, 1, none⟩ (.int .u64 b')).setCell ⟨w.heap.size, 2, none⟩ (.string t')).setCell ⟨w.heap.size, 3, none⟩ (.slice va vl vc)) = W7 at *
          clear z0 z1 z2 z3
          obtain ⟨z0, z1, z2, z3, -⟩ := box4 HT7.out
          refine bodyPost_ret (v := mkX (kn : Int) b' t' va vl vc) (by simp [results, Try.results33, go_sem, z0, z1, z2, z3]) rfl ?_
          exact ⟨HG7.out, Or.inl ⟨er, Kq, _, _, _, _, _, _, HR2.out, rfl, HE7.out⟩⟩
  clear hK1
  have HOW : Hid (Oct w7 a c bs) := HO.out.grown4X HR0.out HG6.out
  have em : (kn : Int) % 256 = (kn : Int) := by omega
  by_cases k3 : kn = 3
  · subst k3
    have hnv : nv = 0 := by rw [HNV.out, if_neg (by decide)]; rfl
    subst hnv
    have HRC : Hid (rdX (n + 1) (o :: l, q) = match bitsR (l, q + 1) with
        | .error e => .error e
        | .ok (b, s3) => match iterX (rdX n) 0 s3 with
          | .error e => .error e
          | .ok (its, s4) => .ok ((((3 : Nat) : Int), b, ⟨#[]⟩, its), s4)) := by
      show _ = _
      have h2 : headR ((3 : Nat) : Int) (l, q + 1) = (match bitsR (l, q + 1) with | .error e => .error e | .ok (b, s') => .ok (b, ⟨#[]⟩, s')) := rfl
      rw [HRD.out, h2]
      cases bitsR (l, q + 1) with
      | error e => rfl
      | ok ts =>
        obtain ⟨b, s3⟩ := ts
        rfl
    have HTK : Calls Try.prog 50 #[.pointer (some ⟨p, 0, none⟩), .int .i64 8] w7 _ := rtakeX_any 8 p a c bs (l, q + 1) w7 HR6.out HOW.out (by decide)
    have hq1 : l.length + q + 1 ≤ 1000000000000000 := HB.out
    clear HRD HNV HB
    go_wp2_with fail
    refine HTK.mono ?_
    rintro e w8 ⟨hg8, ⟨hs, rfl, he8⟩ | ⟨hs, hr8, a', c', rfl, hL8⟩⟩
    · have HRE : Hid (rdX (n + 1) (o :: l, q) = .error 8) := by
        show _ = _
        have hb : bitsR (l, q + 1) = .error 8 := by unfold bitsR; rw [if_pos hs]
        rw [HRC.out, hb]
      have HE : Hid (RErrX w8 p (q + 1) 8) := he8
      have HG : Hid (w.grownBy w8 (some p)) := grown_transX HG6.out hg8
      have HZ : Hid (w8.heap[w.heap.size]? = _) := (hg8.block _ (lt_of_block HZ6.out) (by simp; omega)).trans HZ6.out
      have HX : Hid (w8.heap[E]? = _) := (hg8.block _ (lt_of_block HX6.out) (by simp; omega)).trans HX6.out
      have HN : Calls Try.prog 49 #[.slice none 0 0] w8 fun e w' => e = .returned (.int .u64 0) ∧ w' = w8 := rnumber_any none 0 [] w8 (fun i o hi => by simp at hi) (by simp)
      clear HRC hs hg8 he8 HG6 HZ6 HX6 HR6 ROK HTK
      go_wp2_with fail
      refine HN.mono ?_
      rintro e w9 ⟨rfl, hw9⟩
      subst hw9
      obtain ⟨x0, x1, x2, x3, xf0, xf1, xf2, xf3⟩ := box4 HX.out
      have HE9 : Hid (RErrX (w9.setCell ⟨E, 1, none⟩ (.int .u64 0)) p (q + 1) 8) := HE.out.same (Below.heap_setCell _ _ _ _ (by show p ≠ E; omega))
      have HG9 : Hid (w.grownBy (w9.setCell ⟨E, 1, none⟩ (.int .u64 0)) (some p)) := grown_setE HG.out (by omega) _
      have HZ9 : Hid ((w9.setCell ⟨E, 1, none⟩ (.int .u64 0)).heap[w.heap.size]? = _) := (Below.heap_setCell _ _ _ _ (by show w.heap.size ≠ E; omega)).trans HZ.out
      have HX9 : Hid ((w9.setCell ⟨E, 1, none⟩ (.int .u64 0)).heap[E]? = some (.cells #[.int .i64 ((3 : Nat) : Int), .int .u64 0, .string ⟨#[]⟩, .slice none 0 0] 25 (0, 0))) := set_fieldX HX.out _
      clear HG HZ HX
      go_upto_region 11 with fail
      generalize w9.setCell ⟨E, 1, none⟩ (.int .u64 0) = W9 at *
      clear x0 x1 x2 x3 xf0 xf1 xf2 xf3
      obtain ⟨x0, x1, x2, x3, -⟩ := box4 HX9.out
      go_quiet (first | (go_at_call 51; exact Calls.quiet_of_same (rcanon_any 0 _ (by unfold U; omega))) | (go_at_call 34; exact Calls.quiet_of_same (rfailX_err p _ _ _ _ _ (HE9.out.same rfl))))
      exact RERR.out (W9.drewN nq) 8 0 _ _ _ (q + 1) _ _ _ _ _ _ _ _ _ _ _ _ _ _ _ _ _ _ _ _ _ _ _ _ _ _ _ _ _ _ _ _ _ _ _ _ _ _ _ _ _ _ _ _ _ _ _ _ _ _ _ _ HRE.out (HE9.out.same rfl) (grown_belowX HG9.out (Below_drewN _ _ _)) HZ9.out HX9.out
    · have hln : (l.take 8).length = 8 := by rw [List.length_take]; omega
      have HN : Calls Try.prog 49 #[.slice a' 8 c'] w8 fun e w' => e = .returned (.int .u64 (numO (l.take 8))) ∧ w' = w8 := by
        have := rnumber_any a' c' (l.take 8) w8 hL8 (by omega)
        rwa [hln] at this
      have HUB : Hid (U (numO (l.take 8))) := (octs_numO hln).2
      have hbr : bitsR (l, q + 1) = if can (numO (l.take 8)) = numO (l.take 8) then .ok (numO (l.take 8), (l.drop 8, q + 1)) else .error 1 := by
        unfold bitsR
        rw [if_neg (by simp only at hs ⊢; omega)]
      have HBR : Hid (bitsR (l, q + 1) = _) := hbr
      have HR : Hid (RAtX w8 p a c bs (l.drop 8, q + 1)) := hr8
      have HG : Hid (w.grownBy w8 (some p)) := grown_transX HG6.out hg8
      have HZ : Hid (w8.heap[w.heap.size]? = _) := (hg8.block _ (lt_of_block HZ6.out) (by simp; omega)).trans HZ6.out
      have HX : Hid (w8.heap[E]? = _) := (hg8.block _ (lt_of_block HX6.out) (by simp; omega)).trans HX6.out
      have HS3 : Hid ((l.drop 8, q + 1).1.length + (l.drop 8, q + 1).2 ≤ 1000000000000000) := by show (l.drop 8).length + (q + 1) ≤ _; rw [List.length_drop]; omega
      clear hs hg8 hr8 hL8 HG6 HZ6 HX6 HR6 HTK hbr hln hq1
      generalize numO (l.take 8) = B at *
      by_cases hc : can B = B
      · have HRE : Hid (rdX (n + 1) (o :: l, q) = match iterX (rdX n) 0 (l.drop 8, q + 1) with | .error e => .error e | .ok (its, s4) => .ok ((((3 : Nat) : Int), B, ⟨#[]⟩, its), s4)) := by
          show _ = _
          rw [HRC.out, HBR.out, if_pos hc]
        have HCN : Hid (∀ W, Calls Try.prog 51 #[.int .u64 B] W fun e w' => e = .returned (.int .u64 B) ∧ w' = W) := fun W => by
          have := rcanon_any B W HUB.out
          rwa [hc] at this
        clear HRC HBR RERR hc
        go_wp2_with fail
        refine HN.mono ?_
        rintro e w9 ⟨rfl, hw9⟩
        subst hw9
        obtain ⟨x0, x1, x2, x3, xf0, xf1, xf2, xf3⟩ := box4 HX.out
        have HR9 : Hid (RAtX (w9.setCell ⟨E, 1, none⟩ (.int .u64 B)) p a c bs (l.drop 8, q + 1)) := HR.out.same (Below.heap_setCell _ _ _ _ (by show p ≠ E; omega))
        have HG9 : Hid (w.grownBy (w9.setCell ⟨E, 1, none⟩ (.int .u64 B)) (some p)) := grown_setE HG.out (by omega) _
        have HZ9 : Hid ((w9.setCell ⟨E, 1, none⟩ (.int .u64 B)).heap[w.heap.size]? = _) := (Below.heap_setCell _ _ _ _ (by show w.heap.size ≠ E; omega)).trans HZ.out
        have HX9 : Hid ((w9.setCell ⟨E, 1, none⟩ (.int .u64 B)).heap[E]? = some (.cells #[.int .i64 ((3 : Nat) : Int), .int .u64 B, .string ⟨#[]⟩, .slice none 0 0] 25 (0, 0))) := set_fieldX HX.out _
        clear HG HZ HX
        go_upto_region 11 with fail
        generalize w9.setCell ⟨E, 1, none⟩ (.int .u64 B) = W9 at *
        clear x0 x1 x2 x3 xf0 xf1 xf2 xf3
        obtain ⟨x0, x1, x2, x3, -⟩ := box4 HX9.out
        obtain ⟨i9, -, -, hb9⟩ := HR9.out
        have HBK : Hid (W9.heap[p]? = _) := hb9
        clear hb9
        go_quiet (first | (go_at_call 51; exact Calls.quiet_of_same (HCN.out _)) | (go_at_call 34; exact Calls.quiet_of_same (rfailX_no p _ _ HBK.out)))
        exact ROK.out (W9.drewN nq) B ⟨#[]⟩ (l.drop 8, q + 1) 0 _ _ _ _ _ _ _ _ _ _ _ _ _ _ _ _ _ _ _ _ _ _ _ _ _ _ _ _ _ _ _ _ _ _ _ _ _ _ _ _ _ _ _ _ _ _ _ _ _ _ _ _ (by decide) ⟨HUB.out, by decide⟩ HS3.out HRE.out (HR9.out.same rfl) (grown_belowX HG9.out (Below_drewN _ _ _)) HZ9.out HX9.out
      · have HRE : Hid (rdX (n + 1) (o :: l, q) = .error 1) := by
          show _ = _
          rw [HRC.out, HBR.out, if_neg hc]
        have HCN : Hid (∀ W, Calls Try.prog 51 #[.int .u64 B] W fun e w' => e = .returned (.int .u64 (can B)) ∧ w' = W) := fun W => rcanon_any B W HUB.out
        have hcn : (can B != B) = true := by simpa using hc
        clear HRC HBR ROK hc
        generalize can B = CB at *
        go_wp2_with fail
        refine HN.mono ?_
        rintro e w9 ⟨rfl, hw9⟩
        subst hw9
        obtain ⟨x0, x1, x2, x3, xf0, xf1, xf2, xf3⟩ := box4 HX.out
        have HR9 : Hid (RAtX (w9.setCell ⟨E, 1, none⟩ (.int .u64 B)) p a c bs (l.drop 8, q + 1)) := HR.out.same (Below.heap_setCell _ _ _ _ (by show p ≠ E; omega))
        have HG9 : Hid (w.grownBy (w9.setCell ⟨E, 1, none⟩ (.int .u64 B)) (some p)) := grown_setE HG.out (by omega) _
        have HZ9 : Hid ((w9.setCell ⟨E, 1, none⟩ (.int .u64 B)).heap[w.heap.size]? = _) := (Below.heap_setCell _ _ _ _ (by show w.heap.size ≠ E; omega)).trans HZ.out
        have HX9 : Hid ((w9.setCell ⟨E, 1, none⟩ (.int .u64 B)).heap[E]? = some (.cells #[.int .i64 ((3 : Nat) : Int), .int .u64 B, .string ⟨#[]⟩, .slice none 0 0] 25 (0, 0))) := set_fieldX HX.out _
        clear HG HZ HX
        go_upto_region 11 with fail
        generalize w9.setCell ⟨E, 1, none⟩ (.int .u64 B) = W9 at *
        clear x0 x1 x2 x3 xf0 xf1 xf2 xf3
        obtain ⟨x0, x1, x2, x3, -⟩ := box4 HX9.out
        go_region_with (first | (go_at_call 51; refine (HCN.out _).mono ?_; rintro e wc ⟨rfl, hwc⟩; subst wc) | (go_at_call 34; refine (rfailX_set p a c bs (l.drop 8, q + 1) 1 _ (by exact HR9.out.same rfl) (by decide)).mono ?_; rintro e W11 ⟨rfl, hg11, hE11⟩))
        all_goals
          have hg12 : W9.grownBy W11 (some p) := ⟨hg11.os, hg11.tape, hg11.output, hg11.size, fun k hk hne => hg11.block k hk hne⟩
          exact RERR.out W11 1 0 _ _ _ (q + 1) _ _ _ _ _ _ _ _ _ _ _ _ _ _ _ _ _ _ _ _ _ _ _ _ _ _ _ _ _ _ _ _ _ _ _ _ _ _ _ _ _ _ _ _ _ _ _ _ _ _ _ _ HRE.out hE11 (grown_transX HG9.out hg12) ((hg12.block _ (lt_of_block HZ9.out) (by simp; omega)).trans HZ9.out) ((hg12.block _ (lt_of_block HX9.out) (by simp; omega)).trans HX9.out)
  by_cases k23 : kn = 23
  · subst k23
    have hnv : nv = -1 := by rw [HNV.out, if_pos rfl]
    subst hnv
    have HRC : Hid (rdX (n + 1) (o :: l, q) = match (match octetX (l, q + 1) with | .error e => Except.error e | .ok (m, s1) => if (8 : Int) < m then .error 3 else .ok (m, s1)) with
        | .error e => .error e
        | .ok (m, s3) => match iterX (rdX n) m.toNat s3 with
          | .error e => .error e
          | .ok (its, s4) => .ok ((((23 : Nat) : Int), 0, ⟨#[]⟩, its), s4)) := by
      have h2 : headR ((23 : Nat) : Int) (l, q + 1) = .ok (0, ⟨#[]⟩, (l, q + 1)) := rfl
      show _ = _
      rw [HRD.out, h2]
      rfl
    have HT := roctetX_any p a c bs l (q + 1) w7 HR6.out HOW.out
    have hq1 : l.length + q + 1 ≤ 1000000000000000 := HB.out
    clear HRD HNV HB k3
    go_wp2_with fail
    refine HT.mono ?_
    rintro e w8 ⟨hg8, ⟨hl, rfl, he8⟩ | ⟨o2, l2, hl, rfl, hr8⟩⟩
    · subst hl
      have HE8 : Hid (RErrX w8 p (q + 1) 8) := he8
      have HG8 : Hid (w.grownBy w8 (some p)) := grown_transX HG6.out hg8
      have HZ8 : Hid (w8.heap[w.heap.size]? = _) := (hg8.block _ (lt_of_block HZ6.out) (by simp; omega)).trans HZ6.out
      have HX8 : Hid (w8.heap[E]? = _) := (hg8.block _ (lt_of_block HX6.out) (by simp; omega)).trans HX6.out
      have HRE : Hid (rdX (n + 1) (o :: [], q) = .error 8) := HRC.out
      clear HRC hg8 he8 HG6 HZ6 HX6 HR6 ROK HT
      go_wp2_with fail
      refine (rfailX_err p (q + 1) 3 8 false w8 HE8.out).mono ?_
      rintro e w9 ⟨rfl, hw9⟩
      subst hw9
      go_wp2_with fail
      exact RERR.out w9 8 0 _ _ _ (q + 1) _ _ _ _ _ _ _ _ _ _ _ _ _ _ _ _ _ _ _ _ _ _ _ _ _ _ _ _ _ _ _ _ _ _ _ _ _ _ _ _ _ _ _ _ _ _ _ _ _ _ _ _ HRE.out HE8.out HG8.out HZ8.out HX8.out
    · subst hl
      have HR8 : Hid (RAtX w8 p a c bs (l2, q + 1)) := hr8
      have HG8 : Hid (w.grownBy w8 (some p)) := grown_transX HG6.out hg8
      have HZ8 : Hid (w8.heap[w.heap.size]? = _) := (hg8.block _ (lt_of_block HZ6.out) (by simp; omega)).trans HZ6.out
      have HX8 : Hid (w8.heap[E]? = _) := (hg8.block _ (lt_of_block HX6.out) (by simp; omega)).trans HX6.out
      clear hg8 hr8 HG6 HZ6 HX6 HR6 HT
      obtain ⟨m, hm⟩ : ∃ m : Nat, m = o2.toNat := ⟨_, rfl⟩
      have h256 := o2.toNat_lt
      rw [← hm] at h256 ⊢
      by_cases h8 : 8 < m
      · have HRE : Hid (rdX (n + 1) (o :: o2 :: l2, q) = .error 3) := by
          show _ = _
          rw [HRC.out]
          simp only [octetX]
          rw [if_pos (by omega)]
        have h8' : (8 : Int) < (m : Int) := by omega
        clear HRC ROK hm
        go_wp2_with fail
        refine (rfailX_set p a c bs (l2, q + 1) 3 w8 HR8.out (by decide)).mono ?_
        rintro e w9 ⟨rfl, hg9, he9⟩
        have HE9 : Hid (RErrX w9 p (q + 1) 3) := he9
        have HG9 : Hid (w.grownBy w9 (some p)) := grown_transX HG8.out hg9
        have HZ9 : Hid (w9.heap[w.heap.size]? = _) := (hg9.block _ (lt_of_block HZ8.out) (by simp; omega)).trans HZ8.out
        have HX9 : Hid (w9.heap[E]? = _) := (hg9.block _ (lt_of_block HX8.out) (by simp; omega)).trans HX8.out
        clear hg9 he9
        go_wp2_with fail
        exact RERR.out w9 3 (m : Int) _ _ _ (q + 1) _ _ _ _ _ _ _ _ _ _ _ _ _ _ _ _ _ _ _ _ _ _ _ _ _ _ _ _ _ _ _ _ _ _ _ _ _ _ _ _ _ _ _ _ _ _ _ _ _ _ _ _ HRE.out HE9.out HG9.out HZ9.out HX9.out
      · have HRE : Hid (rdX (n + 1) (o :: o2 :: l2, q) = match iterX (rdX n) m (l2, q + 1) with | .error e => .error e | .ok (its, s4) => .ok ((((23 : Nat) : Int), 0, ⟨#[]⟩, its), s4)) := by
          show _ = _
          rw [HRC.out]
          simp only [octetX]
          rw [if_neg (by omega), ← hm]
          rfl
        have h8' : decide ((8 : Int) < (m : Int)) = false := by simp; omega
        have HM : Hid (m ≤ 8) := by show m ≤ 8; omega
        have HS3 : Hid ((l2, q + 1).1.length + (l2, q + 1).2 ≤ 1000000000000000) := by show l2.length + (q + 1) ≤ _; simp only [List.length_cons] at hq1; omega
        obtain ⟨i8, -, -, hb8⟩ := HR8.out
        have HFN := rfailX_no p 3 w8 hb8
        clear HRC RERR hm hb8
        go_wp2_with fail
        refine HFN.mono ?_
        rintro e w9 ⟨rfl, hw9⟩
        subst hw9
        go_wp2_with fail
        exact ROK.out w9 0 ⟨#[]⟩ (l2, q + 1) m _ _ _ _ _ _ _ _ _ _ _ _ _ _ _ _ _ _ _ _ _ _ _ _ _ _ _ _ _ _ _ _ _ _ _ _ _ _ _ _ _ _ _ _ _ _ _ _ _ _ _ _ HM.out ⟨⟨by decide, by decide⟩, by decide⟩ HS3.out HRE.out HR8.out HG8.out HZ8.out HX8.out
  by_cases k4 : kn = 4 ∨ kn = 8 ∨ kn = 25
  · rcases k4 with k4 | k4 | k4
    · subst k4
      have HTX : ∀ w, Calls Try.prog 52 #[.int .i64 4] w fun e w' => e = .returned (.tuple #[.int .i64 0, .int .i64 128]) ∧ w' = w := fun w => rtexts_any 4 w
      have hnv : nv = (argB (((4 : Nat)) : Int)).1 := by rw [HNV.out, if_neg (by decide)]
      have HRC : Hid (rdX (n + 1) (o :: l, q) = match textR 0 128 (l, q + 1) with
        | .error e => .error e
        | .ok (t, s3) => match iterX (rdX n) nv.toNat s3 with
          | .error e => .error e
          | .ok (its, s4) => .ok ((((4 : Nat) : Int), 0, t, its), s4)) := by
        show _ = _
        have h2 : headR ((4 : Nat) : Int) (l, q + 1) = (match textR 0 128 (l, q + 1) with | .error e => .error e | .ok (t, s') => .ok (0, t, s')) := rfl
        rw [HRD.out, h2]
        cases textR 0 128 (l, q + 1) with
        | error e => rfl
        | ok ts =>
          obtain ⟨t, s3⟩ := ts
          simp only
          have h3 : countR ((4 : Nat) : Int) s3 = .ok (nv, s3) := by rw [hnv]; rfl
          rw [h3]
      obtain ⟨M, hM, rfl⟩ : ∃ M : Nat, M ≤ 8 ∧ nv = (M : Int) := ⟨nv.toNat, by rw [hnv]; decide, by rw [hnv]; decide⟩
      have HM : Hid (M ≤ 8) := hM
      have HT := roctetX_any p a c bs l (q + 1) w7 HR6.out HOW.out
      have hq1 : l.length + q + 1 ≤ 1000000000000000 := HB.out
      clear HRD HNV HB k3 k23 hnv hM
      obtain ⟨e0, e1, e2, e3, -⟩ := box4 HX6.out
      go_wp2_with fail
      refine (HTX _).mono ?_
      rintro e w0 ⟨rfl, hw0⟩
      subst hw0
      clear e0 e1 e2 e3
      go_wp2_with fail
      refine HT.mono ?_
      rintro e w8 ⟨hg8, ⟨hl, rfl, he8⟩ | ⟨o2, l2, hl, rfl, hr8⟩⟩
      · subst hl
        have HE : Hid (RErrX w8 p (q + 1) 8) := he8
        have HG : Hid (w.grownBy w8 (some p)) := grown_transX HG6.out hg8
        have HZ : Hid (w8.heap[w.heap.size]? = _) := (hg8.block _ (lt_of_block HZ6.out) (by simp; omega)).trans HZ6.out
        have HX : Hid (w8.heap[E]? = _) := (hg8.block _ (lt_of_block HX6.out) (by simp; omega)).trans HX6.out
        have HRE : Hid (rdX (n + 1) (o :: [], q) = .error 8) := HRC.out
        clear HRC hg8 he8 HG6 HZ6 HX6 HR6 ROK HT
        go_wp2_with fail
        refine (rfailX_err p (q + 1) 5 8 _ w8 HE.out).mono ?_
        rintro e w9 ⟨rfl, hw9⟩
        subst hw9
        obtain ⟨x0, x1, x2, x3, xf0, xf1, xf2, xf3⟩ := box4 HX.out
        have HE9 : Hid (RErrX (w9.setCell ⟨E, 2, none⟩ (.string ⟨#[]⟩)) p (q + 1) 8) := HE.out.same (Below.heap_setCell _ _ _ _ (by show p ≠ E; omega))
        have HG9 : Hid (w.grownBy (w9.setCell ⟨E, 2, none⟩ (.string ⟨#[]⟩)) (some p)) := grown_setE HG.out (by omega) _
        have HZ9 : Hid ((w9.setCell ⟨E, 2, none⟩ (.string ⟨#[]⟩)).heap[w.heap.size]? = _) := (Below.heap_setCell _ _ _ _ (by show w.heap.size ≠ E; omega)).trans HZ.out
        have HX9 : Hid ((w9.setCell ⟨E, 2, none⟩ (.string ⟨#[]⟩)).heap[E]? = _) := set_fieldX HX.out _
        have HTK := rtakeX_err p (q + 1) 8 0 w9 HE.out
        go_wp2_with fail
        refine HTK.mono ?_
        rintro e w11 ⟨rfl, hw11⟩
        subst hw11
        go_wp2_with (refine wpList_str _ rfl (.tmp 80) rfl none 0 [] rfl (fun i o hi => by simp at hi) ?_)
        exact RERR.out (w11.setCell ⟨E, 2, none⟩ (.string ⟨#[]⟩)) 8 _ _ _ _ (q + 1) _ _ _ _ _ _ _ _ _ _ _ _ _ _ _ _ _ _ _ _ _ _ _ _ _ _ _ _ _ _ _ _ _ _ _ _ _ _ _ _ _ _ _ _ _ _ _ _ _ _ _ _ HRE.out HE9.out HG9.out HZ9.out HX9.out
      · subst hl
        have HR8 : Hid (RAtX w8 p a c bs (l2, q + 1)) := hr8
        have HG8 : Hid (w.grownBy w8 (some p)) := grown_transX HG6.out hg8
        have HZ8 : Hid (w8.heap[w.heap.size]? = _) := (hg8.block _ (lt_of_block HZ6.out) (by simp; omega)).trans HZ6.out
        have HX8 : Hid (w8.heap[E]? = _) := (hg8.block _ (lt_of_block HX6.out) (by simp; omega)).trans HX6.out
        have HO8 : Hid (Oct w8 a c bs) := HO.out.grown4X HR0.out HG8.out
        clear hg8 hr8 HG6 HZ6 HX6 HR6 HT
        obtain ⟨m, hm⟩ : ∃ m : Nat, m = o2.toNat := ⟨_, rfl⟩
        have h256 := o2.toNat_lt
        rw [← hm] at h256 ⊢
        by_cases hw : 0 ≤ m ∧ m ≤ 128
        · have hRt : textR 0 128 (o2 :: l2, q + 1) = if l2.length < m then .error 8 else .ok (⟨(l2.take m).toArray⟩, (l2.drop m, q + 1)) := by
            simp only [textR, octetX]
            rw [if_pos (by rw [within_iff]; omega), ← hm]
            rfl
          have dlo : decide ((m : Int) < 0) = false := by simp; try omega
          have dhi : decide ((128 : Int) < (m : Int)) = false := by simp; omega
          obtain ⟨i8, -, -, hb8⟩ := HR8.out
          have HFN := rfailX_no p 5 w8 hb8
          have HTK := rtakeX_any m p a c bs (l2, q + 1) w8 HR8.out HO8.out (by omega)
          clear hb8 hm
          go_wp2_with fail
          refine HFN.mono ?_
          rintro e w9 ⟨rfl, hw9⟩
          subst hw9
          clear dlo dhi
          go_wp2_with fail
          refine HTK.mono ?_
          rintro e w10 ⟨hg10, ⟨hs, rfl, he10⟩ | ⟨hs, hr10, a', c', rfl, hL10⟩⟩
          · have HRE : Hid (rdX (n + 1) (o :: o2 :: l2, q) = .error 8) := by
              show _ = _
              rw [HRC.out, hRt, if_pos hs]
            have HE : Hid (RErrX w10 p (q + 1) 8) := he10
            have HG : Hid (w.grownBy w10 (some p)) := grown_transX HG8.out hg10
            have HZ : Hid (w10.heap[w.heap.size]? = _) := (hg10.block _ (lt_of_block HZ8.out) (by simp; omega)).trans HZ8.out
            have HX : Hid (w10.heap[E]? = _) := (hg10.block _ (lt_of_block HX8.out) (by simp; omega)).trans HX8.out
            clear HRC hRt hs hg10 he10 HG8 HZ8 HX8 HR8 HO8 ROK HFN HTK
            obtain ⟨x0, x1, x2, x3, xf0, xf1, xf2, xf3⟩ := box4 HX.out
            have HE9 : Hid (RErrX (w10.setCell ⟨E, 2, none⟩ (.string ⟨#[]⟩)) p (q + 1) 8) := HE.out.same (Below.heap_setCell _ _ _ _ (by show p ≠ E; omega))
            have HG9 : Hid (w.grownBy (w10.setCell ⟨E, 2, none⟩ (.string ⟨#[]⟩)) (some p)) := grown_setE HG.out (by omega) _
            have HZ9 : Hid ((w10.setCell ⟨E, 2, none⟩ (.string ⟨#[]⟩)).heap[w.heap.size]? = _) := (Below.heap_setCell _ _ _ _ (by show w.heap.size ≠ E; omega)).trans HZ.out
            have HX9 : Hid ((w10.setCell ⟨E, 2, none⟩ (.string ⟨#[]⟩)).heap[E]? = _) := set_fieldX HX.out _
            go_wp2_with (refine wpList_str _ rfl (.tmp 80) rfl none 0 [] rfl (fun i o hi => by simp at hi) ?_)
            exact RERR.out (w10.setCell ⟨E, 2, none⟩ (.string ⟨#[]⟩)) 8 _ _ _ _ (q + 1) _ _ _ _ _ _ _ _ _ _ _ _ _ _ _ _ _ _ _ _ _ _ _ _ _ _ _ _ _ _ _ _ _ _ _ _ _ _ _ _ _ _ _ _ _ _ _ _ _ _ _ _ HRE.out HE9.out HG9.out HZ9.out HX9.out
          · have HRE : Hid (rdX (n + 1) (o :: o2 :: l2, q) = match iterX (rdX n) M (l2.drop m, q + 1) with | .error e => .error e | .ok (its, s4) => .ok ((((4 : Nat) : Int), 0, ⟨(l2.take m).toArray⟩, its), s4)) := by
              show _ = _
              rw [HRC.out, hRt, if_neg (by omega)]
              rfl
            have HLN : Hid ((l2.take m).length = m) := by show _ = _; rw [List.length_take]; omega
            have HLB : Hid (LayB w10 a' (l2.take m)) := hL10
            have HR : Hid (RAtX w10 p a c bs (l2.drop m, q + 1)) := hr10
            have HG : Hid (w.grownBy w10 (some p)) := grown_transX HG8.out hg10
            have HZ : Hid (w10.heap[w.heap.size]? = _) := (hg10.block _ (lt_of_block HZ8.out) (by simp; omega)).trans HZ8.out
            have HX : Hid (w10.heap[E]? = _) := (hg10.block _ (lt_of_block HX8.out) (by simp; omega)).trans HX8.out
            have HS3 : Hid ((l2.drop m, q + 1).1.length + (l2.drop m, q + 1).2 ≤ 1000000000000000) := by show (l2.drop m).length + (q + 1) ≤ _; rw [List.length_drop]; simp only [List.length_cons] at hq1; omega
            have HTS : Hid ((⟨(l2.take m).toArray⟩ : ByteArray).size ≤ 255) := by show (l2.take m).toArray.size ≤ 255; rw [List.size_toArray, HLN.out]; omega
            clear HRC hRt hs hg10 hr10 hL10 HG8 HZ8 HX8 HR8 HO8 RERR HFN HTK
            obtain ⟨x0, x1, x2, x3, xf0, xf1, xf2, xf3⟩ := box4 HX.out
            generalize hT : (⟨(l2.take m).toArray⟩ : ByteArray) = T at *
            have HT : Hid ((⟨(l2.take m).toArray⟩ : ByteArray) = T) := hT
            clear hT
            have HR9 : Hid (RAtX (w10.setCell ⟨E, 2, none⟩ (.string T)) p a c bs (l2.drop m, q + 1)) := HR.out.same (Below.heap_setCell _ _ _ _ (by show p ≠ E; omega))
            have HG9 : Hid (w.grownBy (w10.setCell ⟨E, 2, none⟩ (.string T)) (some p)) := grown_setE HG.out (by omega) _
            have HZ9 : Hid ((w10.setCell ⟨E, 2, none⟩ (.string T)).heap[w.heap.size]? = _) := (Below.heap_setCell _ _ _ _ (by show w.heap.size ≠ E; omega)).trans HZ.out
            have HX9 : Hid ((w10.setCell ⟨E, 2, none⟩ (.string T)).heap[E]? = _) := set_fieldX HX.out _
            go_wp2_with (refine wpList_str _ rfl (.tmp 80) rfl a' c' (l2.take m) (by rw [HLN.out]; rfl) HLB.out ?_; rw [HT.out])
            exact ROK.out (w10.setCell ⟨E, 2, none⟩ (.string T)) 0 T (l2.drop m, q + 1) M _ _ _ _ _ _ _ _ _ _ _ _ _ _ _ _ _ _ _ _ _ _ _ _ _ _ _ _ _ _ _ _ _ _ _ _ _ _ _ _ _ _ _ _ _ _ _ _ _ _ _ _ HM.out ⟨⟨by decide, by decide⟩, HTS.out⟩ HS3.out HRE.out HR9.out HG9.out HZ9.out HX9.out
        · have HRE : Hid (rdX (n + 1) (o :: o2 :: l2, q) = .error 5) := by
            show _ = _
            rw [HRC.out]
            simp only [textR, octetX]
            rw [if_neg (by rw [within_iff]; omega)]
          have HFS := rfailX_set p a c bs (l2, q + 1) 5 w8 HR8.out (by decide)
          clear HRC ROK hm
          have dlo : decide ((m : Int) < 0) = false := by simp
          have dhi : (128 : Int) < (m : Int) := by omega
          clear hw
          go_wp2_with fail
          refine HFS.mono ?_
          rintro e w9 ⟨rfl, hg9, he9⟩
          have HE : Hid (RErrX w9 p (q + 1) 5) := he9
          have HG : Hid (w.grownBy w9 (some p)) := grown_transX HG8.out hg9
          have HZ : Hid (w9.heap[w.heap.size]? = _) := (hg9.block _ (lt_of_block HZ8.out) (by simp; omega)).trans HZ8.out
          have HX : Hid (w9.heap[E]? = _) := (hg9.block _ (lt_of_block HX8.out) (by simp; omega)).trans HX8.out
          clear hg9 he9 HG8 HZ8 HX8 HR8 HO8 HFS
          obtain ⟨x0, x1, x2, x3, xf0, xf1, xf2, xf3⟩ := box4 HX.out
          have HE9 : Hid (RErrX (w9.setCell ⟨E, 2, none⟩ (.string ⟨#[]⟩)) p (q + 1) 5) := HE.out.same (Below.heap_setCell _ _ _ _ (by show p ≠ E; omega))
          have HG9 : Hid (w.grownBy (w9.setCell ⟨E, 2, none⟩ (.string ⟨#[]⟩)) (some p)) := grown_setE HG.out (by omega) _
          have HZ9 : Hid ((w9.setCell ⟨E, 2, none⟩ (.string ⟨#[]⟩)).heap[w.heap.size]? = _) := (Below.heap_setCell _ _ _ _ (by show w.heap.size ≠ E; omega)).trans HZ.out
          have HX9 : Hid ((w9.setCell ⟨E, 2, none⟩ (.string ⟨#[]⟩)).heap[E]? = _) := set_fieldX HX.out _
          have HTK := rtakeX_err p (q + 1) 5 (m : Int) w9 HE.out
          go_wp2_with fail
          refine HTK.mono ?_
          rintro e w11 ⟨rfl, hw11⟩
          subst hw11
          go_wp2_with (refine wpList_str _ rfl (.tmp 80) rfl none 0 [] rfl (fun i o hi => by simp at hi) ?_)
          exact RERR.out (w11.setCell ⟨E, 2, none⟩ (.string ⟨#[]⟩)) 5 _ _ _ _ (q + 1) _ _ _ _ _ _ _ _ _ _ _ _ _ _ _ _ _ _ _ _ _ _ _ _ _ _ _ _ _ _ _ _ _ _ _ _ _ _ _ _ _ _ _ _ _ _ _ _ _ _ _ _ HRE.out HE9.out HG9.out HZ9.out HX9.out
    · subst k4
      have HTX : ∀ w, Calls Try.prog 52 #[.int .i64 8] w fun e w' => e = .returned (.tuple #[.int .i64 1, .int .i64 16]) ∧ w' = w := fun w => rtexts_any 8 w
      have hnv : nv = (argB (((8 : Nat)) : Int)).1 := by rw [HNV.out, if_neg (by decide)]
      have HRC : Hid (rdX (n + 1) (o :: l, q) = match textR 1 16 (l, q + 1) with
        | .error e => .error e
        | .ok (t, s3) => match iterX (rdX n) nv.toNat s3 with
          | .error e => .error e
          | .ok (its, s4) => .ok ((((8 : Nat) : Int), 0, t, its), s4)) := by
        show _ = _
        have h2 : headR ((8 : Nat) : Int) (l, q + 1) = (match textR 1 16 (l, q + 1) with | .error e => .error e | .ok (t, s') => .ok (0, t, s')) := rfl
        rw [HRD.out, h2]
        cases textR 1 16 (l, q + 1) with
        | error e => rfl
        | ok ts =>
          obtain ⟨t, s3⟩ := ts
          simp only
          have h3 : countR ((8 : Nat) : Int) s3 = .ok (nv, s3) := by rw [hnv]; rfl
          rw [h3]
      obtain ⟨M, hM, rfl⟩ : ∃ M : Nat, M ≤ 8 ∧ nv = (M : Int) := ⟨nv.toNat, by rw [hnv]; decide, by rw [hnv]; decide⟩
      have HM : Hid (M ≤ 8) := hM
      have HT := roctetX_any p a c bs l (q + 1) w7 HR6.out HOW.out
      have hq1 : l.length + q + 1 ≤ 1000000000000000 := HB.out
      clear HRD HNV HB k3 k23 hnv hM
      obtain ⟨e0, e1, e2, e3, -⟩ := box4 HX6.out
      go_wp2_with fail
      refine (HTX _).mono ?_
      rintro e w0 ⟨rfl, hw0⟩
      subst hw0
      clear e0 e1 e2 e3
      go_wp2_with fail
      refine HT.mono ?_
      rintro e w8 ⟨hg8, ⟨hl, rfl, he8⟩ | ⟨o2, l2, hl, rfl, hr8⟩⟩
      · subst hl
        have HE : Hid (RErrX w8 p (q + 1) 8) := he8
        have HG : Hid (w.grownBy w8 (some p)) := grown_transX HG6.out hg8
        have HZ : Hid (w8.heap[w.heap.size]? = _) := (hg8.block _ (lt_of_block HZ6.out) (by simp; omega)).trans HZ6.out
        have HX : Hid (w8.heap[E]? = _) := (hg8.block _ (lt_of_block HX6.out) (by simp; omega)).trans HX6.out
        have HRE : Hid (rdX (n + 1) (o :: [], q) = .error 8) := HRC.out
        clear HRC hg8 he8 HG6 HZ6 HX6 HR6 ROK HT
        go_wp2_with fail
        refine (rfailX_err p (q + 1) 5 8 _ w8 HE.out).mono ?_
        rintro e w9 ⟨rfl, hw9⟩
        subst hw9
        obtain ⟨x0, x1, x2, x3, xf0, xf1, xf2, xf3⟩ := box4 HX.out
        have HE9 : Hid (RErrX (w9.setCell ⟨E, 2, none⟩ (.string ⟨#[]⟩)) p (q + 1) 8) := HE.out.same (Below.heap_setCell _ _ _ _ (by show p ≠ E; omega))
        have HG9 : Hid (w.grownBy (w9.setCell ⟨E, 2, none⟩ (.string ⟨#[]⟩)) (some p)) := grown_setE HG.out (by omega) _
        have HZ9 : Hid ((w9.setCell ⟨E, 2, none⟩ (.string ⟨#[]⟩)).heap[w.heap.size]? = _) := (Below.heap_setCell _ _ _ _ (by show w.heap.size ≠ E; omega)).trans HZ.out
        have HX9 : Hid ((w9.setCell ⟨E, 2, none⟩ (.string ⟨#[]⟩)).heap[E]? = _) := set_fieldX HX.out _
        have HTK := rtakeX_err p (q + 1) 8 0 w9 HE.out
        go_wp2_with fail
        refine HTK.mono ?_
        rintro e w11 ⟨rfl, hw11⟩
        subst hw11
        go_wp2_with (refine wpList_str _ rfl (.tmp 80) rfl none 0 [] rfl (fun i o hi => by simp at hi) ?_)
        exact RERR.out (w11.setCell ⟨E, 2, none⟩ (.string ⟨#[]⟩)) 8 _ _ _ _ (q + 1) _ _ _ _ _ _ _ _ _ _ _ _ _ _ _ _ _ _ _ _ _ _ _ _ _ _ _ _ _ _ _ _ _ _ _ _ _ _ _ _ _ _ _ _ _ _ _ _ _ _ _ _ HRE.out HE9.out HG9.out HZ9.out HX9.out
      · subst hl
        have HR8 : Hid (RAtX w8 p a c bs (l2, q + 1)) := hr8
        have HG8 : Hid (w.grownBy w8 (some p)) := grown_transX HG6.out hg8
        have HZ8 : Hid (w8.heap[w.heap.size]? = _) := (hg8.block _ (lt_of_block HZ6.out) (by simp; omega)).trans HZ6.out
        have HX8 : Hid (w8.heap[E]? = _) := (hg8.block _ (lt_of_block HX6.out) (by simp; omega)).trans HX6.out
        have HO8 : Hid (Oct w8 a c bs) := HO.out.grown4X HR0.out HG8.out
        clear hg8 hr8 HG6 HZ6 HX6 HR6 HT
        obtain ⟨m, hm⟩ : ∃ m : Nat, m = o2.toNat := ⟨_, rfl⟩
        have h256 := o2.toNat_lt
        rw [← hm] at h256 ⊢
        by_cases hw : 1 ≤ m ∧ m ≤ 16
        · have hRt : textR 1 16 (o2 :: l2, q + 1) = if l2.length < m then .error 8 else .ok (⟨(l2.take m).toArray⟩, (l2.drop m, q + 1)) := by
            simp only [textR, octetX]
            rw [if_pos (by rw [within_iff]; omega), ← hm]
            rfl
          have dlo : decide ((m : Int) < 1) = false := by simp; try omega
          have dhi : decide ((16 : Int) < (m : Int)) = false := by simp; omega
          obtain ⟨i8, -, -, hb8⟩ := HR8.out
          have HFN := rfailX_no p 5 w8 hb8
          have HTK := rtakeX_any m p a c bs (l2, q + 1) w8 HR8.out HO8.out (by omega)
          clear hb8 hm
          go_wp2_with fail
          refine HFN.mono ?_
          rintro e w9 ⟨rfl, hw9⟩
          subst hw9
          clear dlo dhi
          go_wp2_with fail
          refine HTK.mono ?_
          rintro e w10 ⟨hg10, ⟨hs, rfl, he10⟩ | ⟨hs, hr10, a', c', rfl, hL10⟩⟩
          · have HRE : Hid (rdX (n + 1) (o :: o2 :: l2, q) = .error 8) := by
              show _ = _
              rw [HRC.out, hRt, if_pos hs]
            have HE : Hid (RErrX w10 p (q + 1) 8) := he10
            have HG : Hid (w.grownBy w10 (some p)) := grown_transX HG8.out hg10
            have HZ : Hid (w10.heap[w.heap.size]? = _) := (hg10.block _ (lt_of_block HZ8.out) (by simp; omega)).trans HZ8.out
            have HX : Hid (w10.heap[E]? = _) := (hg10.block _ (lt_of_block HX8.out) (by simp; omega)).trans HX8.out
            clear HRC hRt hs hg10 he10 HG8 HZ8 HX8 HR8 HO8 ROK HFN HTK
            obtain ⟨x0, x1, x2, x3, xf0, xf1, xf2, xf3⟩ := box4 HX.out
            have HE9 : Hid (RErrX (w10.setCell ⟨E, 2, none⟩ (.string ⟨#[]⟩)) p (q + 1) 8) := HE.out.same (Below.heap_setCell _ _ _ _ (by show p ≠ E; omega))
            have HG9 : Hid (w.grownBy (w10.setCell ⟨E, 2, none⟩ (.string ⟨#[]⟩)) (some p)) := grown_setE HG.out (by omega) _
            have HZ9 : Hid ((w10.setCell ⟨E, 2, none⟩ (.string ⟨#[]⟩)).heap[w.heap.size]? = _) := (Below.heap_setCell _ _ _ _ (by show w.heap.size ≠ E; omega)).trans HZ.out
            have HX9 : Hid ((w10.setCell ⟨E, 2, none⟩ (.string ⟨#[]⟩)).heap[E]? = _) := set_fieldX HX.out _
            go_wp2_with (refine wpList_str _ rfl (.tmp 80) rfl none 0 [] rfl (fun i o hi => by simp at hi) ?_)
            exact RERR.out (w10.setCell ⟨E, 2, none⟩ (.string ⟨#[]⟩)) 8 _ _ _ _ (q + 1) _ _ _ _ _ _ _ _ _ _ _ _ _ _ _ _ _ _ _ _ _ _ _ _ _ _ _ _ _ _ _ _ _ _ _ _ _ _ _ _ _ _ _ _ _ _ _ _ _ _ _ _ HRE.out HE9.out HG9.out HZ9.out HX9.out
          · have HRE : Hid (rdX (n + 1) (o :: o2 :: l2, q) = match iterX (rdX n) M (l2.drop m, q + 1) with | .error e => .error e | .ok (its, s4) => .ok ((((8 : Nat) : Int), 0, ⟨(l2.take m).toArray⟩, its), s4)) := by
              show _ = _
              rw [HRC.out, hRt, if_neg (by omega)]
              rfl
            have HLN : Hid ((l2.take m).length = m) := by show _ = _; rw [List.length_take]; omega
            have HLB : Hid (LayB w10 a' (l2.take m)) := hL10
            have HR : Hid (RAtX w10 p a c bs (l2.drop m, q + 1)) := hr10
            have HG : Hid (w.grownBy w10 (some p)) := grown_transX HG8.out hg10
            have HZ : Hid (w10.heap[w.heap.size]? = _) := (hg10.block _ (lt_of_block HZ8.out) (by simp; omega)).trans HZ8.out
            have HX : Hid (w10.heap[E]? = _) := (hg10.block _ (lt_of_block HX8.out) (by simp; omega)).trans HX8.out
            have HS3 : Hid ((l2.drop m, q + 1).1.length + (l2.drop m, q + 1).2 ≤ 1000000000000000) := by show (l2.drop m).length + (q + 1) ≤ _; rw [List.length_drop]; simp only [List.length_cons] at hq1; omega
            have HTS : Hid ((⟨(l2.take m).toArray⟩ : ByteArray).size ≤ 255) := by show (l2.take m).toArray.size ≤ 255; rw [List.size_toArray, HLN.out]; omega
            clear HRC hRt hs hg10 hr10 hL10 HG8 HZ8 HX8 HR8 HO8 RERR HFN HTK
            obtain ⟨x0, x1, x2, x3, xf0, xf1, xf2, xf3⟩ := box4 HX.out
            generalize hT : (⟨(l2.take m).toArray⟩ : ByteArray) = T at *
            have HT : Hid ((⟨(l2.take m).toArray⟩ : ByteArray) = T) := hT
            clear hT
            have HR9 : Hid (RAtX (w10.setCell ⟨E, 2, none⟩ (.string T)) p a c bs (l2.drop m, q + 1)) := HR.out.same (Below.heap_setCell _ _ _ _ (by show p ≠ E; omega))
            have HG9 : Hid (w.grownBy (w10.setCell ⟨E, 2, none⟩ (.string T)) (some p)) := grown_setE HG.out (by omega) _
            have HZ9 : Hid ((w10.setCell ⟨E, 2, none⟩ (.string T)).heap[w.heap.size]? = _) := (Below.heap_setCell _ _ _ _ (by show w.heap.size ≠ E; omega)).trans HZ.out
            have HX9 : Hid ((w10.setCell ⟨E, 2, none⟩ (.string T)).heap[E]? = _) := set_fieldX HX.out _
            go_wp2_with (refine wpList_str _ rfl (.tmp 80) rfl a' c' (l2.take m) (by rw [HLN.out]; rfl) HLB.out ?_; rw [HT.out])
            exact ROK.out (w10.setCell ⟨E, 2, none⟩ (.string T)) 0 T (l2.drop m, q + 1) M _ _ _ _ _ _ _ _ _ _ _ _ _ _ _ _ _ _ _ _ _ _ _ _ _ _ _ _ _ _ _ _ _ _ _ _ _ _ _ _ _ _ _ _ _ _ _ _ _ _ _ _ HM.out ⟨⟨by decide, by decide⟩, HTS.out⟩ HS3.out HRE.out HR9.out HG9.out HZ9.out HX9.out
        · have HRE : Hid (rdX (n + 1) (o :: o2 :: l2, q) = .error 5) := by
            show _ = _
            rw [HRC.out]
            simp only [textR, octetX]
            rw [if_neg (by rw [within_iff]; omega)]
          have HFS := rfailX_set p a c bs (l2, q + 1) 5 w8 HR8.out (by decide)
          clear HRC ROK hm
          by_cases hlo : (m : Int) < 1
          · clear hw
            go_wp2_with fail
            refine HFS.mono ?_
            rintro e w9 ⟨rfl, hg9, he9⟩
            have HE : Hid (RErrX w9 p (q + 1) 5) := he9
            have HG : Hid (w.grownBy w9 (some p)) := grown_transX HG8.out hg9
            have HZ : Hid (w9.heap[w.heap.size]? = _) := (hg9.block _ (lt_of_block HZ8.out) (by simp; omega)).trans HZ8.out
            have HX : Hid (w9.heap[E]? = _) := (hg9.block _ (lt_of_block HX8.out) (by simp; omega)).trans HX8.out
            clear hg9 he9 HG8 HZ8 HX8 HR8 HO8 HFS
            obtain ⟨x0, x1, x2, x3, xf0, xf1, xf2, xf3⟩ := box4 HX.out
            have HE9 : Hid (RErrX (w9.setCell ⟨E, 2, none⟩ (.string ⟨#[]⟩)) p (q + 1) 5) := HE.out.same (Below.heap_setCell _ _ _ _ (by show p ≠ E; omega))
            have HG9 : Hid (w.grownBy (w9.setCell ⟨E, 2, none⟩ (.string ⟨#[]⟩)) (some p)) := grown_setE HG.out (by omega) _
            have HZ9 : Hid ((w9.setCell ⟨E, 2, none⟩ (.string ⟨#[]⟩)).heap[w.heap.size]? = _) := (Below.heap_setCell _ _ _ _ (by show w.heap.size ≠ E; omega)).trans HZ.out
            have HX9 : Hid ((w9.setCell ⟨E, 2, none⟩ (.string ⟨#[]⟩)).heap[E]? = _) := set_fieldX HX.out _
            have HTK := rtakeX_err p (q + 1) 5 (m : Int) w9 HE.out
            go_wp2_with fail
            refine HTK.mono ?_
            rintro e w11 ⟨rfl, hw11⟩
            subst hw11
            go_wp2_with (refine wpList_str _ rfl (.tmp 80) rfl none 0 [] rfl (fun i o hi => by simp at hi) ?_)
            exact RERR.out (w11.setCell ⟨E, 2, none⟩ (.string ⟨#[]⟩)) 5 _ _ _ _ (q + 1) _ _ _ _ _ _ _ _ _ _ _ _ _ _ _ _ _ _ _ _ _ _ _ _ _ _ _ _ _ _ _ _ _ _ _ _ _ _ _ _ _ _ _ _ _ _ _ _ _ _ _ _ HRE.out HE9.out HG9.out HZ9.out HX9.out
          · have dlo : decide ((m : Int) < 1) = false := by simp; omega
            have dhi : (16 : Int) < (m : Int) := by omega
            clear hw hlo
            go_wp2_with fail
            refine HFS.mono ?_
            rintro e w9 ⟨rfl, hg9, he9⟩
            have HE : Hid (RErrX w9 p (q + 1) 5) := he9
            have HG : Hid (w.grownBy w9 (some p)) := grown_transX HG8.out hg9
            have HZ : Hid (w9.heap[w.heap.size]? = _) := (hg9.block _ (lt_of_block HZ8.out) (by simp; omega)).trans HZ8.out
            have HX : Hid (w9.heap[E]? = _) := (hg9.block _ (lt_of_block HX8.out) (by simp; omega)).trans HX8.out
            clear hg9 he9 HG8 HZ8 HX8 HR8 HO8 HFS
            obtain ⟨x0, x1, x2, x3, xf0, xf1, xf2, xf3⟩ := box4 HX.out
            have HE9 : Hid (RErrX (w9.setCell ⟨E, 2, none⟩ (.string ⟨#[]⟩)) p (q + 1) 5) := HE.out.same (Below.heap_setCell _ _ _ _ (by show p ≠ E; omega))
            have HG9 : Hid (w.grownBy (w9.setCell ⟨E, 2, none⟩ (.string ⟨#[]⟩)) (some p)) := grown_setE HG.out (by omega) _
            have HZ9 : Hid ((w9.setCell ⟨E, 2, none⟩ (.string ⟨#[]⟩)).heap[w.heap.size]? = _) := (Below.heap_setCell _ _ _ _ (by show w.heap.size ≠ E; omega)).trans HZ.out
            have HX9 : Hid ((w9.setCell ⟨E, 2, none⟩ (.string ⟨#[]⟩)).heap[E]? = _) := set_fieldX HX.out _
            have HTK := rtakeX_err p (q + 1) 5 (m : Int) w9 HE.out
            go_wp2_with fail
            refine HTK.mono ?_
            rintro e w11 ⟨rfl, hw11⟩
            subst hw11
            go_wp2_with (refine wpList_str _ rfl (.tmp 80) rfl none 0 [] rfl (fun i o hi => by simp at hi) ?_)
            exact RERR.out (w11.setCell ⟨E, 2, none⟩ (.string ⟨#[]⟩)) 5 _ _ _ _ (q + 1) _ _ _ _ _ _ _ _ _ _ _ _ _ _ _ _ _ _ _ _ _ _ _ _ _ _ _ _ _ _ _ _ _ _ _ _ _ _ _ _ _ _ _ _ _ _ _ _ _ _ _ _ HRE.out HE9.out HG9.out HZ9.out HX9.out
    · subst k4
      have HTX : ∀ w, Calls Try.prog 52 #[.int .i64 25] w fun e w' => e = .returned (.tuple #[.int .i64 1, .int .i64 16]) ∧ w' = w := fun w => rtexts_any 25 w
      have hnv : nv = (argB (((25 : Nat)) : Int)).1 := by rw [HNV.out, if_neg (by decide)]
      have HRC : Hid (rdX (n + 1) (o :: l, q) = match textR 1 16 (l, q + 1) with
        | .error e => .error e
        | .ok (t, s3) => match iterX (rdX n) nv.toNat s3 with
          | .error e => .error e
          | .ok (its, s4) => .ok ((((25 : Nat) : Int), 0, t, its), s4)) := by
        show _ = _
        have h2 : headR ((25 : Nat) : Int) (l, q + 1) = (match textR 1 16 (l, q + 1) with | .error e => .error e | .ok (t, s') => .ok (0, t, s')) := rfl
        rw [HRD.out, h2]
        cases textR 1 16 (l, q + 1) with
        | error e => rfl
        | ok ts =>
          obtain ⟨t, s3⟩ := ts
          simp only
          have h3 : countR ((25 : Nat) : Int) s3 = .ok (nv, s3) := by rw [hnv]; rfl
          rw [h3]
      obtain ⟨M, hM, rfl⟩ : ∃ M : Nat, M ≤ 8 ∧ nv = (M : Int) := ⟨nv.toNat, by rw [hnv]; decide, by rw [hnv]; decide⟩
      have HM : Hid (M ≤ 8) := hM
      have HT := roctetX_any p a c bs l (q + 1) w7 HR6.out HOW.out
      have hq1 : l.length + q + 1 ≤ 1000000000000000 := HB.out
      clear HRD HNV HB k3 k23 hnv hM
      obtain ⟨e0, e1, e2, e3, -⟩ := box4 HX6.out
      go_wp2_with fail
      refine (HTX _).mono ?_
      rintro e w0 ⟨rfl, hw0⟩
      subst hw0
      clear e0 e1 e2 e3
      go_wp2_with fail
      refine HT.mono ?_
      rintro e w8 ⟨hg8, ⟨hl, rfl, he8⟩ | ⟨o2, l2, hl, rfl, hr8⟩⟩
      · subst hl
        have HE : Hid (RErrX w8 p (q + 1) 8) := he8
        have HG : Hid (w.grownBy w8 (some p)) := grown_transX HG6.out hg8
        have HZ : Hid (w8.heap[w.heap.size]? = _) := (hg8.block _ (lt_of_block HZ6.out) (by simp; omega)).trans HZ6.out
        have HX : Hid (w8.heap[E]? = _) := (hg8.block _ (lt_of_block HX6.out) (by simp; omega)).trans HX6.out
        have HRE : Hid (rdX (n + 1) (o :: [], q) = .error 8) := HRC.out
        clear HRC hg8 he8 HG6 HZ6 HX6 HR6 ROK HT
        go_wp2_with fail
        refine (rfailX_err p (q + 1) 5 8 _ w8 HE.out).mono ?_
        rintro e w9 ⟨rfl, hw9⟩
        subst hw9
        obtain ⟨x0, x1, x2, x3, xf0, xf1, xf2, xf3⟩ := box4 HX.out
        have HE9 : Hid (RErrX (w9.setCell ⟨E, 2, none⟩ (.string ⟨#[]⟩)) p (q + 1) 8) := HE.out.same (Below.heap_setCell _ _ _ _ (by show p ≠ E; omega))
        have HG9 : Hid (w.grownBy (w9.setCell ⟨E, 2, none⟩ (.string ⟨#[]⟩)) (some p)) := grown_setE HG.out (by omega) _
        have HZ9 : Hid ((w9.setCell ⟨E, 2, none⟩ (.string ⟨#[]⟩)).heap[w.heap.size]? = _) := (Below.heap_setCell _ _ _ _ (by show w.heap.size ≠ E; omega)).trans HZ.out
        have HX9 : Hid ((w9.setCell ⟨E, 2, none⟩ (.string ⟨#[]⟩)).heap[E]? = _) := set_fieldX HX.out _
        have HTK := rtakeX_err p (q + 1) 8 0 w9 HE.out
        go_wp2_with fail
        refine HTK.mono ?_
        rintro e w11 ⟨rfl, hw11⟩
        subst hw11
        go_wp2_with (refine wpList_str _ rfl (.tmp 80) rfl none 0 [] rfl (fun i o hi => by simp at hi) ?_)
        exact RERR.out (w11.setCell ⟨E, 2, none⟩ (.string ⟨#[]⟩)) 8 _ _ _ _ (q + 1) _ _ _ _ _ _ _ _ _ _ _ _ _ _ _ _ _ _ _ _ _ _ _ _ _ _ _ _ _ _ _ _ _ _ _ _ _ _ _ _ _ _ _ _ _ _ _ _ _ _ _ _ HRE.out HE9.out HG9.out HZ9.out HX9.out
      · subst hl
        have HR8 : Hid (RAtX w8 p a c bs (l2, q + 1)) := hr8
        have HG8 : Hid (w.grownBy w8 (some p)) := grown_transX HG6.out hg8
        have HZ8 : Hid (w8.heap[w.heap.size]? = _) := (hg8.block _ (lt_of_block HZ6.out) (by simp; omega)).trans HZ6.out
        have HX8 : Hid (w8.heap[E]? = _) := (hg8.block _ (lt_of_block HX6.out) (by simp; omega)).trans HX6.out
        have HO8 : Hid (Oct w8 a c bs) := HO.out.grown4X HR0.out HG8.out
        clear hg8 hr8 HG6 HZ6 HX6 HR6 HT
        obtain ⟨m, hm⟩ : ∃ m : Nat, m = o2.toNat := ⟨_, rfl⟩
        have h256 := o2.toNat_lt
        rw [← hm] at h256 ⊢
        by_cases hw : 1 ≤ m ∧ m ≤ 16
        · have hRt : textR 1 16 (o2 :: l2, q + 1) = if l2.length < m then .error 8 else .ok (⟨(l2.take m).toArray⟩, (l2.drop m, q + 1)) := by
            simp only [textR, octetX]
            rw [if_pos (by rw [within_iff]; omega), ← hm]
            rfl
          have dlo : decide ((m : Int) < 1) = false := by simp; try omega
          have dhi : decide ((16 : Int) < (m : Int)) = false := by simp; omega
          obtain ⟨i8, -, -, hb8⟩ := HR8.out
          have HFN := rfailX_no p 5 w8 hb8
          have HTK := rtakeX_any m p a c bs (l2, q + 1) w8 HR8.out HO8.out (by omega)
          clear hb8 hm
          go_wp2_with fail
          refine HFN.mono ?_
          rintro e w9 ⟨rfl, hw9⟩
          subst hw9
          clear dlo dhi
          go_wp2_with fail
          refine HTK.mono ?_
          rintro e w10 ⟨hg10, ⟨hs, rfl, he10⟩ | ⟨hs, hr10, a', c', rfl, hL10⟩⟩
          · have HRE : Hid (rdX (n + 1) (o :: o2 :: l2, q) = .error 8) := by
              show _ = _
              rw [HRC.out, hRt, if_pos hs]
            have HE : Hid (RErrX w10 p (q + 1) 8) := he10
            have HG : Hid (w.grownBy w10 (some p)) := grown_transX HG8.out hg10
            have HZ : Hid (w10.heap[w.heap.size]? = _) := (hg10.block _ (lt_of_block HZ8.out) (by simp; omega)).trans HZ8.out
            have HX : Hid (w10.heap[E]? = _) := (hg10.block _ (lt_of_block HX8.out) (by simp; omega)).trans HX8.out
            clear HRC hRt hs hg10 he10 HG8 HZ8 HX8 HR8 HO8 ROK HFN HTK
            obtain ⟨x0, x1, x2, x3, xf0, xf1, xf2, xf3⟩ := box4 HX.out
            have HE9 : Hid (RErrX (w10.setCell ⟨E, 2, none⟩ (.string ⟨#[]⟩)) p (q + 1) 8) := HE.out.same (Below.heap_setCell _ _ _ _ (by show p ≠ E; omega))
            have HG9 : Hid (w.grownBy (w10.setCell ⟨E, 2, none⟩ (.string ⟨#[]⟩)) (some p)) := grown_setE HG.out (by omega) _
            have HZ9 : Hid ((w10.setCell ⟨E, 2, none⟩ (.string ⟨#[]⟩)).heap[w.heap.size]? = _) := (Below.heap_setCell _ _ _ _ (by show w.heap.size ≠ E; omega)).trans HZ.out
            have HX9 : Hid ((w10.setCell ⟨E, 2, none⟩ (.string ⟨#[]⟩)).heap[E]? = _) := set_fieldX HX.out _
            go_wp2_with (refine wpList_str _ rfl (.tmp 80) rfl none 0 [] rfl (fun i o hi => by simp at hi) ?_)
            exact RERR.out (w10.setCell ⟨E, 2, none⟩ (.string ⟨#[]⟩)) 8 _ _ _ _ (q + 1) _ _ _ _ _ _ _ _ _ _ _ _ _ _ _ _ _ _ _ _ _ _ _ _ _ _ _ _ _ _ _ _ _ _ _ _ _ _ _ _ _ _ _ _ _ _ _ _ _ _ _ _ HRE.out HE9.out HG9.out HZ9.out HX9.out
          · have HRE : Hid (rdX (n + 1) (o :: o2 :: l2, q) = match iterX (rdX n) M (l2.drop m, q + 1) with | .error e => .error e | .ok (its, s4) => .ok ((((25 : Nat) : Int), 0, ⟨(l2.take m).toArray⟩, its), s4)) := by
              show _ = _
              rw [HRC.out, hRt, if_neg (by omega)]
              rfl
            have HLN : Hid ((l2.take m).length = m) := by show _ = _; rw [List.length_take]; omega
            have HLB : Hid (LayB w10 a' (l2.take m)) := hL10
            have HR : Hid (RAtX w10 p a c bs (l2.drop m, q + 1)) := hr10
            have HG : Hid (w.grownBy w10 (some p)) := grown_transX HG8.out hg10
            have HZ : Hid (w10.heap[w.heap.size]? = _) := (hg10.block _ (lt_of_block HZ8.out) (by simp; omega)).trans HZ8.out
            have HX : Hid (w10.heap[E]? = _) := (hg10.block _ (lt_of_block HX8.out) (by simp; omega)).trans HX8.out
            have HS3 : Hid ((l2.drop m, q + 1).1.length + (l2.drop m, q + 1).2 ≤ 1000000000000000) := by show (l2.drop m).length + (q + 1) ≤ _; rw [List.length_drop]; simp only [List.length_cons] at hq1; omega
            have HTS : Hid ((⟨(l2.take m).toArray⟩ : ByteArray).size ≤ 255) := by show (l2.take m).toArray.size ≤ 255; rw [List.size_toArray, HLN.out]; omega
            clear HRC hRt hs hg10 hr10 hL10 HG8 HZ8 HX8 HR8 HO8 RERR HFN HTK
            obtain ⟨x0, x1, x2, x3, xf0, xf1, xf2, xf3⟩ := box4 HX.out
            generalize hT : (⟨(l2.take m).toArray⟩ : ByteArray) = T at *
            have HT : Hid ((⟨(l2.take m).toArray⟩ : ByteArray) = T) := hT
            clear hT
            have HR9 : Hid (RAtX (w10.setCell ⟨E, 2, none⟩ (.string T)) p a c bs (l2.drop m, q + 1)) := HR.out.same (Below.heap_setCell _ _ _ _ (by show p ≠ E; omega))
            have HG9 : Hid (w.grownBy (w10.setCell ⟨E, 2, none⟩ (.string T)) (some p)) := grown_setE HG.out (by omega) _
            have HZ9 : Hid ((w10.setCell ⟨E, 2, none⟩ (.string T)).heap[w.heap.size]? = _) := (Below.heap_setCell _ _ _ _ (by show w.heap.size ≠ E; omega)).trans HZ.out
            have HX9 : Hid ((w10.setCell ⟨E, 2, none⟩ (.string T)).heap[E]? = _) := set_fieldX HX.out _
            go_wp2_with (refine wpList_str _ rfl (.tmp 80) rfl a' c' (l2.take m) (by rw [HLN.out]; rfl) HLB.out ?_; rw [HT.out])
            exact ROK.out (w10.setCell ⟨E, 2, none⟩ (.string T)) 0 T (l2.drop m, q + 1) M _ _ _ _ _ _ _ _ _ _ _ _ _ _ _ _ _ _ _ _ _ _ _ _ _ _ _ _ _ _ _ _ _ _ _ _ _ _ _ _ _ _ _ _ _ _ _ _ _ _ _ _ HM.out ⟨⟨by decide, by decide⟩, HTS.out⟩ HS3.out HRE.out HR9.out HG9.out HZ9.out HX9.out
        · have HRE : Hid (rdX (n + 1) (o :: o2 :: l2, q) = .error 5) := by
            show _ = _
            rw [HRC.out]
            simp only [textR, octetX]
            rw [if_neg (by rw [within_iff]; omega)]
          have HFS := rfailX_set p a c bs (l2, q + 1) 5 w8 HR8.out (by decide)
          clear HRC ROK hm
          by_cases hlo : (m : Int) < 1
          · clear hw
            go_wp2_with fail
            refine HFS.mono ?_
            rintro e w9 ⟨rfl, hg9, he9⟩
            have HE : Hid (RErrX w9 p (q + 1) 5) := he9
            have HG : Hid (w.grownBy w9 (some p)) := grown_transX HG8.out hg9
            have HZ : Hid (w9.heap[w.heap.size]? = _) := (hg9.block _ (lt_of_block HZ8.out) (by simp; omega)).trans HZ8.out
            have HX : Hid (w9.heap[E]? = _) := (hg9.block _ (lt_of_block HX8.out) (by simp; omega)).trans HX8.out
            clear hg9 he9 HG8 HZ8 HX8 HR8 HO8 HFS
            obtain ⟨x0, x1, x2, x3, xf0, xf1, xf2, xf3⟩ := box4 HX.out
            have HE9 : Hid (RErrX (w9.setCell ⟨E, 2, none⟩ (.string ⟨#[]⟩)) p (q + 1) 5) := HE.out.same (Below.heap_setCell _ _ _ _ (by show p ≠ E; omega))
            have HG9 : Hid (w.grownBy (w9.setCell ⟨E, 2, none⟩ (.string ⟨#[]⟩)) (some p)) := grown_setE HG.out (by omega) _
            have HZ9 : Hid ((w9.setCell ⟨E, 2, none⟩ (.string ⟨#[]⟩)).heap[w.heap.size]? = _) := (Below.heap_setCell _ _ _ _ (by show w.heap.size ≠ E; omega)).trans HZ.out
            have HX9 : Hid ((w9.setCell ⟨E, 2, none⟩ (.string ⟨#[]⟩)).heap[E]? = _) := set_fieldX HX.out _
            have HTK := rtakeX_err p (q + 1) 5 (m : Int) w9 HE.out
            go_wp2_with fail
            refine HTK.mono ?_
            rintro e w11 ⟨rfl, hw11⟩
            subst hw11
            go_wp2_with (refine wpList_str _ rfl (.tmp 80) rfl none 0 [] rfl (fun i o hi => by simp at hi) ?_)
            exact RERR.out (w11.setCell ⟨E, 2, none⟩ (.string ⟨#[]⟩)) 5 _ _ _ _ (q + 1) _ _ _ _ _ _ _ _ _ _ _ _ _ _ _ _ _ _ _ _ _ _ _ _ _ _ _ _ _ _ _ _ _ _ _ _ _ _ _ _ _ _ _ _ _ _ _ _ _ _ _ _ HRE.out HE9.out HG9.out HZ9.out HX9.out
          · have dlo : decide ((m : Int) < 1) = false := by simp; omega
            have dhi : (16 : Int) < (m : Int) := by omega
            clear hw hlo
            go_wp2_with fail
            refine HFS.mono ?_
            rintro e w9 ⟨rfl, hg9, he9⟩
            have HE : Hid (RErrX w9 p (q + 1) 5) := he9
            have HG : Hid (w.grownBy w9 (some p)) := grown_transX HG8.out hg9
            have HZ : Hid (w9.heap[w.heap.size]? = _) := (hg9.block _ (lt_of_block HZ8.out) (by simp; omega)).trans HZ8.out
            have HX : Hid (w9.heap[E]? = _) := (hg9.block _ (lt_of_block HX8.out) (by simp; omega)).trans HX8.out
            clear hg9 he9 HG8 HZ8 HX8 HR8 HO8 HFS
            obtain ⟨x0, x1, x2, x3, xf0, xf1, xf2, xf3⟩ := box4 HX.out
            have HE9 : Hid (RErrX (w9.setCell ⟨E, 2, none⟩ (.string ⟨#[]⟩)) p (q + 1) 5) := HE.out.same (Below.heap_setCell _ _ _ _ (by show p ≠ E; omega))
            have HG9 : Hid (w.grownBy (w9.setCell ⟨E, 2, none⟩ (.string ⟨#[]⟩)) (some p)) := grown_setE HG.out (by omega) _
            have HZ9 : Hid ((w9.setCell ⟨E, 2, none⟩ (.string ⟨#[]⟩)).heap[w.heap.size]? = _) := (Below.heap_setCell _ _ _ _ (by show w.heap.size ≠ E; omega)).trans HZ.out
            have HX9 : Hid ((w9.setCell ⟨E, 2, none⟩ (.string ⟨#[]⟩)).heap[E]? = _) := set_fieldX HX.out _
            have HTK := rtakeX_err p (q + 1) 5 (m : Int) w9 HE.out
            go_wp2_with fail
            refine HTK.mono ?_
            rintro e w11 ⟨rfl, hw11⟩
            subst hw11
            go_wp2_with (refine wpList_str _ rfl (.tmp 80) rfl none 0 [] rfl (fun i o hi => by simp at hi) ?_)
            exact RERR.out (w11.setCell ⟨E, 2, none⟩ (.string ⟨#[]⟩)) 5 _ _ _ _ (q + 1) _ _ _ _ _ _ _ _ _ _ _ _ _ _ _ _ _ _ _ _ _ _ _ _ _ _ _ _ _ _ _ _ _ _ _ _ _ _ _ _ _ _ _ _ _ _ _ _ _ _ _ _ HRE.out HE9.out HG9.out HZ9.out HX9.out
  have d3 : ((kn : Int) == 3) = false := by simp; omega
  have d4 : ((kn : Int) == 4) = false := by simp; omega
  have d8 : ((kn : Int) == 8) = false := by simp; omega
  have d25 : ((kn : Int) == 25) = false := by simp; omega
  have d23 : ((kn : Int) == 23) = false := by simp; omega
  have hsm := argB_small (k := (kn : Int)) (by omega)
  have HRN : Hid (∃ M : Nat, M ≤ 8 ∧ nv = (M : Int) ∧ rdX (n + 1) (o :: l, q) = match iterX (rdX n) M (l, q + 1) with | .error e => .error e | .ok (its, s4) => .ok (((kn : Int), 0, ⟨#[]⟩, its), s4)) := by
    have h1 : nv = (argB (kn : Int)).1 := by rw [HNV.out, if_neg k23]
    refine ⟨nv.toNat, by omega, by omega, ?_⟩
    have h2 : headR (kn : Int) (l, q + 1) = .ok (0, ⟨#[]⟩, (l, q + 1)) := by
      unfold headR
      rw [if_neg (by omega), if_neg (by omega)]
    have h3 : countR (kn : Int) (l, q + 1) = .ok (nv, (l, q + 1)) := by
      unfold countR
      rw [if_pos hsm.1, h1]
    rw [HRD.out, h2]
    simp only
    rw [h3]
  obtain ⟨M, hM, rfl, hrd⟩ := HRN.out
  have HRE : Hid (rdX (n + 1) (o :: l, q) = _) := hrd
  have HS3 : Hid ((l, q + 1).1.length + (l, q + 1).2 ≤ 1000000000000000) := by show l.length + (q + 1) ≤ _; have := HB.out; omega
  clear hsm HRN hrd k3 k23 k4 HRD HNV HB RERR
  go_wp2_with fail
  exact ROK.out w7 0 ⟨#[]⟩ (l, q + 1) M _ _ _ _ _ _ _ _ _ _ _ _ _ _ _ _ _ _ _ _ _ _ _ _ _ _ _ _ _ _ _ _ _ _ _ _ _ _ _ _ _ _ _ _ _ _ _ _ _ _ _ _ hM ⟨⟨by decide, by decide⟩, by decide⟩ HS3.out HRE.out HR6.out HG6.out HZ6.out HX6.out


theorem rexprX_any (n : Nat) : RXs n := by
  induction n with
  | zero =>
    intro d s p a c bs w hdn hd1 hr ho hb
    have e : d = 9 := by omega
    subst e
    exact rexprX_deep s p a c bs w hr (by omega)
  | succ n ih =>
    intro d s p a c bs w hdn hd1 hr ho hb
    obtain ⟨l, q⟩ := s
    cases l with
    | nil => exact rexprX_nil n d q p a c bs w (by omega) hr ho (by simp only [List.length_nil] at hb; omega)
    | cons o l =>
      by_cases h29 : o.toNat ≤ 29
      · exact rexprX_main n ih d o l q p a c bs w hdn hd1 hr ho hb h29
      · exact rexprX_bad n d o l q p a c bs w (by omega) hr ho (by simp only [List.length_cons] at hb; omega) (by omega)
end Go.Proofs.Ytnliokikcpnllaa
