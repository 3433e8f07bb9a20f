/-
  The program's reader of a box's octets: next, number.
-/
import Derived.Test.YtfdbhojghkdlkaaObDecM
import Derived.Test.YtfdbhojghkdlkaaJ8
namespace Go.Proofs.Ytfdbhojghkdlkaa
open Go.ChangeShapes Go.WideShapes Go.ChangeAt Go.RowKit
open Fl

/-- The reader stands ahead of octets l, or behind an error. -/
def RdO (w : World) (p : Nat) (a : Option Addr) (c : Nat) (l : List UInt8) (er : Int) : Prop := w.heap[p]? = some (.cells #[.slice a l.length c, .int .i64 er] 60 (0, 0)) ∧ Oct w a c l ∧ (0 < l.length → ∀ ad, a = some ad → ad.block < p)

theorem rdo_cells {w : World} {p : Nat} {x y : Value} {t : TypeId} (h : w.heap[p]? = some (.cells #[x, y] t (0, 0))) :
    w.cell? ⟨p, 0, none⟩ = some x ∧ w.cell? ⟨p, 1, none⟩ = some y ∧ w.frozen? ⟨p, 0, none⟩ = false ∧ w.frozen? ⟨p, 1, none⟩ = false := by
  simp [World.cell?, World.frozen?, h]

theorem rdo_set0 {w : World} {g : Nat} {x y : Value} {t : TypeId} (h : w.heap[g]? = some (.cells #[x, y] t (0, 0))) (v : Value) : (w.setCell ⟨g, 0, none⟩ v).heap[g]? = some (.cells #[v, y] t (0, 0)) := by
  simp [World.setCell, Array.getElem?_modify, h]
theorem rdo_set1 {w : World} {g : Nat} {x y : Value} {t : TypeId} (h : w.heap[g]? = some (.cells #[x, y] t (0, 0))) (v : Value) : (w.setCell ⟨g, 1, none⟩ v).heap[g]? = some (.cells #[x, v] t (0, 0)) := by
  simp [World.setCell, Array.getElem?_modify, h]

theorem not_rdo {w : World} {p b o : Nat} {z : Value} {a : Option Addr} {l c : Nat} {y : Int} {t : TypeId} (h : w.heap[p]? = some (.cells #[.slice a l c, .int .i64 y] t (0, 0))) (hc : w.cell? ⟨b, o, none⟩ = some z) (hz : ∃ n, z = .int .u8 n) : b ≠ p := by
  intro e
  subst e
  obtain ⟨n, rfl⟩ := hz
  simp only [World.cell?, h] at hc
  match o, hc with
  | 0, hc => simp at hc
  | 1, hc => simp at hc
  | o + 2, hc => simp at hc

theorem Oct.rdo {w w' : World} {p : Nat} {a a' : Option Addr} {c c' ln : Nat} {bs : List UInt8} {y : Int} {t : TypeId} (h : Oct w a c bs) (hp : w.heap[p]? = some (.cells #[.slice a' ln c', .int .i64 y] t (0, 0))) (hg : w.grownBy w' (some p)) : Oct w' a c bs :=
  ⟨fun i o hi => by
    obtain ⟨b, off, e, hc⟩ := h.1 i o hi
    exact ⟨b, off, e, keep_cell hg hc (not_rdo hp hc ⟨_, rfl⟩)⟩, h.2⟩

theorem rdo_grown {w : World} {p o : Nat} (v : Value) : w.grownBy (w.setCell ⟨p, o, none⟩ v) (some p) :=
  ⟨rfl, rfl, rfl, by simp [World.setCell], fun k _ hne => by rw [Below.heap_setCell _ _ _ _ (fun e => hne (by rw [e]))]⟩

/-- The first octets of a row; what is behind them. -/
theorem Oct.head {w : World} {a : Option Addr} {c : Nat} {l : List UInt8} (h : Oct w a c l) (n : Nat) : Oct w a c (l.take n) := by
  obtain ⟨h1, h2, h3, h4, h5, h6⟩ := h
  refine ⟨fun i o hi => ?_, by rw [List.length_take]; omega, h3, by rw [List.length_take]; omega, h5, h6⟩
  rw [List.getElem?_take] at hi
  split at hi
  · exact h1 i o hi
  · cases hi
theorem Oct.end {w : World} {a : Option Addr} {c : Nat} {l : List UInt8} (h : Oct w a c l) (n : Nat) (hc : c = n) : Oct w a 0 (l.drop n) := by
  have : l.drop n = [] := List.drop_eq_nil_of_le (by have := h.2.1; omega)
  rw [this]
  exact ⟨fun i o hi => by simp at hi, by simp, by omega, by simp, fun _ => rfl, fun ad' _ h0 => by omega⟩
theorem Oct.tail {w : World} {a : Option Addr} {c : Nat} {l : List UInt8} (h : Oct w a c l) (n : Nat) (hn : n ≤ l.length) (hc : ¬ c = n) : Oct w (a.map fun x => x.add n) (c - n) (l.drop n) := by
  obtain ⟨h1, h2, h3, h4, h5, h6⟩ := h
  cases a with
  | none => have := h5 rfl; omega
  | some ad =>
    have had := h6 ad rfl (by omega)
    refine ⟨fun i o hi => ?_, by rw [List.length_drop]; omega, by omega, by rw [List.length_drop]; omega, by simp, fun ad' e _ => ?_⟩
    · rw [List.getElem?_drop] at hi
      obtain ⟨b, off, e, hcell⟩ := h1 _ _ hi
      rw [Option.some.injEq] at e
      subst e
      exact ⟨b, off + n, by simp only [Option.map]; rw [add_plain], by rw [Nat.add_assoc]; exact hcell⟩
    · simp only [Option.map, Option.some.injEq] at e
      subst e
      rw [had, add_plain]

theorem blk_tail {a : Option Addr} {p n : Nat} (h : ∀ ad, a = some ad → ad.block < p) : ∀ ad, (a.map fun x => x.add n) = some ad → ad.block < p := by
  intro ad e
  cases a with
  | none => cases e
  | some x =>
    simp only [Option.map, Option.some.injEq] at e
    subst e
    have h1 := h x rfl
    unfold Addr.add
    split <;> exact h1

theorem blk_drop {l : List UInt8} {n : Nat} {P : Prop} (h : 0 < l.length → P) : 0 < (l.drop n).length → P := fun h' => h (by rw [List.length_drop] at h'; omega)

/-- What next leaves. -/
def NextPost (w : World) (p n : Nat) (l : List UInt8) (er : Int) (e : Ending) (w' : World) : Prop := w.grownBy w' (some p) ∧
  ((er = 0 ∧ n ≤ l.length ∧ ∃ a c a' c', e = .returned (.slice a n c) ∧ Oct w' a c (l.take n) ∧ RdO w' p a' c' (l.drop n) 0) ∨
   (¬ (er = 0 ∧ n ≤ l.length) ∧ e = .returned (.slice none 0 0) ∧ ∃ a c, RdO w' p a c l (if er = 0 then 8 else er)))

set_option maxRecDepth 100000 in
set_option maxHeartbeats 3200000 in
theorem onext_any (n : Nat) (hn : n ≤ 255) (p : Nat) (a : Option Addr) (c : Nat) (l : List UInt8) (er : Int) (w : World) (hr : RdO w p a c l er) :
    Calls Try.prog 53 #[.pointer (some ⟨p, 0, none⟩), .int .i64 n] w (NextPost w p n l er) := by
  obtain ⟨hb, ho, hA⟩ := hr
  have HA : Hid (0 < l.length → ∀ ad, a = some ad → ad.block < p) := hA
  clear hA
  have HB : Hid (w.heap[p]? = some (.cells #[.slice a l.length c, .int .i64 er] 60 (0, 0))) := hb
  have HO : Hid (Oct w a c l) := ho
  have hc1 := ho.2.1
  have hc2 := ho.2.2.1
  obtain ⟨x0, x1, f0, f1⟩ := rdo_cells hb
  clear hb ho
  by_cases he : er = 0
  · subst he
    by_cases hs : l.length < n
    · have hd : decide ((l.length : Int) < (n : Int)) = true := decide_eq_true (by omega)
      have HB2 : Hid ((w.setCell ⟨p, 1, none⟩ (.int .i64 8)).heap[p]? = some (.cells #[.slice a l.length c, .int .i64 8] 60 (0, 0))) := rdo_set1 HB.out _
      have HG : Hid (w.grownBy (w.setCell ⟨p, 1, none⟩ (.int .i64 8)) (some p)) := rdo_grown _
      have HO2 : Hid (Oct (w.setCell ⟨p, 1, none⟩ (.int .i64 8)) a c l) := HO.out.rdo HB.out HG.out
      obtain ⟨z0, z1, g0, g1⟩ := rdo_cells HB2.out
      go_enter Try.func53, Try.ntmps53
      go_wp2_with fail
      go_ret
      exact ⟨HG.out, Or.inr ⟨by omega, rfl, a, c, by rw [if_pos rfl]; exact ⟨HB2.out, HO2.out, HA.out⟩⟩⟩
    · have hd : decide ((l.length : Int) < (n : Int)) = false := decide_eq_false (by omega)
      by_cases hcn : c = n
      · subst hcn
        go_enter Try.func53, Try.ntmps53
        go_wp2_with fail
        go_ret
        refine ⟨rdo_grown _, Or.inl ⟨rfl, by omega, a, c, a, 0, rfl, (HO.out.rdo HB.out (rdo_grown _)).head c, ?_, (HO.out.rdo HB.out (rdo_grown _)).end c rfl, blk_drop HA.out⟩⟩
        rw [List.length_drop, show l.length - c = 0 by omega]
        exact rdo_set0 HB.out _
      · go_enter Try.func53, Try.ntmps53
        go_wp2_with fail
        go_ret
        refine ⟨rdo_grown _, Or.inl ⟨rfl, by omega, a, c, _, _, rfl, (HO.out.rdo HB.out (rdo_grown _)).head n, ?_, (HO.out.rdo HB.out (rdo_grown _)).tail n (by omega) hcn, fun h' => blk_tail (blk_drop HA.out h')⟩⟩
        rw [List.length_drop]
        exact rdo_set0 HB.out _
  · have hd1 : (er == 0) = false := by simpa using he
    have hd2 : (er != 0) = true := by simpa using he
    go_enter Try.func53, Try.ntmps53
    go_wp2_with fail
    go_ret
    exact ⟨World.grownBy.refl _ _, Or.inr ⟨fun h => he h.1, rfl, a, c, by rw [if_neg he]; exact ⟨HB.out, HO.out, HA.out⟩⟩⟩

theorem or_octetI {x : Int} (o : UInt8) (h0 : 0 ≤ x) (h1 : x < 72057594037927936) : bits .or .i64 (wrap64 (x * 256)) (o.toNat : Int) = wrap64 (x * 256 + (o.toNat : Int)) := by
  have h2 := o.toNat_lt
  show IntKind.i64.wrap ((BitVec.ofInt 64 (wrap64 (x * 256)) ||| BitVec.ofInt 64 (o.toNat : Int)).toNat : Int) = _
  obtain ⟨n, rfl⟩ : ∃ n : Nat, x = n := ⟨x.toNat, by omega⟩
  have e1 : (wrap64 ((n : Int) * 256) % ((2 ^ 64 : Nat) : Int)).toNat = 2 ^ 8 * n := by unfold wrap64; omega
  have e2 : ((o.toNat : Int) % ((2 ^ 64 : Nat) : Int)).toNat = o.toNat := by omega
  rw [BitVec.toNat_or, BitVec.toNat_ofInt, BitVec.toNat_ofInt, e1, e2, ← Nat.two_pow_add_eq_or_of_lt h2, IntKind.wrap_i64, wrap64]
  omega

theorem nmK_nil : nmK [] = 0 := by simp [nmK, numO, wrap64]

/-- What number leaves. -/
def NumPost (w : World) (p n : Nat) (l : List UInt8) (er : Int) (e : Ending) (w' : World) : Prop := w.grownBy w' (some p) ∧
  ((er = 0 ∧ n ≤ l.length ∧ e = .returned (.int .i64 (nmK (l.take n))) ∧ ∃ a' c', RdO w' p a' c' (l.drop n) 0) ∨
   (¬ (er = 0 ∧ n ≤ l.length) ∧ e = .returned (.int .i64 0) ∧ ∃ a c, RdO w' p a c l (if er = 0 then 8 else er)))

set_option maxRecDepth 100000 in
set_option maxHeartbeats 3200000 in
theorem onumber_any (n : Nat) (hn : n ≤ 8) (p : Nat) (a : Option Addr) (c : Nat) (l : List UInt8) (er : Int) (w : World) (hr : RdO w p a c l er) :
    Calls Try.prog 38 #[.pointer (some ⟨p, 0, none⟩), .int .i64 n] w (NumPost w p n l er) := by
  go_enter Try.func38, Try.ntmps38
  go_wp2_with fail
  refine (onext_any n (by omega) p a c l er w hr).mono ?_
  rintro e w1 ⟨hg1, (⟨rfl, hle, a1, c1, a2, c2, rfl, ho1, hr2⟩ | ⟨hno, rfl, a2, c2, hr2⟩)⟩
  · have HG : Hid (w.grownBy w1 (some p)) := hg1
    have HO : Hid (Oct w1 a1 c1 (l.take n)) := ho1
    have HR : Hid (RdO w1 p a2 c2 (l.drop n) 0) := hr2
    have HTL : Hid ((l.take n).length = n) := by show _ = _; rw [List.length_take]; omega
    clear hg1 ho1 hr2 hr
    obtain ⟨ll, HLL⟩ : ∃ ll, Hid (ll = l.take n) := ⟨_, rfl⟩
    rw [← HLL.out] at HO HTL
    have hn8 : n ≤ 8 := hn
    clear hn
    go_wp2_with fail
    go_loopw [5, 12] (fun v5 v12 wr => ∃ m : Nat, m ≤ n ∧ v12 = .int .i64 m ∧ v5 = .int .i64 (nmK (ll.take m)) ∧ Hid (wr = w1)) (fun _ i _ => n - (intOf i).toNat)
    case atStart => exact ⟨0, Nat.zero_le _, rfl, (by rw [List.take_zero, nmK_nil]), rfl⟩
    case round =>
      obtain ⟨m, hm, rfl, rfl, HW⟩ := hrel
      obtain rfl := HW.out
      clear HW
      by_cases hlt : m < n
      · have hm1 : (m : Int) < (n : Int) := by omega
        have hml : m < ll.length := by have := HTL.out; omega
        obtain ⟨b, off, rfl, q0⟩ := HO.out.1 m ll[m] (by simp [hml])
        have HS : Hid (bits .or .i64 (wrap64 (nmK (ll.take m) * 256)) (ll[m].toNat : Int) = nmK (ll.take (m + 1))) := by
          show _ = _
          have hb := numO_bound m (ll.take m) (by rw [List.length_take]; omega)
          have hp : (256 : Int) ^ m ≤ 256 ^ 7 := by
            have : (256 : Nat) ^ m ≤ 256 ^ 7 := Nat.pow_le_pow_right (by decide) (by omega)
            exact_mod_cast this
          have e1 : nmK (ll.take m) = numO (ll.take m) := by unfold nmK wrap64; omega
          rw [e1, or_octetI _ hb.1 (by omega), List.take_succ_eq_append_getElem hml, nmK, numO_snoc]
        have h256 : (ll[m].toNat : Int) < 256 := by have := ll[m].toNat_lt; omega
        generalize ll[m] = o at *
        generalize nmK (ll.take m) = N at *
        go_wp2_with fail
        refine ⟨⟨m + 1, by omega, by go_num, by rw [HS.out], trivial⟩, ?_⟩
        simp [intOf]
        omega
      · have hme : m = n := by omega
        subst hme
        have HF : Hid (ll.take m = l.take m) := by show _ = _; rw [← HLL.out, List.take_of_length_le (by rw [HTL.out]; exact Nat.le_refl _)]
        rw [HF.out]
        go_wp2_with fail
        go_ret
        exact ⟨HG.out, Or.inl ⟨rfl, hle, rfl, a2, c2, HR.out⟩⟩
  · have HG : Hid (w.grownBy w1 (some p)) := hg1
    have HR : Hid (RdO w1 p a2 c2 l (if er = 0 then 8 else er)) := hr2
    have HN : Hid (¬ (er = 0 ∧ n ≤ l.length)) := hno
    clear hg1 hr2 hr hno
    go_wp2_with fail
    go_loopw [5, 12] (fun v5 v12 wr => v12 = .int .i64 0 ∧ v5 = .int .i64 0 ∧ Hid (wr = w1)) (fun _ _ _ => 0)
    case atStart => exact ⟨rfl, rfl, rfl⟩
    case round =>
      obtain ⟨rfl, rfl, HW⟩ := hrel
      obtain rfl := HW.out
      clear HW
      go_wp2_with fail
      go_ret
      exact ⟨HG.out, Or.inr ⟨HN.out, rfl, a2, c2, HR.out⟩⟩

/-- The reader behind so many octets: what was read, what is left, the error. -/
def nxT (n : Nat) (l : List UInt8) (er : Int) : List UInt8 := if er = 0 ∧ n ≤ l.length then l.take n else []
def nxL (n : Nat) (l : List UInt8) (er : Int) : List UInt8 := if er = 0 ∧ n ≤ l.length then l.drop n else l
def nxE (n : Nat) (l : List UInt8) (er : Int) : Int := if er = 0 then if n ≤ l.length then 0 else 8 else er

def NextP (w : World) (p n : Nat) (l : List UInt8) (er : Int) (e : Ending) (w' : World) : Prop := w.grownBy w' (some p) ∧ ∃ a c a' c', e = .returned (.slice a (nxT n l er).length c) ∧ Oct w' a c (nxT n l er) ∧ RdO w' p a' c' (nxL n l er) (nxE n l er)
def NumP (w : World) (p n : Nat) (l : List UInt8) (er : Int) (e : Ending) (w' : World) : Prop := w.grownBy w' (some p) ∧ e = .returned (.int .i64 (nmK (nxT n l er))) ∧ ∃ a' c', RdO w' p a' c' (nxL n l er) (nxE n l er)

theorem oct_none (w : World) : Oct w none 0 [] := ⟨fun i o hi => by simp at hi, by simp, by omega, by simp, fun _ => rfl, fun ad h => by cases h⟩

theorem onext_p (n : Nat) (hn : n ≤ 255) (p : Nat) (a : Option Addr) (c : Nat) (l : List UInt8) (er : Int) (w : World) (hr : RdO w p a c l er) :
    Calls Try.prog 53 #[.pointer (some ⟨p, 0, none⟩), .int .i64 n] w (NextP w p n l er) := by
  refine (onext_any n hn p a c l er w hr).mono ?_
  rintro e w1 ⟨hg, (⟨rfl, hle, a1, c1, a2, c2, rfl, ho, hr2⟩ | ⟨hno, rfl, a2, c2, hr2⟩)⟩
  · have h1 : (l.take n).length = n := by rw [List.length_take]; omega
    unfold NextP nxT nxL nxE
    rw [if_pos ⟨rfl, hle⟩, if_pos ⟨rfl, hle⟩, if_pos rfl, if_pos hle, h1]
    exact ⟨hg, a1, c1, a2, c2, rfl, ho, hr2⟩
  · unfold NextP nxT nxL nxE
    rw [if_neg hno, if_neg hno]
    refine ⟨hg, none, 0, a2, c2, rfl, oct_none _, ?_⟩
    by_cases h0 : er = 0
    · rw [if_pos h0, if_neg (fun h => hno ⟨h0, h⟩)]
      rwa [if_pos h0] at hr2
    · rw [if_neg h0]
      rwa [if_neg h0] at hr2
theorem onumber_p (n : Nat) (hn : n ≤ 8) (p : Nat) (a : Option Addr) (c : Nat) (l : List UInt8) (er : Int) (w : World) (hr : RdO w p a c l er) :
    Calls Try.prog 38 #[.pointer (some ⟨p, 0, none⟩), .int .i64 n] w (NumP w p n l er) := by
  refine (onumber_any n hn p a c l er w hr).mono ?_
  rintro e w1 ⟨hg, (⟨rfl, hle, rfl, a2, c2, hr2⟩ | ⟨hno, rfl, a2, c2, hr2⟩)⟩
  · unfold NumP nxT nxL nxE
    rw [if_pos ⟨rfl, hle⟩, if_pos ⟨rfl, hle⟩, if_pos rfl, if_pos hle]
    exact ⟨hg, rfl, a2, c2, hr2⟩
  · unfold NumP nxT nxL nxE
    rw [if_neg hno, if_neg hno, nmK_nil]
    refine ⟨hg, rfl, a2, c2, ?_⟩
    by_cases h0 : er = 0
    · rw [if_pos h0, if_neg (fun h => hno ⟨h0, h⟩)]
      rwa [if_pos h0] at hr2
    · rw [if_neg h0]
      rwa [if_neg h0] at hr2

/-- What value leaves. -/
def ValO (w : World) (p : Nat) (l : List UInt8) (er : Int) (e : Ending) (w' : World) : Prop := w.grownBy w' (some p) ∧ ∃ y F, e = .returned y ∧ (∀ b, F b → w.heap.size ≤ b ∧ b < w'.heap.size) ∧
  ((er = 0 ∧ Own w' (takeR l).2.1.1 y (takeR l).2.1.2 F ∧ ∃ a c, RdO w' p a c (l.drop (takeR l).2.2) (takeR l).1) ∨ (er ≠ 0 ∧ Own w' zeroPT.1 y zeroPT.2 F ∧ ∃ a c, RdO w' p a c l er))

theorem rdo_set2 {w : World} {g : Nat} {x y : Value} {t : TypeId} (h : w.heap[g]? = some (.cells #[x, y] t (0, 0))) (v v' : Value) : ((w.setCell ⟨g, 0, none⟩ v).setCell ⟨g, 1, none⟩ v').heap[g]? = some (.cells #[v, v'] t (0, 0)) := rdo_set1 (rdo_set0 h v) v'

theorem rdo_far {W1 : World} {g : Nat} (v0 v1 v2 v3 v4 : Value) : ∀ b, b ≠ g → (((((W1.setCell ⟨g, 0, none⟩ v0).setCell ⟨g, 1, none⟩ v1).setCell ⟨g, 2, none⟩ v2).setCell ⟨g, 3, none⟩ v3).setCell ⟨g, 4, none⟩ v4).heap[b]? = W1.heap[b]? := fun b h => by
  have h' : ¬ g = b := fun e => h e.symm
  simp [World.setCell, Array.getElem?_modify, h']

/-- What value leaves, in the world behind its stores. -/
theorem val_fin {w w1 : World} {p m : Nat} {a : Option Addr} {c : Nat} {l : List UInt8} {er' : Int} {u : V m} {F : Nat → Prop} {y : Value} {ob ob2 : Obj} (hb : w.heap[p]? = some (.cells #[.slice a l.length c, .int .i64 0] 60 (0, 0))) (ho : Oct w a c l)
    (hb1 : Below (w.alloc ob).heap.size (w.alloc ob) w1) (hO : Own w1 m y u F) (hF : ∀ b, F b → (w.alloc ob).heap.size ≤ b ∧ b < w1.heap.size) (v0 v1 v2 v3 v4 v : Value) (W : World)
    (hW : W = ((((((((w1.alloc ob2).setCell ⟨p, 0, none⟩ v).setCell ⟨p, 1, none⟩ (.int .i64 er')).setCell ⟨w.heap.size, 0, none⟩ v0).setCell ⟨w.heap.size, 1, none⟩ v1).setCell ⟨w.heap.size, 2, none⟩ v2).setCell ⟨w.heap.size, 3, none⟩ v3).setCell ⟨w.heap.size, 4, none⟩ v4)) :
    w.grownBy W (some p) ∧ (∀ b, F b → w.heap.size ≤ b ∧ b < W.heap.size) ∧ Own W m y u F ∧ Oct W a c l ∧ W.heap[p]? = some (.cells #[v, .int .i64 er'] 60 (0, 0)) := by
  subst hW
  have hp := lt_of_block hb
  have hne : p ≠ w.heap.size := by omega
  have hsz := hb1.size
  have hsz2 : w.heap.size + 1 ≤ w1.heap.size := by simpa using hsz
  have B1 : Below w.heap.size w w1 := nxt (below_one _ _) hb1
  have B2 : Below w.heap.size w (w1.alloc ob2) := nxt B1 (below_one _ _)
  have hz2 : (w1.alloc ob2).heap.size = w1.heap.size + 1 := by simp
  have hO2 : Own (w1.alloc ob2) m y u F := hO.same m fun b hb => Below.heap_alloc _ _ _ (hF b hb).2
  generalize w1.alloc ob2 = W2 at *
  have hb2p : W2.heap[p]? = some (.cells #[.slice a l.length c, .int .i64 0] 60 (0, 0)) := (B2.block _ hp).trans hb
  have g1 : W2.grownBy ((W2.setCell ⟨p, 0, none⟩ v).setCell ⟨p, 1, none⟩ (.int .i64 er')) (some p) := grown_trans (rdo_grown v) (rdo_grown _)
  have h3 : ((W2.setCell ⟨p, 0, none⟩ v).setCell ⟨p, 1, none⟩ (.int .i64 er')).heap[p]? = some (.cells #[v, .int .i64 er'] 60 (0, 0)) := rdo_set2 hb2p _ _
  have hz3 : ((W2.setCell ⟨p, 0, none⟩ v).setCell ⟨p, 1, none⟩ (.int .i64 er')).heap.size = W2.heap.size := by simp [World.setCell]
  have o3 := (ho.below B2).rdo hb2p g1
  have gg : w.grownBy ((W2.setCell ⟨p, 0, none⟩ v).setCell ⟨p, 1, none⟩ (.int .i64 er')) (some p) := grown_trans (grown_of_below B2) g1
  have hO3 : Own ((W2.setCell ⟨p, 0, none⟩ v).setCell ⟨p, 1, none⟩ (.int .i64 er')) m y u F := hO2.same m fun b hb => by
    have h1 := hF b hb
    simp at h1
    rw [g1.block b (by omega) (fun e => by cases e; omega)]
  generalize (W2.setCell ⟨p, 0, none⟩ v).setCell ⟨p, 1, none⟩ (.int .i64 er') = W3 at *
  have far := rdo_far (W1 := W3) (g := w.heap.size) v0 v1 v2 v3 v4
  have hz : (((((W3.setCell ⟨w.heap.size, 0, none⟩ v0).setCell ⟨w.heap.size, 1, none⟩ v1).setCell ⟨w.heap.size, 2, none⟩ v2).setCell ⟨w.heap.size, 3, none⟩ v3).setCell ⟨w.heap.size, 4, none⟩ v4).heap.size = W3.heap.size := by simp [World.setCell]
  have ho1 : (((((W3.setCell ⟨w.heap.size, 0, none⟩ v0).setCell ⟨w.heap.size, 1, none⟩ v1).setCell ⟨w.heap.size, 2, none⟩ v2).setCell ⟨w.heap.size, 3, none⟩ v3).setCell ⟨w.heap.size, 4, none⟩ v4).os = W3.os := by simp only [World.setCell]
  have ho2 : (((((W3.setCell ⟨w.heap.size, 0, none⟩ v0).setCell ⟨w.heap.size, 1, none⟩ v1).setCell ⟨w.heap.size, 2, none⟩ v2).setCell ⟨w.heap.size, 3, none⟩ v3).setCell ⟨w.heap.size, 4, none⟩ v4).tape = W3.tape := by simp only [World.setCell]
  have ho3 : (((((W3.setCell ⟨w.heap.size, 0, none⟩ v0).setCell ⟨w.heap.size, 1, none⟩ v1).setCell ⟨w.heap.size, 2, none⟩ v2).setCell ⟨w.heap.size, 3, none⟩ v3).setCell ⟨w.heap.size, 4, none⟩ v4).output = W3.output := by simp only [World.setCell]
  generalize (((((W3.setCell ⟨w.heap.size, 0, none⟩ v0).setCell ⟨w.heap.size, 1, none⟩ v1).setCell ⟨w.heap.size, 2, none⟩ v2).setCell ⟨w.heap.size, 3, none⟩ v3).setCell ⟨w.heap.size, 4, none⟩ v4) = W5 at *
  have G5 : w.grownBy W5 (some p) := ⟨ho1.trans gg.os, ho2.trans gg.tape, ho3.trans gg.output, by have := gg.size; omega, fun k hk hn => (far k (by omega)).trans (gg.block k hk hn)⟩
  refine ⟨G5, fun b hb => ⟨by have := (hF b hb).1; simp at this; omega, by have := (hF b hb).2; omega⟩, hO3.same m fun b hb => far b (by have := (hF b hb).1; simp at this; omega), ?_, (far p hne).trans h3⟩
  refine ⟨fun i o hi => ?_, o3.2⟩
  obtain ⟨b, off, e, hc⟩ := ho.1 i o hi
  obtain ⟨b', off', e', hc'⟩ := o3.1 i o hi
  have : b' = b := by rw [e] at e'; simp only [Option.some.injEq, Addr.mk.injEq] at e'; exact e'.1.symm
  subst this
  have hlt : b' < w.heap.size := lt_of_cell hc
  refine ⟨b', off', e', ?_⟩
  simp only [World.cell?] at hc' ⊢
  rw [far b' (by omega)]
  exact hc'

set_option maxRecDepth 100000 in
set_option maxHeartbeats 3200000 in
theorem ovalue_any (p : Nat) (a : Option Addr) (c : Nat) (l : List UInt8) (er : Int) (w : World) (hr : RdO w p a c l er) :
    Calls Try.prog 54 #[.pointer (some ⟨p, 0, none⟩)] w (ValO w p l er) := by
  obtain ⟨hb, ho, hA⟩ := hr
  have HA : Hid (0 < l.length → ∀ ad, a = some ad → ad.block < p) := hA
  clear hA
  have HB : Hid (w.heap[p]? = some (.cells #[.slice a l.length c, .int .i64 er] 60 (0, 0))) := hb
  have HO : Hid (Oct w a c l) := ho
  have hc1 := ho.2.1
  have hc2 := ho.2.2.1
  have hpl := lt_of_block hb
  have B0 : Hid (Below w.heap.size w (w.alloc (.cells #[.int .i64 0, .int .u64 0, .string ⟨#[]⟩, .slice none 0 0, .slice none 0 0] 50))) := below_one _ _
  have X0 : Hid ((w.alloc (.cells #[.int .i64 0, .int .u64 0, .string ⟨#[]⟩, .slice none 0 0, .slice none 0 0] 50)).heap[w.heap.size]? = some (.cells #[.int .i64 0, .int .u64 0, .string ⟨#[]⟩, .slice none 0 0, .slice none 0 0] 50 (0, 0))) := heap_alloc_new _ _
  obtain ⟨x0, x1, f0, f1⟩ := rdo_cells ((B0.out.block _ hpl).trans hb)
  clear hb ho
  have hne1 : ¬ p = w.heap.size := by omega
  have hne2 : ¬ w.heap.size = p := by omega
  by_cases he : er = 0
  · subst he
    have HC : Hid (Calls Try.prog 65 #[.slice a l.length c] (w.alloc (.cells #[.int .i64 0, .int .u64 0, .string ⟨#[]⟩, .slice none 0 0, .slice none 0 0] 50)) _) := take_any a c l _ (HO.out.below B0.out)
    have HM : Hid ((takeR l).2.2 ≤ l.length) := by
      show _ ≤ _
      unfold takeR
      split
      · exact Nat.zero_le _
      · split
        · exact Nat.zero_le _
        · exact Nat.sub_le _ _
    obtain ⟨R, HR⟩ : ∃ R, Hid (takeR l = R) := ⟨_, rfl⟩
    unfold ValO
    rw [HR.out] at HC HM ⊢
    obtain ⟨er', ⟨m, u⟩, nn⟩ := R
    simp only at HC HM ⊢
    have hnn := HM.out
    go_enter Try.func54, Try.ntmps54
    go_wp2_with fail
    refine HC.out.mono ?_
    rintro e w1 ⟨y, F, rfl, hO, hF, hb1⟩
    have HO1 : Hid (Own w1 m y u F) := hO
    have HF : Hid (∀ b, F b → (w.alloc (.cells #[.int .i64 0, .int .u64 0, .string ⟨#[]⟩, .slice none 0 0, .slice none 0 0] 50)).heap.size ≤ b ∧ b < w1.heap.size) := hF
    have hsz : w.heap.size + 1 ≤ w1.heap.size := by have := hb1.size; simpa using this
    have HB1 : Hid (w1.heap[p]? = some (.cells #[.slice a l.length c, .int .i64 0] 60 (0, 0))) := ((nxt B0.out hb1).block _ hpl).trans HB.out
    have X1 : Hid (w1.heap[w.heap.size]? = some (.cells #[.int .i64 0, .int .u64 0, .string ⟨#[]⟩, .slice none 0 0, .slice none 0 0] 50 (0, 0))) := (hb1.block _ (by simp)).trans X0.out
    have B1 : Hid (Below (w.alloc (.cells #[.int .i64 0, .int .u64 0, .string ⟨#[]⟩, .slice none 0 0, .slice none 0 0] 50)).heap.size (w.alloc (.cells #[.int .i64 0, .int .u64 0, .string ⟨#[]⟩, .slice none 0 0, .slice none 0 0] 50)) w1) := hb1
    obtain ⟨k5, b5, t5, ka5, kl5, kc5, ia5, il5, ic5, rfl⟩ := Lay.shape m (Own.lay m hO)
    clear x0 x1 f0 f1 hO hF hb1 HC
    obtain ⟨x0, x1, f0, f1⟩ := rdo_cells ((Below.heap_alloc w1 (.cells #[.int .i64 k5, .int .u64 b5, .string t5, .slice ka5 kl5 kc5, .slice ia5 il5 ic5] 50) _ (lt_of_block HB1.out)).trans HB1.out)
    obtain ⟨z0, z1, z2, z3, z4, g0, g1, g2, g3, g4⟩ := box_cells ((Below.heap_alloc w1 (.cells #[.int .i64 k5, .int .u64 b5, .string t5, .slice ka5 kl5 kc5, .slice ia5 il5 ic5] 50) _ (lt_of_block X1.out)).trans X1.out)
    have hne3 : ¬ p = w1.heap.size := by omega
    have hne4 : ¬ w1.heap.size = p := by omega
    have hne5 : ¬ w.heap.size = w1.heap.size := by omega
    have hne6 : ¬ w1.heap.size = w.heap.size := by omega
    by_cases hcn : c = nn
    · have hln : l.length - nn = 0 := by omega
      have hcn' : (c : Int) = nn := by omega
      go_wp2_with fail
      refine bodyPost_ret (v := mk k5 b5 t5 ka5 kl5 kc5 ia5 il5 ic5) (by simp [results, Try.results54, go_sem, z0, z1, z2, z3, z4]) rfl ?_
      obtain ⟨q1, q2, q3, q4, q5⟩ := val_fin HB.out HO.out B1.out HO1.out HF.out _ _ _ _ _ _ _ rfl
      refine ⟨q1, _, F, rfl, q2, Or.inl ⟨trivial, q3, a, 0, ?_, q4.end nn hcn, blk_drop HA.out⟩⟩
      rw [List.length_drop, hln]
      exact q5
    · go_wp2_with fail
      refine bodyPost_ret (v := mk k5 b5 t5 ka5 kl5 kc5 ia5 il5 ic5) (by simp [results, Try.results54, go_sem, z0, z1, z2, z3, z4]) rfl ?_
      obtain ⟨q1, q2, q3, q4, q5⟩ := val_fin HB.out HO.out B1.out HO1.out HF.out _ _ _ _ _ _ _ rfl
      refine ⟨q1, _, F, rfl, q2, Or.inl ⟨trivial, q3, _, _, ?_, q4.tail nn hnn hcn, fun h' => blk_tail (blk_drop HA.out h')⟩⟩
      rw [List.length_drop]
      exact q5
  · have hd1 : (er == 0) = false := by simpa using he
    have hd2 : (er != 0) = true := by simpa using he
    have HE : Hid (er ≠ 0) := he
    clear he
    obtain ⟨z0, z1, z2, z3, z4, g0, g1, g2, g3, g4⟩ := box_cells X0.out
    go_enter Try.func54, Try.ntmps54
    go_wp2_with fail
    refine bodyPost_ret (v := mk 0 0 ⟨#[]⟩ none 0 0 none 0 0) (by simp [results, Try.results54, go_sem, z0, z1, z2, z3, z4]) rfl ?_
    exact ⟨grown_of_below B0.out, _, fun _ => False, rfl, fun _ h => h.elim, Or.inr ⟨HE.out, own_zeroPT _, a, c, (B0.out.block _ hpl).trans HB.out, HO.out.below B0.out, HA.out⟩⟩
end Go.Proofs.Ytfdbhojghkdlkaa
