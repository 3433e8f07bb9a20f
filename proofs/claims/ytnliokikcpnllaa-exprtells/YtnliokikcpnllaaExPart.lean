/-
  The octets of one part.
-/
import Derived.Test.YtnliokikcpnllaaExEnc
import Derived.OrdersHeld
namespace Go.Proofs.Ytnliokikcpnllaa
open Go.ChangeShapes Go.WideShapes Go.ChangeAt Go.RowKit Go.Deep
open Fl

/-- A part's own octets. -/
def octP (p : Nd4) : List UInt8 :=
  UInt8.ofNat p.1.toNat :: (if p.1 = 3 then octs p.2.1 else if p.1 = 4 ∨ p.1 = 8 ∨ p.1 = 25 then UInt8.ofNat p.2.2.1.size :: p.2.2.1.toList else if p.1 = 23 then [UInt8.ofNat p.2.2.2] else [])

theorem drew_alloc_size (w : World) (o : Obj) : ((w.alloc o).drew).heap.size = w.heap.size + 1 := World.size_alloc _ _

theorem within_iff {n l m : Int} : withinB n l m = true ↔ l ≤ n ∧ n ≤ m := by unfold withinB; simp

/-- What may be, by its fields. -/
theorem mayX_iff {k b : Int} {t : ByteArray} {n : Nat} : mayX k b t n = true ↔ (0 ≤ k ∧ k ≤ 29) ∧ bitB k b = true ∧ ((texB k).1 ≤ (t.size : Int) ∧ (t.size : Int) ≤ (texB k).2) ∧ ((argB k).1 ≤ (n : Int) ∧ (n : Int) ≤ (argB k).2) := by
  unfold mayX
  simp only [Bool.and_eq_true, within_iff]
  constructor
  · rintro ⟨⟨⟨a, b⟩, c⟩, d⟩; exact ⟨a, b, c, d⟩
  · rintro ⟨a, b, c, d⟩; exact ⟨⟨⟨a, b⟩, c⟩, d⟩

theorem texB_le (k : Int) : (texB k).2 ≤ 128 := by
  unfold texB
  by_cases h1 : k = 4
  · rw [if_pos h1]; decide
  · rw [if_neg h1]
    by_cases h2 : k = 8 ∨ k = 25
    · rw [if_pos h2]; decide
    · rw [if_neg h2]; decide
theorem argB_le (k : Int) : (argB k).2 ≤ 8 := by
  unfold argB
  by_cases h1 : k = 8 ∨ k = 10 ∨ k = 15 ∨ k = 20 ∨ k = 26
  · rw [if_pos h1]; decide
  · rw [if_neg h1]
    by_cases h2 : k = 9 ∨ k = 11 ∨ k = 12 ∨ k = 13 ∨ k = 14 ∨ k = 16 ∨ k = 17 ∨ k = 18 ∨ k = 19 ∨ k = 22 ∨ k = 24 ∨ k = 25 ∨ k = 27 ∨ k = 28 ∨ k = 29
    · rw [if_pos h2]; decide
    · rw [if_neg h2]
      by_cases h3 : k = 21
      · rw [if_pos h3]; decide
      · rw [if_neg h3]
        by_cases h4 : k = 23
        · rw [if_pos h4]; decide
        · rw [if_neg h4]; decide

theorem octP_len {k b : Int} {t : ByteArray} {n : Nat} (h : mayX k b t n = true) : (octP (k, b, t, n)).length ≤ 200 := by
  have h1 := (mayX_iff.1 h).2.2.1.2
  have h2 := texB_le k
  unfold octP
  simp only [List.length_cons]
  split
  · rw [octs_length]; omega
  · split
    · simp only [List.length_cons, toList_length]; omega
    · split <;> simp

theorem byte_val {n : Nat} (h : n ≤ 255) : ((UInt8.ofNat n).toNat : Int) = (n : Int) := by
  rw [UInt8.toNat_ofNat']
  omega

set_option maxRecDepth 100000 in
set_option maxHeartbeats 6400000 in
theorem apart_any (k b : Int) (t : ByteArray) (ia : Option Addr) (il ic : Nat) (hfit : FitX k b t il ic) (hmay : mayX k b t il = true) (w : World) (B : Nat) (s : Value) (l : List UInt8) (hB : B ≤ w.heap.size) (hs : Bs w B s l) (hlen : l.length ≤ 100000) :
    Calls Try.prog 29 #[s, mkX k b t ia il ic] w fun e w' => ∃ s', e = .returned s' ∧ Bs w' B s' (l ++ octP (k, b, t, il)) ∧ RowTo w w' s s' := by
  have hU : U b := hfit.2.1
  obtain ⟨⟨hk0, hk29⟩, hbit, ⟨ht0, ht1⟩, ⟨hn0, hn1⟩⟩ := mayX_iff.1 hmay
  have ht2 := texB_le k
  have hn2 := argB_le k
  have hts : t.size ≤ 128 := by omega
  have hns : il ≤ 8 := by omega
  have HU : Hid (U b) := hU
  have HS : Hid (Bs w B s l) := hs
  have HN : Hid (s.ownBlock ≠ some w.heap.size) := fun e => by have := (hs.base _ e).2; omega
  obtain ⟨kn, hkn, rfl⟩ : ∃ kn : Nat, kn ≤ 29 ∧ k = (kn : Int) := ⟨k.toNat, by omega, by omega⟩
  clear hfit hmay hbit ht0 ht1 hn0 hn1 ht2 hn2 hk0 hk29 hU hs
  have ev : ((UInt8.ofNat kn).toNat : Int) = (kn : Int) := byte_val (by omega)
  have em : (kn : Int) % 256 = (kn : Int) := by omega
  by_cases k3 : kn = 3
  · subst k3
    have HE : Hid (octP (((3 : Nat) : Int), b, t, il) = UInt8.ofNat 3 :: octs b) := rfl
    rw [HE.out]
    clear HE
    go_enter Try.func29, Try.ntmps29
    go_wp2_with (at_builtin; refine wpList_app _ rfl _ _ rfl B _ l [UInt8.ofNat 3] rfl ?d0 ⟨w.heap.size + 1, 0, none⟩ 1 rfl ?d1 ?d2 ?d3 ?_)
    case d0 => exact (HS.out.below (below_one _ _)).below (below_one _ _)
    case d1 => exact new_octets' _ _ _ _ _ (by simp) (by simp [cellsO])
    case d2 => simp; omega
    case d3 => simp; omega
    intro s1 w1 h1 h2
    have R1 : Hid (RowTo w w1 s s1) := (h2.pre (below_one _ _)).pre (below_one _ _)
    have S1 : Hid (Bs w1 B s1 (l ++ [UInt8.ofNat 3])) := h1
    have B1 : Hid (w1.heap[w.heap.size]? = some (.cells #[.int .i64 3, .int .u64 b, .string t, .slice ia il ic] 29 (0, 0))) := (h2.block (by simp; omega) HN.out).trans ((Below.heap_alloc _ _ _ (by simp)).trans (heap_alloc_new _ _))
    have Z1 : Hid (w.heap.size + 2 ≤ w1.heap.size) := by show _ ≤ _; have := h2.grown.size; simpa using this
    have PL1 : s1.ownBlock ≠ some w.heap.size := fun e => by rcases h2.place with q | q; exact HN.out (by rw [← q]; exact e); have := q _ e; simp at this; omega
    clear h1 h2
    obtain ⟨x0, x1, x2, x3, -⟩ := box4 B1.out
    go_wp2_with (go_at_call 43; refine (bitsX_any b s1 (l ++ [UInt8.ofNat 3]) B _ S1.out (by have := Z1.out; omega) (by simp; omega) HU.out).mono ?_; rintro e w2 ⟨s2, rfl, h3, h4⟩)
    go_ret
    refine ⟨s2, rfl, ?_, R1.out.trans h4⟩
    simpa using h3
  by_cases k23 : kn = 23
  · subst k23
    have HE : Hid (octP (((23 : Nat) : Int), b, t, il) = [UInt8.ofNat 23, UInt8.ofNat il]) := rfl
    rw [HE.out]
    clear HE k3
    have ev2 : ((UInt8.ofNat il).toNat : Int) = (il : Int) := byte_val (by omega)
    have em2 : (il : Int) % 256 = (il : Int) := by omega
    go_enter Try.func29, Try.ntmps29
    go_wp2_with (at_builtin; refine wpList_app _ rfl _ _ rfl B _ l [UInt8.ofNat 23] rfl ?d0 ⟨w.heap.size + 1, 0, none⟩ 1 rfl ?d1 ?d2 ?d3 ?_)
    case d0 => exact (HS.out.below (below_one _ _)).below (below_one _ _)
    case d1 => exact new_octets' _ _ _ _ _ (by simp) (by simp [cellsO])
    case d2 => simp; omega
    case d3 => simp; omega
    intro s1 w1 h1 h2
    have R1 : Hid (RowTo w w1 s s1) := (h2.pre (below_one _ _)).pre (below_one _ _)
    have S1 : Hid (Bs w1 B s1 (l ++ [UInt8.ofNat 23])) := h1
    have B1 : Hid (w1.heap[w.heap.size]? = some (.cells #[.int .i64 23, .int .u64 b, .string t, .slice ia il ic] 29 (0, 0))) := (h2.block (by simp; omega) HN.out).trans ((Below.heap_alloc _ _ _ (by simp)).trans (heap_alloc_new _ _))
    have Z1 : Hid (w.heap.size + 2 ≤ w1.heap.size) := by show _ ≤ _; have := h2.grown.size; simpa using this
    have PL1 : s1.ownBlock ≠ some w.heap.size := fun e => by rcases h2.place with q | q; exact HN.out (by rw [← q]; exact e); have := q _ e; simp at this; omega
    clear h1 h2
    obtain ⟨x0, x1, x2, x3, -⟩ := box4 B1.out
    go_wp2_with (at_builtin; refine wpList_app _ rfl _ _ rfl B _ (l ++ [UInt8.ofNat 23]) [UInt8.ofNat il] rfl ?e0 ⟨w1.heap.size, 0, none⟩ 1 rfl ?e1 ?e2 ?e3 ?_)
    case e0 => exact S1.out.below (below_one _ _)
    case e1 => exact new_octets' _ _ _ _ _ (by simp) (by simp [cellsO]; omega)
    case e2 => simp; omega
    case e3 => have := Z1.out; simp; omega
    intro s2 w2 h3 h4
    go_wp2_with fail
    go_ret
    refine ⟨s2, rfl, ?_, R1.out.trans (h4.pre (below_one _ _))⟩
    simpa using h3
  by_cases k4 : kn = 4
  · subst k4
    have HE : Hid (octP (((4 : Nat) : Int), b, t, il) = UInt8.ofNat 4 :: UInt8.ofNat t.size :: t.toList) := rfl
    rw [HE.out]
    clear HE k3 k23
    have ev2 : ((UInt8.ofNat t.size).toNat : Int) = (t.size : Int) := byte_val (by omega)
    have em2 : (t.size : Int) % 256 = (t.size : Int) := by omega
    go_enter Try.func29, Try.ntmps29
    go_wp2_with (at_builtin; refine wpList_app _ rfl _ _ rfl B _ l [UInt8.ofNat 4] rfl ?d0 ⟨w.heap.size + 1, 0, none⟩ 1 rfl ?d1 ?d2 ?d3 ?_)
    case d0 => exact (HS.out.below (below_one _ _)).below (below_one _ _)
    case d1 => exact new_octets' _ _ _ _ _ (by simp) (by simp [cellsO])
    case d2 => simp; omega
    case d3 => simp; omega
    intro s1 w1 h1 h2
    have R1 : Hid (RowTo w w1 s s1) := (h2.pre (below_one _ _)).pre (below_one _ _)
    have S1 : Hid (Bs w1 B s1 (l ++ [UInt8.ofNat 4])) := h1
    have B1 : Hid (w1.heap[w.heap.size]? = some (.cells #[.int .i64 4, .int .u64 b, .string t, .slice ia il ic] 29 (0, 0))) := (h2.block (by simp; omega) HN.out).trans ((Below.heap_alloc _ _ _ (by simp)).trans (heap_alloc_new _ _))
    have Z1 : Hid (w.heap.size + 2 ≤ w1.heap.size) := by show _ ≤ _; have := h2.grown.size; simpa using this
    have PL1 : s1.ownBlock ≠ some w.heap.size := fun e => by rcases h2.place with q | q; exact HN.out (by rw [← q]; exact e); have := q _ e; simp at this; omega
    clear h1 h2
    obtain ⟨x0, x1, x2, x3, -⟩ := box4 B1.out
    go_wp2_with fail
    have HN1 : Hid (s1.ownBlock ≠ some w.heap.size) := PL1
    have HS1 : (fun w' : World => w'.cell? ⟨w.heap.size, 2, none⟩ = some (.string t)) w1.drew := x2
    clear x0 x1 x2 x3
    refine Rg.Till.region (fun w' => w'.cell? ⟨w.heap.size, 2, none⟩ = some (.string t)) 10 (by kernel_rfl) ?_
    show Rg.Till _ _ _ _ _ 11 (Array.replicate 11 false) _ _
    refine Rg.Till.take (i := 0) (v := (s1)) (some 23) rfl rfl (by kernel_rfl) (by kernel_rfl) (fun _ _ _ h => h) (by kernel_rfl) (by kernel_rfl) (Or.inl ⟨rfl, fun w' hS => ?_⟩) HS1 ?_
    · have y2 := hS; go_simp
    simp only [Act.put, List.setIfInBounds_toArray, List.set_cons_zero, List.set_cons_succ]
    refine Rg.Till.take (i := 1) (v := (.pointer (some ⟨w.heap.size, 2, none⟩))) (some 24) rfl rfl (by kernel_rfl) (by kernel_rfl) (fun _ _ _ h => h) (by kernel_rfl) (by kernel_rfl) (Or.inl ⟨rfl, fun w' hS => ?_⟩) HS1 ?_
    · have y2 := hS; go_simp
    simp only [Act.put, List.setIfInBounds_toArray, List.set_cons_zero, List.set_cons_succ]
    refine Rg.Till.take (i := 2) (v := (.string t)) (some 25) rfl rfl (by kernel_rfl) (by kernel_rfl) (fun _ _ _ h => h) (by kernel_rfl) (by kernel_rfl) (Or.inl ⟨rfl, fun w' hS => ?_⟩) HS1 ?_
    · have y2 := hS; go_simp
    simp only [Act.put, List.setIfInBounds_toArray, List.set_cons_zero, List.set_cons_succ]
    refine Rg.Till.take (i := 3) (v := (.int .i64 (t.size : Int))) (some 26) rfl rfl (by kernel_rfl) (by kernel_rfl) (fun _ _ _ h => h) (by kernel_rfl) (by kernel_rfl) (Or.inl ⟨rfl, fun w' hS => ?_⟩) HS1 ?_
    · have y2 := hS; go_simp
    simp only [Act.put, List.setIfInBounds_toArray, List.set_cons_zero, List.set_cons_succ]
    refine Rg.Till.take (i := 4) (v := (.int .u8 (t.size : Int))) (some 27) rfl rfl (by kernel_rfl) (by kernel_rfl) (fun _ _ _ h => h) (by kernel_rfl) (by kernel_rfl) (Or.inl ⟨rfl, fun w' hS => ?_⟩) HS1 ?_
    · have y2 := hS; go_simp; rw [IntKind.wrap_u8']; omega
    simp only [Act.put, List.setIfInBounds_toArray, List.set_cons_zero, List.set_cons_succ]
    refine Rg.Till.take (i := 7) (v := (.pointer (some ⟨w.heap.size, 2, none⟩))) (some 30) rfl rfl (by kernel_rfl) (by kernel_rfl) (fun _ _ _ h => h) (by kernel_rfl) (by kernel_rfl) (Or.inl ⟨rfl, fun w' hS => ?_⟩) HS1 ?_
    · have y2 := hS; go_simp
    simp only [Act.put, List.setIfInBounds_toArray, List.set_cons_zero, List.set_cons_succ]
    refine Rg.Till.take (i := 8) (v := (.string t)) (some 31) rfl rfl (by kernel_rfl) (by kernel_rfl) (fun _ _ _ h => h) (by kernel_rfl) (by kernel_rfl) (Or.inl ⟨rfl, fun w' hS => ?_⟩) HS1 ?_
    · have y2 := hS; go_simp
    simp only [Act.put, List.setIfInBounds_toArray, List.set_cons_zero, List.set_cons_succ]
    refine Rg.Till.oneK (i := 5) (by kernel_rfl) rfl rfl fun K hK => ?_
    go_simp
    refine hK.out _ _ (fun _ => keepc (below_one _ _) _ _ HS1) ?_
    clear hK K
    refine Rg.Till.one (i := 6) (by kernel_rfl) rfl rfl ?_
    refine op_app (d := some 29) rfl rfl _ _ rfl B s1 (l ++ [UInt8.ofNat 4]) [UInt8.ofNat t.size] rfl (S1.out.below (below_drew_alloc _ _)) ⟨w1.heap.size, 0, none⟩ 1 rfl (new_octets' w1.drew _ _ _ _ rfl (by simp [cellsO]; omega)) (by simp; omega) (by have := Z1.out; rw [drew_alloc_size]; omega) ?_
    intro s2 w2 h3 h4
    have HN2 : Hid (s2.ownBlock ≠ some w.heap.size) := fun e => by rcases h4.place with q | q; exact HN1.out (by rw [← q]; exact e); have := q _ e; rw [drew_alloc_size] at this; have := Z1.out; omega
    have HS2 : (fun w' : World => w'.cell? ⟨w.heap.size, 2, none⟩ = some (.string t)) w2 := (box4 ((h4.block (by have := Z1.out; rw [drew_alloc_size]; omega) (HN1.out)).trans (((below_drew_alloc w1 _).block _ (by have := Z1.out; omega)).trans B1.out))).2.2.1
    refine ⟨fun _ => HS2, ?_⟩
    simp only [Act.put, List.setIfInBounds_toArray, List.set_cons_zero, List.set_cons_succ]
    refine Rg.Till.one (i := 9) (by kernel_rfl) rfl rfl ?_
    refine op_apps (d := some 32) rfl _ _ rfl B s2 _ t rfl h3 rfl (by simp) (by simp; omega) (by have := h4.grown.size; rw [drew_alloc_size] at this; have := Z1.out; omega) ?_
    intro s3 w3 h5 h6
    have R3 : Hid (RowTo w w3 s s3) := R1.out.trans ((h4.pre (below_drew_alloc _ _)).trans h6)
    have S3 : Hid (Bs w3 B s3 (l ++ [UInt8.ofNat 4] ++ [UInt8.ofNat t.size] ++ t.toList)) := h5
    have HS3 : (fun w' : World => w'.cell? ⟨w.heap.size, 2, none⟩ = some (.string t)) w3 := (box4 ((h6.block (by have := h4.grown.size; rw [drew_alloc_size] at this; have := Z1.out; omega) (HN2.out)).trans ((h4.block (by have := Z1.out; rw [drew_alloc_size]; omega) (HN1.out)).trans (((below_drew_alloc w1 _).block _ (by have := Z1.out; omega)).trans B1.out)))).2.2.1
    refine ⟨fun _ => HS3, ?_⟩
    simp only [Act.put, List.setIfInBounds_toArray, List.set_cons_zero, List.set_cons_succ]
    refine Rg.Till.oneK (i := 10) (by kernel_rfl) rfl rfl fun K hK => ?_
    go_simp
    refine hK.out _ _ (fun h => absurd rfl h) ?_
    clear hK K
    refine Rg.Till.done (by kernel_rfl) ?_
    go_wp2_with fail
    go_ret
    refine ⟨s3, rfl, ?_, R3.out⟩
    simpa using S3.out
  by_cases k8 : kn = 8
  · subst k8
    have HE : Hid (octP (((8 : Nat) : Int), b, t, il) = UInt8.ofNat 8 :: UInt8.ofNat t.size :: t.toList) := rfl
    rw [HE.out]
    clear HE k3 k23
    have ev2 : ((UInt8.ofNat t.size).toNat : Int) = (t.size : Int) := byte_val (by omega)
    have em2 : (t.size : Int) % 256 = (t.size : Int) := by omega
    go_enter Try.func29, Try.ntmps29
    go_wp2_with (at_builtin; refine wpList_app _ rfl _ _ rfl B _ l [UInt8.ofNat 8] rfl ?d0 ⟨w.heap.size + 1, 0, none⟩ 1 rfl ?d1 ?d2 ?d3 ?_)
    case d0 => exact (HS.out.below (below_one _ _)).below (below_one _ _)
    case d1 => exact new_octets' _ _ _ _ _ (by simp) (by simp [cellsO])
    case d2 => simp; omega
    case d3 => simp; omega
    intro s1 w1 h1 h2
    have R1 : Hid (RowTo w w1 s s1) := (h2.pre (below_one _ _)).pre (below_one _ _)
    have S1 : Hid (Bs w1 B s1 (l ++ [UInt8.ofNat 8])) := h1
    have B1 : Hid (w1.heap[w.heap.size]? = some (.cells #[.int .i64 8, .int .u64 b, .string t, .slice ia il ic] 29 (0, 0))) := (h2.block (by simp; omega) HN.out).trans ((Below.heap_alloc _ _ _ (by simp)).trans (heap_alloc_new _ _))
    have Z1 : Hid (w.heap.size + 2 ≤ w1.heap.size) := by show _ ≤ _; have := h2.grown.size; simpa using this
    have PL1 : s1.ownBlock ≠ some w.heap.size := fun e => by rcases h2.place with q | q; exact HN.out (by rw [← q]; exact e); have := q _ e; simp at this; omega
    clear h1 h2
    obtain ⟨x0, x1, x2, x3, -⟩ := box4 B1.out
    go_wp2_with fail
    have HN1 : Hid (s1.ownBlock ≠ some w.heap.size) := PL1
    have HS1 : (fun w' : World => w'.cell? ⟨w.heap.size, 2, none⟩ = some (.string t)) w1.drew := x2
    clear x0 x1 x2 x3
    refine Rg.Till.region (fun w' => w'.cell? ⟨w.heap.size, 2, none⟩ = some (.string t)) 10 (by kernel_rfl) ?_
    show Rg.Till _ _ _ _ _ 11 (Array.replicate 11 false) _ _
    refine Rg.Till.take (i := 0) (v := (s1)) (some 23) rfl rfl (by kernel_rfl) (by kernel_rfl) (fun _ _ _ h => h) (by kernel_rfl) (by kernel_rfl) (Or.inl ⟨rfl, fun w' hS => ?_⟩) HS1 ?_
    · have y2 := hS; go_simp
    simp only [Act.put, List.setIfInBounds_toArray, List.set_cons_zero, List.set_cons_succ]
    refine Rg.Till.take (i := 1) (v := (.pointer (some ⟨w.heap.size, 2, none⟩))) (some 24) rfl rfl (by kernel_rfl) (by kernel_rfl) (fun _ _ _ h => h) (by kernel_rfl) (by kernel_rfl) (Or.inl ⟨rfl, fun w' hS => ?_⟩) HS1 ?_
    · have y2 := hS; go_simp
    simp only [Act.put, List.setIfInBounds_toArray, List.set_cons_zero, List.set_cons_succ]
    refine Rg.Till.take (i := 2) (v := (.string t)) (some 25) rfl rfl (by kernel_rfl) (by kernel_rfl) (fun _ _ _ h => h) (by kernel_rfl) (by kernel_rfl) (Or.inl ⟨rfl, fun w' hS => ?_⟩) HS1 ?_
    · have y2 := hS; go_simp
    simp only [Act.put, List.setIfInBounds_toArray, List.set_cons_zero, List.set_cons_succ]
    refine Rg.Till.take (i := 3) (v := (.int .i64 (t.size : Int))) (some 26) rfl rfl (by kernel_rfl) (by kernel_rfl) (fun _ _ _ h => h) (by kernel_rfl) (by kernel_rfl) (Or.inl ⟨rfl, fun w' hS => ?_⟩) HS1 ?_
    · have y2 := hS; go_simp
    simp only [Act.put, List.setIfInBounds_toArray, List.set_cons_zero, List.set_cons_succ]
    refine Rg.Till.take (i := 4) (v := (.int .u8 (t.size : Int))) (some 27) rfl rfl (by kernel_rfl) (by kernel_rfl) (fun _ _ _ h => h) (by kernel_rfl) (by kernel_rfl) (Or.inl ⟨rfl, fun w' hS => ?_⟩) HS1 ?_
    · have y2 := hS; go_simp; rw [IntKind.wrap_u8']; omega
    simp only [Act.put, List.setIfInBounds_toArray, List.set_cons_zero, List.set_cons_succ]
    refine Rg.Till.take (i := 7) (v := (.pointer (some ⟨w.heap.size, 2, none⟩))) (some 30) rfl rfl (by kernel_rfl) (by kernel_rfl) (fun _ _ _ h => h) (by kernel_rfl) (by kernel_rfl) (Or.inl ⟨rfl, fun w' hS => ?_⟩) HS1 ?_
    · have y2 := hS; go_simp
    simp only [Act.put, List.setIfInBounds_toArray, List.set_cons_zero, List.set_cons_succ]
    refine Rg.Till.take (i := 8) (v := (.string t)) (some 31) rfl rfl (by kernel_rfl) (by kernel_rfl) (fun _ _ _ h => h) (by kernel_rfl) (by kernel_rfl) (Or.inl ⟨rfl, fun w' hS => ?_⟩) HS1 ?_
    · have y2 := hS; go_simp
    simp only [Act.put, List.setIfInBounds_toArray, List.set_cons_zero, List.set_cons_succ]
    refine Rg.Till.oneK (i := 5) (by kernel_rfl) rfl rfl fun K hK => ?_
    go_simp
    refine hK.out _ _ (fun _ => keepc (below_one _ _) _ _ HS1) ?_
    clear hK K
    refine Rg.Till.one (i := 6) (by kernel_rfl) rfl rfl ?_
    refine op_app (d := some 29) rfl rfl _ _ rfl B s1 (l ++ [UInt8.ofNat 8]) [UInt8.ofNat t.size] rfl (S1.out.below (below_drew_alloc _ _)) ⟨w1.heap.size, 0, none⟩ 1 rfl (new_octets' w1.drew _ _ _ _ rfl (by simp [cellsO]; omega)) (by simp; omega) (by have := Z1.out; rw [drew_alloc_size]; omega) ?_
    intro s2 w2 h3 h4
    have HN2 : Hid (s2.ownBlock ≠ some w.heap.size) := fun e => by rcases h4.place with q | q; exact HN1.out (by rw [← q]; exact e); have := q _ e; rw [drew_alloc_size] at this; have := Z1.out; omega
    have HS2 : (fun w' : World => w'.cell? ⟨w.heap.size, 2, none⟩ = some (.string t)) w2 := (box4 ((h4.block (by have := Z1.out; rw [drew_alloc_size]; omega) (HN1.out)).trans (((below_drew_alloc w1 _).block _ (by have := Z1.out; omega)).trans B1.out))).2.2.1
    refine ⟨fun _ => HS2, ?_⟩
    simp only [Act.put, List.setIfInBounds_toArray, List.set_cons_zero, List.set_cons_succ]
    refine Rg.Till.one (i := 9) (by kernel_rfl) rfl rfl ?_
    refine op_apps (d := some 32) rfl _ _ rfl B s2 _ t rfl h3 rfl (by simp) (by simp; omega) (by have := h4.grown.size; rw [drew_alloc_size] at this; have := Z1.out; omega) ?_
    intro s3 w3 h5 h6
    have R3 : Hid (RowTo w w3 s s3) := R1.out.trans ((h4.pre (below_drew_alloc _ _)).trans h6)
    have S3 : Hid (Bs w3 B s3 (l ++ [UInt8.ofNat 8] ++ [UInt8.ofNat t.size] ++ t.toList)) := h5
    have HS3 : (fun w' : World => w'.cell? ⟨w.heap.size, 2, none⟩ = some (.string t)) w3 := (box4 ((h6.block (by have := h4.grown.size; rw [drew_alloc_size] at this; have := Z1.out; omega) (HN2.out)).trans ((h4.block (by have := Z1.out; rw [drew_alloc_size]; omega) (HN1.out)).trans (((below_drew_alloc w1 _).block _ (by have := Z1.out; omega)).trans B1.out)))).2.2.1
    refine ⟨fun _ => HS3, ?_⟩
    simp only [Act.put, List.setIfInBounds_toArray, List.set_cons_zero, List.set_cons_succ]
    refine Rg.Till.oneK (i := 10) (by kernel_rfl) rfl rfl fun K hK => ?_
    go_simp
    refine hK.out _ _ (fun h => absurd rfl h) ?_
    clear hK K
    refine Rg.Till.done (by kernel_rfl) ?_
    go_wp2_with fail
    go_ret
    refine ⟨s3, rfl, ?_, R3.out⟩
    simpa using S3.out
  by_cases k25 : kn = 25
  · subst k25
    have HE : Hid (octP (((25 : Nat) : Int), b, t, il) = UInt8.ofNat 25 :: UInt8.ofNat t.size :: t.toList) := rfl
    rw [HE.out]
    clear HE k3 k23
    have ev2 : ((UInt8.ofNat t.size).toNat : Int) = (t.size : Int) := byte_val (by omega)
    have em2 : (t.size : Int) % 256 = (t.size : Int) := by omega
    go_enter Try.func29, Try.ntmps29
    go_wp2_with (at_builtin; refine wpList_app _ rfl _ _ rfl B _ l [UInt8.ofNat 25] rfl ?d0 ⟨w.heap.size + 1, 0, none⟩ 1 rfl ?d1 ?d2 ?d3 ?_)
    case d0 => exact (HS.out.below (below_one _ _)).below (below_one _ _)
    case d1 => exact new_octets' _ _ _ _ _ (by simp) (by simp [cellsO])
    case d2 => simp; omega
    case d3 => simp; omega
    intro s1 w1 h1 h2
    have R1 : Hid (RowTo w w1 s s1) := (h2.pre (below_one _ _)).pre (below_one _ _)
    have S1 : Hid (Bs w1 B s1 (l ++ [UInt8.ofNat 25])) := h1
    have B1 : Hid (w1.heap[w.heap.size]? = some (.cells #[.int .i64 25, .int .u64 b, .string t, .slice ia il ic] 29 (0, 0))) := (h2.block (by simp; omega) HN.out).trans ((Below.heap_alloc _ _ _ (by simp)).trans (heap_alloc_new _ _))
    have Z1 : Hid (w.heap.size + 2 ≤ w1.heap.size) := by show _ ≤ _; have := h2.grown.size; simpa using this
    have PL1 : s1.ownBlock ≠ some w.heap.size := fun e => by rcases h2.place with q | q; exact HN.out (by rw [← q]; exact e); have := q _ e; simp at this; omega
    clear h1 h2
    obtain ⟨x0, x1, x2, x3, -⟩ := box4 B1.out
    go_wp2_with fail
    have HN1 : Hid (s1.ownBlock ≠ some w.heap.size) := PL1
    have HS1 : (fun w' : World => w'.cell? ⟨w.heap.size, 2, none⟩ = some (.string t)) w1.drew := x2
    clear x0 x1 x2 x3
    refine Rg.Till.region (fun w' => w'.cell? ⟨w.heap.size, 2, none⟩ = some (.string t)) 10 (by kernel_rfl) ?_
    show Rg.Till _ _ _ _ _ 11 (Array.replicate 11 false) _ _
    refine Rg.Till.take (i := 0) (v := (s1)) (some 23) rfl rfl (by kernel_rfl) (by kernel_rfl) (fun _ _ _ h => h) (by kernel_rfl) (by kernel_rfl) (Or.inl ⟨rfl, fun w' hS => ?_⟩) HS1 ?_
    · have y2 := hS; go_simp
    simp only [Act.put, List.setIfInBounds_toArray, List.set_cons_zero, List.set_cons_succ]
    refine Rg.Till.take (i := 1) (v := (.pointer (some ⟨w.heap.size, 2, none⟩))) (some 24) rfl rfl (by kernel_rfl) (by kernel_rfl) (fun _ _ _ h => h) (by kernel_rfl) (by kernel_rfl) (Or.inl ⟨rfl, fun w' hS => ?_⟩) HS1 ?_
    · have y2 := hS; go_simp
    simp only [Act.put, List.setIfInBounds_toArray, List.set_cons_zero, List.set_cons_succ]
    refine Rg.Till.take (i := 2) (v := (.string t)) (some 25) rfl rfl (by kernel_rfl) (by kernel_rfl) (fun _ _ _ h => h) (by kernel_rfl) (by kernel_rfl) (Or.inl ⟨rfl, fun w' hS => ?_⟩) HS1 ?_
    · have y2 := hS; go_simp
    simp only [Act.put, List.setIfInBounds_toArray, List.set_cons_zero, List.set_cons_succ]
    refine Rg.Till.take (i := 3) (v := (.int .i64 (t.size : Int))) (some 26) rfl rfl (by kernel_rfl) (by kernel_rfl) (fun _ _ _ h => h) (by kernel_rfl) (by kernel_rfl) (Or.inl ⟨rfl, fun w' hS => ?_⟩) HS1 ?_
    · have y2 := hS; go_simp
    simp only [Act.put, List.setIfInBounds_toArray, List.set_cons_zero, List.set_cons_succ]
    refine Rg.Till.take (i := 4) (v := (.int .u8 (t.size : Int))) (some 27) rfl rfl (by kernel_rfl) (by kernel_rfl) (fun _ _ _ h => h) (by kernel_rfl) (by kernel_rfl) (Or.inl ⟨rfl, fun w' hS => ?_⟩) HS1 ?_
    · have y2 := hS; go_simp; rw [IntKind.wrap_u8']; omega
    simp only [Act.put, List.setIfInBounds_toArray, List.set_cons_zero, List.set_cons_succ]
    refine Rg.Till.take (i := 7) (v := (.pointer (some ⟨w.heap.size, 2, none⟩))) (some 30) rfl rfl (by kernel_rfl) (by kernel_rfl) (fun _ _ _ h => h) (by kernel_rfl) (by kernel_rfl) (Or.inl ⟨rfl, fun w' hS => ?_⟩) HS1 ?_
    · have y2 := hS; go_simp
    simp only [Act.put, List.setIfInBounds_toArray, List.set_cons_zero, List.set_cons_succ]
    refine Rg.Till.take (i := 8) (v := (.string t)) (some 31) rfl rfl (by kernel_rfl) (by kernel_rfl) (fun _ _ _ h => h) (by kernel_rfl) (by kernel_rfl) (Or.inl ⟨rfl, fun w' hS => ?_⟩) HS1 ?_
    · have y2 := hS; go_simp
    simp only [Act.put, List.setIfInBounds_toArray, List.set_cons_zero, List.set_cons_succ]
    refine Rg.Till.oneK (i := 5) (by kernel_rfl) rfl rfl fun K hK => ?_
    go_simp
    refine hK.out _ _ (fun _ => keepc (below_one _ _) _ _ HS1) ?_
    clear hK K
    refine Rg.Till.one (i := 6) (by kernel_rfl) rfl rfl ?_
    refine op_app (d := some 29) rfl rfl _ _ rfl B s1 (l ++ [UInt8.ofNat 25]) [UInt8.ofNat t.size] rfl (S1.out.below (below_drew_alloc _ _)) ⟨w1.heap.size, 0, none⟩ 1 rfl (new_octets' w1.drew _ _ _ _ rfl (by simp [cellsO]; omega)) (by simp; omega) (by have := Z1.out; rw [drew_alloc_size]; omega) ?_
    intro s2 w2 h3 h4
    have HN2 : Hid (s2.ownBlock ≠ some w.heap.size) := fun e => by rcases h4.place with q | q; exact HN1.out (by rw [← q]; exact e); have := q _ e; rw [drew_alloc_size] at this; have := Z1.out; omega
    have HS2 : (fun w' : World => w'.cell? ⟨w.heap.size, 2, none⟩ = some (.string t)) w2 := (box4 ((h4.block (by have := Z1.out; rw [drew_alloc_size]; omega) (HN1.out)).trans (((below_drew_alloc w1 _).block _ (by have := Z1.out; omega)).trans B1.out))).2.2.1
    refine ⟨fun _ => HS2, ?_⟩
    simp only [Act.put, List.setIfInBounds_toArray, List.set_cons_zero, List.set_cons_succ]
    refine Rg.Till.one (i := 9) (by kernel_rfl) rfl rfl ?_
    refine op_apps (d := some 32) rfl _ _ rfl B s2 _ t rfl h3 rfl (by simp) (by simp; omega) (by have := h4.grown.size; rw [drew_alloc_size] at this; have := Z1.out; omega) ?_
    intro s3 w3 h5 h6
    have R3 : Hid (RowTo w w3 s s3) := R1.out.trans ((h4.pre (below_drew_alloc _ _)).trans h6)
    have S3 : Hid (Bs w3 B s3 (l ++ [UInt8.ofNat 25] ++ [UInt8.ofNat t.size] ++ t.toList)) := h5
    have HS3 : (fun w' : World => w'.cell? ⟨w.heap.size, 2, none⟩ = some (.string t)) w3 := (box4 ((h6.block (by have := h4.grown.size; rw [drew_alloc_size] at this; have := Z1.out; omega) (HN2.out)).trans ((h4.block (by have := Z1.out; rw [drew_alloc_size]; omega) (HN1.out)).trans (((below_drew_alloc w1 _).block _ (by have := Z1.out; omega)).trans B1.out)))).2.2.1
    refine ⟨fun _ => HS3, ?_⟩
    simp only [Act.put, List.setIfInBounds_toArray, List.set_cons_zero, List.set_cons_succ]
    refine Rg.Till.oneK (i := 10) (by kernel_rfl) rfl rfl fun K hK => ?_
    go_simp
    refine hK.out _ _ (fun h => absurd rfl h) ?_
    clear hK K
    refine Rg.Till.done (by kernel_rfl) ?_
    go_wp2_with fail
    go_ret
    refine ⟨s3, rfl, ?_, R3.out⟩
    simpa using S3.out
  have d3 : ((kn : Int) == 3) = false := by simp; omega
  have d4 : ((kn : Int) == 4) = false := by simp; omega
  have d8 : ((kn : Int) == 8) = false := by simp; omega
  have d25 : ((kn : Int) == 25) = false := by simp; omega
  have d23 : ((kn : Int) == 23) = false := by simp; omega
  have HE : Hid (octP ((kn : Int), b, t, il) = [UInt8.ofNat kn]) := by
    show _ = _
    unfold octP
    simp only [Int.toNat_natCast]
    rw [if_neg (by omega), if_neg (by omega), if_neg (by omega)]
  rw [HE.out]
  clear HE k3 k4 k8 k25 k23
  go_enter Try.func29, Try.ntmps29
  go_wp2_with (at_builtin; refine wpList_app _ rfl _ _ rfl B _ l [UInt8.ofNat kn] rfl ?d0 ⟨w.heap.size + 1, 0, none⟩ 1 rfl ?d1 ?d2 ?d3 ?_)
  case d0 => exact (HS.out.below (below_one _ _)).below (below_one _ _)
  case d1 => exact new_octets' _ _ _ _ _ (by simp) (by simp [cellsO]; omega)
  case d2 => simp; omega
  case d3 => simp; omega
  intro s1 w1 h1 h2
  have R1 : Hid (RowTo w w1 s s1) := (h2.pre (below_one _ _)).pre (below_one _ _)
  have S1 : Hid (Bs w1 B s1 (l ++ [UInt8.ofNat kn])) := h1
  have B1 : Hid (w1.heap[w.heap.size]? = some (.cells #[.int .i64 (kn : Int), .int .u64 b, .string t, .slice ia il ic] 29 (0, 0))) := (h2.block (by simp; omega) HN.out).trans ((Below.heap_alloc _ _ _ (by simp)).trans (heap_alloc_new _ _))
  have Z1 : Hid (w.heap.size + 2 ≤ w1.heap.size) := by show _ ≤ _; have := h2.grown.size; simpa using this
  have PL1 : s1.ownBlock ≠ some w.heap.size := fun e => by rcases h2.place with q | q; exact HN.out (by rw [← q]; exact e); have := q _ e; simp at this; omega
  clear h1 h2
  obtain ⟨x0, x1, x2, x3, -⟩ := box4 B1.out
  go_wp2_with fail
  go_ret
  exact ⟨s1, rfl, S1.out, R1.out⟩
end Go.Proofs.Ytnliokikcpnllaa
