/-
  The program's reader: items, one behind the other.
-/
import Derived.Test.YtclmlifhhfkagaaPkRd
namespace Go.Proofs.Ytclmlifhhfkagaa
open Go.ChangeShapes Go.WideShapes Go.ChangeAt Go.RowKit
open Fl

set_option maxRecDepth 100000 in
theorem keep_none (p : Nat) (a : Option Addr) (c : Nat) (bs : List UInt8) (s : RS) (w : World) (hr : RdAt w p a c bs s) (h : 512 < s.2) (v : Value) (k b : Int) (t : ByteArray) (ka : Option Addr) (kl kc : Nat) (ia : Option Addr) (il ic : Nat) :
    Calls Try.prog 92 #[.pointer (some ⟨p, 0, none⟩), v, mk k b t ka kl kc ia il ic] w fun e w' => e = .returned (.slice none 0 0) ∧ Below w.heap.size w w' := by
  obtain ⟨i, hi, _, hb⟩ := hr
  have hb' := (Below.heap_alloc w (.cells #[.int .i64 k, .int .u64 b, .string t, .slice ka kl kc, .slice ia il ic] 50) _ (lt_of_block hb)).trans hb
  obtain ⟨x0, x1, x2, -⟩ := rd_cells hb'
  have h' : (512 : Int) < (s.2 : Int) := by omega
  clear hb hb'
  go_enter Try.func92, Try.ntmps92
  go_wp2_with fail
  go_ret
  exact ⟨rfl, below_one _ _⟩

set_option maxRecDepth 100000 in
set_option maxHeartbeats 1600000 in
theorem keep_some (p : Nat) (a : Option Addr) (c : Nat) (bs : List UInt8) (s : RS) (w : World) (hr : RdAt w p a c bs s) (h : ¬ 512 < s.2) {n : Nat} (v : Value) (its : List (V n)) (H : Nat → Prop) (hL : OwnL w n v its H) (u : V n) (F : Nat → Prop) (y : Value) (ho : Own w n y u F)
    (hF : ∀ b, F b → ¬ H b) (hH : ∀ b, H b → b < w.heap.size) (hFl : ∀ b, F b → b < w.heap.size) (hlen : its.length ≤ 32) :
    Calls Try.prog 92 #[.pointer (some ⟨p, 0, none⟩), v, y] w fun e w' => ∃ v', e = .returned v' ∧ OwnL w' n v' (its ++ [u]) (fun b => H b ∨ F b ∨ v'.ownBlock = some b) ∧ w.grownBy w' v.ownBlock ∧ (v'.ownBlock = v.ownBlock ∨ ∀ g, v'.ownBlock = some g → w.heap.size ≤ g) := by
  obtain ⟨k, b, t, ka, kl, kc, ia, il, ic, rfl⟩ := Lay.shape n (Own.lay n ho)
  obtain ⟨i, hi, _, hb⟩ := hr
  have hb' := (Below.heap_alloc w (.cells #[.int .i64 k, .int .u64 b, .string t, .slice ka kl kc, .slice ia il ic] 50) _ (lt_of_block hb)).trans hb
  obtain ⟨x0, x1, x2, -⟩ := rd_cells hb'
  have h' : ¬ (512 : Int) < (s.2 : Int) := by omega
  have HL : Hid (OwnL w n v its H) := hL
  have HO : Hid (Own w n (mk k b t ka kl kc ia il ic) u F) := ho
  have HF : Hid (∀ b, F b → ¬ H b) := hF
  have HH : Hid (∀ b, H b → b < w.heap.size) := hH
  have HFl : Hid (∀ b, F b → b < w.heap.size) := hFl
  clear hb hb' h hL ho hF hH hFl
  go_enter Try.func92, Try.ntmps92
  go_wp2_with (at_builtin; refine wpList_push _ rfl _ _ rfl v its H rfl ?d0 u F (.int .i64 k) (.int .u64 b) (.string t) (.slice ka kl kc) (.slice ia il ic) ?d1 HF.out ?d2 ?d3 ⟨w.heap.size + 1, 0, none⟩ 1 rfl ?d4 ?d5 ?_)
  case d0 => exact HL.out.same fun b hb => by rw [Below.heap_alloc _ _ _ (by have := HH.out b hb; simp; omega), Below.heap_alloc _ _ _ (HH.out b hb)]
  case d1 => exact HO.out.same n fun b hb => by rw [Below.heap_alloc _ _ _ (by have := HFl.out b hb; simp; omega), Below.heap_alloc _ _ _ (HFl.out b hb)]
  case d2 => intro b hb; have := HH.out b hb; simp; omega
  case d3 => intro b hb; have := HFl.out b hb; simp; omega
  case d5 => omega
  · intro v' w' h1 h2 h3
    have H1 : Hid (OwnL w' n v' (its ++ [u]) (fun b => H b ∨ F b ∨ v'.ownBlock = some b)) := h1
    have G2 : Hid (w.grownBy w' v.ownBlock) := ⟨h2.os, h2.tape, h2.output, by have := h2.size; (try simp at this); omega, fun k hk hn => by rw [h2.block k (by first | omega | (simp; omega)) hn, Below.heap_alloc _ _ _ (by first | omega | (simp; omega)), Below.heap_alloc _ _ _ hk]⟩
    have P3 : Hid (v'.ownBlock = v.ownBlock ∨ ∀ g, v'.ownBlock = some g → w.heap.size ≤ g) := h3.imp id fun e g hg => by have := e g hg; (try simp at this); omega
    clear h1 h2 h3
    go_wp2_with fail
    go_ret
    exact ⟨v', rfl, H1.out, G2.out, P3.out⟩
end Go.Proofs.Ytclmlifhhfkagaa
