/-
  The page's reader: a value, at every depth.
-/
import Derived.Test.YtclmlifhhfkagaaPkRText
namespace Go.Proofs.Ytclmlifhhfkagaa
open Go.ChangeShapes Go.WideShapes Go.ChangeAt Go.RowKit
open Fl

theorem val_all : ∀ n, ValAt n
  | 0 => fun s p a c bs d w h ho hb h1 hd => by
    obtain ⟨l, q⟩ := s
    exact rvalue_deep p a c bs l q d w h ho hb (by omega)
  | n + 1 => fun s p a c bs d w h ho hb h1 hd => by
    obtain ⟨l, q⟩ := s
    have ih := val_all n
    have hd8 : d ≤ 8 := by omega
    cases hl : l with
    | nil => rw [← hl]; exact rvalue_short p a c bs l q d w h ho hb n hd8 hl
    | cons o r =>
      rw [← hl]
      by_cases h6 : 6 < o.toNat
      · exact rvalue_big p a c bs l q d w h ho hb n hd8 o r hl h6
      obtain e | e | e | e | e | e | e : o.toNat = 0 ∨ o.toNat = 1 ∨ o.toNat = 2 ∨ o.toNat = 3 ∨ o.toNat = 4 ∨ o.toNat = 5 ∨ o.toNat = 6 := by omega
      · exact rvalue_zero p a c bs l q d w h ho hb n hd8 o r hl e
      · exact rvalue_bool1 p a c bs l q d w h ho hb n hd8 o r hl e
      · exact rvalue_bool2 p a c bs l q d w h ho hb n hd8 o r hl e
      · exact rvalue_num p a c bs l q d w h ho hb n hd8 o r hl e
      · cases hr : r with
        | nil => exact rvalue_text0 p a c bs l q d w h ho hb n hd8 o r hl e hr
        | cons k r1 =>
          by_cases hk : 128 < k.toNat
          · exact rvalue_text1 p a c bs l q d w h ho hb n hd8 o r hl e k r1 hr hk
          by_cases h2 : r1.length < k.toNat
          · exact rvalue_text2 p a c bs l q d w h ho hb n hd8 o r hl e k r1 hr hk h2
          · exact rvalue_text3 p a c bs l q d w h ho hb n hd8 o r hl e k r1 hr hk (by omega)
      · exact rvalue_list p a c bs l q d w h ho hb n ih h1 (by omega) o r hl e
      · exact rvalue_rec p a c bs l q d w h ho hb n ih h1 (by omega) o r hl e

end Go.Proofs.Ytclmlifhhfkagaa
