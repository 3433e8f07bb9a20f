/-
  The program's Encode.
-/
import Derived.Test.YtnliokikcpnllaaExEncM
import Derived.Test.YtnliokikcpnllaaExCaught
namespace Go.Proofs.Ytnliokikcpnllaa
open Go.ChangeShapes Go.WideShapes Go.ChangeAt Go.RowKit Go.Deep
open Fl

attribute [local go_sem] Oper.semAt_some

/-- All but octets and variables of rows of octets. -/
def frO : Obj → Bool
  | .cells _ ty _ => !(ty == 5) && !(ty == 26)
  | _ => true

/-- What the loop keeps: the row in its variable P. -/
def EncI (w : World) (P : Nat) (l : List UInt8) (W : World) : Prop :=
  ∃ s, W.heap[P]? = some (.cells #[s] 26 (0, 0)) ∧ Bs W (P + 1) s l ∧ Below w.heap.size w W

theorem EncI.stay {w : World} {P : Nat} {l : List UInt8} {W W' : World} (hP : w.heap.size ≤ P) (h : EncI w P l W) (k : StayX (P + 1) W W') : EncI w P l W' := by
  obtain ⟨s, h1, h2, h3⟩ := h
  refine ⟨s, k.kp _ _ _ _ h1, ?_, ⟨k.os.trans h3.os, k.tape.trans h3.tape, k.output.trans h3.output, Nat.le_trans h3.size k.size, fun j hj => (k.old j (by omega)).trans (h3.block j hj)⟩⟩
  obtain ⟨q1, q2⟩ := h2
  refine ⟨q1, ?_⟩
  rcases q2 with q2 | ⟨g, cap, cur, hv, hg, hb, r⟩
  · exact Or.inl q2
  · exact Or.inr ⟨g, cap, cur, hv, hg, k.kp _ _ _ _ hb, r⟩

/-- The row's step in its variable. -/
theorem EncI.put {w : World} {P : Nat} {l l' : List UInt8} {W W1 : World} {s s' : Value} (hP : w.heap.size ≤ P) (h1 : W.heap[P]? = some (.cells #[s] 26 (0, 0))) (h2 : Bs W (P + 1) s l) (h3 : Below w.heap.size w W) (k : RowTo W W1 s s') (h4 : Bs W1 (P + 1) s' l') :
    EncI w P l' (W1.setCell ⟨P, 0, none⟩ s') ∧ KpX frO W (W1.setCell ⟨P, 0, none⟩ s') := by
  have hs : s.ownBlock ≠ some P := fun e => by have := (h2.base _ e).1; omega
  have hP1 : W1.heap[P]? = _ := (k.block (lt_of_block h1) hs).trans h1
  have hb1 := k.below (B := w.heap.size) h3.size (fun g hg => by have := (h2.base _ hg).1; omega)
  refine ⟨⟨s', ?_, ?_, (h3.trans hb1).setCell (by simp; omega) _⟩, ?_⟩
  · simp [World.setCell, Array.getElem?_modify, hP1]
  · exact ownsRow_same h4 fun g hg => Below.heap_setCell _ _ _ _ (by have := (h4.base g hg).1; show g ≠ P; omega)
  · intro j o hf hj
    have hjP : j ≠ P := by
      rintro rfl
      rw [h1] at hj
      cases hj
      simp [frO] at hf
    rw [Below.heap_setCell _ _ _ _ hjP]
    rw [k.block (lt_of_block hj) ?_]
    · exact hj
    · intro e
      obtain ⟨q1, q2⟩ := h2
      rcases q2 with ⟨rfl, _⟩ | ⟨g, cap, cur, rfl, hg, hb, r⟩
      · cases e
      · simp only [Value.ownBlock, Option.some.injEq] at e
        subst e
        rw [hb] at hj
        cases hj
        simp [frO] at hf

/-- What Encode answers. -/
def EncPost (n : Nat) (v : X n) (w : World) (e : Ending) (w' : World) : Prop :=
  Below w.heap.size w w' ∧ ((∃ er, pre stM n v 1 (0, 0) = .error er ∧ e = .returned (.tuple #[.slice none 0 0, .int .i64 er])) ∨ (∃ s' s, pre stM n v 1 (0, 0) = .ok s' ∧ e = .returned (.tuple #[s, .int .i64 0]) ∧ Bs w' w.heap.size s (encX n v)))

theorem stM_err {d : Int} {p : Nd4} {s : Nat × Int} {e : Int} (h : stM d p s = .error e) : e = 10 ∨ e = 3 ∨ e = 9 := by
  unfold stM at h
  split at h
  · cases h; omega
  · split at h
    · cases h; omega
    · split at h
      · cases h
      · cases h; omega

theorem preM_err (n : Nat) : ∀ (v : X n) (d : Int) (s : Nat × Int) (e : Int), pre stM n v d s = .error e → e = 10 ∨ e = 3 ∨ e = 9 := by
  induction n with
  | zero => intro v; exact v.elim
  | succ n ih =>
    rintro ⟨k, b, t, its⟩ d s e h
    cases h1 : stM d (k, b, t, its.length) s with
    | error e1 =>
      rw [pre_err h1] at h
      cases h
      exact stM_err h1
    | ok s1 =>
      rw [pre_ok h1] at h
      clear h1
      have key : ∀ (r : List (X n)) (s1 : Nat × Int), foldX (fun u s => pre stM n u (d + 1) s) r s1 = .error e → e = 10 ∨ e = 3 ∨ e = 9 := by
        intro r
        induction r with
        | nil => intro s1 h; simp only [foldX] at h; cases h
        | cons a r ihr =>
          intro s1 h
          simp only [foldX] at h
          cases h3 : pre stM n a (d + 1) s1 with
          | error e' => rw [h3] at h; cases h; exact ih _ _ _ _ h3
          | ok s2 => rw [h3] at h; exact ihr s2 h
      exact key its s1 h

set_option maxRecDepth 100000 in
set_option maxHeartbeats 3200000 in
theorem encodeX_any (n : Nat) (v : X n) (x : Value) (w : World) (h : LayX w n x v) : Calls Try.prog 13 #[x] w (EncPost n v w) := by
  obtain ⟨k, b, t, ia, il, ic, rfl⟩ := LayX.shape n h
  have HL : Hid (LayX w n (mkX k b t ia il ic) v) := h
  have HC : Hid (Calls Try.prog 18 #[mkX k b t ia il ic] (w.alloc (.cells #[.int .i64 k, .int .u64 b, .string t, .slice ia il ic] 29)) _) := checkX_any n v _ _ (LayX.below n h (below_one _ _))
  clear h
  have HP1 : Hid ((w.alloc (.cells #[.int .i64 k, .int .u64 b, .string t, .slice ia il ic] 29)).heap[w.heap.size]? = some (.cells #[.int .i64 k, .int .u64 b, .string t, .slice ia il ic] 29 (0, 0))) := heap_alloc_new _ _
  obtain ⟨x0, x1, x2, x3, -⟩ := box4 HP1.out
  cases hr : pre stM n v 1 (0, 0) with
  | error er =>
    have h0 : (er == 0) = false := by have := preM_err n v 1 (0, 0) er hr; simp; omega
    have HR : Hid (pre stM n v 1 (0, 0) = .error er) := hr
    rw [hr] at HC
    clear hr
    go_enter Try.func13, Try.ntmps13
    go_wp2_with (go_at_call 18; refine HC.out.mono ?_; simp only [msrX]; rintro e w1 ⟨rfl, hb1⟩)
    go_ret2
    exact ⟨nxt (below_one _ _) hb1, Or.inl ⟨er, HR.out, rfl⟩⟩
  | ok s' =>
    have HR : Hid (pre stM n v 1 (0, 0) = .ok s') := hr
    have HEN : Hid (pre stE n v 1 [] = .ok (encX n v)) := by
      show _ = _
      have := (enc_pre n v 1 (0, 0) s' [] hr (by simp)).1
      simpa using this
    rw [hr] at HC
    obtain ⟨c', d'⟩ := s'
    simp only [msrX] at HC
    clear hr
    refine calls_of_wpAt (n := 9) Try.func13 rfl ?_
    simp only [Try.ntmps13, List.size_toArray, List.length_cons, List.length_nil, Nat.reduceAdd, Nat.reduceSub, Array.replicate_succ, Array.replicate_zero, List.push_toArray, List.append_toArray, List.nil_append, List.cons_append]
    refine wpAt_seq (wpAt_of (n := 9) ?_)
    gi_wp2
    refine wpAt_seq (wpAt_of (n := 9) ?_)
    gi_wp2
    refine ⟨trivial, (callsIn_wide.2 HC.out).mono ?_⟩
    rintro e w1 ⟨rfl, hb1⟩
    have HB1 : Hid (Below w.heap.size w w1) := nxt (below_one _ _) hb1
    have HP : Hid (w1.heap[w.heap.size]? = some (.cells #[.int .i64 k, .int .u64 b, .string t, .slice ia il ic] 29 (0, 0))) := (hb1.block _ (lt_of_block HP1.out)).trans HP1.out
    clear hb1 HC HP1 x0 x1 x2 x3
    gi_wp2
    refine wpAt_seq (wpAt_of (n := 9) ?_)
    gi_wp2
    have HB2 : Hid (Below w.heap.size w (w1.alloc (.cells #[.slice none 0 0] 26))) := nxt HB1.out (below_one _ _)
    have HP2 : Hid ((w1.alloc (.cells #[.slice none 0 0] 26)).heap[w.heap.size]? = some (.cells #[.int .i64 k, .int .u64 b, .string t, .slice ia il ic] 29 (0, 0))) := ((below_one _ _).block _ (lt_of_block HP.out)).trans HP.out
    have HV2 : Hid ((w1.alloc (.cells #[.slice none 0 0] 26)).heap[w1.heap.size]? = some (.cells #[.slice none 0 0] 26 (0, 0))) := heap_alloc_new _ _
    obtain ⟨x0, x1, x2, x3, -⟩ := box4 HP2.out
    refine wpAt_seq (wpAt_seq (wpAt_of (n := 9) ?_))
    gi_wp2
    refine ⟨trivial, (callsIn_wide.2 (parts_fn k b t ia il ic _)).mono ?_⟩
    rintro e w3 ⟨rfl, hw3⟩
    have hsz2 : (w1.alloc (.cells #[.slice none 0 0] 26)).heap.size = w1.heap.size + 1 := by simp
    have H3 : Hid (EncI w w1.heap.size [] w3) := by
      rw [hw3]
      exact ⟨.slice none 0 0, ((below_one _ _).block _ (lt_of_block HV2.out)).trans HV2.out, Bs.nil _ _, nxt HB2.out (below_one _ _)⟩
    have HP3 : Hid (w3.heap[w1.heap.size + 1]? = some (.cells #[.int .i64 k, .int .u64 b, .string t, .slice ia il ic] 29 (0, 0))) := by
      show _ = _
      rw [hw3, ← hsz2]
      exact heap_alloc_new _ _
    have hsz3 : w3.heap.size = w1.heap.size + 2 := by rw [hw3]; simp
    have hPw := HB1.out.size
    rw [hsz2]
    clear hw3 x0 x1 x2 x3 HB2 HP2 HV2 HP hsz2
    gi_wp2
    refine wpAt_block ?_
    refine range_hand (fn0 := Try.f13) (fr := frO) (by intro cs; rfl) (by intro r; rfl) (by intro d; rfl) Try.func13 rfl (w1.heap.size + 1) rfl w n v k b t ia il ic HL.out HP3.out stE false
      stE_deep (EncI w w1.heap.size) (fun _ => True) [] (w1.heap.size + 1) (by omega) (fun s W W' h k => h.stay hPw k) (fun s W h => h.choose_spec.2.2) H3.out (fun _ => ⟨_, HEN.out⟩)
      (fun d k' b' t' ia' il' ic' q => { tmps := #[mkX k b t ia il ic, .pointer (some ⟨w.heap.size, 0, none⟩), .slice none 0 0, .int .i64 0, .int .i64 0, .pointer (some ⟨w1.heap.size, 0, none⟩), undef, .pointer (some ⟨q, 0, none⟩), mkX k b t ia il ic, .int .i64 0, .int .i64 0, .bool false, undef, mkX k b t ia il ic, .func (.func 41) #[] #[.pointer (some ⟨w1.heap.size + 1, 0, none⟩)], .int .i64 d, mkX k' b' t' ia' il' ic', undef, undef, undef, undef], defers := [] }) ?hassign ?hbody ?hdone ?hpan
    case hassign =>
      intro rl d k' b' t' ia' il' ic' W K hK
      gi_wp2
      exact hK
    case hbody =>
      intro rl l d m k' b' t' its ia' ic' q W hI hk hs hl hq hqs hce
      obtain ⟨l', hl'⟩ := hce rfl
      obtain ⟨hmay, hlen, hle⟩ := stE_ok hl'
      obtain ⟨x0, x1, x2, x3, -⟩ := box4 hq
      obtain ⟨ja, jc, ex, hfit, -⟩ := hl
      simp only [mkX, Value.agg.injEq, Array.mk.injEq, List.cons.injEq, and_true, Value.slice.injEq, true_and] at ex
      obtain ⟨rfl, rfl⟩ := ex
      obtain ⟨sv, h1, h2, h3⟩ := hI
      obtain ⟨a1, c1, es1⟩ := h2.shape
      subst es1
      obtain ⟨y0, yf0⟩ := cell_of h1 0
      simp at y0
      have HX : Hid (W.heap[w1.heap.size]? = some (.cells #[.slice a1 l.length c1] 26 (0, 0)) ∧ Bs W (w1.heap.size + 1) (.slice a1 l.length c1) l ∧ Below w.heap.size w W) := ⟨h1, h2, h3⟩
      have CC : Hid (Calls Try.prog 29 #[.slice a1 l.length c1, mkX k' b' t' ia' its.length ic'] W fun e w' => ∃ s', e = .returned s' ∧ Bs w' (w1.heap.size + 1) s' (l ++ octP (k', b', t', its.length)) ∧ RowTo W w' (.slice a1 l.length c1) s') := apart_any _ _ _ _ _ _ hfit hmay W _ _ _ (by have := lt_of_block h1; omega) h2 hlen
      have HLE : Hid (stE d (k', b', t', its.length) l = .ok (l ++ octP (k', b', t', its.length))) := by rw [← hle]; exact hl'
      clear hk hq hce hfit h1 h2 h3 hl' hmay hle
      gi_wp2
      refine ⟨trivial, (callsIn_wide.2 CC.out).mono ?_⟩
      rintro e W1 ⟨s2, rfl, hB2, hT2⟩
      obtain ⟨a2, c2, es2⟩ := hB2.shape
      subst es2
      obtain ⟨hI2, hK2⟩ := EncI.put hPw HX.out.1 HX.out.2.1 HX.out.2.2 hT2 hB2
      have HO : Hid (EncI w w1.heap.size (l ++ octP (k', b', t', its.length)) (W1.setCell ⟨w1.heap.size, 0, none⟩ (.slice a2 (l ++ octP (k', b', t', its.length)).length c2))) := hI2
      have HK : Hid (KpX frO W (W1.setCell ⟨w1.heap.size, 0, none⟩ (.slice a2 (l ++ octP (k', b', t', its.length)).length c2)) ∧ W.heap.size ≤ (W1.setCell ⟨w1.heap.size, 0, none⟩ (.slice a2 (l ++ octP (k', b', t', its.length)).length c2)).heap.size) := ⟨hK2, by have := hT2.grown.size; simpa [World.setCell] using this⟩
      have hsv : (Value.slice a1 l.length c1).ownBlock ≠ some w1.heap.size := fun e => by have := (HX.out.2.1.base _ e).1; omega
      have hV1 : W1.heap[w1.heap.size]? = _ := (hT2.block (lt_of_block HX.out.1) hsv).trans HX.out.1
      obtain ⟨z0, zf0⟩ := cell_of hV1 0
      simp at z0
      rw [List.length_append] at HO HK
      clear hI2 hK2 hB2 hT2 hV1 hsv x0 x1 x2 x3 y0 yf0
      gi_wp2
      exact ⟨HK.out.1, HK.out.2, _, HLE.out, HO.out⟩
    case hdone =>
      intro W l' hr' hI hd hk hs
      have hl : l' = encX n v := by
        have := hr'.symm.trans HEN.out
        cases this
        rfl
      subst hl
      obtain ⟨sv, h1, h2, h3⟩ := hI
      obtain ⟨a1, c1, es1⟩ := h2.shape
      subst es1
      have HX : Hid (Bs W (w1.heap.size + 1) (.slice a1 (encX n v).length c1) (encX n v) ∧ Below w.heap.size w W) := ⟨h2, h3⟩
      have HD : Hid (W.heap[w3.heap.size]? = some (.deferred (some []))) := hd
      obtain ⟨y0, yf0⟩ := cell_of h1 0
      simp at y0
      clear hr' hd hk h1 h2 h3 HEN
      refine wpAt_of (n := 9) ?_
      gi_wp2
      rw [hsz3] at HD
      refine leaves_one (by simp) HD.out ?_
      have hput : ∀ j, j ≠ (w1.heap.size + 2) → (W.putObj (w1.heap.size + 2) (.deferred none)).heap[j]? = W.heap[j]? := fun j hj => World.putObj_heap_other hj
      have hne : ∀ g, (Value.slice a1 (encX n v).length c1).ownBlock = some g → g ≠ (w1.heap.size + 2) := fun g hg e => by
        subst e
        obtain ⟨q1, q2⟩ := HX.out.1
        rcases q2 with ⟨e1, _⟩ | ⟨g', cap, cur, e1, hg', hb, r⟩
        · rw [e1] at hg; cases hg
        · rw [e1] at hg
          simp only [Value.ownBlock, Option.some.injEq] at hg
          subst hg
          rw [HD.out] at hb
          cases hb
      have hB : Bs (W.putObj (w1.heap.size + 2) (.deferred none)) w.heap.size (.slice a1 (encX n v).length c1) (encX n v) := (ownsRow_same HX.out.1 fun g hg => hput g (hne g hg)) |> fun h => Bs.up h fun g hg => by have := (HX.out.1.base g hg).1; omega
      exact ⟨.tuple #[.slice a1 (encX n v).length c1, .int .i64 0], by simp [results, Try.results13, go_sem], below_put HX.out.2 (by omega), Or.inr ⟨_, _, HR.out, rfl, hB⟩⟩
    case hpan =>
      intro W er hr' hI hd hk hs
      rw [HEN.out] at hr'
      cases hr'
end Go.Proofs.Ytnliokikcpnllaa
