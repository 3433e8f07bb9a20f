/-
  The page's put: a field more, its key among the keys.
-/
import Derived.Test.YtkjiiggboblioaaVaRKeyM
namespace Go.Proofs.Ytkjiiggboblioaa
open Go.ChangeShapes Go.WideShapes Go.ChangeAt Go.RowKit
open Fl

theorem All.drew {w W : World} {a b c d : Obj} {n : Nat} {kv : Value} {kacc : List ByteArray} {iv : Value} {iacc : List (V n)} {P : Nat → Prop} (h : All w W a b c d kv kacc iv iacc P) : All w W.drew a b c d kv kacc iv iacc P := h.grow ((Below.refl _ _).drew)

/-- Laid, if the place lies behind. -/
def LdOk (ld : Bool) (r m : Nat) : Prop := (ld = true → r < m) ∧ (ld = false → m ≤ r)
/-- Whose the items' blocks are. -/
def LowP (P : Nat → Prop) (G : Nat → Nat → Prop) (Fx : Nat → Prop) (m : Nat) (ld : Bool) : Prop := ∀ g, P g → (∃ j, j < m ∧ G j g) ∨ (ld = true ∧ Fx g)
theorem LowP.next {P : Nat → Prop} {G : Nat → Nat → Prop} {Fx : Nat → Prop} {m : Nat} {ld : Bool} (h : LowP P G Fx m ld) : LowP (fun g => P g ∨ G m g) G Fx (m + 1) ld := by
  rintro g (q | q)
  · rcases h g q with ⟨j, hj, hg2⟩ | q
    · exact Or.inl ⟨j, by omega, hg2⟩
    · exact Or.inr q
  · exact Or.inl ⟨m, by omega, q⟩
theorem LowP.laid {P : Nat → Prop} {G : Nat → Nat → Prop} {Fx : Nat → Prop} {m : Nat} (h : LowP P G Fx m false) : LowP (fun g => P g ∨ Fx g) G Fx m true := by
  rintro g (q | q)
  · rcases h g q with q | ⟨q, -⟩
    · exact Or.inl q
    · cases q
  · exact Or.inr ⟨rfl, q⟩

set_option maxRecDepth 100000 in
set_option maxHeartbeats 12800000 in
theorem rput_key {n : Nat} (b : Int) (t : ByteArray) (ks : List ByteArray) (its : List (V n)) (key : ByteArray) (ix : Int) (x : V n) (xv yv : Value) (F Fx : Nat → Prop) (w : World) (ho : Own w (n + 1) xv (5, b, t, ks, its) F) (hx : Own w n yv x Fx) (hF : ∀ b, F b → b < w.heap.size) (hFx : ∀ b, Fx b → b < w.heap.size ∧ ¬ F b)
    (hup : Up ks) (hil : its.length = ks.length) (hsx : -9223372036854775808 ≤ ix ∧ ix ≤ 9223372036854775807) (hn : ks[lb ks key]? ≠ some key) (hk : keyB key = true) (hz : key.size ≤ 140737488351232) (hl : its.length < 32) :
    Calls Try.prog 30 #[xv, .agg #[.bool true, .string key, .int .i64 ix], yv] w (PutPost (n := n) w F Fx (0, (5, b, t, ins ks (lb ks key) key, ins its (lb ks key) x))) := by
  obtain ⟨ka, kc, ia, ic, G, rfl, hfit, hks, hS, hI, hGF, hGd⟩ := own_cells ho
  obtain ⟨k5, b5, t5, ka5, kl5, kc5, ia5, il5, ic5, rfl⟩ := Lay.shape n (Own.lay n hx)
  have HPL : Hid (∀ W, Below w.heap.size w W → Calls Try.prog 16 #[mk 5 b t ka ks.length kc ia its.length ic, .agg #[.bool true, .string key, .int .i64 ix]] W fun e w' => e = .returned (.tuple #[.int .i64 (-1), .int .i64 71]) ∧ Below W.heap.size W w') := fun W hb => by
    have h := place_any 5 b t ka kc ia its.length ic ks (true, key, ix) W (fun _ => hup) (LayS.below hS hb) hfit.2.2.2.2.2.1 hsx hfit.2.2.2.2.2.2.2.2
    have e : plc 5 ks its.length (true, key, ix) = (71, 0) := by simp [plc, hn]
    rw [e] at h
    exact h
  have CK : Hid (∀ W, Calls Try.prog 40 #[.string key] W fun e w' => e = .returned (.bool true) ∧ w' = W) := fun W => by rw [← hk]; exact rkey_any key W hz
  have hl2 : ¬ (32 : Int) ≤ (its.length : Int) := by omega
  have HOX : Hid (Own w n (mk k5 b5 t5 ka5 kl5 kc5 ia5 il5 ic5) x Fx) := hx
  have HIN : Hid ((∀ b, F b → b < w.heap.size) ∧ (∀ b, Fx b → b < w.heap.size ∧ ¬ F b) ∧ (∀ i b, i < its.length → G i b → F b) ∧ ∀ i j b, i < its.length → j < its.length → G i b → G j b → i = j) := ⟨hF, hFx, hGF, hGd⟩
  have HFIT : Hid (Fit 5 b t ks.length kc its.length ic ∧ (∀ s ∈ ks, s.size ≤ 140737488351232) ∧ key.size ≤ 140737488351232) := ⟨hfit, hks, hz⟩
  have HS : Hid (LayS w ka ks) := hS
  have HE : Hid (its.length = ks.length) := hil
  have HI : Hid _ := hI
  have HLO : Hid (∀ m s, m < lb ks key → ks[m]? = some s → Op.bytesLess s.toList key.toList = true) := fun m s => lb_low ks key m s
  have HAT : Hid (∀ s, ks[lb ks key]? = some s → Op.bytesLess s.toList key.toList = false ∧ (s.toList == key.toList) = false) := fun s hs => ⟨lb_at ks key s hs, toList_beq_false fun e => hn (by rw [hs, e])⟩
  have hr := lb_le ks key
  generalize lb ks key = r at *
  clear hil hl hS hI hup hsx ho hx hF hFx hGF hGd hfit hks hn hk hz
  go_enter Try.func30, Try.ntmps30
  go_wp2_with fail
  obtain ⟨FN, BN, SN⟩ := four_new w (.cells #[.int .i64 5, .int .u64 b, .string t, .slice ka ks.length kc, .slice ia its.length ic] 26 (0, 0)) (.cells #[.bool true, .string key, .int .i64 ix] 42 (0, 0)) (.cells #[.int .i64 k5, .int .u64 b5, .string t5, .slice ka5 kl5 kc5, .slice ia5 il5 ic5] 26 (0, 0)) (.cells #[.int .i64 0, .int .u64 0, .string ⟨#[]⟩, .slice none 0 0, .slice none 0 0] 26 (0, 0))
  refine (HPL.out _ BN).mono ?_
  rintro e w1 ⟨rfl, hb1⟩
  have A0 : Hid (All (n := n) w w1 (.cells #[.int .i64 5, .int .u64 b, .string t, .slice ka ks.length kc, .slice ia its.length ic] 26 (0, 0)) (.cells #[.bool true, .string key, .int .i64 ix] 42 (0, 0)) (.cells #[.int .i64 k5, .int .u64 b5, .string t5, .slice ka5 kl5 kc5, .slice ia5 il5 ic5] 26 (0, 0)) (.cells #[.int .i64 0, .int .u64 0, .string ⟨#[]⟩, .slice none 0 0, .slice none 0 0] 26 (0, 0)) (.slice none 0 0) [] (.slice none 0 0) [] (fun _ => False)) := All.start (nxt BN hb1) (FN.below hb1 (by rw [SN]; omega)) (by rw [← SN]; exact hb1.size)
  clear FN BN SN hb1 HPL
  obtain ⟨x0, x1, x2, x3, x4, -⟩ := box_cells A0.out.four.one
  have s1 : w1.cell? ⟨w.heap.size + 1, 1, none⟩ = some (.string key) := by simp only [World.cell?, A0.out.four.two]; rfl
  go_wp2_with (go_at_call 40; refine (CK.out _).mono ?_; rintro e w2 ⟨rfl, rfl⟩)
  clear x0 x1 x2 x3 x4 s1 CK
  go_loopw [10, 11, 12, 13] (fun v10 v11 v12 v13 wr => ∃ (m : Nat) (ld : Bool) (kacc : List ByteArray) (iacc : List (V n)) (P : Nat → Prop), m ≤ ks.length ∧ v13 = .int .i64 m ∧ v12 = .bool ld ∧ Hid (All (n := n) w wr (.cells #[.int .i64 5, .int .u64 b, .string t, .slice ka ks.length kc, .slice ia its.length ic] 26 (0, 0)) (.cells #[.bool true, .string key, .int .i64 ix] 42 (0, 0)) (.cells #[.int .i64 k5, .int .u64 b5, .string t5, .slice ka5 kl5 kc5, .slice ia5 il5 ic5] 26 (0, 0)) (.cells #[.int .i64 0, .int .u64 0, .string ⟨#[]⟩, .slice none 0 0, .slice none 0 0] 26 (0, 0)) v10 kacc v11 iacc P) ∧ Hid (Built ks kacc m r key ld ∧ Built its iacc m r x ld) ∧ Hid (LdOk ld r m) ∧ Hid (LowP P G Fx m ld)) (fun _ _ _ v13 _ => ks.length - (intOf v13).toNat)
  case atStart => exact ⟨0, false, [], [], fun _ => False, Nat.zero_le _, rfl, rfl, A0.out, ⟨(by unfold Built; simp), (by unfold Built; simp)⟩, ⟨(fun h => by cases h), fun _ => Nat.zero_le _⟩, fun _ h => h.elim⟩
  case round =>
    obtain ⟨m, ld, kacc, iacc, P, hm, rfl, rfl, HA, HB, HR, HP⟩ := hrel
    have HBL : Hid (ks.length < 32) := by show _ < _; have := HE.out; omega
    by_cases hlt : m < ks.length
    · have hm1 : (m : Int) < (ks.length : Int) := by omega
      have hm2 : (m : Int) < (its.length : Int) := by have := HE.out; omega
      have hmi : m < its.length := by have := HE.out; omega
      obtain ⟨gk, ok, rfl, r1, hzk⟩ := HS.out m ks[m] (by simp [hlt])
      obtain ⟨gi, k6, b6, t6, ka6, kl6, kc6, ia6, il6, ic6, rfl, c0, c1, c2, c3, c4, hO⟩ := HI.out m its[m] (by simp [hmi])
      have HKM : Hid (ks[m]? = some ks[m]) := List.getElem?_eq_getElem hlt
      have HUM : Hid (its[m]? = some its[m]) := List.getElem?_eq_getElem hmi
      generalize ks[m] = km at *
      generalize its[m] = um at *
      have HO6 : Hid (Own w n (mk k6 b6 t6 ka6 kl6 kc6 ia6 il6 ic6) um (G m)) := hO
      have HS5 : Hid (∀ W, Four w W (.cells #[.int .i64 5, .int .u64 b, .string t, .slice (some ⟨gk, ok, none⟩) ks.length kc, .slice (some ⟨gi, 0, none⟩) its.length ic] 26 (0, 0)) (.cells #[.bool true, .string key, .int .i64 ix] 42 (0, 0)) (.cells #[.int .i64 k5, .int .u64 b5, .string t5, .slice ka5 kl5 kc5, .slice ia5 il5 ic5] 26 (0, 0)) (.cells #[.int .i64 0, .int .u64 0, .string ⟨#[]⟩, .slice none 0 0, .slice none 0 0] 26 (0, 0)) → Below w.heap.size w W → (W.cell? ⟨w.heap.size, 3, none⟩ = some (.slice (some ⟨gk, ok, none⟩) ks.length kc) ∧ W.cell? ⟨w.heap.size, 4, none⟩ = some (.slice (some ⟨gi, 0, none⟩) its.length ic) ∧ W.cell? ⟨gk, ok + m, none⟩ = some (.string km) ∧ W.cell? ⟨gi, m * 5, none⟩ = some (.int .i64 k6) ∧ W.cell? ⟨gi, m * 5 + 1, none⟩ = some (.int .u64 b6) ∧ W.cell? ⟨gi, m * 5 + 2, none⟩ = some (.string t6) ∧ W.cell? ⟨gi, m * 5 + 3, none⟩ = some (.slice ka6 kl6 kc6) ∧ W.cell? ⟨gi, m * 5 + 4, none⟩ = some (.slice ia6 il6 ic6))) := fun W h4 hb => by
        obtain ⟨z0, z1, z2, z3, z4, -⟩ := box_cells h4.one
        exact ⟨z3, z4, keepc hb _ _ r1, keepc hb _ _ c0, keepc hb _ _ c1, keepc hb _ _ c2, keepc hb _ _ c3, keepc hb _ _ c4⟩
      have hcur := HA.out
      clear HA r1 c0 c1 c2 c3 c4 hO hlt
      have X3 := (box_cells hcur.four.one).2.2.2.1
      have S1 : wr.cell? ⟨w.heap.size + 1, 1, none⟩ = some (.string key) := by simp only [World.cell?, hcur.four.two]; rfl
      have R1 := (HS5.out wr hcur.four hcur.below).2.2.1
      have HGM : Hid (∀ j g, j < m → G m g → ¬ G j g) := fun j g hj h1 h2 => by have := HIN.out.2.2.2 m j g hmi (by omega) h1 h2; omega
      have HGF : Hid (∀ g, G m g → g < w.heap.size ∧ ¬ Fx g) := fun g hg => ⟨HIN.out.1 g (HIN.out.2.2.1 m g hmi hg), fun e => (HIN.out.2.1 g e).2 (HIN.out.2.2.1 m g hmi hg)⟩
      have HMI : Hid (m < its.length) := hmi
      cases ld with
      | true =>
        have HR2 : Hid (LdOk true r (m + 1)) := ⟨fun _ => by have := HR.out.1 rfl; omega, fun h => by cases h⟩
        go_wp2_with fail
        go_quiet (fail)
        clear X3 S1 R1
        replace hcur := hcur.grow (Below_drewN wr.heap.size wr nq)
        generalize wr.drewN nq = U at *
        go_wp2_with fail
        have HLK : Hid (kacc.length ≤ 33 ∧ iacc.length ≤ 33) := ⟨by have h1 := HB.out.1.length hr; have h2 := HBL.out; omega, by have h1 := HB.out.2.length (by rw [HE.out]; exact hr); have h2 := HE.out; have h3 := HBL.out; omega⟩
        have HKL : Hid (∀ g, _ = some g → g < U.heap.size) := hcur.klt
        have HIL : Hid (∀ g, _ = some g → g < U.heap.size) := hcur.ilt
        have HFU : Hid (∀ g, G m g → g < w.heap.size ∧ ¬ P g) := fun g hg => ⟨(HGF.out g hg).1, fun e => by
          rcases HP.out g e with ⟨j, hj, hg2⟩ | ⟨-, hfx⟩
          · exact HGM.out j g hj hg hg2
          · exact (HGF.out g hg).2 hfx⟩
        go_region_held3 (fun w' => (w'.cell? ⟨w.heap.size, 3, none⟩ = some (.slice (some ⟨gk, ok, none⟩) ks.length kc) ∧ w'.cell? ⟨w.heap.size, 4, none⟩ = some (.slice (some ⟨gi, 0, none⟩) its.length ic) ∧ w'.cell? ⟨gk, ok + m, none⟩ = some (.string km) ∧ w'.cell? ⟨gi, m * 5, none⟩ = some (.int .i64 k6) ∧ w'.cell? ⟨gi, m * 5 + 1, none⟩ = some (.int .u64 b6) ∧ w'.cell? ⟨gi, m * 5 + 2, none⟩ = some (.string t6) ∧ w'.cell? ⟨gi, m * 5 + 3, none⟩ = some (.slice ka6 kl6 kc6) ∧ w'.cell? ⟨gi, m * 5 + 4, none⟩ = some (.slice ia6 il6 ic6))) ((first | exact HS5.out _ hcur.drew.four hcur.drew.below | exact HS5.out _ (hcur.alloc _).drew.four (hcur.alloc _).drew.below | exact HS5.out _ ((hcur.alloc _).alloc _).drew.four ((hcur.alloc _).alloc _).drew.below | exact HS5.out _ hcur.four hcur.below | exact HS5.out _ (hcur.alloc _).four (hcur.alloc _).below | exact HS5.out _ ((hcur.alloc _).alloc _).four ((hcur.alloc _).alloc _).below)) (first
        | (refine step_allK rfl _ _ rfl rfl (by first | exact hcur.drew | exact (hcur.alloc _).drew | exact ((hcur.alloc _).alloc _).drew | exact hcur | exact (hcur.alloc _) | exact ((hcur.alloc _).alloc _)) km _ _ rfl (by first | exact (blk_new _ _ _ (by simp)) | exact ((Below.heap_alloc _ _ _ (by first | (simp; done) | (simp; omega))).trans (blk_new _ _ _ (by simp))) | exact (hkpI _ (by first | (simp; done) | (simp; omega)) (fun e => absurd (HIL.out _ e) (by omega))).trans (blk_new _ _ _ (by simp)) | exact (hkpI _ (by first | (simp; done) | (simp; omega)) (fun e => absurd (HIL.out _ e) (by omega))).trans ((Below.heap_alloc _ _ _ (by first | (simp; done) | (simp; omega))).trans (blk_new _ _ _ (by simp)))) (by have := HLK.out.1; omega) ?_; intro kv' WK hcur hkpK)
        | (refine step_allI rfl _ _ rfl rfl (by first | exact hcur.drew | exact (hcur.alloc _).drew | exact ((hcur.alloc _).alloc _).drew | exact hcur | exact (hcur.alloc _) | exact ((hcur.alloc _).alloc _)) um (G m) (.int .i64 k6) (.int .u64 b6) (.string t6) (.slice ka6 kl6 kc6) (.slice ia6 il6 ic6) HO6.out HFU.out _ _ rfl (by first | exact (blk_new _ _ _ (by simp)) | exact ((Below.heap_alloc _ _ _ (by first | (simp; done) | (simp; omega))).trans (blk_new _ _ _ (by simp))) | exact (hkpK _ (by first | (simp; done) | (simp; omega)) (fun e => absurd (HKL.out _ e) (by omega))).trans (blk_new _ _ _ (by simp)) | exact (hkpK _ (by first | (simp; done) | (simp; omega)) (fun e => absurd (HKL.out _ e) (by omega))).trans ((Below.heap_alloc _ _ _ (by first | (simp; done) | (simp; omega))).trans (blk_new _ _ _ (by simp)))) (by have := HLK.out.2; omega) ?_; intro iv' WI hcur hkpI))
        all_goals
          go_wp2_with fail
          go_roundw
          case rel => exact ⟨m + 1, true, _, _, _, by omega, by go_num, rfl, hcur, ⟨HB.out.1.next HKM.out, HB.out.2.next HUM.out⟩, HR2.out, HP.out.next⟩
          case measure => simp [intOf]; omega
      | false =>
        by_cases hmr : m = r
        · subst hmr
          obtain ⟨hb1, hb2⟩ := HAT.out km HKM.out
          have HFX : Hid (∀ g, Fx g → g < w.heap.size ∧ ¬ P g) := fun g hg => ⟨(HIN.out.2.1 g hg).1, fun e => by
            rcases HP.out g e with ⟨j, hj, hg2⟩ | ⟨q, -⟩
            · exact (HIN.out.2.1 g hg).2 (HIN.out.2.2.1 j g (by have := HMI.out; omega) hg2)
            · cases q⟩
          have HS3 : Hid (∀ W, Four w W (.cells #[.int .i64 5, .int .u64 b, .string t, .slice (some ⟨gk, ok, none⟩) ks.length kc, .slice (some ⟨gi, 0, none⟩) its.length ic] 26 (0, 0)) (.cells #[.bool true, .string key, .int .i64 ix] 42 (0, 0)) (.cells #[.int .i64 k5, .int .u64 b5, .string t5, .slice ka5 kl5 kc5, .slice ia5 il5 ic5] 26 (0, 0)) (.cells #[.int .i64 0, .int .u64 0, .string ⟨#[]⟩, .slice none 0 0, .slice none 0 0] 26 (0, 0)) → Below w.heap.size w W → (W.cell? ⟨w.heap.size + 1, 1, none⟩ = some (.string key) ∧ W.cell? ⟨w.heap.size + 1 + 1, 0, none⟩ = some (.int .i64 k5) ∧ W.cell? ⟨w.heap.size + 1 + 1, 1, none⟩ = some (.int .u64 b5) ∧ W.cell? ⟨w.heap.size + 1 + 1, 2, none⟩ = some (.string t5) ∧ W.cell? ⟨w.heap.size + 1 + 1, 3, none⟩ = some (.slice ka5 kl5 kc5) ∧ W.cell? ⟨w.heap.size + 1 + 1, 4, none⟩ = some (.slice ia5 il5 ic5))) := fun W h4 _ => by
            obtain ⟨z0, z1, z2, z3, z4, -⟩ := box_cells h4.three
            exact ⟨by simp only [World.cell?, h4.two]; rfl, z0, z1, z2, z3, z4⟩
          go_wp2_with fail
          go_quiet (fail)
          clear X3 S1 R1 hb1 hb2
          replace hcur := hcur.grow (Below_drewN wr.heap.size wr nq)
          generalize wr.drewN nq = U at *
          go_upto_region 23 with fail
          go_cut [10, 11] from 69 to 112 (fun v10 v11 wc => ∃ (kacc : List ByteArray) (iacc : List (V n)) (P : Nat → Prop), Hid (All (n := n) w wc (.cells #[.int .i64 5, .int .u64 b, .string t, .slice (some ⟨gk, ok, none⟩) ks.length kc, .slice (some ⟨gi, 0, none⟩) its.length ic] 26 (0, 0)) (.cells #[.bool true, .string key, .int .i64 ix] 42 (0, 0)) (.cells #[.int .i64 k5, .int .u64 b5, .string t5, .slice ka5 kl5 kc5, .slice ia5 il5 ic5] 26 (0, 0)) (.cells #[.int .i64 0, .int .u64 0, .string ⟨#[]⟩, .slice none 0 0, .slice none 0 0] 26 (0, 0)) v10 kacc v11 iacc P) ∧ Hid (Built ks kacc m m key true ∧ Built its iacc m m x true) ∧ Hid (LowP P G Fx m true))
          case first =>
            have HLK : Hid (kacc.length ≤ 33 ∧ iacc.length ≤ 33) := ⟨by have h1 := HB.out.1.length hr; have h2 := HBL.out; omega, by have h1 := HB.out.2.length (by rw [HE.out]; exact hr); have h2 := HE.out; have h3 := HBL.out; omega⟩
            have HKL : Hid (∀ g, _ = some g → g < U.heap.size) := hcur.klt
            have HIL : Hid (∀ g, _ = some g → g < U.heap.size) := hcur.ilt
            go_region_held3 (fun w' => (w'.cell? ⟨w.heap.size + 1, 1, none⟩ = some (.string key) ∧ w'.cell? ⟨w.heap.size + 1 + 1, 0, none⟩ = some (.int .i64 k5) ∧ w'.cell? ⟨w.heap.size + 1 + 1, 1, none⟩ = some (.int .u64 b5) ∧ w'.cell? ⟨w.heap.size + 1 + 1, 2, none⟩ = some (.string t5) ∧ w'.cell? ⟨w.heap.size + 1 + 1, 3, none⟩ = some (.slice ka5 kl5 kc5) ∧ w'.cell? ⟨w.heap.size + 1 + 1, 4, none⟩ = some (.slice ia5 il5 ic5))) ((first | exact HS3.out _ hcur.drew.four hcur.drew.below | exact HS3.out _ (hcur.alloc _).drew.four (hcur.alloc _).drew.below | exact HS3.out _ ((hcur.alloc _).alloc _).drew.four ((hcur.alloc _).alloc _).drew.below | exact HS3.out _ hcur.four hcur.below | exact HS3.out _ (hcur.alloc _).four (hcur.alloc _).below | exact HS3.out _ ((hcur.alloc _).alloc _).four ((hcur.alloc _).alloc _).below)) (first
            | (refine step_allK rfl _ _ rfl rfl (by first | exact hcur.drew | exact (hcur.alloc _).drew | exact ((hcur.alloc _).alloc _).drew | exact hcur | exact (hcur.alloc _) | exact ((hcur.alloc _).alloc _)) key _ _ rfl (by first | exact (blk_new _ _ _ (by simp)) | exact ((Below.heap_alloc _ _ _ (by first | (simp; done) | (simp; omega))).trans (blk_new _ _ _ (by simp))) | exact (hkpI _ (by first | (simp; done) | (simp; omega)) (fun e => absurd (HIL.out _ e) (by omega))).trans (blk_new _ _ _ (by simp)) | exact (hkpI _ (by first | (simp; done) | (simp; omega)) (fun e => absurd (HIL.out _ e) (by omega))).trans ((Below.heap_alloc _ _ _ (by first | (simp; done) | (simp; omega))).trans (blk_new _ _ _ (by simp)))) (by have := HLK.out.1; omega) ?_; intro kv' WK hcur hkpK)
            | (refine step_allI rfl _ _ rfl rfl (by first | exact hcur.drew | exact (hcur.alloc _).drew | exact ((hcur.alloc _).alloc _).drew | exact hcur | exact (hcur.alloc _) | exact ((hcur.alloc _).alloc _)) x Fx (.int .i64 k5) (.int .u64 b5) (.string t5) (.slice ka5 kl5 kc5) (.slice ia5 il5 ic5) HOX.out HFX.out _ _ rfl (by first | exact (blk_new _ _ _ (by simp)) | exact ((Below.heap_alloc _ _ _ (by first | (simp; done) | (simp; omega))).trans (blk_new _ _ _ (by simp))) | exact (hkpK _ (by first | (simp; done) | (simp; omega)) (fun e => absurd (HKL.out _ e) (by omega))).trans (blk_new _ _ _ (by simp)) | exact (hkpK _ (by first | (simp; done) | (simp; omega)) (fun e => absurd (HKL.out _ e) (by omega))).trans ((Below.heap_alloc _ _ _ (by first | (simp; done) | (simp; omega))).trans (blk_new _ _ _ (by simp)))) (by have := HLK.out.2; omega) ?_; intro iv' WI hcur hkpI))
            all_goals
              go_wp2_with fail
              go_meet
              case rel => exact ⟨_, _, _, hcur, ⟨HB.out.1.laid, HB.out.2.laid⟩, HP.out.laid⟩
          case rest =>
            clear hcur HB HP HFX HS3
            obtain ⟨kacc, iacc, P, HA, HB, HP⟩ := hcut
            have hcur := HA.out
            clear HA
            have HR2 : Hid (LdOk true m (m + 1)) := ⟨fun _ => by omega, fun h => by cases h⟩
            go_wp2_with fail
            have HLK : Hid (kacc.length ≤ 33 ∧ iacc.length ≤ 33) := ⟨by have h1 := HB.out.1.length hr; have h2 := HBL.out; omega, by have h1 := HB.out.2.length (by rw [HE.out]; exact hr); have h2 := HE.out; have h3 := HBL.out; omega⟩
            have HKL : Hid (∀ g, _ = some g → g < wc.heap.size) := hcur.klt
            have HIL : Hid (∀ g, _ = some g → g < wc.heap.size) := hcur.ilt
            have HFU : Hid (∀ g, G m g → g < w.heap.size ∧ ¬ P g) := fun g hg => ⟨(HGF.out g hg).1, fun e => by
              rcases HP.out g e with ⟨j, hj, hg2⟩ | ⟨-, hfx⟩
              · exact HGM.out j g hj hg hg2
              · exact (HGF.out g hg).2 hfx⟩
            go_region_held3 (fun w' => (w'.cell? ⟨w.heap.size, 3, none⟩ = some (.slice (some ⟨gk, ok, none⟩) ks.length kc) ∧ w'.cell? ⟨w.heap.size, 4, none⟩ = some (.slice (some ⟨gi, 0, none⟩) its.length ic) ∧ w'.cell? ⟨gk, ok + m, none⟩ = some (.string km) ∧ w'.cell? ⟨gi, m * 5, none⟩ = some (.int .i64 k6) ∧ w'.cell? ⟨gi, m * 5 + 1, none⟩ = some (.int .u64 b6) ∧ w'.cell? ⟨gi, m * 5 + 2, none⟩ = some (.string t6) ∧ w'.cell? ⟨gi, m * 5 + 3, none⟩ = some (.slice ka6 kl6 kc6) ∧ w'.cell? ⟨gi, m * 5 + 4, none⟩ = some (.slice ia6 il6 ic6))) ((first | exact HS5.out _ hcur.drew.four hcur.drew.below | exact HS5.out _ (hcur.alloc _).drew.four (hcur.alloc _).drew.below | exact HS5.out _ ((hcur.alloc _).alloc _).drew.four ((hcur.alloc _).alloc _).drew.below | exact HS5.out _ hcur.four hcur.below | exact HS5.out _ (hcur.alloc _).four (hcur.alloc _).below | exact HS5.out _ ((hcur.alloc _).alloc _).four ((hcur.alloc _).alloc _).below)) (first
            | (refine step_allK rfl _ _ rfl rfl (by first | exact hcur.drew | exact (hcur.alloc _).drew | exact ((hcur.alloc _).alloc _).drew | exact hcur | exact (hcur.alloc _) | exact ((hcur.alloc _).alloc _)) km _ _ rfl (by first | exact (blk_new _ _ _ (by simp)) | exact ((Below.heap_alloc _ _ _ (by first | (simp; done) | (simp; omega))).trans (blk_new _ _ _ (by simp))) | exact (hkpI _ (by first | (simp; done) | (simp; omega)) (fun e => absurd (HIL.out _ e) (by omega))).trans (blk_new _ _ _ (by simp)) | exact (hkpI _ (by first | (simp; done) | (simp; omega)) (fun e => absurd (HIL.out _ e) (by omega))).trans ((Below.heap_alloc _ _ _ (by first | (simp; done) | (simp; omega))).trans (blk_new _ _ _ (by simp)))) (by have := HLK.out.1; omega) ?_; intro kv' WK hcur hkpK)
            | (refine step_allI rfl _ _ rfl rfl (by first | exact hcur.drew | exact (hcur.alloc _).drew | exact ((hcur.alloc _).alloc _).drew | exact hcur | exact (hcur.alloc _) | exact ((hcur.alloc _).alloc _)) um (G m) (.int .i64 k6) (.int .u64 b6) (.string t6) (.slice ka6 kl6 kc6) (.slice ia6 il6 ic6) HO6.out HFU.out _ _ rfl (by first | exact (blk_new _ _ _ (by simp)) | exact ((Below.heap_alloc _ _ _ (by first | (simp; done) | (simp; omega))).trans (blk_new _ _ _ (by simp))) | exact (hkpK _ (by first | (simp; done) | (simp; omega)) (fun e => absurd (HKL.out _ e) (by omega))).trans (blk_new _ _ _ (by simp)) | exact (hkpK _ (by first | (simp; done) | (simp; omega)) (fun e => absurd (HKL.out _ e) (by omega))).trans ((Below.heap_alloc _ _ _ (by first | (simp; done) | (simp; omega))).trans (blk_new _ _ _ (by simp)))) (by have := HLK.out.2; omega) ?_; intro iv' WI hcur hkpI))
            all_goals
              go_wp2_with fail
              go_roundw
              case rel => exact ⟨m + 1, true, _, _, _, by omega, by go_num, rfl, hcur, ⟨HB.out.1.next HKM.out, HB.out.2.next HUM.out⟩, HR2.out, HP.out.next⟩
              case measure => simp [intOf]; omega
        · have hb := HLO.out m km (by have := HR.out.2 rfl; omega) HKM.out
          have HR2 : Hid (LdOk false r (m + 1)) := ⟨(fun h => by cases h), fun _ => by have := HR.out.2 rfl; omega⟩
          clear hmr
          go_wp2_with fail
          go_quiet (fail)
          clear X3 S1 R1 hb
          replace hcur := hcur.grow (Below_drewN wr.heap.size wr nq)
          generalize wr.drewN nq = U at *
          go_wp2_with fail
          have HLK : Hid (kacc.length ≤ 33 ∧ iacc.length ≤ 33) := ⟨by have h1 := HB.out.1.length hr; have h2 := HBL.out; omega, by have h1 := HB.out.2.length (by rw [HE.out]; exact hr); have h2 := HE.out; have h3 := HBL.out; omega⟩
          have HKL : Hid (∀ g, _ = some g → g < U.heap.size) := hcur.klt
          have HIL : Hid (∀ g, _ = some g → g < U.heap.size) := hcur.ilt
          have HFU : Hid (∀ g, G m g → g < w.heap.size ∧ ¬ P g) := fun g hg => ⟨(HGF.out g hg).1, fun e => by
            rcases HP.out g e with ⟨j, hj, hg2⟩ | ⟨-, hfx⟩
            · exact HGM.out j g hj hg hg2
            · exact (HGF.out g hg).2 hfx⟩
          go_region_held3 (fun w' => (w'.cell? ⟨w.heap.size, 3, none⟩ = some (.slice (some ⟨gk, ok, none⟩) ks.length kc) ∧ w'.cell? ⟨w.heap.size, 4, none⟩ = some (.slice (some ⟨gi, 0, none⟩) its.length ic) ∧ w'.cell? ⟨gk, ok + m, none⟩ = some (.string km) ∧ w'.cell? ⟨gi, m * 5, none⟩ = some (.int .i64 k6) ∧ w'.cell? ⟨gi, m * 5 + 1, none⟩ = some (.int .u64 b6) ∧ w'.cell? ⟨gi, m * 5 + 2, none⟩ = some (.string t6) ∧ w'.cell? ⟨gi, m * 5 + 3, none⟩ = some (.slice ka6 kl6 kc6) ∧ w'.cell? ⟨gi, m * 5 + 4, none⟩ = some (.slice ia6 il6 ic6))) ((first | exact HS5.out _ hcur.drew.four hcur.drew.below | exact HS5.out _ (hcur.alloc _).drew.four (hcur.alloc _).drew.below | exact HS5.out _ ((hcur.alloc _).alloc _).drew.four ((hcur.alloc _).alloc _).drew.below | exact HS5.out _ hcur.four hcur.below | exact HS5.out _ (hcur.alloc _).four (hcur.alloc _).below | exact HS5.out _ ((hcur.alloc _).alloc _).four ((hcur.alloc _).alloc _).below)) (first
          | (refine step_allK rfl _ _ rfl rfl (by first | exact hcur.drew | exact (hcur.alloc _).drew | exact ((hcur.alloc _).alloc _).drew | exact hcur | exact (hcur.alloc _) | exact ((hcur.alloc _).alloc _)) km _ _ rfl (by first | exact (blk_new _ _ _ (by simp)) | exact ((Below.heap_alloc _ _ _ (by first | (simp; done) | (simp; omega))).trans (blk_new _ _ _ (by simp))) | exact (hkpI _ (by first | (simp; done) | (simp; omega)) (fun e => absurd (HIL.out _ e) (by omega))).trans (blk_new _ _ _ (by simp)) | exact (hkpI _ (by first | (simp; done) | (simp; omega)) (fun e => absurd (HIL.out _ e) (by omega))).trans ((Below.heap_alloc _ _ _ (by first | (simp; done) | (simp; omega))).trans (blk_new _ _ _ (by simp)))) (by have := HLK.out.1; omega) ?_; intro kv' WK hcur hkpK)
          | (refine step_allI rfl _ _ rfl rfl (by first | exact hcur.drew | exact (hcur.alloc _).drew | exact ((hcur.alloc _).alloc _).drew | exact hcur | exact (hcur.alloc _) | exact ((hcur.alloc _).alloc _)) um (G m) (.int .i64 k6) (.int .u64 b6) (.string t6) (.slice ka6 kl6 kc6) (.slice ia6 il6 ic6) HO6.out HFU.out _ _ rfl (by first | exact (blk_new _ _ _ (by simp)) | exact ((Below.heap_alloc _ _ _ (by first | (simp; done) | (simp; omega))).trans (blk_new _ _ _ (by simp))) | exact (hkpK _ (by first | (simp; done) | (simp; omega)) (fun e => absurd (HKL.out _ e) (by omega))).trans (blk_new _ _ _ (by simp)) | exact (hkpK _ (by first | (simp; done) | (simp; omega)) (fun e => absurd (HKL.out _ e) (by omega))).trans ((Below.heap_alloc _ _ _ (by first | (simp; done) | (simp; omega))).trans (blk_new _ _ _ (by simp)))) (by have := HLK.out.2; omega) ?_; intro iv' WI hcur hkpI))
          all_goals
            go_wp2_with fail
            go_roundw
            case rel => exact ⟨m + 1, false, _, _, _, by omega, by go_num, rfl, hcur, ⟨HB.out.1.next HKM.out, HB.out.2.next HUM.out⟩, HR2.out, HP.out.next⟩
            case measure => simp [intOf]; omega
    · have hme : m = ks.length := by omega
      subst hme
      have hnn : ¬ (ks.length : Int) < (ks.length : Int) := by omega
      have hcur := HA.out
      clear HA hlt
      have X3 := (box_cells hcur.four.one).2.2.2.1
      cases ld with
      | true =>
        have HD : Hid (kacc = ins ks r key ∧ iacc = ins its r x) := ⟨HB.out.1.done, by have h := HB.out.2; rw [← HE.out] at h; exact h.done⟩
        clear HB
        go_upto_region 28 with fail
        clear X3
        obtain ⟨hk1, hi1⟩ := HD.out
        have HSZ : Hid (kacc.length ≤ 33 ∧ iacc.length ≤ 33 ∧ ∀ s ∈ kacc, s.size ≤ 140737488351232) := by
          refine ⟨?_, ?_, ?_⟩
          · rw [hk1, ins_length _ _ _ hr]; have := HBL.out; omega
          · rw [hi1, ins_length _ _ _ (by rw [HE.out]; exact hr)]; have := HBL.out; have := HE.out; omega
          · intro s hs
            rw [hk1] at hs
            unfold ins at hs
            simp only [List.mem_append, List.mem_cons] at hs
            rcases hs with q | rfl | q
            · exact HFIT.out.2.1 s (List.mem_of_mem_take q)
            · exact HFIT.out.2.2
            · exact HFIT.out.2.1 s (List.mem_of_mem_drop q)
        have HPF : Hid (∀ g, P g → (F g ∨ Fx g) ∧ g < w.heap.size) := fun g hg => by
          rcases HP.out g hg with ⟨j, hj, hg2⟩ | ⟨-, hfx⟩
          · have hf := HIN.out.2.2.1 j g (by rw [HE.out]; exact hj) hg2
            exact ⟨Or.inl hf, HIN.out.1 g hf⟩
          · exact ⟨Or.inr hfx, (HIN.out.2.1 g hfx).1⟩
        clear hk1 hi1 HP
        obtain ⟨H, hL, hkH, hH⟩ := hcur.items
        obtain ⟨a1, d1, e1⟩ := hcur.keys.shape
        obtain ⟨a2, d2, e2⟩ := OwnL.shape hL
        subst e1 e2
        have OO : Hid (Own wr (n + 1) (mk 5 b t a1 kacc.length d1 a2 iacc.length d2) (5, b, t, kacc, iacc) (fun g => H g ∨ (Value.slice a1 kacc.length d1).ownBlock = some g)) := OwnL.part hL hcur.keys hkH (by decide) HFIT.out.1.2.1 HFIT.out.1.2.2.1 (by have := HSZ.out.1; omega) (by have := HSZ.out.2.1; omega) HSZ.out.2.2
        have FF : Hid (∀ g, (H g ∨ (Value.slice a1 kacc.length d1).ownBlock = some g) → (F g ∨ Fx g ∨ w.heap.size + 4 ≤ g) ∧ g < wr.heap.size) := by
          rintro g (q | q)
          · refine ⟨?_, (hH g q).2⟩
            rcases (hH g q).1 with p | p
            · exact (HPF.out g p).1.imp id Or.inl
            · exact Or.inr (Or.inr p)
          · exact ⟨Or.inr (Or.inr (hcur.kb g q)), hcur.klt g q⟩
        have HCU : Hid (Four w wr (.cells #[.int .i64 5, .int .u64 b, .string t, .slice ka ks.length kc, .slice ia its.length ic] 26 (0, 0)) (.cells #[.bool true, .string key, .int .i64 ix] 42 (0, 0)) (.cells #[.int .i64 k5, .int .u64 b5, .string t5, .slice ka5 kl5 kc5, .slice ia5 il5 ic5] 26 (0, 0)) (.cells #[.int .i64 0, .int .u64 0, .string ⟨#[]⟩, .slice none 0 0, .slice none 0 0] 26 (0, 0)) ∧ Below w.heap.size w wr) := ⟨hcur.four, hcur.below⟩
        obtain ⟨z0, z1, z2, z3, z4, y0, y1, y2, y3, y4⟩ := box_cells hcur.four.one
        clear hL hkH hH hcur
        go_upto_region 29 with fail
        have F3 : Hid (Four w ((wr.setCell ⟨w.heap.size, 3, none⟩ (.slice a1 kacc.length d1)).setCell ⟨w.heap.size, 4, none⟩ (.slice a2 iacc.length d2)) (.cells #[.int .i64 5, .int .u64 b, .string t, .slice a1 kacc.length d1, .slice a2 iacc.length d2] 26 (0, 0)) _ _ _) := ⟨by rw [set_one_cell (set_one_cell HCU.out.1.one _)]; simp, ((set_other _ _ (by omega)).trans (set_other _ _ (by omega))).trans HCU.out.1.two, ((set_other _ _ (by omega)).trans (set_other _ _ (by omega))).trans HCU.out.1.three, ((set_other _ _ (by omega)).trans (set_other _ _ (by omega))).trans HCU.out.1.four⟩
        have K3 : Hid (Kept F w ((wr.setCell ⟨w.heap.size, 3, none⟩ (.slice a1 kacc.length d1)).setCell ⟨w.heap.size, 4, none⟩ (.slice a2 iacc.length d2))) := ((Kept.of_below HCU.out.2).fresh _ (Nat.le_refl _)).fresh _ (Nat.le_refl _)
        have NE : ∀ g, (H g ∨ (Value.slice a1 kacc.length d1).ownBlock = some g) → g ≠ w.heap.size := fun g hg => by
          rcases (FF.out g hg).1 with q | q | q
          · have := HIN.out.1 g q; omega
          · have := (HIN.out.2.1 g q).1; omega
          · omega
        have O3 : Hid (Own ((wr.setCell ⟨w.heap.size, 3, none⟩ (.slice a1 kacc.length d1)).setCell ⟨w.heap.size, 4, none⟩ (.slice a2 iacc.length d2)) (n + 1) (mk 5 b t a1 kacc.length d1 a2 iacc.length d2) (5, b, t, kacc, iacc) _) := OO.out.same _ fun g hg => (set_other _ _ (NE g hg)).trans (set_other _ _ (NE g hg))
        have S3 : ((wr.setCell ⟨w.heap.size, 3, none⟩ (.slice a1 kacc.length d1)).setCell ⟨w.heap.size, 4, none⟩ (.slice a2 iacc.length d2)).heap.size = wr.heap.size := by simp [World.setCell]
        clear z0 z1 z2 z3 z4 y0 y1 y2 y3 y4 OO NE HCU
        generalize (wr.setCell ⟨w.heap.size, 3, none⟩ (.slice a1 kacc.length d1)).setCell ⟨w.heap.size, 4, none⟩ (.slice a2 iacc.length d2) = W3 at *
        obtain ⟨x0, x1, x2, x3, x4, -⟩ := box_cells F3.out.one
        obtain ⟨u0, u1, u2, u3, u4, v0, v1, v2, v3, v4⟩ := box_cells F3.out.four
        go_wp2_with fail
        refine bodyPost_ret (v := .tuple #[mk 5 b t a1 kacc.length d1 a2 iacc.length d2, .int .i64 0]) (by simp [results, Try.results30, go_sem, u0, u1, u2, u3, u4]) rfl ?_
        rw [← HD.out.1, ← HD.out.2]
        refine put_done K3.out O3.out (fun j hj => ?_) (fun j hj => ?_)
        · rw [S3]
          exact FF.out j hj
        · rcases hj with hj | hj
          · exact HIN.out.1 j hj
          · exact (HIN.out.2.1 j hj).1
      | false =>
        have hrk : r = ks.length := by have := HR.out.2 rfl; omega
        subst hrk
        have HFX : Hid (∀ g, Fx g → g < w.heap.size ∧ ¬ P g) := fun g hg => ⟨(HIN.out.2.1 g hg).1, fun e => by
          rcases HP.out g e with ⟨j, hj, hg2⟩ | ⟨q, -⟩
          · exact (HIN.out.2.1 g hg).2 (HIN.out.2.2.1 j g (by rw [HE.out]; exact hj) hg2)
          · cases q⟩
        have HS3 : Hid (∀ W, Four w W (.cells #[.int .i64 5, .int .u64 b, .string t, .slice ka ks.length kc, .slice ia its.length ic] 26 (0, 0)) (.cells #[.bool true, .string key, .int .i64 ix] 42 (0, 0)) (.cells #[.int .i64 k5, .int .u64 b5, .string t5, .slice ka5 kl5 kc5, .slice ia5 il5 ic5] 26 (0, 0)) (.cells #[.int .i64 0, .int .u64 0, .string ⟨#[]⟩, .slice none 0 0, .slice none 0 0] 26 (0, 0)) → Below w.heap.size w W → (W.cell? ⟨w.heap.size + 1, 1, none⟩ = some (.string key) ∧ W.cell? ⟨w.heap.size + 1 + 1, 0, none⟩ = some (.int .i64 k5) ∧ W.cell? ⟨w.heap.size + 1 + 1, 1, none⟩ = some (.int .u64 b5) ∧ W.cell? ⟨w.heap.size + 1 + 1, 2, none⟩ = some (.string t5) ∧ W.cell? ⟨w.heap.size + 1 + 1, 3, none⟩ = some (.slice ka5 kl5 kc5) ∧ W.cell? ⟨w.heap.size + 1 + 1, 4, none⟩ = some (.slice ia5 il5 ic5))) := fun W h4 _ => by
          obtain ⟨z0, z1, z2, z3, z4, -⟩ := box_cells h4.three
          exact ⟨by simp only [World.cell?, h4.two]; rfl, z0, z1, z2, z3, z4⟩
        go_upto_region 27 with fail
        clear X3
        go_cut [10, 11] from 113 to 123 (fun v10 v11 wc => ∃ (kacc : List ByteArray) (iacc : List (V n)) (P : Nat → Prop), Hid (All (n := n) w wc (.cells #[.int .i64 5, .int .u64 b, .string t, .slice ka ks.length kc, .slice ia its.length ic] 26 (0, 0)) (.cells #[.bool true, .string key, .int .i64 ix] 42 (0, 0)) (.cells #[.int .i64 k5, .int .u64 b5, .string t5, .slice ka5 kl5 kc5, .slice ia5 il5 ic5] 26 (0, 0)) (.cells #[.int .i64 0, .int .u64 0, .string ⟨#[]⟩, .slice none 0 0, .slice none 0 0] 26 (0, 0)) v10 kacc v11 iacc P) ∧ Hid (kacc = ins ks ks.length key ∧ iacc = ins its ks.length x) ∧ Hid (LowP P G Fx ks.length true))
        case first =>
          have HLK : Hid (kacc.length ≤ 33 ∧ iacc.length ≤ 33) := ⟨by have h1 := HB.out.1.length hr; have h2 := HBL.out; omega, by have h1 := HB.out.2.length (by rw [HE.out]; exact hr); have h2 := HE.out; have h3 := HBL.out; omega⟩
          have HKL : Hid (∀ g, _ = some g → g < wr.heap.size) := hcur.klt
          have HIL : Hid (∀ g, _ = some g → g < wr.heap.size) := hcur.ilt
          go_region_held3 (fun w' => (w'.cell? ⟨w.heap.size + 1, 1, none⟩ = some (.string key) ∧ w'.cell? ⟨w.heap.size + 1 + 1, 0, none⟩ = some (.int .i64 k5) ∧ w'.cell? ⟨w.heap.size + 1 + 1, 1, none⟩ = some (.int .u64 b5) ∧ w'.cell? ⟨w.heap.size + 1 + 1, 2, none⟩ = some (.string t5) ∧ w'.cell? ⟨w.heap.size + 1 + 1, 3, none⟩ = some (.slice ka5 kl5 kc5) ∧ w'.cell? ⟨w.heap.size + 1 + 1, 4, none⟩ = some (.slice ia5 il5 ic5))) ((first | exact HS3.out _ hcur.drew.four hcur.drew.below | exact HS3.out _ (hcur.alloc _).drew.four (hcur.alloc _).drew.below | exact HS3.out _ ((hcur.alloc _).alloc _).drew.four ((hcur.alloc _).alloc _).drew.below | exact HS3.out _ hcur.four hcur.below | exact HS3.out _ (hcur.alloc _).four (hcur.alloc _).below | exact HS3.out _ ((hcur.alloc _).alloc _).four ((hcur.alloc _).alloc _).below)) (first
          | (refine step_allK rfl _ _ rfl rfl (by first | exact hcur.drew | exact (hcur.alloc _).drew | exact ((hcur.alloc _).alloc _).drew | exact hcur | exact (hcur.alloc _) | exact ((hcur.alloc _).alloc _)) key _ _ rfl (by first | exact (blk_new _ _ _ (by simp)) | exact ((Below.heap_alloc _ _ _ (by first | (simp; done) | (simp; omega))).trans (blk_new _ _ _ (by simp))) | exact (hkpI _ (by first | (simp; done) | (simp; omega)) (fun e => absurd (HIL.out _ e) (by omega))).trans (blk_new _ _ _ (by simp)) | exact (hkpI _ (by first | (simp; done) | (simp; omega)) (fun e => absurd (HIL.out _ e) (by omega))).trans ((Below.heap_alloc _ _ _ (by first | (simp; done) | (simp; omega))).trans (blk_new _ _ _ (by simp)))) (by have := HLK.out.1; omega) ?_; intro kv' WK hcur hkpK)
          | (refine step_allI rfl _ _ rfl rfl (by first | exact hcur.drew | exact (hcur.alloc _).drew | exact ((hcur.alloc _).alloc _).drew | exact hcur | exact (hcur.alloc _) | exact ((hcur.alloc _).alloc _)) x Fx (.int .i64 k5) (.int .u64 b5) (.string t5) (.slice ka5 kl5 kc5) (.slice ia5 il5 ic5) HOX.out HFX.out _ _ rfl (by first | exact (blk_new _ _ _ (by simp)) | exact ((Below.heap_alloc _ _ _ (by first | (simp; done) | (simp; omega))).trans (blk_new _ _ _ (by simp))) | exact (hkpK _ (by first | (simp; done) | (simp; omega)) (fun e => absurd (HKL.out _ e) (by omega))).trans (blk_new _ _ _ (by simp)) | exact (hkpK _ (by first | (simp; done) | (simp; omega)) (fun e => absurd (HKL.out _ e) (by omega))).trans ((Below.heap_alloc _ _ _ (by first | (simp; done) | (simp; omega))).trans (blk_new _ _ _ (by simp)))) (by have := HLK.out.2; omega) ?_; intro iv' WI hcur hkpI))
          all_goals
            go_wp2_with fail
            go_meet
            case rel => exact ⟨_, _, _, hcur, ⟨HB.out.1.laid.done, by have h := HB.out.2.laid; rw [← HE.out] at h ⊢; exact h.done⟩, HP.out.laid⟩
        case rest =>
          clear hcur HB HP HFX HS3
          obtain ⟨kacc, iacc, P, HA, HD, HP⟩ := hcut
          have hcur := HA.out
          clear HA
          go_upto_region 28 with fail
          obtain ⟨hk1, hi1⟩ := HD.out
          have HSZ : Hid (kacc.length ≤ 33 ∧ iacc.length ≤ 33 ∧ ∀ s ∈ kacc, s.size ≤ 140737488351232) := by
            refine ⟨?_, ?_, ?_⟩
            · rw [hk1, ins_length _ _ _ hr]; have := HBL.out; omega
            · rw [hi1, ins_length _ _ _ (by rw [HE.out]; exact hr)]; have := HBL.out; have := HE.out; omega
            · intro s hs
              rw [hk1] at hs
              unfold ins at hs
              simp only [List.mem_append, List.mem_cons] at hs
              rcases hs with q | rfl | q
              · exact HFIT.out.2.1 s (List.mem_of_mem_take q)
              · exact HFIT.out.2.2
              · exact HFIT.out.2.1 s (List.mem_of_mem_drop q)
          have HPF : Hid (∀ g, P g → (F g ∨ Fx g) ∧ g < w.heap.size) := fun g hg => by
            rcases HP.out g hg with ⟨j, hj, hg2⟩ | ⟨-, hfx⟩
            · have hf := HIN.out.2.2.1 j g (by rw [HE.out]; exact hj) hg2
              exact ⟨Or.inl hf, HIN.out.1 g hf⟩
            · exact ⟨Or.inr hfx, (HIN.out.2.1 g hfx).1⟩
          clear hk1 hi1 HP
          obtain ⟨H, hL, hkH, hH⟩ := hcur.items
          obtain ⟨a1, d1, e1⟩ := hcur.keys.shape
          obtain ⟨a2, d2, e2⟩ := OwnL.shape hL
          subst e1 e2
          have OO : Hid (Own wc (n + 1) (mk 5 b t a1 kacc.length d1 a2 iacc.length d2) (5, b, t, kacc, iacc) (fun g => H g ∨ (Value.slice a1 kacc.length d1).ownBlock = some g)) := OwnL.part hL hcur.keys hkH (by decide) HFIT.out.1.2.1 HFIT.out.1.2.2.1 (by have := HSZ.out.1; omega) (by have := HSZ.out.2.1; omega) HSZ.out.2.2
          have FF : Hid (∀ g, (H g ∨ (Value.slice a1 kacc.length d1).ownBlock = some g) → (F g ∨ Fx g ∨ w.heap.size + 4 ≤ g) ∧ g < wc.heap.size) := by
            rintro g (q | q)
            · refine ⟨?_, (hH g q).2⟩
              rcases (hH g q).1 with p | p
              · exact (HPF.out g p).1.imp id Or.inl
              · exact Or.inr (Or.inr p)
            · exact ⟨Or.inr (Or.inr (hcur.kb g q)), hcur.klt g q⟩
          have HCU : Hid (Four w wc (.cells #[.int .i64 5, .int .u64 b, .string t, .slice ka ks.length kc, .slice ia its.length ic] 26 (0, 0)) (.cells #[.bool true, .string key, .int .i64 ix] 42 (0, 0)) (.cells #[.int .i64 k5, .int .u64 b5, .string t5, .slice ka5 kl5 kc5, .slice ia5 il5 ic5] 26 (0, 0)) (.cells #[.int .i64 0, .int .u64 0, .string ⟨#[]⟩, .slice none 0 0, .slice none 0 0] 26 (0, 0)) ∧ Below w.heap.size w wc) := ⟨hcur.four, hcur.below⟩
          obtain ⟨z0, z1, z2, z3, z4, y0, y1, y2, y3, y4⟩ := box_cells hcur.four.one
          clear hL hkH hH hcur
          go_upto_region 29 with fail
          have F3 : Hid (Four w ((wc.setCell ⟨w.heap.size, 3, none⟩ (.slice a1 kacc.length d1)).setCell ⟨w.heap.size, 4, none⟩ (.slice a2 iacc.length d2)) (.cells #[.int .i64 5, .int .u64 b, .string t, .slice a1 kacc.length d1, .slice a2 iacc.length d2] 26 (0, 0)) _ _ _) := ⟨by rw [set_one_cell (set_one_cell HCU.out.1.one _)]; simp, ((set_other _ _ (by omega)).trans (set_other _ _ (by omega))).trans HCU.out.1.two, ((set_other _ _ (by omega)).trans (set_other _ _ (by omega))).trans HCU.out.1.three, ((set_other _ _ (by omega)).trans (set_other _ _ (by omega))).trans HCU.out.1.four⟩
          have K3 : Hid (Kept F w ((wc.setCell ⟨w.heap.size, 3, none⟩ (.slice a1 kacc.length d1)).setCell ⟨w.heap.size, 4, none⟩ (.slice a2 iacc.length d2))) := ((Kept.of_below HCU.out.2).fresh _ (Nat.le_refl _)).fresh _ (Nat.le_refl _)
          have NE : ∀ g, (H g ∨ (Value.slice a1 kacc.length d1).ownBlock = some g) → g ≠ w.heap.size := fun g hg => by
            rcases (FF.out g hg).1 with q | q | q
            · have := HIN.out.1 g q; omega
            · have := (HIN.out.2.1 g q).1; omega
            · omega
          have O3 : Hid (Own ((wc.setCell ⟨w.heap.size, 3, none⟩ (.slice a1 kacc.length d1)).setCell ⟨w.heap.size, 4, none⟩ (.slice a2 iacc.length d2)) (n + 1) (mk 5 b t a1 kacc.length d1 a2 iacc.length d2) (5, b, t, kacc, iacc) _) := OO.out.same _ fun g hg => (set_other _ _ (NE g hg)).trans (set_other _ _ (NE g hg))
          have S3 : ((wc.setCell ⟨w.heap.size, 3, none⟩ (.slice a1 kacc.length d1)).setCell ⟨w.heap.size, 4, none⟩ (.slice a2 iacc.length d2)).heap.size = wc.heap.size := by simp [World.setCell]
          clear z0 z1 z2 z3 z4 y0 y1 y2 y3 y4 OO NE HCU
          generalize (wc.setCell ⟨w.heap.size, 3, none⟩ (.slice a1 kacc.length d1)).setCell ⟨w.heap.size, 4, none⟩ (.slice a2 iacc.length d2) = W3 at *
          obtain ⟨x0, x1, x2, x3, x4, -⟩ := box_cells F3.out.one
          obtain ⟨u0, u1, u2, u3, u4, v0, v1, v2, v3, v4⟩ := box_cells F3.out.four
          go_wp2_with fail
          refine bodyPost_ret (v := .tuple #[mk 5 b t a1 kacc.length d1 a2 iacc.length d2, .int .i64 0]) (by simp [results, Try.results30, go_sem, u0, u1, u2, u3, u4]) rfl ?_
          rw [← HD.out.1, ← HD.out.2]
          refine put_done K3.out O3.out (fun j hj => ?_) (fun j hj => ?_)
          · rw [S3]
            exact FF.out j hj
          · rcases hj with hj | hj
            · exact HIN.out.1 j hj
            · exact (HIN.out.2.1 j hj).1
end Go.Proofs.Ytkjiiggboblioaa
