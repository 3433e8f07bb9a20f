/-
  The page's gone. (Printed by wip/make/mkdtgone.py.)
-/
import Derived.Test.YtcdnakcojanaeabGreatDtOffJ
import Derived.Test.YtcdnakcojanaeabGreatDbPageJ
import Derived.Test.YtcdnakcojanaeabGreatDoMarkJ
import Derived.Test.YtcdnakcojanaeabGreatDoArgJ
import Derived.Test.YtcdnakcojanaeabGreatDoHang
import Derived.Test.YtcdnakcojanaeabGreatDoKeepMJ
namespace Go.Proofs.YtcdnakcojanaeabGreat
open Go.ChangeShapes Go.WideShapes Go.ChangeAt Go.RowKit Go.Deep
open Do
namespace Pg

theorem OwnN.pick {w w' : World} {B : Nat} {v v' : Value} {ns ls : List Nd} {ab kb : Nat → Value} {m : Nat} {ix : Nat → Nat} (h : OwnN w B v ns ab kb) (hp : Pick ns m ls ix) (hb : Below w.heap.size w w') (hr : w'.ownsRow B 56 7 v' ls.length (rowN ls (fun i => ab (ix i)) (fun i => kb (ix i)))) :
    OwnN w' B v' ls (fun i => ab (ix i)) (fun i => kb (ix i)) := by
  have lt : ∀ i, i < ls.length → ix i < ns.length := fun i hi => (List.getElem?_eq_some_iff.1 (hp.at_ i ls[i] (List.getElem?_eq_getElem hi)).1).1
  refine ⟨hr, fun i n hi => (h.ats _ n (hp.at_ i n hi).1).below hb, fun i n hi => (h.kids _ n (hp.at_ i n hi).1).below hb, ?_, ?_, fun n hn => ?_⟩
  · intro i j g hi hj hij
    exact h.apa _ _ g (lt i hi) (lt j hj) fun e => hij (hp.inj i j hi hj e)
  · intro i j g hi hj hij
    exact h.apk _ _ g (lt i hi) (lt j hj) fun e => hij (hp.inj i j hi hj e)
  · obtain ⟨i, hi, rfl⟩ := List.getElem_of_mem hn
    exact h.fit _ (List.mem_of_getElem? (hp.at_ i ls[i] (List.getElem?_eq_getElem hi)).1)

theorem step_pushN {ops : Array Oper} {o : Oper} {a : Act} {w : World} {K : Act → World → Prop} {Q : Exit → Act → World → Prop} {E : Prop} (hgd : o.guard = none) (s x : Operand)
    (hop : o.op = .call { callee := .builtin .append, args := #[s, x], argTypes := #[22, 22] })
    (B : Nat) (v : Value) (m : Nat) (cs : List Value) (hs : a.eval s = v) (hL : w.ownsRow B 56 7 v m cs) (n : Nd) (aa : Option Addr) (al ac : Nat) (ka : Option Addr) (kl kc : Nat) (ad : Addr) (c : Nat) (hx : a.eval x = .slice (some ad) 1 c)
    (hnews : ∀ j u, (cellsN n (.slice aa al ac) (.slice ka kl kc))[j]? = some u → w.cell? (ad.add j) = some u) (hlen : (m + 1) * 112 ≤ 140737488355328) (hB : B ≤ w.heap.size)
    (h : ∀ v' w', w'.ownsRow B 56 7 v' (m + 1) (cs ++ cellsN n (.slice aa al ac) (.slice ka kl kc)) → w.grownBy w' v.ownBlock → (v'.ownBlock = v.ownBlock ∨ ∀ g, v'.ownBlock = some g → w.heap.size ≤ g) → K (a.put o.dst v') w') :
    if Region.wanted o (yielded ops a.tmps) = true then Oper.wp Tryz.prog o a w K Q else E := by
  obtain ⟨i0, hi, hz0, hz1, hz2⟩ := info_parts infoNodeP
  refine step_append hgd s x 22 hop B 56 i0 _ 7 112 Tryz.underlying22 hi hz0 hz1 hz2 rfl (by decide) v m cs hs hL ad 1 c (cellsN n (.slice aa al ac) (.slice ka kl kc)) hx rfl hnews ?_ (by unfold maxLen; omega) hlen hB h
  intro y hy
  simp [cellsN] at hy
  rcases hy with rfl | rfl | rfl | rfl | rfl | rfl | rfl <;> rfl

theorem op_pushN {o : Oper} {d : Option Tmp} (hd : o.dst = d) {a : Act} {w : World} {K : Act → World → Prop} {Q : Exit → Act → World → Prop} (hgd : o.guard = none) (s x : Operand)
    (hop : o.op = .call { callee := .builtin .append, args := #[s, x], argTypes := #[22, 22] })
    (B : Nat) (v : Value) (m : Nat) (cs : List Value) (hs : a.eval s = v) (hL : w.ownsRow B 56 7 v m cs) (n : Nd) (aa : Option Addr) (al ac : Nat) (ka : Option Addr) (kl kc : Nat) (ad : Addr) (c : Nat) (hx : a.eval x = .slice (some ad) 1 c)
    (hnews : ∀ j u, (cellsN n (.slice aa al ac) (.slice ka kl kc))[j]? = some u → w.cell? (ad.add j) = some u) (hlen : (m + 1) * 112 ≤ 140737488355328) (hB : B ≤ w.heap.size)
    (h : ∀ v' w', w'.ownsRow B 56 7 v' (m + 1) (cs ++ cellsN n (.slice aa al ac) (.slice ka kl kc)) → w.grownBy w' v.ownBlock → (v'.ownBlock = v.ownBlock ∨ ∀ g, v'.ownBlock = some g → w.heap.size ≤ g) → K (a.put d v') w') : Oper.wp Tryz.prog o a w K Q := by
  subst hd
  have hw : Region.wanted o (yielded #[] a.tmps) = true := by simp [Region.wanted, hgd]
  have := step_pushN (ops := #[]) (E := True) (Q := Q) hgd s x hop B v m cs hs hL n aa al ac ka kl kc ad c hx hnews hlen hB h
  rwa [if_pos hw] at this

end Pg

namespace Do
/-- The nodes that are not within a number. -/
def lf (N : List Nd) (x : Int) (l : List Nd) : List Nd := l.filter fun m => !(wiP N x (N.length + 1) m.id)

/-- What the page's gone leaves. -/
def goneP (s : Ds) (x : Int) : Ds := ⟨lf (offP s.nodes x) x (offP s.nodes x), if (pl (lf (offP s.nodes x) x (offP s.nodes x)) s.root) = none then 0 else s.root, s.next⟩

theorem offP_length (ns : List Nd) (x : Int) : (offP ns x).length = ns.length := by
  unfold offP
  split
  · rfl
  · split
    · rfl
    · split
      · rfl
      · simp [offQ_length]

theorem lf_take {N : List Nd} {x : Int} {i : Nat} (h : i < N.length) : lf N x (N.take (i + 1)) = lf N x (N.take i) ++ (if wiP N x (N.length + 1) N[i].id = true then [] else [N[i]]) := by
  unfold lf
  rw [List.take_succ_eq_append_getElem h, List.filter_append]
  congr 1
  rw [List.filter_cons, List.filter_nil]
  cases wiP N x (N.length + 1) N[i].id <;> rfl
end Do

/-- A row of nodes is no box of the type State. -/
theorem Pg.rowNe {w : World} {B n : Nat} {v : Value} {xs : List Value} (h : w.ownsRow B 56 7 v n xs) {P : Nat} {cs : Array Value} (hP : w.heap[P]? = some (.cells cs 24 (0, 0))) : v.ownBlock ≠ some P := by
  intro hb
  rcases h.2 with ⟨rfl, -⟩ | ⟨g', cap, cur, rfl, _, q2, -⟩
  · cases hb
  · simp only [Value.ownBlock, Option.some.injEq] at hb
    subst hb
    rw [hP] at q2
    simp at q2

theorem rowLess {w : World} {B D n sz : Nat} {e : TypeId} {v : Value} {xs : List Value} (h : w.ownsRow B e sz v n xs) (hd : D ≤ B) : w.ownsRow D e sz v n xs := by
  refine ⟨h.1, h.2.imp_right ?_⟩
  rintro ⟨g, cap, cur, h3, h4, h5⟩
  exact ⟨g, cap, cur, h3, Nat.le_trans hd h4, h5⟩

theorem cellc {w w' : World} {b j : Nat} {v : Value} (h : w'.heap[b]? = w.heap[b]?) (hv : w.cell? ⟨b, j, none⟩ = some v) : w'.cell? ⟨b, j, none⟩ = some v := by
  rw [← hv]
  simp [World.cell?, h]

set_option maxRecDepth 100000 in
set_option maxHeartbeats 3200000 in
theorem rgone_any (s : Ds) (x : Int) (t : Nat) (n : Nd) (B : Nat) (w : World) (v : Value) (ab kb : Nat → Value) (hO : Pg.OwnN w B v s.nodes ab kb) (hB : B ≤ w.heap.size) (hn : s.nodes.length ≤ 1024) (ht : pl s.nodes x = some t) (hnt : s.nodes[t]? = some n) (hr : -9223372036854775808 ≤ s.root ∧ s.root ≤ 9223372036854775807) (hx : -9223372036854775808 ≤ s.next ∧ s.next ≤ 9223372036854775807) :
    Calls Tryz.prog 23 #[.agg #[v, .int .i64 s.root, .int .i64 s.next], .int .i64 x] w fun e w' => ∃ v' ab' kb', e = .returned (.agg #[v', .int .i64 (goneP s x).root, .int .i64 s.next]) ∧ Pg.OwnN w' B v' (goneP s x).nodes ab' kb' ∧ Below B w w' := by
  obtain ⟨vr, vc, hvs⟩ := hO.shape
  subst hvs
  have HO : Hid (Pg.OwnN w B (.slice vr s.nodes.length vc) s.nodes ab kb) := hO
  have HB : Hid (B ≤ w.heap.size) := hB
  obtain ⟨ns, root, next⟩ := s
  simp only at *
  have HOFF : Hid (∀ W, Below w.heap.size w W → Calls Tryz.prog 52 #[.agg #[.slice vr ns.length vc, .int .i64 root, .int .i64 next], .int .i64 x] W fun e w' => e = .returned (.tuple #[]) ∧ (∃ kb', Pg.OwnN w' B (.slice vr ns.length vc) (offP ns x) ab kb' ∧ ∀ i, kb' i = kb i ∨ ∀ b, (kb' i).ownBlock = some b → W.heap.size ≤ b) ∧ Kept (fun b => (Value.slice vr ns.length vc).ownBlock = some b) W w') := fun W hb => roff_any ns root next x t n vr vc ab kb B W (hO.below hb) (Nat.le_trans hB hb.size) hn ht hnt hr hx
  obtain ⟨b, hva, -⟩ := Pg.rowN_cells hO.row hnt
  subst hva
  have HLN : (offP ns x).length = ns.length := offP_length ns x
  have HBB : Hid (B ≤ b ∧ b < w.heap.size) := hO.foot (Or.inl rfl)
  have HGP : Hid (goneP ⟨ns, root, next⟩ x = ⟨lf (offP ns x) x (offP ns x), if (pl (lf (offP ns x) x (offP ns x)) root) = none then 0 else root, next⟩) := rfl
  clear hO hB ht hnt HO
  generalize goneP ⟨ns, root, next⟩ x = GP at *
  generalize offP ns x = N at *
  generalize ns.length = l at *
  subst HLN
  obtain ⟨W1, hW1⟩ : ∃ W : World, W = (w.alloc (.cells #[.slice (some ⟨b, 0, none⟩) N.length vc, .int .i64 root, .int .i64 next] 24)).alloc (.cells #[.slice none 0 0, .int .i64 0, .int .i64 0] 24) := ⟨_, rfl⟩
  have B1 : Hid (Below w.heap.size w W1) := by show Below _ _ _; rw [hW1]; exact two_new _ _ _
  have X1 : Hid (W1.heap[w.heap.size]? = some (.cells #[.slice (some ⟨b, 0, none⟩) N.length vc, .int .i64 root, .int .i64 next] 24 (0, 0)) ∧ W1.heap[w.heap.size + 1]? = some (.cells #[.slice none 0 0, .int .i64 0, .int .i64 0] 24 (0, 0))) := by show _ ∧ _; rw [hW1]; exact ⟨((below_one _ _).block _ (by simp)).trans (heap_alloc_new _ _), heap_new2 _ _ _⟩
  go_enter Tryz.func23, Tryz.ntmps23
  go_wp2_with fail
  rw [← hW1]
  clear hW1
  refine (HOFF.out W1 B1.out).mono ?_
  rintro e w2 ⟨rfl, ⟨kb2, hO2, -⟩, hk2⟩
  have hst : ∀ {j : Nat} {ob : Obj}, w.heap.size ≤ j → W1.heap[j]? = some ob → w2.heap[j]? = some ob := fun hj ho => (hk2.block _ (lt_of_block ho) (fun e => by have h1 := HBB.out.2; simp only [Value.ownBlock, Option.some.injEq] at e; omega)).trans ho
  have X2 : Hid (w2.heap[w.heap.size]? = some (.cells #[.slice (some ⟨b, 0, none⟩) N.length vc, .int .i64 root, .int .i64 next] 24 (0, 0)) ∧ w2.heap[w.heap.size + 1]? = some (.cells #[.slice none 0 0, .int .i64 0, .int .i64 0] 24 (0, 0))) := ⟨hst (Nat.le_refl _) X1.out.1, hst (Nat.le_succ _) X1.out.2⟩
  have O2 : Hid (Pg.OwnN w2 B (.slice (some ⟨b, 0, none⟩) N.length vc) N ab kb2) := hO2
  have hb0 := HB.out
  have B2 : Hid (Below B w w2) := (B1.out.mono hb0).trans ⟨hk2.os, hk2.tape, hk2.output, hk2.size, fun j hj => hk2.block j (by have := B1.out.size; omega) (fun e => by have h1 := HBB.out.1; simp only [Value.ownBlock, Option.some.injEq] at e; omega)⟩
  have W2S : Hid (w.heap.size + 2 ≤ w2.heap.size) := lt_of_block X2.out.2
  have DS : Hid (∀ W, Below w2.heap.size w2 W → DsIs W ⟨N, root, next⟩ (some ⟨b, 0, none⟩) vc) := fun W hb => (hO2.below hb).ds hn hr hx
  have HWI : Hid (∀ W z, Below w2.heap.size w2 W → Calls Tryz.prog 50 #[.agg #[.slice (some ⟨b, 0, none⟩) N.length vc, .int .i64 root, .int .i64 next], .int .i64 z, .int .i64 x] W fun e w' => e = .returned (.bool (wiP N x (N.length + 1) z)) ∧ Below W.heap.size W w') := fun W z hb => rwithin_any ⟨N, root, next⟩ z x (some ⟨b, 0, none⟩) vc W (DS.out W hb)
  clear hst hO2 hk2 X1 B1 HOFF
  obtain ⟨x0, x1, x2⟩ := three X2.out.1
  obtain ⟨W3, hW3⟩ : ∃ W : World, W = w2.alloc (.cells #[.slice none 0 0, .int .i64 root, .int .i64 next] 24) := ⟨_, rfl⟩
  have B3 : Hid (Below w2.heap.size w2 W3) := by show Below _ _ _; rw [hW3]; exact below_one _ _
  have X3 : Hid (W3.heap[w2.heap.size]? = some (.cells #[.slice none 0 0, .int .i64 root, .int .i64 next] 24 (0, 0))) := by show _ = _; rw [hW3]; exact heap_alloc_new _ _
  go_wp2_with fail
  rw [← hW3]
  clear hW3 x0 x1 x2
  go_loopw [6] (fun v6 wr => ∃ (i : Nat) (ix : Nat → Nat), i ≤ N.length ∧ v6 = .int .i64 (i : Int) ∧ Hid (Pick N i (lf N x (N.take i)) ix) ∧ Hid (∃ v, wr.heap[w2.heap.size]? = some (.cells #[v, .int .i64 root, .int .i64 next] 24 (0, 0)) ∧ wr.ownsRow w2.heap.size 56 7 v (lf N x (N.take i)).length (rowN (lf N x (N.take i)) (fun j => ab (ix j)) (fun j => kb2 (ix j)))) ∧ Hid (Below w2.heap.size w2 wr)) (fun v6 _ => N.length - (intOf v6).toNat)
  case atStart => exact ⟨0, fun _ => 0, Nat.zero_le _, rfl, Pick.nil _, ⟨_, X3.out, World.ownsRow_nil _ _ _ _⟩, B3.out⟩
  case round =>
    obtain ⟨i, ix, hi, rfl, HPK, HT, HBR⟩ := hrel
    have XS : Hid (wr.heap[w.heap.size]? = some (.cells #[.slice (some ⟨b, 0, none⟩) N.length vc, .int .i64 root, .int .i64 next] 24 (0, 0)) ∧ wr.heap[w.heap.size + 1]? = some (.cells #[.slice none 0 0, .int .i64 0, .int .i64 0] 24 (0, 0))) := ⟨(HBR.out.block _ (lt_of_block X2.out.1)).trans X2.out.1, (HBR.out.block _ (lt_of_block X2.out.2)).trans X2.out.2⟩
    obtain ⟨x0, x1, x2⟩ := three XS.out.1
    by_cases hlt : i < N.length
    · have HLT := lf_take (N := N) (x := x) hlt
      have hm : N[i]? = some N[i] := List.getElem?_eq_getElem hlt
      generalize N[i] = m at *
      have HM : Hid (N[i]? = some m) := hm
      have HTK : Hid (lf N x (N.take (i + 1)) = lf N x (N.take i) ++ (if wiP N x (N.length + 1) m.id = true then [] else [m])) := HLT
      have HLE : Hid ((lf N x (N.take i)).length ≤ i) := by show _ ≤ _; refine Nat.le_trans (List.length_filter_le _ _) ?_; simp; omega
      clear HLT hm
      generalize lf N x (N.take i) = fl at *
      obtain ⟨v, hT1, hT2⟩ := HT.out
      obtain ⟨va, vb, rfl⟩ := slice_of_own hT2
      have HT1 : Hid (wr.heap[w2.heap.size]? = some (.cells #[.slice va fl.length vb, .int .i64 root, .int .i64 next] 24 (0, 0))) := hT1
      have HRW : Hid (wr.ownsRow w2.heap.size 56 7 (.slice va fl.length vb) fl.length (rowN fl (fun j => ab (ix j)) (fun j => kb2 (ix j)))) := hT2
      clear HT hT1 hT2
      have OR : Hid (Pg.OwnN wr B (.slice (some ⟨b, 0, none⟩) N.length vc) N ab kb2) := O2.out.below HBR.out
      obtain ⟨g, hg, r0, r1, r2, r3, r4, r5, r6⟩ := Pg.rowN_cells OR.out.row HM.out
      simp only [Option.some.injEq, Addr.mk.injEq, and_true] at hg
      subst hg
      obtain ⟨aa, ac, hsa⟩ := (OR.out.ats i m HM.out).shape
      obtain ⟨ka, kc, hsk⟩ := (OR.out.kids i m HM.out).shape
      have HAK : Hid (ab i = .slice aa m.ats.length ac ∧ kb2 i = .slice ka m.kids.length kc) := ⟨hsa, hsk⟩
      rw [hsa] at r5
      rw [hsk] at r6
      clear hsa hsk
      have HRR : Hid (wr.cell? ⟨b, i * 7, none⟩ = some (.int .i64 m.id) ∧ wr.cell? ⟨b, i * 7 + 1, none⟩ = some (.int .i64 m.par) ∧ wr.cell? ⟨b, i * 7 + 2, none⟩ = some (.string m.tag) ∧ wr.cell? ⟨b, i * 7 + 3, none⟩ = some (.string m.key) ∧ wr.cell? ⟨b, i * 7 + 4, none⟩ = some (.string m.txt) ∧ wr.cell? ⟨b, i * 7 + 5, none⟩ = some (.slice aa m.ats.length ac) ∧ wr.cell? ⟨b, i * 7 + 6, none⟩ = some (.slice ka m.kids.length kc)) := ⟨r0, r1, r2, r3, r4, r5, r6⟩
      have e0 : ∀ z : Cls wr, z.1.cell? ⟨w.heap.size, 0, none⟩ = some (.slice (some ⟨b, 0, none⟩) N.length vc) := fun z => Cls.cell x0 z
      have e1 : ∀ z : Cls wr, z.1.cell? ⟨w.heap.size, 1, none⟩ = some (.int .i64 root) := fun z => Cls.cell x1 z
      have e2 : ∀ z : Cls wr, z.1.cell? ⟨w.heap.size, 2, none⟩ = some (.int .i64 next) := fun z => Cls.cell x2 z
      have e4 : ∀ z : Cls wr, z.1.cell? ⟨b, i * 7, none⟩ = some (.int .i64 m.id) := fun z => Cls.cell r0 z
      have CP : Hid (∀ z : Cls wr, Calls Tryz.prog 50 #[.agg #[.slice (some ⟨b, 0, none⟩) N.length vc, .int .i64 root, .int .i64 next], .int .i64 m.id, .int .i64 x] z.1 fun e w' => e = .returned (.bool (wiP N x (N.length + 1) m.id)) ∧ Below z.1.heap.size z.1 w') := fun z => HWI.out z.1 _ (nxt HBR.out z.2)
      have inst : Nonempty (Cls wr) := ⟨⟨_, Below.refl _ _⟩⟩
      clear r1 r2 r3 r4 r5 r6
      go_wp2_with fail
      refine wp_region_cls (by kernel_rfl) (by kernel_rfl) ?_
      repeat (go_big_quiet_step ((go_at_call 50; exact Calls.cls (CP.out _))))
      refine wpQuiet_nil ?_
      intro _ hw'
      obtain ⟨z, hw''⟩ := hw'
      subst hw''
      have BZ : Hid (Below wr.heap.size wr z.1) := z.2
      clear x0 x1 x2 r0 CP e0 e1 e2 e4 inst
      generalize z.1 = wz at *
      clear z
      have BL : Hid (Below w2.heap.size w2 wz) := nxt HBR.out BZ.out
      have HT1z : Hid (wz.heap[w2.heap.size]? = some (.cells #[.slice va fl.length vb, .int .i64 root, .int .i64 next] 24 (0, 0))) := (BZ.out.block _ (lt_of_block HT1.out)).trans HT1.out
      have HRWz : Hid (wz.ownsRow w2.heap.size 56 7 (.slice va fl.length vb) fl.length (rowN fl (fun j => ab (ix j)) (fun j => kb2 (ix j)))) := ownsRow_same HRW.out fun g hg => BZ.out.block g (HRW.out.lt g hg).2
      cases hw : wiP N x (N.length + 1) m.id with
      | true =>
        rw [hw] at HTK
        simp only [if_true, List.append_nil] at HTK
        clear hw
        go_wp2_with fail
        go_roundw
        case rel => exact ⟨i + 1, ix, by omega, by go_num, by rw [HTK.out]; exact HPK.out.mono (Nat.le_succ _), by rw [HTK.out]; exact ⟨_, HT1z.out, HRWz.out⟩, BL.out⟩
        case measure => simp [intOf]; omega
      | false =>
        rw [hw] at HTK
        simp only [Bool.false_eq_true, if_false] at HTK
        clear hw
        have HP2 : Hid (Pick N (i + 1) (fl ++ [m]) (fun j => if j = fl.length then i else ix j)) := HPK.out.snoc HM.out
        have HR2 : Hid (rowN (fl ++ [m]) (fun j => ab (if j = fl.length then i else ix j)) (fun j => kb2 (if j = fl.length then i else ix j)) = rowN fl (fun j => ab (ix j)) (fun j => kb2 (ix j)) ++ cellsN m (.slice aa m.ats.length ac) (.slice ka m.kids.length kc)) := by
          show _ = _
          rw [rowN_snoc]
          simp only [if_true]
          rw [HAK.out.1, HAK.out.2]
          congr 1
          refine rowN_congr fl fun j hj => ?_
          rw [if_neg (by omega)]
          exact ⟨rfl, rfl⟩
        generalize rowN fl (fun j => ab (ix j)) (fun j => kb2 (ix j)) = rw0 at *
        obtain ⟨r0, r1, r2, r3, r4, r5, r6⟩ := HRR.out
        have r0 := keepc BZ.out _ _ r0
        have r1 := keepc BZ.out _ _ r1
        have r2 := keepc BZ.out _ _ r2
        have r3 := keepc BZ.out _ _ r3
        have r4 := keepc BZ.out _ _ r4
        have r5 := keepc BZ.out _ _ r5
        have r6 := keepc BZ.out _ _ r6
        have XSz : Hid (wz.heap[w.heap.size]? = some (.cells #[.slice (some ⟨b, 0, none⟩) N.length vc, .int .i64 root, .int .i64 next] 24 (0, 0))) := (BZ.out.block _ (lt_of_block XS.out.1)).trans XS.out.1
        have HS0 : (fun w' : World => w'.heap[w2.heap.size]? = some (.cells #[.slice va fl.length vb, .int .i64 root, .int .i64 next] 24 (0, 0)) ∧ w'.heap[w.heap.size]? = some (.cells #[.slice (some ⟨b, 0, none⟩) N.length vc, .int .i64 root, .int .i64 next] 24 (0, 0)) ∧ w'.heap[b]? = wz.heap[b]?) wz.drew := ⟨HT1z.out, XSz.out, rfl⟩
        go_wp2_with fail
        · refine Rg.Till.region (fun w' : World => w'.heap[w2.heap.size]? = some (.cells #[.slice va fl.length vb, .int .i64 root, .int .i64 next] 24 (0, 0)) ∧ w'.heap[w.heap.size]? = some (.cells #[.slice (some ⟨b, 0, none⟩) N.length vc, .int .i64 root, .int .i64 next] 24 (0, 0)) ∧ w'.heap[b]? = wz.heap[b]?) 10 (by kernel_rfl) ?_
          show Rg.Till _ _ _ _ _ 11 (Array.replicate 11 false) _ _
          refine Rg.Till.take (i := 0) (v := .pointer (some ⟨w2.heap.size, 0, none⟩)) (some 32) rfl rfl (by kernel_rfl) (by kernel_rfl) (fun _ _ _ h => h) (by kernel_rfl) (by kernel_rfl) (Or.inl ⟨rfl, fun w' hS => ?_⟩) HS0 ?_
          · obtain ⟨y0, y1, y2⟩ := three hS.1; obtain ⟨u0, u1, u2⟩ := three hS.2.1; have v0 := cellc hS.2.2 r0; have v1 := cellc hS.2.2 r1; have v2 := cellc hS.2.2 r2; have v3 := cellc hS.2.2 r3; have v4 := cellc hS.2.2 r4; have v5 := cellc hS.2.2 r5; have v6 := cellc hS.2.2 r6; go_simp
          simp only [Act.put, List.setIfInBounds_toArray, List.set_cons_zero, List.set_cons_succ]
          refine Rg.Till.take (i := 1) (v := .slice va fl.length vb) (some 33) rfl rfl (by kernel_rfl) (by kernel_rfl) (fun _ _ _ h => h) (by kernel_rfl) (by kernel_rfl) (Or.inl ⟨rfl, fun w' hS => ?_⟩) HS0 ?_
          · obtain ⟨y0, y1, y2⟩ := three hS.1; obtain ⟨u0, u1, u2⟩ := three hS.2.1; have v0 := cellc hS.2.2 r0; have v1 := cellc hS.2.2 r1; have v2 := cellc hS.2.2 r2; have v3 := cellc hS.2.2 r3; have v4 := cellc hS.2.2 r4; have v5 := cellc hS.2.2 r5; have v6 := cellc hS.2.2 r6; go_simp
          simp only [Act.put, List.setIfInBounds_toArray, List.set_cons_zero, List.set_cons_succ]
          refine Rg.Till.take (i := 2) (v := .pointer (some ⟨w.heap.size, 0, none⟩)) (some 34) rfl rfl (by kernel_rfl) (by kernel_rfl) (fun _ _ _ h => h) (by kernel_rfl) (by kernel_rfl) (Or.inl ⟨rfl, fun w' hS => ?_⟩) HS0 ?_
          · obtain ⟨y0, y1, y2⟩ := three hS.1; obtain ⟨u0, u1, u2⟩ := three hS.2.1; have v0 := cellc hS.2.2 r0; have v1 := cellc hS.2.2 r1; have v2 := cellc hS.2.2 r2; have v3 := cellc hS.2.2 r3; have v4 := cellc hS.2.2 r4; have v5 := cellc hS.2.2 r5; have v6 := cellc hS.2.2 r6; go_simp
          simp only [Act.put, List.setIfInBounds_toArray, List.set_cons_zero, List.set_cons_succ]
          refine Rg.Till.take (i := 3) (v := .slice (some ⟨b, 0, none⟩) N.length vc) (some 35) rfl rfl (by kernel_rfl) (by kernel_rfl) (fun _ _ _ h => h) (by kernel_rfl) (by kernel_rfl) (Or.inl ⟨rfl, fun w' hS => ?_⟩) HS0 ?_
          · obtain ⟨y0, y1, y2⟩ := three hS.1; obtain ⟨u0, u1, u2⟩ := three hS.2.1; have v0 := cellc hS.2.2 r0; have v1 := cellc hS.2.2 r1; have v2 := cellc hS.2.2 r2; have v3 := cellc hS.2.2 r3; have v4 := cellc hS.2.2 r4; have v5 := cellc hS.2.2 r5; have v6 := cellc hS.2.2 r6; go_simp
          simp only [Act.put, List.setIfInBounds_toArray, List.set_cons_zero, List.set_cons_succ]
          refine Rg.Till.take (i := 4) (v := .int .i64 (i : Int)) (some 36) rfl rfl (by kernel_rfl) (by kernel_rfl) (fun _ _ _ h => h) (by kernel_rfl) (by kernel_rfl) (Or.inl ⟨rfl, fun w' hS => ?_⟩) HS0 ?_
          · obtain ⟨y0, y1, y2⟩ := three hS.1; obtain ⟨u0, u1, u2⟩ := three hS.2.1; have v0 := cellc hS.2.2 r0; have v1 := cellc hS.2.2 r1; have v2 := cellc hS.2.2 r2; have v3 := cellc hS.2.2 r3; have v4 := cellc hS.2.2 r4; have v5 := cellc hS.2.2 r5; have v6 := cellc hS.2.2 r6; go_simp
          simp only [Act.put, List.setIfInBounds_toArray, List.set_cons_zero, List.set_cons_succ]
          refine Rg.Till.take (i := 5) (v := .pointer (some ⟨b, i * 7, none⟩)) (some 37) rfl rfl (by kernel_rfl) (by kernel_rfl) (fun _ _ _ h => h) (by kernel_rfl) (by kernel_rfl) (Or.inl ⟨rfl, fun w' hS => ?_⟩) HS0 ?_
          · obtain ⟨y0, y1, y2⟩ := three hS.1; obtain ⟨u0, u1, u2⟩ := three hS.2.1; have v0 := cellc hS.2.2 r0; have v1 := cellc hS.2.2 r1; have v2 := cellc hS.2.2 r2; have v3 := cellc hS.2.2 r3; have v4 := cellc hS.2.2 r4; have v5 := cellc hS.2.2 r5; have v6 := cellc hS.2.2 r6; go_simp
          simp only [Act.put, List.setIfInBounds_toArray, List.set_cons_zero, List.set_cons_succ]
          refine Rg.Till.take (i := 6) (v := .agg #[.int .i64 m.id, .int .i64 m.par, .string m.tag, .string m.key, .string m.txt, .slice aa m.ats.length ac, .slice ka m.kids.length kc]) (some 38) rfl rfl (by kernel_rfl) (by kernel_rfl) (fun _ _ _ h => h) (by kernel_rfl) (by kernel_rfl) (Or.inl ⟨rfl, fun w' hS => ?_⟩) HS0 ?_
          · obtain ⟨y0, y1, y2⟩ := three hS.1; obtain ⟨u0, u1, u2⟩ := three hS.2.1; have v0 := cellc hS.2.2 r0; have v1 := cellc hS.2.2 r1; have v2 := cellc hS.2.2 r2; have v3 := cellc hS.2.2 r3; have v4 := cellc hS.2.2 r4; have v5 := cellc hS.2.2 r5; have v6 := cellc hS.2.2 r6; go_simp
          simp only [Act.put, List.setIfInBounds_toArray, List.set_cons_zero, List.set_cons_succ]
          refine Rg.Till.oneK (i := 7) (by kernel_rfl) rfl rfl ?_
          intro K hK
          go_simp
          have hbz : b < wz.heap.size := by have h1 := HBB.out.2; have h2 := W2S.out; have h3 := BL.out.size; omega
          have BA : Below wz.heap.size wz ((wz.alloc (.cells #[.int .i64 m.id, .int .i64 m.par, .string m.tag, .string m.key, .string m.txt, .slice aa m.ats.length ac, .slice ka m.kids.length kc] 56)).drew) := (below_one _ _).drew
          have HS1 : (fun w' : World => w'.heap[w2.heap.size]? = some (.cells #[.slice va fl.length vb, .int .i64 root, .int .i64 next] 24 (0, 0)) ∧ w'.heap[w.heap.size]? = some (.cells #[.slice (some ⟨b, 0, none⟩) N.length vc, .int .i64 root, .int .i64 next] 24 (0, 0)) ∧ w'.heap[b]? = wz.heap[b]?) ((wz.alloc (.cells #[.int .i64 m.id, .int .i64 m.par, .string m.tag, .string m.key, .string m.txt, .slice aa m.ats.length ac, .slice ka m.kids.length kc] 56)).drew) := ⟨(BA.block _ (lt_of_block HT1z.out)).trans HT1z.out, (BA.block _ (lt_of_block XSz.out)).trans XSz.out, BA.block _ hbz⟩
          refine hK.out _ _ (fun _ => HS1) ?_
          clear hK K
          refine Rg.Till.oneK (i := 8) (by kernel_rfl) rfl rfl ?_
          intro K hK
          have HR1 : ((wz.alloc (.cells #[.int .i64 m.id, .int .i64 m.par, .string m.tag, .string m.key, .string m.txt, .slice aa m.ats.length ac, .slice ka m.kids.length kc] 56)).drew).ownsRow w2.heap.size 56 7 (.slice va fl.length vb) fl.length rw0 := ownsRow_same HRWz.out fun g hg => BA.block g (HRWz.out.lt g hg).2
          have hsz : w2.heap.size ≤ ((wz.alloc (.cells #[.int .i64 m.id, .int .i64 m.par, .string m.tag, .string m.key, .string m.txt, .slice aa m.ats.length ac, .slice ka m.kids.length kc] 56)).drew).heap.size := by have h1 := BL.out.size; have h2 := BA.size; omega
          refine Pg.op_pushN (d := some 40) rfl rfl _ _ rfl w2.heap.size (.slice va fl.length vb) fl.length rw0 rfl HR1 m aa m.ats.length ac ka m.kids.length kc ⟨wz.heap.size, 0, none⟩ 1 rfl (fun j u hj => newCells wz _ _ j u (by rw [← Array.getElem?_toList]; exact hj)) (by have := HLE.out; omega) hsz ?_
          intro v8 w8 q1 q2 q3
          obtain ⟨va8, vc8, rfl⟩ := slice_of_own q1
          have HS8 : (fun w' : World => w'.heap[w2.heap.size]? = some (.cells #[.slice va fl.length vb, .int .i64 root, .int .i64 next] 24 (0, 0)) ∧ w'.heap[w.heap.size]? = some (.cells #[.slice (some ⟨b, 0, none⟩) N.length vc, .int .i64 root, .int .i64 next] 24 (0, 0)) ∧ w'.heap[b]? = wz.heap[b]?) w8 := ⟨(q2.block _ (lt_of_block HS1.1) (fun e => Pg.rowNe HR1 HS1.1 e.symm)).trans HS1.1, (q2.block _ (lt_of_block HS1.2.1) (fun e => Pg.rowNe HR1 HS1.2.1 e.symm)).trans HS1.2.1, (q2.block _ (by have := BA.size; omega) (fun e => by have h1 := (HR1.lt _ e.symm).1; have h2 := HBB.out.2; have h3 := W2S.out; omega)).trans HS1.2.2⟩
          refine hK.out _ _ (fun _ => HS8) ?_
          clear hK K
          simp only [Act.put, List.setIfInBounds_toArray, List.set_cons_zero, List.set_cons_succ]
          refine Rg.Till.oneK (i := 9) (by kernel_rfl) rfl rfl ?_
          intro K hK
          go_simp
          refine hK.out _ _ (fun _ => HS8) ?_
          clear hK K
          obtain ⟨t0, -, -⟩ := three HS8.1
          have tf0 := (cell_of HS8.1 0).2
          refine Rg.Till.oneK (i := 10) (by kernel_rfl) rfl rfl ?_
          intro K hK
          go_simp
          refine hK.out _ _ (fun h => absurd rfl h) ?_
          clear hK K
          refine Rg.Till.done (by kernel_rfl) ?_
          have T10 : Hid ((w8.setCell ⟨w2.heap.size, 0, none⟩ (.slice va8 (fl.length + 1) vc8)).heap[w2.heap.size]? = some (.cells #[.slice va8 (fl.length + 1) vc8, .int .i64 root, .int .i64 next] 24 (0, 0))) := by show _ = _; rw [set_one_cell HS8.1]; simp
          have R10 : Hid ((w8.setCell ⟨w2.heap.size, 0, none⟩ (.slice va8 (fl.length + 1) vc8)).ownsRow w2.heap.size 56 7 (.slice va8 (fl.length + 1) vc8) (fl.length + 1) (rw0 ++ cellsN m (.slice aa m.ats.length ac) (.slice ka m.kids.length kc))) := ownsRow_same q1 fun g hg => heap_set_other _ (fun e => Pg.rowNe q1 HS8.1 (by rw [hg, e]))
          have b8 : Below w2.heap.size w2 w8 := (nxt BL.out BA).trans (grownB HR1 q2 hsz)
          have B10 : Hid (Below w2.heap.size w2 (w8.setCell ⟨w2.heap.size, 0, none⟩ (.slice va8 (fl.length + 1) vc8))) := ⟨b8.os, b8.tape, b8.output, by have := b8.size; simpa [World.setCell] using this, fun j hj => (heap_set_other _ (by omega)).trans (b8.block j hj)⟩
          clear HS0 HS1 HS8 HR1 q1 q2 q3 BA b8 t0 tf0 r0 r1 r2 r3 r4 r5 r6 hbz hsz
          generalize w8.setCell ⟨w2.heap.size, 0, none⟩ (.slice va8 (fl.length + 1) vc8) = W10 at *
          go_wp2_with fail
          go_roundw
          case rel => exact ⟨i + 1, _, by omega, by go_num, by rw [HTK.out]; exact HP2.out, by rw [HTK.out]; exact ⟨_, T10.out, by rw [HR2.out, List.length_append]; exact R10.out⟩, B10.out⟩
          case measure => simp [intOf]; omega
    · have HE : Hid (N.take i = N ∧ i = N.length) := ⟨List.take_of_length_le (by omega), by omega⟩
      obtain ⟨v, hT1, hT2⟩ := HT.out
      rw [HE.out.1] at hT2
      rw [HE.out.1, HE.out.2] at HPK
      have hL : (lf N x N).length ≤ N.length := List.length_filter_le _ _
      generalize lf N x N = L at *
      obtain ⟨va, vb, rfl⟩ := slice_of_own hT2
      have OL : Hid (Pg.OwnN wr B (.slice va L.length vb) L (fun j => ab (ix j)) (fun j => kb2 (ix j))) := O2.out.pick HPK.out HBR.out (rowLess hT2 (by have h1 := HB.out; have h2 := W2S.out; omega))
      have HT1 : Hid (wr.heap[w2.heap.size]? = some (.cells #[.slice va L.length vb, .int .i64 root, .int .i64 next] 24 (0, 0))) := hT1
      have HPL : Hid (Calls Tryz.prog 22 #[.agg #[.slice va L.length vb, .int .i64 root, .int .i64 next], .int .i64 root] wr fun e w' => e = .returned (.int .i64 (plI L root)) ∧ Below wr.heap.size wr w') := rplace_any ⟨L, root, next⟩ root va vb wr (OL.out.ds (by omega) hr hx)
      have BW : Hid (Below B w wr) := B2.out.trans (HBR.out.mono (by have h1 := HB.out; have h2 := W2S.out; omega))
      clear HT hT1 hT2 hL
      obtain ⟨t0, t1, t2⟩ := three HT1.out
      go_wp2_with fail
      refine HPL.out.mono ?_
      rintro e w5 ⟨rfl, hb5⟩
      have B5 : Hid (Below B w w5) := BW.out.trans (hb5.mono (by have h1 := HB.out; have h2 := W2S.out; have h3 := HBR.out.size; omega))
      have T5 : Hid (w5.heap[w2.heap.size]? = some (.cells #[.slice va L.length vb, .int .i64 root, .int .i64 next] 24 (0, 0))) := (hb5.block _ (lt_of_block HT1.out)).trans HT1.out
      have Z5 : Hid (w5.heap[w.heap.size + 1]? = some (.cells #[.slice none 0 0, .int .i64 0, .int .i64 0] 24 (0, 0))) := (hb5.block _ (lt_of_block XS.out.2)).trans XS.out.2
      have O5 : Hid (Pg.OwnN w5 B (.slice va L.length vb) L (fun j => ab (ix j)) (fun j => kb2 (ix j))) := OL.out.below hb5
      clear hb5 t0 t1 t2 x0 x1 x2
      obtain ⟨t0, t1, t2⟩ := three T5.out
      have tf1 := (cell_of T5.out 1).2
      obtain ⟨z0, z1, z2⟩ := three Z5.out
      have zf0 := (cell_of Z5.out 0).2
      have zf1 := (cell_of Z5.out 1).2
      have zf2 := (cell_of Z5.out 2).2
      have hb0 := HB.out
      have w2s := W2S.out
      cases hp : pl L root with
      | none =>
        rw [hp] at HGP
        simp only [if_true] at HGP
        rw [plI_none hp]
        clear hp
        have hb5 := B5.out
        have T6 : (w5.setCell ⟨w2.heap.size, 1, none⟩ (.int .i64 0)).heap[w2.heap.size]? = some (.cells #[.slice va L.length vb, .int .i64 0, .int .i64 next] 24 (0, 0)) := by rw [set_one_cell T5.out]; simp
        have Z6 : (w5.setCell ⟨w2.heap.size, 1, none⟩ (.int .i64 0)).heap[w.heap.size + 1]? = some (.cells #[.slice none 0 0, .int .i64 0, .int .i64 0] 24 (0, 0)) := (heap_set_other _ (by omega)).trans Z5.out
        have B6 : Below B w (w5.setCell ⟨w2.heap.size, 1, none⟩ (.int .i64 0)) := ⟨hb5.os, hb5.tape, hb5.output, by have := hb5.size; simpa [World.setCell] using this, fun j hj => (heap_set_other _ (by omega)).trans (hb5.block j hj)⟩
        have O6 : Pg.OwnN (w5.setCell ⟨w2.heap.size, 1, none⟩ (.int .i64 0)) B (.slice va L.length vb) L (fun j => ab (ix j)) (fun j => kb2 (ix j)) := O5.out.same fun b hb => heap_set_other _ (O5.out.notState T5.out hb)
        obtain ⟨f1, f2, f3⟩ := state_fin (v := .slice va L.length vb) (r := .int .i64 0) (n := .int .i64 next) Z6
        have F3 : Hid (Below B w _) := f3 B w (by omega) B6
        have F1 : Hid (_ = some (Obj.cells _ _ _)) := f1
        have O7 : Hid (Pg.OwnN ((((w5.setCell ⟨w2.heap.size, 1, none⟩ (.int .i64 0)).setCell ⟨w.heap.size + 1, 0, none⟩ (.slice va L.length vb)).setCell ⟨w.heap.size + 1, 1, none⟩ (.int .i64 0)).setCell ⟨w.heap.size + 1, 2, none⟩ (.int .i64 next)) B (.slice va L.length vb) L (fun j => ab (ix j)) (fun j => kb2 (ix j))) := O6.same fun b hb => f2 b (O6.notState Z6 hb)
        clear f1 f2 f3 T6 Z6 B6 O6 hb5
        go_wp2_with fail
        clear t0 t1 t2 tf1 z0 z1 z2 zf0 zf1 zf2
        generalize (((w5.setCell ⟨w2.heap.size, 1, none⟩ (.int .i64 0)).setCell ⟨w.heap.size + 1, 0, none⟩ (.slice va L.length vb)).setCell ⟨w.heap.size + 1, 1, none⟩ (.int .i64 0)).setCell ⟨w.heap.size + 1, 2, none⟩ (.int .i64 next) = W9 at *
        obtain ⟨c0, c1, c2⟩ := three F1.out
        refine bodyPost_ret (v := .agg #[.slice va L.length vb, .int .i64 0, .int .i64 next]) (by simp [results, Tryz.results23, go_sem, c0, c1, c2]) rfl ?_
        rw [HGP.out]
        exact ⟨_, _, _, rfl, O7.out, F3.out⟩
      | some q =>
        rw [hp] at HGP
        simp only [reduceCtorEq, if_false] at HGP
        rw [plI_some hp]
        have gq : decide ((q : Int) < 0) = false := decide_eq_false (by omega)
        clear hp
        obtain ⟨f1, f2, f3⟩ := state_fin (v := .slice va L.length vb) (r := .int .i64 root) (n := .int .i64 next) Z5.out
        have F3 : Hid (Below B w _) := f3 B w (by omega) B5.out
        have F1 : Hid (_ = some (Obj.cells _ _ _)) := f1
        have O7 : Hid (Pg.OwnN (((w5.setCell ⟨w.heap.size + 1, 0, none⟩ (.slice va L.length vb)).setCell ⟨w.heap.size + 1, 1, none⟩ (.int .i64 root)).setCell ⟨w.heap.size + 1, 2, none⟩ (.int .i64 next)) B (.slice va L.length vb) L (fun j => ab (ix j)) (fun j => kb2 (ix j))) := O5.out.same fun b hb => f2 b (O5.out.notState Z5.out hb)
        clear f1 f2 f3
        go_wp2_with fail
        clear t0 t1 t2 tf1 z0 z1 z2 zf0 zf1 zf2
        generalize ((w5.setCell ⟨w.heap.size + 1, 0, none⟩ (.slice va L.length vb)).setCell ⟨w.heap.size + 1, 1, none⟩ (.int .i64 root)).setCell ⟨w.heap.size + 1, 2, none⟩ (.int .i64 next) = W9 at *
        obtain ⟨c0, c1, c2⟩ := three F1.out
        refine bodyPost_ret (v := .agg #[.slice va L.length vb, .int .i64 root, .int .i64 next]) (by simp [results, Tryz.results23, go_sem, c0, c1, c2]) rfl ?_
        rw [HGP.out]
        exact ⟨_, _, _, rfl, O7.out, F3.out⟩
end Go.Proofs.YtcdnakcojanaeabGreat

/-
  The page's hang and gone under displays that may be: what the program's are.
-/
namespace Go.Proofs.YtcdnakcojanaeabGreat
open Go.ChangeShapes Go.WideShapes Go.ChangeAt Go.RowKit Go.Deep
open Do

namespace Do
/-- What the page tells of hanging p.id in m. -/
def hangEP (ns : List Nd) (root : Int) (m : Nd) (p : Pt) : Int :=
  if m.tag.size = 0 then 81 else if wiP ns p.id (ns.length + 1) p.par = true then 72 else if root = p.id then 9
  else if p.at_ < 0 ∨ ((lessZ m.kids p.id).length : Int) < p.at_ then 82 else if 32 ≤ (lessZ m.kids p.id).length then 3 else 0

def hungP (ns : List Nd) (m : Nd) (q t : Nat) (p : Pt) : List Nd :=
  match (offP ns p.id)[t]? with
  | none => ns
  | some m1 => match ((offP ns p.id).set t (m1.withKids (insZ (lessZ m.kids p.id) p.at_.toNat p.id)))[q]? with
    | none => ns
    | some n2 => ((offP ns p.id).set t (m1.withKids (insZ (lessZ m.kids p.id) p.at_.toNat p.id))).set q (n2.withPar p.par)

def hangP (s : Ds) (p : Pt) : Int × Ds :=
  match pl s.nodes p.id, pl s.nodes p.par with
  | some q, some t => match s.nodes[t]? with
    | some m => if hangEP s.nodes s.root m p = 0 then (0, ⟨hungP s.nodes m q t p, s.root, s.next⟩) else (hangEP s.nodes s.root m p, noD)
    | none => (71, noD)
  | _, _ => (71, noD)
end Do

namespace Do
theorem Out.zero' (ns : List Nd) : ∀ k, Out ns k 0
  | 0 => rfl
  | _ + 1 => Or.inl rfl

theorem wiP_iff {ns : List Nd} {y : Int} (hy : y ≠ 0) (h0 : nd ns 0 = none) : ∀ {k : Nat} {x : Int}, Out ns k x → (wiP ns y (k + 1) x = true ↔ Wi ns x y)
  | 0, x, h => by
    have hx : x = 0 := h
    subst hx
    simp only [wiP, if_true]
    exact ⟨fun h => (by cases h), fun h => absurd (h.zero h0) hy⟩
  | k + 1, x, h => by
    by_cases hx : x = 0
    · subst hx
      simp only [wiP, if_true]
      exact ⟨fun h => (by cases h), fun h => absurd (h.zero h0) hy⟩
    · by_cases hxy : x = y
      · subst hxy
        rw [show wiP ns x (k + 1 + 1) x = true by simp only [wiP, if_neg hx, if_true]]
        exact ⟨fun _ => .refl _, fun _ => rfl⟩
      · rcases h with h | ⟨q, n, h1, h2, h3⟩
        · exact absurd h hx
        · have hn := at_nd h1 h2
          have ih := wiP_iff hy h0 h3
          have e : wiP ns y (k + 1 + 1) x = wiP ns y (k + 1) n.par := by
            rw [wiP]
            rw [if_neg hx, if_neg hxy, h1]
            simp only
            rw [h2]
          rw [e, ih]
          exact ⟨fun h => .step hn h, fun h => h.inv hn hxy⟩

theorem Good.out_at {ns : List Nd} (h : Good ns) {x : Int} {n : Nd} (hx : nd ns x = some n) : Out ns ns.length x := by
  obtain ⟨k, hk⟩ := (h.at hx).out
  exact out_len hk

theorem off_is {ns : List Nd} (h : Good ns) {x : Int} {n : Nd} (hx : nd ns x = some n) : offQ ns x n.par = offN ns n := by
  have hid := (nd_some hx).2
  unfold offQ offN
  by_cases hp : n.par = 0
  · rw [if_pos hp, hp, nd_none.1 h.zero]
  · rw [if_neg hp, hid]
    cases pl ns n.par with
    | none => rfl
    | some q =>
      simp only
      cases ns[q]? with
      | none => rfl
      | some m => rfl

theorem offP_is {ns : List Nd} (h : Good ns) {x : Int} {q : Nat} {n : Nd} (hq : pl ns x = some q) (hn : ns[q]? = some n) : offP ns x = (offN ns n).set q (n.withPar 0) ∧ (offN ns n)[q]? = some n := by
  have hx := at_nd hq hn
  have h2 := at_off h.up n hq hn
  rw [offK_self h hx] at h2
  refine ⟨?_, h2⟩
  unfold offP
  rw [hq]
  simp only
  rw [hn]
  simp only
  rw [off_is h hx, h2]

theorem hungP_is {ns : List Nd} (h : Good ns) {n m : Nd} {q t : Nat} {p : Pt} (hq : pl ns p.id = some q) (hn : ns[q]? = some n) (ht : pl ns p.par = some t) (hm : ns[t]? = some m) (hne : p.par ≠ p.id) :
    hungP ns m q t p = hungN ns n m q t p := by
  obtain ⟨e1, h2⟩ := offP_is h hq hn
  have h1 := at_off h.up n ht hm
  have hqt : t ≠ q := by
    rintro rfl
    rw [hn] at hm
    cases hm
    have e1 := (nd_some (at_nd hq hn)).2
    have e2 := (nd_some (at_nd ht hn)).2
    exact hne (e2.symm.trans e1)
  have hql : q < (offN ns n).length := (List.getElem?_eq_some_iff.1 h2).1
  rw [hungN_eq h hq hn ht hm hne]
  unfold hungP
  rw [e1, List.getElem?_set_ne hqt.symm, h1]
  simp only
  have e : (offK n p.par m).withKids (insZ (lessZ m.kids p.id) p.at_.toNat p.id) = m.withKids (insZ (lessZ m.kids p.id) p.at_.toNat p.id) := by
    unfold offK
    split <;> rfl
  rw [e, List.getElem?_set_ne hqt, List.getElem?_set_self hql]
  simp only
  rw [List.set_comm _ _ hqt.symm, List.set_set]
  rfl

theorem hangE_is {s : Ds} (h : OkD s) {m : Nd} {q t : Nat} {p : Pt} {n : Nd} (hq : pl s.nodes p.id = some q) (hn : s.nodes[q]? = some n) (ht : pl s.nodes p.par = some t) (hm : s.nodes[t]? = some m) :
    hangEP s.nodes s.root m p = hangE s.nodes s.root m p := by
  have hy : p.id ≠ 0 := by have := (h.good.at (at_nd hq hn)).pos; omega
  have ho := h.good.out_at (at_nd ht hm)
  have h1 := wiP_iff hy h.good.zero ho
  have h2 := wiB_iff hy h.good.zero (ho.mono (Nat.le_succ _))
  have e : wiP s.nodes p.id (s.nodes.length + 1) p.par = wiB s.nodes p.id (s.nodes.length + 1) p.par := by
    rw [Bool.eq_iff_iff]
    exact h1.trans h2.symm
  have hk : (lessZ m.kids p.id).length ≤ 32 := by
    have h3 := (alone_iff.1 (h.good.alone m (List.mem_of_getElem? hm))).2.2
    have h4 : (lessZ m.kids p.id).length ≤ m.kids.length := List.length_filter_le _ _
    omega
  unfold hangEP hangE
  rw [e]
  by_cases c1 : m.tag.size = 0
  · rw [if_pos c1, if_pos c1]
  rw [if_neg c1, if_neg c1]
  by_cases c2 : wiB s.nodes p.id (s.nodes.length + 1) p.par = true
  · rw [if_pos c2, if_pos c2]
  rw [if_neg c2, if_neg c2]
  by_cases c3 : s.root = p.id
  · rw [if_pos c3, if_pos (show p.id = s.root from c3.symm)]
  rw [if_neg c3, if_neg (show ¬ p.id = s.root from fun e => c3 e.symm)]
  by_cases c4 : p.at_ < 0 ∨ ((lessZ m.kids p.id).length : Int) < p.at_
  · rw [if_pos c4, if_pos c4]
  rw [if_neg c4, if_neg c4]
  by_cases c5 : 32 ≤ (lessZ m.kids p.id).length
  · rw [if_pos c5, if_pos (by omega)]
  · rw [if_neg c5, if_neg (by omega)]

theorem hangP_is {s : Ds} (h : OkD s) (p : Pt) : hangP s p = errD (hangD s p) := by
  unfold hangP hangD
  cases hq : pl s.nodes p.id with
  | none => exact (errD_err (by decide)).symm
  | some q =>
    cases ht : pl s.nodes p.par with
    | none => exact (errD_err (by decide)).symm
    | some t =>
      obtain ⟨n, hn, -⟩ := pl_some hq
      obtain ⟨m, hm, -⟩ := pl_some ht
      simp only
      rw [hn, hm]
      simp only
      rw [hangE_is h hq hn ht hm]
      by_cases he : hangE s.nodes s.root m p = 0
      · rw [if_pos he, if_pos he, he, errD_zero]
        have hne : p.par ≠ p.id := by
          intro e
          unfold hangE at he
          rw [wiB_end (Or.inr e)] at he
          by_cases c1 : m.tag.size = 0
          · rw [if_pos c1] at he; cases he
          · rw [if_neg c1, if_pos (by simpa using e)] at he; cases he
        rw [hungP_is h.good hq hn ht hm hne]
      · rw [if_neg he, if_neg he, errD_err he]

/-! ### What is taken away -/
theorem filter_drop {α : Type} (p : α → Bool) : ∀ {l : List α} {q : Nat} {a b : α}, l[q]? = some a → p a = false → p b = false → (l.set q b).filter p = l.filter p
  | [], _, _, _, h, _, _ => by simp at h
  | c :: r, 0, a, b, h, ha, hb => by
    simp only [List.getElem?_cons_zero, Option.some.injEq] at h
    subst h
    simp [ha, hb]
  | c :: r, q + 1, a, b, h, ha, hb => by
    have ih := filter_drop p (l := r) (q := q) (a := a) (b := b) (by simpa using h) ha hb
    simp only [List.set_cons_succ, List.filter_cons, ih]

theorem gone_is {s : Ds} (h : OkD s) {p : Pt} {n : Nd} (hx : nd s.nodes p.id = some n) : awayD s p = (0, goneP s p.id) := by
  obtain ⟨q, hq, hn⟩ := nd_at hx
  have hid := (nd_some hx).2
  have hpos := (h.good.at hx).pos
  obtain ⟨e1, h2⟩ := offP_is h.good hq hn
  have hup := off_up h.good.up n
  have hmk := h.good.marks hx
  have hndN : ∀ y, nd (offP s.nodes p.id) y = if y = p.id then some (n.withPar 0) else (nd s.nodes y).map (offK n y) := fun y => by
    rw [e1, nd_set (m := n.withPar 0) hup h2 rfl y, hid, nd_off h.good.up]
  have h0 : nd (offP s.nodes p.id) 0 = none := by
    rw [hndN, if_neg (by omega), h.good.zero]
    rfl
  have hlen : (offP s.nodes p.id).length = s.nodes.length := offP_length _ _
  have hout : ∀ {k : Nat} {y : Int}, Out s.nodes k y → Out (offP s.nodes p.id) k y := by
    intro k
    induction k with
    | zero => intro y h; exact h
    | succ k ih =>
      intro y h
      rw [out_nd] at h ⊢
      rcases h with h | ⟨n', h3, h4⟩
      · exact Or.inl h
      · refine Or.inr ?_
        rw [hndN]
        by_cases e : y = p.id
        · rw [if_pos e]; exact ⟨_, rfl, Out.zero' _ _⟩
        · rw [if_neg e, h3]; exact ⟨_, rfl, by rw [offK_par]; exact ih h4⟩
  have hw1 : ∀ {y z : Int}, Wi (offP s.nodes p.id) y z → z = p.id → Wi s.nodes y p.id := by
    intro y z hw
    induction hw with
    | refl a => rintro rfl; exact .refl _
    | @step a b n' h3 h4 ih =>
      intro hz
      rw [hndN] at h3
      by_cases e : a = p.id
      · rw [e]; exact .refl _
      · rw [if_neg e] at h3
        cases h5 : nd s.nodes a with
        | none => rw [h5] at h3; cases h3
        | some n5 =>
          rw [h5] at h3
          simp only [Option.map_some, Option.some.injEq] at h3
          subst h3
          have ih := ih hz
          rw [offK_par] at ih
          exact .step h5 ih
  have hw2 : ∀ {y z : Int}, Wi s.nodes y z → z = p.id → Wi (offP s.nodes p.id) y p.id := by
    intro y z hw
    induction hw with
    | refl a => rintro rfl; exact .refl _
    | @step a b n' h3 h4 ih =>
      intro hz
      by_cases e : a = p.id
      · rw [e]; exact .refl _
      · refine .step (n := offK n a n') ?_ ?_
        · rw [hndN, if_neg e, h3]; rfl
        · rw [offK_par]; exact ih hz
  have hwi : ∀ y, Wi (offP s.nodes p.id) y p.id ↔ Wi s.nodes y p.id := fun y => ⟨fun h => hw1 h rfl, fun h => hw2 h rfl⟩
  have hpred : ∀ m ∈ offP s.nodes p.id, (!(wiP (offP s.nodes p.id) p.id ((offP s.nodes p.id).length + 1) m.id)) = !((markL (offN s.nodes n) (s.nodes.length + 1) p.id).contains m.id) := by
    intro m hm
    have hnm : ∃ m', nd s.nodes m.id = some m' := by
      have hu : Up (offP s.nodes p.id) := by rw [e1]; exact hup.set h2 rfl
      have h3 := nd_of hu hm
      rw [hndN] at h3
      by_cases e : m.id = p.id
      · exact ⟨n, by rw [e]; exact hx⟩
      · rw [if_neg e] at h3
        cases h5 : nd s.nodes m.id with
        | none => rw [h5] at h3; cases h3
        | some n5 => exact ⟨n5, rfl⟩
    obtain ⟨m', hm'⟩ := hnm
    have ho := hout (h.good.out_at hm')
    rw [hlen]
    have h3 := wiP_iff (y := p.id) (by omega) h0 ho
    congr 1
    rw [Bool.eq_iff_iff, h3, hwi, List.contains_iff_mem, hmk]
  have hself : p.id ∈ markL (offN s.nodes n) (s.nodes.length + 1) p.id := (hmk _).2 (.refl _)
  have hlf : lf (offP s.nodes p.id) p.id (offP s.nodes p.id) = leftN (offN s.nodes n) (markL (offN s.nodes n) (s.nodes.length + 1) p.id) := by
    unfold lf leftN
    rw [List.filter_congr hpred]
    rw [e1]
    refine filter_drop _ h2 ?_ ?_
    · rw [hid]; simpa using hself
    · show (!((markL (offN s.nodes n) (s.nodes.length + 1) p.id).contains n.id)) = false
      rw [hid]; simpa using hself
  unfold awayD goneP
  rw [hx]
  simp only
  rw [hlf]
  have hroot : (if p.id ≠ 0 ∧ s.root ∈ markL (offN s.nodes n) (s.nodes.length + 1) p.id then 0 else s.root) = (if pl (leftN (offN s.nodes n) (markL (offN s.nodes n) (s.nodes.length + 1) p.id)) s.root = none then 0 else s.root) := by
    rcases h.root with hr | ⟨m, hm, -, -⟩
    · rw [hr]; split <;> split <;> rfl
    · have h3 := nd_left (offN s.nodes n) (markL (offN s.nodes n) (s.nodes.length + 1) p.id) s.root
      by_cases hin : s.root ∈ markL (offN s.nodes n) (s.nodes.length + 1) p.id
      · rw [if_pos hin] at h3
        rw [if_pos ⟨by omega, hin⟩, if_pos (nd_none.1 h3)]
      · rw [if_neg hin, nd_off h.good.up, hm] at h3
        rw [if_neg (fun h => hin h.2), if_neg (fun h => by rw [nd_none.2 h] at h3; cases h3)]
  rw [hroot]
end Do
end Go.Proofs.YtcdnakcojanaeabGreat
