/-
  The program's setText (what a patch 6 does).
-/
import Derived.Test.YtcdnakcojanaeabGreatDoHang
import Derived.Lib.Bytealg
namespace Go.Proofs.YtcdnakcojanaeabGreat
open Go.ChangeShapes Go.WideShapes Go.ChangeAt Go.RowKit Go.Deep
open Do

/-- A node with another text. -/
def Do.Nd.withTxt (n : Nd) (x : ByteArray) : Nd := { n with txt := x }

/-- What 6 does. -/
def Do.textD (s : Ds) (p : Pt) : Int × Ds := match pl s.nodes p.id with
  | none => (71, s)
  | some q => match s.nodes[q]? with
    | none => (71, s)
    | some n => if n.tag.size = 0 then (if 128 < p.txt.size then (5, s) else (0, ⟨s.nodes.set q (n.withTxt p.txt), s.root, s.next⟩)) else (81, s)

theorem rowN_setT : ∀ (ns : List Nd) (ab kb : Nat → Value) (q : Nat) (n : Nd) (x : ByteArray), ns[q]? = some n → (rowN ns ab kb).set (q * 7 + 4) (.string x) = rowN (ns.set q (n.withTxt x)) ab kb
  | [], _, _, _, _, _, h => by simp at h
  | m :: r, ab, kb, 0, n, x, h => by
    simp only [List.getElem?_cons_zero, Option.some.injEq] at h
    subst h
    simp only [rowN, List.set_cons_zero, Nat.zero_mul, Nat.zero_add]
    rw [List.set_append_left _ _ (by rw [cellsN_length]; omega)]
    simp [cellsN, Nd.withTxt]
  | m :: r, ab, kb, q + 1, n, x, h => by
    have ih := rowN_setT r (fun j => ab (j + 1)) (fun j => kb (j + 1)) q n x (by simpa using h)
    simp only [rowN, List.set_cons_succ]
    have e1 : (q + 1) * 7 + 4 - 7 = q * 7 + 4 := by omega
    rw [List.set_append_right _ _ (by rw [cellsN_length]; omega), cellsN_length, e1, ih]

theorem OwnN.setT {w : World} {B g c l : Nat} {ns : List Nd} {ab kb : Nat → Value} (h : OwnN w B (.slice (some ⟨g, 0, none⟩) l c) ns ab kb) {q : Nat} {n : Nd} (hq : ns[q]? = some n) {x : ByteArray} (hx : x.size ≤ 140737488351232) :
    OwnN (w.setCell ⟨g, q * 7 + 4, none⟩ (.string x)) B (.slice (some ⟨g, 0, none⟩) l c) (ns.set q (n.withTxt x)) ab kb := by
  obtain ⟨cur, hcur⟩ := h.rowBlock
  have hlen : (ns.set q (n.withTxt x)).length = ns.length := by simp
  refine ⟨?_, ?_, ?_, by rw [hlen]; exact h.apa, by rw [hlen]; exact h.apk, ?_⟩
  · rw [hlen, ← rowN_setT ns ab kb q n x hq]
    exact ownsRow_set h.row _ _
  · intro i m hm
    have ho : OwnA w B (ab i) m.ats := by
      rcases get_set_cases hm with ⟨rfl, rfl⟩ | ⟨hi, hm⟩
      · exact h.ats i n hq
      · exact h.ats i m hm
    refine ho.same fun b hb => heap_set_other _ ?_
    rintro rfl
    obtain ⟨cu, hc, -⟩ := ho.block hb
    rw [hcur] at hc
    simp at hc
  · intro i m hm
    have ho : OwnZ w B (kb i) m.kids := by
      rcases get_set_cases hm with ⟨rfl, rfl⟩ | ⟨hi, hm⟩
      · exact h.kids i n hq
      · exact h.kids i m hm
    refine ho.same fun b hb => heap_set_other _ ?_
    rintro rfl
    obtain ⟨cu, hc, -⟩ := ho.block hb
    rw [hcur] at hc
    simp at hc
  · intro m hm
    rcases List.mem_or_eq_of_mem_set hm with hm | rfl
    · exact h.fit m hm
    · have hf := h.fit n (List.mem_of_getElem? hq)
      obtain ⟨n1, n2, n3, n4, n5⟩ := hf.node
      exact ⟨hf.id, hf.par, ⟨n1, n2, hx, n4, n5⟩, hf.atr, hf.kids⟩

set_option maxRecDepth 100000 in
set_option maxHeartbeats 1600000 in
theorem setText_any (s : Ds) (p : Pt) (B P : Nat) (w : World) (hs : DsAt w B P s) (hp : PtOk p) (hB : B ≤ w.heap.size) (hn : s.nodes.length ≤ 1024) (hu : Up s.nodes) :
    Calls Tryz.prog 44 #[.pointer (some ⟨P, 0, none⟩), mkP p] w fun e w' => PtPost w w' B P e (textD s p) := by
  obtain ⟨v, ab, kb, hP, hO, hBP⟩ := hs
  obtain ⟨va, vc, hvs⟩ := hO.shape
  subst hvs
  have HO : Hid (OwnN w B (.slice va s.nodes.length vc) s.nodes ab kb) := hO
  have HP : Hid (w.heap[P]? = some (.cells #[.slice va s.nodes.length vc, .int .i64 s.root, .int .i64 s.next] 30 (0, 0))) := hP
  have HBP : Hid (B ≤ P) := hBP
  have HU : Hid (Up s.nodes) := hu
  have hPl : P < w.heap.size := lt_of_block hP
  have HTX : Hid (p.txt.size ≤ 140737488351232) := hp.txt
  obtain ⟨ns, root, next⟩ := s
  obtain ⟨pw, pi, pp, pat, pg, pk, pt, pn, pv⟩ := p
  simp only at *
  clear hP hO hBP hu hp
  have KP : Hid (∀ W, Below w.heap.size w W → W.heap[P]? = some (.cells #[.slice va ns.length vc, .int .i64 root, .int .i64 next] 30 (0, 0))) := fun W hb => (hb.block _ hPl).trans HP.out
  have HSTAY : Hid (∀ W, Below w.heap.size w W → DsAt W B P ⟨ns, root, next⟩ ∧ Below B w W) := fun W hb => ⟨⟨_, ab, kb, KP.out W hb, HO.out.below hb, HBP.out⟩, hb.mono hB⟩
  have HFI : Hid (∀ W, Below w.heap.size w W → Calls Tryz.prog 54 #[.slice va ns.length vc, .int .i64 pi] W fun e w' => ∃ v, e = .returned v ∧ FindIs va ns pi v ∧ Below W.heap.size W w') := fun W hb => find_any ns pi va vc W (HO.out.below hb).lay HU.out hn
  obtain ⟨W1, hW1⟩ : ∃ W : World, W = w.alloc (.cells #[.int .i64 pw, .int .i64 pi, .int .i64 pp, .int .i64 pat, .string pg, .string pk, .string pt, .string pn, .string pv] 35) := ⟨_, rfl⟩
  have B1 : Hid (Below w.heap.size w W1) := by show Below _ _ _; rw [hW1]; exact below_one _ _
  have X1 : Hid (W1.heap[w.heap.size]? = some (.cells #[.int .i64 pw, .int .i64 pi, .int .i64 pp, .int .i64 pat, .string pg, .string pk, .string pt, .string pn, .string pv] 35 (0, 0))) := by show _ = _; rw [hW1]; exact heap_alloc_new _ _
  go_enter Tryz.func44, Tryz.ntmps44
  go_wp2_with fail
  rw [← hW1]
  clear hW1
  obtain ⟨-, y1, -, -, -, -, -, -, -⟩ := nine X1.out
  obtain ⟨p0, p1, p2⟩ := three (KP.out _ B1.out)
  have y1' : W1.drew.cell? ⟨w.heap.size, 1, none⟩ = some (.int .i64 pi) := y1
  have p0' : W1.drew.cell? ⟨P, 0, none⟩ = some (.slice va ns.length vc) := p0
  go_region_held3 (fun w' => w'.cell? ⟨w.heap.size, 1, none⟩ = some (.int .i64 pi) ∧ w'.cell? ⟨P, 0, none⟩ = some (.slice va ns.length vc)) (go_keep) ((go_at_call 54; refine (HFI.out W1.drew B1.out.drew).mono ?_; rintro e w2 ⟨fv, rfl, hfi, hb2⟩; have u1 := keepc hb2 _ _ y1'; have u0 := keepc hb2 _ _ p0'))
  have B2 : Hid (Below w.heap.size w w2) := nxt B1.out.drew hb2
  have X2 : Hid (w2.heap[w.heap.size]? = _) := (hb2.block _ (lt_of_block X1.out)).trans X1.out
  clear hb2 u1 u0 y1 p0 p1 p2 y1' p0'
  unfold FindIs at hfi
  cases hp : pl ns pi with
  | none =>
    rw [hp] at hfi
    simp only at hfi
    subst hfi
    have HR : Hid (textD ⟨ns, root, next⟩ ⟨pw, pi, pp, pat, pg, pk, pt, pn, pv⟩ = (71, ⟨ns, root, next⟩)) := by show _ = _; unfold textD; simp only; rw [hp]
    clear hp
    go_wp2_with fail
    go_ret
    rw [HR.out]
    exact ⟨rfl, HSTAY.out _ B2.out⟩
  | some q =>
    rw [hp] at hfi
    simp only at hfi
    obtain ⟨b, o, ha, rfl⟩ := hfi
    obtain ⟨m, hm1, hm2⟩ := pl_some hp
    have O2 : Hid (OwnN w2 B (.slice va ns.length vc) ns ab kb) := HO.out.below B2.out
    subst ha
    obtain ⟨g, hg, r0, r1, r2, r3, r4, r5, r6⟩ := rowN_cells O2.out.row hm1
    cases hg
    rw [Nat.zero_add]
    obtain ⟨mka, mkc, hmk⟩ := (O2.out.kids q m hm1).shape
    obtain ⟨maa, mac, hma⟩ := (O2.out.ats q m hm1).shape
    rw [hmk] at r6
    rw [hma] at r5
    have HM : Hid (ns[q]? = some m) := hm1
    have HRE : Hid (textD ⟨ns, root, next⟩ ⟨pw, pi, pp, pat, pg, pk, pt, pn, pv⟩ = if m.tag.size = 0 then (if 128 < pt.size then (5, ⟨ns, root, next⟩) else (0, ⟨ns.set q (m.withTxt pt), root, next⟩)) else (81, ⟨ns, root, next⟩)) := by show _ = _; unfold textD; simp only; rw [hp]; simp only; rw [hm1]
    clear hm1 hm2 hp hmk hma
    have CI : Hid (∀ W, Calls Tryz.prog 56 #[mkN m.id m.par m.tag m.key m.txt maa m.ats.length mac mka m.kids.length mkc] W _) := fun W => istextN_any m.id m.par m.tag m.key m.txt maa m.ats.length mac mka m.kids.length mkc W
    by_cases hg : m.tag.size = 0
    · rw [if_pos hg] at HRE
      have CJ : Hid (∀ W, Calls Tryz.prog 56 #[mkN m.id m.par m.tag m.key m.txt maa m.ats.length mac mka m.kids.length mkc] W fun e w' => e = .returned (.bool true) ∧ Below W.heap.size W w') := fun W => by have := CI.out W; rwa [empty_true hg] at this
      clear CI
      go_wp2_with fail
      refine (CJ.out _).mono ?_
      rintro e w3 ⟨rfl, hb3⟩
      have B3 : Hid (Below w.heap.size w w3) := nxt B2.out hb3
      have X3 := (hb3.block _ (lt_of_block X2.out)).trans X2.out
      obtain ⟨-, -, -, -, -, -, y6, -, -⟩ := nine X3
      have q4 := keepc hb3 _ _ r4
      have O3 : Hid (OwnN w3 B (.slice (some ⟨b, 0, none⟩) ns.length vc) ns ab kb) := O2.out.below hb3
      have f4 := own_frozen O3.out.row (q * 7 + 4)
      clear hb3 r0 r1 r2 r3 r4 r5 r6 X3 CJ hg
      by_cases hl : 128 < pt.size
      · rw [if_pos hl] at HRE
        have g1 : decide ((128 : Int) < (pt.size : Int)) = true := decide_eq_true (by omega)
        clear hl
        go_wp2_with fail
        go_ret
        rw [HRE.out]
        exact ⟨rfl, HSTAY.out _ B3.out⟩
      · rw [if_neg hl] at HRE
        have g1 : decide ((128 : Int) < (pt.size : Int)) = false := decide_eq_false (by omega)
        have HFIN : Hid (PtPost w (w3.setCell ⟨b, q * 7 + 4, none⟩ (.string pt)) B P (.returned (.int .i64 0)) (textD ⟨ns, root, next⟩ ⟨pw, pi, pp, pat, pg, pk, pt, pn, pv⟩)) := by
          show PtPost _ _ _ _ _ _
          rw [HRE.out]
          have hPb : P ≠ b := by
            rintro rfl
            obtain ⟨cur, hcur⟩ := HO.out.rowBlock
            rw [HP.out] at hcur
            simp at hcur
          have hbb := HO.out.foot (b := b) (Or.inl rfl)
          have hb' := B3.out.mono hB
          refine ⟨rfl, ⟨_, _, _, (heap_set_other _ hPb).trans (KP.out _ B3.out), O3.out.setT HM.out HTX.out, HBP.out⟩, ⟨hb'.os, hb'.tape, hb'.output, by have := hb'.size; simpa [World.setCell] using this, fun j hj => (heap_set_other _ (by omega)).trans (hb'.block j hj)⟩⟩
        clear hl
        go_wp2_with fail
        go_ret
        exact HFIN.out
    · rw [if_neg hg] at HRE
      have CJ : Hid (∀ W, Calls Tryz.prog 56 #[mkN m.id m.par m.tag m.key m.txt maa m.ats.length mac mka m.kids.length mkc] W fun e w' => e = .returned (.bool false) ∧ Below W.heap.size W w') := fun W => by have := CI.out W; rwa [empty_false hg] at this
      clear CI hg
      go_wp2_with (go_at_call 56; refine (CJ.out _).mono ?_; rintro e w3 ⟨rfl, hb3⟩; have B3 : Hid (Below w.heap.size w w3) := nxt B2.out hb3; clear hb3)
      go_ret
      rw [HRE.out]
      exact ⟨rfl, HSTAY.out _ B3.out⟩
end Go.Proofs.YtcdnakcojanaeabGreat

/-
  The program's isName.
-/
namespace Go.Proofs.YtcdnakcojanaeabGreat
open Go.ChangeShapes Go.WideShapes Go.ChangeAt Go.RowKit Go.Deep
open Do

/-- May it be a name. -/
def nmD (g : ByteArray) : Bool := if g.size = 0 then false else plainB g eB eB []

theorem wk_leaf1 (g k t : ByteArray) (ats : List Atr) : wk (leaf g k t ats) 1 0 = if plainB g k t ats = true then (0, 1, 1) else (9, 0, 1) := by
  have h := wk_node (n := 0) g k t ats ([] : List (T 0)) 1 0
  rw [if_neg (by decide), if_neg (by decide), List.length_nil, nodeB_zero] at h
  have e4 : ¬ twB (keysT ([] : List (T 0))) = true := by simp [twB, keysT]
  rw [if_neg e4] at h
  refine h.trans ?_
  cases plainB g k t ats with
  | true => rfl
  | false => rfl

theorem leaf_size (g : ByteArray) : (sizeT (leaf g eB eB [])).1 = if nmD g = true then 0 else 9 := by
  have e7 : sizeT (leaf g eB eB []) = if g.size = 0 then (9, 0, 0) else if (wk (leaf g eB eB []) 1 0).1 = 0 then wk (leaf g eB eB []) 1 0 else ((wk (leaf g eB eB []) 1 0).1, 0, 0) := rfl
  rw [e7, wk_leaf1]
  unfold nmD
  by_cases h : g.size = 0
  · rw [if_pos h, if_pos h]
    simp
  · rw [if_neg h, if_neg h]
    cases plainB g eB eB [] <;> simp

set_option maxRecDepth 100000 in
set_option maxHeartbeats 800000 in
theorem isNameD_any (g : ByteArray) (w : World) (hg : g.size ≤ 140737488351232) :
    Calls Tryz.prog 73 #[.string g] w fun e w' => e = .returned (.bool (nmD g)) ∧ Below w.heap.size w w' := by
  have HC : Hid (Calls Tryz.prog 55 #[mkT g eB eB none 0 0 none 0 0] w fun e w' => e = .returned (.int .i64 (if nmD g = true then 0 else 9)) ∧ Below w.heap.size w w') := by
    have h := check_any 1 (leaf g eB eB []) (mkT g eB eB none 0 0 none 0 0) w ⟨none, 0, none, 0, rfl, ⟨hg, by decide, by decide, Nat.le_refl _, Nat.zero_le _, Nat.zero_le _, Nat.le_refl _, Nat.zero_le _, Nat.zero_le _⟩, fun _ => ⟨rfl, rfl⟩, fun _ => ⟨rfl, rfl⟩, fun i s hi => (by cases i <;> cases hi), fun i u hi => (by cases i <;> cases hi)⟩
    rw [leaf_size] at h
    exact h
  go_enter Tryz.func73, Tryz.ntmps73
  go_wp2_with fail
  refine HC.out.mono ?_
  rintro e w2 ⟨rfl, hb2⟩
  have HB2 : Hid (Below w.heap.size w w2) := hb2
  cases hn : nmD g with
  | true =>
    rw [if_pos rfl]
    have HN : Hid (nmD g = true) := hn
    clear hb2 hn
    go_wp2_with fail
    go_ret
    rw [HN.out]
    exact ⟨rfl, HB2.out⟩
  | false =>
    rw [if_neg (by simp)]
    have HN : Hid (nmD g = false) := hn
    clear hb2 hn
    go_wp2_with fail
    go_ret
    rw [HN.out]
    exact ⟨rfl, HB2.out⟩
end Go.Proofs.YtcdnakcojanaeabGreat

/-
  Two texts compared by the library; the function that attrPlace searches by.
-/
namespace Go.Proofs.YtcdnakcojanaeabGreat
open Go.ChangeShapes Go.WideShapes Go.ChangeAt Go.RowKit Go.Deep
open Do

/-- How two texts lie: less than 0, 0, more than 0. -/
def cmB (a b : ByteArray) : Int := Go.Lib.compareBytes a.data.toList b.data.toList

theorem cmL_rng : ∀ (a b : List UInt8), -1 ≤ Go.Lib.compareBytes a b ∧ Go.Lib.compareBytes a b ≤ 1
  | [], [] => by simp [Go.Lib.compareBytes]
  | [], _ :: _ => by simp [Go.Lib.compareBytes]
  | _ :: _, [] => by simp [Go.Lib.compareBytes]
  | a :: ra, b :: rb => by
    have := cmL_rng ra rb
    unfold Go.Lib.compareBytes
    split
    · omega
    · split <;> omega

theorem cmL_eq : ∀ (a b : List UInt8), Go.Lib.compareBytes a b = 0 ↔ a = b
  | [], [] => by simp [Go.Lib.compareBytes]
  | [], _ :: _ => by simp [Go.Lib.compareBytes]
  | _ :: _, [] => by simp [Go.Lib.compareBytes]
  | a :: ra, b :: rb => by
    have ih := cmL_eq ra rb
    unfold Go.Lib.compareBytes
    by_cases h1 : a < b
    · rw [if_pos h1]
      have hne : a ≠ b := by rintro rfl; exact UInt8.lt_irrefl _ h1
      simp [hne]
    · rw [if_neg h1]
      by_cases h2 : b < a
      · rw [if_pos h2]
        have hne : a ≠ b := by rintro rfl; exact UInt8.lt_irrefl _ h2
        simp [hne]
      · rw [if_neg h2, ih]
        have he : a = b := UInt8.le_antisymm (UInt8.not_lt.1 h2) (UInt8.not_lt.1 h1)
        simp [he]

theorem cmB_eq {a b : ByteArray} : cmB a b = 0 ↔ a = b := by
  unfold cmB
  rw [cmL_eq]
  constructor
  · intro h
    obtain ⟨⟨la⟩⟩ := a
    obtain ⟨⟨lb⟩⟩ := b
    simp only at h
    rw [h]
  · rintro rfl
    rfl

theorem cmL_trans : ∀ (a b c : List UInt8), Go.Lib.compareBytes a b < 0 → Go.Lib.compareBytes b c < 0 → Go.Lib.compareBytes a c < 0
  | [], [], _ => by intro h; simp [Go.Lib.compareBytes] at h
  | _ :: _, [], _ => by intro h; simp [Go.Lib.compareBytes] at h
  | _, _ :: _, [] => by intro _ h; simp [Go.Lib.compareBytes] at h
  | [], _ :: _, _ :: _ => by simp [Go.Lib.compareBytes]
  | a :: ra, b :: rb, c :: rc => by
    have ih := cmL_trans ra rb rc
    unfold Go.Lib.compareBytes
    intro h1 h2
    by_cases ab : a < b
    · by_cases bc : b < c
      · rw [if_pos (UInt8.lt_trans ab bc)]; omega
      · rw [if_neg bc] at h2
        by_cases cb : c < b
        · rw [if_pos cb] at h2; omega
        · have he : b = c := UInt8.le_antisymm (UInt8.not_lt.1 cb) (UInt8.not_lt.1 bc)
          subst he
          rw [if_pos ab]; omega
    · rw [if_neg ab] at h1
      by_cases ba : b < a
      · rw [if_pos ba] at h1; omega
      · have he : a = b := UInt8.le_antisymm (UInt8.not_lt.1 ba) (UInt8.not_lt.1 ab)
        subst he
        rw [if_neg ba] at h1
        by_cases bc : a < c
        · rw [if_pos bc]; omega
        · rw [if_neg bc] at h2 ⊢
          by_cases cb : c < a
          · rw [if_pos cb] at h2; omega
          · rw [if_neg cb] at h2 ⊢
            exact ih h1 h2

theorem cmB_trans {a b c : ByteArray} (h1 : cmB a b < 0) (h2 : cmB b c < 0) : cmB a c < 0 := cmL_trans _ _ _ h1 h2

theorem cmx_run (args : Array Value) (w : World) : (callFunc 98 args).run Tryz.prog w = ((Extern.BytealgCompare.compare args).run Tryz.prog w).andThen fun v w' => .ok (.value v) w' :=
  run_callFunc_extern Tryz.func98 (by kernel_rfl) (by kernel_rfl) (by kernel_rfl) (by kernel_rfl) args w

theorem cmx_eq (a b : ByteArray) (w : World) : (callFunc 98 #[.string a, .string b]).run Tryz.prog w = .ok (.value (.int .i64 (cmB a b))) w := by
  rw [cmx_run, Go.Lib.run_compareString]
  rfl

set_option maxRecDepth 100000 in
theorem cmpS_any (a b : ByteArray) (w : World) : Calls Tryz.prog 93 #[.string a, .string b] w fun e w' => e = .returned (.int .i64 (cmB a b)) ∧ w' = w := by
  have hf := cmx_eq
  go_enter Tryz.func93, Tryz.ntmps93
  go_wp2
  go_ret
  exact ⟨rfl, rfl⟩

set_option maxRecDepth 100000 in
theorem cmpStr_any (a b : ByteArray) (w : World) : Calls Tryz.prog 87 #[.string a, .string b] w fun e w' => e = .returned (.int .i64 (cmB a b)) ∧ w' = w := by
  go_enter Tryz.func87, Tryz.ntmps87
  go_wp2_with (go_at_call 93; refine (cmpS_any _ _ _).mono ?_; rintro e w' ⟨rfl, rfl⟩)
  go_ret
  exact ⟨rfl, rfl⟩

set_option maxRecDepth 100000 in
theorem attrCmp_any (a v b : ByteArray) (w : World) : Calls Tryz.prog 86 #[.agg #[.string a, .string v], .string b] w fun e w' => e = .returned (.int .i64 (cmB a b)) ∧ Below w.heap.size w w' := by
  have HC : Hid (∀ W, Calls Tryz.prog 87 #[.string a, .string b] W fun e w' => e = .returned (.int .i64 (cmB a b)) ∧ w' = W) := fun W => cmpStr_any a b W
  go_enter Tryz.func86, Tryz.ntmps86
  go_wp2_with fail
  refine (HC.out _).mono ?_
  rintro e w2 ⟨rfl, rfl⟩
  go_wp2_with fail
  go_ret
  exact ⟨rfl, below_one _ _⟩
end Go.Proofs.YtcdnakcojanaeabGreat

/-
  The program's attrPlace: the library's binary search by a function.
-/
namespace Go.Proofs.YtcdnakcojanaeabGreat
open Go.ChangeShapes Go.WideShapes Go.ChangeAt Go.RowKit Go.Deep
open Do

/-- How many attributes, from the first on, have a name below t. -/
def lwA : List Atr → ByteArray → Nat
  | [], _ => 0
  | s :: l, t => if cmB s.1 t < 0 then lwA l t + 1 else 0

/-- Attributes whose names rise. -/
def UpA (l : List Atr) : Prop := ∀ (i j : Nat) (a b : Atr), i < j → l[i]? = some a → l[j]? = some b → cmB a.1 b.1 < 0

/-- Is there one of that name. -/
def hasA (l : List Atr) (t : ByteArray) : Bool := match l[lwA l t]? with
  | none => false
  | some s => cmB s.1 t == 0

theorem lwA_le (l : List Atr) (t : ByteArray) : lwA l t ≤ l.length := by
  induction l with
  | nil => exact Nat.le_refl _
  | cons s l ih => simp only [lwA, List.length_cons]; split <;> omega

theorem lwA_eq : ∀ (l : List Atr) (t : ByteArray) (i : Nat), i ≤ l.length → (∀ (m : Nat) (s : Atr), m < i → l[m]? = some s → cmB s.1 t < 0) → (∀ s : Atr, l[i]? = some s → ¬ cmB s.1 t < 0) → lwA l t = i
  | [], _, i, h, _, _ => by simp at h; simp [lwA, h]
  | s :: l, t, 0, _, _, h2 => by
    have := h2 s (by simp)
    simp [lwA, this]
  | s :: l, t, i + 1, h, h1, h2 => by
    have e := h1 0 s (by omega) (by simp)
    have := lwA_eq l t i (by simpa using h) (fun m s' hm hs => h1 (m + 1) s' (by omega) (by simpa using hs)) (fun s' hs => h2 s' (by simpa using hs))
    simp [lwA, e, this]

set_option maxRecDepth 100000 in
set_option maxHeartbeats 1600000 in
theorem bsA_any (ats : List Atr) (t : ByteArray) (aa : Option Addr) (ac : Nat) (w : World) (hL : LayA w aa ats) (hu : UpA ats) (hn : ats.length ≤ 16) :
    Calls Tryz.prog 85 #[.slice aa ats.length ac, .string t, .func (.func 86) #[] #[]] w fun e w' => e = .returned (.tuple #[.int .i64 (lwA ats t : Int), .bool (hasA ats t)]) ∧ Below w.heap.size w w' := by
  have HF : Hid (UpA ats) := hu
  have HL : Hid (LayA w aa ats) := hL
  have HC : Hid (∀ (W : World) (a v : ByteArray), Calls Tryz.prog 86 #[.agg #[.string a, .string v], .string t] W fun e w' => e = .returned (.int .i64 (cmB a t)) ∧ Below W.heap.size W w') := fun W a v => attrCmp_any a v t W
  clear hL hu
  go_enter Tryz.func85, Tryz.ntmps85
  go_wp2_with fail
  go_loopw [9, 10] (fun v9 v10 wr => ∃ i j : Nat, i ≤ j ∧ j ≤ ats.length ∧ v9 = .int .i64 i ∧ v10 = .int .i64 j ∧ Hid (∀ (m : Nat) (s : Atr), m < i → ats[m]? = some s → cmB s.1 t < 0) ∧ Hid (∀ s : Atr, ats[j]? = some s → 0 ≤ cmB s.1 t) ∧ Hid (Below w.heap.size w wr)) (fun v9 v10 _ => (intOf v10).toNat - (intOf v9).toNat)
  case atStart => exact ⟨0, ats.length, Nat.zero_le _, Nat.le_refl _, rfl, rfl, (show ∀ (m : Nat) (s : Atr), m < 0 → ats[m]? = some s → cmB s.1 t < 0 from fun m n h => by omega), (show ∀ s : Atr, ats[ats.length]? = some s → 0 ≤ cmB s.1 t from fun n hn' => by simp at hn'), Below.refl _ _⟩
  case round =>
    obtain ⟨i, j, hij, hj, rfl, rfl, H1, H2, HB⟩ := hrel
    by_cases hlt : i < j
    · have hh : (i + j) / 2 < ats.length := by omega
      have HG : Hid (ats[(i + j) / 2]? = some ats[(i + j) / 2]) := List.getElem?_eq_getElem hh
      obtain ⟨b, o, rfl, r0, r1, -, -⟩ := HL.out.below HB.out ((i + j) / 2) _ HG.out
      generalize ats[(i + j) / 2] = s0 at *
      have HCC := HC.out wr s0.1 s0.2
      generalize hcv : cmB s0.1 t = cv at *
      have HCC' : Hid (Calls Tryz.prog 86 #[.agg #[.string s0.1, .string s0.2], .string t] wr fun e w' => e = .returned (.int .i64 cv) ∧ Below wr.heap.size wr w') := HCC
      clear HCC
      by_cases hl : cv < 0
      · have HL1 : Hid (cmB s0.1 t < 0) := by show _ < _; omega
        have g1 : decide (cv < 0) = true := decide_eq_true hl
        clear hl hcv
        go_wp2_with (go_at_call 86; refine HCC'.out.mono ?_; rintro e w' ⟨rfl, hb1⟩; have HB1 : Hid (Below wr.heap.size wr w') := hb1; clear hb1)
        go_roundw
        case rel =>
          refine ⟨(i + j) / 2 + 1, j, by omega, hj, by go_num, rfl, ?_, H2.out, nxt HB.out HB1.out⟩
          intro m s hm hs'
          by_cases e : m = (i + j) / 2
          · subst e
            rw [HG.out] at hs'
            cases hs'
            exact HL1.out
          · exact cmB_trans (HF.out m ((i + j) / 2) s _ (by omega) hs' HG.out) HL1.out
        case measure => simp [intOf]; omega
      · have HL1 : Hid (0 ≤ cmB s0.1 t) := by show _ ≤ _; omega
        have g1 : decide (cv < 0) = false := decide_eq_false hl
        clear hl hcv
        go_wp2_with (go_at_call 86; refine HCC'.out.mono ?_; rintro e w' ⟨rfl, hb1⟩; have HB1 : Hid (Below wr.heap.size wr w') := hb1; clear hb1)
        go_roundw
        case rel =>
          refine ⟨i, (i + j) / 2, by omega, by omega, rfl, by go_num, H1.out, ?_, nxt HB.out HB1.out⟩
          intro s hs'
          rw [HG.out] at hs'
          cases hs'
          exact HL1.out
        case measure => simp [intOf]; omega
    · have e : i = j := by omega
      subst e
      have HS : Hid (lwA ats t = i) := lwA_eq ats t i hj (fun m s hm hs' => H1.out m s hm hs') (fun s hs' => Int.not_lt.2 (H2.out s hs'))
      clear H1 H2
      by_cases hlt2 : i < ats.length
      · have HG : Hid (ats[i]? = some ats[i]) := List.getElem?_eq_getElem hlt2
        obtain ⟨b, o, rfl, r0, r1, -, -⟩ := HL.out.below HB.out i _ HG.out
        generalize ats[i] = s0 at *
        have HCC := HC.out wr s0.1 s0.2
        generalize hcv : cmB s0.1 t = cv at *
        have HCC' : Hid (Calls Tryz.prog 86 #[.agg #[.string s0.1, .string s0.2], .string t] wr fun e w' => e = .returned (.int .i64 cv) ∧ Below wr.heap.size wr w') := HCC
        have HH : Hid (hasA ats t = (cv == 0)) := by show _ = _; unfold hasA; rw [HS.out, HG.out]; simp only; rw [hcv]
        clear HCC hcv
        go_wp2_with (go_at_call 86; refine HCC'.out.mono ?_; rintro e w' ⟨rfl, hb1⟩; have HB1 : Hid (Below wr.heap.size wr w') := hb1; clear hb1)
        go_ret2
        exact ⟨by rw [HS.out, HH.out]; rfl, nxt HB.out HB1.out⟩
      · have HH : Hid (hasA ats t = false) := by show _ = _; unfold hasA; rw [HS.out, List.getElem?_eq_none (by omega)]
        go_wp2_with fail
        go_ret2
        exact ⟨by rw [HS.out, HH.out]; rfl, HB.out⟩

set_option maxRecDepth 100000 in
theorem attrPlace_any (ats : List Atr) (t : ByteArray) (aa : Option Addr) (ac : Nat) (w : World) (hL : LayA w aa ats) (hu : UpA ats) (hn : ats.length ≤ 16) :
    Calls Tryz.prog 74 #[.slice aa ats.length ac, .string t] w fun e w' => e = .returned (.tuple #[.int .i64 (lwA ats t : Int), .bool (hasA ats t)]) ∧ Below w.heap.size w w' := by
  have HC : Hid (Calls Tryz.prog 85 #[.slice aa ats.length ac, .string t, .func (.func 86) #[] #[]] w _) := bsA_any ats t aa ac w hL hu hn
  go_enter Tryz.func74, Tryz.ntmps74
  go_wp2_with fail
  refine HC.out.mono ?_
  rintro e w2 ⟨rfl, hb2⟩
  have HB2 : Hid (Below w.heap.size w w2) := hb2
  clear hb2 HC hL hu
  go_wp2_with fail
  go_ret2
  exact ⟨rfl, HB2.out⟩
end Go.Proofs.YtcdnakcojanaeabGreat
