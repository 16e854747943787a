import Derived.Test.YtlkggpjdaaglmaaGreatDoorPkB21
import Derived.Test.YtlkggpjdaaglmaaGreatDoorPkB6
import Derived.Test.YtlkggpjdaaglmaaGreatDoorPkB4
import Derived.Test.YtlkggpjdaaglmaaGreatDoorPkB12
import Derived.Test.YtlkggpjdaaglmaaGreatDoorPkB8
import Derived.Test.YtlkggpjdaaglmaaGreatDoorPkB20
section
namespace Go.Proofs.YtlkggpjdaaglmaaGreatDoor.te
open Go.ChangeShapes Go.WideShapes Go.ChangeAt Go.RowKit
open bs tr
set_option linter.unusedVariables false
def ZP (n : Nat) (w : World) (e : Ending) (w' : World) : Prop := e = .returned (.int .i64 (n : Int)) ∧ Below w.heap.size w w'
set_option maxRecDepth 100000 in
set_option maxHeartbeats 2000000 in
theorem depth_any (a : Vn) (w : World) (ha : a.Rd w) (hsz : a.tr.size ≤ 100000) : Calls Tryz.prog 27 #[a.val] w (ZP a.tr.depth w) := by
  have hW1 : Below w.heap.size w ((w.alloc (.cells #[.int .i64 a.x.k, .int .i64 a.x.n, .string a.x.s, .slice a.a a.m a.c, .int .i64 a.x.f, .int .i64 a.x.t] 25)).alloc (.cells #[.int .i64 0, .int .i64 0, .slice none 0 0] 95)) := ((Below.refl _ _).alloc (Nat.le_refl _) _).alloc (by simp) _
  have hZ : VB ((w.alloc (.cells #[.int .i64 a.x.k, .int .i64 a.x.n, .string a.x.s, .slice a.a a.m a.c, .int .i64 a.x.f, .int .i64 a.x.t] 25)).alloc (.cells #[.int .i64 0, .int .i64 0, .slice none 0 0] 95)) w.heap.size a := (vb_new w a).below (below_alloc _ _)
  have hT : Blk ((w.alloc (.cells #[.int .i64 a.x.k, .int .i64 a.x.n, .string a.x.s, .slice a.a a.m a.c, .int .i64 a.x.f, .int .i64 a.x.t] 25)).alloc (.cells #[.int .i64 0, .int .i64 0, .slice none 0 0] 95)) (w.heap.size + 1) #[.int .i64 ((0 : Nat) : Int), .int .i64 0, .slice none 0 0] 95 := by
    have := Blk.new (w.alloc (.cells #[.int .i64 a.x.k, .int .i64 a.x.n, .string a.x.s, .slice a.a a.m a.c, .int .i64 a.x.f, .int .i64 a.x.t] 25)) #[.int .i64 0, .int .i64 0, .slice none 0 0] 95
    rwa [size_alloc] at this
  have HW := Lib.hid hW1; have HZ := Lib.hid hZ; have HT := Lib.hid hT
  have HA := Lib.hid (ha.rs)
  clear ha hW1 hZ hT
  have hmf : ∀ (fn : Fn) (first cap : Array Value) (w : World), (Instr.makeFunc fn first cap).run Tryz.prog w = .ok (.func fn first cap) w := fun _ _ _ _ => rfl
  unfold Vn.val
  go_enter Tryz.func27, Tryz.ntmps27
  go_upto_region 2 with fail
  generalize hWW : ((w.alloc (.cells #[.int .i64 a.x.k, .int .i64 a.x.n, .string a.x.s, .slice a.a a.m a.c, .int .i64 a.x.f, .int .i64 a.x.t] 25)).alloc (.cells #[.int .i64 0, .int .i64 0, .slice none 0 0] 95)) = W at HW HZ HT ⊢
  clear hWW
  go_wp2_with (refine wpList_load_T rfl _ rfl rfl HZ.out ?_)
  refine (td.walk_any (w.heap.size + 1) w.heap.size (by omega) (.int .i64 0) (.slice none 0 0) a.tr a W none 0 0 [] 0 rfl (HA.out.below HW.out) HT.out (OwnI.nil _ _ _) (by omega) (by omega)).mono ?_
  rintro e w2 ⟨a2, c2, rfl, ho2, hb2, ht2, hl2⟩
  have HB := Lib.hid (HW.out.trans (ht2.below HW.out.size (by omega) (fun i h => by cases h)))
  rw [Nat.zero_add, Nat.zero_max] at hb2
  have p0 := hb2.cell 1
  simp at p0
  clear ho2 hb2 ht2 hl2 hmf
  go_wp2
  go_ret
  exact ⟨rfl, HB.out⟩
end Go.Proofs.YtlkggpjdaaglmaaGreatDoor.te
end
section
namespace Go.Proofs.YtlkggpjdaaglmaaGreatDoor.am
open Go.ChangeShapes Go.WideShapes Go.ChangeAt Go.RowKit
open vt
set_option linter.unusedVariables false
def labE (x : Lab) : te.Lab := ⟨x.k, x.n, x.s, x.f, x.t⟩
noncomputable def toE (t : VT) : te.VT := Tr.fold (fun x _ b => tr.Tr.mk (labE x) b) t
theorem toE_mk (x : Lab) (l : List VT) : toE (.mk x l) = .mk (labE x) (l.map toE) := Tr.fold_mk _ x l
theorem toE_size (t : VT) : (toE t).size = t.size := by
  induction t using Tr.ind with
  | h x l ih =>
    rw [toE_mk, tr.Tr.size_mk, Tr.size_mk, List.map_map]
    congr 2
    exact List.map_congr_left (fun y hy => ih y hy)
section
variable {S : CS} {w : World} (hS : ∀ b o, S b o → b < w.heap.size)
include hS
theorem sl_out {l : List VT} {v : Value} (h : RepP S w v (.sl 6 (l.map tc))) : ∃ a c, v = .slice a l.length c ∧ l.length ≤ c ∧ c ≤ 9223372036854775807 ∧ (a = none → c = 0) ∧
    (l = [] ∨ ∃ b off, a = some ⟨b, off, none⟩ ∧ b < w.heap.size ∧ ∃ V : Nat → Nat → Value, ∀ i y, l[i]? = some y → ∀ j p, (tc y)[j]? = some p → w.cell? ⟨b, off + i * 6 + j, none⟩ = some (V i j) ∧ RepP S w (V i j) p) := by
  obtain ⟨L, hL⟩ : ∃ L, l.map tc = L := ⟨_, rfl⟩
  rw [hL] at h
  cases h with
  | emp a c es hm ha =>
    have : l = [] := by simpa using hL
    subst this
    exact ⟨a, c, rfl, Nat.zero_le _, hm, ha, .inl rfl⟩
  | sl b off n c es L' hlen h0 hc hm hes V hcell hV =>
    subst hL
    have hn : l.length = n := by simpa using hlen
    subst hn
    have at' : ∀ i y, l[i]? = some y → (l.map tc)[i]? = some (tc y) := fun i y h => by rw [List.getElem?_map, h]; rfl
    refine ⟨_, c, rfl, hc, hm, (fun h => by cases h), .inr ⟨b, off, rfl, ?_, V, fun i y hi j p hj => ⟨(hcell i _ j p (at' i y hi) hj).2, hV i _ j p (at' i y hi) hj⟩⟩⟩
    obtain ⟨y, hy⟩ : ∃ y, l[0]? = some y := ⟨_, List.getElem?_eq_getElem h0⟩
    obtain ⟨p, hp⟩ : ∃ p, (tc y)[0]? = some p := ⟨_, List.getElem?_eq_getElem (by rw [tc_len]; decide)⟩
    exact hS _ _ (hcell 0 _ 0 p (at' 0 y hy) hp).1
theorem vs_of {l : List VT} {v : Value} (h : RepP S w v (.sl 6 (l.map tc))) (ih : ∀ y ∈ l, ∀ b o (V : Nat → Value), (∀ j p, (tc y)[j]? = some p → w.cell? ⟨b, o + j, none⟩ = some (V j) ∧ RepP S w (V j) p) → te.VA w b o (toE y)) : ∃ a c, v = .slice a l.length c ∧ te.VS w a l.length c (l.map toE) := by
  obtain ⟨a, c, h1, h2, h3, h4, h5⟩ := sl_out hS h
  refine ⟨a, c, h1, ⟨by simp, h2, h3, h4, ?_⟩⟩
  rcases h5 with h5 | ⟨b, off, h6, h7, V, h8⟩
  · left; rw [h5]; rfl
  · right
    refine ⟨b, off, h6, h7, fun i x hx => ?_⟩
    rw [List.getElem?_map] at hx
    obtain ⟨y, hy, rfl⟩ := Option.map_eq_some_iff.1 hx
    exact ih y (List.mem_of_getElem? hy) b (off + i * 6) (V i) (h8 i y hy)
omit hS in
theorem int_of {v : Value} {z : Int} (h : RepP S w v (I z)) : v = .int .i64 z := by cases h; rfl
omit hS in
theorem str_of {v : Value} {s : ByteArray} (h : RepP S w v (Sx s)) : v = .string s := by cases h; rfl
theorem va_of (t : VT) : in64 t → ∀ b o (V : Nat → Value), (∀ j p, (tc t)[j]? = some p → w.cell? ⟨b, o + j, none⟩ = some (V j) ∧ RepP S w (V j) p) → te.VA w b o (toE t) := by
  induction t using Tr.ind with
  | h x l ih =>
    intro ha b o V hc
    obtain ⟨⟨a1, a2, a3, a4⟩, ha⟩ := (Tr.all_mk _ _ _).1 ha
    rw [tc_mk] at hc
    have c0 := hc 0 _ rfl
    have c1 := hc 1 _ rfl
    have c2 := hc 2 _ rfl
    have c3 := hc 3 _ rfl
    have c4 := hc 4 _ rfl
    have c5 := hc 5 _ rfl
    rw [int_of c0.2] at c0
    rw [int_of c1.2] at c1
    rw [str_of c2.2] at c2
    rw [int_of c4.2] at c4
    rw [int_of c5.2] at c5
    obtain ⟨a, c, h1, h2⟩ := vs_of hS c3.2 (fun y hy => ih y hy (ha y hy))
    rw [h1] at c3
    have := te.VA.intro (v := ⟨labE x, a, l.length, c, l.map toE⟩) (w := w) (b := b) (o := o) ⟨h2, ⟨a1, a2, a3, a4⟩⟩ ⟨c0.1, c3.1, c1.1, c2.1, c4.1, c5.1⟩
    rw [toE_mk]
    exact this
end
theorem vn_of {γ : Nat → G} {S : CS} {w : World} (hS : ∀ b o, S b o → b < w.heap.size) {t : VT} {v : Value} (ha : in64 t) (h : RepV γ S w v (vT t)) : ∃ n : te.Vn, v = n.val ∧ n.tr = toE t ∧ n.Rd w := by
  obtain ⟨x, l⟩ := t
  obtain ⟨⟨a1, a2, a3, a4⟩, ha⟩ := (Tr.all_mk _ _ _).1 ha
  obtain ⟨cs, rfl, hl, hc⟩ := h
  rw [ta_mk] at hl hc
  obtain ⟨v0, e0, r0⟩ := hc 0 _ rfl
  obtain ⟨v1, e1, r1⟩ := hc 1 _ rfl
  obtain ⟨v2, e2, r2⟩ := hc 2 _ rfl
  obtain ⟨v3, e3, r3⟩ := hc 3 _ rfl
  obtain ⟨v4, e4, r4⟩ := hc 4 _ rfl
  obtain ⟨v5, e5, r5⟩ := hc 5 _ rfl
  obtain rfl := int_of r0
  obtain rfl := int_of r1
  obtain rfl := str_of r2
  obtain rfl := int_of r4
  obtain rfl := int_of r5
  obtain ⟨a, c, rfl, h2⟩ := vs_of hS r3 (fun y hy => va_of hS y (ha y hy))
  refine ⟨⟨labE x, a, l.length, c, l.map toE⟩, ?_, (toE_mk x l).symm, ⟨h2, ⟨a1, a2, a3, a4⟩⟩⟩
  have : cs = #[.int .i64 x.k, .int .i64 x.n, .string x.s, .slice a l.length c, .int .i64 x.f, .int .i64 x.t] := by
    apply Array.ext_getElem?
    intro i
    have hg : ∀ i : Nat, cs[i]? = cs.toList[i]? := fun i => by rw [Array.getElem?_toList]
    rw [hg]
    match i with
    | 0 => rw [e0]; rfl
    | 1 => rw [e1]; rfl
    | 2 => rw [e2]; rfl
    | 3 => rw [e3]; rfl
    | 4 => rw [e4]; rfl
    | 5 => rw [e5]; rfl
    | i + 6 => rw [List.getElem?_eq_none (by rw [hl]; simp)]; rfl
  rw [this]
  rfl
end Go.Proofs.YtlkggpjdaaglmaaGreatDoor.am
end
section
namespace Go.Proofs.YtlkggpjdaaglmaaGreatDoor.am
open Go.ChangeShapes Go.WideShapes Go.ChangeAt Go.RowKit
open vt
set_option linter.unusedVariables false
theorem toE_depth (t : VT) : (toE t).depth = dpt t := by
  induction t using Tr.ind with
  | h x l ih =>
    rw [toE_mk, tr.Tr.depth_mk, dpt_mk, List.map_map]
    congr 2
    exact List.map_congr_left (fun y hy => ih y hy)
theorem pdepth_row (t : VT) (ha : Tr.all A6 t) (hs : t.size ≤ 100000) : Row Tryz.prog 27 [vT t] [] (vI (dpt t : Nat)) [] := by
  refine ⟨⟨_, Tryz.func27, rfl, rfl⟩, spec_of_below (ch := []) fun γ S w vs hm hv => ?_⟩
  match vs, hv with
  | [v0], ⟨h0, _⟩ =>
    obtain ⟨n, rfl, hn, hr⟩ := vn_of hm.inb ha h0
    refine (te.depth_any n w hr (by rw [hn, toE_size]; exact hs)).mono ?_
    rintro e w' ⟨rfl, hb⟩
    refine ⟨_, rfl, hb, ?_⟩
    rw [hn, toE_depth]
    exact .lit _ rfl
end Go.Proofs.YtlkggpjdaaglmaaGreatDoor.am
end
section
namespace Go.Proofs.YtlkggpjdaaglmaaGreatDoor.am
open vt
noncomputable abbrev vT3i (r : VT × Int × Int) : AV := .tup [.agg (ta r.1), .c (.pv (I r.2.1)), .c (.pv (I r.2.2))]
abbrev zTb : AO := .box [.pv (I 0), .pv (I 0), .pv (Sx ⟨#[]⟩), .pv .nilS, .pv (I 0), .pv (I 0)]
end Go.Proofs.YtlkggpjdaaglmaaGreatDoor.am
end
section
namespace Go.Proofs.YtlkggpjdaaglmaaGreatDoor.am
open Go.ChangeShapes Go.WideShapes Go.ChangeAt Go.RowKit
open vt
set_option linter.unusedVariables false
set_option linter.unusedSimpArgs false
theorem tok_kind {s : ByteArray} {ts : List Tok} (h : TokOk s ts) {i : Nat} (hi : i + 1 ≤ ts.length) : (nxt ts i).k = 5 ↔ ts.length ≤ i + 1 := by
  constructor
  · intro hk
    obtain ⟨M, rfl, h1, h2, h3, h4⟩ := h.ex
    rcases Nat.lt_or_ge i M.length with h5 | h5
    · have hx : (M ++ [enT s])[i]? = some M[i] := by rw [List.getElem?_append_left h5, List.getElem?_eq_getElem h5]
      rw [nxt_some hx] at hk
      exact absurd hk (h2 _ (List.getElem_mem h5)).1
    · simp; omega
  · intro hl
    have : i = ts.length - 1 := by omega
    rw [this, tok_last h]
    rfl
theorem lpU_pl {ts : List Tok} (ht : TO ts) : ∀ (m i : Nat) (acc : List VT), i ≤ ts.length → PS ts 0 i acc → (lpU ts m i acc).2.2 = 0 → PS ts 0 (lpU ts m i acc).2.1 (lpU ts m i acc).1
  | 0, i, acc, hi, h => fun h' => by rw [lpU] at h'; exact absurd h' (by simp)
  | m + 1, i, acc, hi, h => by
    rw [lpU]
    by_cases h0 : ts.length ≤ i + 1
    · rw [if_pos h0]; exact fun _ => h
    rw [if_neg h0]
    have hk := decl_oks (ts := ts) i hi
    by_cases h1 : (declG ts i).2.2 ≠ 0
    · rw [if_pos h1]; exact fun h' => absurd h' h1
    · rw [if_neg h1]
      have h1 : (declG ts i).2.2 = 0 := by simpa using h1
      exact lpU_pl ht m _ _ (hk.ok.yes h1).2 (ps_snoc ht h (Nat.zero_le _) (Nat.le_refl _) hk.ok h1 (decl_pl ht i hi))
theorem mod_al {ts : List Tok} (ht : TO ts) (s : ByteArray) (hs : s.size ≤ 8192) (m : Nat) (h : (lpU ts m 0 []).2.2 = 0) : Tr.all A6 (modT s (lpU ts m 0 []).1) := by
  have hp := lpU_pl ht m 0 [] (Nat.zero_le _) (ps_nil ht (Nat.le_refl _) (Nat.zero_le _)) h
  have e : I6 (s.size : Int) := ⟨by omega, by omega⟩
  exact (Tr.all_mk _ _ _).2 ⟨⟨(show I6 36 by decide), (show I6 0 by decide), (show I6 0 by decide), e⟩, hp.al⟩
structure InvUP (ts : List Tok) (C : List VT × Nat × Int) (x : Nat × Nat × Int × List VT) : Prop where
  no : x.2.2.1 ≠ 0 → C.2 = (x.2.1, x.2.2.1)
  yes : x.2.2.1 = 0 → InvU ts C (x.1, x.2.1, x.2.2.2)
set_option maxRecDepth 100000 in
set_option maxHeartbeats 4000000 in
theorem uparse_row (L : List (Nat × Array Value)) (s : ByteArray) (hs : s.size ≤ 8192) (tk : Row Tryz.prog 21 [vS s] [.lib L] (vTk (tokG s)) [some (.lib L)]) : Row Tryz.prog 9 [vS s] [.lib L] (vT3i (unitG s)) [some (.lib L)] := by
  unfold unitG
  by_cases h0 : (tokG s).2.2 = 0; rotate_left
  · rw [if_pos h0]
    obtain ⟨⟨ts, p, e⟩, ht⟩ : ∃ r, tokG s = r := ⟨_, rfl⟩
    rw [ht] at tk h0 ⊢
    dsimp only at h0 ⊢
    clear ht
    refine row_of Tryz.func9 rfl rfl (Nat.le_of_ble_eq_true rfl) ?_
    repeat' (first | refine aw_seq ?_ | refine aw_skip ?_ | refine aw_block ?_ | refine aw_exit ?_ | refine aw_ct rfl ?_ | refine aw_cf rfl ?_ | ((first | refine aw_reg (fun K hK => ?_) | refine aw_drw mixd (fun K hK => ?_) | refine ar_call (cb tk 0 ?_) | refine ard_call (db tk 0 ?_) | fail); simp -implicitDefEqProofs [h0]) | refine hK _ ?_ | refine hK _ _ (by rfl) ?_ | fail)
    refine aw_ret (fin_box ?_); simp -implicitDefEqProofs [FinB, resV, resT, z0] <;> try rfl
  rw [if_neg (by simp [h0])]
  have hok := tok_ok h0
  obtain ⟨⟨ts, p, e⟩, ht⟩ : ∃ r, tokG s = r := ⟨_, rfl⟩
  rw [ht] at tk h0 hok ⊢
  dsimp only at h0 hok ⊢
  subst h0
  clear ht
  have hlen := tok_len hok
  have nw : Row Tryz.prog 22 [vKs ts, vI 0] [] (vRd ts 0 0) [] := new_yes ts 0 (Nat.zero_le _)
  unfold modG
  have hsz := mod_sz (ts := ts) s (ts.length + 1)
  have h0 : InvUP ts (lpU ts (ts.length + 1) 0 []) (ts.length + 1, 0, 0, []) := ⟨fun h => absurd rfl h, fun _ => ⟨rfl, by dsimp only; omega, by dsimp only; omega, by simp, by simp [sm]⟩⟩
  obtain ⟨C, hC⟩ : ∃ C, lpU ts (ts.length + 1) 0 [] = C := ⟨_, rfl⟩
  rw [hC] at hsz h0 ⊢
  have hal : C.2.2 = 0 → Tr.all A6 (modT s C.1) := fun h => by
    rw [← hC] at h ⊢
    exact mod_al (tok_to hok) s (by omega) _ h
  clear hC
  refine row_of Tryz.func9 rfl rfl (Nat.le_of_ble_eq_true rfl) ?_
  repeat' (first | refine aw_seq ?_ | refine aw_skip ?_ | refine aw_block ?_ | refine aw_exit ?_ | refine aw_ct rfl ?_ | refine aw_cf rfl ?_ | ((first | refine aw_reg (fun K hK => ?_) | refine aw_drw mixd (fun K hK => ?_) | refine ar_call (cb tk 0 ?_) | refine ard_call (db tk 0 ?_) | refine ar_call (cp nw ?_) | refine ard_call (dp nw ?_) | fail); simp -implicitDefEqProofs) | refine hK _ ?_ | refine hK _ _ (by rfl) ?_ | fail)
  refine aw_nilc 44 3 _ 25 6 rfl rfl (show 44 < 46 by decide) ?_
  dsimp only [St.nilc, List.set]
  refine aw_lp (ι := Nat × Nat × Int × List VT) (fun x => mkSt [(2, .v (.c (.ptr 1 0))), (3, vI 0), (4, vI 0), (10, .v (.c (.ptr 2 0))), (11, .v (.c (.ptr 3 0)))] [some (.lib L), some zTb, some (rd ts x.2.1 x.2.2.1), some (.box [.pv (I 36), .pv (I 0), .pv (Sx ⟨#[]⟩), .row 4 6 (x.2.2.2.map tc), .pv (I 0), .pv (I s.size)]), some (.row 25 6)]) (InvUP ts C) (fun x => x.1) (ts.length + 1, 0, 0, []) h0 (cov_intro [0, 1, 39, 44, 46] (by simp -implicitDefEqProofs) (by simp -implicitDefEqProofs) (by decide) rfl (by simp)) (fun Z hI x hx => ?_)
  clear h0 tk nw
  obtain ⟨m, i, e, acc⟩ := x
  obtain ⟨x1, x2⟩ := hx
  dsimp only at x1 x2 ⊢
  have g := goes_row ts i e
  have nx := next_row ts i e
  by_cases he : e = 0; rotate_left
  · have x1 := x1 he
    rw [if_pos (by rw [x1]; exact he), show C.2.1 = i by rw [x1], show C.2.2 = e by rw [x1]]
    have er := err_row ts i e
    rw [show frT ts i = (nxt ts i).f from rfl]
    obtain ⟨⟨xk, xn, xs, xf, xt⟩, hn⟩ : ∃ x, nxt ts i = x := ⟨_, rfl⟩
    rw [hn] at nx ⊢
    clear x1 x2 hsz hal hok hn hlen
    repeat' (first | refine aw_seq ?_ | refine aw_skip ?_ | refine aw_block ?_ | refine aw_exit ?_ | refine aw_ct rfl ?_ | refine aw_cf rfl ?_ | ((first | refine aw_reg (fun K hK => ?_) | refine aw_drw mixd (fun K hK => ?_) | refine ar_call (cb g 2 ?_) | refine ard_call (db g 2 ?_) | refine ar_call (cb nx 2 ?_) | refine ard_call (db nx 2 ?_) | refine ar_call (cb er 2 ?_) | refine ard_call (db er 2 ?_) | fail); simp -implicitDefEqProofs [he]) | refine hK _ ?_ | refine hK _ _ (by rfl) ?_ | fail)
    refine aw_ret (fin_box ?_); simp -implicitDefEqProofs [FinB, resV, resT, z0] <;> try rfl
  subst he
  have x2 := x2 rfl
  have hk := tok_kind hok x2.le
  dsimp only at hk
  by_cases h5 : (nxt ts i).k = 5
  · have hle := hk.1 h5
    obtain ⟨y1, y2, y3, y4, y5⟩ := x2
    dsimp only at y1 y2 y3 y4 y5
    obtain ⟨m, rfl⟩ : ∃ k, m = k + 1 := ⟨m - 1, by omega⟩
    rw [lpU, if_pos hle] at y1
    subst y1
    dsimp only at hsz hal ⊢
    have hal := hal rfl
    rw [if_neg (by simp)]
    have dep := pdepth_row (modT s acc) hal (by omega)
    obtain ⟨⟨xk, xn, xs, xf, xt⟩, hn⟩ : ∃ x, nxt ts i = x := ⟨_, rfl⟩
    rw [hn] at nx h5
    dsimp only at h5
    subst h5
    obtain ⟨d, hd⟩ : ∃ d, dpt (modT s acc) = d := ⟨_, rfl⟩
    rw [hd] at dep ⊢
    unfold modT at dep ⊢
    clear x1 hk hn hsz hal hok
    by_cases h6 : 64 < acc.length
    · rw [if_pos h6]
      have h6' : (64 : Int) < acc.length := by omega
      repeat' (first | refine aw_seq ?_ | refine aw_skip ?_ | refine aw_block ?_ | refine aw_exit ?_ | refine aw_ct rfl ?_ | refine aw_cf rfl ?_ | ((first | refine aw_reg (fun K hK => ?_) | refine aw_drw mixd (fun K hK => ?_) | refine ar_call (cb g 2 ?_) | refine ard_call (db g 2 ?_) | refine ar_call (cb nx 2 ?_) | refine ard_call (db nx 2 ?_) | refine ar_call (cp dep ?_) | refine ard_call (dp dep ?_) | fail); simp -implicitDefEqProofs [h6, h6']) | refine hK _ ?_ | refine hK _ _ (by rfl) ?_ | fail)
      refine aw_ret (fin_box ?_); simp -implicitDefEqProofs [FinB, resV, resT, z0] <;> try rfl
    rw [if_neg h6]
    have h6' : ¬ (64 : Int) < acc.length := by omega
    by_cases h7 : 64 < d
    · rw [if_pos h7]
      have h7' : (64 : Int) < d := by omega
      repeat' (first | refine aw_seq ?_ | refine aw_skip ?_ | refine aw_block ?_ | refine aw_exit ?_ | refine aw_ct rfl ?_ | refine aw_cf rfl ?_ | ((first | refine aw_reg (fun K hK => ?_) | refine aw_drw mixd (fun K hK => ?_) | refine ar_call (cb g 2 ?_) | refine ard_call (db g 2 ?_) | refine ar_call (cb nx 2 ?_) | refine ard_call (db nx 2 ?_) | refine ar_call (cp dep ?_) | refine ard_call (dp dep ?_) | fail); simp -implicitDefEqProofs [h6, h6', h7, h7']) | refine hK _ ?_ | refine hK _ _ (by rfl) ?_ | fail)
      refine aw_ret (fin_box ?_); simp -implicitDefEqProofs [FinB, resV, resT, z0] <;> try rfl
    · rw [if_neg h7]
      have h7' : ¬ (64 : Int) < d := by omega
      repeat' (first | refine aw_seq ?_ | refine aw_skip ?_ | refine aw_block ?_ | refine aw_exit ?_ | refine aw_ct rfl ?_ | refine aw_cf rfl ?_ | ((first | refine aw_reg (fun K hK => ?_) | refine aw_drw mixd (fun K hK => ?_) | refine ar_call (cb g 2 ?_) | refine ard_call (db g 2 ?_) | refine ar_call (cb nx 2 ?_) | refine ard_call (db nx 2 ?_) | refine ar_call (cp dep ?_) | refine ard_call (dp dep ?_) | fail); simp -implicitDefEqProofs [h6, h6', h7, h7']) | refine hK _ ?_ | refine hK _ _ (by rfl) ?_ | fail)
      refine aw_ret (fin_box ?_); simp -implicitDefEqProofs [FinB, resV, resT] <;> try rfl
  · have hnl : ¬ ts.length ≤ i + 1 := fun h => h5 (hk.2 h)
    have hile := x2.le
    have hfew := x2.few
    dsimp only at hile hfew
    have d := decl9_row ts (by omega) i (by omega)
    obtain ⟨m, rfl⟩ : ∃ k, m = k + 1 := ⟨m - 1, by have := x2.fuel; dsimp only at this; omega⟩
    have nxt' : InvUP ts C (m, (declG ts i).2.1, (declG ts i).2.2, acc ++ [(declG ts i).1]) := by
      refine ⟨fun h => ?_, fun h => invU_next hok x2 hnl h⟩
      have y1 := x2.eq
      dsimp only at y1 h
      rw [lpU, if_neg hnl, if_pos h] at y1
      rw [← y1]
    obtain ⟨⟨xk, xn, xs, xf, xt⟩, hn⟩ : ∃ x, nxt ts i = x := ⟨_, rfl⟩
    obtain ⟨⟨⟨px, pl⟩, j, e2⟩, hd⟩ : ∃ r, declG ts i = r := ⟨_, rfl⟩
    rw [hn] at nx h5
    rw [hd] at d nxt'
    dsimp only at h5 d nxt'
    have b1 : (acc.length + 1) * 72 ≤ 140737488355328 := by omega
    have b2 : acc.length + 1 ≤ 140737488355328 := by omega
    clear x1 x2 hk hn hsz hal hok hd
    repeat' (first | refine aw_seq ?_ | refine aw_skip ?_ | refine aw_block ?_ | refine aw_exit ?_ | refine aw_ct rfl ?_ | refine aw_cf rfl ?_ | ((first | refine aw_reg (fun K hK => ?_) | refine aw_drw mixd (fun K hK => ?_) | refine ar_call (cb g 2 ?_) | refine ard_call (db g 2 ?_) | refine ar_call (cb nx 2 ?_) | refine ard_call (db nx 2 ?_) | refine ar_call (cb d 2 ?_) | refine ard_call (db d 2 ?_) | fail); simp -implicitDefEqProofs [h5, b1, b2]) | refine hK _ ?_ | refine hK _ _ (by rfl) ?_ | fail)
    refine ⟨(_, _, _, _), nxt', (by dsimp only; omega), ?_⟩; rw [hI]; exact cov_intro [0, 1, 2, 3, 71] (by simp -implicitDefEqProofs) (by simp -implicitDefEqProofs) (by decide) rfl (by simp)
end Go.Proofs.YtlkggpjdaaglmaaGreatDoor.am
end
