import Derived.Test.YthcnligihpnfiaaGreatDoorPkU18
import Derived.Test.YthcnligihpnfiaaGreatDoorPkU25
import Derived.Test.YthcnligihpnfiaaGreatDoorRows
import Derived.LaidMore
import Derived.LaidSub
import Derived.Lib.LaidTab
import Derived.Test.YthcnligihpnfiaaGreatDoorChecked
import Derived.Test.YthcnligihpnfiaaGreatDoorPkU16
import Derived.Test.YthcnligihpnfiaaGreatDoorPkU4
import Derived.ChangeMaps5
import Derived.Test.YthcnligihpnfiaaGreatDoorPkU24
import Derived.Test.YthcnligihpnfiaaGreatDoorPkU13
section
namespace Go.Proofs.YthcnligihpnfiaaGreatDoor.am
open Go.ChangeShapes Go.WideShapes Go.ChangeAt Go.RowKit
open vt
set_option linter.unusedVariables false
structure LibL (L : List (Nat × Array Value)) : Prop where
  syn : ∃ tp p, (1, #[Value.iface tp p]) ∈ L
  rng : ∃ tp p, (2, #[Value.iface tp p]) ∈ L
  tab : (3, (Lib.pow10Tab.map fun z => Value.int .u64 z).toArray) ∈ L
theorem n_syn : Tryz.prog.globalNamed "strconv.ErrSyntax" = some 1 := by kernel_rfl
theorem n_rng : Tryz.prog.globalNamed "strconv.ErrRange" = some 2 := by kernel_rfl
theorem n_tab : Tryz.prog.globalNamed "internal/strconv.uint64pow10" = some 3 := by kernel_rfl
theorem gl_of_lib {L : List (Nat × Array Value)} (hL : LibL L) {γ : Nat → G} {S : CS} {w : World} {x : Nat} (h : Obj' γ S w x (.lib L)) : lx.Gl w := by
  obtain ⟨⟨t1, p1, h1⟩, ⟨t2, p2, h2⟩, h3⟩ := hL
  exact ⟨⟨t1, p1, lib_var h n_syn h1 (show 0 < 1 by decide)⟩, ⟨t2, p2, lib_var h n_rng h2 (show 0 < 1 by decide)⟩, lib_var h n_tab h3 (by decide)⟩
theorem lib_of_gl {w : World} (h : lx.Gl w) : ∃ L, LibL L ∧ ∀ p ∈ L, ∀ o, p.1 < w.heap.size ∧ w.cell? ⟨p.1, o, none⟩ = p.2[o]? := by
  obtain ⟨⟨t1, p1, h1⟩, ⟨t2, p2, h2⟩, h3⟩ := h
  refine ⟨[(1, #[Value.iface t1 p1]), (2, #[Value.iface t2 p2]), (3, (Lib.pow10Tab.map fun z => Value.int .u64 z).toArray)], ⟨⟨t1, p1, .head _⟩, ⟨t2, p2, .tail _ (.head _)⟩, .tail _ (.tail _ (.head _))⟩, ?_⟩
  intro p hp o
  rcases List.mem_cons.1 hp with rfl | hp
  · exact var_lib n_syn h1 o
  rcases List.mem_cons.1 hp with rfl | hp
  · exact var_lib n_rng h2 o
  rcases List.mem_cons.1 hp with rfl | hp
  · exact var_lib n_tab h3 o
  · cases hp
theorem tokens_row (L : List (Nat × Array Value)) (hL : LibL L) (s : ByteArray) (hs : s.size ≤ 9223372036854775807) : Row Tryz.prog 18 [vS s] [.lib L] (vTk (tokG s)) [some (.lib L)] := by
  refine ⟨⟨_, Tryz.func18, rfl, rfl⟩, spec_of_below fun γ S w vs hm hv => ?_⟩
  match vs, hv with
  | [v0], ⟨h0, _⟩ =>
    obtain ⟨rfl, _⟩ := lit_inv h0
    exact (lx.tokens_own s w (gl_of_lib hL (hm.obj 0 _ rfl)) hs).mono fun e w' h => rep_tokens h
end Go.Proofs.YthcnligihpnfiaaGreatDoor.am
end
section
namespace Go.Proofs.YthcnligihpnfiaaGreatDoor.lx
open Go.ChangeShapes Go.WideShapes Go.ChangeAt Go.RowKit
open bs
set_option linter.unusedVariables false
theorem trod_if {H : Type} {enc : TypeId × Value → H} {P : Program} {w : World} {base : Nat} {sp : Nat → Bool} {held : Bool} {fuel : Nat} {t : TypeId} {ms : Array (String × TypeId)} {cs : List Value} {n : String} {d : DataW H} {p : List MemPlace}
    (ht : P.underlying t = some (.interface ms)) (h : DataW.trod enc P w base sp held fuel t cs = some (.iface n d, p)) : ∃ u v, cs = [.iface u v] := by
  cases fuel with
  | zero => simp [DataW.trod] at h
  | succ fuel =>
    simp only [DataW.trod, ht] at h
    split at h <;> first | exact ⟨_, _, rfl⟩ | (simp at *; done)
theorem gl_of_laid {W : World} (h : laidMetH Tryz.prog Rows.unitReadsRow.laid W) : Gl W := by
  rw [MakeChecks.laidMetH_plain _ _ _ (by kernel_rfl)] at h
  obtain ⟨ps, hl, _, _⟩ := h
  obtain ⟨g0, t0, cs0, f0, p0, q0, hg0, ht0, hv0, hd0, hl, _⟩ := hl
  obtain ⟨g1, t1, cs1, f1, p1, q1, hg1, ht1, hv1, hd1, hl, _⟩ := hl
  obtain ⟨g2, t2, cs2, f2, p2, q2, hg2, ht2, hv2, hd2, hl, _⟩ := hl
  obtain ⟨g3, t3, cs3, f3, p3, q3, hg3, ht3, hv3, hd3, hl, _⟩ := hl
  obtain ⟨g4, t4, cs4, f4, p4, q4, hg4, ht4, hv4, hd4, hl, _⟩ := hl
  obtain rfl := Option.some.inj ((show Tryz.prog.globalNamed "internal/strconv.uint64pow10" = some 3 by kernel_rfl).symm.trans hg2)
  obtain rfl := Option.some.inj ((show (Tryz.prog.globals[3]?).map (·.type) = some 176 by kernel_rfl).symm.trans ht2)
  obtain rfl := Option.some.inj ((show Tryz.prog.globalNamed "strconv.ErrRange" = some 2 by kernel_rfl).symm.trans hg3)
  obtain rfl := Option.some.inj ((show (Tryz.prog.globals[2]?).map (·.type) = some 59 by kernel_rfl).symm.trans ht3)
  obtain rfl := Option.some.inj ((show Tryz.prog.globalNamed "strconv.ErrSyntax" = some 1 by kernel_rfl).symm.trans hg4)
  obtain rfl := Option.some.inj ((show (Tryz.prog.globals[1]?).map (·.type) = some 59 by kernel_rfl).symm.trans ht4)
  have hc2 := Lib.cells_of_tab (k := .u64) (zs := Lib.pow10Tab) Tryz.underlying176 Tryz.underlying151 (by kernel_rfl) (by kernel_rfl) hd2
  obtain ⟨u3, v3, hc3⟩ := trod_if Tryz.underlying59 hd3
  obtain ⟨u4, v4, hc4⟩ := trod_if Tryz.underlying59 hd4
  have e2 : cs2 = (Lib.pow10Tab.map fun z => Value.int .u64 z).toArray := by rw [← hc2]
  have e3 : cs3 = #[.iface u3 v3] := by rw [← Array.toList_inj]; exact hc3
  have e4 : cs4 = #[.iface u4 v4] := by rw [← Array.toList_inj]; exact hc4
  refine ⟨⟨u4, v4, by rw [hv4, e4]⟩, ⟨u3, v3, by rw [hv3, e3]⟩, by unfold Lib.TabIs; rw [hv2, e2]⟩
end Go.Proofs.YthcnligihpnfiaaGreatDoor.lx
end
section
namespace Go.Proofs.YthcnligihpnfiaaGreatDoor.am
open Go.ChangeShapes Go.WideShapes Go.ChangeAt Go.RowKit
open vt
set_option linter.unusedVariables false
set_option linter.unusedSimpArgs false
set_option maxRecDepth 100000
end Go.Proofs.YthcnligihpnfiaaGreatDoor.am
end
section
namespace Go.Proofs.YthcnligihpnfiaaGreatDoor.am
open Go.ChangeShapes Go.WideShapes Go.ChangeAt Go.RowKit
open vt
set_option linter.unusedVariables false
set_option maxRecDepth 100000 in
theorem open_vstring {H : Type} {enc : TypeId × Value → H} {w : World} {r : Reach} {b0 : Nat} {v : Value} {d : DataW H} {p : List MemPlace}
    (hv : Value.okWide Tryz.prog w r b0 9 v) (h : DataW.Trod enc Tryz.prog w 0 (fun _ => true) true 9 v d p) : ∃ s : ByteArray, RepV (fun _ => .un) (oldS w) w v (vS s) ∧ s.size ≤ 9223372036854775807 := by
  obtain ⟨s, rfl, _, _, h1⟩ := Go.ChangeMaps.open_string Tryz.underlying9 hv h
  exact ⟨s, .lit _ rfl, by unfold maxLen at h1; omega⟩
end Go.Proofs.YthcnligihpnfiaaGreatDoor.am
end
section
namespace Go.Proofs.YthcnligihpnfiaaGreatDoor.am
open Go.ChangeShapes Go.WideShapes Go.ChangeAt Go.RowKit
open vt
set_option linter.unusedVariables false
set_option linter.unusedSimpArgs false
theorem chl_lo {l : List VT} {lo lo' hi : Int} (h : ChL lo hi l) (h' : lo' ≤ lo) : ChL lo' hi l := by
  cases l with
  | nil => exact Int.le_trans h' h
  | cons y l => exact ⟨Int.le_trans h' h.1, h.2⟩
theorem tok_in {s : ByteArray} {ts : List Tok} (h : TokOk s ts) {i : Nat} (hi : i < ts.length) : 0 ≤ frT ts i ∧ frT ts i ≤ toT ts i ∧ toT ts i ≤ s.size := by
  obtain ⟨M, rfl, h1, h2, h3, h4⟩ := h.ex
  have hc := cl_at i (cl_snoc (x := enT s) h1 (Int.le_refl _) (Int.le_refl _)) hi
  exact ⟨hc.1, hc.2.1, hc.2.2.1⟩
theorem lpU_le {ts : List Tok} : ∀ (m i : Nat) (acc : List VT), i ≤ ts.length → (lpU ts m i acc).2.2 = 0 → (lpU ts m i acc).2.1 ≤ ts.length
  | 0, i, acc, hi => fun h' => by rw [lpU] at h'; exact absurd h' (by simp)
  | m + 1, i, acc, hi => by
    rw [lpU]
    by_cases h0 : ts.length ≤ i + 1
    · rw [if_pos h0]; exact fun _ => hi
    rw [if_neg h0]
    by_cases h1 : (declG ts i).2.2 ≠ 0
    · rw [if_pos h1]; exact fun h' => absurd h' h1
    · rw [if_neg h1]
      have h1 : (declG ts i).2.2 = 0 := by simpa using h1
      exact lpU_le m _ _ ((decl_oks (ts := ts) i hi).ok.yes h1).2
theorem unit_wi (s : ByteArray) (h : (unitG s).2.2 = 0) : Wi (unitG s).1 ∧ (unitG s).1.lab.f = 0 ∧ (unitG s).1.lab.t = s.size := by
  unfold unitG at h ⊢
  split at h
  · rename_i h0; exact absurd h h0
  rename_i h0
  have h0 : (tokG s).2.2 = 0 := by simpa using h0
  rw [if_neg (by simp [h0])]
  have hok := tok_ok h0
  obtain ⟨⟨ts, p, e⟩, ht⟩ : ∃ r, tokG s = r := ⟨_, rfl⟩
  rw [ht] at h hok ⊢
  dsimp only at h hok ⊢
  have hlen := tok_len hok
  unfold modG at h ⊢
  have hps := lpU_pl (tok_to hok) (ts.length + 1) 0 [] (Nat.zero_le _) (ps_nil (tok_to hok) (Nat.le_refl _) (Nat.zero_le _))
  have hle := lpU_le (ts := ts) (ts.length + 1) 0 [] (Nat.zero_le _)
  obtain ⟨C, hC⟩ : ∃ C, lpU ts (ts.length + 1) 0 [] = C := ⟨_, rfl⟩
  rw [hC] at h hps hle ⊢
  split at h
  · rename_i h1; exact absurd h h1
  rename_i h1
  split at h
  · exact absurd h (by decide)
  rename_i h2
  split at h
  · exact absurd h (by decide)
  rename_i h3
  rw [if_neg h1, if_neg h2, if_neg h3]
  have h1 : C.2.2 = 0 := by simpa using h1
  have hps := hps h1
  have hle := hle h1
  refine ⟨.mk _ _ (chl_lo (chl_mono hps.ch ?_) ?_) hps.wi, rfl, rfl⟩
  · unfold pe
    split
    · exact (tok_in hok (by omega)).2.2
    · have := tok_in hok (show 0 < ts.length by omega)
      show frT ts 0 ≤ (s.size : Int)
      omega
  · exact (tok_in hok (show 0 < ts.length by omega)).1
set_option maxRecDepth 100000 in
set_option maxHeartbeats 4000000 in
theorem law_uplaces_row {L : List (Nat × Array Value)} (hT : TkL L) (s : ByteArray) (h47 : s.size ≤ 9223372036854775807) : Row Tryz.prog 5 [vS s] [.lib L] (vB true) [some (.lib L)] := by
  have haw := awake09_row hT
  by_cases h3 : 2000 < s.size
  · have h3' : (2000 : Int) < s.size := by omega
    refine row_of Tryz.func5 rfl rfl (Nat.le_of_ble_eq_true rfl) ?_
    repeat' (first | refine aw_seq ?_ | refine aw_skip ?_ | refine aw_block ?_ | refine aw_exit ?_ | refine aw_cond rfl (fun _ => ?_) (fun hb => absurd hb (by decide)) | refine aw_cond rfl (fun hb => absurd hb (by decide)) (fun _ => ?_) | (refine aw_reg (fun K hK => ?_); simp -implicitDefEqProofs [h3, h3']) | (refine aw_drw mixd (fun K hK => ?_); simp -implicitDefEqProofs [h3, h3']) | refine hK _ ?_ | refine hK _ _ (by rfl) ?_ | (refine ar_call (cb haw 0 ?_); simp -implicitDefEqProofs [h3, h3']) | (refine ard_call (db haw 0 ?_); simp -implicitDefEqProofs [h3, h3']) | fail)
    refine aw_ret (fin_box ?_); simp -implicitDefEqProofs [FinB, resV, resT] <;> try rfl
  have h3' : ¬ (2000 : Int) < s.size := by omega
  have h := uparse_row L s (by omega) (hT s h47)
  have hz := unit_sz s (by omega)
  have hw := unit_wi s
  obtain ⟨⟨⟨⟨xk, xn, xs, xf, xt⟩, pl⟩, a, e⟩, hr⟩ : ∃ r, unitG s = r := ⟨_, rfl⟩
  rw [hr] at h hw hz
  dsimp only at hw hz
  clear hr
  by_cases he : e = 0; rotate_left
  · clear hw hz
    refine row_of Tryz.func5 rfl rfl (Nat.le_of_ble_eq_true rfl) ?_
    repeat' (first | refine aw_seq ?_ | refine aw_skip ?_ | refine aw_block ?_ | refine aw_exit ?_ | refine aw_cond rfl (fun _ => ?_) (fun hb => absurd hb (by decide)) | refine aw_cond rfl (fun hb => absurd hb (by decide)) (fun _ => ?_) | (refine aw_reg (fun K hK => ?_); simp -implicitDefEqProofs [h3, h3', he]) | (refine aw_drw mixd (fun K hK => ?_); simp -implicitDefEqProofs [h3, h3', he]) | refine hK _ ?_ | refine hK _ _ (by rfl) ?_ | (refine ar_call (cb h 0 ?_); simp -implicitDefEqProofs [h3, h3', he]) | (refine ard_call (db h 0 ?_); simp -implicitDefEqProofs [h3, h3', he]) | (refine ar_call (cb haw 0 ?_); simp -implicitDefEqProofs [h3, h3', he]) | (refine ard_call (db haw 0 ?_); simp -implicitDefEqProofs [h3, h3', he]) | fail)
    refine aw_ret (fin_box ?_); simp -implicitDefEqProofs [FinB, resV, resT] <;> try rfl
  subst he
  obtain ⟨w1, w2, w3⟩ := hw rfl
  have hp := within_row _ w1 (by omega)
  have w2 : xf = 0 := w2
  have w3 : xt = s.size := w3
  subst w2 w3
  clear w1 hz hw
  refine row_of Tryz.func5 rfl rfl (Nat.le_of_ble_eq_true rfl) ?_
  repeat' (first | refine aw_seq ?_ | refine aw_skip ?_ | refine aw_block ?_ | refine aw_exit ?_ | refine aw_cond rfl (fun _ => ?_) (fun hb => absurd hb (by decide)) | refine aw_cond rfl (fun hb => absurd hb (by decide)) (fun _ => ?_) | (refine aw_reg (fun K hK => ?_); simp -implicitDefEqProofs [h3, h3']) | (refine aw_drw mixd (fun K hK => ?_); simp -implicitDefEqProofs [h3, h3']) | refine hK _ ?_ | refine hK _ _ (by rfl) ?_ | (refine ar_call (cb h 0 ?_); simp -implicitDefEqProofs [h3, h3']) | (refine ard_call (db h 0 ?_); simp -implicitDefEqProofs [h3, h3']) | (refine ar_call (cp hp ?_); simp -implicitDefEqProofs [h3, h3']) | (refine ard_call (dp hp ?_); simp -implicitDefEqProofs [h3, h3']) | (refine ar_call (cb haw 0 ?_); simp -implicitDefEqProofs [h3, h3']) | (refine ard_call (db haw 0 ?_); simp -implicitDefEqProofs [h3, h3']) | fail)
  refine aw_ret (fin_box ?_); simp -implicitDefEqProofs [FinB, resV, resT] <;> try rfl
end Go.Proofs.YthcnligihpnfiaaGreatDoor.am
end
section
namespace Go.Proofs.YthcnligihpnfiaaGreatDoor.vt
open Go.Proofs.YthcnligihpnfiaaGreatDoor.am
set_option linter.unusedVariables false
def mvK (d : Int) (x : Tok) : Tok := ⟨x.k, x.n, x.s, x.f + d, x.t + d⟩
noncomputable def mvT (d : Int) (t : VT) : VT := Tr.fold (fun x _ b => .mk ⟨x.k, x.n, x.s, x.f + d, x.t + d⟩ b) t
theorem mvT_mk (d : Int) (x : Lab) (l : List VT) : mvT d (.mk x l) = .mk ⟨x.k, x.n, x.s, x.f + d, x.t + d⟩ (l.map (mvT d)) := Tr.fold_mk _ x l
theorem mvT_zero (t : VT) : mvT 0 t = t := by
  induction t using Tr.ind with
  | h x l ih =>
    rw [mvT_mk]
    have : l.map (mvT 0) = l := by
      conv => rhs; rw [← List.map_id l]
      exact List.map_congr_left (fun y hy => ih y hy)
    rw [this]
    simp
structure LikeM (ts ts' : List Tok) (k : Nat) (d : Int) (M : Nat) : Prop where
  on : ∀ j, j < M → nxt ts' (k + j) = mvK d (nxt ts j)
  le : M ≤ ts.length
  len : k + M ≤ ts'.length
noncomputable def shd (k : Nat) (d : Int) (x : Got) : Got := (mvT d x.1, k + x.2.1, x.2.2)
noncomputable def shL (k : Nat) (d : Int) (x : List VT × Nat × Int) : List VT × Nat × Int := (x.1.map (mvT d), k + x.2.1, x.2.2)
section
variable {ts ts' : List Tok} {k : Nat} {d : Int} {M : Nat} (h : LikeM ts ts' k d M)
include h
theorem m_isK {s : ByteArray} {j : Nat} (hj : j < M) : isK s (nxt ts' (k + j)) = isK s (nxt ts j) := by rw [h.on j hj]; rfl
theorem m_op {j : Nat} (hj : j < M) : opK (nxt ts' (k + j)) = opK (nxt ts j) := by rw [h.on j hj]; rfl
theorem m_k {j : Nat} (hj : j < M) : (nxt ts' (k + j)).k = (nxt ts j).k := by rw [h.on j hj]; rfl
theorem m_n {j : Nat} (hj : j < M) : (nxt ts' (k + j)).n = (nxt ts j).n := by rw [h.on j hj]; rfl
theorem m_s {j : Nat} (hj : j < M) : (nxt ts' (k + j)).s = (nxt ts j).s := by rw [h.on j hj]; rfl
theorem mk7_m {a b : Nat} {kk n : Int} {s : ByteArray} {l : List VT} (ha : a < b) (hb : b ≤ M) : mk7 ts' (k + a) (k + b) kk n s (l.map (mvT d)) = shd k d (mk7 ts a b kk n s l) := by
  unfold mk7 shd frT toT
  dsimp only
  rw [h.on a (by omega), show k + b - 1 = k + (b - 1) by omega, h.on (b - 1) (by omega), mvT_mk]
  rfl
omit h in
theorem lpL_ge {P : Nat → Got} {l a : Nat} (hl5 : l ≤ 5) (hP : ∀ j, j ≤ ts.length → OkG ts j (P j)) : ∀ (m : Nat) (t : Bool) (x : Got), OkG ts a x → (lpL ts P l a m t x).2.2 = 0 → x.2.1 ≤ (lpL ts P l a m t x).2.1 := by
  intro m
  induction m with
  | zero => intro t x hx h; exact Nat.le_refl _
  | succ m ih =>
    intro t x hx h
    unfold lpL at h ⊢
    by_cases h0 : x.2.2 = 0; rotate_left
    · rw [if_pos h0] at h; exact absurd h h0
    rw [if_neg (by simp [h0])] at h ⊢
    by_cases h4 : (opK (nxt ts x.2.1)).2 ≠ l ∨ (l = 3 ∧ t = true)
    · rw [if_pos h4]; exact Nat.le_refl _
    rw [if_neg h4] at h ⊢
    have h5 : (opK (nxt ts x.2.1)).2 = l := by simpa using (not_or.1 h4).1
    have hlt := op_lt h5 hl5
    by_cases h6 : (P (x.2.1 + 1)).2.2 ≠ 0
    · rw [if_pos h6] at h; exact absurd h h6
    rw [if_neg h6] at h ⊢
    have hy := (hP (x.2.1 + 1) (by omega)).yes (by simpa using h6)
    have hx0 := hx.yes h0
    have := ih true _ (ok_mk (by omega) hy.2) h
    simp only [mk7] at this ⊢
    omega
theorem lpL_m {P P' : Nat → Got} {l a : Nat} (hl5 : l ≤ 5) (hP : ∀ j, j ≤ ts.length → OkG ts j (P j)) (hE : ∀ j, a < j → j ≤ ts.length → (P j).2.2 = 0 → (P j).2.1 < M → P' (k + j) = shd k d (P j)) : ∀ (m m' : Nat) (t : Bool) (x : Got), OkG ts a x → ts.length < m + x.2.1 → ts'.length < m' + (k + x.2.1) → (lpL ts P l a m t x).2.2 = 0 → (lpL ts P l a m t x).2.1 < M → lpL ts' P' l (k + a) m' t (shd k d x) = shd k d (lpL ts P l a m t x) := by
  intro m
  induction m with
  | zero =>
    intro m' t x hx h1 h2 h3 hM
    have h3 : x.2.2 = 0 := h3
    have := (hx.yes h3).2
    omega
  | succ m ih =>
    intro m' t x hx h1 h2 h3 hM
    have hge := lpL_ge hl5 hP (m + 1) t x hx h3
    by_cases h0 : x.2.2 = 0; rotate_left
    · rw [lpL, if_pos h0] at h3; exact absurd h3 h0
    have hy := hx.yes h0
    have hlen := h.len
    have hle := h.le
    obtain ⟨m', rfl⟩ : ∃ n, m' = n + 1 := ⟨m' - 1, by omega⟩
    have n0 : ¬ x.2.2 ≠ 0 := fun hh => hh h0
    have n0' : ¬ (shd k d x).2.2 ≠ 0 := n0
    have ho : opK (nxt ts' (shd k d x).2.1) = opK (nxt ts x.2.1) := m_op h (by omega)
    rw [lpL, if_neg n0] at h3 hM
    rw [lpL, if_neg n0', ho, lpL, if_neg n0]
    by_cases h4 : (opK (nxt ts x.2.1)).2 ≠ l ∨ (l = 3 ∧ t = true)
    · rw [if_pos h4, if_pos h4]
    rw [if_neg h4] at h3 hM ⊢
    rw [if_neg h4]
    have h5 : (opK (nxt ts x.2.1)).2 = l := by simpa using (not_or.1 h4).1
    have hlt := op_lt h5 hl5
    have hp := hP (x.2.1 + 1) (by omega)
    by_cases h6 : (P (x.2.1 + 1)).2.2 ≠ 0
    · rw [if_pos h6] at h3; exact absurd h3 h6
    rw [if_neg h6] at h3 hM ⊢
    have h6' : (P (x.2.1 + 1)).2.2 = 0 := by simpa using h6
    have hpy := hp.yes h6'
    have hge2 := lpL_ge (a := a) hl5 hP m true _ (ok_mk (by omega) hpy.2) h3
    have hpm : (P (x.2.1 + 1)).2.1 < M := by simp only [mk7] at hge2 hM; omega
    have hq : P' ((shd k d x).2.1 + 1) = shd k d (P (x.2.1 + 1)) := hE (x.2.1 + 1) (by omega) (by omega) h6' hpm
    rw [hq, if_neg (show ¬ (shd k d (P (x.2.1 + 1))).2.2 ≠ 0 from h6)]
    rw [← ih m' true _ (ok_mk (by omega) hpy.2) (by simp only [mk7]; omega) (by simp only [mk7]; omega) h3 hM, ← mk7_m h (by omega) (Nat.le_of_lt hpm)]
    rfl
omit h in
theorem lpP_ge {E : Nat → Got} {a : Nat} (hP : ∀ j, j ≤ ts.length → OkG ts j (E j)) : ∀ (m : Nat) (x : Got), OkG ts a x → (lpP ts E a m x).2.2 = 0 → x.2.1 ≤ (lpP ts E a m x).2.1 := by
  intro m
  induction m with
  | zero => intro x hx h; exact Nat.le_refl _
  | succ m ih =>
    intro x hx h
    unfold lpP at h ⊢
    by_cases h0 : x.2.2 = 0; rotate_left
    · rw [if_pos h0] at h; exact absurd h h0
    rw [if_neg (by simp [h0])] at h ⊢
    have hy := hx.yes h0
    by_cases h4 : isK sOpen (nxt ts x.2.1) = true
    · rw [if_pos h4] at h ⊢
      have hlt := isK_lt h4
      by_cases h6 : (E (x.2.1 + 1)).2.2 ≠ 0
      · rw [if_pos h6] at h; exact absurd h h6
      rw [if_neg h6] at h ⊢
      have hyy := (hP (x.2.1 + 1) (by omega)).yes (by simpa using h6)
      by_cases h7 : isK sShut (nxt ts (E (x.2.1 + 1)).2.1) = false
      · rw [if_pos h7] at h; simp [bad7] at h
      rw [if_neg h7] at h ⊢
      have hlt2 := isK_lt (s := sShut) (ts := ts) (by simpa using h7)
      have := ih _ (ok_mk (by omega) (by omega)) h
      simp only [mk7] at this ⊢
      omega
    rw [if_neg h4] at h ⊢
    by_cases h5 : isK sDot (nxt ts x.2.1) = true
    · rw [if_pos h5] at h ⊢
      have hlt := isK_lt h5
      by_cases h7 : (nxt ts (x.2.1 + 1)).k ≠ 1
      · rw [if_pos h7] at h; simp [bad7] at h
      rw [if_neg h7] at h ⊢
      have hlt2 := k_lt (ts := ts) (k := 1) (by simpa using h7) (by decide)
      have := ih _ (ok_mk (by omega) (by omega)) h
      simp only [mk7] at this ⊢
      omega
    · rw [if_neg h5]; exact Nat.le_refl _
theorem lpP_m {E E' : Nat → Got} {a : Nat} (hP : ∀ j, j ≤ ts.length → OkG ts j (E j)) (hE : ∀ j, a < j → j ≤ ts.length → (E j).2.2 = 0 → (E j).2.1 < M → E' (k + j) = shd k d (E j)) : ∀ (m m' : Nat) (x : Got), OkG ts a x → ts.length < m + x.2.1 → ts'.length < m' + (k + x.2.1) → (lpP ts E a m x).2.2 = 0 → (lpP ts E a m x).2.1 < M → lpP ts' E' (k + a) m' (shd k d x) = shd k d (lpP ts E a m x) := by
  intro m
  induction m with
  | zero =>
    intro m' x hx h1 h2 h3 hM
    have h3 : x.2.2 = 0 := h3
    have := (hx.yes h3).2
    omega
  | succ m ih =>
    intro m' x hx h1 h2 h3 hM
    have hge := lpP_ge hP (m + 1) x hx h3
    by_cases h0 : x.2.2 = 0; rotate_left
    · rw [lpP, if_pos h0] at h3; exact absurd h3 h0
    have hy := hx.yes h0
    have hlen := h.len
    have hle := h.le
    obtain ⟨m', rfl⟩ : ∃ n, m' = n + 1 := ⟨m' - 1, by omega⟩
    have n0 : ¬ x.2.2 ≠ 0 := fun hh => hh h0
    have n0' : ¬ (shd k d x).2.2 ≠ 0 := n0
    have i1 : isK sOpen (nxt ts' (shd k d x).2.1) = isK sOpen (nxt ts x.2.1) := m_isK h (by omega)
    have i2 : isK sDot (nxt ts' (shd k d x).2.1) = isK sDot (nxt ts x.2.1) := m_isK h (by omega)
    rw [lpP, if_neg n0] at h3 hM
    rw [lpP, if_neg n0', i1, i2, lpP, if_neg n0]
    by_cases h4 : isK sOpen (nxt ts x.2.1) = true
    · rw [if_pos h4] at h3 hM ⊢
      rw [if_pos h4]
      have hlt := isK_lt h4
      have hp := hP (x.2.1 + 1) (by omega)
      by_cases h6 : (E (x.2.1 + 1)).2.2 ≠ 0
      · rw [if_pos h6] at h3; exact absurd h3 h6
      rw [if_neg h6] at h3 hM ⊢
      have h6' : (E (x.2.1 + 1)).2.2 = 0 := by simpa using h6
      have hpy := hp.yes h6'
      by_cases h7 : isK sShut (nxt ts (E (x.2.1 + 1)).2.1) = false
      · rw [if_pos h7] at h3; simp [bad7] at h3
      rw [if_neg h7] at h3 hM ⊢
      have hlt2 := isK_lt (s := sShut) (ts := ts) (by simpa using h7)
      have hge2 := lpP_ge (a := a) hP m _ (ok_mk (by omega) (by omega)) h3
      have hpm : (E (x.2.1 + 1)).2.1 + 1 < M := by simp only [mk7] at hge2 hM; omega
      have hq : E' ((shd k d x).2.1 + 1) = shd k d (E (x.2.1 + 1)) := hE (x.2.1 + 1) (by omega) (by omega) h6' (by omega)
      have i3 : isK sShut (nxt ts' (shd k d (E (x.2.1 + 1))).2.1) = isK sShut (nxt ts (E (x.2.1 + 1)).2.1) := m_isK h (by omega)
      rw [hq, if_neg (show ¬ (shd k d (E (x.2.1 + 1))).2.2 ≠ 0 from h6), i3, if_neg h7]
      rw [← ih m' _ (ok_mk (by omega) (by omega)) (by simp only [mk7]; omega) (by simp only [mk7]; omega) h3 hM, ← mk7_m h (by omega) (by omega)]
      rfl
    rw [if_neg h4] at h3 hM ⊢
    rw [if_neg h4]
    by_cases h5 : isK sDot (nxt ts x.2.1) = true
    · rw [if_pos h5] at h3 hM ⊢
      rw [if_pos h5]
      have hlt := isK_lt h5
      by_cases h7 : (nxt ts (x.2.1 + 1)).k = 1
      · have n7 : ¬ (nxt ts (x.2.1 + 1)).k ≠ 1 := fun hh => hh h7
        have hlt2 := k_lt h7 (by decide)
        rw [if_neg n7] at h3 hM ⊢
        have hge2 := lpP_ge (a := a) hP m _ (ok_mk (by omega) (by omega)) h3
        have hpm : x.2.1 + 2 < M := by simp only [mk7] at hge2 hM; omega
        have hk : (nxt ts' ((shd k d x).2.1 + 1)).k = (nxt ts (x.2.1 + 1)).k := m_k h (j := x.2.1 + 1) (by omega)
        have hs : (nxt ts' ((shd k d x).2.1 + 1)).s = (nxt ts (x.2.1 + 1)).s := m_s h (j := x.2.1 + 1) (by omega)
        rw [hk, hs, if_neg n7]
        rw [← ih m' _ (ok_mk (by omega) (by omega)) (by simp only [mk7]; omega) (by simp only [mk7]; omega) h3 hM, ← mk7_m h (by omega) (by omega)]
        rfl
      · rw [if_pos h7] at h3; simp [bad7] at h3
    · rw [if_neg h5] at h3 hM ⊢
      rw [if_neg h5]
omit h in
theorem lpC_ge {E : Nat → Got} (hP : ∀ j, j ≤ ts.length → OkG ts j (E j)) : ∀ (m i : Nat) (acc : List VT), i ≤ ts.length → (lpC ts E m i acc).2.2 = 0 → (E i).2.2 = 0 ∧ (E i).2.1 ≤ (lpC ts E m i acc).2.1 := by
  intro m
  induction m with
  | zero => intro i acc hi h; simp [lpC] at h
  | succ m ih =>
    intro i acc hi h
    unfold lpC at h ⊢
    by_cases h0 : (E i).2.2 = 0; rotate_left
    · rw [if_pos h0] at h; exact absurd h h0
    rw [if_neg (by simp [h0])] at h ⊢
    have hy := (hP i hi).yes h0
    refine ⟨h0, ?_⟩
    by_cases h4 : isK sCom (nxt ts (E i).2.1) = false
    · rw [if_pos h4]; exact Nat.le_refl _
    rw [if_neg h4] at h ⊢
    have hlt := isK_lt (s := sCom) (ts := ts) (by simpa using h4)
    have := ih ((E i).2.1 + 1) _ (by omega) h
    have := (hP ((E i).2.1 + 1) (by omega)).yes this.1
    omega
theorem lpC_m {E E' : Nat → Got} {a : Nat} (hP : ∀ j, j ≤ ts.length → OkG ts j (E j)) (hE : ∀ j, a < j → j ≤ ts.length → (E j).2.2 = 0 → (E j).2.1 < M → E' (k + j) = shd k d (E j)) : ∀ (m m' i : Nat) (acc : List VT), a < i → i ≤ ts.length → ts'.length < m' + (k + i) → (lpC ts E m i acc).2.2 = 0 → (lpC ts E m i acc).2.1 < M → lpC ts' E' m' (k + i) (acc.map (mvT d)) = shL k d (lpC ts E m i acc) := by
  intro m
  induction m with
  | zero => intro m' i acc ha hi h2 h3; simp [lpC] at h3
  | succ m ih =>
    intro m' i acc ha hi h2 h3 hM
    have hge := lpC_ge hP (m + 1) i acc hi h3
    have hEm : (E i).2.1 < M := by omega
    have hlen := h.len
    have hle := h.le
    have hp := hP i hi
    have hy := hp.yes hge.1
    obtain ⟨m', rfl⟩ : ∃ n, m' = n + 1 := ⟨m' - 1, by omega⟩
    rw [lpC] at h3 hM
    rw [lpC, lpC]
    have h0 : ¬ (E i).2.2 ≠ 0 := fun hh => hh hge.1
    rw [if_neg h0] at h3 hM ⊢
    have hq := hE i ha hi hge.1 hEm
    have i1 : isK sCom (nxt ts' (shd k d (E i)).2.1) = isK sCom (nxt ts (E i).2.1) := m_isK h hEm
    rw [hq, if_neg (show ¬ (shd k d (E i)).2.2 ≠ 0 from h0), i1]
    have hmap : acc.map (mvT d) ++ [(shd k d (E i)).1] = (acc ++ [(E i).1]).map (mvT d) := by rw [List.map_append]; rfl
    rw [hmap]
    by_cases h4 : isK sCom (nxt ts (E i).2.1) = false
    · rw [if_pos h4, if_pos h4]; rfl
    rw [if_neg h4] at h3 hM ⊢
    rw [if_neg h4]
    have hlt := isK_lt (s := sCom) (ts := ts) (by simpa using h4)
    exact ih m' ((E i).2.1 + 1) (acc ++ [(E i).1]) (by omega) (by omega) (by omega) h3 hM
theorem cloG_m {E E' : Nat → Got} {a : Nat} (hP : ∀ j, j ≤ ts.length → OkG ts j (E j)) (hE : ∀ j, a < j → j ≤ ts.length → (E j).2.2 = 0 → (E j).2.1 < M → E' (k + j) = shd k d (E j)) {o : Nat} (ho : a ≤ o) (hol : o < M) (few : Bool) (fs ls : ByteArray) (h3 : (cloG ts E o few fs ls).2.2 = 0) (hM : (cloG ts E o few fs ls).2.1 ≤ M) : cloG ts' E' (k + o) few fs ls = shL k d (cloG ts E o few fs ls) := by
  have hle := h.le
  have hlen := h.len
  unfold cloG at h3 hM ⊢
  rw [m_isK h hol]
  by_cases h1 : isK fs (nxt ts o) = false
  · rw [if_pos h1] at h3; simp at h3
  rw [if_neg h1] at h3 hM ⊢
  rw [if_neg h1]
  have hlt := isK_lt (s := fs) (ts := ts) (by simpa using h1)
  have hc := lpC_ok hP (ts.length + 1) (o + 1) [] (by omega)
  have ho1 : o + 1 < M := by
    by_cases h2 : few = true ∧ isK ls (nxt ts (o + 1)) = true
    · rw [if_pos h2] at hM; dsimp only at hM; omega
    · rw [if_neg h2] at h3 hM
      by_cases h4 : (lpC ts E (ts.length + 1) (o + 1) []).2.2 ≠ 0
      · rw [if_pos h4] at h3; exact absurd h3 h4
      rw [if_neg h4] at h3 hM
      have := hc.yes (by simpa using h4)
      by_cases h5 : isK ls (nxt ts (lpC ts E (ts.length + 1) (o + 1) []).2.1) = false
      · rw [if_pos h5] at h3; simp at h3
      · rw [if_neg h5] at hM; dsimp only at hM; omega
  rw [Nat.add_assoc k o 1, m_isK h ho1]
  by_cases h2 : few = true ∧ isK ls (nxt ts (o + 1)) = true
  · rw [if_pos h2, if_pos h2]; rfl
  rw [if_neg h2] at h3 hM ⊢
  rw [if_neg h2]
  by_cases h4 : (lpC ts E (ts.length + 1) (o + 1) []).2.2 ≠ 0
  · rw [if_pos h4] at h3; exact absurd h3 h4
  have h4' : (lpC ts E (ts.length + 1) (o + 1) []).2.2 = 0 := by simpa using h4
  rw [if_neg h4] at h3 hM ⊢
  by_cases h5 : isK ls (nxt ts (lpC ts E (ts.length + 1) (o + 1) []).2.1) = false
  · rw [if_pos h5] at h3; simp at h3
  rw [if_neg h5] at h3 hM ⊢
  have hcm : (lpC ts E (ts.length + 1) (o + 1) []).2.1 < M := by dsimp only at hM; omega
  have hq := lpC_m h hP hE (ts.length + 1) (ts'.length + 1) (o + 1) [] (by omega) (by omega) (by omega) h4' hcm
  rw [List.map_nil] at hq
  rw [hq]
  rw [if_neg (show ¬ (shL k d (lpC ts E (ts.length + 1) (o + 1) [])).2.2 ≠ 0 from h4), show isK ls (nxt ts' (shL k d (lpC ts E (ts.length + 1) (o + 1) [])).2.1) = isK ls (nxt ts (lpC ts E (ts.length + 1) (o + 1) []).2.1) from m_isK h hcm, if_neg h5]
  rfl
theorem fin_m {i o : Nat} {kk : Int} {s : ByteArray} {c : List VT × Nat × Int} (hc : OkC ts o c) (hi : i ≤ o) (h3 : c.2.2 = 0) (hM : c.2.1 ≤ M) : finC ts' (k + i) kk s (shL k d c) = shd k d (finC ts i kk s c) := by
  unfold finC
  rw [if_neg (show ¬ (shL k d c).2.2 ≠ 0 by show ¬ c.2.2 ≠ 0; simp [h3]), if_neg (show ¬ c.2.2 ≠ 0 by simp [h3])]
  have := hc.yes h3
  exact mk7_m h (by omega) hM
omit h in
theorem fin_to {i : Nat} {kk : Int} {s : ByteArray} {c : List VT × Nat × Int} : (finC ts i kk s c).2.1 = c.2.1 ∧ (finC ts i kk s c).2.2 = c.2.2 := by
  unfold finC
  by_cases h0 : c.2.2 = 0
  · rw [if_neg (by simp [h0])]; exact ⟨rfl, h0.symm⟩
  · rw [if_pos h0]; exact ⟨rfl, rfl⟩
theorem cfin_m {E E' : Nat → Got} {i o : Nat} (hP : ∀ j, j ≤ ts.length → OkG ts j (E j)) (hE : ∀ j, i < j → j ≤ ts.length → (E j).2.2 = 0 → (E j).2.1 < M → E' (k + j) = shd k d (E j)) (hio : i ≤ o) (hol : o < M) (few : Bool) (fs ls : ByteArray) {kk : Int} {s : ByteArray} (h3 : (finC ts i kk s (cloG ts E o few fs ls)).2.2 = 0) (hM : (finC ts i kk s (cloG ts E o few fs ls)).2.1 ≤ M) : finC ts' (k + i) kk s (cloG ts' E' (k + o) few fs ls) = shd k d (finC ts i kk s (cloG ts E o few fs ls)) := by
  have hle := h.le
  have ht := fin_to (ts := ts) (i := i) (kk := kk) (s := s) (c := cloG ts E o few fs ls)
  rw [ht.2] at h3
  rw [ht.1] at hM
  rw [cloG_m h hP hE hio hol few fs ls h3 hM]
  exact fin_m h (cloG_ok hP few fs ls (by omega)) hio h3 hM
theorem calG_m {E E' : Nat → Got} {i : Nat} (hi : i < M) (hP : ∀ j, j ≤ ts.length → OkG ts j (E j)) (hE : ∀ j, i < j → j ≤ ts.length → (E j).2.2 = 0 → (E j).2.1 < M → E' (k + j) = shd k d (E j)) (h3 : (calG ts E i).2.2 = 0) (hM : (calG ts E i).2.1 ≤ M) : calG ts' E' (k + i) = shd k d (calG ts E i) := by
  have hle := h.le
  have hok := calG_ok hP i (by omega)
  have hy := hok.yes h3
  unfold calG at h3 hM hy ⊢
  rw [m_k h hi, m_s h hi, m_isK h (s := sOpen) hi, m_isK h (s := sAt) hi, m_isK h (s := wNew) hi, Nat.add_assoc k i 1, Nat.add_assoc k i 2]
  by_cases h1 : (nxt ts i).k = 1
  · rw [if_pos h1] at h3 hM hy ⊢
    rw [if_pos h1]
    have hlt := k_lt h1 (by decide)
    have hc := cloG_ok hP true sParO sParS (show i + 1 ≤ ts.length by omega)
    have ht := fin_to (ts := ts) (i := i) (kk := 16) (s := (nxt ts i).s) (c := cloG ts E (i + 1) true sParO sParS)
    have := hc.yes (by rw [← ht.2]; exact h3)
    exact cfin_m h hP hE (Nat.le_succ i) (by omega) true sParO sParS h3 hM
  rw [if_neg h1] at h3 hM hy ⊢
  rw [if_neg h1]
  by_cases h2 : isK sOpen (nxt ts i) = true
  · rw [if_pos h2] at h3 hM ⊢
    rw [if_pos h2]
    exact cfin_m h hP hE (Nat.le_refl i) hi false sOpen sShut h3 hM
  rw [if_neg h2] at h3 hM hy ⊢
  rw [if_neg h2]
  by_cases h4 : isK sAt (nxt ts i) = true
  · rw [if_pos h4] at h3 hM hy ⊢
    rw [if_pos h4]
    have hlt := isK_lt h4
    by_cases h5 : (nxt ts (i + 1)).k = 1
    · have hlt2 := k_lt h5 (by decide)
      have n5 : ¬ (nxt ts (i + 1)).k ≠ 1 := fun hh => hh h5
      rw [if_neg n5] at h3 hM hy ⊢
      have hc := cloG_ok hP true sParO sParS (show i + 2 ≤ ts.length by omega)
      have ht := fin_to (ts := ts) (i := i) (kk := 17) (s := (nxt ts (i + 1)).s) (c := cloG ts E (i + 2) true sParO sParS)
      have := hc.yes (by rw [← ht.2]; exact h3)
      rw [m_k h (j := i + 1) (by omega), m_s h (j := i + 1) (by omega), if_neg n5]
      exact cfin_m h hP hE (by omega) (by omega) true sParO sParS h3 hM
    · rw [if_pos h5] at h3; simp [bad7] at h3
  rw [if_neg h4] at h3 hM hy ⊢
  rw [if_neg h4]
  by_cases h6 : isK wNew (nxt ts i) = true
  · rw [if_pos h6] at h3 hM hy ⊢
    rw [if_pos h6]
    have hlt := isK_lt h6
    by_cases h5 : (nxt ts (i + 1)).k = 1
    · have hlt2 := k_lt h5 (by decide)
      have n5 : ¬ (nxt ts (i + 1)).k ≠ 1 := fun hh => hh h5
      rw [if_neg n5] at h3 hM hy ⊢
      have hc := cloG_ok hP false sParO sParS (show i + 2 ≤ ts.length by omega)
      have ht := fin_to (ts := ts) (i := i) (kk := 15) (s := (nxt ts (i + 1)).s) (c := cloG ts E (i + 2) false sParO sParS)
      have := hc.yes (by rw [← ht.2]; exact h3)
      rw [m_k h (j := i + 1) (by omega), m_s h (j := i + 1) (by omega), if_neg n5]
      exact cfin_m h hP hE (by omega) (by omega) false sParO sParS h3 hM
    · rw [if_pos h5] at h3; simp [bad7] at h3
  rw [if_neg h6] at h3
  simp [bad7] at h3
theorem atoG_m {E E' : Nat → Got} {i : Nat} (hi : i < M) (hP : ∀ j, j ≤ ts.length → OkG ts j (E j)) (hE : ∀ j, i < j → j ≤ ts.length → (E j).2.2 = 0 → (E j).2.1 < M → E' (k + j) = shd k d (E j)) (h3 : (atoG ts E i).2.2 = 0) (hM : (atoG ts E i).2.1 < M) : atoG ts' E' (k + i) = shd k d (atoG ts E i) := by
  have hle := h.le
  have hok := atoG_ok hP i (by omega)
  have hy := hok.yes h3
  have one : ∀ kk n s, mk7 ts' (k + i) (k + (i + 1)) kk n s [] = shd k d (mk7 ts i (i + 1) kk n s []) := fun kk n s => mk7_m h (l := []) (by omega) (by omega)
  unfold atoG at h3 hM hy ⊢
  rw [m_k h hi, m_n h hi, m_s h hi, m_isK h (s := wTrue) hi, m_isK h (s := wFals) hi, m_isK h (s := wRead) hi, m_isK h (s := sParO) hi, Nat.add_assoc k i 1]
  by_cases h1 : (nxt ts i).k = 2
  · rw [if_pos h1, if_pos h1]; exact one _ _ _
  rw [if_neg h1] at h3 hM hy ⊢
  rw [if_neg h1]
  by_cases h2 : isK wTrue (nxt ts i) = true
  · rw [if_pos h2, if_pos h2]; exact one _ _ _
  rw [if_neg h2] at h3 hM hy ⊢
  rw [if_neg h2]
  by_cases h4 : isK wFals (nxt ts i) = true
  · rw [if_pos h4, if_pos h4]; exact one _ _ _
  rw [if_neg h4] at h3 hM hy ⊢
  rw [if_neg h4]
  by_cases h5 : isK wRead (nxt ts i) = true
  · rw [if_pos h5, if_pos h5]; exact one _ _ _
  rw [if_neg h5] at h3 hM hy ⊢
  rw [if_neg h5]
  rw [m_isK h (s := sParO) (show i + 1 < M by omega)]
  by_cases h6 : (nxt ts i).k = 1 ∧ isK sParO (nxt ts (i + 1)) = false
  · rw [if_pos h6, if_pos h6]; exact one _ _ _
  rw [if_neg h6] at h3 hM hy ⊢
  rw [if_neg h6]
  by_cases h8 : isK sParO (nxt ts i) = true
  · rw [if_pos h8] at h3 hM ⊢
    rw [if_pos h8]
    have hlt := isK_lt h8
    have hp := hP (i + 1) (by omega)
    by_cases h9 : (E (i + 1)).2.2 ≠ 0
    · rw [if_pos h9] at h3; exact absurd h3 h9
    rw [if_neg h9] at h3 hM ⊢
    have h9' : (E (i + 1)).2.2 = 0 := by simpa using h9
    have hpy := hp.yes h9'
    by_cases h10 : isK sParS (nxt ts (E (i + 1)).2.1) = false
    · rw [if_pos h10] at h3; simp [bad7] at h3
    rw [if_neg h10] at h3 hM ⊢
    have hpm : (E (i + 1)).2.1 < M := by dsimp only at hM; omega
    rw [hE (i + 1) (by omega) (by omega) h9' hpm, if_neg (show ¬ (shd k d (E (i + 1))).2.2 ≠ 0 from h9), show isK sParS (nxt ts' (shd k d (E (i + 1))).2.1) = isK sParS (nxt ts (E (i + 1)).2.1) from m_isK h hpm, if_neg h10]
    rfl
  rw [if_neg h8] at h3 hM ⊢
  rw [if_neg h8]
  exact calG_m h hi hP hE h3 (Nat.le_of_lt hM)
theorem bG_m {R R' : Nat → Nat → Got} {w i : Nat} (hi : i < M) (hw1 : 1 ≤ w) (hw : w ≤ 8) (hP : ∀ w j, j ≤ ts.length → OkG ts j (R w j)) (hR : ∀ w' j, 1 ≤ w' → w' ≤ 8 → j ≤ ts.length → me ts w' j < me ts w i → (R w' j).2.2 = 0 → (R w' j).2.1 < M → R' w' (k + j) = shd k d (R w' j)) (h3 : (bG ts R w i).2.2 = 0) (hM : (bG ts R w i).2.1 < M) : bG ts' R' w (k + i) = shd k d (bG ts R w i) := by
  have hle := h.le
  have far : ∀ w' j, 1 ≤ w' → w' ≤ 8 → i < j → j ≤ ts.length → (R w' j).2.2 = 0 → (R w' j).2.1 < M → R' w' (k + j) = shd k d (R w' j) := fun w' j h1 h2 h4 h5 => hR w' j h1 h2 h5 (by unfold me; omega)
  have hlen := h.len
  unfold bG at h3 hM ⊢
  by_cases c1 : w ≤ 5
  · rw [if_pos c1] at h3 hM ⊢
    rw [if_pos c1]
    have h0 : (R (w + 1) i).2.2 = 0 := by
      by_cases h0 : (R (w + 1) i).2.2 = 0
      · exact h0
      · rw [lpL, if_pos h0] at h3; exact h3
    have hge := lpL_ge (a := i) c1 (hP (w + 1)) (ts.length + 1) false (R (w + 1) i) (hP _ i (by omega)) h3
    rw [hR (w + 1) i (by omega) (by omega) (by omega) (by unfold me; omega) h0 (by omega)]
    exact lpL_m h c1 (hP _) (fun j h1 h2 h4 h5 => far (w + 1) j (by omega) (by omega) h1 h2 h4 h5) _ _ _ _ (hP _ i (by omega)) (by have := ((hP (w + 1) i (by omega)).yes h0).1; omega) (by have := ((hP (w + 1) i (by omega)).yes h0).1; omega) h3 hM
  rw [if_neg c1] at h3 hM ⊢
  rw [if_neg c1]
  by_cases c2 : w = 6
  · subst c2
    rw [if_pos rfl] at h3 hM ⊢
    rw [if_pos rfl]
    have hu : unN ts' (k + i) = unN ts i := by
      unfold unN
      rw [m_isK h (s := sNot) hi, m_isK h (s := sMin) hi]
    rw [hu, Nat.add_assoc k i 1]
    by_cases u0 : unN ts i = 0
    · rw [if_pos u0] at h3 hM ⊢
      rw [if_pos u0]
      exact hR 7 i (by omega) (by omega) (by omega) (by unfold me; omega) h3 hM
    rw [if_neg u0] at h3 hM ⊢
    rw [if_neg u0]
    by_cases h4 : (R 6 (i + 1)).2.2 ≠ 0
    · rw [if_pos h4] at h3; exact absurd h3 h4
    rw [if_neg h4] at hM ⊢
    have h4' : (R 6 (i + 1)).2.2 = 0 := by simpa using h4
    have hpy := (hP 6 (i + 1) (by omega)).yes h4'
    have hpm : (R 6 (i + 1)).2.1 < M := by simp only [mk7] at hM; exact hM
    rw [far 6 (i + 1) (by omega) (by omega) (by omega) (by omega) h4' hpm, if_neg (show ¬ (shd k d (R 6 (i + 1))).2.2 ≠ 0 from h4)]
    exact mk7_m h (l := [(R 6 (i + 1)).1]) (by omega) (Nat.le_of_lt hpm)
  rw [if_neg c2] at h3 hM ⊢
  rw [if_neg c2]
  by_cases c3 : w = 7
  · subst c3
    rw [if_pos rfl] at h3 hM ⊢
    rw [if_pos rfl]
    have h0 : (R 8 i).2.2 = 0 := by
      by_cases h0 : (R 8 i).2.2 = 0
      · exact h0
      · rw [lpP, if_pos h0] at h3; exact h3
    have hge := lpP_ge (a := i) (hP 1) (ts.length + 1) (R 8 i) (hP _ i (by omega)) h3
    rw [hR 8 i (by omega) (by omega) (by omega) (by unfold me; omega) h0 (by omega)]
    exact lpP_m h (hP _) (fun j h1 h2 h4 h5 => far 1 j (by omega) (by omega) h1 h2 h4 h5) _ _ _ (hP _ i (by omega)) (by have := ((hP 8 i (by omega)).yes h0).1; omega) (by have := ((hP 8 i (by omega)).yes h0).1; omega) h3 hM
  rw [if_neg c3] at h3 hM ⊢
  rw [if_neg c3]
  exact atoG_m h hi (hP _) (fun j h1 h2 h4 h5 => far 1 j (by omega) (by omega) h1 h2 h4 h5) h3 hM
theorem Q_m : ∀ (n w i : Nat), 1 ≤ w → w ≤ 8 → i < M → me ts w i < n → (Qx ts w i).2.2 = 0 → (Qx ts w i).2.1 < M → Qx ts' w (k + i) = shd k d (Qx ts w i) := by
  intro n
  induction n with
  | zero => intro w i _ _ _ hn; omega
  | succ n ih =>
    intro w i h1 h2 hi hn h3 hM
    have hle := h.le
    have hlen := h.len
    rw [Q_eq w i h1 h2 (by omega)] at h3 hM ⊢
    rw [Q_eq w (k + i) h1 h2 (by omega)]
    refine bG_m h hi h1 h2 Q_ok (fun w' j h4 h5 h6 h7 h8 h9 => ?_) h3 hM
    have := (Q_ok (ts := ts) w' j h6).yes h8
    exact ih w' j h4 h5 (by omega) (by omega) h8 h9
theorem Qe_m (i : Nat) (h3 : (Qx ts 1 i).2.2 = 0) (hM : (Qx ts 1 i).2.1 < M) (hi : i ≤ ts.length) : Qx ts' 1 (k + i) = shd k d (Qx ts 1 i) := by
  have := (Q_ok (ts := ts) 1 i hi).yes h3
  exact Q_m h _ 1 i (by decide) (by decide) (by omega) (Nat.lt_succ_self _) h3 hM
end
section
variable {ts ts' : List Tok} {k : Nat} {d : Int} {M : Nat} (h : LikeM ts ts' k d M)
include h
theorem ty_m : ∀ (n n' i : Nat), ts'.length < n' + (k + i) → (tyG ts n i).2.2 = 0 → (tyG ts n i).2.1 ≤ M → tyG ts' n' (k + i) = shd k d (tyG ts n i) := by
  have hle := h.le
  have hlen := h.len
  have one : ∀ (i : Nat) (kk : Int) (s : ByteArray), i + 1 ≤ M → mk7 ts' (k + i) (k + (i + 1)) kk 0 s [] = shd k d (mk7 ts i (i + 1) kk 0 s []) := fun i kk s hi => mk7_m h (l := []) (by omega) hi
  intro n
  induction n with
  | zero => intro n' i _ h3; simp [tyG] at h3
  | succ n ih =>
    intro n' i hn' h3 hM
    have hy := (tyG_ok ts (n + 1) i).1 h3
    obtain ⟨n', rfl⟩ : ∃ m, n' = m + 1 := ⟨n' - 1, by omega⟩
    have hi : i < M := by omega
    unfold tyG at h3 hM hy ⊢
    rw [m_isK h (s := wInt) hi, m_isK h (s := wBool) hi, m_isK h (s := sOpen) hi, m_k h hi, m_s h hi]
    by_cases h1 : isK wInt (nxt ts i) = true
    · rw [if_pos h1] at hM ⊢; rw [if_pos h1]; exact one i 1 _ hM
    rw [if_neg h1] at h3 hM hy ⊢
    rw [if_neg h1]
    by_cases h2 : isK wBool (nxt ts i) = true
    · rw [if_pos h2] at hM ⊢; rw [if_pos h2]; exact one i 2 _ hM
    rw [if_neg h2] at h3 hM hy ⊢
    rw [if_neg h2]
    by_cases h4 : isK sOpen (nxt ts i) = true
    · rw [if_pos h4] at h3 hM hy ⊢
      rw [if_pos h4]
      by_cases h5 : (nxt ts (i + 1)).k = 2; rotate_left
      · rw [if_neg h5] at h3; simp at h3
      rw [if_pos h5] at h3 hM hy ⊢
      by_cases h6 : isK sShut (nxt ts (i + 2)) = true; rotate_left
      · rw [if_neg h6] at h3; simp at h3
      rw [if_pos h6] at h3 hM hy ⊢
      by_cases h7 : (tyG ts n (i + 3)).2.2 = 0; rotate_left
      · rw [if_neg h7] at h3; exact absurd h3 h7
      rw [if_pos h7] at h3 hM hy ⊢
      dsimp only at hM hy
      have hyy := (tyG_ok ts n (i + 3)).1 h7
      have e1 : nxt ts' (k + i + 1) = mvK d (nxt ts (i + 1)) := h.on (i + 1) (by omega)
      have e2 : nxt ts' (k + i + 2) = mvK d (nxt ts (i + 2)) := h.on (i + 2) (by omega)
      have e3 := ih n' (i + 3) (by omega) h7 hM
      rw [show k + i + 3 = k + (i + 3) by omega, e1, e2, e3, if_pos (show (mvK d (nxt ts (i + 1))).k = 2 from h5), if_pos (show isK sShut (mvK d (nxt ts (i + 2))) = true from h6), if_pos (show (shd k d (tyG ts n (i + 3))).2.2 = 0 from h7)]
      exact mk7_m h (a := i) (kk := 3) (n := (nxt ts (i + 1)).n) (s := ⟨#[]⟩) (l := [(tyG ts n (i + 3)).1]) (by omega) hM
    rw [if_neg h4] at h3 hM hy ⊢
    rw [if_neg h4]
    by_cases h5 : (nxt ts i).k = 1
    · rw [if_pos h5] at hM ⊢; rw [if_pos h5]; exact one i 4 _ hM
    · rw [if_neg h5] at h3; simp at h3
def Gd : List It → Prop
  | [] => True
  | .sub w :: l => (w ≠ 0 ∨ 1 ≤ ct l) ∧ Gd l
  | .els :: l => ct l = 0 ∧ Gd l
  | .sgn _ :: l => Gd l
  | .nam :: l => Gd l
theorem it_m {R R' : Nat → Nat → Got} (hR : ∀ w j, j ≤ ts.length → OkS ts (if w = 2 then 1 else 0) j (R w j)) (i : Nat) (hE : ∀ w j, i ≤ j → j ≤ ts.length → (R w j).2.2 = 0 → (R w j).2.1 ≤ M → (w = 0 → (R w j).2.1 < M) → R' w (k + j) = shd k d (R w j)) (a : Nat) (kk n : Int)
    (hels : ∀ tq, tq ≤ M → isK wElse (nxt ts' (k + tq)) = isK wElse (nxt ts tq)) : ∀ (l : List It) (tq : Nat) (s : ByteArray) (ps : List VT) (c : Nat), c + sm ps + a ≤ tq → i ≤ tq → tq ≤ ts.length → Cr c l → Gd l → (itH ts R a kk n l tq s ps).2.2 = 0 → (itH ts R a kk n l tq s ps).2.1 ≤ M → itH ts' R' (k + a) kk n l (k + tq) s (ps.map (mvT d)) = shd k d (itH ts R a kk n l tq s ps)
  | [], tq, s, ps, c, h1, h2, h3, h4, h5, h6, h7 => by
    unfold Cr at h4
    rw [itH] at h7 ⊢
    rw [itH]
    exact mk7_m h (by omega) h7
  | .sgn x :: l, tq, s, ps, c, h1, h2, h3, h4, h5, h6, h7 => by
    have hct := itG_ct hR a kk (n := n) (.sgn x :: l) tq s ps h3 h6
    unfold ct at hct
    rw [itG_sgn] at h6 h7 ⊢
    rw [itG_sgn, m_isK h (show tq < M by rw [itG_sgn] at hct; omega)]
    by_cases hx : isK x (nxt ts tq) = true
    · rw [if_pos hx] at h6 h7 ⊢
      rw [if_pos hx]
      have := isK_lt hx
      exact it_m hR i hE a kk n hels l (tq + 1) s ps (c + 1) (by omega) (by omega) (by omega) h4 h5 h6 h7
    · rw [if_neg hx] at h6; simp [bad7] at h6
  | .nam :: l, tq, s, ps, c, h1, h2, h3, h4, h5, h6, h7 => by
    have hct := itG_ct hR a kk (n := n) (.nam :: l) tq s ps h3 h6
    unfold ct at hct
    rw [itG_nam] at h6 h7 ⊢
    have hto : tq < M := by rw [itG_nam] at hct; omega
    rw [itG_nam, m_k h hto, m_s h hto]
    by_cases hx : (nxt ts tq).k = 1
    · rw [if_pos hx] at h6 h7 ⊢
      rw [if_pos hx]
      have := k_lt hx (by decide)
      exact it_m hR i hE a kk n hels l (tq + 1) _ ps (c + 1) (by omega) (by omega) (by omega) h4 h5 h6 h7
    · rw [if_neg hx] at h6; simp [bad7] at h6
  | .sub w :: l, tq, s, ps, c, h1, h2, h3, h4, h5, h6, h7 => by
    have hr := hR w tq h3
    rw [itG_sub] at h6 h7 ⊢
    rw [itG_sub]
    by_cases hx : (R w tq).2.2 = 0
    · rw [if_pos hx] at h6 h7 ⊢
      have hy := hr.ok.yes hx
      have hs := hr.sz hx
      have hct := itG_ct hR a kk (n := n) l _ s (ps ++ [(R w tq).1]) hy.2 h6
      have hq := hE w tq h2 h3 hx (by omega) (fun hw => by have := h5.1; omega)
      rw [hq, if_pos (show (shd k d (R w tq)).2.2 = 0 from hx)]
      have hm : ps.map (mvT d) ++ [(shd k d (R w tq)).1] = (ps ++ [(R w tq).1]).map (mvT d) := by rw [List.map_append]; rfl
      rw [hm]
      refine it_m hR i hE a kk n hels l _ s _ _ ?_ (by omega) hy.2 h4 h5.2 h6 h7
      rw [sm_app]
      split at hs <;> split <;> omega
    · rw [if_neg hx] at h6; exact absurd h6 hx
  | .els :: l, tq, s, ps, c, h1, h2, h3, h4, h5, h6, h7 => by
    have hct := itG_ct hR a kk (n := n) (.els :: l) tq s ps h3 h6
    unfold ct at hct
    have c1 := h4.1
    rw [itG_els] at h6 h7 hct ⊢
    rw [itG_els, hels tq (by omega)]
    by_cases hx : isK wElse (nxt ts tq) = true
    · rw [if_pos hx] at h6 h7 hct ⊢
      rw [if_pos hx]
      have hlt := isK_lt hx
      have hr := hR 2 (tq + 1) (by omega)
      by_cases hy : (R 2 (tq + 1)).2.2 = 0
      · rw [if_pos hy] at h6 h7 ⊢
        have hyy := hr.ok.yes hy
        have hs := hr.sz hy
        have hct2 := itG_ct hR a kk (n := n) l _ s (ps ++ [(R 2 (tq + 1)).1]) hyy.2 h6
        have hq : R' 2 (k + tq + 1) = shd k d (R 2 (tq + 1)) := hE 2 (tq + 1) (by omega) (by omega) hy (by omega) (fun hw => absurd hw (by decide))
        rw [hq, if_pos (show (shd k d (R 2 (tq + 1))).2.2 = 0 from hy)]
        have hm : ps.map (mvT d) ++ [(shd k d (R 2 (tq + 1))).1] = (ps ++ [(R 2 (tq + 1)).1]).map (mvT d) := by rw [List.map_append]; rfl
        rw [hm]
        refine it_m hR i hE a kk n hels l _ s _ _ ?_ (by omega) hyy.2 h4.2 h5.2 h6 h7
        rw [sm_app]
        rw [if_pos rfl] at hs
        omega
      · rw [if_neg hy] at h6; exact absurd h6 hy
    · rw [if_neg hx] at h6 h7 hct ⊢
      rw [if_neg hx]
      have he : ps.map (mvT d) ++ [emB ts' (k + tq)] = (ps ++ [emB ts tq]).map (mvT d) := by
        rw [List.map_append]
        congr 1
        show [emB ts' (k + tq)] = [mvT d (emB ts tq)]
        unfold emB toT
        rw [mvT_mk, show k + tq - 1 = k + (tq - 1) by omega, h.on (tq - 1) (by omega)]
        rfl
      rw [he]
      refine it_m hR i hE a kk n hels l tq s _ _ ?_ h2 h3 h4.2 h5.2 h6 h7
      rw [sm_app]
      show c - 1 + (sm ps + Tr.size (Tr.mk _ [])) + a ≤ tq
      rw [Tr.size_mk]
      simp
      omega
omit h in
theorem lpB_ge {S : Nat → Got} (hS : ∀ j, j ≤ ts.length → OkS ts 0 j (S j)) (a : Nat) : ∀ (m tq : Nat) (acc : List VT), tq ≤ ts.length → (lpB ts S a m tq acc).2.2 = 0 → tq < (lpB ts S a m tq acc).2.1 ∧ (isK sKet (nxt ts tq) = false → (S tq).2.2 = 0 ∧ (S tq).2.1 < (lpB ts S a m tq acc).2.1) := by
  intro m
  induction m with
  | zero => intro tq acc h1 h; simp [lpB, bad7] at h
  | succ m ih =>
    intro tq acc h1 h2
    rw [lpB] at h2 ⊢
    by_cases h3 : isK sKet (nxt ts tq) = true
    · rw [if_pos h3]; exact ⟨Nat.lt_succ_self _, fun h => by rw [h3] at h; cases h⟩
    · rw [if_neg h3] at h2 ⊢
      by_cases h4 : (S tq).2.2 = 0
      · rw [if_pos h4] at h2 ⊢
        have hy := (hS tq h1).ok.yes h4
        have := (ih _ _ hy.2 h2).1
        exact ⟨by omega, fun _ => ⟨h4, this⟩⟩
      · rw [if_neg h4] at h2; exact absurd h2 h4
theorem lpB_m {S S' : Nat → Got} (hS : ∀ j, j ≤ ts.length → OkS ts 0 j (S j)) (a : Nat) (hE : ∀ j, a < j → j ≤ ts.length → (S j).2.2 = 0 → (S j).2.1 < M → S' (k + j) = shd k d (S j)) : ∀ (m m' tq : Nat) (acc : List VT), a < tq → tq ≤ ts.length → ts'.length < m' + (k + tq) → (lpB ts S a m tq acc).2.2 = 0 → (lpB ts S a m tq acc).2.1 ≤ M → lpB ts' S' (k + a) m' (k + tq) (acc.map (mvT d)) = shd k d (lpB ts S a m tq acc) := by
  intro m
  induction m with
  | zero => intro m' tq acc _ _ _ h3; simp [lpB, bad7] at h3
  | succ m ih =>
    intro m' tq acc h1 h2 hm h3 hM
    have hge := lpB_ge hS a (m + 1) tq acc h2 h3
    have hle := h.le
    have hlen := h.len
    obtain ⟨m', rfl⟩ : ∃ q, m' = q + 1 := ⟨m' - 1, by omega⟩
    have hto : tq < M := by omega
    have hM0 := hM
    rw [lpB] at h3 hM ⊢
    rw [lpB, m_isK h hto]
    by_cases h4 : isK sKet (nxt ts tq) = true
    · rw [if_pos h4] at hM ⊢; rw [if_pos h4]; exact mk7_m h (a := a) (b := tq + 1) (by omega) hM
    · rw [if_neg h4] at h3 hM ⊢
      rw [if_neg h4]
      have hs := hge.2 (by simpa using h4)
      have hy := (hS tq h2).ok.yes hs.1
      rw [if_pos hs.1] at h3 hM ⊢
      rw [hE tq h1 h2 hs.1 (by omega), if_pos (show (shd k d (S tq)).2.2 = 0 from hs.1)]
      have hm2 : acc.map (mvT d) ++ [(shd k d (S tq)).1] = (acc ++ [(S tq).1]).map (mvT d) := by rw [List.map_append]; rfl
      rw [hm2]
      exact ih m' _ _ (by omega) hy.2 (by show ts'.length < m' + (k + (S tq).2.1); omega) h3 hM
theorem bl_m {S S' : Nat → Got} (hS : ∀ j, j ≤ ts.length → OkS ts 0 j (S j)) (a : Nat) (ha : a ≤ ts.length) (hE : ∀ j, a < j → j ≤ ts.length → (S j).2.2 = 0 → (S j).2.1 < M → S' (k + j) = shd k d (S j)) (h3 : (blG ts S a).2.2 = 0) (hM : (blG ts S a).2.1 ≤ M) : blG ts' S' (k + a) = shd k d (blG ts S a) := by
  have hy := (blG_ok hS a ha).ok.yes h3
  unfold blG at h3 hM hy ⊢
  rw [m_isK h (show a < M by omega)]
  by_cases h1 : isK sBra (nxt ts a) = true
  · rw [if_pos h1] at h3 hM ⊢
    rw [if_pos h1]
    have := isK_lt h1
    exact lpB_m h hS a hE _ _ (a + 1) [] (by omega) (by omega) (by omega) h3 hM
  · rw [if_neg h1] at h3; simp [bad7] at h3
omit h in
theorem frm_gd (i : Nat) : Gd (frmG ts i).2 := by
  unfold frmG
  repeat' split
  all_goals simp [Gd, ct]
end
section
variable {ts ts' : List Tok} {k : Nat} {d : Int}
theorem like_less {M N : Nat} (h : LikeM ts ts' k d M) (hN : N ≤ M) : LikeM ts ts' k d N := ⟨fun j hj => h.on j (by omega), Nat.le_trans hN h.le, by have := h.len; omega⟩
theorem sG_m : ∀ (n n' i : Nat) (M : Nat), LikeM ts ts' k d M → isK wElse (nxt ts' (k + M)) = isK wElse (nxt ts M) → i < M → ts'.length < n' + (k + i) → ts.length < n + i → (sG ts n i).2.2 = 0 → (sG ts n i).2.1 ≤ M → sG ts' n' (k + i) = shd k d (sG ts n i) := by
  intro n
  induction n with
  | zero => intro n' i M h _ _ _ _ h3; simp [sG, bad7] at h3
  | succ n ih =>
    intro n' i M h hel hi hn' hn h3 hM
    have hle := h.le
    have hlen := h.len
    obtain ⟨n', rfl⟩ : ∃ q, n' = q + 1 := ⟨n' - 1, by omega⟩
    have hE : ∀ j, i < j → j ≤ ts.length → (sG ts n j).2.2 = 0 → (sG ts n j).2.1 < M → sG ts' n' (k + j) = shd k d (sG ts n j) := fun j h1 h2 h4 h5 => by
      have hy := (sG_ok (ts := ts) n j h2).ok.yes h4
      have e : isK wElse (nxt ts' (k + (sG ts n j).2.1)) = isK wElse (nxt ts (sG ts n j).2.1) := m_isK h h5
      exact ih n' j _ (like_less h (Nat.le_of_lt h5)) e hy.1 (by omega) (by omega) h4 (Nat.le_refl _)
    have hels : ∀ tq, tq ≤ M → isK wElse (nxt ts' (k + tq)) = isK wElse (nxt ts tq) := fun tq hto => by
      rcases Nat.lt_or_ge tq M with h1 | h1
      · exact m_isK h h1
      · have : tq = M := by omega
        subst this; exact hel
    rw [sG] at h3 hM ⊢
    rw [sG, m_isK h hi]
    by_cases hb : isK sBra (nxt ts i) = true
    · rw [if_pos hb] at h3 hM ⊢
      rw [if_pos hb]
      exact bl_m h (sG_ok n) i (by omega) hE h3 hM
    · rw [if_neg hb] at h3 hM ⊢
      rw [if_neg hb]
      have hcr := frm_cr (ts := ts) i
      have hgd := frm_gd (ts := ts) i
      have hct := itG_ct (RR_ok (sG_ok n)) i (frmG ts i).1 (n := 0) (frmG ts i).2 i ⟨#[]⟩ [] (by omega) h3
      have hf : frmG ts' (k + i) = frmG ts i := by
        have hc2 := frm_ct (ts := ts) i
        have e1 : k + i + 1 = k + (i + 1) := by omega
        have e2 : k + i + 2 = k + (i + 2) := by omega
        unfold frmG
        rw [m_isK h hi, m_isK h hi, m_isK h hi, m_isK h hi, m_isK h hi, m_isK h hi, m_isK h hi]
        by_cases hl : isK wLet (nxt ts i) = true
        · have hcl : 3 ≤ ct (frmG ts i).2 := by
            unfold frmG
            rw [if_pos hl]
            split <;> simp [ct]
          rw [if_pos hl, if_pos hl, e1, e2, m_k h (j := i + 1) (by omega), m_isK h (j := i + 2) (by omega)]
        · rw [if_neg hl, if_neg hl]
      rw [hf]
      refine it_m h (RR_ok (sG_ok n)) i (fun w j h1 h2 h4 h5 h6 => ?_) i _ 0 hels _ i _ [] 0 (by simp [sm]) (Nat.le_refl i) (by omega) hcr hgd h3 hM
      unfold RR at h4 h5 h6 ⊢
      by_cases w0 : w = 0
      · rw [if_pos w0] at h4 h5 h6 ⊢
        rw [if_pos w0]
        exact Qe_m h j h4 (h6 w0) h2
      rw [if_neg w0] at h4 h5 ⊢
      rw [if_neg w0]
      by_cases w1 : w = 1
      · rw [if_pos w1] at h4 h5 ⊢
        rw [if_pos w1]
        exact ty_m h _ _ j (by omega) h4 h5
      rw [if_neg w1] at h4 h5 ⊢
      rw [if_neg w1]
      exact bl_m h (sG_ok n) j h2 (fun q hq => hE q (by omega)) h4 h5
end
end Go.Proofs.YthcnligihpnfiaaGreatDoor.vt
end
