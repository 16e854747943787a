import Derived.Test.YtlkggpjdaaglmaaGreatDoorPkB8
import Derived.Test.YtlkggpjdaaglmaaGreatDoorPkB23
import Derived.IntWalk
import Derived.Test.YtlkggpjdaaglmaaGreatDoorPkB4
import Derived.Test.YtlkggpjdaaglmaaGreatDoorPkB12
import Derived.Test.YtlkggpjdaaglmaaGreatDoorPkB15
import Derived.Test.YtlkggpjdaaglmaaGreatDoorPkB22
import Derived.Test.YtlkggpjdaaglmaaGreatDoorRows
import Derived.LaidMore
import Derived.LaidSub
import Derived.Lib.LaidTab
import Derived.Test.YtlkggpjdaaglmaaGreatDoorChecked
import Derived.Test.YtlkggpjdaaglmaaGreatDoorPkB6
import Derived.ChangeMaps5
section
namespace Go.Proofs.YtlkggpjdaaglmaaGreatDoor.am
open Go.ChangeShapes Go.WideShapes Go.ChangeAt Go.RowKit
open vt
set_option linter.unusedVariables false
structure LibL (L : List (Nat × Array Value)) : Prop where
  syn : ∃ tp p, (1, #[Value.iface tp p]) ∈ L
  rng : ∃ tp p, (2, #[Value.iface tp p]) ∈ L
  tab : (3, (Lib.pow10Tab.map fun z => Value.int .u64 z).toArray) ∈ L
theorem n_syn : Tryz.prog.globalNamed "strconv.ErrSyntax" = some 1 := by kernel_rfl
theorem n_rng : Tryz.prog.globalNamed "strconv.ErrRange" = some 2 := by kernel_rfl
theorem n_tab : Tryz.prog.globalNamed "internal/strconv.uint64pow10" = some 3 := by kernel_rfl
theorem gl_of_lib {L : List (Nat × Array Value)} (hL : LibL L) {γ : Nat → G} {S : CS} {w : World} {x : Nat} (h : Obj' γ S w x (.lib L)) : lx.Gl w := by
  obtain ⟨⟨t1, p1, h1⟩, ⟨t2, p2, h2⟩, h3⟩ := hL
  exact ⟨⟨t1, p1, lib_var h n_syn h1 (show 0 < 1 by decide)⟩, ⟨t2, p2, lib_var h n_rng h2 (show 0 < 1 by decide)⟩, lib_var h n_tab h3 (by decide)⟩
theorem lib_of_gl {w : World} (h : lx.Gl w) : ∃ L, LibL L ∧ ∀ p ∈ L, ∀ o, p.1 < w.heap.size ∧ w.cell? ⟨p.1, o, none⟩ = p.2[o]? := by
  obtain ⟨⟨t1, p1, h1⟩, ⟨t2, p2, h2⟩, h3⟩ := h
  refine ⟨[(1, #[Value.iface t1 p1]), (2, #[Value.iface t2 p2]), (3, (Lib.pow10Tab.map fun z => Value.int .u64 z).toArray)], ⟨⟨t1, p1, .head _⟩, ⟨t2, p2, .tail _ (.head _)⟩, .tail _ (.tail _ (.head _))⟩, ?_⟩
  intro p hp o
  rcases List.mem_cons.1 hp with rfl | hp
  · exact var_lib n_syn h1 o
  rcases List.mem_cons.1 hp with rfl | hp
  · exact var_lib n_rng h2 o
  rcases List.mem_cons.1 hp with rfl | hp
  · exact var_lib n_tab h3 o
  · cases hp
theorem tokens_row (L : List (Nat × Array Value)) (hL : LibL L) (s : ByteArray) (hs : s.size ≤ 9223372036854775807) : Row Tryz.prog 21 [vS s] [.lib L] (vTk (tokG s)) [some (.lib L)] := by
  refine ⟨⟨_, Tryz.func21, rfl, rfl⟩, spec_of_below fun γ S w vs hm hv => ?_⟩
  match vs, hv with
  | [v0], ⟨h0, _⟩ =>
    obtain ⟨rfl, _⟩ := lit_inv h0
    exact (lx.tokens_own s w (gl_of_lib hL (hm.obj 0 _ rfl)) hs).mono fun e w' h => rep_tokens h
end Go.Proofs.YtlkggpjdaaglmaaGreatDoor.am
end
section
namespace Go.Proofs.YtlkggpjdaaglmaaGreatDoor.am
open Go.ChangeShapes Go.WideShapes Go.ChangeAt Go.RowKit
open vt
set_option linter.unusedVariables false
set_option linter.unusedSimpArgs false
set_option maxRecDepth 100000 in
set_option maxHeartbeats 4000000 in
theorem rsame_row (t : VT) : t.size ≤ 1000000 → ∀ u : VT, u.size ≤ 1000000 → Row Tryz.prog 10 [vT t, vT u] [] (vB (same t u)) [] := by
  induction t using Tr.ind with
  | h x l ih =>
  intro hsz u hsu
  obtain ⟨y, m⟩ := u
  have hlen := Tr.len_size (x := x) (l := l)
  rw [show same (.mk x l) (.mk y m) = _ from eqv_mk vt.pS x y l m]
  refine row_of Tryz.func10 rfl rfl (Nat.le_of_ble_eq_true rfl) ?_
  by_cases hk : x.k = y.k; rotate_left
  · repeat (first | refine aw_seq ?_ | refine aw_skip ?_ | refine aw_block ?_ | refine aw_exit ?_ | refine aw_ct rfl ?_ | refine aw_cf rfl ?_ | ((first | refine aw_reg (fun K hK => ?_) | refine aw_drw mixd (fun K hK => ?_) | fail); simp -implicitDefEqProofs [hk]; first | refine hK _ ?_ | refine hK _ _ (by rfl) ?_ | fail) | fail)
    refine aw_ret (fin_ret ?_); simp -implicitDefEqProofs [FinP, resV, resT, hk, vt.pS] <;> try rfl
  by_cases hn : x.n = y.n; rotate_left
  · repeat (first | refine aw_seq ?_ | refine aw_skip ?_ | refine aw_block ?_ | refine aw_exit ?_ | refine aw_ct rfl ?_ | refine aw_cf rfl ?_ | ((first | refine aw_reg (fun K hK => ?_) | refine aw_drw mixd (fun K hK => ?_) | fail); simp -implicitDefEqProofs [hk, hn]; first | refine hK _ ?_ | refine hK _ _ (by rfl) ?_ | fail) | fail)
    refine aw_ret (fin_ret ?_); simp -implicitDefEqProofs [FinP, resV, resT, hk, hn, vt.pS] <;> try rfl
  by_cases hs : x.s = y.s; rotate_left
  · repeat (first | refine aw_seq ?_ | refine aw_skip ?_ | refine aw_block ?_ | refine aw_exit ?_ | refine aw_ct rfl ?_ | refine aw_cf rfl ?_ | ((first | refine aw_reg (fun K hK => ?_) | refine aw_drw mixd (fun K hK => ?_) | fail); simp -implicitDefEqProofs [hk, hn, hs]; first | refine hK _ ?_ | refine hK _ _ (by rfl) ?_ | fail) | fail)
    refine aw_ret (fin_ret ?_); simp -implicitDefEqProofs [FinP, resV, resT, hk, hn, hs, vt.pS] <;> try rfl
  by_cases hm : l.length = m.length; rotate_left
  · have hm' : ¬ (l.length : Int) = (m.length : Int) := by omega
    repeat (first | refine aw_seq ?_ | refine aw_skip ?_ | refine aw_block ?_ | refine aw_exit ?_ | refine aw_ct rfl ?_ | refine aw_cf rfl ?_ | ((first | refine aw_reg (fun K hK => ?_) | refine aw_drw mixd (fun K hK => ?_) | fail); simp -implicitDefEqProofs [hk, hn, hs, hm, hm']; first | refine hK _ ?_ | refine hK _ _ (by rfl) ?_ | fail) | fail)
    refine aw_ret (fin_ret ?_); simp -implicitDefEqProofs [FinP, resV, resT, hk, hn, hs, hm, vt.pS] <;> try rfl
  repeat (first | refine aw_seq ?_ | refine aw_skip ?_ | refine aw_block ?_ | refine aw_exit ?_ | refine aw_ct rfl ?_ | refine aw_cf rfl ?_ | ((first | refine aw_reg (fun K hK => ?_) | refine aw_drw mixd (fun K hK => ?_) | fail); simp -implicitDefEqProofs [hk, hn, hs, hm]; first | refine hK _ ?_ | refine hK _ _ (by rfl) ?_ | fail) | fail)
  refine aw_lp (ι := Nat) (fun k => mkSt [(2, .v (.c (.ptr 0 0))), (3, .v (.c (.ptr 1 0))), (5, vI (k : Nat))] [some (.box (ta (.mk x l))), some (.box (ta (.mk y m)))]) (fun k => k ≤ l.length ∧ zipA (eqv vt.pS) l m k = true) (fun k => l.length - k) 0 ⟨Nat.zero_le _, zipA_zero _ _ _⟩ (cov_intro [0, 1] (by simp -implicitDefEqProofs [hk, hn, hs, hm]) (by simp -implicitDefEqProofs [hk, hn, hs, hm]) (by decide) rfl (by simp)) (fun Z hI k hkz => ?_)
  obtain ⟨hkl', hz⟩ := hkz
  by_cases hkl : k < l.length; rotate_left
  · have : k = l.length := by omega
    subst this
    rw [show (vt.pS x y && decide (l.length = m.length) && zipA (eqv vt.pS) l m l.length) = true by rw [hz]; simp [vt.pS, hk, hn, hs, hm]]
    repeat (first | refine aw_seq ?_ | refine aw_skip ?_ | refine aw_block ?_ | refine aw_exit ?_ | refine aw_ct rfl ?_ | refine aw_cf rfl ?_ | ((first | refine aw_reg (fun K hK => ?_) | refine aw_drw mixd (fun K hK => ?_) | fail); simp -implicitDefEqProofs; first | refine hK _ ?_ | refine hK _ _ (by rfl) ?_ | fail) | fail)
    refine aw_ret (fin_ret ?_); simp -implicitDefEqProofs [FinP, resV, resT] <;> try rfl
  have hkm : k < m.length := by omega
  obtain ⟨⟨ax, al⟩, ha⟩ : ∃ a, l[k]? = some a := ⟨_, List.getElem?_eq_getElem hkl⟩
  obtain ⟨⟨bx, bl⟩, hb⟩ : ∃ a, m[k]? = some a := ⟨_, List.getElem?_eq_getElem hkm⟩
  have ha' := (List.getElem?_eq_some_iff.1 ha).2
  have hb' := (List.getElem?_eq_some_iff.1 hb).2
  have hsz1 := Tr.size_at (x := x) ha
  have hsz2 := Tr.size_at (x := y) hb
  have w2 : IntKind.i64.wrap ((k : Nat) + 1 : Int) = (k : Nat) + 1 := i64i _ (by omega) (by omega)
  have hzs := zipA_succ (f := eqv vt.pS) ha hb
  repeat (first | refine aw_seq ?_ | refine aw_skip ?_ | refine aw_block ?_ | refine aw_exit ?_ | refine aw_ct rfl ?_ | refine aw_cf rfl ?_ | ((first | refine aw_reg (fun K hK => ?_) | refine aw_drw mixd (fun K hK => ?_) | fail); simp -implicitDefEqProofs [hkl]; first | refine hK _ ?_ | refine hK _ _ (by rfl) ?_ | fail) | fail)
  refine aw_drw mixd (fun K hK => ?_); simp -implicitDefEqProofs [hkl, hkm, ha, ha', hb, hb']
  refine ard_call (calld_pure (ih _ (List.mem_of_getElem? ha) (by omega) (.mk bx bl) (by omega)) (by simp) (fun _ => rfl) rfl ?_)
  simp -implicitDefEqProofs
  refine hK _ _ (by rfl) ?_
  refine aw_cond rfl (fun hb => ?_) (fun hb => ?_)
  · have hf : same (.mk ax al) (.mk bx bl) = false := by simpa using hb
    repeat (first | refine aw_seq ?_ | refine aw_skip ?_ | refine aw_block ?_ | refine aw_exit ?_ | refine aw_ct rfl ?_ | refine aw_cf rfl ?_ | ((first | refine aw_reg (fun K hK => ?_) | refine aw_drw mixd (fun K hK => ?_) | fail); simp -implicitDefEqProofs; first | refine hK _ ?_ | refine hK _ _ (by rfl) ?_ | fail) | fail)
    have e : zipA (eqv vt.pS) l m l.length = false := by
      have := zipA_mono (l.length - (k + 1)) (show zipA (eqv vt.pS) l m (k + 1) = false by rw [hzs, hz]; simpa using hf)
      rwa [show k + 1 + (l.length - (k + 1)) = l.length by omega] at this
    refine aw_ret (fin_ret ?_); simp -implicitDefEqProofs [FinP, resV, resT, e] <;> try rfl
  · have hf : same (.mk ax al) (.mk bx bl) = true := by simpa using hb
    repeat (first | refine aw_seq ?_ | refine aw_skip ?_ | refine aw_block ?_ | refine aw_exit ?_ | refine aw_ct rfl ?_ | refine aw_cf rfl ?_ | ((first | refine aw_reg (fun K hK => ?_) | refine aw_drw mixd (fun K hK => ?_) | fail); simp -implicitDefEqProofs [w2]; first | refine hK _ ?_ | refine hK _ _ (by rfl) ?_ | fail) | fail)
    refine ⟨k + 1, ⟨by omega, by rw [hzs, hz]; simpa using hf⟩, (by dsimp only; omega), ?_⟩
    rw [hI]; exact cov_intro [0, 1] (by simp -implicitDefEqProofs) (by simp -implicitDefEqProofs) (by decide) rfl (by simp)
end Go.Proofs.YtlkggpjdaaglmaaGreatDoor.am
end
section
namespace Go.Proofs.YtlkggpjdaaglmaaGreatDoor.am
open Go.ChangeShapes Go.WideShapes Go.ChangeAt Go.RowKit
open vt
set_option linter.unusedVariables false
set_option linter.unusedSimpArgs false
theorem smB_same {a b : VT} (h : Sm a b) : same a b = true := by
  induction h with
  | mk x y l m hk hn hs hl h ih =>
    show eqv vt.pS (.mk x l) (.mk y m) = true
    rw [eqv_mk]
    have h1 : vt.pS x y = true := by unfold vt.pS; rw [hk, hn, hs]; simp
    have h2 : zipA (eqv vt.pS) l m l.length = true := by
      unfold zipA
      rw [List.all_eq_true]
      intro q hq
      obtain ⟨i, hi⟩ := List.mem_iff_getElem?.1 (List.mem_of_mem_take hq)
      rw [List.getElem?_zip_eq_some] at hi
      exact ih i q.1 q.2 hi.1 hi.2
    rw [h1, h2, hl]; simp
theorem unit_szB (s : ByteArray) (hs : s.size ≤ 8192) : (unitG s).1.size ≤ 9000 := by
  have hz : Tr.size z0 = 1 := by simp [z0, Tr.size_mk]
  unfold unitG
  split
  · rw [hz]; decide
  · rename_i h
    have h : (tokG s).2.2 = 0 := by simpa using h
    have h1 := tok_len (tok_ok h)
    have h2 := mod_sz (ts := (tokG s).1) s ((tokG s).1.length + 1)
    unfold modG
    split
    · rw [hz]; decide
    split
    · rw [hz]; decide
    split
    · rw [hz]; decide
    · dsimp only; omega
theorem unit_okB (s : ByteArray) {x : Lab} {l : List VT} (h : (unitG s).1 = .mk x l) (h0 : (unitG s).2.2 = 0) : l.length ≤ 64 ∧ dpt (.mk x l) ≤ 64 ∧ x.k = 36 ∧ x.n = 0 ∧ x.s = ⟨#[]⟩ := by
  unfold unitG at h h0
  split at h
  · rename_i g; rw [if_pos g] at h0; exact absurd h0 g
  rename_i g; rw [if_neg g] at h0
  unfold modG at h h0
  split at h
  · rename_i g; rw [if_pos g] at h0; exact absurd h0 g
  rename_i g; rw [if_neg g] at h0
  split at h
  · rename_i g; rw [if_pos g] at h0; exact absurd h0 (by decide)
  rename_i hn; rw [if_neg hn] at h0
  split at h
  · rename_i g; rw [if_pos g] at h0; exact absurd h0 (by decide)
  · rename_i hd
    obtain ⟨rfl, rfl⟩ := (Tr.mk.injEq _ _ _ _).mp h
    exact ⟨by omega, by have : ¬ 64 < dpt (modT s (lpU (tokG s).1 ((tokG s).1.length + 1) 0 []).1) := hd
                        unfold modT at this; omega, rfl, rfl, rfl⟩
theorem tx_txt : ∀ (Ws : List (List ByteArray)) (a : ByteArray), Ws.foldl (fun a W => a ++ (J W ++ ⟨#[10]⟩)) a = a ++ tx Ws
  | [], a => by
    show a = a ++ ⟨#[]⟩
    apply ByteArray.ext; simp
  | W :: r, a => by
    rw [List.foldl_cons, tx_txt r]
    show a ++ (J W ++ ⟨#[10]⟩) ++ tx r = a ++ (J W ++ lx.nlB ++ tx r)
    rw [ByteArray.append_assoc, ByteArray.append_assoc, show J W ++ lx.nlB ++ tx r = J W ++ (lx.nlB ++ tx r) from ByteArray.append_assoc]
    rfl
theorem txt_tx (Ws : List (List ByteArray)) : txt Ws = tx Ws := by
  unfold txt
  rw [tx_txt]
  exact lx.app_nil' _
set_option maxRecDepth 100000 in
set_option maxHeartbeats 4000000 in
theorem law_pback_row (LL : List (Nat × Array Value)) (hLL : LibL LL) (s : ByteArray) : Row Tryz.prog 4 [vS s] [.lib LL] (vB true) [some (.lib LL)] := by
  have hN : LibN LL := hLL.tab
  have haw := awake10_row LL hN
  by_cases h3 : 2000 < s.size
  · have h3' : (2000 : Int) < s.size := by omega
    refine row_of Tryz.func4 rfl rfl (Nat.le_of_ble_eq_true rfl) ?_
    repeat' (first | refine aw_seq ?_ | refine aw_skip ?_ | refine aw_block ?_ | refine aw_exit ?_ | refine aw_ct rfl ?_ | refine aw_cf rfl ?_ | ((first | refine aw_reg (fun K hK => ?_) | refine aw_drw mixd (fun K hK => ?_) | refine ar_call (cb haw 0 ?_) | refine ard_call (db haw 0 ?_) | fail); simp -implicitDefEqProofs [h3, h3']) | refine hK _ ?_ | refine hK _ _ (by rfl) ?_ | fail)
    refine aw_ret (fin_box ?_); simp -implicitDefEqProofs [FinB, resV, resT] <;> try rfl
  have h3' : ¬ (2000 : Int) < s.size := by omega
  have h := uparse_row LL s (by omega) (tokens_row LL hLL s (by omega))
  have hz := unit_szB s (by omega)
  have hF := fun x l e => @unit_kx s x l e
  have hO := fun x l e => @unit_okB s x l e
  obtain ⟨⟨⟨mx, ml⟩, a, e⟩, hr⟩ : ∃ r, unitG s = r := ⟨_, rfl⟩
  rw [hr] at h hz hF hO
  dsimp only at hz hF hO
  have hF := hF mx ml rfl
  have hO := hO mx ml rfl
  clear hr
  by_cases he : e = 0; rotate_left
  · refine row_of Tryz.func4 rfl rfl (Nat.le_of_ble_eq_true rfl) ?_
    repeat' (first | refine aw_seq ?_ | refine aw_skip ?_ | refine aw_block ?_ | refine aw_exit ?_ | refine aw_ct rfl ?_ | refine aw_cf rfl ?_ | ((first | refine aw_reg (fun K hK => ?_) | refine aw_drw mixd (fun K hK => ?_) | refine ar_call (cb h 0 ?_) | refine ard_call (db h 0 ?_) | refine ar_call (cb haw 0 ?_) | refine ard_call (db haw 0 ?_) | fail); simp -implicitDefEqProofs [h3, h3', he]) | refine hK _ ?_ | refine hK _ _ (by rfl) ?_ | fail)
    refine aw_ret (fin_box ?_); simp -implicitDefEqProofs [FinB, resV, resT] <;> try rfl
  subst he
  obtain ⟨o1, o2, o3, o4, o5⟩ := hO rfl
  obtain ⟨Ms, m1, m2, m3⟩ := all_toksR (R := KD) hF
  have w2 : ∀ (i : Nat) t W, ml[i]? = some t → (Ms.map (List.map spT))[i]? = some W → WD t W := fun i t W ea eb => by
    rw [List.getElem?_map] at eb
    obtain ⟨M, hM, rfl⟩ := Option.map_eq_some_iff.1 eb
    exact kd_wd (m2 i t M ea hM) (m3 M (List.mem_of_getElem? hM))
  have w1 : ml.length = (Ms.map (List.map spT)).length := by rw [List.length_map]; exact m1
  have cond : ∀ (y : Lab) (l : List VT), (Tr.mk y l).size ≤ 9000 → ∀ (i : Nat) t W, l[i]? = some t → WD t W → WD t W ∧ 3 * W.length ≤ 1000000 ∧ (J W).size ≤ 1000000000 := fun y l hsz i t W ea g => by
    have g2 := wd_sml g
    have g3 := Tr.size_at (x := y) ea
    exact ⟨g, by omega, by have := J_sml g2.1 (by omega); omega⟩
  have p := ptext_row LL hN mx ml (Ms.map (List.map spT)) w1 (by omega) (fun i t W ea eb => cond mx ml hz i t W ea (w2 i t W ea eb))
  by_cases h8 : 8192 < (txt (Ms.map (List.map spT))).size
  · have h8' : (8192 : Int) < (txt (Ms.map (List.map spT))).size := by omega
    generalize txt (Ms.map (List.map spT)) = D at p h8 h8'
    refine row_of Tryz.func4 rfl rfl (Nat.le_of_ble_eq_true rfl) ?_
    repeat' (first | refine aw_seq ?_ | refine aw_skip ?_ | refine aw_block ?_ | refine aw_exit ?_ | refine aw_ct rfl ?_ | refine aw_cf rfl ?_ | ((first | refine aw_reg (fun K hK => ?_) | refine aw_drw mixd (fun K hK => ?_) | refine ar_call (cb h 0 ?_) | refine ard_call (db h 0 ?_) | refine ar_call (cb p 0 ?_) | refine ard_call (db p 0 ?_) | refine ar_call (cb haw 0 ?_) | refine ard_call (db haw 0 ?_) | fail); simp -implicitDefEqProofs [h3, h3', h8, h8']) | refine hK _ ?_ | refine hK _ _ (by rfl) ?_ | fail)
    refine aw_ret (fin_box ?_); simp -implicitDefEqProofs [FinB, resV, resT] <;> try rfl
  have h8' : ¬ (8192 : Int) < (txt (Ms.map (List.map spT))).size := by omega
  obtain ⟨l', q1, q2⟩ := unit_back m1 m2 m3 (by rw [← txt_tx]; omega) o1 (y := mx) o2
  rw [← txt_tx] at q2
  have u := uparse_row LL (txt (Ms.map (List.map spT))) (by omega) (tokens_row LL hLL _ (by omega))
  have hz2 := unit_szB (txt (Ms.map (List.map spT))) (by omega)
  rw [q2] at u hz2
  dsimp only at hz2
  unfold modT at u hz2
  have w3 : ∀ (i : Nat) t W, l'[i]? = some t → (Ms.map (List.map spT))[i]? = some W → WD t W := (sm_ws q1 w1 (fun i t W a b => sm_wd (w2 i t W a b))).2
  have p2 := ptext_row LL hN ⟨36, 0, ⟨#[]⟩, 0, (txt (Ms.map (List.map spT))).size⟩ l' (Ms.map (List.map spT)) (q1.1.trans w1) (by have := q1.1; omega) (fun i t W ea eb => cond _ l' hz2 i t W ea (w3 i t W ea eb))
  have sm := rsame_row (.mk ⟨36, 0, ⟨#[]⟩, 0, (txt (Ms.map (List.map spT))).size⟩ l') (by omega) (.mk mx ml) (by omega)
  rw [smB_same (smLs o3.symm o4.symm o5.symm q1)] at sm
  generalize txt (Ms.map (List.map spT)) = D at p p2 u sm h8 h8'
  refine row_of Tryz.func4 rfl rfl (Nat.le_of_ble_eq_true rfl) ?_
  repeat' (first | refine aw_seq ?_ | refine aw_skip ?_ | refine aw_block ?_ | refine aw_exit ?_ | refine aw_ct rfl ?_ | refine aw_cf rfl ?_ | ((first | refine aw_reg (fun K hK => ?_) | refine aw_drw mixd (fun K hK => ?_) | refine ar_call (cb h 0 ?_) | refine ard_call (db h 0 ?_) | refine ar_call (cb p 0 ?_) | refine ard_call (db p 0 ?_) | refine ar_call (cb u 0 ?_) | refine ard_call (db u 0 ?_) | refine ar_call (cp sm ?_) | refine ard_call (dp sm ?_) | refine ar_call (cb p2 0 ?_) | refine ard_call (db p2 0 ?_) | refine ar_call (cb haw 0 ?_) | refine ard_call (db haw 0 ?_) | fail); simp -implicitDefEqProofs [h3, h3', h8, h8']) | refine hK _ ?_ | refine hK _ _ (by rfl) ?_ | fail)
  refine aw_ret (fin_box ?_); simp -implicitDefEqProofs [FinB, resV, resT] <;> try rfl
end Go.Proofs.YtlkggpjdaaglmaaGreatDoor.am
end
section
namespace Go.Proofs.YtlkggpjdaaglmaaGreatDoor.lx
open Go.ChangeShapes Go.WideShapes Go.ChangeAt Go.RowKit
open bs
set_option linter.unusedVariables false
theorem trod_if {H : Type} {enc : TypeId × Value → H} {P : Program} {w : World} {base : Nat} {sp : Nat → Bool} {held : Bool} {fuel : Nat} {t : TypeId} {ms : Array (String × TypeId)} {cs : List Value} {n : String} {d : DataW H} {p : List MemPlace}
    (ht : P.underlying t = some (.interface ms)) (h : DataW.trod enc P w base sp held fuel t cs = some (.iface n d, p)) : ∃ u v, cs = [.iface u v] := by
  cases fuel with
  | zero => simp [DataW.trod] at h
  | succ fuel =>
    simp only [DataW.trod, ht] at h
    split at h <;> first | exact ⟨_, _, rfl⟩ | (simp at *; done)
theorem gl_of_laid {W : World} (h : laidMetH Tryz.prog Rows.printBackRow.laid W) : Gl W := by
  rw [MakeChecks.laidMetH_plain _ _ _ (by kernel_rfl)] at h
  obtain ⟨ps, hl, _, _⟩ := h
  obtain ⟨g0, t0, cs0, f0, p0, q0, hg0, ht0, hv0, hd0, hl, _⟩ := hl
  obtain ⟨g1, t1, cs1, f1, p1, q1, hg1, ht1, hv1, hd1, hl, _⟩ := hl
  obtain ⟨g2, t2, cs2, f2, p2, q2, hg2, ht2, hv2, hd2, hl, _⟩ := hl
  obtain ⟨g3, t3, cs3, f3, p3, q3, hg3, ht3, hv3, hd3, hl, _⟩ := hl
  obtain ⟨g4, t4, cs4, f4, p4, q4, hg4, ht4, hv4, hd4, hl, _⟩ := hl
  obtain rfl := Option.some.inj ((show Tryz.prog.globalNamed "internal/strconv.uint64pow10" = some 3 by kernel_rfl).symm.trans hg2)
  obtain rfl := Option.some.inj ((show (Tryz.prog.globals[3]?).map (·.type) = some 171 by kernel_rfl).symm.trans ht2)
  obtain rfl := Option.some.inj ((show Tryz.prog.globalNamed "strconv.ErrRange" = some 2 by kernel_rfl).symm.trans hg3)
  obtain rfl := Option.some.inj ((show (Tryz.prog.globals[2]?).map (·.type) = some 46 by kernel_rfl).symm.trans ht3)
  obtain rfl := Option.some.inj ((show Tryz.prog.globalNamed "strconv.ErrSyntax" = some 1 by kernel_rfl).symm.trans hg4)
  obtain rfl := Option.some.inj ((show (Tryz.prog.globals[1]?).map (·.type) = some 46 by kernel_rfl).symm.trans ht4)
  have hc2 := Lib.cells_of_tab (k := .u64) (zs := Lib.pow10Tab) Tryz.underlying171 Tryz.underlying150 (by kernel_rfl) (by kernel_rfl) hd2
  obtain ⟨u3, v3, hc3⟩ := trod_if Tryz.underlying46 hd3
  obtain ⟨u4, v4, hc4⟩ := trod_if Tryz.underlying46 hd4
  have e2 : cs2 = (Lib.pow10Tab.map fun z => Value.int .u64 z).toArray := by rw [← hc2]
  have e3 : cs3 = #[.iface u3 v3] := by rw [← Array.toList_inj]; exact hc3
  have e4 : cs4 = #[.iface u4 v4] := by rw [← Array.toList_inj]; exact hc4
  refine ⟨⟨u4, v4, by rw [hv4, e4]⟩, ⟨u3, v3, by rw [hv3, e3]⟩, by unfold Lib.TabIs; rw [hv2, e2]⟩
end Go.Proofs.YtlkggpjdaaglmaaGreatDoor.lx
end
section
namespace Go.Proofs.YtlkggpjdaaglmaaGreatDoor.am
open Go.ChangeShapes Go.WideShapes Go.ChangeAt Go.RowKit
open vt
set_option linter.unusedVariables false
set_option linter.unusedSimpArgs false
set_option maxRecDepth 100000
end Go.Proofs.YtlkggpjdaaglmaaGreatDoor.am
end
section
namespace Go.Proofs.YtlkggpjdaaglmaaGreatDoor.am
open Go.ChangeShapes Go.WideShapes Go.ChangeAt Go.RowKit
open vt
set_option linter.unusedVariables false
set_option maxRecDepth 100000 in
theorem open_vstring {H : Type} {enc : TypeId × Value → H} {w : World} {r : Reach} {b0 : Nat} {v : Value} {d : DataW H} {p : List MemPlace}
    (hv : Value.okWide Tryz.prog w r b0 9 v) (h : DataW.Trod enc Tryz.prog w 0 (fun _ => true) true 9 v d p) : ∃ s : ByteArray, RepV (fun _ => .un) (oldS w) w v (vS s) ∧ s.size ≤ 9223372036854775807 := by
  obtain ⟨s, rfl, _, _, h1⟩ := Go.ChangeMaps.open_string Tryz.underlying9 hv h
  exact ⟨s, .lit _ rfl, by unfold maxLen at h1; omega⟩
end Go.Proofs.YtlkggpjdaaglmaaGreatDoor.am
end
