import Derived.Test.YtlkggpjdaaglmaaGreatDoorPkR14
import Derived.Test.YtlkggpjdaaglmaaGreatDoorPkR9
import Derived.Test.YtlkggpjdaaglmaaGreatDoorPkR13
import Derived.Test.YtlkggpjdaaglmaaGreatDoorPkR4
section
namespace Go.Proofs.YtlkggpjdaaglmaaGreatDoor.am
open vt
set_option linter.unusedVariables false
theorem num_size {n : Int} (h0 : -9223372036854775808 ≤ n) (h1 : n ≤ 9223372036854775807) : (wNum n).size ≤ 8192 := by
  show (lx.mkB (Lib.itoa n)).size ≤ 8192
  rw [lx.mk_size]
  have := Lib.itoa_length_le n h0 h1
  omega
theorem sml_one {w : ByteArray} (h : w.size ≤ 8192) : Sml [w] := fun v hv => by rw [List.mem_singleton.1 hv]; exact h
theorem sml_nil : Sml [] := fun v hv => by cases hv
theorem sml_par {b : Int} {A : List ByteArray} {n : Int} (h : Sml A) : Sml (par b A n) := by
  unfold par
  split
  · exact h
  · exact sml_app.2 ⟨sml_app.2 ⟨sml_one (by decide), h⟩, sml_one (by decide)⟩
theorem sml_flat {S : List ByteArray} (hS : Sml S) : ∀ r : List (List ByteArray), (∀ W ∈ r, Sml W) → Sml ((r.map (S ++ ·)).flatten)
  | [], _ => sml_nil
  | b :: r, h => by
    simp only [List.map_cons, List.flatten_cons]
    exact sml_app.2 ⟨sml_app.2 ⟨hS, h b (.head _)⟩, sml_flat hS r (fun W hW => h W (.tail _ hW))⟩
theorem sml_pre {S : List ByteArray} (hS : Sml S) {Ws : List (List ByteArray)} (h : ∀ W ∈ Ws, Sml W) : Sml (pre S Ws) := by
  cases Ws with
  | nil => exact sml_nil
  | cons a r =>
    unfold pre
    exact sml_app.2 ⟨h a (.head _), sml_flat hS r (fun W hW => h W (.tail _ hW))⟩
theorem all_mem {Q : List ByteArray → Prop} {l : List VT} {Ws : List (List ByteArray)} (hl : l.length = Ws.length) (h : ∀ (i : Nat) t W, l[i]? = some t → Ws[i]? = some W → Q W) : ∀ W ∈ Ws, Q W := fun W hW => by
  obtain ⟨i, hi⟩ := List.mem_iff_getElem?.1 hW
  have hlt := (List.getElem?_eq_some_iff.1 hi).1
  exact h i _ W (List.getElem?_eq_getElem (by omega)) hi
theorem flat_sum {S : List ByteArray} (hS : S.length ≤ 1) : ∀ (l : List VT) (Ws : List (List ByteArray)), l.length = Ws.length → (∀ (i : Nat) t W, l[i]? = some t → Ws[i]? = some W → W.length + 3 ≤ 8 * t.size) → ((Ws.map (S ++ ·)).flatten).length + 2 * l.length ≤ 8 * sm l
  | [], [], _, _ => by simp [sm]
  | [], W :: Ws, h, _ => by simp at h
  | t :: l, [], h, _ => by simp at h
  | t :: l, W :: Ws, h, hw => by
    have ih := flat_sum hS l Ws (by simpa using h) (fun i t' W' a b => hw (i + 1) t' W' (by simpa using a) (by simpa using b))
    have h0 := hw 0 t W rfl rfl
    simp only [List.map_cons, List.flatten_cons, List.length_append, List.length_cons]
    have : sm (t :: l) = t.size + sm l := by simp [sm]
    omega
theorem pre_sum {S : List ByteArray} (hS : S.length ≤ 1) {l : List VT} {Ws : List (List ByteArray)} (hl : l.length = Ws.length) (hw : ∀ (i : Nat) t W, l[i]? = some t → Ws[i]? = some W → W.length + 3 ≤ 8 * t.size) : (pre S Ws).length ≤ 8 * sm l := by
  have h := flat_sum hS l Ws hl hw
  cases Ws with
  | nil => exact Nat.zero_le _
  | cons a r =>
    unfold pre
    simp only [List.map_cons, List.flatten_cons, List.length_append] at h ⊢
    omega
theorem we_sml {t : VT} {W : List ByteArray} (h : WE t W) : Sml W := by
  have hp : ∀ {Ws : List (List ByteArray)}, (∀ W ∈ Ws, Sml W) → Sml (pre [sCom] Ws) := fun h => sml_pre (sml_one (by decide)) h
  induction h with
  | num x h h0 h1 => exact sml_one (num_size h0 h1)
  | tru => exact sml_one (by decide)
  | fls => exact sml_one (by decide)
  | read => exact sml_one (by decide)
  | nam x h hs => exact sml_one hs
  | bin x a c al cl A C h h1 h2 ha hc ia ic =>
    refine sml_app.2 ⟨sml_par ia, sml_app.2 ⟨sml_one ?_, sml_par ic⟩⟩
    have : x.n = 1 ∨ x.n = 2 ∨ x.n = 3 ∨ x.n = 4 ∨ x.n = 5 ∨ x.n = 6 ∨ x.n = 7 ∨ x.n = 8 ∨ x.n = 9 ∨ x.n = 10 ∨ x.n = 11 ∨ x.n = 12 ∨ x.n = 13 := by omega
    rcases this with e | e | e | e | e | e | e | e | e | e | e | e | e <;> rw [e] <;> decide
  | neg x a al A h hn ha ia => exact sml_app.2 ⟨sml_one (by decide), sml_par ia⟩
  | nt x a al A h hn ha ia => exact sml_app.2 ⟨sml_one (by decide), sml_par ia⟩
  | idx x a c al cl A C h ha hc ia ic => exact sml_app.2 ⟨sml_par ia, sml_app.2 ⟨sml_one (by decide), sml_app.2 ⟨ic, sml_one (by decide)⟩⟩⟩
  | fld x a al A h hs ha ia => exact sml_app.2 ⟨sml_par ia, sml_app.2 ⟨sml_one (by decide), sml_one hs⟩⟩
  | lst x l Ws h hl hw ih => exact sml_app.2 ⟨sml_one (by decide), sml_app.2 ⟨hp (all_mem hl ih), sml_one (by decide)⟩⟩
  | mak x l Ws h hs hl hw ih => exact sml_app.2 ⟨sml_one (by decide), sml_app.2 ⟨sml_one hs, sml_app.2 ⟨sml_one (by decide), sml_app.2 ⟨hp (all_mem hl ih), sml_one (by decide)⟩⟩⟩⟩
  | cal x l Ws h hs hl hw ih => exact sml_app.2 ⟨sml_one hs, sml_app.2 ⟨sml_one (by decide), sml_app.2 ⟨hp (all_mem hl ih), sml_one (by decide)⟩⟩⟩
  | ext x l Ws h hs hl hw ih => exact sml_app.2 ⟨sml_one (by decide), sml_app.2 ⟨sml_one hs, sml_app.2 ⟨sml_one (by decide), sml_app.2 ⟨hp (all_mem hl ih), sml_one (by decide)⟩⟩⟩⟩
theorem par_len {b : Int} {A : List ByteArray} {n : Int} : (par b A n).length ≤ A.length + 2 := by
  unfold par
  split
  · omega
  · simp only [List.length_append, List.length_singleton]; omega
theorem sz1 (x : Lab) (l : List VT) : (Tr.mk x l).size = sm l + 1 := by rw [Tr.size_mk]; unfold sm; omega
theorem we_len {t : VT} {W : List ByteArray} (h : WE t W) : W.length + 3 ≤ 8 * t.size := by
  induction h with
  | num => rw [sz1]; simp <;> omega
  | tru => rw [sz1]; simp <;> omega
  | fls => rw [sz1]; simp <;> omega
  | read => rw [sz1]; simp <;> omega
  | nam => rw [sz1]; simp <;> omega
  | bin x a c al cl A C h h1 h2 ha hc ia ic =>
    have p1 := @par_len (tgh a) A (if (opB x.n).2 = 3 then 4 else (opB x.n).2)
    have p2 := @par_len (tgh c) C ((opB x.n).2 + 1)
    rw [sz1]
    simp only [List.length_append, List.length_singleton, sm, List.map_cons, List.map_nil, List.sum_cons, List.sum_nil]
    omega
  | neg x a al A h hn ha ia =>
    have p1 := @par_len (tgh a) A 6
    rw [sz1]
    simp only [List.length_append, List.length_singleton, sm, List.map_cons, List.map_nil, List.sum_cons, List.sum_nil]
    omega
  | nt x a al A h hn ha ia =>
    have p1 := @par_len (tgh a) A 6
    rw [sz1]
    simp only [List.length_append, List.length_singleton, sm, List.map_cons, List.map_nil, List.sum_cons, List.sum_nil]
    omega
  | idx x a c al cl A C h ha hc ia ic =>
    have p1 := @par_len (tgh a) A 7
    rw [sz1]
    simp only [List.length_append, List.length_singleton, sm, List.map_cons, List.map_nil, List.sum_cons, List.sum_nil]
    omega
  | fld x a al A h hs ha ia =>
    have p1 := @par_len (tgh a) A 7
    rw [sz1]
    simp only [List.length_append, List.length_singleton, sm, List.map_cons, List.map_nil, List.sum_cons, List.sum_nil]
    omega
  | lst x l Ws h hl hw ih =>
    have p := pre_sum (S := [sCom]) (by simp) hl ih
    rw [sz1]; simp only [List.length_append, List.length_singleton]; omega
  | mak x l Ws h hs hl hw ih =>
    have p := pre_sum (S := [sCom]) (by simp) hl ih
    rw [sz1]; simp only [List.length_append, List.length_singleton]; omega
  | cal x l Ws h hs hl hw ih =>
    have p := pre_sum (S := [sCom]) (by simp) hl ih
    rw [sz1]; simp only [List.length_append, List.length_singleton]; omega
  | ext x l Ws h hs hl hw ih =>
    have p := pre_sum (S := [sCom]) (by simp) hl ih
    rw [sz1]; simp only [List.length_append, List.length_singleton]; omega
theorem wt_sml {t : VT} {W : List ByteArray} (h : WT t W) : Sml W ∧ W.length + 3 ≤ 8 * t.size := by
  induction h with
  | int => exact ⟨sml_one (by decide), by rw [sz1]; simp <;> omega⟩
  | bool => exact ⟨sml_one (by decide), by rw [sz1]; simp <;> omega⟩
  | rec' x h hs => exact ⟨sml_one hs, by rw [sz1]; simp <;> omega⟩
  | arr x a al A h h0 h1 ha ih =>
    refine ⟨sml_app.2 ⟨sml_one (by decide), sml_app.2 ⟨sml_one (num_size h0 h1), sml_app.2 ⟨sml_one (by decide), ih.1⟩⟩⟩, ?_⟩
    rw [sz1]
    simp only [List.length_append, List.length_singleton, sm, List.map_cons, List.map_nil, List.sum_cons, List.sum_nil]
    omega
theorem ws_sml {t : VT} {W : List ByteArray} (h : WS t W) : Sml W ∧ W.length + 3 ≤ 8 * t.size := by
  induction h with
  | blk x l Ws h hl hw ih =>
    have p := pre_sum (S := []) (by simp) hl (fun i t W a b => (ih i t W a b).2)
    exact ⟨sml_app.2 ⟨sml_one (by decide), sml_app.2 ⟨sml_pre sml_nil (all_mem hl (fun i t W a b => (ih i t W a b).1)), sml_one (by decide)⟩⟩, by rw [sz1]; simp only [List.length_append, List.length_singleton]; omega⟩
  | lt x a al A h hs ha =>
    have := we_len ha
    refine ⟨sml_app.2 ⟨sml_one (by decide), sml_app.2 ⟨sml_one hs, sml_app.2 ⟨sml_one (by decide), sml_app.2 ⟨we_sml ha, sml_one (by decide)⟩⟩⟩⟩, ?_⟩
    rw [sz1]; simp only [List.length_append, List.length_singleton, sm, List.map_cons, List.map_nil, List.sum_cons, List.sum_nil]; omega
  | new x a al A h hs ha =>
    have := (wt_sml ha).2
    refine ⟨sml_app.2 ⟨sml_one (by decide), sml_app.2 ⟨sml_one hs, sml_app.2 ⟨sml_one (by decide), sml_app.2 ⟨(wt_sml ha).1, sml_one (by decide)⟩⟩⟩⟩, ?_⟩
    rw [sz1]; simp only [List.length_append, List.length_singleton, sm, List.map_cons, List.map_nil, List.sum_cons, List.sum_nil]; omega
  | set' x a c al cl A C h ha hc =>
    have := we_len ha; have := we_len hc
    refine ⟨sml_app.2 ⟨we_sml ha, sml_app.2 ⟨sml_one (by decide), sml_app.2 ⟨we_sml hc, sml_one (by decide)⟩⟩⟩, ?_⟩
    rw [sz1]; simp only [List.length_append, List.length_singleton, sm, List.map_cons, List.map_nil, List.sum_cons, List.sum_nil]; omega
  | ifn x a c e al cl A C h ha hk hc ic =>
    have := we_len ha; have := ic.2
    refine ⟨sml_app.2 ⟨sml_one (by decide), sml_app.2 ⟨we_sml ha, ic.1⟩⟩, ?_⟩
    rw [sz1]; simp only [List.length_append, List.length_singleton, sm, List.map_cons, List.map_nil, List.sum_cons, List.sum_nil]; omega
  | ife x a c e al cl el A C E h ha hk hc he hn hE ic iE =>
    have := we_len ha; have := ic.2; have := iE.2
    refine ⟨sml_app.2 ⟨sml_one (by decide), sml_app.2 ⟨we_sml ha, sml_app.2 ⟨ic.1, sml_app.2 ⟨sml_one (by decide), iE.1⟩⟩⟩⟩, ?_⟩
    rw [sz1]; simp only [List.length_append, List.length_singleton, sm, List.map_cons, List.map_nil, List.sum_cons, List.sum_nil]; omega
  | whl x a c al cl A C h ha hk hc ic =>
    have := we_len ha; have := ic.2
    refine ⟨sml_app.2 ⟨sml_one (by decide), sml_app.2 ⟨we_sml ha, ic.1⟩⟩, ?_⟩
    rw [sz1]; simp only [List.length_append, List.length_singleton, sm, List.map_cons, List.map_nil, List.sum_cons, List.sum_nil]; omega
  | frr x a b c al bl cl A B C h hs ha hb hk hc ic =>
    have := we_len ha; have := we_len hb; have := ic.2
    refine ⟨sml_app.2 ⟨sml_one (by decide), sml_app.2 ⟨sml_one hs, sml_app.2 ⟨sml_one (by decide), sml_app.2 ⟨we_sml ha, sml_app.2 ⟨sml_one (by decide), sml_app.2 ⟨we_sml hb, ic.1⟩⟩⟩⟩⟩⟩, ?_⟩
    rw [sz1]; simp only [List.length_append, List.length_singleton, sm, List.map_cons, List.map_nil, List.sum_cons, List.sum_nil]; omega
  | prn x a al A h ha =>
    have := we_len ha
    refine ⟨sml_app.2 ⟨sml_one (by decide), sml_app.2 ⟨we_sml ha, sml_one (by decide)⟩⟩, ?_⟩
    rw [sz1]; simp only [List.length_append, List.length_singleton, sm, List.map_cons, List.map_nil, List.sum_cons, List.sum_nil]; omega
  | rtn x a al A h ha =>
    have := we_len ha
    refine ⟨sml_app.2 ⟨sml_one (by decide), sml_app.2 ⟨we_sml ha, sml_one (by decide)⟩⟩, ?_⟩
    rw [sz1]; simp only [List.length_append, List.length_singleton, sm, List.map_cons, List.map_nil, List.sum_cons, List.sum_nil]; omega
  | doo x a al A h ha =>
    have := we_len ha
    refine ⟨sml_app.2 ⟨sml_one (by decide), sml_app.2 ⟨we_sml ha, sml_one (by decide)⟩⟩, ?_⟩
    rw [sz1]; simp only [List.length_append, List.length_singleton, sm, List.map_cons, List.map_nil, List.sum_cons, List.sum_nil]; omega
theorem wf_sml {t : VT} {W : List ByteArray} (h : WF t W) : Sml W ∧ W.length + 9 ≤ 8 * t.size := by
  cases h with
  | mk x a al A hs ha =>
    have := (wt_sml ha).2
    refine ⟨sml_app.2 ⟨sml_one hs, sml_app.2 ⟨sml_one (by decide), (wt_sml ha).1⟩⟩, ?_⟩
    rw [sz1]; simp only [List.length_append, List.length_singleton, sm, List.map_cons, List.map_nil, List.sum_cons, List.sum_nil]; omega
theorem wd_sml {t : VT} {W : List ByteArray} (h : WD t W) : Sml W ∧ W.length + 3 ≤ 8 * t.size := by
  cases h with
  | rec' x l Ws h hs hl hw =>
    have hw2 : ∀ (i : Nat) t W, l[i]? = some t → (Ws.map (· ++ [sEnd]))[i]? = some W → Sml W ∧ W.length + 3 ≤ 8 * t.size := fun i t W ea eb => by
      rw [List.getElem?_map] at eb
      obtain ⟨W', hW', rfl⟩ := Option.map_eq_some_iff.1 eb
      have h := wf_sml (hw i t W' ea hW')
      exact ⟨sml_app.2 ⟨h.1, sml_one (by decide)⟩, by simp only [List.length_append, List.length_singleton]; omega⟩
    have hl2 : l.length = (Ws.map (· ++ [sEnd])).length := by rw [List.length_map]; exact hl
    have p := pre_sum (S := []) (by simp) hl2 (fun i t W a b => (hw2 i t W a b).2)
    refine ⟨sml_app.2 ⟨sml_one (by decide), sml_app.2 ⟨sml_one hs, sml_app.2 ⟨sml_one (by decide), sml_app.2 ⟨sml_pre sml_nil (all_mem hl2 (fun i t W a b => (hw2 i t W a b).1)), sml_one (by decide)⟩⟩⟩⟩, ?_⟩
    rw [sz1]; simp only [List.length_append, List.length_singleton]; omega
  | dfn x a al A h hs ha =>
    have := we_len ha
    refine ⟨sml_app.2 ⟨sml_one (by decide), sml_app.2 ⟨sml_one hs, sml_app.2 ⟨sml_one (by decide), sml_app.2 ⟨we_sml ha, sml_one (by decide)⟩⟩⟩⟩, ?_⟩
    rw [sz1]; simp only [List.length_append, List.length_singleton, sm, List.map_cons, List.map_nil, List.sum_cons, List.sum_nil]; omega
  | var' x a al A h hs ha =>
    have := (wt_sml ha).2
    refine ⟨sml_app.2 ⟨sml_one (by decide), sml_app.2 ⟨sml_one hs, sml_app.2 ⟨sml_one (by decide), sml_app.2 ⟨(wt_sml ha).1, sml_one (by decide)⟩⟩⟩⟩, ?_⟩
    rw [sz1]; simp only [List.length_append, List.length_singleton, sm, List.map_cons, List.map_nil, List.sum_cons, List.sum_nil]; omega
  | fn x p r b pl rl bl Ws R B h hn hs hl hw hr hk hb =>
    have := (wt_sml hr).2; have := (ws_sml hb).2
    have q := pre_sum (S := [sCom]) (by simp) hl (fun i t W a b => by have := (wf_sml (hw i t W a b)).2; omega)
    refine ⟨sml_app.2 ⟨sml_one (by decide), sml_app.2 ⟨sml_one hs, sml_app.2 ⟨sml_one (by decide), sml_app.2 ⟨sml_pre (sml_one (by decide)) (all_mem hl (fun i t W a b => (wf_sml (hw i t W a b)).1)), sml_app.2 ⟨sml_one (by decide), sml_app.2 ⟨sml_one (by decide), sml_app.2 ⟨(wt_sml hr).1, (ws_sml hb).1⟩⟩⟩⟩⟩⟩⟩, ?_⟩
    have e := sz1 p pl
    rw [sz1]; simp only [List.length_append, List.length_singleton, sm, List.map_cons, List.map_nil, List.sum_cons, List.sum_nil] at *; omega
  | pub x p r b pl rl bl Ws R B h hn hs hl hw hr hk hb =>
    have := (wt_sml hr).2; have := (ws_sml hb).2
    have q := pre_sum (S := [sCom]) (by simp) hl (fun i t W a b => by have := (wf_sml (hw i t W a b)).2; omega)
    refine ⟨sml_app.2 ⟨sml_one (by decide), sml_app.2 ⟨sml_one (by decide), sml_app.2 ⟨sml_one hs, sml_app.2 ⟨sml_one (by decide), sml_app.2 ⟨sml_pre (sml_one (by decide)) (all_mem hl (fun i t W a b => (wf_sml (hw i t W a b)).1)), sml_app.2 ⟨sml_one (by decide), sml_app.2 ⟨sml_one (by decide), sml_app.2 ⟨(wt_sml hr).1, (ws_sml hb).1⟩⟩⟩⟩⟩⟩⟩⟩, ?_⟩
    have e := sz1 p pl
    rw [sz1]; simp only [List.length_append, List.length_singleton, sm, List.map_cons, List.map_nil, List.sum_cons, List.sum_nil] at *; omega
end Go.Proofs.YtlkggpjdaaglmaaGreatDoor.am
end
section
namespace Go.Proofs.YtlkggpjdaaglmaaGreatDoor.am
open Go.ChangeShapes Go.WideShapes Go.ChangeAt Go.RowKit
open vt
set_option linter.unusedVariables false
set_option linter.unusedSimpArgs false
set_option maxRecDepth 100000 in
set_option maxHeartbeats 4000000 in
theorem rrec_row (x : Lab) (l : List VT) (Ws : List (List ByteArray)) (h : x.k = 30) (hsz : x.s.size ≤ 8192) (hl : l.length = Ws.length) (hn : l.length ≤ 100000) (hw : ∀ (i : Nat) t W, l[i]? = some t → Ws[i]? = some W → WF t W) (hs : Sml (pre [] (Ws.map (· ++ [sEnd])))) (hL : (pre [] (Ws.map (· ++ [sEnd]))).length ≤ 90000) : Row Tryz.prog 20 [vT (.mk x l)] [] (vS (J ([wRec] ++ ([x.s] ++ ([sBra] ++ (pre [] (Ws.map (· ++ [sEnd])) ++ [sKet])))))) [] := by
  obtain ⟨V, hV⟩ : ∃ V, Ws.map (· ++ [sEnd]) = V := ⟨_, rfl⟩
  have hVl : V.length = Ws.length := by rw [← hV, List.length_map]
  have hVg : ∀ (k : Nat) W, Ws[k]? = some W → V[k]? = some (W ++ [sEnd]) := fun k W h => by rw [← hV, List.getElem?_map, h]; rfl
  rw [hV] at hs hL ⊢
  clear hV
  have hsp := pre_split [] V
  have hstep := fun k W h => pre_take (sep := []) (Ws := V) (k := k) (W := W) h
  obtain ⟨H, hH⟩ : ∃ H, [wRec] ++ ([x.s] ++ [sBra]) = H := ⟨_, rfl⟩
  have hHn : H ≠ [] := by rw [← hH]; simp
  have hHl : H.length = 3 := by rw [← hH]; rfl
  have hHs : Sml H := by rw [← hH]; exact sml_app.2 ⟨sml_one (by decide), sml_app.2 ⟨sml_one hsz, sml_one (by decide)⟩⟩
  have hsm : ∀ k, (J (H ++ pre [] (V.take k))).size ≤ 819300000 := fun k => by
    obtain ⟨R, hR⟩ := hsp k
    rw [hR] at hs hL
    rw [List.length_append] at hL
    exact J_sml (sml_app.2 ⟨hHs, (sml_app.1 hs).1⟩) (by rw [List.length_append]; omega)
  have h0 : J H ++ sp = ⟨#[114, 101, 99, 32]⟩ ++ x.s ++ ⟨#[32, 123, 32]⟩ := by
    rw [← hH, J_app (by simp) (by simp), J_app (by simp) (by simp)]
    simp only [J_one, ByteArray.append_assoc, app_lit, app_lit2, List.cons_append, List.nil_append]
  have hend : J ([wRec] ++ ([x.s] ++ ([sBra] ++ (pre [] V ++ [sKet])))) = J (H ++ pre [] (V.take V.length)) ++ sp ++ ⟨#[125]⟩ := by
    rw [List.take_length, show [wRec] ++ ([x.s] ++ ([sBra] ++ (pre [] V ++ [sKet]))) = (H ++ pre [] V) ++ [sKet] by rw [← hH]; simp, J_app (by simp [hHn]) (by simp), J_one]
  have zs : sp.size = 1 := rfl
  have y1 : (⟨#[114, 101, 99, 32]⟩ : ByteArray).size = 4 := rfl
  have y2 : (⟨#[32, 123, 32]⟩ : ByteArray).size = 3 := rfl
  have y3 : (⟨#[32, 58, 32]⟩ : ByteArray).size = 3 := rfl
  have y4 : (⟨#[32, 59, 32]⟩ : ByteArray).size = 3 := rfl
  have y5 : (⟨#[125]⟩ : ByteArray).size = 1 := rfl
  have b1 : (⟨#[114, 101, 99, 32]⟩ : ByteArray).size + x.s.size ≤ 9223372036854775807 := by omega
  have b2 : (⟨#[114, 101, 99, 32]⟩ : ByteArray).size + x.s.size + (⟨#[32, 123, 32]⟩ : ByteArray).size ≤ 9223372036854775807 := by omega
  rw [hend]
  have h00 : pre ([] : List ByteArray) [] = [] := rfl
  obtain ⟨S0, hS0⟩ : ∃ S, ⟨#[114, 101, 99, 32]⟩ ++ x.s ++ ⟨#[32, 123, 32]⟩ = S := ⟨_, rfl⟩
  have h0' : J H ++ sp = S0 := h0.trans hS0
  refine row_of Tryz.func20 rfl rfl (Nat.le_of_ble_eq_true rfl) ?_
  repeat (first | refine aw_seq ?_ | refine aw_skip ?_ | refine aw_block ?_ | refine aw_exit ?_ | refine aw_cond rfl (fun _ => ?_) (fun hb => absurd hb (by decide)) | refine aw_cond rfl (fun hb => absurd hb (by decide)) (fun _ => ?_) | (refine aw_reg (fun K hK => ?_); simp -implicitDefEqProofs [h, b1, b2, hS0]; refine hK _ ?_) | (refine aw_drw mixd (fun K hK => ?_); simp -implicitDefEqProofs [h, b1, b2, hS0]; refine hK _ _ (by rfl) ?_) | fail)
  refine aw_lp (ι := Nat) (fun k => mkSt [(1, .v (.c (.ptr 0 0))), (3, vS (J (H ++ pre [] (V.take k)) ++ sp)), (4, vI (k : Nat))] [some (.box (ta (.mk x l)))]) (fun k => k ≤ l.length) (fun k => l.length - k) 0 (Nat.zero_le _) (cov_intro [0] (by simp -implicitDefEqProofs [h, h00, h0']) (by simp -implicitDefEqProofs [h, h00, h0']) (by decide) rfl (by simp)) (fun Z hI k hk => ?_)
  by_cases hkl : k < l.length; rotate_left
  · have hke : k = V.length := by omega
    subst hke
    have hz := hsm V.length
    have hlt : ¬ V.length < l.length := by omega
    generalize J (H ++ pre [] (V.take V.length)) = D at *
    have b21 : D.size + sp.size ≤ 9223372036854775807 := by omega
    have b22 : D.size + sp.size + (⟨#[125]⟩ : ByteArray).size ≤ 9223372036854775807 := by omega
    repeat (first | refine aw_seq ?_ | refine aw_skip ?_ | refine aw_block ?_ | refine aw_exit ?_ | refine aw_cond rfl (fun _ => ?_) (fun hb => absurd hb (by decide)) | refine aw_cond rfl (fun hb => absurd hb (by decide)) (fun _ => ?_) | (refine aw_reg (fun K hK => ?_); simp -implicitDefEqProofs [hlt, b21, b22]; refine hK _ ?_) | (refine aw_drw mixd (fun K hK => ?_); simp -implicitDefEqProofs [hlt, b21, b22]; refine hK _ _ (by rfl) ?_) | fail)
    refine aw_ret (fin_ret ?_); simp -implicitDefEqProofs [FinP, resV, resT] <;> try rfl
  obtain ⟨t, ht⟩ : ∃ a, l[k]? = some a := ⟨_, List.getElem?_eq_getElem hkl⟩
  obtain ⟨W, hW⟩ : ∃ a, Ws[k]? = some a := ⟨_, List.getElem?_eq_getElem (by omega)⟩
  have hst := hstep k _ (hVg k W hW)
  have z1 := hsm (k + 1)
  have z0 := hsm k
  have w2 : IntKind.i64.wrap ((k : Nat) + 1 : Int) = (k : Nat) + 1 := i64i _ (by omega) (by omega)
  have hf := hw k t W ht hW
  cases hf with
  | mk fx ax al A hfs ha =>
    have ht' := (List.getElem?_eq_some_iff.1 ht).2
    have hAn := wt_ne ha
    have e3 : J (H ++ pre [] (V.take (k + 1))) ++ sp = J (H ++ pre [] (V.take k)) ++ sp ++ fx.s ++ ⟨#[32, 58, 32]⟩ ++ J A ++ ⟨#[32, 59, 32]⟩ := by
      rw [hst, show (if k = 0 then ([] : List ByteArray) else []) = [] by split <;> rfl, List.nil_append, ← List.append_assoc, show H ++ pre [] (V.take k) ++ ([fx.s] ++ ([sCol] ++ A) ++ [sEnd]) = (H ++ pre [] (V.take k)) ++ ([fx.s] ++ ([sCol] ++ (A ++ [sEnd]))) by simp, J_app (by simp [hHn]) (by simp), J_app (A := [fx.s]) (by simp) (by simp), J_app (A := [sCol]) (by simp) (by simp), J_app hAn (by simp)]
      simp only [J_one, ByteArray.append_assoc, app_lit, app_lit2, List.cons_append, List.nil_append]
    have e4 := congrArg ByteArray.size e3
    simp only [ByteArray.size_append] at e4
    have r := rprty_row ha (by omega)
    obtain ⟨T, hT⟩ : ∃ T, J (H ++ pre [] (V.take (k + 1))) ++ sp = T := ⟨_, rfl⟩
    rw [hT] at e3
    generalize J (H ++ pre [] (V.take k)) = D at *
    generalize J A = E at *
    have b11 : D.size + sp.size ≤ 9223372036854775807 := by omega
    have b12 : D.size + sp.size + fx.s.size ≤ 9223372036854775807 := by omega
    have b13 : D.size + sp.size + fx.s.size + (⟨#[32, 58, 32]⟩ : ByteArray).size ≤ 9223372036854775807 := by omega
    have b14 : D.size + sp.size + fx.s.size + (⟨#[32, 58, 32]⟩ : ByteArray).size + E.size ≤ 9223372036854775807 := by omega
    have b15 : D.size + sp.size + fx.s.size + (⟨#[32, 58, 32]⟩ : ByteArray).size + E.size + (⟨#[32, 59, 32]⟩ : ByteArray).size ≤ 9223372036854775807 := by omega
    repeat' (first | refine aw_seq ?_ | refine aw_skip ?_ | refine aw_block ?_ | refine aw_exit ?_ | refine aw_cond rfl (fun _ => ?_) (fun hb => absurd hb (by decide)) | refine aw_cond rfl (fun hb => absurd hb (by decide)) (fun _ => ?_) | (refine aw_reg (fun K hK => ?_); simp -implicitDefEqProofs [hkl, ht, ht', b11, b12, b13, b14, b15, w2]) | (refine aw_drw mixd (fun K hK => ?_); simp -implicitDefEqProofs [hkl, ht, ht', b11, b12, b13, b14, b15, w2]) | refine hK _ ?_ | refine hK _ _ (by rfl) ?_ | (refine ar_call (cp r ?_); simp -implicitDefEqProofs [hkl, ht, ht', b11, b12, b13, b14, b15, w2]) | (refine ard_call (dp r ?_); simp -implicitDefEqProofs [hkl, ht, ht', b11, b12, b13, b14, b15, w2]) | fail)
    refine ⟨k + 1, by omega, (by dsimp only; omega), ?_⟩; rw [hI]; exact cov_intro [0] (by simp -implicitDefEqProofs [hT, e3]) (by simp -implicitDefEqProofs [hT, e3]) (by decide) rfl (by simp)
set_option maxRecDepth 100000 in
set_option maxHeartbeats 4000000 in
theorem rpfn_row (x p r b : Lab) (pl rl bl : List VT) (Ws : List (List ByteArray)) (R B : List ByteArray) (h : x.k = 33) (hsz : x.s.size ≤ 8192) (hl : pl.length = Ws.length) (hn : pl.length ≤ 100000) (hw : ∀ (i : Nat) t W, pl[i]? = some t → Ws[i]? = some W → WF t W) (hr : WT (.mk r rl) R) (hk : b.k = 29) (hb : WS (.mk b bl) B) (V : List ByteArray) (hv : (x.n = 0 ∧ V = []) ∨ (x.n = 1 ∧ V = [wPub])) (hlen : (pre [sCom] Ws).length + R.length + B.length ≤ 80000) (hs : Sml (pre [sCom] Ws)) : Row Tryz.prog 20 [vT (.mk x [.mk p pl, .mk r rl, .mk b bl])] [] (vS (J (V ++ ([wFn] ++ ([x.s] ++ ([sParO] ++ (pre [sCom] Ws ++ ([sParS] ++ ([sCol] ++ (R ++ B)))))))))) [] := by
  have hR := wt_sml hr
  have hB := ws_sml hb
  have rR := rprty_row hr (by have := J_sml hR.1 (by omega); omega)
  have rB := (rstm_row hb (by omega) hB.1).2 hk
  have zR := J_sml hR.1 (by omega)
  have zB := J_sml hB.1 (by omega)
  have hsp := pre_split [sCom] Ws
  have hstep := fun k W h => pre_take (sep := [sCom]) (Ws := Ws) (k := k) (W := W) h
  obtain ⟨H, hH⟩ : ∃ H, V ++ ([wFn] ++ ([x.s] ++ [sParO])) = H := ⟨_, rfl⟩
  have hHn : H ≠ [] := by rw [← hH]; simp
  have hHl : H.length ≤ 4 := by rw [← hH]; rcases hv with ⟨_, rfl⟩ | ⟨_, rfl⟩ <;> simp
  have hHs : Sml H := by
    rw [← hH]
    refine sml_app.2 ⟨?_, sml_app.2 ⟨sml_one (by decide), sml_app.2 ⟨sml_one hsz, sml_one (by decide)⟩⟩⟩
    rcases hv with ⟨_, rfl⟩ | ⟨_, rfl⟩
    · exact sml_nil
    · exact sml_one (by decide)
  have hsm : ∀ k, (J (H ++ pre [sCom] (Ws.take k))).size ≤ 819300000 := fun k => by
    obtain ⟨R', hR'⟩ := hsp k
    rw [hR'] at hs hlen
    rw [List.length_append] at hlen
    exact J_sml (sml_app.2 ⟨hHs, (sml_app.1 hs).1⟩) (by rw [List.length_append]; omega)
  have h0 : J H = if x.n = 1 then ⟨#[112, 117, 98, 32]⟩ ++ (⟨#[102, 110, 32]⟩ ++ x.s ++ ⟨#[32, 40]⟩) else ⟨#[102, 110, 32]⟩ ++ x.s ++ ⟨#[32, 40]⟩ := by
    rw [← hH]
    rcases hv with ⟨e, rfl⟩ | ⟨e, rfl⟩
    · rw [if_neg (by omega), List.nil_append, J_app (by simp) (by simp), J_app (by simp) (by simp)]
      simp only [J_one, ByteArray.append_assoc, app_lit, app_lit2, List.cons_append, List.nil_append]
    · rw [if_pos e, J_app (by simp) (by simp), J_app (by simp) (by simp), J_app (by simp) (by simp)]
      simp only [J_one, ByteArray.append_assoc, app_lit, app_lit2, List.cons_append, List.nil_append]
  have hend : J (V ++ ([wFn] ++ ([x.s] ++ ([sParO] ++ (pre [sCom] Ws ++ ([sParS] ++ ([sCol] ++ (R ++ B)))))))) = J (H ++ pre [sCom] (Ws.take Ws.length)) ++ ⟨#[32, 41, 32, 58, 32]⟩ ++ J R ++ ⟨#[32]⟩ ++ J B := by
    rw [List.take_length, show V ++ ([wFn] ++ ([x.s] ++ ([sParO] ++ (pre [sCom] Ws ++ ([sParS] ++ ([sCol] ++ (R ++ B))))))) = (H ++ pre [sCom] Ws) ++ ([sParS] ++ ([sCol] ++ (R ++ B))) by rw [← hH]; simp, J_app (by simp [hHn]) (by simp), J_app (A := [sParS]) (by simp) (by simp), J_app (A := [sCol]) (by simp) (by simp [wt_ne hr]), J_app (wt_ne hr) (ws_ne hb)]
    simp only [J_one, ByteArray.append_assoc, app_lit, app_lit2, List.cons_append, List.nil_append]
  have y1 : (⟨#[102, 110, 32]⟩ : ByteArray).size = 3 := rfl
  have y2 : (⟨#[32, 40]⟩ : ByteArray).size = 2 := rfl
  have y3 : (⟨#[112, 117, 98, 32]⟩ : ByteArray).size = 4 := rfl
  have y4 : (⟨#[32, 58, 32]⟩ : ByteArray).size = 3 := rfl
  have y5 : (⟨#[32, 44]⟩ : ByteArray).size = 2 := rfl
  have y6 : (⟨#[32]⟩ : ByteArray).size = 1 := rfl
  have y7 : (⟨#[32, 41, 32, 58, 32]⟩ : ByteArray).size = 5 := rfl
  have b1 : (⟨#[102, 110, 32]⟩ : ByteArray).size + x.s.size ≤ 9223372036854775807 := by omega
  have b2 : (⟨#[102, 110, 32]⟩ : ByteArray).size + x.s.size + (⟨#[32, 40]⟩ : ByteArray).size ≤ 9223372036854775807 := by omega
  have b5 : (⟨#[112, 117, 98, 32]⟩ : ByteArray).size + ((⟨#[102, 110, 32]⟩ : ByteArray).size + x.s.size + (⟨#[32, 40]⟩ : ByteArray).size) ≤ 9223372036854775807 := by omega
  rw [hend]
  have h00 : pre [sCom] [] = [] := rfl
  generalize J R = E0 at *
  generalize J B = G at *
  have hc : ∃ S0, J H = S0 ∧ ((x.n = 1 ∧ ⟨#[112, 117, 98, 32]⟩ ++ (⟨#[102, 110, 32]⟩ ++ x.s ++ ⟨#[32, 40]⟩) = S0) ∨ (x.n = 0 ∧ ⟨#[102, 110, 32]⟩ ++ x.s ++ ⟨#[32, 40]⟩ = S0)) := by
    refine ⟨_, rfl, ?_⟩
    rcases hv with ⟨e, _⟩ | ⟨e, _⟩
    · exact .inr ⟨e, by rw [h0, if_neg (by omega)]⟩
    · exact .inl ⟨e, by rw [h0, if_pos e]⟩
  obtain ⟨S0, h0', hc⟩ := hc
  rcases hc with ⟨c, e⟩ | ⟨c, e⟩
  all_goals
    refine row_of Tryz.func20 rfl rfl (Nat.le_of_ble_eq_true rfl) ?_
    repeat (first | refine aw_seq ?_ | refine aw_skip ?_ | refine aw_block ?_ | refine aw_exit ?_ | refine aw_cond rfl (fun _ => ?_) (fun hb => absurd hb (by decide)) | refine aw_cond rfl (fun hb => absurd hb (by decide)) (fun _ => ?_) | (refine aw_reg (fun K hK => ?_); simp -implicitDefEqProofs [h, c, b1, b2, b5, e]; refine hK _ ?_) | (refine aw_drw mixd (fun K hK => ?_); simp -implicitDefEqProofs [h, c, b1, b2, b5, e]; refine hK _ _ (by rfl) ?_) | fail)
    refine aw_lp (ι := Nat) (fun k => mkSt [(1, .v (.c (.ptr 0 0))), (5, vS (J (H ++ pre [sCom] (Ws.take k)))), (6, vI (k : Nat))] [some (.box (ta (.mk x [.mk p pl, .mk r rl, .mk b bl])))]) (fun k => k ≤ pl.length) (fun k => pl.length - k) 0 (Nat.zero_le _) (cov_intro [0] (by simp -implicitDefEqProofs [h, c, e, h00, h0']) (by simp -implicitDefEqProofs [h, c, e, h00, h0']) (by decide) rfl (by simp)) (fun Z hI k hk => ?_)
    by_cases hkl : k < pl.length; rotate_left
    · have hke : k = Ws.length := by omega
      subst hke
      have hz := hsm Ws.length
      have hlt : ¬ Ws.length < pl.length := by omega
      generalize J (H ++ pre [sCom] (Ws.take Ws.length)) = D at *
      have b31 : D.size + (⟨#[32, 41, 32, 58, 32]⟩ : ByteArray).size ≤ 9223372036854775807 := by omega
      have b32 : D.size + (⟨#[32, 41, 32, 58, 32]⟩ : ByteArray).size + E0.size ≤ 9223372036854775807 := by omega
      have b33 : D.size + (⟨#[32, 41, 32, 58, 32]⟩ : ByteArray).size + E0.size + (⟨#[32]⟩ : ByteArray).size ≤ 9223372036854775807 := by omega
      have b34 : D.size + (⟨#[32, 41, 32, 58, 32]⟩ : ByteArray).size + E0.size + (⟨#[32]⟩ : ByteArray).size + G.size ≤ 9223372036854775807 := by omega
      repeat' (first | refine aw_seq ?_ | refine aw_skip ?_ | refine aw_block ?_ | refine aw_exit ?_ | refine aw_cond rfl (fun _ => ?_) (fun hb => absurd hb (by decide)) | refine aw_cond rfl (fun hb => absurd hb (by decide)) (fun _ => ?_) | (refine aw_reg (fun K hK => ?_); simp -implicitDefEqProofs [hlt, b31, b32, b33, b34]) | (refine aw_drw mixd (fun K hK => ?_); simp -implicitDefEqProofs [hlt, b31, b32, b33, b34]) | refine hK _ ?_ | refine hK _ _ (by rfl) ?_ | (refine ar_call (cp rR ?_); simp -implicitDefEqProofs [hlt, b31, b32, b33, b34]) | (refine ard_call (dp rR ?_); simp -implicitDefEqProofs [hlt, b31, b32, b33, b34]) | (refine ar_call (cp rB ?_); simp -implicitDefEqProofs [hlt, b31, b32, b33, b34]) | (refine ard_call (dp rB ?_); simp -implicitDefEqProofs [hlt, b31, b32, b33, b34]) | fail)
      refine aw_ret (fin_ret ?_); simp -implicitDefEqProofs [FinP, resV, resT] <;> try rfl
    obtain ⟨t, ht⟩ : ∃ a, pl[k]? = some a := ⟨_, List.getElem?_eq_getElem hkl⟩
    obtain ⟨W, hW⟩ : ∃ a, Ws[k]? = some a := ⟨_, List.getElem?_eq_getElem (by omega)⟩
    have hst := hstep k _ hW
    have z1 := hsm (k + 1)
    have z0 := hsm k
    have w2 : IntKind.i64.wrap ((k : Nat) + 1 : Int) = (k : Nat) + 1 := i64i _ (by omega) (by omega)
    have hf := hw k t W ht hW
    cases hf with
    | mk fx ax al A hfs ha =>
      have ht' := (List.getElem?_eq_some_iff.1 ht).2
      have hAn := wt_ne ha
      by_cases hk0 : k = 0
      · have hkp : ¬ 0 < k := by omega
        have e3 : J (H ++ pre [sCom] (Ws.take (k + 1))) = J (H ++ pre [sCom] (Ws.take k)) ++ ⟨#[32]⟩ ++ fx.s ++ ⟨#[32, 58, 32]⟩ ++ J A := by
          rw [hst, if_pos hk0, List.nil_append, ← List.append_assoc, J_app (by simp [hHn]) (by simp), J_app (A := [fx.s]) (by simp) (by simp), J_app (A := [sCol]) (by simp) hAn]
          simp only [J_one, ByteArray.append_assoc, app_lit, app_lit2, List.cons_append, List.nil_append]
        have e4 := congrArg ByteArray.size e3
        simp only [ByteArray.size_append] at e4
        have r := rprty_row ha (by omega)
        obtain ⟨T, hT⟩ : ∃ T, J (H ++ pre [sCom] (Ws.take (k + 1))) = T := ⟨_, rfl⟩
        rw [hT] at e3
        generalize J (H ++ pre [sCom] (Ws.take k)) = D at *
        generalize J A = E at *
        clear hk0
        have b11 : D.size + (⟨#[32]⟩ : ByteArray).size ≤ 9223372036854775807 := by omega
        have b12 : D.size + (⟨#[32]⟩ : ByteArray).size + fx.s.size ≤ 9223372036854775807 := by omega
        have b13 : D.size + (⟨#[32]⟩ : ByteArray).size + fx.s.size + (⟨#[32, 58, 32]⟩ : ByteArray).size ≤ 9223372036854775807 := by omega
        have b14 : D.size + (⟨#[32]⟩ : ByteArray).size + fx.s.size + (⟨#[32, 58, 32]⟩ : ByteArray).size + E.size ≤ 9223372036854775807 := by omega
        repeat' (first | refine aw_seq ?_ | refine aw_skip ?_ | refine aw_block ?_ | refine aw_exit ?_ | refine aw_cond rfl (fun _ => ?_) (fun hb => absurd hb (by decide)) | refine aw_cond rfl (fun hb => absurd hb (by decide)) (fun _ => ?_) | (refine aw_reg (fun K hK => ?_); simp -implicitDefEqProofs [hkl, ht, ht', hkp, b11, b12, b13, b14, w2]) | (refine aw_drw mixd (fun K hK => ?_); simp -implicitDefEqProofs [hkl, ht, ht', hkp, b11, b12, b13, b14, w2]) | refine hK _ ?_ | refine hK _ _ (by rfl) ?_ | (refine ar_call (cp r ?_); simp -implicitDefEqProofs [hkl, ht, ht', hkp, b11, b12, b13, b14, w2]) | (refine ard_call (dp r ?_); simp -implicitDefEqProofs [hkl, ht, ht', hkp, b11, b12, b13, b14, w2]) | fail)
        refine ⟨k + 1, by omega, (by dsimp only; omega), ?_⟩; rw [hI]; exact cov_intro [0] (by simp -implicitDefEqProofs [hT, e3]) (by simp -implicitDefEqProofs [hT, e3]) (by decide) rfl (by simp)
      · have hkp : 0 < k := by omega
        have e3 : J (H ++ pre [sCom] (Ws.take (k + 1))) = J (H ++ pre [sCom] (Ws.take k)) ++ ⟨#[32, 44]⟩ ++ ⟨#[32]⟩ ++ fx.s ++ ⟨#[32, 58, 32]⟩ ++ J A := by
          rw [hst, if_neg hk0, show H ++ (pre [sCom] (Ws.take k) ++ ([sCom] ++ ([fx.s] ++ ([sCol] ++ A)))) = (H ++ pre [sCom] (Ws.take k)) ++ ([sCom] ++ ([fx.s] ++ ([sCol] ++ A))) by simp, J_app (by simp [hHn]) (by simp), J_app (A := [sCom]) (by simp) (by simp), J_app (A := [fx.s]) (by simp) (by simp), J_app (A := [sCol]) (by simp) hAn]
          simp only [J_one, ByteArray.append_assoc, app_lit, app_lit2, List.cons_append, List.nil_append]
        have e4 := congrArg ByteArray.size e3
        simp only [ByteArray.size_append] at e4
        have r := rprty_row ha (by omega)
        obtain ⟨T, hT⟩ : ∃ T, J (H ++ pre [sCom] (Ws.take (k + 1))) = T := ⟨_, rfl⟩
        rw [hT] at e3
        generalize J (H ++ pre [sCom] (Ws.take k)) = D at *
        generalize J A = E at *
        have b21 : D.size + (⟨#[32, 44]⟩ : ByteArray).size ≤ 9223372036854775807 := by omega
        have b22 : D.size + (⟨#[32, 44]⟩ : ByteArray).size + (⟨#[32]⟩ : ByteArray).size ≤ 9223372036854775807 := by omega
        have b23 : D.size + (⟨#[32, 44]⟩ : ByteArray).size + (⟨#[32]⟩ : ByteArray).size + fx.s.size ≤ 9223372036854775807 := by omega
        have b24 : D.size + (⟨#[32, 44]⟩ : ByteArray).size + (⟨#[32]⟩ : ByteArray).size + fx.s.size + (⟨#[32, 58, 32]⟩ : ByteArray).size ≤ 9223372036854775807 := by omega
        have b25 : D.size + (⟨#[32, 44]⟩ : ByteArray).size + (⟨#[32]⟩ : ByteArray).size + fx.s.size + (⟨#[32, 58, 32]⟩ : ByteArray).size + E.size ≤ 9223372036854775807 := by omega
        repeat' (first | refine aw_seq ?_ | refine aw_skip ?_ | refine aw_block ?_ | refine aw_exit ?_ | refine aw_cond rfl (fun _ => ?_) (fun hb => absurd hb (by decide)) | refine aw_cond rfl (fun hb => absurd hb (by decide)) (fun _ => ?_) | (refine aw_reg (fun K hK => ?_); simp -implicitDefEqProofs [hkl, ht, ht', hkp, b21, b22, b23, b24, b25, w2]) | (refine aw_drw mixd (fun K hK => ?_); simp -implicitDefEqProofs [hkl, ht, ht', hkp, b21, b22, b23, b24, b25, w2]) | refine hK _ ?_ | refine hK _ _ (by rfl) ?_ | (refine ar_call (cp r ?_); simp -implicitDefEqProofs [hkl, ht, ht', hkp, b21, b22, b23, b24, b25, w2]) | (refine ard_call (dp r ?_); simp -implicitDefEqProofs [hkl, ht, ht', hkp, b21, b22, b23, b24, b25, w2]) | fail)
        refine ⟨k + 1, by omega, (by dsimp only; omega), ?_⟩; rw [hI]; exact cov_intro [0] (by simp -implicitDefEqProofs [hT, e3]) (by simp -implicitDefEqProofs [hT, e3]) (by decide) rfl (by simp)
end Go.Proofs.YtlkggpjdaaglmaaGreatDoor.am
end
section
namespace Go.Proofs.YtlkggpjdaaglmaaGreatDoor.am
open Go.ChangeShapes Go.WideShapes Go.ChangeAt Go.RowKit
open vt
set_option linter.unusedVariables false
set_option linter.unusedSimpArgs false
set_option maxRecDepth 100000 in
set_option maxHeartbeats 4000000 in
theorem rpdecl_row {t : VT} {W : List ByteArray} (hW : WD t W) (hl : W.length ≤ 80000) : Row Tryz.prog 20 [vT t] [] (vS (J W)) [] := by
  have hs := (wd_sml hW).1
  cases hW with
  | rec' x l Ws h hsz hl2 hw =>
    have hl3 : l.length = (Ws.map (· ++ [sEnd])).length := by rw [List.length_map]; exact hl2
    have k := ws_kids hl3 (fun i t W a b => by
      rw [List.getElem?_map] at b
      obtain ⟨W', hW', rfl⟩ := Option.map_eq_some_iff.1 b
      simp) []
    simp only [sml_app] at hs
    obtain ⟨_, _, _, hsA, _⟩ := hs
    simp only [List.length_append, List.length_singleton] at hl
    exact rrec_row x l Ws h hsz hl2 (by omega) hw hsA (by omega)
  | fn x p r b pl rl bl Ws R B h hn hsz hl2 hw hr hk hb =>
    have k := ws_kids hl2 (fun i t W a b => wf_ne (hw i t W a b)) [sCom]
    simp only [sml_app] at hs
    obtain ⟨_, _, _, hsA, _⟩ := hs
    simp only [List.length_append, List.length_singleton] at hl
    have q := rpfn_row x p r b pl rl bl Ws R B h hsz hl2 (by omega) hw hr hk hb [] (.inl ⟨hn, rfl⟩) (by omega) hsA
    rw [List.nil_append] at q
    exact q
  | pub x p r b pl rl bl Ws R B h hn hsz hl2 hw hr hk hb =>
    have k := ws_kids hl2 (fun i t W a b => wf_ne (hw i t W a b)) [sCom]
    simp only [sml_app] at hs
    obtain ⟨_, _, _, _, hsA, _⟩ := hs
    simp only [List.length_append, List.length_singleton] at hl
    exact rpfn_row x p r b pl rl bl Ws R B h hsz hl2 (by omega) hw hr hk hb [wPub] (.inr ⟨hn, rfl⟩) (by omega) hsA
  | dfn x a al A h hsz ha =>
    simp only [sml_app] at hs
    obtain ⟨_, _, _, hsA, _⟩ := hs
    simp only [List.length_append, List.length_singleton] at hl
    have neA : A ≠ [] := we_ne ha
    have zA := J_sml hsA (by omega)
    have rA := rexp_row ha (by omega) hsA
    have q : J ([wConst] ++ ([x.s] ++ ([sIs] ++ (A ++ [sEnd])))) = ⟨#[99, 111, 110, 115, 116, 32]⟩ ++ x.s ++ ⟨#[32, 61, 32]⟩ ++ J A ++ ⟨#[32, 59]⟩ := by
      rw [J_app (A := [wConst]) (B := ([x.s] ++ ([sIs] ++ (A ++ [sEnd])))) (by simp) (by simp), J_app (A := [x.s]) (B := ([sIs] ++ (A ++ [sEnd]))) (by simp) (by simp), J_app (A := [sIs]) (B := (A ++ [sEnd])) (by simp) (by simp), J_app (A := A) (B := [sEnd]) neA (by simp)]
      simp only [J_one, ByteArray.append_assoc, app_lit, app_lit2, List.cons_append, List.nil_append]
    rw [q]
    clear q
    generalize J A = DA at *
    have y1 : (⟨#[99, 111, 110, 115, 116, 32]⟩ : ByteArray).size = 6 := rfl
    have b1 : (⟨#[99, 111, 110, 115, 116, 32]⟩ : ByteArray).size + x.s.size ≤ 9223372036854775807 := by omega
    have y2 : (⟨#[32, 61, 32]⟩ : ByteArray).size = 3 := rfl
    have b2 : (⟨#[99, 111, 110, 115, 116, 32]⟩ : ByteArray).size + x.s.size + (⟨#[32, 61, 32]⟩ : ByteArray).size ≤ 9223372036854775807 := by omega
    have b3 : (⟨#[99, 111, 110, 115, 116, 32]⟩ : ByteArray).size + x.s.size + (⟨#[32, 61, 32]⟩ : ByteArray).size + DA.size ≤ 9223372036854775807 := by omega
    have y3 : (⟨#[32, 59]⟩ : ByteArray).size = 2 := rfl
    have b4 : (⟨#[99, 111, 110, 115, 116, 32]⟩ : ByteArray).size + x.s.size + (⟨#[32, 61, 32]⟩ : ByteArray).size + DA.size + (⟨#[32, 59]⟩ : ByteArray).size ≤ 9223372036854775807 := by omega
    refine row_of Tryz.func20 rfl rfl (Nat.le_of_ble_eq_true rfl) ?_
    repeat' (first | refine aw_seq ?_ | refine aw_skip ?_ | refine aw_block ?_ | refine aw_exit ?_ | refine aw_cond rfl (fun _ => ?_) (fun hb => absurd hb (by decide)) | refine aw_cond rfl (fun hb => absurd hb (by decide)) (fun _ => ?_) | (refine aw_reg (fun K hK => ?_); simp -implicitDefEqProofs [h, b1, b2, b3, b4]) | (refine aw_drw mixd (fun K hK => ?_); simp -implicitDefEqProofs [h, b1, b2, b3, b4]) | refine hK _ ?_ | refine hK _ _ (by rfl) ?_ | (refine ar_call (cp rA ?_); simp -implicitDefEqProofs [h, b1, b2, b3, b4]) | (refine ard_call (dp rA ?_); simp -implicitDefEqProofs [h, b1, b2, b3, b4]) | fail)
    refine aw_ret (fin_ret ?_); simp -implicitDefEqProofs [FinP, resV, resT] <;> try rfl
  | var' x a al A h hsz ha =>
    simp only [sml_app] at hs
    obtain ⟨_, _, _, hsA, _⟩ := hs
    simp only [List.length_append, List.length_singleton] at hl
    have neA : A ≠ [] := wt_ne ha
    have zA := J_sml hsA (by omega)
    have rA := rprty_row ha (by omega)
    have q : J ([wVar] ++ ([x.s] ++ ([sCol] ++ (A ++ [sEnd])))) = ⟨#[118, 97, 114, 32]⟩ ++ x.s ++ ⟨#[32, 58, 32]⟩ ++ J A ++ ⟨#[32, 59]⟩ := by
      rw [J_app (A := [wVar]) (B := ([x.s] ++ ([sCol] ++ (A ++ [sEnd])))) (by simp) (by simp), J_app (A := [x.s]) (B := ([sCol] ++ (A ++ [sEnd]))) (by simp) (by simp), J_app (A := [sCol]) (B := (A ++ [sEnd])) (by simp) (by simp), J_app (A := A) (B := [sEnd]) neA (by simp)]
      simp only [J_one, ByteArray.append_assoc, app_lit, app_lit2, List.cons_append, List.nil_append]
    rw [q]
    clear q
    generalize J A = DA at *
    have y1 : (⟨#[118, 97, 114, 32]⟩ : ByteArray).size = 4 := rfl
    have b1 : (⟨#[118, 97, 114, 32]⟩ : ByteArray).size + x.s.size ≤ 9223372036854775807 := by omega
    have y2 : (⟨#[32, 58, 32]⟩ : ByteArray).size = 3 := rfl
    have b2 : (⟨#[118, 97, 114, 32]⟩ : ByteArray).size + x.s.size + (⟨#[32, 58, 32]⟩ : ByteArray).size ≤ 9223372036854775807 := by omega
    have b3 : (⟨#[118, 97, 114, 32]⟩ : ByteArray).size + x.s.size + (⟨#[32, 58, 32]⟩ : ByteArray).size + DA.size ≤ 9223372036854775807 := by omega
    have y3 : (⟨#[32, 59]⟩ : ByteArray).size = 2 := rfl
    have b4 : (⟨#[118, 97, 114, 32]⟩ : ByteArray).size + x.s.size + (⟨#[32, 58, 32]⟩ : ByteArray).size + DA.size + (⟨#[32, 59]⟩ : ByteArray).size ≤ 9223372036854775807 := by omega
    refine row_of Tryz.func20 rfl rfl (Nat.le_of_ble_eq_true rfl) ?_
    repeat' (first | refine aw_seq ?_ | refine aw_skip ?_ | refine aw_block ?_ | refine aw_exit ?_ | refine aw_cond rfl (fun _ => ?_) (fun hb => absurd hb (by decide)) | refine aw_cond rfl (fun hb => absurd hb (by decide)) (fun _ => ?_) | (refine aw_reg (fun K hK => ?_); simp -implicitDefEqProofs [h, b1, b2, b3, b4]) | (refine aw_drw mixd (fun K hK => ?_); simp -implicitDefEqProofs [h, b1, b2, b3, b4]) | refine hK _ ?_ | refine hK _ _ (by rfl) ?_ | (refine ar_call (cp rA ?_); simp -implicitDefEqProofs [h, b1, b2, b3, b4]) | (refine ard_call (dp rA ?_); simp -implicitDefEqProofs [h, b1, b2, b3, b4]) | fail)
    refine aw_ret (fin_ret ?_); simp -implicitDefEqProofs [FinP, resV, resT] <;> try rfl
set_option maxRecDepth 100000 in
set_option maxHeartbeats 4000000 in
theorem rtext_row (x : Lab) (l : List VT) (Ws : List (List ByteArray)) (hl : l.length = Ws.length) (hn : l.length ≤ 1000) (hw : ∀ (i : Nat) t W, l[i]? = some t → Ws[i]? = some W → WD t W ∧ W.length ≤ 80000 ∧ (J W).size ≤ 1000000000) : Row Tryz.prog 8 [vT (.mk x l)] [] (vS (txt Ws)) [] := by
  have hsz := txt_size (Ws := Ws) (fun W hW => by
    obtain ⟨i, hi⟩ := List.mem_iff_getElem?.1 hW
    have hlt := (List.getElem?_eq_some_iff.1 hi).1
    exact (hw i _ W (List.getElem?_eq_getElem (by omega)) hi).2.2)
  have h0 : txt [] = ⟨#[]⟩ := rfl
  have zn : (⟨#[10]⟩ : ByteArray).size = 1 := rfl
  refine row_of Tryz.func8 rfl rfl (Nat.le_of_ble_eq_true rfl) ?_
  repeat (first | refine aw_seq ?_ | refine aw_skip ?_ | refine aw_block ?_ | refine aw_exit ?_ | refine aw_cond rfl (fun _ => ?_) (fun hb => absurd hb (by decide)) | refine aw_cond rfl (fun hb => absurd hb (by decide)) (fun _ => ?_) | (refine aw_reg (fun K hK => ?_); simp -implicitDefEqProofs; refine hK _ ?_) | (refine aw_drw mixd (fun K hK => ?_); simp -implicitDefEqProofs; refine hK _ _ (by rfl) ?_) | fail)
  refine aw_lp (ι := Nat) (fun k => mkSt [(1, .v (.c (.ptr 0 0))), (3, vS (txt (Ws.take k))), (4, vI (k : Nat))] [some (.box (ta (.mk x l)))]) (fun k => k ≤ l.length) (fun k => l.length - k) 0 (Nat.zero_le _) (cov_intro [0] (by simp -implicitDefEqProofs [h0]) (by simp -implicitDefEqProofs [h0]) (by decide) rfl (by simp)) (fun Z hI k hk => ?_)
  by_cases hkl : k < l.length; rotate_left
  · have hke : k = Ws.length := by omega
    subst hke
    have hlt : ¬ Ws.length < l.length := by omega
    rw [List.take_length]
    repeat (first | refine aw_seq ?_ | refine aw_skip ?_ | refine aw_block ?_ | refine aw_exit ?_ | refine aw_cond rfl (fun _ => ?_) (fun hb => absurd hb (by decide)) | refine aw_cond rfl (fun hb => absurd hb (by decide)) (fun _ => ?_) | (refine aw_reg (fun K hK => ?_); simp -implicitDefEqProofs [hlt]; refine hK _ ?_) | (refine aw_drw mixd (fun K hK => ?_); simp -implicitDefEqProofs [hlt]; refine hK _ _ (by rfl) ?_) | fail)
    refine aw_ret (fin_ret ?_); simp -implicitDefEqProofs [FinP, resV, resT] <;> try rfl
  obtain ⟨⟨ux, ul⟩, hu⟩ : ∃ a, l[k]? = some a := ⟨_, List.getElem?_eq_getElem hkl⟩
  have hu' := (List.getElem?_eq_some_iff.1 hu).2
  obtain ⟨W, hW⟩ : ∃ a, Ws[k]? = some a := ⟨_, List.getElem?_eq_getElem (by omega)⟩
  obtain ⟨g1, g2, g3⟩ := hw k _ W hu hW
  have r := rpdecl_row g1 g2
  have hz := hsz k (by omega)
  have e3 := txt_take hW
  have w2 : IntKind.i64.wrap ((k : Nat) + 1 : Int) = (k : Nat) + 1 := i64i _ (by omega) (by omega)
  rw [← ByteArray.append_assoc] at e3
  obtain ⟨T1, hT⟩ : ∃ T, txt (Ws.take (k + 1)) = T := ⟨_, rfl⟩
  rw [hT] at e3
  generalize txt (Ws.take k) = D at *
  generalize J W = E at *
  have b1 : D.size + E.size ≤ 9223372036854775807 := by omega
  have b2 : D.size + E.size + (⟨#[10]⟩ : ByteArray).size ≤ 9223372036854775807 := by omega
  repeat' (first | refine aw_seq ?_ | refine aw_skip ?_ | refine aw_block ?_ | refine aw_exit ?_ | refine aw_cond rfl (fun _ => ?_) (fun hb => absurd hb (by decide)) | refine aw_cond rfl (fun hb => absurd hb (by decide)) (fun _ => ?_) | (refine aw_reg (fun K hK => ?_); simp -implicitDefEqProofs [hkl, hu, hu', b1, b2, w2]) | (refine aw_drw mixd (fun K hK => ?_); simp -implicitDefEqProofs [hkl, hu, hu', b1, b2, w2]) | refine hK _ ?_ | refine hK _ _ (by rfl) ?_ | (refine ar_call (cp r ?_); simp -implicitDefEqProofs [hkl, hu, hu', b1, b2, w2]) | (refine ard_call (dp r ?_); simp -implicitDefEqProofs [hkl, hu, hu', b1, b2, w2]) | fail)
  refine ⟨k + 1, by omega, (by dsimp only; omega), ?_⟩; rw [hI]; exact cov_intro [0] (by simp -implicitDefEqProofs [hT, e3]) (by simp -implicitDefEqProofs [hT, e3]) (by decide) rfl (by simp)
end Go.Proofs.YtlkggpjdaaglmaaGreatDoor.am
end
section
namespace Go.Proofs.YtlkggpjdaaglmaaGreatDoor.am
open vt
noncomputable abbrev vT3i (r : VT × Int × Int) : AV := .tup [.agg (ta r.1), .c (.pv (I r.2.1)), .c (.pv (I r.2.2))]
abbrev zTb : AO := .box [.pv (I 0), .pv (I 0), .pv (Sx ⟨#[]⟩), .pv .nilS, .pv (I 0), .pv (I 0)]
end Go.Proofs.YtlkggpjdaaglmaaGreatDoor.am
end
