import Derived.Test.YtlkggpjdaaglmaaGreatDoorPkR5
import Derived.Test.YtlkggpjdaaglmaaGreatDoorPkR7
import Derived.Lib.Join
import Derived.Test.YtlkggpjdaaglmaaGreatDoorProg
import Derived.Test.YtlkggpjdaaglmaaGreatDoorPkR4
import Derived.Test.YtlkggpjdaaglmaaGreatDoorPkR3
section
namespace Go.Proofs.YtlkggpjdaaglmaaGreatDoor.vt
open Go.Proofs.YtlkggpjdaaglmaaGreatDoor.am
set_option linter.unusedVariables false
noncomputable def dpt (t : VT) : Nat := Tr.fold (fun _ _ b => b.foldl max 0 + 1) t
theorem dpt_mk (x : Lab) (l : List VT) : dpt (.mk x l) = (l.map dpt).foldl max 0 + 1 := Tr.fold_mk _ x l
noncomputable def dmx (l : List VT) (k : Nat) : Nat := ((l.take k).map dpt).foldl max 0
theorem dmx_succ {l : List VT} {k : Nat} {x : VT} (h : l[k]? = some x) : dmx l (k + 1) = max (dmx l k) (dpt x) := by
  unfold dmx
  rw [List.take_add_one, h]
  simp
theorem foldl_max_le' (l : List Nat) : ∀ (a b : Nat), a ≤ b → (∀ x ∈ l, x ≤ b) → l.foldl max a ≤ b := by
  induction l with
  | nil => intro a b h _; exact h
  | cons x l ih =>
    intro a b h hl
    exact ih _ _ (Nat.max_le.2 ⟨h, hl x (by simp)⟩) (fun y hy => hl y (by simp [hy]))
theorem dpt_le (t : VT) : dpt t ≤ t.size := by
  induction t using Tr.ind with
  | h x l ih =>
    rw [dpt_mk]
    have h1 : (l.map dpt).foldl max 0 ≤ Tr.size (Tr.mk x l) - 1 := foldl_max_le' _ _ _ (Nat.zero_le _) (fun y hy => by
      rw [List.mem_map] at hy
      obtain ⟨z, hz, rfl⟩ := hy
      have h1 := ih z hz
      obtain ⟨i, hi⟩ := List.mem_iff_getElem?.1 hz
      have h2 := Tr.size_at (x := x) hi
      omega)
    have := Tr.size_pos (Tr.mk x l)
    omega
theorem dmx_le {x : Lab} {l : List VT} (k : Nat) : dmx l k ≤ Tr.size (Tr.mk x l) := by
  unfold dmx
  refine foldl_max_le' _ _ _ (Nat.zero_le _) (fun y hy => ?_)
  rw [List.mem_map] at hy
  obtain ⟨z, hz, rfl⟩ := hy
  have h1 := dpt_le z
  obtain ⟨i, hi⟩ := List.mem_iff_getElem?.1 (List.mem_of_mem_take hz)
  have h2 := Tr.size_at (x := x) hi
  omega
def modT (s : ByteArray) (l : List VT) : VT := .mk ⟨36, 0, ⟨#[]⟩, 0, s.size⟩ l
noncomputable def modG (s : ByteArray) (ts : List Tok) : VT × Int × Int :=
  if (lpU ts (ts.length + 1) 0 []).2.2 ≠ 0 then (z0, frT ts (lpU ts (ts.length + 1) 0 []).2.1, (lpU ts (ts.length + 1) 0 []).2.2)
  else if 64 < (lpU ts (ts.length + 1) 0 []).1.length then (z0, 0, 11)
  else if 64 < dpt (modT s (lpU ts (ts.length + 1) 0 []).1) then (z0, 0, 7)
  else (modT s (lpU ts (ts.length + 1) 0 []).1, 0, 0)
noncomputable def unitG (s : ByteArray) : VT × Int × Int := if (tokG s).2.2 ≠ 0 then (z0, (tokG s).2.1, (tokG s).2.2) else modG s (tokG s).1
section
variable {ts : List Tok}
structure InvU (ts : List Tok) (C : List VT × Nat × Int) (x : Nat × Nat × List VT) : Prop where
  eq : lpU ts x.1 x.2.1 x.2.2 = C
  le : x.2.1 + 1 ≤ ts.length
  fuel : ts.length < x.1 + x.2.1
  few : x.2.2.length + x.1 ≤ ts.length + 1
  sz : sm x.2.2 ≤ x.2.1
theorem decl_ahead {s : ByteArray} (h : TokOk s ts) {i : Nat} (hi : i + 1 ≤ ts.length) : (declG ts i).2.1 + 1 ≤ ts.length := by
  have hk := (decl_oks (ts := ts) i (by omega)).ok.le (by omega)
  have hn := decl_ne5 (ts := ts) i (by omega)
  rcases Nat.lt_or_ge (declG ts i).2.1 ts.length with h1 | h1
  · exact h1
  · have e : (declG ts i).2.1 = ts.length := by omega
    rw [e] at hn
    have := hn (by omega)
    rw [tok_last h] at this
    exact absurd rfl this
theorem invU_next {s : ByteArray} (h : TokOk s ts) {m i : Nat} {acc : List VT} {C : List VT × Nat × Int} (hI : InvU ts C (m + 1, i, acc)) (h0 : ¬ ts.length ≤ i + 1) (h1 : (declG ts i).2.2 = 0) : InvU ts C (m, (declG ts i).2.1, acc ++ [(declG ts i).1]) := by
  have hk := decl_oks (ts := ts) i (by have := hI.le; dsimp only at this; omega)
  have hy := hk.ok.yes h1
  have hs := hk.sz h1
  obtain ⟨x1, x2, x3, x4, x5⟩ := hI
  dsimp only at x1 x2 x3 x4 x5
  rw [lpU, if_neg h0, if_neg (by simp [h1])] at x1
  exact ⟨x1, decl_ahead h x2, by dsimp only; omega, by dsimp only; rw [List.length_append, List.length_singleton]; omega, by dsimp only; rw [sm_app]; omega⟩
theorem lpU_sz : ∀ (m i : Nat) (acc : List VT), i ≤ ts.length → sm acc ≤ i → sm (lpU ts m i acc).1 ≤ ts.length
  | 0, i, acc, hi, h => by rw [lpU]; dsimp only; omega
  | m + 1, i, acc, hi, h => by
    rw [lpU]
    by_cases h0 : ts.length ≤ i + 1
    · rw [if_pos h0]; dsimp only; omega
    rw [if_neg h0]
    have hk := decl_oks (ts := ts) i hi
    by_cases h1 : (declG ts i).2.2 ≠ 0
    · rw [if_pos h1]; dsimp only; omega
    · rw [if_neg h1]
      have h1 : (declG ts i).2.2 = 0 := by simpa using h1
      have hs := hk.sz h1
      exact lpU_sz m _ _ (hk.ok.yes h1).2 (by rw [sm_app]; omega)
theorem mod_sz (s : ByteArray) (m : Nat) : (modT s (lpU ts m 0 []).1).size ≤ ts.length + 1 := by
  have := lpU_sz (ts := ts) m 0 [] (Nat.zero_le _) (by simp [sm])
  unfold modT
  rw [Tr.size_mk]
  unfold sm at this
  omega
end
end Go.Proofs.YtlkggpjdaaglmaaGreatDoor.vt
end
section
namespace Go.Proofs.YtlkggpjdaaglmaaGreatDoor.am
open vt
set_option linter.unusedVariables false
abbrev sp : ByteArray := ⟨#[32]⟩
def J (W : List ByteArray) : ByteArray := lx.mkB (Lib.join (W.map (·.data.toList)) [32])
theorem mkB_app (a b : List UInt8) : lx.mkB (a ++ b) = lx.mkB a ++ lx.mkB b := by
  unfold lx.mkB
  apply ByteArray.ext
  simp
theorem J_nil : J [] = ⟨#[]⟩ := rfl
theorem J_one (a : ByteArray) : J [a] = a := by
  unfold J
  rw [List.map_cons, List.map_nil, Lib.join_one]; rfl
theorem jt_app (a b : List (List UInt8)) : Lib.joinTail [32] (a ++ b) = Lib.joinTail [32] a ++ Lib.joinTail [32] b := by
  unfold Lib.joinTail; simp
theorem J_app {A B : List ByteArray} (hA : A ≠ []) (hB : B ≠ []) : J (A ++ B) = J A ++ sp ++ J B := by
  obtain ⟨a, A', rfl⟩ := List.exists_cons_of_ne_nil hA
  obtain ⟨b, B', rfl⟩ := List.exists_cons_of_ne_nil hB
  unfold J
  have e : (32 : UInt8) :: b.data.toList = [32] ++ b.data.toList := rfl
  have h1 : Lib.join ((a :: A' ++ b :: B').map (·.data.toList)) [32] = Lib.join ((a :: A').map (·.data.toList)) [32] ++ [32] ++ Lib.join ((b :: B').map (·.data.toList)) [32] := by
    rw [List.map_append, List.map_cons, List.map_cons, List.cons_append, Lib.join_cons, jt_app, Lib.join_cons, Lib.join_cons]
    unfold Lib.joinTail
    simp
  rw [h1, mkB_app, mkB_app]
  rfl
theorem J_size_le {M : Nat} : ∀ (W : List ByteArray), (∀ w ∈ W, w.size ≤ M) → (J W).size ≤ W.length * (M + 1)
  | [], _ => by rw [J_nil]; exact Nat.zero_le _
  | [a], h => by
    rw [J_one]
    have := h a (.head _)
    simp; omega
  | a :: b :: r, h => by
    have ih := J_size_le (b :: r) (fun w hw => h w (.tail _ hw))
    have ha := h a (.head _)
    rw [show a :: b :: r = [a] ++ (b :: r) from rfl, J_app (by simp) (by simp), J_one, ByteArray.size_append, ByteArray.size_append]
    have : sp.size = 1 := rfl
    rw [List.length_append, List.length_singleton, Nat.add_mul]
    omega
def pre (sep : List ByteArray) : List (List ByteArray) → List ByteArray
  | [] => []
  | W :: r => W ++ (r.map (sep ++ ·)).flatten
theorem pre_snoc {sep : List ByteArray} (Ws : List (List ByteArray)) (W : List ByteArray) : pre sep (Ws ++ [W]) = pre sep Ws ++ ((if Ws = [] then [] else sep) ++ W) := by
  cases Ws with
  | nil => simp [pre]
  | cons a r => simp [pre]
theorem pre_take {sep : List ByteArray} {Ws : List (List ByteArray)} {k : Nat} {W : List ByteArray} (h : Ws[k]? = some W) : pre sep (Ws.take (k + 1)) = pre sep (Ws.take k) ++ ((if k = 0 then [] else sep) ++ W) := by
  have hk := (List.getElem?_eq_some_iff.1 h).1
  rw [List.take_add_one, h]
  show pre sep (Ws.take k ++ [W]) = _
  rw [pre_snoc]
  congr 2
  cases k with
  | zero => simp
  | succ k =>
    have : Ws.take (k + 1) ≠ [] := fun e => by
      have := congrArg List.length e
      rw [List.length_take, Nat.min_eq_left (by omega)] at this
      simp at this
    rw [if_neg this, if_neg (by omega)]
theorem pre_len {sep : List ByteArray} {Ws : List (List ByteArray)} : ∀ k, k ≤ Ws.length → (pre sep (Ws.take k)).length ≤ (pre sep Ws).length := fun k hk => by
  cases Ws with
  | nil => simp [pre]
  | cons a r =>
    cases k with
    | zero => simp [pre]
    | succ k =>
      rw [List.take_succ_cons]
      unfold pre
      rw [List.length_append, List.length_append]
      have : ((r.take k).map (sep ++ ·)).flatten.length ≤ ((r).map (sep ++ ·)).flatten.length := by
        have e := List.take_append_drop k r
        have : ((r).map (sep ++ ·)).flatten = ((r.take k).map (sep ++ ·)).flatten ++ ((r.drop k).map (sep ++ ·)).flatten := by rw [← List.flatten_append, ← List.map_append, e]
        rw [this, List.length_append]; omega
      omega
def opB (n : Int) : ByteArray × Int :=
  if n = 1 then (⟨#[124, 124]⟩, 1) else if n = 2 then (⟨#[38, 38]⟩, 2) else if n = 3 then (⟨#[61, 61]⟩, 3) else if n = 4 then (⟨#[33, 61]⟩, 3) else if n = 5 then (⟨#[60]⟩, 3) else if n = 6 then (⟨#[60, 61]⟩, 3)
  else if n = 7 then (⟨#[62]⟩, 3) else if n = 8 then (⟨#[62, 61]⟩, 3) else if n = 9 then (⟨#[43]⟩, 4) else if n = 10 then (⟨#[45]⟩, 4) else if n = 11 then (⟨#[42]⟩, 5) else if n = 12 then (⟨#[47]⟩, 5) else (⟨#[37]⟩, 5)
def tgh (x : Lab) : Int := if x.k = 10 then (opB x.n).2 else if x.k = 11 then 6 else 7
def Opd (x : Lab) : Prop := x.k = 10 → 1 ≤ x.n ∧ x.n ≤ 13
def par (b : Int) (A : List ByteArray) (n : Int) : List ByteArray := if n ≤ b then A else [sParO] ++ A ++ [sParS]
abbrev wNum (n : Int) : ByteArray := lx.numT n
inductive WE : VT → List ByteArray → Prop
  | num (x : Lab) (h : x.k = 5) (h0 : -9223372036854775808 ≤ x.n) (h1 : x.n ≤ 9223372036854775807) : WE (.mk x []) [wNum x.n]
  | tru (x : Lab) (h : x.k = 6) (hn : x.n = 1) : WE (.mk x []) [wTrue]
  | fls (x : Lab) (h : x.k = 6) (hn : x.n = 0) : WE (.mk x []) [wFals]
  | read (x : Lab) (h : x.k = 18) : WE (.mk x []) [wRead]
  | nam (x : Lab) (h : x.k = 19) (hs : x.s.size ≤ 8192) : WE (.mk x []) [x.s]
  | bin (x a c : Lab) (al cl : List VT) (A C : List ByteArray) (h : x.k = 10) (h1 : 1 ≤ x.n) (h2 : x.n ≤ 13) (ha : WE (.mk a al) A) (hc : WE (.mk c cl) C) : WE (.mk x [.mk a al, .mk c cl]) (par (tgh a) A (if (opB x.n).2 = 3 then 4 else (opB x.n).2) ++ ([(opB x.n).1] ++ par (tgh c) C ((opB x.n).2 + 1)))
  | neg (x a : Lab) (al : List VT) (A : List ByteArray) (h : x.k = 11) (hn : x.n = 1) (ha : WE (.mk a al) A) : WE (.mk x [.mk a al]) ([sMin] ++ par (tgh a) A 6)
  | nt (x a : Lab) (al : List VT) (A : List ByteArray) (h : x.k = 11) (hn : x.n = 2) (ha : WE (.mk a al) A) : WE (.mk x [.mk a al]) ([sNot] ++ par (tgh a) A 6)
  | idx (x a c : Lab) (al cl : List VT) (A C : List ByteArray) (h : x.k = 12) (ha : WE (.mk a al) A) (hc : WE (.mk c cl) C) : WE (.mk x [.mk a al, .mk c cl]) (par (tgh a) A 7 ++ ([sOpen] ++ (C ++ [sShut])))
  | fld (x a : Lab) (al : List VT) (A : List ByteArray) (h : x.k = 13) (hs : x.s.size ≤ 8192) (ha : WE (.mk a al) A) : WE (.mk x [.mk a al]) (par (tgh a) A 7 ++ ([sDot] ++ [x.s]))
  | lst (x : Lab) (l : List VT) (Ws : List (List ByteArray)) (h : x.k = 14) (hl : l.length = Ws.length) (hw : ∀ (i : Nat) t W, l[i]? = some t → Ws[i]? = some W → WE t W) : WE (.mk x l) ([sOpen] ++ (pre [sCom] Ws ++ [sShut]))
  | mak (x : Lab) (l : List VT) (Ws : List (List ByteArray)) (h : x.k = 15) (hs : x.s.size ≤ 8192) (hl : l.length = Ws.length) (hw : ∀ (i : Nat) t W, l[i]? = some t → Ws[i]? = some W → WE t W) : WE (.mk x l) ([wNew] ++ ([x.s] ++ ([sParO] ++ (pre [sCom] Ws ++ [sParS]))))
  | cal (x : Lab) (l : List VT) (Ws : List (List ByteArray)) (h : x.k = 16) (hs : x.s.size ≤ 8192) (hl : l.length = Ws.length) (hw : ∀ (i : Nat) t W, l[i]? = some t → Ws[i]? = some W → WE t W) : WE (.mk x l) ([x.s] ++ ([sParO] ++ (pre [sCom] Ws ++ [sParS])))
  | ext (x : Lab) (l : List VT) (Ws : List (List ByteArray)) (h : x.k = 17) (hs : x.s.size ≤ 8192) (hl : l.length = Ws.length) (hw : ∀ (i : Nat) t W, l[i]? = some t → Ws[i]? = some W → WE t W) : WE (.mk x l) ([sAt] ++ ([x.s] ++ ([sParO] ++ (pre [sCom] Ws ++ [sParS]))))
inductive WT : VT → List ByteArray → Prop
  | int (x : Lab) (h : x.k = 1) : WT (.mk x []) [wInt]
  | bool (x : Lab) (h : x.k = 2) : WT (.mk x []) [wBool]
  | arr (x a : Lab) (al : List VT) (A : List ByteArray) (h : x.k = 3) (h0 : -9223372036854775808 ≤ x.n) (h1 : x.n ≤ 9223372036854775807) (ha : WT (.mk a al) A) : WT (.mk x [.mk a al]) ([sOpen] ++ ([wNum x.n] ++ ([sShut] ++ A)))
  | rec' (x : Lab) (h : x.k = 4) (hs : x.s.size ≤ 8192) : WT (.mk x []) [x.s]
end Go.Proofs.YtlkggpjdaaglmaaGreatDoor.am
end
section
namespace Go.Proofs.YtlkggpjdaaglmaaGreatDoor.am
open vt
theorem td_term : td Tryz.prog 25 = some ⟨true, 6, 72, [.lit (.int .i64 0), .lit (.int .i64 0), .lit (.string ⟨#[]⟩), .nilS, .lit (.int .i64 0), .lit (.int .i64 0)], [(0, 1, false), (1, 1, false), (2, 1, false), (3, 1, false), (4, 1, false), (5, 1, false)], .struct⟩ := Eq.trans (by kernel_rfl) (Eq.refl _)
theorem td_terms : td Tryz.prog 23 = some ⟨false, 1, 24, [.nilS], [], (.slice 25)⟩ := Eq.trans (by kernel_rfl) (Eq.refl _)
theorem td_int : td Tryz.prog 3 = some ⟨false, 1, 8, [.lit (.int .i64 0)], [], (.int .i64)⟩ := Eq.trans (by kernel_rfl) (Eq.refl _)
theorem td_int64 : td Tryz.prog 2 = some ⟨false, 1, 8, [.lit (.int .i64 0)], [], (.int .i64)⟩ := Eq.trans (by kernel_rfl) (Eq.refl _)
theorem td_bool : td Tryz.prog 4 = some ⟨false, 1, 1, [.lit (.bool false)], [], .bool⟩ := Eq.trans (by kernel_rfl) (Eq.refl _)
theorem td_string : td Tryz.prog 9 = some ⟨false, 1, 16, [.lit (.string ⟨#[]⟩)], [], .string⟩ := Eq.trans (by kernel_rfl) (Eq.refl _)
attribute [simp] td_term td_terms td_int td_int64 td_bool td_string
theorem mixd : Tryz.prog.follows .mixedOrders = true := by kernel_rfl
end Go.Proofs.YtlkggpjdaaglmaaGreatDoor.am
end
section
namespace Go.Proofs.YtlkggpjdaaglmaaGreatDoor.am
open Go.ChangeShapes Go.WideShapes Go.ChangeAt Go.RowKit
open vt
set_option linter.unusedVariables false
set_option linter.unusedSimpArgs false
theorem td_tok : td Tryz.prog 39 = some ⟨true, 5, 48, [.lit (.int .i64 0), .lit (.int .i64 0), .lit (.string ⟨#[]⟩), .lit (.int .i64 0), .lit (.int .i64 0)], [(0, 1, false), (1, 1, false), (2, 1, false), (3, 1, false), (4, 1, false)], .struct⟩ := Eq.trans (by kernel_rfl) (Eq.refl _)
theorem td_toks : td Tryz.prog 32 = some ⟨false, 1, 24, [.nilS], [], (.slice 39)⟩ := Eq.trans (by kernel_rfl) (Eq.refl _)
theorem td_errno : td Tryz.prog 26 = some ⟨false, 1, 8, [.lit (.int .i64 0)], [], (.int .i64)⟩ := Eq.trans (by kernel_rfl) (Eq.refl _)
attribute [simp] td_tok td_toks td_errno
attribute [simp] kc
theorem tyG_int {ts : List Tok} {n i : Nat} (h : isK wInt (nxt ts i) = true) : tyG ts (n + 1) i = (.mk ⟨1, 0, ⟨#[]⟩, frT ts i, toT ts i⟩ [], i + 1, 0) := by rw [tyG, if_pos h]
theorem tyG_bool {ts : List Tok} {n i : Nat} (h1 : isK wInt (nxt ts i) = false) (h : isK wBool (nxt ts i) = true) : tyG ts (n + 1) i = (.mk ⟨2, 0, ⟨#[]⟩, frT ts i, toT ts i⟩ [], i + 1, 0) := by rw [tyG, if_neg (by simp [h1]), if_pos h]
theorem tyG_arr {ts : List Tok} {n i : Nat} (h1 : isK wInt (nxt ts i) = false) (h2 : isK wBool (nxt ts i) = false) (h : isK sOpen (nxt ts i) = true) : tyG ts (n + 1) i =
      if (nxt ts (i + 1)).k = 2 then
        if isK sShut (nxt ts (i + 2)) = true then
          if (tyG ts n (i + 3)).2.2 = 0 then (.mk ⟨3, (nxt ts (i + 1)).n, ⟨#[]⟩, frT ts i, toT ts ((tyG ts n (i + 3)).2.1 - 1)⟩ [(tyG ts n (i + 3)).1], (tyG ts n (i + 3)).2.1, 0)
          else tyG ts n (i + 3)
        else (z0, i + 2, 6)
      else (z0, i + 1, 6) := by rw [tyG, if_neg (by simp [h1]), if_neg (by simp [h2]), if_pos h]
theorem tyG_rec {ts : List Tok} {n i : Nat} (h1 : isK wInt (nxt ts i) = false) (h2 : isK wBool (nxt ts i) = false) (h3 : isK sOpen (nxt ts i) = false) : tyG ts (n + 1) i = if (nxt ts i).k = 1 then (.mk ⟨4, 0, (nxt ts i).s, frT ts i, toT ts i⟩ [], i + 1, 0) else (z0, i, 6) := by rw [tyG, if_neg (by simp [h1]), if_neg (by simp [h2]), if_neg (by simp [h3])]
theorem kind_at {ts : List Tok} {i : Nat} {k : Int} (h : (nxt ts i).k = k) (hk : k ≠ 5) : ∃ x, ts[i]? = some x ∧ nxt ts i = x ∧ x.k = k := by
  unfold nxt at h ⊢
  cases hx : ts[i]? with
  | none => rw [hx] at h; exact absurd h.symm hk
  | some x => rw [hx] at h; exact ⟨x, rfl, rfl, h⟩
end Go.Proofs.YtlkggpjdaaglmaaGreatDoor.am
end
section
namespace Go.Proofs.YtlkggpjdaaglmaaGreatDoor.am
open Go.ChangeShapes Go.WideShapes Go.ChangeAt Go.RowKit
open vt
set_option linter.unusedVariables false
set_option linter.unusedSimpArgs false
theorem td_got : td Tryz.prog 36 = some ⟨true, 8, 88, [.lit (.int .i64 0), .lit (.int .i64 0), .lit (.string ⟨#[]⟩), .nilS, .lit (.int .i64 0), .lit (.int .i64 0), .lit (.int .i64 0), .lit (.int .i64 0)], [(0, 6, true), (6, 1, false), (7, 1, false)], .struct⟩ := Eq.trans (by kernel_rfl) (Eq.refl _)
attribute [simp] td_got
noncomputable abbrev vG (r : VT × Nat × Int) : AV := .v (.agg (((tc r.1) ++ [I (r.2.1 : Nat), I r.2.2]).map .pv))
theorem vG_ren (r : VT × Nat × Int) (ρ : Nat → Nat) : (vG r).ren ρ = vG r := by
  show AV.v (.agg (((tc r.1 ++ [I (r.2.1 : Nat), I r.2.2]).map AC.pv).map (AC.ren ρ))) = _
  rw [ren_pure]
set_option maxRecDepth 100000 in
set_option maxHeartbeats 4000000 in
theorem now_row (ts : List Tok) (i : Nat) : Row Tryz.prog 35 [vKs ts, vI i] [] (vK (nxt ts i)) [] := by
  by_cases h : i < ts.length
  · obtain ⟨x, hx⟩ : ∃ x, ts[i]? = some x := ⟨_, List.getElem?_eq_getElem h⟩
    have hx' := (List.getElem?_eq_some_iff.1 hx).2
    rw [nxt_some hx]
    refine row_of Tryz.func35 rfl rfl (Nat.le_of_ble_eq_true rfl) ?_
    repeat (first | refine aw_seq ?_ | refine aw_skip ?_ | refine aw_block ?_ | refine aw_exit ?_ | refine aw_cond rfl (fun _ => ?_) (fun hb => absurd hb (by decide)) | refine aw_cond rfl (fun hb => absurd hb (by decide)) (fun _ => ?_) | (refine aw_reg (fun K hK => ?_); simp -implicitDefEqProofs [h, hx, hx']; refine hK _ ?_) | (refine aw_drw mixd (fun K hK => ?_); simp -implicitDefEqProofs [h, hx, hx']; refine hK _ _ (by rfl) ?_) | fail)
    refine aw_ret (fin_ret ?_); simp -implicitDefEqProofs [FinP, resV, resT] <;> try rfl
  · rw [nxt_none (by omega)]
    refine row_of Tryz.func35 rfl rfl (Nat.le_of_ble_eq_true rfl) ?_
    repeat (first | refine aw_seq ?_ | refine aw_skip ?_ | refine aw_block ?_ | refine aw_exit ?_ | refine aw_cond rfl (fun _ => ?_) (fun hb => absurd hb (by decide)) | refine aw_cond rfl (fun hb => absurd hb (by decide)) (fun _ => ?_) | (refine aw_reg (fun K hK => ?_); simp -implicitDefEqProofs [h]; refine hK _ ?_) | (refine aw_drw mixd (fun K hK => ?_); simp -implicitDefEqProofs [h]; refine hK _ _ (by rfl) ?_) | fail)
    refine aw_ret (fin_ret ?_); simp -implicitDefEqProofs [FinP, resV, resT, endK] <;> try rfl
set_option maxRecDepth 100000 in
set_option maxHeartbeats 4000000 in
theorem word_row (ts : List Tok) (i : Nat) (s : ByteArray) : Row Tryz.prog 31 [vKs ts, vI i, vS s] [] (vB (decide ((nxt ts i).k = 3) && decide ((nxt ts i).s = s))) [] := by
  have h := now_row ts i
  obtain ⟨⟨k, n, x, f, t⟩, hx⟩ : ∃ x, nxt ts i = x := ⟨_, rfl⟩
  rw [hx] at h ⊢
  refine row_of Tryz.func31 rfl rfl (Nat.le_of_ble_eq_true rfl) ?_
  repeat' (first | refine aw_seq ?_ | refine aw_skip ?_ | refine aw_block ?_ | refine aw_exit ?_ | refine aw_cond rfl (fun _ => ?_) (fun hb => absurd hb (by decide)) | refine aw_cond rfl (fun hb => absurd hb (by decide)) (fun _ => ?_) | (refine aw_reg (fun K hK => ?_); simp -implicitDefEqProofs [*]) | (refine aw_drw mixd (fun K hK => ?_); simp -implicitDefEqProofs [*]) | refine hK _ ?_ | refine hK _ _ (by rfl) ?_ | (refine ar_call (cp h ?_); simp -implicitDefEqProofs [*]) | (refine ard_call (dp h ?_); simp -implicitDefEqProofs [*]) | (refine aw_cond rfl (fun hb => ?_) (fun hb => ?_) <;> ((try simp only [decide_eq_true_eq, decide_eq_false_iff_not, Bool.not_eq_true', Bool.not_eq_false', Bool.not_eq_eq_eq_not, Bool.not_true, Bool.not_false, beq_iff_eq, beq_true, beq_false, bne_iff_ne, ne_eq, Decidable.not_not, Bool.and_eq_true, Bool.or_eq_true, Bool.and_eq_false_iff, Bool.or_eq_false_iff] at hb) <;> repeat' (refine Or.elim hb (fun hb => ?_) (fun hb => ?_)))) | (refine gx_split (fun hb => ?_) (fun hb => ?_) <;> ((try simp only [decide_eq_true_eq, decide_eq_false_iff_not, Bool.not_eq_true', Bool.not_eq_false', Bool.not_eq_eq_eq_not, Bool.not_true, Bool.not_false, beq_iff_eq, beq_true, beq_false, bne_iff_ne, ne_eq, Decidable.not_not, Bool.and_eq_true, Bool.or_eq_true, Bool.and_eq_false_iff, Bool.or_eq_false_iff] at hb) <;> repeat' (refine Or.elim hb (fun hb => ?_) (fun hb => ?_))) <;> simp -implicitDefEqProofs [*]) | (refine gxd_split (fun hb => ?_) (fun hb => ?_) <;> ((try simp only [decide_eq_true_eq, decide_eq_false_iff_not, Bool.not_eq_true', Bool.not_eq_false', Bool.not_eq_eq_eq_not, Bool.not_true, Bool.not_false, beq_iff_eq, beq_true, beq_false, bne_iff_ne, ne_eq, Decidable.not_not, Bool.and_eq_true, Bool.or_eq_true, Bool.and_eq_false_iff, Bool.or_eq_false_iff] at hb) <;> repeat' (refine Or.elim hb (fun hb => ?_) (fun hb => ?_))) <;> simp -implicitDefEqProofs [*]) | fail)
  all_goals (refine aw_ret (fin_ret ?_); simp -implicitDefEqProofs [FinP, resV, resT, *] <;> try rfl)
set_option maxRecDepth 100000 in
set_option maxHeartbeats 4000000 in
theorem sign_row (ts : List Tok) (i : Nat) (s : ByteArray) : Row Tryz.prog 36 [vKs ts, vI i, vS s] [] (vB (decide ((nxt ts i).k = 4) && decide ((nxt ts i).s = s))) [] := by
  have h := now_row ts i
  obtain ⟨⟨k, n, x, f, t⟩, hx⟩ : ∃ x, nxt ts i = x := ⟨_, rfl⟩
  rw [hx] at h ⊢
  refine row_of Tryz.func36 rfl rfl (Nat.le_of_ble_eq_true rfl) ?_
  repeat' (first | refine aw_seq ?_ | refine aw_skip ?_ | refine aw_block ?_ | refine aw_exit ?_ | refine aw_cond rfl (fun _ => ?_) (fun hb => absurd hb (by decide)) | refine aw_cond rfl (fun hb => absurd hb (by decide)) (fun _ => ?_) | (refine aw_reg (fun K hK => ?_); simp -implicitDefEqProofs [*]) | (refine aw_drw mixd (fun K hK => ?_); simp -implicitDefEqProofs [*]) | refine hK _ ?_ | refine hK _ _ (by rfl) ?_ | (refine ar_call (cp h ?_); simp -implicitDefEqProofs [*]) | (refine ard_call (dp h ?_); simp -implicitDefEqProofs [*]) | (refine aw_cond rfl (fun hb => ?_) (fun hb => ?_) <;> ((try simp only [decide_eq_true_eq, decide_eq_false_iff_not, Bool.not_eq_true', Bool.not_eq_false', Bool.not_eq_eq_eq_not, Bool.not_true, Bool.not_false, beq_iff_eq, beq_true, beq_false, bne_iff_ne, ne_eq, Decidable.not_not, Bool.and_eq_true, Bool.or_eq_true, Bool.and_eq_false_iff, Bool.or_eq_false_iff] at hb) <;> repeat' (refine Or.elim hb (fun hb => ?_) (fun hb => ?_)))) | (refine gx_split (fun hb => ?_) (fun hb => ?_) <;> ((try simp only [decide_eq_true_eq, decide_eq_false_iff_not, Bool.not_eq_true', Bool.not_eq_false', Bool.not_eq_eq_eq_not, Bool.not_true, Bool.not_false, beq_iff_eq, beq_true, beq_false, bne_iff_ne, ne_eq, Decidable.not_not, Bool.and_eq_true, Bool.or_eq_true, Bool.and_eq_false_iff, Bool.or_eq_false_iff] at hb) <;> repeat' (refine Or.elim hb (fun hb => ?_) (fun hb => ?_))) <;> simp -implicitDefEqProofs [*]) | (refine gxd_split (fun hb => ?_) (fun hb => ?_) <;> ((try simp only [decide_eq_true_eq, decide_eq_false_iff_not, Bool.not_eq_true', Bool.not_eq_false', Bool.not_eq_eq_eq_not, Bool.not_true, Bool.not_false, beq_iff_eq, beq_true, beq_false, bne_iff_ne, ne_eq, Decidable.not_not, Bool.and_eq_true, Bool.or_eq_true, Bool.and_eq_false_iff, Bool.or_eq_false_iff] at hb) <;> repeat' (refine Or.elim hb (fun hb => ?_) (fun hb => ?_))) <;> simp -implicitDefEqProofs [*]) | fail)
  all_goals (refine aw_ret (fin_ret ?_); simp -implicitDefEqProofs [FinP, resV, resT, *] <;> try rfl)
set_option maxRecDepth 100000 in
set_option maxHeartbeats 4000000 in
theorem bad_row (i : Nat) : Row Tryz.prog 34 [vI i] [] (vG (z0, i, 6)) [] := by
  refine row_of Tryz.func34 rfl rfl (Nat.le_of_ble_eq_true rfl) ?_
  repeat (first | refine aw_seq ?_ | refine aw_skip ?_ | refine aw_block ?_ | refine aw_exit ?_ | refine aw_cond rfl (fun _ => ?_) (fun hb => absurd hb (by decide)) | refine aw_cond rfl (fun hb => absurd hb (by decide)) (fun _ => ?_) | (refine aw_reg (fun K hK => ?_); simp -implicitDefEqProofs; refine hK _ ?_) | (refine aw_drw mixd (fun K hK => ?_); simp -implicitDefEqProofs; refine hK _ _ (by rfl) ?_) | fail)
  refine aw_ret (fin_ret ?_); simp -implicitDefEqProofs [FinP, resV, resT, z0] <;> try rfl
set_option maxRecDepth 100000 in
set_option maxHeartbeats 4000000 in
theorem make7_row (ts : List Tok) (a b : Nat) (k n : Int) (s : ByteArray) (l : List VT) (ha : a < ts.length) (hb : 0 < b) (hbl : b ≤ ts.length) (hl : ts.length ≤ 9223372036854775807) : Row Tryz.prog 38 [vKs ts, vI a, vI b, vI k, vI n, vS s, vLs l] [] (vG (.mk ⟨k, n, s, frT ts a, toT ts (b - 1)⟩ l, b, 0)) [] := by
  obtain ⟨y, hy⟩ : ∃ y, ts[a]? = some y := ⟨_, List.getElem?_eq_getElem ha⟩
  have hy' := (List.getElem?_eq_some_iff.1 hy).2
  obtain ⟨j, rfl⟩ : ∃ j, b = j + 1 := ⟨b - 1, by omega⟩
  have hi1 : j < ts.length := by omega
  obtain ⟨z, hz⟩ : ∃ z, ts[j]? = some z := ⟨_, List.getElem?_eq_getElem hi1⟩
  have hz' := (List.getElem?_eq_some_iff.1 hz).2
  rw [show frT ts a = y.f by unfold frT; rw [nxt_some hy], show toT ts (j + 1 - 1) = z.t by unfold toT; rw [Nat.add_sub_cancel, nxt_some hz]]
  have wj : IntKind.i64.wrap ((j : Nat) : Int) = (j : Nat) := i64i _ (by omega) (by omega)
  refine row_of Tryz.func38 rfl rfl (Nat.le_of_ble_eq_true rfl) ?_
  repeat (first | refine aw_seq ?_ | refine aw_skip ?_ | refine aw_block ?_ | refine aw_exit ?_ | refine aw_cond rfl (fun _ => ?_) (fun hb => absurd hb (by decide)) | refine aw_cond rfl (fun hb => absurd hb (by decide)) (fun _ => ?_) | (refine aw_reg (fun K hK => ?_); simp -implicitDefEqProofs [ha, hy, hy', hz, hz', hi1, wj]; refine hK _ ?_) | (refine aw_drw mixd (fun K hK => ?_); simp -implicitDefEqProofs [ha, hy, hy', hz, hz', hi1, wj]; refine hK _ _ (by rfl) ?_) | fail)
  refine aw_ret (fin_ret ?_); simp -implicitDefEqProofs [FinP, resV, resT] <;> try rfl
theorem word_is {s : ByteArray} (h : quo s = 3) (x : Tok) : (decide (x.k = 3) && decide (x.s = s)) = isK s x := by unfold isK; rw [h]
theorem sign_is {s : ByteArray} (h : quo s = 4) (x : Tok) : (decide (x.k = 4) && decide (x.s = s)) = isK s x := by unfold isK; rw [h]
set_option maxRecDepth 100000 in
set_option maxHeartbeats 4000000 in
theorem rtype_row (ts : List Tok) (hl : ts.length ≤ 9223372036854775000) : ∀ n i, ts.length - i < n → i ≤ ts.length → Row Tryz.prog 72 [vKs ts, vI i] [] (vG (tyG ts n i)) [] := by
  intro n
  induction n with
  | zero => intro i h; omega
  | succ n ih =>
  intro i hn hi
  have q1 := word_row ts i wInt
  rw [word_is (by decide)] at q1
  have q2 := word_row ts i wBool
  rw [word_is (by decide)] at q2
  have q3 := sign_row ts i sOpen
  rw [sign_is (by decide)] at q3
  have o := now_row ts i
  have w1 : IntKind.i64.wrap ((i : Nat) + 1 : Int) = (i : Nat) + 1 := i64i _ (by omega) (by omega)
  have w2 : IntKind.i64.wrap ((i : Nat) + 2 : Int) = (i : Nat) + 2 := i64i _ (by omega) (by omega)
  have w3 : IntKind.i64.wrap ((i : Nat) + 3 : Int) = (i : Nat) + 3 := i64i _ (by omega) (by omega)
  by_cases h1 : isK wInt (nxt ts i) = true
  · rw [tyG_int h1]
    rw [h1] at q1
    obtain ⟨x, hx, _⟩ := isK_at h1
    have hil := (List.getElem?_eq_some_iff.1 hx).1
    have m := make7_row ts i (i + 1) 1 0 ⟨#[]⟩ [] hil (by omega) (by omega) (by omega)
    rw [Nat.add_sub_cancel] at m
    refine row_of Tryz.func72 rfl rfl (Nat.le_of_ble_eq_true rfl) ?_
    repeat' (first | refine aw_seq ?_ | refine aw_skip ?_ | refine aw_block ?_ | refine aw_exit ?_ | refine aw_cond rfl (fun _ => ?_) (fun hb => absurd hb (by decide)) | refine aw_cond rfl (fun hb => absurd hb (by decide)) (fun _ => ?_) | (refine aw_reg (fun K hK => ?_); simp -implicitDefEqProofs [w1]) | (refine aw_drw mixd (fun K hK => ?_); simp -implicitDefEqProofs [w1]) | refine hK _ ?_ | refine hK _ _ (by rfl) ?_ | (refine ar_call (cp q1 ?_); simp -implicitDefEqProofs [w1]) | (refine ard_call (dp q1 ?_); simp -implicitDefEqProofs [w1]) | (refine ar_call (cp m ?_); simp -implicitDefEqProofs [w1]) | (refine ard_call (dp m ?_); simp -implicitDefEqProofs [w1]) | fail)
    refine aw_ret (fin_ret ?_); simp -implicitDefEqProofs [FinP, resV, resT] <;> try rfl
  have h1 : isK wInt (nxt ts i) = false := by simpa using h1
  rw [h1] at q1
  by_cases h2 : isK wBool (nxt ts i) = true
  · rw [tyG_bool h1 h2]
    rw [h2] at q2
    obtain ⟨x, hx, _⟩ := isK_at h2
    have hil := (List.getElem?_eq_some_iff.1 hx).1
    have m := make7_row ts i (i + 1) 2 0 ⟨#[]⟩ [] hil (by omega) (by omega) (by omega)
    rw [Nat.add_sub_cancel] at m
    refine row_of Tryz.func72 rfl rfl (Nat.le_of_ble_eq_true rfl) ?_
    repeat' (first | refine aw_seq ?_ | refine aw_skip ?_ | refine aw_block ?_ | refine aw_exit ?_ | refine aw_cond rfl (fun _ => ?_) (fun hb => absurd hb (by decide)) | refine aw_cond rfl (fun hb => absurd hb (by decide)) (fun _ => ?_) | (refine aw_reg (fun K hK => ?_); simp -implicitDefEqProofs [w1]) | (refine aw_drw mixd (fun K hK => ?_); simp -implicitDefEqProofs [w1]) | refine hK _ ?_ | refine hK _ _ (by rfl) ?_ | (refine ar_call (cp q1 ?_); simp -implicitDefEqProofs [w1]) | (refine ard_call (dp q1 ?_); simp -implicitDefEqProofs [w1]) | (refine ar_call (cp q2 ?_); simp -implicitDefEqProofs [w1]) | (refine ard_call (dp q2 ?_); simp -implicitDefEqProofs [w1]) | (refine ar_call (cp m ?_); simp -implicitDefEqProofs [w1]) | (refine ard_call (dp m ?_); simp -implicitDefEqProofs [w1]) | fail)
    refine aw_ret (fin_ret ?_); simp -implicitDefEqProofs [FinP, resV, resT] <;> try rfl
  have h2 : isK wBool (nxt ts i) = false := by simpa using h2
  rw [h2] at q2
  by_cases h4 : (nxt ts i).k = 1
  · have h3 : isK sOpen (nxt ts i) = false := by unfold isK; rw [h4]; rfl
    rw [tyG_rec h1 h2 h3, if_pos h4]
    obtain ⟨x, hx, hxn, hxk⟩ := kind_at h4 (by omega)
    have hil := (List.getElem?_eq_some_iff.1 hx).1
    rw [hxn] at o ⊢
    obtain ⟨xk, xn, xs, xf, xt⟩ := x
    dsimp only at hxk
    subst hxk
    have m := make7_row ts i (i + 1) 4 0 xs [] hil (by omega) (by omega) (by omega)
    rw [Nat.add_sub_cancel] at m
    clear h1 h2 h3 h4 hx hxn
    refine row_of Tryz.func72 rfl rfl (Nat.le_of_ble_eq_true rfl) ?_
    repeat' (first | refine aw_seq ?_ | refine aw_skip ?_ | refine aw_block ?_ | refine aw_exit ?_ | refine aw_cond rfl (fun _ => ?_) (fun hb => absurd hb (by decide)) | refine aw_cond rfl (fun hb => absurd hb (by decide)) (fun _ => ?_) | (refine aw_reg (fun K hK => ?_); simp -implicitDefEqProofs [w1]) | (refine aw_drw mixd (fun K hK => ?_); simp -implicitDefEqProofs [w1]) | refine hK _ ?_ | refine hK _ _ (by rfl) ?_ | (refine ar_call (cp q1 ?_); simp -implicitDefEqProofs [w1]) | (refine ard_call (dp q1 ?_); simp -implicitDefEqProofs [w1]) | (refine ar_call (cp q2 ?_); simp -implicitDefEqProofs [w1]) | (refine ard_call (dp q2 ?_); simp -implicitDefEqProofs [w1]) | (refine ar_call (cp o ?_); simp -implicitDefEqProofs [w1]) | (refine ard_call (dp o ?_); simp -implicitDefEqProofs [w1]) | (refine ar_call (cp m ?_); simp -implicitDefEqProofs [w1]) | (refine ard_call (dp m ?_); simp -implicitDefEqProofs [w1]) | fail)
    refine aw_ret (fin_ret ?_); simp -implicitDefEqProofs [FinP, resV, resT] <;> try rfl
  obtain ⟨⟨ok, on, os, of', ot⟩, hon⟩ : ∃ x, nxt ts i = x := ⟨_, rfl⟩
  have h4' : ¬ ok = 1 := by rw [hon] at h4; exact h4
  by_cases h3 : isK sOpen (nxt ts i) = true; rotate_left
  · have h3 : isK sOpen (nxt ts i) = false := by simpa using h3
    rw [tyG_rec h1 h2 h3, if_neg h4]
    rw [h3] at q3
    rw [hon] at o
    have b := bad_row i
    clear h1 h2 h3 h4 hon
    refine row_of Tryz.func72 rfl rfl (Nat.le_of_ble_eq_true rfl) ?_
    repeat' (first | refine aw_seq ?_ | refine aw_skip ?_ | refine aw_block ?_ | refine aw_exit ?_ | refine aw_cond rfl (fun _ => ?_) (fun hb => absurd hb (by decide)) | refine aw_cond rfl (fun hb => absurd hb (by decide)) (fun _ => ?_) | (refine aw_reg (fun K hK => ?_); simp -implicitDefEqProofs [h4']) | (refine aw_drw mixd (fun K hK => ?_); simp -implicitDefEqProofs [h4']) | refine hK _ ?_ | refine hK _ _ (by rfl) ?_ | (refine ar_call (cp q1 ?_); simp -implicitDefEqProofs [h4']) | (refine ard_call (dp q1 ?_); simp -implicitDefEqProofs [h4']) | (refine ar_call (cp q2 ?_); simp -implicitDefEqProofs [h4']) | (refine ard_call (dp q2 ?_); simp -implicitDefEqProofs [h4']) | (refine ar_call (cp o ?_); simp -implicitDefEqProofs [h4']) | (refine ard_call (dp o ?_); simp -implicitDefEqProofs [h4']) | (refine ar_call (cp q3 ?_); simp -implicitDefEqProofs [h4']) | (refine ard_call (dp q3 ?_); simp -implicitDefEqProofs [h4']) | (refine ar_call (cp b ?_); simp -implicitDefEqProofs [h4']) | (refine ard_call (dp b ?_); simp -implicitDefEqProofs [h4']) | fail)
    refine aw_ret (fin_ret ?_); simp -implicitDefEqProofs [FinP, resV, resT, z0] <;> try rfl
  rw [tyG_arr h1 h2 h3]
  rw [h3] at q3
  rw [hon] at o
  obtain ⟨x, hx, _⟩ := isK_at h3
  have hil := (List.getElem?_eq_some_iff.1 hx).1
  have o1 := now_row ts (i + 1)
  clear h1 h2 h3 h4 hon hx
  by_cases h5 : (nxt ts (i + 1)).k = 2; rotate_left
  · rw [if_neg h5]
    obtain ⟨⟨pk, pn, ps, pf, pt⟩, hp⟩ : ∃ x, nxt ts (i + 1) = x := ⟨_, rfl⟩
    rw [hp] at o1 h5
    dsimp only at h5
    have b := bad_row (i + 1)
    refine row_of Tryz.func72 rfl rfl (Nat.le_of_ble_eq_true rfl) ?_
    repeat' (first | refine aw_seq ?_ | refine aw_skip ?_ | refine aw_block ?_ | refine aw_exit ?_ | refine aw_cond rfl (fun _ => ?_) (fun hb => absurd hb (by decide)) | refine aw_cond rfl (fun hb => absurd hb (by decide)) (fun _ => ?_) | (refine aw_reg (fun K hK => ?_); simp -implicitDefEqProofs [h4', h5, w1]) | (refine aw_drw mixd (fun K hK => ?_); simp -implicitDefEqProofs [h4', h5, w1]) | refine hK _ ?_ | refine hK _ _ (by rfl) ?_ | (refine ar_call (cp q1 ?_); simp -implicitDefEqProofs [h4', h5, w1]) | (refine ard_call (dp q1 ?_); simp -implicitDefEqProofs [h4', h5, w1]) | (refine ar_call (cp q2 ?_); simp -implicitDefEqProofs [h4', h5, w1]) | (refine ard_call (dp q2 ?_); simp -implicitDefEqProofs [h4', h5, w1]) | (refine ar_call (cp o ?_); simp -implicitDefEqProofs [h4', h5, w1]) | (refine ard_call (dp o ?_); simp -implicitDefEqProofs [h4', h5, w1]) | (refine ar_call (cp q3 ?_); simp -implicitDefEqProofs [h4', h5, w1]) | (refine ard_call (dp q3 ?_); simp -implicitDefEqProofs [h4', h5, w1]) | (refine ar_call (cp o1 ?_); simp -implicitDefEqProofs [h4', h5, w1]) | (refine ard_call (dp o1 ?_); simp -implicitDefEqProofs [h4', h5, w1]) | (refine ar_call (cp b ?_); simp -implicitDefEqProofs [h4', h5, w1]) | (refine ard_call (dp b ?_); simp -implicitDefEqProofs [h4', h5, w1]) | fail)
    refine aw_ret (fin_ret ?_); simp -implicitDefEqProofs [FinP, resV, resT, z0] <;> try rfl
  rw [if_pos h5]
  obtain ⟨⟨pk, pn, ps, pf, pt⟩, hp⟩ : ∃ x, nxt ts (i + 1) = x := ⟨_, rfl⟩
  rw [hp] at o1 h5 ⊢
  dsimp only at h5 ⊢
  subst h5
  have q4 := sign_row ts (i + 2) sShut
  rw [sign_is (by decide)] at q4
  by_cases h6 : isK sShut (nxt ts (i + 2)) = true; rotate_left
  · rw [if_neg h6]
    rw [show isK sShut (nxt ts (i + 2)) = false by simpa using h6] at q4
    have b := bad_row (i + 2)
    clear h6 hp
    refine row_of Tryz.func72 rfl rfl (Nat.le_of_ble_eq_true rfl) ?_
    repeat' (first | refine aw_seq ?_ | refine aw_skip ?_ | refine aw_block ?_ | refine aw_exit ?_ | refine aw_cond rfl (fun _ => ?_) (fun hb => absurd hb (by decide)) | refine aw_cond rfl (fun hb => absurd hb (by decide)) (fun _ => ?_) | (refine aw_reg (fun K hK => ?_); simp -implicitDefEqProofs [h4', w1, w2]) | (refine aw_drw mixd (fun K hK => ?_); simp -implicitDefEqProofs [h4', w1, w2]) | refine hK _ ?_ | refine hK _ _ (by rfl) ?_ | (refine ar_call (cp q1 ?_); simp -implicitDefEqProofs [h4', w1, w2]) | (refine ard_call (dp q1 ?_); simp -implicitDefEqProofs [h4', w1, w2]) | (refine ar_call (cp q2 ?_); simp -implicitDefEqProofs [h4', w1, w2]) | (refine ard_call (dp q2 ?_); simp -implicitDefEqProofs [h4', w1, w2]) | (refine ar_call (cp o ?_); simp -implicitDefEqProofs [h4', w1, w2]) | (refine ard_call (dp o ?_); simp -implicitDefEqProofs [h4', w1, w2]) | (refine ar_call (cp q3 ?_); simp -implicitDefEqProofs [h4', w1, w2]) | (refine ard_call (dp q3 ?_); simp -implicitDefEqProofs [h4', w1, w2]) | (refine ar_call (cp o1 ?_); simp -implicitDefEqProofs [h4', w1, w2]) | (refine ard_call (dp o1 ?_); simp -implicitDefEqProofs [h4', w1, w2]) | (refine ar_call (cp q4 ?_); simp -implicitDefEqProofs [h4', w1, w2]) | (refine ard_call (dp q4 ?_); simp -implicitDefEqProofs [h4', w1, w2]) | (refine ar_call (cp b ?_); simp -implicitDefEqProofs [h4', w1, w2]) | (refine ard_call (dp b ?_); simp -implicitDefEqProofs [h4', w1, w2]) | fail)
    refine aw_ret (fin_ret ?_); simp -implicitDefEqProofs [FinP, resV, resT, z0] <;> try rfl
  rw [if_pos h6]
  rw [h6] at q4
  obtain ⟨z, hz, _⟩ := isK_at h6
  have hil2 := (List.getElem?_eq_some_iff.1 hz).1
  have y1 := ih (i + 3) (by omega) (by omega)
  obtain ⟨g1, g2, g3, _⟩ := tyG_ok ts n (i + 3)
  obtain ⟨⟨⟨px, pl⟩, j, e⟩, hr⟩ : ∃ r, tyG ts n (i + 3) = r := ⟨_, rfl⟩
  rw [hr] at y1 g1 g2 g3 ⊢
  dsimp only at g1 g2 g3 ⊢
  clear hr ih hz h6 hp
  by_cases he : e = 0
  · subst he
    rw [if_pos rfl]
    obtain ⟨g4, g5⟩ := g1 rfl
    have m := make7_row ts i j 3 pn ⟨#[]⟩ [.mk px pl] hil (by omega) g5 (by omega)
    refine row_of Tryz.func72 rfl rfl (Nat.le_of_ble_eq_true rfl) ?_
    repeat' (first | refine aw_seq ?_ | refine aw_skip ?_ | refine aw_block ?_ | refine aw_exit ?_ | refine aw_cond rfl (fun _ => ?_) (fun hb => absurd hb (by decide)) | refine aw_cond rfl (fun hb => absurd hb (by decide)) (fun _ => ?_) | (refine aw_reg (fun K hK => ?_); simp -implicitDefEqProofs [h4', w1, w2, w3]) | (refine aw_drw mixd (fun K hK => ?_); simp -implicitDefEqProofs [h4', w1, w2, w3]) | refine hK _ ?_ | refine hK _ _ (by rfl) ?_ | (refine ar_call (cp q1 ?_); simp -implicitDefEqProofs [h4', w1, w2, w3]) | (refine ard_call (dp q1 ?_); simp -implicitDefEqProofs [h4', w1, w2, w3]) | (refine ar_call (cp q2 ?_); simp -implicitDefEqProofs [h4', w1, w2, w3]) | (refine ard_call (dp q2 ?_); simp -implicitDefEqProofs [h4', w1, w2, w3]) | (refine ar_call (cp o ?_); simp -implicitDefEqProofs [h4', w1, w2, w3]) | (refine ard_call (dp o ?_); simp -implicitDefEqProofs [h4', w1, w2, w3]) | (refine ar_call (cp q3 ?_); simp -implicitDefEqProofs [h4', w1, w2, w3]) | (refine ard_call (dp q3 ?_); simp -implicitDefEqProofs [h4', w1, w2, w3]) | (refine ar_call (cp o1 ?_); simp -implicitDefEqProofs [h4', w1, w2, w3]) | (refine ard_call (dp o1 ?_); simp -implicitDefEqProofs [h4', w1, w2, w3]) | (refine ar_call (cp q4 ?_); simp -implicitDefEqProofs [h4', w1, w2, w3]) | (refine ard_call (dp q4 ?_); simp -implicitDefEqProofs [h4', w1, w2, w3]) | (refine ar_call (cp y1 ?_); simp -implicitDefEqProofs [h4', w1, w2, w3]) | (refine ard_call (dp y1 ?_); simp -implicitDefEqProofs [h4', w1, w2, w3]) | (refine ar_call (cp m ?_); simp -implicitDefEqProofs [h4', w1, w2, w3]) | (refine ard_call (dp m ?_); simp -implicitDefEqProofs [h4', w1, w2, w3]) | fail)
    refine aw_ret (fin_ret ?_); simp -implicitDefEqProofs [FinP, resV, resT] <;> try rfl
  · rw [if_neg he]
    clear g1 g2 g3
    refine row_of Tryz.func72 rfl rfl (Nat.le_of_ble_eq_true rfl) ?_
    repeat' (first | refine aw_seq ?_ | refine aw_skip ?_ | refine aw_block ?_ | refine aw_exit ?_ | refine aw_cond rfl (fun _ => ?_) (fun hb => absurd hb (by decide)) | refine aw_cond rfl (fun hb => absurd hb (by decide)) (fun _ => ?_) | (refine aw_reg (fun K hK => ?_); simp -implicitDefEqProofs [h4', w1, w2, w3, he]) | (refine aw_drw mixd (fun K hK => ?_); simp -implicitDefEqProofs [h4', w1, w2, w3, he]) | refine hK _ ?_ | refine hK _ _ (by rfl) ?_ | (refine ar_call (cp q1 ?_); simp -implicitDefEqProofs [h4', w1, w2, w3, he]) | (refine ard_call (dp q1 ?_); simp -implicitDefEqProofs [h4', w1, w2, w3, he]) | (refine ar_call (cp q2 ?_); simp -implicitDefEqProofs [h4', w1, w2, w3, he]) | (refine ard_call (dp q2 ?_); simp -implicitDefEqProofs [h4', w1, w2, w3, he]) | (refine ar_call (cp o ?_); simp -implicitDefEqProofs [h4', w1, w2, w3, he]) | (refine ard_call (dp o ?_); simp -implicitDefEqProofs [h4', w1, w2, w3, he]) | (refine ar_call (cp q3 ?_); simp -implicitDefEqProofs [h4', w1, w2, w3, he]) | (refine ard_call (dp q3 ?_); simp -implicitDefEqProofs [h4', w1, w2, w3, he]) | (refine ar_call (cp o1 ?_); simp -implicitDefEqProofs [h4', w1, w2, w3, he]) | (refine ard_call (dp o1 ?_); simp -implicitDefEqProofs [h4', w1, w2, w3, he]) | (refine ar_call (cp q4 ?_); simp -implicitDefEqProofs [h4', w1, w2, w3, he]) | (refine ard_call (dp q4 ?_); simp -implicitDefEqProofs [h4', w1, w2, w3, he]) | (refine ar_call (cp y1 ?_); simp -implicitDefEqProofs [h4', w1, w2, w3, he]) | (refine ard_call (dp y1 ?_); simp -implicitDefEqProofs [h4', w1, w2, w3, he]) | fail)
    refine aw_ret (fin_ret ?_); simp -implicitDefEqProofs [FinP, resV, resT] <;> try rfl
end Go.Proofs.YtlkggpjdaaglmaaGreatDoor.am
end
section
namespace Go.Proofs.YtlkggpjdaaglmaaGreatDoor.am
open Go.ChangeShapes Go.WideShapes Go.ChangeAt Go.RowKit
open vt
set_option linter.unusedVariables false
set_option linter.unusedSimpArgs false
theorem td_strs : td Tryz.prog 75 = some ⟨false, 1, 24, [.nilS], [], (.slice 9)⟩ := Eq.trans (by kernel_rfl) (Eq.refl _)
theorem td_intv : td Tryz.prog 122 = some ⟨false, 1, 24, [.nilS], [], (.slice 2)⟩ := Eq.trans (by kernel_rfl) (Eq.refl _)
attribute [simp] td_strs td_intv
abbrev Sg := ByteArray × Int
def opsL : Nat → List Sg
  | 1 => [(⟨#[124, 124]⟩, 1)]
  | 2 => [(⟨#[38, 38]⟩, 2)]
  | 3 => [(⟨#[61, 61]⟩, 3), (⟨#[33, 61]⟩, 4), (⟨#[60]⟩, 5), (⟨#[60, 61]⟩, 6), (⟨#[62]⟩, 7), (⟨#[62, 61]⟩, 8)]
  | 4 => [(⟨#[43]⟩, 9), (⟨#[45]⟩, 10)]
  | _ => [(⟨#[42]⟩, 11), (⟨#[47]⟩, 12), (⟨#[37]⟩, 13)]
def pS (x : Sg) : List PV := [Sx x.1]
def pI (x : Sg) : List PV := [I x.2]
abbrev vSI (l : List Sg) : AV := .tup [.c (.pv (.sl 1 (l.map pS))), .c (.pv (.sl 1 (l.map pI)))]
attribute [simp] pS pI
def fnd (x : Tok) : List Sg → Int
  | [] => 0
  | y :: l => if x.k = 4 ∧ x.s = y.1 then y.2 else fnd x l
theorem fnd_op (x : Tok) (l : Nat) (h1 : 1 ≤ l) (h5 : l ≤ 5) : fnd x (opsL l) = if (opK x).2 = l then (opK x).1 else 0 := by
  have hl : l = 1 ∨ l = 2 ∨ l = 3 ∨ l = 4 ∨ l = 5 := by omega
  unfold opK
  by_cases hk : x.k = 4; rotate_left
  · rcases hl with rfl | rfl | rfl | rfl | rfl <;> simp [opsL, fnd, hk]
  obtain ⟨k, n, s, f, t⟩ := x
  dsimp only at hk
  subst hk
  rw [if_pos rfl]
  dsimp only
  by_cases e0 : s = (⟨#[124, 124]⟩ : ByteArray)
  · subst e0; rcases hl with rfl | rfl | rfl | rfl | rfl <;> rfl
  by_cases e1 : s = (⟨#[38, 38]⟩ : ByteArray)
  · subst e1; rcases hl with rfl | rfl | rfl | rfl | rfl <;> rfl
  by_cases e2 : s = (⟨#[61, 61]⟩ : ByteArray)
  · subst e2; rcases hl with rfl | rfl | rfl | rfl | rfl <;> rfl
  by_cases e3 : s = (⟨#[33, 61]⟩ : ByteArray)
  · subst e3; rcases hl with rfl | rfl | rfl | rfl | rfl <;> rfl
  by_cases e4 : s = (⟨#[60]⟩ : ByteArray)
  · subst e4; rcases hl with rfl | rfl | rfl | rfl | rfl <;> rfl
  by_cases e5 : s = (⟨#[60, 61]⟩ : ByteArray)
  · subst e5; rcases hl with rfl | rfl | rfl | rfl | rfl <;> rfl
  by_cases e6 : s = (⟨#[62]⟩ : ByteArray)
  · subst e6; rcases hl with rfl | rfl | rfl | rfl | rfl <;> rfl
  by_cases e7 : s = (⟨#[62, 61]⟩ : ByteArray)
  · subst e7; rcases hl with rfl | rfl | rfl | rfl | rfl <;> rfl
  by_cases e8 : s = (⟨#[43]⟩ : ByteArray)
  · subst e8; rcases hl with rfl | rfl | rfl | rfl | rfl <;> rfl
  by_cases e9 : s = (⟨#[45]⟩ : ByteArray)
  · subst e9; rcases hl with rfl | rfl | rfl | rfl | rfl <;> rfl
  by_cases e10 : s = (⟨#[42]⟩ : ByteArray)
  · subst e10; rcases hl with rfl | rfl | rfl | rfl | rfl <;> rfl
  by_cases e11 : s = (⟨#[47]⟩ : ByteArray)
  · subst e11; rcases hl with rfl | rfl | rfl | rfl | rfl <;> rfl
  by_cases e12 : s = (⟨#[37]⟩ : ByteArray)
  · subst e12; rcases hl with rfl | rfl | rfl | rfl | rfl <;> rfl
  rcases hl with rfl | rfl | rfl | rfl | rfl <;> simp [opsL, fnd, opS, e0, e1, e2, e3, e4, e5, e6, e7, e8, e9, e10, e11, e12]
theorem opK_pos (x : Tok) (l : Nat) (h5 : l ≤ 5) (h : (opK x).2 = l) : (opK x).1 ≠ 0 := by
  unfold opK at h ⊢
  by_cases hk : x.k = 4; rotate_left
  · rw [if_neg hk] at h; dsimp only at h; omega
  rw [if_pos hk] at h ⊢
  obtain ⟨k, n, s, f, t⟩ := x
  dsimp only at h ⊢
  clear hk
  by_cases e0 : s = (⟨#[124, 124]⟩ : ByteArray)
  · subst e0; exact fun hh => absurd (show (1 : Int) = 0 from hh) (by decide)
  by_cases e1 : s = (⟨#[38, 38]⟩ : ByteArray)
  · subst e1; exact fun hh => absurd (show (2 : Int) = 0 from hh) (by decide)
  by_cases e2 : s = (⟨#[61, 61]⟩ : ByteArray)
  · subst e2; exact fun hh => absurd (show (3 : Int) = 0 from hh) (by decide)
  by_cases e3 : s = (⟨#[33, 61]⟩ : ByteArray)
  · subst e3; exact fun hh => absurd (show (4 : Int) = 0 from hh) (by decide)
  by_cases e4 : s = (⟨#[60]⟩ : ByteArray)
  · subst e4; exact fun hh => absurd (show (5 : Int) = 0 from hh) (by decide)
  by_cases e5 : s = (⟨#[60, 61]⟩ : ByteArray)
  · subst e5; exact fun hh => absurd (show (6 : Int) = 0 from hh) (by decide)
  by_cases e6 : s = (⟨#[62]⟩ : ByteArray)
  · subst e6; exact fun hh => absurd (show (7 : Int) = 0 from hh) (by decide)
  by_cases e7 : s = (⟨#[62, 61]⟩ : ByteArray)
  · subst e7; exact fun hh => absurd (show (8 : Int) = 0 from hh) (by decide)
  by_cases e8 : s = (⟨#[43]⟩ : ByteArray)
  · subst e8; exact fun hh => absurd (show (9 : Int) = 0 from hh) (by decide)
  by_cases e9 : s = (⟨#[45]⟩ : ByteArray)
  · subst e9; exact fun hh => absurd (show (10 : Int) = 0 from hh) (by decide)
  by_cases e10 : s = (⟨#[42]⟩ : ByteArray)
  · subst e10; exact fun hh => absurd (show (11 : Int) = 0 from hh) (by decide)
  by_cases e11 : s = (⟨#[47]⟩ : ByteArray)
  · subst e11; exact fun hh => absurd (show (12 : Int) = 0 from hh) (by decide)
  by_cases e12 : s = (⟨#[37]⟩ : ByteArray)
  · subst e12; exact fun hh => absurd (show (13 : Int) = 0 from hh) (by decide)
  simp [opS, e0, e1, e2, e3, e4, e5, e6, e7, e8, e9, e10, e11, e12] at h
  omega
set_option maxRecDepth 100000 in
set_option maxHeartbeats 4000000 in
theorem ops_row (l : Nat) (h1 : 1 ≤ l) (h5 : l ≤ 5) : Row Tryz.prog 121 [vI (l : Nat)] [] (vSI (opsL l)) [] := by
  have hl : l = 1 ∨ l = 2 ∨ l = 3 ∨ l = 4 ∨ l = 5 := by omega
  rcases hl with rfl | rfl | rfl | rfl | rfl
  all_goals (
    refine row_of Tryz.func121 rfl rfl (Nat.le_of_ble_eq_true rfl) ?_
    repeat (first | refine aw_seq ?_ | refine aw_skip ?_ | refine aw_block ?_ | refine aw_exit ?_ | refine aw_cond rfl (fun _ => ?_) (fun hb => absurd hb (by decide)) | refine aw_cond rfl (fun hb => absurd hb (by decide)) (fun _ => ?_) | (refine aw_reg (fun K hK => ?_); simp -implicitDefEqProofs; refine hK _ ?_) | (refine aw_drw mixd (fun K hK => ?_); simp -implicitDefEqProofs; refine hK _ _ (by rfl) ?_) | fail)
    refine aw_ret (fin_ret ?_); simp -implicitDefEqProofs [FinP, resV, resT, opsL] <;> try rfl)
set_option maxRecDepth 100000 in
set_option maxHeartbeats 4000000 in
theorem op_row (ts : List Tok) (i l : Nat) (h1 : 1 ≤ l) (h5 : l ≤ 5) : Row Tryz.prog 143 [vKs ts, vI i, vI (l : Nat)] [] (vI (if (opK (nxt ts i)).2 = l then (opK (nxt ts i)).1 else 0)) [] := by
  rw [← fnd_op _ l h1 h5]
  have o := ops_row l h1 h5
  obtain ⟨L, hL⟩ : ∃ L, opsL l = L := ⟨_, rfl⟩
  have hLl : L.length ≤ 6 := by rw [← hL]; unfold opsL; split <;> simp
  rw [hL] at o ⊢
  refine row_of Tryz.func143 rfl rfl (Nat.le_of_ble_eq_true rfl) ?_
  repeat' (first | refine aw_seq ?_ | refine aw_skip ?_ | refine aw_block ?_ | refine aw_exit ?_ | refine aw_cond rfl (fun _ => ?_) (fun hb => absurd hb (by decide)) | refine aw_cond rfl (fun hb => absurd hb (by decide)) (fun _ => ?_) | (refine aw_reg (fun K hK => ?_); simp -implicitDefEqProofs) | (refine aw_drw mixd (fun K hK => ?_); simp -implicitDefEqProofs) | refine hK _ ?_ | refine hK _ _ (by rfl) ?_ | (refine ar_call (cp o ?_); simp -implicitDefEqProofs) | (refine ard_call (dp o ?_); simp -implicitDefEqProofs) | fail)
  refine aw_lp (ι := Nat) (fun k => mkSt [(0, vKs ts), (1, vI i), (7, .v (.c (.pv (.sl 1 (L.map pS))))), (8, .v (.c (.pv (.sl 1 (L.map pI))))), (9, vI (k : Nat))] []) (fun k => k ≤ L.length ∧ fnd (nxt ts i) (L.drop k) = fnd (nxt ts i) L) (fun k => L.length - k) 0 ⟨Nat.zero_le _, rfl⟩ (cov_intro [] (by simp -implicitDefEqProofs [hL]) (by simp -implicitDefEqProofs [hL]) (by decide) rfl (by simp)) (fun Z hI k hk => ?_)
  obtain ⟨hk, hf⟩ := hk
  by_cases hkl : k < L.length; rotate_left
  · have : k = L.length := by omega
    subst this
    rw [List.drop_length] at hf
    rw [← hf]
    repeat (first | refine aw_seq ?_ | refine aw_skip ?_ | refine aw_block ?_ | refine aw_exit ?_ | refine aw_cond rfl (fun _ => ?_) (fun hb => absurd hb (by decide)) | refine aw_cond rfl (fun hb => absurd hb (by decide)) (fun _ => ?_) | (refine aw_reg (fun K hK => ?_); simp -implicitDefEqProofs; refine hK _ ?_) | (refine aw_drw mixd (fun K hK => ?_); simp -implicitDefEqProofs; refine hK _ _ (by rfl) ?_) | fail)
    refine aw_ret (fin_ret ?_); simp -implicitDefEqProofs [FinP, resV, resT, fnd] <;> try rfl
  obtain ⟨⟨y1, y2⟩, hy⟩ : ∃ y, L[k]? = some y := ⟨_, List.getElem?_eq_getElem hkl⟩
  have hy' := (List.getElem?_eq_some_iff.1 hy).2
  have w2 : IntKind.i64.wrap ((k : Nat) + 1 : Int) = (k : Nat) + 1 := i64i _ (by omega) (by omega)
  have q := sign_row ts i y1
  rw [List.drop_eq_getElem_cons hkl, hy'] at hf
  rw [fnd] at hf
  by_cases hs : (nxt ts i).k = 4 ∧ (nxt ts i).s = y1
  · rw [if_pos hs] at hf
    dsimp only at hf
    rw [show (decide ((nxt ts i).k = 4) && decide ((nxt ts i).s = y1)) = true by simp [hs.1, hs.2]] at q
    rw [← hf]
    clear hf hs
    repeat' (first | refine aw_seq ?_ | refine aw_skip ?_ | refine aw_block ?_ | refine aw_exit ?_ | refine aw_cond rfl (fun _ => ?_) (fun hb => absurd hb (by decide)) | refine aw_cond rfl (fun hb => absurd hb (by decide)) (fun _ => ?_) | (refine aw_reg (fun K hK => ?_); simp -implicitDefEqProofs [hkl, hy, hy']) | (refine aw_drw mixd (fun K hK => ?_); simp -implicitDefEqProofs [hkl, hy, hy']) | refine hK _ ?_ | refine hK _ _ (by rfl) ?_ | (refine ar_call (cp q ?_); simp -implicitDefEqProofs [hkl, hy, hy']) | (refine ard_call (dp q ?_); simp -implicitDefEqProofs [hkl, hy, hy']) | fail)
    refine aw_ret (fin_ret ?_); simp -implicitDefEqProofs [FinP, resV, resT] <;> try rfl
  · rw [if_neg hs] at hf
    rw [show (decide ((nxt ts i).k = 4) && decide ((nxt ts i).s = y1)) = false by simpa using hs] at q
    clear hs
    repeat' (first | refine aw_seq ?_ | refine aw_skip ?_ | refine aw_block ?_ | refine aw_exit ?_ | refine aw_cond rfl (fun _ => ?_) (fun hb => absurd hb (by decide)) | refine aw_cond rfl (fun hb => absurd hb (by decide)) (fun _ => ?_) | (refine aw_reg (fun K hK => ?_); simp -implicitDefEqProofs [hkl, hy, hy', w2]) | (refine aw_drw mixd (fun K hK => ?_); simp -implicitDefEqProofs [hkl, hy, hy', w2]) | refine hK _ ?_ | refine hK _ _ (by rfl) ?_ | (refine ar_call (cp q ?_); simp -implicitDefEqProofs [hkl, hy, hy', w2]) | (refine ard_call (dp q ?_); simp -implicitDefEqProofs [hkl, hy, hy', w2]) | fail)
    refine ⟨k + 1, ⟨by omega, hf⟩, (by dsimp only; omega), ?_⟩; rw [hI]; exact cov_intro [] (by simp -implicitDefEqProofs) (by simp -implicitDefEqProofs) (by decide) rfl (by simp)
end Go.Proofs.YtlkggpjdaaglmaaGreatDoor.am
end
