import Derived.Test.YthkfdheoakbfnaaPkS7
import Derived.Test.YthkfdheoakbfnaaPkS9
import Derived.Lib.Join
import Derived.Lib.ItoaLen
import Derived.Test.YthkfdheoakbfnaaPkS4
section
namespace Go.Proofs.Ythkfdheoakbfnaa.vt
open Go.Proofs.Ythkfdheoakbfnaa.am
set_option linter.unusedVariables false
noncomputable def dpt (t : VT) : Nat := Tr.fold (fun _ _ b => b.foldl max 0 + 1) t
theorem dpt_mk (x : Lab) (l : List VT) : dpt (.mk x l) = (l.map dpt).foldl max 0 + 1 := Tr.fold_mk _ x l
noncomputable def dmx (l : List VT) (k : Nat) : Nat := ((l.take k).map dpt).foldl max 0
theorem dmx_succ {l : List VT} {k : Nat} {x : VT} (h : l[k]? = some x) : dmx l (k + 1) = max (dmx l k) (dpt x) := by
  unfold dmx
  rw [List.take_add_one, h]
  simp
theorem foldl_max_le' (l : List Nat) : ∀ (a b : Nat), a ≤ b → (∀ x ∈ l, x ≤ b) → l.foldl max a ≤ b := by
  induction l with
  | nil => intro a b h _; exact h
  | cons x l ih =>
    intro a b h hl
    exact ih _ _ (Nat.max_le.2 ⟨h, hl x (by simp)⟩) (fun y hy => hl y (by simp [hy]))
theorem dpt_le (t : VT) : dpt t ≤ t.size := by
  induction t using Tr.ind with
  | h x l ih =>
    rw [dpt_mk]
    have h1 : (l.map dpt).foldl max 0 ≤ Tr.size (Tr.mk x l) - 1 := foldl_max_le' _ _ _ (Nat.zero_le _) (fun y hy => by
      rw [List.mem_map] at hy
      obtain ⟨z, hz, rfl⟩ := hy
      have h1 := ih z hz
      obtain ⟨i, hi⟩ := List.mem_iff_getElem?.1 hz
      have h2 := Tr.size_at (x := x) hi
      omega)
    have := Tr.size_pos (Tr.mk x l)
    omega
theorem dmx_le {x : Lab} {l : List VT} (k : Nat) : dmx l k ≤ Tr.size (Tr.mk x l) := by
  unfold dmx
  refine foldl_max_le' _ _ _ (Nat.zero_le _) (fun y hy => ?_)
  rw [List.mem_map] at hy
  obtain ⟨z, hz, rfl⟩ := hy
  have h1 := dpt_le z
  obtain ⟨i, hi⟩ := List.mem_iff_getElem?.1 (List.mem_of_mem_take hz)
  have h2 := Tr.size_at (x := x) hi
  omega
def modT (s : ByteArray) (l : List VT) : VT := .mk ⟨36, 0, ⟨#[]⟩, 0, s.size⟩ l
noncomputable def modG (s : ByteArray) (ts : List Tok) : VT × Int × Int :=
  if (lpU ts (ts.length + 1) 0 []).2.2 ≠ 0 then (z0, frT ts (lpU ts (ts.length + 1) 0 []).2.1, (lpU ts (ts.length + 1) 0 []).2.2)
  else if 64 < (lpU ts (ts.length + 1) 0 []).1.length then (z0, 0, 11)
  else if 64 < dpt (modT s (lpU ts (ts.length + 1) 0 []).1) then (z0, 0, 7)
  else (modT s (lpU ts (ts.length + 1) 0 []).1, 0, 0)
noncomputable def unitG (s : ByteArray) : VT × Int × Int := if (tokG s).2.2 ≠ 0 then (z0, (tokG s).2.1, (tokG s).2.2) else modG s (tokG s).1
section
variable {ts : List Tok}
structure InvU (ts : List Tok) (C : List VT × Nat × Int) (x : Nat × Nat × List VT) : Prop where
  eq : lpU ts x.1 x.2.1 x.2.2 = C
  le : x.2.1 + 1 ≤ ts.length
  fuel : ts.length < x.1 + x.2.1
  few : x.2.2.length + x.1 ≤ ts.length + 1
  sz : sm x.2.2 ≤ x.2.1
theorem decl_ahead {s : ByteArray} (h : TokOk s ts) {i : Nat} (hi : i + 1 ≤ ts.length) : (declG ts i).2.1 + 1 ≤ ts.length := by
  have hk := (decl_oks (ts := ts) i (by omega)).ok.le (by omega)
  have hn := decl_ne5 (ts := ts) i (by omega)
  rcases Nat.lt_or_ge (declG ts i).2.1 ts.length with h1 | h1
  · exact h1
  · have e : (declG ts i).2.1 = ts.length := by omega
    rw [e] at hn
    have := hn (by omega)
    rw [tok_last h] at this
    exact absurd rfl this
theorem invU_next {s : ByteArray} (h : TokOk s ts) {m i : Nat} {acc : List VT} {C : List VT × Nat × Int} (hI : InvU ts C (m + 1, i, acc)) (h0 : ¬ ts.length ≤ i + 1) (h1 : (declG ts i).2.2 = 0) : InvU ts C (m, (declG ts i).2.1, acc ++ [(declG ts i).1]) := by
  have hk := decl_oks (ts := ts) i (by have := hI.le; dsimp only at this; omega)
  have hy := hk.ok.yes h1
  have hs := hk.sz h1
  obtain ⟨x1, x2, x3, x4, x5⟩ := hI
  dsimp only at x1 x2 x3 x4 x5
  rw [lpU, if_neg h0, if_neg (by simp [h1])] at x1
  exact ⟨x1, decl_ahead h x2, by dsimp only; omega, by dsimp only; rw [List.length_append, List.length_singleton]; omega, by dsimp only; rw [sm_app]; omega⟩
theorem lpU_sz : ∀ (m i : Nat) (acc : List VT), i ≤ ts.length → sm acc ≤ i → sm (lpU ts m i acc).1 ≤ ts.length
  | 0, i, acc, hi, h => by rw [lpU]; dsimp only; omega
  | m + 1, i, acc, hi, h => by
    rw [lpU]
    by_cases h0 : ts.length ≤ i + 1
    · rw [if_pos h0]; dsimp only; omega
    rw [if_neg h0]
    have hk := decl_oks (ts := ts) i hi
    by_cases h1 : (declG ts i).2.2 ≠ 0
    · rw [if_pos h1]; dsimp only; omega
    · rw [if_neg h1]
      have h1 : (declG ts i).2.2 = 0 := by simpa using h1
      have hs := hk.sz h1
      exact lpU_sz m _ _ (hk.ok.yes h1).2 (by rw [sm_app]; omega)
theorem mod_sz (s : ByteArray) (m : Nat) : (modT s (lpU ts m 0 []).1).size ≤ ts.length + 1 := by
  have := lpU_sz (ts := ts) m 0 [] (Nat.zero_le _) (by simp [sm])
  unfold modT
  rw [Tr.size_mk]
  unfold sm at this
  omega
end
end Go.Proofs.Ythkfdheoakbfnaa.vt
end
section
namespace Go.Proofs.Ythkfdheoakbfnaa.am
open vt
set_option linter.unusedVariables false
def pre (sep : List ByteArray) : List (List ByteArray) → List ByteArray
  | [] => []
  | W :: r => W ++ (r.map (sep ++ ·)).flatten
def opB (n : Int) : ByteArray × Int :=
  if n = 1 then (⟨#[124, 124]⟩, 1) else if n = 2 then (⟨#[38, 38]⟩, 2) else if n = 3 then (⟨#[61, 61]⟩, 3) else if n = 4 then (⟨#[33, 61]⟩, 3) else if n = 5 then (⟨#[60]⟩, 3) else if n = 6 then (⟨#[60, 61]⟩, 3)
  else if n = 7 then (⟨#[62]⟩, 3) else if n = 8 then (⟨#[62, 61]⟩, 3) else if n = 9 then (⟨#[43]⟩, 4) else if n = 10 then (⟨#[45]⟩, 4) else if n = 11 then (⟨#[42]⟩, 5) else if n = 12 then (⟨#[47]⟩, 5) else (⟨#[37]⟩, 5)
def tgh (x : Lab) : Int := if x.k = 10 then (opB x.n).2 else if x.k = 11 then 6 else 7
def par (b : Int) (A : List ByteArray) (n : Int) : List ByteArray := if n ≤ b then A else [sParO] ++ A ++ [sParS]
abbrev wNum (n : Int) : ByteArray := lx.numT n
inductive WE : VT → List ByteArray → Prop
  | num (x : Lab) (h : x.k = 5) (h0 : -9223372036854775808 ≤ x.n) (h1 : x.n ≤ 9223372036854775807) : WE (.mk x []) [wNum x.n]
  | tru (x : Lab) (h : x.k = 6) (hn : x.n = 1) : WE (.mk x []) [wTrue]
  | fls (x : Lab) (h : x.k = 6) (hn : x.n = 0) : WE (.mk x []) [wFals]
  | read (x : Lab) (h : x.k = 18) : WE (.mk x []) [wRead]
  | nam (x : Lab) (h : x.k = 19) (hs : x.s.size ≤ 8192) : WE (.mk x []) [x.s]
  | bin (x a c : Lab) (al cl : List VT) (A C : List ByteArray) (h : x.k = 10) (h1 : 1 ≤ x.n) (h2 : x.n ≤ 13) (ha : WE (.mk a al) A) (hc : WE (.mk c cl) C) : WE (.mk x [.mk a al, .mk c cl]) (par (tgh a) A (if (opB x.n).2 = 3 then 4 else (opB x.n).2) ++ ([(opB x.n).1] ++ par (tgh c) C ((opB x.n).2 + 1)))
  | neg (x a : Lab) (al : List VT) (A : List ByteArray) (h : x.k = 11) (hn : x.n = 1) (ha : WE (.mk a al) A) : WE (.mk x [.mk a al]) ([sMin] ++ par (tgh a) A 6)
  | nt (x a : Lab) (al : List VT) (A : List ByteArray) (h : x.k = 11) (hn : x.n = 2) (ha : WE (.mk a al) A) : WE (.mk x [.mk a al]) ([sNot] ++ par (tgh a) A 6)
  | idx (x a c : Lab) (al cl : List VT) (A C : List ByteArray) (h : x.k = 12) (ha : WE (.mk a al) A) (hc : WE (.mk c cl) C) : WE (.mk x [.mk a al, .mk c cl]) (par (tgh a) A 7 ++ ([sOpen] ++ (C ++ [sShut])))
  | fld (x a : Lab) (al : List VT) (A : List ByteArray) (h : x.k = 13) (hs : x.s.size ≤ 8192) (ha : WE (.mk a al) A) : WE (.mk x [.mk a al]) (par (tgh a) A 7 ++ ([sDot] ++ [x.s]))
  | lst (x : Lab) (l : List VT) (Ws : List (List ByteArray)) (h : x.k = 14) (hl : l.length = Ws.length) (hw : ∀ (i : Nat) t W, l[i]? = some t → Ws[i]? = some W → WE t W) : WE (.mk x l) ([sOpen] ++ (pre [sCom] Ws ++ [sShut]))
  | mak (x : Lab) (l : List VT) (Ws : List (List ByteArray)) (h : x.k = 15) (hs : x.s.size ≤ 8192) (hl : l.length = Ws.length) (hw : ∀ (i : Nat) t W, l[i]? = some t → Ws[i]? = some W → WE t W) : WE (.mk x l) ([wNew] ++ ([x.s] ++ ([sParO] ++ (pre [sCom] Ws ++ [sParS]))))
  | cal (x : Lab) (l : List VT) (Ws : List (List ByteArray)) (h : x.k = 16) (hs : x.s.size ≤ 8192) (hl : l.length = Ws.length) (hw : ∀ (i : Nat) t W, l[i]? = some t → Ws[i]? = some W → WE t W) : WE (.mk x l) ([x.s] ++ ([sParO] ++ (pre [sCom] Ws ++ [sParS])))
  | ext (x : Lab) (l : List VT) (Ws : List (List ByteArray)) (h : x.k = 17) (hs : x.s.size ≤ 8192) (hl : l.length = Ws.length) (hw : ∀ (i : Nat) t W, l[i]? = some t → Ws[i]? = some W → WE t W) : WE (.mk x l) ([sAt] ++ ([x.s] ++ ([sParO] ++ (pre [sCom] Ws ++ [sParS]))))
inductive WTp : VT → List ByteArray → Prop
  | int (x : Lab) (h : x.k = 1) : WTp (.mk x []) [wInt]
  | bool (x : Lab) (h : x.k = 2) : WTp (.mk x []) [wBool]
  | arr (x a : Lab) (al : List VT) (A : List ByteArray) (h : x.k = 3) (h0 : -9223372036854775808 ≤ x.n) (h1 : x.n ≤ 9223372036854775807) (ha : WTp (.mk a al) A) : WTp (.mk x [.mk a al]) ([sOpen] ++ ([wNum x.n] ++ ([sShut] ++ A)))
  | rec' (x : Lab) (h : x.k = 4) (hs : x.s.size ≤ 8192) : WTp (.mk x []) [x.s]
end Go.Proofs.Ythkfdheoakbfnaa.am
end
section
namespace Go.Proofs.Ythkfdheoakbfnaa.am
open vt
set_option linter.unusedVariables false
inductive WS : VT → List ByteArray → Prop
  | blk (x : Lab) (l : List VT) (Ws : List (List ByteArray)) (h : x.k = 29) (hl : l.length = Ws.length) (hw : ∀ (i : Nat) t W, l[i]? = some t → Ws[i]? = some W → WS t W) : WS (.mk x l) ([sBra] ++ (pre [] Ws ++ [sKet]))
  | lt (x a : Lab) (al : List VT) (A : List ByteArray) (h : x.k = 20) (hs : x.s.size ≤ 8192) (ha : WE (.mk a al) A) : WS (.mk x [.mk a al]) ([wLet] ++ ([x.s] ++ ([sIs] ++ (A ++ [sEnd]))))
  | new (x a : Lab) (al : List VT) (A : List ByteArray) (h : x.k = 21) (hs : x.s.size ≤ 8192) (ha : WTp (.mk a al) A) : WS (.mk x [.mk a al]) ([wLet] ++ ([x.s] ++ ([sCol] ++ (A ++ [sEnd]))))
  | set' (x a c : Lab) (al cl : List VT) (A C : List ByteArray) (h : x.k = 22) (ha : WE (.mk a al) A) (hc : WE (.mk c cl) C) : WS (.mk x [.mk a al, .mk c cl]) (A ++ ([sIs] ++ (C ++ [sEnd])))
  | ifn (x a c e : Lab) (al cl : List VT) (A C : List ByteArray) (h : x.k = 23) (ha : WE (.mk a al) A) (hk : c.k = 29) (hc : WS (.mk c cl) C) : WS (.mk x [.mk a al, .mk c cl, .mk e []]) ([wIf] ++ (A ++ C))
  | ife (x a c e : Lab) (al cl el : List VT) (A C E : List ByteArray) (h : x.k = 23) (ha : WE (.mk a al) A) (hk : c.k = 29) (hc : WS (.mk c cl) C) (he : e.k = 29) (hn : el ≠ []) (hE : WS (.mk e el) E) : WS (.mk x [.mk a al, .mk c cl, .mk e el]) ([wIf] ++ (A ++ (C ++ ([wElse] ++ E))))
  | whl (x a c : Lab) (al cl : List VT) (A C : List ByteArray) (h : x.k = 24) (ha : WE (.mk a al) A) (hk : c.k = 29) (hc : WS (.mk c cl) C) : WS (.mk x [.mk a al, .mk c cl]) ([wWhil] ++ (A ++ C))
  | frr (x a b c : Lab) (al bl cl : List VT) (A B C : List ByteArray) (h : x.k = 25) (hs : x.s.size ≤ 8192) (ha : WE (.mk a al) A) (hb : WE (.mk b bl) B) (hk : c.k = 29) (hc : WS (.mk c cl) C) : WS (.mk x [.mk a al, .mk b bl, .mk c cl]) ([wFor] ++ ([x.s] ++ ([sIs] ++ (A ++ ([wTo] ++ (B ++ C))))))
  | prn (x a : Lab) (al : List VT) (A : List ByteArray) (h : x.k = 26) (ha : WE (.mk a al) A) : WS (.mk x [.mk a al]) ([wPrin] ++ (A ++ [sEnd]))
  | rtn (x a : Lab) (al : List VT) (A : List ByteArray) (h : x.k = 27) (ha : WE (.mk a al) A) : WS (.mk x [.mk a al]) ([wRet] ++ (A ++ [sEnd]))
  | doo (x a : Lab) (al : List VT) (A : List ByteArray) (h : x.k = 28) (ha : WE (.mk a al) A) : WS (.mk x [.mk a al]) ([wDo] ++ (A ++ [sEnd]))
inductive WF : VT → List ByteArray → Prop
  | mk (x a : Lab) (al : List VT) (A : List ByteArray) (hs : x.s.size ≤ 8192) (ha : WTp (.mk a al) A) : WF (.mk x [.mk a al]) ([x.s] ++ ([sCol] ++ A))
inductive WD : VT → List ByteArray → Prop
  | rec' (x : Lab) (l : List VT) (Ws : List (List ByteArray)) (h : x.k = 30) (hs : x.s.size ≤ 8192) (hl : l.length = Ws.length) (hw : ∀ (i : Nat) t W, l[i]? = some t → Ws[i]? = some W → WF t W) : WD (.mk x l) ([wRec] ++ ([x.s] ++ ([sBra] ++ (pre [] (Ws.map (· ++ [sEnd])) ++ [sKet]))))
  | dfn (x a : Lab) (al : List VT) (A : List ByteArray) (h : x.k = 31) (hs : x.s.size ≤ 8192) (ha : WE (.mk a al) A) : WD (.mk x [.mk a al]) ([wConst] ++ ([x.s] ++ ([sIs] ++ (A ++ [sEnd]))))
  | var' (x a : Lab) (al : List VT) (A : List ByteArray) (h : x.k = 32) (hs : x.s.size ≤ 8192) (ha : WTp (.mk a al) A) : WD (.mk x [.mk a al]) ([wVar] ++ ([x.s] ++ ([sCol] ++ (A ++ [sEnd]))))
  | fn (x p r b : Lab) (pl rl bl : List VT) (Ws : List (List ByteArray)) (R B : List ByteArray) (h : x.k = 33) (hn : x.n = 0) (hs : x.s.size ≤ 8192) (hl : pl.length = Ws.length) (hw : ∀ (i : Nat) t W, pl[i]? = some t → Ws[i]? = some W → WF t W) (hr : WTp (.mk r rl) R) (hk : b.k = 29) (hb : WS (.mk b bl) B) : WD (.mk x [.mk p pl, .mk r rl, .mk b bl]) ([wFn] ++ ([x.s] ++ ([sParO] ++ (pre [sCom] Ws ++ ([sParS] ++ ([sCol] ++ (R ++ B)))))))
  | pub (x p r b : Lab) (pl rl bl : List VT) (Ws : List (List ByteArray)) (R B : List ByteArray) (h : x.k = 33) (hn : x.n = 1) (hs : x.s.size ≤ 8192) (hl : pl.length = Ws.length) (hw : ∀ (i : Nat) t W, pl[i]? = some t → Ws[i]? = some W → WF t W) (hr : WTp (.mk r rl) R) (hk : b.k = 29) (hb : WS (.mk b bl) B) : WD (.mk x [.mk p pl, .mk r rl, .mk b bl]) ([wPub] ++ ([wFn] ++ ([x.s] ++ ([sParO] ++ (pre [sCom] Ws ++ ([sParS] ++ ([sCol] ++ (R ++ B))))))))
end Go.Proofs.Ythkfdheoakbfnaa.am
end
section
namespace Go.Proofs.Ythkfdheoakbfnaa.am
open vt
set_option linter.unusedVariables false
def TkS (ts : List Tok) : Prop := ∀ j, (nxt ts j).s.size ≤ 8192 ∧ -9223372036854775808 ≤ (nxt ts j).n ∧ (nxt ts j).n ≤ 9223372036854775807
def EX (t : VT) : Prop := ∃ W, WE t W
def TX (t : VT) : Prop := ∃ W, WTp t W
def SX (t : VT) : Prop := ∃ W, WS t W
def FX (t : VT) : Prop := ∃ W, WF t W
def DX (t : VT) : Prop := ∃ W, WD t W
theorem all_words {R : VT → List ByteArray → Prop} {l : List VT} (h : ∀ d ∈ l, ∃ W, R d W) : ∃ Ws : List (List ByteArray), l.length = Ws.length ∧ ∀ (i : Nat) t W, l[i]? = some t → Ws[i]? = some W → R t W := by
  induction l with
  | nil => exact ⟨[], rfl, fun i t W h => by simp at h⟩
  | cons d l ih =>
    obtain ⟨W, hW⟩ := h d (.head _)
    obtain ⟨Ws, h1, h2⟩ := ih (fun e he => h e (.tail _ he))
    refine ⟨W :: Ws, by simp [h1], fun i t V a b => ?_⟩
    cases i with
    | zero => simp at a b; subst a b; exact hW
    | succ i => simp at a b; exact h2 i t V a b
section
variable {ts : List Tok}
theorem opK_rng {x : Tok} (h : (opK x).2 ≤ 5) : 1 ≤ (opK x).1 ∧ (opK x).1 ≤ 13 := by
  obtain ⟨k, n, s, f, t⟩ := x
  unfold opK at h ⊢
  by_cases c : k = 4
  · rw [if_pos c] at h ⊢
    dsimp only at h ⊢
    clear c
    by_cases e0 : s = (⟨#[124, 124]⟩ : ByteArray)
    · subst e0; exact ⟨by decide, by decide⟩
    by_cases e1 : s = (⟨#[38, 38]⟩ : ByteArray)
    · subst e1; exact ⟨by decide, by decide⟩
    by_cases e2 : s = (⟨#[61, 61]⟩ : ByteArray)
    · subst e2; exact ⟨by decide, by decide⟩
    by_cases e3 : s = (⟨#[33, 61]⟩ : ByteArray)
    · subst e3; exact ⟨by decide, by decide⟩
    by_cases e4 : s = (⟨#[60]⟩ : ByteArray)
    · subst e4; exact ⟨by decide, by decide⟩
    by_cases e5 : s = (⟨#[60, 61]⟩ : ByteArray)
    · subst e5; exact ⟨by decide, by decide⟩
    by_cases e6 : s = (⟨#[62]⟩ : ByteArray)
    · subst e6; exact ⟨by decide, by decide⟩
    by_cases e7 : s = (⟨#[62, 61]⟩ : ByteArray)
    · subst e7; exact ⟨by decide, by decide⟩
    by_cases e8 : s = (⟨#[43]⟩ : ByteArray)
    · subst e8; exact ⟨by decide, by decide⟩
    by_cases e9 : s = (⟨#[45]⟩ : ByteArray)
    · subst e9; exact ⟨by decide, by decide⟩
    by_cases e10 : s = (⟨#[42]⟩ : ByteArray)
    · subst e10; exact ⟨by decide, by decide⟩
    by_cases e11 : s = (⟨#[47]⟩ : ByteArray)
    · subst e11; exact ⟨by decide, by decide⟩
    by_cases e12 : s = (⟨#[37]⟩ : ByteArray)
    · subst e12; exact ⟨by decide, by decide⟩
    simp [opS, e0, e1, e2, e3, e4, e5, e6, e7, e8, e9, e10, e11, e12] at h
  · rw [if_neg c] at h; exact absurd h (by decide)
theorem lpL_ex {P : Nat → Got} {l a : Nat} (hl : l ≤ 5) (hP : ∀ i, (P i).2.2 = 0 → EX (P i).1) : ∀ (m : Nat) (t : Bool) (x : Got), (x.2.2 = 0 → EX x.1) → (lpL ts P l a m t x).2.2 = 0 → EX (lpL ts P l a m t x).1
  | 0, t, x, hx, h => hx h
  | m + 1, t, x, hx, h => by
    unfold lpL at h ⊢
    split
    · rename_i c; rw [if_pos c] at h; exact hx h
    rename_i c; rw [if_neg c] at h
    have c : x.2.2 = 0 := by simpa using c
    split
    · rename_i c2; rw [if_pos c2] at h; exact hx h
    rename_i c2; rw [if_neg c2] at h
    split
    · rename_i c3; rw [if_pos c3] at h; exact hP _ h
    rename_i c3; rw [if_neg c3] at h
    have c3 : (P (x.2.1 + 1)).2.2 = 0 := by simpa using c3
    refine lpL_ex hl hP m true _ (fun _ => ?_) h
    have ho : (opK (nxt ts x.2.1)).2 = l := by
      by_cases e : (opK (nxt ts x.2.1)).2 = l
      · exact e
      · exact absurd (.inl e) c2
    have hr := opK_rng (x := nxt ts x.2.1) (by omega)
    obtain ⟨A, hA⟩ := hx c
    obtain ⟨C, hC⟩ := hP _ c3
    obtain ⟨⟨ax, al⟩, x2⟩ := x
    dsimp only at *
    generalize P (x2.1 + 1) = y at hC ⊢
    obtain ⟨⟨cx, cl⟩, y2⟩ := y
    exact ⟨_, .bin _ ax cx al cl A C rfl hr.1 hr.2 hA hC⟩
theorem lpP_ex {E : Nat → Got} {a : Nat} (hT : TkS ts) (hE : ∀ i, (E i).2.2 = 0 → EX (E i).1) : ∀ (m : Nat) (x : Got), (x.2.2 = 0 → EX x.1) → (lpP ts E a m x).2.2 = 0 → EX (lpP ts E a m x).1
  | 0, x, hx, h => hx h
  | m + 1, x, hx, h => by
    unfold lpP at h ⊢
    split
    · rename_i c; rw [if_pos c] at h; exact hx h
    rename_i c; rw [if_neg c] at h
    have c : x.2.2 = 0 := by simpa using c
    obtain ⟨A, hA⟩ := hx c
    obtain ⟨⟨ax, al⟩, x2⟩ := x
    dsimp only at *
    split
    · rename_i c2; rw [if_pos c2] at h
      split
      · rename_i c3; rw [if_pos c3] at h; exact hE _ h
      rename_i c3; rw [if_neg c3] at h
      have c3 : (E (x2.1 + 1)).2.2 = 0 := by simpa using c3
      split
      · rename_i c4; rw [if_pos c4] at h; simp [bad7] at h
      rename_i c4; rw [if_neg c4] at h
      refine lpP_ex hT hE m _ (fun _ => ?_) h
      obtain ⟨C, hC⟩ := hE _ c3
      generalize E (x2.1 + 1) = y at hC ⊢
      obtain ⟨⟨cx, cl⟩, y2⟩ := y
      exact ⟨_, .idx _ ax cx al cl A C rfl hA hC⟩
    rename_i c2; rw [if_neg c2] at h
    split
    · rename_i c3; rw [if_pos c3] at h
      split
      · rename_i c4; rw [if_pos c4] at h; simp [bad7] at h
      rename_i c4; rw [if_neg c4] at h
      exact lpP_ex hT hE m _ (fun _ => ⟨_, .fld _ ax al A rfl (hT _).1 hA⟩) h
    · rename_i c3; rw [if_neg c3] at h
      exact ⟨A, hA⟩
theorem lpC_all {E : Nat → Got} {Q : VT → Prop} (hE : ∀ i, (E i).2.2 = 0 → Q (E i).1) : ∀ (m i : Nat) (acc : List VT), (∀ d ∈ acc, Q d) → (lpC ts E m i acc).2.2 = 0 → ∀ d ∈ (lpC ts E m i acc).1, Q d
  | 0, i, acc, ha, h => by simp [lpC] at h
  | m + 1, i, acc, ha, h => by
    have app : (E i).2.2 = 0 → ∀ d ∈ acc ++ [(E i).1], Q d := fun c d hd => by
      rcases List.mem_append.1 hd with hd | hd
      · exact ha d hd
      · rw [List.mem_singleton.1 hd]; exact hE i c
    unfold lpC at h ⊢
    split
    · rename_i c; rw [if_pos c] at h; exact absurd h c
    rename_i c; rw [if_neg c] at h
    have c : (E i).2.2 = 0 := by simpa using c
    split
    · exact app c
    · rename_i c2; rw [if_neg c2] at h
      exact lpC_all hE m _ _ (app c) h
theorem cloG_all {E : Nat → Got} {Q : VT → Prop} (hE : ∀ i, (E i).2.2 = 0 → Q (E i).1) {o : Nat} {few : Bool} {fs ls : ByteArray} (h : (cloG ts E o few fs ls).2.2 = 0) : ∀ d ∈ (cloG ts E o few fs ls).1, Q d := by
  unfold cloG at h ⊢
  split
  · intro d hd; cases hd
  rename_i c; rw [if_neg c] at h
  split
  · intro d hd; cases hd
  rename_i c2; rw [if_neg c2] at h
  split
  · rename_i c3; rw [if_pos c3] at h; exact absurd h c3
  rename_i c3; rw [if_neg c3] at h
  have c3 : (lpC ts E (ts.length + 1) (o + 1) []).2.2 = 0 := by simpa using c3
  split
  · rename_i c4; rw [if_pos c4] at h; exact absurd (show (6 : Int) = 0 from h) (by decide)
  · exact lpC_all hE _ _ _ (fun d hd => by cases hd) c3
theorem fin_ex {i : Nat} {k : Int} {s : ByteArray} {c : List VT × Nat × Int} (hk : k = 14 ∨ k = 15 ∨ k = 16 ∨ k = 17) (hs : s.size ≤ 8192) (hc : c.2.2 = 0 → ∀ d ∈ c.1, EX d) (h : (finC ts i k s c).2.2 = 0) : EX (finC ts i k s c).1 := by
  unfold finC at h ⊢
  split
  · rename_i c1; rw [if_pos c1] at h; exact absurd h c1
  rename_i c1
  have c1 : c.2.2 = 0 := by simpa using c1
  obtain ⟨Ws, h1, h2⟩ := all_words (R := WE) (hc c1)
  rcases hk with rfl | rfl | rfl | rfl
  · exact ⟨_, .lst _ _ Ws rfl h1 h2⟩
  · exact ⟨_, .mak _ _ Ws rfl hs h1 h2⟩
  · exact ⟨_, .cal _ _ Ws rfl hs h1 h2⟩
  · exact ⟨_, .ext _ _ Ws rfl hs h1 h2⟩
theorem calG_ex {E : Nat → Got} (hT : TkS ts) (hE : ∀ i, (E i).2.2 = 0 → EX (E i).1) {i : Nat} (h : (calG ts E i).2.2 = 0) : EX (calG ts E i).1 := by
  unfold calG at h ⊢
  split
  · rename_i c; rw [if_pos c] at h; exact fin_ex (.inr (.inr (.inl rfl))) (hT _).1 (cloG_all hE) h
  rename_i c; rw [if_neg c] at h
  split
  · rename_i c; rw [if_pos c] at h; exact fin_ex (.inl rfl) (by decide) (cloG_all hE) h
  rename_i c; rw [if_neg c] at h
  split
  · rename_i c; rw [if_pos c] at h
    split
    · rename_i c; rw [if_pos c] at h; simp [bad7] at h
    · rename_i c; rw [if_neg c] at h; exact fin_ex (.inr (.inr (.inr rfl))) (hT _).1 (cloG_all hE) h
  rename_i c; rw [if_neg c] at h
  split
  · rename_i c; rw [if_pos c] at h
    split
    · rename_i c; rw [if_pos c] at h; simp [bad7] at h
    · rename_i c; rw [if_neg c] at h; exact fin_ex (.inr (.inl rfl)) (hT _).1 (cloG_all hE) h
  · rename_i c; rw [if_neg c] at h; simp [bad7] at h
theorem atoG_ex {E : Nat → Got} (hT : TkS ts) (hE : ∀ i, (E i).2.2 = 0 → EX (E i).1) {i : Nat} (h : (atoG ts E i).2.2 = 0) : EX (atoG ts E i).1 := by
  unfold atoG at h ⊢
  split
  · exact ⟨_, .num _ rfl (hT _).2.1 (hT _).2.2⟩
  rename_i c; rw [if_neg c] at h
  split
  · exact ⟨_, .tru _ rfl rfl⟩
  rename_i c; rw [if_neg c] at h
  split
  · exact ⟨_, .fls _ rfl rfl⟩
  rename_i c; rw [if_neg c] at h
  split
  · exact ⟨_, .read _ rfl⟩
  rename_i c; rw [if_neg c] at h
  split
  · exact ⟨_, .nam _ rfl (hT _).1⟩
  rename_i c; rw [if_neg c] at h
  split
  · rename_i c; rw [if_pos c] at h
    split
    · rename_i c; rw [if_pos c] at h; exact hE _ h
    rename_i c; rw [if_neg c] at h
    split
    · rename_i c; rw [if_pos c] at h; simp [bad7] at h
    · have c : (E (i + 1)).2.2 = 0 := by simpa using c
      exact hE _ c
  · rename_i c; rw [if_neg c] at h; exact calG_ex hT hE h
theorem pG_ex (hT : TkS ts) : ∀ (n w i : Nat), (pG ts n w i).2.2 = 0 → EX (pG ts n w i).1
  | 0, w, i, h => by simp [pG, bad7] at h
  | n + 1, w, i, h => by
    have ih := pG_ex hT n
    unfold pG bG at h ⊢
    split
    · rename_i c; rw [if_pos c] at h; exact lpL_ex c (ih (w + 1)) _ _ _ (ih (w + 1) i) h
    rename_i c; rw [if_neg c] at h
    split
    · rename_i c; rw [if_pos c] at h
      split
      · rename_i c; rw [if_pos c] at h; exact ih _ _ h
      rename_i c0; rw [if_neg c0] at h
      split
      · rename_i c; rw [if_pos c] at h; exact ih _ _ h
      rename_i c; rw [if_neg c] at h
      have c : (pG ts n 6 (i + 1)).2.2 = 0 := by simpa using c
      obtain ⟨A, hA⟩ := ih _ _ c
      generalize pG ts n 6 (i + 1) = y at hA ⊢
      obtain ⟨⟨ax, al⟩, y2⟩ := y
      have hu : unN ts i = 1 ∨ unN ts i = 2 := by
        unfold unN at c0 ⊢
        split
        · exact .inr rfl
        · split
          · exact .inl rfl
          · rename_i g1 g2; rw [if_neg g1, if_neg g2] at c0; exact absurd rfl c0
      rcases hu with hu | hu
      · exact ⟨_, .neg _ ax al A rfl hu hA⟩
      · exact ⟨_, .nt _ ax al A rfl hu hA⟩
    rename_i c; rw [if_neg c] at h
    split
    · rename_i c; rw [if_pos c] at h; exact lpP_ex hT (ih 1) _ _ (ih 8 i) h
    · rename_i c; rw [if_neg c] at h; exact atoG_ex hT (ih 1) h
theorem tyG_ex (hT : TkS ts) : ∀ (n i : Nat), (tyG ts n i).2.2 = 0 → TX (tyG ts n i).1
  | 0, i, h => by simp [tyG] at h
  | n + 1, i, h => by
    have ih := tyG_ex hT n (i + 3)
    unfold tyG at h ⊢
    split
    · exact ⟨_, .int _ rfl⟩
    rename_i c; rw [if_neg c] at h
    split
    · exact ⟨_, .bool _ rfl⟩
    rename_i c; rw [if_neg c] at h
    split
    · rename_i c; rw [if_pos c] at h
      split
      · rename_i c; rw [if_pos c] at h
        split
        · rename_i c; rw [if_pos c] at h
          split
          · rename_i c
            obtain ⟨A, hA⟩ := ih c
            generalize tyG ts n (i + 3) = y at hA ⊢
            obtain ⟨⟨ax, al⟩, y2⟩ := y
            exact ⟨_, .arr _ ax al A rfl (hT _).2.1 (hT _).2.2 hA⟩
          · rename_i c; rw [if_neg c] at h; exact absurd h c
        · rename_i c; rw [if_neg c] at h; exact absurd (show (6 : Int) = 0 from h) (by decide)
      · rename_i c; rw [if_neg c] at h; exact absurd (show (6 : Int) = 0 from h) (by decide)
    · rename_i c; rw [if_neg c] at h
      split
      · exact ⟨_, .rec' _ rfl (hT _).1⟩
      · rename_i c; rw [if_neg c] at h; exact absurd (show (6 : Int) = 0 from h) (by decide)
end
end Go.Proofs.Ythkfdheoakbfnaa.am
end
section
namespace Go.Proofs.Ythkfdheoakbfnaa.am
open vt
set_option linter.unusedVariables false
def FitI (R : Nat → Nat → Got) (e : VT → Prop) : List It → List VT → Prop
  | [], qs => qs = []
  | .sgn _ :: l, qs => FitI R e l qs
  | .nam :: l, qs => FitI R e l qs
  | .sub w :: l, qs => ∃ q r, qs = q :: r ∧ (∃ j, (R w j).2.2 = 0 ∧ q = (R w j).1) ∧ FitI R e l r
  | .els :: l, qs => ∃ q r, qs = q :: r ∧ ((∃ j, (R 2 j).2.2 = 0 ∧ q = (R 2 j).1) ∨ e q) ∧ FitI R e l r
section
variable {ts : List Tok}
theorem it_form {R : Nat → Nat → Got} {a : Nat} {k n : Int} : ∀ (l : List It) (tz : Nat) (s : ByteArray) (ps : List VT), (itH ts R a k n l tz s ps).2.2 = 0 → ∃ b s' qs, (itH ts R a k n l tz s ps).1 = (mk7 ts a b k n s' (ps ++ qs)).1 ∧ (s' = s ∨ ∃ j, s' = (nxt ts j).s) ∧ FitI R (fun q => ∃ j, q = emB ts j) l qs
  | [], tz, s, ps, h => ⟨tz, s, [], by rw [itH, List.append_nil], .inl rfl, rfl⟩
  | .sgn x :: l, tz, s, ps, h => by
    rw [itG_sgn] at h ⊢
    by_cases c : isK x (nxt ts tz) = true
    · rw [if_pos c] at h ⊢
      exact it_form l _ _ _ h
    · rw [if_neg c] at h; simp [bad7] at h
  | .nam :: l, tz, s, ps, h => by
    rw [itG_nam] at h ⊢
    by_cases c : (nxt ts tz).k = 1
    · rw [if_pos c] at h ⊢
      obtain ⟨b, s', qs, e1, e2, e3⟩ := it_form l _ _ _ h
      exact ⟨b, s', qs, e1, .inr (e2.elim (fun h => ⟨tz, h⟩) (fun h => h)), e3⟩
    · rw [if_neg c] at h; simp [bad7] at h
  | .sub w :: l, tz, s, ps, h => by
    rw [itG_sub] at h ⊢
    by_cases c : (R w tz).2.2 = 0
    · rw [if_pos c] at h ⊢
      obtain ⟨b, s', qs, e1, e2, e3⟩ := it_form l _ _ _ h
      exact ⟨b, s', (R w tz).1 :: qs, by rw [e1, List.append_assoc]; rfl, e2, _, _, rfl, ⟨tz, c, rfl⟩, e3⟩
    · rw [if_neg c] at h; exact absurd h c
  | .els :: l, tz, s, ps, h => by
    rw [itG_els] at h ⊢
    by_cases c : isK wElse (nxt ts tz) = true
    · rw [if_pos c] at h ⊢
      by_cases c2 : (R 2 (tz + 1)).2.2 = 0
      · rw [if_pos c2] at h ⊢
        obtain ⟨b, s', qs, e1, e2, e3⟩ := it_form l _ _ _ h
        exact ⟨b, s', (R 2 (tz + 1)).1 :: qs, by rw [e1, List.append_assoc]; rfl, e2, _, _, rfl, .inl ⟨tz + 1, c2, rfl⟩, e3⟩
      · rw [if_neg c2] at h; exact absurd h c2
    · rw [if_neg c] at h ⊢
      obtain ⟨b, s', qs, e1, e2, e3⟩ := it_form l _ _ _ h
      exact ⟨b, s', emB ts tz :: qs, by rw [e1, List.append_assoc]; rfl, e2, _, _, rfl, .inr ⟨tz, rfl⟩, e3⟩
def BX (t : VT) : Prop := t.lab.k = 29 ∧ SX t
theorem lpB_bx {S : Nat → Got} (hS : ∀ i, (S i).2.2 = 0 → SX (S i).1) (a : Nat) : ∀ (m tz : Nat) (acc : List VT), (∀ d ∈ acc, SX d) → (lpB ts S a m tz acc).2.2 = 0 → BX (lpB ts S a m tz acc).1
  | 0, tz, acc, ha, h => by simp [lpB, bad7] at h
  | m + 1, tz, acc, ha, h => by
    rw [lpB] at h ⊢
    by_cases h2 : isK sKet (nxt ts tz) = true
    · rw [if_pos h2]
      obtain ⟨Ws, h1, h2⟩ := all_words (R := WS) ha
      exact ⟨rfl, _, .blk _ _ Ws rfl h1 h2⟩
    · rw [if_neg h2] at h ⊢
      by_cases h3 : (S tz).2.2 = 0
      · rw [if_pos h3] at h ⊢
        refine lpB_bx hS a m _ _ (fun d hd => ?_) h
        rcases List.mem_append.1 hd with hd | hd
        · exact ha d hd
        · rw [List.mem_singleton.1 hd]; exact hS tz h3
      · rw [if_neg h3] at h; exact absurd h h3
theorem blG_bx {S : Nat → Got} (hS : ∀ i, (S i).2.2 = 0 → SX (S i).1) {i : Nat} (h : (blG ts S i).2.2 = 0) : BX (blG ts S i).1 := by
  unfold blG at h ⊢
  by_cases c : isK sBra (nxt ts i) = true
  · rw [if_pos c] at h ⊢; exact lpB_bx hS i _ _ _ (fun d hd => by cases hd) h
  · rw [if_neg c] at h; simp [bad7] at h
theorem RR_ex (hT : TkS ts) {S : Nat → Got} (hS : ∀ i, (S i).2.2 = 0 → SX (S i).1) (w j : Nat) (h : (RR ts S w j).2.2 = 0) : (w = 0 → EX (RR ts S w j).1) ∧ (w = 1 → TX (RR ts S w j).1) ∧ (w = 2 → BX (RR ts S w j).1) := by
  unfold RR at h ⊢
  by_cases h0 : w = 0
  · rw [if_pos h0] at h ⊢
    exact ⟨fun _ => pG_ex hT _ _ _ h, fun e => by omega, fun e => by omega⟩
  · rw [if_neg h0] at h ⊢
    by_cases h1 : w = 1
    · rw [if_pos h1] at h ⊢
      exact ⟨fun e => absurd e h0, fun _ => tyG_ex hT _ _ h, fun e => by omega⟩
    · rw [if_neg h1] at h ⊢
      exact ⟨fun e => absurd e h0, fun e => absurd e h1, fun _ => blG_bx hS h⟩
theorem sG_sx (hT : TkS ts) : ∀ (n i : Nat), (sG ts n i).2.2 = 0 → SX (sG ts n i).1
  | 0, i, h => by simp [sG, bad7] at h
  | n + 1, i, h => by
    have ih := sG_sx hT n
    have R0 := fun j h => (RR_ex hT ih 0 j h).1 rfl
    have R1 := fun j h => (RR_ex hT ih 1 j h).2.1 rfl
    have R2 := fun j h => (RR_ex hT ih 2 j h).2.2 rfl
    rw [sG] at h ⊢
    by_cases c : isK sBra (nxt ts i) = true
    · rw [if_pos c] at h ⊢; exact (blG_bx ih h).2
    rw [if_neg c] at h ⊢
    obtain ⟨b, s', qs, e1, e2, e3⟩ := it_form _ _ _ _ h
    have hs : s'.size ≤ 8192 := by
      rcases e2 with rfl | ⟨j, rfl⟩
      · decide
      · exact (hT j).1
    rw [e1]
    clear e1 e2 h
    unfold frmG at e3 ⊢
    split at e3
    · rename_i g; rw [if_pos g]
      split at e3
      · rename_i g; rw [if_pos g]
        obtain ⟨q, r, rfl, ⟨j, j1, rfl⟩, rfl⟩ := e3
        obtain ⟨A, hA⟩ := R1 j j1
        generalize RR ts (sG ts n) 1 j = y at hA ⊢
        obtain ⟨⟨ax, al⟩, y2⟩ := y
        exact ⟨_, .new _ ax al A rfl hs hA⟩
      · rename_i g; rw [if_neg g]
        obtain ⟨q, r, rfl, ⟨j, j1, rfl⟩, rfl⟩ := e3
        obtain ⟨A, hA⟩ := R0 j j1
        generalize RR ts (sG ts n) 0 j = y at hA ⊢
        obtain ⟨⟨ax, al⟩, y2⟩ := y
        exact ⟨_, .lt _ ax al A rfl hs hA⟩
    rename_i g; rw [if_neg g]
    split at e3
    · rename_i g; rw [if_pos g]
      obtain ⟨q, r, rfl, ⟨j, j1, rfl⟩, q2, r2, rfl, ⟨j2, j3, rfl⟩, q3, r3, rfl, h3, rfl⟩ := e3
      obtain ⟨A, hA⟩ := R0 j j1
      obtain ⟨kC, C, hC⟩ := R2 j2 j3
      generalize RR ts (sG ts n) 0 j = y at hA ⊢
      obtain ⟨⟨ax, al⟩, y2⟩ := y
      generalize RR ts (sG ts n) 2 j2 = z at hC kC ⊢
      obtain ⟨⟨cx, cl⟩, z2⟩ := z
      rcases h3 with ⟨j4, j5, rfl⟩ | ⟨j4, rfl⟩
      · obtain ⟨kE, E, hE⟩ := R2 j4 j5
        generalize RR ts (sG ts n) 2 j4 = v at hE kE ⊢
        obtain ⟨⟨ex, el⟩, v2⟩ := v
        by_cases hn : el = []
        · subst hn; exact ⟨_, .ifn _ ax cx ex al cl A C rfl hA kC hC⟩
        · exact ⟨_, .ife _ ax cx ex al cl el A C E rfl hA kC hC kE hn hE⟩
      · exact ⟨_, .ifn _ ax cx _ al cl A C rfl hA kC hC⟩
    rename_i g; rw [if_neg g]
    split at e3
    · rename_i g; rw [if_pos g]
      obtain ⟨q, r, rfl, ⟨j, j1, rfl⟩, q2, r2, rfl, ⟨j2, j3, rfl⟩, rfl⟩ := e3
      obtain ⟨A, hA⟩ := R0 j j1
      obtain ⟨kC, C, hC⟩ := R2 j2 j3
      generalize RR ts (sG ts n) 0 j = y at hA ⊢
      obtain ⟨⟨ax, al⟩, y2⟩ := y
      generalize RR ts (sG ts n) 2 j2 = z at hC kC ⊢
      obtain ⟨⟨cx, cl⟩, z2⟩ := z
      exact ⟨_, .whl _ ax cx al cl A C rfl hA kC hC⟩
    rename_i g; rw [if_neg g]
    split at e3
    · rename_i g; rw [if_pos g]
      obtain ⟨q, r, rfl, ⟨j, j1, rfl⟩, q1, r1, rfl, ⟨i1, i2, rfl⟩, q2, r2, rfl, ⟨j2, j3, rfl⟩, rfl⟩ := e3
      obtain ⟨A, hA⟩ := R0 j j1
      obtain ⟨B, hB⟩ := R0 i1 i2
      obtain ⟨kC, C, hC⟩ := R2 j2 j3
      obtain ⟨y, hy⟩ : ∃ y, RR ts (sG ts n) 0 j = y := ⟨_, rfl⟩
      obtain ⟨v, hv⟩ : ∃ y, RR ts (sG ts n) 0 i1 = y := ⟨_, rfl⟩
      rw [hy] at hA ⊢
      rw [hv] at hB ⊢
      obtain ⟨⟨ax, al⟩, y2⟩ := y
      obtain ⟨⟨bx, bl⟩, v2⟩ := v
      generalize RR ts (sG ts n) 2 j2 = z at hC kC ⊢
      obtain ⟨⟨cx, cl⟩, z2⟩ := z
      exact ⟨_, .frr _ ax bx cx al bl cl A B C rfl hs hA hB kC hC⟩
    rename_i g; rw [if_neg g]
    split at e3
    · rename_i g; rw [if_pos g]
      obtain ⟨q, r, rfl, ⟨j, j1, rfl⟩, rfl⟩ := e3
      obtain ⟨A, hA⟩ := R0 j j1
      generalize RR ts (sG ts n) 0 j = y at hA ⊢
      obtain ⟨⟨ax, al⟩, y2⟩ := y
      exact ⟨_, .prn _ ax al A rfl hA⟩
    rename_i g; rw [if_neg g]
    split at e3
    · rename_i g; rw [if_pos g]
      obtain ⟨q, r, rfl, ⟨j, j1, rfl⟩, rfl⟩ := e3
      obtain ⟨A, hA⟩ := R0 j j1
      generalize RR ts (sG ts n) 0 j = y at hA ⊢
      obtain ⟨⟨ax, al⟩, y2⟩ := y
      exact ⟨_, .rtn _ ax al A rfl hA⟩
    rename_i g; rw [if_neg g]
    split at e3
    · rename_i g; rw [if_pos g]
      obtain ⟨q, r, rfl, ⟨j, j1, rfl⟩, rfl⟩ := e3
      obtain ⟨A, hA⟩ := R0 j j1
      generalize RR ts (sG ts n) 0 j = y at hA ⊢
      obtain ⟨⟨ax, al⟩, y2⟩ := y
      exact ⟨_, .doo _ ax al A rfl hA⟩
    rename_i g; rw [if_neg g]
    obtain ⟨q, r, rfl, ⟨j, j1, rfl⟩, q1, r1, rfl, ⟨i1, i2, rfl⟩, rfl⟩ := e3
    obtain ⟨A, hA⟩ := R0 j j1
    obtain ⟨C, hC⟩ := R0 i1 i2
    obtain ⟨y, hy⟩ : ∃ y, RR ts (sG ts n) 0 j = y := ⟨_, rfl⟩
    obtain ⟨v, hv⟩ : ∃ y, RR ts (sG ts n) 0 i1 = y := ⟨_, rfl⟩
    rw [hy] at hA ⊢
    rw [hv] at hC ⊢
    obtain ⟨⟨ax, al⟩, y2⟩ := y
    obtain ⟨⟨bx, bl⟩, v2⟩ := v
    exact ⟨_, .set' _ ax bx al bl A C rfl hA hC⟩
end
end Go.Proofs.Ythkfdheoakbfnaa.am
end
section
namespace Go.Proofs.Ythkfdheoakbfnaa.am
open vt
set_option linter.unusedVariables false
section
variable {ts : List Tok}
theorem litG_ex (hT : TkS ts) {i : Nat} (h : (litG ts i).2.2 = 0) : EX (litG ts i).1 := by
  unfold litG at h ⊢
  split
  · exact ⟨_, .num _ rfl (hT _).2.1 (hT _).2.2⟩
  rename_i c; rw [if_neg c] at h
  split
  · exact ⟨_, .tru _ rfl rfl⟩
  rename_i c; rw [if_neg c] at h
  split
  · exact ⟨_, .fls _ rfl rfl⟩
  · rename_i c; rw [if_neg c] at h; simp [bad7] at h
theorem partG_ex (hT : TkS ts) {i : Nat} (h : (partG ts i).2.2 = 0) : FX (partG ts i).1 := by
  unfold partG at h ⊢
  obtain ⟨b, s', qs, e1, e2, e3⟩ := it_form _ _ _ _ h
  have hs : s'.size ≤ 8192 := by
    rcases e2 with rfl | ⟨j, rfl⟩
    · decide
    · exact (hT j).1
  rw [e1]
  obtain ⟨q, r, rfl, ⟨j, j1, rfl⟩, rfl⟩ := e3
  obtain ⟨A, hA⟩ := tyG_ex hT _ _ j1
  show FX (.mk _ [(Ty9 ts 1 j).1])
  have hA : WTp (Ty9 ts 1 j).1 A := hA
  generalize Ty9 ts 1 j = y at hA ⊢
  obtain ⟨⟨ax, al⟩, y2⟩ := y
  exact ⟨_, .mk _ ax al A hs hA⟩
theorem parG_ex (hT : TkS ts) {i : Nat} (h : (parG ts i).2.2 = 0) : ∃ x l, (parG ts i).1 = .mk x l ∧ ∀ d ∈ l, FX d := by
  unfold parG finC at h ⊢
  split
  · rename_i c; rw [if_pos c] at h; exact absurd h c
  · rename_i c
    have c : (cloG ts (partG ts) i true sParO sParS).2.2 = 0 := by simpa using c
    exact ⟨_, _, rfl, cloG_all (Q := FX) (fun i h => partG_ex hT h) c⟩
theorem lpF_all (hT : TkS ts) : ∀ (m i : Nat) (acc : List VT), (∀ d ∈ acc, FX d) → (lpF ts m i acc).2.2 = 0 → ∀ d ∈ (lpF ts m i acc).1, FX d
  | 0, i, acc, ha, h => by simp [lpF] at h
  | m + 1, i, acc, ha, h => by
    unfold lpF at h ⊢
    split
    · exact ha
    rename_i c; rw [if_neg c] at h
    split
    · rename_i c; rw [if_pos c] at h; exact absurd h c
    rename_i c; rw [if_neg c] at h
    have c : (partG ts i).2.2 = 0 := by simpa using c
    split
    · rename_i c2; rw [if_pos c2] at h
      refine lpF_all hT m _ _ (fun d hd => ?_) h
      rcases List.mem_append.1 hd with hd | hd
      · exact ha d hd
      · rw [List.mem_singleton.1 hd]; exact partG_ex hT c
    · rename_i c2; rw [if_neg c2] at h; exact absurd (show (6 : Int) = 0 from h) (by decide)
theorem recG_ex (hT : TkS ts) {i : Nat} (h : (recG ts i).2.2 = 0) : DX (recG ts i).1 := by
  unfold recG at h ⊢
  split
  · rename_i c; rw [if_pos c] at h
    split
    · rename_i c; rw [if_pos c] at h
      unfold finC at h ⊢
      split
      · rename_i c; rw [if_pos c] at h; exact absurd h c
      · rename_i c
        have c : (lpF ts (ts.length + 1) (i + 3) []).2.2 = 0 := by simpa using c
        obtain ⟨Ws, h1, h2⟩ := all_words (R := WF) (lpF_all hT _ _ _ (fun d hd => by cases hd) c)
        exact ⟨_, .rec' _ _ Ws rfl (hT _).1 h1 h2⟩
    · rename_i c; rw [if_neg c] at h; simp [bad7] at h
  · rename_i c; rw [if_neg c] at h; simp [bad7] at h
theorem fn_ex (hT : TkS ts) {a b : Nat} {n : Int} (hn : n = 0 ∨ n = 1) {s : ByteArray} (hs : s.size ≤ 8192) {l : List It} (hl : l = [.sub 4, .sgn sCol, .sub 1, .sub 2]) {qs : List VT} (e3 : FitI (R9 ts) (fun q => ∃ j, q = emB ts j) l qs) : DX (mk7 ts a b 33 n s ([] ++ qs)).1 := by
  subst hl
  obtain ⟨q, r, rfl, ⟨j, j1, rfl⟩, q1, r1, rfl, ⟨i1, i2, rfl⟩, q2, r2, rfl, ⟨j2, j3, rfl⟩, rfl⟩ := e3
  have f4 : R9 ts 4 j = parG ts j := by unfold R9; rw [if_neg (by decide), if_neg (by decide), if_neg (by decide)]
  have f1 : R9 ts 1 i1 = tyG ts (ts.length + 1) i1 := by unfold R9; rw [if_neg (by decide), if_pos rfl]
  have f2 : R9 ts 2 j2 = blG ts (sG ts (ts.length + 1)) j2 := by unfold R9; rw [if_pos rfl]; rfl
  rw [f4] at j1 ⊢
  rw [f1] at i2 ⊢
  rw [f2] at j3 ⊢
  obtain ⟨px, pl, hp, hpl⟩ := parG_ex hT j1
  rw [hp]
  obtain ⟨Ws, w1, w2⟩ := all_words (R := WF) hpl
  obtain ⟨A, hA⟩ := tyG_ex hT _ _ i2
  obtain ⟨kC, C, hC⟩ := blG_bx (sG_sx hT _) j3
  generalize tyG ts (ts.length + 1) i1 = y at hA ⊢
  obtain ⟨⟨ax, al⟩, y2⟩ := y
  generalize blG ts (sG ts (ts.length + 1)) j2 = z at hC kC ⊢
  obtain ⟨⟨cx, cl⟩, z2⟩ := z
  rcases hn with rfl | rfl
  · exact ⟨_, .fn _ px ax cx pl al cl Ws A C rfl rfl hs w1 w2 hA kC hC⟩
  · exact ⟨_, .pub _ px ax cx pl al cl Ws A C rfl rfl hs w1 w2 hA kC hC⟩
theorem declG_ex (hT : TkS ts) {i : Nat} (h : (declG ts i).2.2 = 0) : DX (declG ts i).1 := by
  have f3 : ∀ j, R9 ts 3 j = litG ts j := fun j => by unfold R9; rw [if_neg (by decide), if_neg (by decide), if_pos rfl]
  have f1 : ∀ j, R9 ts 1 j = tyG ts (ts.length + 1) j := fun j => by unfold R9; rw [if_neg (by decide), if_pos rfl]
  unfold declG at h ⊢
  split
  · rename_i c; rw [if_pos c] at h
    obtain ⟨b, s', qs, e1, e2, e3⟩ := it_form _ _ _ _ h
    have hs : s'.size ≤ 8192 := by
      rcases e2 with rfl | ⟨j, rfl⟩
      · decide
      · exact (hT j).1
    rw [e1]
    obtain ⟨q, r, rfl, ⟨j, j1, rfl⟩, rfl⟩ := e3
    rw [f3] at j1 ⊢
    obtain ⟨A, hA⟩ := litG_ex hT j1
    generalize litG ts j = y at hA ⊢
    obtain ⟨⟨ax, al⟩, y2⟩ := y
    exact ⟨_, .dfn _ ax al A rfl hs hA⟩
  rename_i c; rw [if_neg c] at h
  split
  · rename_i c; rw [if_pos c] at h
    obtain ⟨b, s', qs, e1, e2, e3⟩ := it_form _ _ _ _ h
    have hs : s'.size ≤ 8192 := by
      rcases e2 with rfl | ⟨j, rfl⟩
      · decide
      · exact (hT j).1
    rw [e1]
    obtain ⟨q, r, rfl, ⟨j, j1, rfl⟩, rfl⟩ := e3
    rw [f1] at j1 ⊢
    obtain ⟨A, hA⟩ := tyG_ex hT _ _ j1
    generalize tyG ts (ts.length + 1) j = y at hA ⊢
    obtain ⟨⟨ax, al⟩, y2⟩ := y
    exact ⟨_, .var' _ ax al A rfl hs hA⟩
  rename_i c; rw [if_neg c] at h
  split
  · rename_i c; rw [if_pos c] at h
    obtain ⟨b, s', qs, e1, e2, e3⟩ := it_form _ _ _ _ h
    have hs : s'.size ≤ 8192 := by
      rcases e2 with rfl | ⟨j, rfl⟩
      · decide
      · exact (hT j).1
    rw [e1]
    exact fn_ex hT (.inr rfl) hs rfl e3
  rename_i c; rw [if_neg c] at h
  split
  · rename_i c; rw [if_pos c] at h
    obtain ⟨b, s', qs, e1, e2, e3⟩ := it_form _ _ _ _ h
    have hs : s'.size ≤ 8192 := by
      rcases e2 with rfl | ⟨j, rfl⟩
      · decide
      · exact (hT j).1
    rw [e1]
    exact fn_ex hT (.inl rfl) hs rfl e3
  rename_i c; rw [if_neg c] at h
  split
  · rename_i c; rw [if_pos c] at h; exact recG_ex hT h
  · rename_i c; rw [if_neg c] at h; simp [bad7] at h
theorem lpU_ex (hT : TkS ts) : ∀ (m i : Nat) (acc : List VT), (∀ d ∈ acc, DX d) → ∀ d ∈ (lpU ts m i acc).1, DX d
  | 0, i, acc, h => by rw [lpU]; exact h
  | m + 1, i, acc, h => by
    rw [lpU]
    by_cases h0 : ts.length ≤ i + 1
    · rw [if_pos h0]; exact h
    rw [if_neg h0]
    by_cases h1 : (declG ts i).2.2 ≠ 0
    · rw [if_pos h1]; exact h
    · rw [if_neg h1]
      have h1 : (declG ts i).2.2 = 0 := by simpa using h1
      refine lpU_ex hT m _ _ (fun d hd => ?_)
      rcases List.mem_append.1 hd with hd | hd
      · exact h d hd
      · rw [List.mem_singleton.1 hd]; exact declG_ex hT h1
end
theorem toks_sml (s : ByteArray) (hs : s.size ≤ 8192) : ∀ n i, s.size - i ≤ n → i ≤ s.size → ∀ x ∈ (lx.toks s i).1, x.s.size ≤ 8192 := by
  have he : (lx.tkEnd s).s.size ≤ 8192 := by show (⟨#[]⟩ : ByteArray).size ≤ 8192; decide
  have hx : ∀ a b, (s.extract a b).size ≤ 8192 := fun a b => by rw [ByteArray.size_extract]; omega
  intro n
  induction n with
  | zero =>
    intro i hn hi x hx'
    have hnx := lx.nx_le hi
    rw [lx.toks, dif_neg (by omega)] at hx'
    rw [List.mem_singleton.1 hx']; exact he
  | succ n ih =>
    intro i hn hi x hx'
    have hnx := lx.nx_le hi
    by_cases h1 : lx.nx s i < s.size; rotate_left
    · rw [lx.toks, dif_neg (by omega)] at hx'
      rw [List.mem_singleton.1 hx']; exact he
    by_cases h2 : (lx.on s (lx.nx s i)).2 = 0; rotate_left
    · rw [lx.toks, dif_pos ⟨h1, hi⟩, dif_neg h2] at hx'
      cases hx'
    obtain ⟨hf, j, hj, hlt, hle⟩ := lx.on_to h1 h2
    rw [lx.toks, dif_pos ⟨h1, hi⟩, dif_pos h2] at hx'
    simp only at hx'
    have hone : (lx.on s (lx.nx s i)).1.s.size ≤ 8192 := by
      unfold lx.on
      split
      · split
        · decide
        · exact hx _ _
      · split
        · split
          · decide
          · show (⟨#[]⟩ : ByteArray).size ≤ 8192; decide
        · split
          · decide
          · exact hx _ _
    obtain ⟨y, hy⟩ : ∃ y, (lx.on s (lx.nx s i)).1 = y := ⟨_, rfl⟩
    rw [hy] at hj hx' hone
    have hjt : y.t.toNat = j := by rw [hj]; simp
    rw [hjt] at hx'
    by_cases h3 : (lx.toks s j).2.2 = 0
    · rw [if_pos h3] at hx'
      rcases List.mem_cons.1 hx' with rfl | hx'
      · exact hone
      · exact ih j (by omega) hle x hx'
    · rw [if_neg h3] at hx'
      exact ih j (by omega) hle x hx'
theorem tok_tks {s : ByteArray} (h : (tokG s).2.2 = 0) : TkS (tokG s).1 := by
  have hto := tok_to (tok_ok h)
  intro j
  rcases Nat.lt_or_ge j (tokG s).1.length with hj | hj
  · have hx : (tokG s).1[j]? = some ((tokG s).1[j]'hj) := List.getElem?_eq_getElem hj
    refine ⟨?_, (hto.1 j hj).1.1, (hto.1 j hj).1.2⟩
    rw [nxt_some hx]
    have hm := List.getElem_mem hj
    generalize (tokG s).1[j]'hj = y at hm
    unfold tokG lx.tokens at hm h
    by_cases hb : 8192 < s.size
    · rw [if_pos hb] at h; exact absurd (show (3 : Int) = 0 from h) (by decide)
    rw [if_neg hb] at hm
    obtain ⟨z, hz, rfl⟩ := List.mem_map.1 hm
    exact toks_sml s (by omega) s.size 0 (Nat.sub_le _ _) (Nat.zero_le _) z hz
  · rw [nxt_none hj]; exact ⟨by decide, by decide, by decide⟩
theorem unit_dx (s : ByteArray) {x : Lab} {l : List VT} (h : (unitG s).1 = .mk x l) : ∀ d ∈ l, DX d := by
  have hz : ∀ {x l}, z0 = .mk x l → ∀ d ∈ l, DX d := fun {x l} e d hd => by
    obtain ⟨rfl, rfl⟩ := (Tr.mk.injEq _ _ _ _).mp e
    cases hd
  unfold unitG at h
  split at h
  · exact hz h
  rename_i h0
  have h0 : (tokG s).2.2 = 0 := by simpa using h0
  unfold modG at h
  split at h
  · exact hz h
  split at h
  · exact hz h
  split at h
  · exact hz h
  · obtain ⟨rfl, rfl⟩ := (Tr.mk.injEq _ _ _ _).mp h
    exact lpU_ex (tok_tks h0) _ _ _ (fun d hd => by cases hd)
end Go.Proofs.Ythkfdheoakbfnaa.am
end
section
namespace Go.Proofs.Ythkfdheoakbfnaa.am
open vt
set_option linter.unusedVariables false
def sbs : List It → List Nat
  | [] => []
  | .sub w :: l => w :: sbs l
  | _ :: l => sbs l
theorem it_parts {ts : List Tok} {R : Nat → Nat → Got} {a : Nat} {k n : Int} : ∀ (l : List It) (tz : Nat) (s : ByteArray) (ps : List VT), It.els ∉ l → (itH ts R a k n l tz s ps).2.2 = 0 → ∃ b s' qs, (itH ts R a k n l tz s ps).1 = (mk7 ts a b k n s' (ps ++ qs)).1 ∧ qs.length = (sbs l).length ∧ ∀ (i w : Nat) q, (sbs l)[i]? = some w → qs[i]? = some q → ∃ j, (R w j).2.2 = 0 ∧ q = (R w j).1
  | [], tz, s, ps, hn, h => ⟨tz, s, [], by rw [itH, List.append_nil], rfl, fun i w q hw => by simp [sbs] at hw⟩
  | .sgn x :: l, tz, s, ps, hn, h => by
    rw [itG_sgn] at h ⊢
    by_cases c : isK x (nxt ts tz) = true
    · rw [if_pos c] at h ⊢
      exact it_parts l _ _ _ (fun h => hn (.tail _ h)) h
    · rw [if_neg c] at h; simp [bad7] at h
  | .nam :: l, tz, s, ps, hn, h => by
    rw [itG_nam] at h ⊢
    by_cases c : (nxt ts tz).k = 1
    · rw [if_pos c] at h ⊢
      exact it_parts l _ _ _ (fun h => hn (.tail _ h)) h
    · rw [if_neg c] at h; simp [bad7] at h
  | .sub w :: l, tz, s, ps, hn, h => by
    rw [itG_sub] at h ⊢
    by_cases c : (R w tz).2.2 = 0
    · rw [if_pos c] at h ⊢
      obtain ⟨b, s', qs, e1, e2, e3⟩ := it_parts l _ _ _ (fun h => hn (.tail _ h)) h
      refine ⟨b, s', (R w tz).1 :: qs, by rw [e1, List.append_assoc]; rfl, by simp [sbs, e2], fun i v q hv hq => ?_⟩
      cases i with
      | zero =>
        simp [sbs] at hv hq
        subst hv hq
        exact ⟨tz, c, rfl⟩
      | succ i =>
        simp [sbs] at hv hq
        exact e3 i v q hv hq
    · rw [if_neg c] at h; exact absurd h c
  | .els :: l, tz, s, ps, hn, h => absurd (.head _) hn
end Go.Proofs.Ythkfdheoakbfnaa.am
end
section
namespace Go.Proofs.Ythkfdheoakbfnaa.am
open vt
set_option linter.unusedVariables false
theorem scp_we {t : VT} {W : List ByteArray} (h : WE t W) : scpT t := by
  induction h with
  | num x h _ _ => exact (scpT_mk _ _).2 ⟨fun _ => rfl, fun _ => rfl, fun y hy => by cases hy⟩
  | tru x h _ => exact (scpT_mk _ _).2 ⟨fun _ => rfl, fun _ => rfl, fun y hy => by cases hy⟩
  | fls x h _ => exact (scpT_mk _ _).2 ⟨fun _ => rfl, fun _ => rfl, fun y hy => by cases hy⟩
  | read x h => exact (scpT_mk _ _).2 ⟨fun _ => rfl, fun _ => rfl, fun y hy => by cases hy⟩
  | nam x h _ => exact (scpT_mk _ _).2 ⟨fun _ => rfl, fun _ => rfl, fun y hy => by cases hy⟩
  | bin x a c al cl A C h h1 h2 ha hc ia ic => exact (scpT_mk _ _).2 ⟨fun e => by omega, fun e => by omega, fun y hy => by simp at hy; rcases hy with rfl | rfl <;> assumption⟩
  | neg x a al A h hn ha ia => exact (scpT_mk _ _).2 ⟨fun e => by omega, fun e => by omega, fun y hy => by simp at hy; subst hy; assumption⟩
  | nt x a al A h hn ha ia => exact (scpT_mk _ _).2 ⟨fun e => by omega, fun e => by omega, fun y hy => by simp at hy; subst hy; assumption⟩
  | idx x a c al cl A C h ha hc ia ic => exact (scpT_mk _ _).2 ⟨fun e => by omega, fun e => by omega, fun y hy => by simp at hy; rcases hy with rfl | rfl <;> assumption⟩
  | fld x a al A h hs ha ia => exact (scpT_mk _ _).2 ⟨fun e => by omega, fun e => by omega, fun y hy => by simp at hy; subst hy; assumption⟩
  | lst x l Ws h hl hw ih => exact (scpT_mk _ _).2 ⟨fun e => by omega, fun e => by omega, fun y hy => by
      obtain ⟨i, hi⟩ := List.mem_iff_getElem?.1 hy
      obtain ⟨W, hW⟩ := getElem?_lift hl hi
      exact ih i y W hi hW⟩
  | mak x l Ws h hs hl hw ih => exact (scpT_mk _ _).2 ⟨fun e => by omega, fun e => by omega, fun y hy => by
      obtain ⟨i, hi⟩ := List.mem_iff_getElem?.1 hy
      obtain ⟨W, hW⟩ := getElem?_lift hl hi
      exact ih i y W hi hW⟩
  | cal x l Ws h hs hl hw ih => exact (scpT_mk _ _).2 ⟨fun e => by omega, fun e => by omega, fun y hy => by
      obtain ⟨i, hi⟩ := List.mem_iff_getElem?.1 hy
      obtain ⟨W, hW⟩ := getElem?_lift hl hi
      exact ih i y W hi hW⟩
  | ext x l Ws h hs hl hw ih => exact (scpT_mk _ _).2 ⟨fun e => by omega, fun e => by omega, fun y hy => by
      obtain ⟨i, hi⟩ := List.mem_iff_getElem?.1 hy
      obtain ⟨W, hW⟩ := getElem?_lift hl hi
      exact ih i y W hi hW⟩
theorem scp_wt {t : VT} {W : List ByteArray} (h : WTp t W) : scpT t := by
  induction h with
  | int x h => exact (scpT_mk _ _).2 ⟨fun _ => rfl, fun _ => rfl, fun y hy => by cases hy⟩
  | bool x h => exact (scpT_mk _ _).2 ⟨fun _ => rfl, fun _ => rfl, fun y hy => by cases hy⟩
  | arr x a al A h h0 h1 ha ia => exact (scpT_mk _ _).2 ⟨fun e => by omega, fun e => by omega, fun y hy => by simp at hy; subst hy; assumption⟩
  | rec' x h hs => exact (scpT_mk _ _).2 ⟨fun _ => rfl, fun _ => rfl, fun y hy => by cases hy⟩
theorem scp_ws {t : VT} {W : List ByteArray} (h : WS t W) : scpT t := by
  induction h with
  | blk x l Ws h hl hw ih => exact (scpT_mk _ _).2 ⟨fun e => by omega, fun e => by omega, fun y hy => by
      obtain ⟨i, hi⟩ := List.mem_iff_getElem?.1 hy
      obtain ⟨W, hW⟩ := getElem?_lift hl hi
      exact ih i y W hi hW⟩
  | lt x a al A h hs ha => exact (scpT_mk _ _).2 ⟨fun e => by omega, fun e => by omega, fun y hy => by simp at hy; subst hy; exact scp_we ha⟩
  | new x a al A h hs ha => exact (scpT_mk _ _).2 ⟨fun e => by omega, fun e => by omega, fun y hy => by simp at hy; subst hy; exact scp_wt ha⟩
  | set' x a c al cl A C h ha hc => exact (scpT_mk _ _).2 ⟨fun e => by omega, fun e => by omega, fun y hy => by simp at hy; rcases hy with rfl | rfl <;> first | exact scp_we ha | exact scp_we hc⟩
  | ifn x a c e al cl A C h ha hk hc ic => exact (scpT_mk _ _).2 ⟨fun e => by omega, fun e => by omega, fun y hy => by
      simp at hy
      rcases hy with rfl | rfl | rfl
      · exact scp_we ha
      · exact ic
      · exact (scpT_mk _ _).2 ⟨fun _ => rfl, fun _ => rfl, fun y hy => by cases hy⟩⟩
  | ife x a c e al cl el A C E h ha hk hc he hn hE ic iE => exact (scpT_mk _ _).2 ⟨fun e => by omega, fun e => by omega, fun y hy => by
      simp at hy
      rcases hy with rfl | rfl | rfl
      · exact scp_we ha
      · exact ic
      · exact iE⟩
  | whl x a c al cl A C h ha hk hc ic => exact (scpT_mk _ _).2 ⟨fun e => by omega, fun e => by omega, fun y hy => by simp at hy; rcases hy with rfl | rfl <;> first | exact scp_we ha | exact ic⟩
  | frr x a b c al bl cl A B C h hs ha hb hk hc ic => exact (scpT_mk _ _).2 ⟨fun e => by omega, fun e => by omega, fun y hy => by simp at hy; rcases hy with rfl | rfl | rfl <;> first | exact scp_we ha | exact scp_we hb | exact ic⟩
  | prn x a al A h ha => exact (scpT_mk _ _).2 ⟨fun e => by omega, fun e => by omega, fun y hy => by simp at hy; subst hy; exact scp_we ha⟩
  | rtn x a al A h ha => exact (scpT_mk _ _).2 ⟨fun e => by omega, fun e => by omega, fun y hy => by simp at hy; subst hy; exact scp_we ha⟩
  | doo x a al A h ha => exact (scpT_mk _ _).2 ⟨fun e => by omega, fun e => by omega, fun y hy => by simp at hy; subst hy; exact scp_we ha⟩
def KD (d : VT) : Prop := (d.lab.k = 30 → ∀ y ∈ d.kids, y.lab.k = 34) ∧ (d.lab.k = 33 → ∀ p, d.kids[0]? = some p → p.lab.k = 35 ∧ p.lab.n = 0 ∧ ∀ y ∈ p.kids, y.lab.k = 34)
theorem kd_no {x : Lab} {l : List VT} (h : x.k ≠ 30) (h' : x.k ≠ 33) : KD (.mk x l) := ⟨fun e => absurd e h, fun e => absurd e h'⟩
section
variable {ts : List Tok}
theorem partG_k {i : Nat} (h : (partG ts i).2.2 = 0) : (partG ts i).1.lab.k = 34 := by
  unfold partG at h ⊢
  obtain ⟨b, s', qs, e1, e2, e3⟩ := it_form _ _ _ _ h
  rw [e1]; rfl
theorem parG_k {i : Nat} (h : (parG ts i).2.2 = 0) : (parG ts i).1.lab.k = 35 ∧ (parG ts i).1.lab.n = 0 ∧ ∀ d ∈ (parG ts i).1.kids, d.lab.k = 34 := by
  unfold parG finC at h ⊢
  split
  · rename_i c; rw [if_pos c] at h; exact absurd h c
  · rename_i c
    have c : (cloG ts (partG ts) i true sParO sParS).2.2 = 0 := by simpa using c
    exact ⟨rfl, rfl, cloG_all (Q := fun d => d.lab.k = 34) (fun i h => partG_k h) c⟩
theorem lpF_k : ∀ (m i : Nat) (acc : List VT), (∀ d ∈ acc, d.lab.k = 34) → (lpF ts m i acc).2.2 = 0 → ∀ d ∈ (lpF ts m i acc).1, d.lab.k = 34
  | 0, i, acc, ha, h => by simp [lpF] at h
  | m + 1, i, acc, ha, h => by
    unfold lpF at h ⊢
    split
    · exact ha
    rename_i c; rw [if_neg c] at h
    split
    · rename_i c; rw [if_pos c] at h; exact absurd h c
    rename_i c; rw [if_neg c] at h
    have c : (partG ts i).2.2 = 0 := by simpa using c
    split
    · rename_i c2; rw [if_pos c2] at h
      refine lpF_k m _ _ (fun d hd => ?_) h
      rcases List.mem_append.1 hd with hd | hd
      · exact ha d hd
      · rw [List.mem_singleton.1 hd]; exact partG_k c
    · rename_i c2; rw [if_neg c2] at h; exact absurd (show (6 : Int) = 0 from h) (by decide)
theorem it_kd {a : Nat} {k n : Int} {l : List It} {tz : Nat} {s : ByteArray} (hn : It.els ∉ l) (h30 : k ≠ 30) (hk : k ≠ 33 ∨ sbs l = [4, 1, 2]) (h : (itH ts (R9 ts) a k n l tz s []).2.2 = 0) : KD (itH ts (R9 ts) a k n l tz s []).1 := by
  obtain ⟨b, s', qs, e1, e2, e3⟩ := it_parts l _ _ _ hn h
  rw [e1]
  show KD (.mk _ ([] ++ qs))
  rcases hk with hk | hk
  · exact kd_no h30 hk
  · refine ⟨fun e => absurd e h30, fun _ p hp => ?_⟩
    rw [Tr.kids, List.nil_append] at hp
    obtain ⟨j, j1, rfl⟩ := e3 0 4 p (by rw [hk]; rfl) hp
    have f4 : R9 ts 4 j = parG ts j := by unfold R9; rw [if_neg (by decide), if_neg (by decide), if_neg (by decide)]
    rw [f4] at j1 ⊢
    exact parG_k j1
theorem decl_kd {i : Nat} (h : (declG ts i).2.2 = 0) : KD (declG ts i).1 := by
  unfold declG at h ⊢
  split
  · rename_i c; rw [if_pos c] at h; exact it_kd (by simp) (by decide) (.inl (by decide)) h
  rename_i c; rw [if_neg c] at h
  split
  · rename_i c; rw [if_pos c] at h; exact it_kd (by simp) (by decide) (.inl (by decide)) h
  rename_i c; rw [if_neg c] at h
  split
  · rename_i c; rw [if_pos c] at h; exact it_kd (by simp) (by decide) (.inr rfl) h
  rename_i c; rw [if_neg c] at h
  split
  · rename_i c; rw [if_pos c] at h; exact it_kd (by simp) (by decide) (.inr rfl) h
  rename_i c; rw [if_neg c] at h
  split
  · rename_i c; rw [if_pos c] at h
    unfold recG at h ⊢
    split
    · rename_i c; rw [if_pos c] at h
      split
      · rename_i c; rw [if_pos c] at h
        unfold finC at h ⊢
        split
        · rename_i c; rw [if_pos c] at h; exact absurd h c
        · rename_i c
          have c : (lpF ts (ts.length + 1) (i + 3) []).2.2 = 0 := by simpa using c
          exact ⟨fun _ => lpF_k _ _ _ (fun d hd => by cases hd) c, fun e => absurd (show (30 : Int) = 33 from e) (by decide)⟩
      · rename_i c; rw [if_neg c] at h; simp [bad7] at h
    · rename_i c; rw [if_neg c] at h; simp [bad7] at h
  · rename_i c; rw [if_neg c] at h; simp [bad7] at h
theorem lpU_kd : ∀ (m i : Nat) (acc : List VT), (∀ d ∈ acc, KD d) → ∀ d ∈ (lpU ts m i acc).1, KD d
  | 0, i, acc, h => by rw [lpU]; exact h
  | m + 1, i, acc, h => by
    rw [lpU]
    by_cases h0 : ts.length ≤ i + 1
    · rw [if_pos h0]; exact h
    rw [if_neg h0]
    by_cases h1 : (declG ts i).2.2 ≠ 0
    · rw [if_pos h1]; exact h
    · rw [if_neg h1]
      have h1 : (declG ts i).2.2 = 0 := by simpa using h1
      refine lpU_kd m _ _ (fun d hd => ?_)
      rcases List.mem_append.1 hd with hd | hd
      · exact h d hd
      · rw [List.mem_singleton.1 hd]; exact decl_kd h1
end
theorem unit_kd (s : ByteArray) {x : Lab} {l : List VT} (h : (unitG s).1 = .mk x l) : ∀ d ∈ l, KD d := by
  have hz : ∀ {x l}, z0 = .mk x l → ∀ d ∈ l, KD d := fun {x l} e d hd => by
    obtain ⟨rfl, rfl⟩ := (Tr.mk.injEq _ _ _ _).mp e
    cases hd
  unfold unitG at h
  split at h
  · exact hz h
  unfold modG at h
  split at h
  · exact hz h
  split at h
  · exact hz h
  split at h
  · exact hz h
  · obtain ⟨rfl, rfl⟩ := (Tr.mk.injEq _ _ _ _).mp h
    exact lpU_kd _ _ _ (fun d hd => by cases hd)
theorem parts_scp {l : List VT} {Ws : List (List ByteArray)} (hl : l.length = Ws.length) (hw : ∀ (i : Nat) t W, l[i]? = some t → Ws[i]? = some W → WF t W) (hk : ∀ y ∈ l, y.lab.k = 34) : ∀ q ∈ l, scpP q := fun q hq => by
  obtain ⟨i, hi⟩ := List.mem_iff_getElem?.1 hq
  obtain ⟨W, hW⟩ := getElem?_lift hl hi
  refine ⟨hk q hq, ?_⟩
  cases hw i q W hi hW with
  | mk x a al A hs ha => intro y hy; rw [Tr.kids, List.mem_singleton] at hy; subst hy; exact scp_wt ha
theorem unit_scp (s : ByteArray) {x : Lab} {l : List VT} (h : (unitG s).1 = .mk x l) : ∀ d ∈ l, scpD d := fun d hd => by
  obtain ⟨W, hW⟩ := unit_dx s h d hd
  obtain ⟨k1, k2⟩ := unit_kd s h d hd
  unfold scpD
  cases hW with
  | rec' x l Ws h hs hl hw => rw [Tr.lab, if_pos h]; exact parts_scp hl hw (k1 h)
  | dfn x a al A h hs ha => rw [Tr.lab, if_neg (by omega), if_neg (by omega)]; exact (scpT_mk _ _).2 ⟨fun e => by omega, fun e => by omega, fun y hy => by simp at hy; subst hy; exact scp_we ha⟩
  | var' x a al A h hs ha => rw [Tr.lab, if_neg (by omega), if_neg (by omega)]; exact (scpT_mk _ _).2 ⟨fun e => by omega, fun e => by omega, fun y hy => by simp at hy; subst hy; exact scp_wt ha⟩
  | fn x p r b pl rl bl Ws R B h hn hs hl hw hr hk hb =>
    obtain ⟨q0, q1, q2⟩ := k2 h _ rfl
    rw [Tr.lab, if_neg (by omega), if_pos h]
    exact ⟨p, pl, _, _, rfl, q0, q1, parts_scp hl hw q2, scp_wt hr, scp_ws hb⟩
  | pub x p r b pl rl bl Ws R B h hn hs hl hw hr hk hb =>
    obtain ⟨q0, q1, q2⟩ := k2 h _ rfl
    rw [Tr.lab, if_neg (by omega), if_pos h]
    exact ⟨p, pl, _, _, rfl, q0, q1, parts_scp hl hw q2, scp_wt hr, scp_ws hb⟩
end Go.Proofs.Ythkfdheoakbfnaa.am
end
