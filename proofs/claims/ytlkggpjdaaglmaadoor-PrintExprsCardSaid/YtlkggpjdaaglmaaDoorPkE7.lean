import Derived.Lib.Join
import Derived.Test.YtlkggpjdaaglmaaDoorPkE6
section
namespace Go.Proofs.YtlkggpjdaaglmaaDoor.am
open vt
set_option linter.unusedVariables false
abbrev sp : ByteArray := ⟨#[32]⟩
def J (W : List ByteArray) : ByteArray := lx.mkB (Lib.join (W.map (·.data.toList)) [32])
theorem mkB_app (a b : List UInt8) : lx.mkB (a ++ b) = lx.mkB a ++ lx.mkB b := by
  unfold lx.mkB
  apply ByteArray.ext
  simp
theorem J_nil : J [] = ⟨#[]⟩ := rfl
theorem J_one (a : ByteArray) : J [a] = a := by
  unfold J
  rw [List.map_cons, List.map_nil, Lib.join_one]; rfl
theorem jt_app (a b : List (List UInt8)) : Lib.joinTail [32] (a ++ b) = Lib.joinTail [32] a ++ Lib.joinTail [32] b := by
  unfold Lib.joinTail; simp
theorem J_app {A B : List ByteArray} (hA : A ≠ []) (hB : B ≠ []) : J (A ++ B) = J A ++ sp ++ J B := by
  obtain ⟨a, A', rfl⟩ := List.exists_cons_of_ne_nil hA
  obtain ⟨b, B', rfl⟩ := List.exists_cons_of_ne_nil hB
  unfold J
  have e : (32 : UInt8) :: b.data.toList = [32] ++ b.data.toList := rfl
  have h1 : Lib.join ((a :: A' ++ b :: B').map (·.data.toList)) [32] = Lib.join ((a :: A').map (·.data.toList)) [32] ++ [32] ++ Lib.join ((b :: B').map (·.data.toList)) [32] := by
    rw [List.map_append, List.map_cons, List.map_cons, List.cons_append, Lib.join_cons, jt_app, Lib.join_cons, Lib.join_cons]
    unfold Lib.joinTail
    simp
  rw [h1, mkB_app, mkB_app]
  rfl
theorem J_size_le {M : Nat} : ∀ (W : List ByteArray), (∀ w ∈ W, w.size ≤ M) → (J W).size ≤ W.length * (M + 1)
  | [], _ => by rw [J_nil]; exact Nat.zero_le _
  | [a], h => by
    rw [J_one]
    have := h a (.head _)
    simp; omega
  | a :: b :: r, h => by
    have ih := J_size_le (b :: r) (fun w hw => h w (.tail _ hw))
    have ha := h a (.head _)
    rw [show a :: b :: r = [a] ++ (b :: r) from rfl, J_app (by simp) (by simp), J_one, ByteArray.size_append, ByteArray.size_append]
    have : sp.size = 1 := rfl
    rw [List.length_append, List.length_singleton, Nat.add_mul]
    omega
def pre (sep : List ByteArray) : List (List ByteArray) → List ByteArray
  | [] => []
  | W :: r => W ++ (r.map (sep ++ ·)).flatten
theorem pre_snoc {sep : List ByteArray} (Ws : List (List ByteArray)) (W : List ByteArray) : pre sep (Ws ++ [W]) = pre sep Ws ++ ((if Ws = [] then [] else sep) ++ W) := by
  cases Ws with
  | nil => simp [pre]
  | cons a r => simp [pre]
theorem pre_take {sep : List ByteArray} {Ws : List (List ByteArray)} {k : Nat} {W : List ByteArray} (h : Ws[k]? = some W) : pre sep (Ws.take (k + 1)) = pre sep (Ws.take k) ++ ((if k = 0 then [] else sep) ++ W) := by
  have hk := (List.getElem?_eq_some_iff.1 h).1
  rw [List.take_add_one, h]
  show pre sep (Ws.take k ++ [W]) = _
  rw [pre_snoc]
  congr 2
  cases k with
  | zero => simp
  | succ k =>
    have : Ws.take (k + 1) ≠ [] := fun e => by
      have := congrArg List.length e
      rw [List.length_take, Nat.min_eq_left (by omega)] at this
      simp at this
    rw [if_neg this, if_neg (by omega)]
theorem pre_len {sep : List ByteArray} {Ws : List (List ByteArray)} : ∀ k, k ≤ Ws.length → (pre sep (Ws.take k)).length ≤ (pre sep Ws).length := fun k hk => by
  cases Ws with
  | nil => simp [pre]
  | cons a r =>
    cases k with
    | zero => simp [pre]
    | succ k =>
      rw [List.take_succ_cons]
      unfold pre
      rw [List.length_append, List.length_append]
      have : ((r.take k).map (sep ++ ·)).flatten.length ≤ ((r).map (sep ++ ·)).flatten.length := by
        have e := List.take_append_drop k r
        have : ((r).map (sep ++ ·)).flatten = ((r.take k).map (sep ++ ·)).flatten ++ ((r.drop k).map (sep ++ ·)).flatten := by rw [← List.flatten_append, ← List.map_append, e]
        rw [this, List.length_append]; omega
      omega
def opB (n : Int) : ByteArray × Int :=
  if n = 1 then (⟨#[124, 124]⟩, 1) else if n = 2 then (⟨#[38, 38]⟩, 2) else if n = 3 then (⟨#[61, 61]⟩, 3) else if n = 4 then (⟨#[33, 61]⟩, 3) else if n = 5 then (⟨#[60]⟩, 3) else if n = 6 then (⟨#[60, 61]⟩, 3)
  else if n = 7 then (⟨#[62]⟩, 3) else if n = 8 then (⟨#[62, 61]⟩, 3) else if n = 9 then (⟨#[43]⟩, 4) else if n = 10 then (⟨#[45]⟩, 4) else if n = 11 then (⟨#[42]⟩, 5) else if n = 12 then (⟨#[47]⟩, 5) else (⟨#[37]⟩, 5)
def tgh (x : Lab) : Int := if x.k = 10 then (opB x.n).2 else if x.k = 11 then 6 else 7
def Opd (x : Lab) : Prop := x.k = 10 → 1 ≤ x.n ∧ x.n ≤ 13
def par (b : Int) (A : List ByteArray) (n : Int) : List ByteArray := if n ≤ b then A else [sParO] ++ A ++ [sParS]
abbrev wNum (n : Int) : ByteArray := lx.numT n
inductive WE : VT → List ByteArray → Prop
  | num (x : Lab) (h : x.k = 5) (h0 : -9223372036854775808 ≤ x.n) (h1 : x.n ≤ 9223372036854775807) : WE (.mk x []) [wNum x.n]
  | tru (x : Lab) (h : x.k = 6) (hn : x.n = 1) : WE (.mk x []) [wTrue]
  | fls (x : Lab) (h : x.k = 6) (hn : x.n = 0) : WE (.mk x []) [wFals]
  | read (x : Lab) (h : x.k = 18) : WE (.mk x []) [wRead]
  | nam (x : Lab) (h : x.k = 19) (hs : x.s.size ≤ 8192) : WE (.mk x []) [x.s]
  | bin (x a c : Lab) (al cl : List VT) (A C : List ByteArray) (h : x.k = 10) (h1 : 1 ≤ x.n) (h2 : x.n ≤ 13) (ha : WE (.mk a al) A) (hc : WE (.mk c cl) C) : WE (.mk x [.mk a al, .mk c cl]) (par (tgh a) A (if (opB x.n).2 = 3 then 4 else (opB x.n).2) ++ ([(opB x.n).1] ++ par (tgh c) C ((opB x.n).2 + 1)))
  | neg (x a : Lab) (al : List VT) (A : List ByteArray) (h : x.k = 11) (hn : x.n = 1) (ha : WE (.mk a al) A) : WE (.mk x [.mk a al]) ([sMin] ++ par (tgh a) A 6)
  | nt (x a : Lab) (al : List VT) (A : List ByteArray) (h : x.k = 11) (hn : x.n = 2) (ha : WE (.mk a al) A) : WE (.mk x [.mk a al]) ([sNot] ++ par (tgh a) A 6)
  | idx (x a c : Lab) (al cl : List VT) (A C : List ByteArray) (h : x.k = 12) (ha : WE (.mk a al) A) (hc : WE (.mk c cl) C) : WE (.mk x [.mk a al, .mk c cl]) (par (tgh a) A 7 ++ ([sOpen] ++ (C ++ [sShut])))
  | fld (x a : Lab) (al : List VT) (A : List ByteArray) (h : x.k = 13) (hs : x.s.size ≤ 8192) (ha : WE (.mk a al) A) : WE (.mk x [.mk a al]) (par (tgh a) A 7 ++ ([sDot] ++ [x.s]))
  | lst (x : Lab) (l : List VT) (Ws : List (List ByteArray)) (h : x.k = 14) (hl : l.length = Ws.length) (hw : ∀ (i : Nat) t W, l[i]? = some t → Ws[i]? = some W → WE t W) : WE (.mk x l) ([sOpen] ++ (pre [sCom] Ws ++ [sShut]))
  | mak (x : Lab) (l : List VT) (Ws : List (List ByteArray)) (h : x.k = 15) (hs : x.s.size ≤ 8192) (hl : l.length = Ws.length) (hw : ∀ (i : Nat) t W, l[i]? = some t → Ws[i]? = some W → WE t W) : WE (.mk x l) ([wNew] ++ ([x.s] ++ ([sParO] ++ (pre [sCom] Ws ++ [sParS]))))
  | cal (x : Lab) (l : List VT) (Ws : List (List ByteArray)) (h : x.k = 16) (hs : x.s.size ≤ 8192) (hl : l.length = Ws.length) (hw : ∀ (i : Nat) t W, l[i]? = some t → Ws[i]? = some W → WE t W) : WE (.mk x l) ([x.s] ++ ([sParO] ++ (pre [sCom] Ws ++ [sParS])))
  | ext (x : Lab) (l : List VT) (Ws : List (List ByteArray)) (h : x.k = 17) (hs : x.s.size ≤ 8192) (hl : l.length = Ws.length) (hw : ∀ (i : Nat) t W, l[i]? = some t → Ws[i]? = some W → WE t W) : WE (.mk x l) ([sAt] ++ ([x.s] ++ ([sParO] ++ (pre [sCom] Ws ++ [sParS]))))
inductive WT : VT → List ByteArray → Prop
  | int (x : Lab) (h : x.k = 1) : WT (.mk x []) [wInt]
  | bool (x : Lab) (h : x.k = 2) : WT (.mk x []) [wBool]
  | arr (x a : Lab) (al : List VT) (A : List ByteArray) (h : x.k = 3) (h0 : -9223372036854775808 ≤ x.n) (h1 : x.n ≤ 9223372036854775807) (ha : WT (.mk a al) A) : WT (.mk x [.mk a al]) ([sOpen] ++ ([wNum x.n] ++ ([sShut] ++ A)))
  | rec' (x : Lab) (h : x.k = 4) (hs : x.s.size ≤ 8192) : WT (.mk x []) [x.s]
end Go.Proofs.YtlkggpjdaaglmaaDoor.am
end
section
namespace Go.Proofs.YtlkggpjdaaglmaaDoor.am
open vt
set_option linter.unusedVariables false
inductive WS : VT → List ByteArray → Prop
  | blk (x : Lab) (l : List VT) (Ws : List (List ByteArray)) (h : x.k = 29) (hl : l.length = Ws.length) (hw : ∀ (i : Nat) t W, l[i]? = some t → Ws[i]? = some W → WS t W) : WS (.mk x l) ([sBra] ++ (pre [] Ws ++ [sKet]))
  | lt (x a : Lab) (al : List VT) (A : List ByteArray) (h : x.k = 20) (hs : x.s.size ≤ 8192) (ha : WE (.mk a al) A) : WS (.mk x [.mk a al]) ([wLet] ++ ([x.s] ++ ([sIs] ++ (A ++ [sEnd]))))
  | new (x a : Lab) (al : List VT) (A : List ByteArray) (h : x.k = 21) (hs : x.s.size ≤ 8192) (ha : WT (.mk a al) A) : WS (.mk x [.mk a al]) ([wLet] ++ ([x.s] ++ ([sCol] ++ (A ++ [sEnd]))))
  | set' (x a c : Lab) (al cl : List VT) (A C : List ByteArray) (h : x.k = 22) (ha : WE (.mk a al) A) (hc : WE (.mk c cl) C) : WS (.mk x [.mk a al, .mk c cl]) (A ++ ([sIs] ++ (C ++ [sEnd])))
  | ifn (x a c e : Lab) (al cl : List VT) (A C : List ByteArray) (h : x.k = 23) (ha : WE (.mk a al) A) (hk : c.k = 29) (hc : WS (.mk c cl) C) : WS (.mk x [.mk a al, .mk c cl, .mk e []]) ([wIf] ++ (A ++ C))
  | ife (x a c e : Lab) (al cl el : List VT) (A C E : List ByteArray) (h : x.k = 23) (ha : WE (.mk a al) A) (hk : c.k = 29) (hc : WS (.mk c cl) C) (he : e.k = 29) (hn : el ≠ []) (hE : WS (.mk e el) E) : WS (.mk x [.mk a al, .mk c cl, .mk e el]) ([wIf] ++ (A ++ (C ++ ([wElse] ++ E))))
  | whl (x a c : Lab) (al cl : List VT) (A C : List ByteArray) (h : x.k = 24) (ha : WE (.mk a al) A) (hk : c.k = 29) (hc : WS (.mk c cl) C) : WS (.mk x [.mk a al, .mk c cl]) ([wWhil] ++ (A ++ C))
  | frr (x a b c : Lab) (al bl cl : List VT) (A B C : List ByteArray) (h : x.k = 25) (hs : x.s.size ≤ 8192) (ha : WE (.mk a al) A) (hb : WE (.mk b bl) B) (hk : c.k = 29) (hc : WS (.mk c cl) C) : WS (.mk x [.mk a al, .mk b bl, .mk c cl]) ([wFor] ++ ([x.s] ++ ([sIs] ++ (A ++ ([wTo] ++ (B ++ C))))))
  | prn (x a : Lab) (al : List VT) (A : List ByteArray) (h : x.k = 26) (ha : WE (.mk a al) A) : WS (.mk x [.mk a al]) ([wPrin] ++ (A ++ [sEnd]))
  | rtn (x a : Lab) (al : List VT) (A : List ByteArray) (h : x.k = 27) (ha : WE (.mk a al) A) : WS (.mk x [.mk a al]) ([wRet] ++ (A ++ [sEnd]))
  | doo (x a : Lab) (al : List VT) (A : List ByteArray) (h : x.k = 28) (ha : WE (.mk a al) A) : WS (.mk x [.mk a al]) ([wDo] ++ (A ++ [sEnd]))
inductive WF : VT → List ByteArray → Prop
  | mk (x a : Lab) (al : List VT) (A : List ByteArray) (hs : x.s.size ≤ 8192) (ha : WT (.mk a al) A) : WF (.mk x [.mk a al]) ([x.s] ++ ([sCol] ++ A))
inductive WD : VT → List ByteArray → Prop
  | rec' (x : Lab) (l : List VT) (Ws : List (List ByteArray)) (h : x.k = 30) (hs : x.s.size ≤ 8192) (hl : l.length = Ws.length) (hw : ∀ (i : Nat) t W, l[i]? = some t → Ws[i]? = some W → WF t W) : WD (.mk x l) ([wRec] ++ ([x.s] ++ ([sBra] ++ (pre [] (Ws.map (· ++ [sEnd])) ++ [sKet]))))
  | dfn (x a : Lab) (al : List VT) (A : List ByteArray) (h : x.k = 31) (hs : x.s.size ≤ 8192) (ha : WE (.mk a al) A) : WD (.mk x [.mk a al]) ([wConst] ++ ([x.s] ++ ([sIs] ++ (A ++ [sEnd]))))
  | var' (x a : Lab) (al : List VT) (A : List ByteArray) (h : x.k = 32) (hs : x.s.size ≤ 8192) (ha : WT (.mk a al) A) : WD (.mk x [.mk a al]) ([wVar] ++ ([x.s] ++ ([sCol] ++ (A ++ [sEnd]))))
  | fn (x p r b : Lab) (pl rl bl : List VT) (Ws : List (List ByteArray)) (R B : List ByteArray) (h : x.k = 33) (hn : x.n = 0) (hs : x.s.size ≤ 8192) (hl : pl.length = Ws.length) (hw : ∀ (i : Nat) t W, pl[i]? = some t → Ws[i]? = some W → WF t W) (hr : WT (.mk r rl) R) (hk : b.k = 29) (hb : WS (.mk b bl) B) : WD (.mk x [.mk p pl, .mk r rl, .mk b bl]) ([wFn] ++ ([x.s] ++ ([sParO] ++ (pre [sCom] Ws ++ ([sParS] ++ ([sCol] ++ (R ++ B)))))))
  | pub (x p r b : Lab) (pl rl bl : List VT) (Ws : List (List ByteArray)) (R B : List ByteArray) (h : x.k = 33) (hn : x.n = 1) (hs : x.s.size ≤ 8192) (hl : pl.length = Ws.length) (hw : ∀ (i : Nat) t W, pl[i]? = some t → Ws[i]? = some W → WF t W) (hr : WT (.mk r rl) R) (hk : b.k = 29) (hb : WS (.mk b bl) B) : WD (.mk x [.mk p pl, .mk r rl, .mk b bl]) ([wPub] ++ ([wFn] ++ ([x.s] ++ ([sParO] ++ (pre [sCom] Ws ++ ([sParS] ++ ([sCol] ++ (R ++ B))))))))
end Go.Proofs.YtlkggpjdaaglmaaDoor.am
end
section
namespace Go.Proofs.YtlkggpjdaaglmaaDoor.am
open vt
set_option linter.unusedVariables false
inductive Sm : VT → VT → Prop
  | mk (x y : Lab) (l m : List VT) (hk : x.k = y.k) (hn : x.n = y.n) (hs : x.s = y.s) (hl : l.length = m.length) (h : ∀ (i : Nat) a b, l[i]? = some a → m[i]? = some b → Sm a b) : Sm (.mk x l) (.mk y m)
structure Lke (x y : Tok) : Prop where
  k : x.k = y.k
  n : x.n = y.n
  s : x.s = y.s
theorem lke_isK {x y : Tok} (h : Lke x y) (s : ByteArray) : isK s x = isK s y := by unfold isK; rw [h.k, h.s]
theorem lke_opK {x y : Tok} (h : Lke x y) : opK x = opK y := by unfold opK; rw [h.k, h.s]
def kwd (s : ByteArray) : Tok := ⟨quo s, 0, s, 0, 0⟩
def nmT (s : ByteArray) : Tok := ⟨1, 0, s, 0, 0⟩
def nbT (n : Int) : Tok := ⟨2, n, ⟨#[]⟩, 0, 0⟩
theorem isK_nm (s w : ByteArray) : isK w (nmT s) = false := by
  unfold isK nmT
  have : ¬ (1 : Int) = quo w := by rcases quo_34 w with h | h <;> rw [h] <;> decide
  rw [decide_eq_false this]; rfl
theorem isK_nb (n : Int) (w : ByteArray) : isK w (nbT n) = false := by
  unfold isK nbT
  have : ¬ (2 : Int) = quo w := by rcases quo_34 w with h | h <;> rw [h] <;> decide
  rw [decide_eq_false this]; rfl
def Lk (ts : List Tok) (i : Nat) (M : List Tok) : Prop := ∀ (j : Nat) y, M[j]? = some y → Lke (nxt ts (i + j)) y
theorem lk_app {ts : List Tok} {i : Nat} {A B : List Tok} : Lk ts i (A ++ B) ↔ Lk ts i A ∧ Lk ts (i + A.length) B := by
  constructor
  · intro h
    refine ⟨fun j y hy => h j y ?_, fun j y hy => ?_⟩
    · rw [List.getElem?_append_left (List.getElem?_eq_some_iff.1 hy).1]; exact hy
    · have := h (A.length + j) y (by rw [List.getElem?_append_right (by omega), Nat.add_sub_cancel_left]; exact hy)
      rwa [← Nat.add_assoc] at this
  · rintro ⟨h1, h2⟩ j y hy
    rcases Nat.lt_or_ge j A.length with hj | hj
    · rw [List.getElem?_append_left hj] at hy; exact h1 j y hy
    · rw [List.getElem?_append_right hj] at hy
      have := h2 (j - A.length) y hy
      rwa [show i + A.length + (j - A.length) = i + j by omega] at this
theorem lk_one {ts : List Tok} {i : Nat} {y : Tok} : Lk ts i [y] ↔ Lke (nxt ts i) y := by
  constructor
  · intro h; exact h 0 y rfl
  · intro h j z hz
    cases j with
    | zero => simp at hz; subst hz; exact h
    | succ j => simp at hz
def parK (b : Int) (A : List Tok) (n : Int) : List Tok := if n ≤ b then A else [kwd sParO] ++ A ++ [kwd sParS]
def preK (sep : List Tok) : List (List Tok) → List Tok
  | [] => []
  | W :: r => W ++ (r.map (sep ++ ·)).flatten
inductive KE : VT → List Tok → Prop
  | num (x : Lab) (h : x.k = 5) (hs : x.s = ⟨#[]⟩) (h0 : 0 ≤ x.n) (h1 : x.n ≤ 9223372036854775807) : KE (.mk x []) [nbT x.n]
  | tru (x : Lab) (h : x.k = 6) (hn : x.n = 1) (hs : x.s = ⟨#[]⟩) : KE (.mk x []) [kwd wTrue]
  | fls (x : Lab) (h : x.k = 6) (hn : x.n = 0) (hs : x.s = ⟨#[]⟩) : KE (.mk x []) [kwd wFals]
  | read (x : Lab) (h : x.k = 18) (hn : x.n = 0) (hs : x.s = ⟨#[]⟩) : KE (.mk x []) [kwd wRead]
  | nam (x : Lab) (h : x.k = 19) (hn : x.n = 0) : KE (.mk x []) [nmT x.s]
  | bin (x a c : Lab) (al cl : List VT) (A C : List Tok) (h : x.k = 10) (hs : x.s = ⟨#[]⟩) (h1 : 1 ≤ x.n) (h2 : x.n ≤ 13) (ha : KE (.mk a al) A) (hc : KE (.mk c cl) C) : KE (.mk x [.mk a al, .mk c cl]) (parK (tgh a) A (if (opB x.n).2 = 3 then 4 else (opB x.n).2) ++ ([kwd (opB x.n).1] ++ parK (tgh c) C ((opB x.n).2 + 1)))
  | neg (x a : Lab) (al : List VT) (A : List Tok) (h : x.k = 11) (hn : x.n = 1) (hs : x.s = ⟨#[]⟩) (ha : KE (.mk a al) A) : KE (.mk x [.mk a al]) ([kwd sMin] ++ parK (tgh a) A 6)
  | nt (x a : Lab) (al : List VT) (A : List Tok) (h : x.k = 11) (hn : x.n = 2) (hs : x.s = ⟨#[]⟩) (ha : KE (.mk a al) A) : KE (.mk x [.mk a al]) ([kwd sNot] ++ parK (tgh a) A 6)
  | idx (x a c : Lab) (al cl : List VT) (A C : List Tok) (h : x.k = 12) (hn : x.n = 0) (hs : x.s = ⟨#[]⟩) (ha : KE (.mk a al) A) (hc : KE (.mk c cl) C) : KE (.mk x [.mk a al, .mk c cl]) (parK (tgh a) A 7 ++ ([kwd sOpen] ++ (C ++ [kwd sShut])))
  | fld (x a : Lab) (al : List VT) (A : List Tok) (h : x.k = 13) (hn : x.n = 0) (ha : KE (.mk a al) A) : KE (.mk x [.mk a al]) (parK (tgh a) A 7 ++ ([kwd sDot] ++ [nmT x.s]))
  | lst (x : Lab) (l : List VT) (Ms : List (List Tok)) (h : x.k = 14) (hn : x.n = 0) (hs : x.s = ⟨#[]⟩) (h0 : l ≠ []) (hl : l.length = Ms.length) (hw : ∀ (i : Nat) t M, l[i]? = some t → Ms[i]? = some M → KE t M) : KE (.mk x l) ([kwd sOpen] ++ (preK [kwd sCom] Ms ++ [kwd sShut]))
  | mak (x : Lab) (l : List VT) (Ms : List (List Tok)) (h : x.k = 15) (hn : x.n = 0) (h0 : l ≠ []) (hl : l.length = Ms.length) (hw : ∀ (i : Nat) t M, l[i]? = some t → Ms[i]? = some M → KE t M) : KE (.mk x l) ([kwd wNew] ++ ([nmT x.s] ++ ([kwd sParO] ++ (preK [kwd sCom] Ms ++ [kwd sParS]))))
  | cal (x : Lab) (l : List VT) (Ms : List (List Tok)) (h : x.k = 16) (hn : x.n = 0) (hl : l.length = Ms.length) (hw : ∀ (i : Nat) t M, l[i]? = some t → Ms[i]? = some M → KE t M) : KE (.mk x l) ([nmT x.s] ++ ([kwd sParO] ++ (preK [kwd sCom] Ms ++ [kwd sParS])))
  | ext (x : Lab) (l : List VT) (Ms : List (List Tok)) (h : x.k = 17) (hn : x.n = 0) (hl : l.length = Ms.length) (hw : ∀ (i : Nat) t M, l[i]? = some t → Ms[i]? = some M → KE t M) : KE (.mk x l) ([kwd sAt] ++ ([nmT x.s] ++ ([kwd sParO] ++ (preK [kwd sCom] Ms ++ [kwd sParS]))))
structure Fol (l : Nat) (z : Tok) : Prop where
  op : ∀ w, l < w → w ≤ 5 → (opK z).2 ≠ w
  noO : isK sOpen z = false
  noD : isK sDot z = false
  noP : isK sParO z = false
theorem Fol.mono {l m : Nat} {z : Tok} (h : Fol l z) (hl : l ≤ m) : Fol m z := ⟨fun w h1 h2 => h.op w (by omega) h2, h.noO, h.noD, h.noP⟩
theorem fol_lke {l : Nat} {x y : Tok} (h : Lke x y) (f : Fol l y) : Fol l x := ⟨fun w h1 h2 => by rw [lke_opK h]; exact f.op w h1 h2, by rw [lke_isK h]; exact f.noO, by rw [lke_isK h]; exact f.noD, by rw [lke_isK h]; exact f.noP⟩
theorem fol_kwd {s : ByteArray} (h1 : (opK (kwd s)).2 = 6) (h2 : isK sOpen (kwd s) = false) (h3 : isK sDot (kwd s) = false) (h4 : isK sParO (kwd s) = false) : Fol 0 (kwd s) := ⟨fun w a b => by rw [h1]; omega, h2, h3, h4⟩
def Red (ts : List Tok) (w i N : Nat) (t : VT) : Prop :=
  i < N ∧ N ≤ ts.length ∧
  (w = 7 → Fol 5 (nxt ts N) ∨ isK sOpen (nxt ts N) = true ∨ isK sDot (nxt ts N) = true → unN ts i = 0 ∧ ∃ m, ts.length + 1 ≤ m + (N - i) ∧ Qx ts 7 i = lpP ts (Qx ts 1) i m (t, N, 0)) ∧
  (w = 6 → Fol 5 (nxt ts N) → Qx ts 6 i = (t, N, 0)) ∧
  (1 ≤ w → w ≤ 5 → Fol w (nxt ts N) → ∃ m f, ts.length + 1 ≤ m + (N - i) ∧ Qx ts w i = lpL ts (Qx ts (w + 1)) w i m f (t, N, 0))
section
variable {ts : List Tok}
theorem lpL_done {P : Nat → Got} {l a m : Nat} {f : Bool} {t : VT} {N : Nat} (h : (opK (nxt ts N)).2 ≠ l) : lpL ts P l a m f (t, N, 0) = (t, N, 0) := by
  cases m with
  | zero => rw [lpL]
  | succ m => rw [lpL, if_neg (by simp), if_pos (.inl h)]
theorem lpP_done {E : Nat → Got} {a m : Nat} {t : VT} {N : Nat} (h1 : isK sOpen (nxt ts N) = false) (h2 : isK sDot (nxt ts N) = false) : lpP ts E a m (t, N, 0) = (t, N, 0) := by
  cases m with
  | zero => rw [lpP]
  | succ m =>
    rw [lpP, if_neg (by simp)]
    dsimp only
    rw [if_neg (by rw [h1]; simp), if_neg (by rw [h2]; simp)]
theorem red7 {w i N : Nat} {t : VT} (h : Red ts w i N t) (hw : w = 7) (hf : Fol 5 (nxt ts N)) : Qx ts 7 i = (t, N, 0) := by
  obtain ⟨_, _, h7, _⟩ := h
  obtain ⟨_, m, _, e⟩ := h7 hw (.inl hf)
  rw [e, lpP_done hf.noO hf.noD]
theorem red6 {w i N : Nat} {t : VT} (h : Red ts w i N t) (hw : 6 ≤ w) (hw7 : w ≤ 7) (hf : Fol 5 (nxt ts N)) : Qx ts 6 i = (t, N, 0) := by
  by_cases h7 : w = 7
  · have e := red7 h h7 hf
    have hu := (h.2.2.1 h7 (.inl hf)).1
    rw [Q_eq 6 i (by decide) (by decide) (by have := h.1; have := h.2.1; omega)]
    unfold bG
    rw [if_neg (by decide), if_pos rfl, if_pos hu]
    exact e
  · exact h.2.2.2.1 (by omega) hf
theorem red_low {w i N : Nat} {t : VT} (h : Red ts w i N t) (hw7 : w ≤ 7) : ∀ n l, 6 - l ≤ n → 1 ≤ l → l ≤ 5 → l ≤ w → Fol l (nxt ts N) → ∃ m f, ts.length + 1 ≤ m + (N - i) ∧ (f = true → w = l) ∧ Qx ts l i = lpL ts (Qx ts (l + 1)) l i m f (t, N, 0) := by
  intro n
  induction n with
  | zero => intro l h1 h2 h3; omega
  | succ n ih =>
    intro l h1 h2 h3 h4 hf
    have hi : i ≤ ts.length := by have := h.1; have := h.2.1; omega
    by_cases hwl : w = l
    · obtain ⟨m, f, e1, e2⟩ := h.2.2.2.2 (by omega) (by omega) (by rw [hwl]; exact hf)
      rw [hwl] at e2
      exact ⟨m, f, e1, fun _ => hwl, e2⟩
    · have e : Qx ts (l + 1) i = (t, N, 0) := by
        by_cases h5 : l = 5
        · subst h5
          exact red6 h (by omega) hw7 hf
        · obtain ⟨m, f, e1, e2, e3⟩ := ih (l + 1) (by omega) (by omega) (by omega) (by omega) (hf.mono (by omega))
          rw [e3, lpL_done (hf.op (l + 1) (by omega) (by omega))]
      refine ⟨ts.length + 1, false, by omega, (fun h => Bool.noConfusion h), ?_⟩
      rw [Q_eq l i h2 (by omega) hi]
      unfold bG
      rw [if_pos h3, e]
theorem red_fin {w i N : Nat} {t : VT} (h : Red ts w i N t) (hw7 : w ≤ 7) {l : Nat} (h1 : 1 ≤ l) (hl : l ≤ w) (hl6 : l ≤ 6) (hf : Fol (l - 1) (nxt ts N)) : Qx ts l i = (t, N, 0) := by
  by_cases h6 : l = 6
  · subst h6; exact red6 h hl hw7 hf
  · obtain ⟨m, f, e1, e2, e3⟩ := red_low h hw7 6 l (by omega) h1 (by omega) hl (hf.mono (by omega))
    rw [e3, lpL_done (hf.op l (by omega) (by omega))]
end
end Go.Proofs.YtlkggpjdaaglmaaDoor.am
end
section
namespace Go.Proofs.YtlkggpjdaaglmaaDoor.am
open vt
set_option linter.unusedVariables false
theorem parK_len {b : Int} {A : List Tok} {n : Int} : A.length ≤ (parK b A n).length := by
  unfold parK
  split
  · exact Nat.le_refl _
  · simp only [List.length_append, List.length_singleton]; omega
theorem preK_two (S A B : List Tok) (r : List (List Tok)) : preK S (A :: B :: r) = A ++ (S ++ preK S (B :: r)) := by
  simp [preK]
theorem ke_tgh {t : VT} {M : List Tok} (h : KE t M) : 1 ≤ tgh t.lab ∧ tgh t.lab ≤ 7 := by
  have hx : ∀ {x : Lab} {l : List VT}, (Tr.mk x l).lab = x := rfl
  cases h
  case bin x a c al cl A C h hs h1 h2 ha hc =>
    rw [hx]
    unfold tgh
    rw [if_pos h]
    have : x.n = 1 ∨ x.n = 2 ∨ x.n = 3 ∨ x.n = 4 ∨ x.n = 5 ∨ x.n = 6 ∨ x.n = 7 ∨ x.n = 8 ∨ x.n = 9 ∨ x.n = 10 ∨ x.n = 11 ∨ x.n = 12 ∨ x.n = 13 := by omega
    rcases this with g | g | g | g | g | g | g | g | g | g | g | g | g <;> rw [g] <;> decide
  all_goals
    rw [hx]
    unfold tgh
    rw [if_neg (by omega)]
    split <;> decide
theorem ke_hd {t : VT} {M : List Tok} (h : KE t M) : ∃ y r, M = y :: r ∧ isK sParS y = false ∧ (tgh t.lab = 7 → isK sNot y = false ∧ isK sMin y = false) := by
  have hp : ∀ {a : Lab} {al : List VT} {A : List Tok} {n : Int}, tgh a ≤ 7 → (∃ y r, A = y :: r ∧ isK sParS y = false ∧ (tgh a = 7 → isK sNot y = false ∧ isK sMin y = false)) → ∃ y r, parK (tgh a) A n = y :: r ∧ isK sParS y = false ∧ (n = 7 → isK sNot y = false ∧ isK sMin y = false) := fun {a al A n} h7 ⟨y, r, h1, h2, h3⟩ => by
    unfold parK
    split
    · rename_i c
      refine ⟨y, r, h1, h2, fun e => h3 ?_⟩
      omega
    · exact ⟨_, _, rfl, by decide, fun _ => ⟨by decide, by decide⟩⟩
  have ap : ∀ {A B : List Tok} {P : Tok → Prop}, (∃ y r, A = y :: r ∧ P y) → ∃ y r, A ++ B = y :: r ∧ P y := fun {A B P} ⟨y, r, h1, h2⟩ => ⟨y, r ++ B, by rw [h1]; rfl, h2⟩
  induction h with
  | num x h hs h0 h1 => exact ⟨_, _, rfl, isK_nb _ _, fun _ => ⟨isK_nb _ _, isK_nb _ _⟩⟩
  | tru x h hn hs => exact ⟨_, _, rfl, by decide, fun _ => ⟨by decide, by decide⟩⟩
  | fls x h hn hs => exact ⟨_, _, rfl, by decide, fun _ => ⟨by decide, by decide⟩⟩
  | read x h hn hs => exact ⟨_, _, rfl, by decide, fun _ => ⟨by decide, by decide⟩⟩
  | nam x h hn => exact ⟨_, _, rfl, isK_nm _ _, fun _ => ⟨isK_nm _ _, isK_nm _ _⟩⟩
  | bin x a c al cl A C h hs h1 h2 ha hc ia ic =>
    obtain ⟨y, r, e, e1, e2⟩ := hp (a := a) (al := al) (n := if (opB x.n).2 = 3 then 4 else (opB x.n).2) (ke_tgh ha).2 ia
    refine ⟨y, _, by rw [e]; rfl, e1, fun h7 => ?_⟩
    exfalso
    have : (Tr.mk x [Tr.mk a al, Tr.mk c cl]).lab = x := rfl
    rw [this] at h7
    unfold tgh at h7
    rw [if_pos h] at h7
    have : x.n = 1 ∨ x.n = 2 ∨ x.n = 3 ∨ x.n = 4 ∨ x.n = 5 ∨ x.n = 6 ∨ x.n = 7 ∨ x.n = 8 ∨ x.n = 9 ∨ x.n = 10 ∨ x.n = 11 ∨ x.n = 12 ∨ x.n = 13 := by omega
    rcases this with g | g | g | g | g | g | g | g | g | g | g | g | g <;> rw [g] at h7 <;> exact absurd h7 (by decide)
  | neg x a al A h hn hs ha ia =>
    refine ⟨_, _, rfl, by decide, fun h7 => ?_⟩
    have : (Tr.mk x [Tr.mk a al]).lab = x := rfl
    rw [this] at h7
    unfold tgh at h7
    rw [if_neg (by omega), if_pos h] at h7
    exact absurd h7 (by decide)
  | nt x a al A h hn hs ha ia =>
    refine ⟨_, _, rfl, by decide, fun h7 => ?_⟩
    have : (Tr.mk x [Tr.mk a al]).lab = x := rfl
    rw [this] at h7
    unfold tgh at h7
    rw [if_neg (by omega), if_pos h] at h7
    exact absurd h7 (by decide)
  | idx x a c al cl A C h hn hs ha hc ia ic =>
    obtain ⟨y, r, e, e1, e2⟩ := hp (a := a) (al := al) (n := 7) (ke_tgh ha).2 ia
    exact ⟨y, _, by rw [e]; rfl, e1, fun _ => e2 rfl⟩
  | fld x a al A h hn ha ia =>
    obtain ⟨y, r, e, e1, e2⟩ := hp (a := a) (al := al) (n := 7) (ke_tgh ha).2 ia
    exact ⟨y, _, by rw [e]; rfl, e1, fun _ => e2 rfl⟩
  | lst x l Ms h hn hs h0 hl hw ih => exact ⟨_, _, rfl, by decide, fun _ => ⟨by decide, by decide⟩⟩
  | mak x l Ms h hn h0 hl hw ih => exact ⟨_, _, rfl, by decide, fun _ => ⟨by decide, by decide⟩⟩
  | cal x l Ms h hn hl hw ih => exact ⟨_, _, rfl, isK_nm _ _, fun _ => ⟨isK_nm _ _, isK_nm _ _⟩⟩
  | ext x l Ms h hn hl hw ih => exact ⟨_, _, rfl, by decide, fun _ => ⟨by decide, by decide⟩⟩
def Rds (ts : List Tok) (t : VT) (M : List Tok) : Prop := ∀ i, Lk ts i M → i + M.length ≤ ts.length → ∃ t', Sm t' t ∧ Red ts (tgh t.lab).toNat i (i + M.length) t'
section
variable {ts : List Tok}
theorem q7 {i N : Nat} {t : VT} (h : Qx ts 8 i = (t, N, 0)) (h1 : i < N) (h2 : N ≤ ts.length) (hu : unN ts i = 0) : Red ts 7 i N t := by
  refine ⟨h1, h2, fun _ _ => ⟨hu, ts.length + 1, by omega, ?_⟩, fun e => by omega, fun _ e => by omega⟩
  rw [Q_eq 7 i (by decide) (by decide) (by omega)]
  unfold bG
  rw [if_neg (by decide), if_neg (by decide), if_pos rfl, h]
theorem unN_zero {i : Nat} (h1 : isK sNot (nxt ts i) = false) (h2 : isK sMin (nxt ts i) = false) : unN ts i = 0 := by
  unfold unN
  rw [if_neg (by rw [h1]; simp), if_neg (by rw [h2]; simp)]
theorem q8 {i : Nat} (hi : i ≤ ts.length) : Qx ts 8 i = atoG ts (Qx ts 1) i := by
  rw [Q_eq 8 i (by decide) (by decide) hi]
  unfold bG
  rw [if_neg (by decide), if_neg (by decide), if_neg (by decide)]
theorem ato_par {i N : Nat} {a : VT} (h : Lke (nxt ts i) (kwd sParO)) (he : Qx ts 1 (i + 1) = (a, N, 0)) (hc : isK sParS (nxt ts N) = true) (hi : i ≤ ts.length) : Qx ts 8 i = (a, N + 1, 0) := by
  rw [q8 hi]
  unfold atoG
  rw [if_neg (by rw [h.k]; decide), if_neg (by rw [lke_isK h]; decide), if_neg (by rw [lke_isK h]; decide), if_neg (by rw [lke_isK h]; decide), if_neg (fun g => absurd (h.k.symm.trans g.1) (by decide)), if_pos (by rw [lke_isK h]; decide), he]
  rw [if_neg (by simp), if_neg (by rw [hc]; simp)]
theorem fol_S {l : Nat} {i : Nat} (h : Lke (nxt ts i) (kwd sParS)) : Fol l (nxt ts i) := (fol_lke h (fol_kwd (by decide) (by decide) (by decide) (by decide))).mono (Nat.zero_le _)
theorem fol_C {l : Nat} {i : Nat} (h : Lke (nxt ts i) (kwd sCom)) : Fol l (nxt ts i) := (fol_lke h (fol_kwd (by decide) (by decide) (by decide) (by decide))).mono (Nat.zero_le _)
theorem fol_H {l : Nat} {i : Nat} (h : Lke (nxt ts i) (kwd sShut)) : Fol l (nxt ts i) := (fol_lke h (fol_kwd (by decide) (by decide) (by decide) (by decide))).mono (Nat.zero_le _)
theorem par_read {a : Lab} {al : List VT} {A : List Tok} (hk : KE (.mk a al) A) (ia : Rds ts (.mk a al) A) {n : Int} (hn1 : 1 ≤ n) (hn : n ≤ 7) {i : Nat} (h : Lk ts i (parK (tgh a) A n)) (hl : i + (parK (tgh a) A n).length ≤ ts.length) : ∃ (a' : VT) (w : Nat), Sm a' (.mk a al) ∧ n ≤ (w : Int) ∧ w ≤ 7 ∧ (w = (tgh a).toNat ∨ w = 7) ∧ Red ts w i (i + (parK (tgh a) A n).length) a' := by
  have ht := ke_tgh hk
  have hx : (Tr.mk a al).lab = a := rfl
  rw [hx] at ht
  by_cases c : n ≤ tgh a
  · have e : parK (tgh a) A n = A := by unfold parK; rw [if_pos c]
    rw [e] at h hl ⊢
    obtain ⟨a', h1, h2⟩ := ia i h hl
    rw [hx] at h2
    exact ⟨a', _, h1, by omega, by omega, .inl rfl, h2⟩
  · have e : parK (tgh a) A n = [kwd sParO] ++ A ++ [kwd sParS] := by unfold parK; rw [if_neg c]
    rw [e] at h hl ⊢
    obtain ⟨h12, h3⟩ := lk_app.1 h
    obtain ⟨h1, h2⟩ := lk_app.1 h12
    simp only [List.length_append, List.length_singleton] at hl h2 h3 ⊢
    have h1 := lk_one.1 h1
    have h3 := lk_one.1 h3
    obtain ⟨a', g1, g2⟩ := ia (i + 1) h2 (by omega)
    rw [hx] at g2
    rw [show i + (1 + A.length) = i + 1 + A.length by omega] at h3
    have he : Qx ts 1 (i + 1) = (a', i + 1 + A.length, 0) := red_fin g2 (by omega) (by decide) (by omega) (by decide) (fol_S h3)
    have h8 := ato_par h1 he (by rw [lke_isK h3]; decide) (by omega)
    refine ⟨a', 7, g1, by omega, by omega, .inr rfl, ?_⟩
    rw [show i + (1 + A.length + 1) = i + 1 + A.length + 1 by omega]
    exact q7 h8 (by omega) (by omega) (unN_zero (by rw [lke_isK h1]; decide) (by rw [lke_isK h1]; decide))
def SmL (l m : List VT) : Prop := l.length = m.length ∧ ∀ (i : Nat) a b, l[i]? = some a → m[i]? = some b → Sm a b
theorem lpC_read : ∀ (l : List VT) (Ms : List (List Tok)), l ≠ [] → l.length = Ms.length → (∀ (k : Nat) t M, l[k]? = some t → Ms[k]? = some M → KE t M ∧ Rds ts t M) → ∀ (m i : Nat) (acc : List VT) (y : Tok), Lk ts i (preK [kwd sCom] Ms) → i + (preK [kwd sCom] Ms).length ≤ ts.length → Lke (nxt ts (i + (preK [kwd sCom] Ms).length)) y → Fol 0 y → isK sCom y = false → Ms.length ≤ m → ∃ l', SmL l' l ∧ lpC ts (Qx ts 1) m i acc = (acc ++ l', i + (preK [kwd sCom] Ms).length, 0)
  | [], Ms, h0, hl, hw, m, i, acc, y, h1, h2, h3, h4, h5, h6 => absurd rfl h0
  | t :: l, [], h0, hl, hw, m, i, acc, y, h1, h2, h3, h4, h5, h6 => by simp at hl
  | [t], [M], h0, hl, hw, m, i, acc, y, h1, h2, h3, h4, h5, h6 => by
    have e : preK [kwd sCom] [M] = M := by simp [preK]
    rw [e] at h1 h2 h3 ⊢
    obtain ⟨hk, hr⟩ := hw 0 t M rfl rfl
    obtain ⟨t', g1, g2⟩ := hr i h1 h2
    have ht := ke_tgh hk
    have he : Qx ts 1 i = (t', i + M.length, 0) := red_fin g2 (by omega) (by decide) (by omega) (by decide) (fol_lke h3 h4)
    obtain ⟨m, rfl⟩ : ∃ q, m = q + 1 := ⟨m - 1, by simp at h6; omega⟩
    refine ⟨[t'], ⟨rfl, fun k a b ha hb => ?_⟩, ?_⟩
    · cases k with
      | zero => simp at ha hb; subst ha hb; exact g1
      | succ k => simp at ha
    · rw [lpC, he, if_neg (by simp), if_pos (by rw [lke_isK h3]; exact h5)]
  | [t], M :: M2 :: Ms, h0, hl, hw, m, i, acc, y, h1, h2, h3, h4, h5, h6 => by simp at hl
  | t :: u :: l, [M], h0, hl, hw, m, i, acc, y, h1, h2, h3, h4, h5, h6 => by simp at hl
  | t :: u :: l, M :: M2 :: Ms, h0, hl, hw, m, i, acc, y, h1, h2, h3, h4, h5, h6 => by
    rw [preK_two] at h1 h2 h3 ⊢
    obtain ⟨k1, k2⟩ := lk_app.1 h1
    obtain ⟨k2, k3⟩ := lk_app.1 k2
    simp only [List.length_append, List.length_singleton] at h2 h3 k3 ⊢
    have k2 := lk_one.1 k2
    obtain ⟨hk, hr⟩ := hw 0 t M rfl rfl
    obtain ⟨t', g1, g2⟩ := hr i k1 (by omega)
    have ht := ke_tgh hk
    have he : Qx ts 1 i = (t', i + M.length, 0) := red_fin g2 (by omega) (by decide) (by omega) (by decide) (fol_C k2)
    obtain ⟨m, rfl⟩ : ∃ q, m = q + 1 := ⟨m - 1, by simp at h6; omega⟩
    have hN : i + (M.length + (1 + (preK [kwd sCom] (M2 :: Ms)).length)) = i + M.length + 1 + (preK [kwd sCom] (M2 :: Ms)).length := by omega
    rw [hN] at h2 h3 ⊢
    obtain ⟨l', q1, q2⟩ := lpC_read (u :: l) (M2 :: Ms) (by simp) (by simpa using hl) (fun k t' M' a b => hw (k + 1) t' M' (by simpa using a) (by simpa using b)) m (i + M.length + 1) (acc ++ [t']) y k3 h2 h3 h4 h5 (by simp at h6 ⊢; omega)
    refine ⟨t' :: l', ⟨by simp only [List.length_cons, q1.1], fun k a b ha hb => ?_⟩, ?_⟩
    · cases k with
      | zero => simp at ha hb; subst ha hb; exact g1
      | succ k => exact q1.2 k a b (by simpa using ha) (by simpa using hb)
    · rw [lpC, he, if_neg (by simp)]
      dsimp only
      rw [if_neg (by rw [lke_isK k2]; decide), q2]
      simp
end
end Go.Proofs.YtlkggpjdaaglmaaDoor.am
end
section
namespace Go.Proofs.YtlkggpjdaaglmaaDoor.am
open vt
set_option linter.unusedVariables false
theorem sm0 {x y : Lab} (hk : x.k = y.k) (hn : x.n = y.n) (hs : x.s = y.s) : Sm (.mk x []) (.mk y []) := .mk x y [] [] hk hn hs rfl (fun i a b h => by simp at h)
theorem sm1 {x y : Lab} {a b : VT} (hk : x.k = y.k) (hn : x.n = y.n) (hs : x.s = y.s) (h : Sm a b) : Sm (.mk x [a]) (.mk y [b]) := .mk x y _ _ hk hn hs rfl (fun i c d h1 h2 => by
  match i, h1, h2 with
  | 0, h1, h2 => cases h1; cases h2; exact h
  | i + 1, h1, h2 => simp at h1)
theorem sm2 {x y : Lab} {a b c d : VT} (hk : x.k = y.k) (hn : x.n = y.n) (hs : x.s = y.s) (h : Sm a b) (g : Sm c d) : Sm (.mk x [a, c]) (.mk y [b, d]) := .mk x y _ _ hk hn hs rfl (fun i p q h1 h2 => by
  match i, h1, h2 with
  | 0, h1, h2 => cases h1; cases h2; exact h
  | 1, h1, h2 => cases h1; cases h2; exact g
  | i + 2, h1, h2 => simp at h1)
theorem smLs {x y : Lab} {l m : List VT} (hk : x.k = y.k) (hn : x.n = y.n) (hs : x.s = y.s) (h : SmL l m) : Sm (.mk x l) (.mk y m) := .mk x y _ _ hk hn hs h.1 h.2
theorem preK_ge {S : List Tok} : ∀ (Ms : List (List Tok)), (∀ M ∈ Ms, M ≠ []) → Ms.length ≤ (preK S Ms).length
  | [], _ => Nat.zero_le _
  | [M], h => by
    have := List.length_pos_iff.2 (h M (.head _))
    simp [preK]; omega
  | M :: M2 :: r, h => by
    have h1 := List.length_pos_iff.2 (h M (.head _))
    have h2 := preK_ge (S := S) (M2 :: r) (fun N hN => h N (.tail _ hN))
    rw [preK_two]
    simp only [List.length_append, List.length_cons] at *
    omega
section
variable {ts : List Tok}
theorem clo_read (l : List VT) (Ms : List (List Tok)) (hl : l.length = Ms.length) (hw : ∀ (k : Nat) t M, l[k]? = some t → Ms[k]? = some M → KE t M ∧ Rds ts t M) (few : Bool) (fs ls : ByteArray) (h0 : l = [] → few = true) (hls : few = true → ls = sParS) (hF : Fol 0 (kwd ls)) (hC : isK sCom (kwd ls) = false) (hK : isK ls (kwd ls) = true) (hKf : isK fs (kwd fs) = true) {o : Nat} (h : Lk ts o ([kwd fs] ++ (preK [kwd sCom] Ms ++ [kwd ls]))) (hb : o + ([kwd fs] ++ (preK [kwd sCom] Ms ++ [kwd ls])).length ≤ ts.length) : ∃ l', SmL l' l ∧ cloG ts (Qx ts 1) o few fs ls = (l', o + ([kwd fs] ++ (preK [kwd sCom] Ms ++ [kwd ls])).length, 0) := by
  obtain ⟨k1, k2⟩ := lk_app.1 h
  obtain ⟨k2, k3⟩ := lk_app.1 k2
  simp only [List.length_append, List.length_singleton] at hb k2 k3 ⊢
  have k1 := lk_one.1 k1
  have k3 := lk_one.1 k3
  have hn : ∀ M ∈ Ms, M ≠ [] := fun M hM => by
    obtain ⟨i, hi⟩ := List.mem_iff_getElem?.1 hM
    have hlt := (List.getElem?_eq_some_iff.1 hi).1
    obtain ⟨y, r, e, _⟩ := ke_hd (hw i _ M (List.getElem?_eq_getElem (by omega)) hi).1
    rw [e]; simp
  have hge := preK_ge (S := [kwd sCom]) Ms hn
  unfold cloG
  rw [if_neg (by rw [lke_isK k1, hKf]; simp)]
  by_cases hl0 : l = []
  · subst hl0
    have hM : Ms = [] := List.length_eq_zero_iff.1 hl.symm
    subst hM
    have k3' : Lke (nxt ts (o + 1)) (kwd ls) := by simpa [preK] using k3
    rw [if_pos ⟨h0 rfl, by rw [lke_isK k3', hK]⟩]
    exact ⟨[], ⟨rfl, fun i a b h => by simp at h⟩, by simp [preK]⟩
  · have hM : Ms ≠ [] := fun e => hl0 (List.length_eq_zero_iff.1 (by rw [hl, e]; rfl))
    have hf : ¬ (few = true ∧ isK ls (nxt ts (o + 1)) = true) := by
      rintro ⟨g1, g2⟩
      obtain ⟨t, l2, rfl⟩ := List.exists_cons_of_ne_nil hl0
      obtain ⟨M, r, rfl⟩ := List.exists_cons_of_ne_nil hM
      obtain ⟨y, q, e, e1, _⟩ := ke_hd (hw 0 t M rfl rfl).1
      have hy : Lke (nxt ts (o + 1)) y := by
        have := k2 0 y (by rw [e]; unfold preK; rfl)
        simpa using this
      rw [hls g1, lke_isK hy, e1] at g2
      cases g2
    rw [if_neg hf]
    obtain ⟨l', q1, q2⟩ := lpC_read l Ms hl0 hl hw (ts.length + 1) (o + 1) [] (kwd ls) k2 (by omega) k3 hF hC (by omega)
    rw [q2, List.nil_append]
    dsimp only
    rw [if_neg (by simp), if_neg (by rw [lke_isK k3, hK]; simp)]
    exact ⟨l', q1, by rw [show o + 1 + (preK [kwd sCom] Ms).length + 1 = o + (1 + ((preK [kwd sCom] Ms).length + 1)) by omega]⟩
theorem opK_kw {n : Int} (h1 : 1 ≤ n) (h2 : n ≤ 13) : opK (kwd (opB n).1) = (n, (opB n).2.toNat) := by
  have : n = 1 ∨ n = 2 ∨ n = 3 ∨ n = 4 ∨ n = 5 ∨ n = 6 ∨ n = 7 ∨ n = 8 ∨ n = 9 ∨ n = 10 ∨ n = 11 ∨ n = 12 ∨ n = 13 := by omega
  rcases this with rfl | rfl | rfl | rfl | rfl | rfl | rfl | rfl | rfl | rfl | rfl | rfl | rfl <;> decide
theorem fol_op {n : Int} (h1 : 1 ≤ n) (h2 : n ≤ 13) {i : Nat} (h : Lke (nxt ts i) (kwd (opB n).1)) : Fol (opB n).2.toNat (nxt ts i) := by
  refine fol_lke h ⟨fun w a b => ?_, ?_, ?_, ?_⟩
  · rw [opK_kw h1 h2]; dsimp only; omega
  all_goals
    have : n = 1 ∨ n = 2 ∨ n = 3 ∨ n = 4 ∨ n = 5 ∨ n = 6 ∨ n = 7 ∨ n = 8 ∨ n = 9 ∨ n = 10 ∨ n = 11 ∨ n = 12 ∨ n = 13 := by omega
    rcases this with rfl | rfl | rfl | rfl | rfl | rfl | rfl | rfl | rfl | rfl | rfl | rfl | rfl <;> decide
theorem opB_rg {n : Int} (h1 : 1 ≤ n) (h2 : n ≤ 13) : 1 ≤ (opB n).2 ∧ (opB n).2 ≤ 5 := by
  have : n = 1 ∨ n = 2 ∨ n = 3 ∨ n = 4 ∨ n = 5 ∨ n = 6 ∨ n = 7 ∨ n = 8 ∨ n = 9 ∨ n = 10 ∨ n = 11 ∨ n = 12 ∨ n = 13 := by omega
  rcases this with rfl | rfl | rfl | rfl | rfl | rfl | rfl | rfl | rfl | rfl | rfl | rfl | rfl <;> decide
theorem tgh7 {x : Lab} (h1 : x.k ≠ 10) (h2 : x.k ≠ 11) : (tgh x).toNat = 7 := by unfold tgh; rw [if_neg h1, if_neg h2]; rfl
theorem tgh6 {x : Lab} (h2 : x.k = 11) : (tgh x).toNat = 6 := by unfold tgh; rw [if_neg (by omega), if_pos h2]; rfl
theorem labx {x : Lab} {l : List VT} : (Tr.mk x l).lab = x := rfl
set_option maxHeartbeats 2000000 in
theorem ke_read {t : VT} {M : List Tok} (h : KE t M) : Rds ts t M := by
  have fol5P : ∀ {z : Tok}, Fol 5 z ∨ isK sOpen z = true ∨ isK sDot z = true → isK sParO z = false := fun {z} h => by
    rcases h with h | h | h
    · exact h.noP
    · unfold isK at h ⊢
      simp only [Bool.and_eq_true, decide_eq_true_eq] at h
      rw [h.2, decide_eq_false (show ¬ sOpen = sParO by decide), Bool.and_false]
    · unfold isK at h ⊢
      simp only [Bool.and_eq_true, decide_eq_true_eq] at h
      rw [h.2, decide_eq_false (show ¬ sDot = sParO by decide), Bool.and_false]
  induction h with
  | num x h hs h0 h1 =>
    intro i hk hb
    have hk := lk_one.1 hk
    simp only [List.length_singleton] at hb ⊢
    rw [labx, tgh7 (by omega) (by omega)]
    refine ⟨_, ?_, q7 (t := .mk ⟨5, (nxt ts i).n, ⟨#[]⟩, frT ts i, toT ts (i + 1 - 1)⟩ []) ?_ (by omega) hb (unN_zero (by rw [lke_isK hk]; exact isK_nb _ _) (by rw [lke_isK hk]; exact isK_nb _ _))⟩
    · exact sm0 h.symm hk.n hs.symm
    · rw [q8 (by omega)]
      unfold atoG
      rw [if_pos (show (nxt ts i).k = 2 from hk.k)]; rfl
  | tru x h hn hs =>
    intro i hk hb
    have hk := lk_one.1 hk
    simp only [List.length_singleton] at hb ⊢
    rw [labx, tgh7 (by omega) (by omega)]
    refine ⟨_, ?_, q7 (t := .mk ⟨6, 1, ⟨#[]⟩, frT ts i, toT ts (i + 1 - 1)⟩ []) ?_ (by omega) hb (unN_zero (by rw [lke_isK hk]; decide) (by rw [lke_isK hk]; decide))⟩
    · exact sm0 h.symm hn.symm hs.symm
    · rw [q8 (by omega)]
      unfold atoG
      rw [if_neg (by rw [hk.k]; decide), if_pos (by rw [lke_isK hk]; decide)]; rfl
  | fls x h hn hs =>
    intro i hk hb
    have hk := lk_one.1 hk
    simp only [List.length_singleton] at hb ⊢
    rw [labx, tgh7 (by omega) (by omega)]
    refine ⟨_, ?_, q7 (t := .mk ⟨6, 0, ⟨#[]⟩, frT ts i, toT ts (i + 1 - 1)⟩ []) ?_ (by omega) hb (unN_zero (by rw [lke_isK hk]; decide) (by rw [lke_isK hk]; decide))⟩
    · exact sm0 h.symm hn.symm hs.symm
    · rw [q8 (by omega)]
      unfold atoG
      rw [if_neg (by rw [hk.k]; decide), if_neg (by rw [lke_isK hk]; decide), if_pos (by rw [lke_isK hk]; decide)]; rfl
  | read x h hn hs =>
    intro i hk hb
    have hk := lk_one.1 hk
    simp only [List.length_singleton] at hb ⊢
    rw [labx, tgh7 (by omega) (by omega)]
    refine ⟨_, ?_, q7 (t := .mk ⟨18, 0, ⟨#[]⟩, frT ts i, toT ts (i + 1 - 1)⟩ []) ?_ (by omega) hb (unN_zero (by rw [lke_isK hk]; decide) (by rw [lke_isK hk]; decide))⟩
    · exact sm0 h.symm hn.symm hs.symm
    · rw [q8 (by omega)]
      unfold atoG
      rw [if_neg (by rw [hk.k]; decide), if_neg (by rw [lke_isK hk]; decide), if_neg (by rw [lke_isK hk]; decide), if_pos (by rw [lke_isK hk]; decide)]; rfl
  | nam x h hn =>
    intro i hk hb
    have hk := lk_one.1 hk
    simp only [List.length_singleton] at hb ⊢
    rw [labx, tgh7 (by omega) (by omega)]
    refine ⟨.mk ⟨19, 0, (nxt ts i).s, frT ts i, toT ts (i + 1 - 1)⟩ [], sm0 h.symm hn.symm hk.s, by omega, hb, fun _ hz => ⟨unN_zero (by rw [lke_isK hk]; exact isK_nm _ _) (by rw [lke_isK hk]; exact isK_nm _ _), ts.length + 1, by omega, ?_⟩, fun e => by omega, fun _ e => by omega⟩
    rw [Q_eq 7 i (by decide) (by decide) (by omega)]
    unfold bG
    rw [if_neg (by decide), if_neg (by decide), if_pos rfl, q8 (by omega)]
    unfold atoG
    rw [if_neg (by rw [hk.k]; show ¬ (1 : Int) = 2; decide), if_neg (by rw [lke_isK hk, isK_nm]; simp), if_neg (by rw [lke_isK hk, isK_nm]; simp), if_neg (by rw [lke_isK hk, isK_nm]; simp), if_pos ⟨hk.k, fol5P hz⟩]
    rfl
  | bin x a c al cl A C h hs h1 h2 ha hc ia ic =>
    intro i hk hb
    have hbr := opB_rg h1 h2
    obtain ⟨k1, k2⟩ := lk_app.1 hk
    obtain ⟨k2, k3⟩ := lk_app.1 k2
    have k2 := lk_one.1 k2
    have pa := @parK_len (tgh a) A (if (opB x.n).2 = 3 then 4 else (opB x.n).2)
    obtain ⟨y, r, eA, _⟩ := ke_hd ha
    have hA : 1 ≤ A.length := by rw [eA]; simp
    simp only [List.length_append, List.length_singleton] at hb k3 ⊢
    obtain ⟨a', w1, s1, n1, u1, v1, r1⟩ := par_read ha ia (by split <;> omega) (by split <;> omega) k1 (by omega)
    obtain ⟨c', w2, s2, n2, u2, v2, r2⟩ := par_read hc ic (by omega) (by omega) k3 (by omega)
    have tb : tgh x = (opB x.n).2 := by unfold tgh; rw [if_pos h]
    rw [labx, tb]
    have hfo := fol_op h1 h2 k2
    obtain ⟨m, f, m1, m2, m3⟩ := red_low r1 u1 6 (opB x.n).2.toNat (by omega) (by omega) (by omega) (by split at n1 <;> omega) hfo
    generalize hPA : (parK (tgh a) A (if (opB x.n).2 = 3 then 4 else (opB x.n).2)).length = PA at *
    generalize hPC : (parK (tgh c) C ((opB x.n).2 + 1)).length = PC at *
    have hN : i + (PA + (1 + PC)) = i + PA + 1 + PC := by omega
    rw [hN]
    refine ⟨.mk ⟨10, x.n, ⟨#[]⟩, frT ts i, toT ts (i + PA + 1 + PC - 1)⟩ [a', c'], sm2 h.symm rfl hs.symm s1 s2, by omega, by omega, fun e => by omega, fun e => by omega, fun _ _ hz => ?_⟩
    have hfin : Qx ts ((opB x.n).2.toNat + 1) (i + PA + 1) = (c', i + PA + 1 + PC, 0) := red_fin r2 u2 (by omega) (by omega) (by omega) (by rw [Nat.add_sub_cancel]; exact hz)
    obtain ⟨m, rfl⟩ : ∃ q, m = q + 1 := ⟨m - 1, by have := r1.1; have := r1.2.1; omega⟩
    refine ⟨m, true, by omega, ?_⟩
    rw [m3, lpL, if_neg (by simp)]
    dsimp only
    have ho : opK (nxt ts (i + PA)) = (x.n, (opB x.n).2.toNat) := by rw [lke_opK k2, opK_kw h1 h2]
    rw [ho, hfin]
    dsimp only
    have hcond : ¬ ((opB x.n).2.toNat ≠ (opB x.n).2.toNat ∨ ((opB x.n).2.toNat = 3 ∧ f = true)) := by
      rintro (g | ⟨g1, g2⟩)
      · exact g rfl
      · have := m2 g2
        have h3 : (opB x.n).2 = 3 := by omega
        rw [if_pos h3] at n1
        omega
    rw [if_neg hcond, if_neg (by simp)]
    rfl
  | neg x a al A h hn hs ha ia =>
    intro i hk hb
    obtain ⟨k1, k2⟩ := lk_app.1 hk
    have k1 := lk_one.1 k1
    simp only [List.length_append, List.length_singleton] at hb k2 ⊢
    obtain ⟨a', w1, s1, n1, u1, v1, r1⟩ := par_read ha ia (by decide) (by decide) k2 (by omega)
    rw [labx, tgh6 h]
    generalize hPA : (parK (tgh a) A 6).length = PA at *
    rw [show i + (1 + PA) = i + 1 + PA by omega] at hb ⊢
    have g1 := r1.1
    refine ⟨.mk ⟨11, 1, ⟨#[]⟩, frT ts i, toT ts (i + 1 + PA - 1)⟩ [a'], sm1 h.symm hn.symm hs.symm s1, by omega, by omega, fun e => by omega, fun _ hz => ?_, fun _ e => by omega⟩
    have hfin : Qx ts 6 (i + 1) = (a', i + 1 + PA, 0) := red_fin r1 u1 (by decide) (by omega) (by decide) hz
    have hu : unN ts i = 1 := by unfold unN; rw [if_neg (by rw [lke_isK k1]; decide), if_pos (by rw [lke_isK k1]; decide)]
    rw [Q_eq 6 i (by decide) (by decide) (by omega)]
    unfold bG
    rw [if_neg (by decide), if_pos rfl, if_neg (by rw [hu]; decide), hfin, if_neg (by simp), hu]
    rfl
  | nt x a al A h hn hs ha ia =>
    intro i hk hb
    obtain ⟨k1, k2⟩ := lk_app.1 hk
    have k1 := lk_one.1 k1
    simp only [List.length_append, List.length_singleton] at hb k2 ⊢
    obtain ⟨a', w1, s1, n1, u1, v1, r1⟩ := par_read ha ia (by decide) (by decide) k2 (by omega)
    rw [labx, tgh6 h]
    generalize hPA : (parK (tgh a) A 6).length = PA at *
    rw [show i + (1 + PA) = i + 1 + PA by omega] at hb ⊢
    have g1 := r1.1
    refine ⟨.mk ⟨11, 2, ⟨#[]⟩, frT ts i, toT ts (i + 1 + PA - 1)⟩ [a'], sm1 h.symm hn.symm hs.symm s1, by omega, by omega, fun e => by omega, fun _ hz => ?_, fun _ e => by omega⟩
    have hfin : Qx ts 6 (i + 1) = (a', i + 1 + PA, 0) := red_fin r1 u1 (by decide) (by omega) (by decide) hz
    have hu : unN ts i = 2 := by unfold unN; rw [if_pos (by rw [lke_isK k1]; decide)]
    rw [Q_eq 6 i (by decide) (by decide) (by omega)]
    unfold bG
    rw [if_neg (by decide), if_pos rfl, if_neg (by rw [hu]; decide), hfin, if_neg (by simp), hu]
    rfl
  | idx x a c al cl A C h hn hs ha hc ia ic =>
    intro i hk hb
    obtain ⟨k1, k2⟩ := lk_app.1 hk
    obtain ⟨k2, k3⟩ := lk_app.1 k2
    obtain ⟨k3, k4⟩ := lk_app.1 k3
    have k2 := lk_one.1 k2
    have k4 := lk_one.1 k4
    simp only [List.length_append, List.length_singleton] at hb k3 k4 ⊢
    obtain ⟨a', w1, s1, n1, u1, v1, r1⟩ := par_read ha ia (by decide) (by decide) k1 (by omega)
    have hw1 : w1 = 7 := by omega
    obtain ⟨c', s2, r2⟩ := ic _ k3 (by omega)
    have tc := ke_tgh hc
    rw [labx] at tc r2
    rw [labx, tgh7 (by omega) (by omega)]
    generalize hPA : (parK (tgh a) A 7).length = PA at *
    have hN : i + (PA + (1 + (C.length + 1))) = i + PA + 1 + C.length + 1 := by omega
    rw [hN] at hb ⊢
    have g1 := r1.1
    have hfin : Qx ts 1 (i + PA + 1) = (c', i + PA + 1 + C.length, 0) := red_fin r2 (by omega) (by decide) (by omega) (by decide) (fol_H k4)
    obtain ⟨hu, m, m1, m2⟩ := r1.2.2.1 hw1 (.inr (.inl (by rw [lke_isK k2]; decide)))
    obtain ⟨m, rfl⟩ : ∃ q, m = q + 1 := ⟨m - 1, by omega⟩
    refine ⟨.mk ⟨12, 0, ⟨#[]⟩, frT ts i, toT ts (i + PA + 1 + C.length + 1 - 1)⟩ [a', c'], sm2 h.symm hn.symm hs.symm s1 s2, by omega, by omega, fun _ _ => ⟨hu, m, by omega, ?_⟩, fun e => by omega, fun _ e => by omega⟩
    rw [m2, lpP, if_neg (by simp)]
    dsimp only
    rw [if_pos (by rw [lke_isK k2]; decide), hfin]
    dsimp only
    rw [if_neg (by simp), if_neg (by rw [lke_isK k4]; decide)]
    rfl
  | fld x a al A h hn ha ia =>
    intro i hk hb
    obtain ⟨k1, k2⟩ := lk_app.1 hk
    obtain ⟨k2, k3⟩ := lk_app.1 k2
    have k2 := lk_one.1 k2
    have k3 := lk_one.1 k3
    simp only [List.length_append, List.length_singleton] at hb k3 ⊢
    obtain ⟨a', w1, s1, n1, u1, v1, r1⟩ := par_read ha ia (by decide) (by decide) k1 (by omega)
    have hw1 : w1 = 7 := by omega
    rw [labx, tgh7 (by omega) (by omega)]
    generalize hPA : (parK (tgh a) A 7).length = PA at *
    have hN : i + (PA + (1 + 1)) = i + PA + 2 := by omega
    rw [hN] at hb ⊢
    have g1 := r1.1
    obtain ⟨hu, m, m1, m2⟩ := r1.2.2.1 hw1 (.inr (.inr (by rw [lke_isK k2]; decide)))
    obtain ⟨m, rfl⟩ : ∃ q, m = q + 1 := ⟨m - 1, by omega⟩
    refine ⟨.mk ⟨13, 0, (nxt ts (i + PA + 1)).s, frT ts i, toT ts (i + PA + 2 - 1)⟩ [a'], sm1 h.symm hn.symm k3.s s1, by omega, by omega, fun _ _ => ⟨hu, m, by omega, ?_⟩, fun e => by omega, fun _ e => by omega⟩
    rw [m2, lpP, if_neg (by simp)]
    dsimp only
    rw [if_neg (by rw [lke_isK k2]; decide), if_pos (by rw [lke_isK k2]; decide), if_neg (by rw [k3.k]; show ¬ (1 : Int) ≠ 1; decide)]
    rfl
  | lst x l Ms h hn hs h0 hl hw ih =>
    intro i hk hb
    obtain ⟨l', q1, q2⟩ := clo_read l Ms hl (fun k t M a b => ⟨hw k t M a b, ih k t M a b⟩) false sOpen sShut (fun e => absurd e h0) (fun e => by cases e) (fol_kwd (by decide) (by decide) (by decide) (by decide)) (by decide) (by decide) (by decide) hk hb
    obtain ⟨k1, _⟩ := lk_app.1 hk
    have k1 := lk_one.1 k1
    have hpos : 1 ≤ ([kwd sOpen] ++ (preK [kwd sCom] Ms ++ [kwd sShut])).length := by simp
    generalize ([kwd sOpen] ++ (preK [kwd sCom] Ms ++ [kwd sShut])).length = Z at *
    rw [labx, tgh7 (by omega) (by omega)]
    refine ⟨.mk ⟨14, 0, ⟨#[]⟩, frT ts i, toT ts (i + Z - 1)⟩ l', smLs h.symm hn.symm hs.symm q1, q7 ?_ (by omega) hb (unN_zero (by rw [lke_isK k1]; decide) (by rw [lke_isK k1]; decide))⟩
    rw [q8 (by omega)]
    unfold atoG calG
    rw [if_neg (by rw [k1.k]; decide), if_neg (by rw [lke_isK k1]; decide), if_neg (by rw [lke_isK k1]; decide), if_neg (by rw [lke_isK k1]; decide), if_neg (fun g => absurd (k1.k.symm.trans g.1) (by decide)), if_neg (by rw [lke_isK k1]; decide), if_neg (by rw [k1.k]; decide), if_pos (by rw [lke_isK k1]; decide), q2]
    unfold finC
    rw [if_neg (by simp)]
    rfl
  | mak x l Ms h hn h0 hl hw ih =>
    intro i hk hb
    obtain ⟨k1, k2⟩ := lk_app.1 hk
    obtain ⟨k2, k3⟩ := lk_app.1 k2
    have k1 := lk_one.1 k1
    have k2 := lk_one.1 k2
    rw [List.length_append, List.length_append] at hb ⊢
    simp only [List.length_singleton] at hb k2 k3 ⊢
    obtain ⟨l', q1, q2⟩ := clo_read l Ms hl (fun k t M a b => ⟨hw k t M a b, ih k t M a b⟩) false sParO sParS (fun e => absurd e h0) (fun e => by cases e) (fol_kwd (by decide) (by decide) (by decide) (by decide)) (by decide) (by decide) (by decide) k3 (by omega)
    generalize ([kwd sParO] ++ (preK [kwd sCom] Ms ++ [kwd sParS])).length = Z at *
    rw [labx, tgh7 (by omega) (by omega)]
    rw [show i + (1 + (1 + Z)) = i + 1 + 1 + Z by omega] at hb ⊢
    refine ⟨.mk ⟨15, 0, (nxt ts (i + 1)).s, frT ts i, toT ts (i + 1 + 1 + Z - 1)⟩ l', smLs h.symm hn.symm k2.s q1, q7 ?_ (by omega) hb (unN_zero (by rw [lke_isK k1]; decide) (by rw [lke_isK k1]; decide))⟩
    rw [q8 (by omega)]
    unfold atoG calG
    rw [if_neg (by rw [k1.k]; decide), if_neg (by rw [lke_isK k1]; decide), if_neg (by rw [lke_isK k1]; decide), if_neg (by rw [lke_isK k1]; decide), if_neg (fun g => absurd (k1.k.symm.trans g.1) (by decide)), if_neg (by rw [lke_isK k1]; decide), if_neg (by rw [k1.k]; decide), if_neg (by rw [lke_isK k1]; decide), if_neg (by rw [lke_isK k1]; decide), if_pos (by rw [lke_isK k1]; decide), if_neg (by rw [k2.k]; show ¬ (1 : Int) ≠ 1; decide), q2]
    unfold finC
    rw [if_neg (by simp)]
    rfl
  | cal x l Ms h hn hl hw ih =>
    intro i hk hb
    obtain ⟨k1, k2⟩ := lk_app.1 hk
    have k1 := lk_one.1 k1
    have kp := lk_one.1 (lk_app.1 k2).1
    rw [List.length_append] at hb ⊢
    simp only [List.length_singleton] at hb k2 kp ⊢
    obtain ⟨l', q1, q2⟩ := clo_read l Ms hl (fun k t M a b => ⟨hw k t M a b, ih k t M a b⟩) true sParO sParS (fun e => rfl) (fun e => rfl) (fol_kwd (by decide) (by decide) (by decide) (by decide)) (by decide) (by decide) (by decide) k2 (by omega)
    generalize ([kwd sParO] ++ (preK [kwd sCom] Ms ++ [kwd sParS])).length = Z at *
    rw [labx, tgh7 (by omega) (by omega)]
    rw [show i + (1 + Z) = i + 1 + Z by omega] at hb ⊢
    refine ⟨.mk ⟨16, 0, (nxt ts i).s, frT ts i, toT ts (i + 1 + Z - 1)⟩ l', smLs h.symm hn.symm k1.s q1, q7 ?_ (by omega) hb (unN_zero (by rw [lke_isK k1]; exact isK_nm _ _) (by rw [lke_isK k1]; exact isK_nm _ _))⟩
    rw [q8 (by omega)]
    unfold atoG calG
    rw [if_neg (by rw [k1.k]; show ¬ (1 : Int) = 2; decide), if_neg (by rw [lke_isK k1, isK_nm]; simp), if_neg (by rw [lke_isK k1, isK_nm]; simp), if_neg (by rw [lke_isK k1, isK_nm]; simp), if_neg (fun g => by rw [lke_isK kp] at g; exact absurd g.2 (by decide)), if_neg (by rw [lke_isK k1, isK_nm]; simp), if_pos (by rw [k1.k]; rfl), q2]
    unfold finC
    rw [if_neg (by simp)]
    rfl
  | ext x l Ms h hn hl hw ih =>
    intro i hk hb
    obtain ⟨k1, k2⟩ := lk_app.1 hk
    obtain ⟨k2, k3⟩ := lk_app.1 k2
    have k1 := lk_one.1 k1
    have k2 := lk_one.1 k2
    rw [List.length_append, List.length_append] at hb ⊢
    simp only [List.length_singleton] at hb k2 k3 ⊢
    obtain ⟨l', q1, q2⟩ := clo_read l Ms hl (fun k t M a b => ⟨hw k t M a b, ih k t M a b⟩) true sParO sParS (fun e => rfl) (fun e => rfl) (fol_kwd (by decide) (by decide) (by decide) (by decide)) (by decide) (by decide) (by decide) k3 (by omega)
    generalize ([kwd sParO] ++ (preK [kwd sCom] Ms ++ [kwd sParS])).length = Z at *
    rw [labx, tgh7 (by omega) (by omega)]
    rw [show i + (1 + (1 + Z)) = i + 1 + 1 + Z by omega] at hb ⊢
    refine ⟨.mk ⟨17, 0, (nxt ts (i + 1)).s, frT ts i, toT ts (i + 1 + 1 + Z - 1)⟩ l', smLs h.symm hn.symm k2.s q1, q7 ?_ (by omega) hb (unN_zero (by rw [lke_isK k1]; decide) (by rw [lke_isK k1]; decide))⟩
    rw [q8 (by omega)]
    unfold atoG calG
    rw [if_neg (by rw [k1.k]; decide), if_neg (by rw [lke_isK k1]; decide), if_neg (by rw [lke_isK k1]; decide), if_neg (by rw [lke_isK k1]; decide), if_neg (fun g => absurd (k1.k.symm.trans g.1) (by decide)), if_neg (by rw [lke_isK k1]; decide), if_neg (by rw [k1.k]; decide), if_neg (by rw [lke_isK k1]; decide), if_pos (by rw [lke_isK k1]; decide), if_neg (by rw [k2.k]; show ¬ (1 : Int) ≠ 1; decide), q2]
    unfold finC
    rw [if_neg (by simp)]
    rfl
end
end Go.Proofs.YtlkggpjdaaglmaaDoor.am
end
section
namespace Go.Proofs.YtlkggpjdaaglmaaDoor.am
open vt
set_option linter.unusedVariables false
section
variable {ts : List Tok}
theorem opK_rng {x : Tok} (h : (opK x).2 ≤ 5) : 1 ≤ (opK x).1 ∧ (opK x).1 ≤ 13 := by
  obtain ⟨k, n, s, f, t⟩ := x
  unfold opK at h ⊢
  by_cases c : k = 4
  · rw [if_pos c] at h ⊢
    dsimp only at h ⊢
    clear c
    by_cases e0 : s = (⟨#[124, 124]⟩ : ByteArray)
    · subst e0; exact ⟨by decide, by decide⟩
    by_cases e1 : s = (⟨#[38, 38]⟩ : ByteArray)
    · subst e1; exact ⟨by decide, by decide⟩
    by_cases e2 : s = (⟨#[61, 61]⟩ : ByteArray)
    · subst e2; exact ⟨by decide, by decide⟩
    by_cases e3 : s = (⟨#[33, 61]⟩ : ByteArray)
    · subst e3; exact ⟨by decide, by decide⟩
    by_cases e4 : s = (⟨#[60]⟩ : ByteArray)
    · subst e4; exact ⟨by decide, by decide⟩
    by_cases e5 : s = (⟨#[60, 61]⟩ : ByteArray)
    · subst e5; exact ⟨by decide, by decide⟩
    by_cases e6 : s = (⟨#[62]⟩ : ByteArray)
    · subst e6; exact ⟨by decide, by decide⟩
    by_cases e7 : s = (⟨#[62, 61]⟩ : ByteArray)
    · subst e7; exact ⟨by decide, by decide⟩
    by_cases e8 : s = (⟨#[43]⟩ : ByteArray)
    · subst e8; exact ⟨by decide, by decide⟩
    by_cases e9 : s = (⟨#[45]⟩ : ByteArray)
    · subst e9; exact ⟨by decide, by decide⟩
    by_cases e10 : s = (⟨#[42]⟩ : ByteArray)
    · subst e10; exact ⟨by decide, by decide⟩
    by_cases e11 : s = (⟨#[47]⟩ : ByteArray)
    · subst e11; exact ⟨by decide, by decide⟩
    by_cases e12 : s = (⟨#[37]⟩ : ByteArray)
    · subst e12; exact ⟨by decide, by decide⟩
    simp [opS, e0, e1, e2, e3, e4, e5, e6, e7, e8, e9, e10, e11, e12] at h
  · rw [if_neg c] at h; exact absurd h (by decide)
end
end Go.Proofs.YtlkggpjdaaglmaaDoor.am
end
