/-
  Layer 22: a client, what it calls named anew: plain: what the program keeps, what the document does, and that both come to the same.
-/
import Derived.Test.YtlkggpjdaaglmaaDoorLexOrd
namespace Go.Proofs.YtlkggpjdaaglmaaDoor.am
open Go.ChangeShapes Go.WideShapes Go.ChangeAt Go.RowKit
open vt
set_option linter.unusedVariables false

/-- The spelling of a name is the bytes where it stands. -/
def NmOk (s : ByteArray) (x : Tok) : Prop := x.k = 1 → x.s = s.extract x.f.toNat x.t.toNat
theorem on_nm {s : ByteArray} {i : Nat} (h : (lx.on s i).2 = 0) : NmOk s (tkT (lx.on s i).1) := by
  by_cases hL : lx.isL (lx.B s i) = true
  · by_cases h2 : 16 < lx.run lx.isN s i - i
    · rw [lx.tk_long hL h2] at h; simp at h
    · rw [lx.tk_name hL h2]
      intro _
      show s.extract i _ = s.extract (i : Int).toNat (lx.run lx.isN s i : Int).toNat
      rw [Int.toNat_natCast, Int.toNat_natCast]
  · have hL : lx.isL (lx.B s i) = false := by simpa using hL
    by_cases hD : lx.isD (lx.B s i) = true
    · cases hn : lx.num (s.extract i (lx.run lx.isD s i)) with
      | none => rw [lx.tk_nonum hL hD hn] at h; simp at h
      | some n => rw [lx.tk_number hL hD hn]; intro hk; exact absurd (show (2 : Int) = 1 from hk) (by decide)
    · have hD : lx.isD (lx.B s i) = false := by simpa using hD
      by_cases hs : lx.sgN s i = 0
      · rw [lx.tk_none hL hD hs] at h; simp at h
      · rw [lx.tk_sign hL hD hs]; intro hk; exact absurd (show (4 : Int) = 1 from hk) (by decide)
theorem toks_nm (s : ByteArray) : ∀ n i, s.size - i ≤ n → i ≤ s.size → (lx.toks s i).2.2 = 0 → ∀ x ∈ (lx.toks s i).1, NmOk s (tkT x) := by
  have hend : NmOk s (tkT (lx.tkEnd s)) := fun hk => absurd (show (5 : Int) = 1 from hk) (by decide)
  intro n
  induction n with
  | zero =>
    intro i hn hi h x hx
    have := lx.nx_le hi
    rw [lx.toks, dif_neg (by omega)] at hx
    rcases List.mem_cons.1 hx with rfl | hx
    · exact hend
    · cases hx
  | succ n ih =>
    intro i hn hi h
    have hx := lx.nx_le hi
    by_cases h1 : lx.nx s i < s.size
    · have h2 : (lx.on s (lx.nx s i)).2 = 0 := by
        by_cases h2 : (lx.on s (lx.nx s i)).2 = 0
        · exact h2
        · rw [lx.toks, dif_pos ⟨h1, hi⟩, dif_neg h2] at h; exact absurd h h2
      obtain ⟨hf, j, hj, hlt, hle⟩ := lx.on_to h1 h2
      have hk := on_nm h2
      rw [lx.toks, dif_pos ⟨h1, hi⟩, dif_pos h2] at h ⊢
      simp only at h ⊢
      obtain ⟨x, hxe⟩ : ∃ x, (lx.on s (lx.nx s i)).1 = x := ⟨_, rfl⟩
      rw [hxe] at hf hj hk h ⊢
      have hjt : x.t.toNat = j := by rw [hj]; simp
      rw [hjt] at h ⊢
      by_cases h3 : (lx.toks s j).2.2 = 0; rotate_left
      · rw [if_neg h3] at h; exact absurd h h3
      rw [if_pos h3]
      intro y hy
      rcases List.mem_cons.1 hy with rfl | hy
      · exact hk
      · exact ih j (by omega) hle h3 y hy
    · intro x hx
      rw [lx.toks, dif_neg (by omega)] at hx
      rcases List.mem_cons.1 hx with rfl | hx
      · exact hend
      · cases hx
theorem tok_nm {s : ByteArray} (h : (tokG s).2.2 = 0) : ∀ x ∈ (tokG s).1, NmOk s x := by
  unfold tokG lx.tokens at h ⊢
  by_cases hb : 8192 < s.size
  · rw [if_pos hb] at h; exact absurd (show (3 : Int) = 0 from h) (by decide)
  rw [if_neg hb] at h ⊢
  intro x hx
  obtain ⟨y, hy, rfl⟩ := List.mem_map.1 hx
  exact toks_nm s s.size 0 (Nat.sub_le _ _) (Nat.zero_le _) h y hy

/-! Names anew -/
abbrev Nm : Type := ByteArray × ByteArray
abbrev sAt : ByteArray := ⟨#[64]⟩
def fndN (nm : List Nm) (s : ByteArray) : Option ByteArray := (nm.find? fun p => decide (p.1 = s)).map (·.2)
/-- Does a name behind @ stand there? -/
def isAt (ts : List Tok) (i : Nat) : Bool := decide (0 < i) && decide ((nxt ts i).k = 1) && decide ((nxt ts (i - 1)).k = 4) && decide ((nxt ts (i - 1)).s = sAt)
/-- What the program has written of so many tokens, and up to where. -/
def rP (c : ByteArray) (nm : List Nm) (ts : List Tok) : Nat → Int × ByteArray
  | 0 => (0, ByteArray.empty)
  | i + 1 => if isAt ts i = true then (match fndN nm (nxt ts i).s with
      | some w => (toT ts i, (rP c nm ts i).2 ++ c.extract (rP c nm ts i).1.toNat (frT ts i).toNat ++ w)
      | none => rP c nm ts i) else rP c nm ts i
/-- .. what the document has. -/
def rD (c : ByteArray) (nm : List Nm) (ts : List Tok) : Nat → Int × ByteArray
  | 0 => (0, ByteArray.empty)
  | i + 1 => if isAt ts i = true then (toT ts i, (rD c nm ts i).2 ++ c.extract (rD c nm ts i).1.toNat (frT ts i).toNat ++ (fndN nm (nxt ts i).s).getD (nxt ts i).s) else rD c nm ts i
theorem ext_ext {c : ByteArray} {a b d : Nat} (h1 : a ≤ b) (h2 : b ≤ d) : c.extract a b ++ c.extract b d = c.extract a d := by
  rw [ByteArray.extract_append_extract, Nat.min_eq_left h1, Nat.max_eq_right h2]
theorem emp_app (a : ByteArray) : ByteArray.empty ++ a = a := by
  apply ByteArray.ext; simp
theorem app_asc (a b d : ByteArray) : a ++ b ++ d = a ++ (b ++ d) := by
  apply ByteArray.ext; simp [Array.append_assoc]
theorem app_sz (a b : ByteArray) : (a ++ b).size = a.size + b.size := ByteArray.size_append
theorem ext_self (c : ByteArray) (a : Nat) : c.extract a a = ByteArray.empty := by
  apply ByteArray.ext; simp
theorem app_emp (a : ByteArray) : a ++ ByteArray.empty = a := by
  apply ByteArray.ext; simp
/-- What holds all along. -/
structure Along (c : ByteArray) (nm : List Nm) (ts : List Tok) (i : Nat) : Prop where
  p0 : 0 ≤ (rP c nm ts i).1
  pd : (rP c nm ts i).1 ≤ (rD c nm ts i).1
  dc : (rD c nm ts i).1 ≤ c.size
  dn : i < ts.length → (rD c nm ts i).1 ≤ frT ts i
  eq : (rP c nm ts i).2 ++ c.extract (rP c nm ts i).1.toNat (rD c nm ts i).1.toNat = (rD c nm ts i).2
theorem along {c : ByteArray} (nm : List Nm) (h : (tokG c).2.2 = 0) : ∀ i, i ≤ (tokG c).1.length → Along c nm (tokG c).1 i := by
  obtain ⟨M, a1, a2, a3, a4, a5⟩ := (tok_ok h).ex
  have hn := tok_nm h
  generalize (tokG c).1 = ts at a1 hn ⊢
  have hcl : CL c.size 0 ts := by rw [a1]; exact cl_snoc (x := enT c) a2 (Int.le_refl _) (Int.le_refl _)
  intro i
  induction i with
  | zero =>
    intro hi
    refine ⟨Int.le_refl _, Int.le_refl _, by show (0 : Int) ≤ c.size; omega, fun h => (cl_at 0 hcl h).1, ?_⟩
    show ByteArray.empty ++ c.extract 0 0 = ByteArray.empty
    rw [ext_self, emp_app]
  | succ i ih =>
    intro hi
    have g := ih (by omega)
    obtain ⟨c1, c2, c3, c4⟩ := cl_at i hcl (by omega)
    have q := g.dn (by omega)
    by_cases hat : isAt ts i = true
    · have e2 : rD c nm ts (i + 1) = (toT ts i, (rD c nm ts i).2 ++ c.extract (rD c nm ts i).1.toNat (frT ts i).toNat ++ (fndN nm (nxt ts i).s).getD (nxt ts i).s) := by rw [rD, if_pos hat]
      have hge : (rD c nm ts i).2 ++ c.extract (rD c nm ts i).1.toNat (frT ts i).toNat = (rP c nm ts i).2 ++ c.extract (rP c nm ts i).1.toNat (frT ts i).toNat := by
        rw [← g.eq, app_asc, ext_ext (by have := g.pd; have := g.p0; omega) (by have := g.pd; have := g.p0; omega)]
      cases hf : fndN nm (nxt ts i).s with
      | some w =>
        have e1 : rP c nm ts (i + 1) = (toT ts i, (rP c nm ts i).2 ++ c.extract (rP c nm ts i).1.toNat (frT ts i).toNat ++ w) := by rw [rP, if_pos hat, hf]
        rw [hf] at e2
        refine ⟨by rw [e1]; show 0 ≤ toT ts i; have := g.p0; have := g.pd; omega, by rw [e1, e2]; exact Int.le_refl _, by rw [e2]; exact c3, fun hl => by rw [e2]; exact c4 hl, ?_⟩
        rw [e1, e2]
        show (_ ++ _ ++ w) ++ c.extract (toT ts i).toNat (toT ts i).toNat = _ ++ _ ++ w
        rw [ext_self, app_emp, hge]
      | none =>
        have e1 : rP c nm ts (i + 1) = rP c nm ts i := by rw [rP, if_pos hat, hf]
        rw [hf] at e2
        refine ⟨by rw [e1]; exact g.p0, by rw [e1, e2]; show _ ≤ toT ts i; have := g.pd; omega, by rw [e2]; exact c3, fun hl => by rw [e2]; exact c4 hl, ?_⟩
        have hk : (nxt ts i).k = 1 := by
          unfold isAt at hat
          simp only [Bool.and_eq_true, decide_eq_true_eq] at hat
          exact hat.1.1.2
        obtain ⟨x, hx⟩ : ∃ x, ts[i]? = some x := ⟨_, List.getElem?_eq_getElem (by omega)⟩
        have hs : (nxt ts i).s = c.extract (frT ts i).toNat (toT ts i).toNat := by
          have := hn x (List.mem_of_getElem? hx)
          unfold frT toT
          rw [nxt_some hx] at hk ⊢
          exact this hk
        rw [e1, e2]
        show (rP c nm ts i).2 ++ c.extract (rP c nm ts i).1.toNat (toT ts i).toNat = (rD c nm ts i).2 ++ c.extract (rD c nm ts i).1.toNat (frT ts i).toNat ++ (nxt ts i).s
        rw [hge, hs, app_asc, ext_ext (by have := g.p0; have := g.pd; omega) (by have := g.p0; have := g.pd; omega)]
    · have e1 : rP c nm ts (i + 1) = rP c nm ts i := by rw [rP, if_neg hat]
      have e2 : rD c nm ts (i + 1) = rD c nm ts i := by rw [rD, if_neg hat]
      refine ⟨by rw [e1]; exact g.p0, by rw [e1, e2]; exact g.pd, by rw [e2]; exact g.dc, fun hl => by rw [e2]; have := c4 hl; omega, by rw [e1, e2]; exact g.eq⟩
theorem along_all {c : ByteArray} (nm : List Nm) (h : (tokG c).2.2 = 0) {n : Nat} (hn : n = (tokG c).1.length) : (rP c nm (tokG c).1 n).2 ++ c.extract (rP c nm (tokG c).1 n).1.toNat c.size = (rD c nm (tokG c).1 n).2 ++ c.extract (rD c nm (tokG c).1 n).1.toNat c.size := by
  have g := along nm h n (by omega)
  rw [← g.eq, app_asc, ext_ext (by have := g.pd; have := g.p0; omega) (by have := g.dc; omega)]
/-- It only grows. -/
theorem grows (c : ByteArray) (nm : List Nm) (ts : List Tok) (i : Nat) : ∀ d, (rD c nm ts i).2.size ≤ (rD c nm ts (i + d)).2.size
  | 0 => Nat.le_refl _
  | d + 1 => by
    refine Nat.le_trans (grows c nm ts i d) ?_
    show _ ≤ (rD c nm ts (i + d + 1)).2.size
    rw [rD]
    split
    · rw [app_sz, app_sz]; omega
    · exact Nat.le_refl _
/-- How long it is. -/
theorem rP_size {c : ByteArray} {nm : List Nm} {ts : List Tok} {K : Nat} (hK : ∀ p ∈ nm, p.2.size ≤ K) : ∀ i, (rP c nm ts i).2.size ≤ i * (K + c.size)
  | 0 => by show 0 ≤ _; omega
  | i + 1 => by
    have ih := rP_size (c := c) (ts := ts) hK i
    rw [Nat.add_mul, Nat.one_mul, rP]
    split
    · split
      · rename_i w hw
        show ((rP c nm ts i).2 ++ _ ++ w).size ≤ _
        rw [app_sz, app_sz]
        have h1 : w.size ≤ K := by
          unfold fndN at hw
          obtain ⟨p, hp, rfl⟩ := Option.map_eq_some_iff.1 hw
          exact hK p (List.mem_of_find?_eq_some hp)
        have h2 : (c.extract (rP c nm ts i).1.toNat (frT ts i).toNat).size ≤ c.size := by
          rw [ByteArray.size_extract]; omega
        omega
      · omega
    · omega
/-- A client named anew: the text, the place and the error. -/
def renG (c : ByteArray) (nm : List Nm) : ByteArray × Int × Int :=
  if (tokG c).2.2 ≠ 0 then (ByteArray.empty, (((tokG c).2.1 : Nat) : Int), (tokG c).2.2)
  else if 8192 < ((rP c nm (tokG c).1 (tokG c).1.length).2 ++ c.extract (rP c nm (tokG c).1 (tokG c).1.length).1.toNat c.size).size then (ByteArray.empty, 0, 3)
  else ((rP c nm (tokG c).1 (tokG c).1.length).2 ++ c.extract (rP c nm (tokG c).1 (tokG c).1.length).1.toNat c.size, 0, 0)
theorem ren_bad {c : ByteArray} {nm : List Nm} (h : (tokG c).2.2 ≠ 0) : renG c nm = (ByteArray.empty, (((tokG c).2.1 : Nat) : Int), (tokG c).2.2) := by
  unfold renG; rw [if_pos h]
theorem ren_long {c : ByteArray} {nm : List Nm} (h : (tokG c).2.2 = 0) {i : Nat} (hi : i ≤ (tokG c).1.length) (hl : 8192 < (rD c nm (tokG c).1 i).2.size) : renG c nm = (ByteArray.empty, 0, 3) := by
  unfold renG
  rw [if_neg (by rw [h]; simp), if_pos]
  rw [along_all nm h rfl, app_sz]
  obtain ⟨d, hd⟩ : ∃ d, (tokG c).1.length = i + d := ⟨(tokG c).1.length - i, by omega⟩
  have := grows c nm (tokG c).1 i d
  rw [← hd] at this
  omega
theorem ren_doc {c : ByteArray} {nm : List Nm} (h : (tokG c).2.2 = 0) : renG c nm = if 8192 < ((rD c nm (tokG c).1 (tokG c).1.length).2 ++ c.extract (rD c nm (tokG c).1 (tokG c).1.length).1.toNat c.size).size then (ByteArray.empty, 0, 3) else ((rD c nm (tokG c).1 (tokG c).1.length).2 ++ c.extract (rD c nm (tokG c).1 (tokG c).1.length).1.toNat c.size, 0, 0) := by
  unfold renG
  rw [if_neg (by rw [h]; simp), along_all nm h rfl]
end Go.Proofs.YtlkggpjdaaglmaaDoor.am
