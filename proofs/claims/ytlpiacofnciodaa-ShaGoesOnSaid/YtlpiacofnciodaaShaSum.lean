/-
  Layer 3: the contract of the program's 'Sum'.
-/
import Derived.Test.YtlpiacofnciodaaShaBehind
import Derived.Test.YtlpiacofnciodaaShaFirst
import Derived.Test.YtlpiacofnciodaaTail
import Derived.StillTailTactics
namespace Go.Proofs.Ytlpiacofnciodaa.sh
open Go.ChangeShapes Go.WideShapes Go.ChangeAt Go.RowKit
open bs
set_option linter.unusedVariables false
open Go.Proofs.Ytlpiacofnciodaa.ss (be be_len be_bytes tail zer zer_le zer_cast tail_any append_any APost byteT)

/-- A part of a slice of bytes. -/
theorem sub_bytes {w : World} {b off n c : Nat} {l : List Int} (h : Bytes w (some ⟨b, off, none⟩) n c l) (i k : Nat) (hk : i + k ≤ n) : Bytes w (some ⟨b, off + i, none⟩) k (c - i) ((l.drop i).take k) := by
  have hl := h.len
  have hc := h.cap
  refine ⟨by rw [List.length_take, List.length_drop]; omega, by omega, by have := h.most; omega, ?_, by simp, ?_⟩
  · intro x hx
    exact h.all x (List.mem_of_mem_drop (List.mem_of_mem_take hx))
  · rcases Nat.eq_zero_or_pos k with h0 | h0
    · exact .inl h0
    · obtain ⟨b', off', he, hcell⟩ := h.at'.resolve_left (by omega)
      simp only [Option.some.injEq, Addr.mk.injEq, and_true] at he
      obtain ⟨rfl, rfl⟩ := he
      refine .inr ⟨b, off + i, rfl, fun j hj => ?_⟩
      rw [Nat.add_assoc, hcell (i + j) (by omega), List.getD_eq_getElem?_getD, List.getD_eq_getElem?_getD, List.getElem?_take, if_pos hj, List.getElem?_drop]

section
variable {P : Program} {w : World} {ops : Array Oper} {rest : List Oper} {o : Oper} {a : Act} {Q : Act → Prop}
/-- A whole array is loaded, in a region that draws its order. -/
theorem wpStill_load_32 (hgd : o.guard = none) (ty : TypeId) (x : Operand) (ho : o.op = .load ty x) {g : Nat} (hx : a.eval x = .pointer (some ⟨g, 0, none⟩)) {t : TypeId} {L : List (BitVec 32)} (hr : Row w g t L)
    {d : TypeDesc} (hu : P.underlying ty = some d) (hd : (match d with | .struct _ | .array _ _ => true | _ => false) = true) {n : Nat} (hi : (P.info? ty).map (·.size) = some n) (hn : L.length = n)
    (h : wpStill P ops w Q rest (a.put o.dst (.agg (cells32 L)))) : wpStill P ops w Q (o :: rest) a :=
  wpStill_step fun K hK => by
    have hw : Region.wanted o (yielded ops a.tmps) = true := by simp [Region.wanted, hgd]
    rw [if_pos hw]
    unfold Oper.still execOp
    simp only [ho, hx, Instr.loadAt, Instr.sureAddr, Sem.run_bind, Sem.run_pure, Result.andThen_ok, run_loadVar_row w g t ty (cells32 L) (0, 0) d hr hu hd (by rw [hi, cells32_size, hn])]
    exact (Oper.stillUpon_value _ _ _ _ _).mpr (hK _ h)
end

/-- A digest. -/
def outB (s : St) : List Int := s.list.flatMap fun x => be (I x) 4
/-- The first of a digest's bytes. -/
def outN (L : List (BitVec 32)) (t : Nat) : List Int := (L.take t).flatMap fun x => be (I x) 4
theorem outN_next (L : List (BitVec 32)) (t : Nat) (h : t < L.length) : outN L t ++ be (I (L.getD t 0)) 4 = outN L (t + 1) := by
  unfold outN
  rw [List.take_add_one, List.getElem?_eq_getElem h, List.getD_eq_getElem?_getD, List.getElem?_eq_getElem h, List.flatMap_append]
  simp
theorem outN_all (s : St) : outN s.list 8 = outB s := rfl
def nblk (n : Nat) : Nat := (n + 9 + zer n) / 64
theorem nblk_eq (n : Nat) : 64 * nblk n = n + (9 + zer n) := by
  have h := zer_cast n
  have := zer_le n
  unfold nblk
  omega
def allB (l : List Int) : List Int := l ++ tail l.length
def shaSum (l : List Int) : List Int := outB (blks (allB l) (nblk l.length))

end Go.Proofs.Ytlpiacofnciodaa.sh
