/-
  Layer 5: the document's Same; awake; LexReads.
-/
import Derived.Test.YtlfhdjlgjekcpaaDoorLexRTokens
import Derived.Laws.StructEq
import Derived.BigQuiet
namespace Go.Proofs.YtlfhdjlgjekcpaaDoor.lx
open Go.ChangeShapes Go.WideShapes Go.ChangeAt Go.RowKit
open bs
set_option linter.unusedVariables false

theorem eq_self (x : Tk) (W : World) : (Op.equalIn 10000 31 x.val x.val).run Tryd.prog W = .ok true W := by
  obtain ⟨k, n, s, f, t⟩ := x
  have hS : Tryd.prog.underlying 31 = some (.struct (Tryd.prog.fieldsOf 31)) := by kernel_rfl
  have hp : Tryd.prog.stoodInHeld 31 = false := by kernel_rfl
  have u1 := Tryd.underlying3; have u2 := Tryd.underlying2; have u3 := Tryd.underlying9
  rw [show (10000 : Nat) = 9999 + 1 from rfl, run_equalIn_agg W 9999 31 _ _ hS hp]
  simp only [Program.fieldsOf, Tryd.underlying31]
  go_simp
theorem guard_t : Tryd.prog.eqGuardType Tryd.prog.depth 31 = false := by kernel_rfl
theorem neq_self (x : Tk) (W : World) : (binOp .neq 31 x.val x.val).run Tryd.prog W = .ok (.bool false) W := by
  rw [run_neq_struct, eq_self]
  rfl

theorem ks_at {w : World} {a n c} {L : List Tk} (h : KS w a n c L) {k : Nat} (hk : k < n) : ∃ b off x, a = some ⟨b, off, none⟩ ∧ b < w.heap.size ∧ L[k]? = some x ∧ w.cell? ⟨b, off + k * 5, none⟩ = some (.int .i64 x.k) ∧ w.cell? ⟨b, off + k * 5 + 1, none⟩ = some (.int .i64 x.n) ∧ w.cell? ⟨b, off + k * 5 + 2, none⟩ = some (.string x.s) ∧ w.cell? ⟨b, off + k * 5 + 3, none⟩ = some (.int .i64 x.f) ∧ w.cell? ⟨b, off + k * 5 + 4, none⟩ = some (.int .i64 x.t) := by
  have hl := h.len
  rcases h.at' with h0 | ⟨b, off, ha, hb, hc⟩
  · omega
  · have hx : L[k]? = some (L[k]'(by omega)) := List.getElem?_eq_getElem _
    have h1 := hc k _ hx
    exact ⟨b, off, _, ha, hb, hx, h1 0 _ rfl, h1 1 _ rfl, h1 2 _ rfl, h1 3 _ rfl, h1 4 _ rfl⟩

set_option maxRecDepth 100000 in
set_option maxHeartbeats 2000000 in
theorem rsame_any (L : List Tk) (a : Option Addr) (n c : Nat) (a' : Option Addr) (n' c' : Nat) (w : World) (h : KS w a n c L) (h' : KS w a' n' c' L) :
    Calls Tryd.prog 9 #[.slice a n c, .slice a' n' c'] w fun e w' => e = .returned (.bool true) ∧ ∃ m, w' = w.drewN m := by
  have hcap := h.cap; have hmost := h.most; have hcap' := h'.cap; have hmost' := h'.most
  obtain rfl : n' = n := by rw [← h.len, ← h'.len]
  have H := Lib.hid h; have H' := Lib.hid h'
  have hg := guard_t
  have hne := neq_self
  clear h h'
  have dn : ((n' : Int) != n') = false := bne_self_eq_false _
  go_enter Tryd.func9, Tryd.ntmps9
  go_wp2
  go_loopw [5] (fun j wr => ∃ (k d : Nat), k ≤ n' ∧ j = .int .i64 k ∧ wr = w.drewN d) (fun j _ => n' - (intOf j).toNat)
  case atStart => exact ⟨0, 0, by omega, rfl, rfl⟩
  case round =>
    obtain ⟨k, d, hk, rfl, rfl⟩ := hrel
    by_cases hlt : k < n'
    · obtain ⟨b, off, x, rfl, hb, hx, x0, x1, x2, x3, x4⟩ := ks_at H.out hlt
      obtain ⟨b', off', y, rfl, hb', hy, y0, y1, y2, y3, y4⟩ := ks_at H'.out hlt
      obtain rfl : y = x := by rw [hx] at hy; exact (Option.some.inj hy).symm
      obtain ⟨xk, xn, xs, xf, xt⟩ := y
      dsimp only at x0 x1 x2 x3 x4 y0 y1 y2 y3 y4
      have hne2 := hne ⟨xk, xn, xs, xf, xt⟩
      have heq2 := eq_self ⟨xk, xn, xs, xf, xt⟩
      clear hx hy
      go_wp2_with fail
      go_quiet (fail)
      go_wp2
      go_roundw
      case rel => exact ⟨k + 1, _, by omega, by go_num, rfl⟩
      case measure => simp [intOf]; omega
    · go_wp2
      go_ret
      exact ⟨rfl, _, rfl⟩
end Go.Proofs.YtlfhdjlgjekcpaaDoor.lx
