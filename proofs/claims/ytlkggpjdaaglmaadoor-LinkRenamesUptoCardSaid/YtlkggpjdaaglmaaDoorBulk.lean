/-
  What the bound of a statement's second form pays for: how long its slices and strings can be.
-/
import Derived.Test.YtlkggpjdaaglmaaDoorRows
namespace Go.Proofs.YtlkggpjdaaglmaaDoor.bulks

theorem pos {H : Type} : ∀ d : DataW H, 0 < Rows.uptoBulk d := by
  intro d
  cases d with
  | lit l => cases l <;> simp only [Rows.uptoBulk] <;> omega
  | _ => simp only [Rows.uptoBulk]; omega

theorem mem_le {H : Type} (d : DataW H) : ∀ ds : List (DataW H), d ∈ ds → Rows.uptoBulk d ≤ Rows.uptoBulkAll ds
  | x :: r, h => by
    simp only [Rows.uptoBulkAll]
    rcases List.mem_cons.1 h with rfl | h'
    · omega
    · have := mem_le d r h'
      omega

theorem count_le {H : Type} : ∀ ds : List (DataW H), ds.length ≤ Rows.uptoBulkAll ds
  | [] => by simp [Rows.uptoBulkAll]
  | x :: r => by
    have := count_le r
    have := pos x
    simp only [Rows.uptoBulkAll, List.length_cons]
    omega

theorem slice_le {H : Type} (x y : List (DataW H)) : x.length + y.length + 1 ≤ Rows.uptoBulk (.slice x y) := by
  have := count_le x
  have := count_le y
  simp only [Rows.uptoBulk]
  omega

theorem arg_le {H : Type} {ds : List (DataW H)} (hk : Rows.uptoSmall H ds = true) {d : DataW H} (h : d ∈ ds) : Rows.uptoBulk d ≤ 1048576 :=
  Nat.le_trans (mem_le d ds h) (of_decide_eq_true hk)

theorem text_le {H : Type} {ds : List (DataW H)} (hk : Rows.uptoSmall H ds = true) {l : List UInt8} (h : DataW.lit (.string l) ∈ ds) : l.length ≤ 1048576 := by
  have := arg_le hk h
  simp only [Rows.uptoBulk] at this
  omega

end Go.Proofs.YtlkggpjdaaglmaaDoor.bulks
