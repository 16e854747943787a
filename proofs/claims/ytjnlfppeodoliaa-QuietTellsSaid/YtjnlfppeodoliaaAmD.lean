/-
  A machine of values: names that come later. No program is named here.
-/
import Derived.Test.YtjnlfppeodoliaaAmC
import Derived.Scope
namespace Go.Proofs.Ytjnlfppeodoliaa.am
open Go.ChangeShapes Go.WideShapes Go.ChangeAt Go.RowKit
set_option linter.unusedVariables false
/-- What is built from here on may be turned in place: the next names are large ones. -/
theorem aw_big {P : Program} {N nb : Nat} {c : Code} {st : St} {Q : Exit → St → Prop} (hn : st.nx ≤ 1000000) (h : AW P N nb c { tm := st.tm, hp := st.hp, nx := 1000000 } Q) : AW P N nb c st Q := fun X hX a w hr Q' hQ => by
  obtain ⟨h1, h2, γ, S, hm, hv⟩ := hr
  exact h X hX a w ⟨h1, h2, γ, S, hm.less (fun x hx => Nat.le_trans hn hx), hv⟩ Q' hQ
/-- A function's code that holds a label which nothing leads to. -/
def ScQ (Q : Exit → St → Prop) : Exit → St → Prop
  | .goto _, _ => False
  | e, st => Q e st
theorem aw_scope {P : Program} {N nb : Nat} {c : Code} {st : St} {Q : Exit → St → Prop} (h : AW P N nb c st (ScQ Q)) : AW P N nb (.scope c) st Q := fun X hX a w hr Q' hQ =>
  wp_scope_straight (h X hX a w hr _ (fun e st' a' w' h1 h2 => by
    cases e with
    | goto l => exact h1.elim
    | _ => exact hQ _ _ _ _ h1 h2))
theorem aw_label {P : Program} {N nb : Nat} {l : Nat} {st : St} {Q : Exit → St → Prop} (h : Q .normal st) : AW P N nb (.label l) st Q := fun X hX a w hr Q' hQ => wp_label (hQ _ _ _ _ h hr)
end Go.Proofs.Ytjnlfppeodoliaa.am
