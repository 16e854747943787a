/-
  How many elements a slice that is handed in can hold. No program is named here.
-/
import Derived.Test.YthcnligihpnfiaaAmOpen
import Derived.SizedLaws
namespace Go.Proofs.Ythcnligihpnfiaa.am
open Go.ChangeShapes Go.WideShapes Go.ChangeAt Go.RowKit
set_option linter.unusedVariables false
theorem len_sized {H : Type} {enc : TypeId × Value → H} {P : Program} {w : World} {S : CS} {t e : TypeId} {v : Value} {d : DataW H} {p : List MemPlace} {es : Nat} {l : List (List PV)} {ts : List TypeId} {ds : List (DataW H)} {j : Nat}
    (hu : P.underlying t = some (.slice e)) (h : DataW.Trod enc P w 0 (fun _ => true) true t v d p) (hr : RepV (fun _ => .un) S w v (.v (.c (.pv (.sl es l)))))
    (hz : (DataW.weightsEach P ts ds).all (· ≤ reachBytes) = true) (hj : ts[j]? = some t) (hd : ds[j]? = some d) : l.length * P.bytesOf e ≤ 140737488351232 := by
  have hr : RepP S w v (.sl es l) := hr
  obtain ⟨n, hn⟩ := h
  have hs := DataW.trod_slice hu hn
  cases hr with
  | emp a c es hm ha => simp
  | sl b off n' c es l hlen h0 hc hm hes V hcell hV =>
    rcases hs with ⟨h1, _⟩ | ⟨a, len, cap, elems, rest, m, _, h1, h2, _, _, _, h3, _⟩
    · have h1 : ([Value.slice (some ⟨b, off, none⟩) n' c] : List Value) = [.slice none 0 0] := h1
      injection h1 with h1
      cases h1
    · have h1 : ([Value.slice (some ⟨b, off, none⟩) n' c] : List Value) = [.slice (some a) len cap] := h1
      injection h1 with h1
      cases h1
      simp only [Prod.mk.injEq] at h2
      obtain ⟨rfl, _⟩ := h2
      have := sized_slice hz hj hd hu
      rw [List.length_map] at this
      rw [hlen, ← h3]
      unfold reachBytes at this
      exact Nat.le_trans (Nat.mul_le_mul_right _ (Nat.le_add_right _ _)) this
end Go.Proofs.Ythcnligihpnfiaa.am
