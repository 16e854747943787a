/-
  Layer 49: logs cut behind their right frames, and logs to which one is added. No call is named here.
-/
import Derived.Test.YtejhncdempfmjaaChainLaws2
namespace Go.Proofs.Ytejhncdempfmjaa.jo
open Go.ChangeShapes Go.WideShapes Go.ChangeAt Go.RowKit
open bs en ch
open Go.Proofs.Ytejhncdempfmjaa.sh (tagB shaSum_len)
set_option linter.unusedVariables false

theorem right_of {key : List Int} {f : Nat → Fm} {n : Nat} (hf : ∀ i, i < n → Fit (f i)) (hg : ∀ i, i < n → ch.Good key f i) : EntE key (lgF f n) n 0 ∧ ∀ i, i < n → fm (lgF f n) i = f i := by
  have he := lgF_ends f n hf
  have hc : ∀ i, i < n → fm (lgF f n) i = f i := fun i hi => (lgF_frame _ n hf i hi).2.1
  refine ⟨⟨he.1, fun i hi => ?_, .inl ?_⟩, hc⟩
  · unfold ch.Good
    rw [mgF_congr hc hi, hc i hi]
    exact hg i hi
  · rcases he.2 with h1 | ⟨_, _, h3⟩
    · exact h1
    · exact absurd rfl h3
/-- Cut behind the right frames a log is right. -/
theorem cut_right {key b : List Int} (ha : AllB b) {j : Nat} {E : Int} (h : EntE key b j E) :
    EntE key (b.take (atF b j)) j 0 ∧ (∀ i, i < j → fm (b.take (atF b j)) i = fm b i) ∧ ahd (fm (b.take (atF b j))) j = ahd (fm b) j := by
  rw [take_log ha j h.1]
  obtain ⟨h1, h2⟩ := right_of (key := key) (fun i hi => up_fit ha h.1 hi) h.2.1
  exact ⟨h1, h2, ahd_congr h2 (Nat.le_refl _)⟩
theorem ente_ends {key l : List Int} {n : Nat} (h : EntE key l n 0) : ch.Ends l n 0 := ⟨h.1, by
  rcases h.2.2 with h1 | ⟨_, _, h3⟩ | ⟨_, _, _, h4⟩
  · exact .inl h1
  · exact absurd rfl h3
  · exact absurd h4 (by decide)⟩
theorem ente_at {key l : List Int} {n : Nat} (ha : AllB l) (h : EntE key l n 0) : atF l n = l.length := by
  have h1 := at_le ha n h.1
  rcases (ente_ends h).2 with ⟨h2, _⟩ | ⟨_, _, h3⟩
  · omega
  · exact absurd rfl h3
/-- The next tag. -/
def nxT (key l : List Int) (n : Nat) (k : Int) (b : List Int) : List Int := tagB key (mg (ahd (fm l) n) ((n + 1 : Nat) : Int) k b)
theorem nxT_len (key l : List Int) (n : Nat) (k : Int) (b : List Int) : (nxT key l n k b).length = 32 := by unfold nxT tagB; exact shaSum_len _
/-- One entry more. -/
theorem add_right {key l : List Int} (ha : AllB l) {n : Nat} (h : EntE key l n 0) {k : Int} {b : List Int} (hp : payE k b.length = 0) :
    EntE key (l ++ frB k b (nxT key l n k b)) (n + 1) 0 ∧ (∀ i, i < n → fm (l ++ frB k b (nxT key l n k b)) i = fm l i) ∧ fm (l ++ frB k b (nxT key l n k b)) n = ⟨k, b, nxT key l n k b⟩ := by
  obtain ⟨f, hf⟩ : ∃ f : Nat → Fm, f = fun i => if i < n then fm l i else ⟨k, b, nxT key l n k b⟩ := ⟨_, rfl⟩
  have h1 : ∀ i, i < n → f i = fm l i := fun i hi => by rw [hf]; exact if_pos hi
  have h2 : f n = ⟨k, b, nxT key l n k b⟩ := by rw [hf]; exact if_neg (Nat.lt_irrefl n)
  have hl : l ++ frB k b (nxT key l n k b) = lgF f (n + 1) := by
    rw [lgF, lgF_congr h1, ← ends_log ha n (ente_ends h), h2]
  have hfit : ∀ i, i < n + 1 → Fit (f i) := fun i hi => by
    rcases Nat.lt_or_ge i n with h3 | h3
    · rw [h1 i h3]; exact up_fit ha h.1 h3
    · obtain rfl : i = n := by omega
      rw [h2]; exact pay_fit hp (nxT_len key l i k b)
  have hgood : ∀ i, i < n + 1 → ch.Good key f i := fun i hi => by
    rcases Nat.lt_or_ge i n with h3 | h3
    · unfold ch.Good
      rw [mgF_congr h1 h3, h1 i h3]
      exact h.2.1 i h3
    · obtain rfl : i = n := by omega
      unfold ch.Good mgF
      rw [ahd_congr (n := i) h1 (Nat.le_refl _), h2]
      rfl
  rw [hl]
  obtain ⟨q1, q2⟩ := right_of hfit hgood
  exact ⟨q1, fun i hi => by rw [q2 i (by omega), h1 i hi], by rw [q2 n (by omega), h2]⟩
theorem add_ahd {key l : List Int} (ha : AllB l) {n : Nat} (h : EntE key l n 0) {k : Int} {b : List Int} (hp : payE k b.length = 0) : ahd (fm (l ++ frB k b (nxT key l n k b))) (n + 1) = nxT key l n k b := by
  show (fm (l ++ frB k b (nxT key l n k b)) n).t = _
  rw [(add_right ha h hp).2.2]

end Go.Proofs.Ytejhncdempfmjaa.jo
