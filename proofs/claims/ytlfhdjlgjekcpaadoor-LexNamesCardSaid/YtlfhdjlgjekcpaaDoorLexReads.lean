/-
  Layer 5: awake; LexReads.
-/
import Derived.Test.YtlfhdjlgjekcpaaDoorLexSame
namespace Go.Proofs.YtlfhdjlgjekcpaaDoor.lx
open Go.ChangeShapes Go.WideShapes Go.ChangeAt Go.RowKit
open bs
set_option linter.unusedVariables false

def sA : ByteArray := ⟨#[97, 32, 49]⟩
theorem sa_size : sA.size = 3 := rfl
theorem sa_at (i : Nat) (h : 1 < i) : at' sA i cc = false := decide_eq_false (fun x => by have h1 := x.1; have h2 : cc.size = 2 := rfl; rw [sa_size] at h1; omega)
theorem sa_toks : ∃ t u v : Tk, tokens sA = ([t, u, v], 0, 0) ∧ u.n = 1 := by
  have h0 : nx sA 0 = 0 := nx_stop (by decide) (decide_eq_false (fun x => by
    have h := at_byte (s := sA) (i := 0) (v := cc) (decide_eq_true x) (j := 0) (by decide)
    exact absurd h (by decide)))
  have r0 : run isN sA 0 = 1 := by decide
  have o0 := tk_name (s := sA) (i := 0) (by decide) (by rw [r0]; decide)
  rw [r0] at o0
  have h1 : nx sA 1 = 2 := by
    rw [nx_blank (by decide) (by decide)]
    exact nx_stop (by decide) (sa_at 2 (by omega))
  have r2 : run isD sA 2 = 3 := by decide
  have ht : txt (sA.extract 2 3) = [49] := by rw [txt_cut]; decide
  have hs : (sA.extract 2 3).size = 1 := by rw [size_cut _ _ _ (by decide) (by decide)]
  have hn : num (sA.extract 2 3) = some 1 := by
    unfold num
    rw [hs, ht, if_neg (by omega)]
    decide
  have o2 := tk_number (s := sA) (i := 2) (n := 1) (by decide) (by decide) (by rw [r2]; exact hn)
  rw [r2] at o2
  have h3 : sA.size ≤ nx sA 3 := by rw [nx_end (by decide)]; decide
  have e : app [] (toks sA 0) = ([(on sA 0).1, (on sA 2).1, tkEnd sA], 0, 0) := by
    rw [app_step (by rw [h0]; decide) (by decide) (by rw [h0, o0]), h0]
    have e1 : (on sA 0).1.t.toNat = 1 := by rw [o0]; rfl
    rw [e1, app_step (by rw [h1]; decide) (by decide) (by rw [h1, o2]), h1]
    have e2 : (on sA 2).1.t.toNat = 3 := by rw [o2]; rfl
    rw [e2, app_end h3]
    rfl
  rw [app_nil] at e
  refine ⟨(on sA 0).1, (on sA 2).1, tkEnd sA, ?_, by rw [o2]⟩
  unfold tokens
  rw [if_neg (by decide)]
  exact e

/-- What a law ends in. -/
def Good (w : World) (e : Ending) (w' : World) : Prop := e = .returned (.bool true) ∧ Below w.heap.size w w'

set_option maxRecDepth 100000 in
set_option maxHeartbeats 1000000 in
theorem awake_any (w : World) (hG : Gl w) : Calls Tryd.prog 10 #[] w (Good w) := by
  have HG := Lib.hid hG
  clear hG
  go_enter Tryd.func10, Tryd.ntmps10
  go_wp2_with fail
  refine (tokens_any ⟨#[97, 32, 49]⟩ w HG.out (by decide)).mono ?_
  rintro e w1 ⟨a, n, c, rfl, hk, hb⟩
  obtain ⟨t, u, v, ht, hu⟩ := sa_toks
  rw [show (⟨#[97, 32, 49]⟩ : ByteArray) = sA from rfl, ht] at hk ⊢
  have hn : n = 3 := hk.len.symm
  subst hn
  obtain ⟨b, off, x, rfl, hbl, hx, x0, x1, x2, x3, x4⟩ := ks_at hk (k := 1) (by omega)
  have hxu : x = u := by simpa using hx.symm
  subst hxu
  have hcap := hk.cap; have hmost := hk.most
  rw [hu] at x1
  have HB := Lib.hid hb
  clear hk hb ht hu hx x0 x2 x3 x4 HG
  dsimp only
  go_wp2
  go_ret
  exact ⟨rfl, HB.out⟩

set_option maxRecDepth 100000 in
set_option maxHeartbeats 2000000 in
theorem law_reads (s : ByteArray) (w : World) (hG : Gl w) (hmax : s.size ≤ 9223372036854775807) : Calls Tryd.prog 3 #[.string s] w (Good w) := by
  have HG := Lib.hid hG
  clear hG
  go_enter Tryd.func3, Tryd.ntmps3
  go_wp2_with fail
  refine (tokens_any s w HG.out hmax).mono ?_
  obtain ⟨r, hr⟩ : ∃ r, tokens s = r := ⟨_, rfl⟩
  have HR := Lib.hid hr
  rw [hr]
  clear hr
  obtain ⟨L, m, z⟩ := r
  rintro e w1 ⟨a, n, c, rfl, hk, hb⟩
  dsimp only at hk ⊢
  have HK := Lib.hid hk; have HB := Lib.hid hb
  clear hk hb
  go_wp2_with fail
  refine (rtokens_any s w1 hmax).mono ?_
  rw [HR.out]
  rintro e w2 ⟨a', n', c', rfl, hk, hb⟩
  dsimp only at hk ⊢
  have HK' := Lib.hid hk; have HK2 := Lib.hid (HK.out.below ks_stays hb); have HB2 := Lib.hid (HB.out.trans (hb.mono HB.out.size))
  clear hk hb HK HB
  have dz : (z == z) = true := beq_self_eq_true z
  have dm : ((m : Int) == (m : Int)) = true := beq_self_eq_true _
  go_wp2_with fail
  refine (rsame_any L a n c a' n' c' w2 HK2.out HK'.out).mono ?_
  rintro e w3 ⟨rfl, d, rfl⟩
  have HB3 := Lib.hid (below_drewN HB2.out d)
  go_wp2_with fail
  refine (awake_any _ (HG.out.below HB3.out)).mono ?_
  rintro e w4 ⟨rfl, hb4⟩
  have HB4 := Lib.hid (HB3.out.trans (hb4.mono HB3.out.size))
  clear hb4
  go_wp2
  go_ret
  exact ⟨rfl, HB4.out⟩
end Go.Proofs.YtlfhdjlgjekcpaaDoor.lx
