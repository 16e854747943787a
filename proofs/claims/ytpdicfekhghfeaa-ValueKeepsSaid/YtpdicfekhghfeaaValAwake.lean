/-
  Layer 19: the program's Set; the program answers.
-/
import Derived.Test.YtpdicfekhghfeaaValSet
namespace Go.Proofs.Ytpdicfekhghfeaa.va
open Go.ChangeShapes Go.WideShapes Go.ChangeAt Go.RowKit
open bs tr
set_option linter.unusedVariables false

def StP (t : VT) (p : List Int) (x : VT) (w : World) (e : Ending) (w' : World) : Prop :=
  ∃ (r : Vn) (ok : Bool), e = .returned (.tuple #[r.val, .bool ok]) ∧ Below w.heap.size w w' ∧ r.Rd w' ∧ (ok = true → (∃ u, Tr.at' t p = some u) ∧ r.tr = Tr.put t p x) ∧ (ok = false → Tr.at' t p = none ∧ r = v0)

set_option maxRecDepth 100000 in
set_option maxHeartbeats 2000000 in
theorem psetw_any (v x : Vn) (pa : Option Addr) (n c : Nat) (p : List Int) (w : World) (hv : v.Rd w) (hx : x.Rd w) (hp : I64s w pa n c p) (hsz : Wd v.tr) : Calls Try.prog 15 #[v.val, .slice pa n c, x.val] w (StP v.tr p x.tr w) := by
  have hW1 : Below w.heap.size w (((w.alloc (.cells #[.int .i64 v.x, .slice v.a v.m v.c] 27)).alloc (.cells #[.int .i64 x.x, .slice x.a x.m x.c] 27)).alloc (.cells #[.int .i64 0, .slice none 0 0] 27)) := (((Below.refl _ _).alloc (Nat.le_refl _) _).alloc (by simp) _).alloc (by simp; omega) _
  have hZ : Blk (((w.alloc (.cells #[.int .i64 v.x, .slice v.a v.m v.c] 27)).alloc (.cells #[.int .i64 x.x, .slice x.a x.m x.c] 27)).alloc (.cells #[.int .i64 0, .slice none 0 0] 27)) w.heap.size #[.int .i64 v.x, .slice v.a v.m v.c] 27 :=
    ((Blk.new w #[.int .i64 v.x, .slice v.a v.m v.c] 27).below ((Below.refl _ _).alloc (Nat.le_refl _) (.cells #[.int .i64 x.x, .slice x.a x.m x.c] 27))).below ((Below.refl _ _).alloc (Nat.le_refl _) _)
  have hX : VB (((w.alloc (.cells #[.int .i64 v.x, .slice v.a v.m v.c] 27)).alloc (.cells #[.int .i64 x.x, .slice x.a x.m x.c] 27)).alloc (.cells #[.int .i64 0, .slice none 0 0] 27)) (w.heap.size + 1) x := by
    have := (Blk.new (w.alloc (.cells #[.int .i64 v.x, .slice v.a v.m v.c] 27)) #[.int .i64 x.x, .slice x.a x.m x.c] 27).below ((Below.refl _ _).alloc (Nat.le_refl _) (.cells #[.int .i64 0, .slice none 0 0] 27))
    simpa using this
  have hY : VB (((w.alloc (.cells #[.int .i64 v.x, .slice v.a v.m v.c] 27)).alloc (.cells #[.int .i64 x.x, .slice x.a x.m x.c] 27)).alloc (.cells #[.int .i64 0, .slice none 0 0] 27)) (w.heap.size + 1 + 1) v0 := by
    have := Blk.new ((w.alloc (.cells #[.int .i64 v.x, .slice v.a v.m v.c] 27)).alloc (.cells #[.int .i64 x.x, .slice x.a x.m x.c] 27)) #[.int .i64 0, .slice none 0 0] 27
    unfold VB
    rw [v0_cells]
    simpa using this
  have HW := Lib.hid hW1; have HZ := Lib.hid hZ; have HX := Lib.hid hX; have HY := Lib.hid hY
  have HV := Lib.hid hv.rs; have HXR := Lib.hid hx.rs; have HP := Lib.hid hp
  clear hv hx hp hW1 hZ hX hY
  unfold Vn.val
  go_enter Try.func15, Try.ntmps15
  go_upto_region 1 with fail
  generalize hWW : (((w.alloc (.cells #[.int .i64 v.x, .slice v.a v.m v.c] 27)).alloc (.cells #[.int .i64 x.x, .slice x.a x.m x.c] 27)).alloc (.cells #[.int .i64 0, .slice none 0 0] 27)) = W at HW HZ HX HY ⊢
  have hWs : W.heap.size = w.heap.size + 3 := by rw [← hWW]; simp
  have HWS := Lib.hid hWs
  clear hWW hWs
  have p0 := HZ.out.cell 0; have p1 := HZ.out.cell 1
  simp at p0 p1
  go_wp2_with fail
  refine (get_any v pa n c p W (HV.out.below HW.out).rd' (HP.out.below HW.out)).mono ?_
  rintro e w2 ⟨⟨ux, ua, um, uc, ul⟩, ok, rfl, hb2, hu, h1, h2⟩
  have hb3 : Below W.heap.size W (w2.alloc (.cells #[.int .i64 ux, .slice ua um uc] 27)) := hb2.alloc hb2.size _
  have HB3 := Lib.hid hb3
  have H1 := Lib.hid h1; have H2 := Lib.hid h2
  clear hb2 hu h1 h2 hb3 p0 p1
  unfold Vn.val
  go_upto_region 2 with fail
  generalize hW2 : w2.alloc (.cells #[.int .i64 ux, .slice ua um uc] 27) = w3 at HB3 ⊢
  clear hW2
  have HZ3 := Lib.hid (HZ.out.below HB3.out); have HX3 := Lib.hid (HX.out.below HB3.out); have HY3 := Lib.hid (HY.out.below HB3.out)
  have q0 := HY3.out.cell 0; have q1 := HY3.out.cell 1
  have g0 := HY3.out.free 0; have g1 := HY3.out.free 1
  simp [v0] at q0 q1
  cases ok with
  | false =>
    go_wp2
    try simp only [Exit.inBlock, Exit.then]
    refine bodyPost_ret (results_cell_tmp rfl _ _ (w.heap.size + 1 + 1) _ #[.int .i64 0, .slice none 0 0] _ rfl (by have := (HY3.out.set 0 (.int .i64 0)).set 1 (.slice none 0 0); simpa using this) Try.underlying27 rfl (by kernel_rfl)) rfl ?_
    refine ⟨v0, false, rfl, ?_, v0_rd _, fun h => (by cases h), fun _ => ⟨(H2.out (by trivial)).1, rfl⟩⟩
    exact (((HW.out.trans (HB3.out.mono HW.out.size))).setCell (by simp; omega) _).setCell (by simp; omega) _
  | true =>
    have p0 := HZ3.out.cell 0; have p1 := HZ3.out.cell 1
    have r0 := HX3.out.cell 0; have r1 := HX3.out.cell 1
    simp at p0 p1 r0 r1
    have hat := H1.out (by trivial)
    have HAT := Lib.hid hat
    have hBw : Below w.heap.size w w3 := HW.out.trans (HB3.out.mono HW.out.size)
    have HBw := Lib.hid hBw
    clear hat hBw
    go_wp2_with fail
    refine (put_any p v x _ w.heap.size pa n c w3 HAT.out (HV.out.below HBw.out) (HXR.out.below HBw.out) HBw.out.size hsz (HP.out.below HBw.out)).mono ?_
    rintro e w4 ⟨⟨rx, ra, rm, rc, rl⟩, rfl, ht, hr, hb4⟩
    have HB4 := Lib.hid hb4; have HT := Lib.hid ht; have HR := Lib.hid hr
    have HY4 := Lib.hid (HY3.out.below hb4)
    have hs3 : w.heap.size + 3 ≤ w3.heap.size := by rw [← HWS.out]; exact HB3.out.size
    have hs4 := hb4.size
    clear hb4 ht hr q0 q1 g0 g1 p0 p1 r0 r1
    have q0 := HY4.out.cell 0; have q1 := HY4.out.cell 1
    have g0 := HY4.out.free 0; have g1 := HY4.out.free 1
    simp [v0] at q0 q1
    unfold Vn.val
    go_wp2
    try simp only [Exit.inBlock, Exit.then]
    refine bodyPost_ret (results_cell_tmp rfl _ _ (w.heap.size + 1 + 1) _ #[.int .i64 rx, .slice ra rm rc] _ rfl (by have := (HY4.out.set 0 (.int .i64 rx)).set 1 (.slice ra rm rc); simpa using this) Try.underlying27 rfl (by kernel_rfl)) rfl ?_
    have hbb : Below (w.heap.size + 1 + 1) w4 ((w4.setCell ⟨w.heap.size + 1 + 1, 0, none⟩ (.int .i64 rx)).setCell ⟨w.heap.size + 1 + 1, 1, none⟩ (.slice ra rm rc)) := ((Below.refl _ _).setCell (by simp) _).setCell (by simp) _
    have hkp : tr.Kp (Old w.heap.size w3.heap.size) w4 ((w4.setCell ⟨w.heap.size + 1 + 1, 0, none⟩ (.int .i64 rx)).setCell ⟨w.heap.size + 1 + 1, 1, none⟩ (.slice ra rm rc)) := by
      refine ⟨hbb.size, fun b hS _ => ?_⟩
      have hne : b ≠ w.heap.size + 1 + 1 := by rcases hS with h1 | h1 <;> omega
      exact (Below.heap_setCell _ ⟨w.heap.size + 1 + 1, 1, none⟩ _ b hne).trans (Below.heap_setCell _ ⟨w.heap.size + 1 + 1, 0, none⟩ _ b hne)
    refine ⟨⟨rx, ra, rm, rc, rl⟩, true, rfl, (HBw.out.trans (HB4.out.mono HBw.out.size)).trans (Below.mono hbb (by omega)), (HR.out.agree hkp).rd', fun _ => ⟨⟨_, HAT.out⟩, HT.out⟩, fun h => (by cases h)⟩

theorem pset_any (v x : Vn) (pa : Option Addr) (n c : Nat) (p : List Int) (w : World) (hv : v.Rd w) (hx : x.Rd w) (hp : I64s w pa n c p) (hsz : v.tr.size ≤ 1000) : Calls Try.prog 15 #[v.val, .slice pa n c, x.val] w (StP v.tr p x.tr w) :=
  psetw_any v x pa n c p w hv hx hp (Wd.of_size _ hsz)

/-- A value without parts. -/
def lf (z : Int) : VT := .mk z []

set_option maxRecDepth 100000 in
set_option maxHeartbeats 2000000 in
theorem awake_any (w : World) : Calls Try.prog 7 #[] w fun e w' => e = .returned (.bool true) ∧ Below w.heap.size w w' := by
  have hb : Below w.heap.size w ((w.alloc (.cells #[.int .i64 0, .slice none 0 0, .int .i64 0, .slice none 0 0] 27)).alloc (.cells #[.int .i64 1] 3)) := ((Below.refl _ _).alloc (Nat.le_refl _) _).alloc (by simp) _
  have hX : Blk ((w.alloc (.cells #[.int .i64 0, .slice none 0 0, .int .i64 0, .slice none 0 0] 27)).alloc (.cells #[.int .i64 1] 3)) w.heap.size #[.int .i64 0, .slice none 0 0, .int .i64 0, .slice none 0 0] 27 := (Blk.new w _ _).below ((Below.refl _ _).alloc (Nat.le_refl _) _)
  have hP : I64s ((w.alloc (.cells #[.int .i64 0, .slice none 0 0, .int .i64 0, .slice none 0 0] 27)).alloc (.cells #[.int .i64 1] 3)) (some ⟨w.heap.size + 1, 0, none⟩) 1 1 [1] := by
    have := I64s.one (w.alloc (.cells #[.int .i64 0, .slice none 0 0, .int .i64 0, .slice none 0 0] 27)) 3 1 (by omega)
    simpa using this
  have HB := Lib.hid hb; have HX := Lib.hid hX; have HP := Lib.hid hP
  clear hb hX hP
  go_enter Try.func7, Try.ntmps7
  go_wp2_with fail
  generalize hWW : (w.alloc (.cells #[.int .i64 0, .slice none 0 0, .int .i64 0, .slice none 0 0] 27)).alloc (.cells #[.int .i64 1] 3) = W at HB HX HP ⊢
  clear hWW
  have hv : Vn.Rd W ⟨0, some ⟨w.heap.size, 0, none⟩, 2, 2, [lf 0, lf 0]⟩ := by
    refine ⟨⟨rfl, Nat.le_refl _, by show 2 ≤ _; omega, by simp, .inr ⟨_, _, rfl, HX.out.lt, fun i x hi => ?_⟩⟩, by show (-9223372036854775808 : Int) ≤ 0 ∧ (0 : Int) ≤ 9223372036854775807; omega⟩
    match i with
    | 0 => cases hi; exact VA.intro (v := v0) (v0_rd _) (by have := HX.out.cell 0; simpa [v0] using this) (by have := HX.out.cell 1; simpa [v0] using this)
    | 1 => cases hi; exact VA.intro (v := v0) (v0_rd _) (by have := HX.out.cell 2; simpa [v0] using this) (by have := HX.out.cell 3; simpa [v0] using this)
    | i + 2 => simp at hi
  have hx : Vn.Rd W ⟨7, none, 0, 0, []⟩ := ⟨⟨rfl, Nat.le_refl _, by show 0 ≤ _; omega, fun _ => rfl, .inl rfl⟩, by show (-9223372036854775808 : Int) ≤ 7 ∧ (7 : Int) ≤ 9223372036854775807; omega⟩
  have hsz : (Vn.tr ⟨0, some ⟨w.heap.size, 0, none⟩, 2, 2, [lf 0, lf 0]⟩).size ≤ 1000 := by
    show Tr.size (.mk 0 [lf 0, lf 0]) ≤ 1000
    simp [Tr.size_mk, lf]
  refine (pset_any ⟨0, some ⟨w.heap.size, 0, none⟩, 2, 2, [lf 0, lf 0]⟩ ⟨7, none, 0, 0, []⟩ (some ⟨w.heap.size + 1, 0, none⟩) 1 1 [1] W hv hx HP.out hsz).mono ?_
  have hat : Tr.at' (Vn.tr ⟨0, some ⟨w.heap.size, 0, none⟩, 2, 2, [lf 0, lf 0]⟩) [1] = some (lf 0) := by
    show Tr.at' (.mk 0 [lf 0, lf 0]) [((1 : Nat) : Int)] = _
    rw [Tr.at_kid (y := lf 0) rfl, Tr.at_nil]
  have hpt : Tr.put (Vn.tr ⟨0, some ⟨w.heap.size, 0, none⟩, 2, 2, [lf 0, lf 0]⟩) [1] (Vn.tr ⟨7, none, 0, 0, []⟩) = .mk 0 [lf 0, lf 7] := by
    show Tr.put (.mk 0 [lf 0, lf 0]) [((1 : Nat) : Int)] (lf 7) = _
    rw [Tr.put_cons, Int.toNat_natCast]
    show Tr.mk 0 [lf 0, Tr.put (lf 0) [] (lf 7)] = _
    rw [Tr.put_nil]
  rintro e w2 ⟨⟨rx, ra, rm, rc, rl⟩, ok, rfl, hb2, hr, h1, h2⟩
  have hok : ok = true := by
    cases ok with
    | true => rfl
    | false => have := (h2 rfl).1; rw [hat] at this; cases this
  subst hok
  have h3 := (h1 rfl).2
  rw [hpt] at h3
  have hrl : rl = [lf 0, lf 7] := by injection h3
  subst hrl
  have hrm : rm = 2 := by have := hr.1.len; exact this.symm
  subst hrm
  obtain ⟨b1, o1, x1, ha1, hb1, hx1, hc1⟩ := recs_at hr.1 (k := 1) (by show 1 < 2; omega)
  dsimp only at ha1 hx1
  subst ha1
  cases hx1
  obtain ⟨⟨z1, aa1, am1, ac1, al1⟩, hv1e, hr1, c10, c11⟩ := VA.out hc1
  have hz1 : z1 = 7 := by injection hv1e
  subst hz1
  dsimp only at c10 c11
  have hcap := hr.1.cap; have hmost := hr.1.most
  dsimp only at hcap hmost
  have hbA : Below w2.heap.size w2 (w2.alloc (.cells #[.int .i64 rx, .slice (some ⟨b1, o1, none⟩) 2 rc] 27)) := (Below.refl _ _).alloc (Nat.le_refl _) _
  have hbl : Blk (w2.alloc (.cells #[.int .i64 rx, .slice (some ⟨b1, o1, none⟩) 2 rc] 27)) w2.heap.size #[.int .i64 rx, .slice (some ⟨b1, o1, none⟩) 2 rc] 27 := Blk.new w2 _ _
  have d10 : (w2.alloc (.cells #[.int .i64 rx, .slice (some ⟨b1, o1, none⟩) 2 rc] 27)).cell? ⟨b1, o1 + 1 * 2, none⟩ = some (.int .i64 7) := by rw [hbA.cell (p := ⟨b1, o1 + 1 * 2, none⟩) hb1]; exact c10
  have HBL := Lib.hid hbl; have HBA := Lib.hid (HB.out.trans ((hb2.mono HB.out.size).trans (hbA.mono (Nat.le_trans HB.out.size hb2.size))))
  clear h1 h2 h3 hr hc1 hr1 c10 c11 hbl hbA hb2 hb1 hv hx hsz hat hpt hv1e
  unfold Vn.val
  go_upto_region 2 with fail
  generalize hW2 : w2.alloc (.cells #[.int .i64 rx, .slice (some ⟨b1, o1, none⟩) 2 rc] 27) = w3 at HBL HBA d10 ⊢
  clear hW2
  have p1 := HBL.out.cell 1
  simp at p1
  simp only [Nat.one_mul] at d10
  go_wp2
  go_ret
  exact ⟨rfl, HBA.out⟩
end Go.Proofs.Ytpdicfekhghfeaa.va
