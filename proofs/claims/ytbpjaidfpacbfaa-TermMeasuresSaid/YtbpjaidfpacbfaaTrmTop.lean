/-
  Layer 6: the program's Put.
-/
import Derived.Test.YtbpjaidfpacbfaaTrmPut
namespace Go.Proofs.Ytbpjaidfpacbfaa.te
open Go.ChangeShapes Go.WideShapes Go.ChangeAt Go.RowKit
open bs tr
set_option linter.unusedVariables false

def StP (t : VT) (p : List Int) (x : VT) (w : World) (e : Ending) (w' : World) : Prop :=
  ∃ (r : Vn) (ok : Bool), e = .returned (.tuple #[r.val, .bool ok]) ∧ Below w.heap.size w w' ∧ r.Rd w' ∧ (ok = true → (∃ u, Tr.at' t p = some u) ∧ r.tr = Tr.put t p x) ∧ (ok = false → Tr.at' t p = none ∧ r = v0)

set_option maxRecDepth 100000 in
set_option maxHeartbeats 2000000 in
theorem pset_any (v x : Vn) (pa : Option Addr) (n c : Nat) (p : List Int) (w : World) (hv : v.Rd w) (hx : x.Rd w) (hp : I64s w pa n c p) (hsz : v.tr.size ≤ 1000) : Calls Try.prog 23 #[v.val, .slice pa n c, x.val] w (StP v.tr p x.tr w) := by
  have hW1 : Below w.heap.size w (((w.alloc (.cells #[.int .i64 v.x.k, .int .i64 v.x.n, .string v.x.s, .slice v.a v.m v.c, .int .i64 v.x.f, .int .i64 v.x.t] 24)).alloc (.cells #[.int .i64 x.x.k, .int .i64 x.x.n, .string x.x.s, .slice x.a x.m x.c, .int .i64 x.x.f, .int .i64 x.x.t] 24)).alloc (.cells #[.int .i64 0, .int .i64 0, .string ⟨#[]⟩, .slice none 0 0, .int .i64 0, .int .i64 0] 24)) := (((Below.refl _ _).alloc (Nat.le_refl _) _).alloc (by simp) _).alloc (by simp; omega) _
  have hZ : Blk (((w.alloc (.cells #[.int .i64 v.x.k, .int .i64 v.x.n, .string v.x.s, .slice v.a v.m v.c, .int .i64 v.x.f, .int .i64 v.x.t] 24)).alloc (.cells #[.int .i64 x.x.k, .int .i64 x.x.n, .string x.x.s, .slice x.a x.m x.c, .int .i64 x.x.f, .int .i64 x.x.t] 24)).alloc (.cells #[.int .i64 0, .int .i64 0, .string ⟨#[]⟩, .slice none 0 0, .int .i64 0, .int .i64 0] 24)) w.heap.size #[.int .i64 v.x.k, .int .i64 v.x.n, .string v.x.s, .slice v.a v.m v.c, .int .i64 v.x.f, .int .i64 v.x.t] 24 :=
    ((Blk.new w #[.int .i64 v.x.k, .int .i64 v.x.n, .string v.x.s, .slice v.a v.m v.c, .int .i64 v.x.f, .int .i64 v.x.t] 24).below ((Below.refl _ _).alloc (Nat.le_refl _) (.cells #[.int .i64 x.x.k, .int .i64 x.x.n, .string x.x.s, .slice x.a x.m x.c, .int .i64 x.x.f, .int .i64 x.x.t] 24))).below ((Below.refl _ _).alloc (Nat.le_refl _) _)
  have hX : VB (((w.alloc (.cells #[.int .i64 v.x.k, .int .i64 v.x.n, .string v.x.s, .slice v.a v.m v.c, .int .i64 v.x.f, .int .i64 v.x.t] 24)).alloc (.cells #[.int .i64 x.x.k, .int .i64 x.x.n, .string x.x.s, .slice x.a x.m x.c, .int .i64 x.x.f, .int .i64 x.x.t] 24)).alloc (.cells #[.int .i64 0, .int .i64 0, .string ⟨#[]⟩, .slice none 0 0, .int .i64 0, .int .i64 0] 24)) (w.heap.size + 1) x := by
    have := (Blk.new (w.alloc (.cells #[.int .i64 v.x.k, .int .i64 v.x.n, .string v.x.s, .slice v.a v.m v.c, .int .i64 v.x.f, .int .i64 v.x.t] 24)) #[.int .i64 x.x.k, .int .i64 x.x.n, .string x.x.s, .slice x.a x.m x.c, .int .i64 x.x.f, .int .i64 x.x.t] 24).below ((Below.refl _ _).alloc (Nat.le_refl _) (.cells #[.int .i64 0, .int .i64 0, .string ⟨#[]⟩, .slice none 0 0, .int .i64 0, .int .i64 0] 24))
    simpa using this
  have hY : VB (((w.alloc (.cells #[.int .i64 v.x.k, .int .i64 v.x.n, .string v.x.s, .slice v.a v.m v.c, .int .i64 v.x.f, .int .i64 v.x.t] 24)).alloc (.cells #[.int .i64 x.x.k, .int .i64 x.x.n, .string x.x.s, .slice x.a x.m x.c, .int .i64 x.x.f, .int .i64 x.x.t] 24)).alloc (.cells #[.int .i64 0, .int .i64 0, .string ⟨#[]⟩, .slice none 0 0, .int .i64 0, .int .i64 0] 24)) (w.heap.size + 1 + 1) v0 := by
    have := Blk.new ((w.alloc (.cells #[.int .i64 v.x.k, .int .i64 v.x.n, .string v.x.s, .slice v.a v.m v.c, .int .i64 v.x.f, .int .i64 v.x.t] 24)).alloc (.cells #[.int .i64 x.x.k, .int .i64 x.x.n, .string x.x.s, .slice x.a x.m x.c, .int .i64 x.x.f, .int .i64 x.x.t] 24)) #[.int .i64 0, .int .i64 0, .string ⟨#[]⟩, .slice none 0 0, .int .i64 0, .int .i64 0] 24
    unfold VB
    rw [v0_cells]
    simpa using this
  have HW := Lib.hid hW1; have HZ := Lib.hid hZ; have HX := Lib.hid hX; have HY := Lib.hid hY
  have HV := Lib.hid hv.rs; have HXR := Lib.hid hx.rs; have HP := Lib.hid hp
  clear hv hx hp hW1 hZ hX hY
  unfold Vn.val
  go_enter Try.func23, Try.ntmps23
  go_upto_region 1 with fail
  generalize hWW : (((w.alloc (.cells #[.int .i64 v.x.k, .int .i64 v.x.n, .string v.x.s, .slice v.a v.m v.c, .int .i64 v.x.f, .int .i64 v.x.t] 24)).alloc (.cells #[.int .i64 x.x.k, .int .i64 x.x.n, .string x.x.s, .slice x.a x.m x.c, .int .i64 x.x.f, .int .i64 x.x.t] 24)).alloc (.cells #[.int .i64 0, .int .i64 0, .string ⟨#[]⟩, .slice none 0 0, .int .i64 0, .int .i64 0] 24)) = W at HW HZ HX HY ⊢
  have hWs : W.heap.size = w.heap.size + 3 := by rw [← hWW]; simp
  have HWS := Lib.hid hWs
  clear hWW hWs
  have p0 := HZ.out.cell 0; have p1 := HZ.out.cell 3; have p2 := HZ.out.cell 1; have p3 := HZ.out.cell 2; have p4 := HZ.out.cell 4; have p5 := HZ.out.cell 5
  simp at p0 p1 p2 p3 p4 p5
  go_wp2_with fail
  refine (get_any v pa n c p W (HV.out.below HW.out).rd' (HP.out.below HW.out)).mono ?_
  rintro e w2 ⟨⟨ux, ua, um, uc, ul⟩, ok, rfl, hb2, hu, h1, h2⟩
  have hb3 : Below W.heap.size W (w2.alloc (.cells #[.int .i64 ux.k, .int .i64 ux.n, .string ux.s, .slice ua um uc, .int .i64 ux.f, .int .i64 ux.t] 24)) := hb2.alloc hb2.size _
  have HB3 := Lib.hid hb3
  have H1 := Lib.hid h1; have H2 := Lib.hid h2
  clear hb2 hu h1 h2 hb3 p0 p1 p2 p3 p4 p5
  unfold Vn.val
  go_upto_region 2 with fail
  generalize hW2 : w2.alloc (.cells #[.int .i64 ux.k, .int .i64 ux.n, .string ux.s, .slice ua um uc, .int .i64 ux.f, .int .i64 ux.t] 24) = w3 at HB3 ⊢
  clear hW2
  have HZ3 := Lib.hid (HZ.out.below HB3.out); have HX3 := Lib.hid (HX.out.below HB3.out); have HY3 := Lib.hid (HY.out.below HB3.out)
  cases ok with
  | false =>
    go_wp2_with (refine wpList_store_T rfl _ _ rfl rfl HY3.out v0 rfl ?_)
    intro w4 hv4 ho4
    go_wp2
    try simp only [Exit.inBlock, Exit.then]
    refine bodyPost_ret (results_cell_tmp rfl _ _ (w.heap.size + 1 + 1) _ _ _ rfl hv4 Try.underlying24 rfl (by kernel_rfl)) rfl ?_
    exact ⟨v0, false, rfl, (HW.out.trans (HB3.out.mono HW.out.size)).trans (ho4.below (by omega)), v0_rd _, fun h => (by cases h), fun _ => ⟨(H2.out (by trivial)).1, rfl⟩⟩
  | true =>
    have hat := H1.out (by trivial)
    have HAT := Lib.hid hat
    have hBw : Below w.heap.size w w3 := HW.out.trans (HB3.out.mono HW.out.size)
    have HBw := Lib.hid hBw
    have HZ4 : Hid (VB w3 w.heap.size v) := HZ3
    clear hat hBw
    go_wp2_with (first | (refine wpList_load_T rfl _ rfl rfl HZ4.out ?_) | (refine wpList_load_T rfl _ rfl rfl HX3.out ?_))
    refine (put_any p v x _ w.heap.size pa n c w3 HAT.out (HV.out.below HBw.out) (HXR.out.below HBw.out) HBw.out.size hsz (HP.out.below HBw.out)).mono ?_
    rintro e w4 ⟨r, rfl, ht, hr, hb4⟩
    have HB4 := Lib.hid hb4; have HT := Lib.hid ht; have HR := Lib.hid hr
    have HY4 := Lib.hid (HY3.out.below hb4)
    have hs3 : w.heap.size + 3 ≤ w3.heap.size := by rw [← HWS.out]; exact HB3.out.size
    have hs4 := hb4.size
    clear hb4 ht hr
    go_wp2_with (refine wpList_store_T rfl _ _ rfl rfl HY4.out r rfl ?_)
    intro w5 hv5 ho5
    go_wp2
    try simp only [Exit.inBlock, Exit.then]
    refine bodyPost_ret (results_cell_tmp rfl _ _ (w.heap.size + 1 + 1) _ _ _ rfl hv5 Try.underlying24 rfl (by kernel_rfl)) rfl ?_
    exact ⟨r, true, rfl, (HBw.out.trans (HB4.out.mono HBw.out.size)).trans (ho5.below (by omega)), (HR.out.agree (ho5.kp (fun b hS => by rcases hS with h1 | h1 <;> omega))).rd', fun _ => ⟨⟨_, HAT.out⟩, HT.out⟩, fun h => (by cases h)⟩
end Go.Proofs.Ytbpjaidfpacbfaa.te
