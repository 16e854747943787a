/-
  Layer 19: what a way leads to: Get, and the document's Leads, Get.
-/
import Derived.Test.YtpdicfekhghfeaaValCount
import Derived.Test.YtpdicfekhghfeaaCutI
import Derived.BigQuiet
namespace Go.Proofs.Ytpdicfekhghfeaa.va
open Go.ChangeShapes Go.WideShapes Go.ChangeAt Go.RowKit
open bs tr
set_option linter.unusedVariables false

/-- A node in a block of its own. -/
abbrev VB (w : World) (g : Nat) (v : Vn) : Prop := Blk w g #[.int .i64 v.x, .slice v.a v.m v.c] 27
def v0 : Vn := ⟨0, none, 0, 0, []⟩
theorem v0_cells : (#[.int .i64 v0.x, .slice v0.a v0.m v0.c] : Array Value) = #[.int .i64 0, .slice none 0 0] := rfl
theorem v0_rd (w : World) : v0.Rd w := ⟨⟨rfl, Nat.le_refl _, by show 0 ≤ _; omega, fun _ => rfl, .inl rfl⟩, (by show (-9223372036854775808 : Int) ≤ 0 ∧ (0 : Int) ≤ 9223372036854775807; omega)⟩

theorem results_cell_tmp {P : Program} {fn : Func} {p q : Tmp} {ty : TypeId} (h : fn.results = #[.cell p ty, .tmp q]) (tmps : Array Value) (w : World) (g : Nat) (t : TypeId) (cs : Array Value) (d : TypeDesc)
    (hp : tmps.getD p undef = .pointer (some ⟨g, 0, none⟩)) (hg : Blk w g cs t)
    (hu : P.underlying ty = some d) (hd : (match d with | .struct _ | .array _ _ => true | _ => false) = true) (hi : (P.info? ty).map (·.size) = some cs.size) :
    (results fn tmps).run P w = .ok (.tuple #[.agg cs, tmps.getD q undef]) w := by
  have hp' : tmps[p]?.getD undef = .pointer (some ⟨g, 0, none⟩) := by simpa using hp
  simp [results, h, hp', asAddr, run_loadVar_row w g t ty cs _ d hg hu hd hi]

/-- What At, Get answer. -/
def GP (t : VT) (p : List Int) (w : World) (e : Ending) (w' : World) : Prop :=
  ∃ (u : Vn) (ok : Bool), e = .returned (.tuple #[u.val, .bool ok]) ∧ Below w.heap.size w w' ∧ u.Rd w' ∧ (ok = true → Tr.at' t p = some u.tr) ∧ (ok = false → Tr.at' t p = none ∧ u = v0)

theorem drop_at {l : List Int} {k : Nat} (h : k < l.length) : l.drop k = l.getD k 0 :: l.drop (k + 1) := by
  rw [List.drop_eq_getElem_cons h, List.getD_eq_getElem?_getD, List.getElem?_eq_getElem h]; rfl

set_option maxRecDepth 100000 in
set_option maxHeartbeats 2000000 in
theorem get_any (v : Vn) (pa : Option Addr) (n c : Nat) (p : List Int) (w : World) (hv : v.Rd w) (hp : I64s w pa n c p) : Calls Try.prog 14 #[v.val, .slice pa n c] w (GP v.tr p w) := by
  have hcap := hp.cap; have hmost := hp.most; have hlen := hp.len
  have hW1 : Below w.heap.size w ((w.alloc (.cells #[.int .i64 v.x, .slice v.a v.m v.c] 27)).alloc (.cells #[.int .i64 0, .slice none 0 0] 27)) := ((Below.refl _ _).alloc (Nat.le_refl _) _).alloc (by simp) _
  have hX : VB ((w.alloc (.cells #[.int .i64 v.x, .slice v.a v.m v.c] 27)).alloc (.cells #[.int .i64 0, .slice none 0 0] 27)) w.heap.size v := (Blk.new w _ _).below ((Below.refl _ _).alloc (Nat.le_refl _) _)
  have hY : VB ((w.alloc (.cells #[.int .i64 v.x, .slice v.a v.m v.c] 27)).alloc (.cells #[.int .i64 0, .slice none 0 0] 27)) (w.heap.size + 1) v0 := by
    have := Blk.new (w.alloc (.cells #[.int .i64 v.x, .slice v.a v.m v.c] 27)) #[.int .i64 0, .slice none 0 0] 27
    unfold VB
    rw [v0_cells]
    simpa using this
  have HW := Lib.hid hW1; have HX := Lib.hid hX; have HY := Lib.hid hY
  have HV := Lib.hid hv; have HP := Lib.hid hp
  have HLN := Lib.hid hlen
  clear hv hW1 hX hY hp hlen
  unfold Vn.val
  go_enter Try.func14, Try.ntmps14
  go_wp2_with fail
  generalize hWW : ((w.alloc (.cells #[.int .i64 v.x, .slice v.a v.m v.c] 27)).alloc (.cells #[.int .i64 0, .slice none 0 0] 27)) = W at HW HX HY ⊢
  clear hWW
  go_loopw [7, 10] (fun s7 i wr => ∃ (k : Nat) (x : Vn), k ≤ n ∧ i = .int .i64 k ∧ Hid (Below w.heap.size w wr) ∧ Hid (VB wr w.heap.size x) ∧ Hid (VB wr (w.heap.size + 1) v0) ∧ Hid (x.Rd w) ∧ Hid (Tr.at' v.tr p = Tr.at' x.tr (p.drop k))) (fun _ i _ => n - (intOf i).toNat)
  case atStart => exact ⟨0, v, by omega, rfl, HW, HX, HY, HV, Lib.hid rfl⟩
  case round =>
    obtain ⟨k, x, hk2, rfl, HR, HXX, HYY, HRX, HE⟩ := hrel
    have p0 := HXX.out.cell 0
    have p1 := HXX.out.cell 1
    have f0 := HXX.out.free 0
    have f1 := HXX.out.free 1
    have q0 := HYY.out.cell 0
    have q1 := HYY.out.cell 1
    have g0 := HYY.out.free 0
    have g1 := HYY.out.free 1
    simp [v0] at p0 p1 q0 q1
    have hRW := HRX.out.below HR.out
    by_cases hlt : k < n
    · rcases (HP.out.below HR.out).at' with h0 | ⟨b, off, rfl, hcell⟩
      · omega
      have hz := hcell k hlt
      have hz1 := HP.out.all.getD k
      have hd := drop_at (l := p) (k := k) (by have := HLN.out; omega)
      have HD := Lib.hid hd
      obtain ⟨z, hzz⟩ : ∃ z, p.getD k 0 = z := ⟨_, rfl⟩
      rw [hzz] at hz hz1
      have HZZ := Lib.hid hzz
      clear hcell hd hzz
      have hcapx := hRW.1.cap; have hmostx := hRW.1.most
      by_cases hz0 : z < 0
      · have HRW := Lib.hid hRW
        clear hRW
        go_wp2
        try simp only [Exit.inBlock, Exit.then]
        refine bodyPost_ret (results_cell_tmp rfl _ _ (w.heap.size + 1) _ #[.int .i64 0, .slice none 0 0] _ rfl (by have := (HYY.out.set 0 (.int .i64 0)).set 1 (.slice none 0 0); simpa using this) Try.underlying27 rfl (by kernel_rfl)) rfl ?_
        refine ⟨v0, false, rfl, ?_, v0_rd _, fun h => (by cases h), fun _ => ⟨?_, rfl⟩⟩
        · exact ((HR.out.setCell (by simp) _).setCell (by simp) _)
        · rw [HE.out, HD.out, HZZ.out, Tr.at_cons, if_neg (by omega)]
      · by_cases hzm : z < x.m
        · obtain ⟨q, rfl⟩ : ∃ q : Nat, z = q := ⟨z.toNat, by omega⟩
          obtain ⟨b1, o1, x1, ha1, hb1, hx1, hc1⟩ := recs_at hRW.1 (k := q) (by omega)
          obtain ⟨b2, o2, x2, ha2, hb2, hx2, hc2⟩ := recs_at HRX.out.1 (k := q) (by omega)
          have hxx : x1 = x2 := Option.some.inj (hx1.symm.trans hx2)
          subst hxx
          have hbb : (some ⟨b1, o1, none⟩ : Option Addr) = some ⟨b2, o2, none⟩ := ha1.symm.trans ha2
          cases hbb
          obtain ⟨v1, hv1, hr1, c10, c11⟩ := VA.out hc2
          have d10 : wr.cell? ⟨b1, o1 + q * 2, none⟩ = some (.int .i64 v1.x) := by rw [HR.out.cell (p := ⟨b1, o1 + q * 2, none⟩) hb2]; exact c10
          have d11 : wr.cell? ⟨b1, o1 + q * 2 + 1, none⟩ = some (.slice v1.a v1.m v1.c) := by rw [HR.out.cell (p := ⟨b1, o1 + q * 2 + 1, none⟩) hb2]; exact c11
          have HR1 := Lib.hid hr1
          have HV1 := Lib.hid hv1; have HX1 := Lib.hid hx1
          have hlx : x.l.length = x.m := hRW.1.len
          have HLX := Lib.hid hlx
          obtain ⟨xx, xa, xm, xc, xl⟩ := x
          dsimp only at ha1 p0 p1 hzm hcapx hmostx hx1 hlx
          subst ha1
          clear hr1 hv1 hx1 hc1 hc2 ha2 c10 c11 hRW hx2 hlx hb1
          obtain ⟨z1, aa1, am1, ac1, al1⟩ := v1
          dsimp only at d10 d11
          have hne : w.heap.size ≠ w.heap.size + 1 := by omega
          have hfin : VB ((wr.setCell ⟨w.heap.size, 0, none⟩ (.int .i64 z1)).setCell ⟨w.heap.size, 1, none⟩ (.slice aa1 am1 ac1)) w.heap.size ⟨z1, aa1, am1, ac1, al1⟩ := by
            have := (HXX.out.set 0 (.int .i64 z1)).set 1 (.slice aa1 am1 ac1)
            simpa using this
          have hfin2 : VB ((wr.setCell ⟨w.heap.size, 0, none⟩ (.int .i64 z1)).setCell ⟨w.heap.size, 1, none⟩ (.slice aa1 am1 ac1)) (w.heap.size + 1) v0 := (HYY.out.other _ _ (by simp)).other _ _ (by simp)
          have HF := Lib.hid hfin; have HF2 := Lib.hid hfin2
          clear hfin hfin2
          go_wp2
          go_roundw
          case rel =>
            refine ⟨k + 1, ⟨z1, aa1, am1, ac1, al1⟩, by omega, by go_num, Lib.hid ((HR.out.setCell (by simp) _).setCell (by simp) _), HF, HF2, HR1, Lib.hid ?_⟩
            rw [HE.out, HD.out, HZZ.out]
            rw [Tr.at_kid (y := x1) (by exact HX1.out), ← HV1.out]
          case measure => simp [intOf]; omega
        · have HRW := Lib.hid hRW
          have hlx : x.l.length = x.m := hRW.1.len
          have HLX := Lib.hid hlx
          clear hRW hlx
          go_wp2
          try simp only [Exit.inBlock, Exit.then]
          refine bodyPost_ret (results_cell_tmp rfl _ _ (w.heap.size + 1) _ #[.int .i64 0, .slice none 0 0] _ rfl (by have := (HYY.out.set 0 (.int .i64 0)).set 1 (.slice none 0 0); simpa using this) Try.underlying27 rfl (by kernel_rfl)) rfl ?_
          refine ⟨v0, false, rfl, ?_, v0_rd _, fun h => (by cases h), fun _ => ⟨?_, rfl⟩⟩
          · exact ((HR.out.setCell (by simp) _).setCell (by simp) _)
          · rw [HE.out, HD.out, HZZ.out, Tr.at_cons, if_neg]
            have := HLX.out
            show ¬ (0 ≤ z ∧ z < ((x.l.length : Nat) : Int))
            omega
    · have HRW := Lib.hid hRW
      clear hRW
      go_wp2
      try simp only [Exit.inBlock, Exit.then]
      refine bodyPost_ret (results_cell_tmp rfl _ _ (w.heap.size + 1) _ #[.int .i64 x.x, .slice x.a x.m x.c] _ rfl (by have := (HYY.out.set 0 (.int .i64 x.x)).set 1 (.slice x.a x.m x.c); simpa using this) Try.underlying27 rfl (by kernel_rfl)) rfl ?_
      have hkn : p.drop k = [] := List.drop_eq_nil_of_le (by have := HLN.out; omega)
      have hbb : Below w.heap.size w ((wr.setCell ⟨w.heap.size + 1, 0, none⟩ (.int .i64 x.x)).setCell ⟨w.heap.size + 1, 1, none⟩ (.slice x.a x.m x.c)) := (HR.out.setCell (by simp) _).setCell (by simp) _
      refine ⟨x, true, rfl, hbb, HRX.out.below hbb, fun _ => ?_, fun h => (by cases h)⟩
      rw [HE.out, hkn, Tr.at_nil]

end Go.Proofs.Ytpdicfekhghfeaa.va
