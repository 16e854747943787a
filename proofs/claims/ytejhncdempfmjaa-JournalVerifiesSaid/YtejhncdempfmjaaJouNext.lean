/-
  Layer 49: the program's next tag.
-/
import Derived.Test.YtejhncdempfmjaaJouBase
namespace Go.Proofs.Ytejhncdempfmjaa.jo
open Go.ChangeShapes Go.WideShapes Go.ChangeAt Go.RowKit
open bs en ch
open Go.Proofs.Ytejhncdempfmjaa.sh (tagB ptag_any rtag_any)
open Go.Proofs.Ytejhncdempfmjaa.dv (Dev clampN kept apE APd)
set_option linter.unusedVariables false

set_option maxRecDepth 100000 in
set_option maxHeartbeats 2000000 in
theorem next_any (jb cnt sz : Nat) (ta : Option Addr) (tc : Nat) (t : List Int) (ka : Option Addr) (kn kc dd : Nat) (key : List Int) (k : Int) (xa : Option Addr) (xn xc : Nat) (xl : List Int) (w : World) (hj : Blk w jb (jCells cnt sz ta tc ka kn kc dd) 108) (ht : Bytes w ta 32 tc t) (hk : Bytes w ka kn kc key) (hx : Bytes w xa xn xc xl)
    (k0 : -9223372036854775808 ≤ k) (k1 : k ≤ 9223372036854775807) (hp : payE k xl.length = 0) (hkn : kn ≤ 100000) (hc : cnt ≤ 100000) :
    Calls Try.prog 71 #[.pointer (some ⟨jb, 0, none⟩), .agg #[.int .i64 k, .slice xa xn xc]] w (APost w w.heap.size 32 (tagB key (mg t ((cnt + 1 : Nat) : Int) k xl))) := by
  have hcap := hx.cap; have hmost := hx.most
  have HJ := Lib.hid hj; have HT := Lib.hid ht; have HK := Lib.hid hk; have HX := Lib.hid hx; have HP := Lib.hid hp
  have hlt := hj.lt
  have HTL := Lib.hid ht.len
  clear hj ht hk hx hp
  have hB : Below w.heap.size w (w.alloc (.cells #[.int .i64 k, .slice xa xn xc] 35)) := (Below.refl _ _).alloc (Nat.le_refl _) _
  have hN : Blk (w.alloc (.cells #[.int .i64 k, .slice xa xn xc] 35)) w.heap.size #[.int .i64 k, .slice xa xn xc] 35 := Blk.new w _ _
  go_enter Try.func71, Try.ntmps71
  go_wp2_with fail
  generalize w.alloc (.cells #[.int .i64 k, .slice xa xn xc] 35) = W at hB hN ⊢
  have HB := Lib.hid hB; have HN := Lib.hid hN
  clear hB hN
  have hKeep : ∀ V : World, Below W.heap.size W V → V.cell? ⟨jb, 2, none⟩ = some (.slice ta 32 tc) ∧ V.cell? ⟨jb, 0, none⟩ = some (.int .i64 cnt) ∧ V.cell? ⟨w.heap.size, 0, none⟩ = some (.int .i64 k) ∧ V.cell? ⟨w.heap.size, 1, none⟩ = some (.slice xa xn xc) ∧ V.cell? ⟨jb, 3, none⟩ = some (.slice ka kn kc) := fun V hV =>
    ⟨((HJ.out.below HB.out).below hV).cell 2, ((HJ.out.below HB.out).below hV).cell 0, (HN.out.below hV).cell 0, (HN.out.below hV).cell 1, ((HJ.out.below HB.out).below hV).cell 3⟩
  have Keep := Lib.hid hKeep
  clear hKeep
  have Keep4 : Hid (∀ V : World, Below W.heap.size W V → V.cell? ⟨jb, 2, none⟩ = some (.slice ta 32 tc) ∧ V.cell? ⟨jb, 0, none⟩ = some (.int .i64 cnt) ∧ V.cell? ⟨w.heap.size, 0, none⟩ = some (.int .i64 k) ∧ V.cell? ⟨w.heap.size, 1, none⟩ = some (.slice xa xn xc)) := Lib.hid (fun V hV => ⟨(Keep.out V hV).1, (Keep.out V hV).2.1, (Keep.out V hV).2.2.1, (Keep.out V hV).2.2.2.1⟩)
  have HT1 := Lib.hid (HT.out.below HB.out); have HK1 := Lib.hid (HK.out.below HB.out); have HX1 := Lib.hid (HX.out.below HB.out)
  have n1 : ((cnt : Int) + 1) = ((cnt + 1 : Nat) : Int) := by omega
  have N1 := Lib.hid n1
  have q0 : (0 : Int) ≤ (cnt : Int) + 1 := by omega
  have q1 : (cnt : Int) + 1 ≤ 18446744073709551615 := by omega
  have Q0 := Lib.hid q0; have Q1 := Lib.hid q1
  clear n1 q0 q1
  have zc : IntKind.u64.wrap (cnt : Int) = (cnt : Int) := IntWalk.u64_in _ (by omega)
  have z1 : IntKind.u64.wrap ((cnt : Int) + 1) = (cnt : Int) + 1 := IntWalk.u64_in _ (by omega)
  go_region_held3 (fun V => V.cell? ⟨jb, 2, none⟩ = some (.slice ta 32 tc) ∧ V.cell? ⟨jb, 0, none⟩ = some (.int .i64 cnt) ∧ V.cell? ⟨w.heap.size, 0, none⟩ = some (.int .i64 k) ∧ V.cell? ⟨w.heap.size, 1, none⟩ = some (.slice xa xn xc))
    (first | exact Keep4.out _ (Below.refl _ _) | exact Keep4.out _ (Below.drew (Below.refl _ _)) | exact Keep4.out _ hS)
    ((go_at_call 19; refine (message_any ta 32 tc t ((cnt : Int) + 1) k xa xn xc xl _ (HT1.out.below (Below.drew (Below.refl _ _))) (HX1.out.below (Below.drew (Below.refl _ _))) k0 k1 Q0.out Q1.out).mono ?_; rintro e w1 ⟨hb1, a1, m1, c1, r1, rfl, ho1, hr1⟩; have hS : Below W.heap.size W w1 := (Below.drew (Below.refl _ _)).trans hb1; have HO1 := Lib.hid ho1; have HR1 := Lib.hid hr1; clear ho1 hr1 hb1))
  have hms : msE t.length k xl.length = 0 := by unfold msE; rw [if_pos HTL.out]; exact HP.out
  rw [hms]
  have hr : r1 = mg t ((cnt + 1 : Nat) : Int) k xl := by rw [HR1.out, ← N1.out]; rfl
  have hm1 : m1 ≤ 100000 := by rw [← HO1.out.len, hr]; have := mg_len t ((cnt + 1 : Nat) : Int) k xl; omega
  have e3 := (Keep.out w1 hS).2.2.2.2
  have HS := Lib.hid hS; have HR := Lib.hid hr
  have HK2 := Lib.hid (HK1.out.below hS)
  have HBW := Lib.hid (HB.out.trans (hS.mono HB.out.size))
  clear hms hr hS
  go_wp2_with fail
  refine (ptag_any ka kn kc key a1 m1 c1 r1 _ HK2.out HO1.out.bytes hkn hm1).mono ?_
  rintro e w2 ⟨a2, c2, rfl, ho2, hb2⟩
  have HB2 := Lib.hid (HBW.out.trans (hb2.mono HBW.out.size)); have HO2 := Lib.hid (ho2.mono HBW.out.size)
  clear ho2 hb2 e3
  go_wp2
  go_ret
  exact ⟨a2, c2, rfl, by rw [← HR.out]; exact HO2.out, HB2.out⟩

end Go.Proofs.Ytejhncdempfmjaa.jo
