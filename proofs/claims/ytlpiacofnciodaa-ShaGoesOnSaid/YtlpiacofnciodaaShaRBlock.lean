/-
  Layer 3: the contract of the document's 'Block'.
-/
import Derived.Test.YtlpiacofnciodaaShaNum
import Derived.StillTailTactics
namespace Go.Proofs.Ytlpiacofnciodaa.sh
open Go.ChangeShapes Go.WideShapes Go.ChangeAt Go.RowKit
open bs
open Go.Proofs.Ytlpiacofnciodaa.rs
set_option linter.unusedVariables false

theorem mapI_at (D : List (BitVec 32)) (i : Nat) (h : i < D.length) : (D.map I).getD i 0 = I (D.getD i 0) := by
  rw [List.getD_eq_getElem?_getD, List.getElem?_map, List.getD_eq_getElem?_getD, List.getElem?_eq_getElem h]
  rfl

theorem rrot_int (x : BitVec 32) (i : Int) (w : World) (h1 : 1 ≤ i) (h2 : i ≤ 31) :
    Calls Try.prog 28 #[.int .u32 (I x), .int .u64 i] w fun e w' => e = .returned (.int .u32 (I (rotr x i.toNat))) ∧ w = w' := by
  have h := rrot_any x i.toNat w (by omega) (by omega)
  rwa [Int.toNat_of_nonneg (by omega)] at h

def ZRel (s : St) (K W : List (BitVec 32)) (w1 : World) (t : Nat) (va vb vc vd ve vf vg vh : Value) (wr : World) : Prop :=
  ∃ (n : Nat) (z : St), wr = w1.drewN n ∧ va = .int .u32 (I z.a) ∧ vb = .int .u32 (I z.b) ∧ vc = .int .u32 (I z.c) ∧ vd = .int .u32 (I z.d) ∧ ve = .int .u32 (I z.e) ∧ vf = .int .u32 (I z.f) ∧ vg = .int .u32 (I z.g) ∧ vh = .int .u32 (I z.h) ∧ rs s K W t = z

set_option maxRecDepth 100000 in
set_option maxHeartbeats 2000000 in
theorem rblock_any (s : St) (a0 : Option Addr) (c0 : Nat) (K : List (BitVec 32)) (hK : K.length = 64) (ak : Option Addr) (ck : Nat) (a : Option Addr) (c : Nat) (l : List Int) (w : World)
    (hs : U32s w a0 8 c0 (s.list.map I)) (h : Bytes w a 64 c l) (hk : U32s w ak 64 ck (K.map I)) :
    Calls Try.prog 15 #[.slice a0 8 c0, .slice a 64 c, .slice ak 64 ck] w (WPost w w.heap.size 8 ((blk K s l).list.map I)) := by
  obtain ⟨b0, off0, rfl, hc0⟩ := hs.at'.resolve_left (by omega)
  obtain ⟨bk, offk, rfl, hck⟩ := hk.at'.resolve_left (by omega)
  have hm0 := hs.most; have hk0 := hs.cap
  have hmk := hk.most; have hkk := hk.cap
  have HK := Lib.hid hK
  go_enter Try.func15, Try.ntmps15
  go_wp2_with fail
  refine (numbers_any a c l _ h).mono ?_
  rintro e w1 ⟨a1, c1, rfl, ho, hb⟩
  obtain ⟨g, rfl, hg1, hg2, hg3, hg4⟩ := ho.cases.resolve_left (fun h => by omega)
  have hc0' : ∀ i, i < 8 → w1.cell? ⟨b0, off0 + i, none⟩ = some (.int .u32 (I (s.list.getD i 0))) := fun i hi => by
    have h1 := hc0 i hi
    rw [mapI_at _ _ (by simpa [St.list] using hi)] at h1
    rw [hb.cell (World.block_lt_of_cell? w _ h1)]
    exact h1
  have hck' : ∀ i, i < 64 → w1.cell? ⟨bk, offk + i, none⟩ = some (.int .u32 (I (K.getD i 0))) := fun i hi => by
    have h1 := hck i hi
    rw [mapI_at _ _ (by omega)] at h1
    rw [hb.cell (World.block_lt_of_cell? w _ h1)]
    exact h1
  have hcw : ∀ i, i < 64 → w1.cell? ⟨g, i, none⟩ = some (.int .u32 (I ((ws l 64).getD i 0))) := fun i hi => by
    have h1 := ho.cellAt i hi
    rw [ws_mapat l 64 i hi] at h1
    exact h1
  simp only [maxLen] at hg4
  have e0 := hc0' 0 (by omega)
  have e1 := hc0' 1 (by omega)
  have e2 := hc0' 2 (by omega)
  have e3 := hc0' 3 (by omega)
  have e4 := hc0' 4 (by omega)
  have e5 := hc0' 5 (by omega)
  have e6 := hc0' 6 (by omega)
  have e7 := hc0' 7 (by omega)
  simp only [St.list] at e0 e1 e2 e3 e4 e5 e6 e7
  rw [Nat.add_zero] at e0
  have CK := Lib.hid hck'; have CW := Lib.hid hcw; have HB := Lib.hid hb
  clear hs h hk hc0 hck hc0' hck' hcw ho hb hK
  go_wp2_with fail
  go_quiet (fail)
  go_wp2_with fail
  go_quiet (fail)
  go_wp2_with fail
  go_loopw [8, 9, 10, 11, 12, 13, 14, 15, 16] (fun va vb vc vd ve vf vg vh i wr => ∃ t : Nat, t ≤ 64 ∧ i = .int .i64 t ∧ ZRel s K (ws l 64) w1 t va vb vc vd ve vf vg vh wr) (fun _ _ _ _ _ _ _ _ i _ => 64 - (intOf i).toNat)
  case atStart => exact ⟨0, by omega, rfl, _, s, World.drewN_drewN _ _ _, rfl, rfl, rfl, rfl, rfl, rfl, rfl, rfl, rfl⟩
  case round =>
    obtain ⟨t, ht, rfl, n, z, rfl, rfl, rfl, rfl, rfl, rfl, rfl, rfl, rfl, hz⟩ := hrel
    by_cases h64 : t < 64
    · have ct := CK.out t h64
      have cw := CW.out t h64
      have hn : rs s K (ws l 64) (t + 1) = rnd z (K.getD t 0 + (ws l 64).getD t 0) := by rw [← hz]; rfl
      generalize K.getD t 0 = kt at ct hn
      generalize (ws l 64).getD t 0 = wt at cw hn
      have HN := Lib.hid hn
      clear hn hz e0 e1 e2 e3 e4 e5 e6 e7
      obtain ⟨za, zb, zc, zd, ze, zf, zg, zh⟩ := z
      simp only
      go_wp2_with fail
      go_quiet ((go_at_call 28; exact qa (rrot_int _ _ _ (by omega) (by omega))))
      go_wp2_with fail
      refine (rrot_any za 2 _ (by omega) (by omega)).mono ?_
      rintro ee w' ⟨rfl, rfl⟩
      go_wp2_with fail
      refine (rrot_any za 13 _ (by omega) (by omega)).mono ?_
      rintro ee w' ⟨rfl, rfl⟩
      go_wp2_with fail
      refine (rrot_any za 22 _ (by omega) (by omega)).mono ?_
      rintro ee w' ⟨rfl, rfl⟩
      go_wp2
      go_roundw
      case rel =>
        refine ⟨t + 1, by omega, by go_num, _, _, rfl, ?_, rfl, rfl, rfl, ?_, rfl, rfl, rfl, HN.out⟩
        · congr 1
          simp only [I_and, I_not, I_xor, modI, BitVec.ofInt_add, ofInt_I, rnd, gre, BitVec.add_assoc]
        · congr 1
          simp only [I_and, I_not, I_xor, modI, BitVec.ofInt_add, ofInt_I, rnd, gre, BitVec.add_assoc]
      case measure => simp [intOf]; omega
    · obtain rfl : t = 64 := by omega
      go_wp2_with fail
      obtain ⟨W, hW⟩ : ∃ W, W = w1.drewN n := ⟨_, rfl⟩
      rw [← hW]
      rw [show ∀ p, w1.cell? p = W.cell? p from fun p => by rw [hW]; rfl] at e0 e1 e2 e3 e4 e5 e6 e7
      have HBW := Lib.hid (show Below w.heap.size w W by rw [hW]; exact below_drewN HB.out n)
      clear hW
      go_still_tail 40, (by kernel_rfl)
      change wpList _ _ _ _ _ (W.drewN 1)
      go_wp2
      simp only [I_addm]
      have hL : (blk K s l).list.map I = [I (s.a + z.a), I (s.b + z.b), I (s.c + z.c), I (s.d + z.d), I (s.e + z.e), I (s.f + z.f), I (s.g + z.g), I (s.h + z.h)] := by
        rw [show blk K s l = s.add z by rw [← hz]; rfl]
        simp only [St.add, St.list, List.map_cons, List.map_nil, BitVec.add_comm]
      go_ret
      rw [hL]
      refine ⟨_, 8, rfl, ?_, ?_⟩
      · exact OwnW.made (W.drewN 1) w.heap.size _ [I (s.a + z.a), I (s.b + z.b), I (s.c + z.c), I (s.d + z.d), I (s.e + z.e), I (s.f + z.f), I (s.g + z.g), I (s.h + z.h)] _ rfl HBW.out.size (by simp [maxLen]) (by
          have := I_allW [s.a + z.a, s.b + z.b, s.c + z.c, s.d + z.d, s.e + z.e, s.f + z.f, s.g + z.g, s.h + z.h]
          exact this)
      · exact (below_drewN HBW.out 1).alloc HBW.out.size _

end Go.Proofs.Ytlpiacofnciodaa.sh
