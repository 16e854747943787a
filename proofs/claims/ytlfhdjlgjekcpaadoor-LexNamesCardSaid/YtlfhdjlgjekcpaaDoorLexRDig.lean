/-
  Layer 5: the document's Digits.
-/
import Derived.Test.YtlfhdjlgjekcpaaDoorLexJoin
import Derived.Laws.IdiomStrings
import Derived.Lib.ItoaLen
namespace Go.Proofs.YtlfhdjlgjekcpaaDoor.lx
open Go.ChangeShapes Go.WideShapes Go.ChangeAt Go.RowKit
open bs
set_option linter.unusedVariables false

theorem one_text (d : Nat) (hd : d < 256) (W : World) (B0 : Nat) (hc : W.cell? ⟨B0, 0, none⟩ = some (.int .u8 d)) : (convert 47 9 (.slice (some ⟨B0, 0, none⟩) 1 1)).run Tryd.prog W = .ok (.string (mkB [UInt8.ofNat d])) W := by
  have h := run_convert_bytes_back (P := Tryd.prog) W 47 9 5 ⟨B0, 0, none⟩ 1 [UInt8.ofNat d] Tryd.underlying47 Tryd.underlying5 Tryd.underlying9 (fun j hj => by
    have hj0 : j = 0 := by simpa using hj
    subst hj0
    show W.cell? ((⟨B0, 0, none⟩ : Addr).add 0) = _
    have e : (⟨B0, 0, none⟩ : Addr).add 0 = ⟨B0, 0, none⟩ := by unfold Addr.add; split <;> simp_all
    rw [e, hc]
    congr 2
    show (d : Int) = ((UInt8.ofNat d).toNat : Int)
    rw [UInt8.toNat_ofNat']
    omega)
  exact h

theorem numT_one {u : Nat} (h : u < 10) : numT (u : Int) = mkB [UInt8.ofNat (48 + u)] := by rw [numT_nat, dec_small h]
theorem mk_app (l m : List UInt8) : mkB (l ++ m) = mkB l ++ mkB m := by
  apply txt_inj
  rw [txt_app, txt_mk, txt_mk, txt_mk, List.map_append]
theorem numT_more {u : Nat} (h : ¬ u < 10) : numT (u : Int) = numT ((u / 10 : Nat) : Int) ++ mkB [UInt8.ofNat (48 + u % 10)] := by rw [numT_nat, dec_big h, mk_app, numT_nat]
theorem numT_neg1 {u : Nat} (h0 : 1 ≤ u) (h : u < 10) : numT (-(u : Int)) = mkB [45] ++ mkB [UInt8.ofNat (48 + u)] := by
  unfold numT
  rw [Lib.itoa_neg u h0, dec_small h, ← mk_app]
  rfl
theorem numT_neg2 {u : Nat} (h : ¬ u < 10) : numT (-(u : Int)) = numT (-((u / 10 : Nat) : Int)) ++ mkB [UInt8.ofNat (48 + u % 10)] := by
  unfold numT
  rw [Lib.itoa_neg u (by omega), Lib.itoa_neg (u / 10) (by omega), dec_big h, ← mk_app]
  rfl

theorem one_text' (w : World) (z : Int) (d : Nat) (hz : z = (d : Int)) (hd : d < 256) : (convert 47 9 (.slice (some ⟨w.heap.size, 0, none⟩) 1 1)).run Tryd.prog (w.alloc (.cells #[.int .u8 z] 5)) = .ok (.string (mkB [UInt8.ofNat d])) (w.alloc (.cells #[.int .u8 z] 5)) := by
  subst hz
  exact one_text d hd _ _ (cell_new w _ _ _ _ rfl)

set_option maxRecDepth 100000 in
set_option maxHeartbeats 8000000 in
theorem rdigits_any (N : Nat) : ∀ (n : Int) (w : World), n.natAbs ≤ N → -9223372036854775808 ≤ n → n ≤ 9223372036854775807 → Calls Tryd.prog 15 #[.int .i64 n] w (StP (numT n) w) := by
  induction N using Nat.strongRecOn with
  | _ N ih =>
  intro n w hN h0 h1
  by_cases hneg : n < 0
  · obtain ⟨u, rfl⟩ : ∃ u : Nat, n = -(u : Int) := ⟨n.natAbs, by omega⟩
    have hu : 1 ≤ u := by omega
    have d0 : decide (-(u : Int) < 0) = true := decide_eq_true hneg
    by_cases hs : u < 10
    · have HE := Lib.hid (numT_neg1 hu hs)
      have hcv := one_text' w (48 + (u : Int)) (48 + u) (by omega) (by omega)
      have HW := Lib.hid ((Below.refl w.heap.size w).alloc (Nat.le_refl _) (.cells #[.int .u8 (48 + (u : Int))] 5))
      have hz1 : (mkB [UInt8.ofNat (48 + u)]).size = 1 := mk_size _
      obtain ⟨T, hT⟩ : ∃ T, mkB [UInt8.ofNat (48 + u)] = T := ⟨_, rfl⟩
      rw [hT] at HE hcv hz1
      clear hT
      go_enter Tryd.func15, Tryd.ntmps15
      go_wp2
      go_ret
      refine ⟨?_, HW.out⟩
      rw [HE.out]
      rfl
    · have d1 : decide ((-10 : Int) < -(u : Int)) = false := decide_eq_false (by omega)
      have HE := Lib.hid (numT_neg2 hs)
      have hq : IntKind.i64.wrap (-((u : Int) / 10)) = (-((u / 10 : Nat) : Int)) := by rw [IntWalk.i64_in _ (by omega)]; omega
      have hr : (u : Int).tmod 10 = ((u % 10 : Nat) : Int) := by rw [Int.tmod_eq_emod_of_nonneg (by omega)]; omega
      have hw1 : IntKind.i64.wrap (48 + ((u % 10 : Nat) : Int)) = ((48 + u % 10 : Nat) : Int) := by rw [IntWalk.i64_in _ (by omega)]; omega
      have hw2 : IntKind.u8.wrap ((48 + u % 10 : Nat) : Int) = ((48 + u % 10 : Nat) : Int) := by rw [IntKind.wrap_u8]; omega
      have hd : 48 + u % 10 < 256 := by omega
      have hih := fun V => ih (N - 1) (by omega) (-((u / 10 : Nat) : Int)) V (by omega) (by omega) (by omega)
      obtain ⟨D, hD⟩ : ∃ D, 48 + u % 10 = D := ⟨_, rfl⟩
      rw [hD] at hw1 hw2 hd HE
      obtain ⟨R, hR⟩ : ∃ R, ((u % 10 : Nat) : Int) = R := ⟨_, rfl⟩
      rw [hR] at hr hw1
      obtain ⟨Q, hQ⟩ : ∃ Q, (-((u / 10 : Nat) : Int)) = Q := ⟨_, rfl⟩
      rw [hQ] at hq HE hih
      have hsz : (numT Q).size ≤ 21 := by
        unfold numT
        rw [mk_size]
        exact Lib.itoa_length_le Q (by omega) (by omega)
      obtain ⟨P, hP⟩ : ∃ P, numT Q = P := ⟨_, rfl⟩
      rw [hP] at HE hih hsz
      have cv1 := fun V : World => one_text' V (D : Int) D rfl hd
      have cv2 := fun (W : World) B0 => one_text D hd W B0
      have hT1 : (mkB [UInt8.ofNat D]).size = 1 := mk_size _
      obtain ⟨T, hT⟩ : ∃ T, mkB [UInt8.ofNat D] = T := ⟨_, rfl⟩
      rw [hT] at HE cv1 cv2 hT1
      have a1 : ¬ 9223372036854775807 < P.size + T.size := by omega
      have a2 : ¬ 9223372036854775807 < P.size + 1 := by omega
      have HIH := Lib.hid hih
      have CV1 := Lib.hid cv1; have CV2 := Lib.hid cv2
      have HBD : Hid (Below w.heap.size w w.drew) := Lib.hid (Below.drew (Below.refl _ _))
      have HBA : Hid (Below w.heap.size w (w.drew.alloc (.cells #[.int .u8 (D : Int)] 5))) := Lib.hid (HBD.out.alloc (Nat.le_refl _) _)
      have k2 := CV1.out w.drew
      have c2 : (w.drew.alloc (.cells #[.int .u8 (D : Int)] 5)).cell? ⟨w.heap.size, 0, none⟩ = some (.int .u8 (D : Int)) := cell_new w.drew _ _ _ _ rfl
      have HBB : Hid (Below w.heap.size w ((w.alloc (.cells #[.int .u8 (D : Int)] 5)).drew)) := Lib.hid (Below.drew ((Below.refl _ _).alloc (Nat.le_refl _) _))
      have k4 := CV1.out w
      have c3 : ((w.alloc (.cells #[.int .u8 (D : Int)] 5)).drew).cell? ⟨w.heap.size, 0, none⟩ = some (.int .u8 (D : Int)) := cell_new w _ _ _ _ rfl
      have C3 := Lib.hid c3
      have k5 := CV2.out _ _ c3
      clear c3
      have C2 := Lib.hid c2
      clear hih hsz hd hD hR hQ hP hT hN h0 h1 cv1 cv2 ih c2
      go_enter Tryd.func15, Tryd.ntmps15
      go_wp2_with fail
      go_region_law
        (go_simp; go_at_call 15; first
          | ((with_reducible refine (HIH.out w.drew).mono ?_); rintro e w2 ⟨rfl, hb2⟩; have k1 := CV1.out w2; have HBX : Hid (Below w.heap.size w (w2.alloc (.cells #[.int .u8 (D : Int)] 5))) := Lib.hid ((HBD.out.trans hb2).alloc hb2.size _); clear hb2)
          | ((with_reducible refine (HIH.out ((w.alloc (.cells #[.int .u8 (D : Int)] 5)).drew)).mono ?_); rintro e w2 ⟨rfl, hb2⟩; have k3 := CV2.out w2 w.heap.size (by rw [hb2.cell (p := ⟨w.heap.size, 0, none⟩) (by simp only [World.size_drew, World.size_alloc]; show w.heap.size < w.heap.size + 1; omega)]; exact C3.out); have HBX : Hid (Below w.heap.size w w2) := Lib.hid (HBB.out.trans (hb2.mono HBB.out.size)); clear hb2)
          | ((with_reducible refine (HIH.out (w.drew.alloc (.cells #[.int .u8 (D : Int)] 5))).mono ?_); rintro e w2 ⟨rfl, hb2⟩; have k3 := CV2.out w2 w.heap.size (by rw [hb2.cell (p := ⟨w.heap.size, 0, none⟩) (by simp only [World.size_alloc, World.size_drew]; show w.heap.size < w.heap.size + 1; omega)]; exact C2.out); have HBX : Hid (Below w.heap.size w w2) := Lib.hid (HBA.out.trans (hb2.mono HBA.out.size)); clear hb2))
      all_goals
        go_wp2
        go_ret
        refine ⟨?_, HBX.out⟩
        rw [HE.out]
        rfl
  · obtain ⟨u, rfl⟩ : ∃ u : Nat, n = (u : Int) := ⟨n.toNat, by omega⟩
    have d0 : decide ((u : Int) < 0) = false := decide_eq_false hneg
    by_cases hs : u < 10
    · have d1 : decide ((u : Int) < 10) = true := decide_eq_true (by omega)
      have HE := Lib.hid (numT_one hs)
      have hcv := one_text' w (48 + (u : Int)) (48 + u) (by omega) (by omega)
      have HW := Lib.hid ((Below.refl w.heap.size w).alloc (Nat.le_refl _) (.cells #[.int .u8 (48 + (u : Int))] 5))
      obtain ⟨T, hT⟩ : ∃ T, mkB [UInt8.ofNat (48 + u)] = T := ⟨_, rfl⟩
      rw [hT] at HE hcv
      clear hT
      go_enter Tryd.func15, Tryd.ntmps15
      go_wp2
      go_ret
      refine ⟨?_, HW.out⟩
      rw [HE.out]
      rfl
    · have d1 : decide ((u : Int) < 10) = false := decide_eq_false (by omega)
      have HE := Lib.hid (numT_more hs)
      have hq : IntKind.i64.wrap ((u : Int) / 10) = ((u / 10 : Nat) : Int) := by rw [IntWalk.i64_in _ (by omega)]; omega
      have hr : (u : Int).tmod 10 = ((u % 10 : Nat) : Int) := by rw [Int.tmod_eq_emod_of_nonneg (by omega)]; omega
      have hw1 : IntKind.i64.wrap (48 + ((u % 10 : Nat) : Int)) = ((48 + u % 10 : Nat) : Int) := by rw [IntWalk.i64_in _ (by omega)]; omega
      have hw2 : IntKind.u8.wrap ((48 + u % 10 : Nat) : Int) = ((48 + u % 10 : Nat) : Int) := by rw [IntKind.wrap_u8]; omega
      have hd : 48 + u % 10 < 256 := by omega
      have hih := fun V => ih (N - 1) (by omega) ((u / 10 : Nat) : Int) V (by omega) (by omega) (by omega)
      obtain ⟨D, hD⟩ : ∃ D, 48 + u % 10 = D := ⟨_, rfl⟩
      rw [hD] at hw1 hw2 hd HE
      obtain ⟨R, hR⟩ : ∃ R, ((u % 10 : Nat) : Int) = R := ⟨_, rfl⟩
      rw [hR] at hr hw1
      obtain ⟨Q, hQ⟩ : ∃ Q, ((u / 10 : Nat) : Int) = Q := ⟨_, rfl⟩
      rw [hQ] at hq HE hih
      have hsz : (numT Q).size ≤ 21 := by
        unfold numT
        rw [mk_size]
        exact Lib.itoa_length_le Q (by omega) (by omega)
      obtain ⟨P, hP⟩ : ∃ P, numT Q = P := ⟨_, rfl⟩
      rw [hP] at HE hih hsz
      have cv1 := fun V : World => one_text' V (D : Int) D rfl hd
      have cv2 := fun (W : World) B0 => one_text D hd W B0
      have hT1 : (mkB [UInt8.ofNat D]).size = 1 := mk_size _
      obtain ⟨T, hT⟩ : ∃ T, mkB [UInt8.ofNat D] = T := ⟨_, rfl⟩
      rw [hT] at HE cv1 cv2 hT1
      have a1 : ¬ 9223372036854775807 < P.size + T.size := by omega
      have a2 : ¬ 9223372036854775807 < P.size + 1 := by omega
      have HIH := Lib.hid hih
      have CV1 := Lib.hid cv1; have CV2 := Lib.hid cv2
      have HBD : Hid (Below w.heap.size w w.drew) := Lib.hid (Below.drew (Below.refl _ _))
      have HBA : Hid (Below w.heap.size w (w.drew.alloc (.cells #[.int .u8 (D : Int)] 5))) := Lib.hid (HBD.out.alloc (Nat.le_refl _) _)
      have k2 := CV1.out w.drew
      have c2 : (w.drew.alloc (.cells #[.int .u8 (D : Int)] 5)).cell? ⟨w.heap.size, 0, none⟩ = some (.int .u8 (D : Int)) := cell_new w.drew _ _ _ _ rfl
      have HBB : Hid (Below w.heap.size w ((w.alloc (.cells #[.int .u8 (D : Int)] 5)).drew)) := Lib.hid (Below.drew ((Below.refl _ _).alloc (Nat.le_refl _) _))
      have k4 := CV1.out w
      have c3 : ((w.alloc (.cells #[.int .u8 (D : Int)] 5)).drew).cell? ⟨w.heap.size, 0, none⟩ = some (.int .u8 (D : Int)) := cell_new w _ _ _ _ rfl
      have C3 := Lib.hid c3
      have k5 := CV2.out _ _ c3
      clear c3
      have C2 := Lib.hid c2
      clear hih hsz hd hD hR hQ hP hT hN h0 h1 cv1 cv2 ih c2
      go_enter Tryd.func15, Tryd.ntmps15
      go_wp2_with fail
      go_region_law
        (go_simp; go_at_call 15; first
          | ((with_reducible refine (HIH.out w.drew).mono ?_); rintro e w2 ⟨rfl, hb2⟩; have k1 := CV1.out w2; have HBX : Hid (Below w.heap.size w (w2.alloc (.cells #[.int .u8 (D : Int)] 5))) := Lib.hid ((HBD.out.trans hb2).alloc hb2.size _); clear hb2)
          | ((with_reducible refine (HIH.out ((w.alloc (.cells #[.int .u8 (D : Int)] 5)).drew)).mono ?_); rintro e w2 ⟨rfl, hb2⟩; have k3 := CV2.out w2 w.heap.size (by rw [hb2.cell (p := ⟨w.heap.size, 0, none⟩) (by simp only [World.size_drew, World.size_alloc]; show w.heap.size < w.heap.size + 1; omega)]; exact C3.out); have HBX : Hid (Below w.heap.size w w2) := Lib.hid (HBB.out.trans (hb2.mono HBB.out.size)); clear hb2)
          | ((with_reducible refine (HIH.out (w.drew.alloc (.cells #[.int .u8 (D : Int)] 5))).mono ?_); rintro e w2 ⟨rfl, hb2⟩; have k3 := CV2.out w2 w.heap.size (by rw [hb2.cell (p := ⟨w.heap.size, 0, none⟩) (by simp only [World.size_alloc, World.size_drew]; show w.heap.size < w.heap.size + 1; omega)]; exact C2.out); have HBX : Hid (Below w.heap.size w w2) := Lib.hid (HBA.out.trans (hb2.mono HBA.out.size)); clear hb2))
      all_goals
        go_wp2
        go_ret
        refine ⟨?_, HBX.out⟩
        rw [HE.out]
        rfl
end Go.Proofs.YtlfhdjlgjekcpaaDoor.lx
