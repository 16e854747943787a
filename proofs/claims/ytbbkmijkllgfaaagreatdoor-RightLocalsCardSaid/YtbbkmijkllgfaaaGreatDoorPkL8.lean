import Derived.Test.YtbbkmijkllgfaaaGreatDoorPkL7
set_option maxRecDepth 100000
set_option maxHeartbeats 4000000
section
namespace Go.Proofs.YtbbkmijkllgfaaaGreatDoor.am
open Go.ChangeShapes Go.WideShapes Go.ChangeAt Go.RowKit
open vt
set_option linter.unusedVariables false
set_option linter.unusedSimpArgs false
theorem td_meas : td Tryz.prog 132 = some ⟨true, 7, 80, [.lit (.int .i64 0), .lit (.int .i64 0), .lit (.string ⟨#[]⟩), .nilS, .lit (.int .i64 0), .lit (.int .i64 0), .lit (.int .i64 0)], [(0, 6, true), (6, 1, false)], .struct⟩ := Eq.trans (by kernel_rfl) (Eq.refl _)
theorem td_pmeas : td Tryz.prog 130 = some ⟨false, 1, 8, [.lit (.pointer none)], [], (.pointer 132)⟩ := Eq.trans (by kernel_rfl) (Eq.refl _)
theorem td_typed : td Tryz.prog 86 = some ⟨true, 12, 144, [.lit (.int .i64 0), .lit (.int .i64 0), .lit (.string ⟨#[]⟩), .nilS, .lit (.int .i64 0), .lit (.int .i64 0), .lit (.int .i64 0), .lit (.int .i64 0), .lit (.string ⟨#[]⟩), .nilS, .lit (.int .i64 0), .lit (.int .i64 0)], [(0, 6, true), (6, 6, true)], .struct⟩ := Eq.trans (by kernel_rfl) (Eq.refl _)
theorem td_typer : td Tryz.prog 84 = some ⟨true, 9, 112, [.lit (.int .i64 0), .lit (.int .i64 0), .lit (.string ⟨#[]⟩), .nilS, .lit (.int .i64 0), .lit (.int .i64 0), .nilS, .lit (.int .i64 0), .lit (.int .i64 0)], [(0, 6, true), (6, 1, false), (7, 1, false), (8, 1, false)], .struct⟩ := Eq.trans (by kernel_rfl) (Eq.refl _)
theorem td_ptyper : td Tryz.prog 82 = some ⟨false, 1, 8, [.lit (.pointer none)], [], (.pointer 84)⟩ := Eq.trans (by kernel_rfl) (Eq.refl _)
theorem td_pterm : td Tryz.prog 115 = some ⟨false, 1, 8, [.lit (.pointer none)], [], (.pointer 24)⟩ := Eq.trans (by kernel_rfl) (Eq.refl _)
attribute [simp] td_meas td_pmeas td_typed td_typer td_ptyper td_pterm
noncomputable def a3n (m : VT) (n : Int) : Option VT := if 0 ≤ n then (match m.kids[n.toNat]? with | some d => if d.lab.k = 30 then some d else none | none => none) else none
theorem a6f (m : VT) (hms : m.size ≤ 1000000) (n : Int) (hn : n ≤ 9223372036854775807) : Row Tryz.prog 175 [vT m, vI n] [] (vTO ((a3n m n).getD z0T) (a3n m n).isSome) [] := by
  obtain ⟨mx, ml⟩ := m
  have hml := Tr.len_size (x := mx) (l := ml)
  by_cases n0 : n < 0
  · rw [show a3n (.mk mx ml) n = none by unfold a3n; exact if_neg (by omega)]
    refine d7 Tryz.func175 rfl rfl (Nat.le_of_ble_eq_true rfl) ?_
    repeat (first | refine b9 ?_ | refine b6 ?_ | refine a6 ?_ | refine b5 ?_ | refine d8 rfl (fun _ => ?_) (fun hb => absurd hb (by decide)) | refine d8 rfl (fun hb => absurd hb (by decide)) (fun _ => ?_) | (refine b8 (fun K hK => ?_); simp -implicitDefEqProofs [n0]; refine hK _ ?_) | (refine d3 e9 (fun K hK => ?_); simp -implicitDefEqProofs [n0]; refine hK _ _ (by rfl) ?_) | fail)
    refine d6 (d4 ?_); simp -implicitDefEqProofs [f9, f6, f7] <;> try rfl
  obtain ⟨a, rfl⟩ : ∃ a : Nat, n = a := ⟨n.toNat, by omega⟩
  have wl : IntKind.i64.wrap ((ml.length : Nat) : Int) = (ml.length : Nat) := l4 _ (by omega) (by omega)
  have wa : IntKind.i64.wrap ((a : Nat) : Int) = (a : Nat) := l4 _ (by omega) (by omega)
  have hrd : a3n (.mk mx ml) (a : Nat) = (match ml[a]? with | some d => if d.lab.k = 30 then some d else none | none => none) := by
    unfold a3n; rw [if_pos (by omega), Int.toNat_natCast, Tr.kids]
  by_cases hal : a < ml.length; rotate_left
  · have h1 : (ml.length : Int) ≤ (a : Nat) := by omega
    have h2 : ml.length ≤ a := by omega
    rw [hrd, List.getElem?_eq_none h2]
    refine d7 Tryz.func175 rfl rfl (Nat.le_of_ble_eq_true rfl) ?_
    repeat (first | refine b9 ?_ | refine b6 ?_ | refine a6 ?_ | refine b5 ?_ | refine d8 rfl (fun _ => ?_) (fun hb => absurd hb (by decide)) | refine d8 rfl (fun hb => absurd hb (by decide)) (fun _ => ?_) | (refine b8 (fun K hK => ?_); simp -implicitDefEqProofs [n0, wl, wa, hal, h1, h2]; refine hK _ ?_) | (refine d3 e9 (fun K hK => ?_); simp -implicitDefEqProofs [n0, wl, wa, hal, h1, h2]; refine hK _ _ (by rfl) ?_) | fail)
    refine d6 (d4 ?_); simp -implicitDefEqProofs [f9, f6, f7] <;> try rfl
  have h1 : ¬ (ml.length : Int) ≤ (a : Nat) := by omega
  have h2 : ¬ ml.length ≤ a := by omega
  obtain ⟨⟨dx, dl⟩, hd⟩ : ∃ d, ml[a]? = some d := ⟨_, List.getElem?_eq_getElem hal⟩
  have hd' := (List.getElem?_eq_some_iff.1 hd).2
  rw [hd] at hrd
  by_cases d30 : dx.k = 30
  · rw [show a3n (.mk mx ml) (a : Nat) = some (.mk dx dl) by rw [hrd]; exact if_pos d30]
    refine d7 Tryz.func175 rfl rfl (Nat.le_of_ble_eq_true rfl) ?_
    repeat (first | refine b9 ?_ | refine b6 ?_ | refine a6 ?_ | refine b5 ?_ | refine d8 rfl (fun _ => ?_) (fun hb => absurd hb (by decide)) | refine d8 rfl (fun hb => absurd hb (by decide)) (fun _ => ?_) | (refine b8 (fun K hK => ?_); simp -implicitDefEqProofs [n0, wl, wa, hal, h1, h2, hd, hd', d30]; refine hK _ ?_) | (refine d3 e9 (fun K hK => ?_); simp -implicitDefEqProofs [n0, wl, wa, hal, h1, h2, hd, hd', d30]; refine hK _ _ (by rfl) ?_) | fail)
    refine d6 (d4 ?_); simp -implicitDefEqProofs [f9, f6, f7, d30] <;> try rfl
  · rw [show a3n (.mk mx ml) (a : Nat) = none by rw [hrd]; exact if_neg d30]
    refine d7 Tryz.func175 rfl rfl (Nat.le_of_ble_eq_true rfl) ?_
    repeat (first | refine b9 ?_ | refine b6 ?_ | refine a6 ?_ | refine b5 ?_ | refine d8 rfl (fun _ => ?_) (fun hb => absurd hb (by decide)) | refine d8 rfl (fun hb => absurd hb (by decide)) (fun _ => ?_) | (refine b8 (fun K hK => ?_); simp -implicitDefEqProofs [n0, wl, wa, hal, h1, h2, hd, hd', d30]; refine hK _ ?_) | (refine d3 e9 (fun K hK => ?_); simp -implicitDefEqProofs [n0, wl, wa, hal, h1, h2, hd, hd', d30]; refine hK _ _ (by rfl) ?_) | fail)
    refine d6 (d4 ?_); simp -implicitDefEqProofs [f9, f6, f7] <;> try rfl
noncomputable def ptD (q : VT) : Option VT := if j1 q = true then some (q.kids.getD 0 z0T) else none
theorem a9h (q : VT) : Row Tryz.prog 176 [vT q] [] (vTO ((ptD q).getD z0T) (ptD q).isSome) [] := by
  obtain ⟨x, l⟩ := q
  by_cases h34 : x.k = 34; rotate_left
  · rw [show ptD (.mk x l) = none by unfold ptD; exact if_neg (by simp [j1, Tr.lab, h34])]
    refine d7 Tryz.func176 rfl rfl (Nat.le_of_ble_eq_true rfl) ?_
    repeat (first | refine b9 ?_ | refine b6 ?_ | refine a6 ?_ | refine b5 ?_ | refine d8 rfl (fun _ => ?_) (fun hb => absurd hb (by decide)) | refine d8 rfl (fun hb => absurd hb (by decide)) (fun _ => ?_) | (refine b8 (fun K hK => ?_); simp -implicitDefEqProofs [h34]; refine hK _ ?_) | (refine d3 e9 (fun K hK => ?_); simp -implicitDefEqProofs [h34]; refine hK _ _ (by rfl) ?_) | fail)
    refine d6 (d4 ?_); simp -implicitDefEqProofs [f9, f6, f7] <;> try rfl
  by_cases l1 : l.length = 1; rotate_left
  · have l1' : ¬ (l.length : Int) = 1 := by omega
    rw [show ptD (.mk x l) = none by unfold ptD; exact if_neg (by simp [j1, Tr.kids, l1])]
    refine d7 Tryz.func176 rfl rfl (Nat.le_of_ble_eq_true rfl) ?_
    repeat (first | refine b9 ?_ | refine b6 ?_ | refine a6 ?_ | refine b5 ?_ | refine d8 rfl (fun _ => ?_) (fun hb => absurd hb (by decide)) | refine d8 rfl (fun hb => absurd hb (by decide)) (fun _ => ?_) | (refine b8 (fun K hK => ?_); simp -implicitDefEqProofs [h34, l1, l1']; refine hK _ ?_) | (refine d3 e9 (fun K hK => ?_); simp -implicitDefEqProofs [h34, l1, l1']; refine hK _ _ (by rfl) ?_) | fail)
    refine d6 (d4 ?_); simp -implicitDefEqProofs [f9, f6, f7] <;> try rfl
  obtain ⟨⟨ax, al⟩, rfl⟩ := o6 l1
  rw [show ptD (.mk x [.mk ax al]) = some (.mk ax al) by unfold ptD; rw [if_pos (by simp [j1, Tr.lab, Tr.kids, h34])]; rfl]
  refine d7 Tryz.func176 rfl rfl (Nat.le_of_ble_eq_true rfl) ?_
  repeat (first | refine b9 ?_ | refine b6 ?_ | refine a6 ?_ | refine b5 ?_ | refine d8 rfl (fun _ => ?_) (fun hb => absurd hb (by decide)) | refine d8 rfl (fun hb => absurd hb (by decide)) (fun _ => ?_) | (refine b8 (fun K hK => ?_); simp -implicitDefEqProofs [h34]; refine hK _ ?_) | (refine d3 e9 (fun K hK => ?_); simp -implicitDefEqProofs [h34]; refine hK _ _ (by rfl) ?_) | fail)
  refine d6 (d4 ?_); simp -implicitDefEqProofs [f9, f6, f7] <;> try rfl
def b50 (c : Int) : Int := if 64 < c then 0 else c
theorem a4l (c : Int) : Row Tryz.prog 151 [vI c] [] (vI (b50 c)) [] := by
  unfold b50
  by_cases h : 64 < c
  · rw [if_pos h]
    refine d7 Tryz.func151 rfl rfl (Nat.le_of_ble_eq_true rfl) ?_
    repeat (first | refine b9 ?_ | refine b6 ?_ | refine a6 ?_ | refine b5 ?_ | refine d8 rfl (fun _ => ?_) (fun hb => absurd hb (by decide)) | refine d8 rfl (fun hb => absurd hb (by decide)) (fun _ => ?_) | (refine b8 (fun K hK => ?_); simp -implicitDefEqProofs [h]; refine hK _ ?_) | (refine d3 e9 (fun K hK => ?_); simp -implicitDefEqProofs [h]; refine hK _ _ (by rfl) ?_) | fail)
    refine d6 (d4 ?_); simp -implicitDefEqProofs [f9, f6, f7] <;> try rfl
  · rw [if_neg h]
    refine d7 Tryz.func151 rfl rfl (Nat.le_of_ble_eq_true rfl) ?_
    repeat (first | refine b9 ?_ | refine b6 ?_ | refine a6 ?_ | refine b5 ?_ | refine d8 rfl (fun _ => ?_) (fun hb => absurd hb (by decide)) | refine d8 rfl (fun hb => absurd hb (by decide)) (fun _ => ?_) | (refine b8 (fun K hK => ?_); simp -implicitDefEqProofs [h]; refine hK _ ?_) | (refine d3 e9 (fun K hK => ?_); simp -implicitDefEqProofs [h]; refine hK _ _ (by rfl) ?_) | fail)
    refine d6 (d4 ?_); simp -implicitDefEqProofs [f9, f6, f7] <;> try rfl
theorem b2w (m : VT) (n : Int) (h0 : 0 ≤ n) : fldA m n = (match a3n m (n / 64) with | some d => if n % 64 < d.kids.length then ptD (d.kids.getD (n % 64).toNat z0T) else none | none => none) := by
  obtain ⟨a, rfl⟩ : ∃ a : Nat, n = a := ⟨n.toNat, by omega⟩
  unfold fldA a3n
  rw [if_neg (by omega), if_pos (by omega), Int.toNat_natCast, show ((a : Int) / 64).toNat = a / 64 by omega]
  cases hd : m.kids[a / 64]? with
  | none => rfl
  | some d =>
    dsimp only
    by_cases d30 : d.lab.k = 30
    · rw [if_pos d30, if_pos d30]
      dsimp only
      rw [show ((a : Int) % 64).toNat = a % 64 by omega]
      by_cases hl : a % 64 < d.kids.length
      · rw [if_pos (by omega), List.getElem?_eq_getElem hl]
        rw [show d.kids.getD (a % 64) z0T = d.kids[a % 64] by simp [List.getD, hl]]
        dsimp only
        unfold ptD
        generalize d.kids[a % 64] = q
        split
        · rename_i hp
          obtain ⟨qx, ql⟩ := q
          have hq1 : ql.length = 1 := by
            unfold j1 at hp
            simp [Tr.kids] at hp
            exact of_decide_eq_true hp.2
          obtain ⟨b, rfl⟩ := o6 hq1
          rfl
        · rfl
      · rw [List.getElem?_eq_none (by omega), if_neg (by omega)]
    · rw [if_neg d30, if_neg d30]
theorem b03 (m : VT) (hms : m.size ≤ 1000000) (n : Int) (hn : -9223372036854775808 ≤ n ∧ n ≤ 9223372036854775807) : Row Tryz.prog 167 [vT m, vI n] [] (vTO ((fldA m n).getD z0T) (fldA m n).isSome) [] := by
  by_cases n0 : n < 0
  · rw [show fldA m n = none by unfold fldA; exact if_pos n0]
    obtain ⟨mx, ml⟩ := m
    refine d7 Tryz.func167 rfl rfl (Nat.le_of_ble_eq_true rfl) ?_
    repeat (first | refine b9 ?_ | refine b6 ?_ | refine a6 ?_ | refine b5 ?_ | refine d8 rfl (fun _ => ?_) (fun hb => absurd hb (by decide)) | refine d8 rfl (fun hb => absurd hb (by decide)) (fun _ => ?_) | (refine b8 (fun K hK => ?_); simp -implicitDefEqProofs [n0]; refine hK _ ?_) | (refine d3 e9 (fun K hK => ?_); simp -implicitDefEqProofs [n0]; refine hK _ _ (by rfl) ?_) | fail)
    refine d6 (d4 ?_); simp -implicitDefEqProofs [f9, f6, f7] <;> try rfl
  have hrec := a6f m hms (n / 64) (by omega)
  have wq : IntKind.i64.wrap (n.tdiv 64) = n / 64 := by
    rw [Int.tdiv_eq_ediv_of_nonneg (by omega)]
    exact l4 _ (by omega) (by omega)
  have wr : n.tmod 64 = n % 64 := Int.tmod_eq_emod_of_nonneg (by omega)
  have hsz : ∀ d, a3n m (n / 64) = some d → d.size ≤ m.size := by
    intro d h
    unfold a3n at h
    split at h
    · split at h
      · rename_i d' hd'
        split at h
        · cases h; exact j8 (List.mem_of_getElem? hd')
        · cases h
      · cases h
    · cases h
  cases hR : a3n m (n / 64) with
  | none =>
    rw [show fldA m n = none by rw [b2w m n (by omega), hR]]
    rw [hR] at hrec
    obtain ⟨mx, ml⟩ := m
    clear hsz hR
    refine d7 Tryz.func167 rfl rfl (Nat.le_of_ble_eq_true rfl) ?_
    repeat' (first | refine b9 ?_ | refine b6 ?_ | refine a6 ?_ | refine b5 ?_ | refine d8 rfl (fun _ => ?_) (fun hb => absurd hb (by decide)) | refine d8 rfl (fun hb => absurd hb (by decide)) (fun _ => ?_) | (refine b8 (fun K hK => ?_); simp -implicitDefEqProofs [n0, wq, wr]) | (refine d3 e9 (fun K hK => ?_); simp -implicitDefEqProofs [n0, wq, wr]) | refine hK _ ?_ | refine hK _ _ (by rfl) ?_ | (refine b7 (cp hrec ?_); simp -implicitDefEqProofs [n0, wq, wr]) | (refine a8 (dp hrec ?_); simp -implicitDefEqProofs [n0, wq, wr]) | fail)
    refine d6 (d4 ?_); simp -implicitDefEqProofs [f9, f6, f7] <;> try rfl
  | some d =>
    have hds := hsz d hR
    rw [hR] at hrec
    obtain ⟨dx, dl⟩ := d
    have hdl := Tr.len_size (x := dx) (l := dl)
    simp only [Option.getD_some, Option.isSome_some] at hrec
    obtain ⟨a, ha⟩ : ∃ a : Nat, n % 64 = a := ⟨(n % 64).toNat, by omega⟩
    have hfl : fldA m n = if ((a : Nat) : Int) < (dl.length : Nat) then ptD (dl.getD a z0T) else none := by
      rw [b2w m n (by omega), hR]
      show (if n % 64 < (dl.length : Int) then ptD (dl.getD (n % 64).toNat z0T) else none) = _
      rw [ha, Int.toNat_natCast]
    rw [hfl]
    clear hfl
    have wl : IntKind.i64.wrap ((dl.length : Nat) : Int) = (dl.length : Nat) := l4 _ (by omega) (by omega)
    have wa : IntKind.i64.wrap ((a : Nat) : Int) = (a : Nat) := l4 _ (by omega) (by omega)
    clear hsz hR
    by_cases hal : a < dl.length; rotate_left
    · have h1 : (dl.length : Int) ≤ (a : Nat) := by omega
      have h2 : dl.length ≤ a := by omega
      have h3 : ¬ ((a : Nat) : Int) < (dl.length : Nat) := by omega
      rw [if_neg h3]
      obtain ⟨mx, ml⟩ := m
      refine d7 Tryz.func167 rfl rfl (Nat.le_of_ble_eq_true rfl) ?_
      repeat' (first | refine b9 ?_ | refine b6 ?_ | refine a6 ?_ | refine b5 ?_ | refine d8 rfl (fun _ => ?_) (fun hb => absurd hb (by decide)) | refine d8 rfl (fun hb => absurd hb (by decide)) (fun _ => ?_) | (refine b8 (fun K hK => ?_); simp -implicitDefEqProofs [n0, wq, wr, ha, wl, wa, hal, h1, h2, h3]) | (refine d3 e9 (fun K hK => ?_); simp -implicitDefEqProofs [n0, wq, wr, ha, wl, wa, hal, h1, h2, h3]) | refine hK _ ?_ | refine hK _ _ (by rfl) ?_ | (refine b7 (cp hrec ?_); simp -implicitDefEqProofs [n0, wq, wr, ha, wl, wa, hal, h1, h2, h3]) | (refine a8 (dp hrec ?_); simp -implicitDefEqProofs [n0, wq, wr, ha, wl, wa, hal, h1, h2, h3]) | fail)
      refine d6 (d4 ?_); simp -implicitDefEqProofs [f9, f6, f7] <;> try rfl
    have h1 : ¬ (dl.length : Int) ≤ (a : Nat) := by omega
    have h2 : ¬ dl.length ≤ a := by omega
    rw [if_pos (show ((a : Nat) : Int) < (dl.length : Nat) by omega)]
    obtain ⟨⟨qx, ql⟩, hq⟩ : ∃ d, dl[a]? = some d := ⟨_, List.getElem?_eq_getElem hal⟩
    have hq' := (List.getElem?_eq_some_iff.1 hq).2
    rw [show dl.getD a z0T = .mk qx ql by simp [List.getD, hq]]
    have hpt := a9h (.mk qx ql)
    obtain ⟨⟨ux, ul⟩, hu⟩ : ∃ t, (ptD (.mk qx ql)).getD z0T = t := ⟨_, rfl⟩
    obtain ⟨b, hb⟩ : ∃ b, (ptD (.mk qx ql)).isSome = b := ⟨_, rfl⟩
    rw [hu, hb] at hpt ⊢
    clear hu hb
    obtain ⟨mx, ml⟩ := m
    refine d7 Tryz.func167 rfl rfl (Nat.le_of_ble_eq_true rfl) ?_
    repeat' (first | refine b9 ?_ | refine b6 ?_ | refine a6 ?_ | refine b5 ?_ | refine d8 rfl (fun _ => ?_) (fun hb => absurd hb (by decide)) | refine d8 rfl (fun hb => absurd hb (by decide)) (fun _ => ?_) | (refine b8 (fun K hK => ?_); simp -implicitDefEqProofs [n0, wq, wr, ha, wl, wa, hal, h1, h2, hq, hq']) | (refine d3 e9 (fun K hK => ?_); simp -implicitDefEqProofs [n0, wq, wr, ha, wl, wa, hal, h1, h2, hq, hq']) | refine hK _ ?_ | refine hK _ _ (by rfl) ?_ | (refine b7 (cp hrec ?_); simp -implicitDefEqProofs [n0, wq, wr, ha, wl, wa, hal, h1, h2, hq, hq']) | (refine a8 (dp hrec ?_); simp -implicitDefEqProofs [n0, wq, wr, ha, wl, wa, hal, h1, h2, hq, hq']) | (refine b7 (cp hpt ?_); simp -implicitDefEqProofs [n0, wq, wr, ha, wl, wa, hal, h1, h2, hq, hq']) | (refine a8 (dp hpt ?_); simp -implicitDefEqProofs [n0, wq, wr, ha, wl, wa, hal, h1, h2, hq, hq']) | fail)
    refine d6 (d4 ?_); simp -implicitDefEqProofs [f9, f6, f7] <;> try rfl
theorem a2a (x : Lab) (l : List VT) : Row Tryz.prog 164 [vT (.mk x l)] [] (vB (isT (.mk x l) 1)) [] := by
  unfold isT
  rw [Tr.lab, Tr.kids]
  by_cases h : x.k = 1; rotate_left
  · refine d7 Tryz.func164 rfl rfl (Nat.le_of_ble_eq_true rfl) ?_
    repeat (first | refine b9 ?_ | refine b6 ?_ | refine a6 ?_ | refine b5 ?_ | refine d8 rfl (fun _ => ?_) (fun hb => absurd hb (by decide)) | refine d8 rfl (fun hb => absurd hb (by decide)) (fun _ => ?_) | (refine b8 (fun K hK => ?_); simp -implicitDefEqProofs [h]; refine hK _ ?_) | (refine d3 e9 (fun K hK => ?_); simp -implicitDefEqProofs [h]; refine hK _ _ (by rfl) ?_) | fail)
    refine d6 (d4 ?_); simp -implicitDefEqProofs [f9, f6, f7, h] <;> try rfl
  by_cases h0 : l.length = 0
  · obtain rfl := List.eq_nil_of_length_eq_zero h0
    refine d7 Tryz.func164 rfl rfl (Nat.le_of_ble_eq_true rfl) ?_
    repeat (first | refine b9 ?_ | refine b6 ?_ | refine a6 ?_ | refine b5 ?_ | refine d8 rfl (fun _ => ?_) (fun hb => absurd hb (by decide)) | refine d8 rfl (fun hb => absurd hb (by decide)) (fun _ => ?_) | (refine b8 (fun K hK => ?_); simp -implicitDefEqProofs [h]; refine hK _ ?_) | (refine d3 e9 (fun K hK => ?_); simp -implicitDefEqProofs [h]; refine hK _ _ (by rfl) ?_) | fail)
    refine d6 (d4 ?_); simp -implicitDefEqProofs [f9, f6, f7, h] <;> try rfl
  · have h0' : ¬ (l.length : Int) = 0 := by omega
    refine d7 Tryz.func164 rfl rfl (Nat.le_of_ble_eq_true rfl) ?_
    repeat (first | refine b9 ?_ | refine b6 ?_ | refine a6 ?_ | refine b5 ?_ | refine d8 rfl (fun _ => ?_) (fun hb => absurd hb (by decide)) | refine d8 rfl (fun hb => absurd hb (by decide)) (fun _ => ?_) | (refine b8 (fun K hK => ?_); simp -implicitDefEqProofs [h, h0, h0']; refine hK _ ?_) | (refine d3 e9 (fun K hK => ?_); simp -implicitDefEqProofs [h, h0, h0']; refine hK _ _ (by rfl) ?_) | fail)
    refine d6 (d4 ?_); simp -implicitDefEqProofs [f9, f6, f7, h, h0] <;> try rfl
theorem a24 (x : Lab) (l : List VT) : Row Tryz.prog 165 [vT (.mk x l)] [] (vB (isT (.mk x l) 2)) [] := by
  unfold isT
  rw [Tr.lab, Tr.kids]
  by_cases h : x.k = 2; rotate_left
  · refine d7 Tryz.func165 rfl rfl (Nat.le_of_ble_eq_true rfl) ?_
    repeat (first | refine b9 ?_ | refine b6 ?_ | refine a6 ?_ | refine b5 ?_ | refine d8 rfl (fun _ => ?_) (fun hb => absurd hb (by decide)) | refine d8 rfl (fun hb => absurd hb (by decide)) (fun _ => ?_) | (refine b8 (fun K hK => ?_); simp -implicitDefEqProofs [h]; refine hK _ ?_) | (refine d3 e9 (fun K hK => ?_); simp -implicitDefEqProofs [h]; refine hK _ _ (by rfl) ?_) | fail)
    refine d6 (d4 ?_); simp -implicitDefEqProofs [f9, f6, f7, h] <;> try rfl
  by_cases h0 : l.length = 0
  · obtain rfl := List.eq_nil_of_length_eq_zero h0
    refine d7 Tryz.func165 rfl rfl (Nat.le_of_ble_eq_true rfl) ?_
    repeat (first | refine b9 ?_ | refine b6 ?_ | refine a6 ?_ | refine b5 ?_ | refine d8 rfl (fun _ => ?_) (fun hb => absurd hb (by decide)) | refine d8 rfl (fun hb => absurd hb (by decide)) (fun _ => ?_) | (refine b8 (fun K hK => ?_); simp -implicitDefEqProofs [h]; refine hK _ ?_) | (refine d3 e9 (fun K hK => ?_); simp -implicitDefEqProofs [h]; refine hK _ _ (by rfl) ?_) | fail)
    refine d6 (d4 ?_); simp -implicitDefEqProofs [f9, f6, f7, h] <;> try rfl
  · have h0' : ¬ (l.length : Int) = 0 := by omega
    refine d7 Tryz.func165 rfl rfl (Nat.le_of_ble_eq_true rfl) ?_
    repeat (first | refine b9 ?_ | refine b6 ?_ | refine a6 ?_ | refine b5 ?_ | refine d8 rfl (fun _ => ?_) (fun hb => absurd hb (by decide)) | refine d8 rfl (fun hb => absurd hb (by decide)) (fun _ => ?_) | (refine b8 (fun K hK => ?_); simp -implicitDefEqProofs [h, h0, h0']; refine hK _ ?_) | (refine d3 e9 (fun K hK => ?_); simp -implicitDefEqProofs [h, h0, h0']; refine hK _ _ (by rfl) ?_) | fail)
    refine d6 (d4 ?_); simp -implicitDefEqProofs [f9, f6, f7, h, h0] <;> try rfl
theorem a7l (x : Lab) (l : List VT) : Row Tryz.prog 124 [vT (.mk x l)] [] (vT (a0u (.mk x l))) [] := by
  unfold a0u tyT
  rw [Tr.lab]
  by_cases h5 : x.k = 5
  · rw [if_pos h5]
    refine d7 Tryz.func124 rfl rfl (Nat.le_of_ble_eq_true rfl) ?_
    repeat (first | refine b9 ?_ | refine b6 ?_ | refine a6 ?_ | refine b5 ?_ | refine d8 rfl (fun _ => ?_) (fun hb => absurd hb (by decide)) | refine d8 rfl (fun hb => absurd hb (by decide)) (fun _ => ?_) | (refine b8 (fun K hK => ?_); simp -implicitDefEqProofs [h5]; refine hK _ ?_) | (refine d3 e9 (fun K hK => ?_); simp -implicitDefEqProofs [h5]; refine hK _ _ (by rfl) ?_) | fail)
    refine d6 (d4 ?_); simp -implicitDefEqProofs [f9, f6, f7] <;> try rfl
  rw [if_neg h5]
  by_cases h6 : x.k = 6
  · rw [if_pos h6]
    refine d7 Tryz.func124 rfl rfl (Nat.le_of_ble_eq_true rfl) ?_
    repeat (first | refine b9 ?_ | refine b6 ?_ | refine a6 ?_ | refine b5 ?_ | refine d8 rfl (fun _ => ?_) (fun hb => absurd hb (by decide)) | refine d8 rfl (fun hb => absurd hb (by decide)) (fun _ => ?_) | (refine b8 (fun K hK => ?_); simp -implicitDefEqProofs [h6]; refine hK _ ?_) | (refine d3 e9 (fun K hK => ?_); simp -implicitDefEqProofs [h6]; refine hK _ _ (by rfl) ?_) | fail)
    refine d6 (d4 ?_); simp -implicitDefEqProofs [f9, f6, f7] <;> try rfl
  rw [if_neg h6]
  refine d7 Tryz.func124 rfl rfl (Nat.le_of_ble_eq_true rfl) ?_
  repeat (first | refine b9 ?_ | refine b6 ?_ | refine a6 ?_ | refine b5 ?_ | refine d8 rfl (fun _ => ?_) (fun hb => absurd hb (by decide)) | refine d8 rfl (fun hb => absurd hb (by decide)) (fun _ => ?_) | (refine b8 (fun K hK => ?_); simp -implicitDefEqProofs [h5, h6]; refine hK _ ?_) | (refine d3 e9 (fun K hK => ?_); simp -implicitDefEqProofs [h5, h6]; refine hK _ _ (by rfl) ?_) | fail)
  refine d6 (d4 ?_); simp -implicitDefEqProofs [f9, f6, f7] <;> try rfl
theorem a14 (t : VT) : t.size ≤ 1000000 → Row Tryz.prog 31 [vT t] [] (vT (u9 t)) [] := by
  induction t using Tr.ind with
  | h x l ih =>
  intro hsz
  have hlen := Tr.len_size (x := x) (l := l)
  rw [a1p]
  refine d7 Tryz.func31 rfl rfl (Nat.le_of_ble_eq_true rfl) ?_
  repeat (first | refine b9 ?_ | refine b6 ?_ | refine a6 ?_ | refine b5 ?_ | refine d8 rfl (fun _ => ?_) (fun hb => absurd hb (by decide)) | refine d8 rfl (fun hb => absurd hb (by decide)) (fun _ => ?_) | (refine b8 (fun K hK => ?_); simp -implicitDefEqProofs; refine hK _ ?_) | (refine d3 e9 (fun K hK => ?_); simp -implicitDefEqProofs; refine hK _ _ (by rfl) ?_) | fail)
  refine a2r 9 3 [.pv (I x.k), .pv (I x.n), .pv (Sx x.s), .pv .nilS, .pv (I 0), .pv (I 0)] 24 6 (by simp) (by simp) (by simp) ?_
  simp [St.nilc]
  refine m6 (ι := Nat) (fun k => x5 [(1, .v (.c (.ptr 0 0))), (2, .v (.c (.ptr 1 0))), (3, .v (.c (.ptr 2 0))), (14, vLs l), (15, vI (l.length : Nat)), (16, vI (k : Nat))] [some (.box (ta (.mk x l))), some (.box (ta (.mk ⟨0, 0, ⟨#[]⟩, 0, 0⟩ []))), some (.box [.pv (I x.k), .pv (I x.n), .pv (Sx x.s), .row 3 6 (((l.take k).map u9).map tc), .pv (I 0), .pv (I 0)]), some (.row 24 6)]) (fun k => k ≤ l.length) (fun k => l.length - k) 0 (Nat.zero_le _) (e8 [0, 1, 9, 15] (by simp -implicitDefEqProofs) (by simp -implicitDefEqProofs) (by decide) rfl (by simp)) (fun Z hI k hk => ?_)
  by_cases hkl : k < l.length; rotate_left
  · have : k = l.length := by omega
    subst this
    rw [List.take_length]
    repeat (first | refine b9 ?_ | refine b6 ?_ | refine a6 ?_ | refine b5 ?_ | refine d8 rfl (fun _ => ?_) (fun hb => absurd hb (by decide)) | refine d8 rfl (fun hb => absurd hb (by decide)) (fun _ => ?_) | (refine b8 (fun K hK => ?_); simp -implicitDefEqProofs; refine hK _ ?_) | (refine d3 e9 (fun K hK => ?_); simp -implicitDefEqProofs; refine hK _ _ (by rfl) ?_) | fail)
    refine d6 (d4 ?_); simp -implicitDefEqProofs [f9, f6, f7] <;> try rfl
  obtain ⟨⟨ax, al⟩, ha⟩ : ∃ a, l[k]? = some a := ⟨_, List.getElem?_eq_getElem hkl⟩
  have ha' := (List.getElem?_eq_some_iff.1 ha).2
  have hsz1 := Tr.size_at (x := x) ha
  have hc := ih _ (List.mem_of_getElem? ha) (by omega)
  have w2 : IntKind.i64.wrap ((k : Nat) + 1 : Int) = (k : Nat) + 1 := l4 _ (by omega) (by omega)
  have hs : (l.take (k + 1)).map u9 = (l.take k).map u9 ++ [u9 (.mk ax al)] := by rw [List.take_add_one, ha]; simp
  obtain ⟨L, hL⟩ : ∃ L, (l.take k).map u9 = L := ⟨_, rfl⟩
  have hLl : L.length = k := by rw [← hL, List.length_map, List.length_take]; omega
  rw [hL] at hs ⊢
  obtain ⟨⟨bx, bl⟩, hb⟩ : ∃ b, u9 (.mk ax al) = b := ⟨_, rfl⟩
  rw [hb] at hc hs
  have b1 : (k + 1) * 72 ≤ 140737488355328 := by omega
  have b2 : k + 1 ≤ 140737488355328 := by omega
  repeat' (first | refine b9 ?_ | refine b6 ?_ | refine a6 ?_ | refine b5 ?_ | refine d8 rfl (fun _ => ?_) (fun hb => absurd hb (by decide)) | refine d8 rfl (fun hb => absurd hb (by decide)) (fun _ => ?_) | (refine b8 (fun K hK => ?_); simp -implicitDefEqProofs [hkl, ha, ha', hLl, b1, b2, w2]) | (refine d3 e9 (fun K hK => ?_); simp -implicitDefEqProofs [hkl, ha, ha', hLl, b1, b2, w2]) | refine hK _ ?_ | refine hK _ _ (by rfl) ?_ | (refine b7 (cp hc ?_); simp -implicitDefEqProofs [hkl, ha, ha', hLl, b1, b2, w2]) | (refine a8 (dp hc ?_); simp -implicitDefEqProofs [hkl, ha, ha', hLl, b1, b2, w2]) | fail)
  refine ⟨k + 1, by omega, (by dsimp only; omega), ?_⟩
  rw [hI, hs]; exact e8 [0, 1, 2, 49] (by simp -implicitDefEqProofs) (by simp -implicitDefEqProofs) (by decide) rfl (by simp)
def b0h : List Int → Int → Int
  | [], s => s
  | c :: r, s => if c = 0 ∨ b50 (s + c) = 0 then 0 else b0h r (b50 (s + c))
noncomputable def a3q (m : VT) : Nat → VT → Nat → Int
  | 0, _, _ => 0
  | f + 1, t, dq =>
    if t.lab.k = 1 ∨ t.lab.k = 2 then (if t.kids.length = 0 then 1 else 0)
    else if t.lab.k = 3 then (if t.kids.length = 1 ∧ 1 ≤ t.lab.n ∧ t.lab.n ≤ 16 then b50 (t.lab.n * a3q m f (t.kids.getD 0 z0T) dq) else 0)
    else if t.lab.k = 4 then (if t.kids.length = 0 then (match a3n m t.lab.n with
      | some d => if m.kids.length ≤ dq then 0 else b0h (d.kids.map fun q => match ptD q with | some u => a3q m f u (dq + 1) | none => 0) 0
      | none => 0) else 0)
    else 0
theorem b1c {c : Int} (h : 0 ≤ c) : 0 ≤ b50 c ∧ b50 c ≤ 64 := by
  unfold b50; split <;> constructor <;> omega
theorem b9j : ∀ {l : List Int} {s : Int}, (∀ n ∈ l, 0 ≤ n ∧ n ≤ 64) → 0 ≤ s → s ≤ 64 → 0 ≤ b0h l s ∧ b0h l s ≤ 64
  | [], s, _, h1, h2 => ⟨h1, h2⟩
  | n :: r, s, h, h1, h2 => by
    unfold b0h
    have hn := h n (by simp)
    have hl := b1c (c := s + n) (by omega)
    split
    · exact ⟨by omega, by omega⟩
    · exact b9j (fun y hy => h y (by simp [hy])) hl.1 hl.2
theorem a78 (m : VT) : ∀ (f : Nat) (t : VT) (dq : Nat), 0 ≤ a3q m f t dq ∧ a3q m f t dq ≤ 64
  | 0, _, _ => ⟨by unfold a3q; omega, by unfold a3q; omega⟩
  | f + 1, t, dq => by
    unfold a3q
    split
    · split <;> constructor <;> omega
    · split
      · split
        · rename_i h
          have := a78 m f (t.kids.getD 0 z0T) dq
          exact b1c (Int.mul_nonneg (by omega) this.1)
        · constructor <;> omega
      · split
        · split
          · split
            · split
              · constructor <;> omega
              · refine b9j (fun n hn => ?_) (by omega) (by omega)
                obtain ⟨q, _, rfl⟩ := List.mem_map.1 hn
                split
                · exact a78 m f _ _
                · constructor <;> omega
            · constructor <;> omega
          · constructor <;> omega
        · constructor <;> omega
noncomputable def a8a (m : VT) (f dq : Nat) (q : VT) : Int := match ptD q with | some u => a3q m f u (dq + 1) | none => 0
theorem c55 (m : VT) (f dq : Nat) (q : VT) : 0 ≤ a8a m f dq q ∧ a8a m f dq q ≤ 64 := by
  unfold a8a
  split
  · exact a78 m f _ _
  · constructor <;> omega
noncomputable def recP (m : VT) (f : Nat) (n : Int) (dq : Nat) : Int := match a3n m n with
  | some d => if m.kids.length ≤ dq then 0 else b0h (d.kids.map (a8a m f dq)) 0
  | none => 0
theorem c19 {m d : VT} {n : Int} (h : a3n m n = some d) : d ∈ m.kids := by
  unfold a3n at h
  split at h
  · split at h
    · rename_i d' hd'
      split at h
      · cases h; exact List.mem_of_getElem? hd'
      · cases h
    · cases h
  · cases h
theorem c1w (m : VT) (hms : m.size ≤ 1000000) (f dq : Nat) (hdp : dq ≤ m.kids.length) (ih : dq < m.kids.length → ∀ d ∈ m.kids, ∀ q ∈ d.kids, ∀ u ∈ q.kids, Row Tryz.prog 119 [.v (.c (.ptr 0 0)), vT u] [.box (ta m ++ [.pv (I ((dq : Nat) + 1))])] (vI (a3q m f u (dq + 1))) [some (.box (ta m ++ [.pv (I ((dq : Nat) + 1))]))]) (n : Int) (hn : n ≤ 9223372036854775807) : Row Tryz.prog 152 [.v (.c (.ptr 0 0)), vI n] [.box (ta m ++ [.pv (I (dq : Nat))])] (vI (recP m f n dq)) [some (.box (ta m ++ [.pv (I (dq : Nat))]))] := by
  have hrec := a6f m hms n hn
  unfold recP
  cases hR : a3n m n with
  | none =>
    rw [hR] at hrec
    simp only [Option.getD_none, Option.isSome_none] at hrec
    clear ih hR
    obtain ⟨mx, ml⟩ := m
    refine d7 Tryz.func152 rfl rfl (Nat.le_of_ble_eq_true rfl) ?_
    repeat' (first | refine b9 ?_ | refine b6 ?_ | refine a6 ?_ | refine b5 ?_ | refine d8 rfl (fun _ => ?_) (fun hb => absurd hb (by decide)) | refine d8 rfl (fun hb => absurd hb (by decide)) (fun _ => ?_) | (refine b8 (fun K hK => ?_); simp -implicitDefEqProofs) | (refine d3 e9 (fun K hK => ?_); simp -implicitDefEqProofs) | refine hK _ ?_ | refine hK _ _ (by rfl) ?_ | (refine b7 (cp hrec ?_); simp -implicitDefEqProofs) | (refine a8 (dp hrec ?_); simp -implicitDefEqProofs) | fail)
    refine d6 (g7 ?_); simp -implicitDefEqProofs [s9, f6, f7] <;> try rfl
  | some d =>
  rw [hR] at hrec
  simp only [Option.getD_some, Option.isSome_some] at hrec
  have hdm := c19 hR
  have hds := j8 hdm
  dsimp only
  have hmk : m.kids.length < m.size := by obtain ⟨mx, ml⟩ := m; exact Tr.len_size (x := mx) (l := ml)
  by_cases hle : m.kids.length ≤ dq
  · rw [if_pos hle]
    obtain ⟨mx, ml⟩ := m
    simp only [Tr.kids] at hle
    have hle' : (ml.length : Int) ≤ (dq : Nat) := by omega
    obtain ⟨dx, dl⟩ := d
    clear ih hR
    refine d7 Tryz.func152 rfl rfl (Nat.le_of_ble_eq_true rfl) ?_
    repeat' (first | refine b9 ?_ | refine b6 ?_ | refine a6 ?_ | refine b5 ?_ | refine d8 rfl (fun _ => ?_) (fun hb => absurd hb (by decide)) | refine d8 rfl (fun hb => absurd hb (by decide)) (fun _ => ?_) | (refine b8 (fun K hK => ?_); simp -implicitDefEqProofs [hle, hle']) | (refine d3 e9 (fun K hK => ?_); simp -implicitDefEqProofs [hle, hle']) | refine hK _ ?_ | refine hK _ _ (by rfl) ?_ | (refine b7 (cp hrec ?_); simp -implicitDefEqProofs [hle, hle']) | (refine a8 (dp hrec ?_); simp -implicitDefEqProofs [hle, hle']) | fail)
    refine d6 (g7 ?_); simp -implicitDefEqProofs [s9, f6, f7] <;> try rfl
  rw [if_neg hle]
  replace ih := ih (by omega) d hdm
  have hdw : IntKind.i64.wrap ((dq : Nat) + 1 : Int) = (dq : Nat) + 1 := l4 _ (by omega) (by omega)
  have wdp : IntKind.i64.wrap ((dq : Nat) : Int) = (dq : Nat) := l4 _ (by omega) (by omega)
  obtain ⟨dx, dl⟩ := d
  have hdl := Tr.len_size (x := dx) (l := dl)
  rw [Tr.kids] at ih ⊢
  have hle1 : ¬ (m.kids.length : Int) ≤ (dq : Nat) := by omega
  obtain ⟨R, hRR⟩ : ∃ R, b0h (dl.map (a8a m f dq)) 0 = R := ⟨_, rfl⟩
  rw [hRR]
  have hpc := fun q => c55 m f dq q
  have hrow : ∀ q ∈ dl, ∀ u, ptD q = some u → Row Tryz.prog 119 [.v (.c (.ptr 0 0)), vT u] [.box (ta m ++ [.pv (I ((dq : Nat) + 1))])] (vI (a8a m f dq q)) [some (.box (ta m ++ [.pv (I ((dq : Nat) + 1))]))] := by
    intro q hq u hu
    have e : a8a m f dq q = a3q m f u (dq + 1) := by unfold a8a; rw [hu]
    rw [e]
    refine ih q hq u ?_
    unfold ptD at hu
    split at hu
    · rename_i hp
      cases hu
      obtain ⟨qx, ql⟩ := q
      have hq1 : ql.length = 1 := by
        unfold j1 at hp
        simp [Tr.kids] at hp
        exact of_decide_eq_true hp.2
      obtain ⟨b, rfl⟩ := o6 hq1
      simp [Tr.kids]
    · cases hu
  have hrow0 : ∀ q, ptD q = none → a8a m f dq q = 0 := fun q h => by unfold a8a; rw [h]
  obtain ⟨g, hg⟩ : ∃ g : VT → Int, a8a m f dq = g := ⟨_, rfl⟩
  rw [hg] at hRR
  simp only [hg] at hpc hrow hrow0
  clear hg ih hR
  obtain ⟨mx, ml⟩ := m
  simp only [Tr.kids] at hle hle1
  have hle2 : ¬ ml.length ≤ dq := hle
  refine d7 Tryz.func152 rfl rfl (Nat.le_of_ble_eq_true rfl) ?_
  repeat' (first | refine b9 ?_ | refine b6 ?_ | refine a6 ?_ | refine b5 ?_ | refine d8 rfl (fun _ => ?_) (fun hb => absurd hb (by decide)) | refine d8 rfl (fun hb => absurd hb (by decide)) (fun _ => ?_) | (refine b8 (fun K hK => ?_); simp -implicitDefEqProofs [hle, hle1, hle2, hdw]) | (refine d3 e9 (fun K hK => ?_); simp -implicitDefEqProofs [hle, hle1, hle2, hdw]) | refine hK _ ?_ | refine hK _ _ (by rfl) ?_ | (refine b7 (cp hrec ?_); simp -implicitDefEqProofs [hle, hle1, hle2, hdw]) | (refine a8 (dp hrec ?_); simp -implicitDefEqProofs [hle, hle1, hle2, hdw]) | fail)
  refine m6 (ι := Nat × Int) (fun i => x5 [(0, .v (.c (.ptr 0 0))), (5, .v (.c (.ptr 1 0))), (7, vI i.2), (45, vI (dl.length : Nat)), (46, vI (i.1 : Nat))] [some (.box (ta (.mk mx ml) ++ [.pv (I ((dq : Nat) + 1))])), some (.box (ta (.mk dx dl)))]) (fun i => i.1 ≤ dl.length ∧ 0 ≤ i.2 ∧ i.2 ≤ 64 ∧ b0h ((dl.drop i.1).map g) i.2 = R) (fun i => dl.length - i.1) (0, 0) ⟨Nat.zero_le _, by omega, by omega, hRR⟩ (e8 [0, 18] (by simp -implicitDefEqProofs) (by simp -implicitDefEqProofs) (by decide) rfl (by simp)) (fun Z hI i hi => ?_)
  obtain ⟨k, s⟩ := i
  obtain ⟨hk, hs0, hs1, hz⟩ := hi
  dsimp only at hk hs0 hs1 hz ⊢
  by_cases hkl : k < dl.length; rotate_left
  · have : k = dl.length := by omega
    subst this
    rw [List.drop_length, List.map_nil] at hz
    unfold b0h at hz
    subst hz
    repeat (first | refine b9 ?_ | refine b6 ?_ | refine a6 ?_ | refine b5 ?_ | refine d8 rfl (fun _ => ?_) (fun hb => absurd hb (by decide)) | refine d8 rfl (fun hb => absurd hb (by decide)) (fun _ => ?_) | (refine b8 (fun K hK => ?_); simp -implicitDefEqProofs [wdp]; refine hK _ ?_) | (refine d3 e9 (fun K hK => ?_); simp -implicitDefEqProofs [wdp]; refine hK _ _ (by rfl) ?_) | fail)
    refine d6 (g7 ?_); simp -implicitDefEqProofs [s9, f6, f7] <;> try rfl
  obtain ⟨⟨ax, al⟩, ha⟩ : ∃ a, dl[k]? = some a := ⟨_, List.getElem?_eq_getElem hkl⟩
  have ha' := (List.getElem?_eq_some_iff.1 ha).2
  have w2 : IntKind.i64.wrap ((k : Nat) + 1 : Int) = (k : Nat) + 1 := l4 _ (by omega) (by omega)
  have hd : dl.drop k = .mk ax al :: dl.drop (k + 1) := by rw [List.drop_eq_getElem_cons hkl, ha']
  rw [hd, List.map_cons] at hz
  unfold b0h at hz
  have hpt := a9h (.mk ax al)
  have hgi := hpc (.mk ax al)
  have hlm := a4l (s + g (.mk ax al))
  have hli := b1c (c := s + g (.mk ax al)) (by omega)
  have ws : IntKind.i64.wrap (s + g (.mk ax al)) = s + g (.mk ax al) := l4 _ (by omega) (by omega)
  have hrow := hrow (.mk ax al) (List.mem_of_getElem? ha)
  have hrow0 := hrow0 (.mk ax al)
  obtain ⟨c, hc⟩ : ∃ c, g (.mk ax al) = c := ⟨_, rfl⟩
  rw [hc] at hz hgi hlm hli ws hrow0
  simp only [hc] at hrow
  obtain ⟨e, he⟩ : ∃ e, b50 (s + c) = e := ⟨_, rfl⟩
  rw [he] at hz hlm hli
  cases hp : ptD (.mk ax al) with
  | none =>
    have hc0 := hrow0 hp
    subst hc0
    rw [hp] at hpt
    simp only [Option.getD_none, Option.isSome_none] at hpt
    rw [if_pos (.inl rfl)] at hz
    subst hz
    clear hrow hrow0 hp hpc
    rw [Int.add_zero] at ws hlm
    repeat' (first | refine b9 ?_ | refine b6 ?_ | refine a6 ?_ | refine b5 ?_ | refine d8 rfl (fun _ => ?_) (fun hb => absurd hb (by decide)) | refine d8 rfl (fun hb => absurd hb (by decide)) (fun _ => ?_) | (refine b8 (fun K hK => ?_); simp -implicitDefEqProofs [hkl, ha, ha', ws, wdp]) | (refine d3 e9 (fun K hK => ?_); simp -implicitDefEqProofs [hkl, ha, ha', ws, wdp]) | refine hK _ ?_ | refine hK _ _ (by rfl) ?_ | (refine b7 (cp hpt ?_); simp -implicitDefEqProofs [hkl, ha, ha', ws, wdp]) | (refine a8 (dp hpt ?_); simp -implicitDefEqProofs [hkl, ha, ha', ws, wdp]) | (refine b7 (cp hlm ?_); simp -implicitDefEqProofs [hkl, ha, ha', ws, wdp]) | (refine a8 (dp hlm ?_); simp -implicitDefEqProofs [hkl, ha, ha', ws, wdp]) | fail)
    refine d6 (g7 ?_); simp -implicitDefEqProofs [s9, f6, f7] <;> try rfl
  | some u =>
    have hcell := hrow u hp
    rw [hp] at hpt
    obtain ⟨ux, ul⟩ := u
    simp only [Option.getD_some, Option.isSome_some] at hpt
    clear hrow hrow0 hp hpc
    by_cases hc0 : c = 0
    · subst hc0
      rw [if_pos (.inl rfl)] at hz
      subst hz
      rw [Int.add_zero] at ws hlm
      repeat' (first | refine b9 ?_ | refine b6 ?_ | refine a6 ?_ | refine b5 ?_ | refine d8 rfl (fun _ => ?_) (fun hb => absurd hb (by decide)) | refine d8 rfl (fun hb => absurd hb (by decide)) (fun _ => ?_) | (refine b8 (fun K hK => ?_); simp -implicitDefEqProofs [hkl, ha, ha', ws, wdp]) | (refine d3 e9 (fun K hK => ?_); simp -implicitDefEqProofs [hkl, ha, ha', ws, wdp]) | refine hK _ ?_ | refine hK _ _ (by rfl) ?_ | (refine b7 (cp hpt ?_); simp -implicitDefEqProofs [hkl, ha, ha', ws, wdp]) | (refine a8 (dp hpt ?_); simp -implicitDefEqProofs [hkl, ha, ha', ws, wdp]) | (refine b7 (cb hcell 0 ?_); simp -implicitDefEqProofs [hkl, ha, ha', ws, wdp]) | (refine a8 (db hcell 0 ?_); simp -implicitDefEqProofs [hkl, ha, ha', ws, wdp]) | (refine b7 (cp hlm ?_); simp -implicitDefEqProofs [hkl, ha, ha', ws, wdp]) | (refine a8 (dp hlm ?_); simp -implicitDefEqProofs [hkl, ha, ha', ws, wdp]) | fail)
      refine d6 (g7 ?_); simp -implicitDefEqProofs [s9, f6, f7] <;> try rfl
    by_cases he0 : e = 0
    · rw [if_pos (.inr he0)] at hz
      subst hz
      repeat' (first | refine b9 ?_ | refine b6 ?_ | refine a6 ?_ | refine b5 ?_ | refine d8 rfl (fun _ => ?_) (fun hb => absurd hb (by decide)) | refine d8 rfl (fun hb => absurd hb (by decide)) (fun _ => ?_) | (refine b8 (fun K hK => ?_); simp -implicitDefEqProofs [hkl, ha, ha', ws, hc0, he0, wdp]) | (refine d3 e9 (fun K hK => ?_); simp -implicitDefEqProofs [hkl, ha, ha', ws, hc0, he0, wdp]) | refine hK _ ?_ | refine hK _ _ (by rfl) ?_ | (refine b7 (cp hpt ?_); simp -implicitDefEqProofs [hkl, ha, ha', ws, hc0, he0, wdp]) | (refine a8 (dp hpt ?_); simp -implicitDefEqProofs [hkl, ha, ha', ws, hc0, he0, wdp]) | (refine b7 (cb hcell 0 ?_); simp -implicitDefEqProofs [hkl, ha, ha', ws, hc0, he0, wdp]) | (refine a8 (db hcell 0 ?_); simp -implicitDefEqProofs [hkl, ha, ha', ws, hc0, he0, wdp]) | (refine b7 (cp hlm ?_); simp -implicitDefEqProofs [hkl, ha, ha', ws, hc0, he0, wdp]) | (refine a8 (dp hlm ?_); simp -implicitDefEqProofs [hkl, ha, ha', ws, hc0, he0, wdp]) | fail)
      refine d6 (g7 ?_); simp -implicitDefEqProofs [s9, f6, f7] <;> try rfl
    rw [if_neg (fun h => h.elim hc0 he0)] at hz
    repeat' (first | refine b9 ?_ | refine b6 ?_ | refine a6 ?_ | refine b5 ?_ | refine d8 rfl (fun _ => ?_) (fun hb => absurd hb (by decide)) | refine d8 rfl (fun hb => absurd hb (by decide)) (fun _ => ?_) | (refine b8 (fun K hK => ?_); simp -implicitDefEqProofs [hkl, ha, ha', ws, hc0, he0, w2]) | (refine d3 e9 (fun K hK => ?_); simp -implicitDefEqProofs [hkl, ha, ha', ws, hc0, he0, w2]) | refine hK _ ?_ | refine hK _ _ (by rfl) ?_ | (refine b7 (cp hpt ?_); simp -implicitDefEqProofs [hkl, ha, ha', ws, hc0, he0, w2]) | (refine a8 (dp hpt ?_); simp -implicitDefEqProofs [hkl, ha, ha', ws, hc0, he0, w2]) | (refine b7 (cb hcell 0 ?_); simp -implicitDefEqProofs [hkl, ha, ha', ws, hc0, he0, w2]) | (refine a8 (db hcell 0 ?_); simp -implicitDefEqProofs [hkl, ha, ha', ws, hc0, he0, w2]) | (refine b7 (cp hlm ?_); simp -implicitDefEqProofs [hkl, ha, ha', ws, hc0, he0, w2]) | (refine a8 (dp hlm ?_); simp -implicitDefEqProofs [hkl, ha, ha', ws, hc0, he0, w2]) | fail)
    refine ⟨(k + 1, e), ⟨by omega, hli.1, hli.2, hz⟩, (by dsimp only; omega), ?_⟩
    rw [hI]; exact e8 [0, 1] (by simp -implicitDefEqProofs) (by simp -implicitDefEqProofs) (by decide) rfl (by simp)
theorem a3b (m : VT) (hm : m7 m) (hms : m.size ≤ 1000000) (S : Nat) (hS : ∀ d ∈ m.kids, d.size ≤ S) : ∀ (f : Nat) (t : VT) (dq : Nat), m7 t → t.size ≤ 1000000 → dq ≤ m.kids.length → (m.kids.length - dq) * S + t.size ≤ f → Row Tryz.prog 119 [.v (.c (.ptr 0 0)), vT t] [.box (ta m ++ [.pv (I (dq : Nat))])] (vI (a3q m f t dq)) [some (.box (ta m ++ [.pv (I (dq : Nat))]))]
  | 0, t, dq, _, _, _, h => by
    exfalso
    have := Tr.size_pos t
    omega
  | f + 1, t, dq, ht, hts, hdp, hf => by
    obtain ⟨x, l⟩ := t
    have hx := ((Tr.all_mk _ _ _).1 ht).1
    have hlen := Tr.len_size (x := x) (l := l)
    have horec := c1w m hms f dq hdp (fun hlt d hd q hq u hu => by
      have h1 := hS d hd
      have h2 := v8 (x := d.lab) (l := d.kids) hq
      have h3 := j8 hu
      have e : Tr.mk d.lab d.kids = d := by cases d; rfl
      rw [e] at h2
      have h4 := j8 hd
      have hfu : (m.kids.length - (dq + 1)) * S + u.size ≤ f := a86 hf (by omega) (by omega) (Tr.size_pos _)
      have := a3b m hm hms S hS f u (dq + 1) (a00 (a00 (a00 hm hd) hq) hu) (by omega) (by omega) hfu
      exact this) x.n hx.2.1.2
    unfold a3q
    rw [Tr.lab, Tr.kids]
    by_cases h12 : x.k = 1 ∨ x.k = 2
    · rw [if_pos h12]
      clear horec
      by_cases l0 : l.length = 0
      · rw [if_pos l0]
        obtain rfl := List.eq_nil_of_length_eq_zero l0
        obtain ⟨mx, ml⟩ := m
        rcases h12 with h | h
        · refine d7 Tryz.func119 rfl rfl (Nat.le_of_ble_eq_true rfl) ?_
          repeat (first | refine b9 ?_ | refine b6 ?_ | refine a6 ?_ | refine b5 ?_ | refine d8 rfl (fun _ => ?_) (fun hb => absurd hb (by decide)) | refine d8 rfl (fun hb => absurd hb (by decide)) (fun _ => ?_) | (refine b8 (fun K hK => ?_); simp -implicitDefEqProofs [h]; refine hK _ ?_) | (refine d3 e9 (fun K hK => ?_); simp -implicitDefEqProofs [h]; refine hK _ _ (by rfl) ?_) | fail)
          refine d6 (g7 ?_); simp -implicitDefEqProofs [s9, f6, f7] <;> try rfl
        · refine d7 Tryz.func119 rfl rfl (Nat.le_of_ble_eq_true rfl) ?_
          repeat (first | refine b9 ?_ | refine b6 ?_ | refine a6 ?_ | refine b5 ?_ | refine d8 rfl (fun _ => ?_) (fun hb => absurd hb (by decide)) | refine d8 rfl (fun hb => absurd hb (by decide)) (fun _ => ?_) | (refine b8 (fun K hK => ?_); simp -implicitDefEqProofs [h]; refine hK _ ?_) | (refine d3 e9 (fun K hK => ?_); simp -implicitDefEqProofs [h]; refine hK _ _ (by rfl) ?_) | fail)
          refine d6 (g7 ?_); simp -implicitDefEqProofs [s9, f6, f7] <;> try rfl
      · rw [if_neg l0]
        have l0' : ¬ (l.length : Int) = 0 := by omega
        obtain ⟨mx, ml⟩ := m
        rcases h12 with h | h
        · refine d7 Tryz.func119 rfl rfl (Nat.le_of_ble_eq_true rfl) ?_
          repeat (first | refine b9 ?_ | refine b6 ?_ | refine a6 ?_ | refine b5 ?_ | refine d8 rfl (fun _ => ?_) (fun hb => absurd hb (by decide)) | refine d8 rfl (fun hb => absurd hb (by decide)) (fun _ => ?_) | (refine b8 (fun K hK => ?_); simp -implicitDefEqProofs [h, l0, l0']; refine hK _ ?_) | (refine d3 e9 (fun K hK => ?_); simp -implicitDefEqProofs [h, l0, l0']; refine hK _ _ (by rfl) ?_) | fail)
          refine d6 (g7 ?_); simp -implicitDefEqProofs [s9, f6, f7] <;> try rfl
        · refine d7 Tryz.func119 rfl rfl (Nat.le_of_ble_eq_true rfl) ?_
          repeat (first | refine b9 ?_ | refine b6 ?_ | refine a6 ?_ | refine b5 ?_ | refine d8 rfl (fun _ => ?_) (fun hb => absurd hb (by decide)) | refine d8 rfl (fun hb => absurd hb (by decide)) (fun _ => ?_) | (refine b8 (fun K hK => ?_); simp -implicitDefEqProofs [h, l0, l0']; refine hK _ ?_) | (refine d3 e9 (fun K hK => ?_); simp -implicitDefEqProofs [h, l0, l0']; refine hK _ _ (by rfl) ?_) | fail)
          refine d6 (g7 ?_); simp -implicitDefEqProofs [s9, f6, f7] <;> try rfl
    rw [if_neg h12]
    have n1 : ¬ x.k = 1 := fun h => h12 (.inl h)
    have n2 : ¬ x.k = 2 := fun h => h12 (.inr h)
    by_cases h3 : x.k = 3
    · rw [if_pos h3]
      clear horec
      by_cases l1 : l.length = 1; rotate_left
      · rw [if_neg (fun h => l1 h.1)]
        have l1' : ¬ (l.length : Int) = 1 := by omega
        obtain ⟨mx, ml⟩ := m
        refine d7 Tryz.func119 rfl rfl (Nat.le_of_ble_eq_true rfl) ?_
        repeat (first | refine b9 ?_ | refine b6 ?_ | refine a6 ?_ | refine b5 ?_ | refine d8 rfl (fun _ => ?_) (fun hb => absurd hb (by decide)) | refine d8 rfl (fun hb => absurd hb (by decide)) (fun _ => ?_) | (refine b8 (fun K hK => ?_); simp -implicitDefEqProofs [h3, l1, l1']; refine hK _ ?_) | (refine d3 e9 (fun K hK => ?_); simp -implicitDefEqProofs [h3, l1, l1']; refine hK _ _ (by rfl) ?_) | fail)
        refine d6 (g7 ?_); simp -implicitDefEqProofs [s9, f6, f7] <;> try rfl
      obtain ⟨⟨ax, al⟩, rfl⟩ := o6 l1
      have has := Tr.size_at (x := x) (l := [Tr.mk ax al]) (i := 0) rfl
      by_cases m1 : 1 ≤ x.n; rotate_left
      · rw [if_neg (fun h => m1 h.2.1)]
        obtain ⟨mx, ml⟩ := m
        refine d7 Tryz.func119 rfl rfl (Nat.le_of_ble_eq_true rfl) ?_
        repeat (first | refine b9 ?_ | refine b6 ?_ | refine a6 ?_ | refine b5 ?_ | refine d8 rfl (fun _ => ?_) (fun hb => absurd hb (by decide)) | refine d8 rfl (fun hb => absurd hb (by decide)) (fun _ => ?_) | (refine b8 (fun K hK => ?_); simp -implicitDefEqProofs [h3, m1]; refine hK _ ?_) | (refine d3 e9 (fun K hK => ?_); simp -implicitDefEqProofs [h3, m1]; refine hK _ _ (by rfl) ?_) | fail)
        refine d6 (g7 ?_); simp -implicitDefEqProofs [s9, f6, f7] <;> try rfl
      by_cases m2 : x.n ≤ 16; rotate_left
      · rw [if_neg (fun h => m2 h.2.2)]
        obtain ⟨mx, ml⟩ := m
        refine d7 Tryz.func119 rfl rfl (Nat.le_of_ble_eq_true rfl) ?_
        repeat (first | refine b9 ?_ | refine b6 ?_ | refine a6 ?_ | refine b5 ?_ | refine d8 rfl (fun _ => ?_) (fun hb => absurd hb (by decide)) | refine d8 rfl (fun hb => absurd hb (by decide)) (fun _ => ?_) | (refine b8 (fun K hK => ?_); simp -implicitDefEqProofs [h3, m1, m2]; refine hK _ ?_) | (refine d3 e9 (fun K hK => ?_); simp -implicitDefEqProofs [h3, m1, m2]; refine hK _ _ (by rfl) ?_) | fail)
        refine d6 (g7 ?_); simp -implicitDefEqProofs [s9, f6, f7] <;> try rfl
      rw [if_pos ⟨l1, m1, m2⟩, show [Tr.mk ax al].getD 0 z0T = .mk ax al from rfl]
      have hc := a3b m hm hms S hS f (.mk ax al) dq (((Tr.all_mk _ _ _).1 ht).2 _ (by simp)) (by omega) hdp (by omega)
      have hci := a78 m f (.mk ax al) dq
      have hlm := a4l (x.n * a3q m f (.mk ax al) dq)
      obtain ⟨c, hcc⟩ : ∃ c, a3q m f (.mk ax al) dq = c := ⟨_, rfl⟩
      rw [hcc] at hc hci hlm ⊢
      have hmul : 0 ≤ x.n * c ∧ x.n * c ≤ 1024 := ⟨Int.mul_nonneg (by omega) hci.1, by
        have h1 : x.n * c ≤ 16 * c := Int.mul_le_mul_of_nonneg_right m2 hci.1
        omega⟩
      have w1 : IntKind.i64.wrap x.n = x.n := l4 _ (by omega) (by omega)
      have w2 : IntKind.i64.wrap (x.n * c) = x.n * c := l4 _ (by omega) (by omega)
      obtain ⟨p, hp⟩ : ∃ p, x.n * c = p := ⟨_, rfl⟩
      rw [show IntKind.i64.wrap (x.n * c) = x.n * c ↔ IntKind.i64.wrap (x.n * c) = p by rw [hp]] at w2
      rw [hp] at hlm ⊢
      obtain ⟨e, he⟩ : ∃ e, b50 p = e := ⟨_, rfl⟩
      rw [he] at hlm ⊢
      obtain ⟨mx, ml⟩ := m
      clear hcc hp he hmul hci
      refine d7 Tryz.func119 rfl rfl (Nat.le_of_ble_eq_true rfl) ?_
      repeat' (first | refine b9 ?_ | refine b6 ?_ | refine a6 ?_ | refine b5 ?_ | refine d8 rfl (fun _ => ?_) (fun hb => absurd hb (by decide)) | refine d8 rfl (fun hb => absurd hb (by decide)) (fun _ => ?_) | (refine b8 (fun K hK => ?_); simp -implicitDefEqProofs [h3, m1, m2, w1, w2]) | (refine d3 e9 (fun K hK => ?_); simp -implicitDefEqProofs [h3, m1, m2, w1, w2]) | refine hK _ ?_ | refine hK _ _ (by rfl) ?_ | (refine b7 (cb hc 0 ?_); simp -implicitDefEqProofs [h3, m1, m2, w1, w2]) | (refine a8 (db hc 0 ?_); simp -implicitDefEqProofs [h3, m1, m2, w1, w2]) | (refine b7 (cp hlm ?_); simp -implicitDefEqProofs [h3, m1, m2, w1, w2]) | (refine a8 (dp hlm ?_); simp -implicitDefEqProofs [h3, m1, m2, w1, w2]) | fail)
      refine d6 (g7 ?_); simp -implicitDefEqProofs [s9, f6, f7] <;> try rfl
    rw [if_neg h3]
    by_cases h4 : x.k = 4
    · rw [if_pos h4]
      by_cases l0 : l.length = 0
      · rw [if_pos l0]
        obtain rfl := List.eq_nil_of_length_eq_zero l0
        have e : recP m f x.n dq = (match a3n m x.n with | some d => if m.kids.length ≤ dq then 0 else b0h (d.kids.map fun q => match ptD q with | some u => a3q m f u (dq + 1) | none => 0) 0 | none => 0) := rfl
        rw [← e]
        obtain ⟨c, hcc⟩ : ∃ c, recP m f x.n dq = c := ⟨_, rfl⟩
        rw [hcc] at horec ⊢
        clear hcc e
        obtain ⟨mx, ml⟩ := m
        refine d7 Tryz.func119 rfl rfl (Nat.le_of_ble_eq_true rfl) ?_
        repeat' (first | refine b9 ?_ | refine b6 ?_ | refine a6 ?_ | refine b5 ?_ | refine d8 rfl (fun _ => ?_) (fun hb => absurd hb (by decide)) | refine d8 rfl (fun hb => absurd hb (by decide)) (fun _ => ?_) | (refine b8 (fun K hK => ?_); simp -implicitDefEqProofs [h4]) | (refine d3 e9 (fun K hK => ?_); simp -implicitDefEqProofs [h4]) | refine hK _ ?_ | refine hK _ _ (by rfl) ?_ | (refine b7 (cb horec 0 ?_); simp -implicitDefEqProofs [h4]) | (refine a8 (db horec 0 ?_); simp -implicitDefEqProofs [h4]) | fail)
        refine d6 (g7 ?_); simp -implicitDefEqProofs [s9, f6, f7] <;> try rfl
      · rw [if_neg l0]
        have l0' : ¬ (l.length : Int) = 0 := by omega
        clear horec
        obtain ⟨mx, ml⟩ := m
        refine d7 Tryz.func119 rfl rfl (Nat.le_of_ble_eq_true rfl) ?_
        repeat (first | refine b9 ?_ | refine b6 ?_ | refine a6 ?_ | refine b5 ?_ | refine d8 rfl (fun _ => ?_) (fun hb => absurd hb (by decide)) | refine d8 rfl (fun hb => absurd hb (by decide)) (fun _ => ?_) | (refine b8 (fun K hK => ?_); simp -implicitDefEqProofs [h4, l0, l0']; refine hK _ ?_) | (refine d3 e9 (fun K hK => ?_); simp -implicitDefEqProofs [h4, l0, l0']; refine hK _ _ (by rfl) ?_) | fail)
        refine d6 (g7 ?_); simp -implicitDefEqProofs [s9, f6, f7] <;> try rfl
    rw [if_neg h4]
    clear horec
    obtain ⟨mx, ml⟩ := m
    refine d7 Tryz.func119 rfl rfl (Nat.le_of_ble_eq_true rfl) ?_
    repeat (first | refine b9 ?_ | refine b6 ?_ | refine a6 ?_ | refine b5 ?_ | refine d8 rfl (fun _ => ?_) (fun hb => absurd hb (by decide)) | refine d8 rfl (fun hb => absurd hb (by decide)) (fun _ => ?_) | (refine b8 (fun K hK => ?_); simp -implicitDefEqProofs [n1, n2, h3, h4]; refine hK _ ?_) | (refine d3 e9 (fun K hK => ?_); simp -implicitDefEqProofs [n1, n2, h3, h4]; refine hK _ _ (by rfl) ?_) | fail)
    refine d6 (g7 ?_); simp -implicitDefEqProofs [s9, f6, f7] <;> try rfl
noncomputable def a62 (m t : VT) : Int := a3q m (m.kids.length * m.size + t.size) t 0
theorem b2b (m t : VT) (hm : m7 m) (hms : m.size ≤ 1000000) (ht : m7 t) (hts : t.size ≤ 1000000) : Row Tryz.prog 76 [vT m, vT t] [] (vI (a62 m t)) [] := by
  have h := a3b m hm hms m.size (fun d hd => j8 hd) (m.kids.length * m.size + t.size) t 0 ht hts (Nat.zero_le _) (by simp)
  unfold a62
  obtain ⟨c, hc⟩ : ∃ c, a3q m (m.kids.length * m.size + t.size) t 0 = c := ⟨_, rfl⟩
  rw [hc] at h ⊢
  clear hc
  obtain ⟨mx, ml⟩ := m
  obtain ⟨x, l⟩ := t
  have h0 : ((0 : Nat) : Int) = 0 := rfl
  rw [h0] at h
  refine d7 Tryz.func76 rfl rfl (Nat.le_of_ble_eq_true rfl) ?_
  repeat' (first | refine b9 ?_ | refine b6 ?_ | refine a6 ?_ | refine b5 ?_ | refine d8 rfl (fun _ => ?_) (fun hb => absurd hb (by decide)) | refine d8 rfl (fun hb => absurd hb (by decide)) (fun _ => ?_) | (refine b8 (fun K hK => ?_); simp -implicitDefEqProofs) | (refine d3 e9 (fun K hK => ?_); simp -implicitDefEqProofs) | refine hK _ ?_ | refine hK _ _ (by rfl) ?_ | (refine b7 (cb h 5 ?_); simp -implicitDefEqProofs) | (refine a8 (db h 5 ?_); simp -implicitDefEqProofs) | fail)
  refine d6 (d4 ?_); simp -implicitDefEqProofs [f9, f6, f7] <;> try rfl
end Go.Proofs.YtbbkmijkllgfaaaGreatDoor.am
end
