/-
  Layer 5: the scanner's number.
-/
import Derived.Test.YtlfhdjlgjekcpaaDoorLexTok
import Derived.Test.YtlfhdjlgjekcpaaDoorLexNum
import Derived.Test.YtlfhdjlgjekcpaaDoorShelf
import Derived.WalkSmall
import Derived.Lib.AtoiErrMem
namespace Go.Proofs.YtlfhdjlgjekcpaaDoor.lx
open Go.ChangeShapes Go.WideShapes Go.ChangeAt Go.RowKit
open bs
set_option linter.unusedVariables false

/-- What the library's variables hold. -/
structure Gl (w : World) : Prop where
  syn : ∃ tp p, w.var? Tryd.prog "strconv.ErrSyntax" = some #[.iface tp p]
  rng : ∃ tp p, w.var? Tryd.prog "strconv.ErrRange" = some #[.iface tp p]
  tab : Lib.TabIs Tryd.prog w "internal/strconv.uint64pow10" .u64 Lib.pow10Tab
theorem var_keep {w w' : World} {n : String} {cs : Array Value} (h : w.var? Tryd.prog n = some cs) (hb : Below w.heap.size w w') : w'.var? Tryd.prog n = some cs := by
  unfold World.var? at h ⊢
  cases hg : Tryd.prog.globalNamed n with
  | none => simp [hg] at h
  | some g =>
    simp only [hg, Option.bind_some] at h ⊢
    have hlt : g < w.heap.size := by
      rcases Nat.lt_or_ge g w.heap.size with h' | h'
      · exact h'
      · simp [Array.getElem?_eq_none h'] at h
    rw [hb.block g hlt]
    exact h
theorem Gl.below {w w' : World} (h : Gl w) (hb : Below w.heap.size w w') : Gl w' := by
  obtain ⟨⟨a, b, h1⟩, ⟨c, d, h2⟩, h3⟩ := h
  exact ⟨⟨a, b, var_keep h1 hb⟩, ⟨c, d, var_keep h2 hb⟩, var_keep h3 hb⟩

/-- What ParseInt answers for digits. -/
theorem parse_any (v : ByteArray) (w : World) (hG : Gl w) (hd : Dig v.data.toList) (hne : v.size ≠ 0) (hm : v.size ≤ 100000) :
    Calls Tryd.prog 42 #[.string v, .int .i64 10, .int .i64 64] w fun e w' => Below w.heap.size w w' ∧ ((∃ n : Int, numV 0 (txt v) = some n ∧ e = .returned (.tuple #[.int .i64 n, .nilIface])) ∨ (numV 0 (txt v) = none ∧ ∃ (z : Int) (tp : TypeId) (p : Value), e = .returned (.tuple #[.int .i64 z, .iface tp p]))) := by
  rcases two_nums v hd hne with ⟨n, h1, h2⟩ | ⟨h1, h2⟩
  · refine (Tryd.strconv_ParseInt_10_at64_ok v (by omega) n h1 w).mono ?_
    rintro e w' ⟨rfl, hw⟩
    refine ⟨?_, .inl ⟨n, h2, rfl⟩⟩
    rcases hw with rfl | ⟨t, rfl⟩
    · exact Below.refl _ _
    · exact Lib.bytesWorld_below _ _ _
  · obtain ⟨tp, p, hv⟩ := hG.rng
    refine (Tryd.strconv_ParseInt_10_at64_range_var v (by omega) h1 tp p w hv).mono ?_
    rintro e w' ⟨N, rfl, _, _, hb⟩
    exact ⟨hb, .inr ⟨h2, _, _, _, rfl⟩⟩

set_option maxRecDepth 100000 in
set_option maxHeartbeats 2000000 in
theorem number_any (sb : Nat) (s : ByteArray) (i : Nat) (w : World) (hG : Gl w) (hS : Sc w sb s i) (hi : i < s.size) (hm : s.size ≤ 100000) (hL : isL (B s i) = false) (hD : isD (B s i) = true) :
    Calls Tryd.prog 34 #[.pointer (some ⟨sb, 0, none⟩)] w (TP (on s i) w) := by
  have hmf : ∀ (fn : Fn) (first cap : Array Value) (w : World), (Instr.makeFunc fn first cap).run Tryd.prog w = .ok (.func fn first cap) w := fun _ _ _ _ => rfl
  have HW := Lib.hid (below_alloc w (.cells #[.int .i64 0, .int .i64 0, .string ⟨#[]⟩, .int .i64 0, .int .i64 0] 31))
  have HK : Hid (KB (w.alloc (.cells #[.int .i64 0, .int .i64 0, .string ⟨#[]⟩, .int .i64 0, .int .i64 0] 31)) w.heap.size tk0) := kb_new w tk0
  have HS := Lib.hid (hS.below (below_alloc w (.cells #[.int .i64 0, .int .i64 0, .string ⟨#[]⟩, .int .i64 0, .int .i64 0] 31)))
  have HG := Lib.hid (hG.below (below_alloc w (.cells #[.int .i64 0, .int .i64 0, .string ⟨#[]⟩, .int .i64 0, .int .i64 0] 31)))
  have hbd := run_bd isD s i (by omega)
  have hlt : i < run isD s i := by
    rw [run_yes hi hD]
    have := run_bd isD s (i + 1) (by omega)
    omega
  have HL := Lib.hid hL; have HD := Lib.hid hD
  have HDIG := Lib.hid (dig_cut (s := s) (i := i) (by omega))
  clear hS hL hD hG
  go_enter Tryd.func34, Tryd.ntmps34
  go_upto_region 1 with fail
  generalize hWW : w.alloc (.cells #[.int .i64 0, .int .i64 0, .string ⟨#[]⟩, .int .i64 0, .int .i64 0] 31) = W at HW HK HS HG ⊢
  clear hWW
  go_wp2_with fail
  refine (run_any (on_number sb) s i W HS.out (by omega) hm).mono ?_
  rintro e w' ⟨rfl, rfl⟩
  have c0 : w'.cell? ⟨sb, 0, none⟩ = some (.string s) := by simpa using HS.out.cell 0
  have c1 : w'.cell? ⟨sb, 1, none⟩ = some (.int .i64 i) := by simpa using HS.out.cell 1
  obtain ⟨r, hr⟩ : ∃ r, run isD s i = r := ⟨_, rfl⟩
  rw [hr] at hbd hlt HDIG ⊢
  have HR := Lib.hid hr
  have hcut : (s.extract i r).size = r - i := size_cut s i r hbd.1 hbd.2
  have HCUT := Lib.hid hcut
  obtain ⟨hb1, hb2⟩ := hbd
  clear hr hcut
  go_wp2_with fail
  go_quiet (fail)
  have HK2 := Lib.hid (HK.out.drewN nq); have HS2 : Hid (Sc (w'.drewN nq) sb s i) := Lib.hid (HS.out.drewN nq)
  have HB2 := Lib.hid (below_drewN HW.out nq); have HG2 := Lib.hid (HG.out.below (below_drewN (Below.refl _ _) nq))
  clear c0 c1 HK HS HW HG
  generalize w'.drewN nq = V at HK2 HS2 HB2 HG2 ⊢
  obtain ⟨v, hv⟩ : ∃ v, s.extract i r = v := ⟨_, rfl⟩
  rw [hv] at HDIG HCUT ⊢
  have HV := Lib.hid hv
  have hvs : 0 < v.size := by have := HCUT.out; omega
  have HVS := Lib.hid hvs
  clear hv hvs
  go_wp2_with fail
  refine (parse_any v V HG2.out HDIG.out (by have := HVS.out; omega) (by have := HCUT.out; omega)).mono ?_
  rintro e w3 ⟨hb3, hcase⟩
  have HK3 := Lib.hid (HK2.out.below hb3); have HS3 := Lib.hid (HS2.out.below hb3); have HB3 := Lib.hid (HB2.out.trans (hb3.mono HB2.out.size))
  have c1 : w3.cell? ⟨sb, 1, none⟩ = some (.int .i64 i) := by simpa using HS3.out.cell 1
  have hv0 : 0 < v.size := HVS.out
  have e0 := b_at v 0 hv0
  clear hb3 HK2 HS2 HB2 HG2
  have bad : ∀ w5, num v = none → KB w5 w.heap.size tk0 → Only w3 w5 w.heap.size → TP (on s i) w (.returned (.tuple #[tk0.val, .int .i64 5])) w5 := fun w5 hn h5 ho5 => by
    have e : on s i = (tk0, 5) := tk_nonum HL.out HD.out (by rw [HR.out, HV.out]; exact hn)
    rw [e]
    exact ⟨rfl, HB3.out.trans (ho5.below (Nat.le_refl _))⟩
  have BAD := Lib.hid bad
  clear bad
  rcases hcase with ⟨n, hn, rfl⟩ | ⟨hn, z, tp, p, rfl⟩
  · by_cases h0 : 1 < v.size ∧ B v 0 = 48
    · have d1 : decide ((1 : Int) < v.size) = true := decide_eq_true (by omega)
      have d2 : (((v[0]).toNat : Int) == 48) = true := by rw [e0, h0.2]; rfl
      have HN : Hid (num v = none) := Lib.hid (by unfold num; rw [if_pos (.inr h0)])
      clear h0 e0 hn
      go_wp2_with (refine wpList_store_K rfl _ _ rfl rfl HK3.out tk0 rfl ?_)
      intro w5 hv5 ho5
      have HO5 := Lib.hid ho5
      clear ho5
      go_wp2
      try simp only [Exit.inBlock, Exit.then]
      refine bodyPost_ret (results_cell_tmp rfl _ _ w.heap.size _ _ _ rfl hv5 Tryd.underlying31 rfl (by kernel_rfl)) rfl ?_
      exact BAD.out w5 HN.out hv5 HO5.out
    · have HN : Hid (num v = some n) := Lib.hid (by unfold num; rw [if_neg (by rintro (h | h); omega; exact h0 h)]; exact hn)
      have good : ∀ w5, KB w5 w.heap.size ⟨2, n, ⟨#[]⟩, i, r⟩ → Only w3 w5 w.heap.size → TP (on s i) w (.returned (.tuple #[(⟨2, n, ⟨#[]⟩, i, r⟩ : Tk).val, .int .i64 0])) w5 := fun w5 h5 ho5 => by
        have e : on s i = _ := tk_number HL.out HD.out (by rw [HR.out, HV.out]; exact HN.out)
        rw [e, HR.out]
        exact ⟨rfl, HB3.out.trans (ho5.below (Nat.le_refl _))⟩
      have GOOD := Lib.hid good
      clear good hn
      by_cases h1 : B v 0 = 48
      · have d2 : (((v[0]).toNat : Int) == 48) = true := by rw [e0, h1]; rfl
        have d1 : decide ((1 : Int) < v.size) = false := decide_eq_false (fun h => h0 ⟨by omega, h1⟩)
        clear h0 h1 e0
        go_wp2_with (refine wpList_store_K rfl _ _ rfl rfl HK3.out ⟨2, n, ⟨#[]⟩, i, r⟩ rfl ?_)
        intro w5 hv5 ho5
        have HO5 := Lib.hid ho5
        clear ho5
        go_wp2
        try simp only [Exit.inBlock, Exit.then]
        refine bodyPost_ret (results_cell_tmp rfl _ _ w.heap.size _ _ _ rfl hv5 Tryd.underlying31 rfl (by kernel_rfl)) rfl ?_
        exact GOOD.out w5 hv5 HO5.out
      · have d2 : (((v[0]).toNat : Int) == 48) = false := by rw [e0, beq_eq_false_iff_ne]; exact h1
        clear h0 h1 e0
        go_wp2_with (refine wpList_store_K rfl _ _ rfl rfl HK3.out ⟨2, n, ⟨#[]⟩, i, r⟩ rfl ?_)
        intro w5 hv5 ho5
        have HO5 := Lib.hid ho5
        clear ho5
        go_wp2
        try simp only [Exit.inBlock, Exit.then]
        refine bodyPost_ret (results_cell_tmp rfl _ _ w.heap.size _ _ _ rfl hv5 Tryd.underlying31 rfl (by kernel_rfl)) rfl ?_
        exact GOOD.out w5 hv5 HO5.out
  · have HN : Hid (num v = none) := Lib.hid (by
      unfold num
      split
      · rfl
      · exact hn)
    clear hn e0
    go_wp2_with (refine wpList_store_K rfl _ _ rfl rfl HK3.out tk0 rfl ?_)
    intro w5 hv5 ho5
    have HO5 := Lib.hid ho5
    clear ho5
    go_wp2
    try simp only [Exit.inBlock, Exit.then]
    refine bodyPost_ret (results_cell_tmp rfl _ _ w.heap.size _ _ _ rfl hv5 Tryd.underlying31 rfl (by kernel_rfl)) rfl ?_
    exact BAD.out w5 HN.out hv5 HO5.out
end Go.Proofs.YtlfhdjlgjekcpaaDoor.lx
