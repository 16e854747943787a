/-
  Layer 47: the clash of two logs: the program's and the document's.
-/
import Derived.Test.YtejhncdempfmjaaChainCl
import Derived.Test.YtejhncdempfmjaaShelf
namespace Go.Proofs.Ytejhncdempfmjaa.ch
open Go.ChangeShapes Go.WideShapes Go.ChangeAt Go.RowKit
open bs en
open Go.Proofs.Ytejhncdempfmjaa.sh (tagB)
set_option linter.unusedVariables false

theorem bytesOf_inj {x y : List Int} (hx : AllB x) (hy : AllB y) : (Lib.bytesOf x == Lib.bytesOf y) = (x == y) := by
  have h : ∀ (x y : List Int), AllB x → AllB y → Lib.bytesOf x = Lib.bytesOf y → x = y := by
    intro x
    induction x with
    | nil =>
      intro y _ _ h
      cases y with
      | nil => rfl
      | cons b y => simp [Lib.bytesOf] at h
    | cons a x ih =>
      intro y hx hy h
      cases y with
      | nil => simp [Lib.bytesOf] at h
      | cons b y =>
        simp only [Lib.bytesOf, List.map_cons, List.cons.injEq] at h
        have ha := hx a (by simp); have hb := hy b (by simp)
        have e1 : a = b := by
          have h1 := congrArg UInt8.toNat h.1
          rw [UInt8.toNat_ofNat', UInt8.toNat_ofNat'] at h1
          omega
        rw [e1, ih y (fun z hz => hx z (by simp [hz])) (fun z hz => hy z (by simp [hz])) h.2]
  rw [Bool.eq_iff_iff, beq_iff_eq, beq_iff_eq]
  exact ⟨fun q => h x y hx hy q, fun q => by rw [q]⟩
theorem equal_any (a : Option Addr) (n c : Nat) (x : List Int) (a' : Option Addr) (n' c' : Nat) (y : List Int) (w : World) (hx : Bytes w a n c x) (hy : Bytes w a' n' c' y) :
    Calls Try.prog 63 #[.slice a n c, .slice a' n' c'] w fun e w' => e = .returned (.bool (x == y)) ∧ w = w' := by
  have hin : ∀ {w : World} {a : Option Addr} {n c : Nat} {l : List Int}, Bytes w a n c l → Lib.BytesIn w a n l := fun h hn => by
    obtain ⟨b, off, rfl, hc⟩ := h.at'.resolve_left (by omega)
    exact ⟨b, off, rfl, hc⟩
  refine (Try.bytes_Equal_all a a' n c n' c' x y w hx.len hy.len (hin hx) (hin hy)).mono ?_
  rintro e w' ⟨rfl, rfl⟩
  exact ⟨by rw [bytesOf_inj hx.all hy.all], rfl⟩

def msO (f : Nat → Fm) : Option Nat → List Int
  | some i => mgF f i
  | none => []
def ClPost (a b : List Int) (w : World) (e : Ending) (w' : World) : Prop :=
  Below w.heap.size w w' ∧ ∃ (r : Option Nat) (a1 : Option Addr) (n1 c1 : Nat) (a2 : Option Addr) (n2 c2 : Nat), ClE a b r ∧ e = .returned (.tuple #[.slice a1 n1 c1, .slice a2 n2 c2, .bool r.isSome]) ∧
    OwnB w' w.heap.size 5 a1 n1 c1 (msO (fm a) r) ∧ OwnB w' w.heap.size 5 a2 n2 c2 (msO (fm b) r)

set_option maxRecDepth 100000 in
set_option maxHeartbeats 4000000 in
theorem clash_any (a0 : Option Addr) (n0 c0 : Nat) (x : List Int) (a : Option Addr) (n c : Nat) (y : List Int) (w : World) (h0 : Bytes w a0 n0 c0 x) (h : Bytes w a n c y) (hk : n0 ≤ 100000) (hn : n ≤ 100000) :
    Calls Try.prog 26 #[.slice a0 n0 c0, .slice a n c] w (ClPost x y w) := by
  have HA := Lib.hid h0.all; have HA' := Lib.hid h.all; have HLE := Lib.hid h0.len; have HLE' := Lib.hid h.len
  have H0 := Lib.hid h0; have H := Lib.hid h
  clear h0 h
  go_enter Try.func26, Try.ntmps26
  go_wp2_with fail
  refine (frames_any a0 n0 c0 x _ H0.out hk).mono ?_
  rintro e w1 ⟨hb1, j, L, al, cl, E, rfl, hends, hL, hO, hD⟩
  have HB1 := Lib.hid hb1; have HEN := Lib.hid hends; have HL := Lib.hid hL; have HO := Lib.hid hO; have HD := Lib.hid hD
  clear hb1 hends hL hO hD
  go_wp2_with fail
  refine (frames_any a n c y _ (H.out.below HB1.out) hn).mono ?_
  rintro e w2 ⟨hb2, j', L', al', cl', E', rfl, hends', hL', hO', hD'⟩
  have HR := Lib.hid ((own_fra HL.out HO.out).below staysF hb2)
  have HR' := Lib.hid (own_fra hL' hO')
  have HB2 := Lib.hid (HB1.out.trans (hb2.mono HB1.out.size)); have HEN' := Lib.hid hends'; have HD' := Lib.hid hD'
  clear hb2 hends' hL' hO' hD'
  have hj : j ≤ 100000 := by
    have h1 := at_ge (l := x) j; have h2 := at_le HA.out j HEN.out.1; rw [HLE.out] at h2; omega
  have hj' : j' ≤ 100000 := by
    have h1 := at_ge (l := y) j'; have h2 := at_le HA'.out j' HEN'.out.1; rw [HLE'.out] at h2; omega
  have hcap := HR.out.cap; have hcap' := HR'.out.cap; have hmost := HR.out.most; have hmost' := HR'.out.most
  by_cases hE : E = 0
  · by_cases hE' : E' = 0
    · subst hE hE'
      by_cases hjj : j = j'
      · subst hjj
        have dn : ((j : Int) != (j : Int)) = false := by simp
        go_wp2
        go_loopw [11] (fun i wr => ∃ (k : Nat), k ≤ j ∧ i = .int .i64 ((k : Int) - 1) ∧ Hid (Below w2.heap.size w2 wr) ∧ Hid (∀ i, k ≤ i → i < j → (fm x i).t = (fm y i).t ∧ mgF (fm x) i = mgF (fm y) i)) (fun i _ => (intOf i + 1).toNat)
        case atStart => exact ⟨j, Nat.le_refl _, rfl, Lib.hid (Below.refl _ _), Lib.hid (fun i h1 h2 => by omega)⟩
        case round =>
          obtain ⟨k, hk2, rfl, HB, HS⟩ := hrel
          by_cases hlt : 0 < k
          · obtain ⟨i, rfl⟩ : ∃ i, k = i + 1 := ⟨k - 1, by omega⟩
            have ei : (((i + 1 : Nat) : Int) - 1) = (i : Int) := by omega
            rw [ei]
            clear ei
            obtain ⟨u, hu⟩ : ∃ u, L[i]? = some u := ⟨L[i]'(by have := HR.out.len; omega), List.getElem?_eq_getElem _⟩
            obtain ⟨v, hv⟩ : ∃ v, L'[i]? = some v := ⟨L'[i]'(by have := HR'.out.len; omega), List.getElem?_eq_getElem _⟩
            have HRr := Lib.hid (HR.out.below staysF HB.out); have HRr' := Lib.hid (HR'.out.below staysF HB.out)
            obtain ⟨b, off, hal, hbl, hcell⟩ := HRr.out.at'.resolve_left (by omega)
            obtain ⟨b', off', hal', hbl', hcell'⟩ := HRr'.out.at'.resolve_left (by omega)
            have hc := hcell i u hu
            have hc' := hcell' i v hv
            have hT := HD.out i u hu
            have hT' := HD'.out i v hv
            obtain ⟨⟨xk, xa, xn, xc, xl⟩, ya, yn, yc, yl⟩ := u
            obtain ⟨⟨xk', xa', xn', xc', xl'⟩, ya', yn', yc', yl'⟩ := v
            have HRD := Lib.hid hc.rd; have HRD' := Lib.hid hc'.rd
            have e0 := hc.c2; have e1 := hc'.c2
            have ht : (fm x i).t = yl := hT.t.symm
            have ht' : (fm y i).t = yl' := hT'.t.symm
            have HT := Lib.hid ht; have HT' := Lib.hid ht'
            dsimp only at e0 e1
            subst hal hal'
            have z2 : (0 : Int) ≤ (i : Int) := by omega
            have z3 : (i : Int) < (j : Int) := by omega
            have z4 : i < j := by omega
            clear hcell hcell' hc hc' hu hv hT hT' ht ht' hlt
            go_wp2_with fail
            go_quiet ((go_at_call 57; refine Calls.quiet_of (psame_any ya yn yc yl ya' yn' yc' yl' _ (HRD.out.tag.drewN _) (HRD'.out.tag.drewN _))))
            have hpj := HEN.out.1
            by_cases htt : yl = yl'
            · subst htt
              rw [beq_self_eq_true]
              clear e0 e1
              go_wp2_with fail
              refine (at_any _ j cl L (fm x) i _ (HRr.out.drewN staysF _) HD.out z4 hj).mono ?_
              rintro e w4 ⟨hb4, a4, m4, c4, rfl, ho4⟩
              have hb44 : Below wr.heap.size wr w4 := (below_drewN (Below.refl wr.heap.size wr) _).trans hb4
              have HB4 := Lib.hid hb44; have HO4 := Lib.hid ho4
              clear hb4 hb44 ho4
              go_wp2_with fail
              refine (at_any _ j cl' L' (fm y) i _ (HRr'.out.below staysF HB4.out) HD'.out z4 hj).mono ?_
              rintro e w5 ⟨hb5, a5, m5, c5, rfl, ho5⟩
              have HB5 := Lib.hid (HB4.out.trans (hb5.mono HB4.out.size)); have HO5 := Lib.hid ho5; have HO45 := Lib.hid (HO4.out.below hb5)
              have hs4 := HB4.out.size
              clear hb5 ho5
              go_wp2_with fail
              refine (equal_any _ _ _ _ _ _ _ _ _ HO45.out.bytes HO5.out.bytes).mono ?_
              rintro e w6 ⟨rfl, rfl⟩
              have hsb := HB.out.size; have hs2 := HB2.out.size
              by_cases hmm : mgF (fm x) i = mgF (fm y) i
              · have d : (mgF (fm x) i == mgF (fm y) i) = true := by rw [beq_iff_eq]; exact hmm
                rw [d]
                have hS2 : ∀ q, i ≤ q → q < j → (fm x q).t = (fm y q).t ∧ mgF (fm x) q = mgF (fm y) q := fun q h1 h2 => by
                  rcases Nat.lt_or_ge i q with h3 | h3
                  · exact HS.out q h3 h2
                  · obtain rfl : i = q := by omega
                    exact ⟨by rw [HT.out, HT'.out], hmm⟩
                have HS2 := Lib.hid hS2
                clear hmm d hS2
                go_wp2
                go_roundw
                case rel => exact ⟨i, by omega, rfl, Lib.hid (HB.out.trans (HB5.out.mono hsb)), HS2⟩
                case measure => simp [intOf]
              · have d : (mgF (fm x) i == mgF (fm y) i) = false := by rw [beq_eq_false_iff_ne]; exact hmm
                rw [d]
                have hcl : ClE x y (some i) := ⟨j, 0, j, 0, HEN.out, HEN'.out, .inr ⟨rfl, rfl, rfl, z4, by rw [HT.out, HT'.out], hmm, fun q h1 h2 => HS.out q h1 h2⟩⟩
                have HCL := Lib.hid hcl
                clear hcl hmm d
                go_wp2
                go_ret3
                refine ⟨HB2.out.trans ((HB.out.trans (HB5.out.mono hsb)).mono hs2), some i, a4, m4, c4, a5, m5, c5, HCL.out, rfl, ?_, ?_⟩
                · exact HO45.out.mono (by show w.heap.size ≤ wr.heap.size; omega)
                · exact HO5.out.mono (by omega)
            · have d : (yl == yl') = false := by rw [beq_eq_false_iff_ne]; exact htt
              rw [d]
              have hcl : ClE x y none := ⟨j, 0, j, 0, HEN.out, HEN'.out, .inr ⟨rfl, rfl, rfl, .inr ⟨i, z4, by rw [HT.out, HT'.out]; exact htt, fun q h1 h2 => HS.out q h1 h2⟩⟩⟩
              have HCL := Lib.hid hcl
              clear hcl htt d e0 e1
              go_wp2
              go_ret3
              exact ⟨HB2.out.trans (below_drewN (HB.out.mono HB2.out.size) _), none, none, 0, 0, none, 0, 0, HCL.out, rfl, OwnB.nil _ _ _, OwnB.nil _ _ _⟩
          · obtain rfl : k = 0 := by omega
            have hcl : ClE x y none := ⟨j, 0, j, 0, HEN.out, HEN'.out, .inr ⟨rfl, rfl, rfl, .inl (fun q h2 => HS.out q (Nat.zero_le _) h2)⟩⟩
            have HCL := Lib.hid hcl
            clear hcl
            go_wp2
            go_ret3
            exact ⟨HB2.out.trans (HB.out.mono HB2.out.size), none, none, 0, 0, none, 0, 0, HCL.out, rfl, OwnB.nil _ _ _, OwnB.nil _ _ _⟩
      · have dn : ((j : Int) != (j' : Int)) = true := by rw [bne_iff_ne]; omega
        have hcl : ClE x y none := ⟨j, 0, j', 0, HEN.out, HEN'.out, .inl ⟨.inr (.inr hjj), rfl⟩⟩
        have HCL := Lib.hid hcl
        clear hcl hjj
        go_wp2
        go_ret3
        exact ⟨HB2.out, none, none, 0, 0, none, 0, 0, HCL.out, rfl, OwnB.nil _ _ _, OwnB.nil _ _ _⟩
    · have d : (E' != 0) = true := by rw [bne_iff_ne]; exact hE'
      have hcl : ClE x y none := ⟨j, E, j', E', HEN.out, HEN'.out, .inl ⟨.inr (.inl hE'), rfl⟩⟩
      have HCL := Lib.hid hcl
      subst hE
      clear hcl hE'
      go_wp2
      go_ret3
      exact ⟨HB2.out, none, none, 0, 0, none, 0, 0, HCL.out, rfl, OwnB.nil _ _ _, OwnB.nil _ _ _⟩
  · have d : (E != 0) = true := by rw [bne_iff_ne]; exact hE
    have hcl : ClE x y none := ⟨j, E, j', E', HEN.out, HEN'.out, .inl ⟨.inl hE, rfl⟩⟩
    have HCL := Lib.hid hcl
    clear hcl hE
    go_wp2
    go_ret3
    exact ⟨HB2.out, none, none, 0, 0, none, 0, 0, HCL.out, rfl, OwnB.nil _ _ _, OwnB.nil _ _ _⟩

theorem two_none {x y : List Int} {w : World} (W : World) (hb : Below w.heap.size w W) (h : ClE x y none) :
    ClPost x y w (.returned (.tuple #[.slice (some ⟨W.heap.size, 0, none⟩) 0 0, .slice (some ⟨W.heap.size + 1, 0, none⟩) 0 0, .bool false])) ((W.alloc (.cells #[] 5)).alloc (.cells #[] 5)) := by
  have h1 := (OwnB.made W w.heap.size 5 [] #[] rfl hb.size (by simp [maxLen]) (by simp [AllB])).alloc (.cells #[] 5)
  have h2 := OwnB.made (W.alloc (.cells #[] 5)) w.heap.size 5 [] #[] rfl (by have := hb.size; simp; omega) (by simp [maxLen]) (by simp [AllB])
  rw [World.size_alloc] at h2
  exact ⟨(hb.alloc hb.size _).alloc (by have := hb.size; simp; omega) _, none, _, 0, 0, _, 0, 0, h, rfl, h1, h2⟩

set_option maxRecDepth 100000 in
set_option maxHeartbeats 4000000 in
theorem rclash_any (a0 : Option Addr) (n0 c0 : Nat) (x : List Int) (a : Option Addr) (n c : Nat) (y : List Int) (w : World) (h0 : Bytes w a0 n0 c0 x) (h : Bytes w a n c y) (hk : n0 ≤ 100000) (hn : n ≤ 100000) :
    Calls Try.prog 27 #[.slice a0 n0 c0, .slice a n c] w (ClPost x y w) := by
  have HA := Lib.hid h0.all; have HA' := Lib.hid h.all; have HLE := Lib.hid h0.len; have HLE' := Lib.hid h.len
  have H0 := Lib.hid h0; have H := Lib.hid h
  clear h0 h
  go_enter Try.func27, Try.ntmps27
  go_wp2_with fail
  refine (rframes_any a0 n0 c0 x _ H0.out hk).mono ?_
  rintro e w1 ⟨hb1, j, L, al, cl, ag, cg, E, rfl, hends, hL, hG, hO, hD⟩
  have HB1 := Lib.hid hb1; have HEN := Lib.hid hends; have HL := Lib.hid hL; have HG := Lib.hid hG; have HO := Lib.hid hO; have HD := Lib.hid hD
  clear hb1 hends hL hG hO hD
  go_wp2_with fail
  refine (rframes_any a n c y _ (H.out.below HB1.out) hn).mono ?_
  rintro e w2 ⟨hb2, j', L', al', cl', ag', cg', E', rfl, hends', hL', hG', hO', hD'⟩
  have HR := Lib.hid ((own_ent HL.out HO.out).below staysE hb2)
  have HR' := Lib.hid (own_ent hL' hO')
  have HQ := Lib.hid ((own_tag HG.out HO.out).below staysT hb2)
  have HQ' := Lib.hid (own_tag hG' hO')
  have HB2 := Lib.hid (HB1.out.trans (hb2.mono HB1.out.size)); have HEN' := Lib.hid hends'; have HD' := Lib.hid hD'
  clear hb2 hends' hL' hG' hO' hD'
  have hj : j ≤ 100000 := by
    have h1 := at_ge (l := x) j; have h2 := at_le HA.out j HEN.out.1; rw [HLE.out] at h2; omega
  have hj' : j' ≤ 100000 := by
    have h1 := at_ge (l := y) j'; have h2 := at_le HA'.out j' HEN'.out.1; rw [HLE'.out] at h2; omega
  have hcap := HR.out.cap; have hcap' := HR'.out.cap; have hmost := HR.out.most; have hmost' := HR'.out.most
  have hcapq := HQ.out.cap; have hcapq' := HQ'.out.cap; have hmostq := HQ.out.most; have hmostq' := HQ'.out.most
  by_cases hE : E = 0
  · by_cases hE' : E' = 0
    · subst hE hE'
      by_cases hjj : j = j'
      · subst hjj
        have dn : ((j : Int) != (j : Int)) = false := by simp
        go_wp2
        go_loopw [13] (fun i wr => ∃ (k : Nat), k ≤ j ∧ i = .int .i64 ((k : Int) - 1) ∧ Hid (Below w2.heap.size w2 wr) ∧ Hid (∀ i, k ≤ i → i < j → (fm x i).t = (fm y i).t ∧ mgF (fm x) i = mgF (fm y) i)) (fun i _ => (intOf i + 1).toNat)
        case atStart => exact ⟨j, Nat.le_refl _, rfl, Lib.hid (Below.refl _ _), Lib.hid (fun i h1 h2 => by omega)⟩
        case round =>
          obtain ⟨k, hk2, rfl, HB, HS⟩ := hrel
          by_cases hlt : 0 < k
          · obtain ⟨i, rfl⟩ : ∃ i, k = i + 1 := ⟨k - 1, by omega⟩
            have ei : (((i + 1 : Nat) : Int) - 1) = (i : Int) := by omega
            rw [ei]
            clear ei
            obtain ⟨u, hu⟩ : ∃ u, L[i]? = some u := ⟨L[i]'(by have := HR.out.len; omega), List.getElem?_eq_getElem _⟩
            obtain ⟨v, hv⟩ : ∃ v, L'[i]? = some v := ⟨L'[i]'(by have := HR'.out.len; omega), List.getElem?_eq_getElem _⟩
            have HRr := Lib.hid (HR.out.below staysE HB.out); have HRr' := Lib.hid (HR'.out.below staysE HB.out)
            have HQr := Lib.hid (HQ.out.below staysT HB.out); have HQr' := Lib.hid (HQ'.out.below staysT HB.out)
            obtain ⟨b, off, hal, hbl, hcell⟩ := HQr.out.at'.resolve_left (by omega)
            obtain ⟨b', off', hal', hbl', hcell'⟩ := HQr'.out.at'.resolve_left (by omega)
            have hc := hcell i u hu
            have hc' := hcell' i v hv
            rw [Nat.mul_one] at hc hc'
            have hT := HD.out i u hu
            have hT' := HD'.out i v hv
            obtain ⟨⟨xk, xa, xn, xc, xl⟩, ya, yn, yc, yl⟩ := u
            obtain ⟨⟨xk', xa', xn', xc', xl'⟩, ya', yn', yc', yl'⟩ := v
            have HRD := Lib.hid hc.rd; have HRD' := Lib.hid hc'.rd
            have e0 := hc.c0; have e1 := hc'.c0
            have ht : (fm x i).t = yl := hT.t.symm
            have ht' : (fm y i).t = yl' := hT'.t.symm
            have HT := Lib.hid ht; have HT' := Lib.hid ht'
            dsimp only at e0 e1
            subst hal hal'
            have z2 : (0 : Int) ≤ (i : Int) := by omega
            have z3 : (i : Int) < (j : Int) := by omega
            have z4 : i < j := by omega
            clear hcell hcell' hc hc' hu hv hT hT' ht ht' hlt
            go_wp2_with fail
            go_quiet ((go_at_call 16; refine Calls.quiet_of (rsame_any ya yn yc yl ya' yn' yc' yl' _ (HRD.out.tag.drewN _) (HRD'.out.tag.drewN _))))
            have hpj := HEN.out.1
            by_cases htt : yl = yl'
            · subst htt
              rw [beq_self_eq_true]
              clear e0 e1
              go_wp2_with fail
              refine (of_any _ j cl _ cg L (fm x) i _ (HRr.out.drewN staysE _) (HQr.out.drewN staysT _) HD.out z4 hj).mono ?_
              rintro e w4 ⟨hb4, a4, m4, c4, rfl, ho4⟩
              have hb44 : Below wr.heap.size wr w4 := (below_drewN (Below.refl wr.heap.size wr) _).trans hb4
              have HB4 := Lib.hid hb44; have HO4 := Lib.hid ho4
              clear hb4 hb44 ho4
              go_wp2_with fail
              refine (of_any _ j cl' _ cg' L' (fm y) i _ (HRr'.out.below staysE HB4.out) (HQr'.out.below staysT HB4.out) HD'.out z4 hj).mono ?_
              rintro e w5 ⟨hb5, a5, m5, c5, rfl, ho5⟩
              have HB5 := Lib.hid (HB4.out.trans (hb5.mono HB4.out.size)); have HO5 := Lib.hid ho5; have HO45 := Lib.hid (HO4.out.below hb5)
              have hs4 := HB4.out.size
              clear hb5 ho5
              go_wp2_with fail
              refine (rsame_any _ _ _ _ _ _ _ _ _ HO45.out.bytes HO5.out.bytes).mono ?_
              rintro e w6 ⟨rfl, m6, rfl⟩
              have hsb := HB.out.size; have hs2 := HB2.out.size
              by_cases hmm : mgF (fm x) i = mgF (fm y) i
              · have d : (mgF (fm x) i == mgF (fm y) i) = true := by rw [beq_iff_eq]; exact hmm
                rw [d]
                have hS2 : ∀ q, i ≤ q → q < j → (fm x q).t = (fm y q).t ∧ mgF (fm x) q = mgF (fm y) q := fun q h1 h2 => by
                  rcases Nat.lt_or_ge i q with h3 | h3
                  · exact HS.out q h3 h2
                  · obtain rfl : i = q := by omega
                    exact ⟨by rw [HT.out, HT'.out], hmm⟩
                have HS2 := Lib.hid hS2
                clear hmm d hS2
                go_wp2
                go_roundw
                case rel => exact ⟨i, by omega, rfl, Lib.hid (HB.out.trans ((below_drewN HB5.out m6).mono hsb)), HS2⟩
                case measure => simp [intOf]
              · have d : (mgF (fm x) i == mgF (fm y) i) = false := by rw [beq_eq_false_iff_ne]; exact hmm
                rw [d]
                have hcl : ClE x y (some i) := ⟨j, 0, j, 0, HEN.out, HEN'.out, .inr ⟨rfl, rfl, rfl, z4, by rw [HT.out, HT'.out], hmm, fun q h1 h2 => HS.out q h1 h2⟩⟩
                have HCL := Lib.hid hcl
                have HB6 := Lib.hid (below_drewN HB5.out m6)
                clear hcl hmm d
                go_wp2_with fail
                refine (of_any _ j cl _ cg L (fm x) i _ (HRr.out.below staysE HB6.out) (HQr.out.below staysT HB6.out) HD.out z4 hj).mono ?_
                rintro e w7 ⟨hb7, a7, m7, c7, rfl, ho7⟩
                have HB7 := Lib.hid (HB6.out.trans (hb7.mono HB6.out.size)); have HO7 := Lib.hid (ho7.mono HB6.out.size)
                clear hb7 ho7
                go_wp2_with fail
                refine (of_any _ j cl' _ cg' L' (fm y) i _ (HRr'.out.below staysE HB7.out) (HQr'.out.below staysT HB7.out) HD'.out z4 hj).mono ?_
                rintro e w8 ⟨hb8, a8, m8, c8, rfl, ho8⟩
                have HB8 := Lib.hid (HB7.out.trans (hb8.mono HB7.out.size)); have HO8 := Lib.hid (ho8.mono HB7.out.size); have HO78 := Lib.hid (HO7.out.below hb8)
                clear hb8 ho8
                go_wp2
                go_ret3
                refine ⟨HB2.out.trans ((HB.out.trans (HB8.out.mono hsb)).mono hs2), some i, a7, m7, c7, a8, m8, c8, HCL.out, rfl, ?_, ?_⟩
                · exact HO78.out.mono (by omega)
                · exact HO8.out.mono (by omega)
            · have d : (yl == yl') = false := by rw [beq_eq_false_iff_ne]; exact htt
              rw [d]
              have hcl : ClE x y none := ⟨j, 0, j, 0, HEN.out, HEN'.out, .inr ⟨rfl, rfl, rfl, .inr ⟨i, z4, by rw [HT.out, HT'.out]; exact htt, fun q h1 h2 => HS.out q h1 h2⟩⟩⟩
              have HCL := Lib.hid hcl
              clear hcl htt d e0 e1
              go_wp2
              go_ret3
              exact two_none _ (HB2.out.trans (below_drewN (HB.out.mono HB2.out.size) _)) HCL.out
          · obtain rfl : k = 0 := by omega
            have hcl : ClE x y none := ⟨j, 0, j, 0, HEN.out, HEN'.out, .inr ⟨rfl, rfl, rfl, .inl (fun q h2 => HS.out q (Nat.zero_le _) h2)⟩⟩
            have HCL := Lib.hid hcl
            clear hcl
            go_wp2
            go_ret3
            exact two_none _ (HB2.out.trans (HB.out.mono HB2.out.size)) HCL.out
      · have dn : ((j : Int) != (j' : Int)) = true := by rw [bne_iff_ne]; omega
        have hcl : ClE x y none := ⟨j, 0, j', 0, HEN.out, HEN'.out, .inl ⟨.inr (.inr hjj), rfl⟩⟩
        have HCL := Lib.hid hcl
        clear hcl hjj
        go_wp2
        go_ret3
        exact two_none _ HB2.out HCL.out
    · have d : (E' != 0) = true := by rw [bne_iff_ne]; exact hE'
      have hcl : ClE x y none := ⟨j, E, j', E', HEN.out, HEN'.out, .inl ⟨.inr (.inl hE'), rfl⟩⟩
      have HCL := Lib.hid hcl
      subst hE
      clear hcl hE'
      go_wp2
      go_ret3
      exact two_none _ HB2.out HCL.out
  · have d : (E != 0) = true := by rw [bne_iff_ne]; exact hE
    have hcl : ClE x y none := ⟨j, E, j', E', HEN.out, HEN'.out, .inl ⟨.inl hE, rfl⟩⟩
    have HCL := Lib.hid hcl
    clear hcl hE
    go_wp2
    go_ret3
    exact two_none _ HB2.out HCL.out

end Go.Proofs.Ytejhncdempfmjaa.ch
