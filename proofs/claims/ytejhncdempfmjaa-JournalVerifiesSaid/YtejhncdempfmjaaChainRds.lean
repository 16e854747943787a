/-
  Layer 47: lists of frames that can be read; which of the first ones are right, by the document.
-/
import Derived.Test.YtejhncdempfmjaaChainPEn
namespace Go.Proofs.Ytejhncdempfmjaa.ch
open Go.ChangeShapes Go.WideShapes Go.ChangeAt Go.RowKit
open bs en
open Go.Proofs.Ytejhncdempfmjaa.sh (tagB ptag_any rtag_any)
set_option linter.unusedVariables false

structure FwRd (w : World) (x : Fw) : Prop where
  body : Bytes w x.e.a x.e.n x.e.c x.e.l
  tag : Bytes w x.a x.n x.c x.t
  k0 : -9223372036854775808 ≤ x.e.k
  k1 : x.e.k ≤ 9223372036854775807
theorem FwOwn.rd {w : World} {base : Nat} {x : Fw} (h : FwOwn w base x) : FwRd w x := ⟨h.body.bytes, h.tag.bytes, h.k0, h.k1⟩
theorem FwRd.below {w w' : World} {x : Fw} (h : FwRd w x) (hb : Below w.heap.size w w') : FwRd w' x := ⟨h.body.below hb, h.tag.below hb, h.k0, h.k1⟩
structure EntF (w : World) (b o : Nat) (x : Fw) : Prop where
  c0 : w.cell? ⟨b, o, none⟩ = some (.int .i64 x.e.k)
  c1 : w.cell? ⟨b, o + 1, none⟩ = some (.slice x.e.a x.e.n x.e.c)
  rd : FwRd w x
structure TagF (w : World) (b o : Nat) (x : Fw) : Prop where
  c0 : w.cell? ⟨b, o, none⟩ = some (.slice x.a x.n x.c)
  rd : FwRd w x
structure FraF (w : World) (b o : Nat) (x : Fw) : Prop where
  c0 : w.cell? ⟨b, o, none⟩ = some (.int .i64 x.e.k)
  c1 : w.cell? ⟨b, o + 1, none⟩ = some (.slice x.e.a x.e.n x.e.c)
  c2 : w.cell? ⟨b, o + 2, none⟩ = some (.slice x.a x.n x.c)
  rd : FwRd w x
theorem staysE : Stays EntF := fun w w' b o x h hb hbel => ⟨by rw [hbel.cell (p := ⟨b, o, none⟩) hb]; exact h.c0, by rw [hbel.cell (p := ⟨b, o + 1, none⟩) hb]; exact h.c1, h.rd.below hbel⟩
theorem staysT : Stays TagF := fun w w' b o x h hb hbel => ⟨by rw [hbel.cell (p := ⟨b, o, none⟩) hb]; exact h.c0, h.rd.below hbel⟩
theorem staysF : Stays FraF := fun w w' b o x h hb hbel => ⟨by rw [hbel.cell (p := ⟨b, o, none⟩) hb]; exact h.c0, by rw [hbel.cell (p := ⟨b, o + 1, none⟩) hb]; exact h.c1, by rw [hbel.cell (p := ⟨b, o + 2, none⟩) hb]; exact h.c2, h.rd.below hbel⟩
theorem own_ent {w : World} {base : Nat} {e : TypeId} {a : Option Addr} {n c : Nat} {L : List Fw} (h : OwnS 2 eCells w base e a n c L) (ho : ∀ x ∈ L, FwOwn w base x) : Recs 2 EntF w a n c L :=
  h.recs (by decide) (fun x => rfl) EntF (fun b o x hx hc => ⟨hc 0 _ rfl, hc 1 _ rfl, (ho x hx).rd⟩)
theorem own_tag {w : World} {base : Nat} {e : TypeId} {a : Option Addr} {n c : Nat} {L : List Fw} (h : OwnS 1 tCells w base e a n c L) (ho : ∀ x ∈ L, FwOwn w base x) : Recs 1 TagF w a n c L :=
  h.recs (by decide) (fun x => rfl) TagF (fun b o x hx hc => ⟨hc 0 _ rfl, (ho x hx).rd⟩)
theorem own_fra {w : World} {base : Nat} {e : TypeId} {a : Option Addr} {n c : Nat} {L : List Fw} (h : OwnS 3 fCells w base e a n c L) (ho : ∀ x ∈ L, FwOwn w base x) : Recs 3 FraF w a n c L :=
  h.recs (by decide) (fun x => rfl) FraF (fun b o x hx hc => ⟨hc 0 _ rfl, hc 1 _ rfl, hc 2 _ rfl, (ho x hx).rd⟩)

def RiPost (key : List Int) (f : Nat → Fm) (n : Nat) (w : World) (e : Ending) (w' : World) : Prop :=
  Below w.heap.size w w' ∧ ∃ r : Nat, r ≤ n ∧ e = .returned (.int .i64 r) ∧ (∀ i, i < r → Good key f i) ∧ (r < n → ¬ Good key f r)

set_option maxRecDepth 100000 in
set_option maxHeartbeats 2000000 in
theorem right_any (a0 : Option Addr) (n0 c0 : Nat) (key : List Int) (al : Option Addr) (cl : Nat) (at' : Option Addr) (ct n : Nat) (L : List Fw) (f : Nat → Fm) (w : World) (h0 : Bytes w a0 n0 c0 key) (hl : Recs 2 EntF w al n cl L) (ht : Recs 1 TagF w at' n ct L) (hf : Told L f) (hk : n0 ≤ 100000) (hn : n ≤ 100000) :
    Calls Try.prog 60 #[.slice a0 n0 c0, .slice al n cl, .slice at' n ct] w (RiPost key f n w) := by
  have hcap := hl.cap; have hmost := hl.most; have hlen := hl.len; have hcap' := ht.cap; have hmost' := ht.most
  have H0 := Lib.hid h0; have HL := Lib.hid hl; have HT := Lib.hid ht; have HLN := Lib.hid hlen; have HF := Lib.hid hf
  clear h0 hl ht hlen hf
  go_enter Try.func60, Try.ntmps60
  go_wp2_with fail
  refine (rfirst_any _).mono ?_
  rintro e w1 ⟨a1, c1, rfl, ho1, hb1⟩
  have HO1 := Lib.hid ho1.bytes; have HB1 := Lib.hid hb1
  clear ho1 hb1
  go_wp2
  go_loopw [7, 8] (fun ta i wr => ∃ (k : Nat) (ax : Option Addr) (nx cx : Nat), k ≤ n ∧ i = .int .i64 k ∧ ta = .slice ax nx cx ∧ Hid (Bytes wr ax nx cx (ahd f k)) ∧ Hid (Below w.heap.size w wr) ∧ Hid (∀ i, i < k → Good key f i)) (fun _ i _ => n - (intOf i).toNat)
  case atStart => exact ⟨0, a1, 32, c1, by omega, rfl, rfl, HO1, HB1, Lib.hid (fun i h => absurd h (Nat.not_lt_zero i))⟩
  case round =>
    clear HO1 HB1
    obtain ⟨k, ax, nx, cx, hk2, rfl, rfl, HX, HB, HG⟩ := hrel
    by_cases hlt : k < n
    · obtain ⟨x, hx⟩ : ∃ x, L[k]? = some x := ⟨L[k]'(by have := HLN.out; omega), List.getElem?_eq_getElem _⟩
      have hT := HF.out k x hx
      have HRL := HL.out.below staysE HB.out
      have HRT := HT.out.below staysT HB.out
      obtain ⟨b, off, rfl, hbl, hcell⟩ := HRL.at'.resolve_left (by omega)
      obtain ⟨b', off', rfl, hbl', hcell'⟩ := HRT.at'.resolve_left (by omega)
      have hc := hcell k x hx
      have hc' := hcell' k x hx
      rw [Nat.mul_one] at hc'
      obtain ⟨⟨xk, xa, xn, xc, xl⟩, ya, yn, yc, yl⟩ := x
      have HTL := Lib.hid hT
      have HRD := Lib.hid hc.rd
      have e0 := hc.c0; have e1 := hc.c1; have e2 := hc'.c0
      dsimp only at e0 e1 e2
      have hKeep : ∀ V : World, Below wr.heap.size wr V → V.cell? ⟨b, off + k * 2, none⟩ = some (.int .i64 xk) ∧ V.cell? ⟨b, off + k * 2 + 1, none⟩ = some (.slice xa xn xc) ∧ V.cell? ⟨b', off' + k, none⟩ = some (.slice ya yn yc) := fun V hV => by
        refine ⟨?_, ?_, ?_⟩
        · rw [hV.cell (p := ⟨b, off + k * 2, none⟩) hbl]; exact hc.c0
        · rw [hV.cell (p := ⟨b, off + k * 2 + 1, none⟩) hbl]; exact hc.c1
        · rw [hV.cell (p := ⟨b', off' + k, none⟩) hbl']; exact hc'.c0
      have Keep := Lib.hid hKeep
      have hs := HB.out.size
      have H0w := Lib.hid (H0.out.below HB.out)
      have z1 : IntKind.i64.wrap ((k : Int) + 1) = (k : Int) + 1 := IntWalk.i64_in _ (by omega)
      have z2 : (0 : Int) ≤ (k : Int) := by omega
      have z3 : (k : Int) < (n : Int) := by omega
      have n1 : ((k : Int) + 1) = ((k + 1 : Nat) : Int) := by omega
      have N1 := Lib.hid n1
      have q0 : (0 : Int) ≤ (k : Int) + 1 := by omega
      have q1 : (k : Int) + 1 ≤ 9223372036854775807 := by omega
      have hmm : mg (ahd f k) ((k : Int) + 1) xk xl = mgF f k := by rw [mgF, ← hT.k, ← hT.b, n1]
      have HMM := Lib.hid hmm
      clear hT hcell hcell' hc hc' hx hKeep HRL HRT n1 hmm
      go_wp2_with fail
      go_region_held3 (fun V => V.cell? ⟨b, off + k * 2, none⟩ = some (.int .i64 xk) ∧ V.cell? ⟨b, off + k * 2 + 1, none⟩ = some (.slice xa xn xc) ∧ V.cell? ⟨b', off' + k, none⟩ = some (.slice ya yn yc))
        (first | exact Keep.out _ (Below.refl _ _) | exact Keep.out _ (Below.drew (Below.refl _ _)) | exact Keep.out _ hS3 | exact Keep.out _ (below_drewN hS3 _))
        (first
          | (go_at_call 51; refine (next_any a0 n0 c0 key ax nx cx (ahd f k) ((k : Int) + 1) xk xa xn xc xl _ (H0w.out.below (Below.drew (Below.refl _ _))) (HX.out.below (Below.drew (Below.refl _ _))) (HRD.out.below (Below.drew (Below.refl _ _))).body HRD.out.k0 HRD.out.k1 q0 q1 hk).mono ?_; rintro e w3 ⟨a3, c3, rfl, ho3, hb3⟩; have hS3 : Below wr.heap.size wr w3 := (Below.drew (Below.refl _ _)).trans hb3; have HO3 := Lib.hid ho3; clear ho3 hb3)
          | (go_at_call 16; refine (rsame_any _ _ _ (tagB key (mg (ahd f k) ((k : Int) + 1) xk xl)) _ _ _ yl _ (OwnB.bytes (Hid.out HO3)) ((HRD.out.below hS3).tag)).mono ?_; rintro e w4 ⟨rfl, m4, rfl⟩))
      have hB4 : Below wr.heap.size wr (w3.drewN m4) := below_drewN hS3 m4
      clear hS3 HO3 z1 e0 e1 e2 q0 q1
      generalize w3.drewN m4 = w4 at *
      have HB4 := Lib.hid hB4
      have HBW4 := Lib.hid (HB.out.trans (hB4.mono hs))
      have e2 := (Keep.out w4 HB4.out).2.2
      clear hB4
      by_cases htag : tagB key (mg (ahd f k) ((k : Int) + 1) xk xl) = yl
      · have hgood : Good key f k := by unfold Good; rw [← HMM.out, htag]; exact HTL.out.t.symm
        have HGD := Lib.hid hgood
        rw [htag, beq_self_eq_true]
        clear htag hgood
        go_wp2
        go_roundw
        case rel =>
          refine ⟨k + 1, ya, yn, yc, by omega, by go_num, rfl, ?_, HBW4, ?_⟩
          · refine Lib.hid ?_
            have := HTL.out.t
            rw [show ahd f (k + 1) = (f k).t from rfl, ← this]
            exact (HRD.out.below HB4.out).tag
          · refine Lib.hid (fun i hi => ?_)
            rcases Nat.lt_or_ge i k with h7 | h7
            · exact HG.out i h7
            · obtain rfl : i = k := by omega
              exact HGD.out
        case measure => simp [intOf]; omega
      · have d : (tagB key (mg (ahd f k) ((k : Int) + 1) xk xl) == yl) = false := by rw [beq_eq_false_iff_ne]; exact htag
        have hgood : ¬ Good key f k := by unfold Good; rw [← HMM.out, ← HTL.out.t]; exact fun h => htag h.symm
        have HGD := Lib.hid hgood
        rw [d]
        clear htag hgood d e2
        go_wp2
        go_ret
        exact ⟨HBW4.out, k, by omega, rfl, HG.out, fun _ => HGD.out⟩
    · obtain rfl : k = n := by omega
      go_wp2
      go_ret
      exact ⟨HB.out, k, Nat.le_refl _, rfl, HG.out, fun h => absurd h (Nat.lt_irrefl _)⟩

end Go.Proofs.Ytejhncdempfmjaa.ch
