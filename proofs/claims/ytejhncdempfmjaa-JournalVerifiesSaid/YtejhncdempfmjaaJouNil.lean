/-
  Layer 49: the program's Entries; no journal; the program awake; the walks of the statements on no journal, and on what a device has no room for.
-/
import Derived.Test.YtejhncdempfmjaaJouOpen
namespace Go.Proofs.Ytejhncdempfmjaa.jo
open Go.ChangeShapes Go.WideShapes Go.ChangeAt Go.RowKit
open bs en ch
open Go.Proofs.Ytejhncdempfmjaa.sh (tagB ptag_any rtag_any)
open Go.Proofs.Ytejhncdempfmjaa.dv (Dev clampN kept apE APd DPost)
set_option linter.unusedVariables false

def JEPost (l : List Int) (cnt : Nat) (w : World) (e : Ending) (w' : World) : Prop :=
  Below w.heap.size w w' ∧ ∃ (L : List Fw) (al : Option Addr) (cl : Nat), e = .returned (.slice al cnt cl) ∧ OwnS 2 eCells w' w.heap.size 35 al cnt cl L ∧ (∀ x ∈ L, FwOwn w' w.heap.size x) ∧ ch.Told L (fm l)

set_option maxRecDepth 100000 in
set_option maxHeartbeats 2000000 in
theorem jentries_any {w : World} {base jb dd room s : Nat} {ra : Option Nat} {key l : List Int} {cnt : Nat} (h : Jou w base jb dd room s ra key l cnt) : Calls Try.prog 48 #[.pointer (some ⟨jb, 0, none⟩)] w (JEPost l cnt w) := by
  have hf := h.fit
  have HJ := Lib.hid h
  obtain ⟨⟨a, c, ta, tc, ka, kn, kc, h1, h2, h3, h4, h5, h6, h7, h8⟩, hr, hg⟩ := h
  have hKeep : ∀ V : World, Below w.heap.size w V → V.cell? ⟨jb, 3, none⟩ = some (.slice ka kn kc) := fun V hV => (h2.below hV).cell 3
  have Keep := Lib.hid hKeep; have H5 := Lib.hid h5.bytes; have HR := Lib.hid hr
  have e3 := hKeep w (Below.refl _ _)
  clear h1 h2 h3 h4 h5 h7 h8 hr hg hKeep
  go_enter Try.func48, Try.ntmps48
  go_wp2_with fail
  go_region_held3 (fun V => V.cell? ⟨jb, 3, none⟩ = some (.slice ka kn kc))
    (first | exact Keep.out _ (Below.refl _ _) | exact Keep.out _ (Below.drew (Below.refl _ _)) | exact Keep.out _ hS2 | exact Keep.out _ hS1)
    (first
      | (go_at_call 41; refine (log_any (HJ.out.below (Below.drew (Below.refl _ _)))).mono ?_; rintro e w1 ⟨a1, c1, rfl, ho1, hb1⟩; have hS1 : Below w.heap.size w w1 := (Below.drew (Below.refl _ _)).trans hb1; have HO1 := Lib.hid ho1; clear ho1 hb1)
      | (go_at_call 21; refine (entries_any ka kn kc key a1 l.length c1 l _ (H5.out.below hS1) (OwnB.bytes (Hid.out HO1)) h6 (by omega)).mono ?_; rintro e w2 ⟨hb2, m, E, L, al, cl, ax, nx, cx, t, hE, rfl, hL, hO, hD, hT, hz, hnz⟩; have hS2 : Below w.heap.size w w2 := hS1.trans (hb2.mono hS1.size); have HE := Lib.hid hE; have HL := Lib.hid hL; have HO := Lib.hid hO; have HD := Lib.hid hD; have HZ := Lib.hid hz; have HSB := Lib.hid hS1.size; clear hb2 hE hL hO hD hT hz hnz))
  obtain ⟨rfl, rfl⟩ := HR.out.uniq HE.out
  obtain ⟨hm, _⟩ := HZ.out rfl
  subst hm
  have HS := Lib.hid hS2
  clear hS1 hS2 e3 HO1
  go_wp2
  go_ret
  exact ⟨HS.out, L, al, cl, rfl, HL.out.mono HSB.out, fun x hx => ⟨(HO.out x hx).body.mono HSB.out, (HO.out x hx).tag.mono HSB.out, (HO.out x hx).k0, (HO.out x hx).k1⟩, HD.out⟩

theorem count_nil (w : World) : Calls Try.prog 42 #[.pointer none] w fun e w' => e = .returned (.int .i64 0) ∧ w = w' := by
  go_enter Try.func42, Try.ntmps42
  go_wp2
  go_ret
  exact ⟨rfl, rfl⟩
theorem log_nil (w : World) : Calls Try.prog 41 #[.pointer none] w fun e w' => e = .returned (.slice none 0 0) ∧ w = w' := by
  go_enter Try.func41, Try.ntmps41
  go_wp2
  go_ret
  exact ⟨rfl, rfl⟩
theorem entries_nil (w : World) : Calls Try.prog 48 #[.pointer none] w fun e w' => e = .returned (.slice none 0 0) ∧ w = w' := by
  go_enter Try.func48, Try.ntmps48
  go_wp2
  go_ret
  exact ⟨rfl, rfl⟩
theorem sync_nil (w : World) : Calls Try.prog 46 #[.pointer none] w fun e w' => e = .returned (.tuple #[]) ∧ w = w' := by
  go_enter Try.func46, Try.ntmps46
  go_wp2
  go_end0
  exact ⟨rfl, rfl⟩
theorem tag_nil (w : World) : Calls Try.prog 43 #[.pointer none] w (APost w w.heap.size 32 zt) := by
  go_enter Try.func43, Try.ntmps43
  go_wp2_with fail
  refine (first_any _).mono ?_
  rintro e w1 ⟨a1, c1, rfl, ho1, hb1⟩
  have HO := Lib.hid ho1; have HB := Lib.hid hb1; clear ho1 hb1
  go_wp2
  go_ret
  exact ⟨a1, c1, rfl, HO.out, HB.out⟩
theorem append_nil (k : Int) (xa : Option Addr) (xn xc : Nat) (w : World) : Calls Try.prog 45 #[.pointer none, .agg #[.int .i64 k, .slice xa xn xc]] w fun e w' => e = .returned (.int .i64 14) ∧ Below w.heap.size w w' := by
  go_enter Try.func45, Try.ntmps45
  go_wp2
  go_ret
  exact ⟨rfl, (Below.refl _ _).alloc (Nat.le_refl _) _⟩

set_option maxRecDepth 100000 in
set_option maxHeartbeats 2000000 in
theorem awake_any (w : World) : Calls Try.prog 31 #[] w fun e w' => e = .returned (.bool true) ∧ Below w.heap.size w w' := by
  go_enter Try.func31, Try.ntmps31
  go_wp2_with fail
  refine (dv.new_any 100 _ (by omega) (by omega)).mono ?_
  rintro e w1 ⟨rfl, hd, hb1⟩
  have hc : clampN 100 65536 = 100 := by decide
  rw [hc] at hd
  have HD := Lib.hid hd; have HB1 := Lib.hid hb1
  clear hd hb1 hc
  go_wp2_with fail
  refine (open_any HD.out HB1.out.size none 0 0 [] (byt_nil _) (by omega)).mono ?_
  rintro e w2 ⟨jb, cnt, E, he, rfl, hge, ht, hj⟩
  obtain ⟨rfl, rfl⟩ := he.uniq (ente_nil [])
  have hB2 : Below w.heap.size w w2 := HB1.out.trans (ht.below HB1.out.size (fun i hi => by rw [hi]; exact Nat.le_refl _))
  have HJ := Lib.hid hj; have HB2 := Lib.hid hB2
  clear he hge ht hj hB2
  go_wp2_with fail
  refine (append_any HJ.out HB2.out.size 1 none 0 0 [] (byt_nil _) (by omega) (by omega)).mono ?_
  rintro e w3 ⟨rfl, ht3, hok, _⟩
  have hje : jE 100 ([].take (atF [] 0)) 1 [] = 0 := by decide
  obtain ⟨ra', hj3, _⟩ := hok hje
  rw [hje]
  have hB3 : Below w.heap.size w w3 := HB2.out.trans (ht3.below HB2.out.size (fun i hi => (HJ.out.footGe hi).1))
  have HJ3 := Lib.hid hj3; have HB3 := Lib.hid hB3
  clear ht3 hok hje hj3 hB3
  go_wp2_with fail
  refine (count_any HJ3.out).mono ?_
  rintro e w4 ⟨rfl, rfl⟩
  go_wp2_with fail
  refine (log_any HJ3.out).mono ?_
  rintro e w5 ⟨a5, c5, rfl, ho5, hb5⟩
  have hlen : ([].take (atF [] 0) ++ frB 1 [] (nxT [] ([].take (atF [] 0)) 0 1 [])).length = 37 := by
    rw [List.length_append, frB_len, nxT_len]; rfl
  rw [hlen]
  have HB5 := Lib.hid (HB3.out.trans (hb5.mono HB3.out.size))
  clear ho5 hb5 hlen
  go_wp2
  go_ret
  exact ⟨rfl, HB5.out⟩

set_option maxRecDepth 100000 in
set_option maxHeartbeats 2000000 in
theorem law_nil (k : Int) (xa : Option Addr) (xn xc : Nat) (w : World) : Calls Try.prog 11 #[.agg #[.int .i64 k, .slice xa xn xc]] w fun e w' => e = .returned (.bool true) ∧ Below w.heap.size w w' := by
  have HW1 : Hid (Below w.heap.size w (w.alloc (.cells #[.int .i64 k, .slice xa xn xc] 35))) := Lib.hid ((Below.refl _ _).alloc (Nat.le_refl _) _)
  go_enter Try.func11, Try.ntmps11
  go_wp2_with fail
  refine (sync_nil _).mono ?_
  rintro e w1 ⟨rfl, rfl⟩
  go_wp2_with fail
  refine (append_nil k xa xn xc _).mono ?_
  rintro e w2 ⟨rfl, hb2⟩
  have HB2 := Lib.hid (HW1.out.trans (hb2.mono HW1.out.size))
  clear hb2
  go_wp2_with fail
  refine (count_nil _).mono ?_
  rintro e w3 ⟨rfl, rfl⟩
  go_wp2_with fail
  refine (log_nil _).mono ?_
  rintro e w3 ⟨rfl, rfl⟩
  go_wp2_with fail
  refine (entries_nil _).mono ?_
  rintro e w3 ⟨rfl, rfl⟩
  go_wp2_with fail
  refine (tag_nil _).mono ?_
  rintro e w4 ⟨a4, c4, rfl, ho4, hb4⟩
  have HB4 := Lib.hid (HB2.out.trans (hb4.mono HB2.out.size)); have HO4 := Lib.hid ho4.bytes
  clear ho4 hb4
  go_wp2_with fail
  refine (rfirst_any _).mono ?_
  rintro e w5 ⟨a5, c5, rfl, ho5, hb5⟩
  have HB5 := Lib.hid (HB4.out.trans (hb5.mono HB4.out.size)); have HO5 := Lib.hid ho5.bytes; have HO45 := Lib.hid (HO4.out.below hb5)
  clear ho5 hb5
  go_wp2_with fail
  refine (rsame_any _ _ _ zt _ _ _ zt _ HO45.out HO5.out).mono ?_
  rintro e w6 ⟨rfl, m6, rfl⟩
  rw [beq_self_eq_true]
  have HB6 := Lib.hid (below_drewN HB5.out m6)
  go_wp2_with fail
  refine (awake_any _).mono ?_
  rintro e w7 ⟨rfl, hb7⟩
  go_wp2
  go_ret
  exact ⟨rfl, HB6.out.trans (hb7.mono HB6.out.size)⟩

end Go.Proofs.Ytejhncdempfmjaa.jo
