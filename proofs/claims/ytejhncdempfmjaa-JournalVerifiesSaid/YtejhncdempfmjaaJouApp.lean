/-
  Layer 49: the program's Append.
-/
import Derived.Test.YtejhncdempfmjaaJouNext
namespace Go.Proofs.Ytejhncdempfmjaa.jo
open Go.ChangeShapes Go.WideShapes Go.ChangeAt Go.RowKit
open bs en ch
open Go.Proofs.Ytejhncdempfmjaa.sh (tagB ptag_any rtag_any)
open Go.Proofs.Ytejhncdempfmjaa.dv (Dev clampN kept apE APd)
set_option linter.unusedVariables false

/-- What an entry more answers. -/
def jE (room : Nat) (l : List Int) (k : Int) (b : List Int) : Int := if payE k b.length = 0 then apE room l.length (b.length + 37) else payE k b.length
theorem Jou.ne {w : World} {jb dd : Nat} {cs cs' : Array Value} (h : Blk w jb cs 108) (h' : Blk w dd cs' 104) : jb ≠ dd := fun e => by
  rw [e, Blk, h'] at h
  simp only [Option.some.injEq, Obj.cells.injEq] at h
  exact absurd h.2.1 (by decide)
/-- The three cells of an end. -/
def jset (W : World) (jb : Nat) (v0 v1 v2 : Value) : World := ((W.setCell ⟨jb, 0, none⟩ v0).setCell ⟨jb, 1, none⟩ v1).setCell ⟨jb, 2, none⟩ v2
theorem jset_tn (W : World) (jb : Nat) (v0 v1 v2 : Value) : Tn W (jset W jb v0 v1 v2) (fun i => i = jb) :=
  ((Tn.setCell W jb 0 v0).trans (Tn.setCell _ jb 1 v1) (fun _ h => h) (fun _ _ h => h)).trans (Tn.setCell _ jb 2 v2) (fun _ h => h) (fun _ _ h => h)
theorem jset_blk {W : World} {jb : Nat} {c0 c1 c2 d e : Value} {t : TypeId} (h : Blk W jb #[c0, c1, c2, d, e] t) (v0 v1 v2 : Value) : Blk (jset W jb v0 v1 v2) jb #[v0, v1, v2, d, e] t := by
  have := ((h.set 0 v0).set 1 v1).set 2 v2
  unfold jset
  simpa using this
/-- A journal behind its end's three cells are written. -/
structure Jend (W : World) (base jb dd room s cnt n : Nat) (a : Option Addr) (c : Nat) (ta : Option Addr) (tc : Nat) (ka : Option Addr) (kn kc : Nat) (t key l : List Int) : Prop where
  blk : Blk W jb (jCells cnt n ta tc ka kn kc dd) 108
  dev : Dev W base dd room s a n c l
  tag : OwnB W base 5 ta 32 tc t
  key : OwnB W base 5 ka kn kc key
theorem jset_done {W : World} {base jb dd room s cnt n : Nat} {a : Option Addr} {c : Nat} {ta : Option Addr} {tc : Nat} {ka : Option Addr} {kn kc : Nat} {t key l : List Int} {tb : Option Addr} {tcb : Nat} {n' : Nat}
    (hB : Blk W jb (jCells cnt n ta tc ka kn kc dd) 108) (hD : Dev W base dd room s a n' c l) (hT : OwnB W base 5 tb 32 tcb t) (hK : OwnB W base 5 ka kn kc key) (cnt' m : Nat) (hm : n' = m) :
    Jend (jset W jb (.int .i64 cnt') (.int .i64 m) (.slice tb 32 tcb)) base jb dd room s cnt' m a c tb tcb ka kn kc t key l ∧ Tn W (jset W jb (.int .i64 cnt') (.int .i64 m) (.slice tb 32 tcb)) (fun i => i = jb) := by
  subst hm
  have hn := jset_tn W jb (.int .i64 cnt') (.int .i64 n') (.slice tb 32 tcb)
  have hne : jb ≠ dd := Jou.ne hB hD.blk
  refine ⟨⟨?_, hn.dev hD (fun e => hne e.symm) (fun i hi e => hD.own.notBlk hB (by decide) (by rw [hi, e])), hn.own hT (fun i hi e => hT.notBlk hB (by decide) (by rw [hi, e])), hn.own hK (fun i hi e => hK.notBlk hB (by decide) (by rw [hi, e]))⟩, hn⟩
  have := ((hB.set 0 (.int .i64 cnt')).set 1 (.int .i64 n')).set 2 (.slice tb 32 tcb)
  unfold jset
  simpa [jCells] using this
/-- What an append leaves. -/
structure JAPost (base jb dd room s : Nat) (ra : Option Nat) (key l : List Int) (cnt : Nat) (k : Int) (b : List Int) (w : World) (e : Ending) (w' : World) : Prop where
  ret : e = .returned (.int .i64 (jE room l k b))
  tn : Tn w w' (foot jb dd ra)
  ok : jE room l k b = 0 → ∃ ra', Jou w' base jb dd room s ra' key (l ++ frB k b (nxT key l cnt k b)) (cnt + 1) ∧ (ra' = ra ∨ ∃ g, ra' = some g ∧ w.heap.size ≤ g)
  no : jE room l k b ≠ 0 → ∃ ra', Jou w' base jb dd room s ra' key l cnt ∧ (ra' = ra ∨ ∃ g, ra' = some g ∧ w.heap.size ≤ g)

set_option maxRecDepth 100000 in
set_option maxHeartbeats 4000000 in
theorem append_any {w : World} {base jb dd room s : Nat} {ra : Option Nat} {key l : List Int} {cnt : Nat} (h : Jou w base jb dd room s ra key l cnt) (hbase : base ≤ w.heap.size) (k : Int) (xa : Option Addr) (xn xc : Nat) (xl : List Int) (hx : Bytes w xa xn xc xl) (k0 : -9223372036854775808 ≤ k) (k1 : k ≤ 9223372036854775807) :
    Calls Try.prog 45 #[.pointer (some ⟨jb, 0, none⟩), .agg #[.int .i64 k, .slice xa xn xc]] w (JAPost base jb dd room s ra key l cnt k xl w) := by
  have hf := h.fit
  have hcap := hx.cap; have hmost := hx.most
  have hall := h.all
  have HJ := Lib.hid h; have HX := Lib.hid hx; have HXL := Lib.hid hx.len; have HALL := Lib.hid hall
  clear h hx hall
  have hW1 : Below w.heap.size w (w.alloc (.cells #[.int .i64 k, .slice xa xn xc] 35)) := (Below.refl _ _).alloc (Nat.le_refl _) _
  have HW1 := Lib.hid hW1
  clear hW1
  go_enter Try.func45, Try.ntmps45
  go_wp2_with fail
  refine (payload_any k xa xn xc xl _ (HX.out.below HW1.out) k0 k1).mono ?_
  rintro e w2 ⟨hb2, a2, m2, c2, r2, rfl, ho2, hr2⟩
  rw [← HXL.out]
  have HB2 := Lib.hid (HW1.out.trans (hb2.mono HW1.out.size))
  have hlt : w.heap.size < w2.heap.size := by
    have := hb2.size
    rw [World.size_alloc] at this
    omega
  have hbx : ∀ V : World, Below w2.heap.size w2 V → V.cell? ⟨w.heap.size, 0, none⟩ = some (.int .i64 k) ∧ V.cell? ⟨w.heap.size, 1, none⟩ = some (.slice xa xn xc) := fun V hV => by
    refine ⟨?_, ?_⟩
    · rw [hV.cell (p := ⟨w.heap.size, 0, none⟩) hlt, hb2.cell (p := ⟨w.heap.size, 0, none⟩) (by simp)]; simp
    · rw [hV.cell (p := ⟨w.heap.size, 1, none⟩) hlt, hb2.cell (p := ⟨w.heap.size, 1, none⟩) (by simp)]; simp
  have KX := Lib.hid hbx
  clear hb2 ho2 hr2 hbx
  by_cases hp : payE k xl.length = 0
  · rw [hp]
    have HP := Lib.hid hp
    obtain ⟨e0, e1⟩ := KX.out _ (Below.refl _ _)
    obtain ⟨⟨a, c, ta, tc, ka, kn, kc, h1, h2, h3, h4, h5, h6, h7, h8⟩, hr, hg⟩ := HJ.out
    have H1 := Lib.hid h1; have H2 := Lib.hid h2; have H3 := Lib.hid h3; have H4 := Lib.hid h4; have H5 := Lib.hid h5; have HR := Lib.hid hr
    clear hp h1 h2 h3 h4 h5 hr
    have H7 := Lib.hid h7; have H8 := Lib.hid h8
    clear h7 h8
    go_wp2_with fail
    refine (jo.next_any jb cnt l.length ta tc (ahd (fm l) cnt) ka kn kc dd key k xa xn xc xl _ (H2.out.below HB2.out) (H4.out.bytes.below HB2.out) (H5.out.bytes.below HB2.out) (HX.out.below HB2.out) k0 k1 HP.out h6 (by omega)).mono ?_
    rintro e w3 ⟨a3, c3, rfl, ho3, hb3⟩
    have HB3 := Lib.hid (HB2.out.trans (hb3.mono HB2.out.size))
    have ho3' : OwnB w3 w2.heap.size 5 a3 32 c3 (nxT key l cnt k xl) := ho3
    have HO3 := Lib.hid ho3'
    obtain ⟨e2, e3⟩ := KX.out _ hb3
    have hb3' : Below w2.heap.size w2 w3 := hb3
    have HBB3 := Lib.hid hb3'
    clear ho3 ho3' hb3 hb3' e0 e1
    obtain ⟨t, htt⟩ : ∃ t, nxT key l cnt k xl = t := ⟨_, rfl⟩
    have HTT := Lib.hid htt
    rw [htt] at HO3
    clear htt
    have hT32 : t.length = 32 := by rw [← HTT.out]; exact nxT_len _ _ _ _ _
    have HT32 := Lib.hid hT32
    clear hT32
    go_wp2_with fail
    refine (frame_any k xa xn xc xl a3 32 c3 t _ (HX.out.below HB3.out) HO3.out.bytes k0 k1).mono ?_
    rintro e w4 ⟨hb4, a4, m4, c4, r4, rfl, ho4, hr4⟩
    have hfe : frE k xl.length t.length = 0 := by unfold frE; rw [if_pos HP.out, if_pos HT32.out]
    rw [hfe, if_pos rfl] at hr4
    rw [hfe]
    have hm4 : m4 = xl.length + 37 := by rw [← ho4.len, hr4, frB_len, HT32.out]; omega
    subst hm4
    have hx1 : xl.length ≤ 1024 := (pay_fit (t := zt) HP.out zt_len).1
    have HB4 := Lib.hid (HB3.out.trans (hb4.mono HB3.out.size)); have HO34 := Lib.hid (HO3.out.below hb4); have HO4 := Lib.hid ho4; have HR4 := Lib.hid hr4
    have HD4 := Lib.hid (H3.out.far HB4.out)
    have f4 : w4.cell? ⟨jb, 4, none⟩ = some (.pointer (some ⟨dd, 0, none⟩)) := (H2.out.below HB4.out).cell 4
    have hs4 := HB4.out.size
    clear hb4 ho4 hr4 hfe e2 e3
    go_wp2_with fail
    refine (dv.append_any HD4.out a4 _ c4 r4 HO4.out.bytes (by omega) (by omega)).mono ?_
    rintro e w5 ⟨rfl, hT5, a5, n5, c5, hD5, hat5⟩
    have hne : jb ≠ dd := Jou.ne H2.out H3.out.blk
    have hna : blockOf a ≠ some jb := H3.out.own.notBlk H2.out (by decide)
    have hB5 : Blk w5 jb (jCells cnt l.length ta tc ka kn kc dd) 108 := (H2.out.below HB4.out).of (hT5.block jb (by have := H2.out.lt; omega) hne hna)
    have hTn5 : Tn w w5 (fun i => i = dd ∨ ra = some i) := (Tn.of_below HB4.out (fun _ => False)).trans (Tn.of_turned hT5) (fun i h => h.elim) (fun i _ h => by rw [← H1.out]; exact h)
    have hK5 : OwnB w5 base 5 ka kn kc key := by
      refine hTn5.own H5.out (fun i hi hp => ?_)
      rcases hp with hp | hp
      · exact H5.out.notBlk H3.out.blk (by decide) (by rw [hi, hp])
      · exact H8.out i hp hi
    have hra : ∀ g, ra = some g → g < w.heap.size := fun g hg9 => by rw [← H1.out] at hg9; exact (H3.out.own.blockLt hg9).2
    have hT5' : OwnB w5 base 5 a3 32 c3 t := by
      refine (Tn.of_turned hT5).own (HO34.out.mono (by have := HB2.out.size; omega)) (fun i hi hp => ?_)
      have h9 := (HO34.out.blockLt hi).1
      have h10 := HB2.out.size
      rcases hp with hp | hp
      · have := H3.out.blk.lt; omega
      · have := hra i (by rw [← H1.out]; exact hp); omega
    have ha3 : ∀ g, blockOf a3 = some g → w2.heap.size ≤ g ∧ g < w4.heap.size := fun g hg9 => HO34.out.blockLt hg9
    have hka : ∀ g, blockOf ka = some g → g < w.heap.size := fun g hg9 => (H5.out.blockLt hg9).2
    have hra5 : blockOf a5 = ra ∨ ∃ g, blockOf a5 = some g ∧ w4.heap.size ≤ g := by
      rcases hat5 with h9 | h9
      · exact .inl (h9.trans H1.out)
      · exact .inr h9
    have hTn := hTn5
    have HB5 := Lib.hid hB5; have HTn5 := Lib.hid hTn5; have HK5 := Lib.hid hK5; have HT5 := Lib.hid hT5'; have HA3 := Lib.hid ha3; have HKA := Lib.hid hka; have HRA5 := Lib.hid hra5; have HRA := Lib.hid hra; have HD5 := Lib.hid hD5
    have hs25 := HB2.out.size
    clear hB5 hTn5 hK5 hT5' ha3 hka hra5 hra hD5 hTn hat5 hT5 hna f4
    by_cases hE : apE room l.length (xl.length + 37) = 0
    · have hj : jE room l k xl = 0 := by unfold jE; rw [if_pos HP.out]; exact hE
      have HJE := Lib.hid hj
      have hd5 := HD5.out
      rw [if_pos hE] at hd5
      have hn5 : n5 = l.length + (xl.length + 37) := by rw [← hd5.own.len, List.length_append, HR4.out, frB_len, HT32.out]; omega
      subst hn5
      have HD6 := Lib.hid hd5
      rw [hE]
      have c0 : w5.cell? ⟨jb, 0, none⟩ = some (.int .i64 cnt) := HB5.out.cell 0
      have c1 : w5.cell? ⟨jb, 1, none⟩ = some (.int .i64 l.length) := HB5.out.cell 1
      have b0 : (w5.drewN 1).cell? ⟨jb, 0, none⟩ = some (.int .i64 cnt) := HB5.out.cell 0
      have b1 : (w5.drewN 1).cell? ⟨jb, 1, none⟩ = some (.int .i64 l.length) := HB5.out.cell 1
      have b2 : (w5.drewN 1).cell? ⟨jb, 2, none⟩ = some (.slice ta 32 tc) := HB5.out.cell 2
      have g0 : (w5.drewN 1).frozen? ⟨jb, 0, none⟩ = false := HB5.out.free 0
      have g1 : (w5.drewN 1).frozen? ⟨jb, 1, none⟩ = false := HB5.out.free 1
      have g2 : (w5.drewN 1).frozen? ⟨jb, 2, none⟩ = false := HB5.out.free 2
      have p0 : w5.frozen? ⟨jb, 0, none⟩ = false := g0
      have p1 : w5.frozen? ⟨jb, 1, none⟩ = false := g1
      have p2 : w5.frozen? ⟨jb, 2, none⟩ = false := g2
      have b2' : w5.cell? ⟨jb, 2, none⟩ = some (.slice ta 32 tc) := b2
      have z1 : IntKind.i64.wrap ((cnt : Int) + 1) = ((cnt + 1 : Nat) : Int) := by rw [IntWalk.i64_in _ (by omega)]; omega
      have z2 : IntKind.i64.wrap ((l.length : Int) + ((xl.length + 37 : Nat) : Int)) = ((l.length + (xl.length + 37) : Nat) : Int) := by rw [IntWalk.i64_in _ (by omega)]; omega
      have hfin := jset_done (W := w5.drewN 1) (HB5.out.drewN 1) (HD6.out.drewN 1) (HT5.out.drewN 1) (HK5.out.drewN 1) (cnt + 1) (l.length + (xl.length + 37)) rfl
      have HFIN := Lib.hid hfin
      clear hE hj hd5 hfin
      go_wp2_with fail
      go_still_tail 19, (by kernel_rfl)
      change wpList _ _ _ _ _ (w5.drewN 1)
      go_wp2_with fail
      go_ret
      have hW6 : w5.drewN 1 = w5.drewN 1 := rfl
      obtain ⟨q1, q2⟩ := HFIN.out
      have hlen : (l ++ frB k xl (nxT key l cnt k xl)).length = l.length + (xl.length + 37) := by rw [List.length_append, frB_len, nxT_len]; omega
      have hl5 : l ++ r4 = l ++ frB k xl (nxT key l cnt k xl) := by rw [HR4.out, HTT.out]
      have hah : t = ahd (fm (l ++ frB k xl (nxT key l cnt k xl))) (cnt + 1) := by rw [add_ahd HALL.out HR.out HP.out, HTT.out]
      refine ⟨by rw [HJE.out]; rfl, ?_, fun _ => ⟨blockOf a5, ⟨⟨a5, c5, a3, c3, ka, kn, kc, rfl, ?_, ?_, ?_, q1.key, h6, ?_, ?_⟩, (add_right HALL.out HR.out HP.out).1, hg⟩, ?_⟩, fun h => absurd HJE.out h⟩
      · exact (HTn5.out.trans ((Tn.drewN w5 1 (fun _ => False)).trans q2 (fun _ h => h.elim) (fun _ _ h => h)) (fun i h => h.elim (fun h => .inr (.inl h)) (fun h => .inr (.inr h))) (fun i _ h => .inl h))
      · rw [hlen]; exact q1.blk
      · rw [hlen, ← hl5]; exact q1.dev
      · rw [← hah]; exact q1.tag
      · intro g hg9 h9
        have h10 := HA3.out g h9
        rcases HRA5.out with h11 | ⟨g', h11, h12⟩
        · have := HRA.out g (by rw [← h11]; exact hg9); omega
        · rw [h11] at hg9; cases hg9; omega
      · intro g hg9 h9
        have h10 := HKA.out g h9
        rcases HRA5.out with h11 | ⟨g', h11, h12⟩
        · exact H8.out g (by rw [← h11]; exact hg9) h9
        · rw [h11] at hg9; cases hg9; omega
      · rcases HRA5.out with h11 | ⟨g', h11, h12⟩
        · exact .inl h11
        · exact .inr ⟨g', h11, by omega⟩
    · have hj : jE room l k xl ≠ 0 := by unfold jE; rw [if_pos HP.out]; exact hE
      have hj2 : jE room l k xl = apE room l.length (xl.length + 37) := by unfold jE; rw [if_pos HP.out]
      have d : (apE room l.length (xl.length + 37) != 0) = true := by rw [bne_iff_ne]; exact hE
      have hd5 := HD5.out
      rw [if_neg hE] at hd5
      have hn5 : n5 = l.length := hd5.own.len.symm
      subst hn5
      have HD6 := Lib.hid hd5; have HJE := Lib.hid hj; have HJE2 := Lib.hid hj2
      clear hE hd5 hj hj2
      go_wp2
      go_ret
      refine ⟨by rw [HJE2.out]; rfl, HTn5.out.trans (Tn.drewN w5 0 (fun _ => False)) (fun i h => h.elim (fun h => .inr (.inl h)) (fun h => .inr (.inr h))) (fun i _ h => h.elim), fun h => absurd h HJE.out, fun _ => ⟨blockOf a5, ⟨⟨a5, c5, ta, tc, ka, kn, kc, rfl, HB5.out, HD6.out, ?_, HK5.out, h6, ?_, ?_⟩, HR.out, hg⟩, ?_⟩⟩
      · refine HTn5.out.own H4.out (fun i hi hp => ?_)
        rcases hp with hp | hp
        · exact H4.out.notBlk H3.out.blk (by decide) (by rw [hi, hp])
        · exact H7.out i hp hi
      · intro g hg9 h9
        have h10 := (H4.out.blockLt h9).2
        rcases HRA5.out with h11 | ⟨g', h11, h12⟩
        · exact H7.out g (by rw [← h11]; exact hg9) h9
        · rw [h11] at hg9; cases hg9; omega
      · intro g hg9 h9
        have h10 := HKA.out g h9
        rcases HRA5.out with h11 | ⟨g', h11, h12⟩
        · exact H8.out g (by rw [← h11]; exact hg9) h9
        · rw [h11] at hg9; cases hg9; omega
      · rcases HRA5.out with h11 | ⟨g', h11, h12⟩
        · exact .inl h11
        · exact .inr ⟨g', h11, by omega⟩
  · have d : (payE k xl.length != 0) = true := by rw [bne_iff_ne]; exact hp
    have hj : jE room l k xl = payE k xl.length := by unfold jE; rw [if_neg hp]
    have HJE := Lib.hid hj; have HP := Lib.hid hp
    clear hp hj
    go_wp2
    go_ret
    exact ⟨by rw [HJE.out]; rfl, Tn.of_below HB2.out _, fun h => absurd (HJE.out.symm.trans h) HP.out, fun _ => ⟨ra, HJ.out.below HB2.out, .inl rfl⟩⟩

end Go.Proofs.Ytejhncdempfmjaa.jo
