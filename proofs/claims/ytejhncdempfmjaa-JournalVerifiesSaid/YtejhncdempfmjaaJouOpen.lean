/-
  Layer 49: the program's Open.
-/
import Derived.Test.YtejhncdempfmjaaJouApp
namespace Go.Proofs.Ytejhncdempfmjaa.jo
open Go.ChangeShapes Go.WideShapes Go.ChangeAt Go.RowKit
open bs en ch
open Go.Proofs.Ytejhncdempfmjaa.sh (tagB ptag_any rtag_any)
open Go.Proofs.Ytejhncdempfmjaa.dv (Dev clampN kept apE APd)
set_option linter.unusedVariables false

/-- What Open leaves: a journal on the device, cut behind the right frames. -/
def JOPost (base dd room s : Nat) (ra : Option Nat) (key b : List Int) (w : World) (e : Ending) (w' : World) : Prop :=
  ∃ (jb cnt : Nat) (E : Int), EntE key b cnt E ∧ e = .returned (.pointer (some ⟨jb, 0, none⟩)) ∧ w.heap.size ≤ jb ∧ Tn w w' (fun i => i = dd) ∧ Jou w' base jb dd room (min s (atF b cnt)) ra key (b.take (atF b cnt)) cnt

/-- In the loop, behind j frames. -/
structure OI (w W : World) (jb dd : Nat) (a2 : Option Addr) (n0 c2 : Nat) (a4 : Option Addr) (n4 c4 : Nat) (key b : List Int) (j : Nat) (ta : Option Addr) (tc : Nat) : Prop where
  below : Below w.heap.size w W
  blk : Blk W jb (jCells j (atF b j) ta tc a2 n0 c2 dd) 108
  tag : OwnB W w.heap.size 5 ta 32 tc (ahd (fm b) j)
  kown : OwnB W w.heap.size 5 a2 n0 c2 key
  up : Up b j
  good : ∀ i, i < j → ch.Good key (fm b) i
  ge : w.heap.size ≤ jb
  buf : OwnB W w.heap.size 5 a4 n4 c4 b
theorem OI.far {w W W' : World} {jb dd : Nat} {a2 : Option Addr} {n0 c2 : Nat} {a4 : Option Addr} {n4 c4 : Nat} {key b : List Int} {j : Nat} {ta : Option Addr} {tc : Nat} (h : OI w W jb dd a2 n0 c2 a4 n4 c4 key b j ta tc) (hb : Below W.heap.size W W') : OI w W' jb dd a2 n0 c2 a4 n4 c4 key b j ta tc :=
  ⟨h.below.trans (hb.mono h.below.size), h.blk.below hb, h.tag.below hb, h.kown.below hb, h.up, h.good, h.ge, h.buf.below hb⟩
theorem clamp_mid (k n : Nat) (h : k ≤ n) : clampN (k : Int) n = k := by
  rcases dv.clamp_ways (k : Int) n with ⟨h1, _⟩ | ⟨q, h1, h2, h3⟩ | ⟨q, h1, h2, h3⟩
  · omega
  · rw [h3]; omega
  · omega
theorem OI.done {w W W' : World} {base jb dd room s : Nat} {a : Option Addr} {n c : Nat} {a2 : Option Addr} {n0 c2 : Nat} {a4 : Option Addr} {n4 c4 : Nat} {key b : List Int} {j : Nat} {ta : Option Addr} {tc : Nat} {E : Int} (h : OI w W jb dd a2 n0 c2 a4 n4 c4 key b j ta tc) (hd : Dev w base dd room s a n c b) (hbase : base ≤ w.heap.size) (he : EntE key b j E) (hk : n0 ≤ 100000)
    (ht : Turned W W' dd none) (hd' : Dev W' base dd room (min s (clampN ((atF b j : Nat) : Int) n)) a (clampN ((atF b j : Nat) : Int) n) c (b.take (clampN ((atF b j : Nat) : Int) n))) : JOPost base dd room s (blockOf a) key b w (.returned (.pointer (some ⟨jb, 0, none⟩))) W' := by
  have hle : atF b j ≤ n := by have := at_le hd.own.all j h.up; rw [hd.own.len] at this; exact this
  rw [clamp_mid _ _ hle] at hd'
  have hT := Tn.of_turned ht
  have hlt := hd.blk.lt
  have hd0 : dd < w.heap.size := hd.blk.lt
  have hnj : ¬ (jb = dd ∨ (none : Option Nat) = some jb) := by
    rintro (h9 | h9)
    · have := h.ge; omega
    · cases h9
  have hown : ∀ {a' : Option Addr} {n' c' : Nat} {l' : List Int}, OwnB W w.heap.size 5 a' n' c' l' → OwnB W' w.heap.size 5 a' n' c' l' := fun ho => hT.own ho (fun i hi hp => by
    have := (ho.blockLt hi).1
    rcases hp with hp | hp
    · omega
    · cases hp)
  have hra : ∀ g, blockOf a = some g → g < w.heap.size := fun g hg => (hd.own.blockLt hg).2
  obtain ⟨q1, _, q3⟩ := cut_right hd.own.all he
  have hlen : (b.take (atF b j)).length = atF b j := by rw [List.length_take, hd.own.len, Nat.min_eq_left hle]
  refine ⟨jb, j, E, he, rfl, h.ge, (Tn.of_below h.below (fun _ => False)).trans hT (fun _ h => h.elim) (fun i _ hp => ?_), ⟨⟨a, c, ta, tc, a2, n0, c2, rfl, ?_, ?_, ?_, (hown h.kown).mono hbase, hk, ?_, ?_⟩, q1, Nat.le_trans hbase h.ge⟩⟩
  · rcases hp with hp | hp
    · exact hp
    · cases hp
  · rw [hlen]; exact hT.blk h.blk hnj
  · rw [hlen]; exact hd'
  · rw [q3]; exact (hown h.tag).mono hbase
  · intro g hg h9
    have h1 := hra g hg
    have h2 := ((hown h.tag).blockLt h9).1
    omega
  · intro g hg h9
    have h1 := hra g hg
    have h2 := ((hown h.kown).blockLt h9).1
    omega
/-- The next frame. -/
theorem OI.next {w W : World} {jb dd : Nat} {a2 : Option Addr} {n0 c2 : Nat} {a4 : Option Addr} {n4 c4 : Nat} {key b : List Int} {j : Nat} {ta : Option Addr} {tc : Nat} (h : OI w W jb dd a2 n0 c2 a4 n4 c4 key b j ta tc) {tb : Option Addr} {tcb : Nat} {t : List Int} (h1 : atF b j < b.length) (h2 : rdE b (atF b j) = 0) (h3 : ch.Good key (fm b) j)
    (ht : OwnB W w.heap.size 5 tb 32 tcb t) (hte : t = (fm b j).t) : OI w (jset W jb (.int .i64 ((j + 1 : Nat) : Int)) (.int .i64 ((atF b (j + 1) : Nat) : Int)) (.slice tb 32 tcb)) jb dd a2 n0 c2 a4 n4 c4 key b (j + 1) tb tcb := by
  have hn := jset_tn W jb (.int .i64 ((j + 1 : Nat) : Int)) (.int .i64 ((atF b (j + 1) : Nat) : Int)) (.slice tb 32 tcb)
  have hown : ∀ {a' : Option Addr} {n' c' : Nat} {l' : List Int}, OwnB W w.heap.size 5 a' n' c' l' → OwnB (jset W jb (.int .i64 ((j + 1 : Nat) : Int)) (.int .i64 ((atF b (j + 1) : Nat) : Int)) (.slice tb 32 tcb)) w.heap.size 5 a' n' c' l' := fun ho => hn.own ho (fun i hi hp => ho.notBlk h.blk (by decide) (by rw [hi, hp]))
  refine ⟨?_, ?_, ?_, hown h.kown, h.up.succ h1 h2, fun i hi => ?_, h.ge, hown h.buf⟩
  · exact ((h.below.setCell (by exact h.ge) _).setCell (by exact h.ge) _).setCell (by exact h.ge) _
  · exact jset_blk h.blk _ _ _
  · rw [show ahd (fm b) (j + 1) = (fm b j).t from rfl, ← hte]
    exact hown ht
  · rcases Nat.lt_or_ge i j with h4 | h4
    · exact h.good i h4
    · obtain rfl : i = j := by omega
      exact h3

set_option maxRecDepth 100000 in
set_option maxHeartbeats 4000000 in
theorem open_any {w : World} {base dd room s : Nat} {a : Option Addr} {n c : Nat} {b : List Int} (h : Dev w base dd room s a n c b) (hbase : base ≤ w.heap.size) (a0 : Option Addr) (n0 c0 : Nat) (key : List Int) (h0 : Bytes w a0 n0 c0 key) (hk : n0 ≤ 100000) :
    Calls Try.prog 33 #[.slice a0 n0 c0, .pointer (some ⟨dd, 0, none⟩)] w (JOPost base dd room s (blockOf a) key b w) := by
  have hfit := h.fit; have hmost := h.most; have hle := h.le
  have HD := Lib.hid h; have H0 := Lib.hid h0; have HA := Lib.hid h.own.all; have HBL := Lib.hid h.own.len
  clear h h0
  go_enter Try.func33, Try.ntmps33
  go_wp2_with fail
  refine (first_any _).mono ?_
  rintro e w1 ⟨a1, c1, rfl, ho1, hb1⟩
  have HO1 := Lib.hid ho1; have HB1 := Lib.hid hb1
  clear ho1 hb1
  go_wp2_with fail
  refine (clone_any a0 n0 c0 key _ (H0.out.below HB1.out) (by omega)).mono ?_
  rintro e w2 ⟨a2, c2, rfl, ho2, hb2⟩
  have HO12 := Lib.hid (HO1.out.below hb2); have HB2 := Lib.hid (HB1.out.trans (hb2.mono HB1.out.size)); have HO2 := Lib.hid (ho2.mono HB1.out.size)
  have hs2 := HB2.out.size
  clear ho2 hb2
  have hjb : Blk (w2.alloc (.cells (jCells 0 0 a1 c1 a2 n0 c2 dd) 108)) w2.heap.size (jCells 0 0 a1 c1 a2 n0 c2 dd) 108 := Blk.new w2 _ _
  have hW3 : Below w2.heap.size w2 (w2.alloc (.cells (jCells 0 0 a1 c1 a2 n0 c2 dd) 108)) := (Below.refl _ _).alloc (Nat.le_refl _) _
  unfold jCells at hjb hW3
  have hBw : Below w.heap.size w (w2.alloc (.cells #[.int .i64 ((0 : Nat) : Int), .int .i64 ((0 : Nat) : Int), .slice a1 32 c1, .slice a2 n0 c2, .pointer (some ⟨dd, 0, none⟩)] 108)) := HB2.out.alloc hs2 _
  have HBw := Lib.hid hBw; have HJB := Lib.hid hjb; have HW3 := Lib.hid hW3
  have HD3 := Lib.hid ((HD.out.far HB2.out).far hW3)
  clear hjb hW3 hBw
  go_wp2_with fail
  refine (dv.bytes_any HD3.out).mono ?_
  rintro e w4 ⟨a4, c4, rfl, ho4, hb4⟩
  have hoi : OI w w4 w2.heap.size dd a2 n0 c2 a4 n c4 key b 0 a1 c1 :=
    ⟨HBw.out.trans (hb4.mono HBw.out.size), HJB.out.below hb4, (HO12.out.below HW3.out).below hb4, (HO2.out.below HW3.out).below hb4, Up.zero b, fun i hi => absurd hi (Nat.not_lt_zero i), hs2, ho4.mono HBw.out.size⟩
  have HOI4 := Lib.hid hoi
  have hcap4 := ho4.bytes.cap; have hmost4 := ho4.bytes.most
  clear ho4 hb4 HD3 HO12 HO2 HO1 HB1 HB2 hoi HJB HW3 HBw
  obtain ⟨jb, hjb⟩ : ∃ jb, w2.heap.size = jb := ⟨_, rfl⟩
  rw [hjb] at HOI4 ⊢
  clear hjb hs2
  go_wp2
  go_loopw [8] (fun _ wr => ∃ (j : Nat) (ta : Option Addr) (tc : Nat), j ≤ n ∧ Hid (OI w wr jb dd a2 n0 c2 a4 n c4 key b j ta tc)) (fun _ wr => n - (intOf ((wr.cell? ⟨jb, 1, none⟩).getD undef)).toNat)
  case atStart => exact ⟨0, a1, c1, by omega, HOI4⟩
  case round =>
    clear HOI4
    obtain ⟨j, ta, tc, hj, HOI⟩ := hrel
    have hle := at_le HA.out j HOI.out.up
    have hge := at_ge (l := b) j
    rw [HBL.out] at hle
    obtain ⟨p, hp⟩ : ∃ p, atF b j = p := ⟨_, rfl⟩
    have f0 : wr.cell? ⟨jb, 0, none⟩ = some (.int .i64 j) := HOI.out.blk.cell 0
    have f1 : wr.cell? ⟨jb, 1, none⟩ = some (.int .i64 (p : Nat)) := by rw [← hp]; exact HOI.out.blk.cell 1
    rw [hp] at hle hge
    have HP := Lib.hid hp
    have hjbl := HOI.out.blk.lt
    clear hp
    by_cases hlt : p < n
    · go_wp2_with fail
      refine (read_any a4 n c4 b p _ HOI.out.buf.bytes (by omega) (by omega) (by omega)).mono ?_
      rintro e w5 ⟨hb5, k, to, a5, a6, n5, c5, n6, c6, body, tag, rfl, ho5, ho6, hne, heq⟩
      have HOI5 := Lib.hid (HOI.out.far hb5)
      by_cases hE : rdE b p = 0
      · obtain ⟨q1, q2, q3, q4⟩ := heq hE
        have hok := fr_ok HA.out hE
        rw [Int.toNat_natCast] at q1 q2 q3 q4
        have ht6 : n6 = 32 := by rw [← ho6.len, q3]; exact hok.1
        subst ht6
        rw [hE]
        have hfm : fm b j = ⟨k, body, tag⟩ := by rw [fm, HP.out, frK, ← q1, ← q2, ← q3]
        have hu1 : Up b (j + 1) := HOI.out.up.succ (by rw [HP.out, HBL.out]; exact hlt) (by rw [HP.out]; exact hE)
        have hat1 : atF b (j + 1) ≤ n := by have := at_le HA.out _ hu1; rw [HBL.out] at this; exact this
        have hat2 : p + 36 ≤ atF b (j + 1) := by rw [atF, HP.out]; omega
        have hto : to = ((atF b (j + 1) : Nat) : Int) := by
          have hrd := rd_ok HA.out hE
          rw [q4, atF, HP.out]; omega
        have hk13 : 1 ≤ k ∧ k ≤ 3 := by
          have h1 := hok.2.2.2.2.1
          have h2 := hok.2.2.2.2.2.1
          rw [q1]; exact ⟨h1, h2⟩
        have hpay : payE k body.length = 0 := by
          have h1 := hok.2.2.2.1
          have h2 : (frK b p).k = k := q1.symm
          have h3 : (frK b p).b = body := q2.symm
          rw [h2, h3] at h1; exact h1
        subst hto
        have hsw := HOI.out.below.size
        have HO5 := Lib.hid (ho5.mono hsw); have HO6 := Lib.hid (ho6.mono hsw); have HFM := Lib.hid hfm; have HPAY := Lib.hid hpay; have HRD := Lib.hid hE
        obtain ⟨p', hp'⟩ : ∃ p', atF b (j + 1) = p' := ⟨_, rfl⟩
        rw [hp'] at hat1 hat2 ⊢
        have HP' := Lib.hid hp'
        clear hne heq ho5 ho6 hb5 q1 q2 q3 q4 hok hE hfm hu1 hpay hp' f0 f1
        have hW6 : Below w5.heap.size w5 (w5.alloc (.cells #[.int .i64 k, .slice a5 n5 c5] 35)) := (Below.refl _ _).alloc (Nat.le_refl _) _
        have HOI6 := Lib.hid (HOI5.out.far hW6); have HO56 := Lib.hid (HO5.out.below hW6); have HO66 := Lib.hid (HO6.out.below hW6)
        clear hW6
        go_wp2_with fail
        refine (jo.next_any jb j (atF b j) ta tc (ahd (fm b) j) a2 n0 c2 dd key k a5 n5 c5 body _ HOI6.out.blk HOI6.out.tag.bytes HOI6.out.kown.bytes HO56.out.bytes (by omega) (by omega) HPAY.out hk (by omega)).mono ?_
        rintro e w7 ⟨a7, c7, rfl, ho7, hb7⟩
        have HOI7 := Lib.hid (HOI6.out.far hb7); have HO7 := Lib.hid ho7.bytes; have HO67 := Lib.hid (HO66.out.below hb7)
        clear ho7 hb7
        go_wp2_with fail
        refine (psame_any _ _ _ tag _ _ _ _ _ HO67.out.bytes HO7.out).mono ?_
        rintro e w8 ⟨rfl, m8, rfl⟩
        have HOI8 := Lib.hid (HOI7.out.far (below_drewN (Below.refl _ _) m8)); have HO68 := Lib.hid (HO67.out.drewN m8)
        generalize w7.drewN m8 = w8 at *
        have hmgf : mg (ahd (fm b) j) ((j + 1 : Nat) : Int) k body = mgF (fm b) j := by rw [mgF, HFM.out]
        rw [hmgf]
        clear hmgf
        have g0 : w8.cell? ⟨jb, 0, none⟩ = some (.int .i64 j) := HOI8.out.blk.cell 0
        have g1 : w8.cell? ⟨jb, 1, none⟩ = some (.int .i64 (p : Nat)) := by rw [← HP.out]; exact HOI8.out.blk.cell 1
        have g2 : w8.cell? ⟨jb, 2, none⟩ = some (.slice ta 32 tc) := HOI8.out.blk.cell 2
        have k0 : w8.frozen? ⟨jb, 0, none⟩ = false := HOI8.out.blk.free 0
        have k1 : w8.frozen? ⟨jb, 1, none⟩ = false := HOI8.out.blk.free 1
        have k2 : w8.frozen? ⟨jb, 2, none⟩ = false := HOI8.out.blk.free 2
        by_cases htag : tag = tagB key (mgF (fm b) j)
        · have d : (tag == tagB key (mgF (fm b) j)) = true := by rw [beq_iff_eq]; exact htag
          rw [d]
          have hgood : ch.Good key (fm b) j := by unfold ch.Good; rw [show (fm b j).t = tag by rw [HFM.out]]; exact htag
          have hnext := HOI8.out.next (by rw [HP.out, HBL.out]; exact hlt) (by rw [HP.out]; exact HRD.out) hgood HO68.out (by rw [HFM.out])
          rw [HP'.out] at hnext
          have HNX := Lib.hid hnext
          clear htag d hgood hnext
          go_wp2
          have m1 : (jset w8 jb (.int .i64 ((j + 1 : Nat) : Int)) (.int .i64 (p' : Nat)) (.slice a6 32 c6)).cell? ⟨jb, 1, none⟩ = some (.int .i64 (p' : Nat)) := by
            have h := HNX.out.blk.cell 1
            rw [h, jCells, ← HP'.out]
            rfl
          have m0 : wr.cell? ⟨jb, 1, none⟩ = some (.int .i64 (p : Nat)) := by rw [← HP.out]; exact HOI.out.blk.cell 1
          refine ⟨⟨j + 1, a6, c6, by omega, HNX⟩, ?_⟩
          have e : ∀ u v : Option Value, u = some (.int .i64 (p' : Nat)) → v = some (.int .i64 (p : Nat)) → n - (intOf (u.getD undef)).toNat < n - (intOf (v.getD undef)).toNat := fun u v hu hv => by
            rw [hu, hv]
            simp [intOf]
            omega
          exact e _ _ m1 m0
        · have d : (tag == tagB key (mgF (fm b) j)) = false := by rw [beq_eq_false_iff_ne]; exact htag
          rw [d]
          have he : EntE key b j 29 := ⟨HOI8.out.up, HOI8.out.good, .inr (.inr ⟨by rw [HP.out, HBL.out]; exact hlt, by rw [HP.out]; exact HRD.out, by unfold ch.Good; rw [show (fm b j).t = tag by rw [HFM.out]]; exact htag, rfl⟩)⟩
          have HE := Lib.hid he
          have HD8 := Lib.hid (HD.out.far HOI8.out.below)
          clear htag d he
          go_wp2_with fail
          refine (dv.cut_any HD8.out (p : Int) (by omega) (by omega)).mono ?_
          rintro e w9 ⟨rfl, ht9, hd9⟩
          have hfin := HOI8.out.done HD.out hbase HE.out hk ht9 (by rw [HP.out]; exact hd9)
          have HFIN := Lib.hid hfin
          clear ht9 hd9 hfin g0 g1 g2
          go_wp2
          go_ret
          exact HFIN.out
      · have d : (rdE b p != 0) = true := by rw [bne_iff_ne]; exact hE
        have he : EntE key b j (rdE b p) := ⟨HOI5.out.up, HOI5.out.good, .inr (.inl ⟨by rw [HP.out, HBL.out]; exact hlt, by rw [HP.out], hE⟩)⟩
        have hW6 : Below w5.heap.size w5 (w5.alloc (.cells #[.int .i64 k, .slice a5 n5 c5] 35)) := (Below.refl _ _).alloc (Nat.le_refl _) _
        have HOI6 := Lib.hid (HOI5.out.far hW6)
        have HE := Lib.hid he
        have HD8 := Lib.hid (HD.out.far HOI6.out.below)
        have g1 : (w5.alloc (.cells #[.int .i64 k, .slice a5 n5 c5] 35)).cell? ⟨jb, 1, none⟩ = some (.int .i64 (p : Nat)) := by rw [← HP.out]; exact HOI6.out.blk.cell 1
        have g1' : w5.cell? ⟨jb, 1, none⟩ = some (.int .i64 (p : Nat)) := by rw [← HP.out]; exact HOI5.out.blk.cell 1
        generalize rdE b p = E at d HE hne heq hE ⊢
        clear hne heq ho5 ho6 hb5 he hE hW6 f0 f1
        go_wp2_with fail
        refine (dv.cut_any HD8.out (p : Int) (by omega) (by omega)).mono ?_
        rintro e w9 ⟨rfl, ht9, hd9⟩
        have hfin := HOI6.out.done HD.out hbase HE.out hk ht9 (by rw [HP.out]; exact hd9)
        have HFIN := Lib.hid hfin
        clear ht9 hd9 hfin g1 g1'
        go_wp2
        go_ret
        exact HFIN.out
    · have he : EntE key b j 0 := ⟨HOI.out.up, HOI.out.good, .inl ⟨by rw [HP.out, HBL.out]; omega, rfl⟩⟩
      have HE := Lib.hid he
      have HD8 := Lib.hid (HD.out.far HOI.out.below)
      clear he
      go_wp2_with fail
      refine (dv.cut_any HD8.out (p : Int) (by omega) (by omega)).mono ?_
      rintro e w9 ⟨rfl, ht9, hd9⟩
      have hfin := HOI.out.done HD.out hbase HE.out hk ht9 (by rw [HP.out]; exact hd9)
      have HFIN := Lib.hid hfin
      clear ht9 hd9 hfin f0 f1
      go_wp2
      go_ret
      exact HFIN.out

end Go.Proofs.Ytejhncdempfmjaa.jo
