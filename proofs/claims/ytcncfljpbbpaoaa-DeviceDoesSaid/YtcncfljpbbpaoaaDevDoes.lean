/-
  Layer 48: the statement on whatever is done to a device.
-/
import Derived.Test.YtcncfljpbbpaoaaDevNil
import Derived.Test.YtcncfljpbbpaoaaDevRefDo
import Derived.Deep.CutRange
namespace Go.Proofs.Ytcncfljpbbpaoaa.dv
open Go.ChangeShapes Go.WideShapes Go.ChangeAt Go.RowKit
open bs
set_option linter.unusedVariables false

theorem bytes_turned {w w' : World} {a n c l} (h : Bytes w a n c l) {d : Nat} {row : Option Nat} (ht : Turned w w' d row) (h1 : blockOf a ≠ some d) (h2 : ∀ g, blockOf a = some g → row ≠ some g) : Bytes w' a n c l := by
  refine ⟨h.len, h.cap, h.most, h.all, h.nil, ?_⟩
  rcases h.at' with h0 | ⟨b, off, rfl, hc⟩
  · exact .inl h0
  · refine .inr ⟨b, off, rfl, fun i hi => ?_⟩
    have hlt := World.block_lt_of_cell? w _ (hc i hi)
    rw [World.cell?_of_block (w := w) (ht.block b hlt (fun e => h1 (by rw [← e]; rfl)) (h2 b rfl))]
    exact hc i hi

/-- The program's device and the document's, alike. -/
structure DRel (w wr : World) (dd rb room s : Nat) (a : Option Addr) (n c : Nat) (a2 : Option Addr) (c2 : Nat) (l : List Int) : Prop where
  dev : Dev wr w.heap.size dd room s a n c l
  blk : Blk wr rb #[.int .i64 room, .int .i64 s, .slice a2 n c2] 64
  bytes : Bytes wr a2 n c2 l
  sep : ∀ g, blockOf a2 = some g → blockOf a ≠ some g ∧ g < wr.heap.size ∧ g ≠ dd
  below : Below w.heap.size w wr
  rge : w.heap.size ≤ rb

theorem DRel.far {w wr V : World} {dd rb room s : Nat} {a : Option Addr} {n c : Nat} {a2 : Option Addr} {c2 : Nat} {l : List Int} (h : DRel w wr dd rb room s a n c a2 c2 l) (hb : Below wr.heap.size wr V) : DRel w V dd rb room s a n c a2 c2 l :=
  ⟨h.dev.far hb, h.blk.below hb, h.bytes.below hb, fun g hg => ⟨(h.sep g hg).1, Nat.lt_of_lt_of_le (h.sep g hg).2.1 hb.size, (h.sep g hg).2.2⟩, h.below.trans (hb.mono h.below.size), h.rge⟩

/-- Behind what is done to the program's: the document's is as it was. -/
theorem DRel.done {w wr w1 : World} {dd rb room s : Nat} {a : Option Addr} {n c : Nat} {a2 : Option Addr} {c2 : Nat} {l : List Int} (h : DRel w wr dd rb room s a n c a2 c2 l) (ht : Turned wr w1 dd (blockOf a)) {a' : Option Addr} (ha : blockOf a' = blockOf a ∨ ∃ g, blockOf a' = some g ∧ wr.heap.size ≤ g) :
    Blk w1 rb #[.int .i64 room, .int .i64 s, .slice a2 n c2] 64 ∧ Bytes w1 a2 n c2 l ∧ (∀ g, blockOf a2 = some g → blockOf a' ≠ some g ∧ g < w1.heap.size ∧ g ≠ dd) ∧ Below w.heap.size w w1 := by
  have hrd : rb ≠ dd := by
    rintro rfl
    have h1 := h.blk; have h2 := h.dev.blk
    rw [Blk, h2] at h1
    simp at h1
  refine ⟨h.blk.of (ht.block rb h.blk.lt hrd (h.dev.own.notBlk h.blk (by decide))), bytes_turned h.bytes ht (fun e => (h.sep dd e).2.2 rfl) (fun g hg => (h.sep g hg).1), fun g hg => ?_, h.below.trans (ht.below h.below.size h.dev.ge (fun i hi => (h.dev.own.blockLt hi).1))⟩
  obtain ⟨s1, s2, s3⟩ := h.sep g hg
  refine ⟨fun e => ?_, Nat.lt_of_lt_of_le s2 ht.size, s3⟩
  rcases ha with h1 | ⟨g', h1, h2⟩
  · exact s1 (by rw [← h1, e])
  · rw [h1] at e
    cases e
    omega

theorem below_ad (w1 w3 : World) (o : Obj) (h : Below (w1.alloc o).drew.heap.size (w1.alloc o).drew w3) : Below w1.heap.size w1 w3 :=
  (Below.drew ((Below.refl _ _).alloc (Nat.le_refl _) o)).trans (h.mono (by show w1.heap.size ≤ (w1.alloc o).heap.size; simp))
theorem blk_ad (w1 w3 : World) (cs : Array Value) {t : TypeId} (h : Below (w1.alloc (.cells cs t)).drew.heap.size (w1.alloc (.cells cs t)).drew w3) : Blk w3 w1.heap.size cs t :=
  Blk.below (w := (w1.alloc (.cells cs t)).drew) (Blk.new w1 cs t) h

/-- The document's device behind an operation, in a variable of its own. -/
structure XRel (w1 V : World) (gx room s' : Nat) (a2 a3 : Option Addr) (n3 c3 : Nat) (l' : List Int) : Prop where
  blk : Blk V gx #[.int .i64 room, .int .i64 s', .slice a3 n3 c3] 64
  below : Below w1.heap.size w1 V
  bytes : Bytes V a3 n3 c3 l'
  lies : Lies w1 V a2 a3
  ge : w1.heap.size ≤ gx
theorem xrel1 {w1 w3 : World} {room s' : Nat} {a2 a3 : Option Addr} {n3 c3 : Nat} {l' : List Int} (hb : Below w1.heap.size w1 w3) (hby : Bytes w3 a3 n3 c3 l') (hl : Lies w1 w3 a2 a3) :
    XRel w1 (w3.alloc (.cells #[.int .i64 room, .int .i64 s', .slice a3 n3 c3] 64)) w3.heap.size room s' a2 a3 n3 c3 l' :=
  ⟨Blk.new w3 _ _, hb.alloc hb.size _, hby.below ((Below.refl _ _).alloc (Nat.le_refl _) _), fun g hg => (hl g hg).imp id (fun h => ⟨h.1, by simp; omega⟩), hb.size⟩
theorem xrel2 {w1 w3 : World} {room s' : Nat} {a2 a3 : Option Addr} {n3 c3 : Nat} {l' : List Int} (hb : Below w1.heap.size w1 w3) (hz : Blk w3 w1.heap.size #[.int .i64 0, .int .i64 0, .slice none 0 0] 64) (hby : Bytes w3 a3 n3 c3 l') (hl : Lies w1 w3 a2 a3) :
    XRel w1 (((w3.setCell ⟨w1.heap.size, 0, none⟩ (.int .i64 room)).setCell ⟨w1.heap.size, 1, none⟩ (.int .i64 s')).setCell ⟨w1.heap.size, 2, none⟩ (.slice a3 n3 c3)) w1.heap.size room s' a2 a3 n3 c3 l' :=
  ⟨((hz.set 0 _).set 1 _).set 2 _, (((hb.setCell (Nat.le_refl _) _).setCell (Nat.le_refl _) _).setCell (Nat.le_refl _) _), bytes_far hby hz (dev_cells 0 0 none 0 0) (fun p hp => far_set3 _ _ _ _ _ p hp), fun g hg => (hl g hg).imp id (fun h => ⟨h.1, by simpa [World.setCell] using h.2⟩), Nat.le_refl _⟩
theorem Dev.keep {w w' base dd room s a n c l} (h : Dev w base dd room s a n c l) (h1 : w'.heap[dd]? = w.heap[dd]?) (h2 : ∀ i, blockOf a = some i → w'.heap[i]? = w.heap[i]?) : Dev w' base dd room s a n c l :=
  ⟨h.blk.of h1, h.own.of h2, h.ge, h.le, h.fit, h.most⟩
theorem heap_set3 (V : World) (g : Nat) (u0 u1 u2 : Value) (i : Nat) (hi : i ≠ g) : (((V.setCell ⟨g, 0, none⟩ u0).setCell ⟨g, 1, none⟩ u1).setCell ⟨g, 2, none⟩ u2).heap[i]? = V.heap[i]? :=
  (Below.heap_setCell _ ⟨g, 2, none⟩ _ i hi).trans ((Below.heap_setCell _ ⟨g, 1, none⟩ _ i hi).trans (Below.heap_setCell _ ⟨g, 0, none⟩ _ i hi))
theorem DRel.next {w w1 V : World} {dd rb gx room s s' n n' c' c2 c3 : Nat} {a' a2 a3 : Option Addr} {l' : List Int} (hd : Dev w1 w.heap.size dd room s' a' n' c' l') (hblk : Blk w1 rb #[.int .i64 room, .int .i64 s, .slice a2 n c2] 64)
    (hsep : ∀ g, blockOf a2 = some g → blockOf a' ≠ some g ∧ g < w1.heap.size ∧ g ≠ dd) (hb : Below w.heap.size w w1) (hge : w.heap.size ≤ rb) (hx : XRel w1 V gx room s' a2 a3 n' c3 l') :
    DRel w (((V.setCell ⟨rb, 0, none⟩ (.int .i64 room)).setCell ⟨rb, 1, none⟩ (.int .i64 s')).setCell ⟨rb, 2, none⟩ (.slice a3 n' c3)) dd rb room s' a' n' c' a3 c3 l' := by
  have hV := hd.far hx.below
  have hbV := hblk.below hx.below
  have hrd : dd ≠ rb := by
    rintro rfl
    have h2 := hV.blk
    rw [Blk, hbV] at h2
    simp at h2
  refine ⟨hV.keep (heap_set3 _ _ _ _ _ _ hrd) (fun i hi => heap_set3 _ _ _ _ _ _ (fun e => hV.own.notBlk hbV (by decide) (by rw [hi, e]))), ((hbV.set 0 _).set 1 _).set 2 _, bytes_far hx.bytes hbV (dev_cells _ _ _ _ _) (fun p hp => far_set3 _ _ _ _ _ p hp), fun g hg => ?_, ?_, hge⟩
  · have e : (((V.setCell ⟨rb, 0, none⟩ (.int .i64 room)).setCell ⟨rb, 1, none⟩ (.int .i64 s')).setCell ⟨rb, 2, none⟩ (.slice a3 n' c3)).heap.size = V.heap.size := by simp [World.setCell]
    rw [e]
    rcases hx.lies g hg with h | h
    · obtain ⟨s1, s2, s3⟩ := hsep g h
      exact ⟨s1, Nat.lt_of_lt_of_le s2 hx.below.size, s3⟩
    · refine ⟨fun e => ?_, h.2, ?_⟩
      · have := (hd.own.blockLt e).2; omega
      · have := hd.blk.lt; omega
  · exact ((((hb.trans (hx.below.mono hb.size)).setCell hge _).setCell hge _).setCell hge _)
theorem lies_of {w1 W w3 : World} {a2 a3 : Option Addr} (h : Lies W w3 a2 a3) (hw : w1.heap.size ≤ W.heap.size) : Lies w1 w3 a2 a3 := fun g hg => (h g hg).imp id (fun h => ⟨Nat.le_trans hw h.1, h.2⟩)

set_option maxRecDepth 100000 in
set_option maxHeartbeats 3000000 in
theorem law_does (r : Int) (a0 : Option Addr) (n0 c0 : Nat) (ops : List OpV) (w : World) (r0 : -9223372036854775808 ≤ r) (r1 : r ≤ 9223372036854775807) (h : Recs 3 OpAt w a0 n0 c0 ops) :
    Calls Try.prog 10 #[.int .i64 r, .slice a0 n0 c0] w fun e w' => e = .returned (.bool true) ∧ Below w.heap.size w w' := by
  have hcap := h.cap; have hmost := h.most
  have HX := Lib.hid h; clear h
  go_enter Try.func10, Try.ntmps10
  go_wp2_with fail
  refine (large_any a0 n0 c0 ops _ HX.out).mono ?_
  rintro e w' ⟨b, rfl, hb, rfl⟩
  have HBg := Lib.hid hb; clear hb
  cases b with
  | true =>
    go_wp2_with fail
    refine (awake_any _).mono ?_
    rintro e w5 ⟨rfl, hb5⟩
    go_wp2
    go_ret
    exact ⟨rfl, hb5⟩
  | false =>
    have HS := Lib.hid (HBg.out rfl)
    have hn60 : n0 ≤ 60 := by have := HX.out.len; have := HS.out.1; omega
    go_wp2_with fail
    refine (new_any r _ r0 r1).mono ?_
    rintro e w1 ⟨rfl, hd1, hb1⟩
    have hs1 := hb1.size
    have hlt1 := hd1.blk.lt
    have hroom := clampN_le r 65536
    have HD1 := Lib.hid hd1; have HB1 := Lib.hid hb1
    clear hd1 hb1
    go_wp2_with fail
    refine (rnew_any r _ r0 r1).mono ?_
    rintro e w2 ⟨hb2, a2, c2, rfl, hby2, hl2⟩
    generalize clampN r 65536 = room at hroom HD1 ⊢
    have hs2 := hb2.size
    have HD2 := Lib.hid (HD1.out.far hb2); have HB2 := Lib.hid (HB1.out.trans (hb2.mono hs1)); have HBy2 := Lib.hid hby2
    have HL2 : Hid (∀ g, blockOf a2 = some g → w1.heap.size ≤ g ∧ g < w2.heap.size) := fun g hg => by
      rcases hl2 g hg with h | h
      · cases h
      · exact h
    clear hb2 hby2 hl2
    have hW : Below w2.heap.size w2 (w2.alloc (.cells #[.int .i64 room, .int .i64 0, .slice a2 0 c2] 64)) := (Below.refl _ _).alloc (Nat.le_refl _) _
    have HR : Hid (DRel w (w2.alloc (.cells #[.int .i64 room, .int .i64 0, .slice a2 0 c2] 64)) w.heap.size w2.heap.size room 0 none 0 0 a2 c2 []) :=
      ⟨HD2.out.far hW, Blk.new w2 _ _, HBy2.out.below hW, fun g hg => ⟨by simp [blockOf], Nat.lt_of_lt_of_le (HL2.out g hg).2 hW.size, by have := (HL2.out g hg).1; omega⟩, HB2.out.trans (hW.mono HB2.out.size), HB2.out.size⟩
    obtain ⟨rb, hrb⟩ : ∃ rb, w2.heap.size = rb := ⟨_, rfl⟩
    go_wp2_with fail
    rw [hrb] at HR
    clear hrb
    go_loopw [7] (fun i wr => ∃ (k s : Nat) (a : Option Addr) (n c : Nat) (a2 : Option Addr) (c2 : Nat) (l : List Int), k ≤ n0 ∧ i = .int .i64 k ∧ Hid (DRel w wr w.heap.size rb room s a n c a2 c2 l)) (fun i _ => n0 - (intOf i).toNat)
    case atStart => exact ⟨0, 0, none, 0, 0, a2, c2, [], by omega, rfl, HR.out⟩
    case round =>
      clear HR HL2 HBy2 HB2 HD2 HB1 HD1
      obtain ⟨k, s, a, n, c, a2, c2, l, hk, rfl, hR⟩ := hrel
      by_cases hlt : k < n0
      · have HR := HX.out.below opStays hR.out.below
        obtain ⟨x, hx⟩ : ∃ x, ops[k]? = some x := ⟨ops[k]'(by have := HR.len; omega), List.getElem?_eq_getElem _⟩
        rcases HR.at' with h0 | ⟨b, off, rfl, hbl, hcell⟩
        · omega
        have hoa := hcell k x hx
        have hb200 := HS.out.2 k x hx
        have HOA := Lib.hid hoa; have HXK := Lib.hid hx
        obtain ⟨c0', c1', c2', -, -, -⟩ := hoa
        have hbs := hR.out.below.size
        have hdm := hR.out.dev.most
        clear HR hcell hx
        have HOW : Hid (Bytes w x.a x.n x.c x.l) := by
          have HRw := HX.out
          rcases HRw.at' with h0 | ⟨b', off', he, hbl', hc'⟩
          · omega
          · exact (hc' k x HXK.out).bytes
        obtain ⟨xk, xa, xn, xc, xl, xq⟩ := x
        dsimp only at c0' c1' c2' HOW
        have hx200 : xn ≤ 200 := hb200
        clear hb200
        obtain rfl : l.length = n := hR.out.bytes.len
        obtain rfl : xl.length = xn := HOA.out.bytes.len
        have hbW : b < w.heap.size := by
          have HRw := HX.out
          rcases HRw.at' with h0 | ⟨b', off', he, hbl', _⟩
          · omega
          · cases he; exact hbl'
        go_wp2_with fail
        refine (do_any hR.out.dev xk xa xl.length xc xl xq HOA.out.bytes (by omega) HOA.out.iq.1 HOA.out.iq.2 hbs).mono ?_
        rintro e w1 ⟨rfl, ht, a', n', c', hd, hat⟩
        obtain ⟨d1, d2, d3, d4⟩ := hR.out.done ht hat
        have e0 := (d4.cell (p := ⟨b, off + k * 3, none⟩) hbW).trans ((hR.out.below.cell (p := ⟨b, off + k * 3, none⟩) hbW).symm.trans c0')
        have e1 := (d4.cell (p := ⟨b, off + k * 3 + 1, none⟩) hbW).trans ((hR.out.below.cell (p := ⟨b, off + k * 3 + 1, none⟩) hbW).symm.trans c1')
        have e2 := (d4.cell (p := ⟨b, off + k * 3 + 2, none⟩) hbW).trans ((hR.out.below.cell (p := ⟨b, off + k * 3 + 2, none⟩) hbW).symm.trans c2')
        have g0 := d1.cell 0; have g1 := d1.cell 1; have g2 := d1.cell 2
        have HBl := Lib.hid d1; have HBy := Lib.hid d2; have HSe := Lib.hid d3; have HB1 := Lib.hid d4
        have hfit := hR.out.dev.fit; have hle := hR.out.dev.le
        have hdo : ∀ V, Bytes V a2 l.length c2 l → Bytes V xa xl.length xc xl → Calls Try.prog 41 #[.agg #[.int .i64 room, .int .i64 s, .slice a2 l.length c2], .agg #[.int .i64 xk, .slice xa xl.length xc, .int .i64 xq]] V (RaPost V room (stS s l xk xq) a2 (stE room l.length xk xl.length) (stL room s l xk xl xq)) := fun V h1 h2 =>
          rdo_any room s a2 _ c2 l xk xa _ xc xl xq V h1 h2 hfit hle hdm (by omega) HOA.out.iq.1 HOA.out.iq.2
        generalize stE room l.length xk xl.length = E at hdo ⊢
        generalize stS s l xk xq = s' at hdo hd
        generalize stL room s l xk xl xq = l' at hdo hd
        obtain rfl : l'.length = n' := hd.own.len
        have HDo := Lib.hid hdo; have HD := Lib.hid hd
        clear ht hat hd d1 d2 d3 d4 c0' c1' c2' hdo
        have HXB : Hid (Bytes w1.drew xa xl.length xc xl) := (HOW.out.below HB1.out).drewN 1
        have HYB : Hid (Bytes w1.drew a2 l.length c2 l) := HBy.out.drewN 1
        have HXB2 : Hid (∀ o, Bytes (w1.alloc o).drew xa xl.length xc xl) := fun o => ((HOW.out.below HB1.out).below ((Below.refl _ _).alloc (Nat.le_refl _) o)).drewN 1
        have HYB2 : Hid (∀ o, Bytes (w1.alloc o).drew a2 l.length c2 l) := fun o => (HBy.out.below ((Below.refl _ _).alloc (Nat.le_refl _) o)).drewN 1
        have hge := HB1.out.size
        have Kp : Hid (∀ V, Below w1.heap.size w1 V → V.cell? ⟨rb, 0, none⟩ = some (.int .i64 room) ∧ V.cell? ⟨rb, 1, none⟩ = some (.int .i64 s) ∧ V.cell? ⟨rb, 2, none⟩ = some (.slice a2 l.length c2) ∧ V.cell? ⟨b, off + k * 3, none⟩ = some (.int .i64 xk) ∧ V.cell? ⟨b, off + k * 3 + 1, none⟩ = some (.slice xa xl.length xc) ∧ V.cell? ⟨b, off + k * 3 + 2, none⟩ = some (.int .i64 xq)) := fun V hV => by
          have hbv := HBl.out.below hV
          have hlb : b < w1.heap.size := Nat.lt_of_lt_of_le hbW hge
          exact ⟨hbv.cell 0, hbv.cell 1, hbv.cell 2, by rw [hV.cell (p := ⟨b, off + k * 3, none⟩) hlb]; exact e0, by rw [hV.cell (p := ⟨b, off + k * 3 + 1, none⟩) hlb]; exact e1, by rw [hV.cell (p := ⟨b, off + k * 3 + 2, none⟩) hlb]; exact e2⟩
        have Ke := Lib.hid e0
        clear e0 e1 e2
        go_upto_region 11 with fail
        go_cut [9, 10] from 20 to 59 (fun s9 s10 wx => ∃ (gx : Nat) (a3 : Option Addr) (c3 : Nat), s9 = .pointer (some ⟨gx, 0, none⟩) ∧ s10 = .int .i64 E ∧ Hid (XRel w1 wx gx room s' a2 a3 l'.length c3 l'))
        case first =>
         go_region_held_law (fun V => V.cell? ⟨rb, 0, none⟩ = some (.int .i64 room) ∧ V.cell? ⟨rb, 1, none⟩ = some (.int .i64 s) ∧ V.cell? ⟨rb, 2, none⟩ = some (.slice a2 l.length c2) ∧ V.cell? ⟨b, off + k * 3, none⟩ = some (.int .i64 xk) ∧ V.cell? ⟨b, off + k * 3 + 1, none⟩ = some (.slice xa xl.length xc) ∧ V.cell? ⟨b, off + k * 3 + 2, none⟩ = some (.int .i64 xq))
          (first | exact Kp.out _ (Below.drew (Below.refl _ _)) | exact Kp.out _ hb3 | exact Kp.out _ HB3.out | exact Kp.out _ (HB3.out.alloc HB3.out.size _) | exact Kp.out _ (Below.drew ((Below.refl _ _).alloc (Nat.le_refl _) _)) | exact Kp.out _ (((HB3.out.setCell (Nat.le_refl _) _).setCell (Nat.le_refl _) _).setCell (Nat.le_refl _) _))
          (first
            | (go_at_call 41; (with_reducible refine (HDo.out _ HYB.out HXB.out).mono ?_); rintro e w3 ⟨hb3, a3, n3, c3, rfl, hby3, hl3⟩; have HB3 : Hid (Below w1.heap.size w1 w3) := Below.trans (Below.drew (Below.refl _ _)) hb3; have HBy3 := Lib.hid hby3; have HL3 : Hid (Lies w1 w3 a2 a3) := lies_of hl3 (Nat.le_refl _); have HX3 := Lib.hid (xrel1 (room := room) (s' := s') HB3.out hby3 HL3.out); clear hb3 hby3 hl3)
            | (go_at_call 41; (with_reducible refine (HDo.out _ (HYB2.out _) (HXB2.out _)).mono ?_); rintro e w3 ⟨hb3, a3, n3, c3, rfl, hby3, hl3⟩; have HB3 : Hid (Below w1.heap.size w1 w3) := below_ad _ _ _ hb3; have HZ : Hid (Blk w3 w1.heap.size #[.int .i64 0, .int .i64 0, .slice none 0 0] 64) := blk_ad _ _ _ hb3; have z0 := HZ.out.cell 0; have z1 := HZ.out.cell 1; have z2 := HZ.out.cell 2; have z3 := HZ.out.free 0; have z4 := HZ.out.free 1; have z5 := HZ.out.free 2; have HL3 : Hid (Lies w1 w3 a2 a3) := lies_of hl3 (by show w1.heap.size ≤ (w1.alloc _).heap.size; simp); have HX3 := Lib.hid (xrel2 (room := room) (s' := s') HB3.out HZ.out hby3 HL3.out); clear hb3 hby3 hl3))
         all_goals
          obtain rfl : l'.length = n3 := HX3.out.bytes.len
          go_wp2_with fail
          go_meet
          exact ⟨_, a3, c3, rfl, rfl, HX3.out⟩
        case rest =>
          obtain ⟨gx, a3, c3, rfl, rfl, HX3⟩ := hcut
          clear HDo HXB HYB HXB2 HYB2 Kp Ke g0 g1 g2
          have hN := DRel.next HD.out HBl.out HSe.out HB1.out hR.out.rge HX3.out
          have hbV := HBl.out.below HX3.out.below
          have x0 := HX3.out.blk.cell 0; have x1 := HX3.out.blk.cell 1; have x2 := HX3.out.blk.cell 2
          have p0 := hbV.cell 0; have p1 := hbV.cell 1; have p2 := hbV.cell 2
          have p3 := hbV.free 0; have p4 := hbV.free 1; have p5 := hbV.free 2
          have HN := Lib.hid hN
          clear hN hbV
          go_wp2_with fail
          generalize ((wc.setCell ⟨rb, 0, none⟩ (.int .i64 room)).setCell ⟨rb, 1, none⟩ (.int .i64 s')).setCell ⟨rb, 2, none⟩ (.slice a3 l'.length c3) = V2 at HN ⊢
          clear x0 x1 x2 p0 p1 p2 p3 p4 p5
          have p1 := HN.out.blk.cell 1; have p2 := HN.out.blk.cell 2
          have KV : Hid (∀ X, Below V2.heap.size V2 X → X.cell? ⟨rb, 1, none⟩ = some (.int .i64 s') ∧ X.cell? ⟨rb, 2, none⟩ = some (.slice a3 l'.length c3)) := fun X hX => ⟨(HN.out.blk.below hX).cell 1, (HN.out.blk.below hX).cell 2⟩
          have HDv : Hid (Dev V2.drew w.heap.size w.heap.size room s' a' l'.length c' l') := HN.out.dev.drewN 1
          have HB3' : Hid (Bytes V2.drew a3 l'.length c3 l') := HN.out.bytes.drewN 1
          go_region_held_law (fun X => X.cell? ⟨rb, 1, none⟩ = some (.int .i64 s') ∧ X.cell? ⟨rb, 2, none⟩ = some (.slice a3 l'.length c3))
            (first | exact KV.out _ (Below.drew (Below.refl _ _)) | exact KV.out _ HB5.out | exact KV.out _ (below_drewN HB5.out _))
            (first
              | (go_at_call 42; (with_reducible refine (bytes_any HDv.out).mono ?_); rintro e w5 ⟨a5, c5, rfl, ho5, hb5⟩; have HB5 : Hid (Below V2.heap.size V2 w5) := Below.trans (Below.drew (Below.refl _ _)) hb5; have HO5 := Lib.hid ho5.bytes; have HD5 := Lib.hid (HDv.out.far hb5); have HY5 := Lib.hid (HB3'.out.below hb5); clear ho5 hb5)
              | (go_at_call 32; (with_reducible refine (rsame_any _ _ _ l' _ _ _ l' _ HO5.out HY5.out).mono ?_); rintro e w6 ⟨rfl, m6, rfl⟩; rw [beq_self_eq_true])
              | (go_at_call 43; (with_reducible refine (sure_any (HD5.out.drewN _)).mono ?_); rintro e w7 ⟨rfl, rfl⟩)
              | (go_at_call 43; (with_reducible refine (sure_any HD5.out).mono ?_); rintro e w7 ⟨rfl, rfl⟩))
          have HBF : Hid (Below V2.heap.size V2 (w5.drewN m6)) := below_drewN HB5.out m6
          clear p1 p2
          go_wp2
          go_roundw
          case rel => exact ⟨k + 1, s', a', _, c', a3, c3, l', by omega, by go_num, HN.out.far HBF.out⟩
          case measure => simp [intOf]; omega
      · obtain rfl : k = n0 := by omega
        go_wp2_with fail
        refine (awake_any _).mono ?_
        rintro e w5 ⟨rfl, hb5⟩
        go_wp2
        go_ret
        exact ⟨rfl, hR.out.below.trans (hb5.mono hR.out.below.size)⟩
end Go.Proofs.Ytcncfljpbbpaoaa.dv
