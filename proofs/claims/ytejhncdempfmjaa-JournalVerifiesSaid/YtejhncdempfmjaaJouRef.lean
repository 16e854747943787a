/-
  Layer 49: the document's Open.
-/
import Derived.Test.YtejhncdempfmjaaJouNil
import Derived.Test.YtejhncdempfmjaaMDevR
import Derived.Test.YtejhncdempfmjaaRecsApp
namespace Go.Proofs.Ytejhncdempfmjaa.jo
open Go.ChangeShapes Go.WideShapes Go.ChangeAt Go.RowKit
open bs en ch
open Go.Proofs.Ytejhncdempfmjaa.sh (tagB ptag_any rtag_any)
open Go.Proofs.Ytejhncdempfmjaa.dv (Dev clampN kept apE APd DPost rv Lies RvPost)
set_option linter.unusedVariables false

/-- A journal as a value. -/
abbrev jv (al : Option Addr) (nl cl : Nat) (ta : Option Addr) (tc : Nat) (room s : Nat) (a : Option Addr) (n c : Nat) : Value := .agg #[.slice al nl cl, .slice ta 32 tc, .int .i64 room, .int .i64 s, .slice a n c]
def ROPost (room s : Nat) (a0 : Option Addr) (key b : List Int) (w : World) (e : Ending) (w' : World) : Prop :=
  Below w.heap.size w w' ∧ ∃ (cnt : Nat) (E : Int) (L : List Fw) (al : Option Addr) (cl : Nat) (ta : Option Addr) (tc : Nat) (a : Option Addr) (c : Nat), EntE key b cnt E ∧ e = .returned (jv al cnt cl ta tc room (min s (atF b cnt)) a (atF b cnt) c) ∧
    OwnS 2 eCells w' w.heap.size 35 al cnt cl L ∧ (∀ x ∈ L, FwOwn w' w.heap.size x) ∧ ch.Told L (fm b) ∧ OwnB w' w.heap.size 5 ta 32 tc (ahd (fm b) cnt) ∧ Bytes w' a (atF b cnt) c (b.take (atF b cnt)) ∧ Lies w w' a0 a

/-- In the loop, behind j frames. -/
structure RI (w W : World) (room s : Nat) (a : Option Addr) (n c : Nat) (jb : Nat) (key b : List Int) (j : Nat) (al : Option Addr) (cl : Nat) (ta : Option Addr) (tc : Nat) (L : List Fw) : Prop where
  below : Below w.heap.size w W
  blk : Blk W jb #[.slice al j cl, .slice ta 32 tc, .int .i64 0, .int .i64 0, .slice none 0 0] 56
  list : OwnS 2 eCells W w.heap.size 35 al j cl L
  own : ∀ x ∈ L, FwOwn W w.heap.size x
  told : ch.Told L (fm b)
  tag : OwnB W w.heap.size 5 ta 32 tc (ahd (fm b) j)
  up : Up b j
  good : ∀ i, i < j → ch.Good key (fm b) i
  ge : w.heap.size + 1 < jb
  box : Blk W w.heap.size #[.int .i64 room, .int .i64 s, .slice a n c] 54
  res : Blk W (w.heap.size + 1) #[.slice none 0 0, .slice none 0 0, .int .i64 0, .int .i64 0, .slice none 0 0] 56
theorem RI.far {w W W' : World} {room s : Nat} {a : Option Addr} {n c : Nat} {jb : Nat} {key b : List Int} {j : Nat} {al : Option Addr} {cl : Nat} {ta : Option Addr} {tc : Nat} {L : List Fw} (h : RI w W room s a n c jb key b j al cl ta tc L) (hb : Below W.heap.size W W') : RI w W' room s a n c jb key b j al cl ta tc L :=
  ⟨h.below.trans (hb.mono h.below.size), h.blk.below hb, h.list.below hb, fun x hx => (h.own x hx).below hb, h.told, h.tag.below hb, h.up, h.good, h.ge, h.box.below hb, h.res.below hb⟩

abbrev nE : Obj := .cells #[] 35
abbrev eE (k : Int) (a : Option Addr) (n c : Nat) : Obj := .cells #[.int .i64 k, .slice a n c] 35
theorem ownE1 (W : World) : OwnS 2 eCells (W.alloc nE).drew W.heap.size 35 (some ⟨W.heap.size, 0, none⟩) 0 0 ([] : List Fw) := (made0 W W.heap.size _ (Nat.le_refl _)).below (Below.drew (Below.refl _ _))
theorem ownE2 (W : World) (o : Obj) : OwnS 2 eCells ((W.alloc nE).alloc o).drew W.heap.size 35 (some ⟨W.heap.size, 0, none⟩) 0 0 ([] : List Fw) := (OwnS.alloc (made0 W W.heap.size _ (Nat.le_refl _)) o).below (Below.drew (Below.refl _ _))
theorem ownE3 (W : World) (o : Obj) : OwnS 2 eCells ((W.alloc o).alloc nE).drew W.heap.size 35 (some ⟨W.heap.size + 1, 0, none⟩) 0 0 ([] : List Fw) := by
  have h := made0 (α := Fw) (size := 2) (cells := eCells) (W.alloc o) W.heap.size 35 (by simp)
  rw [World.size_alloc] at h
  exact h.below (Below.drew (Below.refl _ _))
theorem add0 (g j : Nat) : (⟨g, 0, none⟩ : Addr).add j = ⟨g, j, none⟩ := by unfold Addr.add; split <;> simp_all
theorem farE2 {W V : World} {k : Int} {a : Option Addr} {n c : Nat} (hg : ((W.alloc nE).alloc (eE k a n c)).drew.grownBy V (Value.ownBlock (.slice (some ⟨W.heap.size, 0, none⟩) 0 0))) : ∀ j u, ([.int .i64 k, .slice a n c] : List Value)[j]? = some u → V.cell? ((⟨W.heap.size + 1, 0, none⟩ : Addr).add j) = some u := fun j u hu => by
  have h := src_new (W.alloc nE) [.int .i64 k, .slice a n c] 35 j u hu
  rw [World.size_alloc] at h
  rw [add0] at h ⊢
  rw [hg.cell_far ⟨W.heap.size + 1, j, none⟩ (by simp) (by simp [Value.ownBlock])]
  exact h
theorem farE3 {W V : World} {k : Int} {a : Option Addr} {n c : Nat} (hg : ((W.alloc (eE k a n c)).alloc nE).drew.grownBy V (Value.ownBlock (.slice (some ⟨W.heap.size + 1, 0, none⟩) 0 0))) : ∀ j u, ([.int .i64 k, .slice a n c] : List Value)[j]? = some u → V.cell? ((⟨W.heap.size, 0, none⟩ : Addr).add j) = some u := fun j u hu => by
  have h := src_new W [.int .i64 k, .slice a n c] 35 j u hu
  rw [add0] at h ⊢
  rw [hg.cell_far ⟨W.heap.size, j, none⟩ (by simp; omega) (by simp [Value.ownBlock])]
  have hb : Below (W.alloc (eE k a n c)).heap.size (W.alloc (eE k a n c)) ((W.alloc (eE k a n c)).alloc nE).drew := Below.drew ((Below.refl _ _).alloc (Nat.le_refl _) _)
  rw [hb.cell (p := ⟨W.heap.size, j, none⟩) (by simp)]
  exact h
theorem far1 {W : World} {g h : Nat} {v0 v1 u : Value} (hg : g ≠ h) (h0 : W.cell? ⟨g, 0, none⟩ = some v0 ∧ W.cell? ⟨g, 1, none⟩ = some v1) : (W.setCell ⟨h, 0, none⟩ u).cell? ⟨g, 0, none⟩ = some v0 ∧ (W.setCell ⟨h, 0, none⟩ u).cell? ⟨g, 1, none⟩ = some v1 := by
  constructor
  · rw [World.cell?_setCell_far _ _ _ _ (fun e => hg e.symm)]; exact h0.1
  · rw [World.cell?_setCell_far _ _ _ _ (fun e => hg e.symm)]; exact h0.2
theorem eOne (x : Fw) : ∀ u ∈ eCells x, u.oneCell' = true := by intro u hu; simp [eCells] at hu; rcases hu with rfl | rfl <;> rfl

theorem Tn.set {W V : World} {p : Nat → Prop} (h : Tn W V p) (g i : Nat) (v : Value) (hp : p g) : Tn W (V.setCell ⟨g, i, none⟩ v) p := h.trans (Tn.setCell V g i v) (fun _ h => h) (fun i _ e => by rw [e]; exact hp)
/-- The next frame. -/
theorem RI.next {w W V : World} {room s : Nat} {a : Option Addr} {n c : Nat} {jb : Nat} {key b : List Int} {j : Nat} {al : Option Addr} {cl : Nat} {ta : Option Addr} {tc : Nat} {L : List Fw} (h : RI w W room s a n c jb key b j al cl ta tc L) (hV : Below W.heap.size W V) {a2 : Option Addr} {c2 : Nat} {x : Fw}
    (ho : OwnS 2 eCells V W.heap.size 35 a2 (j + 1) c2 (L ++ [x])) (hx : FwOwn W w.heap.size x) (hxn : x.n = 32) (ht : Tells x (fm b j)) (h1 : atF b j < b.length) (h2 : rdE b (atF b j) = 0) (h3 : ch.Good key (fm b) j) :
    RI w ((V.setCell ⟨jb, 0, none⟩ (.slice a2 (j + 1) c2)).setCell ⟨jb, 1, none⟩ (.slice x.a 32 x.c)) room s a n c jb key b (j + 1) a2 c2 x.a x.c (L ++ [x]) := by
  have hf := h.far hV
  have hn : Tn V ((V.setCell ⟨jb, 0, none⟩ (.slice a2 (j + 1) c2)).setCell ⟨jb, 1, none⟩ (.slice x.a 32 x.c)) (fun i => i = jb) := ((Tn.of_below (Below.refl _ _) (fun i => i = jb)).set jb 0 _ rfl).set jb 1 _ rfl
  have hown : ∀ {a' : Option Addr} {n' c' : Nat} {l' : List Int}, OwnB V w.heap.size 5 a' n' c' l' → OwnB ((V.setCell ⟨jb, 0, none⟩ (.slice a2 (j + 1) c2)).setCell ⟨jb, 1, none⟩ (.slice x.a 32 x.c)) w.heap.size 5 a' n' c' l' := fun ho => hn.own ho (fun i hi hp => ho.notBlk hf.blk (by decide) (by rw [hi, hp]))
  have hxf := hx.below hV
  refine ⟨?_, ?_, ?_, ?_, ?_, ?_, h.up.succ h1 h2, fun i hi => ?_, h.ge, ?_, ?_⟩
  · exact (hf.below.setCell (by have := h.ge; show w.heap.size ≤ jb; omega) _).setCell (by have := h.ge; show w.heap.size ≤ jb; omega) _
  · have := (hf.blk.set 0 (.slice a2 (j + 1) c2)).set 1 (.slice x.a 32 x.c)
    simpa using this
  · refine OwnS.of (ho.mono h.below.size) (fun i hi => ?_)
    have hne := typed_ne (typed_s ho) (typed_blk hf.blk) (by decide) hi
    have hij : i ≠ jb := fun q => hne (by rw [q]; rfl)
    exact (Below.heap_setCell _ ⟨jb, 1, none⟩ _ i hij).trans (Below.heap_setCell _ ⟨jb, 0, none⟩ _ i hij)
  · intro y hy
    rcases List.mem_append.1 hy with hy | hy
    · have hyf := hf.own y hy
      exact ⟨hown hyf.body, hown hyf.tag, hyf.k0, hyf.k1⟩
    · simp only [List.mem_singleton] at hy
      subst hy
      exact ⟨hown hxf.body, hown hxf.tag, hxf.k0, hxf.k1⟩
  · refine h.told.snoc ?_
    rw [h.list.num]
    exact ht
  · rw [show ahd (fm b) (j + 1) = (fm b j).t from rfl, ← ht.t]
    have := hown hxf.tag
    rw [hxn] at this
    exact this
  · rcases Nat.lt_or_ge i j with h4 | h4
    · exact h.good i h4
    · obtain rfl : i = j := by omega
      exact h3
  · exact hn.blk hf.box (fun e => by have := h.ge; omega)
  · exact hn.blk hf.res (fun e => by have := h.ge; omega)
theorem noU8 (a1 : Option Addr) (n1 c1 : Nat) (a2 : Option Addr) (c2 : Nat) (k : Nat) (z : Int) : (#[.slice a1 n1 c1, .slice a2 32 c2, .int .i64 0, .int .i64 0, .slice none 0 0] : Array Value)[k]? ≠ some (.int .u8 z) := by
  match k with
  | 0 | 1 | 2 | 3 | 4 => simp
  | k + 5 => simp
theorem noU8' (k : Nat) (z : Int) : (#[.slice none 0 0, .slice none 0 0, .int .i64 0, .int .i64 0, .slice none 0 0] : Array Value)[k]? ≠ some (.int .u8 z) := by
  match k with
  | 0 | 1 | 2 | 3 | 4 => simp
  | k + 5 => simp
theorem tn_eight (V : World) (jb r : Nat) (v2 v3 v4 u0 u1 u2 u3 u4 : Value) : Tn V ((((((((V.setCell ⟨jb, 2, none⟩ v2).setCell ⟨jb, 3, none⟩ v3).setCell ⟨jb, 4, none⟩ v4).setCell ⟨r, 0, none⟩ u0).setCell ⟨r, 1, none⟩ u1).setCell ⟨r, 2, none⟩ u2).setCell ⟨r, 3, none⟩ u3).setCell ⟨r, 4, none⟩ u4) (fun i => i = jb ∨ i = r) :=
  ((((((((Tn.of_below (Below.refl _ _) (fun i => i = jb ∨ i = r)).set jb 2 v2 (.inl rfl)).set jb 3 v3 (.inl rfl)).set jb 4 v4 (.inl rfl)).set r 0 u0 (.inr rfl)).set r 1 u1 (.inr rfl)).set r 2 u2 (.inr rfl)).set r 3 u3 (.inr rfl)).set r 4 u4 (.inr rfl)
/-- At the end: the device is cut, and all is handed back. -/
theorem RI.done {w W V : World} {room s : Nat} {a : Option Addr} {n c : Nat} {jb : Nat} {key b : List Int} {j : Nat} {al : Option Addr} {cl : Nat} {ta : Option Addr} {tc : Nat} {L : List Fw} {E : Int} (h : RI w W room s a n c jb key b j al cl ta tc L) (hb0 : b.length = n) (hall : AllB b) (he : EntE key b j E)
    {e : Ending} (hV : RvPost W room (min s (clampN ((atF b j : Nat) : Int) n)) a (clampN ((atF b j : Nat) : Int) n) (b.take (clampN ((atF b j : Nat) : Int) n)) e V) : ∃ a' c', e = .returned (rv room (min s (atF b j)) a' (atF b j) c') ∧ Below W.heap.size W V ∧
      ∀ V', Tn V V' (fun i => i = jb ∨ i = w.heap.size + 1) → ROPost room s a key b w (.returned (jv al j cl ta tc room (min s (atF b j)) a' (atF b j) c')) V' := by
  have hle : atF b j ≤ n := by have := at_le hall j h.up; omega
  rw [clamp_mid _ _ hle] at hV
  obtain ⟨hb, a', c', rfl, hby, hl⟩ := hV
  refine ⟨a', c', rfl, hb, fun V' hn => ?_⟩
  have hf := h.far hb
  have hge := h.ge
  have hsz := hf.below.size
  have hnb : ∀ {a1 : Option Addr} {n1 c1 : Nat} {l1 : List Int}, OwnB V w.heap.size 5 a1 n1 c1 l1 → OwnB V' w.heap.size 5 a1 n1 c1 l1 := fun ho => hn.own ho (fun i hi hp => by
    rcases hp with hp | hp
    · exact ho.notBlk hf.blk (by decide) (by rw [hi, hp])
    · exact ho.notBlk hf.res (by decide) (by rw [hi, hp]))
  refine ⟨⟨hn.os.trans hf.below.os, hn.tape.trans hf.below.tape, hn.output.trans hf.below.output, Nat.le_trans hsz hn.size, fun i hi => (hn.block i (by omega) (by omega)).trans (hf.below.block i hi)⟩, j, E, L, al, cl, ta, tc, a', c', he, rfl, ?_, ?_, h.told, hnb hf.tag, ?_, ?_⟩
  · refine OwnS.of hf.list (fun i hi => hn.block i (OwnS.lt hf.list hi).2 (fun hp => ?_))
    rcases hp with hp | hp
    · exact typed_ne (typed_s hf.list) (typed_blk hf.blk) (by decide) hi (by rw [hp]; rfl)
    · exact typed_ne (typed_s hf.list) (typed_blk hf.res) (by decide) hi (by rw [hp]; rfl)
  · intro x hx
    have hxf := hf.own x hx
    exact ⟨hnb hxf.body, hnb hxf.tag, hxf.k0, hxf.k1⟩
  · refine ⟨hby.len, hby.cap, hby.most, hby.all, hby.nil, ?_⟩
    rcases hby.at' with h0 | ⟨g, off, ha, hc⟩
    · exact .inl h0
    · refine .inr ⟨g, off, ha, fun i hi => ?_⟩
      have h1 := hc i hi
      have h2 := hn.block g (World.block_lt_of_cell? V _ h1) (fun hp => by
        rcases hp with hp | hp
        · rw [hp, hf.blk.cell (off + i)] at h1
          exact noU8 _ _ _ _ _ _ _ h1
        · rw [hp, hf.res.cell (off + i)] at h1
          exact noU8' _ _ h1)
      rw [← h1]
      simp only [World.cell?, h2]
  · intro g hg
    rcases hl g hg with h9 | ⟨h9, h10⟩
    · exact .inl h9
    · exact .inr ⟨Nat.le_trans h.below.size h9, Nat.lt_of_lt_of_le h10 hn.size⟩

set_option maxRecDepth 100000 in
set_option maxHeartbeats 4000000 in
theorem ropen_any (a0 : Option Addr) (n0 c0 : Nat) (key : List Int) (room s : Nat) (a : Option Addr) (n c : Nat) (b : List Int) (w : World) (h0 : Bytes w a0 n0 c0 key) (h : Bytes w a n c b) (hn : n ≤ 65536) (hs : s ≤ 65536) (hr : room ≤ 65536) (hk : n0 ≤ 100000) :
    Calls Try.prog 34 #[.slice a0 n0 c0, rv room s a n c] w (ROPost room s a key b w) := by
  have hcap := h.cap; have hmost := h.most
  have H0 := Lib.hid h0; have H := Lib.hid h; have HA := Lib.hid h.all; have HBL := Lib.hid h.len
  clear h0 h
  unfold rv
  go_enter Try.func34, Try.ntmps34
  go_wp2_with fail
  refine (rfirst_any _).mono ?_
  rintro e w1 ⟨a1, c1, rfl, ho1, hb1⟩
  have hB0 : Below w.heap.size w ((w.alloc (.cells #[.int .i64 room, .int .i64 s, .slice a n c] 54)).alloc (.cells #[.slice none 0 0, .slice none 0 0, .int .i64 0, .int .i64 0, .slice none 0 0] 56)) := ((Below.refl _ _).alloc (Nat.le_refl _) _).alloc (by simp) _
  have hbx : Blk ((w.alloc (.cells #[.int .i64 room, .int .i64 s, .slice a n c] 54)).alloc (.cells #[.slice none 0 0, .slice none 0 0, .int .i64 0, .int .i64 0, .slice none 0 0] 56)) w.heap.size #[.int .i64 room, .int .i64 s, .slice a n c] 54 := (Blk.new w _ _).below ((Below.refl _ _).alloc (Nat.le_refl _) _)
  have hrs := Blk.new (w.alloc (.cells #[.int .i64 room, .int .i64 s, .slice a n c] 54)) #[.slice none 0 0, .slice none 0 0, .int .i64 0, .int .i64 0, .slice none 0 0] 56
  rw [World.size_alloc] at hrs
  have hsz : w.heap.size + 1 < w1.heap.size := by
    have := hb1.size
    simp at this
    omega
  have HB1 := Lib.hid (hB0.trans (hb1.mono hB0.size)); have HBX := Lib.hid (hbx.below hb1); have HRS := Lib.hid (hrs.below hb1); have HO1 := Lib.hid (ho1.mono hB0.size)
  clear hB0 hbx hrs ho1 hb1
  have hW2 : Below w1.heap.size w1 (w1.alloc (.cells #[.slice none 0 0, .slice a1 32 c1, .int .i64 0, .int .i64 0, .slice none 0 0] 56)) := (Below.refl _ _).alloc (Nat.le_refl _) _
  have hri : RI w (w1.alloc (.cells #[.slice none 0 0, .slice a1 32 c1, .int .i64 0, .int .i64 0, .slice none 0 0] 56)) room s a n c w1.heap.size key b 0 none 0 a1 c1 [] :=
    ⟨HB1.out.trans (hW2.mono HB1.out.size), Blk.new w1 _ _, OwnS.nil _ _ _, by simp, fun i x h => by simp at h, HO1.out.below hW2, Up.zero b, fun i hi => absurd hi (Nat.not_lt_zero i), hsz, HBX.out.below hW2, HRS.out.below hW2⟩
  have HRI := Lib.hid hri
  clear hW2 hri HB1 HBX HRS HO1 hsz
  go_wp2_with fail
  generalize w1.alloc (.cells #[.slice none 0 0, .slice a1 32 c1, .int .i64 0, .int .i64 0, .slice none 0 0] 56) = w2 at HRI ⊢
  generalize w1.heap.size = jb at HRI ⊢
  go_wp2
  go_loopw [6] (fun i wr => ∃ (j : Nat) (al : Option Addr) (cl : Nat) (ta : Option Addr) (tc : Nat) (L : List Fw), j ≤ n ∧ i = .int .i64 (atF b j : Nat) ∧ Hid (RI w wr room s a n c jb key b j al cl ta tc L)) (fun i _ => n - (intOf i).toNat)
  case atStart => exact ⟨0, none, 0, a1, c1, [], by omega, rfl, HRI⟩
  case round =>
    clear HRI
    obtain ⟨j, al, cl, ta, tc, L, hj, rfl, HRI⟩ := hrel
    have hle := at_le HA.out j HRI.out.up
    have hge := at_ge (l := b) j
    rw [HBL.out] at hle
    obtain ⟨p, hp⟩ : ∃ p, atF b j = p := ⟨_, rfl⟩
    rw [hp] at hle hge ⊢
    have HP := Lib.hid hp
    clear hp
    have f2 : wr.cell? ⟨w.heap.size, 2, none⟩ = some (.slice a n c) := HRI.out.box.cell 2
    have hsw := HRI.out.below.size
    by_cases hlt : p < n
    · go_wp2_with fail
      refine (ref_any a n c b p _ (H.out.below HRI.out.below) (by omega) (by omega) (by omega)).mono ?_
      rintro e w5 ⟨hb5, k, to, a5, a6, n5, c5, n6, c6, body, tag, rfl, ho5, ho6, hne, heq⟩
      have HRI5 := Lib.hid (HRI.out.far hb5)
      by_cases hE : rdE b p = 0
      · obtain ⟨q1, q2, q3, q4⟩ := heq hE
        have hok := fr_ok HA.out hE
        rw [Int.toNat_natCast] at q1 q2 q3 q4
        have ht6 : n6 = 32 := by rw [← ho6.len, q3]; exact hok.1
        subst ht6
        rw [hE]
        have hfm : fm b j = ⟨k, body, tag⟩ := by rw [fm, HP.out, frK, ← q1, ← q2, ← q3]
        have hu1 : Up b (j + 1) := HRI.out.up.succ (by rw [HP.out, HBL.out]; exact hlt) (by rw [HP.out]; exact hE)
        have hat1 : atF b (j + 1) ≤ n := by have := at_le HA.out _ hu1; rw [HBL.out] at this; exact this
        have hat2 : p + 36 ≤ atF b (j + 1) := by rw [atF, HP.out]; omega
        have hto : to = ((atF b (j + 1) : Nat) : Int) := by
          have hrd := rd_ok HA.out hE
          rw [q4, atF, HP.out]; omega
        have hk13 : 1 ≤ k ∧ k ≤ 3 := by
          have h1 := hok.2.2.2.2.1
          have h2 := hok.2.2.2.2.2.1
          rw [q1]; exact ⟨h1, h2⟩
        subst hto
        have HO5 := Lib.hid (ho5.mono hsw); have HO6 := Lib.hid (ho6.mono hsw); have HFM := Lib.hid hfm; have HRD := Lib.hid hE
        obtain ⟨p', hp'⟩ : ∃ p', atF b (j + 1) = p' := ⟨_, rfl⟩
        rw [hp'] at hat1 hat2 ⊢
        have HP' := Lib.hid hp'
        clear hne heq ho5 ho6 q1 q2 q3 q4 hok hE hfm hu1 hp'
        have hW6 : Below w5.heap.size w5 (w5.alloc (.cells #[.int .i64 k, .slice a5 n5 c5] 35)) := (Below.refl _ _).alloc (Nat.le_refl _) _
        have HRI6 := Lib.hid (HRI5.out.far hW6); have HO56 := Lib.hid (HO5.out.below hW6); have HO66 := Lib.hid (HO6.out.below hW6)
        have HEB : Hid (Blk (w5.alloc (.cells #[.int .i64 k, .slice a5 n5 c5] 35)) w5.heap.size #[.int .i64 k, .slice a5 n5 c5] 35) := Lib.hid (Blk.new w5 _ _)
        have HBE : Hid (Below w.heap.size w (w5.alloc (.cells #[.int .i64 k, .slice a5 n5 c5] 35))) := Lib.hid HRI6.out.below
        have g0 : w5.cell? ⟨jb, 0, none⟩ = some (.slice al j cl) := HRI5.out.blk.cell 0
        have g1 : w5.cell? ⟨jb, 1, none⟩ = some (.slice ta 32 tc) := HRI5.out.blk.cell 1
        have g0' : (w5.alloc (.cells #[.int .i64 k, .slice a5 n5 c5] 35)).cell? ⟨jb, 0, none⟩ = some (.slice al j cl) := HRI6.out.blk.cell 0
        have g1' : (w5.alloc (.cells #[.int .i64 k, .slice a5 n5 c5] 35)).cell? ⟨jb, 1, none⟩ = some (.slice ta 32 tc) := HRI6.out.blk.cell 1
        have ej : ((j : Int) + 1) = ((j + 1 : Nat) : Int) := by omega
        have EJ := Lib.hid ej
        clear ej f2
        go_wp2_with fail
        rw [EJ.out]
        refine (ch.next_any a0 n0 c0 key ta 32 tc (ahd (fm b) j) ((j + 1 : Nat) : Int) k a5 n5 c5 body _ (H0.out.below HBE.out) HRI6.out.tag.bytes HO56.out.bytes (by omega) (by omega) (by omega) (by omega) hk).mono ?_
        rintro e w7 ⟨a7, c7, rfl, ho7, hb7⟩
        have HRI7 := Lib.hid (HRI6.out.far hb7); have HO7 := Lib.hid ho7.bytes; have HO67 := Lib.hid (HO66.out.below hb7); have HO57 := Lib.hid (HO56.out.below hb7); have HEB7 := Lib.hid (HEB.out.below hb7)
        clear ho7 hb7 g0 g1 g0' g1'
        go_wp2_with fail
        refine (rsame_any _ _ _ tag _ _ _ _ _ HO67.out.bytes HO7.out).mono ?_
        rintro e w8 ⟨rfl, m8, rfl⟩
        have HRI8 := Lib.hid (HRI7.out.far (below_drewN (Below.refl _ _) m8)); have HO68 := Lib.hid (HO67.out.drewN m8); have HO58 := Lib.hid (HO57.out.drewN m8); have HEB8 := Lib.hid (HEB7.out.drewN m8)
        generalize w7.drewN m8 = w8 at *
        have hmgf : mg (ahd (fm b) j) ((j + 1 : Nat) : Int) k body = mgF (fm b) j := by rw [mgF, HFM.out]
        rw [hmgf]
        clear hmgf
        obtain ⟨eb, heb⟩ : ∃ eb, w5.heap.size = eb := ⟨_, rfl⟩
        rw [heb] at HEB8 ⊢
        by_cases htag : tag = tagB key (mgF (fm b) j)
        · have d : (tag == tagB key (mgF (fm b) j)) = true := by rw [beq_iff_eq]; exact htag
          rw [d]
          have hgood : ch.Good key (fm b) j := by unfold ch.Good; rw [show (fm b j).t = tag by rw [HFM.out]]; exact htag
          have HGD := Lib.hid hgood
          clear htag d hgood
          have hKE : ∀ V : World, Below w8.heap.size w8 V → V.cell? ⟨eb, 0, none⟩ = some (.int .i64 k) ∧ V.cell? ⟨eb, 1, none⟩ = some (.slice a5 n5 c5) := fun V hV => ⟨(HEB8.out.below hV).cell 0, (HEB8.out.below hV).cell 1⟩
          have hKJ : ∀ V : World, Below w8.heap.size w8 V → V.cell? ⟨jb, 0, none⟩ = some (.slice al j cl) ∧ V.cell? ⟨jb, 1, none⟩ = some (.slice ta 32 tc) ∧ V.frozen? ⟨jb, 0, none⟩ = false ∧ V.frozen? ⟨jb, 1, none⟩ = false := fun V hV => ⟨(HRI8.out.blk.below hV).cell 0, (HRI8.out.blk.below hV).cell 1, (HRI8.out.blk.below hV).free 0, (HRI8.out.blk.below hV).free 1⟩
          have KE := Lib.hid hKE; have KJ := Lib.hid hKJ
          have e5 := (hKJ w8 (Below.refl _ _)).1
          have HSRC := Lib.hid (HRI8.out.list.src (fun x => rfl))
          have hne : eb ≠ jb := fun e => by
            have h1 := HEB8.out
            rw [e, Blk, HRI8.out.blk] at h1
            simp only [Option.some.injEq, Obj.cells.injEq] at h1
            exact absurd h1.2.1 (by decide)
          have hn1 : (0 + j) * 32 ≤ 140737488355328 := by omega
          have hm1 : 0 + j ≤ maxLen := by simp only [maxLen]; omega
          have hn2 : (j + 1) * 32 ≤ 140737488355328 := by omega
          have hm2 : j + 1 ≤ maxLen := by simp only [maxLen]; omega
          clear hKE hKJ
          go_wp2_with fail
          obtain ⟨e6, e7⟩ := KE.out w8 (Below.refl _ _)
          have b1 : Below w8.heap.size w8 (w8.alloc nE) := (Below.refl _ _).alloc (Nat.le_refl _) _
          have b2 : Below w8.heap.size w8 (w8.alloc (eE k a5 n5 c5)) := (Below.refl _ _).alloc (Nat.le_refl _) _
          have b3 : Below w8.heap.size w8 ((w8.alloc nE).alloc (eE k a5 n5 c5)) := b1.alloc b1.size _
          have b4 : Below w8.heap.size w8 ((w8.alloc (eE k a5 n5 c5)).alloc nE) := b2.alloc b2.size _
          have r10 := (KJ.out _ b1).1; have r20 := (KJ.out _ b2).1; have r30 := (KJ.out _ b3).1; have r40 := (KJ.out _ b4).1
          obtain ⟨r11, r12⟩ := KE.out _ b1
          obtain ⟨r21, r22⟩ := KE.out _ b2
          obtain ⟨r31, r32⟩ := KE.out _ b3
          obtain ⟨r41, r42⟩ := KE.out _ b4
          dsimp only [nE, eE] at r10 r20 r30 r40 r11 r12 r21 r22 r31 r32 r41 r42
          clear b1 b2 b3 b4
          have y8 := KJ.out w8 (Below.refl _ _)
          obtain ⟨_, _, y80, _⟩ := y8
          go_region_law
            (first
              | ((first
                  | refine step_append_sm entT (by decide) (fun x => rfl) eOne (by rfl) _ _ (by rfl) w8.heap.size (by rfl) (ownE1 w8) (by rfl) (HSRC.out.below (kb1 w8 _)) hm1 hn1 (kb1 w8 _).size ?_
                  | refine step_append_sm entT (by decide) (fun x => rfl) eOne (by rfl) _ _ (by rfl) w8.heap.size (by rfl) (ownE2 w8 _) (by rfl) (HSRC.out.below (kb2 w8 _ _)) hm1 hn1 (kb2 w8 _ _).size ?_
                  | refine step_append_sm entT (by decide) (fun x => rfl) eOne (by rfl) _ _ (by rfl) w8.heap.size (by rfl) (ownE3 w8 _) (by rfl) (HSRC.out.below (kb2 w8 _ _)) hm1 hn1 (kb2 w8 _ _).size ?_); intro a9 c9 w9 ho9 hb9 hg9; (first | (have hc9 := farE2 hg9; have hB9 : Hid (Below w8.heap.size w8 w9) := (kb2 w8 _ _).trans hb9) | (have hc9 := farE3 hg9; have hB9 : Hid (Below w8.heap.size w8 w9) := (kb2 w8 _ _).trans hb9) | (have hB9 : Hid (Below w8.heap.size w8 w9) := (kb1 w8 _).trans hb9)); (obtain ⟨x90, x91⟩ := KE.out _ hB9.out); (rw [Nat.zero_add, List.nil_append] at ho9); have HO9 := Lib.hid ho9; clear ho9 hb9)
              | ((first
                  | refine step_append_s entT (by decide) (by rfl) _ _ (by rfl) w8.heap.size (by rfl) (Hid.out HO9) (by rfl) (⟨⟨k, a5, n5, c5, body⟩, a6, 32, c6, tag⟩ : Fw) rfl (eOne _) hc9 hn2 hm2 hB9.out.size ?_
                  | refine step_append_s entT (by decide) (by rfl) _ _ (by rfl) w8.heap.size (by rfl) (OwnS.alloc (Hid.out HO9) _) (by rfl) (⟨⟨k, a5, n5, c5, body⟩, a6, 32, c6, tag⟩ : Fw) rfl (eOne _) (src_new w9 [.int .i64 k, .slice a5 n5 c5] 35) hn2 hm2 (hB9.out.alloc hB9.out.size _).size ?_); intro a10 c10 w10 ho10 hb10 hg10; (first | have hB10 : Hid (Below w8.heap.size w8 w10) := hB9.out.trans hb10 | have hB10 : Hid (Below w8.heap.size w8 w10) := (hB9.out.alloc hB9.out.size _).trans hb10); (obtain ⟨x100, x101⟩ := KE.out _ hB10.out); (obtain ⟨y100, y101, y102, y103⟩ := KJ.out _ hB10.out); have HO10 := Lib.hid ho10; clear ho10 hb10 hg10))
          all_goals
            have hnx := HRI8.out.next hB10.out HO10.out (⟨HO58.out, HO68.out, by show _ ≤ k; omega, by show k ≤ _; omega⟩ : FwOwn w8 w.heap.size ⟨⟨k, a5, n5, c5, body⟩, a6, 32, c6, tag⟩) rfl (by rw [HFM.out]; exact ⟨rfl, rfl, rfl⟩) (by rw [HP.out, HBL.out]; exact hlt) (by rw [HP.out]; exact HRD.out) HGD.out
            have HNX := Lib.hid hnx
            clear hnx HRI8 HRI7 HRI6 HRI5 HRI HO10 e5 e6 e7 y80 r10 r20 r30 r40 r11 r12 r21 r22 r31 r32 r41 r42 hne
            go_wp2
            go_roundw
            case rel => exact ⟨j + 1, a10, c10, a6, c6, _, by omega, by rw [HP'.out], HNX⟩
            case measure => simp [intOf]; omega
        · have d : (tag == tagB key (mgF (fm b) j)) = false := by rw [beq_eq_false_iff_ne]; exact htag
          rw [d]
          have he : EntE key b j 29 := ⟨HRI8.out.up, HRI8.out.good, .inr (.inr ⟨by rw [HP.out, HBL.out]; exact hlt, by rw [HP.out]; exact HRD.out, by unfold ch.Good; rw [show (fm b j).t = tag by rw [HFM.out]]; exact htag, rfl⟩)⟩
          have HEx := Lib.hid he
          have HRIx := HRI8
          have HBx := Lib.hid (H.out.below HRIx.out.below)
          clear htag d he HRI7 HRI6 HRI5 HRI HRI8
          generalize w8 = wx at *
          have v0 : wx.cell? ⟨w.heap.size, 0, none⟩ = some (.int .i64 room) := HRIx.out.box.cell 0
          have v1 : wx.cell? ⟨w.heap.size, 1, none⟩ = some (.int .i64 s) := HRIx.out.box.cell 1
          have v2 : wx.cell? ⟨w.heap.size, 2, none⟩ = some (.slice a n c) := HRIx.out.box.cell 2
          go_wp2_with fail
          refine (dv.rcut_any room s a n c b (p : Int) _ HBx.out hn hs (by omega) (by omega)).mono ?_
          intro e w9 hpost
          obtain ⟨a9, c9, rfl, hb9, hfin⟩ := HRIx.out.done HBL.out HA.out HEx.out (e := e) (V := w9) (by rw [HP.out]; exact hpost)
          have HFIN := Lib.hid hfin
          have hblk9 := HRIx.out.blk.below hb9
          have hres9 := HRIx.out.res.below hb9
          have j0 : w9.cell? ⟨jb, 0, none⟩ = some (.slice al j cl) := hblk9.cell 0
          have j1 : w9.cell? ⟨jb, 1, none⟩ = some (.slice ta 32 tc) := hblk9.cell 1
          have j2 : w9.cell? ⟨jb, 2, none⟩ = some (.int .i64 0) := hblk9.cell 2
          have j3 : w9.cell? ⟨jb, 3, none⟩ = some (.int .i64 0) := hblk9.cell 3
          have j4 : w9.cell? ⟨jb, 4, none⟩ = some (.slice none 0 0) := hblk9.cell 4
          have k2 : w9.frozen? ⟨jb, 2, none⟩ = false := hblk9.free 2
          have k3 : w9.frozen? ⟨jb, 3, none⟩ = false := hblk9.free 3
          have k4 : w9.frozen? ⟨jb, 4, none⟩ = false := hblk9.free 4
          have r0 : w9.cell? ⟨w.heap.size + 1, 0, none⟩ = some (.slice none 0 0) := hres9.cell 0
          have r1 : w9.cell? ⟨w.heap.size + 1, 1, none⟩ = some (.slice none 0 0) := hres9.cell 1
          have r2 : w9.cell? ⟨w.heap.size + 1, 2, none⟩ = some (.int .i64 0) := hres9.cell 2
          have r3 : w9.cell? ⟨w.heap.size + 1, 3, none⟩ = some (.int .i64 0) := hres9.cell 3
          have r4 : w9.cell? ⟨w.heap.size + 1, 4, none⟩ = some (.slice none 0 0) := hres9.cell 4
          have t0 : w9.frozen? ⟨w.heap.size + 1, 0, none⟩ = false := hres9.free 0
          have t1 : w9.frozen? ⟨w.heap.size + 1, 1, none⟩ = false := hres9.free 1
          have t2 : w9.frozen? ⟨w.heap.size + 1, 2, none⟩ = false := hres9.free 2
          have t3 : w9.frozen? ⟨w.heap.size + 1, 3, none⟩ = false := hres9.free 3
          have t4 : w9.frozen? ⟨w.heap.size + 1, 4, none⟩ = false := hres9.free 4
          have hge := HRIx.out.ge
          have hjr : ¬ jb = w.heap.size + 1 := by omega
          have hrj : ¬ w.heap.size + 1 = jb := by omega
          clear hpost hfin hblk9 hres9 hb9 v0 v1 v2 hge
          go_wp2
          refine bodyPost_ret (v := jv al j cl ta tc room (min s (atF b j)) a9 (atF b j) c9) (by simp [results, Try.results34, go_sem, jv, r0, r1, r2, r3, r4]) rfl ?_
          exact HFIN.out _ (tn_eight _ _ _ _ _ _ _ _ _ _ _)
      · have d : (rdE b p != 0) = true := by rw [bne_iff_ne]; exact hE
        have he : EntE key b j (rdE b p) := ⟨HRI5.out.up, HRI5.out.good, .inr (.inl ⟨by rw [HP.out, HBL.out]; exact hlt, by rw [HP.out], hE⟩)⟩
        have hW6 : Below w5.heap.size w5 (w5.alloc (.cells #[.int .i64 k, .slice a5 n5 c5] 35)) := (Below.refl _ _).alloc (Nat.le_refl _) _
        have HRIx := Lib.hid (HRI5.out.far hW6)
        have HEx := Lib.hid he
        have HBx := Lib.hid (H.out.below HRIx.out.below)
        clear hne heq ho5 ho6 hb5 he hW6 f2 HRI HRI5
        have v0 : (w5.alloc (.cells #[.int .i64 k, .slice a5 n5 c5] 35)).cell? ⟨w.heap.size, 0, none⟩ = some (.int .i64 room) := HRIx.out.box.cell 0
        have v1 : (w5.alloc (.cells #[.int .i64 k, .slice a5 n5 c5] 35)).cell? ⟨w.heap.size, 1, none⟩ = some (.int .i64 s) := HRIx.out.box.cell 1
        have v2 : (w5.alloc (.cells #[.int .i64 k, .slice a5 n5 c5] 35)).cell? ⟨w.heap.size, 2, none⟩ = some (.slice a n c) := HRIx.out.box.cell 2
        generalize rdE b p = E at d HEx hE ⊢
        clear hE
        go_wp2_with fail
        refine (dv.rcut_any room s a n c b (p : Int) _ HBx.out hn hs (by omega) (by omega)).mono ?_
        intro e w9 hpost
        obtain ⟨a9, c9, rfl, hb9, hfin⟩ := HRIx.out.done HBL.out HA.out HEx.out (e := e) (V := w9) (by rw [HP.out]; exact hpost)
        have HFIN := Lib.hid hfin
        have hblk9 := HRIx.out.blk.below hb9
        have hres9 := HRIx.out.res.below hb9
        have j0 : w9.cell? ⟨jb, 0, none⟩ = some (.slice al j cl) := hblk9.cell 0
        have j1 : w9.cell? ⟨jb, 1, none⟩ = some (.slice ta 32 tc) := hblk9.cell 1
        have j2 : w9.cell? ⟨jb, 2, none⟩ = some (.int .i64 0) := hblk9.cell 2
        have j3 : w9.cell? ⟨jb, 3, none⟩ = some (.int .i64 0) := hblk9.cell 3
        have j4 : w9.cell? ⟨jb, 4, none⟩ = some (.slice none 0 0) := hblk9.cell 4
        have k2 : w9.frozen? ⟨jb, 2, none⟩ = false := hblk9.free 2
        have k3 : w9.frozen? ⟨jb, 3, none⟩ = false := hblk9.free 3
        have k4 : w9.frozen? ⟨jb, 4, none⟩ = false := hblk9.free 4
        have r0 : w9.cell? ⟨w.heap.size + 1, 0, none⟩ = some (.slice none 0 0) := hres9.cell 0
        have r1 : w9.cell? ⟨w.heap.size + 1, 1, none⟩ = some (.slice none 0 0) := hres9.cell 1
        have r2 : w9.cell? ⟨w.heap.size + 1, 2, none⟩ = some (.int .i64 0) := hres9.cell 2
        have r3 : w9.cell? ⟨w.heap.size + 1, 3, none⟩ = some (.int .i64 0) := hres9.cell 3
        have r4 : w9.cell? ⟨w.heap.size + 1, 4, none⟩ = some (.slice none 0 0) := hres9.cell 4
        have t0 : w9.frozen? ⟨w.heap.size + 1, 0, none⟩ = false := hres9.free 0
        have t1 : w9.frozen? ⟨w.heap.size + 1, 1, none⟩ = false := hres9.free 1
        have t2 : w9.frozen? ⟨w.heap.size + 1, 2, none⟩ = false := hres9.free 2
        have t3 : w9.frozen? ⟨w.heap.size + 1, 3, none⟩ = false := hres9.free 3
        have t4 : w9.frozen? ⟨w.heap.size + 1, 4, none⟩ = false := hres9.free 4
        have hge := HRIx.out.ge
        have hjr : ¬ jb = w.heap.size + 1 := by omega
        have hrj : ¬ w.heap.size + 1 = jb := by omega
        clear hpost hfin hblk9 hres9 hb9 v0 v1 v2 hge
        go_wp2
        refine bodyPost_ret (v := jv al j cl ta tc room (min s (atF b j)) a9 (atF b j) c9) (by simp [results, Try.results34, go_sem, jv, r0, r1, r2, r3, r4]) rfl ?_
        exact HFIN.out _ (tn_eight _ _ _ _ _ _ _ _ _ _ _)
    · have he : EntE key b j 0 := ⟨HRI.out.up, HRI.out.good, .inl ⟨by rw [HP.out, HBL.out]; omega, rfl⟩⟩
      have HEx := Lib.hid he
      have HRIx := HRI
      have HBx := Lib.hid (H.out.below HRIx.out.below)
      clear he HRI f2
      generalize wr = wx at *
      have v0 : wx.cell? ⟨w.heap.size, 0, none⟩ = some (.int .i64 room) := HRIx.out.box.cell 0
      have v1 : wx.cell? ⟨w.heap.size, 1, none⟩ = some (.int .i64 s) := HRIx.out.box.cell 1
      have v2 : wx.cell? ⟨w.heap.size, 2, none⟩ = some (.slice a n c) := HRIx.out.box.cell 2
      go_wp2_with fail
      refine (dv.rcut_any room s a n c b (p : Int) _ HBx.out hn hs (by omega) (by omega)).mono ?_
      intro e w9 hpost
      obtain ⟨a9, c9, rfl, hb9, hfin⟩ := HRIx.out.done HBL.out HA.out HEx.out (e := e) (V := w9) (by rw [HP.out]; exact hpost)
      have HFIN := Lib.hid hfin
      have hblk9 := HRIx.out.blk.below hb9
      have hres9 := HRIx.out.res.below hb9
      have j0 : w9.cell? ⟨jb, 0, none⟩ = some (.slice al j cl) := hblk9.cell 0
      have j1 : w9.cell? ⟨jb, 1, none⟩ = some (.slice ta 32 tc) := hblk9.cell 1
      have j2 : w9.cell? ⟨jb, 2, none⟩ = some (.int .i64 0) := hblk9.cell 2
      have j3 : w9.cell? ⟨jb, 3, none⟩ = some (.int .i64 0) := hblk9.cell 3
      have j4 : w9.cell? ⟨jb, 4, none⟩ = some (.slice none 0 0) := hblk9.cell 4
      have k2 : w9.frozen? ⟨jb, 2, none⟩ = false := hblk9.free 2
      have k3 : w9.frozen? ⟨jb, 3, none⟩ = false := hblk9.free 3
      have k4 : w9.frozen? ⟨jb, 4, none⟩ = false := hblk9.free 4
      have r0 : w9.cell? ⟨w.heap.size + 1, 0, none⟩ = some (.slice none 0 0) := hres9.cell 0
      have r1 : w9.cell? ⟨w.heap.size + 1, 1, none⟩ = some (.slice none 0 0) := hres9.cell 1
      have r2 : w9.cell? ⟨w.heap.size + 1, 2, none⟩ = some (.int .i64 0) := hres9.cell 2
      have r3 : w9.cell? ⟨w.heap.size + 1, 3, none⟩ = some (.int .i64 0) := hres9.cell 3
      have r4 : w9.cell? ⟨w.heap.size + 1, 4, none⟩ = some (.slice none 0 0) := hres9.cell 4
      have t0 : w9.frozen? ⟨w.heap.size + 1, 0, none⟩ = false := hres9.free 0
      have t1 : w9.frozen? ⟨w.heap.size + 1, 1, none⟩ = false := hres9.free 1
      have t2 : w9.frozen? ⟨w.heap.size + 1, 2, none⟩ = false := hres9.free 2
      have t3 : w9.frozen? ⟨w.heap.size + 1, 3, none⟩ = false := hres9.free 3
      have t4 : w9.frozen? ⟨w.heap.size + 1, 4, none⟩ = false := hres9.free 4
      have hge := HRIx.out.ge
      have hjr : ¬ jb = w.heap.size + 1 := by omega
      have hrj : ¬ w.heap.size + 1 = jb := by omega
      clear hpost hfin hblk9 hres9 hb9 v0 v1 v2 hge
      go_wp2
      refine bodyPost_ret (v := jv al j cl ta tc room (min s (atF b j)) a9 (atF b j) c9) (by simp [results, Try.results34, go_sem, jv, r0, r1, r2, r3, r4]) rfl ?_
      exact HFIN.out _ (tn_eight _ _ _ _ _ _ _ _ _ _ _)

end Go.Proofs.Ytejhncdempfmjaa.jo
