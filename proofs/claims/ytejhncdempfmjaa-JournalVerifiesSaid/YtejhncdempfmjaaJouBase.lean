/-
  Layer 49: the program's journal in memory; the contracts of its small methods, and of Append.
-/
import Derived.Test.YtejhncdempfmjaaJouMath
import Derived.Test.YtejhncdempfmjaaMDev
namespace Go.Proofs.Ytejhncdempfmjaa.jo
open Go.ChangeShapes Go.WideShapes Go.ChangeAt Go.RowKit
open bs en ch
open Go.Proofs.Ytejhncdempfmjaa.sh (tagB ptag_any rtag_any)
open Go.Proofs.Ytejhncdempfmjaa.dv (Dev clampN kept apE APd)
set_option linter.unusedVariables false

/-- What a call turns: no block that was there, but those of p. -/
structure Tn (w w' : World) (p : Nat → Prop) : Prop where
  os : w'.os = w.os
  tape : w'.tape = w.tape
  output : w'.output = w.output
  size : w.heap.size ≤ w'.heap.size
  block : ∀ i, i < w.heap.size → ¬ p i → w'.heap[i]? = w.heap[i]?
theorem Tn.of_below {w w' : World} (h : Below w.heap.size w w') (p : Nat → Prop) : Tn w w' p := ⟨h.os, h.tape, h.output, h.size, fun i hi _ => h.block i hi⟩
theorem Tn.of_turned {w w' : World} {d : Nat} {row : Option Nat} (h : Turned w w' d row) : Tn w w' (fun i => i = d ∨ row = some i) := ⟨h.os, h.tape, h.output, h.size, fun i hi hp => h.block i hi (fun e => hp (.inl e)) (fun e => hp (.inr e))⟩
theorem Tn.trans {w w' w'' : World} {p q r : Nat → Prop} (h : Tn w w' p) (k : Tn w' w'' q) (hp : ∀ i, p i → r i) (hq : ∀ i, i < w.heap.size → q i → r i) : Tn w w'' r :=
  ⟨k.os.trans h.os, k.tape.trans h.tape, k.output.trans h.output, Nat.le_trans h.size k.size, fun i hi hn => (k.block i (Nat.lt_of_lt_of_le hi h.size) (fun e => hn (hq i hi e))).trans (h.block i hi (fun e => hn (hp i e)))⟩
theorem Tn.setCell (w : World) (g i : Nat) (v : Value) : Tn w (w.setCell ⟨g, i, none⟩ v) (fun j => j = g) := ⟨rfl, rfl, rfl, by simp [World.setCell], fun j hj hp => Below.heap_setCell w ⟨g, i, none⟩ v j hp⟩
theorem Tn.drewN (w : World) (m : Nat) (p : Nat → Prop) : Tn w (w.drewN m) p := ⟨rfl, rfl, rfl, Nat.le_refl _, fun _ _ _ => rfl⟩
theorem Tn.below {w w' : World} {p : Nat → Prop} {B : Nat} (h : Tn w w' p) (hB : B ≤ w.heap.size) (hp : ∀ i, p i → B ≤ i) : Below B w w' :=
  ⟨h.os, h.tape, h.output, h.size, fun i hi => h.block i (by omega) (fun e => by have := hp i e; omega)⟩
theorem Tn.blk {w w' : World} {p : Nat → Prop} (h : Tn w w' p) {g : Nat} {cs : Array Value} {t : TypeId} (hb : Blk w g cs t) (hg : ¬ p g) : Blk w' g cs t := hb.of (h.block g hb.lt hg)
theorem Tn.own {w w' : World} {p : Nat → Prop} (h : Tn w w' p) {base e a n c l} (ho : OwnB w base e a n c l) (hg : ∀ i, blockOf a = some i → ¬ p i) : OwnB w' base e a n c l := ho.of (fun i hi => h.block i (ho.blockLt hi).2 (hg i hi))
theorem Tn.dev {w w' : World} {p : Nat → Prop} (h : Tn w w' p) {base dd room s a n c l} (hd : Dev w base dd room s a n c l) (h1 : ¬ p dd) (h2 : ∀ i, blockOf a = some i → ¬ p i) : Dev w' base dd room s a n c l :=
  ⟨h.blk hd.blk h1, h.own hd.own h2, hd.ge, hd.le, hd.fit, hd.most⟩
theorem Tn.bytes {w w' : World} {p : Nat → Prop} (h : Tn w w' p) {a n c l} (hb : Bytes w a n c l) (hg : ∀ i, blockOf a = some i → ¬ p i) : Bytes w' a n c l := by
  refine ⟨hb.len, hb.cap, hb.most, hb.all, hb.nil, ?_⟩
  rcases hb.at' with h0 | ⟨b, off, ha, hc⟩
  · exact .inl h0
  · refine .inr ⟨b, off, ha, fun i hi => ?_⟩
    have h1 := hc i hi
    have hlt := World.block_lt_of_cell? w _ h1
    have h2 := h.block b hlt (hg b (by rw [ha]; rfl))
    rw [← h1]
    simp only [World.cell?, h2]

def jCells (cnt sz : Nat) (ta : Option Addr) (tc : Nat) (ka : Option Addr) (kn kc dd : Nat) : Array Value := #[.int .i64 cnt, .int .i64 sz, .slice ta 32 tc, .slice ka kn kc, .pointer (some ⟨dd, 0, none⟩)]
/-- A journal in memory: on the device dd, whose bytes lie in the row ra, all of them right. -/
structure Jou (w : World) (base jb dd room s : Nat) (ra : Option Nat) (key l : List Int) (cnt : Nat) : Prop where
  ex : ∃ (a : Option Addr) (c : Nat) (ta : Option Addr) (tc : Nat) (ka : Option Addr) (kn kc : Nat), blockOf a = ra ∧ Blk w jb (jCells cnt l.length ta tc ka kn kc dd) 108 ∧ Dev w base dd room s a l.length c l ∧
    OwnB w base 5 ta 32 tc (ahd (fm l) cnt) ∧ OwnB w base 5 ka kn kc key ∧ kn ≤ 100000 ∧ (∀ g, ra = some g → blockOf ta ≠ some g) ∧ (∀ g, ra = some g → blockOf ka ≠ some g)
  right : EntE key l cnt 0
  ge : base ≤ jb
theorem Jou.below {w w' : World} {base jb dd room s : Nat} {ra : Option Nat} {key l : List Int} {cnt : Nat} (h : Jou w base jb dd room s ra key l cnt) (hb : Below w.heap.size w w') : Jou w' base jb dd room s ra key l cnt := by
  obtain ⟨⟨a, c, ta, tc, ka, kn, kc, h1, h2, h3, h4, h5, h6, h7, h8⟩, hr, hg⟩ := h
  exact ⟨⟨a, c, ta, tc, ka, kn, kc, h1, h2.below hb, h3.far hb, h4.below hb, h5.below hb, h6, h7, h8⟩, hr, hg⟩
theorem Jou.drewN {w : World} {base jb dd room s : Nat} {ra : Option Nat} {key l : List Int} {cnt : Nat} (h : Jou w base jb dd room s ra key l cnt) (m : Nat) : Jou (w.drewN m) base jb dd room s ra key l cnt := h.below (below_drewN (Below.refl _ _) m)
theorem Jou.all {w : World} {base jb dd room s : Nat} {ra : Option Nat} {key l : List Int} {cnt : Nat} (h : Jou w base jb dd room s ra key l cnt) : AllB l := by
  obtain ⟨⟨a, c, ta, tc, ka, kn, kc, h1, h2, h3, h4, h5, h6, h7, h8⟩, hr, hg⟩ := h
  exact h3.own.all
theorem Jou.fit {w : World} {base jb dd room s : Nat} {ra : Option Nat} {key l : List Int} {cnt : Nat} (h : Jou w base jb dd room s ra key l cnt) : l.length ≤ room ∧ room ≤ 65536 ∧ s ≤ l.length ∧ 36 * cnt ≤ l.length := by
  have ha := h.all
  obtain ⟨⟨a, c, ta, tc, ka, kn, kc, h1, h2, h3, h4, h5, h6, h7, h8⟩, hr, hg⟩ := h
  have h7 := ente_at ha hr
  have h8 := at_ge (l := l) cnt
  exact ⟨h3.fit, h3.most, h3.le, by omega⟩
/-- The blocks of a journal that are turned. -/
def foot (jb dd : Nat) (ra : Option Nat) (i : Nat) : Prop := i = jb ∨ i = dd ∨ ra = some i
theorem Jou.footGe {w : World} {base jb dd room s : Nat} {ra : Option Nat} {key l : List Int} {cnt : Nat} (h : Jou w base jb dd room s ra key l cnt) {i : Nat} (hi : foot jb dd ra i) : base ≤ i ∧ i < w.heap.size := by
  obtain ⟨⟨a, c, ta, tc, ka, kn, kc, h1, h2, h3, h4, h5, h6, h7, h8⟩, hr, hg⟩ := h
  rcases hi with rfl | rfl | hi
  · exact ⟨hg, h2.lt⟩
  · exact ⟨h3.ge, h3.blk.lt⟩
  · rw [← h1] at hi; exact h3.own.blockLt hi

set_option maxRecDepth 100000 in
set_option maxHeartbeats 1000000 in
theorem count_any {w : World} {base jb dd room s : Nat} {ra : Option Nat} {key l : List Int} {cnt : Nat} (h : Jou w base jb dd room s ra key l cnt) : Calls Try.prog 42 #[.pointer (some ⟨jb, 0, none⟩)] w fun e w' => e = .returned (.int .i64 cnt) ∧ w = w' := by
  obtain ⟨⟨a, c, ta, tc, ka, kn, kc, h1, h2, h3, h4, h5, h6, h7, h8⟩, hr, hg⟩ := h
  have c0 : w.cell? ⟨jb, 0, none⟩ = some (.int .i64 cnt) := h2.cell 0
  clear h1 h2 h3 h4 h5 h6 h7 h8 hr hg
  go_enter Try.func42, Try.ntmps42
  go_wp2
  go_ret
  exact ⟨rfl, rfl⟩
set_option maxRecDepth 100000 in
set_option maxHeartbeats 1000000 in
theorem jtag_any {w : World} {base jb dd room s : Nat} {ra : Option Nat} {key l : List Int} {cnt : Nat} (h : Jou w base jb dd room s ra key l cnt) : Calls Try.prog 43 #[.pointer (some ⟨jb, 0, none⟩)] w (APost w w.heap.size 32 (ahd (fm l) cnt)) := by
  obtain ⟨⟨a, c, ta, tc, ka, kn, kc, h1, h2, h3, h4, h5, h6, h7, h8⟩, hr, hg⟩ := h
  have c2 : w.cell? ⟨jb, 2, none⟩ = some (.slice ta 32 tc) := h2.cell 2
  have H4 := Lib.hid h4.bytes
  clear h1 h2 h3 h4 h5 h6 h7 h8 hr hg
  go_enter Try.func43, Try.ntmps43
  go_wp2_with fail
  refine (clone_any ta 32 tc _ _ H4.out (by omega)).mono ?_
  rintro e w1 ⟨a1, c1, rfl, ho, hb⟩
  have HO := Lib.hid ho; have HB := Lib.hid hb; clear ho hb
  go_wp2
  go_ret
  exact ⟨a1, c1, rfl, HO.out, HB.out⟩
set_option maxRecDepth 100000 in
set_option maxHeartbeats 1000000 in
theorem log_any {w : World} {base jb dd room s : Nat} {ra : Option Nat} {key l : List Int} {cnt : Nat} (h : Jou w base jb dd room s ra key l cnt) : Calls Try.prog 41 #[.pointer (some ⟨jb, 0, none⟩)] w (APost w w.heap.size l.length l) := by
  have hf := h.fit
  obtain ⟨⟨a, c, ta, tc, ka, kn, kc, h1, h2, h3, h4, h5, h6, h7, h8⟩, hr, hg⟩ := h
  have c1 : w.cell? ⟨jb, 1, none⟩ = some (.int .i64 l.length) := h2.cell 1
  have c4 : w.cell? ⟨jb, 4, none⟩ = some (.pointer (some ⟨dd, 0, none⟩)) := h2.cell 4
  have H2 := Lib.hid h2; have H3 := Lib.hid h3
  clear h1 h2 h3 h4 h5 h6 h7 h8 hr hg
  go_enter Try.func41, Try.ntmps41
  go_wp2_with fail
  refine (dv.bytes_any H3.out).mono ?_
  rintro e w1 ⟨a1, c9, rfl, ho, hb⟩
  have k1 : w1.cell? ⟨jb, 1, none⟩ = some (.int .i64 l.length) := (H2.out.below hb).cell 1
  have hcap := ho.bytes.cap; have hmost := ho.bytes.most
  have HO := Lib.hid ho; have HB := Lib.hid hb; clear ho hb c1 c4
  go_wp2
  go_ret
  exact ⟨a1, c9, rfl, HO.out, HB.out⟩
set_option maxRecDepth 100000 in
set_option maxHeartbeats 1000000 in
theorem jsync_any {w : World} {base jb dd room s : Nat} {ra : Option Nat} {key l : List Int} {cnt : Nat} (h : Jou w base jb dd room s ra key l cnt) : Calls Try.prog 46 #[.pointer (some ⟨jb, 0, none⟩)] w fun e w' => e = .returned (.tuple #[]) ∧ Tn w w' (foot jb dd ra) ∧ Jou w' base jb dd room l.length ra key l cnt := by
  obtain ⟨⟨a, c, ta, tc, ka, kn, kc, h1, h2, h3, h4, h5, h6, h7, h8⟩, hr, hg⟩ := h
  have c4 : w.cell? ⟨jb, 4, none⟩ = some (.pointer (some ⟨dd, 0, none⟩)) := h2.cell 4
  have hT : Tn w (w.setCell ⟨dd, 1, none⟩ (.int .i64 l.length)) (fun i => i = dd) := Tn.setCell w dd 1 _
  have hne : jb ≠ dd := fun e => by
    have := h2
    rw [e, Blk, h3.blk] at this
    simp only [Option.some.injEq, Obj.cells.injEq] at this
    exact absurd this.2.1 (by decide)
  have hJ : Jou (w.setCell ⟨dd, 1, none⟩ (.int .i64 l.length)) base jb dd room l.length ra key l cnt :=
    ⟨⟨a, c, ta, tc, ka, kn, kc, h1, hT.blk h2 hne, h3.setSure l.length (Nat.le_refl _), hT.own h4 (fun i hi e => h4.notBlk h3.blk (by decide) (by rw [hi, e])), hT.own h5 (fun i hi e => h5.notBlk h3.blk (by decide) (by rw [hi, e])), h6, h7, h8⟩, hr, hg⟩
  have HJ := Lib.hid hJ; have HT := Lib.hid hT; have H3 := Lib.hid h3
  clear h1 h2 h3 h4 h5 h6 h7 h8 hr hg hT hJ hne
  go_enter Try.func46, Try.ntmps46
  go_wp2_with fail
  refine (dv.sync_any H3.out).mono ?_
  rintro e w1 ⟨rfl, rfl⟩
  go_wp2
  go_end0
  exact ⟨rfl, ⟨HT.out.os, HT.out.tape, HT.out.output, HT.out.size, fun i hi hp => HT.out.block i hi (fun e => hp (.inr (.inl e)))⟩, HJ.out⟩

end Go.Proofs.Ytejhncdempfmjaa.jo
