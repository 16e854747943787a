/-
  Layer 47: first tags, the document's next tag, entries that come in.
-/
import Derived.Test.YtejhncdempfmjaaChainRMsg
import Derived.Test.YtejhncdempfmjaaMSha
import Derived.Test.YtejhncdempfmjaaMEntry
import Derived.Test.YtejhncdempfmjaaStructs
namespace Go.Proofs.Ytejhncdempfmjaa.ch
open Go.ChangeShapes Go.WideShapes Go.ChangeAt Go.RowKit
open bs en
open Go.Proofs.Ytejhncdempfmjaa.sh (tagB ptag_any rtag_any)
set_option linter.unusedVariables false

/-- The first tag. -/
def zt : List Int := List.replicate 32 0

set_option maxRecDepth 100000 in
theorem first_any (w : World) : Calls Try.prog 17 #[] w (APost w w.heap.size 32 zt) := by
  go_enter Try.func17, Try.ntmps17
  go_wp2_with (at_make; refine wpList_make_b byteT rfl _ _ rfl w.heap.size .i64 .i64 32 32 32 rfl rfl rfl rfl ?_ ?_ ?_)
  · omega
  · exact Nat.le_refl _
  intro w1 ho1 hb1 _
  have HO1 := Lib.hid ho1; have HB1 := Lib.hid hb1
  clear ho1 hb1
  go_wp2
  go_ret
  exact ⟨_, _, rfl, HO1.out, HB1.out⟩

set_option maxRecDepth 100000 in
theorem rfirst_any (w : World) : Calls Try.prog 18 #[] w (APost w w.heap.size 32 zt) := by
  go_enter Try.func18, Try.ntmps18
  go_wp2_with (at_make; refine wpList_make_b byteT rfl _ _ rfl w.heap.size .i64 .i64 32 32 32 rfl rfl rfl rfl ?_ ?_ ?_)
  · omega
  · exact Nat.le_refl _
  intro w1 ho1 hb1 _
  have HO1 := Lib.hid ho1; have HB1 := Lib.hid hb1
  clear ho1 hb1
  go_wp2
  go_ret
  exact ⟨_, _, rfl, HO1.out, HB1.out⟩

/-- What a tag is of. -/
def mg (ahead : List Int) (N k : Int) (l : List Int) : List Int := if msE ahead.length k l.length = 0 then msB ahead N k l else []
theorem be8_length (N : Int) : (be8 N).length = 8 := rfl
theorem mg_len (ahead : List Int) (N k : Int) (l : List Int) : (mg ahead N k l).length ≤ 1065 := by
  unfold mg msE
  by_cases h : ahead.length = 32
  · rw [if_pos h]
    by_cases hz : payE k l.length = 0
    · rw [if_pos hz]
      have := payE_cases k l.length
      simp only [msB, List.length_append, List.length_cons, be8_length, h]
      omega
    · rw [if_neg hz]; simp
  · rw [if_neg h]; simp

set_option maxRecDepth 100000 in
set_option maxHeartbeats 1000000 in
theorem next_any (a0 : Option Addr) (n0 c0 : Nat) (key : List Int) (a' : Option Addr) (n' c' : Nat) (ah : List Int) (N : Int) (k : Int) (a : Option Addr) (n c : Nat) (l : List Int) (w : World) (h0 : Bytes w a0 n0 c0 key) (h' : Bytes w a' n' c' ah) (h : Bytes w a n c l) (k0 : -9223372036854775808 ≤ k) (k1 : k ≤ 9223372036854775807) (N0 : 0 ≤ N) (N1 : N ≤ 9223372036854775807) (hk : n0 ≤ 100000) :
    Calls Try.prog 51 #[.slice a0 n0 c0, .slice a' n' c', .int .i64 N, .agg #[.int .i64 k, .slice a n c]] w (APost w w.heap.size 32 (tagB key (mg ah N k l))) := by
  have H0 := Lib.hid h0; have H1 := Lib.hid h'; have H2 := Lib.hid h
  clear h0 h' h
  go_enter Try.func51, Try.ntmps51
  go_wp2_with fail
  have HB0 : Hid (Below w.heap.size w (w.alloc (.cells #[.int .i64 k, .slice a n c] 35))) := Lib.hid ((Below.refl _ _).alloc (Nat.le_refl _) _)
  refine (rmessage_any a' n' c' ah N k a n c l _ (H1.out.below HB0.out) (H2.out.below HB0.out) k0 k1 N0 (by omega)).mono ?_
  rintro e w1 ⟨hb1, a1, m1, c1, r1, rfl, ho1, hr1⟩
  have HB1 := Lib.hid (HB0.out.trans (hb1.mono HB0.out.size))
  have hr2 : r1 = mg ah N k l := by rw [hr1, mg]
  have HO1 := Lib.hid ho1
  have hm1 : m1 ≤ 1065 := by rw [← ho1.len, hr2]; exact mg_len _ _ _ _
  have HR := Lib.hid hr2
  clear hb1 ho1 hr1 hr2
  go_wp2_with fail
  refine (rtag_any a0 n0 c0 key _ _ _ r1 _ (H0.out.below HB1.out) HO1.out.bytes hk (by omega)).mono ?_
  rintro e w2 ⟨a2, c2, rfl, ho2, hb2⟩
  have HO2 := Lib.hid (ho2.mono HB1.out.size); have HB2 := Lib.hid (HB1.out.trans (hb2.mono HB1.out.size))
  clear ho2 hb2
  go_wp2
  go_ret
  exact ⟨_, _, rfl, by rw [← HR.out]; exact HO2.out, HB2.out⟩

/-- An entry in memory. -/
structure EntAt (w : World) (b o : Nat) (x : Ent) : Prop where
  c0 : w.cell? ⟨b, o, none⟩ = some (.int .i64 x.k)
  c1 : w.cell? ⟨b, o + 1, none⟩ = some (.slice x.a x.n x.c)
  rd : x.Rd w
theorem entStays : Stays EntAt := fun w w' b o x h hb hbel =>
  ⟨by rw [hbel.cell (p := ⟨b, o, none⟩) hb]; exact h.c0, by rw [hbel.cell (p := ⟨b, o + 1, none⟩) hb]; exact h.c1, h.rd.1, h.rd.2.below hbel⟩

set_option maxRecDepth 100000 in
theorem open_ents {H : Type} {enc : TypeId × Value → H} {w : World} {r : Reach} {b0 : Nat} {v : Value} {d : DataW H} {p : List MemPlace}
    (hv : Value.okWide Try.prog w r b0 23 v) (h : DataW.Trod enc Try.prog w 0 (fun _ => true) true 23 v d p) : ∃ a n c l, v = .slice a n c ∧ Recs 2 EntAt w a n c l := by
  obtain ⟨a, n, c, rfl⟩ := okWide_slice Try.underlying23 hv
  obtain ⟨fuel, hf⟩ := h
  obtain ⟨l, hl, _⟩ := open_recs 2 EntAt Try.underlying23 (by kernel_rfl) (by decide) (fun m cs y b o ht hlen hc => by
    obtain ⟨xs, n', _, _, _, hxl, hg⟩ := DataW.trod_struct Try.underlying35 ht
    have hxl' : xs.length = 2 := hxl
    match cs, hlen, hc with
    | [v0, v1], _, hc =>
      match xs, hxl' with
      | [y0, y1], _ =>
        have ci : Try.prog.cellsOf 3 = 1 := by kernel_rfl
        have cb : Try.prog.cellsOf 22 = 1 := by kernel_rfl
        have g0 := hg 0 _ rfl
        have g1 := hg 1 _ rfl
        simp [ci, cb] at g0 g1
        obtain ⟨z0, h0, _, w0⟩ := DataW.trod_int Try.underlying3 g0
        obtain ⟨a1, n1, c1, l1, h1, hb1, _, _⟩ := open_bytes_cell Try.underlying22 Try.underlying5 (by kernel_rfl) g1
        simp only [List.cons.injEq, and_true] at h0
        subst h0 h1
        exact ⟨⟨z0, a1, n1, c1, l1⟩, hc 0 (by decide), hc 1 (by decide), in64 w0, hb1⟩) hf
  exact ⟨a, n, c, l, rfl, hl⟩

end Go.Proofs.Ytejhncdempfmjaa.ch
