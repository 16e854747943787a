/-
  Layer 19: slices of values of the call's own; slices.Clone; the document's Get.
-/
import Derived.Test.YtpdicfekhghfeaaValGet
import Derived.Test.YtpdicfekhghfeaaTreesOwn
import Derived.Deep.CutRange
import Derived.Lib.SliceRun
namespace Go.Proofs.Ytpdicfekhghfeaa.va
open Go.ChangeShapes Go.WideShapes Go.ChangeAt Go.RowKit
open bs tr
set_option linter.unusedVariables false

theorem cells_len (x : Vn) : (Vn.cells x).length = 2 := rfl
theorem cells_one (x : Vn) : ∀ u ∈ Vn.cells x, u.oneCell' = true := by
  intro u hu
  simp [Vn.cells] at hu
  rcases hu with rfl | rfl <;> rfl
/-- Values in blocks of the call's own. -/
abbrev OwnV (w : World) (base : Nat) (a : Option Addr) (n c : Nat) (l : List Vn) : Prop := OwnS 2 Vn.cells w base 27 a n c l
theorem recT : RecT Try.prog 25 27 (.agg #[.int .i64 0, .slice none 0 0]) 2 32 := ⟨Try.underlying25, by kernel_rfl, rfl⟩

theorem OwnV.reads {S : Nat → Prop} {w : World} {base : Nat} {a n c} {l : List Vn} (h : OwnV w base a n c l) (hl : ∀ x ∈ l, x.Rs S w) : VSs S w a n c (l.map Vn.tr) := by
  refine Recs.map (E := fun w b o x => VAs S w b o (Vn.tr x)) Vn.tr ?_ (fun b o x _ _ h => h)
  refine OwnS.recs h (by decide) cells_len _ (fun b o x hx hc => ?_)
  exact VAs.intro (hl x hx) (by simpa using hc 0 _ rfl) (by simpa using hc 1 _ rfl)

/-- The nodes of a slice that came in. -/
theorem VSs.nodes {S : Nat → Prop} {w : World} {a n c} {l : List VT} (h : VSs S w a n c l) : ∃ L : List Vn, L.map Vn.tr = l ∧ (∀ x ∈ L, x.Rs S w) ∧ Src Vn.cells w a n c L := by
  have hlen := h.len
  obtain ⟨L, hLn, hL⟩ := choose_list n (fun i (v : Vn) => (∃ t, l[i]? = some t ∧ v.tr = t) ∧ v.Rs S w ∧ ∀ b off, a = some ⟨b, off, none⟩ → w.cell? ⟨b, off + i * 2, none⟩ = some (.int .i64 v.x) ∧ w.cell? ⟨b, off + i * 2 + 1, none⟩ = some (.slice v.a v.m v.c)) (fun i hi => by
    obtain ⟨b, off, x, ha, hb, hx, he⟩ := recs_at h hi
    obtain ⟨v, hv, hr, c0, c1⟩ := VAs.out he
    exact ⟨v, ⟨x, hx, hv⟩, hr, fun b' o' h' => by rw [ha] at h'; cases h'; exact ⟨c0, c1⟩⟩)
  refine ⟨L, ?_, ?_, ?_⟩
  · apply List.ext_getElem?
    intro i
    rw [List.getElem?_map]
    rcases Nat.lt_or_ge i n with hi | hi
    · have hx : L[i]? = some (L[i]'(by omega)) := List.getElem?_eq_getElem _
      obtain ⟨⟨t, ht, hvt⟩, _⟩ := hL i _ hx
      rw [hx, ht, ← hvt]; rfl
    · rw [List.getElem?_eq_none (by omega), List.getElem?_eq_none (by omega)]; rfl
  · intro x hx
    obtain ⟨i, hi, he⟩ := List.getElem_of_mem hx
    exact (hL i x (by rw [← he]; exact List.getElem?_eq_getElem hi)).2.1
  · have hR : Recs 2 (fun w b o (v : Vn) => w.cell? ⟨b, o, none⟩ = some (.int .i64 v.x) ∧ w.cell? ⟨b, o + 1, none⟩ = some (.slice v.a v.m v.c)) w a n c L := by
      refine ⟨hLn, h.cap, h.most, h.nil, ?_⟩
      rcases h.at' with h0 | ⟨b, off, ha, hlt, hc⟩
      · exact .inl h0
      · exact .inr ⟨b, off, ha, hlt, fun i x hi => (hL i x hi).2.2 b off ha⟩
    refine Recs.src hR cells_len (by decide) (fun b o x he j u hj => ?_)
    match j with
    | 0 => cases hj; exact he.1
    | 1 => cases hj; exact he.2
    | j + 2 => simp [Vn.cells] at hj

def ClP (L : List Vn) (n : Nat) (w : World) (e : Ending) (w' : World) : Prop := ∃ (a : Option Addr) (c : Nat), e = .returned (.slice a n c) ∧ OwnV w' w.heap.size a n c L ∧ Below w.heap.size w w'

set_option maxRecDepth 100000 in
set_option maxHeartbeats 1000000 in
theorem clone_any (a : Option Addr) (n c : Nat) (L : List Vn) (w : World) (hs : Src Vn.cells w a n c L) (hn : n ≤ 100000) : Calls Try.prog 30 #[.slice a n c] w (ClP L n w) := by
  rcases a with _ | ad
  · obtain ⟨h1, h2⟩ := hs.none rfl
    subst h1 h2
    have hL : L = [] := List.eq_nil_of_length_eq_zero hs.num
    subst hL
    clear hs
    have heq : ∀ W : World, (binOp .eql 25 (.slice none 0 0) (.slice none 0 0)).run Try.prog W = .ok (.bool true) W := fun W => Lib.run_eql_slice_nil W _ _ none 0 0 0 0 Try.underlying25
    go_enter Try.func30, Try.ntmps30
    go_wp2
    go_ret
    exact ⟨none, 0, rfl, OwnS.nil _ _ _, Below.refl _ _⟩
  · have ho := OwnS.made0 (size := 2) (cells := Vn.cells) w w.heap.size 27 (Nat.le_refl _)
    have hb : Below w.heap.size w (w.alloc (.cells #[] 27)) := (Below.refl _ _).alloc (Nat.le_refl _) _
    have HO := Lib.hid ho; have HB := Lib.hid hb; have HS := Lib.hid (hs.below hb)
    clear hs ho hb
    have heq : ∀ W : World, (binOp .eql 25 (.slice (some ad) n c) (.slice none 0 0)).run Try.prog W = .ok (.bool false) W := fun W => Lib.run_eql_slice_nil W _ _ (some ad) n c 0 0 Try.underlying25
    go_enter Try.func30, Try.ntmps30
    go_wp2_with (at_builtin; refine wpList_append_sm recT (by decide) cells_len cells_one rfl _ _ rfl w.heap.size rfl HO.out rfl HS.out (by unfold maxLen; omega) (by omega) HB.out.size ?_)
    intro a2 c2 w2 ho2 hb2 _
    have HO2 := Lib.hid ho2; have HB2 := Lib.hid (HB.out.trans hb2)
    clear ho2 hb2
    go_wp2
    go_ret
    refine ⟨a2, c2, by simp, ?_, HB2.out⟩
    have := HO2.out
    simpa using this

end Go.Proofs.Ytpdicfekhghfeaa.va
