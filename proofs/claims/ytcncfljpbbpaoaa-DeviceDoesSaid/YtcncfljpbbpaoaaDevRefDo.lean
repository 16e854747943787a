/-
  Layer 48: the contracts of the document's Append, and of what is done.
-/
import Derived.Test.YtcncfljpbbpaoaaDevRef
namespace Go.Proofs.Ytcncfljpbbpaoaa.dv
open Go.ChangeShapes Go.WideShapes Go.ChangeAt Go.RowKit
open bs
set_option linter.unusedVariables false

theorem own3 (w : World) (o1 o2 : Obj) : OwnB (((w.alloc o1).alloc o2).alloc (.cells #[] 5)) (w.heap.size + 1 + 1) 5 (some ⟨w.heap.size + 1 + 1, 0, none⟩) 0 0 [] := by
  simpa using OwnB.made ((w.alloc o1).alloc o2) (w.heap.size + 1 + 1) 5 [] #[] rfl (by simp) (by simp [maxLen]) (by simp [AllB])
def apL (room n m : Nat) (l lb : List Int) : List Int := if apE room n m = 0 then l ++ lb else l

set_option maxRecDepth 100000 in
set_option maxHeartbeats 1000000 in
theorem rappend_any (room s : Nat) (a : Option Addr) (n c : Nat) (l : List Int) (b : Option Addr) (m cb : Nat) (lb : List Int) (w : World) (h : Bytes w a n c l) (hb : Bytes w b m cb lb) (hn : n ≤ room) (hr : room ≤ 65536) (hm : m ≤ 4611686018427387904) :
    Calls Try.prog 65 #[rv room s a n c, .slice b m cb] w (RaPost w room s a (apE room n m) (apL room n m l lb)) := by
  have hE := apE_eq room n m hn
  have HH := Lib.hid h; have HHb := Lib.hid hb; clear h hb
  have HW : Hid (∀ o o' : Obj, Below w.heap.size w ((w.alloc o).alloc o')) := fun o o' => ((Below.refl _ _).alloc (Nat.le_refl _) o).alloc (by simp) o'
  have HW3 : Hid (∀ o o' o'' : Obj, Below w.heap.size w (((w.alloc o).alloc o').alloc o'')) := fun o o' o'' => (((Below.refl _ _).alloc (Nat.le_refl _) o).alloc (by simp) o').alloc (by simp; omega) o''
  by_cases h1 : room < n + m
  · rw [if_pos h1] at hE
    have hl : apL room n m l lb = l := if_neg (by omega)
    have HE := Lib.hid hE; have HL := Lib.hid hl
    have d1 : (room : Int) < (n : Int) + m := by omega
    clear hE hl h1
    go_enter Try.func65, Try.ntmps65
    go_wp2
    refine bodyPost_ret (v := .tuple #[rv room s a n c, .int .i64 28]) (by simp [results, Try.results65, go_sem, rv]) rfl ?_
    refine ⟨HW.out _ _, a, n, c, by rw [HE.out], by rw [HL.out]; exact HH.out.below (HW.out _ _), Lies.refl _ _ _⟩
  · rw [if_neg h1] at hE
    have hl : apL room n m l lb = l ++ lb := if_pos hE
    have HE := Lib.hid hE; have HL := Lib.hid hl
    have d1 : ¬ (room : Int) < (n : Int) + m := by omega
    have n1 : 0 + n ≤ 140737488355328 := by omega
    have n2 : n + m ≤ 140737488355328 := by omega
    clear hE hl h1
    go_enter Try.func65, Try.ntmps65
    have hsz : ∀ o o' o'' : Obj, w.heap.size + 1 + 1 ≤ (((w.alloc o).alloc o').alloc o'').heap.size := fun o o' o'' => by simp
    have hb : ∀ v o'', Blk (((w.alloc (.cells #[.int .i64 room, .int .i64 s, .slice a n c] 64)).alloc (.cells v 64)).alloc o'') w.heap.size #[.int .i64 room, .int .i64 s, .slice a n c] 64 := fun v o'' => (Blk.new w _ _).below (((Below.refl _ _).alloc (Nat.le_refl _) _).alloc (by simp) _)
    have hr : ∀ v o'', Blk (((w.alloc (.cells v 64)).alloc (.cells #[.int .i64 0, .int .i64 0, .slice none 0 0] 64)).alloc o'') (w.heap.size + 1) #[.int .i64 0, .int .i64 0, .slice none 0 0] 64 := fun v o'' => by
      have e : (w.alloc (.cells v 64)).heap.size = w.heap.size + 1 := by simp
      have := (Blk.new (w.alloc (.cells v 64)) #[.int .i64 0, .int .i64 0, .slice none 0 0] 64).below ((Below.refl _ _).alloc (Nat.le_refl _) o'')
      rwa [e] at this
    have HSz := Lib.hid hsz; have HBk := Lib.hid hb; have HRk := Lib.hid hr
    clear hsz hb hr
    go_wp2_with (at_builtin; refine wpList_append_b en.byteT rfl (.tmp 16) (.tmp 18) rfl (w.heap.size + 1 + 1) rfl (own3 w _ _) rfl (HH.out.below (HW3.out _ _ _)) n1 (HSz.out _ _ _) ?_)
    intro a2 c2 w2 ho2 hb2 _
    have hw2 : Below w.heap.size w w2 := (HW3.out _ _ _).trans (hb2.mono (by omega))
    have hbk2 : Blk w2 w.heap.size #[.int .i64 room, .int .i64 s, .slice a n c] 64 := (HBk.out _ _).of (hb2.block _ (by omega))
    have hrk2 : Blk w2 (w.heap.size + 1) #[.int .i64 0, .int .i64 0, .slice none 0 0] 64 := (HRk.out _ _).of (hb2.block _ (by omega))
    have hs2 : w.heap.size + 1 + 1 ≤ w2.heap.size := Nat.le_trans (HSz.out _ _ _) hb2.size
    have HO2 := Lib.hid ho2; have HW2 := Lib.hid hw2; have HB2 := Lib.hid hbk2; have HR2 := Lib.hid hrk2
    clear ho2 hb2 hw2 hbk2 hrk2
    go_wp2_with (at_builtin; refine wpList_append_b en.byteT rfl (.tmp 19) (.tmp 20) rfl (w.heap.size + 1 + 1) rfl HO2.out rfl (HHb.out.below HW2.out) n2 hs2 ?_)
    intro a3 c3 w3 ho3 hb3 _
    have hw3 : Below w.heap.size w w3 := HW2.out.trans (hb3.mono (by omega))
    have hbk3 : Blk w3 w.heap.size #[.int .i64 room, .int .i64 s, .slice a n c] 64 := HB2.out.of (hb3.block _ (by omega))
    have hrk3 : Blk w3 (w.heap.size + 1) #[.int .i64 0, .int .i64 0, .slice none 0 0] 64 := HR2.out.of (hb3.block _ (by omega))
    have c0 := hbk3.cell 0; have c1 := hbk3.cell 1; have c2 := hbk3.cell 2; have f2 := hbk3.free 2
    have r0 := hrk3.cell 0; have r1 := hrk3.cell 1; have r2 := hrk3.cell 2
    have g0 := hrk3.free 0; have g1 := hrk3.free 1; have g2 := hrk3.free 2
    have HO3 := Lib.hid ho3; have HW3' := Lib.hid hw3
    clear ho3 hb3 hw3 hbk3 hrk3
    go_wp2
    refine bodyPost_ret (v := .tuple #[rv room s a3 (n + m) c3, .int .i64 0]) (by simp [results, Try.results65, go_sem, rv, c0, c1, c2, r0, r1, r2]) rfl ?_
    refine ⟨?_, a3, n + m, c3, by rw [HE.out], ?_, ?_⟩
    · repeat refine Below.setCell ?_ (by simp) _
      exact HW3'.out
    · rw [HL.out]
      refine OwnB.bytes (HO3.out.of (fun i hi => ?_))
      have hge := (HO3.out.blockLt hi).1
      rw [Below.heap_setCell _ _ _ _ (by simp; omega), Below.heap_setCell _ _ _ _ (by simp; omega), Below.heap_setCell _ _ _ _ (by simp; omega), Below.heap_setCell _ _ _ _ (by simp; omega)]
    · intro g hg
      have h3 := HO3.out.blockLt hg
      have e : ∀ v u0 u1 u2, ((((w3.setCell ⟨w.heap.size, 2, none⟩ v).setCell ⟨w.heap.size + 1, 0, none⟩ u0).setCell ⟨w.heap.size + 1, 1, none⟩ u1).setCell ⟨w.heap.size + 1, 2, none⟩ u2).heap.size = w3.heap.size := fun _ _ _ _ => by simp [World.setCell]
      rw [e]
      exact .inr ⟨by omega, h3.2⟩

theorem three_blk (w : World) (v1 v2 v3 : Array Value) (t1 t2 t3 : TypeId) : Blk (((w.alloc (.cells v1 t1)).alloc (.cells v2 t2)).alloc (.cells v3 t3)) w.heap.size v1 t1 ∧ Blk (((w.alloc (.cells v1 t1)).alloc (.cells v2 t2)).alloc (.cells v3 t3)) (w.heap.size + 1) v2 t2 ∧ Blk (((w.alloc (.cells v1 t1)).alloc (.cells v2 t2)).alloc (.cells v3 t3)) (w.heap.size + 1 + 1) v3 t3 := by
  have e1 : (w.alloc (.cells v1 t1)).heap.size = w.heap.size + 1 := by simp
  have e2 : ((w.alloc (.cells v1 t1)).alloc (.cells v2 t2)).heap.size = w.heap.size + 1 + 1 := by simp
  refine ⟨?_, ?_, ?_⟩
  · exact (Blk.new w v1 t1).below (((Below.refl _ _).alloc (Nat.le_refl _) _).alloc (by simp) _)
  · have := (Blk.new (w.alloc (.cells v1 t1)) v2 t2).below ((Below.refl _ _).alloc (Nat.le_refl _) (.cells v3 t3))
    rwa [e1] at this
  · have := Blk.new ((w.alloc (.cells v1 t1)).alloc (.cells v2 t2)) v3 t3
    rwa [e2] at this

theorem close_rdo {w W w2 : World} {g room s n' c' : Nat} {a a' : Option Addr} {l' : List Int} (hW : Below w.heap.size w W) (hg : w.heap.size ≤ g) (hr : Blk W g #[.int .i64 0, .int .i64 0, .slice none 0 0] 64) (hb : Below W.heap.size W w2) (hby : Bytes w2 a' n' c' l') (hl : Lies W w2 a a') :
    Below w.heap.size w (((w2.setCell ⟨g, 0, none⟩ (.int .i64 room)).setCell ⟨g, 1, none⟩ (.int .i64 s)).setCell ⟨g, 2, none⟩ (.slice a' n' c')) ∧ Bytes (((w2.setCell ⟨g, 0, none⟩ (.int .i64 room)).setCell ⟨g, 1, none⟩ (.int .i64 s)).setCell ⟨g, 2, none⟩ (.slice a' n' c')) a' n' c' l' ∧ Lies w (((w2.setCell ⟨g, 0, none⟩ (.int .i64 room)).setCell ⟨g, 1, none⟩ (.int .i64 s)).setCell ⟨g, 2, none⟩ (.slice a' n' c')) a a' := by
  refine ⟨?_, bytes_far hby (hr.below hb) (dev_cells 0 0 none 0 0) (fun p hp => far_set3 _ _ _ _ _ p hp), fun i hi => ?_⟩
  · exact (((hW.trans (hb.mono hW.size)).setCell hg _).setCell hg _).setCell hg _
  · rcases hl i hi with h | h
    · exact .inl h
    · exact .inr ⟨Nat.le_trans hW.size h.1, by simpa [World.setCell] using h.2⟩

set_option maxRecDepth 100000 in
set_option maxHeartbeats 2000000 in
theorem rdo_any (room s : Nat) (a : Option Addr) (n c : Nat) (l : List Int) (k : Int) (b : Option Addr) (m cb : Nat) (lb : List Int) (q : Int) (w : World) (h : Bytes w a n c l) (hb : Bytes w b m cb lb) (hn : n ≤ room) (hs : s ≤ n) (hr : room ≤ 65536) (hm : m ≤ 4611686018427387904) (q0 : -9223372036854775808 ≤ q) (q1 : q ≤ 9223372036854775807) :
    Calls Try.prog 41 #[rv room s a n c, .agg #[.int .i64 k, .slice b m cb, .int .i64 q]] w (RaPost w room (stS s l k q) a (stE room n k m) (stL room s l k lb q)) := by
  have hnl : n = l.length := h.len.symm
  have hlb : m = lb.length := hb.len.symm
  subst hnl hlb
  have HH := Lib.hid h; have HHb := Lib.hid hb; clear h hb
  have H3 := Lib.hid (three_blk w #[.int .i64 room, .int .i64 s, .slice a l.length c] #[.int .i64 k, .slice b lb.length cb, .int .i64 q] #[.int .i64 0, .int .i64 0, .slice none 0 0] 64 68 64)
  have HW : Hid (Below w.heap.size w (((w.alloc (.cells #[.int .i64 room, .int .i64 s, .slice a l.length c] 64)).alloc (.cells #[.int .i64 k, .slice b lb.length cb, .int .i64 q] 68)).alloc (.cells #[.int .i64 0, .int .i64 0, .slice none 0 0] 64))) :=
    (((Below.refl _ _).alloc (Nat.le_refl _) _).alloc (by simp) _).alloc (by simp; omega) _
  by_cases h0 : k = 0
  · subst h0
    have e1 : stE room l.length 0 lb.length = apE room l.length lb.length := rfl
    have e2 : stS s l 0 q = s := rfl
    have e3 : stL room s l 0 lb q = apL room l.length lb.length l lb := rfl
    have E1 := Lib.hid e1; have E2 := Lib.hid e2; have E3 := Lib.hid e3
    clear e1 e2 e3
    go_enter Try.func41, Try.ntmps41
    go_wp2_with fail
    refine (rappend_any room s a _ c l b _ cb lb _ (HH.out.below HW.out) (HHb.out.below HW.out) hn hr hm).mono ?_
    rintro e w2 ⟨hb2, a', n', c', rfl, hby, hl⟩
    have hr2 := H3.out.2.2.below hb2
    have r0 := hr2.cell 0; have r1 := hr2.cell 1; have r2 := hr2.cell 2
    have f0 := hr2.free 0; have f1 := hr2.free 1; have f2 := hr2.free 2
    have HC := Lib.hid (close_rdo (room := room) (s := s) HW.out (by omega) H3.out.2.2 hb2 hby hl)
    clear hr2 hb2 hby hl
    go_wp2
    refine bodyPost_ret (v := .tuple #[rv room s a' n' c', .int .i64 (apE room l.length lb.length)]) (by simp [results, Try.results41, go_sem, rv, r0, r1, r2]) rfl ?_
    exact ⟨HC.out.1, a', n', c', by rw [E1.out, E2.out], by rw [E3.out]; exact HC.out.2.1, HC.out.2.2⟩
  · have hE : stE room l.length k lb.length = 0 := by unfold stE; rw [if_neg h0]
    have E1 := Lib.hid hE; clear hE
    have d0 : (k == 0) = false := by rw [beq_eq_false_iff_ne]; exact h0
    by_cases h1 : k = 1
    · subst h1
      have e2 : stS s l 1 q = l.length := rfl
      have e3 : stL room s l 1 lb q = l := rfl
      have E2 := Lib.hid e2; have E3 := Lib.hid e3
      clear e2 e3 h0 d0
      go_enter Try.func41, Try.ntmps41
      go_wp2_with fail
      refine (rsync_any room s a _ c l _ (HH.out.below HW.out)).mono ?_
      rintro e w2 ⟨hb2, a', c', rfl, hby, hl⟩
      have hr2 := H3.out.2.2.below hb2
      have r0 := hr2.cell 0; have r1 := hr2.cell 1; have r2 := hr2.cell 2
      have f0 := hr2.free 0; have f1 := hr2.free 1; have f2 := hr2.free 2
      have HC := Lib.hid (close_rdo (room := room) (s := l.length) HW.out (by omega) H3.out.2.2 hb2 hby hl)
      clear hr2 hb2 hby hl
      go_wp2
      refine bodyPost_ret (v := .tuple #[rv room (l.length) a' (l.length) c', .int .i64 0]) (by simp [results, Try.results41, go_sem, rv, r0, r1, r2]) rfl ?_
      exact ⟨HC.out.1, a', _, c', by rw [E1.out, E2.out], by rw [E3.out]; exact HC.out.2.1, HC.out.2.2⟩
    · have d1 : (k == 1) = false := by rw [beq_eq_false_iff_ne]; exact h1
      by_cases h2 : k = 2
      · subst h2
        have e2 : stS s l 2 q = kept q s l.length := rfl
        have e3 : stL room s l 2 lb q = l.take (kept q s l.length) := rfl
        have E2 := Lib.hid e2; have E3 := Lib.hid e3
        clear e2 e3 h0 d0 h1 d1
        go_enter Try.func41, Try.ntmps41
        go_wp2_with fail
        refine (rcrash_any room s a _ c l q _ (HH.out.below HW.out) (by omega) hs q0 q1).mono ?_
        rintro e w2 ⟨hb2, a', c', rfl, hby, hl⟩
        have hr2 := H3.out.2.2.below hb2
        have r0 := hr2.cell 0; have r1 := hr2.cell 1; have r2 := hr2.cell 2
        have f0 := hr2.free 0; have f1 := hr2.free 1; have f2 := hr2.free 2
        have HC := Lib.hid (close_rdo (room := room) (s := kept q s l.length) HW.out (by omega) H3.out.2.2 hb2 hby hl)
        clear hr2 hb2 hby hl
        go_wp2
        refine bodyPost_ret (v := .tuple #[rv room (kept q s l.length) a' (kept q s l.length) c', .int .i64 0]) (by simp [results, Try.results41, go_sem, rv, r0, r1, r2]) rfl ?_
        exact ⟨HC.out.1, a', _, c', by rw [E1.out, E2.out], by rw [E3.out]; exact HC.out.2.1, HC.out.2.2⟩
      · have d2 : (k == 2) = false := by rw [beq_eq_false_iff_ne]; exact h2
        by_cases h3 : k = 3
        · subst h3
          have e2 : stS s l 3 q = min s (clampN q l.length) := rfl
          have e3 : stL room s l 3 lb q = l.take (clampN q l.length) := rfl
          have E2 := Lib.hid e2; have E3 := Lib.hid e3
          clear e2 e3 h0 d0 h1 d1 h2 d2
          go_enter Try.func41, Try.ntmps41
          go_wp2_with fail
          refine (rcut_any room s a _ c l q _ (HH.out.below HW.out) (by omega) (by omega) q0 q1).mono ?_
          rintro e w2 ⟨hb2, a', c', rfl, hby, hl⟩
          have hr2 := H3.out.2.2.below hb2
          have r0 := hr2.cell 0; have r1 := hr2.cell 1; have r2 := hr2.cell 2
          have f0 := hr2.free 0; have f1 := hr2.free 1; have f2 := hr2.free 2
          have HC := Lib.hid (close_rdo (room := room) (s := min s (clampN q l.length)) HW.out (by omega) H3.out.2.2 hb2 hby hl)
          clear hr2 hb2 hby hl
          go_wp2
          refine bodyPost_ret (v := .tuple #[rv room (min s (clampN q l.length)) a' (clampN q l.length) c', .int .i64 0]) (by simp [results, Try.results41, go_sem, rv, r0, r1, r2]) rfl ?_
          exact ⟨HC.out.1, a', _, c', by rw [E1.out, E2.out], by rw [E3.out]; exact HC.out.2.1, HC.out.2.2⟩
        · have d3 : (k == 3) = false := by rw [beq_eq_false_iff_ne]; exact h3
          have e2 : stS s l k q = s := by unfold stS; rw [if_neg h0, if_neg h1, if_neg h2, if_neg h3]
          have e3 : stL room s l k lb q = l := by unfold stL; rw [if_neg h0, if_neg h1, if_neg h2, if_neg h3]
          have E2 := Lib.hid e2; have E3 := Lib.hid e3
          clear e2 e3 h0 h1 h2 h3
          go_enter Try.func41, Try.ntmps41
          go_wp2
          refine bodyPost_ret (v := .tuple #[rv room s a l.length c, .int .i64 0]) (by simp [results, Try.results41, go_sem, rv]) rfl ?_
          have hB : ∀ o o' o'' : Obj, Below w.heap.size w (((w.alloc o).alloc o').alloc o'') := fun o o' o'' => (((Below.refl _ _).alloc (Nat.le_refl _) o).alloc (by simp) o').alloc (by simp; omega) o''
          exact ⟨hB _ _ _, a, _, c, by rw [E1.out, E2.out], by rw [E3.out]; exact HH.out.below (hB _ _ _), Lies.refl _ _ _⟩
end Go.Proofs.Ytcncfljpbbpaoaa.dv
