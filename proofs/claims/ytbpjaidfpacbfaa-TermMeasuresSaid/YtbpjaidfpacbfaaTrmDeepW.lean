/-
  Layer 6: the program's walk with deepen (made by gen_deepwalk.py out of TrmWalk).
-/
import Derived.Test.YtbpjaidfpacbfaaTrmDepth
namespace Go.Proofs.Ytbpjaidfpacbfaa.td
open Go.ChangeShapes Go.WideShapes Go.ChangeAt Go.RowKit
open bs tr te
set_option linter.unusedVariables false

/-- The call of deepen. -/
theorem deepen_any (w : World) (tb N : Nat) (d s : Value) (pa : Option Addr) (n c : Nat) (h : Blk w tb #[d, .int .i64 N, s] 64) (hN : N ≤ 1000000) (hn : n ≤ 1000000) : Calls Try.prog 53 #[.pointer (some ⟨tb, 0, none⟩), .slice pa n c] w
    fun e w' => e = .returned (.tuple #[]) ∧ Blk w' tb #[d, .int .i64 ((max N (n + 1) : Nat) : Int), s] 64 ∧ Only w w' tb := by
  have c0 := h.cell 1; have f0 := h.free 1
  simp at c0
  have hw : IntKind.i64.wrap ((n : Int) + 1) = ((n + 1 : Nat) : Int) := by rw [IntWalk.i64_in _ (by omega)]; omega
  have hq : (if (N : Int) < ((n : Int) + 1) then ((n : Int) + 1) else (N : Int)) = ((max N (n + 1) : Nat) : Int) := by split <;> omega
  have hq2 : max (N : Int) ((n : Int) + 1) = ((max N (n + 1) : Nat) : Int) := by omega
  have H := Lib.hid h
  clear h
  go_enter Try.func53, Try.ntmps53
  go_wp2
  go_end0
  refine ⟨rfl, ?_, only_cell _ _ _ _⟩
  have := H.out.set 1 (.int .i64 ((max N (n + 1) : Nat) : Int))
  simpa using this

theorem mx_lt {x : Lab} {l : List VT} (k : Nat) : mx l k + 1 ≤ Tr.size (Tr.mk x l) := by
  have h : mx l k ≤ Tr.size (Tr.mk x l) - 1 := by
    unfold mx
    refine foldl_max_le _ _ _ (Nat.zero_le _) (fun y hy => ?_)
    rw [List.mem_map] at hy
    obtain ⟨z, hz, rfl⟩ := hy
    have h1 := depth_le z
    have h2 := Tr.size_le (x := x) (List.mem_of_mem_take hz)
    omega
  have := Tr.size_pos (Tr.mk x l)
  omega

/-- What a walk that counts leaves. -/
def WP (t : VT) (tb N : Nat) (d s : Value) (pa : Option Addr) (n : Nat) (p : List Int) (w : World) (e : Ending) (w' : World) : Prop :=
  ∃ (a : Option Addr) (c : Nat), e = .returned (.slice a n c) ∧ OwnI w' (tb + 1) 3 a n c p ∧ Blk w' tb #[d, .int .i64 ((max N (n + t.depth) : Nat) : Int), s] 64 ∧ Turned w w' tb (blockOf pa) ∧ (blockOf a = blockOf pa ∨ ∃ g, blockOf a = some g ∧ w.heap.size ≤ g)

theorem kpB {w w' : World} {tb B : Nat} {row : Option Nat} (h : Turned w w' tb row) (hB : B ≤ tb) (hr : ∀ g, row = some g → B ≤ g) : Kp (· < B) w w' :=
  ⟨h.size, fun b hb hl => h.block b hl (by omega) (fun e => by have := hr b e; omega)⟩

/-- Behind the append to a path. -/
structure ApR (V0 w2 : World) (tb g8 : Nat) (x : Vn) (M : Int) (d s : Value) (a a2 : Option Addr) (n c2 : Nat) (q : List Int) : Prop where
  own : OwnI w2 (tb + 1) 3 a2 n c2 q
  turned : Turned V0 w2 tb (blockOf a)
  x8 : VB w2 g8 x
  blk : Blk w2 tb #[d, .int .i64 M, s] 64
  lies : blockOf a2 = blockOf a ∨ ∃ g, blockOf a2 = some g ∧ V0.heap.size ≤ g
theorem ap_done {V0 X w2 : World} {tb g8 : Nat} {x : Vn} {M : Int} {d s : Value} {a a2 : Option Addr} {n c2 : Nat} {q : List Int} (hX : Below V0.heap.size V0 X) (h8 : VB V0 g8 x) (hb : Blk V0 tb #[d, .int .i64 M, s] 64) (hPa : ∀ i, blockOf a = some i → tb + 1 ≤ i ∧ i < g8)
    (ho : OwnI w2 (tb + 1) 3 a2 n c2 q) (hg : X.grownBy w2 (blockOf a)) (hl : blockOf a2 = blockOf a ∨ blockOf a2 = some X.heap.size) : ApR V0 w2 tb g8 x M d s a a2 n c2 q := by
  refine ⟨ho, (Turned.of_below hX tb (blockOf a)).trans (Turned.of_grown hg tb) (fun _ _ h => h), ?_, ?_, hl.imp id (fun h => ⟨_, h, hX.size⟩)⟩
  · exact (h8.below hX).of (hg.block g8 (h8.below hX).lt (fun e => by have := (hPa g8 e.symm).2; omega))
  · exact (hb.below hX).of (hg.block tb (hb.below hX).lt (fun e => by have := (hPa tb e.symm).1; omega))

theorem walk_keeps {V0 w2 w3 : World} {tb g8 : Nat} {x : Vn} {M : Int} {d s : Value} {a a2 : Option Addr} {n c2 : Nat} {q : List Int} (hA : ApR V0 w2 tb g8 x M d s a a2 n c2 q) (hPa : ∀ i, blockOf a = some i → tb + 1 ≤ i ∧ i < g8) (ht : Turned w2 w3 tb (blockOf a2)) (h : g8 ≠ tb) (hV : g8 < V0.heap.size) : VB w3 g8 x :=
  hA.x8.of (ht.block g8 hA.x8.lt h (fun e => by
    rcases hA.lies with h1 | ⟨g, h1, hg⟩
    · rw [h1] at e; have := (hPa g8 e).2; omega
    · rw [h1] at e; cases e; omega))
theorem slice_back {w : World} {base : Nat} {a : Option Addr} {n c : Nat} {q : List Int} (h : OwnI w base 3 a (n + 1) c q) : ∀ W : World, (Instr.sliceAt 33 (.slice a (n + 1) c) none (some (.int .i64 n)) none).run Try.prog W = .ok (.slice a n c) W := fun W => by
  have h1 := h.reads.cap; have h2 := h.reads.most
  exact slice_head_i a (n + 1) c n (by omega) h1 h2 W

set_option maxRecDepth 100000 in
set_option maxHeartbeats 4000000 in
theorem walk_any (tb B : Nat) (hB : B ≤ tb) (d s : Value) (t : VT) : ∀ (v : Vn) (w : World) (pa : Option Addr) (n c : Nat) (p : List Int) (N : Nat), v.tr = t → v.Rs (· < B) w → Blk w tb #[d, .int .i64 N, s] 64 → OwnI w (tb + 1) 3 pa n c p → N ≤ 1000000 → n + t.size ≤ 1000000 →
    Calls Try.prog 50 #[v.val, .slice pa n c, .func (.func 53) #[.pointer (some ⟨tb, 0, none⟩)] #[]] w (WP v.tr tb N d s pa n p w) := by
  induction t using Tr.ind with
  | h tx tl ih =>
  intro v w pa n c p N hat hv hb hp hN hn
  obtain ⟨vx, va, m, vc', l⟩ := v
  cases hat
  have hlm : l.length < Tr.size (Tr.mk vx l) := Tr.len_size
  have hN2 : N ≤ 1000000 := hN
  have hmx : ∀ k, mx l k + 1 ≤ Tr.size (Tr.mk vx l) := fun k => mx_lt k
  have hn2 : n + Tr.size (Tr.mk vx l) ≤ 1000000 := hn
  have hml : m ≤ 1000000 := by have := hv.rd.len; dsimp only at this; omega
  have htb := hb.lt
  have hvl := hv.rd
  dsimp only at hvl
  have hcapx := hvl.cap; have hmostx := hvl.most
  have hlx := hvl.len
  have hlim : ∀ k x, l[k]? = some x → Tr.sumk l k + x.size ≤ Tr.sumk l m := fun k x hk => by
    rw [← Tr.sumk_succ hk]
    unfold Tr.sumk
    have hkl := (List.getElem?_eq_some_iff.1 hk).1
    rw [List.take_of_length_le (show l.length ≤ m by omega)]
    have : l.map Tr.size = (l.take (k + 1)).map Tr.size ++ (l.drop (k + 1)).map Tr.size := by rw [← List.map_append, List.take_append_drop]
    rw [this, List.sum_append]
    omega
  have hsz : Tr.size (Tr.mk vx l) = 1 + Tr.sumk l m := Tr.sumk_all hlx
  have hW1 : Below w.heap.size w (w.alloc (.cells #[.int .i64 vx.k, .int .i64 vx.n, .string vx.s, .slice va m vc', .int .i64 vx.f, .int .i64 vx.t] 24)) := below_alloc _ _
  have hZ : VB (w.alloc (.cells #[.int .i64 vx.k, .int .i64 vx.n, .string vx.s, .slice va m vc', .int .i64 vx.f, .int .i64 vx.t] 24)) w.heap.size ⟨vx, va, m, vc', l⟩ := Blk.new w _ _
  have HV0 := Lib.hid hv; have HV := Lib.hid (hv.below hW1); have HBk := Lib.hid (hb.below hW1); have HP := Lib.hid (hp.below hW1); have HZ := Lib.hid hZ
  have HT := Lib.hid (Turned.of_below hW1 tb (blockOf pa))
  have hPL : ∀ i, blockOf pa = some i → tb + 1 ≤ i ∧ i < w.heap.size := fun i hi => OwnI.blockLt hp hi
  have HPL := Lib.hid hPL
  have HIH := Lib.hid ih; have HLX := Lib.hid hlx; have HSZ := Lib.hid hsz; have HLIM := Lib.hid hlim
  have hN' : N ≤ 1000000 := hN2
  have HMX := Lib.hid (fun k => Nat.le_trans (Nat.add_le_add_left (hmx k) n) hn2)
  have HDP := Lib.hid (mx_all (x := vx) hlx)
  have hn' : n + (1 + Tr.sumk l m) ≤ 1000000 := by rw [← hsz]; exact hn2
  clear hmx hv hb hp hW1 hZ hvl hlx ih hPL hN hn hN2 hn2 hlim hsz hlm
  unfold Vn.val
  have hcf : ∀ args (W : World), Sem.run Try.prog (callFunc 53 args) W = .ok (.enter 53 args) W := fun _ _ => rfl
  go_enter Try.func50, Try.ntmps50
  go_wp2_with fail
  generalize hWW : (w.alloc (.cells #[.int .i64 vx.k, .int .i64 vx.n, .string vx.s, .slice va m vc', .int .i64 vx.f, .int .i64 vx.t] 24)) = W at HV HBk HP HZ HT ⊢
  have hWs : w.heap.size + 1 = W.heap.size := by rw [← hWW]; simp
  clear hWW
  refine (deepen_any W tb N d s pa n c HBk.out hN' (by omega)).mono ?_
  rintro e w1 ⟨rfl, hb1, ho1⟩
  have HWS := Lib.hid hWs
  have HB1 := Lib.hid hb1
  have HT1 := Lib.hid (HT.out.trans (Turned.of_only ho1 (blockOf pa)) (fun i _ h => h))
  have HP1 := Lib.hid (OwnI.of HP.out (fun i hi => ho1.block i (by have := (HPL.out i hi).1; omega)))
  have HV1 := Lib.hid (HV.out.agree (ho1.kp (fun b (hb : b < B) => by omega)))
  have HZ1 := Lib.hid (ho1.blk HZ.out (by omega))
  have hs1 : w1.heap.size = W.heap.size := ho1.size
  have HS1 := Lib.hid hs1
  clear hb1 ho1 hWs hs1 HV HBk HP HZ HT
  have p1 := HZ1.out.cell 3
  simp at p1
  go_wp2_with fail
  go_loopw [1, 7, 8, 15] (fun s1 s7 s8 i wr => ∃ (k : Nat) (a : Option Addr) (c' : Nat), k ≤ m ∧ i = .int .i64 k ∧ s1 = .slice a n c' ∧ Hid (OwnI wr (tb + 1) 3 a n c' p) ∧ Hid (Blk wr tb #[d, .int .i64 ((max N (n + 1 + mx l k) : Nat) : Int), s] 64) ∧ Hid (Turned w wr tb (blockOf pa)) ∧ Hid (blockOf a = blockOf pa ∨ ∃ g, blockOf a = some g ∧ w.heap.size ≤ g)) (fun _ _ _ i _ => m - (intOf i).toNat)
  case atStart => exact ⟨0, pa, c, by omega, rfl, rfl, HP1, by rw [mx_zero, Nat.add_zero]; exact HB1, HT1, Lib.hid (.inl rfl)⟩
  case round =>
    obtain ⟨k, a, c', hk2, rfl, rfl, HPr, HBr, HTr, HLr⟩ := hrel
    by_cases hlt : k < m
    · have hkp : Kp (· < B) w wr := kpB HTr.out hB (fun g hg => by have := (HPL.out g hg).1; omega)
      obtain ⟨b1, o1, x1, rfl, hb1, hx1, hc1⟩ := recs_at (HV0.out.agree hkp).rd hlt
      obtain ⟨x, hv1, hr1, c10, c11, c12, c13, c14, c15⟩ := VAs.out hc1
      have HR1 := Lib.hid hr1; have HV1E := Lib.hid hv1; have HX1 := Lib.hid hx1
      have hmem : x1 ∈ l := List.mem_of_getElem? hx1
      have HMEM := Lib.hid hmem
      have hlimk := HLIM.out k x1 hx1
      have hmk := HMX.out k
      clear hr1 hv1 hx1 hmem hc1 hkp
      go_wp2_with fail
      have hV0 : Below wr.heap.size wr (wr.alloc (.cells #[.int .i64 x.x.k, .int .i64 x.x.n, .string x.x.s, .slice x.a x.m x.c, .int .i64 x.x.f, .int .i64 x.x.t] 24)) := below_alloc _ _
      have hX8 : VB (wr.alloc (.cells #[.int .i64 x.x.k, .int .i64 x.x.n, .string x.x.s, .slice x.a x.m x.c, .int .i64 x.x.f, .int .i64 x.x.t] 24)) wr.heap.size x := vb_new wr x
      have HPv := Lib.hid (HPr.out.below hV0); have HBv := Lib.hid (HBr.out.below hV0); have HX8 := Lib.hid hX8
      have HTv := Lib.hid (HTr.out.trans_below hV0); have HRv := Lib.hid (HR1.out.below hV0)
      have hPa : ∀ i, blockOf a = some i → tb + 1 ≤ i ∧ i < wr.heap.size := fun i hi => OwnI.blockLt HPr.out hi
      have HPa := Lib.hid hPa
      have htr := HBr.out.lt
      generalize hV : wr.alloc (.cells #[.int .i64 x.x.k, .int .i64 x.x.n, .string x.x.s, .slice x.a x.m x.c, .int .i64 x.x.f, .int .i64 x.x.t] 24) = V0 at hV0 HPv HBv HX8 HTv HRv hX8 ⊢
      have hVs : wr.heap.size < V0.heap.size := hX8.lt
      clear hV hX8 c10 c11 c12 c13 c14 c15 hPa
      have Kp := Lib.hid (show ∀ V : World, Hid (VB V wr.heap.size x) → V.cell? ⟨wr.heap.size, 0, none⟩ = some (.int .i64 x.x.k) ∧ V.cell? ⟨wr.heap.size, 1, none⟩ = some (.int .i64 x.x.n) ∧ V.cell? ⟨wr.heap.size, 2, none⟩ = some (.string x.x.s) ∧ V.cell? ⟨wr.heap.size, 3, none⟩ = some (.slice x.a x.m x.c) ∧ V.cell? ⟨wr.heap.size, 4, none⟩ = some (.int .i64 x.x.f) ∧ V.cell? ⟨wr.heap.size, 5, none⟩ = some (.int .i64 x.x.t) from
        fun V h => ⟨h.out.cell 0, h.out.cell 1, h.out.cell 2, h.out.cell 3, h.out.cell 4, h.out.cell 5⟩)
      have X1 : Hid (VB V0.drew wr.heap.size x) := HX8.out.below (Below.drew (Below.refl _ _))
      have X2 : Hid (VB (V0.drew.alloc (.cells #[.int .i64 k] 3)) wr.heap.size x) := X1.out.below (below_alloc _ _)
      have X3 : Hid (VB (V0.alloc (.cells #[.int .i64 k] 3)).drew wr.heap.size x) := (HX8.out.below (below_alloc _ _)).below (Below.drew (Below.refl _ _))
      have O2 : Hid (OwnI (V0.drew.alloc (.cells #[.int .i64 k] 3)) (tb + 1) 3 a n c' p) := (HPv.out.drew).alloc _
      have O3 : Hid (OwnI (V0.alloc (.cells #[.int .i64 k] 3)).drew (tb + 1) 3 a n c' p) := (HPv.out.alloc _).drew
      have Z2 : Hid ((V0.drew.alloc (.cells #[.int .i64 k] 3)).cell? ((⟨V0.heap.size, 0, none⟩ : Addr).add 0) = some (.int .i64 k)) := src_new V0.drew [.int .i64 k] 3 0 _ rfl
      have Z3 : Hid ((V0.alloc (.cells #[.int .i64 k] 3)).drew.cell? ((⟨V0.heap.size, 0, none⟩ : Addr).add 0) = some (.int .i64 k)) := src_new V0 [.int .i64 k] 3 0 _ rfl
      have hk64 : -9223372036854775808 ≤ (k : Int) ∧ (k : Int) ≤ 9223372036854775807 := by omega
      have hbs : tb + 1 ≤ V0.heap.size := by omega
      have S2 : Hid (tb + 1 ≤ (V0.drew.alloc (.cells #[.int .i64 k] 3)).heap.size) := Lib.hid (by rw [size_alloc]; show tb + 1 ≤ V0.heap.size + 1; omega)
      have S3 : Hid (tb + 1 ≤ (V0.alloc (.cells #[.int .i64 k] 3)).drew.heap.size) := Lib.hid (by show tb + 1 ≤ (V0.alloc _).heap.size; rw [size_alloc]; omega)
      have B2 : Hid (Below V0.heap.size V0 (V0.drew.alloc (.cells #[.int .i64 k] 3))) := (Below.drew (Below.refl _ _)).alloc (Nat.le_refl _) _
      have B3 : Hid (Below V0.heap.size V0 (V0.alloc (.cells #[.int .i64 k] 3)).drew) := Below.drew (below_alloc _ _)
      have HIC := Lib.hid (show ∀ (w2 : World) (a2 : Option Addr) (c2 : Nat), Hid (ApR V0 w2 tb wr.heap.size x ((max N (n + 1 + mx l k) : Nat) : Int) d s a a2 (n + 1) c2 (p ++ [(k : Int)])) → Calls Try.prog 50 #[.agg #[.int .i64 x.x.k, .int .i64 x.x.n, .string x.x.s, .slice x.a x.m x.c, .int .i64 x.x.f, .int .i64 x.x.t], .slice a2 (n + 1) c2, .func (.func 53) #[.pointer (some ⟨tb, 0, none⟩)] #[]] w2 (WP x1 tb (max N (n + 1 + mx l k)) d s a2 (n + 1) (p ++ [(k : Int)]) w2) from
        fun w2 a2 c2 hA => by
          have h := HIH.out x1 HMEM.out x w2 a2 (n + 1) c2 (p ++ [(k : Int)]) (max N (n + 1 + mx l k)) HV1E.out (HRv.out.agree (kpB hA.out.turned hB (fun g hg => by have := (HPa.out g hg).1; omega))) hA.out.blk hA.out.own (by omega) (by omega)
          rw [HV1E.out] at h
          exact h)
      go_region_held_law (fun V => V.cell? ⟨wr.heap.size, 0, none⟩ = some (.int .i64 x.x.k) ∧ V.cell? ⟨wr.heap.size, 1, none⟩ = some (.int .i64 x.x.n) ∧ V.cell? ⟨wr.heap.size, 2, none⟩ = some (.string x.x.s) ∧ V.cell? ⟨wr.heap.size, 3, none⟩ = some (.slice x.a x.m x.c) ∧ V.cell? ⟨wr.heap.size, 4, none⟩ = some (.int .i64 x.x.f) ∧ V.cell? ⟨wr.heap.size, 5, none⟩ = some (.int .i64 x.x.t))
        (with_reducible first | exact Kp.out _ HX8 | exact Kp.out _ X1 | exact Kp.out _ X2 | exact Kp.out _ X3 | exact Kp.out _ XA | exact Kp.out _ XC)
        (first
          | ((first
              | (refine step_append_l (by rfl) (.tmp 21) (.tmp 23) (by rfl) (tb + 1) (by rfl) O2.out (by rfl) (k : Int) hk64 Z2.out (by omega) S2.out ?_; intro a2 c2 w2 ho2 hb2 hg2 hl2; have HA2 := Lib.hid (ap_done B2.out HX8.out HBv.out HPa.out ho2 hg2 hl2))
              | (refine step_append_l (by rfl) (.tmp 21) (.tmp 23) (by rfl) (tb + 1) (by rfl) O3.out (by rfl) (k : Int) hk64 Z3.out (by omega) S3.out ?_; intro a2 c2 w2 ho2 hb2 hg2 hl2; have HA2 := Lib.hid (ap_done B3.out HX8.out HBv.out HPa.out ho2 hg2 hl2))); have XA : Hid (VB w2 wr.heap.size x) := HA2.out.x8; clear ho2 hb2 hg2 hl2)
          | (go_at_call 50; (with_reducible refine (HIC.out w2 a2 c2 HA2).mono ?_); rintro e w3 ⟨a3, c3, rfl, ho3, hb3, ht3, hl3⟩; have XC : Hid (VB w3 wr.heap.size x) := walk_keeps HA2.out HPa.out ht3 (by omega) hVs; have hsl := slice_back ho3; have HO3 := Lib.hid ho3; have HB3 := Lib.hid hb3; have HT3 := Lib.hid ht3; have HL3 := Lib.hid hl3; clear ho3 hb3 ht3 hl3))
      go_wp2
      go_roundw
      case rel =>
        refine ⟨k + 1, a3, c3, by omega, by go_num, rfl, ?_, ?_, ?_, ?_⟩
        · have h := OwnI.first HO3.out n (by omega)
          rw [List.take_left' (by rw [HPr.out.len])] at h
          exact h
        · have h := HB3.out
          rw [show max (max N (n + 1 + mx l k)) (n + 1 + x1.depth) = max N (n + 1 + mx l (k + 1)) by rw [mx_succ HX1.out]; omega] at h
          exact h
        · exact (HTv.out.trans HA2.out.turned (fun i hi e => by
            rcases HLr.out with h | ⟨g, h, hg⟩
            · rw [← h]; exact e
            · rw [h] at e; cases e; omega)).trans HT3.out (fun i hi e => by
            rcases HA2.out.lies with h | ⟨g, h, hg⟩
            · rw [h] at e
              rcases HLr.out with h' | ⟨g, h', hg⟩
              · rw [← h']; exact e
              · rw [h'] at e; cases e; omega
            · rw [h] at e; cases e; have := HTr.out.size; omega)
        · rcases HL3.out with h | ⟨g, h, hg⟩
          · rcases HA2.out.lies with h1 | ⟨g, h1, hg⟩
            · rw [h, h1]; exact HLr.out
            · exact .inr ⟨g, h.trans h1, by have := HTr.out.size; omega⟩
          · exact .inr ⟨g, h, by have := HTr.out.size; have := HA2.out.turned.size; omega⟩
      case measure => simp [intOf]; omega
    · have hkm : k = m := by omega
      subst hkm
      go_wp2
      go_ret
      refine ⟨a, c', rfl, HPr.out, ?_, HTr.out, HLr.out⟩
      have h := HBr.out
      have e : max N (n + Tr.depth (Tr.mk vx l)) = max N (n + 1 + mx l k) := by rw [HDP.out]; omega
      show Blk wr tb #[d, .int .i64 ((max N (n + Tr.depth (Tr.mk vx l)) : Nat) : Int), s] _
      rw [e]
      exact h
end Go.Proofs.Ytbpjaidfpacbfaa.td
