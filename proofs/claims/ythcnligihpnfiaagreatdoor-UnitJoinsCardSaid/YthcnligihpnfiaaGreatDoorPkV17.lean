import Derived.Test.YthcnligihpnfiaaGreatDoorPkV16
import Derived.Test.YthcnligihpnfiaaGreatDoorPkV14
import Derived.Test.YthcnligihpnfiaaGreatDoorPkV4
import Derived.Test.YthcnligihpnfiaaGreatDoorPkV15
import Derived.Test.YthcnligihpnfiaaGreatDoorPkV6
import Derived.Test.YthcnligihpnfiaaGreatDoorPkV12
import Derived.Test.YthcnligihpnfiaaGreatDoorPkV5
import Derived.Test.YthcnligihpnfiaaGreatDoorPkV11
section
namespace Go.Proofs.YthcnligihpnfiaaGreatDoor.td
open Go.ChangeShapes Go.WideShapes Go.ChangeAt Go.RowKit
open bs tr te
set_option linter.unusedVariables false
theorem deepen_any (w : World) (tb N : Nat) (d s : Value) (pa : Option Addr) (n c : Nat) (h : Blk w tb #[d, .int .i64 N, s] 81) (hN : N ≤ 1000000) (hn : n ≤ 1000000) : Calls Tryz.prog 46 #[.pointer (some ⟨tb, 0, none⟩), .slice pa n c] w
    fun e w' => e = .returned (.tuple #[]) ∧ Blk w' tb #[d, .int .i64 ((max N (n + 1) : Nat) : Int), s] 81 ∧ Only w w' tb := by
  have c0 := h.cell 1; have f0 := h.free 1
  simp at c0
  have hw : IntKind.i64.wrap ((n : Int) + 1) = ((n + 1 : Nat) : Int) := by rw [IntWalk.i64_in _ (by omega)]; omega
  have hq : (if (N : Int) < ((n : Int) + 1) then ((n : Int) + 1) else (N : Int)) = ((max N (n + 1) : Nat) : Int) := by split <;> omega
  have hq2 : max (N : Int) ((n : Int) + 1) = ((max N (n + 1) : Nat) : Int) := by omega
  have H := Lib.hid h
  clear h
  go_enter Tryz.func46, Tryz.ntmps46
  go_wp2
  go_end0
  refine ⟨rfl, ?_, only_cell _ _ _ _⟩
  have := H.out.set 1 (.int .i64 ((max N (n + 1) : Nat) : Int))
  simpa using this
theorem mx_lt {x : Lab} {l : List VT} (k : Nat) : mx l k + 1 ≤ Tr.size (Tr.mk x l) := by
  have h : mx l k ≤ Tr.size (Tr.mk x l) - 1 := by
    unfold mx
    refine foldl_max_le _ _ _ (Nat.zero_le _) (fun y hy => ?_)
    rw [List.mem_map] at hy
    obtain ⟨z, hz, rfl⟩ := hy
    have h1 := depth_le z
    have h2 := Tr.size_le (x := x) (List.mem_of_mem_take hz)
    omega
  have := Tr.size_pos (Tr.mk x l)
  omega
def WP (t : VT) (tb N : Nat) (d s : Value) (pa : Option Addr) (n : Nat) (p : List Int) (w : World) (e : Ending) (w' : World) : Prop :=
  ∃ (a : Option Addr) (c : Nat), e = .returned (.slice a n c) ∧ OwnI w' (tb + 1) 3 a n c p ∧ Blk w' tb #[d, .int .i64 ((max N (n + t.depth) : Nat) : Int), s] 81 ∧ Turned w w' tb (blockOf pa) ∧ (blockOf a = blockOf pa ∨ ∃ g, blockOf a = some g ∧ w.heap.size ≤ g)
theorem kpB {w w' : World} {tb B : Nat} {row : Option Nat} (h : Turned w w' tb row) (hB : B ≤ tb) (hr : ∀ g, row = some g → B ≤ g) : Kp (· < B) w w' :=
  ⟨h.size, fun b hb hl => h.block b hl (by omega) (fun e => by have := hr b e; omega)⟩
structure ApR (V0 w2 : World) (tb g8 : Nat) (x : Vn) (M : Int) (d s : Value) (a a2 : Option Addr) (n c2 : Nat) (q : List Int) : Prop where
  own : OwnI w2 (tb + 1) 3 a2 n c2 q
  turned : Turned V0 w2 tb (blockOf a)
  x8 : VB w2 g8 x
  blk : Blk w2 tb #[d, .int .i64 M, s] 81
  lies : blockOf a2 = blockOf a ∨ ∃ g, blockOf a2 = some g ∧ V0.heap.size ≤ g
theorem ap_done {V0 X w2 : World} {tb g8 : Nat} {x : Vn} {M : Int} {d s : Value} {a a2 : Option Addr} {n c2 : Nat} {q : List Int} (hX : Below V0.heap.size V0 X) (h8 : VB V0 g8 x) (hb : Blk V0 tb #[d, .int .i64 M, s] 81) (hPa : ∀ i, blockOf a = some i → tb + 1 ≤ i ∧ i < g8)
    (ho : OwnI w2 (tb + 1) 3 a2 n c2 q) (hg : X.grownBy w2 (blockOf a)) (hl : blockOf a2 = blockOf a ∨ blockOf a2 = some X.heap.size) : ApR V0 w2 tb g8 x M d s a a2 n c2 q := by
  refine ⟨ho, (Turned.of_below hX tb (blockOf a)).trans (Turned.of_grown hg tb) (fun _ _ h => h), ?_, ?_, hl.imp id (fun h => ⟨_, h, hX.size⟩)⟩
  · exact (h8.below hX).of (hg.block g8 (h8.below hX).lt (fun e => by have := (hPa g8 e.symm).2; omega))
  · exact (hb.below hX).of (hg.block tb (hb.below hX).lt (fun e => by have := (hPa tb e.symm).1; omega))
theorem walk_keeps {V0 w2 w3 : World} {tb g8 : Nat} {x : Vn} {M : Int} {d s : Value} {a a2 : Option Addr} {n c2 : Nat} {q : List Int} (hA : ApR V0 w2 tb g8 x M d s a a2 n c2 q) (hPa : ∀ i, blockOf a = some i → tb + 1 ≤ i ∧ i < g8) (ht : Turned w2 w3 tb (blockOf a2)) (h : g8 ≠ tb) (hV : g8 < V0.heap.size) : VB w3 g8 x :=
  hA.x8.of (ht.block g8 hA.x8.lt h (fun e => by
    rcases hA.lies with h1 | ⟨g, h1, hg⟩
    · rw [h1] at e; have := (hPa g8 e).2; omega
    · rw [h1] at e; cases e; omega))
theorem slice_back {w : World} {base : Nat} {a : Option Addr} {n c : Nat} {q : List Int} (h : OwnI w base 3 a (n + 1) c q) : ∀ W : World, (Instr.sliceAt 82 (.slice a (n + 1) c) none (some (.int .i64 n)) none).run Tryz.prog W = .ok (.slice a n c) W := fun W => by
  have h1 := h.reads.cap; have h2 := h.reads.most
  exact slice_head_i a (n + 1) c n (by omega) h1 h2 W
set_option maxRecDepth 100000 in
set_option maxHeartbeats 4000000 in
theorem walk_any (tb B : Nat) (hB : B ≤ tb) (d s : Value) (t : VT) : ∀ (v : Vn) (w : World) (pa : Option Addr) (n c : Nat) (p : List Int) (N : Nat), v.tr = t → v.Rs (· < B) w → Blk w tb #[d, .int .i64 N, s] 81 → OwnI w (tb + 1) 3 pa n c p → N ≤ 1000000 → n + t.size ≤ 1000000 →
    Calls Tryz.prog 45 #[v.val, .slice pa n c, .func (.func 46) #[.pointer (some ⟨tb, 0, none⟩)] #[]] w (WP v.tr tb N d s pa n p w) := by
  induction t using Tr.ind with
  | h tx tl ih =>
  intro v w pa n c p N hat hv hb hp hN hn
  obtain ⟨vx, va, m, vc', l⟩ := v
  cases hat
  have hlm : l.length < Tr.size (Tr.mk vx l) := Tr.len_size
  have hN2 : N ≤ 1000000 := hN
  have hmx : ∀ k, mx l k + 1 ≤ Tr.size (Tr.mk vx l) := fun k => mx_lt k
  have hn2 : n + Tr.size (Tr.mk vx l) ≤ 1000000 := hn
  have hml : m ≤ 1000000 := by have := hv.rd.len; dsimp only at this; omega
  have htb := hb.lt
  have hvl := hv.rd
  dsimp only at hvl
  have hcapx := hvl.cap; have hmostx := hvl.most
  have hlx := hvl.len
  have hlim : ∀ k x, l[k]? = some x → Tr.sumk l k + x.size ≤ Tr.sumk l m := fun k x hk => by
    rw [← Tr.sumk_succ hk]
    unfold Tr.sumk
    have hkl := (List.getElem?_eq_some_iff.1 hk).1
    rw [List.take_of_length_le (show l.length ≤ m by omega)]
    have : l.map Tr.size = (l.take (k + 1)).map Tr.size ++ (l.drop (k + 1)).map Tr.size := by rw [← List.map_append, List.take_append_drop]
    rw [this, List.sum_append]
    omega
  have hsz : Tr.size (Tr.mk vx l) = 1 + Tr.sumk l m := Tr.sumk_all hlx
  have hW1 : Below w.heap.size w (w.alloc (.cells #[.int .i64 vx.k, .int .i64 vx.n, .string vx.s, .slice va m vc', .int .i64 vx.f, .int .i64 vx.t] 25)) := below_alloc _ _
  have hZ : VB (w.alloc (.cells #[.int .i64 vx.k, .int .i64 vx.n, .string vx.s, .slice va m vc', .int .i64 vx.f, .int .i64 vx.t] 25)) w.heap.size ⟨vx, va, m, vc', l⟩ := Blk.new w _ _
  have HV0 := Lib.hid hv; have HV := Lib.hid (hv.below hW1); have HBk := Lib.hid (hb.below hW1); have HP := Lib.hid (hp.below hW1); have HZ := Lib.hid hZ
  have HT := Lib.hid (Turned.of_below hW1 tb (blockOf pa))
  have hPL : ∀ i, blockOf pa = some i → tb + 1 ≤ i ∧ i < w.heap.size := fun i hi => OwnI.blockLt hp hi
  have HPL := Lib.hid hPL
  have HIH := Lib.hid ih; have HLX := Lib.hid hlx; have HSZ := Lib.hid hsz; have HLIM := Lib.hid hlim
  have hN' : N ≤ 1000000 := hN2
  have HMX := Lib.hid (fun k => Nat.le_trans (Nat.add_le_add_left (hmx k) n) hn2)
  have HDP := Lib.hid (mx_all (x := vx) hlx)
  have hn' : n + (1 + Tr.sumk l m) ≤ 1000000 := by rw [← hsz]; exact hn2
  clear hmx hv hb hp hW1 hZ hvl hlx ih hPL hN hn hN2 hn2 hlim hsz hlm
  unfold Vn.val
  have hcf : ∀ args (W : World), Sem.run Tryz.prog (callFunc 46 args) W = .ok (.enter 46 args) W := fun _ _ => rfl
  go_enter Tryz.func45, Tryz.ntmps45
  go_wp2_with fail
  generalize hWW : (w.alloc (.cells #[.int .i64 vx.k, .int .i64 vx.n, .string vx.s, .slice va m vc', .int .i64 vx.f, .int .i64 vx.t] 25)) = W at HV HBk HP HZ HT ⊢
  have hWs : w.heap.size + 1 = W.heap.size := by rw [← hWW]; simp
  clear hWW
  refine (deepen_any W tb N d s pa n c HBk.out hN' (by omega)).mono ?_
  rintro e w1 ⟨rfl, hb1, ho1⟩
  have HWS := Lib.hid hWs
  have HB1 := Lib.hid hb1
  have HT1 := Lib.hid (HT.out.trans (Turned.of_only ho1 (blockOf pa)) (fun i _ h => h))
  have HP1 := Lib.hid (OwnI.of HP.out (fun i hi => ho1.block i (by have := (HPL.out i hi).1; omega)))
  have HV1 := Lib.hid (HV.out.agree (ho1.kp (fun b (hb : b < B) => by omega)))
  have HZ1 := Lib.hid (ho1.blk HZ.out (by omega))
  have hs1 : w1.heap.size = W.heap.size := ho1.size
  have HS1 := Lib.hid hs1
  clear hb1 ho1 hWs hs1 HV HBk HP HZ HT
  have p1 := HZ1.out.cell 3
  simp at p1
  go_wp2_with fail
  go_loopw [1, 7, 8, 15] (fun s1 s7 s8 i wr => ∃ (k : Nat) (a : Option Addr) (c' : Nat), k ≤ m ∧ i = .int .i64 k ∧ s1 = .slice a n c' ∧ Hid (OwnI wr (tb + 1) 3 a n c' p) ∧ Hid (Blk wr tb #[d, .int .i64 ((max N (n + 1 + mx l k) : Nat) : Int), s] 81) ∧ Hid (Turned w wr tb (blockOf pa)) ∧ Hid (blockOf a = blockOf pa ∨ ∃ g, blockOf a = some g ∧ w.heap.size ≤ g)) (fun _ _ _ i _ => m - (intOf i).toNat)
  case atStart => exact ⟨0, pa, c, by omega, rfl, rfl, HP1, by rw [mx_zero, Nat.add_zero]; exact HB1, HT1, Lib.hid (.inl rfl)⟩
  case round =>
    obtain ⟨k, a, c', hk2, rfl, rfl, HPr, HBr, HTr, HLr⟩ := hrel
    by_cases hlt : k < m
    · have hkp : Kp (· < B) w wr := kpB HTr.out hB (fun g hg => by have := (HPL.out g hg).1; omega)
      obtain ⟨b1, o1, x1, rfl, hb1, hx1, hc1⟩ := recs_at (HV0.out.agree hkp).rd hlt
      obtain ⟨x, hv1, hr1, c10, c11, c12, c13, c14, c15⟩ := VAs.out hc1
      have HR1 := Lib.hid hr1; have HV1E := Lib.hid hv1; have HX1 := Lib.hid hx1
      have hmem : x1 ∈ l := List.mem_of_getElem? hx1
      have HMEM := Lib.hid hmem
      have hlimk := HLIM.out k x1 hx1
      have hmk := HMX.out k
      clear hr1 hv1 hx1 hmem hc1 hkp
      go_wp2_with fail
      have hV0 : Below wr.heap.size wr (wr.alloc (.cells #[.int .i64 x.x.k, .int .i64 x.x.n, .string x.x.s, .slice x.a x.m x.c, .int .i64 x.x.f, .int .i64 x.x.t] 25)) := below_alloc _ _
      have hX8 : VB (wr.alloc (.cells #[.int .i64 x.x.k, .int .i64 x.x.n, .string x.x.s, .slice x.a x.m x.c, .int .i64 x.x.f, .int .i64 x.x.t] 25)) wr.heap.size x := vb_new wr x
      have HPv := Lib.hid (HPr.out.below hV0); have HBv := Lib.hid (HBr.out.below hV0); have HX8 := Lib.hid hX8
      have HTv := Lib.hid (HTr.out.trans_below hV0); have HRv := Lib.hid (HR1.out.below hV0)
      have hPa : ∀ i, blockOf a = some i → tb + 1 ≤ i ∧ i < wr.heap.size := fun i hi => OwnI.blockLt HPr.out hi
      have HPa := Lib.hid hPa
      have htr := HBr.out.lt
      generalize hV : wr.alloc (.cells #[.int .i64 x.x.k, .int .i64 x.x.n, .string x.x.s, .slice x.a x.m x.c, .int .i64 x.x.f, .int .i64 x.x.t] 25) = V0 at hV0 HPv HBv HX8 HTv HRv hX8 ⊢
      have hVs : wr.heap.size < V0.heap.size := hX8.lt
      clear hV hX8 c10 c11 c12 c13 c14 c15 hPa
      have Kp := Lib.hid (show ∀ V : World, Hid (VB V wr.heap.size x) → V.cell? ⟨wr.heap.size, 0, none⟩ = some (.int .i64 x.x.k) ∧ V.cell? ⟨wr.heap.size, 1, none⟩ = some (.int .i64 x.x.n) ∧ V.cell? ⟨wr.heap.size, 2, none⟩ = some (.string x.x.s) ∧ V.cell? ⟨wr.heap.size, 3, none⟩ = some (.slice x.a x.m x.c) ∧ V.cell? ⟨wr.heap.size, 4, none⟩ = some (.int .i64 x.x.f) ∧ V.cell? ⟨wr.heap.size, 5, none⟩ = some (.int .i64 x.x.t) from
        fun V h => ⟨h.out.cell 0, h.out.cell 1, h.out.cell 2, h.out.cell 3, h.out.cell 4, h.out.cell 5⟩)
      have X1 : Hid (VB V0.drew wr.heap.size x) := HX8.out.below (Below.drew (Below.refl _ _))
      have X2 : Hid (VB (V0.drew.alloc (.cells #[.int .i64 k] 3)) wr.heap.size x) := X1.out.below (below_alloc _ _)
      have X3 : Hid (VB (V0.alloc (.cells #[.int .i64 k] 3)).drew wr.heap.size x) := (HX8.out.below (below_alloc _ _)).below (Below.drew (Below.refl _ _))
      have O2 : Hid (OwnI (V0.drew.alloc (.cells #[.int .i64 k] 3)) (tb + 1) 3 a n c' p) := (HPv.out.drew).alloc _
      have O3 : Hid (OwnI (V0.alloc (.cells #[.int .i64 k] 3)).drew (tb + 1) 3 a n c' p) := (HPv.out.alloc _).drew
      have Z2 : Hid ((V0.drew.alloc (.cells #[.int .i64 k] 3)).cell? ((⟨V0.heap.size, 0, none⟩ : Addr).add 0) = some (.int .i64 k)) := src_new V0.drew [.int .i64 k] 3 0 _ rfl
      have Z3 : Hid ((V0.alloc (.cells #[.int .i64 k] 3)).drew.cell? ((⟨V0.heap.size, 0, none⟩ : Addr).add 0) = some (.int .i64 k)) := src_new V0 [.int .i64 k] 3 0 _ rfl
      have hk64 : -9223372036854775808 ≤ (k : Int) ∧ (k : Int) ≤ 9223372036854775807 := by omega
      have hbs : tb + 1 ≤ V0.heap.size := by omega
      have S2 : Hid (tb + 1 ≤ (V0.drew.alloc (.cells #[.int .i64 k] 3)).heap.size) := Lib.hid (by rw [size_alloc]; show tb + 1 ≤ V0.heap.size + 1; omega)
      have S3 : Hid (tb + 1 ≤ (V0.alloc (.cells #[.int .i64 k] 3)).drew.heap.size) := Lib.hid (by show tb + 1 ≤ (V0.alloc _).heap.size; rw [size_alloc]; omega)
      have B2 : Hid (Below V0.heap.size V0 (V0.drew.alloc (.cells #[.int .i64 k] 3))) := (Below.drew (Below.refl _ _)).alloc (Nat.le_refl _) _
      have B3 : Hid (Below V0.heap.size V0 (V0.alloc (.cells #[.int .i64 k] 3)).drew) := Below.drew (below_alloc _ _)
      have HIC := Lib.hid (show ∀ (w2 : World) (a2 : Option Addr) (c2 : Nat), Hid (ApR V0 w2 tb wr.heap.size x ((max N (n + 1 + mx l k) : Nat) : Int) d s a a2 (n + 1) c2 (p ++ [(k : Int)])) → Calls Tryz.prog 45 #[.agg #[.int .i64 x.x.k, .int .i64 x.x.n, .string x.x.s, .slice x.a x.m x.c, .int .i64 x.x.f, .int .i64 x.x.t], .slice a2 (n + 1) c2, .func (.func 46) #[.pointer (some ⟨tb, 0, none⟩)] #[]] w2 (WP x1 tb (max N (n + 1 + mx l k)) d s a2 (n + 1) (p ++ [(k : Int)]) w2) from
        fun w2 a2 c2 hA => by
          have h := HIH.out x1 HMEM.out x w2 a2 (n + 1) c2 (p ++ [(k : Int)]) (max N (n + 1 + mx l k)) HV1E.out (HRv.out.agree (kpB hA.out.turned hB (fun g hg => by have := (HPa.out g hg).1; omega))) hA.out.blk hA.out.own (by omega) (by omega)
          rw [HV1E.out] at h
          exact h)
      go_region_held_law (fun V => V.cell? ⟨wr.heap.size, 0, none⟩ = some (.int .i64 x.x.k) ∧ V.cell? ⟨wr.heap.size, 1, none⟩ = some (.int .i64 x.x.n) ∧ V.cell? ⟨wr.heap.size, 2, none⟩ = some (.string x.x.s) ∧ V.cell? ⟨wr.heap.size, 3, none⟩ = some (.slice x.a x.m x.c) ∧ V.cell? ⟨wr.heap.size, 4, none⟩ = some (.int .i64 x.x.f) ∧ V.cell? ⟨wr.heap.size, 5, none⟩ = some (.int .i64 x.x.t))
        (with_reducible first | exact Kp.out _ HX8 | exact Kp.out _ X1 | exact Kp.out _ X2 | exact Kp.out _ X3 | exact Kp.out _ XA | exact Kp.out _ XC)
        (first
          | ((first
              | (refine step_append_l (by rfl) (.tmp 21) (.tmp 23) (by rfl) (tb + 1) (by rfl) O2.out (by rfl) (k : Int) hk64 Z2.out (by omega) S2.out ?_; intro a2 c2 w2 ho2 hb2 hg2 hl2; have HA2 := Lib.hid (ap_done B2.out HX8.out HBv.out HPa.out ho2 hg2 hl2))
              | (refine step_append_l (by rfl) (.tmp 21) (.tmp 23) (by rfl) (tb + 1) (by rfl) O3.out (by rfl) (k : Int) hk64 Z3.out (by omega) S3.out ?_; intro a2 c2 w2 ho2 hb2 hg2 hl2; have HA2 := Lib.hid (ap_done B3.out HX8.out HBv.out HPa.out ho2 hg2 hl2))); have XA : Hid (VB w2 wr.heap.size x) := HA2.out.x8; clear ho2 hb2 hg2 hl2)
          | (go_at_call 45; (with_reducible refine (HIC.out w2 a2 c2 HA2).mono ?_); rintro e w3 ⟨a3, c3, rfl, ho3, hb3, ht3, hl3⟩; have XC : Hid (VB w3 wr.heap.size x) := walk_keeps HA2.out HPa.out ht3 (by omega) hVs; have hsl := slice_back ho3; have HO3 := Lib.hid ho3; have HB3 := Lib.hid hb3; have HT3 := Lib.hid ht3; have HL3 := Lib.hid hl3; clear ho3 hb3 ht3 hl3))
      go_wp2
      go_roundw
      case rel =>
        refine ⟨k + 1, a3, c3, by omega, by go_num, rfl, ?_, ?_, ?_, ?_⟩
        · have h := OwnI.first HO3.out n (by omega)
          rw [List.take_left' (by rw [HPr.out.len])] at h
          exact h
        · have h := HB3.out
          rw [show max (max N (n + 1 + mx l k)) (n + 1 + x1.depth) = max N (n + 1 + mx l (k + 1)) by rw [mx_succ HX1.out]; omega] at h
          exact h
        · exact (HTv.out.trans HA2.out.turned (fun i hi e => by
            rcases HLr.out with h | ⟨g, h, hg⟩
            · rw [← h]; exact e
            · rw [h] at e; cases e; omega)).trans HT3.out (fun i hi e => by
            rcases HA2.out.lies with h | ⟨g, h, hg⟩
            · rw [h] at e
              rcases HLr.out with h' | ⟨g, h', hg⟩
              · rw [← h']; exact e
              · rw [h'] at e; cases e; omega
            · rw [h] at e; cases e; have := HTr.out.size; omega)
        · rcases HL3.out with h | ⟨g, h, hg⟩
          · rcases HA2.out.lies with h1 | ⟨g, h1, hg⟩
            · rw [h, h1]; exact HLr.out
            · exact .inr ⟨g, h.trans h1, by have := HTr.out.size; omega⟩
          · exact .inr ⟨g, h, by have := HTr.out.size; have := HA2.out.turned.size; omega⟩
      case measure => simp [intOf]; omega
    · have hkm : k = m := by omega
      subst hkm
      go_wp2
      go_ret
      refine ⟨a, c', rfl, HPr.out, ?_, HTr.out, HLr.out⟩
      have h := HBr.out
      have e : max N (n + Tr.depth (Tr.mk vx l)) = max N (n + 1 + mx l k) := by rw [HDP.out]; omega
      show Blk wr tb #[d, .int .i64 ((max N (n + Tr.depth (Tr.mk vx l)) : Nat) : Int), s] _
      rw [e]
      exact h
end Go.Proofs.YthcnligihpnfiaaGreatDoor.td
end
section
namespace Go.Proofs.YthcnligihpnfiaaGreatDoor.te
open Go.ChangeShapes Go.WideShapes Go.ChangeAt Go.RowKit
open bs tr
set_option linter.unusedVariables false
def ZP (n : Nat) (w : World) (e : Ending) (w' : World) : Prop := e = .returned (.int .i64 (n : Int)) ∧ Below w.heap.size w w'
set_option maxRecDepth 100000 in
set_option maxHeartbeats 2000000 in
theorem depth_any (a : Vn) (w : World) (ha : a.Rd w) (hsz : a.tr.size ≤ 100000) : Calls Tryz.prog 24 #[a.val] w (ZP a.tr.depth w) := by
  have hW1 : Below w.heap.size w ((w.alloc (.cells #[.int .i64 a.x.k, .int .i64 a.x.n, .string a.x.s, .slice a.a a.m a.c, .int .i64 a.x.f, .int .i64 a.x.t] 25)).alloc (.cells #[.int .i64 0, .int .i64 0, .slice none 0 0] 81)) := ((Below.refl _ _).alloc (Nat.le_refl _) _).alloc (by simp) _
  have hZ : VB ((w.alloc (.cells #[.int .i64 a.x.k, .int .i64 a.x.n, .string a.x.s, .slice a.a a.m a.c, .int .i64 a.x.f, .int .i64 a.x.t] 25)).alloc (.cells #[.int .i64 0, .int .i64 0, .slice none 0 0] 81)) w.heap.size a := (vb_new w a).below (below_alloc _ _)
  have hT : Blk ((w.alloc (.cells #[.int .i64 a.x.k, .int .i64 a.x.n, .string a.x.s, .slice a.a a.m a.c, .int .i64 a.x.f, .int .i64 a.x.t] 25)).alloc (.cells #[.int .i64 0, .int .i64 0, .slice none 0 0] 81)) (w.heap.size + 1) #[.int .i64 ((0 : Nat) : Int), .int .i64 0, .slice none 0 0] 81 := by
    have := Blk.new (w.alloc (.cells #[.int .i64 a.x.k, .int .i64 a.x.n, .string a.x.s, .slice a.a a.m a.c, .int .i64 a.x.f, .int .i64 a.x.t] 25)) #[.int .i64 0, .int .i64 0, .slice none 0 0] 81
    rwa [size_alloc] at this
  have HW := Lib.hid hW1; have HZ := Lib.hid hZ; have HT := Lib.hid hT
  have HA := Lib.hid (ha.rs)
  clear ha hW1 hZ hT
  have hmf : ∀ (fn : Fn) (first cap : Array Value) (w : World), (Instr.makeFunc fn first cap).run Tryz.prog w = .ok (.func fn first cap) w := fun _ _ _ _ => rfl
  unfold Vn.val
  go_enter Tryz.func24, Tryz.ntmps24
  go_upto_region 2 with fail
  generalize hWW : ((w.alloc (.cells #[.int .i64 a.x.k, .int .i64 a.x.n, .string a.x.s, .slice a.a a.m a.c, .int .i64 a.x.f, .int .i64 a.x.t] 25)).alloc (.cells #[.int .i64 0, .int .i64 0, .slice none 0 0] 81)) = W at HW HZ HT ⊢
  clear hWW
  go_wp2_with (refine wpList_load_T rfl _ rfl rfl HZ.out ?_)
  refine (td.walk_any (w.heap.size + 1) w.heap.size (by omega) (.int .i64 0) (.slice none 0 0) a.tr a W none 0 0 [] 0 rfl (HA.out.below HW.out) HT.out (OwnI.nil _ _ _) (by omega) (by omega)).mono ?_
  rintro e w2 ⟨a2, c2, rfl, ho2, hb2, ht2, hl2⟩
  have HB := Lib.hid (HW.out.trans (ht2.below HW.out.size (by omega) (fun i h => by cases h)))
  rw [Nat.zero_add, Nat.zero_max] at hb2
  have p0 := hb2.cell 1
  simp at p0
  clear ho2 hb2 ht2 hl2 hmf
  go_wp2
  go_ret
  exact ⟨rfl, HB.out⟩
end Go.Proofs.YthcnligihpnfiaaGreatDoor.te
end
section
namespace Go.Proofs.YthcnligihpnfiaaGreatDoor.am
open Go.ChangeShapes Go.WideShapes Go.ChangeAt Go.RowKit
open vt
set_option linter.unusedVariables false
def labE (x : Lab) : te.Lab := ⟨x.k, x.n, x.s, x.f, x.t⟩
noncomputable def toE (t : VT) : te.VT := Tr.fold (fun x _ b => tr.Tr.mk (labE x) b) t
theorem toE_mk (x : Lab) (l : List VT) : toE (.mk x l) = .mk (labE x) (l.map toE) := Tr.fold_mk _ x l
theorem toE_depth (t : VT) : (toE t).depth = dpt t := by
  induction t using Tr.ind with
  | h x l ih =>
    rw [toE_mk, tr.Tr.depth_mk, dpt_mk, List.map_map]
    congr 2
    exact List.map_congr_left (fun y hy => ih y hy)
theorem toE_size (t : VT) : (toE t).size = t.size := by
  induction t using Tr.ind with
  | h x l ih =>
    rw [toE_mk, tr.Tr.size_mk, Tr.size_mk, List.map_map]
    congr 2
    exact List.map_congr_left (fun y hy => ih y hy)
section
variable {S : CS} {w : World} (hS : ∀ b o, S b o → b < w.heap.size)
include hS
theorem sl_out {l : List VT} {v : Value} (h : RepP S w v (.sl 6 (l.map tc))) : ∃ a c, v = .slice a l.length c ∧ l.length ≤ c ∧ c ≤ 9223372036854775807 ∧ (a = none → c = 0) ∧
    (l = [] ∨ ∃ b off, a = some ⟨b, off, none⟩ ∧ b < w.heap.size ∧ ∃ V : Nat → Nat → Value, ∀ i y, l[i]? = some y → ∀ j p, (tc y)[j]? = some p → w.cell? ⟨b, off + i * 6 + j, none⟩ = some (V i j) ∧ RepP S w (V i j) p) := by
  obtain ⟨L, hL⟩ : ∃ L, l.map tc = L := ⟨_, rfl⟩
  rw [hL] at h
  cases h with
  | emp a c es hm ha =>
    have : l = [] := by simpa using hL
    subst this
    exact ⟨a, c, rfl, Nat.zero_le _, hm, ha, .inl rfl⟩
  | sl b off n c es L' hlen h0 hc hm hes V hcell hV =>
    subst hL
    have hn : l.length = n := by simpa using hlen
    subst hn
    have at' : ∀ i y, l[i]? = some y → (l.map tc)[i]? = some (tc y) := fun i y h => by rw [List.getElem?_map, h]; rfl
    refine ⟨_, c, rfl, hc, hm, (fun h => by cases h), .inr ⟨b, off, rfl, ?_, V, fun i y hi j p hj => ⟨(hcell i _ j p (at' i y hi) hj).2, hV i _ j p (at' i y hi) hj⟩⟩⟩
    obtain ⟨y, hy⟩ : ∃ y, l[0]? = some y := ⟨_, List.getElem?_eq_getElem h0⟩
    obtain ⟨p, hp⟩ : ∃ p, (tc y)[0]? = some p := ⟨_, List.getElem?_eq_getElem (by rw [tc_len]; decide)⟩
    exact hS _ _ (hcell 0 _ 0 p (at' 0 y hy) hp).1
theorem vs_of {l : List VT} {v : Value} (h : RepP S w v (.sl 6 (l.map tc))) (ih : ∀ y ∈ l, ∀ b o (V : Nat → Value), (∀ j p, (tc y)[j]? = some p → w.cell? ⟨b, o + j, none⟩ = some (V j) ∧ RepP S w (V j) p) → te.VA w b o (toE y)) : ∃ a c, v = .slice a l.length c ∧ te.VS w a l.length c (l.map toE) := by
  obtain ⟨a, c, h1, h2, h3, h4, h5⟩ := sl_out hS h
  refine ⟨a, c, h1, ⟨by simp, h2, h3, h4, ?_⟩⟩
  rcases h5 with h5 | ⟨b, off, h6, h7, V, h8⟩
  · left; rw [h5]; rfl
  · right
    refine ⟨b, off, h6, h7, fun i x hx => ?_⟩
    rw [List.getElem?_map] at hx
    obtain ⟨y, hy, rfl⟩ := Option.map_eq_some_iff.1 hx
    exact ih y (List.mem_of_getElem? hy) b (off + i * 6) (V i) (h8 i y hy)
omit hS in
theorem int_of {v : Value} {z : Int} (h : RepP S w v (I z)) : v = .int .i64 z := by cases h; rfl
omit hS in
theorem str_of {v : Value} {s : ByteArray} (h : RepP S w v (Sx s)) : v = .string s := by cases h; rfl
theorem va_of (t : VT) : Tr.all A6 t → ∀ b o (V : Nat → Value), (∀ j p, (tc t)[j]? = some p → w.cell? ⟨b, o + j, none⟩ = some (V j) ∧ RepP S w (V j) p) → te.VA w b o (toE t) := by
  induction t using Tr.ind with
  | h x l ih =>
    intro ha b o V hc
    obtain ⟨⟨a1, a2, a3, a4⟩, ha⟩ := (Tr.all_mk _ _ _).1 ha
    rw [tc_mk] at hc
    have c0 := hc 0 _ rfl
    have c1 := hc 1 _ rfl
    have c2 := hc 2 _ rfl
    have c3 := hc 3 _ rfl
    have c4 := hc 4 _ rfl
    have c5 := hc 5 _ rfl
    rw [int_of c0.2] at c0
    rw [int_of c1.2] at c1
    rw [str_of c2.2] at c2
    rw [int_of c4.2] at c4
    rw [int_of c5.2] at c5
    obtain ⟨a, c, h1, h2⟩ := vs_of hS c3.2 (fun y hy => ih y hy (ha y hy))
    rw [h1] at c3
    have := te.VA.intro (v := ⟨labE x, a, l.length, c, l.map toE⟩) (w := w) (b := b) (o := o) ⟨h2, ⟨a1, a2, a3, a4⟩⟩ ⟨c0.1, c3.1, c1.1, c2.1, c4.1, c5.1⟩
    rw [toE_mk]
    exact this
end
theorem vn_of {γ : Nat → G} {S : CS} {w : World} (hS : ∀ b o, S b o → b < w.heap.size) {t : VT} {v : Value} (ha : Tr.all A6 t) (h : RepV γ S w v (vT t)) : ∃ n : te.Vn, v = n.val ∧ n.tr = toE t ∧ n.Rd w := by
  obtain ⟨x, l⟩ := t
  obtain ⟨⟨a1, a2, a3, a4⟩, ha⟩ := (Tr.all_mk _ _ _).1 ha
  obtain ⟨cs, rfl, hl, hc⟩ := h
  rw [ta_mk] at hl hc
  obtain ⟨v0, e0, r0⟩ := hc 0 _ rfl
  obtain ⟨v1, e1, r1⟩ := hc 1 _ rfl
  obtain ⟨v2, e2, r2⟩ := hc 2 _ rfl
  obtain ⟨v3, e3, r3⟩ := hc 3 _ rfl
  obtain ⟨v4, e4, r4⟩ := hc 4 _ rfl
  obtain ⟨v5, e5, r5⟩ := hc 5 _ rfl
  obtain rfl := int_of r0
  obtain rfl := int_of r1
  obtain rfl := str_of r2
  obtain rfl := int_of r4
  obtain rfl := int_of r5
  obtain ⟨a, c, rfl, h2⟩ := vs_of hS r3 (fun y hy => va_of hS y (ha y hy))
  refine ⟨⟨labE x, a, l.length, c, l.map toE⟩, ?_, (toE_mk x l).symm, ⟨h2, ⟨a1, a2, a3, a4⟩⟩⟩
  have : cs = #[.int .i64 x.k, .int .i64 x.n, .string x.s, .slice a l.length c, .int .i64 x.f, .int .i64 x.t] := by
    apply Array.ext_getElem?
    intro i
    have hg : ∀ i : Nat, cs[i]? = cs.toList[i]? := fun i => by rw [Array.getElem?_toList]
    rw [hg]
    match i with
    | 0 => rw [e0]; rfl
    | 1 => rw [e1]; rfl
    | 2 => rw [e2]; rfl
    | 3 => rw [e3]; rfl
    | 4 => rw [e4]; rfl
    | 5 => rw [e5]; rfl
    | i + 6 => rw [List.getElem?_eq_none (by rw [hl]; simp)]; rfl
  rw [this]
  rfl
theorem pdepth_row (t : VT) (ha : Tr.all A6 t) (hs : t.size ≤ 100000) : Row Tryz.prog 24 [vT t] [] (vI (dpt t : Nat)) [] := by
  refine ⟨⟨_, Tryz.func24, rfl, rfl⟩, spec_of_below (ch := []) fun γ S w vs hm hv => ?_⟩
  match vs, hv with
  | [v0], ⟨h0, _⟩ =>
    obtain ⟨n, rfl, hn, hr⟩ := vn_of hm.inb ha h0
    refine (te.depth_any n w hr (by rw [hn, toE_size]; exact hs)).mono ?_
    rintro e w' ⟨rfl, hb⟩
    refine ⟨_, rfl, hb, ?_⟩
    rw [hn, toE_depth]
    exact .lit _ rfl
end Go.Proofs.YthcnligihpnfiaaGreatDoor.am
end
section
namespace Go.Proofs.YthcnligihpnfiaaGreatDoor.am
open Go.ChangeShapes Go.WideShapes Go.ChangeAt Go.RowKit
open vt
set_option linter.unusedVariables false
set_option linter.unusedSimpArgs false
noncomputable abbrev vT3i (r : VT × Int × Int) : AV := .tup [.agg (ta r.1), .c (.pv (I r.2.1)), .c (.pv (I r.2.2))]
theorem tok_kind {s : ByteArray} {ts : List Tok} (h : TokOk s ts) {i : Nat} (hi : i + 1 ≤ ts.length) : (nxt ts i).k = 5 ↔ ts.length ≤ i + 1 := by
  constructor
  · intro hk
    obtain ⟨M, rfl, h1, h2, h3, h4⟩ := h.ex
    rcases Nat.lt_or_ge i M.length with h5 | h5
    · have hx : (M ++ [enT s])[i]? = some M[i] := by rw [List.getElem?_append_left h5, List.getElem?_eq_getElem h5]
      rw [nxt_some hx] at hk
      exact absurd hk (h2 _ (List.getElem_mem h5)).1
    · simp; omega
  · intro hl
    have : i = ts.length - 1 := by omega
    rw [this, tok_last h]
    rfl
abbrev zTb : AO := .box [.pv (I 0), .pv (I 0), .pv (Sx ⟨#[]⟩), .pv .nilS, .pv (I 0), .pv (I 0)]
theorem lpU_pl {ts : List Tok} (ht : TO ts) : ∀ (m i : Nat) (acc : List VT), i ≤ ts.length → PS ts 0 i acc → (lpU ts m i acc).2.2 = 0 → PS ts 0 (lpU ts m i acc).2.1 (lpU ts m i acc).1
  | 0, i, acc, hi, h => fun h' => by rw [lpU] at h'; exact absurd h' (by simp)
  | m + 1, i, acc, hi, h => by
    rw [lpU]
    by_cases h0 : ts.length ≤ i + 1
    · rw [if_pos h0]; exact fun _ => h
    rw [if_neg h0]
    have hk := decl_oks (ts := ts) i hi
    by_cases h1 : (declG ts i).2.2 ≠ 0
    · rw [if_pos h1]; exact fun h' => absurd h' h1
    · rw [if_neg h1]
      have h1 : (declG ts i).2.2 = 0 := by simpa using h1
      exact lpU_pl ht m _ _ (hk.ok.yes h1).2 (ps_snoc ht h (Nat.zero_le _) (Nat.le_refl _) hk.ok h1 (decl_pl ht i hi))
theorem mod_al {ts : List Tok} (ht : TO ts) (s : ByteArray) (hs : s.size ≤ 8000) (m : Nat) (h : (lpU ts m 0 []).2.2 = 0) : Tr.all A6 (modT s (lpU ts m 0 []).1) := by
  have hp := lpU_pl ht m 0 [] (Nat.zero_le _) (ps_nil ht (Nat.le_refl _) (Nat.zero_le _)) h
  have e : I6 (s.size : Int) := ⟨by omega, by omega⟩
  exact (Tr.all_mk _ _ _).2 ⟨⟨(show I6 36 by decide), (show I6 0 by decide), (show I6 0 by decide), e⟩, hp.al⟩
structure InvUP (ts : List Tok) (C : List VT × Nat × Int) (x : Nat × Nat × Int × List VT) : Prop where
  no : x.2.2.1 ≠ 0 → C.2 = (x.2.1, x.2.2.1)
  yes : x.2.2.1 = 0 → InvU ts C (x.1, x.2.1, x.2.2.2)
set_option maxRecDepth 100000 in
set_option maxHeartbeats 4000000 in
theorem uparse_row (L : List (Nat × Array Value)) (s : ByteArray) (hs : s.size ≤ 8000) (tk : Row Tryz.prog 18 [vS s] [.lib L] (vTk (tokG s)) [some (.lib L)]) : Row Tryz.prog 9 [vS s] [.lib L] (vT3i (unitG s)) [some (.lib L)] := by
  unfold unitG
  by_cases h0 : (tokG s).2.2 = 0; rotate_left
  · rw [if_pos h0]
    obtain ⟨⟨ts, p, e⟩, ht⟩ : ∃ r, tokG s = r := ⟨_, rfl⟩
    rw [ht] at tk h0 ⊢
    dsimp only at h0 ⊢
    clear ht
    refine row_of Tryz.func9 rfl rfl (Nat.le_of_ble_eq_true rfl) ?_
    repeat' (first | refine aw_seq ?_ | refine aw_skip ?_ | refine aw_block ?_ | refine aw_exit ?_ | refine aw_cond rfl (fun _ => ?_) (fun hb => absurd hb (by decide)) | refine aw_cond rfl (fun hb => absurd hb (by decide)) (fun _ => ?_) | (refine aw_reg (fun K hK => ?_); simp -implicitDefEqProofs [h0]) | (refine aw_drw mixd (fun K hK => ?_); simp -implicitDefEqProofs [h0]) | refine hK _ ?_ | refine hK _ _ (by rfl) ?_ | (refine ar_call (cb tk 0 ?_); simp -implicitDefEqProofs [h0]) | (refine ard_call (db tk 0 ?_); simp -implicitDefEqProofs [h0]) | fail)
    refine aw_ret (fin_box ?_); simp -implicitDefEqProofs [FinB, resV, resT, z0] <;> try rfl
  rw [if_neg (by simp [h0])]
  have hok := tok_ok h0
  obtain ⟨⟨ts, p, e⟩, ht⟩ : ∃ r, tokG s = r := ⟨_, rfl⟩
  rw [ht] at tk h0 hok ⊢
  dsimp only at h0 hok ⊢
  subst h0
  clear ht
  have hlen := tok_len hok
  have nw : Row Tryz.prog 19 [vKs ts, vI 0] [] (vRd ts 0 0) [] := new_yes ts 0 (Nat.zero_le _)
  unfold modG
  have hsz := mod_sz (ts := ts) s (ts.length + 1)
  have h0 : InvUP ts (lpU ts (ts.length + 1) 0 []) (ts.length + 1, 0, 0, []) := ⟨fun h => absurd rfl h, fun _ => ⟨rfl, by dsimp only; omega, by dsimp only; omega, by simp, by simp [sm]⟩⟩
  obtain ⟨C, hC⟩ : ∃ C, lpU ts (ts.length + 1) 0 [] = C := ⟨_, rfl⟩
  rw [hC] at hsz h0 ⊢
  have hal : C.2.2 = 0 → Tr.all A6 (modT s C.1) := fun h => by
    rw [← hC] at h ⊢
    exact mod_al (tok_to hok) s (by omega) _ h
  clear hC
  refine row_of Tryz.func9 rfl rfl (Nat.le_of_ble_eq_true rfl) ?_
  repeat' (first | refine aw_seq ?_ | refine aw_skip ?_ | refine aw_block ?_ | refine aw_exit ?_ | refine aw_cond rfl (fun _ => ?_) (fun hb => absurd hb (by decide)) | refine aw_cond rfl (fun hb => absurd hb (by decide)) (fun _ => ?_) | (refine aw_reg (fun K hK => ?_); simp -implicitDefEqProofs) | (refine aw_drw mixd (fun K hK => ?_); simp -implicitDefEqProofs) | refine hK _ ?_ | refine hK _ _ (by rfl) ?_ | (refine ar_call (cb tk 0 ?_); simp -implicitDefEqProofs) | (refine ard_call (db tk 0 ?_); simp -implicitDefEqProofs) | (refine ar_call (cp nw ?_); simp -implicitDefEqProofs) | (refine ard_call (dp nw ?_); simp -implicitDefEqProofs) | fail)
  refine aw_nilc 44 3 _ 25 6 rfl rfl (show 44 < 46 by decide) ?_
  dsimp only [St.nilc, List.set]
  refine aw_lp (ι := Nat × Nat × Int × List VT) (fun x => mkSt [(2, .v (.c (.ptr 1 0))), (3, vI 0), (4, vI 0), (10, .v (.c (.ptr 2 0))), (11, .v (.c (.ptr 3 0)))] [some (.lib L), some zTb, some (rd ts x.2.1 x.2.2.1), some (.box [.pv (I 36), .pv (I 0), .pv (Sx ⟨#[]⟩), .row 4 6 (x.2.2.2.map tc), .pv (I 0), .pv (I s.size)]), some (.row 25 6)]) (InvUP ts C) (fun x => x.1) (ts.length + 1, 0, 0, []) h0 (cov_intro [0, 1, 39, 44, 46] (by simp -implicitDefEqProofs) (by simp -implicitDefEqProofs) (by decide) rfl (by simp)) (fun Z hI x hx => ?_)
  clear h0 tk nw
  obtain ⟨m, i, e, acc⟩ := x
  obtain ⟨x1, x2⟩ := hx
  dsimp only at x1 x2 ⊢
  have g := goes_row ts i e
  have nx := next_row ts i e
  by_cases he : e = 0; rotate_left
  · have x1 := x1 he
    rw [if_pos (by rw [x1]; exact he), show C.2.1 = i by rw [x1], show C.2.2 = e by rw [x1]]
    have er := err_row ts i e
    rw [show frT ts i = (nxt ts i).f from rfl]
    obtain ⟨⟨xk, xn, xs, xf, xt⟩, hn⟩ : ∃ x, nxt ts i = x := ⟨_, rfl⟩
    rw [hn] at nx ⊢
    clear x1 x2 hsz hal hok hn hlen
    repeat' (first | refine aw_seq ?_ | refine aw_skip ?_ | refine aw_block ?_ | refine aw_exit ?_ | refine aw_cond rfl (fun _ => ?_) (fun hb => absurd hb (by decide)) | refine aw_cond rfl (fun hb => absurd hb (by decide)) (fun _ => ?_) | (refine aw_reg (fun K hK => ?_); simp -implicitDefEqProofs [he]) | (refine aw_drw mixd (fun K hK => ?_); simp -implicitDefEqProofs [he]) | refine hK _ ?_ | refine hK _ _ (by rfl) ?_ | (refine ar_call (cb g 2 ?_); simp -implicitDefEqProofs [he]) | (refine ard_call (db g 2 ?_); simp -implicitDefEqProofs [he]) | (refine ar_call (cb nx 2 ?_); simp -implicitDefEqProofs [he]) | (refine ard_call (db nx 2 ?_); simp -implicitDefEqProofs [he]) | (refine ar_call (cb er 2 ?_); simp -implicitDefEqProofs [he]) | (refine ard_call (db er 2 ?_); simp -implicitDefEqProofs [he]) | fail)
    refine aw_ret (fin_box ?_); simp -implicitDefEqProofs [FinB, resV, resT, z0] <;> try rfl
  subst he
  have x2 := x2 rfl
  have hk := tok_kind hok x2.le
  dsimp only at hk
  by_cases h5 : (nxt ts i).k = 5
  · have hle := hk.1 h5
    obtain ⟨y1, y2, y3, y4, y5⟩ := x2
    dsimp only at y1 y2 y3 y4 y5
    obtain ⟨m, rfl⟩ : ∃ k, m = k + 1 := ⟨m - 1, by omega⟩
    rw [lpU, if_pos hle] at y1
    subst y1
    dsimp only at hsz hal ⊢
    have hal := hal rfl
    rw [if_neg (by simp)]
    have dep := pdepth_row (modT s acc) hal (by omega)
    obtain ⟨⟨xk, xn, xs, xf, xt⟩, hn⟩ : ∃ x, nxt ts i = x := ⟨_, rfl⟩
    rw [hn] at nx h5
    dsimp only at h5
    subst h5
    obtain ⟨d, hd⟩ : ∃ d, dpt (modT s acc) = d := ⟨_, rfl⟩
    rw [hd] at dep ⊢
    unfold modT at dep ⊢
    clear x1 hk hn hsz hal hok
    by_cases h6 : 64 < acc.length
    · rw [if_pos h6]
      have h6' : (64 : Int) < acc.length := by omega
      repeat' (first | refine aw_seq ?_ | refine aw_skip ?_ | refine aw_block ?_ | refine aw_exit ?_ | refine aw_cond rfl (fun _ => ?_) (fun hb => absurd hb (by decide)) | refine aw_cond rfl (fun hb => absurd hb (by decide)) (fun _ => ?_) | (refine aw_reg (fun K hK => ?_); simp -implicitDefEqProofs [h6, h6']) | (refine aw_drw mixd (fun K hK => ?_); simp -implicitDefEqProofs [h6, h6']) | refine hK _ ?_ | refine hK _ _ (by rfl) ?_ | (refine ar_call (cb g 2 ?_); simp -implicitDefEqProofs [h6, h6']) | (refine ard_call (db g 2 ?_); simp -implicitDefEqProofs [h6, h6']) | (refine ar_call (cb nx 2 ?_); simp -implicitDefEqProofs [h6, h6']) | (refine ard_call (db nx 2 ?_); simp -implicitDefEqProofs [h6, h6']) | (refine ar_call (cp dep ?_); simp -implicitDefEqProofs [h6, h6']) | (refine ard_call (dp dep ?_); simp -implicitDefEqProofs [h6, h6']) | fail)
      refine aw_ret (fin_box ?_); simp -implicitDefEqProofs [FinB, resV, resT, z0] <;> try rfl
    rw [if_neg h6]
    have h6' : ¬ (64 : Int) < acc.length := by omega
    by_cases h7 : 64 < d
    · rw [if_pos h7]
      have h7' : (64 : Int) < d := by omega
      repeat' (first | refine aw_seq ?_ | refine aw_skip ?_ | refine aw_block ?_ | refine aw_exit ?_ | refine aw_cond rfl (fun _ => ?_) (fun hb => absurd hb (by decide)) | refine aw_cond rfl (fun hb => absurd hb (by decide)) (fun _ => ?_) | (refine aw_reg (fun K hK => ?_); simp -implicitDefEqProofs [h6, h6', h7, h7']) | (refine aw_drw mixd (fun K hK => ?_); simp -implicitDefEqProofs [h6, h6', h7, h7']) | refine hK _ ?_ | refine hK _ _ (by rfl) ?_ | (refine ar_call (cb g 2 ?_); simp -implicitDefEqProofs [h6, h6', h7, h7']) | (refine ard_call (db g 2 ?_); simp -implicitDefEqProofs [h6, h6', h7, h7']) | (refine ar_call (cb nx 2 ?_); simp -implicitDefEqProofs [h6, h6', h7, h7']) | (refine ard_call (db nx 2 ?_); simp -implicitDefEqProofs [h6, h6', h7, h7']) | (refine ar_call (cp dep ?_); simp -implicitDefEqProofs [h6, h6', h7, h7']) | (refine ard_call (dp dep ?_); simp -implicitDefEqProofs [h6, h6', h7, h7']) | fail)
      refine aw_ret (fin_box ?_); simp -implicitDefEqProofs [FinB, resV, resT, z0] <;> try rfl
    · rw [if_neg h7]
      have h7' : ¬ (64 : Int) < d := by omega
      repeat' (first | refine aw_seq ?_ | refine aw_skip ?_ | refine aw_block ?_ | refine aw_exit ?_ | refine aw_cond rfl (fun _ => ?_) (fun hb => absurd hb (by decide)) | refine aw_cond rfl (fun hb => absurd hb (by decide)) (fun _ => ?_) | (refine aw_reg (fun K hK => ?_); simp -implicitDefEqProofs [h6, h6', h7, h7']) | (refine aw_drw mixd (fun K hK => ?_); simp -implicitDefEqProofs [h6, h6', h7, h7']) | refine hK _ ?_ | refine hK _ _ (by rfl) ?_ | (refine ar_call (cb g 2 ?_); simp -implicitDefEqProofs [h6, h6', h7, h7']) | (refine ard_call (db g 2 ?_); simp -implicitDefEqProofs [h6, h6', h7, h7']) | (refine ar_call (cb nx 2 ?_); simp -implicitDefEqProofs [h6, h6', h7, h7']) | (refine ard_call (db nx 2 ?_); simp -implicitDefEqProofs [h6, h6', h7, h7']) | (refine ar_call (cp dep ?_); simp -implicitDefEqProofs [h6, h6', h7, h7']) | (refine ard_call (dp dep ?_); simp -implicitDefEqProofs [h6, h6', h7, h7']) | fail)
      refine aw_ret (fin_box ?_); simp -implicitDefEqProofs [FinB, resV, resT] <;> try rfl
  · have hnl : ¬ ts.length ≤ i + 1 := fun h => h5 (hk.2 h)
    have hile := x2.le
    have hfew := x2.few
    dsimp only at hile hfew
    have d := decl9_row ts (by omega) i (by omega)
    obtain ⟨m, rfl⟩ : ∃ k, m = k + 1 := ⟨m - 1, by have := x2.fuel; dsimp only at this; omega⟩
    have nxt' : InvUP ts C (m, (declG ts i).2.1, (declG ts i).2.2, acc ++ [(declG ts i).1]) := by
      refine ⟨fun h => ?_, fun h => invU_next hok x2 hnl h⟩
      have y1 := x2.eq
      dsimp only at y1 h
      rw [lpU, if_neg hnl, if_pos h] at y1
      rw [← y1]
    obtain ⟨⟨xk, xn, xs, xf, xt⟩, hn⟩ : ∃ x, nxt ts i = x := ⟨_, rfl⟩
    obtain ⟨⟨⟨px, pl⟩, j, e2⟩, hd⟩ : ∃ r, declG ts i = r := ⟨_, rfl⟩
    rw [hn] at nx h5
    rw [hd] at d nxt'
    dsimp only at h5 d nxt'
    have b1 : (acc.length + 1) * 72 ≤ 140737488355328 := by omega
    have b2 : acc.length + 1 ≤ 140737488355328 := by omega
    clear x1 x2 hk hn hsz hal hok hd
    repeat' (first | refine aw_seq ?_ | refine aw_skip ?_ | refine aw_block ?_ | refine aw_exit ?_ | refine aw_cond rfl (fun _ => ?_) (fun hb => absurd hb (by decide)) | refine aw_cond rfl (fun hb => absurd hb (by decide)) (fun _ => ?_) | (refine aw_reg (fun K hK => ?_); simp -implicitDefEqProofs [h5, b1, b2]) | (refine aw_drw mixd (fun K hK => ?_); simp -implicitDefEqProofs [h5, b1, b2]) | refine hK _ ?_ | refine hK _ _ (by rfl) ?_ | (refine ar_call (cb g 2 ?_); simp -implicitDefEqProofs [h5, b1, b2]) | (refine ard_call (db g 2 ?_); simp -implicitDefEqProofs [h5, b1, b2]) | (refine ar_call (cb nx 2 ?_); simp -implicitDefEqProofs [h5, b1, b2]) | (refine ard_call (db nx 2 ?_); simp -implicitDefEqProofs [h5, b1, b2]) | (refine ar_call (cb d 2 ?_); simp -implicitDefEqProofs [h5, b1, b2]) | (refine ard_call (db d 2 ?_); simp -implicitDefEqProofs [h5, b1, b2]) | fail)
    refine ⟨(_, _, _, _), nxt', (by dsimp only; omega), ?_⟩; rw [hI]; exact cov_intro [0, 1, 2, 3, 71] (by simp -implicitDefEqProofs) (by simp -implicitDefEqProofs) (by decide) rfl (by simp)
end Go.Proofs.YthcnligihpnfiaaGreatDoor.am
end
section
namespace Go.Proofs.YthcnligihpnfiaaGreatDoor.am
open Go.ChangeShapes Go.WideShapes Go.ChangeAt Go.RowKit
open vt
set_option linter.unusedVariables false
set_option linter.unusedSimpArgs false
theorem td_item : td Tryz.prog 146 = some ⟨true, 2, 32, [.lit (.string ⟨#[]⟩), .lit (.string ⟨#[]⟩)], [(0, 1, false), (1, 1, false)], .struct⟩ := Eq.trans (by kernel_rfl) (Eq.refl _)
theorem td_items : td Tryz.prog 142 = some ⟨false, 1, 24, [.nilS], [], (.slice 146)⟩ := Eq.trans (by kernel_rfl) (Eq.refl _)
attribute [simp] td_item td_items
section
variable (ts : List Tok) (hl : ts.length ≤ 1000000000)
include hl
variable (S : Nat → Got) (hS : ∀ j, j ≤ ts.length → OkS ts 0 j (S j)) (i : Nat)
  (hrow : ∀ j, i < j → j ≤ ts.length → Row Tryz.prog 131 [vKs ts, vI j] [] (vG (S j)) [])
structure InvRB (b : Nat) (x : Nat × Nat × List VT) : Prop where
  eq : lpB ts S b x.1 x.2.1 x.2.2 = blG ts S b
  lt : b < x.2.1 ∧ x.2.1 ≤ ts.length
  fuel : ts.length < x.1 + x.2.1
  few : x.2.2.length + x.1 ≤ ts.length + 1
include hS hrow
end
end Go.Proofs.YthcnligihpnfiaaGreatDoor.am
end
section
namespace Go.Proofs.YthcnligihpnfiaaGreatDoor.am
open Go.ChangeShapes Go.WideShapes Go.ChangeAt Go.RowKit
open vt
set_option linter.unusedVariables false
set_option linter.unusedSimpArgs false
section
variable (ts : List Tok) (hl : ts.length ≤ 1000000000) (S : Nat → Got) (hS : ∀ j, j ≤ ts.length → OkS ts 0 j (S j)) (i : Nat) (hi : i ≤ ts.length)
  (hrow : ∀ j, i < j → j ≤ ts.length → Row Tryz.prog 131 [vKs ts, vI j] [] (vG (S j)) [])
structure InvF (kd : Int) (L : List It) (R : Got) (x : Nat × Nat × ByteArray × List VT) : Prop where
  eq : itH ts (RR ts S) i kd 0 (L.drop x.1) x.2.1 x.2.2.1 x.2.2.2 = R
  le : x.1 ≤ L.length
  at' : i ≤ x.2.1 ∧ x.2.1 ≤ ts.length
  cr : ∃ c, c + sm x.2.2.2 + i ≤ x.2.1 ∧ Cr c (L.drop x.1)
  few : x.2.2.2.length ≤ x.1
include hl hS hi hrow
end
end Go.Proofs.YthcnligihpnfiaaGreatDoor.am
end
section
namespace Go.Proofs.YthcnligihpnfiaaGreatDoor.am
open Go.ChangeShapes Go.WideShapes Go.ChangeAt Go.RowKit
open vt
set_option linter.unusedVariables false
set_option linter.unusedSimpArgs false
section
variable (ts : List Tok) (hl : ts.length ≤ 1000000000)
include hl
structure InvRF (i : Nat) (C : List VT × Nat × Int) (x : Nat × Nat × List VT) : Prop where
  eq : lpF ts x.1 x.2.1 x.2.2 = C
  le : i ≤ x.2.1 ∧ x.2.1 ≤ ts.length
  fuel : ts.length < x.1 + x.2.1
  few : x.2.2.length + x.1 ≤ ts.length + 1
structure InvRP (i : Nat) (C : List VT × Nat × Int) (x : Nat × Nat × List VT × Bool) : Prop where
  go : x.2.2.2 = true → lpC ts (partG ts) x.1 x.2.1 x.2.2.1 = C
  no : x.2.2.2 = false → C = (x.2.2.1, x.2.1, 0)
  le : i ≤ x.2.1 ∧ x.2.1 ≤ ts.length
  fuel : x.2.2.2 = true → ts.length < x.1 + x.2.1
  few : x.2.2.1.length + x.1 ≤ ts.length + 2
end
end Go.Proofs.YthcnligihpnfiaaGreatDoor.am
end
section
namespace Go.Proofs.YthcnligihpnfiaaGreatDoor.am
open Go.ChangeShapes Go.WideShapes Go.ChangeAt Go.RowKit
open vt
set_option linter.unusedVariables false
set_option linter.unusedSimpArgs false
section
variable (ts : List Tok) (hl : ts.length ≤ 1000000000)
include hl
omit hl in
theorem short_eq (i : Nat) (k : Int) (w s : ByteArray) (r : Nat) (hw : isK w (nxt ts i) = true) : itH ts (R9 ts) i k 0 [.sgn w, .nam, .sgn s, .sub r, .sgn sEnd] i ⟨#[]⟩ [] = if (nxt ts (i + 1)).k = 1 then if isK s (nxt ts (i + 2)) = true then if (R9 ts r (i + 3)).2.2 = 0 then if isK sEnd (nxt ts (R9 ts r (i + 3)).2.1) = true then mk7 ts i ((R9 ts r (i + 3)).2.1 + 1) k 0 (nxt ts (i + 1)).s [(R9 ts r (i + 3)).1] else bad7 (R9 ts r (i + 3)).2.1 else R9 ts r (i + 3) else bad7 (i + 2) else bad7 (i + 1) := by
  rw [itG_sgn, if_pos hw, itG_nam, itG_sgn, itG_sub, itG_sgn, itH]
  rfl
end
end Go.Proofs.YthcnligihpnfiaaGreatDoor.am
end
section
namespace Go.Proofs.YthcnligihpnfiaaGreatDoor.am
open Go.ChangeShapes Go.WideShapes Go.ChangeAt Go.RowKit
open vt
set_option linter.unusedVariables false
set_option linter.unusedSimpArgs false
section
variable (ts : List Tok) (hl : ts.length ≤ 1000000000)
include hl
end
end Go.Proofs.YthcnligihpnfiaaGreatDoor.am
end
section
namespace Go.Proofs.YthcnligihpnfiaaGreatDoor.am
open Go.ChangeShapes Go.WideShapes Go.ChangeAt Go.RowKit
open vt
set_option linter.unusedVariables false
set_option linter.unusedSimpArgs false
end Go.Proofs.YthcnligihpnfiaaGreatDoor.am
end
section
namespace Go.Proofs.YthcnligihpnfiaaGreatDoor.am
open Go.ChangeShapes Go.WideShapes Go.ChangeAt Go.RowKit
open vt
set_option linter.unusedVariables false
set_option linter.unusedSimpArgs false
end Go.Proofs.YthcnligihpnfiaaGreatDoor.am
end
section
namespace Go.Proofs.YthcnligihpnfiaaGreatDoor.am
open Go.ChangeShapes Go.WideShapes Go.ChangeAt Go.RowKit
open vt
set_option linter.unusedVariables false
set_option linter.unusedSimpArgs false
abbrev sV : ByteArray := ⟨#[118, 97, 114, 32, 97, 58, 32, 105, 110, 116, 59]⟩
abbrev sVa : ByteArray := ⟨#[97]⟩
abbrev sVi : ByteArray := ⟨#[105, 110, 116]⟩
theorem tk_stp {s : ByteArray} {i j k : Nat} {L : List lx.Tk} {x : lx.Tk} (h : lx.nx s i = j) (hj : j < s.size) (hi : i ≤ s.size) (ho : lx.on s j = (x, 0)) (hk : x.t.toNat = k) : lx.app L (lx.toks s i) = lx.app (L ++ [x]) (lx.toks s k) := by
  rw [lx.app_step (by rw [h]; exact hj) hi (by rw [h, ho]), h, ho, ← hk]
theorem sv_toks : lx.tokens sV = ([⟨3, 0, wVar, 0, 3⟩, ⟨1, 0, sVa, 4, 5⟩, ⟨4, 0, sCol, 5, 6⟩, ⟨3, 0, sVi, 7, 10⟩, ⟨4, 0, sEnd, 10, 11⟩, lx.tkEnd sV], 0, 0) := by
  have b : ∀ i : Nat, (i = 0 ∨ i = 4 ∨ i = 5 ∨ i = 7 ∨ i = 10) → lx.nx sV i = i := fun i hi => lx.nx_stop (by rcases hi with rfl | rfl | rfl | rfl | rfl <;> decide +kernel) (by rcases hi with rfl | rfl | rfl | rfl | rfl <;> decide +kernel)
  have n0 : lx.nx sV 0 = 0 := b 0 (by decide)
  have n3 : lx.nx sV 3 = 4 := by rw [lx.nx_blank (by decide) (by decide +kernel)]; exact b 4 (by decide)
  have n5 : lx.nx sV 5 = 5 := b 5 (by decide)
  have n6 : lx.nx sV 6 = 7 := by rw [lx.nx_blank (by decide) (by decide +kernel)]; exact b 7 (by decide)
  have n10 : lx.nx sV 10 = 10 := b 10 (by decide)
  have h : lx.app [] (lx.toks sV 0) = ([⟨3, 0, wVar, 0, 3⟩, ⟨1, 0, sVa, 4, 5⟩, ⟨4, 0, sCol, 5, 6⟩, ⟨3, 0, sVi, 7, 10⟩, ⟨4, 0, sEnd, 10, 11⟩, lx.tkEnd sV], 0, 0) :=
    (tk_stp (x := ⟨3, 0, wVar, 0, 3⟩) (k := 3) n0 (by decide) (by decide) (by kernel_rfl) rfl).trans
      ((tk_stp (x := ⟨1, 0, sVa, 4, 5⟩) (k := 5) n3 (by decide) (by decide) (by kernel_rfl) rfl).trans
      ((tk_stp (x := ⟨4, 0, sCol, 5, 6⟩) (k := 6) n5 (by decide) (by decide) (by kernel_rfl) rfl).trans
      ((tk_stp (x := ⟨3, 0, sVi, 7, 10⟩) (k := 10) n6 (by decide) (by decide) (by kernel_rfl) rfl).trans
      ((tk_stp (x := ⟨4, 0, sEnd, 10, 11⟩) (k := 11) n10 (by decide) (by decide) (by kernel_rfl) rfl).trans
      (lx.app_end (by rw [lx.nx_end (by decide)]; decide))))))
  rw [lx.app_nil] at h
  unfold lx.tokens
  rw [if_neg (by decide), h]
abbrev tsV : List Tok := [⟨3, 0, wVar, 0, 3⟩, ⟨1, 0, sVa, 4, 5⟩, ⟨4, 0, sCol, 5, 6⟩, ⟨3, 0, sVi, 7, 10⟩, ⟨4, 0, sEnd, 10, 11⟩, ⟨5, 0, ⟨#[]⟩, 11, 11⟩]
theorem sv_tok : tokG sV = (tsV, 0, 0) := by
  unfold tokG
  rw [sv_toks]
  rfl
theorem sv_decl : ∃ y : VT, y.lab.s = sVa ∧ declG tsV 0 = (y, 5, 0) := by
  have t1 : (R9 tsV 1 3).2.2 = 0 := by show (tyG tsV 7 3).2.2 = 0; decide +kernel
  have t2 : (R9 tsV 1 3).2.1 = 4 := by show (tyG tsV 7 3).2.1 = 4; decide +kernel
  unfold declG
  rw [if_neg (by decide +kernel), if_pos (by decide +kernel), short_eq tsV 0 32 wVar sCol 1 (by decide +kernel), if_pos (by decide +kernel), if_pos (by decide +kernel), if_pos t1, t2, if_pos (by decide +kernel)]
  exact ⟨_, rfl, rfl⟩
theorem sv_unit : ∃ y : VT, y.lab.s = sVa ∧ unitG sV = (modT sV [y], 0, 0) := by
  obtain ⟨y, h1, h2⟩ := sv_decl
  have hl : lpU tsV (tsV.length + 1) 0 [] = ([y], 5, 0) := by
    show lpU tsV 7 0 [] = ([y], 5, 0)
    rw [lpU, if_neg (by decide), h2, if_neg (by simp)]
    show lpU tsV 6 5 [y] = ([y], 5, 0)
    rw [lpU, if_pos (by decide)]
  have hs := mod_sz (ts := tsV) sV (tsV.length + 1)
  rw [hl] at hs
  have hd := dpt_le (modT sV [y])
  have h8 : tsV.length = 6 := rfl
  refine ⟨y, h1, ?_⟩
  unfold unitG
  rw [sv_tok, if_neg (by simp)]
  unfold modG
  rw [hl, if_neg (by simp), if_neg (by simp), if_neg (by dsimp only at hs hd ⊢; omega)]
def TkL (L : List (Nat × Array Value)) : Prop := ∀ s : ByteArray, s.size ≤ 9223372036854775807 → Row Tryz.prog 18 [vS s] [.lib L] (vTk (tokG s)) [some (.lib L)]
section
variable {L : List (Nat × Array Value)} (hT : TkL L)
include hT
set_option maxRecDepth 100000 in
set_option maxHeartbeats 4000000 in
theorem awake09_row : Row Tryz.prog 8 [] [.lib L] (vB true) [some (.lib L)] := by
  obtain ⟨⟨⟨yk, yn, ys, yf, yt⟩, yl⟩, h1, h2⟩ := sv_unit
  have h := uparse_row L sV (by decide) (hT sV (by decide))
  rw [h2] at h
  unfold modT at h
  have h1 : ys = sVa := h1
  subst h1
  clear h2
  refine row_of Tryz.func8 rfl rfl (Nat.le_of_ble_eq_true rfl) ?_
  repeat' (first | refine aw_seq ?_ | refine aw_skip ?_ | refine aw_block ?_ | refine aw_exit ?_ | refine aw_cond rfl (fun _ => ?_) (fun hb => absurd hb (by decide)) | refine aw_cond rfl (fun hb => absurd hb (by decide)) (fun _ => ?_) | (refine aw_reg (fun K hK => ?_); simp -implicitDefEqProofs) | (refine aw_drw mixd (fun K hK => ?_); simp -implicitDefEqProofs) | refine hK _ ?_ | refine hK _ _ (by rfl) ?_ | (refine ar_call (cb h 0 ?_); simp -implicitDefEqProofs) | (refine ard_call (db h 0 ?_); simp -implicitDefEqProofs) | fail)
  refine aw_ret (fin_box ?_); simp -implicitDefEqProofs [FinB, resV, resT] <;> try rfl
omit hT in
theorem unit_sz (s : ByteArray) (hs : s.size ≤ 8000) : (unitG s).1.size ≤ 9000 := by
  have hz : Tr.size z0 = 1 := by simp [z0, Tr.size_mk]
  unfold unitG
  split
  · rw [hz]; decide
  · rename_i h
    have h : (tokG s).2.2 = 0 := by simpa using h
    have h1 := tok_len (tok_ok h)
    have h2 := mod_sz (ts := (tokG s).1) s ((tokG s).1.length + 1)
    unfold modG
    split
    · rw [hz]; decide
    split
    · rw [hz]; decide
    split
    · rw [hz]; decide
    · dsimp only; omega
end
end Go.Proofs.YthcnligihpnfiaaGreatDoor.am
end
section
namespace Go.Proofs.YthcnligihpnfiaaGreatDoor.am
open Go.ChangeShapes Go.WideShapes Go.ChangeAt Go.RowKit
open vt
set_option linter.unusedVariables false
set_option linter.unusedSimpArgs false
theorem chl_lo {l : List VT} {lo lo' hi : Int} (h : ChL lo hi l) (h' : lo' ≤ lo) : ChL lo' hi l := by
  cases l with
  | nil => exact Int.le_trans h' h
  | cons y l => exact ⟨Int.le_trans h' h.1, h.2⟩
theorem tok_in {s : ByteArray} {ts : List Tok} (h : TokOk s ts) {i : Nat} (hi : i < ts.length) : 0 ≤ frT ts i ∧ frT ts i ≤ toT ts i ∧ toT ts i ≤ s.size := by
  obtain ⟨M, rfl, h1, h2, h3, h4⟩ := h.ex
  have hc := cl_at i (cl_snoc (x := enT s) h1 (Int.le_refl _) (Int.le_refl _)) hi
  exact ⟨hc.1, hc.2.1, hc.2.2.1⟩
theorem lpU_le {ts : List Tok} : ∀ (m i : Nat) (acc : List VT), i ≤ ts.length → (lpU ts m i acc).2.2 = 0 → (lpU ts m i acc).2.1 ≤ ts.length
  | 0, i, acc, hi => fun h' => by rw [lpU] at h'; exact absurd h' (by simp)
  | m + 1, i, acc, hi => by
    rw [lpU]
    by_cases h0 : ts.length ≤ i + 1
    · rw [if_pos h0]; exact fun _ => hi
    rw [if_neg h0]
    by_cases h1 : (declG ts i).2.2 ≠ 0
    · rw [if_pos h1]; exact fun h' => absurd h' h1
    · rw [if_neg h1]
      have h1 : (declG ts i).2.2 = 0 := by simpa using h1
      exact lpU_le m _ _ ((decl_oks (ts := ts) i hi).ok.yes h1).2
theorem unit_wi (s : ByteArray) (h : (unitG s).2.2 = 0) : Wi (unitG s).1 ∧ (unitG s).1.lab.f = 0 ∧ (unitG s).1.lab.t = s.size := by
  unfold unitG at h ⊢
  split at h
  · rename_i h0; exact absurd h h0
  rename_i h0
  have h0 : (tokG s).2.2 = 0 := by simpa using h0
  rw [if_neg (by simp [h0])]
  have hok := tok_ok h0
  obtain ⟨⟨ts, p, e⟩, ht⟩ : ∃ r, tokG s = r := ⟨_, rfl⟩
  rw [ht] at h hok ⊢
  dsimp only at h hok ⊢
  have hlen := tok_len hok
  unfold modG at h ⊢
  have hps := lpU_pl (tok_to hok) (ts.length + 1) 0 [] (Nat.zero_le _) (ps_nil (tok_to hok) (Nat.le_refl _) (Nat.zero_le _))
  have hle := lpU_le (ts := ts) (ts.length + 1) 0 [] (Nat.zero_le _)
  obtain ⟨C, hC⟩ : ∃ C, lpU ts (ts.length + 1) 0 [] = C := ⟨_, rfl⟩
  rw [hC] at h hps hle ⊢
  split at h
  · rename_i h1; exact absurd h h1
  rename_i h1
  split at h
  · exact absurd h (by decide)
  rename_i h2
  split at h
  · exact absurd h (by decide)
  rename_i h3
  rw [if_neg h1, if_neg h2, if_neg h3]
  have h1 : C.2.2 = 0 := by simpa using h1
  have hps := hps h1
  have hle := hle h1
  refine ⟨.mk _ _ (chl_lo (chl_mono hps.ch ?_) ?_) hps.wi, rfl, rfl⟩
  · unfold pe
    split
    · exact (tok_in hok (by omega)).2.2
    · have := tok_in hok (show 0 < ts.length by omega)
      show frT ts 0 ≤ (s.size : Int)
      omega
  · exact (tok_in hok (show 0 < ts.length by omega)).1
end Go.Proofs.YthcnligihpnfiaaGreatDoor.am
end
