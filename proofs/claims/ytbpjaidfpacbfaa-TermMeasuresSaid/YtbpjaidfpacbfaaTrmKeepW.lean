/-
  Layer 6: the program's walk with keep.
-/
import Derived.Test.YtbpjaidfpacbfaaTrmKeep
namespace Go.Proofs.Ytbpjaidfpacbfaa.tk
open Go.ChangeShapes Go.WideShapes Go.ChangeAt Go.RowKit
open bs tr te
set_option linter.unusedVariables false

/-- The paths behind the first k parts. -/
noncomputable def mk (M : List (List Int)) (p : List Int) (l : List VT) (k : Nat) : List (List Int) := M ++ ([] :: pk l k).map (fun q => p ++ q)
theorem mk_zero (M : List (List Int)) (p : List Int) (l : List VT) : M ++ [p] = mk M p l 0 := by unfold mk; rw [pk_zero]; simp
theorem mk_succ {M : List (List Int)} {p : List Int} {l : List VT} {k : Nat} {y : VT} (h : l[k]? = some y) : mk M p l k ++ (pt y).map (fun q => (p ++ [(k : Int)]) ++ q) = mk M p l (k + 1) := by
  unfold mk
  rw [pk_succ h, pt_on, List.append_assoc, ← List.map_append]
  rfl
theorem mk_all {M : List (List Int)} {p : List Int} {x : Lab} {l : List VT} {m : Nat} (h : l.length = m) : M ++ (pt (.mk x l)).map (fun q => p ++ q) = mk M p l m := by
  unfold mk
  rw [pt_mk x l h]
theorem mk_len (M : List (List Int)) (p : List Int) (l : List VT) (k : Nat) (h : k ≤ l.length) : (mk M p l k).length = M.length + 1 + Tr.sumk l k := by
  unfold mk
  rw [List.length_append, List.length_map, List.length_cons, pk_len l (fun y _ => pt_len y) k h]
  omega

/-- What a walk that keeps leaves. -/
def WP (t : VT) (tb : Nat) (d s : Value) (pa : Option Addr) (n : Nat) (p : List Int) (ka : Option Addr) (M : List (List Int)) (w : World) (e : Ending) (w' : World) : Prop :=
  ∃ (a : Option Addr) (c : Nat) (ka' : Option Addr) (kc' : Nat), e = .returned (.slice a n c) ∧ WS w' tb d s a n c p ka' kc' (M ++ (pt t).map (fun q => p ++ q)) ∧ Tp w w' (Wr tb pa ka) ∧ Nw w.heap.size pa a ∧ Nw w.heap.size ka ka'

/-- Behind the append to a path. -/
structure ApR (V0 w2 : World) (tb g8 : Nat) (x : Vn) (d s : Value) (a a2 : Option Addr) (n c2 : Nat) (q : List Int) (ka : Option Addr) (kc : Nat) (M : List (List Int)) : Prop where
  st : WS w2 tb d s a2 n c2 q ka kc M
  turned : Tp V0 w2 (Wr tb a ka)
  x8 : VB w2 g8 x
  lies : Nw V0.heap.size a a2
theorem ap_done {V0 X w2 : World} {tb g8 : Nat} {x : Vn} {d s : Value} {a a2 : Option Addr} {n0 c0 n c2 : Nat} {p q : List Int} {ka : Option Addr} {kc : Nat} {M : List (List Int)} (hX : Below V0.heap.size V0 X) (h8 : VB V0 g8 x) (hS : WS V0 tb d s a n0 c0 p ka kc M) (hg8 : ∀ i, Wr tb a ka i → i < g8)
    (ho : OwnI w2 (tb + 1) 3 a2 n c2 q) (hg : X.grownBy w2 (blockOf a)) (hl : blockOf a2 = blockOf a ∨ blockOf a2 = some X.heap.size) : ApR V0 w2 tb g8 x d s a a2 n c2 q ka kc M := by
  refine ⟨(hS.below hX).push ho hg hl, (Tp.of_below hX _).trans (.of_grown hg) (fun i _ h => .inr (.inl h)), ?_, hl.imp id (fun h => ⟨_, h, hX.size⟩)⟩
  exact (h8.below hX).of (hg.block g8 (h8.below hX).lt (fun e => Nat.lt_irrefl _ (hg8 g8 (.inr (.inl e.symm)))))
theorem walk_keeps {V0 w2 w3 : World} {tb g8 : Nat} {x : Vn} {d s : Value} {a a2 : Option Addr} {n c2 : Nat} {q : List Int} {ka : Option Addr} {kc : Nat} {M : List (List Int)} (hA : ApR V0 w2 tb g8 x d s a a2 n c2 q ka kc M) (hg8 : ∀ i, Wr tb a ka i → i < g8) (ht : Tp w2 w3 (Wr tb a2 ka)) (hV : g8 < V0.heap.size) : VB w3 g8 x :=
  hA.x8.of (ht.block g8 hA.x8.lt (fun e => by
    rcases e with e | e | e
    · exact Nat.lt_irrefl _ (hg8 g8 (.inl e))
    · rcases hA.lies with h1 | ⟨g, h1, hg⟩
      · exact Nat.lt_irrefl _ (hg8 g8 (.inr (.inl (h1.symm.trans e))))
      · rw [h1] at e; cases e; omega
    · exact Nat.lt_irrefl _ (hg8 g8 (.inr (.inr e)))))
theorem kpW {w w' : World} {tb B : Nat} {a ka : Option Addr} (h : Tp w w' (Wr tb a ka)) (hB : B ≤ tb) (hr : ∀ i, Wr tb a ka i → tb ≤ i) : Kp (· < B) w w' := h.kp (fun i hi hlt => by have := hr i hi; omega)
theorem slice_back {w : World} {base : Nat} {a : Option Addr} {n c : Nat} {q : List Int} (h : OwnI w base 3 a (n + 1) c q) : ∀ W : World, (Instr.sliceAt 33 (.slice a (n + 1) c) none (some (.int .i64 n)) none).run Try.prog W = .ok (.slice a n c) W := fun W => by
  have h1 := h.reads.cap; have h2 := h.reads.most
  exact slice_head_i a (n + 1) c n (by omega) h1 h2 W

set_option maxRecDepth 100000 in
set_option maxHeartbeats 4000000 in
theorem walk_any (tb B : Nat) (hB : B ≤ tb) (d s : Value) (t : VT) : ∀ (v : Vn) (w : World) (pa : Option Addr) (n c : Nat) (p : List Int) (ka : Option Addr) (kc : Nat) (M : List (List Int)), v.tr = t → v.Rs (· < B) w → WS w tb d s pa n c p ka kc M → M.length + t.size ≤ 1000000 → n + t.size ≤ 1000000 →
    Calls Try.prog 50 #[v.val, .slice pa n c, .func (.func 51) #[.pointer (some ⟨tb, 0, none⟩)] #[]] w (WP v.tr tb d s pa n p ka M w) := by
  induction t using Tr.ind with
  | h tx tl ih =>
  intro v w pa n c p ka kc M hat hv hw hM hn
  obtain ⟨vx, va, m, vc', l⟩ := v
  cases hat
  have hlm : l.length < Tr.size (Tr.mk vx l) := Tr.len_size
  have hM2 : M.length + Tr.size (Tr.mk vx l) ≤ 1000000 := hM
  have hn2 : n + Tr.size (Tr.mk vx l) ≤ 1000000 := hn
  have hml : m ≤ 1000000 := by have := hv.rd.len; dsimp only at this; omega
  have htb := hw.blk.lt
  have hvl := hv.rd
  dsimp only at hvl
  have hcapx := hvl.cap; have hmostx := hvl.most
  have hlx := hvl.len
  have hlim : ∀ k x, l[k]? = some x → Tr.sumk l k + x.size ≤ Tr.sumk l m := fun k x hk => by
    rw [← Tr.sumk_succ hk]
    unfold Tr.sumk
    have hkl := (List.getElem?_eq_some_iff.1 hk).1
    rw [List.take_of_length_le (show l.length ≤ m by omega)]
    have : l.map Tr.size = (l.take (k + 1)).map Tr.size ++ (l.drop (k + 1)).map Tr.size := by rw [← List.map_append, List.take_append_drop]
    rw [this, List.sum_append]
    omega
  have hsz : Tr.size (Tr.mk vx l) = 1 + Tr.sumk l m := Tr.sumk_all hlx
  have hW1 : Below w.heap.size w (w.alloc (.cells #[.int .i64 vx.k, .int .i64 vx.n, .string vx.s, .slice va m vc', .int .i64 vx.f, .int .i64 vx.t] 24)) := below_alloc _ _
  have hZ : VB (w.alloc (.cells #[.int .i64 vx.k, .int .i64 vx.n, .string vx.s, .slice va m vc', .int .i64 vx.f, .int .i64 vx.t] 24)) w.heap.size ⟨vx, va, m, vc', l⟩ := Blk.new w _ _
  have HV0 := Lib.hid hv; have HV := Lib.hid (hv.below hW1); have HS := Lib.hid (hw.below hW1); have HZ := Lib.hid hZ
  have HT := Lib.hid (Tp.of_below hW1 (Wr tb pa ka))
  have hLW : ∀ i, Wr tb pa ka i → tb ≤ i ∧ i < w.heap.size := hw.ltw
  have HLW := Lib.hid hLW
  have HIH := Lib.hid ih; have HLX := Lib.hid hlx; have HSZ := Lib.hid hsz; have HLIM := Lib.hid hlim
  have hn' : n + (1 + Tr.sumk l m) ≤ 1000000 := by rw [← hsz]; exact hn2
  have hM' : M.length + (1 + Tr.sumk l m) ≤ 1000000 := by rw [← hsz]; exact hM2
  clear hv hw hW1 hZ hvl hlx ih hLW hM hn hM2 hn2 hlim hsz hlm
  unfold Vn.val
  have hcf : ∀ args (W : World), Sem.run Try.prog (callFunc 51 args) W = .ok (.enter 51 args) W := fun _ _ => rfl
  go_enter Try.func50, Try.ntmps50
  go_wp2_with fail
  generalize hWW : (w.alloc (.cells #[.int .i64 vx.k, .int .i64 vx.n, .string vx.s, .slice va m vc', .int .i64 vx.f, .int .i64 vx.t] 24)) = W at HV HS HZ HT ⊢
  have hWs : w.heap.size + 1 = W.heap.size := by rw [← hWW]; simp
  clear hWW
  refine (keep_any W tb d s pa n c p ka kc M HS.out (by omega) (by omega)).mono ?_
  rintro e w1 ⟨rfl, ka1, kc1, hs1, ht1, hk1⟩
  have HWS := Lib.hid hWs
  have hsz1 : W.heap.size ≤ w1.heap.size := ht1.size
  have HT1 := Lib.hid (HT.out.trans ht1 (fun i _ h => by rcases h with h | h; exact .inl h; exact .inr (.inr h)))
  have HZ1 := Lib.hid (HZ.out.of (ht1.block _ HZ.out.lt (fun h => by
    rcases h with h | h
    · omega
    · have := (HLW.out _ (.inr (.inr h))).2; omega)))
  have HS1 := Lib.hid hs1
  have hk1' : Nw w.heap.size ka ka1 := hk1.imp id (fun ⟨g, h, hg⟩ => ⟨g, h, by omega⟩)
  have HK1 := Lib.hid hk1'
  clear hs1 ht1 hk1 hk1' hWs HV HS HZ HT hsz1
  have p1 := HZ1.out.cell 3
  simp at p1
  go_wp2_with fail
  go_loopw [1, 7, 8, 15] (fun s1 s7 s8 i wr => ∃ (k : Nat) (a : Option Addr) (c' : Nat) (ka' : Option Addr) (kc' : Nat), k ≤ m ∧ i = .int .i64 k ∧ s1 = .slice a n c' ∧ Hid (WS wr tb d s a n c' p ka' kc' (mk M p l k)) ∧ Hid (Tp w wr (Wr tb pa ka)) ∧ Hid (Nw w.heap.size pa a) ∧ Hid (Nw w.heap.size ka ka')) (fun _ _ _ i _ => m - (intOf i).toNat)
  case atStart => exact ⟨0, pa, c, ka1, kc1, by omega, rfl, rfl, by rw [← mk_zero]; exact HS1, HT1, Lib.hid (.inl rfl), HK1⟩
  case round =>
    obtain ⟨k, a, c', ka', kc', hk2, rfl, rfl, HSr, HTr, HLr, HKr⟩ := hrel
    by_cases hlt : k < m
    · have hkp : Kp (· < B) w wr := kpW HTr.out hB (fun i hi => (HLW.out i hi).1)
      obtain ⟨b1, o1, x1, rfl, hb1, hx1, hc1⟩ := recs_at (HV0.out.agree hkp).rd hlt
      obtain ⟨x, hv1, hr1, c10, c11, c12, c13, c14, c15⟩ := VAs.out hc1
      have HR1 := Lib.hid hr1; have HV1E := Lib.hid hv1; have HX1 := Lib.hid hx1
      have hmem : x1 ∈ l := List.mem_of_getElem? hx1
      have HMEM := Lib.hid hmem
      have hlimk := HLIM.out k x1 hx1
      have hlenk : (mk M p l k).length = M.length + 1 + Tr.sumk l k := mk_len M p l k (Nat.le_of_lt (List.getElem?_eq_some_iff.1 hx1).1)
      have HLK := Lib.hid hlenk
      clear hr1 hv1 hx1 hmem hc1 hkp hlenk
      go_wp2_with fail
      have hV0 : Below wr.heap.size wr (wr.alloc (.cells #[.int .i64 x.x.k, .int .i64 x.x.n, .string x.x.s, .slice x.a x.m x.c, .int .i64 x.x.f, .int .i64 x.x.t] 24)) := below_alloc _ _
      have hX8 : VB (wr.alloc (.cells #[.int .i64 x.x.k, .int .i64 x.x.n, .string x.x.s, .slice x.a x.m x.c, .int .i64 x.x.f, .int .i64 x.x.t] 24)) wr.heap.size x := vb_new wr x
      have HSv := Lib.hid (HSr.out.below hV0); have HX8 := Lib.hid hX8
      have HTv := Lib.hid (HTr.out.trans (Tp.of_below hV0 (Wr tb pa ka)) (fun _ _ h => h)); have HRv := Lib.hid (HR1.out.below hV0)
      have hPa : ∀ i, Wr tb a ka' i → i < wr.heap.size := fun i hi => (HSr.out.ltw i hi).2
      have HPa := Lib.hid hPa
      have htr := HSr.out.blk.lt
      generalize hV : wr.alloc (.cells #[.int .i64 x.x.k, .int .i64 x.x.n, .string x.x.s, .slice x.a x.m x.c, .int .i64 x.x.f, .int .i64 x.x.t] 24) = V0 at hV0 HSv HX8 HTv HRv hX8 ⊢
      have hVs : wr.heap.size < V0.heap.size := hX8.lt
      clear hV hX8 c10 c11 c12 c13 c14 c15 hPa
      have Kq := Lib.hid (show ∀ V : World, Hid (VB V wr.heap.size x) → V.cell? ⟨wr.heap.size, 0, none⟩ = some (.int .i64 x.x.k) ∧ V.cell? ⟨wr.heap.size, 1, none⟩ = some (.int .i64 x.x.n) ∧ V.cell? ⟨wr.heap.size, 2, none⟩ = some (.string x.x.s) ∧ V.cell? ⟨wr.heap.size, 3, none⟩ = some (.slice x.a x.m x.c) ∧ V.cell? ⟨wr.heap.size, 4, none⟩ = some (.int .i64 x.x.f) ∧ V.cell? ⟨wr.heap.size, 5, none⟩ = some (.int .i64 x.x.t) from
        fun V h => ⟨h.out.cell 0, h.out.cell 1, h.out.cell 2, h.out.cell 3, h.out.cell 4, h.out.cell 5⟩)
      have X1 : Hid (VB V0.drew wr.heap.size x) := HX8.out.below (Below.drew (Below.refl _ _))
      have X2 : Hid (VB (V0.drew.alloc (.cells #[.int .i64 k] 3)) wr.heap.size x) := X1.out.below (below_alloc _ _)
      have X3 : Hid (VB (V0.alloc (.cells #[.int .i64 k] 3)).drew wr.heap.size x) := (HX8.out.below (below_alloc _ _)).below (Below.drew (Below.refl _ _))
      have O2 : Hid (OwnI (V0.drew.alloc (.cells #[.int .i64 k] 3)) (tb + 1) 3 a n c' p) := (HSv.out.path.drew).alloc _
      have O3 : Hid (OwnI (V0.alloc (.cells #[.int .i64 k] 3)).drew (tb + 1) 3 a n c' p) := (HSv.out.path.alloc _).drew
      have Z2 : Hid ((V0.drew.alloc (.cells #[.int .i64 k] 3)).cell? ((⟨V0.heap.size, 0, none⟩ : Addr).add 0) = some (.int .i64 k)) := src_new V0.drew [.int .i64 k] 3 0 _ rfl
      have Z3 : Hid ((V0.alloc (.cells #[.int .i64 k] 3)).drew.cell? ((⟨V0.heap.size, 0, none⟩ : Addr).add 0) = some (.int .i64 k)) := src_new V0 [.int .i64 k] 3 0 _ rfl
      have hk64 : -9223372036854775808 ≤ (k : Int) ∧ (k : Int) ≤ 9223372036854775807 := by omega
      have hbs : tb + 1 ≤ V0.heap.size := by omega
      have S2 : Hid (tb + 1 ≤ (V0.drew.alloc (.cells #[.int .i64 k] 3)).heap.size) := Lib.hid (by rw [size_alloc]; show tb + 1 ≤ V0.heap.size + 1; omega)
      have S3 : Hid (tb + 1 ≤ (V0.alloc (.cells #[.int .i64 k] 3)).drew.heap.size) := Lib.hid (by show tb + 1 ≤ (V0.alloc _).heap.size; rw [size_alloc]; omega)
      have B2 : Hid (Below V0.heap.size V0 (V0.drew.alloc (.cells #[.int .i64 k] 3))) := (Below.drew (Below.refl _ _)).alloc (Nat.le_refl _) _
      have B3 : Hid (Below V0.heap.size V0 (V0.alloc (.cells #[.int .i64 k] 3)).drew) := Below.drew (below_alloc _ _)
      have HIC := Lib.hid (show ∀ (w2 : World) (a2 : Option Addr) (c2 : Nat), Hid (ApR V0 w2 tb wr.heap.size x d s a a2 (n + 1) c2 (p ++ [(k : Int)]) ka' kc' (mk M p l k)) → Calls Try.prog 50 #[.agg #[.int .i64 x.x.k, .int .i64 x.x.n, .string x.x.s, .slice x.a x.m x.c, .int .i64 x.x.f, .int .i64 x.x.t], .slice a2 (n + 1) c2, .func (.func 51) #[.pointer (some ⟨tb, 0, none⟩)] #[]] w2 (WP x1 tb d s a2 (n + 1) (p ++ [(k : Int)]) ka' (mk M p l k) w2) from
        fun w2 a2 c2 hA => by
          have h := HIH.out x1 HMEM.out x w2 a2 (n + 1) c2 (p ++ [(k : Int)]) ka' kc' (mk M p l k) HV1E.out (HRv.out.agree (kpW hA.out.turned hB (fun i hi => (HSv.out.ltw i hi).1))) hA.out.st (by rw [HLK.out]; omega) (by omega)
          rw [HV1E.out] at h
          exact h)
      go_region_held_law (fun V => V.cell? ⟨wr.heap.size, 0, none⟩ = some (.int .i64 x.x.k) ∧ V.cell? ⟨wr.heap.size, 1, none⟩ = some (.int .i64 x.x.n) ∧ V.cell? ⟨wr.heap.size, 2, none⟩ = some (.string x.x.s) ∧ V.cell? ⟨wr.heap.size, 3, none⟩ = some (.slice x.a x.m x.c) ∧ V.cell? ⟨wr.heap.size, 4, none⟩ = some (.int .i64 x.x.f) ∧ V.cell? ⟨wr.heap.size, 5, none⟩ = some (.int .i64 x.x.t))
        (with_reducible first | exact Kq.out _ HX8 | exact Kq.out _ X1 | exact Kq.out _ X2 | exact Kq.out _ X3 | exact Kq.out _ XA | exact Kq.out _ XC)
        (first
          | ((first
              | (refine step_append_l (by rfl) (.tmp 21) (.tmp 23) (by rfl) (tb + 1) (by rfl) O2.out (by rfl) (k : Int) hk64 Z2.out (by omega) S2.out ?_; intro a2 c2 w2 ho2 hb2 hg2 hl2; have HA2 := Lib.hid (ap_done B2.out HX8.out HSv.out HPa.out ho2 hg2 hl2))
              | (refine step_append_l (by rfl) (.tmp 21) (.tmp 23) (by rfl) (tb + 1) (by rfl) O3.out (by rfl) (k : Int) hk64 Z3.out (by omega) S3.out ?_; intro a2 c2 w2 ho2 hb2 hg2 hl2; have HA2 := Lib.hid (ap_done B3.out HX8.out HSv.out HPa.out ho2 hg2 hl2))); have XA : Hid (VB w2 wr.heap.size x) := HA2.out.x8; clear ho2 hb2 hg2 hl2)
          | (go_at_call 50; (with_reducible refine (HIC.out w2 a2 c2 HA2).mono ?_); rintro e w3 ⟨a3, c3, ka3, kc3, rfl, hs3, ht3, hl3, hk3⟩; have XC : Hid (VB w3 wr.heap.size x) := walk_keeps HA2.out HPa.out ht3 hVs; have hsl := slice_back hs3.path; have HS3 := Lib.hid hs3; have HT3 := Lib.hid ht3; have HL3 := Lib.hid hl3; have HK3 := Lib.hid hk3; clear hs3 ht3 hl3 hk3))
      go_wp2
      go_roundw
      case rel =>
        have hsT := HTr.out.size; have hsA := HA2.out.turned.size
        refine ⟨k + 1, a3, c3, ka3, kc3, by omega, by go_num, rfl, ?_, ?_, ?_, ?_⟩
        · have h := HS3.out.first n (by omega)
          rw [List.take_left' (by rw [HSr.out.path.len])] at h
          rw [mk_succ HX1.out] at h
          exact h
        · have inn : ∀ i, i < w.heap.size → Wr tb a ka' i → Wr tb pa ka i := fun i hi h => by
            rcases h with h | h | h
            · exact .inl h
            · rcases HLr.out with h' | ⟨g, h', hg⟩
              · exact .inr (.inl (h'.symm.trans h))
              · rw [h'] at h; cases h; omega
            · rcases HKr.out with h' | ⟨g, h', hg⟩
              · exact .inr (.inr (h'.symm.trans h))
              · rw [h'] at h; cases h; omega
          refine (HTv.out.trans HA2.out.turned inn).trans HT3.out (fun i hi h => ?_)
          rcases h with h | h | h
          · exact .inl h
          · rcases HA2.out.lies with h' | ⟨g, h', hg⟩
            · exact inn i hi (.inr (.inl (h'.symm.trans h)))
            · rw [h'] at h; cases h; omega
          · exact inn i hi (.inr (.inr h))
        · exact (HLr.out.trans HA2.out.lies (by omega)).trans HL3.out (by omega)
        · exact HKr.out.trans HK3.out (by omega)
      case measure => simp [intOf]; omega
    · have hkm : k = m := by omega
      subst hkm
      go_wp2
      go_ret
      refine ⟨a, c', ka', kc', rfl, ?_, HTr.out, HLr.out, HKr.out⟩
      have h := HSr.out
      show WS wr tb d s a n c' p ka' kc' (M ++ (pt (Tr.mk vx l)).map (fun q => p ++ q))
      rw [mk_all HLX.out]
      exact h
end Go.Proofs.Ytbpjaidfpacbfaa.tk
