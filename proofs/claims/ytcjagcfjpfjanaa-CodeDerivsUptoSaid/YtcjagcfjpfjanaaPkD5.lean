import Derived.Test.YtcjagcfjpfjanaaPkD4
import Derived.Test.YtcjagcfjpfjanaaPkD0
import Derived.ChangeOld
import Derived.OpenShut
import Derived.Below
import Derived.Test.YtcjagcfjpfjanaaPkD3
import Derived.Test.YtcjagcfjpfjanaaPkD2
import Derived.Scope
import Derived.Defers
set_option maxRecDepth 100000
set_option maxHeartbeats 4000000
section
namespace Go.Proofs.Ytcjagcfjpfjanaa.vs
open Go.ChangeShapes Go.WideShapes Go.ChangeAt Go.RowKit
open bs
set_option linter.unusedVariables false
theorem byteT : ByteT Try.prog 22 5 := ⟨Try.underlying22, by kernel_rfl⟩
def BRel (w : World) (v : Int) (x out : Value) (wr : World) : Prop :=
  ∃ (k : Nat) (V : Int) (a : Option Addr) (n c : Nat) (l : List Int), x = .int .u64 V ∧ out = .slice a n c ∧ OwnB wr w.heap.size 5 a n c l ∧ Below w.heap.size w wr ∧
    0 ≤ V ∧ V < 2 * 128 ^ k ∧ n + k = 9 ∧ l ++ encF k V = enc v
def BPost (w : World) (v : Int) (e : Ending) (w' : World) : Prop :=
  ∃ (a : Option Addr) (n c : Nat), e = .returned (.slice a n c) ∧ OwnB w' w.heap.size 5 a n c (enc v) ∧ Below w.heap.size w w'
theorem u8_in (n : Int) (h0 : 0 ≤ n) (h1 : n ≤ 255) : IntKind.u8.wrap n = n := by
  simp only [IntKind.wrap, IntKind.signed, IntKind.bits, Bool.false_and]
  rw [if_neg (by simp)]
  omega
theorem small_of (k : Nat) (V : Int) (h : V < 2 * 128 ^ k) (hk : k ≤ 9) : V ≤ 18446744073709551615 := by
  have : ∀ j, j ≤ 9 → (128 : Int) ^ j ≤ 9223372036854775808 := by
    intro j hj
    have : j = 0 ∨ j = 1 ∨ j = 2 ∨ j = 3 ∨ j = 4 ∨ j = 5 ∨ j = 6 ∨ j = 7 ∨ j = 8 ∨ j = 9 := by omega
    rcases this with rfl | rfl | rfl | rfl | rfl | rfl | rfl | rfl | rfl | rfl <;> decide
  have := this k hk
  omega
theorem big_of (k : Nat) (V : Int) (h : V < 2 * 128 ^ k) (hV : 128 ≤ V) : ∃ j, k = j + 1 ∧ V / 128 < 2 * 128 ^ j := by
  cases k with
  | zero => simp at h; omega
  | succ j => exact ⟨j, rfl, by rw [Int.pow_succ] at h; omega⟩
theorem encF_big (j : Nat) (V : Int) (hV : 128 ≤ V) : encF (j + 1) V = (V % 128 + 128) :: encF j (V / 128) := by rw [encF_succ, if_neg (by omega)]
theorem encF_small (k : Nat) (V : Int) (hV : V < 128) : encF k V = [V] := by
  cases k with
  | zero => rfl
  | succ j => rw [encF_succ, if_pos hV]
set_option maxHeartbeats 400000 in
theorem bytes_any (v : Int) (w : World) (h0 : 0 ≤ v) (h1 : v ≤ 18446744073709551615) :
    Calls Try.prog 69 #[.int .u64 v] w (BPost w v) := by
  go_enter Try.func69, Try.ntmps69
  go_wp2
  go_loopw [0, 3] (fun x out wr => BRel w v x out wr) (fun x _ _ => (intOf x).toNat)
  case atStart => exact ⟨9, v, none, 0, 0, [], rfl, rfl, OwnB.nil _ _ _, Below.refl _ _, h0, by omega, rfl, rfl⟩
  case round =>
    obtain ⟨k, V, a, n, c, l, rfl, rfl, ho, hb, V0, V1, hk, he⟩ := hrel
    have hV := small_of k V V1 (by omega)
    have hn9 : n ≤ 9 := by omega
    have HO := Lib.hid ho; have HB := Lib.hid hb; have HE := Lib.hid he; have H1 := Lib.hid V1; have HK := Lib.hid hk
    have hs := hb.size
    clear ho hb he V1 hk
    by_cases hbig : 128 ≤ V
    · go_wp2_with (at_builtin; refine wpList_append_b byteT rfl _ _ rfl w.heap.size rfl (HO.out.alloc _) rfl (Bytes.one _ _ _ ?_) ?_ ?_ ?_)
      · omega
      · omega
      · (try simp); omega
      intro a2 c2 w' ho2 hb2 _
      have hb3 : Below w.heap.size w w' := (HB.out.alloc hs _).trans hb2
      have HO2 := Lib.hid ho2; have HB3 := Lib.hid hb3; clear ho2 hb2 hb3
      go_wp2
      go_roundw
      case rel =>
        obtain ⟨j, rfl, hj⟩ := big_of k V H1.out hbig
        have e1 := HK.out
        refine ⟨j, V / 128, a2, n + 1, c2, l ++ [V % 128 + 128], rfl, rfl, (by first | exact HO2.out | (rw [Int.add_comm]; exact HO2.out)), HB3.out, by omega, hj, by omega, ?_⟩
        rw [List.append_assoc, List.singleton_append, ← encF_big j V hbig]
        exact HE.out
      case measure => simp [intOf]; omega
    · have hsm : V < 128 := by omega
      go_wp2_with (at_builtin; refine wpList_append_b byteT rfl _ _ rfl w.heap.size rfl (HO.out.alloc _) rfl (Bytes.one _ _ _ ?_) ?_ ?_ ?_)
      · omega
      · omega
      · (try simp); omega
      intro a2 c2 w' ho2 hb2 _
      have hb3 : Below w.heap.size w w' := (HB.out.alloc hs _).trans hb2
      have HO2 := Lib.hid ho2; have HB3 := Lib.hid hb3; clear ho2 hb2 hb3
      go_wp2
      go_ret
      refine ⟨a2, n + 1, c2, rfl, ?_, HB3.out⟩
      rw [← HE.out, encF_small k V hsm]
      exact HO2.out
set_option maxHeartbeats 400000 in
theorem rbytes_any (v : Int) (w : World) (h0 : 0 ≤ v) (h1 : v ≤ 18446744073709551615) :
    Calls Try.prog 25 #[.int .u64 v] w (BPost w v) := by
  go_enter Try.func25, Try.ntmps25
  go_wp2
  go_loopw [0, 3] (fun x out wr => BRel w v x out wr) (fun x _ _ => (intOf x).toNat)
  case atStart => exact ⟨9, v, _, 0, 0, [], rfl, rfl, OwnB.made _ _ _ [] _ rfl (Nat.le_refl _) (by simp [maxLen]) (by simp [AllB]), (Below.refl _ _).alloc (Nat.le_refl _) _, h0, by omega, rfl, rfl⟩
  case round =>
    obtain ⟨k, V, a, n, c, l, rfl, rfl, ho, hb, V0, V1, hk, he⟩ := hrel
    have hV := small_of k V V1 (by omega)
    have hn9 : n ≤ 9 := by omega
    have HO := Lib.hid ho; have HB := Lib.hid hb; have HE := Lib.hid he; have H1 := Lib.hid V1; have HK := Lib.hid hk
    have hs := hb.size
    clear ho hb he V1 hk
    by_cases hbig : 128 ≤ V
    · go_wp2_with (at_builtin; refine wpList_append_b byteT rfl _ _ rfl w.heap.size rfl (HO.out.alloc _) rfl (Bytes.one _ _ _ ?_) ?_ ?_ ?_)
      · omega
      · omega
      · (try simp); omega
      intro a2 c2 w' ho2 hb2 _
      have hb3 : Below w.heap.size w w' := (HB.out.alloc hs _).trans hb2
      have HO2 := Lib.hid ho2; have HB3 := Lib.hid hb3; clear ho2 hb2 hb3
      go_wp2
      go_roundw
      case rel =>
        obtain ⟨j, rfl, hj⟩ := big_of k V H1.out hbig
        have e1 := HK.out
        refine ⟨j, V / 128, a2, n + 1, c2, l ++ [V % 128 + 128], rfl, rfl, (by first | exact HO2.out | (rw [Int.add_comm]; exact HO2.out)), HB3.out, by omega, hj, by omega, ?_⟩
        rw [List.append_assoc, List.singleton_append, ← encF_big j V hbig]
        exact HE.out
      case measure => simp [intOf]; omega
    · have hsm : V < 128 := by omega
      go_wp2_with (at_builtin; refine wpList_append_b byteT rfl _ _ rfl w.heap.size rfl (HO.out.alloc _) rfl (Bytes.one _ _ _ ?_) ?_ ?_ ?_)
      · omega
      · omega
      · (try simp); omega
      intro a2 c2 w' ho2 hb2 _
      have hb3 : Below w.heap.size w w' := (HB.out.alloc hs _).trans hb2
      have HO2 := Lib.hid ho2; have HB3 := Lib.hid hb3; clear ho2 hb2 hb3
      go_wp2
      go_ret
      refine ⟨a2, n + 1, c2, rfl, ?_, HB3.out⟩
      rw [← HE.out, encF_small k V hsm]
      exact HO2.out
end Go.Proofs.Ytcjagcfjpfjanaa.vs
end
section
namespace Go.Proofs.Ytcjagcfjpfjanaa.am
open Go.ChangeShapes Go.WideShapes Go.ChangeAt Go.RowKit
set_option linter.unusedVariables false
set_option linter.unusedSimpArgs false
def oldS (w : World) : CS := fun b _ => b < w.heap.size
def Ty (P : Program) : Nat → TypeId → List PV → Prop
  | 0, _, _ => False
  | n + 1, t, ps =>
    match P.underlying t with
    | some .bool => ∃ b, ps = [.lit (.bool b)]
    | some (.int k) => ∃ z, ps = [.lit (.int k z)] ∧ (Lit.int k z).wf = true
    | some .string => ∃ s : ByteArray, ps = [.lit (.string s)] ∧ s.size ≤ maxLen
    | some (.slice e) => ∃ l : List (List PV), ps = [.sl (P.cellsOf e) l] ∧ l.length ≤ maxLen ∧ ∀ x ∈ l, Ty P n e x
    | some (.struct fs) => ps.length = P.cellsOf t ∧ ∀ f ∈ fs.toList, Ty P n f.type ((ps.drop f.offset).take (P.cellsOf f.type))
    | _ => False
def contig (P : Program) : Nat → List Field → Nat → Bool
  | off, [], tot => decide (off = tot)
  | off, f :: fs, tot => decide (f.offset = off) && contig P (off + P.cellsOf f.type) fs tot
def okTy (P : Program) (cl : List TypeId) (t : TypeId) : Bool :=
  match P.underlying t with
  | some .bool => true
  | some (.int _) => true
  | some .string => true
  | some (.slice e) => cl.contains e && decide (0 < P.cellsOf e)
  | some (.struct fs) => (fs.toList.all fun f => cl.contains f.type) && contig P 0 fs.toList (P.cellsOf t)
  | _ => false
section
variable {P : Program} {S : CS} {w : World}
theorem RepPs.take {vs : List Value} {l : List PV} (h : RepPs S w vs l) (n : Nat) : RepPs S w (vs.take n) (l.take n) := by
  have := (RepPs.cs (γ := fun _ => .un)).1 h
  refine (RepPs.cs (γ := fun _ => .un)).2 ?_
  rw [List.map_take]; exact RepCs.take this n
theorem fields_rep {n : Nat} {cs : List Value} : ∀ (fs : List Field) (off tot : Nat) (ps0 : List PV), RepPs S w (cs.take off) ps0 → ps0.length = off → off ≤ cs.length → contig P off fs tot = true → tot = cs.length →
    (∀ f ∈ fs, ∃ q, RepPs S w ((cs.drop f.offset).take (P.cellsOf f.type)) q ∧ Ty P n f.type q) →
    ∃ ps, RepPs S w cs ps ∧ ps.take off = ps0 ∧ ∀ f ∈ fs, off ≤ f.offset ∧ Ty P n f.type ((ps.drop f.offset).take (P.cellsOf f.type))
  | [], off, tot, ps0, h0, hl, hle, hc, ht, _ => by
    have : off = tot := by simpa [contig] using hc
    subst this
    subst ht
    rw [List.take_length] at h0
    exact ⟨ps0, h0, by rw [← hl, List.take_length], fun f hf => by simp at hf⟩
  | f :: fs, off, tot, ps0, h0, hl, hle, hc, ht, hf => by
    unfold contig at hc
    rw [Bool.and_eq_true] at hc
    have hoff : f.offset = off := of_decide_eq_true hc.1
    obtain ⟨q, hq, hty⟩ := hf f (by simp)
    rw [hoff] at hq
    obtain ⟨sz, hsz⟩ : ∃ sz, P.cellsOf f.type = sz := ⟨_, rfl⟩
    rw [hsz] at hq hc
    have hend : off + sz ≤ cs.length := by
      have key : ∀ (fs : List Field) (o : Nat), contig P o fs tot = true → o ≤ tot := fun fs => by
        induction fs with
        | nil => intro o h; have : o = tot := by simpa [contig] using h
                 omega
        | cons g gs ih => intro o h; unfold contig at h; rw [Bool.and_eq_true] at h; have := ih _ h.2; omega
      have := key fs _ hc.2
      omega
    have hql : q.length = sz := by rw [← hq.1, List.length_take, List.length_drop]; omega
    have h1 : RepPs S w (cs.take (off + sz)) (ps0 ++ q) := by
      rw [List.take_add]; exact h0.append hq
    obtain ⟨ps, k1, k2, k3⟩ := fields_rep fs (off + sz) tot (ps0 ++ q) h1 (by rw [List.length_append, hl, hql]) hend hc.2 ht (fun g hg => hf g (by simp [hg]))
    refine ⟨ps, k1, ?_, fun g hg => ?_⟩
    · have : (ps.take (off + sz)).take off = (ps0 ++ q).take off := by rw [k2]
      rw [List.take_take, Nat.min_eq_left (by omega)] at this
      rw [this, ← hl, List.take_left']; rfl
    · rcases List.mem_cons.1 hg with rfl | hg
      · refine ⟨by omega, ?_⟩
        rw [hoff, hsz]
        have : (ps.take (off + sz)).drop off = (ps0 ++ q).drop off := by rw [k2]
        rw [List.drop_take, Nat.add_sub_cancel_left] at this
        rw [this, ← hl, List.drop_left']; · exact hty
        rfl
      · have := k3 g hg; exact ⟨by omega, this.2⟩
theorem trod_rep {H : Type} {enc : TypeId × Value → H} {cl : List TypeId} (hcl : cl.all (okTy P cl) = true) : ∀ (n : Nat) (t : TypeId) (cs : List Value) (y : DataW H × List MemPlace), t ∈ cl → DataW.trod enc P w 0 (fun _ => true) true n t cs = some y → ∃ ps, RepPs (oldS w) w cs ps ∧ Ty P n t ps := by
  intro n
  induction n with
  | zero => intro t cs y _ h; simp [DataW.trod] at h
  | succ n ih =>
    intro t cs y ht h
    have hok := List.all_eq_true.1 hcl t ht
    have one : ∀ {v : Value} {p : PV}, RepP (oldS w) w v p → RepPs (oldS w) w [v] [p] := fun {v p} hp => ⟨rfl, fun i c hc => by
      cases i with
      | zero => simp at hc; subst hc; exact ⟨v, rfl, hp⟩
      | succ i => simp at hc⟩
    unfold okTy at hok
    cases hu : P.underlying t with
    | none => rw [hu] at hok; cases hok
    | some u =>
      rw [hu] at hok
      unfold Ty
      rw [hu]
      cases u with
      | bool =>
        obtain ⟨b, rfl, _⟩ := DataW.trod_bool hu h
        exact ⟨_, one (.lit _ rfl), b, rfl⟩
      | int k =>
        obtain ⟨z, rfl, _, hz⟩ := DataW.trod_int hu h
        exact ⟨_, one (.lit _ rfl), z, rfl, hz⟩
      | string =>
        obtain ⟨s, rfl, _, hs⟩ := DataW.trod_string hu h
        exact ⟨_, one (.lit _ rfl), s, rfl, hs⟩
      | slice e =>
        dsimp only at hok
        rw [Bool.and_eq_true] at hok
        have he : e ∈ cl := by simpa using hok.1
        have hpos : 0 < P.cellsOf e := of_decide_eq_true hok.2
        rcases DataW.trod_slice hu h with ⟨rfl, _⟩ | ⟨x, len, cap, elems, rest, m, hmf, rfl, hd, _, hl, hm, hlen, hele, hsp, _⟩
        · exact ⟨_, one (.emp none 0 (P.cellsOf e) (by omega) (fun _ => rfl)), [], rfl, Nat.zero_le _, fun x hx => by simp at hx⟩
        · have hmn : m = n := by omega
          subst hmn
          rcases Nat.eq_zero_or_pos len with h0 | hn
          · subst h0
            exact ⟨_, one (.emp (some x) cap (P.cellsOf e) (by unfold maxLen at hm; omega) (fun h => by cases h)), [], rfl, Nat.zero_le _, fun x hx => by simp at hx⟩
          · obtain ⟨b, off, spot⟩ := x
            obtain ⟨sz, hsz⟩ : ∃ sz, P.cellsOf e = sz := ⟨_, rfl⟩
            rw [hsz] at hpos hele
            show ∃ ps, RepPs (oldS w) w [Value.slice (some ⟨b, off, spot⟩) len cap] ps ∧ ∃ l : List (List PV), ps = [.sl (P.cellsOf e) l] ∧ l.length ≤ maxLen ∧ ∀ x ∈ l, Ty P m e x
            rw [hsz]
            have each : ∀ i, i < len → ∃ cs y, w.cells? 0 ((⟨b, off, spot⟩ : Addr).add (i * sz)) sz = some cs ∧ DataW.trod enc P w 0 (fun _ => true) true m e cs = some y := by
              intro i hi
              have := hele i hi
              have hs : ∃ y, elems[i]? = some y := ⟨elems[i], List.getElem?_eq_getElem (by omega)⟩
              obtain ⟨y, hy⟩ := hs
              rw [hy] at this
              obtain ⟨cs, h1, h2⟩ := Option.bind_eq_some_iff.1 this
              exact ⟨cs, y, h1, h2⟩
            obtain ⟨cs0, y0, k0, _⟩ := each 0 hn
            have c0 := (World.cells?_some k0)
            have hspot : spot = none := by
              have h1 := c0.2.2 0 hpos
              have hlt : (0 : Nat) < cs0.length := by have := c0.2.1; omega
              rw [List.getElem?_eq_getElem hlt] at h1
              simpa [Addr.add] using World.cell?_spot h1
            subst hspot
            have hblk : b < w.heap.size := by
              have := World.cells?_block k0 hpos
              simpa [addr_add] using this
            obtain ⟨L, hL, hq⟩ := bs.choose_list len (fun i (x : List Value × List PV) => x.1.length = sz ∧ (∀ j, j < sz → w.cell? ⟨b, off + i * sz + j, none⟩ = x.1[j]?) ∧ RepPs (oldS w) w x.1 x.2 ∧ Ty P m e x.2) (fun i hi => by
              obtain ⟨cs, y, k1, k2⟩ := each i hi
              have k3 := World.cells?_some k1
              rw [addr_add] at k3
              obtain ⟨ps, p1, p2⟩ := ih e cs y he k2
              refine ⟨(cs, ps), k3.2.1, fun j hj => ?_, p1, p2⟩
              have := k3.2.2 j hj
              rwa [addr_add] at this)
            have at' : ∀ i e', (L.map (·.2))[i]? = some e' → ∃ x : List Value × List PV, L[i]? = some x ∧ e' = x.2 := fun i e' h => by
              rw [List.getElem?_map] at h
              obtain ⟨x, h1, h2⟩ := Option.map_eq_some_iff.1 h
              exact ⟨x, h1, h2.symm⟩
            refine ⟨_, one (.sl b off len cap sz (L.map (·.2)) (by rw [List.length_map, hL]) hn hl (by unfold maxLen at hm; omega) (fun e' he' => ?_)
              (fun i j => ((L[i]?).bind (fun x => x.1[j]?)).getD undef) (fun i e' j p h1 h2 => ?_) (fun i e' j p h1 h2 => ?_)), L.map (·.2), rfl, by rw [List.length_map, hL]; omega, fun x hx => ?_⟩
            · obtain ⟨i, hi⟩ := List.mem_iff_getElem?.1 he'
              obtain ⟨x, hx, rfl⟩ := at' i e' hi
              have := hq i x hx
              rw [← this.2.2.1.1, this.1]
            · obtain ⟨x, hx, rfl⟩ := at' i e' h1
              have := hq i x hx
              have hj : j < sz := by have := (List.getElem?_eq_some_iff.1 h2).1; rw [← (hq i x hx).2.2.1.1, (hq i x hx).1] at this; exact this
              refine ⟨hblk, ?_⟩
              rw [this.2.1 j hj, hx]
              obtain ⟨v, hv, _⟩ := this.2.2.1.2 j p h2
              rw [hv]; simp [hv]
            · obtain ⟨x, hx, rfl⟩ := at' i e' h1
              obtain ⟨v, hv, hr⟩ := (hq i x hx).2.2.1.2 j p h2
              rw [hx]; simp [hv]; exact hr
            · obtain ⟨i, hi⟩ := List.mem_iff_getElem?.1 hx
              obtain ⟨z, hz, rfl⟩ := at' i x hi
              exact (hq i z hz).2.2.2
      | struct fs =>
        dsimp only at hok
        rw [Bool.and_eq_true] at hok
        obtain ⟨xs, m, hmf, _, hcl', hxl, hg⟩ := DataW.trod_struct hu h
        have hmn : m = n := by omega
        subst hmn
        obtain ⟨ps, k1, _, k3⟩ := fields_rep (P := P) (S := oldS w) (w := w) (n := m) (cs := cs) fs.toList 0 (P.cellsOf t) [] ⟨by simp, fun i c h => by simp at h⟩ rfl (Nat.zero_le _) hok.2 hcl'.symm (fun f hf => by
          obtain ⟨i, hi⟩ := List.mem_iff_getElem?.1 hf
          have hi' : fs[i]? = some f := by simpa using hi
          have h1 := hg i f hi'
          have hlt : i < xs.length := by
            have := (Array.getElem?_eq_some_iff.1 hi').1
            omega
          rw [List.getElem?_eq_getElem hlt] at h1
          exact ih f.type _ _ (by have := List.all_eq_true.1 hok.1 f hf; simpa using this) h1)
        exact ⟨ps, k1, by rw [← k1.1, hcl'], fun f hf => (k3 f hf).2⟩
      | _ => cases hok
theorem open_cell {H : Type} {enc : TypeId × Value → H} {cl : List TypeId} {t : TypeId} {v : Value} {d : DataW H} {p : List MemPlace} (hcl : cl.all (okTy P cl) = true) (ht : t ∈ cl) (h1 : v.oneCell' = true) (h : DataW.Trod enc P w 0 (fun _ => true) true t v d p) : ∃ n q, RepV (fun _ => .un) (oldS w) w v (.v (.c (.pv q))) ∧ Ty P n t [q] := by
  obtain ⟨n, h⟩ := h
  have e : v.cells.toList = [v] := by cases v <;> simp_all [Value.oneCell', Value.cells]
  rw [e] at h
  obtain ⟨ps, k1, k2⟩ := trod_rep hcl n t _ _ ht h
  match ps, k1, k2 with
  | [q], k1, k2 =>
    obtain ⟨u, hu, hr⟩ := k1.2 0 q rfl
    simp at hu; subst hu
    exact ⟨n, q, hr, k2⟩
  | [], k1, _ => have := k1.1; simp at this
  | _ :: _ :: _, k1, _ => have := k1.1; simp at this
theorem open_agg {H : Type} {enc : TypeId × Value → H} {cl : List TypeId} {t : TypeId} {cs : Array Value} {d : DataW H} {p : List MemPlace} (hcl : cl.all (okTy P cl) = true) (ht : t ∈ cl) (h : DataW.Trod enc P w 0 (fun _ => true) true t (.agg cs) d p) : ∃ n ps, RepV (fun _ => .un) (oldS w) w (.agg cs) (.v (.agg (ps.map .pv))) ∧ Ty P n t ps := by
  obtain ⟨n, h⟩ := h
  obtain ⟨ps, k1, k2⟩ := trod_rep hcl n t _ _ ht h
  exact ⟨n, ps, ⟨cs, rfl, RepPs.cs.1 k1⟩, k2⟩
theorem ty_slice {α : Type} {f : α → List PV} {Q : α → Prop} {t e : TypeId} (hu : P.underlying t = some (.slice e)) (hel : ∀ n x, Ty P n e x → ∃ a, x = f a ∧ Q a) {n : Nat} {ps : List PV} (h : Ty P n t ps) : ∃ L : List α, ps = [.sl (P.cellsOf e) (L.map f)] ∧ L.length ≤ maxLen ∧ ∀ a ∈ L, Q a := by
  cases n with
  | zero => exact h.elim
  | succ n =>
    unfold Ty at h
    rw [hu] at h
    obtain ⟨l, e3, hm, hl⟩ := h
    obtain ⟨L, hL, hq⟩ := bs.choose_list l.length (fun i (x : α) => l[i]? = some (f x) ∧ Q x) (fun i hi => by
      obtain ⟨x, h1, h2⟩ := hel n (l[i]'hi) (hl _ (List.getElem_mem hi))
      exact ⟨x, by rw [List.getElem?_eq_getElem hi, h1], h2⟩)
    have hlm : l = L.map f := by
      apply List.ext_getElem?
      intro i
      rw [List.getElem?_map]
      by_cases hi : i < L.length
      · have := hq i _ (List.getElem?_eq_getElem hi)
        rw [this.1, List.getElem?_eq_getElem hi]; rfl
      · rw [List.getElem?_eq_none (by omega), List.getElem?_eq_none (by omega)]; rfl
    refine ⟨L, by rw [e3, hlm], by rw [hL]; exact hm, fun a ha => ?_⟩
    obtain ⟨i, hi⟩ := List.mem_iff_getElem?.1 ha
    exact (hq i a hi).2
theorem calls_of_row {f : FuncId} {args : List AV} {vs : List Value} (h : Row P f args [] (.v (.c (.pv (.lit (.bool true))))) []) (hv : RepVs (fun _ => .un) (oldS w) w vs args) : Calls P f vs.toArray w fun e w' => e = .returned (.bool true) ∧ Below w.heap.size w w' := by
  have hm : Mem ⟨w, oldS w, fun _ => .un, []⟩ (fun x => ([] : List AO)[x]?) (fun x => ([] : List AO).length ≤ x) (fun _ => .un) (oldS w) w :=
    ⟨rfl, rfl, rfl, Nat.le_refl _, fun _ _ _ => rfl, fun _ _ h => ⟨h, rfl⟩, fun _ _ h => .inl h, fun _ _ h => h, GOn.refl _, fun _ _ => rfl, fun _ _ => .inl rfl, fun x o h => by simp at h, fun x y _ b h _ => by simp [G.bk] at h, fun x b h => by simp [G.bk] at h⟩
  refine (h.spec _ _ w vs hm hv).mono ?_
  rintro e w' ⟨v, γ', S', rfl, m, hr⟩
  obtain ⟨rfl, _⟩ := lit_inv hr
  exact ⟨rfl, m.os, m.tape, m.output, m.size, fun b hb => m.frame b hb (fun x h => by simp [G.bk] at h)⟩
end
end Go.Proofs.Ytcjagcfjpfjanaa.am
end
section
namespace Go.Proofs.Ytcjagcfjpfjanaa.am
open Go.ChangeShapes Go.WideShapes Go.ChangeAt Go.RowKit
set_option linter.unusedVariables false
abbrev newS (S : CS) (w w' : World) : CS := fun b o => S b o ∨ (w.heap.size ≤ b ∧ b < w'.heap.size)
theorem Mem.below {γ : Nat → G} {S : CS} {w w' : World} {ch : List AO} (hm : Mem ⟨w, S, γ, []⟩ (fun x => ch[x]?) (fun x => ch.length ≤ x) γ S w) (hb : Below w.heap.size w w') :
    Mem ⟨w, S, γ, []⟩ (fun x => ((ch.map some)[x]?).join) (fun x => (ch.map some).length ≤ x) γ (newS S w w') w' := by
  have hj : ∀ x, ((ch.map some)[x]?).join = ch[x]? := fun x => by
    rw [List.getElem?_map]
    cases ch[x]? <;> rfl
  refine ⟨hb.os, hb.tape, hb.output, hb.size, fun b h _ => hb.block b h, fun b o h => ⟨.inl h, hb.cell (p := ⟨b, o, none⟩) (hm.inb b o h)⟩, fun b o h => h.elim .inl (fun h => .inr (.inl h.1)), fun b o h => h.elim (fun h => Nat.lt_of_lt_of_le (hm.inb b o h) hb.size) (fun h => h.2), GOn.refl _,
    fun x hx => hm.un x (by rw [List.length_map] at hx; exact hx), fun x hx => hm.off x (by rw [← hj]; exact hx), fun x o hx => ?_, hm.dist, fun x b h => ⟨Nat.lt_of_lt_of_le (hm.live x b h).1 hb.size, (hm.live x b h).2⟩⟩
  refine Obj'.on (hm.obj x o (by rw [← hj]; exact hx)) rfl (GOn.refl _) (fun _ _ h => .inl h) (fun b o h => hb.cell (p := ⟨b, o, none⟩) (hm.inb b o h)) (fun b hbk => ⟨hb.block b (hm.live x b hbk).1, fun o h => h.elim (fun h => h) (fun h => ?_)⟩)
  have := (hm.live x b hbk).1
  exact absurd h.1 (Nat.not_le.2 this)
theorem spec_of_below {P : Program} {f : FuncId} {args : List AV} {ch : List AO} {res : AV}
    (h : ∀ (γ : Nat → G) (S : CS) (w : World) (vs : List Value), Mem ⟨w, S, γ, []⟩ (fun x => ch[x]?) (fun x => ch.length ≤ x) γ S w → RepVs γ S w vs args →
      Calls P f vs.toArray w fun e w' => ∃ v, e = .returned v ∧ Below w.heap.size w w' ∧ RepV γ (newS S w w') w' v res) : Spec P f args ch res (ch.map some) := fun γ S w vs hm hv => by
  refine (h γ S w vs hm hv).mono ?_
  rintro e w' ⟨v, h1, h2, h3⟩
  exact ⟨v, γ, newS S w w', h1, hm.below h2, h3⟩
end Go.Proofs.Ytcjagcfjpfjanaa.am
end
section
namespace Go.Proofs.Ytcjagcfjpfjanaa.am
open Go.ChangeShapes Go.WideShapes Go.ChangeAt Go.RowKit
open vt
set_option linter.unusedVariables false
set_option linter.unusedSimpArgs false
def iC (l : List Int) : List (List PV) := l.map fun z => [PV.lit (.int .u8 z)]
theorem iC_len (l : List Int) : (iC l).length = l.length := by unfold iC; rw [List.length_map]
theorem iC_app (a b : List Int) : iC a ++ iC b = iC (a ++ b) := by unfold iC; rw [List.map_append]
theorem iC_at {l : List Int} {i : Nat} {e : List PV} (h : (iC l)[i]? = some e) : ∃ z, l[i]? = some z ∧ e = [PV.lit (.int .u8 z)] := by
  unfold iC at h
  rw [List.getElem?_map] at h
  obtain ⟨z, hz, rfl⟩ := Option.map_eq_some_iff.1 h
  exact ⟨z, hz, rfl⟩
abbrev vBy (l : List Int) : AV := .v (.c (.pv (.sl 1 (iC l))))
abbrev vN (z : Int) : AV := .v (.c (.pv (.lit (.int .u64 z))))
theorem own_rep {S : CS} {w w' : World} {e : TypeId} {a : Option Addr} {n c : Nat} {l : List Int} (h : bs.OwnB w' w.heap.size e a n c l) : RepP (newS S w w') w' (.slice a n c) (.sl 1 (iC l)) := by
  have hb := h.bytes
  obtain rfl := h.len
  have key : SlR (newS S w w') w' 1 (iC l) a c := by
    refine ⟨by rw [iC_len]; exact hb.cap, hb.most, hb.nil, ?_⟩
    rcases h.cases with ⟨rfl, h0, rfl⟩ | ⟨g, rfl, hg, hlt, -, -⟩
    · left
      have : l = [] := List.length_eq_zero_iff.1 h0
      rw [this]; rfl
    · right
      refine ⟨g, 0, rfl, fun e he => ?_, fun i e j p h1 h2 => ?_⟩
      · obtain ⟨i, hi⟩ := List.mem_iff_getElem?.1 he
        obtain ⟨z, -, rfl⟩ := iC_at hi
        rfl
      · obtain ⟨z, hz, rfl⟩ := iC_at h1
        have hj : j = 0 := by have := (List.getElem?_eq_some_iff.1 h2).1; simpa using this
        subst hj
        obtain rfl := Option.some.inj h2
        have hi := (List.getElem?_eq_some_iff.1 hz).1
        have hc := h.cellAt i hi
        have hd : l.getD i 0 = z := by simp [List.getD, hz]
        rw [hd] at hc
        refine ⟨.inr ⟨hg, hlt⟩, .int .u8 z, ?_, .lit _ rfl⟩
        simpa using hc
  have := sl_intro key
  rwa [iC_len] at this
theorem rep_bytes {S : CS} {w : World} {l : List Int} {x : Value} (hl : bs.AllB l) (h : RepP S w x (.sl 1 (iC l))) : ∃ a c, x = .slice a l.length c ∧ bs.Bytes w a l.length c l := by
  obtain ⟨a, c, rfl, R⟩ := sl_inv h
  rw [iC_len]
  refine ⟨a, c, rfl, rfl, by have := R.cap; rwa [iC_len] at this, R.most, hl, R.nil, ?_⟩
  rcases R.at' with h0 | ⟨b, off, rfl, hes, hc⟩
  · left
    have := congrArg List.length h0
    rwa [iC_len] at this
  · right
    refine ⟨b, off, rfl, fun i hi => ?_⟩
    have hz : l[i]? = some l[i] := List.getElem?_eq_getElem hi
    have h1 : (iC l)[i]? = some [PV.lit (.int .u8 l[i])] := by unfold iC; rw [List.getElem?_map, hz]; rfl
    obtain ⟨-, u, hu, hr⟩ := hc i _ 0 _ h1 rfl
    cases hr
    have hd : l.getD i 0 = l[i] := by simp [List.getD, hz]
    rw [hd]
    simpa using hu
theorem encB_row (f : Nat) (v : Int) (h : ∀ w, Calls Try.prog f #[.int .u64 v] w (vs.BPost w v)) (hf : Ent Try.prog f) : Row Try.prog f [vN v] [] (vBy (vs.enc v)) [] := by
  refine ⟨hf, spec_of_below (ch := []) fun γ S w vs' hm hv => ?_⟩
  match vs', hv with
  | [v0], ⟨h0, _⟩ =>
    obtain ⟨rfl, _⟩ := lit_inv h0
    refine (h w).mono ?_
    rintro e w' ⟨a, n, c, rfl, ho, hb⟩
    exact ⟨_, rfl, hb, own_rep ho⟩
theorem pbytes_row (v : Int) (h0 : 0 ≤ v) (h1 : v ≤ 18446744073709551615) : Row Try.prog 69 [vN v] [] (vBy (vs.enc v)) [] := encB_row _ v (fun w => vs.bytes_any v w h0 h1) ⟨_, Try.func69, rfl, rfl⟩
theorem rbytes_row (v : Int) (h0 : 0 ≤ v) (h1 : v ≤ 18446744073709551615) : Row Try.prog 25 [vN v] [] (vBy (vs.enc v)) [] := encB_row _ v (fun w => vs.rbytes_any v w h0 h1) ⟨_, Try.func25, rfl, rfl⟩
abbrev vGet (g : Int × Int × Int) : AV := .tup [.c (.pv (.lit (.int .u64 g.1))), .c (.pv (I g.2.1)), .c (.pv (I g.2.2))]
theorem pget_row (l : List Int) (hl : bs.AllB l) (hn : l.length ≤ 140737488355328) (at' : Int) (h0 : -9223372036854775808 ≤ at') (h1 : at' ≤ 9223372036854775807) : Row Try.prog 70 [vBy l, vI at'] [] (vGet (vs.getAt l at')) [] := by
  refine ⟨⟨_, Try.func70, rfl, rfl⟩, spec_of_below (ch := []) fun γ S w vs' hm hv => ?_⟩
  match vs', hv with
  | [v0, v1], ⟨h2, h3, _⟩ =>
    obtain ⟨rfl, _⟩ := lit_inv h3
    obtain ⟨a, c, rfl, hb⟩ := rep_bytes hl h2
    refine (vs.get_any a l.length c l at' w hb hn h0 h1).mono ?_
    rintro e w' ⟨rfl, rfl⟩
    refine ⟨_, rfl, Below.refl _ _, _, rfl, rfl, fun i x hx => ?_⟩
    match i, hx with
    | 0, hx => cases hx; exact ⟨_, rfl, .lit _ rfl⟩
    | 1, hx => cases hx; exact ⟨_, rfl, .lit _ rfl⟩
    | 2, hx => cases hx; exact ⟨_, rfl, .lit _ rfl⟩
    | i + 3, hx => simp at hx
theorem pzig_row (n : Int) (h0 : -9223372036854775808 ≤ n) (h1 : n ≤ 9223372036854775807) : Row Try.prog 47 [vI n] [] (vN (zigs.zig n)) [] := by
  refine ⟨⟨_, Try.func47, rfl, rfl⟩, spec_of_below (ch := []) fun γ S w vs' hm hv => ?_⟩
  match vs', hv with
  | [v0], ⟨h2, _⟩ =>
    obtain ⟨rfl, _⟩ := lit_inv h2
    refine (zigs.zig_any n w h0 h1).mono ?_
    rintro e w' ⟨rfl, rfl⟩
    exact ⟨_, rfl, Below.refl _ _, .lit _ rfl⟩
theorem rzig_row (n : Int) (h0 : -9223372036854775808 ≤ n) (h1 : n ≤ 9223372036854775807) : Row Try.prog 26 [vI n] [] (vN (zigs.zig n)) [] := by
  refine ⟨⟨_, Try.func26, rfl, rfl⟩, spec_of_below (ch := []) fun γ S w vs' hm hv => ?_⟩
  match vs', hv with
  | [v0], ⟨h2, _⟩ =>
    obtain ⟨rfl, _⟩ := lit_inv h2
    refine (zigs.rzig_any n w h0 h1).mono ?_
    rintro e w' ⟨rfl, rfl⟩
    exact ⟨_, rfl, Below.refl _ _, .lit _ rfl⟩
theorem pzag_row (v : Int) (h0 : 0 ≤ v) (h1 : v ≤ 18446744073709551615) : Row Try.prog 52 [vN v] [] (vI (zigs.zag v)) [] := by
  refine ⟨⟨_, Try.func52, rfl, rfl⟩, spec_of_below (ch := []) fun γ S w vs' hm hv => ?_⟩
  match vs', hv with
  | [v0], ⟨h2, _⟩ =>
    obtain ⟨rfl, _⟩ := lit_inv h2
    refine (zigs.zag_any v w h0 h1).mono ?_
    rintro e w' ⟨rfl, rfl⟩
    exact ⟨_, rfl, Below.refl _ _, .lit _ rfl⟩
end Go.Proofs.Ytcjagcfjpfjanaa.am
end
section
namespace Go.Proofs.Ytcjagcfjpfjanaa.am
open Go.ChangeShapes Go.WideShapes Go.ChangeAt Go.RowKit
set_option linter.unusedVariables false
abbrev SpecD (P : Program) (f : FuncId) (args : List AV) (ch : List AO) (res : AV) (ch' : List (Option AO)) : Prop :=
  SpecC (fun vs w R => CallsD P f vs .returning w (fun e u w' => u = .returning ∧ R e w')) args ch res ch'
structure RowD (P : Program) (f : FuncId) (args : List AV) (ch : List AO) (res : AV) (ch' : List (Option AO)) : Prop where
  ent : Ent P f
  spec : SpecD P f args ch res ch'
theorem rowD_of {P : Program} {f : FuncId} {fn : Func} {c : Code} (hf : P.funcs[f]? = some fn) (hb : fn.body = some c) (hn : (fn.name == "runtime.NumGoroutine") = false) {args : List AV} {ch : List AO} {res : AV} {ch' : List (Option AO)} (hN : args.length ≤ fn.ntmps)
    (h : AW P fn.ntmps ch.length c (entry args ch) (Fin P ch.length fn.results.toList res ch')) : RowD P f args ch res ch' :=
  ⟨⟨fn, hf, hn, by rw [hb]; rfl⟩, fun γ S w vs hm hv => callsD_of_wp hf hb (body_of hN h γ S w vs hm hv)⟩
abbrev Post (γ : Nat → G) (S : CS) (w : World) (res : AV) (ch' : List (Option AO)) : Ending → World → Prop := fun e w' =>
  ∃ v γ' S', e = .returned v ∧ Mem ⟨w, S, γ, []⟩ (fun x => (ch'[x]?).join) (fun x => ch'.length ≤ x) γ' S' w' ∧ RepV γ' S' w' v res
def FinD (P : Program) (N nb : Nat) (g : FuncId) (i off : Nat) (rs : List ResultVar) (res : AV) (ch' : List (Option AO)) : Exit → St → Prop := fun e st =>
  (e = .normal ∨ e = .ret) ∧ ∃ cargs ch0 res0 ch0' σ, RowD P g cargs ch0 res0 ch0' ∧ fitVs ch0.length (fun i => σ.getD i 0) cargs [.v (.c (.ptr i off))] ∧ covO (hlk st.hp) ch0.length (fun i => σ.getD i 0) (ch0.map some) σ ∧ σ.Nodup ∧
    ch0'.length ≤ ch0.length + 8 ∧ ch0.length ≤ ch0'.length ∧ (∃ o, hlk st.hp i = some o) ∧ Fin P nb rs res ch' .ret (st.wr (wrs (nmap σ ch0.length st.nx) 0 ch0') 8)
def AWD (P : Program) (fn : Func) (nb : Nat) (res : AV) (ch' : List (Option AO)) (c : Code) (st : St) : Prop :=
  ∀ (γ : Nat → G) (S : CS) (w0 : World), (∀ x, nb ≤ x → γ x = .un) → (∀ x, x < nb → γ x ≠ .un ∧ γ x ≠ .dead) → ∀ a w, Rel ⟨w0, S, γ, []⟩ fn.ntmps st a w → c.wp P (bodyPostD P fn (Post γ S w0 res ch')) a w
theorem awd_seq {P : Program} {fn : Func} {nb : Nat} {res : AV} {ch' : List (Option AO)} {x y : Code} {st : St} (h : AW P fn.ntmps nb x st (fun e st' => e = .normal ∧ AWD P fn nb res ch' y st')) : AWD P fn nb res ch' (.seq x y) st := fun γ S w0 h1 h2 a w hr =>
  wp_seq (h ⟨w0, S, γ, []⟩ h1 a w hr _ (fun e st' a' w' hq hr' => by
    obtain ⟨rfl, hq⟩ := hq
    exact hq γ S w0 h1 h2 a' w' hr'))
theorem row_of_d {P : Program} {f : FuncId} {fn : Func} {c : Code} (hf : P.funcs[f]? = some fn) (hb : fn.body = some c) (hn : (fn.name == "runtime.NumGoroutine") = false) {args : List AV} {ch : List AO} {res : AV} {ch' : List (Option AO)} (hN : args.length ≤ fn.ntmps)
    (h : AWD P fn ch.length res ch' c (entry args ch)) : Row P f args ch res ch' := by
  refine ⟨⟨fn, hf, hn, by rw [hb]; rfl⟩, fun γ S w vs hm hv => ?_⟩
  have hlen : vs.length = args.length := by
    clear h hm hN
    induction vs generalizing args with
    | nil => cases args with
      | nil => rfl
      | cons a l => exact hv.elim
    | cons v vs ih => cases args with
      | nil => exact hv.elim
      | cons a l => simp [ih hv.2]
  refine calls_of_wp_defers hf hb (h γ S w (fun x hx => hm.un x hx) (fun x hx => (hm.obj x _ (List.getElem?_eq_getElem hx)).live) _ w ⟨rfl, ?_, γ, S, ?_, fun t => ?_⟩)
  · simp [hlen]; omega
  · have e : hlk (entry args ch).hp = fun x => ch[x]? := by
      funext x
      show hlk (idx 0 (ch.map some)) x = _
      rw [hlk_idx0, List.getElem?_map]
      cases ch[x]? <;> rfl
    rw [e]; exact hm
  · have := idxA_lk (N := fn.ntmps - vs.toArray.size) hv 0 t
    simp at this ⊢
    exact this
theorem ar_tail {P : Program} {X : Ctx} {N : Nat} (ops : Array Oper) {Q : Exit → Act → World → Prop} {K : St → Prop} (tl : List Oper) (hQ : ∀ st a w, K st → Rel X N st a w → wpList P ops Q tl a w) : ∀ (l : List Oper) (st : St) (a : Act) (w : World), Rel X N st a w → AR P N (ops.toList.map (·.dst)) l st K → wpList P ops Q (l ++ tl) a w
  | [], st, a, w, h, hk => hQ st a w hk h
  | o :: l, st, a, w, h, hk => by
    unfold AR at hk
    rw [List.cons_append]
    cases hb : gd (ops.toList.map (·.dst)) st o.guard with
    | none => rw [hb] at hk; exact hk.elim
    | some b =>
      have hw := gd_wanted h ops o hb
      rw [hb] at hk
      unfold wpList
      rw [hw]
      cases b with
      | true =>
        rw [if_pos rfl]
        exact .inl (astep_sound h hk (fun st' a' w' hk' hr => ar_tail ops tl hQ l st' a' w' hr hk'))
      | false =>
        rw [if_neg (by simp)]
        obtain ⟨hd, hk⟩ : dok N o.dst = true ∧ _ := hk
        exact ar_tail ops tl hQ l _ _ w (h.put hd) hk
theorem Mem.re {w0 : World} {S0 : CS} {γ0 : Nat → G} {d d' : List Deferred} {H : Nat → Option AO} {U : Nat → Prop} {γ : Nat → G} {S : CS} {w : World} (h : Mem ⟨w0, S0, γ0, d⟩ H U γ S w) : Mem ⟨w0, S0, γ0, d'⟩ H U γ S w :=
  ⟨h.os, h.tape, h.output, h.size, h.frame, h.keep, h.fresh, h.inb, h.mono, h.un, h.off, h.obj, h.dist, h.live⟩
theorem ptr_keeps {γ0 γ1 γ2 : Nat → G} {S S' : CS} {w w' : World} {i off : Nat} {u : Value} (h0 : γ0 i ≠ .un) (h1 : GOn γ0 γ1) (h2 : GOn γ0 γ2) (hl : γ2 i ≠ .dead) (h : RepV γ1 S w u (.v (.c (.ptr i off)))) : RepV γ2 S' w' u (.v (.c (.ptr i off))) := by
  obtain ⟨b, hb, hu⟩ := h
  rcases h1 i with k | k | ⟨k, _⟩
  · exact absurd k h0
  · rcases h2 i with q | q | ⟨q, _⟩
    · exact absurd q h0
    · exact ⟨b, by rw [q, ← k]; exact hb, hu⟩
    · exact absurd q hl
  · rw [k] at hb; cases hb
theorem awd_defer {P : Program} {fn : Func} {nb : Nat} {res : AV} {ch' : List (Option AO)} {id : Nat} {ops : Array Oper} {dst : Option Nat} {g : FuncId} {x : Operand} {ats ty pos after} {B : Code} {st : St}
    (hl : ops.toList.getLast? = some (⟨dst, .defer ⟨.value (.func g), #[x], ats⟩, ty, pos, after, none⟩ : Oper))
    (h : AR P fn.ntmps (ops.toList.map (·.dst)) ops.toList.dropLast st (fun st1 => dok fn.ntmps dst = true ∧ ∃ i off, i < nb ∧ evA (lk st1.tm) x = .v (.c (.ptr i off)) ∧ AW P fn.ntmps nb B (st1.put dst (.tup [])) (FinD P fn.ntmps nb g i off fn.results.toList res ch'))) :
    AWD P fn nb res ch' (.seq (.region id ops false) B) st := fun γ0 S0 w0 u1 u2 a w hr => by
  refine wp_seq (wp_region_list ?_)
  have e : ops.toList = ops.toList.dropLast ++ [(⟨dst, .defer ⟨.value (.func g), #[x], ats⟩, ty, pos, after, none⟩ : Oper)] := by
    obtain ⟨ys, hys⟩ := List.getLast?_eq_some_iff.1 hl
    rw [hys, List.dropLast_concat]
  rw [e]
  refine ar_tail (X := ⟨w0, S0, γ0, []⟩) (N := fn.ntmps) ops _ (fun st1 a1 w1 hk hr1 => ?_) _ st a w hr h
  obtain ⟨hd, i, off, hi, hx, hB⟩ := hk
  obtain ⟨d1, d2, γ1, S1, m1, a1r⟩ := hr1
  have hu : RepV γ1 S1 w1 (a1.eval x) (.v (.c (.ptr i off))) := by rw [← hx]; exact evA_rep a1r x
  unfold wpList
  rw [if_pos (by simp [Region.wanted])]
  refine .inl ?_
  unfold Oper.wp
  have hex : (execOp a1.eval ⟨dst, .defer ⟨.value (.func g), #[x], ats⟩, ty, pos, after, none⟩).run P w1 = .ok (.defer { target := .fn (.func g) #[], args := #[a1.eval x] }) w1 := by
    simp [execOp, resolve, Deferred.ofValue, Act.eval]
  rw [hex, Oper.upon_defer]
  unfold wpList
  obtain ⟨X, hX⟩ : ∃ X : Ctx, X = ⟨w0, S0, γ0, [{ target := .fn (.func g) #[], args := #[a1.eval x] }]⟩ := ⟨_, rfl⟩
  have hrel0 : Rel X fn.ntmps st1 { a1 with defers := { target := .fn (.func g) #[], args := #[a1.eval x] } :: a1.defers } w1 := by
    subst hX
    exact ⟨by show _ :: a1.defers = _; rw [d1], d2, γ1, S1, m1.re, a1r⟩
  have hcx : CtxB nb X := by subst hX; exact u1
  refine hB X hcx _ w1 (hrel0.put hd) _ (fun e st' a' w' hq hr' => ?_)
  obtain ⟨he, cargs, ch0, res0, ch0', σ, hD, hfit, hcov, hnd, hl1, hl2, ⟨ob, hob⟩, hfin⟩ := hq
  obtain ⟨q1, q2, γ2, S2, m2, a2r⟩ := hr'
  have hu2 : RepV γ2 S2 w' (a1.eval x) (.v (.c (.ptr i off))) := ptr_keeps (u2 i hi).1 m1.mono (by have := m2.mono; subst hX; exact this) (m2.obj i ob hob).live.2 hu
  obtain ⟨c1, c2⟩ := covO_at hcov
  rw [List.length_map] at c1
  have key := call_soundC (C := fun vs w R => CallsD P g vs .returning w (fun e u w' => u = .returning ∧ R e w')) (fun h hr => h.mono (fun e u w' hh => ⟨hh.1, hr e w' hh.2⟩)) hD.spec m2 σ (fun i j hi hj e => nodup_getD hnd i j (by omega) (by omega) e) (fun i o ho => by
    have := (c2 i (some o) (by rw [List.getElem?_map, ho]; rfl)).1 o rfl
    exact this) (vs := [a1.eval x]) (args := [.v (.c (.ptr i off))]) ⟨hu2, trivial⟩ hfit st'.nx (fun x h _ => h) hl1 hl2
  have hlv : Leaves P fn a'.tmps (Post γ0 S0 w0 res ch') a'.defers .returning w' := by
    have q1' : a'.defers = [{ target := .fn (.func g) #[], args := #[a1.eval x] }] := by rw [q1, hX]
    rw [q1']
    refine leaves_cons (by simp) (f := g) (args := #[a1.eval x]) ?_ (key.mono ?_)
    · simp only [invoke]
      rw [run_callFunc hD.ent]
      rfl
    · rintro e2 u w2 ⟨rfl, v, γ3, S3, rfl, k1, k2, k3, k4, k5⟩
      obtain ⟨y, r, g1, g2, g3, g4, g5, g6⟩ := hfin
      have e1 : (st'.wr (wrs (nmap σ ch0.length st'.nx) 0 ch0') 8).hp = (wrs (nmap σ ch0.length st'.nx) 0 ch0').foldl (fun h p => p :: h) st'.hp := rfl
      have m3 : Mem X (hlk (st'.wr (wrs (nmap σ ch0.length st'.nx) 0 ch0') 8).hp) (fun x => st'.nx + 8 ≤ x) γ3 S3 w2 := by
        rw [e1, hlk_wr]
        exact k1.less (fun x hx => ⟨Nat.le_trans (Nat.le_add_right _ _) hx, fun hh => by have := hh.2; omega⟩)
      obtain ⟨z, j1, j2⟩ := resV_sound (st := st'.wr (wrs (nmap σ ch0.length st'.nx) 0 ch0') 8) m3 (tmps := a'.tmps) (fun t => (a2r t).mono k2 k3 k4) g1
      obtain ⟨γ4, hg, m4⟩ := m3.cov (nb := nb) hcx g3 g4 g5 g6
      subst hX
      exact ⟨z, j1, z, γ4, S3, rfl, m4.re, fitV_rep (ρ := fun i => r.getD i 0) hg g2 j2⟩
  rcases he with rfl | rfl
  · exact hlv
  · exact hlv
end Go.Proofs.Ytcjagcfjpfjanaa.am
end
section
namespace Go.Proofs.Ytcjagcfjpfjanaa.am
open Go.ChangeShapes Go.WideShapes Go.ChangeAt Go.RowKit
open vt
set_option linter.unusedVariables false
set_option linter.unusedSimpArgs false
theorem td_wri36 : td Try.prog 58 = some ⟨true, 4, 48, [.lit (.int .i64 0), .lit (.int .i64 0), .nilS, .lit (.int .i64 0)], [(0, 2, true), (2, 1, false), (3, 1, false)], .struct⟩ := Eq.trans (by kernel_rfl) (Eq.refl _)
theorem td_pwri36 : td Try.prog 54 = some ⟨false, 1, 8, [.lit (.pointer none)], [], (.pointer 58)⟩ := Eq.trans (by kernel_rfl) (Eq.refl _)
theorem td_lev36 : td Try.prog 56 = some ⟨true, 2, 16, [.lit (.int .i64 0), .lit (.int .i64 0)], [(0, 1, false), (1, 1, false)], .struct⟩ := Eq.trans (by kernel_rfl) (Eq.refl _)
theorem td_u836 : td Try.prog 5 = some ⟨false, 1, 1, [.lit (.int .u8 0)], [], (.int .u8)⟩ := Eq.trans (by kernel_rfl) (Eq.refl _)
theorem td_u8s36 : td Try.prog 22 = some ⟨false, 1, 24, [.nilS], [], (.slice 5)⟩ := Eq.trans (by kernel_rfl) (Eq.refl _)
theorem td_u6436 : td Try.prog 62 = some ⟨false, 1, 8, [.lit (.int .u64 0)], [], (.int .u64)⟩ := Eq.trans (by kernel_rfl) (Eq.refl _)
theorem td_pint36 : td Try.prog 86 = some ⟨false, 1, 8, [.lit (.pointer none)], [], (.pointer 3)⟩ := Eq.trans (by kernel_rfl) (Eq.refl _)
theorem td_errno36 : td Try.prog 28 = some ⟨false, 1, 8, [.lit (.int .i64 0)], [], (.int .i64)⟩ := Eq.trans (by kernel_rfl) (Eq.refl _)
attribute [simp] td_wri36 td_pwri36 td_lev36 td_u836 td_u8s36 td_u6436 td_pint36 td_errno36
abbrev bxC (i : Nat) (tr dv : Int) (B : List Int) (e : Int) : AO := .box [.pv (I tr), .pv (I dv), .row i 1 (iC B), .pv (I e)]
abbrev rwC : AO := .row 5 1
abbrev vW0 : AV := .v (.c (.ptr 0 0))
theorem wfail_row (tr dv : Int) (B : List Int) (e e' : Int) : Row Try.prog 45 [vW0, vI e'] [bxC 1 tr dv B e, rwC] (.tup []) [some (bxC 1 tr dv B (if e = 0 then e' else e)), some rwC] := by
  by_cases h : e = 0
  · subst h
    refine row_of Try.func45 rfl rfl (Nat.le_of_ble_eq_true rfl) ?_
    repeat (first | refine aw_seq ?_ | refine aw_skip ?_ | refine aw_block ?_ | refine aw_exit ?_ | refine aw_ct rfl ?_ | refine aw_cf rfl ?_ | ((first | refine aw_reg (fun K hK => ?_) | refine aw_drw mixd (fun K hK => ?_) | fail); simp -implicitDefEqProofs; first | refine hK _ ?_ | refine hK _ _ (by rfl) ?_ | fail) | fail)
    refine fin_fall (fin_g [0, 1] ?_); simp -implicitDefEqProofs [FinG, resV, resT] <;> try rfl
  · refine row_of Try.func45 rfl rfl (Nat.le_of_ble_eq_true rfl) ?_
    repeat (first | refine aw_seq ?_ | refine aw_skip ?_ | refine aw_block ?_ | refine aw_exit ?_ | refine aw_ct rfl ?_ | refine aw_cf rfl ?_ | ((first | refine aw_reg (fun K hK => ?_) | refine aw_drw mixd (fun K hK => ?_) | fail); simp -implicitDefEqProofs [h]; first | refine hK _ ?_ | refine hK _ _ (by rfl) ?_ | fail) | fail)
    refine fin_fall (fin_g [0, 1] ?_); simp -implicitDefEqProofs [FinG, resV, resT, h] <;> try rfl
theorem leave_rowD (tr dv : Int) (B : List Int) (e : Int) (h0 : -9223372036854775808 ≤ tr - 1) (h1 : tr ≤ 9223372036854775807) : RowD Try.prog 41 [vW0] [bxC 1 tr dv B e, rwC] (.tup []) [some (bxC 1 (tr - 1) dv B e), some rwC] := by
  have w1 : IntKind.i64.wrap (tr - 1) = tr - 1 := i64i _ h0 (by omega)
  refine rowD_of Try.func41 rfl rfl (Nat.le_of_ble_eq_true rfl) ?_
  repeat (first | refine aw_seq ?_ | refine aw_skip ?_ | refine aw_block ?_ | refine aw_exit ?_ | refine aw_ct rfl ?_ | refine aw_cf rfl ?_ | ((first | refine aw_reg (fun K hK => ?_) | refine aw_drw mixd (fun K hK => ?_) | fail); simp -implicitDefEqProofs [w1]; first | refine hK _ ?_ | refine hK _ _ (by rfl) ?_ | fail) | fail)
  refine fin_fall (fin_g [0, 1] ?_); simp -implicitDefEqProofs [FinG, resV, resT] <;> try rfl
theorem wenter_row (tr dv : Int) (B : List Int) (e : Int) (h0 : 0 ≤ tr) (h1 : tr ≤ 1000000) : Row Try.prog 42 [vW0, vW0] [bxC 1 tr dv B e, rwC] (vB (decide ((if 64 ≤ tr ∧ e = 0 then 7 else e) = 0))) [some (bxC 1 (tr + 1) dv B (if 64 ≤ tr ∧ e = 0 then 7 else e)), some rwC] := by
  have w1 : IntKind.i64.wrap (tr + 1) = tr + 1 := i64i _ (by omega) (by omega)
  have hf := wfail_row tr dv B e 7
  by_cases h : 64 ≤ tr
  · by_cases he : e = 0
    · subst he
      rw [if_pos rfl] at hf
      rw [if_pos ⟨h, rfl⟩]
      refine row_of Try.func42 rfl rfl (Nat.le_of_ble_eq_true rfl) ?_
      repeat' (first | refine aw_seq ?_ | refine aw_skip ?_ | refine aw_block ?_ | refine aw_exit ?_ | refine aw_ct rfl ?_ | refine aw_cf rfl ?_ | ((first | refine aw_reg (fun K hK => ?_) | refine aw_drw mixd (fun K hK => ?_) | refine ar_call (cg hf [0,1] ?_) | refine ard_call (dg hf [0,1] ?_) | fail); simp -implicitDefEqProofs [h, w1]) | refine hK _ ?_ | refine hK _ _ (by rfl) ?_ | fail)
      refine aw_ret (fin_g [0, 1] ?_); simp -implicitDefEqProofs [FinG, resV, resT] <;> try rfl
    · rw [if_neg he] at hf
      rw [if_neg (fun k => he k.2)]
      refine row_of Try.func42 rfl rfl (Nat.le_of_ble_eq_true rfl) ?_
      repeat' (first | refine aw_seq ?_ | refine aw_skip ?_ | refine aw_block ?_ | refine aw_exit ?_ | refine aw_ct rfl ?_ | refine aw_cf rfl ?_ | ((first | refine aw_reg (fun K hK => ?_) | refine aw_drw mixd (fun K hK => ?_) | refine ar_call (cg hf [0,1] ?_) | refine ard_call (dg hf [0,1] ?_) | fail); simp -implicitDefEqProofs [h, w1, he]) | refine hK _ ?_ | refine hK _ _ (by rfl) ?_ | fail)
      refine aw_ret (fin_g [0, 1] ?_); simp -implicitDefEqProofs [FinG, resV, resT, he] <;> try rfl
  · rw [if_neg (fun k => h k.1)]
    by_cases he : e = 0
    · subst he
      refine row_of Try.func42 rfl rfl (Nat.le_of_ble_eq_true rfl) ?_
      repeat (first | refine aw_seq ?_ | refine aw_skip ?_ | refine aw_block ?_ | refine aw_exit ?_ | refine aw_ct rfl ?_ | refine aw_cf rfl ?_ | ((first | refine aw_reg (fun K hK => ?_) | refine aw_drw mixd (fun K hK => ?_) | fail); simp -implicitDefEqProofs [h, w1]; first | refine hK _ ?_ | refine hK _ _ (by rfl) ?_ | fail) | fail)
      refine aw_ret (fin_g [0, 1] ?_); simp -implicitDefEqProofs [FinG, resV, resT] <;> try rfl
    · refine row_of Try.func42 rfl rfl (Nat.le_of_ble_eq_true rfl) ?_
      repeat (first | refine aw_seq ?_ | refine aw_skip ?_ | refine aw_block ?_ | refine aw_exit ?_ | refine aw_ct rfl ?_ | refine aw_cf rfl ?_ | ((first | refine aw_reg (fun K hK => ?_) | refine aw_drw mixd (fun K hK => ?_) | fail); simp -implicitDefEqProofs [h, w1, he]; first | refine hK _ ?_ | refine hK _ _ (by rfl) ?_ | fail) | fail)
      refine aw_ret (fin_g [0, 1] ?_); simp -implicitDefEqProofs [FinG, resV, resT, he] <;> try rfl
theorem wbyte_row (tr dv : Int) (B : List Int) (e : Int) (z : Int) (hB : B.length + 1 ≤ 140737488355328) : Row Try.prog 68 [vW0, .v (.c (.pv (.lit (.int .u8 z))))] [bxC 1 tr dv B e, rwC] (.tup []) [some (bxC 2 tr dv (B ++ [z]) e), none, some rwC] := by
  have hl : (iC B).length + 1 ≤ 140737488355328 := by rw [iC_len]; exact hB
  have ha : iC (B ++ [z]) = iC B ++ [[PV.lit (.int .u8 z)]] := by rw [← iC_app]; rfl
  refine row_of Try.func68 rfl rfl (Nat.le_of_ble_eq_true rfl) ?_
  repeat (first | refine aw_seq ?_ | refine aw_skip ?_ | refine aw_block ?_ | refine aw_exit ?_ | refine aw_ct rfl ?_ | refine aw_cf rfl ?_ | ((first | refine aw_reg (fun K hK => ?_) | refine aw_drw mixd (fun K hK => ?_) | fail); simp -implicitDefEqProofs [hl]; first | refine hK _ ?_ | refine hK _ _ (by rfl) ?_ | fail) | fail)
  refine fin_fall (fin_g [0, 1, 9] ?_); simp -implicitDefEqProofs [FinG, resV, resT, ha] <;> try rfl
theorem wnumber_row (tr dv : Int) (B : List Int) (e : Int) (v : Int) (h0 : 0 ≤ v) (h1 : v ≤ 18446744073709551615) (hB : B.length + 10 ≤ 140737488355328) : Row Try.prog 46 [vW0, vN v] [bxC 1 tr dv B e, rwC] (.tup []) [some (bxC 2 tr dv (B ++ vs.enc v) e), none, some rwC] := by
  have hl : (iC B).length + (iC (vs.enc v)).length ≤ 140737488355328 := by rw [iC_len, iC_len]; have := (enc_ln v).2; omega
  have hb := pbytes_row v h0 h1
  have ha := (iC_app B (vs.enc v)).symm
  refine row_of Try.func46 rfl rfl (Nat.le_of_ble_eq_true rfl) ?_
  repeat' (first | refine aw_seq ?_ | refine aw_skip ?_ | refine aw_block ?_ | refine aw_exit ?_ | refine aw_ct rfl ?_ | refine aw_cf rfl ?_ | ((first | refine aw_reg (fun K hK => ?_) | refine aw_drw mixd (fun K hK => ?_) | refine ar_call (cp hb ?_) | refine ard_call (dp hb ?_) | fail); simp -implicitDefEqProofs [hl]) | refine hK _ ?_ | refine hK _ _ (by rfl) ?_ | fail)
  refine fin_fall (fin_g [0, 1, 58] ?_); simp -implicitDefEqProofs [FinG, resV, resT, ha] <;> try rfl
theorem isterm_row (k : Int) : Row Try.prog 44 [vI k] [] (vB (decide (1 ≤ k ∧ k ≤ 36))) [] := by
  by_cases h1 : 1 ≤ k
  · by_cases h2 : k ≤ 36
    · refine row_of Try.func44 rfl rfl (Nat.le_of_ble_eq_true rfl) ?_
      repeat (first | refine aw_seq ?_ | refine aw_skip ?_ | refine aw_block ?_ | refine aw_exit ?_ | refine aw_ct rfl ?_ | refine aw_cf rfl ?_ | ((first | refine aw_reg (fun K hK => ?_) | refine aw_drw mixd (fun K hK => ?_) | fail); simp -implicitDefEqProofs [h1, h2]; first | refine hK _ ?_ | refine hK _ _ (by rfl) ?_ | fail) | fail)
      refine aw_ret (fin_ret ?_); simp -implicitDefEqProofs [FinP, resV, resT, h1, h2] <;> try rfl
    · refine row_of Try.func44 rfl rfl (Nat.le_of_ble_eq_true rfl) ?_
      repeat (first | refine aw_seq ?_ | refine aw_skip ?_ | refine aw_block ?_ | refine aw_exit ?_ | refine aw_ct rfl ?_ | refine aw_cf rfl ?_ | ((first | refine aw_reg (fun K hK => ?_) | refine aw_drw mixd (fun K hK => ?_) | fail); simp -implicitDefEqProofs [h1, h2]; first | refine hK _ ?_ | refine hK _ _ (by rfl) ?_ | fail) | fail)
      refine aw_ret (fin_ret ?_); simp -implicitDefEqProofs [FinP, resV, resT, h1, h2] <;> try rfl
  · refine row_of Try.func44 rfl rfl (Nat.le_of_ble_eq_true rfl) ?_
    repeat (first | refine aw_seq ?_ | refine aw_skip ?_ | refine aw_block ?_ | refine aw_exit ?_ | refine aw_ct rfl ?_ | refine aw_cf rfl ?_ | ((first | refine aw_reg (fun K hK => ?_) | refine aw_drw mixd (fun K hK => ?_) | fail); simp -implicitDefEqProofs [h1]; first | refine hK _ ?_ | refine hK _ _ (by rfl) ?_ | fail) | fail)
    refine aw_ret (fin_ret ?_); simp -implicitDefEqProofs [FinP, resV, resT, h1] <;> try rfl
theorem wkind_yes (tr dv : Int) (B : List Int) (e : Int) (k : Int) (h1 : 1 ≤ k) (h2 : k ≤ 36) (hB : B.length + 1 ≤ 140737488355328) : Row Try.prog 43 [vW0, vI k, vB true] [bxC 1 tr dv B e, rwC] (.tup []) [some (bxC 2 tr dv (B ++ [k]) e), none, some rwC] := by
  have hb := wbyte_row tr dv B e k hB
  have w1 : IntKind.u8.wrap k = k := vs.u8_in k (by omega) (by omega)
  refine row_of Try.func43 rfl rfl (Nat.le_of_ble_eq_true rfl) ?_
  repeat' (first | refine aw_seq ?_ | refine aw_skip ?_ | refine aw_block ?_ | refine aw_exit ?_ | refine aw_ct rfl ?_ | refine aw_cf rfl ?_ | ((first | refine aw_reg (fun K hK => ?_) | refine aw_drw mixd (fun K hK => ?_) | refine ar_call (cg hb [0,1] ?_) | refine ard_call (dg hb [0,1] ?_) | fail); simp -implicitDefEqProofs [w1]) | refine hK _ ?_ | refine hK _ _ (by rfl) ?_ | fail)
  refine fin_fall (fin_g [0, 1, 7] ?_); simp -implicitDefEqProofs [FinG, resV, resT] <;> try rfl
theorem wkind_no (tr dv : Int) (B : List Int) (e : Int) (k : Int) : Row Try.prog 43 [vW0, vI k, vB false] [bxC 1 tr dv B e, rwC] (.tup []) [some (bxC 1 tr dv B (if e = 0 then 23 else e)), some rwC] := by
  have hf := wfail_row tr dv B e 23
  obtain ⟨g, hg⟩ : ∃ g, (if e = 0 then (23 : Int) else e) = g := ⟨_, rfl⟩
  rw [hg] at hf ⊢
  refine row_of Try.func43 rfl rfl (Nat.le_of_ble_eq_true rfl) ?_
  repeat' (first | refine aw_seq ?_ | refine aw_skip ?_ | refine aw_block ?_ | refine aw_exit ?_ | refine aw_ct rfl ?_ | refine aw_cf rfl ?_ | ((first | refine aw_reg (fun K hK => ?_) | refine aw_drw mixd (fun K hK => ?_) | refine ar_call (cg hf [0,1] ?_) | refine ard_call (dg hf [0,1] ?_) | fail); simp -implicitDefEqProofs) | refine hK _ ?_ | refine hK _ _ (by rfl) ?_ | fail)
  refine aw_ret (fin_g [0, 1] ?_); simp -implicitDefEqProofs [FinG, resV, resT] <;> try rfl
abbrev fnW : AV := .v (.c (.fn (.func 23) [.ptr 0 0] []))
def WrOk (dv : Int) (y : VT) (tr : Int) : Prop := ∀ B : List Int, B.length + 21 * y.size ≤ 100000000 → Row Try.prog 23 [vW0, vT y] [bxC 1 tr dv B 0, rwC] (.tup []) [some (bxC 2 tr dv (B ++ wrT y tr) (erT y (tr + 1))), none, some rwC]
theorem size_cut (l : List VT) (k : Nat) : ((l.take k).map Tr.size).sum + ((l.drop k).map Tr.size).sum = (l.map Tr.size).sum := by
  rw [← List.sum_append, ← List.map_append, List.take_append_drop]
theorem wall_row (tr dv : Int) (B : List Int) (e : Int) (l : List VT) (hl : l.length ≤ 1000000) (hok : ∀ y ∈ l, WrOk dv y tr) (hB : B.length + 10 + 21 * (l.map Tr.size).sum ≤ 100000000) : Row Try.prog 48 [vW0, vLs l, fnW] [bxC 1 tr dv B e, rwC] (.tup []) [some (bxC 2 tr dv (B ++ (vs.enc (l.length : Nat) ++ (if e = 0 then seqW (l.map fun y => (wrT y tr, erT y (tr + 1))) else []))) (if e = 0 then fstE (l.map fun y => erT y (tr + 1)) else e)), none, some rwC] := by
  have hn := wnumber_row tr dv B e (l.length : Nat) (by omega) (by omega) (by omega)
  have w0 : IntKind.u64.wrap (l.length : Int) = (l.length : Nat) := by rw [vs.u64_wrap]; omega
  obtain ⟨A, hA⟩ : ∃ A, B ++ vs.enc (l.length : Nat) = A := ⟨_, rfl⟩
  have hAl : A.length ≤ B.length + 10 := by rw [← hA, List.length_append]; have := (enc_ln (l.length : Nat)).2; omega
  rw [← List.append_assoc, hA]
  rw [hA] at hn
  by_cases he : e = 0; rotate_left
  · rw [if_neg he, if_neg he, List.append_nil]
    refine row_of Try.func48 rfl rfl (Nat.le_of_ble_eq_true rfl) ?_
    repeat' (first | refine aw_seq ?_ | refine aw_skip ?_ | refine aw_block ?_ | refine aw_exit ?_ | refine aw_ct rfl ?_ | refine aw_cf rfl ?_ | ((first | refine aw_reg (fun K hK => ?_) | refine aw_drw mixd (fun K hK => ?_) | refine ar_call (cg hn [0,1] ?_) | refine ard_call (dg hn [0,1] ?_) | fail); simp -implicitDefEqProofs [w0]) | refine hK _ ?_ | refine hK _ _ (by rfl) ?_ | fail)
    refine aw_lp (ι := Nat) (fun k => mkSt [(0, vW0), (13, vLs l), (14, vI (l.length : Nat)), (15, vI (k : Nat))] [some (bxC 2 tr dv A e), none, some rwC]) (fun k => k ≤ l.length) (fun k => l.length - k) 0 (Nat.zero_le _) (cov_intro [0, 1, 6] (by simp -implicitDefEqProofs) (by simp -implicitDefEqProofs) (by decide) rfl (by simp)) (fun Z hI k hk => ?_)
    by_cases hkl : k < l.length; rotate_left
    · have : k = l.length := by omega
      subst this
      repeat (first | refine aw_seq ?_ | refine aw_skip ?_ | refine aw_block ?_ | refine aw_exit ?_ | refine aw_ct rfl ?_ | refine aw_cf rfl ?_ | ((first | refine aw_reg (fun K hK => ?_) | refine aw_drw mixd (fun K hK => ?_) | fail); simp -implicitDefEqProofs; first | refine hK _ ?_ | refine hK _ _ (by rfl) ?_ | fail) | fail)
      refine fin_fall (fin_g [0, 1, 2] ?_); simp -implicitDefEqProofs [FinG, resV, resT] <;> try rfl
    obtain ⟨⟨ax, al⟩, ha⟩ : ∃ a, l[k]? = some a := ⟨_, List.getElem?_eq_getElem hkl⟩
    have ha' := (List.getElem?_eq_some_iff.1 ha).2
    have w2 : IntKind.i64.wrap ((k : Nat) + 1 : Int) = (k : Nat) + 1 := i64i _ (by omega) (by omega)
    repeat (first | refine aw_seq ?_ | refine aw_skip ?_ | refine aw_block ?_ | refine aw_exit ?_ | refine aw_ct rfl ?_ | refine aw_cf rfl ?_ | ((first | refine aw_reg (fun K hK => ?_) | refine aw_drw mixd (fun K hK => ?_) | fail); simp -implicitDefEqProofs [hkl, ha, ha', w2, he]; first | refine hK _ ?_ | refine hK _ _ (by rfl) ?_ | fail) | fail)
    refine ⟨k + 1, by omega, (by dsimp only; omega), ?_⟩
    rw [hI]; exact cov_intro [0, 1, 2] (by simp -implicitDefEqProofs) (by simp -implicitDefEqProofs) (by decide) rfl (by simp)
  subst he
  rw [if_pos rfl, if_pos rfl]
  have hlen : ∀ k, k ≤ l.length → (seqW ((l.take k).map fun y => (wrT y tr, erT y (tr + 1)))).length ≤ 21 * ((l.take k).map Tr.size).sum := fun k hk => by
    have h3 := seq_len ((l.take k).map fun y => (wrT y tr, erT y (tr + 1))) ((l.take k).map fun y => 21 * y.size) (by simp) (fun i p n hp hn => by
      rw [List.getElem?_map] at hp hn
      obtain ⟨y, hy, rfl⟩ := Option.map_eq_some_iff.1 hp
      rw [hy] at hn
      obtain rfl := Option.some.inj hn
      exact wr_len y tr)
    have h4 : ∀ L : List VT, (L.map fun y => 21 * y.size).sum = 21 * (L.map Tr.size).sum := fun L => by
      induction L with
      | nil => rfl
      | cons y L ih => simp only [List.map_cons, List.sum_cons, ih]; omega
    rw [h4] at h3
    exact h3
  have s0 : A ++ seqW ((l.take 0).map fun y => (wrT y tr, erT y (tr + 1))) = A := by rw [List.take_zero]; exact List.append_nil A
  have f0 : fstE ((l.take 0).map fun y => erT y (tr + 1)) = 0 := rfl
  refine row_of Try.func48 rfl rfl (Nat.le_of_ble_eq_true rfl) ?_
  repeat' (first | refine aw_seq ?_ | refine aw_skip ?_ | refine aw_block ?_ | refine aw_exit ?_ | refine aw_ct rfl ?_ | refine aw_cf rfl ?_ | ((first | refine aw_reg (fun K hK => ?_) | refine aw_drw mixd (fun K hK => ?_) | refine ar_call (cg hn [0,1] ?_) | refine ard_call (dg hn [0,1] ?_) | fail); simp -implicitDefEqProofs [w0]) | refine hK _ ?_ | refine hK _ _ (by rfl) ?_ | fail)
  refine aw_lp (ι := Nat) (fun k => mkSt [(0, vW0), (2, fnW), (13, vLs l), (14, vI (l.length : Nat)), (15, vI (k : Nat))] [some (bxC 2 tr dv (A ++ seqW ((l.take k).map fun y => (wrT y tr, erT y (tr + 1)))) (fstE ((l.take k).map fun y => erT y (tr + 1)))), none, some rwC]) (fun k => k ≤ l.length) (fun k => l.length - k) 0 (Nat.zero_le _) (by rw [s0, f0]; exact cov_intro [0, 1, 6] (by simp -implicitDefEqProofs) (by simp -implicitDefEqProofs) (by decide) rfl (by simp)) (fun Z hI k hk => ?_)
  clear s0 f0 hn
  by_cases hkl : k < l.length; rotate_left
  · have : k = l.length := by omega
    subst this
    rw [List.take_length]
    obtain ⟨X, hX⟩ : ∃ X, A ++ seqW (l.map fun y => (wrT y tr, erT y (tr + 1))) = X := ⟨_, rfl⟩
    obtain ⟨g, hg⟩ : ∃ g, fstE (l.map fun y => erT y (tr + 1)) = g := ⟨_, rfl⟩
    rw [hX, hg]
    repeat (first | refine aw_seq ?_ | refine aw_skip ?_ | refine aw_block ?_ | refine aw_exit ?_ | refine aw_ct rfl ?_ | refine aw_cf rfl ?_ | ((first | refine aw_reg (fun K hK => ?_) | refine aw_drw mixd (fun K hK => ?_) | fail); simp -implicitDefEqProofs; first | refine hK _ ?_ | refine hK _ _ (by rfl) ?_ | fail) | fail)
    refine fin_fall (fin_g [0, 1, 2] ?_); simp -implicitDefEqProofs [FinG, resV, resT] <;> try rfl
  obtain ⟨a, ha⟩ : ∃ a, l[k]? = some a := ⟨_, List.getElem?_eq_getElem hkl⟩
  have ha' := (List.getElem?_eq_some_iff.1 ha).2
  have w2 : IntKind.i64.wrap ((k : Nat) + 1 : Int) = (k : Nat) + 1 := i64i _ (by omega) (by omega)
  have htk : ∀ {β : Type} (f : VT → β), (l.take (k + 1)).map f = (l.take k).map f ++ [f a] := fun f => by rw [List.take_add_one, ha]; simp
  have hs1 := seq_snoc (wrT a tr, erT a (tr + 1)) ((l.take k).map fun y => (wrT y tr, erT y (tr + 1)))
  rw [← htk (fun y => (wrT y tr, erT y (tr + 1))), List.map_map] at hs1
  have hs2 := fst_snoc (erT a (tr + 1)) ((l.take k).map fun y => erT y (tr + 1))
  rw [← htk (fun y => erT y (tr + 1))] at hs2
  have hcmp : ((fun x : List Int × Int => x.2) ∘ fun y : VT => (wrT y tr, erT y (tr + 1))) = fun y => erT y (tr + 1) := rfl
  rw [hcmp] at hs1
  have hlk := hlen k hk
  have hcut := size_cut l k
  have hd : l.drop k = a :: l.drop (k + 1) := by rw [List.drop_eq_getElem_cons hkl, ha']
  rw [hd, List.map_cons, List.sum_cons] at hcut
  obtain ⟨W, hW⟩ : ∃ W, seqW ((l.take k).map fun y => (wrT y tr, erT y (tr + 1))) = W := ⟨_, rfl⟩
  obtain ⟨g, hg⟩ : ∃ g, fstE ((l.take k).map fun y => erT y (tr + 1)) = g := ⟨_, rfl⟩
  rw [hW, hg] at hs1
  rw [hg] at hs2
  rw [hW] at hlk ⊢
  rw [hg]
  have hrow := hok a (List.mem_of_getElem? ha) (A ++ W) (by rw [List.length_append]; omega)
  rw [List.append_assoc] at hrow
  obtain ⟨ax, al⟩ := a
  clear hok hlen htk hcut
  by_cases hg0 : g = 0
  · subst hg0
    rw [if_pos rfl] at hs1 hs2
    obtain ⟨V, hV⟩ : ∃ V, W ++ wrT (.mk ax al) tr = V := ⟨_, rfl⟩
    rw [hV] at hs1 hrow
    obtain ⟨q, hq⟩ : ∃ q, erT (.mk ax al) (tr + 1) = q := ⟨_, rfl⟩
    rw [hq] at hs2 hrow
    repeat' (first | refine aw_seq ?_ | refine aw_skip ?_ | refine aw_block ?_ | refine aw_exit ?_ | refine aw_ct rfl ?_ | refine aw_cf rfl ?_ | ((first | refine aw_reg (fun K hK => ?_) | refine aw_drw mixd (fun K hK => ?_) | refine ar_call (cg hrow [0,2] ?_) | refine ard_call (dg hrow [0,2] ?_) | fail); simp -implicitDefEqProofs [hkl, ha, ha', w2]) | refine hK _ ?_ | refine hK _ _ (by rfl) ?_ | fail)
    refine ⟨k + 1, by omega, (by dsimp only; omega), ?_⟩
    rw [hI, hs1, hs2]; exact cov_intro [0, 1, 15] (by simp -implicitDefEqProofs) (by simp -implicitDefEqProofs) (by decide) rfl (by simp)
  · rw [if_neg hg0] at hs1 hs2
    repeat (first | refine aw_seq ?_ | refine aw_skip ?_ | refine aw_block ?_ | refine aw_exit ?_ | refine aw_ct rfl ?_ | refine aw_cf rfl ?_ | ((first | refine aw_reg (fun K hK => ?_) | refine aw_drw mixd (fun K hK => ?_) | fail); simp -implicitDefEqProofs [hkl, ha, ha', w2, hg0]; first | refine hK _ ?_ | refine hK _ _ (by rfl) ?_ | fail) | fail)
    refine ⟨k + 1, by omega, (by dsimp only; omega), ?_⟩
    rw [hI, hs1, hs2]; exact cov_intro [0, 1, 2] (by simp -implicitDefEqProofs) (by simp -implicitDefEqProofs) (by decide) rfl (by simp)
end Go.Proofs.Ytcjagcfjpfjanaa.am
end
section
namespace Go.Proofs.Ytcjagcfjpfjanaa.am
open Go.ChangeShapes Go.WideShapes Go.ChangeAt Go.RowKit
set_option linter.unusedVariables false
set_option linter.unusedSimpArgs false
variable {P : Program} {N nb : Nat} {st : St} {Q : Exit → St → Prop}
end Go.Proofs.Ytcjagcfjpfjanaa.am
end
