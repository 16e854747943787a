/-
  Layer 47: what the statements ask besides: entries alike, lists that are too large, the program awake.
-/
import Derived.Test.YtejhncdempfmjaaChainMath
namespace Go.Proofs.Ytejhncdempfmjaa.ch
open Go.ChangeShapes Go.WideShapes Go.ChangeAt Go.RowKit
open bs en
open Go.Proofs.Ytejhncdempfmjaa.sh (tagB)
set_option linter.unusedVariables false

theorem recs_map {w : World} {a : Option Addr} {n c : Nat} {L : List Fw} (h : Recs 2 EntF w a n c L) : Recs 2 EntAt w a n c (L.map Fw.e) := by
  refine ⟨by rw [List.length_map]; exact h.len, h.cap, h.most, h.nil, ?_⟩
  rcases h.at' with h0 | ⟨b, off, ha, hb, hc⟩
  · exact .inl h0
  · refine .inr ⟨b, off, ha, hb, fun i x hi => ?_⟩
    rw [List.getElem?_map] at hi
    obtain ⟨y, hy, rfl⟩ := Option.map_eq_some_iff.1 hi
    have := hc i y hy
    exact ⟨this.c0, this.c1, ⟨this.rd.k0, this.rd.k1⟩, this.rd.body⟩
/-- They tell the same, one by one. -/
def Alk (L L' : List Ent) : Prop := ∀ (i : Nat) (x y : Ent), L[i]? = some x → L'[i]? = some y → x.k = y.k ∧ x.l = y.l

set_option maxRecDepth 100000 in
set_option maxHeartbeats 2000000 in
theorem alike_eq (a : Option Addr) (n c : Nat) (L : List Ent) (a' : Option Addr) (c' : Nat) (L' : List Ent) (w : World) (h : Recs 2 EntAt w a n c L) (h' : Recs 2 EntAt w a' n c' L') (hk : Alk L L') :
    Calls Try.prog 22 #[.slice a n c, .slice a' n c'] w fun e w' => e = .returned (.bool true) ∧ Below w.heap.size w w' := by
  have hcap := h.cap; have hmost := h.most; have hlen := h.len; have hcap' := h'.cap; have hmost' := h'.most; have hlen' := h'.len
  have H := Lib.hid h; have H' := Lib.hid h'; have HLN := Lib.hid hlen; have HLN' := Lib.hid hlen'; have HK := Lib.hid hk
  clear h h' hlen hlen' hk
  go_enter Try.func22, Try.ntmps22
  go_wp2
  go_loopw [5] (fun i wr => ∃ (k : Nat), k ≤ n ∧ i = .int .i64 k ∧ Hid (Below w.heap.size w wr)) (fun i _ => n - (intOf i).toNat)
  case atStart => exact ⟨0, by omega, rfl, Lib.hid (Below.refl _ _)⟩
  case round =>
    obtain ⟨k, hk2, rfl, HB⟩ := hrel
    by_cases hlt : k < n
    · obtain ⟨x, hx⟩ : ∃ x, L[k]? = some x := ⟨L[k]'(by have := HLN.out; omega), List.getElem?_eq_getElem _⟩
      obtain ⟨y, hy⟩ : ∃ y, L'[k]? = some y := ⟨L'[k]'(by have := HLN'.out; omega), List.getElem?_eq_getElem _⟩
      obtain ⟨b, off, rfl, hbl, hcell⟩ := (H.out.below entStays HB.out).at'.resolve_left (by omega)
      obtain ⟨b', off', rfl, hbl', hcell'⟩ := (H'.out.below entStays HB.out).at'.resolve_left (by omega)
      have hc := hcell k x hx
      have hc' := hcell' k y hy
      obtain ⟨q1, q2⟩ := HK.out k x y hx hy
      obtain ⟨xk, xa, xn, xc, xl⟩ := x
      obtain ⟨yk, ya, yn, yc, yl⟩ := y
      dsimp only at q1 q2
      subst q1 q2
      have HRD := Lib.hid hc.rd; have HRD' := Lib.hid hc'.rd
      have e0 := hc.c0; have e1 := hc.c1; have e2 := hc'.c0; have e3 := hc'.c1
      dsimp only at e0 e1 e2 e3
      have hKeep : ∀ V : World, Below wr.heap.size wr V → V.cell? ⟨b, off + k * 2, none⟩ = some (.int .i64 xk) ∧ V.cell? ⟨b, off + k * 2 + 1, none⟩ = some (.slice xa xn xc) ∧ V.cell? ⟨b', off' + k * 2, none⟩ = some (.int .i64 xk) ∧ V.cell? ⟨b', off' + k * 2 + 1, none⟩ = some (.slice ya yn yc) := fun V hV => by
        refine ⟨?_, ?_, ?_, ?_⟩
        · rw [hV.cell (p := ⟨b, off + k * 2, none⟩) hbl]; exact hc.c0
        · rw [hV.cell (p := ⟨b, off + k * 2 + 1, none⟩) hbl]; exact hc.c1
        · rw [hV.cell (p := ⟨b', off' + k * 2, none⟩) hbl']; exact hc'.c0
        · rw [hV.cell (p := ⟨b', off' + k * 2 + 1, none⟩) hbl']; exact hc'.c1
      have Keep := Lib.hid hKeep
      have hs := HB.out.size
      have z2 : (0 : Int) ≤ (k : Int) := by omega
      have z3 : (k : Int) < (n : Int) := by omega
      clear hcell hcell' hc hc' hx hy hKeep
      go_wp2_with fail
      go_region_held3 (fun V => V.cell? ⟨b, off + k * 2, none⟩ = some (.int .i64 xk) ∧ V.cell? ⟨b, off + k * 2 + 1, none⟩ = some (.slice xa xn xc) ∧ V.cell? ⟨b', off' + k * 2, none⟩ = some (.int .i64 xk) ∧ V.cell? ⟨b', off' + k * 2 + 1, none⟩ = some (.slice ya yn yc))
        (first | exact Keep.out _ (Below.refl _ _) | exact Keep.out _ (Below.drew (Below.refl _ _)) | exact Keep.out _ hS3)
        ((go_at_call 58; refine (same_eq xk xa xn xc ya yn yc xl _ (HRD.out.2.below (Below.drew (Below.refl _ _))) (HRD'.out.2.below (Below.drew (Below.refl _ _)))).mono ?_; rintro e w3 ⟨rfl, hb3⟩; have hS3 : Below wr.heap.size wr w3 := (Below.drew (Below.refl _ _)).trans hb3))
      have HB4 := Lib.hid (HB.out.trans (hS3.mono hs))
      clear hS3 e0 e1 e2 e3 hb3
      go_wp2
      go_roundw
      case rel => exact ⟨k + 1, by omega, by go_num, HB4⟩
      case measure => simp [intOf]; omega
    · obtain rfl : k = n := by omega
      go_wp2
      go_ret
      exact ⟨rfl, HB.out⟩

def LPost (n : Nat) (w : World) (e : Ending) (w' : World) : Prop := ∃ b : Bool, e = .returned (.bool b) ∧ w = w' ∧ (b = false → n ≤ 20)
set_option maxRecDepth 100000 in
set_option maxHeartbeats 2000000 in
theorem large_any (a : Option Addr) (n c : Nat) (L : List Ent) (w : World) (h : Recs 2 EntAt w a n c L) :
    Calls Try.prog 12 #[.slice a n c] w (LPost n w) := by
  have hcap := h.cap; have hmost := h.most; have hlen := h.len
  have H := Lib.hid h; have HLN := Lib.hid hlen
  clear h hlen
  go_enter Try.func12, Try.ntmps12
  go_wp2
  go_loop [3] (fun i => ∃ (k : Nat), k ≤ n ∧ k ≤ 20 ∧ i = .int .i64 k) (fun i => n - (intOf i).toNat)
  case atStart => exact ⟨0, by omega, by omega, rfl⟩
  case round =>
    obtain ⟨k, hk2, hk3, rfl⟩ := hrel
    by_cases hlt : k < n
    · by_cases h20 : k < 20
      · obtain ⟨x, hx⟩ : ∃ x, L[k]? = some x := ⟨L[k]'(by have := HLN.out; omega), List.getElem?_eq_getElem _⟩
        obtain ⟨b, off, rfl, hbl, hcell⟩ := H.out.at'.resolve_left (by omega)
        have e1 := (hcell k x hx).c1
        have hbd := (hcell k x hx).rd.2
        have hxc := hbd.cap; have hxm := hbd.most
        obtain ⟨xk, xa, xn, xc, xl⟩ := x
        dsimp only at e1 hxc hxm
        clear hcell hx hbd
        by_cases hbig : 2000 < xn
        · go_wp2
          go_ret
          exact ⟨true, rfl, rfl, fun h => by cases h⟩
        · go_wp2
          go_round
          case rel => exact ⟨k + 1, by omega, by omega, by go_num⟩
          case measure => simp [intOf]; omega
      · obtain rfl : k = 20 := by omega
        by_cases hbig : 20 < n
        · go_wp2
          go_ret
          exact ⟨true, rfl, rfl, fun h => by cases h⟩
        · omega
    · obtain rfl : k = n := by omega
      by_cases hbig : 20 < k
      · omega
      · go_wp2
        go_ret
        exact ⟨_, rfl, rfl, fun _ => hk3⟩

theorem byt_nil (w : World) : Bytes w none 0 0 [] := ⟨rfl, Nat.le_refl _, by omega, by simp [AllB], fun _ => rfl, .inl rfl⟩
theorem ente_nil (key : List Int) : EntE key [] 0 0 := ⟨fun i h => absurd h (Nat.not_lt_zero i), fun i h => absurd h (Nat.not_lt_zero i), .inl ⟨by simp, rfl⟩⟩
set_option maxRecDepth 100000 in
set_option maxHeartbeats 2000000 in
theorem vnil_any (w : World) (ax : Option Addr) (cx : Nat) (h : Bytes w ax 32 cx zt) : Calls Try.prog 23 #[.slice none 0 0, .slice none 0 0, .int .i64 0, .slice ax 32 cx] w fun e w' => e = .returned (.bool true) ∧ Below w.heap.size w w' := by
  refine (verify_any none 0 0 [] none 0 0 [] 0 ax 32 cx zt w (byt_nil _) (byt_nil _) h (by omega) (by omega)).mono ?_
  rintro e w' ⟨hb, m, E, hE, rfl⟩
  obtain ⟨rfl, rfl⟩ := hE.uniq (ente_nil [])
  refine ⟨?_, hb⟩
  have hv : vf [] [] 0 0 0 zt = true := by unfold vf; rw [decide_eq_true_iff]; exact ⟨rfl, rfl, rfl⟩
  rw [hv]

end Go.Proofs.Ytejhncdempfmjaa.ch
