/-
  Layer 49: is a journal what the model says? It is, where both say the same.
-/
import Derived.Test.YtejhncdempfmjaaJouRef
namespace Go.Proofs.Ytejhncdempfmjaa.jo
open Go.ChangeShapes Go.WideShapes Go.ChangeAt Go.RowKit
open bs en ch
open Go.Proofs.Ytejhncdempfmjaa.sh (tagB ptag_any rtag_any)
open Go.Proofs.Ytejhncdempfmjaa.dv (Dev clampN kept apE APd DPost rv Lies RvPost)
set_option linter.unusedVariables false

/-- The model says what is in a log. -/
structure Mod (w : World) (l : List Int) (cnt : Nat) (al : Option Addr) (cl : Nat) (ta : Option Addr) (tc : Nat) (a : Option Addr) (c : Nat) (L : List Ent) : Prop where
  list : Recs 2 EntAt w al cnt cl L
  told : ∀ (i : Nat) (x : Ent), L[i]? = some x → x.k = (fm l i).k ∧ x.l = (fm l i).b
  tag : Bytes w ta 32 tc (ahd (fm l) cnt)
  byt : Bytes w a l.length c l
theorem Mod.below {w w' : World} {l : List Int} {cnt : Nat} {al : Option Addr} {cl : Nat} {ta : Option Addr} {tc : Nat} {a : Option Addr} {c : Nat} {L : List Ent} (h : Mod w l cnt al cl ta tc a c L) (hb : Below w.heap.size w w') : Mod w' l cnt al cl ta tc a c L :=
  ⟨h.list.below entStays hb, h.told, h.tag.below hb, h.byt.below hb⟩

set_option maxRecDepth 100000 in
set_option maxHeartbeats 4000000 in
theorem like_any {w : World} {base jb dd room s : Nat} {ra : Option Nat} {key l : List Int} {cnt : Nat} (h : Jou w base jb dd room s ra key l cnt) (r2 s2 : Nat) (al : Option Addr) (cl : Nat) (ta : Option Addr) (tc : Nat) (a : Option Addr) (c : Nat) (L : List Ent) (hm : Mod w l cnt al cl ta tc a c L) :
    Calls Try.prog 38 #[.pointer (some ⟨jb, 0, none⟩), jv al cnt cl ta tc r2 s2 a l.length c] w fun e w' => e = .returned (.bool true) ∧ Below w.heap.size w w' := by
  have hfit := h.fit
  have hcap := hm.list.cap; have hmost := hm.list.most; have hcapb := hm.byt.cap; have hmostb := hm.byt.most
  have hW : Below w.heap.size w (w.alloc (.cells #[.slice al cnt cl, .slice ta 32 tc, .int .i64 r2, .int .i64 s2, .slice a l.length c] 56)) := (Below.refl _ _).alloc (Nat.le_refl _) _
  have hX : Blk (w.alloc (.cells #[.slice al cnt cl, .slice ta 32 tc, .int .i64 r2, .int .i64 s2, .slice a l.length c] 56)) w.heap.size #[.slice al cnt cl, .slice ta 32 tc, .int .i64 r2, .int .i64 s2, .slice a l.length c] 56 := Blk.new w _ _
  have hJ := h.below hW
  have hM := hm.below hW
  have HW := Lib.hid hW; have HX := Lib.hid hX; have HJ := Lib.hid hJ; have HM := Lib.hid hM
  clear h hm hW hX hJ hM
  unfold jv
  go_enter Try.func38, Try.ntmps38
  go_wp2_with fail
  generalize w.alloc (.cells #[.slice al cnt cl, .slice ta 32 tc, .int .i64 r2, .int .i64 s2, .slice a l.length c] 56) = W at HW HX HJ HM ⊢
  have hKeep : ∀ V : World, Below W.heap.size W V → V.cell? ⟨w.heap.size, 0, none⟩ = some (.slice al cnt cl) ∧ V.cell? ⟨w.heap.size, 1, none⟩ = some (.slice ta 32 tc) ∧ V.cell? ⟨w.heap.size, 4, none⟩ = some (.slice a l.length c) := fun V hV => ⟨(HX.out.below hV).cell 0, (HX.out.below hV).cell 1, (HX.out.below hV).cell 4⟩
  have Keep := Lib.hid hKeep
  clear hKeep
  go_region_held3 (fun V => V.cell? ⟨w.heap.size, 0, none⟩ = some (.slice al cnt cl) ∧ V.cell? ⟨w.heap.size, 1, none⟩ = some (.slice ta 32 tc) ∧ V.cell? ⟨w.heap.size, 4, none⟩ = some (.slice a l.length c))
    (first | exact Keep.out _ (Below.refl _ _) | exact Keep.out _ (Below.drew (Below.refl _ _)) | exact Keep.out _ hS7 | exact Keep.out _ hS6 | exact Keep.out _ hS5 | exact Keep.out _ hS4 | exact Keep.out _ hS3 | exact Keep.out _ hS2)
    (first
      | (go_at_call 42; refine (count_any (HJ.out.below (Below.drew (Below.refl _ _)))).mono ?_; rintro e w1 ⟨rfl, rfl⟩)
      | (go_at_call 43; refine (jtag_any (HJ.out.below (Below.drew (Below.refl _ _)))).mono ?_; rintro e w2 ⟨a2, c2, rfl, ho2, hb2⟩; have hS2 : Below W.heap.size W w2 := (Below.drew (Below.refl _ _)).trans hb2; have HO2 := Lib.hid ho2.bytes; clear ho2 hb2)
      | (go_at_call 41; refine (log_any (HJ.out.below hS3)).mono ?_; rintro e w4 ⟨a4, c4, rfl, ho4, hb4⟩; have hS4 : Below W.heap.size W w4 := hS3.trans (hb4.mono hS3.size); have HO4 := Lib.hid ho4.bytes; clear ho4 hb4)
      | (go_at_call 48; refine (jentries_any (HJ.out.below hS5)).mono ?_; rintro e w6 ⟨hb6, K, al6, cl6, rfl, hK, hO, hTo⟩; have hS6 : Below W.heap.size W w6 := hS5.trans (hb6.mono hS5.size); have HK := Lib.hid (recs_map (own_ent hK hO)); have HTo := Lib.hid hTo; clear hb6 hK hO hTo)
      | (go_at_call 22; refine (alike_eq al6 cnt cl6 (K.map Fw.e) al cl L _ (Hid.out HK) ((HM.out.below hS6).list) (fun i x y hx hy => by
          rw [List.getElem?_map] at hx
          obtain ⟨u, hu, rfl⟩ := Option.map_eq_some_iff.1 hx
          have h1 := HTo.out i u hu
          have h2 := HM.out.told i y hy
          exact ⟨by rw [h1.k, h2.1], by rw [h1.b, h2.2]⟩)).mono ?_; rintro e w7 ⟨rfl, hb7⟩; have hS7 : Below W.heap.size W w7 := hS6.trans (hb7.mono hS6.size); clear hb7)
      | (go_at_call 16; ((with_reducible refine (rsame_any a4 l.length c4 l a l.length c l _ (Hid.out HO4) ((HM.out.below hS4).byt)).mono ?_); rintro e w5 ⟨rfl, m5, rfl⟩; have hS5 : Below W.heap.size W (w4.drewN m5) := below_drewN hS4 m5; rw [beq_self_eq_true]))
      | (go_at_call 16; ((with_reducible refine (rsame_any a2 32 c2 (ahd (fm l) cnt) ta 32 tc (ahd (fm l) cnt) _ (Hid.out HO2) ((HM.out.below hS2).tag)).mono ?_); rintro e w3 ⟨rfl, m3, rfl⟩; have hS3 : Below W.heap.size W (w2.drewN m3) := below_drewN hS2 m3; rw [beq_self_eq_true])))
  go_wp2
  go_ret
  exact ⟨rfl, HW.out.trans (hS7.mono HW.out.size)⟩

end Go.Proofs.Ytejhncdempfmjaa.jo
