/- As many things of each kind as a record has room for are written, one more is refused. The row speaks of the table of names as the program's text lays it; the card ties that to the text. -/
import Derived.Test.YtbmnagfjpenemaaDoorRows
import Derived.Test.YtbmnagfjpenemaaDoorCards
import Derived.Test.YtbmnagfjpenemaaDoorTie
import Derived.Test.YtbmnagfjpenemaaDoorMade
import Derived.Test.YtbmnagfjpenemaaDoorTurn
import Derived.Deep.RegionHeld3
import Derived.Deep.QuietTactic
import Derived.LoopTactic
import Derived.StillTailTactics
import Derived.BigQuiet
import Derived.Deep.DeepCutAuto
import Derived.Deep.RegionLaw
import Derived.Deep.CutBlock
import Derived.Lib.Hide
import Derived.WalkKit
import Derived.ProofKit
import Derived.OpenShut
import Derived.ChangeOld
import Derived.Below
import Derived.Carry
import Derived.LaidMore
import Derived.SevenTiedAt
namespace Go.Proofs.YtbmnagfjpenemaaDoor.recordMany
open Go.ChangeShapes Go.WideShapes Go.ChangeAt Go.RowKit
set_option linter.unusedVariables false
set_option linter.unusedSimpArgs false
set_option maxRecDepth 100000
/-- What is made ahead of the loop. -/
def MkAt (U : World) (p t d : Nat) (bi bt bd br : Nat) (w : World) : Prop := Below U.heap.size U w ∧ Bx w bi (zI p) 3 ∧ Bx w bt (zT t) 41 ∧ Bx w bd (zD d) 73 ∧ Bx w br #[.int .i64 7, .int .i64 0, .int .i64 0, .int .i64 0, .string ⟨#[]⟩, .bool false, .string ⟨#[]⟩, .string ⟨#[]⟩, .int .i64 0, .int .i64 0, .slice (some ⟨bi, 0, none⟩) p p, .slice none 0 0, .slice (some ⟨bt, 0, none⟩) t t, .slice (some ⟨bd, 0, none⟩) d d] 29 ∧ U.heap.size ≤ br ∧ bi ≠ br ∧ bt ≠ br ∧ bd ≠ br
theorem MkAt.put {U w : World} {p t d bi bt bd br : Nat} {cs : Array Value} (h : Below U.heap.size U w) (h1 : Bx w bi (zI p) 3) (h2 : Bx w bt (zT t) 41) (h3 : Bx w bd (zD d) 73) (h4 : Bx w br cs 29) (h5 : U.heap.size ≤ br) (h6 : bi ≠ br) (h7 : bt ≠ br) (h8 : bd ≠ br) :
    MkAt U p t d bi bt bd br (w.setRow br #[.int .i64 7, .int .i64 0, .int .i64 0, .int .i64 0, .string ⟨#[]⟩, .bool false, .string ⟨#[]⟩, .string ⟨#[]⟩, .int .i64 0, .int .i64 0, .slice (some ⟨bi, 0, none⟩) p p, .slice none 0 0, .slice (some ⟨bt, 0, none⟩) t t, .slice (some ⟨bd, 0, none⟩) d d]) :=
  ⟨below_row h h5, h1.orow h6 _, h2.orow h7 _, h3.orow h8 _, h4.row _, h5, h6, h7, h8⟩
theorem wp_named4 {P : Program} {c : Code} {Q : Exit → Act → World → Prop} {a : Act} {w : World} (Inv : Nat → Nat → Nat → Nat → World → Prop) (F : Nat → Nat → Nat → Nat → Act)
    (h : c.wp P (fun ex a' w' => ex = .normal ∧ ∃ b1 b2 b3 b4, a' = F b1 b2 b3 b4 ∧ Inv b1 b2 b3 b4 w') a w) (hq : ∀ b1 b2 b3 b4 w', Inv b1 b2 b3 b4 w' → Q .normal (F b1 b2 b3 b4) w') : c.wp P Q a w :=
  Code.wp_mono (fun _ _ _ ⟨he, b1, b2, b3, b4, ha, hi⟩ => he ▸ ha ▸ hq b1 b2 b3 b4 _ hi) h
/-- The state of the loop: k patches stand in the record. -/
def MkSt (U : World) (p t d : Nat) (bi bt bd br k : Nat) (A : Option Addr) (c : Nat) (w : World) : Prop := Below U.heap.size U w ∧ Bx w bi (zI p) 3 ∧ Bx w bt (zT t) 41 ∧ Bx w bd (zD d) 73 ∧ Bx w br #[.int .i64 7, .int .i64 0, .int .i64 0, .int .i64 0, .string ⟨#[]⟩, .bool false, .string ⟨#[]⟩, .string ⟨#[]⟩, .int .i64 0, .int .i64 0, .slice (some ⟨bi, 0, none⟩) p p, .slice A k c, .slice (some ⟨bt, 0, none⟩) t t, .slice (some ⟨bd, 0, none⟩) d d] 29 ∧ w.ownsRow U.heap.size 39 3 (.slice A k c) k (pcs (ptsN k))
theorem MkSt.next {U w w3 : World} {p t d bi bt bd br k c g' cap' : Nat} {A : Option Addr} {o : Obj} (h : MkSt U p t d bi bt bd br k A c w) (h6 : bi ≠ br) (h7 : bt ≠ br) (h8 : bd ≠ br) (h5 : U.heap.size ≤ br)
    (hown : w3.ownsRow U.heap.size 39 3 (.slice (some ⟨g', 0, none⟩) (k + 1) cap') (k + 1) (pcs (ptsN k) ++ pcell (ptk k))) (hg : (w.alloc o).grownBy w3 (Value.slice A k c).ownBlock) :
    MkSt U p t d bi bt bd br (k + 1) (some ⟨g', 0, none⟩) cap' (w3.setCell ⟨br, 11, none⟩ (.slice (some ⟨g', 0, none⟩) (k + 1) cap')) := by
  obtain ⟨a1, a2, a3, a4, a5, a6⟩ := h
  have e5 := a5.grown a6 (by decide) hg
  refine ⟨(below_grown a1 a1.size hg (fun g hgg => (a6.lt g hgg).1)).setCell h5 _, (a2.grown a6 (by decide) hg).other h6 _, (a3.grown a6 (by decide) hg).other h7 _, (a4.grown a6 (by decide) hg).other h8 _, e5.set (i := 11) _, ?_⟩
  rw [ptsN_succ, pcs_snoc]
  exact own_aside hown (Aside.refl br w3).set e5 (by decide)
theorem MkSt.rec {U w : World} {p t d bi bt bd br n c : Nat} {A : Option Addr} (h : MkSt U p t d bi bt bd br n A c w) (hp : p ≤ 80) (hn : n ≤ 60) (ht : t ≤ 20) (hd : d ≤ 80) :
    RcM w.heap.size w (manyR p n t d) ⟨⟨some ⟨bi, 0, none⟩, p, p⟩, ⟨A, n, c⟩, ⟨some ⟨bt, 0, none⟩, t, t⟩, ⟨some ⟨bd, 0, none⟩, d, d⟩⟩ := by
  obtain ⟨a1, a2, a3, a4, a5, a6⟩ := h
  have hm : 1000 ≤ maxLen := by unfold maxLen; omega
  have k1 : p ≤ maxLen := by omega
  have k2 : t ≤ maxLen := by omega
  have k3 : d ≤ maxLen := by omega
  have k4 : (ptsN n).length ≤ maxLen := by rw [ptsN_length]; omega
  have k7 : rng 7 := by unfold rng; decide
  have kp : ∀ x ∈ ptsN n, PtW x := by
    intro x hx
    obtain ⟨k, hk, rfl⟩ := List.mem_map.1 hx
    have := List.mem_range.1 hk
    exact ⟨by unfold ptk rng; dsimp only; omega, zero_rng, by show 1 ≤ maxLen; omega⟩
  exact ⟨k7, zero_rng, zero_rng, zero_rng, Nat.zero_le _, ⟨zero_rng, zero_rng, Nat.zero_le _, Nat.zero_le _⟩, made_ints a2 k1, RowP.m (B := U.heap.size) (s := ⟨A, n, c⟩) ⟨(ptsN_length n).symm, a6⟩ k4 kp, made_txs a3 k2, made_dys a4 k3⟩

set_option maxRecDepth 100000 in
set_option maxHeartbeats 100000000 in
theorem walk (a0 a1 a2 a3 : Int) (w : World) (w0 : (Lit.int .i64 a0).wf = true) (w1 : (Lit.int .i64 a1).wf = true) (w2 : (Lit.int .i64 a2).wf = true) (w3 : (Lit.int .i64 a3).wf = true) (hn : NamesAt w) :
    Calls Tryd.prog 8 #[.int .i64 a0, .int .i64 a1, .int .i64 a2, .int .i64 a3] w fun e w' => e = .returned (.bool true) ∧ Below w.heap.size w w' := by
  have HN := Lib.hid hn
  have HB := Lib.hid (Below.refl w.heap.size w)
  have A0 := Lib.hid (fun u (hb : Below w.heap.size w u) => alive_yes u (HN.out.kept hb))
  clear hn w0 w1 w2 w3
  go_enter Tryd.func8, Tryd.ntmps8
  by_cases c0 : a0 < 0
  · go_wp2_with fail
    refine (A0.out _ HB.out).mono ?_; rintro e wz ⟨rfl, hb⟩
    have HBZ := Lib.hid (HB.out.trans (hb.mono HB.out.size))
    clear hb
    go_wp2_with fail
    go_ret
    exact ⟨rfl, HBZ.out⟩
  · by_cases c1 : 80 < a0
    · go_wp2_with fail
      refine (A0.out _ HB.out).mono ?_; rintro e wz ⟨rfl, hb⟩
      have HBZ := Lib.hid (HB.out.trans (hb.mono HB.out.size))
      clear hb
      go_wp2_with fail
      go_ret
      exact ⟨rfl, HBZ.out⟩
    · by_cases c2 : a1 < 0
      · go_wp2_with fail
        refine (A0.out _ HB.out).mono ?_; rintro e wz ⟨rfl, hb⟩
        have HBZ := Lib.hid (HB.out.trans (hb.mono HB.out.size))
        clear hb
        go_wp2_with fail
        go_ret
        exact ⟨rfl, HBZ.out⟩
      · by_cases c3 : 60 < a1
        · go_wp2_with fail
          refine (A0.out _ HB.out).mono ?_; rintro e wz ⟨rfl, hb⟩
          have HBZ := Lib.hid (HB.out.trans (hb.mono HB.out.size))
          clear hb
          go_wp2_with fail
          go_ret
          exact ⟨rfl, HBZ.out⟩
        · by_cases c4 : a2 < 0
          · go_wp2_with fail
            refine (A0.out _ HB.out).mono ?_; rintro e wz ⟨rfl, hb⟩
            have HBZ := Lib.hid (HB.out.trans (hb.mono HB.out.size))
            clear hb
            go_wp2_with fail
            go_ret
            exact ⟨rfl, HBZ.out⟩
          · by_cases c5 : 20 < a2
            · go_wp2_with fail
              refine (A0.out _ HB.out).mono ?_; rintro e wz ⟨rfl, hb⟩
              have HBZ := Lib.hid (HB.out.trans (hb.mono HB.out.size))
              clear hb
              go_wp2_with fail
              go_ret
              exact ⟨rfl, HBZ.out⟩
            · by_cases c6 : a3 < 0
              · go_wp2_with fail
                refine (A0.out _ HB.out).mono ?_; rintro e wz ⟨rfl, hb⟩
                have HBZ := Lib.hid (HB.out.trans (hb.mono HB.out.size))
                clear hb
                go_wp2_with fail
                go_ret
                exact ⟨rfl, HBZ.out⟩
              · by_cases c7 : 80 < a3
                · go_wp2_with fail
                  refine (A0.out _ HB.out).mono ?_; rintro e wz ⟨rfl, hb⟩
                  have HBZ := Lib.hid (HB.out.trans (hb.mono HB.out.size))
                  clear hb
                  go_wp2_with fail
                  go_ret
                  exact ⟨rfl, HBZ.out⟩
                · obtain ⟨p, rfl⟩ := Int.eq_ofNat_of_zero_le (show 0 ≤ a0 by omega)
                  obtain ⟨n, rfl⟩ := Int.eq_ofNat_of_zero_le (show 0 ≤ a1 by omega)
                  obtain ⟨t, rfl⟩ := Int.eq_ofNat_of_zero_le (show 0 ≤ a2 by omega)
                  obtain ⟨d, rfl⟩ := Int.eq_ofNat_of_zero_le (show 0 ≤ a3 by omega)
                  have hp : p ≤ 80 := by omega
                  have hn : n ≤ 60 := by omega
                  have ht : t ≤ 20 := by omega
                  have hd : d ≤ 80 := by omega
                  have MI := Lib.hid (make_i p (by omega))
                  have MT := Lib.hid (make_t t (by omega))
                  have MD := Lib.hid (make_d d (by omega))
                  go_wp2_with fail
                  refine (A0.out _ HB.out).mono ?_; rintro e U ⟨rfl, hb⟩
                  have HB1 := Lib.hid (HB.out.trans (hb.mono HB.out.size))
                  clear hb HB A0 HN
                  go_upto_region 3 with fail
                  apply wp_named4 (fun b1 b2 b3 b4 w' => MkAt U p t d b1 b2 b3 b4 w')
                  · refine wp_region_noPanic ?_
                    refine wp_region_held_drew (S := Held U) (by kernel_rfl) ?_ (fun hHeld => ?_)
                    · exact (Below.refl _ _).drew
                    refine wpAnyH_take (i := 0) (oi := { dst := some 48, op := Op.move (Operand.tmp 0), type := 3, pos := "more2.go:41", after := #[], guard := none }) (v := .int .i64 p) rfl (by kernel_rfl) (by kernel_rfl) (by kernel_rfl) (fun _ _ _ h => h) (Or.inl ⟨by rfl, fun w' hSw => by ((try dsimp only at hSw); go_simp)⟩) (by assumption) ?_
                    (try simp only [Act.put, List.setIfInBounds_toArray, List.set_cons_zero, List.set_cons_succ])
                    refine wpAnyH_take (i := 2) (oi := { dst := some 50, op := Op.move (Operand.tmp 2), type := 3, pos := "more2.go:41", after := #[], guard := none }) (v := .int .i64 t) rfl (by kernel_rfl) (by kernel_rfl) (by kernel_rfl) (fun _ _ _ h => h) (Or.inl ⟨by rfl, fun w' hSw => by ((try dsimp only at hSw); go_simp)⟩) (by assumption) ?_
                    (try simp only [Act.put, List.setIfInBounds_toArray, List.set_cons_zero, List.set_cons_succ])
                    refine wpAnyH_take (i := 4) (oi := { dst := some 52, op := Op.move (Operand.tmp 3), type := 3, pos := "more2.go:41", after := #[], guard := none }) (v := .int .i64 d) rfl (by kernel_rfl) (by kernel_rfl) (by kernel_rfl) (fun _ _ _ h => h) (Or.inl ⟨by rfl, fun w' hSw => by ((try dsimp only at hSw); go_simp)⟩) (by assumption) ?_
                    (try simp only [Act.put, List.setIfInBounds_toArray, List.set_cons_zero, List.set_cons_succ])
                    refine wpAnyH_ready (rs := [1, 3, 5, 7]) (by kernel_rfl) (by simp) ?_
                    refine AllReadyH.cons (o := { dst := some 49, op := Op.makeSlice 24 (Operand.tmp 48) (Operand.tmp 48), type := 24, pos := "more2.go:41", after := #[{ on := 0, ground := Ground.data }, { on := 0, ground := Ground.data }], guard := none }) rfl (fun K hK => ?_) ?_
                    · have mk := MI.out; go_simp
                      refine hK.out _ _ ?_ (fun hHeld => ?_)
                      · exact Held.step (by assumption) ((Below.refl _ _).alloc (Nat.le_refl _) _)
                      clear hK K
                      (try simp only [Act.put, List.setIfInBounds_toArray, List.set_cons_zero, List.set_cons_succ])
                      refine wpAnyH_ready (rs := [3, 5, 7]) (by kernel_rfl) (by simp) ?_
                      refine AllReadyH.cons (o := { dst := some 51, op := Op.makeSlice 26 (Operand.tmp 50) (Operand.tmp 50), type := 26, pos := "more2.go:41", after := #[{ on := 2, ground := Ground.data }, { on := 2, ground := Ground.data }], guard := none }) rfl (fun K hK => ?_) ?_
                      · have mk := MT.out; go_simp
                        refine hK.out _ _ ?_ (fun hHeld => ?_)
                        · exact Held.step (by assumption) ((Below.refl _ _).alloc (Nat.le_refl _) _)
                        clear hK K
                        (try simp only [Act.put, List.setIfInBounds_toArray, List.set_cons_zero, List.set_cons_succ])
                        refine wpAnyH_ready (rs := [5, 7]) (by kernel_rfl) (by simp) ?_
                        refine AllReadyH.cons (o := { dst := some 53, op := Op.makeSlice 27 (Operand.tmp 52) (Operand.tmp 52), type := 27, pos := "more2.go:41", after := #[{ on := 4, ground := Ground.data }, { on := 4, ground := Ground.data }], guard := none }) rfl (fun K hK => ?_) ?_
                        · have mk := MD.out; go_simp
                          refine hK.out _ _ ?_ (fun hHeld => ?_)
                          · exact Held.step (by assumption) ((Below.refl _ _).alloc (Nat.le_refl _) _)
                          clear hK K
                          (try simp only [Act.put, List.setIfInBounds_toArray, List.set_cons_zero, List.set_cons_succ])
                          refine wpAnyH_take (i := 6) (oi := { dst := some 54, op := Op.build 29 #[(0, Operand.const (Value.int IntKind.i64 7)), (7, Operand.tmp 49), (9, Operand.tmp 51), (10, Operand.tmp 53)], type := 29, pos := "more2.go:41", after := #[{ on := 1, ground := Ground.data }, { on := 3, ground := Ground.data }, { on := 5, ground := Ground.data }], guard := none }) (v := .agg #[.int .i64 7, .int .i64 0, .int .i64 0, .int .i64 0, .string ⟨#[]⟩, .bool false, .string ⟨#[]⟩, .string ⟨#[]⟩, .int .i64 0, .int .i64 0, .slice (some ⟨U.heap.size, 0, none⟩) p p, .slice none 0 0, .slice (some ⟨U.heap.size + 1, 0, none⟩) t t, .slice (some ⟨U.heap.size + 2, 0, none⟩) d d]) rfl (by kernel_rfl) (by kernel_rfl) (by kernel_rfl) (fun _ _ _ h => h) (Or.inl ⟨by rfl, fun w' hSw => by ((try dsimp only at hSw); go_simp)⟩) (by assumption) ?_
                          (try simp only [Act.put, List.setIfInBounds_toArray, List.set_cons_zero, List.set_cons_succ])
                          refine wpAnyH_ready (rs := [7]) (by kernel_rfl) (by simp) ?_
                          refine AllReadyH.cons (o := { dst := some 9, op := Op.alloc 29, type := 0, pos := "more2.go:41", after := #[], guard := none }) rfl (fun K hK => ?_) ?_
                          · go_simp
                            refine hK.out _ _ ?_ (fun hHeld => ?_)
                            · exact Held.step (by assumption) ((Below.refl _ _).alloc (Nat.le_refl _) _)
                            clear hK K
                            (try simp only [Act.put, List.setIfInBounds_toArray, List.set_cons_zero, List.set_cons_succ])
                            have h1 : Bx (((((U.alloc (.cells (zI p) 3)).alloc (.cells (zT t) 41)).alloc (.cells (zD d) 73)).alloc (.cells #[.int .i64 0, .int .i64 0, .int .i64 0, .int .i64 0, .string ⟨#[]⟩, .bool false, .string ⟨#[]⟩, .string ⟨#[]⟩, .int .i64 0, .int .i64 0, .slice none 0 0, .slice none 0 0, .slice none 0 0, .slice none 0 0] 29)).drew) (U.heap.size) (zI p) 3 := by
                              exact (((Bx.new U _ _).alloc _ |>.alloc _ |>.alloc _) : Bx ((((U.alloc (.cells (zI p) 3)).alloc (.cells (zT t) 41)).alloc (.cells (zD d) 73)).alloc (.cells #[.int .i64 0, .int .i64 0, .int .i64 0, .int .i64 0, .string ⟨#[]⟩, .bool false, .string ⟨#[]⟩, .string ⟨#[]⟩, .int .i64 0, .int .i64 0, .slice none 0 0, .slice none 0 0, .slice none 0 0, .slice none 0 0] 29)) _ _ _)
                            have h3 : Bx (((((U.alloc (.cells (zI p) 3)).alloc (.cells (zT t) 41)).alloc (.cells (zD d) 73)).alloc (.cells #[.int .i64 0, .int .i64 0, .int .i64 0, .int .i64 0, .string ⟨#[]⟩, .bool false, .string ⟨#[]⟩, .string ⟨#[]⟩, .int .i64 0, .int .i64 0, .slice none 0 0, .slice none 0 0, .slice none 0 0, .slice none 0 0] 29)).drew) (U.heap.size + 1) (zT t) 41 := by
                              rw [show U.heap.size + 1 = (U.alloc (.cells (zI p) 3)).heap.size by simp]
                              exact (((Bx.new (U.alloc (.cells (zI p) 3)) _ _).alloc _ |>.alloc _) : Bx ((((U.alloc (.cells (zI p) 3)).alloc (.cells (zT t) 41)).alloc (.cells (zD d) 73)).alloc (.cells #[.int .i64 0, .int .i64 0, .int .i64 0, .int .i64 0, .string ⟨#[]⟩, .bool false, .string ⟨#[]⟩, .string ⟨#[]⟩, .int .i64 0, .int .i64 0, .slice none 0 0, .slice none 0 0, .slice none 0 0, .slice none 0 0] 29)) _ _ _)
                            have h5 : Bx (((((U.alloc (.cells (zI p) 3)).alloc (.cells (zT t) 41)).alloc (.cells (zD d) 73)).alloc (.cells #[.int .i64 0, .int .i64 0, .int .i64 0, .int .i64 0, .string ⟨#[]⟩, .bool false, .string ⟨#[]⟩, .string ⟨#[]⟩, .int .i64 0, .int .i64 0, .slice none 0 0, .slice none 0 0, .slice none 0 0, .slice none 0 0] 29)).drew) (U.heap.size + 2) (zD d) 73 := by
                              rw [show U.heap.size + 2 = ((U.alloc (.cells (zI p) 3)).alloc (.cells (zT t) 41)).heap.size by simp]
                              exact (((Bx.new ((U.alloc (.cells (zI p) 3)).alloc (.cells (zT t) 41)) _ _).alloc _) : Bx ((((U.alloc (.cells (zI p) 3)).alloc (.cells (zT t) 41)).alloc (.cells (zD d) 73)).alloc (.cells #[.int .i64 0, .int .i64 0, .int .i64 0, .int .i64 0, .string ⟨#[]⟩, .bool false, .string ⟨#[]⟩, .string ⟨#[]⟩, .int .i64 0, .int .i64 0, .slice none 0 0, .slice none 0 0, .slice none 0 0, .slice none 0 0] 29)) _ _ _)
                            have h7 : Bx (((((U.alloc (.cells (zI p) 3)).alloc (.cells (zT t) 41)).alloc (.cells (zD d) 73)).alloc (.cells #[.int .i64 0, .int .i64 0, .int .i64 0, .int .i64 0, .string ⟨#[]⟩, .bool false, .string ⟨#[]⟩, .string ⟨#[]⟩, .int .i64 0, .int .i64 0, .slice none 0 0, .slice none 0 0, .slice none 0 0, .slice none 0 0] 29)).drew) (U.heap.size + 3) #[.int .i64 0, .int .i64 0, .int .i64 0, .int .i64 0, .string ⟨#[]⟩, .bool false, .string ⟨#[]⟩, .string ⟨#[]⟩, .int .i64 0, .int .i64 0, .slice none 0 0, .slice none 0 0, .slice none 0 0, .slice none 0 0] 29 := by
                              rw [show U.heap.size + 3 = (((U.alloc (.cells (zI p) 3)).alloc (.cells (zT t) 41)).alloc (.cells (zD d) 73)).heap.size by simp]
                              exact (((Bx.new (((U.alloc (.cells (zI p) 3)).alloc (.cells (zT t) 41)).alloc (.cells (zD d) 73)) _ _)) : Bx ((((U.alloc (.cells (zI p) 3)).alloc (.cells (zT t) 41)).alloc (.cells (zD d) 73)).alloc (.cells #[.int .i64 0, .int .i64 0, .int .i64 0, .int .i64 0, .string ⟨#[]⟩, .bool false, .string ⟨#[]⟩, .string ⟨#[]⟩, .int .i64 0, .int .i64 0, .slice none 0 0, .slice none 0 0, .slice none 0 0, .slice none 0 0] 29)) _ _ _)
                            have HG := MkAt.put hHeld h1 h3 h5 h7 (by omega) (by omega) (by omega) (by omega)
                            refine wpAnyH_ready (rs := [8]) (by kernel_rfl) (by simp) ?_
                            refine AllReadyH.cons (o := { dst := none, op := Op.store 29 (Operand.tmp 9) (Operand.tmp 54), type := 0, pos := "more2.go:41", after := #[{ on := 7, ground := Ground.data }, { on := 6, ground := Ground.data }, { on := 0, ground := Ground.phase }, { on := 1, ground := Ground.phase }, { on := 2, ground := Ground.phase }, { on := 3, ground := Ground.phase }, { on := 4, ground := Ground.phase }, { on := 5, ground := Ground.phase }, { on := 6, ground := Ground.phase }, { on := 7, ground := Ground.phase }], guard := none }) rfl (fun K hK => ?_) ?_
                            · refine step_store_row rfl 29 (.tmp 9) (.tmp 54) rfl (U.heap.size + 3) #[.int .i64 7, .int .i64 0, .int .i64 0, .int .i64 0, .string ⟨#[]⟩, .bool false, .string ⟨#[]⟩, .string ⟨#[]⟩, .int .i64 0, .int .i64 0, .slice (some ⟨U.heap.size, 0, none⟩) p p, .slice none 0 0, .slice (some ⟨U.heap.size + 1, 0, none⟩) t t, .slice (some ⟨U.heap.size + 2, 0, none⟩) d d] rfl rfl 29 _ h7 (by kernel_rfl) rfl (by simp [Value.oneCell']) ?_
                              refine hK.out _ _ ?_ (fun hHeld => ?_)
                              · exact below_row hHeld (by omega)
                              clear hK K
                              (try simp only [Act.put, List.setIfInBounds_toArray, List.set_cons_zero, List.set_cons_succ])
                              refine wpAnyH_done (by kernel_rfl) ?_ _
                              refine NoPanic.normal ?_
                              refine ⟨rfl, U.heap.size, U.heap.size + 1, U.heap.size + 2, U.heap.size + 3, ?_, HG⟩
                              clear hHeld HG h1 h3 h5 h7
                              generalize U.heap.size + 3 = c3
                              generalize U.heap.size + 2 = c2
                              generalize U.heap.size + 1 = c1
                              generalize U.heap.size = c0
                              exact rfl
                            exact AllReadyH.nil
                          exact AllReadyH.nil
                        refine AllReadyH.cons (o := { dst := some 9, op := Op.alloc 29, type := 0, pos := "more2.go:41", after := #[], guard := none }) rfl (fun K hK => ?_) ?_
                        · go_simp
                          refine hK.out _ _ ?_ (fun hHeld => ?_)
                          · exact Held.step (by assumption) ((Below.refl _ _).alloc (Nat.le_refl _) _)
                          clear hK K
                          (try simp only [Act.put, List.setIfInBounds_toArray, List.set_cons_zero, List.set_cons_succ])
                          refine wpAnyH_ready (rs := [5]) (by kernel_rfl) (by simp) ?_
                          refine AllReadyH.cons (o := { dst := some 53, op := Op.makeSlice 27 (Operand.tmp 52) (Operand.tmp 52), type := 27, pos := "more2.go:41", after := #[{ on := 4, ground := Ground.data }, { on := 4, ground := Ground.data }], guard := none }) rfl (fun K hK => ?_) ?_
                          · have mk := MD.out; go_simp
                            refine hK.out _ _ ?_ (fun hHeld => ?_)
                            · exact Held.step (by assumption) ((Below.refl _ _).alloc (Nat.le_refl _) _)
                            clear hK K
                            (try simp only [Act.put, List.setIfInBounds_toArray, List.set_cons_zero, List.set_cons_succ])
                            refine wpAnyH_take (i := 6) (oi := { dst := some 54, op := Op.build 29 #[(0, Operand.const (Value.int IntKind.i64 7)), (7, Operand.tmp 49), (9, Operand.tmp 51), (10, Operand.tmp 53)], type := 29, pos := "more2.go:41", after := #[{ on := 1, ground := Ground.data }, { on := 3, ground := Ground.data }, { on := 5, ground := Ground.data }], guard := none }) (v := .agg #[.int .i64 7, .int .i64 0, .int .i64 0, .int .i64 0, .string ⟨#[]⟩, .bool false, .string ⟨#[]⟩, .string ⟨#[]⟩, .int .i64 0, .int .i64 0, .slice (some ⟨U.heap.size, 0, none⟩) p p, .slice none 0 0, .slice (some ⟨U.heap.size + 1, 0, none⟩) t t, .slice (some ⟨U.heap.size + 3, 0, none⟩) d d]) rfl (by kernel_rfl) (by kernel_rfl) (by kernel_rfl) (fun _ _ _ h => h) (Or.inl ⟨by rfl, fun w' hSw => by ((try dsimp only at hSw); go_simp)⟩) (by assumption) ?_
                            (try simp only [Act.put, List.setIfInBounds_toArray, List.set_cons_zero, List.set_cons_succ])
                            have h1 : Bx (((((U.alloc (.cells (zI p) 3)).alloc (.cells (zT t) 41)).alloc (.cells #[.int .i64 0, .int .i64 0, .int .i64 0, .int .i64 0, .string ⟨#[]⟩, .bool false, .string ⟨#[]⟩, .string ⟨#[]⟩, .int .i64 0, .int .i64 0, .slice none 0 0, .slice none 0 0, .slice none 0 0, .slice none 0 0] 29)).alloc (.cells (zD d) 73)).drew) (U.heap.size) (zI p) 3 := by
                              exact (((Bx.new U _ _).alloc _ |>.alloc _ |>.alloc _) : Bx ((((U.alloc (.cells (zI p) 3)).alloc (.cells (zT t) 41)).alloc (.cells #[.int .i64 0, .int .i64 0, .int .i64 0, .int .i64 0, .string ⟨#[]⟩, .bool false, .string ⟨#[]⟩, .string ⟨#[]⟩, .int .i64 0, .int .i64 0, .slice none 0 0, .slice none 0 0, .slice none 0 0, .slice none 0 0] 29)).alloc (.cells (zD d) 73)) _ _ _)
                            have h3 : Bx (((((U.alloc (.cells (zI p) 3)).alloc (.cells (zT t) 41)).alloc (.cells #[.int .i64 0, .int .i64 0, .int .i64 0, .int .i64 0, .string ⟨#[]⟩, .bool false, .string ⟨#[]⟩, .string ⟨#[]⟩, .int .i64 0, .int .i64 0, .slice none 0 0, .slice none 0 0, .slice none 0 0, .slice none 0 0] 29)).alloc (.cells (zD d) 73)).drew) (U.heap.size + 1) (zT t) 41 := by
                              rw [show U.heap.size + 1 = (U.alloc (.cells (zI p) 3)).heap.size by simp]
                              exact (((Bx.new (U.alloc (.cells (zI p) 3)) _ _).alloc _ |>.alloc _) : Bx ((((U.alloc (.cells (zI p) 3)).alloc (.cells (zT t) 41)).alloc (.cells #[.int .i64 0, .int .i64 0, .int .i64 0, .int .i64 0, .string ⟨#[]⟩, .bool false, .string ⟨#[]⟩, .string ⟨#[]⟩, .int .i64 0, .int .i64 0, .slice none 0 0, .slice none 0 0, .slice none 0 0, .slice none 0 0] 29)).alloc (.cells (zD d) 73)) _ _ _)
                            have h7 : Bx (((((U.alloc (.cells (zI p) 3)).alloc (.cells (zT t) 41)).alloc (.cells #[.int .i64 0, .int .i64 0, .int .i64 0, .int .i64 0, .string ⟨#[]⟩, .bool false, .string ⟨#[]⟩, .string ⟨#[]⟩, .int .i64 0, .int .i64 0, .slice none 0 0, .slice none 0 0, .slice none 0 0, .slice none 0 0] 29)).alloc (.cells (zD d) 73)).drew) (U.heap.size + 2) #[.int .i64 0, .int .i64 0, .int .i64 0, .int .i64 0, .string ⟨#[]⟩, .bool false, .string ⟨#[]⟩, .string ⟨#[]⟩, .int .i64 0, .int .i64 0, .slice none 0 0, .slice none 0 0, .slice none 0 0, .slice none 0 0] 29 := by
                              rw [show U.heap.size + 2 = ((U.alloc (.cells (zI p) 3)).alloc (.cells (zT t) 41)).heap.size by simp]
                              exact (((Bx.new ((U.alloc (.cells (zI p) 3)).alloc (.cells (zT t) 41)) _ _).alloc _) : Bx ((((U.alloc (.cells (zI p) 3)).alloc (.cells (zT t) 41)).alloc (.cells #[.int .i64 0, .int .i64 0, .int .i64 0, .int .i64 0, .string ⟨#[]⟩, .bool false, .string ⟨#[]⟩, .string ⟨#[]⟩, .int .i64 0, .int .i64 0, .slice none 0 0, .slice none 0 0, .slice none 0 0, .slice none 0 0] 29)).alloc (.cells (zD d) 73)) _ _ _)
                            have h5 : Bx (((((U.alloc (.cells (zI p) 3)).alloc (.cells (zT t) 41)).alloc (.cells #[.int .i64 0, .int .i64 0, .int .i64 0, .int .i64 0, .string ⟨#[]⟩, .bool false, .string ⟨#[]⟩, .string ⟨#[]⟩, .int .i64 0, .int .i64 0, .slice none 0 0, .slice none 0 0, .slice none 0 0, .slice none 0 0] 29)).alloc (.cells (zD d) 73)).drew) (U.heap.size + 3) (zD d) 73 := by
                              rw [show U.heap.size + 3 = (((U.alloc (.cells (zI p) 3)).alloc (.cells (zT t) 41)).alloc (.cells #[.int .i64 0, .int .i64 0, .int .i64 0, .int .i64 0, .string ⟨#[]⟩, .bool false, .string ⟨#[]⟩, .string ⟨#[]⟩, .int .i64 0, .int .i64 0, .slice none 0 0, .slice none 0 0, .slice none 0 0, .slice none 0 0] 29)).heap.size by simp]
                              exact (((Bx.new (((U.alloc (.cells (zI p) 3)).alloc (.cells (zT t) 41)).alloc (.cells #[.int .i64 0, .int .i64 0, .int .i64 0, .int .i64 0, .string ⟨#[]⟩, .bool false, .string ⟨#[]⟩, .string ⟨#[]⟩, .int .i64 0, .int .i64 0, .slice none 0 0, .slice none 0 0, .slice none 0 0, .slice none 0 0] 29)) _ _)) : Bx ((((U.alloc (.cells (zI p) 3)).alloc (.cells (zT t) 41)).alloc (.cells #[.int .i64 0, .int .i64 0, .int .i64 0, .int .i64 0, .string ⟨#[]⟩, .bool false, .string ⟨#[]⟩, .string ⟨#[]⟩, .int .i64 0, .int .i64 0, .slice none 0 0, .slice none 0 0, .slice none 0 0, .slice none 0 0] 29)).alloc (.cells (zD d) 73)) _ _ _)
                            have HG := MkAt.put hHeld h1 h3 h5 h7 (by omega) (by omega) (by omega) (by omega)
                            refine wpAnyH_ready (rs := [8]) (by kernel_rfl) (by simp) ?_
                            refine AllReadyH.cons (o := { dst := none, op := Op.store 29 (Operand.tmp 9) (Operand.tmp 54), type := 0, pos := "more2.go:41", after := #[{ on := 7, ground := Ground.data }, { on := 6, ground := Ground.data }, { on := 0, ground := Ground.phase }, { on := 1, ground := Ground.phase }, { on := 2, ground := Ground.phase }, { on := 3, ground := Ground.phase }, { on := 4, ground := Ground.phase }, { on := 5, ground := Ground.phase }, { on := 6, ground := Ground.phase }, { on := 7, ground := Ground.phase }], guard := none }) rfl (fun K hK => ?_) ?_
                            · refine step_store_row rfl 29 (.tmp 9) (.tmp 54) rfl (U.heap.size + 2) #[.int .i64 7, .int .i64 0, .int .i64 0, .int .i64 0, .string ⟨#[]⟩, .bool false, .string ⟨#[]⟩, .string ⟨#[]⟩, .int .i64 0, .int .i64 0, .slice (some ⟨U.heap.size, 0, none⟩) p p, .slice none 0 0, .slice (some ⟨U.heap.size + 1, 0, none⟩) t t, .slice (some ⟨U.heap.size + 3, 0, none⟩) d d] rfl rfl 29 _ h7 (by kernel_rfl) rfl (by simp [Value.oneCell']) ?_
                              refine hK.out _ _ ?_ (fun hHeld => ?_)
                              · exact below_row hHeld (by omega)
                              clear hK K
                              (try simp only [Act.put, List.setIfInBounds_toArray, List.set_cons_zero, List.set_cons_succ])
                              refine wpAnyH_done (by kernel_rfl) ?_ _
                              refine NoPanic.normal ?_
                              refine ⟨rfl, U.heap.size, U.heap.size + 1, U.heap.size + 3, U.heap.size + 2, ?_, HG⟩
                              clear hHeld HG h1 h3 h5 h7
                              generalize U.heap.size + 3 = c3
                              generalize U.heap.size + 2 = c2
                              generalize U.heap.size + 1 = c1
                              generalize U.heap.size = c0
                              exact rfl
                            exact AllReadyH.nil
                          exact AllReadyH.nil
                        exact AllReadyH.nil
                      refine AllReadyH.cons (o := { dst := some 53, op := Op.makeSlice 27 (Operand.tmp 52) (Operand.tmp 52), type := 27, pos := "more2.go:41", after := #[{ on := 4, ground := Ground.data }, { on := 4, ground := Ground.data }], guard := none }) rfl (fun K hK => ?_) ?_
                      · have mk := MD.out; go_simp
                        refine hK.out _ _ ?_ (fun hHeld => ?_)
                        · exact Held.step (by assumption) ((Below.refl _ _).alloc (Nat.le_refl _) _)
                        clear hK K
                        (try simp only [Act.put, List.setIfInBounds_toArray, List.set_cons_zero, List.set_cons_succ])
                        refine wpAnyH_ready (rs := [3, 7]) (by kernel_rfl) (by simp) ?_
                        refine AllReadyH.cons (o := { dst := some 51, op := Op.makeSlice 26 (Operand.tmp 50) (Operand.tmp 50), type := 26, pos := "more2.go:41", after := #[{ on := 2, ground := Ground.data }, { on := 2, ground := Ground.data }], guard := none }) rfl (fun K hK => ?_) ?_
                        · have mk := MT.out; go_simp
                          refine hK.out _ _ ?_ (fun hHeld => ?_)
                          · exact Held.step (by assumption) ((Below.refl _ _).alloc (Nat.le_refl _) _)
                          clear hK K
                          (try simp only [Act.put, List.setIfInBounds_toArray, List.set_cons_zero, List.set_cons_succ])
                          refine wpAnyH_take (i := 6) (oi := { dst := some 54, op := Op.build 29 #[(0, Operand.const (Value.int IntKind.i64 7)), (7, Operand.tmp 49), (9, Operand.tmp 51), (10, Operand.tmp 53)], type := 29, pos := "more2.go:41", after := #[{ on := 1, ground := Ground.data }, { on := 3, ground := Ground.data }, { on := 5, ground := Ground.data }], guard := none }) (v := .agg #[.int .i64 7, .int .i64 0, .int .i64 0, .int .i64 0, .string ⟨#[]⟩, .bool false, .string ⟨#[]⟩, .string ⟨#[]⟩, .int .i64 0, .int .i64 0, .slice (some ⟨U.heap.size, 0, none⟩) p p, .slice none 0 0, .slice (some ⟨U.heap.size + 2, 0, none⟩) t t, .slice (some ⟨U.heap.size + 1, 0, none⟩) d d]) rfl (by kernel_rfl) (by kernel_rfl) (by kernel_rfl) (fun _ _ _ h => h) (Or.inl ⟨by rfl, fun w' hSw => by ((try dsimp only at hSw); go_simp)⟩) (by assumption) ?_
                          (try simp only [Act.put, List.setIfInBounds_toArray, List.set_cons_zero, List.set_cons_succ])
                          refine wpAnyH_ready (rs := [7]) (by kernel_rfl) (by simp) ?_
                          refine AllReadyH.cons (o := { dst := some 9, op := Op.alloc 29, type := 0, pos := "more2.go:41", after := #[], guard := none }) rfl (fun K hK => ?_) ?_
                          · go_simp
                            refine hK.out _ _ ?_ (fun hHeld => ?_)
                            · exact Held.step (by assumption) ((Below.refl _ _).alloc (Nat.le_refl _) _)
                            clear hK K
                            (try simp only [Act.put, List.setIfInBounds_toArray, List.set_cons_zero, List.set_cons_succ])
                            have h1 : Bx (((((U.alloc (.cells (zI p) 3)).alloc (.cells (zD d) 73)).alloc (.cells (zT t) 41)).alloc (.cells #[.int .i64 0, .int .i64 0, .int .i64 0, .int .i64 0, .string ⟨#[]⟩, .bool false, .string ⟨#[]⟩, .string ⟨#[]⟩, .int .i64 0, .int .i64 0, .slice none 0 0, .slice none 0 0, .slice none 0 0, .slice none 0 0] 29)).drew) (U.heap.size) (zI p) 3 := by
                              exact (((Bx.new U _ _).alloc _ |>.alloc _ |>.alloc _) : Bx ((((U.alloc (.cells (zI p) 3)).alloc (.cells (zD d) 73)).alloc (.cells (zT t) 41)).alloc (.cells #[.int .i64 0, .int .i64 0, .int .i64 0, .int .i64 0, .string ⟨#[]⟩, .bool false, .string ⟨#[]⟩, .string ⟨#[]⟩, .int .i64 0, .int .i64 0, .slice none 0 0, .slice none 0 0, .slice none 0 0, .slice none 0 0] 29)) _ _ _)
                            have h5 : Bx (((((U.alloc (.cells (zI p) 3)).alloc (.cells (zD d) 73)).alloc (.cells (zT t) 41)).alloc (.cells #[.int .i64 0, .int .i64 0, .int .i64 0, .int .i64 0, .string ⟨#[]⟩, .bool false, .string ⟨#[]⟩, .string ⟨#[]⟩, .int .i64 0, .int .i64 0, .slice none 0 0, .slice none 0 0, .slice none 0 0, .slice none 0 0] 29)).drew) (U.heap.size + 1) (zD d) 73 := by
                              rw [show U.heap.size + 1 = (U.alloc (.cells (zI p) 3)).heap.size by simp]
                              exact (((Bx.new (U.alloc (.cells (zI p) 3)) _ _).alloc _ |>.alloc _) : Bx ((((U.alloc (.cells (zI p) 3)).alloc (.cells (zD d) 73)).alloc (.cells (zT t) 41)).alloc (.cells #[.int .i64 0, .int .i64 0, .int .i64 0, .int .i64 0, .string ⟨#[]⟩, .bool false, .string ⟨#[]⟩, .string ⟨#[]⟩, .int .i64 0, .int .i64 0, .slice none 0 0, .slice none 0 0, .slice none 0 0, .slice none 0 0] 29)) _ _ _)
                            have h3 : Bx (((((U.alloc (.cells (zI p) 3)).alloc (.cells (zD d) 73)).alloc (.cells (zT t) 41)).alloc (.cells #[.int .i64 0, .int .i64 0, .int .i64 0, .int .i64 0, .string ⟨#[]⟩, .bool false, .string ⟨#[]⟩, .string ⟨#[]⟩, .int .i64 0, .int .i64 0, .slice none 0 0, .slice none 0 0, .slice none 0 0, .slice none 0 0] 29)).drew) (U.heap.size + 2) (zT t) 41 := by
                              rw [show U.heap.size + 2 = ((U.alloc (.cells (zI p) 3)).alloc (.cells (zD d) 73)).heap.size by simp]
                              exact (((Bx.new ((U.alloc (.cells (zI p) 3)).alloc (.cells (zD d) 73)) _ _).alloc _) : Bx ((((U.alloc (.cells (zI p) 3)).alloc (.cells (zD d) 73)).alloc (.cells (zT t) 41)).alloc (.cells #[.int .i64 0, .int .i64 0, .int .i64 0, .int .i64 0, .string ⟨#[]⟩, .bool false, .string ⟨#[]⟩, .string ⟨#[]⟩, .int .i64 0, .int .i64 0, .slice none 0 0, .slice none 0 0, .slice none 0 0, .slice none 0 0] 29)) _ _ _)
                            have h7 : Bx (((((U.alloc (.cells (zI p) 3)).alloc (.cells (zD d) 73)).alloc (.cells (zT t) 41)).alloc (.cells #[.int .i64 0, .int .i64 0, .int .i64 0, .int .i64 0, .string ⟨#[]⟩, .bool false, .string ⟨#[]⟩, .string ⟨#[]⟩, .int .i64 0, .int .i64 0, .slice none 0 0, .slice none 0 0, .slice none 0 0, .slice none 0 0] 29)).drew) (U.heap.size + 3) #[.int .i64 0, .int .i64 0, .int .i64 0, .int .i64 0, .string ⟨#[]⟩, .bool false, .string ⟨#[]⟩, .string ⟨#[]⟩, .int .i64 0, .int .i64 0, .slice none 0 0, .slice none 0 0, .slice none 0 0, .slice none 0 0] 29 := by
                              rw [show U.heap.size + 3 = (((U.alloc (.cells (zI p) 3)).alloc (.cells (zD d) 73)).alloc (.cells (zT t) 41)).heap.size by simp]
                              exact (((Bx.new (((U.alloc (.cells (zI p) 3)).alloc (.cells (zD d) 73)).alloc (.cells (zT t) 41)) _ _)) : Bx ((((U.alloc (.cells (zI p) 3)).alloc (.cells (zD d) 73)).alloc (.cells (zT t) 41)).alloc (.cells #[.int .i64 0, .int .i64 0, .int .i64 0, .int .i64 0, .string ⟨#[]⟩, .bool false, .string ⟨#[]⟩, .string ⟨#[]⟩, .int .i64 0, .int .i64 0, .slice none 0 0, .slice none 0 0, .slice none 0 0, .slice none 0 0] 29)) _ _ _)
                            have HG := MkAt.put hHeld h1 h3 h5 h7 (by omega) (by omega) (by omega) (by omega)
                            refine wpAnyH_ready (rs := [8]) (by kernel_rfl) (by simp) ?_
                            refine AllReadyH.cons (o := { dst := none, op := Op.store 29 (Operand.tmp 9) (Operand.tmp 54), type := 0, pos := "more2.go:41", after := #[{ on := 7, ground := Ground.data }, { on := 6, ground := Ground.data }, { on := 0, ground := Ground.phase }, { on := 1, ground := Ground.phase }, { on := 2, ground := Ground.phase }, { on := 3, ground := Ground.phase }, { on := 4, ground := Ground.phase }, { on := 5, ground := Ground.phase }, { on := 6, ground := Ground.phase }, { on := 7, ground := Ground.phase }], guard := none }) rfl (fun K hK => ?_) ?_
                            · refine step_store_row rfl 29 (.tmp 9) (.tmp 54) rfl (U.heap.size + 3) #[.int .i64 7, .int .i64 0, .int .i64 0, .int .i64 0, .string ⟨#[]⟩, .bool false, .string ⟨#[]⟩, .string ⟨#[]⟩, .int .i64 0, .int .i64 0, .slice (some ⟨U.heap.size, 0, none⟩) p p, .slice none 0 0, .slice (some ⟨U.heap.size + 2, 0, none⟩) t t, .slice (some ⟨U.heap.size + 1, 0, none⟩) d d] rfl rfl 29 _ h7 (by kernel_rfl) rfl (by simp [Value.oneCell']) ?_
                              refine hK.out _ _ ?_ (fun hHeld => ?_)
                              · exact below_row hHeld (by omega)
                              clear hK K
                              (try simp only [Act.put, List.setIfInBounds_toArray, List.set_cons_zero, List.set_cons_succ])
                              refine wpAnyH_done (by kernel_rfl) ?_ _
                              refine NoPanic.normal ?_
                              refine ⟨rfl, U.heap.size, U.heap.size + 2, U.heap.size + 1, U.heap.size + 3, ?_, HG⟩
                              clear hHeld HG h1 h3 h5 h7
                              generalize U.heap.size + 3 = c3
                              generalize U.heap.size + 2 = c2
                              generalize U.heap.size + 1 = c1
                              generalize U.heap.size = c0
                              exact rfl
                            exact AllReadyH.nil
                          exact AllReadyH.nil
                        refine AllReadyH.cons (o := { dst := some 9, op := Op.alloc 29, type := 0, pos := "more2.go:41", after := #[], guard := none }) rfl (fun K hK => ?_) ?_
                        · go_simp
                          refine hK.out _ _ ?_ (fun hHeld => ?_)
                          · exact Held.step (by assumption) ((Below.refl _ _).alloc (Nat.le_refl _) _)
                          clear hK K
                          (try simp only [Act.put, List.setIfInBounds_toArray, List.set_cons_zero, List.set_cons_succ])
                          refine wpAnyH_ready (rs := [3]) (by kernel_rfl) (by simp) ?_
                          refine AllReadyH.cons (o := { dst := some 51, op := Op.makeSlice 26 (Operand.tmp 50) (Operand.tmp 50), type := 26, pos := "more2.go:41", after := #[{ on := 2, ground := Ground.data }, { on := 2, ground := Ground.data }], guard := none }) rfl (fun K hK => ?_) ?_
                          · have mk := MT.out; go_simp
                            refine hK.out _ _ ?_ (fun hHeld => ?_)
                            · exact Held.step (by assumption) ((Below.refl _ _).alloc (Nat.le_refl _) _)
                            clear hK K
                            (try simp only [Act.put, List.setIfInBounds_toArray, List.set_cons_zero, List.set_cons_succ])
                            refine wpAnyH_take (i := 6) (oi := { dst := some 54, op := Op.build 29 #[(0, Operand.const (Value.int IntKind.i64 7)), (7, Operand.tmp 49), (9, Operand.tmp 51), (10, Operand.tmp 53)], type := 29, pos := "more2.go:41", after := #[{ on := 1, ground := Ground.data }, { on := 3, ground := Ground.data }, { on := 5, ground := Ground.data }], guard := none }) (v := .agg #[.int .i64 7, .int .i64 0, .int .i64 0, .int .i64 0, .string ⟨#[]⟩, .bool false, .string ⟨#[]⟩, .string ⟨#[]⟩, .int .i64 0, .int .i64 0, .slice (some ⟨U.heap.size, 0, none⟩) p p, .slice none 0 0, .slice (some ⟨U.heap.size + 3, 0, none⟩) t t, .slice (some ⟨U.heap.size + 1, 0, none⟩) d d]) rfl (by kernel_rfl) (by kernel_rfl) (by kernel_rfl) (fun _ _ _ h => h) (Or.inl ⟨by rfl, fun w' hSw => by ((try dsimp only at hSw); go_simp)⟩) (by assumption) ?_
                            (try simp only [Act.put, List.setIfInBounds_toArray, List.set_cons_zero, List.set_cons_succ])
                            have h1 : Bx (((((U.alloc (.cells (zI p) 3)).alloc (.cells (zD d) 73)).alloc (.cells #[.int .i64 0, .int .i64 0, .int .i64 0, .int .i64 0, .string ⟨#[]⟩, .bool false, .string ⟨#[]⟩, .string ⟨#[]⟩, .int .i64 0, .int .i64 0, .slice none 0 0, .slice none 0 0, .slice none 0 0, .slice none 0 0] 29)).alloc (.cells (zT t) 41)).drew) (U.heap.size) (zI p) 3 := by
                              exact (((Bx.new U _ _).alloc _ |>.alloc _ |>.alloc _) : Bx ((((U.alloc (.cells (zI p) 3)).alloc (.cells (zD d) 73)).alloc (.cells #[.int .i64 0, .int .i64 0, .int .i64 0, .int .i64 0, .string ⟨#[]⟩, .bool false, .string ⟨#[]⟩, .string ⟨#[]⟩, .int .i64 0, .int .i64 0, .slice none 0 0, .slice none 0 0, .slice none 0 0, .slice none 0 0] 29)).alloc (.cells (zT t) 41)) _ _ _)
                            have h5 : Bx (((((U.alloc (.cells (zI p) 3)).alloc (.cells (zD d) 73)).alloc (.cells #[.int .i64 0, .int .i64 0, .int .i64 0, .int .i64 0, .string ⟨#[]⟩, .bool false, .string ⟨#[]⟩, .string ⟨#[]⟩, .int .i64 0, .int .i64 0, .slice none 0 0, .slice none 0 0, .slice none 0 0, .slice none 0 0] 29)).alloc (.cells (zT t) 41)).drew) (U.heap.size + 1) (zD d) 73 := by
                              rw [show U.heap.size + 1 = (U.alloc (.cells (zI p) 3)).heap.size by simp]
                              exact (((Bx.new (U.alloc (.cells (zI p) 3)) _ _).alloc _ |>.alloc _) : Bx ((((U.alloc (.cells (zI p) 3)).alloc (.cells (zD d) 73)).alloc (.cells #[.int .i64 0, .int .i64 0, .int .i64 0, .int .i64 0, .string ⟨#[]⟩, .bool false, .string ⟨#[]⟩, .string ⟨#[]⟩, .int .i64 0, .int .i64 0, .slice none 0 0, .slice none 0 0, .slice none 0 0, .slice none 0 0] 29)).alloc (.cells (zT t) 41)) _ _ _)
                            have h7 : Bx (((((U.alloc (.cells (zI p) 3)).alloc (.cells (zD d) 73)).alloc (.cells #[.int .i64 0, .int .i64 0, .int .i64 0, .int .i64 0, .string ⟨#[]⟩, .bool false, .string ⟨#[]⟩, .string ⟨#[]⟩, .int .i64 0, .int .i64 0, .slice none 0 0, .slice none 0 0, .slice none 0 0, .slice none 0 0] 29)).alloc (.cells (zT t) 41)).drew) (U.heap.size + 2) #[.int .i64 0, .int .i64 0, .int .i64 0, .int .i64 0, .string ⟨#[]⟩, .bool false, .string ⟨#[]⟩, .string ⟨#[]⟩, .int .i64 0, .int .i64 0, .slice none 0 0, .slice none 0 0, .slice none 0 0, .slice none 0 0] 29 := by
                              rw [show U.heap.size + 2 = ((U.alloc (.cells (zI p) 3)).alloc (.cells (zD d) 73)).heap.size by simp]
                              exact (((Bx.new ((U.alloc (.cells (zI p) 3)).alloc (.cells (zD d) 73)) _ _).alloc _) : Bx ((((U.alloc (.cells (zI p) 3)).alloc (.cells (zD d) 73)).alloc (.cells #[.int .i64 0, .int .i64 0, .int .i64 0, .int .i64 0, .string ⟨#[]⟩, .bool false, .string ⟨#[]⟩, .string ⟨#[]⟩, .int .i64 0, .int .i64 0, .slice none 0 0, .slice none 0 0, .slice none 0 0, .slice none 0 0] 29)).alloc (.cells (zT t) 41)) _ _ _)
                            have h3 : Bx (((((U.alloc (.cells (zI p) 3)).alloc (.cells (zD d) 73)).alloc (.cells #[.int .i64 0, .int .i64 0, .int .i64 0, .int .i64 0, .string ⟨#[]⟩, .bool false, .string ⟨#[]⟩, .string ⟨#[]⟩, .int .i64 0, .int .i64 0, .slice none 0 0, .slice none 0 0, .slice none 0 0, .slice none 0 0] 29)).alloc (.cells (zT t) 41)).drew) (U.heap.size + 3) (zT t) 41 := by
                              rw [show U.heap.size + 3 = (((U.alloc (.cells (zI p) 3)).alloc (.cells (zD d) 73)).alloc (.cells #[.int .i64 0, .int .i64 0, .int .i64 0, .int .i64 0, .string ⟨#[]⟩, .bool false, .string ⟨#[]⟩, .string ⟨#[]⟩, .int .i64 0, .int .i64 0, .slice none 0 0, .slice none 0 0, .slice none 0 0, .slice none 0 0] 29)).heap.size by simp]
                              exact (((Bx.new (((U.alloc (.cells (zI p) 3)).alloc (.cells (zD d) 73)).alloc (.cells #[.int .i64 0, .int .i64 0, .int .i64 0, .int .i64 0, .string ⟨#[]⟩, .bool false, .string ⟨#[]⟩, .string ⟨#[]⟩, .int .i64 0, .int .i64 0, .slice none 0 0, .slice none 0 0, .slice none 0 0, .slice none 0 0] 29)) _ _)) : Bx ((((U.alloc (.cells (zI p) 3)).alloc (.cells (zD d) 73)).alloc (.cells #[.int .i64 0, .int .i64 0, .int .i64 0, .int .i64 0, .string ⟨#[]⟩, .bool false, .string ⟨#[]⟩, .string ⟨#[]⟩, .int .i64 0, .int .i64 0, .slice none 0 0, .slice none 0 0, .slice none 0 0, .slice none 0 0] 29)).alloc (.cells (zT t) 41)) _ _ _)
                            have HG := MkAt.put hHeld h1 h3 h5 h7 (by omega) (by omega) (by omega) (by omega)
                            refine wpAnyH_ready (rs := [8]) (by kernel_rfl) (by simp) ?_
                            refine AllReadyH.cons (o := { dst := none, op := Op.store 29 (Operand.tmp 9) (Operand.tmp 54), type := 0, pos := "more2.go:41", after := #[{ on := 7, ground := Ground.data }, { on := 6, ground := Ground.data }, { on := 0, ground := Ground.phase }, { on := 1, ground := Ground.phase }, { on := 2, ground := Ground.phase }, { on := 3, ground := Ground.phase }, { on := 4, ground := Ground.phase }, { on := 5, ground := Ground.phase }, { on := 6, ground := Ground.phase }, { on := 7, ground := Ground.phase }], guard := none }) rfl (fun K hK => ?_) ?_
                            · refine step_store_row rfl 29 (.tmp 9) (.tmp 54) rfl (U.heap.size + 2) #[.int .i64 7, .int .i64 0, .int .i64 0, .int .i64 0, .string ⟨#[]⟩, .bool false, .string ⟨#[]⟩, .string ⟨#[]⟩, .int .i64 0, .int .i64 0, .slice (some ⟨U.heap.size, 0, none⟩) p p, .slice none 0 0, .slice (some ⟨U.heap.size + 3, 0, none⟩) t t, .slice (some ⟨U.heap.size + 1, 0, none⟩) d d] rfl rfl 29 _ h7 (by kernel_rfl) rfl (by simp [Value.oneCell']) ?_
                              refine hK.out _ _ ?_ (fun hHeld => ?_)
                              · exact below_row hHeld (by omega)
                              clear hK K
                              (try simp only [Act.put, List.setIfInBounds_toArray, List.set_cons_zero, List.set_cons_succ])
                              refine wpAnyH_done (by kernel_rfl) ?_ _
                              refine NoPanic.normal ?_
                              refine ⟨rfl, U.heap.size, U.heap.size + 3, U.heap.size + 1, U.heap.size + 2, ?_, HG⟩
                              clear hHeld HG h1 h3 h5 h7
                              generalize U.heap.size + 3 = c3
                              generalize U.heap.size + 2 = c2
                              generalize U.heap.size + 1 = c1
                              generalize U.heap.size = c0
                              exact rfl
                            exact AllReadyH.nil
                          exact AllReadyH.nil
                        exact AllReadyH.nil
                      refine AllReadyH.cons (o := { dst := some 9, op := Op.alloc 29, type := 0, pos := "more2.go:41", after := #[], guard := none }) rfl (fun K hK => ?_) ?_
                      · go_simp
                        refine hK.out _ _ ?_ (fun hHeld => ?_)
                        · exact Held.step (by assumption) ((Below.refl _ _).alloc (Nat.le_refl _) _)
                        clear hK K
                        (try simp only [Act.put, List.setIfInBounds_toArray, List.set_cons_zero, List.set_cons_succ])
                        refine wpAnyH_ready (rs := [3, 5]) (by kernel_rfl) (by simp) ?_
                        refine AllReadyH.cons (o := { dst := some 51, op := Op.makeSlice 26 (Operand.tmp 50) (Operand.tmp 50), type := 26, pos := "more2.go:41", after := #[{ on := 2, ground := Ground.data }, { on := 2, ground := Ground.data }], guard := none }) rfl (fun K hK => ?_) ?_
                        · have mk := MT.out; go_simp
                          refine hK.out _ _ ?_ (fun hHeld => ?_)
                          · exact Held.step (by assumption) ((Below.refl _ _).alloc (Nat.le_refl _) _)
                          clear hK K
                          (try simp only [Act.put, List.setIfInBounds_toArray, List.set_cons_zero, List.set_cons_succ])
                          refine wpAnyH_ready (rs := [5]) (by kernel_rfl) (by simp) ?_
                          refine AllReadyH.cons (o := { dst := some 53, op := Op.makeSlice 27 (Operand.tmp 52) (Operand.tmp 52), type := 27, pos := "more2.go:41", after := #[{ on := 4, ground := Ground.data }, { on := 4, ground := Ground.data }], guard := none }) rfl (fun K hK => ?_) ?_
                          · have mk := MD.out; go_simp
                            refine hK.out _ _ ?_ (fun hHeld => ?_)
                            · exact Held.step (by assumption) ((Below.refl _ _).alloc (Nat.le_refl _) _)
                            clear hK K
                            (try simp only [Act.put, List.setIfInBounds_toArray, List.set_cons_zero, List.set_cons_succ])
                            refine wpAnyH_take (i := 6) (oi := { dst := some 54, op := Op.build 29 #[(0, Operand.const (Value.int IntKind.i64 7)), (7, Operand.tmp 49), (9, Operand.tmp 51), (10, Operand.tmp 53)], type := 29, pos := "more2.go:41", after := #[{ on := 1, ground := Ground.data }, { on := 3, ground := Ground.data }, { on := 5, ground := Ground.data }], guard := none }) (v := .agg #[.int .i64 7, .int .i64 0, .int .i64 0, .int .i64 0, .string ⟨#[]⟩, .bool false, .string ⟨#[]⟩, .string ⟨#[]⟩, .int .i64 0, .int .i64 0, .slice (some ⟨U.heap.size, 0, none⟩) p p, .slice none 0 0, .slice (some ⟨U.heap.size + 2, 0, none⟩) t t, .slice (some ⟨U.heap.size + 3, 0, none⟩) d d]) rfl (by kernel_rfl) (by kernel_rfl) (by kernel_rfl) (fun _ _ _ h => h) (Or.inl ⟨by rfl, fun w' hSw => by ((try dsimp only at hSw); go_simp)⟩) (by assumption) ?_
                            (try simp only [Act.put, List.setIfInBounds_toArray, List.set_cons_zero, List.set_cons_succ])
                            have h1 : Bx (((((U.alloc (.cells (zI p) 3)).alloc (.cells #[.int .i64 0, .int .i64 0, .int .i64 0, .int .i64 0, .string ⟨#[]⟩, .bool false, .string ⟨#[]⟩, .string ⟨#[]⟩, .int .i64 0, .int .i64 0, .slice none 0 0, .slice none 0 0, .slice none 0 0, .slice none 0 0] 29)).alloc (.cells (zT t) 41)).alloc (.cells (zD d) 73)).drew) (U.heap.size) (zI p) 3 := by
                              exact (((Bx.new U _ _).alloc _ |>.alloc _ |>.alloc _) : Bx ((((U.alloc (.cells (zI p) 3)).alloc (.cells #[.int .i64 0, .int .i64 0, .int .i64 0, .int .i64 0, .string ⟨#[]⟩, .bool false, .string ⟨#[]⟩, .string ⟨#[]⟩, .int .i64 0, .int .i64 0, .slice none 0 0, .slice none 0 0, .slice none 0 0, .slice none 0 0] 29)).alloc (.cells (zT t) 41)).alloc (.cells (zD d) 73)) _ _ _)
                            have h7 : Bx (((((U.alloc (.cells (zI p) 3)).alloc (.cells #[.int .i64 0, .int .i64 0, .int .i64 0, .int .i64 0, .string ⟨#[]⟩, .bool false, .string ⟨#[]⟩, .string ⟨#[]⟩, .int .i64 0, .int .i64 0, .slice none 0 0, .slice none 0 0, .slice none 0 0, .slice none 0 0] 29)).alloc (.cells (zT t) 41)).alloc (.cells (zD d) 73)).drew) (U.heap.size + 1) #[.int .i64 0, .int .i64 0, .int .i64 0, .int .i64 0, .string ⟨#[]⟩, .bool false, .string ⟨#[]⟩, .string ⟨#[]⟩, .int .i64 0, .int .i64 0, .slice none 0 0, .slice none 0 0, .slice none 0 0, .slice none 0 0] 29 := by
                              rw [show U.heap.size + 1 = (U.alloc (.cells (zI p) 3)).heap.size by simp]
                              exact (((Bx.new (U.alloc (.cells (zI p) 3)) _ _).alloc _ |>.alloc _) : Bx ((((U.alloc (.cells (zI p) 3)).alloc (.cells #[.int .i64 0, .int .i64 0, .int .i64 0, .int .i64 0, .string ⟨#[]⟩, .bool false, .string ⟨#[]⟩, .string ⟨#[]⟩, .int .i64 0, .int .i64 0, .slice none 0 0, .slice none 0 0, .slice none 0 0, .slice none 0 0] 29)).alloc (.cells (zT t) 41)).alloc (.cells (zD d) 73)) _ _ _)
                            have h3 : Bx (((((U.alloc (.cells (zI p) 3)).alloc (.cells #[.int .i64 0, .int .i64 0, .int .i64 0, .int .i64 0, .string ⟨#[]⟩, .bool false, .string ⟨#[]⟩, .string ⟨#[]⟩, .int .i64 0, .int .i64 0, .slice none 0 0, .slice none 0 0, .slice none 0 0, .slice none 0 0] 29)).alloc (.cells (zT t) 41)).alloc (.cells (zD d) 73)).drew) (U.heap.size + 2) (zT t) 41 := by
                              rw [show U.heap.size + 2 = ((U.alloc (.cells (zI p) 3)).alloc (.cells #[.int .i64 0, .int .i64 0, .int .i64 0, .int .i64 0, .string ⟨#[]⟩, .bool false, .string ⟨#[]⟩, .string ⟨#[]⟩, .int .i64 0, .int .i64 0, .slice none 0 0, .slice none 0 0, .slice none 0 0, .slice none 0 0] 29)).heap.size by simp]
                              exact (((Bx.new ((U.alloc (.cells (zI p) 3)).alloc (.cells #[.int .i64 0, .int .i64 0, .int .i64 0, .int .i64 0, .string ⟨#[]⟩, .bool false, .string ⟨#[]⟩, .string ⟨#[]⟩, .int .i64 0, .int .i64 0, .slice none 0 0, .slice none 0 0, .slice none 0 0, .slice none 0 0] 29)) _ _).alloc _) : Bx ((((U.alloc (.cells (zI p) 3)).alloc (.cells #[.int .i64 0, .int .i64 0, .int .i64 0, .int .i64 0, .string ⟨#[]⟩, .bool false, .string ⟨#[]⟩, .string ⟨#[]⟩, .int .i64 0, .int .i64 0, .slice none 0 0, .slice none 0 0, .slice none 0 0, .slice none 0 0] 29)).alloc (.cells (zT t) 41)).alloc (.cells (zD d) 73)) _ _ _)
                            have h5 : Bx (((((U.alloc (.cells (zI p) 3)).alloc (.cells #[.int .i64 0, .int .i64 0, .int .i64 0, .int .i64 0, .string ⟨#[]⟩, .bool false, .string ⟨#[]⟩, .string ⟨#[]⟩, .int .i64 0, .int .i64 0, .slice none 0 0, .slice none 0 0, .slice none 0 0, .slice none 0 0] 29)).alloc (.cells (zT t) 41)).alloc (.cells (zD d) 73)).drew) (U.heap.size + 3) (zD d) 73 := by
                              rw [show U.heap.size + 3 = (((U.alloc (.cells (zI p) 3)).alloc (.cells #[.int .i64 0, .int .i64 0, .int .i64 0, .int .i64 0, .string ⟨#[]⟩, .bool false, .string ⟨#[]⟩, .string ⟨#[]⟩, .int .i64 0, .int .i64 0, .slice none 0 0, .slice none 0 0, .slice none 0 0, .slice none 0 0] 29)).alloc (.cells (zT t) 41)).heap.size by simp]
                              exact (((Bx.new (((U.alloc (.cells (zI p) 3)).alloc (.cells #[.int .i64 0, .int .i64 0, .int .i64 0, .int .i64 0, .string ⟨#[]⟩, .bool false, .string ⟨#[]⟩, .string ⟨#[]⟩, .int .i64 0, .int .i64 0, .slice none 0 0, .slice none 0 0, .slice none 0 0, .slice none 0 0] 29)).alloc (.cells (zT t) 41)) _ _)) : Bx ((((U.alloc (.cells (zI p) 3)).alloc (.cells #[.int .i64 0, .int .i64 0, .int .i64 0, .int .i64 0, .string ⟨#[]⟩, .bool false, .string ⟨#[]⟩, .string ⟨#[]⟩, .int .i64 0, .int .i64 0, .slice none 0 0, .slice none 0 0, .slice none 0 0, .slice none 0 0] 29)).alloc (.cells (zT t) 41)).alloc (.cells (zD d) 73)) _ _ _)
                            have HG := MkAt.put hHeld h1 h3 h5 h7 (by omega) (by omega) (by omega) (by omega)
                            refine wpAnyH_ready (rs := [8]) (by kernel_rfl) (by simp) ?_
                            refine AllReadyH.cons (o := { dst := none, op := Op.store 29 (Operand.tmp 9) (Operand.tmp 54), type := 0, pos := "more2.go:41", after := #[{ on := 7, ground := Ground.data }, { on := 6, ground := Ground.data }, { on := 0, ground := Ground.phase }, { on := 1, ground := Ground.phase }, { on := 2, ground := Ground.phase }, { on := 3, ground := Ground.phase }, { on := 4, ground := Ground.phase }, { on := 5, ground := Ground.phase }, { on := 6, ground := Ground.phase }, { on := 7, ground := Ground.phase }], guard := none }) rfl (fun K hK => ?_) ?_
                            · refine step_store_row rfl 29 (.tmp 9) (.tmp 54) rfl (U.heap.size + 1) #[.int .i64 7, .int .i64 0, .int .i64 0, .int .i64 0, .string ⟨#[]⟩, .bool false, .string ⟨#[]⟩, .string ⟨#[]⟩, .int .i64 0, .int .i64 0, .slice (some ⟨U.heap.size, 0, none⟩) p p, .slice none 0 0, .slice (some ⟨U.heap.size + 2, 0, none⟩) t t, .slice (some ⟨U.heap.size + 3, 0, none⟩) d d] rfl rfl 29 _ h7 (by kernel_rfl) rfl (by simp [Value.oneCell']) ?_
                              refine hK.out _ _ ?_ (fun hHeld => ?_)
                              · exact below_row hHeld (by omega)
                              clear hK K
                              (try simp only [Act.put, List.setIfInBounds_toArray, List.set_cons_zero, List.set_cons_succ])
                              refine wpAnyH_done (by kernel_rfl) ?_ _
                              refine NoPanic.normal ?_
                              refine ⟨rfl, U.heap.size, U.heap.size + 2, U.heap.size + 3, U.heap.size + 1, ?_, HG⟩
                              clear hHeld HG h1 h3 h5 h7
                              generalize U.heap.size + 3 = c3
                              generalize U.heap.size + 2 = c2
                              generalize U.heap.size + 1 = c1
                              generalize U.heap.size = c0
                              exact rfl
                            exact AllReadyH.nil
                          exact AllReadyH.nil
                        refine AllReadyH.cons (o := { dst := some 53, op := Op.makeSlice 27 (Operand.tmp 52) (Operand.tmp 52), type := 27, pos := "more2.go:41", after := #[{ on := 4, ground := Ground.data }, { on := 4, ground := Ground.data }], guard := none }) rfl (fun K hK => ?_) ?_
                        · have mk := MD.out; go_simp
                          refine hK.out _ _ ?_ (fun hHeld => ?_)
                          · exact Held.step (by assumption) ((Below.refl _ _).alloc (Nat.le_refl _) _)
                          clear hK K
                          (try simp only [Act.put, List.setIfInBounds_toArray, List.set_cons_zero, List.set_cons_succ])
                          refine wpAnyH_ready (rs := [3]) (by kernel_rfl) (by simp) ?_
                          refine AllReadyH.cons (o := { dst := some 51, op := Op.makeSlice 26 (Operand.tmp 50) (Operand.tmp 50), type := 26, pos := "more2.go:41", after := #[{ on := 2, ground := Ground.data }, { on := 2, ground := Ground.data }], guard := none }) rfl (fun K hK => ?_) ?_
                          · have mk := MT.out; go_simp
                            refine hK.out _ _ ?_ (fun hHeld => ?_)
                            · exact Held.step (by assumption) ((Below.refl _ _).alloc (Nat.le_refl _) _)
                            clear hK K
                            (try simp only [Act.put, List.setIfInBounds_toArray, List.set_cons_zero, List.set_cons_succ])
                            refine wpAnyH_take (i := 6) (oi := { dst := some 54, op := Op.build 29 #[(0, Operand.const (Value.int IntKind.i64 7)), (7, Operand.tmp 49), (9, Operand.tmp 51), (10, Operand.tmp 53)], type := 29, pos := "more2.go:41", after := #[{ on := 1, ground := Ground.data }, { on := 3, ground := Ground.data }, { on := 5, ground := Ground.data }], guard := none }) (v := .agg #[.int .i64 7, .int .i64 0, .int .i64 0, .int .i64 0, .string ⟨#[]⟩, .bool false, .string ⟨#[]⟩, .string ⟨#[]⟩, .int .i64 0, .int .i64 0, .slice (some ⟨U.heap.size, 0, none⟩) p p, .slice none 0 0, .slice (some ⟨U.heap.size + 3, 0, none⟩) t t, .slice (some ⟨U.heap.size + 2, 0, none⟩) d d]) rfl (by kernel_rfl) (by kernel_rfl) (by kernel_rfl) (fun _ _ _ h => h) (Or.inl ⟨by rfl, fun w' hSw => by ((try dsimp only at hSw); go_simp)⟩) (by assumption) ?_
                            (try simp only [Act.put, List.setIfInBounds_toArray, List.set_cons_zero, List.set_cons_succ])
                            have h1 : Bx (((((U.alloc (.cells (zI p) 3)).alloc (.cells #[.int .i64 0, .int .i64 0, .int .i64 0, .int .i64 0, .string ⟨#[]⟩, .bool false, .string ⟨#[]⟩, .string ⟨#[]⟩, .int .i64 0, .int .i64 0, .slice none 0 0, .slice none 0 0, .slice none 0 0, .slice none 0 0] 29)).alloc (.cells (zD d) 73)).alloc (.cells (zT t) 41)).drew) (U.heap.size) (zI p) 3 := by
                              exact (((Bx.new U _ _).alloc _ |>.alloc _ |>.alloc _) : Bx ((((U.alloc (.cells (zI p) 3)).alloc (.cells #[.int .i64 0, .int .i64 0, .int .i64 0, .int .i64 0, .string ⟨#[]⟩, .bool false, .string ⟨#[]⟩, .string ⟨#[]⟩, .int .i64 0, .int .i64 0, .slice none 0 0, .slice none 0 0, .slice none 0 0, .slice none 0 0] 29)).alloc (.cells (zD d) 73)).alloc (.cells (zT t) 41)) _ _ _)
                            have h7 : Bx (((((U.alloc (.cells (zI p) 3)).alloc (.cells #[.int .i64 0, .int .i64 0, .int .i64 0, .int .i64 0, .string ⟨#[]⟩, .bool false, .string ⟨#[]⟩, .string ⟨#[]⟩, .int .i64 0, .int .i64 0, .slice none 0 0, .slice none 0 0, .slice none 0 0, .slice none 0 0] 29)).alloc (.cells (zD d) 73)).alloc (.cells (zT t) 41)).drew) (U.heap.size + 1) #[.int .i64 0, .int .i64 0, .int .i64 0, .int .i64 0, .string ⟨#[]⟩, .bool false, .string ⟨#[]⟩, .string ⟨#[]⟩, .int .i64 0, .int .i64 0, .slice none 0 0, .slice none 0 0, .slice none 0 0, .slice none 0 0] 29 := by
                              rw [show U.heap.size + 1 = (U.alloc (.cells (zI p) 3)).heap.size by simp]
                              exact (((Bx.new (U.alloc (.cells (zI p) 3)) _ _).alloc _ |>.alloc _) : Bx ((((U.alloc (.cells (zI p) 3)).alloc (.cells #[.int .i64 0, .int .i64 0, .int .i64 0, .int .i64 0, .string ⟨#[]⟩, .bool false, .string ⟨#[]⟩, .string ⟨#[]⟩, .int .i64 0, .int .i64 0, .slice none 0 0, .slice none 0 0, .slice none 0 0, .slice none 0 0] 29)).alloc (.cells (zD d) 73)).alloc (.cells (zT t) 41)) _ _ _)
                            have h5 : Bx (((((U.alloc (.cells (zI p) 3)).alloc (.cells #[.int .i64 0, .int .i64 0, .int .i64 0, .int .i64 0, .string ⟨#[]⟩, .bool false, .string ⟨#[]⟩, .string ⟨#[]⟩, .int .i64 0, .int .i64 0, .slice none 0 0, .slice none 0 0, .slice none 0 0, .slice none 0 0] 29)).alloc (.cells (zD d) 73)).alloc (.cells (zT t) 41)).drew) (U.heap.size + 2) (zD d) 73 := by
                              rw [show U.heap.size + 2 = ((U.alloc (.cells (zI p) 3)).alloc (.cells #[.int .i64 0, .int .i64 0, .int .i64 0, .int .i64 0, .string ⟨#[]⟩, .bool false, .string ⟨#[]⟩, .string ⟨#[]⟩, .int .i64 0, .int .i64 0, .slice none 0 0, .slice none 0 0, .slice none 0 0, .slice none 0 0] 29)).heap.size by simp]
                              exact (((Bx.new ((U.alloc (.cells (zI p) 3)).alloc (.cells #[.int .i64 0, .int .i64 0, .int .i64 0, .int .i64 0, .string ⟨#[]⟩, .bool false, .string ⟨#[]⟩, .string ⟨#[]⟩, .int .i64 0, .int .i64 0, .slice none 0 0, .slice none 0 0, .slice none 0 0, .slice none 0 0] 29)) _ _).alloc _) : Bx ((((U.alloc (.cells (zI p) 3)).alloc (.cells #[.int .i64 0, .int .i64 0, .int .i64 0, .int .i64 0, .string ⟨#[]⟩, .bool false, .string ⟨#[]⟩, .string ⟨#[]⟩, .int .i64 0, .int .i64 0, .slice none 0 0, .slice none 0 0, .slice none 0 0, .slice none 0 0] 29)).alloc (.cells (zD d) 73)).alloc (.cells (zT t) 41)) _ _ _)
                            have h3 : Bx (((((U.alloc (.cells (zI p) 3)).alloc (.cells #[.int .i64 0, .int .i64 0, .int .i64 0, .int .i64 0, .string ⟨#[]⟩, .bool false, .string ⟨#[]⟩, .string ⟨#[]⟩, .int .i64 0, .int .i64 0, .slice none 0 0, .slice none 0 0, .slice none 0 0, .slice none 0 0] 29)).alloc (.cells (zD d) 73)).alloc (.cells (zT t) 41)).drew) (U.heap.size + 3) (zT t) 41 := by
                              rw [show U.heap.size + 3 = (((U.alloc (.cells (zI p) 3)).alloc (.cells #[.int .i64 0, .int .i64 0, .int .i64 0, .int .i64 0, .string ⟨#[]⟩, .bool false, .string ⟨#[]⟩, .string ⟨#[]⟩, .int .i64 0, .int .i64 0, .slice none 0 0, .slice none 0 0, .slice none 0 0, .slice none 0 0] 29)).alloc (.cells (zD d) 73)).heap.size by simp]
                              exact (((Bx.new (((U.alloc (.cells (zI p) 3)).alloc (.cells #[.int .i64 0, .int .i64 0, .int .i64 0, .int .i64 0, .string ⟨#[]⟩, .bool false, .string ⟨#[]⟩, .string ⟨#[]⟩, .int .i64 0, .int .i64 0, .slice none 0 0, .slice none 0 0, .slice none 0 0, .slice none 0 0] 29)).alloc (.cells (zD d) 73)) _ _)) : Bx ((((U.alloc (.cells (zI p) 3)).alloc (.cells #[.int .i64 0, .int .i64 0, .int .i64 0, .int .i64 0, .string ⟨#[]⟩, .bool false, .string ⟨#[]⟩, .string ⟨#[]⟩, .int .i64 0, .int .i64 0, .slice none 0 0, .slice none 0 0, .slice none 0 0, .slice none 0 0] 29)).alloc (.cells (zD d) 73)).alloc (.cells (zT t) 41)) _ _ _)
                            have HG := MkAt.put hHeld h1 h3 h5 h7 (by omega) (by omega) (by omega) (by omega)
                            refine wpAnyH_ready (rs := [8]) (by kernel_rfl) (by simp) ?_
                            refine AllReadyH.cons (o := { dst := none, op := Op.store 29 (Operand.tmp 9) (Operand.tmp 54), type := 0, pos := "more2.go:41", after := #[{ on := 7, ground := Ground.data }, { on := 6, ground := Ground.data }, { on := 0, ground := Ground.phase }, { on := 1, ground := Ground.phase }, { on := 2, ground := Ground.phase }, { on := 3, ground := Ground.phase }, { on := 4, ground := Ground.phase }, { on := 5, ground := Ground.phase }, { on := 6, ground := Ground.phase }, { on := 7, ground := Ground.phase }], guard := none }) rfl (fun K hK => ?_) ?_
                            · refine step_store_row rfl 29 (.tmp 9) (.tmp 54) rfl (U.heap.size + 1) #[.int .i64 7, .int .i64 0, .int .i64 0, .int .i64 0, .string ⟨#[]⟩, .bool false, .string ⟨#[]⟩, .string ⟨#[]⟩, .int .i64 0, .int .i64 0, .slice (some ⟨U.heap.size, 0, none⟩) p p, .slice none 0 0, .slice (some ⟨U.heap.size + 3, 0, none⟩) t t, .slice (some ⟨U.heap.size + 2, 0, none⟩) d d] rfl rfl 29 _ h7 (by kernel_rfl) rfl (by simp [Value.oneCell']) ?_
                              refine hK.out _ _ ?_ (fun hHeld => ?_)
                              · exact below_row hHeld (by omega)
                              clear hK K
                              (try simp only [Act.put, List.setIfInBounds_toArray, List.set_cons_zero, List.set_cons_succ])
                              refine wpAnyH_done (by kernel_rfl) ?_ _
                              refine NoPanic.normal ?_
                              refine ⟨rfl, U.heap.size, U.heap.size + 3, U.heap.size + 2, U.heap.size + 1, ?_, HG⟩
                              clear hHeld HG h1 h3 h5 h7
                              generalize U.heap.size + 3 = c3
                              generalize U.heap.size + 2 = c2
                              generalize U.heap.size + 1 = c1
                              generalize U.heap.size = c0
                              exact rfl
                            exact AllReadyH.nil
                          exact AllReadyH.nil
                        exact AllReadyH.nil
                      exact AllReadyH.nil
                    refine AllReadyH.cons (o := { dst := some 51, op := Op.makeSlice 26 (Operand.tmp 50) (Operand.tmp 50), type := 26, pos := "more2.go:41", after := #[{ on := 2, ground := Ground.data }, { on := 2, ground := Ground.data }], guard := none }) rfl (fun K hK => ?_) ?_
                    · have mk := MT.out; go_simp
                      refine hK.out _ _ ?_ (fun hHeld => ?_)
                      · exact Held.step (by assumption) ((Below.refl _ _).alloc (Nat.le_refl _) _)
                      clear hK K
                      (try simp only [Act.put, List.setIfInBounds_toArray, List.set_cons_zero, List.set_cons_succ])
                      refine wpAnyH_ready (rs := [1, 5, 7]) (by kernel_rfl) (by simp) ?_
                      refine AllReadyH.cons (o := { dst := some 49, op := Op.makeSlice 24 (Operand.tmp 48) (Operand.tmp 48), type := 24, pos := "more2.go:41", after := #[{ on := 0, ground := Ground.data }, { on := 0, ground := Ground.data }], guard := none }) rfl (fun K hK => ?_) ?_
                      · have mk := MI.out; go_simp
                        refine hK.out _ _ ?_ (fun hHeld => ?_)
                        · exact Held.step (by assumption) ((Below.refl _ _).alloc (Nat.le_refl _) _)
                        clear hK K
                        (try simp only [Act.put, List.setIfInBounds_toArray, List.set_cons_zero, List.set_cons_succ])
                        refine wpAnyH_ready (rs := [5, 7]) (by kernel_rfl) (by simp) ?_
                        refine AllReadyH.cons (o := { dst := some 53, op := Op.makeSlice 27 (Operand.tmp 52) (Operand.tmp 52), type := 27, pos := "more2.go:41", after := #[{ on := 4, ground := Ground.data }, { on := 4, ground := Ground.data }], guard := none }) rfl (fun K hK => ?_) ?_
                        · have mk := MD.out; go_simp
                          refine hK.out _ _ ?_ (fun hHeld => ?_)
                          · exact Held.step (by assumption) ((Below.refl _ _).alloc (Nat.le_refl _) _)
                          clear hK K
                          (try simp only [Act.put, List.setIfInBounds_toArray, List.set_cons_zero, List.set_cons_succ])
                          refine wpAnyH_take (i := 6) (oi := { dst := some 54, op := Op.build 29 #[(0, Operand.const (Value.int IntKind.i64 7)), (7, Operand.tmp 49), (9, Operand.tmp 51), (10, Operand.tmp 53)], type := 29, pos := "more2.go:41", after := #[{ on := 1, ground := Ground.data }, { on := 3, ground := Ground.data }, { on := 5, ground := Ground.data }], guard := none }) (v := .agg #[.int .i64 7, .int .i64 0, .int .i64 0, .int .i64 0, .string ⟨#[]⟩, .bool false, .string ⟨#[]⟩, .string ⟨#[]⟩, .int .i64 0, .int .i64 0, .slice (some ⟨U.heap.size + 1, 0, none⟩) p p, .slice none 0 0, .slice (some ⟨U.heap.size, 0, none⟩) t t, .slice (some ⟨U.heap.size + 2, 0, none⟩) d d]) rfl (by kernel_rfl) (by kernel_rfl) (by kernel_rfl) (fun _ _ _ h => h) (Or.inl ⟨by rfl, fun w' hSw => by ((try dsimp only at hSw); go_simp)⟩) (by assumption) ?_
                          (try simp only [Act.put, List.setIfInBounds_toArray, List.set_cons_zero, List.set_cons_succ])
                          refine wpAnyH_ready (rs := [7]) (by kernel_rfl) (by simp) ?_
                          refine AllReadyH.cons (o := { dst := some 9, op := Op.alloc 29, type := 0, pos := "more2.go:41", after := #[], guard := none }) rfl (fun K hK => ?_) ?_
                          · go_simp
                            refine hK.out _ _ ?_ (fun hHeld => ?_)
                            · exact Held.step (by assumption) ((Below.refl _ _).alloc (Nat.le_refl _) _)
                            clear hK K
                            (try simp only [Act.put, List.setIfInBounds_toArray, List.set_cons_zero, List.set_cons_succ])
                            have h3 : Bx (((((U.alloc (.cells (zT t) 41)).alloc (.cells (zI p) 3)).alloc (.cells (zD d) 73)).alloc (.cells #[.int .i64 0, .int .i64 0, .int .i64 0, .int .i64 0, .string ⟨#[]⟩, .bool false, .string ⟨#[]⟩, .string ⟨#[]⟩, .int .i64 0, .int .i64 0, .slice none 0 0, .slice none 0 0, .slice none 0 0, .slice none 0 0] 29)).drew) (U.heap.size) (zT t) 41 := by
                              exact (((Bx.new U _ _).alloc _ |>.alloc _ |>.alloc _) : Bx ((((U.alloc (.cells (zT t) 41)).alloc (.cells (zI p) 3)).alloc (.cells (zD d) 73)).alloc (.cells #[.int .i64 0, .int .i64 0, .int .i64 0, .int .i64 0, .string ⟨#[]⟩, .bool false, .string ⟨#[]⟩, .string ⟨#[]⟩, .int .i64 0, .int .i64 0, .slice none 0 0, .slice none 0 0, .slice none 0 0, .slice none 0 0] 29)) _ _ _)
                            have h1 : Bx (((((U.alloc (.cells (zT t) 41)).alloc (.cells (zI p) 3)).alloc (.cells (zD d) 73)).alloc (.cells #[.int .i64 0, .int .i64 0, .int .i64 0, .int .i64 0, .string ⟨#[]⟩, .bool false, .string ⟨#[]⟩, .string ⟨#[]⟩, .int .i64 0, .int .i64 0, .slice none 0 0, .slice none 0 0, .slice none 0 0, .slice none 0 0] 29)).drew) (U.heap.size + 1) (zI p) 3 := by
                              rw [show U.heap.size + 1 = (U.alloc (.cells (zT t) 41)).heap.size by simp]
                              exact (((Bx.new (U.alloc (.cells (zT t) 41)) _ _).alloc _ |>.alloc _) : Bx ((((U.alloc (.cells (zT t) 41)).alloc (.cells (zI p) 3)).alloc (.cells (zD d) 73)).alloc (.cells #[.int .i64 0, .int .i64 0, .int .i64 0, .int .i64 0, .string ⟨#[]⟩, .bool false, .string ⟨#[]⟩, .string ⟨#[]⟩, .int .i64 0, .int .i64 0, .slice none 0 0, .slice none 0 0, .slice none 0 0, .slice none 0 0] 29)) _ _ _)
                            have h5 : Bx (((((U.alloc (.cells (zT t) 41)).alloc (.cells (zI p) 3)).alloc (.cells (zD d) 73)).alloc (.cells #[.int .i64 0, .int .i64 0, .int .i64 0, .int .i64 0, .string ⟨#[]⟩, .bool false, .string ⟨#[]⟩, .string ⟨#[]⟩, .int .i64 0, .int .i64 0, .slice none 0 0, .slice none 0 0, .slice none 0 0, .slice none 0 0] 29)).drew) (U.heap.size + 2) (zD d) 73 := by
                              rw [show U.heap.size + 2 = ((U.alloc (.cells (zT t) 41)).alloc (.cells (zI p) 3)).heap.size by simp]
                              exact (((Bx.new ((U.alloc (.cells (zT t) 41)).alloc (.cells (zI p) 3)) _ _).alloc _) : Bx ((((U.alloc (.cells (zT t) 41)).alloc (.cells (zI p) 3)).alloc (.cells (zD d) 73)).alloc (.cells #[.int .i64 0, .int .i64 0, .int .i64 0, .int .i64 0, .string ⟨#[]⟩, .bool false, .string ⟨#[]⟩, .string ⟨#[]⟩, .int .i64 0, .int .i64 0, .slice none 0 0, .slice none 0 0, .slice none 0 0, .slice none 0 0] 29)) _ _ _)
                            have h7 : Bx (((((U.alloc (.cells (zT t) 41)).alloc (.cells (zI p) 3)).alloc (.cells (zD d) 73)).alloc (.cells #[.int .i64 0, .int .i64 0, .int .i64 0, .int .i64 0, .string ⟨#[]⟩, .bool false, .string ⟨#[]⟩, .string ⟨#[]⟩, .int .i64 0, .int .i64 0, .slice none 0 0, .slice none 0 0, .slice none 0 0, .slice none 0 0] 29)).drew) (U.heap.size + 3) #[.int .i64 0, .int .i64 0, .int .i64 0, .int .i64 0, .string ⟨#[]⟩, .bool false, .string ⟨#[]⟩, .string ⟨#[]⟩, .int .i64 0, .int .i64 0, .slice none 0 0, .slice none 0 0, .slice none 0 0, .slice none 0 0] 29 := by
                              rw [show U.heap.size + 3 = (((U.alloc (.cells (zT t) 41)).alloc (.cells (zI p) 3)).alloc (.cells (zD d) 73)).heap.size by simp]
                              exact (((Bx.new (((U.alloc (.cells (zT t) 41)).alloc (.cells (zI p) 3)).alloc (.cells (zD d) 73)) _ _)) : Bx ((((U.alloc (.cells (zT t) 41)).alloc (.cells (zI p) 3)).alloc (.cells (zD d) 73)).alloc (.cells #[.int .i64 0, .int .i64 0, .int .i64 0, .int .i64 0, .string ⟨#[]⟩, .bool false, .string ⟨#[]⟩, .string ⟨#[]⟩, .int .i64 0, .int .i64 0, .slice none 0 0, .slice none 0 0, .slice none 0 0, .slice none 0 0] 29)) _ _ _)
                            have HG := MkAt.put hHeld h1 h3 h5 h7 (by omega) (by omega) (by omega) (by omega)
                            refine wpAnyH_ready (rs := [8]) (by kernel_rfl) (by simp) ?_
                            refine AllReadyH.cons (o := { dst := none, op := Op.store 29 (Operand.tmp 9) (Operand.tmp 54), type := 0, pos := "more2.go:41", after := #[{ on := 7, ground := Ground.data }, { on := 6, ground := Ground.data }, { on := 0, ground := Ground.phase }, { on := 1, ground := Ground.phase }, { on := 2, ground := Ground.phase }, { on := 3, ground := Ground.phase }, { on := 4, ground := Ground.phase }, { on := 5, ground := Ground.phase }, { on := 6, ground := Ground.phase }, { on := 7, ground := Ground.phase }], guard := none }) rfl (fun K hK => ?_) ?_
                            · refine step_store_row rfl 29 (.tmp 9) (.tmp 54) rfl (U.heap.size + 3) #[.int .i64 7, .int .i64 0, .int .i64 0, .int .i64 0, .string ⟨#[]⟩, .bool false, .string ⟨#[]⟩, .string ⟨#[]⟩, .int .i64 0, .int .i64 0, .slice (some ⟨U.heap.size + 1, 0, none⟩) p p, .slice none 0 0, .slice (some ⟨U.heap.size, 0, none⟩) t t, .slice (some ⟨U.heap.size + 2, 0, none⟩) d d] rfl rfl 29 _ h7 (by kernel_rfl) rfl (by simp [Value.oneCell']) ?_
                              refine hK.out _ _ ?_ (fun hHeld => ?_)
                              · exact below_row hHeld (by omega)
                              clear hK K
                              (try simp only [Act.put, List.setIfInBounds_toArray, List.set_cons_zero, List.set_cons_succ])
                              refine wpAnyH_done (by kernel_rfl) ?_ _
                              refine NoPanic.normal ?_
                              refine ⟨rfl, U.heap.size + 1, U.heap.size, U.heap.size + 2, U.heap.size + 3, ?_, HG⟩
                              clear hHeld HG h1 h3 h5 h7
                              generalize U.heap.size + 3 = c3
                              generalize U.heap.size + 2 = c2
                              generalize U.heap.size + 1 = c1
                              generalize U.heap.size = c0
                              exact rfl
                            exact AllReadyH.nil
                          exact AllReadyH.nil
                        refine AllReadyH.cons (o := { dst := some 9, op := Op.alloc 29, type := 0, pos := "more2.go:41", after := #[], guard := none }) rfl (fun K hK => ?_) ?_
                        · go_simp
                          refine hK.out _ _ ?_ (fun hHeld => ?_)
                          · exact Held.step (by assumption) ((Below.refl _ _).alloc (Nat.le_refl _) _)
                          clear hK K
                          (try simp only [Act.put, List.setIfInBounds_toArray, List.set_cons_zero, List.set_cons_succ])
                          refine wpAnyH_ready (rs := [5]) (by kernel_rfl) (by simp) ?_
                          refine AllReadyH.cons (o := { dst := some 53, op := Op.makeSlice 27 (Operand.tmp 52) (Operand.tmp 52), type := 27, pos := "more2.go:41", after := #[{ on := 4, ground := Ground.data }, { on := 4, ground := Ground.data }], guard := none }) rfl (fun K hK => ?_) ?_
                          · have mk := MD.out; go_simp
                            refine hK.out _ _ ?_ (fun hHeld => ?_)
                            · exact Held.step (by assumption) ((Below.refl _ _).alloc (Nat.le_refl _) _)
                            clear hK K
                            (try simp only [Act.put, List.setIfInBounds_toArray, List.set_cons_zero, List.set_cons_succ])
                            refine wpAnyH_take (i := 6) (oi := { dst := some 54, op := Op.build 29 #[(0, Operand.const (Value.int IntKind.i64 7)), (7, Operand.tmp 49), (9, Operand.tmp 51), (10, Operand.tmp 53)], type := 29, pos := "more2.go:41", after := #[{ on := 1, ground := Ground.data }, { on := 3, ground := Ground.data }, { on := 5, ground := Ground.data }], guard := none }) (v := .agg #[.int .i64 7, .int .i64 0, .int .i64 0, .int .i64 0, .string ⟨#[]⟩, .bool false, .string ⟨#[]⟩, .string ⟨#[]⟩, .int .i64 0, .int .i64 0, .slice (some ⟨U.heap.size + 1, 0, none⟩) p p, .slice none 0 0, .slice (some ⟨U.heap.size, 0, none⟩) t t, .slice (some ⟨U.heap.size + 3, 0, none⟩) d d]) rfl (by kernel_rfl) (by kernel_rfl) (by kernel_rfl) (fun _ _ _ h => h) (Or.inl ⟨by rfl, fun w' hSw => by ((try dsimp only at hSw); go_simp)⟩) (by assumption) ?_
                            (try simp only [Act.put, List.setIfInBounds_toArray, List.set_cons_zero, List.set_cons_succ])
                            have h3 : Bx (((((U.alloc (.cells (zT t) 41)).alloc (.cells (zI p) 3)).alloc (.cells #[.int .i64 0, .int .i64 0, .int .i64 0, .int .i64 0, .string ⟨#[]⟩, .bool false, .string ⟨#[]⟩, .string ⟨#[]⟩, .int .i64 0, .int .i64 0, .slice none 0 0, .slice none 0 0, .slice none 0 0, .slice none 0 0] 29)).alloc (.cells (zD d) 73)).drew) (U.heap.size) (zT t) 41 := by
                              exact (((Bx.new U _ _).alloc _ |>.alloc _ |>.alloc _) : Bx ((((U.alloc (.cells (zT t) 41)).alloc (.cells (zI p) 3)).alloc (.cells #[.int .i64 0, .int .i64 0, .int .i64 0, .int .i64 0, .string ⟨#[]⟩, .bool false, .string ⟨#[]⟩, .string ⟨#[]⟩, .int .i64 0, .int .i64 0, .slice none 0 0, .slice none 0 0, .slice none 0 0, .slice none 0 0] 29)).alloc (.cells (zD d) 73)) _ _ _)
                            have h1 : Bx (((((U.alloc (.cells (zT t) 41)).alloc (.cells (zI p) 3)).alloc (.cells #[.int .i64 0, .int .i64 0, .int .i64 0, .int .i64 0, .string ⟨#[]⟩, .bool false, .string ⟨#[]⟩, .string ⟨#[]⟩, .int .i64 0, .int .i64 0, .slice none 0 0, .slice none 0 0, .slice none 0 0, .slice none 0 0] 29)).alloc (.cells (zD d) 73)).drew) (U.heap.size + 1) (zI p) 3 := by
                              rw [show U.heap.size + 1 = (U.alloc (.cells (zT t) 41)).heap.size by simp]
                              exact (((Bx.new (U.alloc (.cells (zT t) 41)) _ _).alloc _ |>.alloc _) : Bx ((((U.alloc (.cells (zT t) 41)).alloc (.cells (zI p) 3)).alloc (.cells #[.int .i64 0, .int .i64 0, .int .i64 0, .int .i64 0, .string ⟨#[]⟩, .bool false, .string ⟨#[]⟩, .string ⟨#[]⟩, .int .i64 0, .int .i64 0, .slice none 0 0, .slice none 0 0, .slice none 0 0, .slice none 0 0] 29)).alloc (.cells (zD d) 73)) _ _ _)
                            have h7 : Bx (((((U.alloc (.cells (zT t) 41)).alloc (.cells (zI p) 3)).alloc (.cells #[.int .i64 0, .int .i64 0, .int .i64 0, .int .i64 0, .string ⟨#[]⟩, .bool false, .string ⟨#[]⟩, .string ⟨#[]⟩, .int .i64 0, .int .i64 0, .slice none 0 0, .slice none 0 0, .slice none 0 0, .slice none 0 0] 29)).alloc (.cells (zD d) 73)).drew) (U.heap.size + 2) #[.int .i64 0, .int .i64 0, .int .i64 0, .int .i64 0, .string ⟨#[]⟩, .bool false, .string ⟨#[]⟩, .string ⟨#[]⟩, .int .i64 0, .int .i64 0, .slice none 0 0, .slice none 0 0, .slice none 0 0, .slice none 0 0] 29 := by
                              rw [show U.heap.size + 2 = ((U.alloc (.cells (zT t) 41)).alloc (.cells (zI p) 3)).heap.size by simp]
                              exact (((Bx.new ((U.alloc (.cells (zT t) 41)).alloc (.cells (zI p) 3)) _ _).alloc _) : Bx ((((U.alloc (.cells (zT t) 41)).alloc (.cells (zI p) 3)).alloc (.cells #[.int .i64 0, .int .i64 0, .int .i64 0, .int .i64 0, .string ⟨#[]⟩, .bool false, .string ⟨#[]⟩, .string ⟨#[]⟩, .int .i64 0, .int .i64 0, .slice none 0 0, .slice none 0 0, .slice none 0 0, .slice none 0 0] 29)).alloc (.cells (zD d) 73)) _ _ _)
                            have h5 : Bx (((((U.alloc (.cells (zT t) 41)).alloc (.cells (zI p) 3)).alloc (.cells #[.int .i64 0, .int .i64 0, .int .i64 0, .int .i64 0, .string ⟨#[]⟩, .bool false, .string ⟨#[]⟩, .string ⟨#[]⟩, .int .i64 0, .int .i64 0, .slice none 0 0, .slice none 0 0, .slice none 0 0, .slice none 0 0] 29)).alloc (.cells (zD d) 73)).drew) (U.heap.size + 3) (zD d) 73 := by
                              rw [show U.heap.size + 3 = (((U.alloc (.cells (zT t) 41)).alloc (.cells (zI p) 3)).alloc (.cells #[.int .i64 0, .int .i64 0, .int .i64 0, .int .i64 0, .string ⟨#[]⟩, .bool false, .string ⟨#[]⟩, .string ⟨#[]⟩, .int .i64 0, .int .i64 0, .slice none 0 0, .slice none 0 0, .slice none 0 0, .slice none 0 0] 29)).heap.size by simp]
                              exact (((Bx.new (((U.alloc (.cells (zT t) 41)).alloc (.cells (zI p) 3)).alloc (.cells #[.int .i64 0, .int .i64 0, .int .i64 0, .int .i64 0, .string ⟨#[]⟩, .bool false, .string ⟨#[]⟩, .string ⟨#[]⟩, .int .i64 0, .int .i64 0, .slice none 0 0, .slice none 0 0, .slice none 0 0, .slice none 0 0] 29)) _ _)) : Bx ((((U.alloc (.cells (zT t) 41)).alloc (.cells (zI p) 3)).alloc (.cells #[.int .i64 0, .int .i64 0, .int .i64 0, .int .i64 0, .string ⟨#[]⟩, .bool false, .string ⟨#[]⟩, .string ⟨#[]⟩, .int .i64 0, .int .i64 0, .slice none 0 0, .slice none 0 0, .slice none 0 0, .slice none 0 0] 29)).alloc (.cells (zD d) 73)) _ _ _)
                            have HG := MkAt.put hHeld h1 h3 h5 h7 (by omega) (by omega) (by omega) (by omega)
                            refine wpAnyH_ready (rs := [8]) (by kernel_rfl) (by simp) ?_
                            refine AllReadyH.cons (o := { dst := none, op := Op.store 29 (Operand.tmp 9) (Operand.tmp 54), type := 0, pos := "more2.go:41", after := #[{ on := 7, ground := Ground.data }, { on := 6, ground := Ground.data }, { on := 0, ground := Ground.phase }, { on := 1, ground := Ground.phase }, { on := 2, ground := Ground.phase }, { on := 3, ground := Ground.phase }, { on := 4, ground := Ground.phase }, { on := 5, ground := Ground.phase }, { on := 6, ground := Ground.phase }, { on := 7, ground := Ground.phase }], guard := none }) rfl (fun K hK => ?_) ?_
                            · refine step_store_row rfl 29 (.tmp 9) (.tmp 54) rfl (U.heap.size + 2) #[.int .i64 7, .int .i64 0, .int .i64 0, .int .i64 0, .string ⟨#[]⟩, .bool false, .string ⟨#[]⟩, .string ⟨#[]⟩, .int .i64 0, .int .i64 0, .slice (some ⟨U.heap.size + 1, 0, none⟩) p p, .slice none 0 0, .slice (some ⟨U.heap.size, 0, none⟩) t t, .slice (some ⟨U.heap.size + 3, 0, none⟩) d d] rfl rfl 29 _ h7 (by kernel_rfl) rfl (by simp [Value.oneCell']) ?_
                              refine hK.out _ _ ?_ (fun hHeld => ?_)
                              · exact below_row hHeld (by omega)
                              clear hK K
                              (try simp only [Act.put, List.setIfInBounds_toArray, List.set_cons_zero, List.set_cons_succ])
                              refine wpAnyH_done (by kernel_rfl) ?_ _
                              refine NoPanic.normal ?_
                              refine ⟨rfl, U.heap.size + 1, U.heap.size, U.heap.size + 3, U.heap.size + 2, ?_, HG⟩
                              clear hHeld HG h1 h3 h5 h7
                              generalize U.heap.size + 3 = c3
                              generalize U.heap.size + 2 = c2
                              generalize U.heap.size + 1 = c1
                              generalize U.heap.size = c0
                              exact rfl
                            exact AllReadyH.nil
                          exact AllReadyH.nil
                        exact AllReadyH.nil
                      refine AllReadyH.cons (o := { dst := some 53, op := Op.makeSlice 27 (Operand.tmp 52) (Operand.tmp 52), type := 27, pos := "more2.go:41", after := #[{ on := 4, ground := Ground.data }, { on := 4, ground := Ground.data }], guard := none }) rfl (fun K hK => ?_) ?_
                      · have mk := MD.out; go_simp
                        refine hK.out _ _ ?_ (fun hHeld => ?_)
                        · exact Held.step (by assumption) ((Below.refl _ _).alloc (Nat.le_refl _) _)
                        clear hK K
                        (try simp only [Act.put, List.setIfInBounds_toArray, List.set_cons_zero, List.set_cons_succ])
                        refine wpAnyH_ready (rs := [1, 7]) (by kernel_rfl) (by simp) ?_
                        refine AllReadyH.cons (o := { dst := some 49, op := Op.makeSlice 24 (Operand.tmp 48) (Operand.tmp 48), type := 24, pos := "more2.go:41", after := #[{ on := 0, ground := Ground.data }, { on := 0, ground := Ground.data }], guard := none }) rfl (fun K hK => ?_) ?_
                        · have mk := MI.out; go_simp
                          refine hK.out _ _ ?_ (fun hHeld => ?_)
                          · exact Held.step (by assumption) ((Below.refl _ _).alloc (Nat.le_refl _) _)
                          clear hK K
                          (try simp only [Act.put, List.setIfInBounds_toArray, List.set_cons_zero, List.set_cons_succ])
                          refine wpAnyH_take (i := 6) (oi := { dst := some 54, op := Op.build 29 #[(0, Operand.const (Value.int IntKind.i64 7)), (7, Operand.tmp 49), (9, Operand.tmp 51), (10, Operand.tmp 53)], type := 29, pos := "more2.go:41", after := #[{ on := 1, ground := Ground.data }, { on := 3, ground := Ground.data }, { on := 5, ground := Ground.data }], guard := none }) (v := .agg #[.int .i64 7, .int .i64 0, .int .i64 0, .int .i64 0, .string ⟨#[]⟩, .bool false, .string ⟨#[]⟩, .string ⟨#[]⟩, .int .i64 0, .int .i64 0, .slice (some ⟨U.heap.size + 2, 0, none⟩) p p, .slice none 0 0, .slice (some ⟨U.heap.size, 0, none⟩) t t, .slice (some ⟨U.heap.size + 1, 0, none⟩) d d]) rfl (by kernel_rfl) (by kernel_rfl) (by kernel_rfl) (fun _ _ _ h => h) (Or.inl ⟨by rfl, fun w' hSw => by ((try dsimp only at hSw); go_simp)⟩) (by assumption) ?_
                          (try simp only [Act.put, List.setIfInBounds_toArray, List.set_cons_zero, List.set_cons_succ])
                          refine wpAnyH_ready (rs := [7]) (by kernel_rfl) (by simp) ?_
                          refine AllReadyH.cons (o := { dst := some 9, op := Op.alloc 29, type := 0, pos := "more2.go:41", after := #[], guard := none }) rfl (fun K hK => ?_) ?_
                          · go_simp
                            refine hK.out _ _ ?_ (fun hHeld => ?_)
                            · exact Held.step (by assumption) ((Below.refl _ _).alloc (Nat.le_refl _) _)
                            clear hK K
                            (try simp only [Act.put, List.setIfInBounds_toArray, List.set_cons_zero, List.set_cons_succ])
                            have h3 : Bx (((((U.alloc (.cells (zT t) 41)).alloc (.cells (zD d) 73)).alloc (.cells (zI p) 3)).alloc (.cells #[.int .i64 0, .int .i64 0, .int .i64 0, .int .i64 0, .string ⟨#[]⟩, .bool false, .string ⟨#[]⟩, .string ⟨#[]⟩, .int .i64 0, .int .i64 0, .slice none 0 0, .slice none 0 0, .slice none 0 0, .slice none 0 0] 29)).drew) (U.heap.size) (zT t) 41 := by
                              exact (((Bx.new U _ _).alloc _ |>.alloc _ |>.alloc _) : Bx ((((U.alloc (.cells (zT t) 41)).alloc (.cells (zD d) 73)).alloc (.cells (zI p) 3)).alloc (.cells #[.int .i64 0, .int .i64 0, .int .i64 0, .int .i64 0, .string ⟨#[]⟩, .bool false, .string ⟨#[]⟩, .string ⟨#[]⟩, .int .i64 0, .int .i64 0, .slice none 0 0, .slice none 0 0, .slice none 0 0, .slice none 0 0] 29)) _ _ _)
                            have h5 : Bx (((((U.alloc (.cells (zT t) 41)).alloc (.cells (zD d) 73)).alloc (.cells (zI p) 3)).alloc (.cells #[.int .i64 0, .int .i64 0, .int .i64 0, .int .i64 0, .string ⟨#[]⟩, .bool false, .string ⟨#[]⟩, .string ⟨#[]⟩, .int .i64 0, .int .i64 0, .slice none 0 0, .slice none 0 0, .slice none 0 0, .slice none 0 0] 29)).drew) (U.heap.size + 1) (zD d) 73 := by
                              rw [show U.heap.size + 1 = (U.alloc (.cells (zT t) 41)).heap.size by simp]
                              exact (((Bx.new (U.alloc (.cells (zT t) 41)) _ _).alloc _ |>.alloc _) : Bx ((((U.alloc (.cells (zT t) 41)).alloc (.cells (zD d) 73)).alloc (.cells (zI p) 3)).alloc (.cells #[.int .i64 0, .int .i64 0, .int .i64 0, .int .i64 0, .string ⟨#[]⟩, .bool false, .string ⟨#[]⟩, .string ⟨#[]⟩, .int .i64 0, .int .i64 0, .slice none 0 0, .slice none 0 0, .slice none 0 0, .slice none 0 0] 29)) _ _ _)
                            have h1 : Bx (((((U.alloc (.cells (zT t) 41)).alloc (.cells (zD d) 73)).alloc (.cells (zI p) 3)).alloc (.cells #[.int .i64 0, .int .i64 0, .int .i64 0, .int .i64 0, .string ⟨#[]⟩, .bool false, .string ⟨#[]⟩, .string ⟨#[]⟩, .int .i64 0, .int .i64 0, .slice none 0 0, .slice none 0 0, .slice none 0 0, .slice none 0 0] 29)).drew) (U.heap.size + 2) (zI p) 3 := by
                              rw [show U.heap.size + 2 = ((U.alloc (.cells (zT t) 41)).alloc (.cells (zD d) 73)).heap.size by simp]
                              exact (((Bx.new ((U.alloc (.cells (zT t) 41)).alloc (.cells (zD d) 73)) _ _).alloc _) : Bx ((((U.alloc (.cells (zT t) 41)).alloc (.cells (zD d) 73)).alloc (.cells (zI p) 3)).alloc (.cells #[.int .i64 0, .int .i64 0, .int .i64 0, .int .i64 0, .string ⟨#[]⟩, .bool false, .string ⟨#[]⟩, .string ⟨#[]⟩, .int .i64 0, .int .i64 0, .slice none 0 0, .slice none 0 0, .slice none 0 0, .slice none 0 0] 29)) _ _ _)
                            have h7 : Bx (((((U.alloc (.cells (zT t) 41)).alloc (.cells (zD d) 73)).alloc (.cells (zI p) 3)).alloc (.cells #[.int .i64 0, .int .i64 0, .int .i64 0, .int .i64 0, .string ⟨#[]⟩, .bool false, .string ⟨#[]⟩, .string ⟨#[]⟩, .int .i64 0, .int .i64 0, .slice none 0 0, .slice none 0 0, .slice none 0 0, .slice none 0 0] 29)).drew) (U.heap.size + 3) #[.int .i64 0, .int .i64 0, .int .i64 0, .int .i64 0, .string ⟨#[]⟩, .bool false, .string ⟨#[]⟩, .string ⟨#[]⟩, .int .i64 0, .int .i64 0, .slice none 0 0, .slice none 0 0, .slice none 0 0, .slice none 0 0] 29 := by
                              rw [show U.heap.size + 3 = (((U.alloc (.cells (zT t) 41)).alloc (.cells (zD d) 73)).alloc (.cells (zI p) 3)).heap.size by simp]
                              exact (((Bx.new (((U.alloc (.cells (zT t) 41)).alloc (.cells (zD d) 73)).alloc (.cells (zI p) 3)) _ _)) : Bx ((((U.alloc (.cells (zT t) 41)).alloc (.cells (zD d) 73)).alloc (.cells (zI p) 3)).alloc (.cells #[.int .i64 0, .int .i64 0, .int .i64 0, .int .i64 0, .string ⟨#[]⟩, .bool false, .string ⟨#[]⟩, .string ⟨#[]⟩, .int .i64 0, .int .i64 0, .slice none 0 0, .slice none 0 0, .slice none 0 0, .slice none 0 0] 29)) _ _ _)
                            have HG := MkAt.put hHeld h1 h3 h5 h7 (by omega) (by omega) (by omega) (by omega)
                            refine wpAnyH_ready (rs := [8]) (by kernel_rfl) (by simp) ?_
                            refine AllReadyH.cons (o := { dst := none, op := Op.store 29 (Operand.tmp 9) (Operand.tmp 54), type := 0, pos := "more2.go:41", after := #[{ on := 7, ground := Ground.data }, { on := 6, ground := Ground.data }, { on := 0, ground := Ground.phase }, { on := 1, ground := Ground.phase }, { on := 2, ground := Ground.phase }, { on := 3, ground := Ground.phase }, { on := 4, ground := Ground.phase }, { on := 5, ground := Ground.phase }, { on := 6, ground := Ground.phase }, { on := 7, ground := Ground.phase }], guard := none }) rfl (fun K hK => ?_) ?_
                            · refine step_store_row rfl 29 (.tmp 9) (.tmp 54) rfl (U.heap.size + 3) #[.int .i64 7, .int .i64 0, .int .i64 0, .int .i64 0, .string ⟨#[]⟩, .bool false, .string ⟨#[]⟩, .string ⟨#[]⟩, .int .i64 0, .int .i64 0, .slice (some ⟨U.heap.size + 2, 0, none⟩) p p, .slice none 0 0, .slice (some ⟨U.heap.size, 0, none⟩) t t, .slice (some ⟨U.heap.size + 1, 0, none⟩) d d] rfl rfl 29 _ h7 (by kernel_rfl) rfl (by simp [Value.oneCell']) ?_
                              refine hK.out _ _ ?_ (fun hHeld => ?_)
                              · exact below_row hHeld (by omega)
                              clear hK K
                              (try simp only [Act.put, List.setIfInBounds_toArray, List.set_cons_zero, List.set_cons_succ])
                              refine wpAnyH_done (by kernel_rfl) ?_ _
                              refine NoPanic.normal ?_
                              refine ⟨rfl, U.heap.size + 2, U.heap.size, U.heap.size + 1, U.heap.size + 3, ?_, HG⟩
                              clear hHeld HG h1 h3 h5 h7
                              generalize U.heap.size + 3 = c3
                              generalize U.heap.size + 2 = c2
                              generalize U.heap.size + 1 = c1
                              generalize U.heap.size = c0
                              exact rfl
                            exact AllReadyH.nil
                          exact AllReadyH.nil
                        refine AllReadyH.cons (o := { dst := some 9, op := Op.alloc 29, type := 0, pos := "more2.go:41", after := #[], guard := none }) rfl (fun K hK => ?_) ?_
                        · go_simp
                          refine hK.out _ _ ?_ (fun hHeld => ?_)
                          · exact Held.step (by assumption) ((Below.refl _ _).alloc (Nat.le_refl _) _)
                          clear hK K
                          (try simp only [Act.put, List.setIfInBounds_toArray, List.set_cons_zero, List.set_cons_succ])
                          refine wpAnyH_ready (rs := [1]) (by kernel_rfl) (by simp) ?_
                          refine AllReadyH.cons (o := { dst := some 49, op := Op.makeSlice 24 (Operand.tmp 48) (Operand.tmp 48), type := 24, pos := "more2.go:41", after := #[{ on := 0, ground := Ground.data }, { on := 0, ground := Ground.data }], guard := none }) rfl (fun K hK => ?_) ?_
                          · have mk := MI.out; go_simp
                            refine hK.out _ _ ?_ (fun hHeld => ?_)
                            · exact Held.step (by assumption) ((Below.refl _ _).alloc (Nat.le_refl _) _)
                            clear hK K
                            (try simp only [Act.put, List.setIfInBounds_toArray, List.set_cons_zero, List.set_cons_succ])
                            refine wpAnyH_take (i := 6) (oi := { dst := some 54, op := Op.build 29 #[(0, Operand.const (Value.int IntKind.i64 7)), (7, Operand.tmp 49), (9, Operand.tmp 51), (10, Operand.tmp 53)], type := 29, pos := "more2.go:41", after := #[{ on := 1, ground := Ground.data }, { on := 3, ground := Ground.data }, { on := 5, ground := Ground.data }], guard := none }) (v := .agg #[.int .i64 7, .int .i64 0, .int .i64 0, .int .i64 0, .string ⟨#[]⟩, .bool false, .string ⟨#[]⟩, .string ⟨#[]⟩, .int .i64 0, .int .i64 0, .slice (some ⟨U.heap.size + 3, 0, none⟩) p p, .slice none 0 0, .slice (some ⟨U.heap.size, 0, none⟩) t t, .slice (some ⟨U.heap.size + 1, 0, none⟩) d d]) rfl (by kernel_rfl) (by kernel_rfl) (by kernel_rfl) (fun _ _ _ h => h) (Or.inl ⟨by rfl, fun w' hSw => by ((try dsimp only at hSw); go_simp)⟩) (by assumption) ?_
                            (try simp only [Act.put, List.setIfInBounds_toArray, List.set_cons_zero, List.set_cons_succ])
                            have h3 : Bx (((((U.alloc (.cells (zT t) 41)).alloc (.cells (zD d) 73)).alloc (.cells #[.int .i64 0, .int .i64 0, .int .i64 0, .int .i64 0, .string ⟨#[]⟩, .bool false, .string ⟨#[]⟩, .string ⟨#[]⟩, .int .i64 0, .int .i64 0, .slice none 0 0, .slice none 0 0, .slice none 0 0, .slice none 0 0] 29)).alloc (.cells (zI p) 3)).drew) (U.heap.size) (zT t) 41 := by
                              exact (((Bx.new U _ _).alloc _ |>.alloc _ |>.alloc _) : Bx ((((U.alloc (.cells (zT t) 41)).alloc (.cells (zD d) 73)).alloc (.cells #[.int .i64 0, .int .i64 0, .int .i64 0, .int .i64 0, .string ⟨#[]⟩, .bool false, .string ⟨#[]⟩, .string ⟨#[]⟩, .int .i64 0, .int .i64 0, .slice none 0 0, .slice none 0 0, .slice none 0 0, .slice none 0 0] 29)).alloc (.cells (zI p) 3)) _ _ _)
                            have h5 : Bx (((((U.alloc (.cells (zT t) 41)).alloc (.cells (zD d) 73)).alloc (.cells #[.int .i64 0, .int .i64 0, .int .i64 0, .int .i64 0, .string ⟨#[]⟩, .bool false, .string ⟨#[]⟩, .string ⟨#[]⟩, .int .i64 0, .int .i64 0, .slice none 0 0, .slice none 0 0, .slice none 0 0, .slice none 0 0] 29)).alloc (.cells (zI p) 3)).drew) (U.heap.size + 1) (zD d) 73 := by
                              rw [show U.heap.size + 1 = (U.alloc (.cells (zT t) 41)).heap.size by simp]
                              exact (((Bx.new (U.alloc (.cells (zT t) 41)) _ _).alloc _ |>.alloc _) : Bx ((((U.alloc (.cells (zT t) 41)).alloc (.cells (zD d) 73)).alloc (.cells #[.int .i64 0, .int .i64 0, .int .i64 0, .int .i64 0, .string ⟨#[]⟩, .bool false, .string ⟨#[]⟩, .string ⟨#[]⟩, .int .i64 0, .int .i64 0, .slice none 0 0, .slice none 0 0, .slice none 0 0, .slice none 0 0] 29)).alloc (.cells (zI p) 3)) _ _ _)
                            have h7 : Bx (((((U.alloc (.cells (zT t) 41)).alloc (.cells (zD d) 73)).alloc (.cells #[.int .i64 0, .int .i64 0, .int .i64 0, .int .i64 0, .string ⟨#[]⟩, .bool false, .string ⟨#[]⟩, .string ⟨#[]⟩, .int .i64 0, .int .i64 0, .slice none 0 0, .slice none 0 0, .slice none 0 0, .slice none 0 0] 29)).alloc (.cells (zI p) 3)).drew) (U.heap.size + 2) #[.int .i64 0, .int .i64 0, .int .i64 0, .int .i64 0, .string ⟨#[]⟩, .bool false, .string ⟨#[]⟩, .string ⟨#[]⟩, .int .i64 0, .int .i64 0, .slice none 0 0, .slice none 0 0, .slice none 0 0, .slice none 0 0] 29 := by
                              rw [show U.heap.size + 2 = ((U.alloc (.cells (zT t) 41)).alloc (.cells (zD d) 73)).heap.size by simp]
                              exact (((Bx.new ((U.alloc (.cells (zT t) 41)).alloc (.cells (zD d) 73)) _ _).alloc _) : Bx ((((U.alloc (.cells (zT t) 41)).alloc (.cells (zD d) 73)).alloc (.cells #[.int .i64 0, .int .i64 0, .int .i64 0, .int .i64 0, .string ⟨#[]⟩, .bool false, .string ⟨#[]⟩, .string ⟨#[]⟩, .int .i64 0, .int .i64 0, .slice none 0 0, .slice none 0 0, .slice none 0 0, .slice none 0 0] 29)).alloc (.cells (zI p) 3)) _ _ _)
                            have h1 : Bx (((((U.alloc (.cells (zT t) 41)).alloc (.cells (zD d) 73)).alloc (.cells #[.int .i64 0, .int .i64 0, .int .i64 0, .int .i64 0, .string ⟨#[]⟩, .bool false, .string ⟨#[]⟩, .string ⟨#[]⟩, .int .i64 0, .int .i64 0, .slice none 0 0, .slice none 0 0, .slice none 0 0, .slice none 0 0] 29)).alloc (.cells (zI p) 3)).drew) (U.heap.size + 3) (zI p) 3 := by
                              rw [show U.heap.size + 3 = (((U.alloc (.cells (zT t) 41)).alloc (.cells (zD d) 73)).alloc (.cells #[.int .i64 0, .int .i64 0, .int .i64 0, .int .i64 0, .string ⟨#[]⟩, .bool false, .string ⟨#[]⟩, .string ⟨#[]⟩, .int .i64 0, .int .i64 0, .slice none 0 0, .slice none 0 0, .slice none 0 0, .slice none 0 0] 29)).heap.size by simp]
                              exact (((Bx.new (((U.alloc (.cells (zT t) 41)).alloc (.cells (zD d) 73)).alloc (.cells #[.int .i64 0, .int .i64 0, .int .i64 0, .int .i64 0, .string ⟨#[]⟩, .bool false, .string ⟨#[]⟩, .string ⟨#[]⟩, .int .i64 0, .int .i64 0, .slice none 0 0, .slice none 0 0, .slice none 0 0, .slice none 0 0] 29)) _ _)) : Bx ((((U.alloc (.cells (zT t) 41)).alloc (.cells (zD d) 73)).alloc (.cells #[.int .i64 0, .int .i64 0, .int .i64 0, .int .i64 0, .string ⟨#[]⟩, .bool false, .string ⟨#[]⟩, .string ⟨#[]⟩, .int .i64 0, .int .i64 0, .slice none 0 0, .slice none 0 0, .slice none 0 0, .slice none 0 0] 29)).alloc (.cells (zI p) 3)) _ _ _)
                            have HG := MkAt.put hHeld h1 h3 h5 h7 (by omega) (by omega) (by omega) (by omega)
                            refine wpAnyH_ready (rs := [8]) (by kernel_rfl) (by simp) ?_
                            refine AllReadyH.cons (o := { dst := none, op := Op.store 29 (Operand.tmp 9) (Operand.tmp 54), type := 0, pos := "more2.go:41", after := #[{ on := 7, ground := Ground.data }, { on := 6, ground := Ground.data }, { on := 0, ground := Ground.phase }, { on := 1, ground := Ground.phase }, { on := 2, ground := Ground.phase }, { on := 3, ground := Ground.phase }, { on := 4, ground := Ground.phase }, { on := 5, ground := Ground.phase }, { on := 6, ground := Ground.phase }, { on := 7, ground := Ground.phase }], guard := none }) rfl (fun K hK => ?_) ?_
                            · refine step_store_row rfl 29 (.tmp 9) (.tmp 54) rfl (U.heap.size + 2) #[.int .i64 7, .int .i64 0, .int .i64 0, .int .i64 0, .string ⟨#[]⟩, .bool false, .string ⟨#[]⟩, .string ⟨#[]⟩, .int .i64 0, .int .i64 0, .slice (some ⟨U.heap.size + 3, 0, none⟩) p p, .slice none 0 0, .slice (some ⟨U.heap.size, 0, none⟩) t t, .slice (some ⟨U.heap.size + 1, 0, none⟩) d d] rfl rfl 29 _ h7 (by kernel_rfl) rfl (by simp [Value.oneCell']) ?_
                              refine hK.out _ _ ?_ (fun hHeld => ?_)
                              · exact below_row hHeld (by omega)
                              clear hK K
                              (try simp only [Act.put, List.setIfInBounds_toArray, List.set_cons_zero, List.set_cons_succ])
                              refine wpAnyH_done (by kernel_rfl) ?_ _
                              refine NoPanic.normal ?_
                              refine ⟨rfl, U.heap.size + 3, U.heap.size, U.heap.size + 1, U.heap.size + 2, ?_, HG⟩
                              clear hHeld HG h1 h3 h5 h7
                              generalize U.heap.size + 3 = c3
                              generalize U.heap.size + 2 = c2
                              generalize U.heap.size + 1 = c1
                              generalize U.heap.size = c0
                              exact rfl
                            exact AllReadyH.nil
                          exact AllReadyH.nil
                        exact AllReadyH.nil
                      refine AllReadyH.cons (o := { dst := some 9, op := Op.alloc 29, type := 0, pos := "more2.go:41", after := #[], guard := none }) rfl (fun K hK => ?_) ?_
                      · go_simp
                        refine hK.out _ _ ?_ (fun hHeld => ?_)
                        · exact Held.step (by assumption) ((Below.refl _ _).alloc (Nat.le_refl _) _)
                        clear hK K
                        (try simp only [Act.put, List.setIfInBounds_toArray, List.set_cons_zero, List.set_cons_succ])
                        refine wpAnyH_ready (rs := [1, 5]) (by kernel_rfl) (by simp) ?_
                        refine AllReadyH.cons (o := { dst := some 49, op := Op.makeSlice 24 (Operand.tmp 48) (Operand.tmp 48), type := 24, pos := "more2.go:41", after := #[{ on := 0, ground := Ground.data }, { on := 0, ground := Ground.data }], guard := none }) rfl (fun K hK => ?_) ?_
                        · have mk := MI.out; go_simp
                          refine hK.out _ _ ?_ (fun hHeld => ?_)
                          · exact Held.step (by assumption) ((Below.refl _ _).alloc (Nat.le_refl _) _)
                          clear hK K
                          (try simp only [Act.put, List.setIfInBounds_toArray, List.set_cons_zero, List.set_cons_succ])
                          refine wpAnyH_ready (rs := [5]) (by kernel_rfl) (by simp) ?_
                          refine AllReadyH.cons (o := { dst := some 53, op := Op.makeSlice 27 (Operand.tmp 52) (Operand.tmp 52), type := 27, pos := "more2.go:41", after := #[{ on := 4, ground := Ground.data }, { on := 4, ground := Ground.data }], guard := none }) rfl (fun K hK => ?_) ?_
                          · have mk := MD.out; go_simp
                            refine hK.out _ _ ?_ (fun hHeld => ?_)
                            · exact Held.step (by assumption) ((Below.refl _ _).alloc (Nat.le_refl _) _)
                            clear hK K
                            (try simp only [Act.put, List.setIfInBounds_toArray, List.set_cons_zero, List.set_cons_succ])
                            refine wpAnyH_take (i := 6) (oi := { dst := some 54, op := Op.build 29 #[(0, Operand.const (Value.int IntKind.i64 7)), (7, Operand.tmp 49), (9, Operand.tmp 51), (10, Operand.tmp 53)], type := 29, pos := "more2.go:41", after := #[{ on := 1, ground := Ground.data }, { on := 3, ground := Ground.data }, { on := 5, ground := Ground.data }], guard := none }) (v := .agg #[.int .i64 7, .int .i64 0, .int .i64 0, .int .i64 0, .string ⟨#[]⟩, .bool false, .string ⟨#[]⟩, .string ⟨#[]⟩, .int .i64 0, .int .i64 0, .slice (some ⟨U.heap.size + 2, 0, none⟩) p p, .slice none 0 0, .slice (some ⟨U.heap.size, 0, none⟩) t t, .slice (some ⟨U.heap.size + 3, 0, none⟩) d d]) rfl (by kernel_rfl) (by kernel_rfl) (by kernel_rfl) (fun _ _ _ h => h) (Or.inl ⟨by rfl, fun w' hSw => by ((try dsimp only at hSw); go_simp)⟩) (by assumption) ?_
                            (try simp only [Act.put, List.setIfInBounds_toArray, List.set_cons_zero, List.set_cons_succ])
                            have h3 : Bx (((((U.alloc (.cells (zT t) 41)).alloc (.cells #[.int .i64 0, .int .i64 0, .int .i64 0, .int .i64 0, .string ⟨#[]⟩, .bool false, .string ⟨#[]⟩, .string ⟨#[]⟩, .int .i64 0, .int .i64 0, .slice none 0 0, .slice none 0 0, .slice none 0 0, .slice none 0 0] 29)).alloc (.cells (zI p) 3)).alloc (.cells (zD d) 73)).drew) (U.heap.size) (zT t) 41 := by
                              exact (((Bx.new U _ _).alloc _ |>.alloc _ |>.alloc _) : Bx ((((U.alloc (.cells (zT t) 41)).alloc (.cells #[.int .i64 0, .int .i64 0, .int .i64 0, .int .i64 0, .string ⟨#[]⟩, .bool false, .string ⟨#[]⟩, .string ⟨#[]⟩, .int .i64 0, .int .i64 0, .slice none 0 0, .slice none 0 0, .slice none 0 0, .slice none 0 0] 29)).alloc (.cells (zI p) 3)).alloc (.cells (zD d) 73)) _ _ _)
                            have h7 : Bx (((((U.alloc (.cells (zT t) 41)).alloc (.cells #[.int .i64 0, .int .i64 0, .int .i64 0, .int .i64 0, .string ⟨#[]⟩, .bool false, .string ⟨#[]⟩, .string ⟨#[]⟩, .int .i64 0, .int .i64 0, .slice none 0 0, .slice none 0 0, .slice none 0 0, .slice none 0 0] 29)).alloc (.cells (zI p) 3)).alloc (.cells (zD d) 73)).drew) (U.heap.size + 1) #[.int .i64 0, .int .i64 0, .int .i64 0, .int .i64 0, .string ⟨#[]⟩, .bool false, .string ⟨#[]⟩, .string ⟨#[]⟩, .int .i64 0, .int .i64 0, .slice none 0 0, .slice none 0 0, .slice none 0 0, .slice none 0 0] 29 := by
                              rw [show U.heap.size + 1 = (U.alloc (.cells (zT t) 41)).heap.size by simp]
                              exact (((Bx.new (U.alloc (.cells (zT t) 41)) _ _).alloc _ |>.alloc _) : Bx ((((U.alloc (.cells (zT t) 41)).alloc (.cells #[.int .i64 0, .int .i64 0, .int .i64 0, .int .i64 0, .string ⟨#[]⟩, .bool false, .string ⟨#[]⟩, .string ⟨#[]⟩, .int .i64 0, .int .i64 0, .slice none 0 0, .slice none 0 0, .slice none 0 0, .slice none 0 0] 29)).alloc (.cells (zI p) 3)).alloc (.cells (zD d) 73)) _ _ _)
                            have h1 : Bx (((((U.alloc (.cells (zT t) 41)).alloc (.cells #[.int .i64 0, .int .i64 0, .int .i64 0, .int .i64 0, .string ⟨#[]⟩, .bool false, .string ⟨#[]⟩, .string ⟨#[]⟩, .int .i64 0, .int .i64 0, .slice none 0 0, .slice none 0 0, .slice none 0 0, .slice none 0 0] 29)).alloc (.cells (zI p) 3)).alloc (.cells (zD d) 73)).drew) (U.heap.size + 2) (zI p) 3 := by
                              rw [show U.heap.size + 2 = ((U.alloc (.cells (zT t) 41)).alloc (.cells #[.int .i64 0, .int .i64 0, .int .i64 0, .int .i64 0, .string ⟨#[]⟩, .bool false, .string ⟨#[]⟩, .string ⟨#[]⟩, .int .i64 0, .int .i64 0, .slice none 0 0, .slice none 0 0, .slice none 0 0, .slice none 0 0] 29)).heap.size by simp]
                              exact (((Bx.new ((U.alloc (.cells (zT t) 41)).alloc (.cells #[.int .i64 0, .int .i64 0, .int .i64 0, .int .i64 0, .string ⟨#[]⟩, .bool false, .string ⟨#[]⟩, .string ⟨#[]⟩, .int .i64 0, .int .i64 0, .slice none 0 0, .slice none 0 0, .slice none 0 0, .slice none 0 0] 29)) _ _).alloc _) : Bx ((((U.alloc (.cells (zT t) 41)).alloc (.cells #[.int .i64 0, .int .i64 0, .int .i64 0, .int .i64 0, .string ⟨#[]⟩, .bool false, .string ⟨#[]⟩, .string ⟨#[]⟩, .int .i64 0, .int .i64 0, .slice none 0 0, .slice none 0 0, .slice none 0 0, .slice none 0 0] 29)).alloc (.cells (zI p) 3)).alloc (.cells (zD d) 73)) _ _ _)
                            have h5 : Bx (((((U.alloc (.cells (zT t) 41)).alloc (.cells #[.int .i64 0, .int .i64 0, .int .i64 0, .int .i64 0, .string ⟨#[]⟩, .bool false, .string ⟨#[]⟩, .string ⟨#[]⟩, .int .i64 0, .int .i64 0, .slice none 0 0, .slice none 0 0, .slice none 0 0, .slice none 0 0] 29)).alloc (.cells (zI p) 3)).alloc (.cells (zD d) 73)).drew) (U.heap.size + 3) (zD d) 73 := by
                              rw [show U.heap.size + 3 = (((U.alloc (.cells (zT t) 41)).alloc (.cells #[.int .i64 0, .int .i64 0, .int .i64 0, .int .i64 0, .string ⟨#[]⟩, .bool false, .string ⟨#[]⟩, .string ⟨#[]⟩, .int .i64 0, .int .i64 0, .slice none 0 0, .slice none 0 0, .slice none 0 0, .slice none 0 0] 29)).alloc (.cells (zI p) 3)).heap.size by simp]
                              exact (((Bx.new (((U.alloc (.cells (zT t) 41)).alloc (.cells #[.int .i64 0, .int .i64 0, .int .i64 0, .int .i64 0, .string ⟨#[]⟩, .bool false, .string ⟨#[]⟩, .string ⟨#[]⟩, .int .i64 0, .int .i64 0, .slice none 0 0, .slice none 0 0, .slice none 0 0, .slice none 0 0] 29)).alloc (.cells (zI p) 3)) _ _)) : Bx ((((U.alloc (.cells (zT t) 41)).alloc (.cells #[.int .i64 0, .int .i64 0, .int .i64 0, .int .i64 0, .string ⟨#[]⟩, .bool false, .string ⟨#[]⟩, .string ⟨#[]⟩, .int .i64 0, .int .i64 0, .slice none 0 0, .slice none 0 0, .slice none 0 0, .slice none 0 0] 29)).alloc (.cells (zI p) 3)).alloc (.cells (zD d) 73)) _ _ _)
                            have HG := MkAt.put hHeld h1 h3 h5 h7 (by omega) (by omega) (by omega) (by omega)
                            refine wpAnyH_ready (rs := [8]) (by kernel_rfl) (by simp) ?_
                            refine AllReadyH.cons (o := { dst := none, op := Op.store 29 (Operand.tmp 9) (Operand.tmp 54), type := 0, pos := "more2.go:41", after := #[{ on := 7, ground := Ground.data }, { on := 6, ground := Ground.data }, { on := 0, ground := Ground.phase }, { on := 1, ground := Ground.phase }, { on := 2, ground := Ground.phase }, { on := 3, ground := Ground.phase }, { on := 4, ground := Ground.phase }, { on := 5, ground := Ground.phase }, { on := 6, ground := Ground.phase }, { on := 7, ground := Ground.phase }], guard := none }) rfl (fun K hK => ?_) ?_
                            · refine step_store_row rfl 29 (.tmp 9) (.tmp 54) rfl (U.heap.size + 1) #[.int .i64 7, .int .i64 0, .int .i64 0, .int .i64 0, .string ⟨#[]⟩, .bool false, .string ⟨#[]⟩, .string ⟨#[]⟩, .int .i64 0, .int .i64 0, .slice (some ⟨U.heap.size + 2, 0, none⟩) p p, .slice none 0 0, .slice (some ⟨U.heap.size, 0, none⟩) t t, .slice (some ⟨U.heap.size + 3, 0, none⟩) d d] rfl rfl 29 _ h7 (by kernel_rfl) rfl (by simp [Value.oneCell']) ?_
                              refine hK.out _ _ ?_ (fun hHeld => ?_)
                              · exact below_row hHeld (by omega)
                              clear hK K
                              (try simp only [Act.put, List.setIfInBounds_toArray, List.set_cons_zero, List.set_cons_succ])
                              refine wpAnyH_done (by kernel_rfl) ?_ _
                              refine NoPanic.normal ?_
                              refine ⟨rfl, U.heap.size + 2, U.heap.size, U.heap.size + 3, U.heap.size + 1, ?_, HG⟩
                              clear hHeld HG h1 h3 h5 h7
                              generalize U.heap.size + 3 = c3
                              generalize U.heap.size + 2 = c2
                              generalize U.heap.size + 1 = c1
                              generalize U.heap.size = c0
                              exact rfl
                            exact AllReadyH.nil
                          exact AllReadyH.nil
                        refine AllReadyH.cons (o := { dst := some 53, op := Op.makeSlice 27 (Operand.tmp 52) (Operand.tmp 52), type := 27, pos := "more2.go:41", after := #[{ on := 4, ground := Ground.data }, { on := 4, ground := Ground.data }], guard := none }) rfl (fun K hK => ?_) ?_
                        · have mk := MD.out; go_simp
                          refine hK.out _ _ ?_ (fun hHeld => ?_)
                          · exact Held.step (by assumption) ((Below.refl _ _).alloc (Nat.le_refl _) _)
                          clear hK K
                          (try simp only [Act.put, List.setIfInBounds_toArray, List.set_cons_zero, List.set_cons_succ])
                          refine wpAnyH_ready (rs := [1]) (by kernel_rfl) (by simp) ?_
                          refine AllReadyH.cons (o := { dst := some 49, op := Op.makeSlice 24 (Operand.tmp 48) (Operand.tmp 48), type := 24, pos := "more2.go:41", after := #[{ on := 0, ground := Ground.data }, { on := 0, ground := Ground.data }], guard := none }) rfl (fun K hK => ?_) ?_
                          · have mk := MI.out; go_simp
                            refine hK.out _ _ ?_ (fun hHeld => ?_)
                            · exact Held.step (by assumption) ((Below.refl _ _).alloc (Nat.le_refl _) _)
                            clear hK K
                            (try simp only [Act.put, List.setIfInBounds_toArray, List.set_cons_zero, List.set_cons_succ])
                            refine wpAnyH_take (i := 6) (oi := { dst := some 54, op := Op.build 29 #[(0, Operand.const (Value.int IntKind.i64 7)), (7, Operand.tmp 49), (9, Operand.tmp 51), (10, Operand.tmp 53)], type := 29, pos := "more2.go:41", after := #[{ on := 1, ground := Ground.data }, { on := 3, ground := Ground.data }, { on := 5, ground := Ground.data }], guard := none }) (v := .agg #[.int .i64 7, .int .i64 0, .int .i64 0, .int .i64 0, .string ⟨#[]⟩, .bool false, .string ⟨#[]⟩, .string ⟨#[]⟩, .int .i64 0, .int .i64 0, .slice (some ⟨U.heap.size + 3, 0, none⟩) p p, .slice none 0 0, .slice (some ⟨U.heap.size, 0, none⟩) t t, .slice (some ⟨U.heap.size + 2, 0, none⟩) d d]) rfl (by kernel_rfl) (by kernel_rfl) (by kernel_rfl) (fun _ _ _ h => h) (Or.inl ⟨by rfl, fun w' hSw => by ((try dsimp only at hSw); go_simp)⟩) (by assumption) ?_
                            (try simp only [Act.put, List.setIfInBounds_toArray, List.set_cons_zero, List.set_cons_succ])
                            have h3 : Bx (((((U.alloc (.cells (zT t) 41)).alloc (.cells #[.int .i64 0, .int .i64 0, .int .i64 0, .int .i64 0, .string ⟨#[]⟩, .bool false, .string ⟨#[]⟩, .string ⟨#[]⟩, .int .i64 0, .int .i64 0, .slice none 0 0, .slice none 0 0, .slice none 0 0, .slice none 0 0] 29)).alloc (.cells (zD d) 73)).alloc (.cells (zI p) 3)).drew) (U.heap.size) (zT t) 41 := by
                              exact (((Bx.new U _ _).alloc _ |>.alloc _ |>.alloc _) : Bx ((((U.alloc (.cells (zT t) 41)).alloc (.cells #[.int .i64 0, .int .i64 0, .int .i64 0, .int .i64 0, .string ⟨#[]⟩, .bool false, .string ⟨#[]⟩, .string ⟨#[]⟩, .int .i64 0, .int .i64 0, .slice none 0 0, .slice none 0 0, .slice none 0 0, .slice none 0 0] 29)).alloc (.cells (zD d) 73)).alloc (.cells (zI p) 3)) _ _ _)
                            have h7 : Bx (((((U.alloc (.cells (zT t) 41)).alloc (.cells #[.int .i64 0, .int .i64 0, .int .i64 0, .int .i64 0, .string ⟨#[]⟩, .bool false, .string ⟨#[]⟩, .string ⟨#[]⟩, .int .i64 0, .int .i64 0, .slice none 0 0, .slice none 0 0, .slice none 0 0, .slice none 0 0] 29)).alloc (.cells (zD d) 73)).alloc (.cells (zI p) 3)).drew) (U.heap.size + 1) #[.int .i64 0, .int .i64 0, .int .i64 0, .int .i64 0, .string ⟨#[]⟩, .bool false, .string ⟨#[]⟩, .string ⟨#[]⟩, .int .i64 0, .int .i64 0, .slice none 0 0, .slice none 0 0, .slice none 0 0, .slice none 0 0] 29 := by
                              rw [show U.heap.size + 1 = (U.alloc (.cells (zT t) 41)).heap.size by simp]
                              exact (((Bx.new (U.alloc (.cells (zT t) 41)) _ _).alloc _ |>.alloc _) : Bx ((((U.alloc (.cells (zT t) 41)).alloc (.cells #[.int .i64 0, .int .i64 0, .int .i64 0, .int .i64 0, .string ⟨#[]⟩, .bool false, .string ⟨#[]⟩, .string ⟨#[]⟩, .int .i64 0, .int .i64 0, .slice none 0 0, .slice none 0 0, .slice none 0 0, .slice none 0 0] 29)).alloc (.cells (zD d) 73)).alloc (.cells (zI p) 3)) _ _ _)
                            have h5 : Bx (((((U.alloc (.cells (zT t) 41)).alloc (.cells #[.int .i64 0, .int .i64 0, .int .i64 0, .int .i64 0, .string ⟨#[]⟩, .bool false, .string ⟨#[]⟩, .string ⟨#[]⟩, .int .i64 0, .int .i64 0, .slice none 0 0, .slice none 0 0, .slice none 0 0, .slice none 0 0] 29)).alloc (.cells (zD d) 73)).alloc (.cells (zI p) 3)).drew) (U.heap.size + 2) (zD d) 73 := by
                              rw [show U.heap.size + 2 = ((U.alloc (.cells (zT t) 41)).alloc (.cells #[.int .i64 0, .int .i64 0, .int .i64 0, .int .i64 0, .string ⟨#[]⟩, .bool false, .string ⟨#[]⟩, .string ⟨#[]⟩, .int .i64 0, .int .i64 0, .slice none 0 0, .slice none 0 0, .slice none 0 0, .slice none 0 0] 29)).heap.size by simp]
                              exact (((Bx.new ((U.alloc (.cells (zT t) 41)).alloc (.cells #[.int .i64 0, .int .i64 0, .int .i64 0, .int .i64 0, .string ⟨#[]⟩, .bool false, .string ⟨#[]⟩, .string ⟨#[]⟩, .int .i64 0, .int .i64 0, .slice none 0 0, .slice none 0 0, .slice none 0 0, .slice none 0 0] 29)) _ _).alloc _) : Bx ((((U.alloc (.cells (zT t) 41)).alloc (.cells #[.int .i64 0, .int .i64 0, .int .i64 0, .int .i64 0, .string ⟨#[]⟩, .bool false, .string ⟨#[]⟩, .string ⟨#[]⟩, .int .i64 0, .int .i64 0, .slice none 0 0, .slice none 0 0, .slice none 0 0, .slice none 0 0] 29)).alloc (.cells (zD d) 73)).alloc (.cells (zI p) 3)) _ _ _)
                            have h1 : Bx (((((U.alloc (.cells (zT t) 41)).alloc (.cells #[.int .i64 0, .int .i64 0, .int .i64 0, .int .i64 0, .string ⟨#[]⟩, .bool false, .string ⟨#[]⟩, .string ⟨#[]⟩, .int .i64 0, .int .i64 0, .slice none 0 0, .slice none 0 0, .slice none 0 0, .slice none 0 0] 29)).alloc (.cells (zD d) 73)).alloc (.cells (zI p) 3)).drew) (U.heap.size + 3) (zI p) 3 := by
                              rw [show U.heap.size + 3 = (((U.alloc (.cells (zT t) 41)).alloc (.cells #[.int .i64 0, .int .i64 0, .int .i64 0, .int .i64 0, .string ⟨#[]⟩, .bool false, .string ⟨#[]⟩, .string ⟨#[]⟩, .int .i64 0, .int .i64 0, .slice none 0 0, .slice none 0 0, .slice none 0 0, .slice none 0 0] 29)).alloc (.cells (zD d) 73)).heap.size by simp]
                              exact (((Bx.new (((U.alloc (.cells (zT t) 41)).alloc (.cells #[.int .i64 0, .int .i64 0, .int .i64 0, .int .i64 0, .string ⟨#[]⟩, .bool false, .string ⟨#[]⟩, .string ⟨#[]⟩, .int .i64 0, .int .i64 0, .slice none 0 0, .slice none 0 0, .slice none 0 0, .slice none 0 0] 29)).alloc (.cells (zD d) 73)) _ _)) : Bx ((((U.alloc (.cells (zT t) 41)).alloc (.cells #[.int .i64 0, .int .i64 0, .int .i64 0, .int .i64 0, .string ⟨#[]⟩, .bool false, .string ⟨#[]⟩, .string ⟨#[]⟩, .int .i64 0, .int .i64 0, .slice none 0 0, .slice none 0 0, .slice none 0 0, .slice none 0 0] 29)).alloc (.cells (zD d) 73)).alloc (.cells (zI p) 3)) _ _ _)
                            have HG := MkAt.put hHeld h1 h3 h5 h7 (by omega) (by omega) (by omega) (by omega)
                            refine wpAnyH_ready (rs := [8]) (by kernel_rfl) (by simp) ?_
                            refine AllReadyH.cons (o := { dst := none, op := Op.store 29 (Operand.tmp 9) (Operand.tmp 54), type := 0, pos := "more2.go:41", after := #[{ on := 7, ground := Ground.data }, { on := 6, ground := Ground.data }, { on := 0, ground := Ground.phase }, { on := 1, ground := Ground.phase }, { on := 2, ground := Ground.phase }, { on := 3, ground := Ground.phase }, { on := 4, ground := Ground.phase }, { on := 5, ground := Ground.phase }, { on := 6, ground := Ground.phase }, { on := 7, ground := Ground.phase }], guard := none }) rfl (fun K hK => ?_) ?_
                            · refine step_store_row rfl 29 (.tmp 9) (.tmp 54) rfl (U.heap.size + 1) #[.int .i64 7, .int .i64 0, .int .i64 0, .int .i64 0, .string ⟨#[]⟩, .bool false, .string ⟨#[]⟩, .string ⟨#[]⟩, .int .i64 0, .int .i64 0, .slice (some ⟨U.heap.size + 3, 0, none⟩) p p, .slice none 0 0, .slice (some ⟨U.heap.size, 0, none⟩) t t, .slice (some ⟨U.heap.size + 2, 0, none⟩) d d] rfl rfl 29 _ h7 (by kernel_rfl) rfl (by simp [Value.oneCell']) ?_
                              refine hK.out _ _ ?_ (fun hHeld => ?_)
                              · exact below_row hHeld (by omega)
                              clear hK K
                              (try simp only [Act.put, List.setIfInBounds_toArray, List.set_cons_zero, List.set_cons_succ])
                              refine wpAnyH_done (by kernel_rfl) ?_ _
                              refine NoPanic.normal ?_
                              refine ⟨rfl, U.heap.size + 3, U.heap.size, U.heap.size + 2, U.heap.size + 1, ?_, HG⟩
                              clear hHeld HG h1 h3 h5 h7
                              generalize U.heap.size + 3 = c3
                              generalize U.heap.size + 2 = c2
                              generalize U.heap.size + 1 = c1
                              generalize U.heap.size = c0
                              exact rfl
                            exact AllReadyH.nil
                          exact AllReadyH.nil
                        exact AllReadyH.nil
                      exact AllReadyH.nil
                    refine AllReadyH.cons (o := { dst := some 53, op := Op.makeSlice 27 (Operand.tmp 52) (Operand.tmp 52), type := 27, pos := "more2.go:41", after := #[{ on := 4, ground := Ground.data }, { on := 4, ground := Ground.data }], guard := none }) rfl (fun K hK => ?_) ?_
                    · have mk := MD.out; go_simp
                      refine hK.out _ _ ?_ (fun hHeld => ?_)
                      · exact Held.step (by assumption) ((Below.refl _ _).alloc (Nat.le_refl _) _)
                      clear hK K
                      (try simp only [Act.put, List.setIfInBounds_toArray, List.set_cons_zero, List.set_cons_succ])
                      refine wpAnyH_ready (rs := [1, 3, 7]) (by kernel_rfl) (by simp) ?_
                      refine AllReadyH.cons (o := { dst := some 49, op := Op.makeSlice 24 (Operand.tmp 48) (Operand.tmp 48), type := 24, pos := "more2.go:41", after := #[{ on := 0, ground := Ground.data }, { on := 0, ground := Ground.data }], guard := none }) rfl (fun K hK => ?_) ?_
                      · have mk := MI.out; go_simp
                        refine hK.out _ _ ?_ (fun hHeld => ?_)
                        · exact Held.step (by assumption) ((Below.refl _ _).alloc (Nat.le_refl _) _)
                        clear hK K
                        (try simp only [Act.put, List.setIfInBounds_toArray, List.set_cons_zero, List.set_cons_succ])
                        refine wpAnyH_ready (rs := [3, 7]) (by kernel_rfl) (by simp) ?_
                        refine AllReadyH.cons (o := { dst := some 51, op := Op.makeSlice 26 (Operand.tmp 50) (Operand.tmp 50), type := 26, pos := "more2.go:41", after := #[{ on := 2, ground := Ground.data }, { on := 2, ground := Ground.data }], guard := none }) rfl (fun K hK => ?_) ?_
                        · have mk := MT.out; go_simp
                          refine hK.out _ _ ?_ (fun hHeld => ?_)
                          · exact Held.step (by assumption) ((Below.refl _ _).alloc (Nat.le_refl _) _)
                          clear hK K
                          (try simp only [Act.put, List.setIfInBounds_toArray, List.set_cons_zero, List.set_cons_succ])
                          refine wpAnyH_take (i := 6) (oi := { dst := some 54, op := Op.build 29 #[(0, Operand.const (Value.int IntKind.i64 7)), (7, Operand.tmp 49), (9, Operand.tmp 51), (10, Operand.tmp 53)], type := 29, pos := "more2.go:41", after := #[{ on := 1, ground := Ground.data }, { on := 3, ground := Ground.data }, { on := 5, ground := Ground.data }], guard := none }) (v := .agg #[.int .i64 7, .int .i64 0, .int .i64 0, .int .i64 0, .string ⟨#[]⟩, .bool false, .string ⟨#[]⟩, .string ⟨#[]⟩, .int .i64 0, .int .i64 0, .slice (some ⟨U.heap.size + 1, 0, none⟩) p p, .slice none 0 0, .slice (some ⟨U.heap.size + 2, 0, none⟩) t t, .slice (some ⟨U.heap.size, 0, none⟩) d d]) rfl (by kernel_rfl) (by kernel_rfl) (by kernel_rfl) (fun _ _ _ h => h) (Or.inl ⟨by rfl, fun w' hSw => by ((try dsimp only at hSw); go_simp)⟩) (by assumption) ?_
                          (try simp only [Act.put, List.setIfInBounds_toArray, List.set_cons_zero, List.set_cons_succ])
                          refine wpAnyH_ready (rs := [7]) (by kernel_rfl) (by simp) ?_
                          refine AllReadyH.cons (o := { dst := some 9, op := Op.alloc 29, type := 0, pos := "more2.go:41", after := #[], guard := none }) rfl (fun K hK => ?_) ?_
                          · go_simp
                            refine hK.out _ _ ?_ (fun hHeld => ?_)
                            · exact Held.step (by assumption) ((Below.refl _ _).alloc (Nat.le_refl _) _)
                            clear hK K
                            (try simp only [Act.put, List.setIfInBounds_toArray, List.set_cons_zero, List.set_cons_succ])
                            have h5 : Bx (((((U.alloc (.cells (zD d) 73)).alloc (.cells (zI p) 3)).alloc (.cells (zT t) 41)).alloc (.cells #[.int .i64 0, .int .i64 0, .int .i64 0, .int .i64 0, .string ⟨#[]⟩, .bool false, .string ⟨#[]⟩, .string ⟨#[]⟩, .int .i64 0, .int .i64 0, .slice none 0 0, .slice none 0 0, .slice none 0 0, .slice none 0 0] 29)).drew) (U.heap.size) (zD d) 73 := by
                              exact (((Bx.new U _ _).alloc _ |>.alloc _ |>.alloc _) : Bx ((((U.alloc (.cells (zD d) 73)).alloc (.cells (zI p) 3)).alloc (.cells (zT t) 41)).alloc (.cells #[.int .i64 0, .int .i64 0, .int .i64 0, .int .i64 0, .string ⟨#[]⟩, .bool false, .string ⟨#[]⟩, .string ⟨#[]⟩, .int .i64 0, .int .i64 0, .slice none 0 0, .slice none 0 0, .slice none 0 0, .slice none 0 0] 29)) _ _ _)
                            have h1 : Bx (((((U.alloc (.cells (zD d) 73)).alloc (.cells (zI p) 3)).alloc (.cells (zT t) 41)).alloc (.cells #[.int .i64 0, .int .i64 0, .int .i64 0, .int .i64 0, .string ⟨#[]⟩, .bool false, .string ⟨#[]⟩, .string ⟨#[]⟩, .int .i64 0, .int .i64 0, .slice none 0 0, .slice none 0 0, .slice none 0 0, .slice none 0 0] 29)).drew) (U.heap.size + 1) (zI p) 3 := by
                              rw [show U.heap.size + 1 = (U.alloc (.cells (zD d) 73)).heap.size by simp]
                              exact (((Bx.new (U.alloc (.cells (zD d) 73)) _ _).alloc _ |>.alloc _) : Bx ((((U.alloc (.cells (zD d) 73)).alloc (.cells (zI p) 3)).alloc (.cells (zT t) 41)).alloc (.cells #[.int .i64 0, .int .i64 0, .int .i64 0, .int .i64 0, .string ⟨#[]⟩, .bool false, .string ⟨#[]⟩, .string ⟨#[]⟩, .int .i64 0, .int .i64 0, .slice none 0 0, .slice none 0 0, .slice none 0 0, .slice none 0 0] 29)) _ _ _)
                            have h3 : Bx (((((U.alloc (.cells (zD d) 73)).alloc (.cells (zI p) 3)).alloc (.cells (zT t) 41)).alloc (.cells #[.int .i64 0, .int .i64 0, .int .i64 0, .int .i64 0, .string ⟨#[]⟩, .bool false, .string ⟨#[]⟩, .string ⟨#[]⟩, .int .i64 0, .int .i64 0, .slice none 0 0, .slice none 0 0, .slice none 0 0, .slice none 0 0] 29)).drew) (U.heap.size + 2) (zT t) 41 := by
                              rw [show U.heap.size + 2 = ((U.alloc (.cells (zD d) 73)).alloc (.cells (zI p) 3)).heap.size by simp]
                              exact (((Bx.new ((U.alloc (.cells (zD d) 73)).alloc (.cells (zI p) 3)) _ _).alloc _) : Bx ((((U.alloc (.cells (zD d) 73)).alloc (.cells (zI p) 3)).alloc (.cells (zT t) 41)).alloc (.cells #[.int .i64 0, .int .i64 0, .int .i64 0, .int .i64 0, .string ⟨#[]⟩, .bool false, .string ⟨#[]⟩, .string ⟨#[]⟩, .int .i64 0, .int .i64 0, .slice none 0 0, .slice none 0 0, .slice none 0 0, .slice none 0 0] 29)) _ _ _)
                            have h7 : Bx (((((U.alloc (.cells (zD d) 73)).alloc (.cells (zI p) 3)).alloc (.cells (zT t) 41)).alloc (.cells #[.int .i64 0, .int .i64 0, .int .i64 0, .int .i64 0, .string ⟨#[]⟩, .bool false, .string ⟨#[]⟩, .string ⟨#[]⟩, .int .i64 0, .int .i64 0, .slice none 0 0, .slice none 0 0, .slice none 0 0, .slice none 0 0] 29)).drew) (U.heap.size + 3) #[.int .i64 0, .int .i64 0, .int .i64 0, .int .i64 0, .string ⟨#[]⟩, .bool false, .string ⟨#[]⟩, .string ⟨#[]⟩, .int .i64 0, .int .i64 0, .slice none 0 0, .slice none 0 0, .slice none 0 0, .slice none 0 0] 29 := by
                              rw [show U.heap.size + 3 = (((U.alloc (.cells (zD d) 73)).alloc (.cells (zI p) 3)).alloc (.cells (zT t) 41)).heap.size by simp]
                              exact (((Bx.new (((U.alloc (.cells (zD d) 73)).alloc (.cells (zI p) 3)).alloc (.cells (zT t) 41)) _ _)) : Bx ((((U.alloc (.cells (zD d) 73)).alloc (.cells (zI p) 3)).alloc (.cells (zT t) 41)).alloc (.cells #[.int .i64 0, .int .i64 0, .int .i64 0, .int .i64 0, .string ⟨#[]⟩, .bool false, .string ⟨#[]⟩, .string ⟨#[]⟩, .int .i64 0, .int .i64 0, .slice none 0 0, .slice none 0 0, .slice none 0 0, .slice none 0 0] 29)) _ _ _)
                            have HG := MkAt.put hHeld h1 h3 h5 h7 (by omega) (by omega) (by omega) (by omega)
                            refine wpAnyH_ready (rs := [8]) (by kernel_rfl) (by simp) ?_
                            refine AllReadyH.cons (o := { dst := none, op := Op.store 29 (Operand.tmp 9) (Operand.tmp 54), type := 0, pos := "more2.go:41", after := #[{ on := 7, ground := Ground.data }, { on := 6, ground := Ground.data }, { on := 0, ground := Ground.phase }, { on := 1, ground := Ground.phase }, { on := 2, ground := Ground.phase }, { on := 3, ground := Ground.phase }, { on := 4, ground := Ground.phase }, { on := 5, ground := Ground.phase }, { on := 6, ground := Ground.phase }, { on := 7, ground := Ground.phase }], guard := none }) rfl (fun K hK => ?_) ?_
                            · refine step_store_row rfl 29 (.tmp 9) (.tmp 54) rfl (U.heap.size + 3) #[.int .i64 7, .int .i64 0, .int .i64 0, .int .i64 0, .string ⟨#[]⟩, .bool false, .string ⟨#[]⟩, .string ⟨#[]⟩, .int .i64 0, .int .i64 0, .slice (some ⟨U.heap.size + 1, 0, none⟩) p p, .slice none 0 0, .slice (some ⟨U.heap.size + 2, 0, none⟩) t t, .slice (some ⟨U.heap.size, 0, none⟩) d d] rfl rfl 29 _ h7 (by kernel_rfl) rfl (by simp [Value.oneCell']) ?_
                              refine hK.out _ _ ?_ (fun hHeld => ?_)
                              · exact below_row hHeld (by omega)
                              clear hK K
                              (try simp only [Act.put, List.setIfInBounds_toArray, List.set_cons_zero, List.set_cons_succ])
                              refine wpAnyH_done (by kernel_rfl) ?_ _
                              refine NoPanic.normal ?_
                              refine ⟨rfl, U.heap.size + 1, U.heap.size + 2, U.heap.size, U.heap.size + 3, ?_, HG⟩
                              clear hHeld HG h1 h3 h5 h7
                              generalize U.heap.size + 3 = c3
                              generalize U.heap.size + 2 = c2
                              generalize U.heap.size + 1 = c1
                              generalize U.heap.size = c0
                              exact rfl
                            exact AllReadyH.nil
                          exact AllReadyH.nil
                        refine AllReadyH.cons (o := { dst := some 9, op := Op.alloc 29, type := 0, pos := "more2.go:41", after := #[], guard := none }) rfl (fun K hK => ?_) ?_
                        · go_simp
                          refine hK.out _ _ ?_ (fun hHeld => ?_)
                          · exact Held.step (by assumption) ((Below.refl _ _).alloc (Nat.le_refl _) _)
                          clear hK K
                          (try simp only [Act.put, List.setIfInBounds_toArray, List.set_cons_zero, List.set_cons_succ])
                          refine wpAnyH_ready (rs := [3]) (by kernel_rfl) (by simp) ?_
                          refine AllReadyH.cons (o := { dst := some 51, op := Op.makeSlice 26 (Operand.tmp 50) (Operand.tmp 50), type := 26, pos := "more2.go:41", after := #[{ on := 2, ground := Ground.data }, { on := 2, ground := Ground.data }], guard := none }) rfl (fun K hK => ?_) ?_
                          · have mk := MT.out; go_simp
                            refine hK.out _ _ ?_ (fun hHeld => ?_)
                            · exact Held.step (by assumption) ((Below.refl _ _).alloc (Nat.le_refl _) _)
                            clear hK K
                            (try simp only [Act.put, List.setIfInBounds_toArray, List.set_cons_zero, List.set_cons_succ])
                            refine wpAnyH_take (i := 6) (oi := { dst := some 54, op := Op.build 29 #[(0, Operand.const (Value.int IntKind.i64 7)), (7, Operand.tmp 49), (9, Operand.tmp 51), (10, Operand.tmp 53)], type := 29, pos := "more2.go:41", after := #[{ on := 1, ground := Ground.data }, { on := 3, ground := Ground.data }, { on := 5, ground := Ground.data }], guard := none }) (v := .agg #[.int .i64 7, .int .i64 0, .int .i64 0, .int .i64 0, .string ⟨#[]⟩, .bool false, .string ⟨#[]⟩, .string ⟨#[]⟩, .int .i64 0, .int .i64 0, .slice (some ⟨U.heap.size + 1, 0, none⟩) p p, .slice none 0 0, .slice (some ⟨U.heap.size + 3, 0, none⟩) t t, .slice (some ⟨U.heap.size, 0, none⟩) d d]) rfl (by kernel_rfl) (by kernel_rfl) (by kernel_rfl) (fun _ _ _ h => h) (Or.inl ⟨by rfl, fun w' hSw => by ((try dsimp only at hSw); go_simp)⟩) (by assumption) ?_
                            (try simp only [Act.put, List.setIfInBounds_toArray, List.set_cons_zero, List.set_cons_succ])
                            have h5 : Bx (((((U.alloc (.cells (zD d) 73)).alloc (.cells (zI p) 3)).alloc (.cells #[.int .i64 0, .int .i64 0, .int .i64 0, .int .i64 0, .string ⟨#[]⟩, .bool false, .string ⟨#[]⟩, .string ⟨#[]⟩, .int .i64 0, .int .i64 0, .slice none 0 0, .slice none 0 0, .slice none 0 0, .slice none 0 0] 29)).alloc (.cells (zT t) 41)).drew) (U.heap.size) (zD d) 73 := by
                              exact (((Bx.new U _ _).alloc _ |>.alloc _ |>.alloc _) : Bx ((((U.alloc (.cells (zD d) 73)).alloc (.cells (zI p) 3)).alloc (.cells #[.int .i64 0, .int .i64 0, .int .i64 0, .int .i64 0, .string ⟨#[]⟩, .bool false, .string ⟨#[]⟩, .string ⟨#[]⟩, .int .i64 0, .int .i64 0, .slice none 0 0, .slice none 0 0, .slice none 0 0, .slice none 0 0] 29)).alloc (.cells (zT t) 41)) _ _ _)
                            have h1 : Bx (((((U.alloc (.cells (zD d) 73)).alloc (.cells (zI p) 3)).alloc (.cells #[.int .i64 0, .int .i64 0, .int .i64 0, .int .i64 0, .string ⟨#[]⟩, .bool false, .string ⟨#[]⟩, .string ⟨#[]⟩, .int .i64 0, .int .i64 0, .slice none 0 0, .slice none 0 0, .slice none 0 0, .slice none 0 0] 29)).alloc (.cells (zT t) 41)).drew) (U.heap.size + 1) (zI p) 3 := by
                              rw [show U.heap.size + 1 = (U.alloc (.cells (zD d) 73)).heap.size by simp]
                              exact (((Bx.new (U.alloc (.cells (zD d) 73)) _ _).alloc _ |>.alloc _) : Bx ((((U.alloc (.cells (zD d) 73)).alloc (.cells (zI p) 3)).alloc (.cells #[.int .i64 0, .int .i64 0, .int .i64 0, .int .i64 0, .string ⟨#[]⟩, .bool false, .string ⟨#[]⟩, .string ⟨#[]⟩, .int .i64 0, .int .i64 0, .slice none 0 0, .slice none 0 0, .slice none 0 0, .slice none 0 0] 29)).alloc (.cells (zT t) 41)) _ _ _)
                            have h7 : Bx (((((U.alloc (.cells (zD d) 73)).alloc (.cells (zI p) 3)).alloc (.cells #[.int .i64 0, .int .i64 0, .int .i64 0, .int .i64 0, .string ⟨#[]⟩, .bool false, .string ⟨#[]⟩, .string ⟨#[]⟩, .int .i64 0, .int .i64 0, .slice none 0 0, .slice none 0 0, .slice none 0 0, .slice none 0 0] 29)).alloc (.cells (zT t) 41)).drew) (U.heap.size + 2) #[.int .i64 0, .int .i64 0, .int .i64 0, .int .i64 0, .string ⟨#[]⟩, .bool false, .string ⟨#[]⟩, .string ⟨#[]⟩, .int .i64 0, .int .i64 0, .slice none 0 0, .slice none 0 0, .slice none 0 0, .slice none 0 0] 29 := by
                              rw [show U.heap.size + 2 = ((U.alloc (.cells (zD d) 73)).alloc (.cells (zI p) 3)).heap.size by simp]
                              exact (((Bx.new ((U.alloc (.cells (zD d) 73)).alloc (.cells (zI p) 3)) _ _).alloc _) : Bx ((((U.alloc (.cells (zD d) 73)).alloc (.cells (zI p) 3)).alloc (.cells #[.int .i64 0, .int .i64 0, .int .i64 0, .int .i64 0, .string ⟨#[]⟩, .bool false, .string ⟨#[]⟩, .string ⟨#[]⟩, .int .i64 0, .int .i64 0, .slice none 0 0, .slice none 0 0, .slice none 0 0, .slice none 0 0] 29)).alloc (.cells (zT t) 41)) _ _ _)
                            have h3 : Bx (((((U.alloc (.cells (zD d) 73)).alloc (.cells (zI p) 3)).alloc (.cells #[.int .i64 0, .int .i64 0, .int .i64 0, .int .i64 0, .string ⟨#[]⟩, .bool false, .string ⟨#[]⟩, .string ⟨#[]⟩, .int .i64 0, .int .i64 0, .slice none 0 0, .slice none 0 0, .slice none 0 0, .slice none 0 0] 29)).alloc (.cells (zT t) 41)).drew) (U.heap.size + 3) (zT t) 41 := by
                              rw [show U.heap.size + 3 = (((U.alloc (.cells (zD d) 73)).alloc (.cells (zI p) 3)).alloc (.cells #[.int .i64 0, .int .i64 0, .int .i64 0, .int .i64 0, .string ⟨#[]⟩, .bool false, .string ⟨#[]⟩, .string ⟨#[]⟩, .int .i64 0, .int .i64 0, .slice none 0 0, .slice none 0 0, .slice none 0 0, .slice none 0 0] 29)).heap.size by simp]
                              exact (((Bx.new (((U.alloc (.cells (zD d) 73)).alloc (.cells (zI p) 3)).alloc (.cells #[.int .i64 0, .int .i64 0, .int .i64 0, .int .i64 0, .string ⟨#[]⟩, .bool false, .string ⟨#[]⟩, .string ⟨#[]⟩, .int .i64 0, .int .i64 0, .slice none 0 0, .slice none 0 0, .slice none 0 0, .slice none 0 0] 29)) _ _)) : Bx ((((U.alloc (.cells (zD d) 73)).alloc (.cells (zI p) 3)).alloc (.cells #[.int .i64 0, .int .i64 0, .int .i64 0, .int .i64 0, .string ⟨#[]⟩, .bool false, .string ⟨#[]⟩, .string ⟨#[]⟩, .int .i64 0, .int .i64 0, .slice none 0 0, .slice none 0 0, .slice none 0 0, .slice none 0 0] 29)).alloc (.cells (zT t) 41)) _ _ _)
                            have HG := MkAt.put hHeld h1 h3 h5 h7 (by omega) (by omega) (by omega) (by omega)
                            refine wpAnyH_ready (rs := [8]) (by kernel_rfl) (by simp) ?_
                            refine AllReadyH.cons (o := { dst := none, op := Op.store 29 (Operand.tmp 9) (Operand.tmp 54), type := 0, pos := "more2.go:41", after := #[{ on := 7, ground := Ground.data }, { on := 6, ground := Ground.data }, { on := 0, ground := Ground.phase }, { on := 1, ground := Ground.phase }, { on := 2, ground := Ground.phase }, { on := 3, ground := Ground.phase }, { on := 4, ground := Ground.phase }, { on := 5, ground := Ground.phase }, { on := 6, ground := Ground.phase }, { on := 7, ground := Ground.phase }], guard := none }) rfl (fun K hK => ?_) ?_
                            · refine step_store_row rfl 29 (.tmp 9) (.tmp 54) rfl (U.heap.size + 2) #[.int .i64 7, .int .i64 0, .int .i64 0, .int .i64 0, .string ⟨#[]⟩, .bool false, .string ⟨#[]⟩, .string ⟨#[]⟩, .int .i64 0, .int .i64 0, .slice (some ⟨U.heap.size + 1, 0, none⟩) p p, .slice none 0 0, .slice (some ⟨U.heap.size + 3, 0, none⟩) t t, .slice (some ⟨U.heap.size, 0, none⟩) d d] rfl rfl 29 _ h7 (by kernel_rfl) rfl (by simp [Value.oneCell']) ?_
                              refine hK.out _ _ ?_ (fun hHeld => ?_)
                              · exact below_row hHeld (by omega)
                              clear hK K
                              (try simp only [Act.put, List.setIfInBounds_toArray, List.set_cons_zero, List.set_cons_succ])
                              refine wpAnyH_done (by kernel_rfl) ?_ _
                              refine NoPanic.normal ?_
                              refine ⟨rfl, U.heap.size + 1, U.heap.size + 3, U.heap.size, U.heap.size + 2, ?_, HG⟩
                              clear hHeld HG h1 h3 h5 h7
                              generalize U.heap.size + 3 = c3
                              generalize U.heap.size + 2 = c2
                              generalize U.heap.size + 1 = c1
                              generalize U.heap.size = c0
                              exact rfl
                            exact AllReadyH.nil
                          exact AllReadyH.nil
                        exact AllReadyH.nil
                      refine AllReadyH.cons (o := { dst := some 51, op := Op.makeSlice 26 (Operand.tmp 50) (Operand.tmp 50), type := 26, pos := "more2.go:41", after := #[{ on := 2, ground := Ground.data }, { on := 2, ground := Ground.data }], guard := none }) rfl (fun K hK => ?_) ?_
                      · have mk := MT.out; go_simp
                        refine hK.out _ _ ?_ (fun hHeld => ?_)
                        · exact Held.step (by assumption) ((Below.refl _ _).alloc (Nat.le_refl _) _)
                        clear hK K
                        (try simp only [Act.put, List.setIfInBounds_toArray, List.set_cons_zero, List.set_cons_succ])
                        refine wpAnyH_ready (rs := [1, 7]) (by kernel_rfl) (by simp) ?_
                        refine AllReadyH.cons (o := { dst := some 49, op := Op.makeSlice 24 (Operand.tmp 48) (Operand.tmp 48), type := 24, pos := "more2.go:41", after := #[{ on := 0, ground := Ground.data }, { on := 0, ground := Ground.data }], guard := none }) rfl (fun K hK => ?_) ?_
                        · have mk := MI.out; go_simp
                          refine hK.out _ _ ?_ (fun hHeld => ?_)
                          · exact Held.step (by assumption) ((Below.refl _ _).alloc (Nat.le_refl _) _)
                          clear hK K
                          (try simp only [Act.put, List.setIfInBounds_toArray, List.set_cons_zero, List.set_cons_succ])
                          refine wpAnyH_take (i := 6) (oi := { dst := some 54, op := Op.build 29 #[(0, Operand.const (Value.int IntKind.i64 7)), (7, Operand.tmp 49), (9, Operand.tmp 51), (10, Operand.tmp 53)], type := 29, pos := "more2.go:41", after := #[{ on := 1, ground := Ground.data }, { on := 3, ground := Ground.data }, { on := 5, ground := Ground.data }], guard := none }) (v := .agg #[.int .i64 7, .int .i64 0, .int .i64 0, .int .i64 0, .string ⟨#[]⟩, .bool false, .string ⟨#[]⟩, .string ⟨#[]⟩, .int .i64 0, .int .i64 0, .slice (some ⟨U.heap.size + 2, 0, none⟩) p p, .slice none 0 0, .slice (some ⟨U.heap.size + 1, 0, none⟩) t t, .slice (some ⟨U.heap.size, 0, none⟩) d d]) rfl (by kernel_rfl) (by kernel_rfl) (by kernel_rfl) (fun _ _ _ h => h) (Or.inl ⟨by rfl, fun w' hSw => by ((try dsimp only at hSw); go_simp)⟩) (by assumption) ?_
                          (try simp only [Act.put, List.setIfInBounds_toArray, List.set_cons_zero, List.set_cons_succ])
                          refine wpAnyH_ready (rs := [7]) (by kernel_rfl) (by simp) ?_
                          refine AllReadyH.cons (o := { dst := some 9, op := Op.alloc 29, type := 0, pos := "more2.go:41", after := #[], guard := none }) rfl (fun K hK => ?_) ?_
                          · go_simp
                            refine hK.out _ _ ?_ (fun hHeld => ?_)
                            · exact Held.step (by assumption) ((Below.refl _ _).alloc (Nat.le_refl _) _)
                            clear hK K
                            (try simp only [Act.put, List.setIfInBounds_toArray, List.set_cons_zero, List.set_cons_succ])
                            have h5 : Bx (((((U.alloc (.cells (zD d) 73)).alloc (.cells (zT t) 41)).alloc (.cells (zI p) 3)).alloc (.cells #[.int .i64 0, .int .i64 0, .int .i64 0, .int .i64 0, .string ⟨#[]⟩, .bool false, .string ⟨#[]⟩, .string ⟨#[]⟩, .int .i64 0, .int .i64 0, .slice none 0 0, .slice none 0 0, .slice none 0 0, .slice none 0 0] 29)).drew) (U.heap.size) (zD d) 73 := by
                              exact (((Bx.new U _ _).alloc _ |>.alloc _ |>.alloc _) : Bx ((((U.alloc (.cells (zD d) 73)).alloc (.cells (zT t) 41)).alloc (.cells (zI p) 3)).alloc (.cells #[.int .i64 0, .int .i64 0, .int .i64 0, .int .i64 0, .string ⟨#[]⟩, .bool false, .string ⟨#[]⟩, .string ⟨#[]⟩, .int .i64 0, .int .i64 0, .slice none 0 0, .slice none 0 0, .slice none 0 0, .slice none 0 0] 29)) _ _ _)
                            have h3 : Bx (((((U.alloc (.cells (zD d) 73)).alloc (.cells (zT t) 41)).alloc (.cells (zI p) 3)).alloc (.cells #[.int .i64 0, .int .i64 0, .int .i64 0, .int .i64 0, .string ⟨#[]⟩, .bool false, .string ⟨#[]⟩, .string ⟨#[]⟩, .int .i64 0, .int .i64 0, .slice none 0 0, .slice none 0 0, .slice none 0 0, .slice none 0 0] 29)).drew) (U.heap.size + 1) (zT t) 41 := by
                              rw [show U.heap.size + 1 = (U.alloc (.cells (zD d) 73)).heap.size by simp]
                              exact (((Bx.new (U.alloc (.cells (zD d) 73)) _ _).alloc _ |>.alloc _) : Bx ((((U.alloc (.cells (zD d) 73)).alloc (.cells (zT t) 41)).alloc (.cells (zI p) 3)).alloc (.cells #[.int .i64 0, .int .i64 0, .int .i64 0, .int .i64 0, .string ⟨#[]⟩, .bool false, .string ⟨#[]⟩, .string ⟨#[]⟩, .int .i64 0, .int .i64 0, .slice none 0 0, .slice none 0 0, .slice none 0 0, .slice none 0 0] 29)) _ _ _)
                            have h1 : Bx (((((U.alloc (.cells (zD d) 73)).alloc (.cells (zT t) 41)).alloc (.cells (zI p) 3)).alloc (.cells #[.int .i64 0, .int .i64 0, .int .i64 0, .int .i64 0, .string ⟨#[]⟩, .bool false, .string ⟨#[]⟩, .string ⟨#[]⟩, .int .i64 0, .int .i64 0, .slice none 0 0, .slice none 0 0, .slice none 0 0, .slice none 0 0] 29)).drew) (U.heap.size + 2) (zI p) 3 := by
                              rw [show U.heap.size + 2 = ((U.alloc (.cells (zD d) 73)).alloc (.cells (zT t) 41)).heap.size by simp]
                              exact (((Bx.new ((U.alloc (.cells (zD d) 73)).alloc (.cells (zT t) 41)) _ _).alloc _) : Bx ((((U.alloc (.cells (zD d) 73)).alloc (.cells (zT t) 41)).alloc (.cells (zI p) 3)).alloc (.cells #[.int .i64 0, .int .i64 0, .int .i64 0, .int .i64 0, .string ⟨#[]⟩, .bool false, .string ⟨#[]⟩, .string ⟨#[]⟩, .int .i64 0, .int .i64 0, .slice none 0 0, .slice none 0 0, .slice none 0 0, .slice none 0 0] 29)) _ _ _)
                            have h7 : Bx (((((U.alloc (.cells (zD d) 73)).alloc (.cells (zT t) 41)).alloc (.cells (zI p) 3)).alloc (.cells #[.int .i64 0, .int .i64 0, .int .i64 0, .int .i64 0, .string ⟨#[]⟩, .bool false, .string ⟨#[]⟩, .string ⟨#[]⟩, .int .i64 0, .int .i64 0, .slice none 0 0, .slice none 0 0, .slice none 0 0, .slice none 0 0] 29)).drew) (U.heap.size + 3) #[.int .i64 0, .int .i64 0, .int .i64 0, .int .i64 0, .string ⟨#[]⟩, .bool false, .string ⟨#[]⟩, .string ⟨#[]⟩, .int .i64 0, .int .i64 0, .slice none 0 0, .slice none 0 0, .slice none 0 0, .slice none 0 0] 29 := by
                              rw [show U.heap.size + 3 = (((U.alloc (.cells (zD d) 73)).alloc (.cells (zT t) 41)).alloc (.cells (zI p) 3)).heap.size by simp]
                              exact (((Bx.new (((U.alloc (.cells (zD d) 73)).alloc (.cells (zT t) 41)).alloc (.cells (zI p) 3)) _ _)) : Bx ((((U.alloc (.cells (zD d) 73)).alloc (.cells (zT t) 41)).alloc (.cells (zI p) 3)).alloc (.cells #[.int .i64 0, .int .i64 0, .int .i64 0, .int .i64 0, .string ⟨#[]⟩, .bool false, .string ⟨#[]⟩, .string ⟨#[]⟩, .int .i64 0, .int .i64 0, .slice none 0 0, .slice none 0 0, .slice none 0 0, .slice none 0 0] 29)) _ _ _)
                            have HG := MkAt.put hHeld h1 h3 h5 h7 (by omega) (by omega) (by omega) (by omega)
                            refine wpAnyH_ready (rs := [8]) (by kernel_rfl) (by simp) ?_
                            refine AllReadyH.cons (o := { dst := none, op := Op.store 29 (Operand.tmp 9) (Operand.tmp 54), type := 0, pos := "more2.go:41", after := #[{ on := 7, ground := Ground.data }, { on := 6, ground := Ground.data }, { on := 0, ground := Ground.phase }, { on := 1, ground := Ground.phase }, { on := 2, ground := Ground.phase }, { on := 3, ground := Ground.phase }, { on := 4, ground := Ground.phase }, { on := 5, ground := Ground.phase }, { on := 6, ground := Ground.phase }, { on := 7, ground := Ground.phase }], guard := none }) rfl (fun K hK => ?_) ?_
                            · refine step_store_row rfl 29 (.tmp 9) (.tmp 54) rfl (U.heap.size + 3) #[.int .i64 7, .int .i64 0, .int .i64 0, .int .i64 0, .string ⟨#[]⟩, .bool false, .string ⟨#[]⟩, .string ⟨#[]⟩, .int .i64 0, .int .i64 0, .slice (some ⟨U.heap.size + 2, 0, none⟩) p p, .slice none 0 0, .slice (some ⟨U.heap.size + 1, 0, none⟩) t t, .slice (some ⟨U.heap.size, 0, none⟩) d d] rfl rfl 29 _ h7 (by kernel_rfl) rfl (by simp [Value.oneCell']) ?_
                              refine hK.out _ _ ?_ (fun hHeld => ?_)
                              · exact below_row hHeld (by omega)
                              clear hK K
                              (try simp only [Act.put, List.setIfInBounds_toArray, List.set_cons_zero, List.set_cons_succ])
                              refine wpAnyH_done (by kernel_rfl) ?_ _
                              refine NoPanic.normal ?_
                              refine ⟨rfl, U.heap.size + 2, U.heap.size + 1, U.heap.size, U.heap.size + 3, ?_, HG⟩
                              clear hHeld HG h1 h3 h5 h7
                              generalize U.heap.size + 3 = c3
                              generalize U.heap.size + 2 = c2
                              generalize U.heap.size + 1 = c1
                              generalize U.heap.size = c0
                              exact rfl
                            exact AllReadyH.nil
                          exact AllReadyH.nil
                        refine AllReadyH.cons (o := { dst := some 9, op := Op.alloc 29, type := 0, pos := "more2.go:41", after := #[], guard := none }) rfl (fun K hK => ?_) ?_
                        · go_simp
                          refine hK.out _ _ ?_ (fun hHeld => ?_)
                          · exact Held.step (by assumption) ((Below.refl _ _).alloc (Nat.le_refl _) _)
                          clear hK K
                          (try simp only [Act.put, List.setIfInBounds_toArray, List.set_cons_zero, List.set_cons_succ])
                          refine wpAnyH_ready (rs := [1]) (by kernel_rfl) (by simp) ?_
                          refine AllReadyH.cons (o := { dst := some 49, op := Op.makeSlice 24 (Operand.tmp 48) (Operand.tmp 48), type := 24, pos := "more2.go:41", after := #[{ on := 0, ground := Ground.data }, { on := 0, ground := Ground.data }], guard := none }) rfl (fun K hK => ?_) ?_
                          · have mk := MI.out; go_simp
                            refine hK.out _ _ ?_ (fun hHeld => ?_)
                            · exact Held.step (by assumption) ((Below.refl _ _).alloc (Nat.le_refl _) _)
                            clear hK K
                            (try simp only [Act.put, List.setIfInBounds_toArray, List.set_cons_zero, List.set_cons_succ])
                            refine wpAnyH_take (i := 6) (oi := { dst := some 54, op := Op.build 29 #[(0, Operand.const (Value.int IntKind.i64 7)), (7, Operand.tmp 49), (9, Operand.tmp 51), (10, Operand.tmp 53)], type := 29, pos := "more2.go:41", after := #[{ on := 1, ground := Ground.data }, { on := 3, ground := Ground.data }, { on := 5, ground := Ground.data }], guard := none }) (v := .agg #[.int .i64 7, .int .i64 0, .int .i64 0, .int .i64 0, .string ⟨#[]⟩, .bool false, .string ⟨#[]⟩, .string ⟨#[]⟩, .int .i64 0, .int .i64 0, .slice (some ⟨U.heap.size + 3, 0, none⟩) p p, .slice none 0 0, .slice (some ⟨U.heap.size + 1, 0, none⟩) t t, .slice (some ⟨U.heap.size, 0, none⟩) d d]) rfl (by kernel_rfl) (by kernel_rfl) (by kernel_rfl) (fun _ _ _ h => h) (Or.inl ⟨by rfl, fun w' hSw => by ((try dsimp only at hSw); go_simp)⟩) (by assumption) ?_
                            (try simp only [Act.put, List.setIfInBounds_toArray, List.set_cons_zero, List.set_cons_succ])
                            have h5 : Bx (((((U.alloc (.cells (zD d) 73)).alloc (.cells (zT t) 41)).alloc (.cells #[.int .i64 0, .int .i64 0, .int .i64 0, .int .i64 0, .string ⟨#[]⟩, .bool false, .string ⟨#[]⟩, .string ⟨#[]⟩, .int .i64 0, .int .i64 0, .slice none 0 0, .slice none 0 0, .slice none 0 0, .slice none 0 0] 29)).alloc (.cells (zI p) 3)).drew) (U.heap.size) (zD d) 73 := by
                              exact (((Bx.new U _ _).alloc _ |>.alloc _ |>.alloc _) : Bx ((((U.alloc (.cells (zD d) 73)).alloc (.cells (zT t) 41)).alloc (.cells #[.int .i64 0, .int .i64 0, .int .i64 0, .int .i64 0, .string ⟨#[]⟩, .bool false, .string ⟨#[]⟩, .string ⟨#[]⟩, .int .i64 0, .int .i64 0, .slice none 0 0, .slice none 0 0, .slice none 0 0, .slice none 0 0] 29)).alloc (.cells (zI p) 3)) _ _ _)
                            have h3 : Bx (((((U.alloc (.cells (zD d) 73)).alloc (.cells (zT t) 41)).alloc (.cells #[.int .i64 0, .int .i64 0, .int .i64 0, .int .i64 0, .string ⟨#[]⟩, .bool false, .string ⟨#[]⟩, .string ⟨#[]⟩, .int .i64 0, .int .i64 0, .slice none 0 0, .slice none 0 0, .slice none 0 0, .slice none 0 0] 29)).alloc (.cells (zI p) 3)).drew) (U.heap.size + 1) (zT t) 41 := by
                              rw [show U.heap.size + 1 = (U.alloc (.cells (zD d) 73)).heap.size by simp]
                              exact (((Bx.new (U.alloc (.cells (zD d) 73)) _ _).alloc _ |>.alloc _) : Bx ((((U.alloc (.cells (zD d) 73)).alloc (.cells (zT t) 41)).alloc (.cells #[.int .i64 0, .int .i64 0, .int .i64 0, .int .i64 0, .string ⟨#[]⟩, .bool false, .string ⟨#[]⟩, .string ⟨#[]⟩, .int .i64 0, .int .i64 0, .slice none 0 0, .slice none 0 0, .slice none 0 0, .slice none 0 0] 29)).alloc (.cells (zI p) 3)) _ _ _)
                            have h7 : Bx (((((U.alloc (.cells (zD d) 73)).alloc (.cells (zT t) 41)).alloc (.cells #[.int .i64 0, .int .i64 0, .int .i64 0, .int .i64 0, .string ⟨#[]⟩, .bool false, .string ⟨#[]⟩, .string ⟨#[]⟩, .int .i64 0, .int .i64 0, .slice none 0 0, .slice none 0 0, .slice none 0 0, .slice none 0 0] 29)).alloc (.cells (zI p) 3)).drew) (U.heap.size + 2) #[.int .i64 0, .int .i64 0, .int .i64 0, .int .i64 0, .string ⟨#[]⟩, .bool false, .string ⟨#[]⟩, .string ⟨#[]⟩, .int .i64 0, .int .i64 0, .slice none 0 0, .slice none 0 0, .slice none 0 0, .slice none 0 0] 29 := by
                              rw [show U.heap.size + 2 = ((U.alloc (.cells (zD d) 73)).alloc (.cells (zT t) 41)).heap.size by simp]
                              exact (((Bx.new ((U.alloc (.cells (zD d) 73)).alloc (.cells (zT t) 41)) _ _).alloc _) : Bx ((((U.alloc (.cells (zD d) 73)).alloc (.cells (zT t) 41)).alloc (.cells #[.int .i64 0, .int .i64 0, .int .i64 0, .int .i64 0, .string ⟨#[]⟩, .bool false, .string ⟨#[]⟩, .string ⟨#[]⟩, .int .i64 0, .int .i64 0, .slice none 0 0, .slice none 0 0, .slice none 0 0, .slice none 0 0] 29)).alloc (.cells (zI p) 3)) _ _ _)
                            have h1 : Bx (((((U.alloc (.cells (zD d) 73)).alloc (.cells (zT t) 41)).alloc (.cells #[.int .i64 0, .int .i64 0, .int .i64 0, .int .i64 0, .string ⟨#[]⟩, .bool false, .string ⟨#[]⟩, .string ⟨#[]⟩, .int .i64 0, .int .i64 0, .slice none 0 0, .slice none 0 0, .slice none 0 0, .slice none 0 0] 29)).alloc (.cells (zI p) 3)).drew) (U.heap.size + 3) (zI p) 3 := by
                              rw [show U.heap.size + 3 = (((U.alloc (.cells (zD d) 73)).alloc (.cells (zT t) 41)).alloc (.cells #[.int .i64 0, .int .i64 0, .int .i64 0, .int .i64 0, .string ⟨#[]⟩, .bool false, .string ⟨#[]⟩, .string ⟨#[]⟩, .int .i64 0, .int .i64 0, .slice none 0 0, .slice none 0 0, .slice none 0 0, .slice none 0 0] 29)).heap.size by simp]
                              exact (((Bx.new (((U.alloc (.cells (zD d) 73)).alloc (.cells (zT t) 41)).alloc (.cells #[.int .i64 0, .int .i64 0, .int .i64 0, .int .i64 0, .string ⟨#[]⟩, .bool false, .string ⟨#[]⟩, .string ⟨#[]⟩, .int .i64 0, .int .i64 0, .slice none 0 0, .slice none 0 0, .slice none 0 0, .slice none 0 0] 29)) _ _)) : Bx ((((U.alloc (.cells (zD d) 73)).alloc (.cells (zT t) 41)).alloc (.cells #[.int .i64 0, .int .i64 0, .int .i64 0, .int .i64 0, .string ⟨#[]⟩, .bool false, .string ⟨#[]⟩, .string ⟨#[]⟩, .int .i64 0, .int .i64 0, .slice none 0 0, .slice none 0 0, .slice none 0 0, .slice none 0 0] 29)).alloc (.cells (zI p) 3)) _ _ _)
                            have HG := MkAt.put hHeld h1 h3 h5 h7 (by omega) (by omega) (by omega) (by omega)
                            refine wpAnyH_ready (rs := [8]) (by kernel_rfl) (by simp) ?_
                            refine AllReadyH.cons (o := { dst := none, op := Op.store 29 (Operand.tmp 9) (Operand.tmp 54), type := 0, pos := "more2.go:41", after := #[{ on := 7, ground := Ground.data }, { on := 6, ground := Ground.data }, { on := 0, ground := Ground.phase }, { on := 1, ground := Ground.phase }, { on := 2, ground := Ground.phase }, { on := 3, ground := Ground.phase }, { on := 4, ground := Ground.phase }, { on := 5, ground := Ground.phase }, { on := 6, ground := Ground.phase }, { on := 7, ground := Ground.phase }], guard := none }) rfl (fun K hK => ?_) ?_
                            · refine step_store_row rfl 29 (.tmp 9) (.tmp 54) rfl (U.heap.size + 2) #[.int .i64 7, .int .i64 0, .int .i64 0, .int .i64 0, .string ⟨#[]⟩, .bool false, .string ⟨#[]⟩, .string ⟨#[]⟩, .int .i64 0, .int .i64 0, .slice (some ⟨U.heap.size + 3, 0, none⟩) p p, .slice none 0 0, .slice (some ⟨U.heap.size + 1, 0, none⟩) t t, .slice (some ⟨U.heap.size, 0, none⟩) d d] rfl rfl 29 _ h7 (by kernel_rfl) rfl (by simp [Value.oneCell']) ?_
                              refine hK.out _ _ ?_ (fun hHeld => ?_)
                              · exact below_row hHeld (by omega)
                              clear hK K
                              (try simp only [Act.put, List.setIfInBounds_toArray, List.set_cons_zero, List.set_cons_succ])
                              refine wpAnyH_done (by kernel_rfl) ?_ _
                              refine NoPanic.normal ?_
                              refine ⟨rfl, U.heap.size + 3, U.heap.size + 1, U.heap.size, U.heap.size + 2, ?_, HG⟩
                              clear hHeld HG h1 h3 h5 h7
                              generalize U.heap.size + 3 = c3
                              generalize U.heap.size + 2 = c2
                              generalize U.heap.size + 1 = c1
                              generalize U.heap.size = c0
                              exact rfl
                            exact AllReadyH.nil
                          exact AllReadyH.nil
                        exact AllReadyH.nil
                      refine AllReadyH.cons (o := { dst := some 9, op := Op.alloc 29, type := 0, pos := "more2.go:41", after := #[], guard := none }) rfl (fun K hK => ?_) ?_
                      · go_simp
                        refine hK.out _ _ ?_ (fun hHeld => ?_)
                        · exact Held.step (by assumption) ((Below.refl _ _).alloc (Nat.le_refl _) _)
                        clear hK K
                        (try simp only [Act.put, List.setIfInBounds_toArray, List.set_cons_zero, List.set_cons_succ])
                        refine wpAnyH_ready (rs := [1, 3]) (by kernel_rfl) (by simp) ?_
                        refine AllReadyH.cons (o := { dst := some 49, op := Op.makeSlice 24 (Operand.tmp 48) (Operand.tmp 48), type := 24, pos := "more2.go:41", after := #[{ on := 0, ground := Ground.data }, { on := 0, ground := Ground.data }], guard := none }) rfl (fun K hK => ?_) ?_
                        · have mk := MI.out; go_simp
                          refine hK.out _ _ ?_ (fun hHeld => ?_)
                          · exact Held.step (by assumption) ((Below.refl _ _).alloc (Nat.le_refl _) _)
                          clear hK K
                          (try simp only [Act.put, List.setIfInBounds_toArray, List.set_cons_zero, List.set_cons_succ])
                          refine wpAnyH_ready (rs := [3]) (by kernel_rfl) (by simp) ?_
                          refine AllReadyH.cons (o := { dst := some 51, op := Op.makeSlice 26 (Operand.tmp 50) (Operand.tmp 50), type := 26, pos := "more2.go:41", after := #[{ on := 2, ground := Ground.data }, { on := 2, ground := Ground.data }], guard := none }) rfl (fun K hK => ?_) ?_
                          · have mk := MT.out; go_simp
                            refine hK.out _ _ ?_ (fun hHeld => ?_)
                            · exact Held.step (by assumption) ((Below.refl _ _).alloc (Nat.le_refl _) _)
                            clear hK K
                            (try simp only [Act.put, List.setIfInBounds_toArray, List.set_cons_zero, List.set_cons_succ])
                            refine wpAnyH_take (i := 6) (oi := { dst := some 54, op := Op.build 29 #[(0, Operand.const (Value.int IntKind.i64 7)), (7, Operand.tmp 49), (9, Operand.tmp 51), (10, Operand.tmp 53)], type := 29, pos := "more2.go:41", after := #[{ on := 1, ground := Ground.data }, { on := 3, ground := Ground.data }, { on := 5, ground := Ground.data }], guard := none }) (v := .agg #[.int .i64 7, .int .i64 0, .int .i64 0, .int .i64 0, .string ⟨#[]⟩, .bool false, .string ⟨#[]⟩, .string ⟨#[]⟩, .int .i64 0, .int .i64 0, .slice (some ⟨U.heap.size + 2, 0, none⟩) p p, .slice none 0 0, .slice (some ⟨U.heap.size + 3, 0, none⟩) t t, .slice (some ⟨U.heap.size, 0, none⟩) d d]) rfl (by kernel_rfl) (by kernel_rfl) (by kernel_rfl) (fun _ _ _ h => h) (Or.inl ⟨by rfl, fun w' hSw => by ((try dsimp only at hSw); go_simp)⟩) (by assumption) ?_
                            (try simp only [Act.put, List.setIfInBounds_toArray, List.set_cons_zero, List.set_cons_succ])
                            have h5 : Bx (((((U.alloc (.cells (zD d) 73)).alloc (.cells #[.int .i64 0, .int .i64 0, .int .i64 0, .int .i64 0, .string ⟨#[]⟩, .bool false, .string ⟨#[]⟩, .string ⟨#[]⟩, .int .i64 0, .int .i64 0, .slice none 0 0, .slice none 0 0, .slice none 0 0, .slice none 0 0] 29)).alloc (.cells (zI p) 3)).alloc (.cells (zT t) 41)).drew) (U.heap.size) (zD d) 73 := by
                              exact (((Bx.new U _ _).alloc _ |>.alloc _ |>.alloc _) : Bx ((((U.alloc (.cells (zD d) 73)).alloc (.cells #[.int .i64 0, .int .i64 0, .int .i64 0, .int .i64 0, .string ⟨#[]⟩, .bool false, .string ⟨#[]⟩, .string ⟨#[]⟩, .int .i64 0, .int .i64 0, .slice none 0 0, .slice none 0 0, .slice none 0 0, .slice none 0 0] 29)).alloc (.cells (zI p) 3)).alloc (.cells (zT t) 41)) _ _ _)
                            have h7 : Bx (((((U.alloc (.cells (zD d) 73)).alloc (.cells #[.int .i64 0, .int .i64 0, .int .i64 0, .int .i64 0, .string ⟨#[]⟩, .bool false, .string ⟨#[]⟩, .string ⟨#[]⟩, .int .i64 0, .int .i64 0, .slice none 0 0, .slice none 0 0, .slice none 0 0, .slice none 0 0] 29)).alloc (.cells (zI p) 3)).alloc (.cells (zT t) 41)).drew) (U.heap.size + 1) #[.int .i64 0, .int .i64 0, .int .i64 0, .int .i64 0, .string ⟨#[]⟩, .bool false, .string ⟨#[]⟩, .string ⟨#[]⟩, .int .i64 0, .int .i64 0, .slice none 0 0, .slice none 0 0, .slice none 0 0, .slice none 0 0] 29 := by
                              rw [show U.heap.size + 1 = (U.alloc (.cells (zD d) 73)).heap.size by simp]
                              exact (((Bx.new (U.alloc (.cells (zD d) 73)) _ _).alloc _ |>.alloc _) : Bx ((((U.alloc (.cells (zD d) 73)).alloc (.cells #[.int .i64 0, .int .i64 0, .int .i64 0, .int .i64 0, .string ⟨#[]⟩, .bool false, .string ⟨#[]⟩, .string ⟨#[]⟩, .int .i64 0, .int .i64 0, .slice none 0 0, .slice none 0 0, .slice none 0 0, .slice none 0 0] 29)).alloc (.cells (zI p) 3)).alloc (.cells (zT t) 41)) _ _ _)
                            have h1 : Bx (((((U.alloc (.cells (zD d) 73)).alloc (.cells #[.int .i64 0, .int .i64 0, .int .i64 0, .int .i64 0, .string ⟨#[]⟩, .bool false, .string ⟨#[]⟩, .string ⟨#[]⟩, .int .i64 0, .int .i64 0, .slice none 0 0, .slice none 0 0, .slice none 0 0, .slice none 0 0] 29)).alloc (.cells (zI p) 3)).alloc (.cells (zT t) 41)).drew) (U.heap.size + 2) (zI p) 3 := by
                              rw [show U.heap.size + 2 = ((U.alloc (.cells (zD d) 73)).alloc (.cells #[.int .i64 0, .int .i64 0, .int .i64 0, .int .i64 0, .string ⟨#[]⟩, .bool false, .string ⟨#[]⟩, .string ⟨#[]⟩, .int .i64 0, .int .i64 0, .slice none 0 0, .slice none 0 0, .slice none 0 0, .slice none 0 0] 29)).heap.size by simp]
                              exact (((Bx.new ((U.alloc (.cells (zD d) 73)).alloc (.cells #[.int .i64 0, .int .i64 0, .int .i64 0, .int .i64 0, .string ⟨#[]⟩, .bool false, .string ⟨#[]⟩, .string ⟨#[]⟩, .int .i64 0, .int .i64 0, .slice none 0 0, .slice none 0 0, .slice none 0 0, .slice none 0 0] 29)) _ _).alloc _) : Bx ((((U.alloc (.cells (zD d) 73)).alloc (.cells #[.int .i64 0, .int .i64 0, .int .i64 0, .int .i64 0, .string ⟨#[]⟩, .bool false, .string ⟨#[]⟩, .string ⟨#[]⟩, .int .i64 0, .int .i64 0, .slice none 0 0, .slice none 0 0, .slice none 0 0, .slice none 0 0] 29)).alloc (.cells (zI p) 3)).alloc (.cells (zT t) 41)) _ _ _)
                            have h3 : Bx (((((U.alloc (.cells (zD d) 73)).alloc (.cells #[.int .i64 0, .int .i64 0, .int .i64 0, .int .i64 0, .string ⟨#[]⟩, .bool false, .string ⟨#[]⟩, .string ⟨#[]⟩, .int .i64 0, .int .i64 0, .slice none 0 0, .slice none 0 0, .slice none 0 0, .slice none 0 0] 29)).alloc (.cells (zI p) 3)).alloc (.cells (zT t) 41)).drew) (U.heap.size + 3) (zT t) 41 := by
                              rw [show U.heap.size + 3 = (((U.alloc (.cells (zD d) 73)).alloc (.cells #[.int .i64 0, .int .i64 0, .int .i64 0, .int .i64 0, .string ⟨#[]⟩, .bool false, .string ⟨#[]⟩, .string ⟨#[]⟩, .int .i64 0, .int .i64 0, .slice none 0 0, .slice none 0 0, .slice none 0 0, .slice none 0 0] 29)).alloc (.cells (zI p) 3)).heap.size by simp]
                              exact (((Bx.new (((U.alloc (.cells (zD d) 73)).alloc (.cells #[.int .i64 0, .int .i64 0, .int .i64 0, .int .i64 0, .string ⟨#[]⟩, .bool false, .string ⟨#[]⟩, .string ⟨#[]⟩, .int .i64 0, .int .i64 0, .slice none 0 0, .slice none 0 0, .slice none 0 0, .slice none 0 0] 29)).alloc (.cells (zI p) 3)) _ _)) : Bx ((((U.alloc (.cells (zD d) 73)).alloc (.cells #[.int .i64 0, .int .i64 0, .int .i64 0, .int .i64 0, .string ⟨#[]⟩, .bool false, .string ⟨#[]⟩, .string ⟨#[]⟩, .int .i64 0, .int .i64 0, .slice none 0 0, .slice none 0 0, .slice none 0 0, .slice none 0 0] 29)).alloc (.cells (zI p) 3)).alloc (.cells (zT t) 41)) _ _ _)
                            have HG := MkAt.put hHeld h1 h3 h5 h7 (by omega) (by omega) (by omega) (by omega)
                            refine wpAnyH_ready (rs := [8]) (by kernel_rfl) (by simp) ?_
                            refine AllReadyH.cons (o := { dst := none, op := Op.store 29 (Operand.tmp 9) (Operand.tmp 54), type := 0, pos := "more2.go:41", after := #[{ on := 7, ground := Ground.data }, { on := 6, ground := Ground.data }, { on := 0, ground := Ground.phase }, { on := 1, ground := Ground.phase }, { on := 2, ground := Ground.phase }, { on := 3, ground := Ground.phase }, { on := 4, ground := Ground.phase }, { on := 5, ground := Ground.phase }, { on := 6, ground := Ground.phase }, { on := 7, ground := Ground.phase }], guard := none }) rfl (fun K hK => ?_) ?_
                            · refine step_store_row rfl 29 (.tmp 9) (.tmp 54) rfl (U.heap.size + 1) #[.int .i64 7, .int .i64 0, .int .i64 0, .int .i64 0, .string ⟨#[]⟩, .bool false, .string ⟨#[]⟩, .string ⟨#[]⟩, .int .i64 0, .int .i64 0, .slice (some ⟨U.heap.size + 2, 0, none⟩) p p, .slice none 0 0, .slice (some ⟨U.heap.size + 3, 0, none⟩) t t, .slice (some ⟨U.heap.size, 0, none⟩) d d] rfl rfl 29 _ h7 (by kernel_rfl) rfl (by simp [Value.oneCell']) ?_
                              refine hK.out _ _ ?_ (fun hHeld => ?_)
                              · exact below_row hHeld (by omega)
                              clear hK K
                              (try simp only [Act.put, List.setIfInBounds_toArray, List.set_cons_zero, List.set_cons_succ])
                              refine wpAnyH_done (by kernel_rfl) ?_ _
                              refine NoPanic.normal ?_
                              refine ⟨rfl, U.heap.size + 2, U.heap.size + 3, U.heap.size, U.heap.size + 1, ?_, HG⟩
                              clear hHeld HG h1 h3 h5 h7
                              generalize U.heap.size + 3 = c3
                              generalize U.heap.size + 2 = c2
                              generalize U.heap.size + 1 = c1
                              generalize U.heap.size = c0
                              exact rfl
                            exact AllReadyH.nil
                          exact AllReadyH.nil
                        refine AllReadyH.cons (o := { dst := some 51, op := Op.makeSlice 26 (Operand.tmp 50) (Operand.tmp 50), type := 26, pos := "more2.go:41", after := #[{ on := 2, ground := Ground.data }, { on := 2, ground := Ground.data }], guard := none }) rfl (fun K hK => ?_) ?_
                        · have mk := MT.out; go_simp
                          refine hK.out _ _ ?_ (fun hHeld => ?_)
                          · exact Held.step (by assumption) ((Below.refl _ _).alloc (Nat.le_refl _) _)
                          clear hK K
                          (try simp only [Act.put, List.setIfInBounds_toArray, List.set_cons_zero, List.set_cons_succ])
                          refine wpAnyH_ready (rs := [1]) (by kernel_rfl) (by simp) ?_
                          refine AllReadyH.cons (o := { dst := some 49, op := Op.makeSlice 24 (Operand.tmp 48) (Operand.tmp 48), type := 24, pos := "more2.go:41", after := #[{ on := 0, ground := Ground.data }, { on := 0, ground := Ground.data }], guard := none }) rfl (fun K hK => ?_) ?_
                          · have mk := MI.out; go_simp
                            refine hK.out _ _ ?_ (fun hHeld => ?_)
                            · exact Held.step (by assumption) ((Below.refl _ _).alloc (Nat.le_refl _) _)
                            clear hK K
                            (try simp only [Act.put, List.setIfInBounds_toArray, List.set_cons_zero, List.set_cons_succ])
                            refine wpAnyH_take (i := 6) (oi := { dst := some 54, op := Op.build 29 #[(0, Operand.const (Value.int IntKind.i64 7)), (7, Operand.tmp 49), (9, Operand.tmp 51), (10, Operand.tmp 53)], type := 29, pos := "more2.go:41", after := #[{ on := 1, ground := Ground.data }, { on := 3, ground := Ground.data }, { on := 5, ground := Ground.data }], guard := none }) (v := .agg #[.int .i64 7, .int .i64 0, .int .i64 0, .int .i64 0, .string ⟨#[]⟩, .bool false, .string ⟨#[]⟩, .string ⟨#[]⟩, .int .i64 0, .int .i64 0, .slice (some ⟨U.heap.size + 3, 0, none⟩) p p, .slice none 0 0, .slice (some ⟨U.heap.size + 2, 0, none⟩) t t, .slice (some ⟨U.heap.size, 0, none⟩) d d]) rfl (by kernel_rfl) (by kernel_rfl) (by kernel_rfl) (fun _ _ _ h => h) (Or.inl ⟨by rfl, fun w' hSw => by ((try dsimp only at hSw); go_simp)⟩) (by assumption) ?_
                            (try simp only [Act.put, List.setIfInBounds_toArray, List.set_cons_zero, List.set_cons_succ])
                            have h5 : Bx (((((U.alloc (.cells (zD d) 73)).alloc (.cells #[.int .i64 0, .int .i64 0, .int .i64 0, .int .i64 0, .string ⟨#[]⟩, .bool false, .string ⟨#[]⟩, .string ⟨#[]⟩, .int .i64 0, .int .i64 0, .slice none 0 0, .slice none 0 0, .slice none 0 0, .slice none 0 0] 29)).alloc (.cells (zT t) 41)).alloc (.cells (zI p) 3)).drew) (U.heap.size) (zD d) 73 := by
                              exact (((Bx.new U _ _).alloc _ |>.alloc _ |>.alloc _) : Bx ((((U.alloc (.cells (zD d) 73)).alloc (.cells #[.int .i64 0, .int .i64 0, .int .i64 0, .int .i64 0, .string ⟨#[]⟩, .bool false, .string ⟨#[]⟩, .string ⟨#[]⟩, .int .i64 0, .int .i64 0, .slice none 0 0, .slice none 0 0, .slice none 0 0, .slice none 0 0] 29)).alloc (.cells (zT t) 41)).alloc (.cells (zI p) 3)) _ _ _)
                            have h7 : Bx (((((U.alloc (.cells (zD d) 73)).alloc (.cells #[.int .i64 0, .int .i64 0, .int .i64 0, .int .i64 0, .string ⟨#[]⟩, .bool false, .string ⟨#[]⟩, .string ⟨#[]⟩, .int .i64 0, .int .i64 0, .slice none 0 0, .slice none 0 0, .slice none 0 0, .slice none 0 0] 29)).alloc (.cells (zT t) 41)).alloc (.cells (zI p) 3)).drew) (U.heap.size + 1) #[.int .i64 0, .int .i64 0, .int .i64 0, .int .i64 0, .string ⟨#[]⟩, .bool false, .string ⟨#[]⟩, .string ⟨#[]⟩, .int .i64 0, .int .i64 0, .slice none 0 0, .slice none 0 0, .slice none 0 0, .slice none 0 0] 29 := by
                              rw [show U.heap.size + 1 = (U.alloc (.cells (zD d) 73)).heap.size by simp]
                              exact (((Bx.new (U.alloc (.cells (zD d) 73)) _ _).alloc _ |>.alloc _) : Bx ((((U.alloc (.cells (zD d) 73)).alloc (.cells #[.int .i64 0, .int .i64 0, .int .i64 0, .int .i64 0, .string ⟨#[]⟩, .bool false, .string ⟨#[]⟩, .string ⟨#[]⟩, .int .i64 0, .int .i64 0, .slice none 0 0, .slice none 0 0, .slice none 0 0, .slice none 0 0] 29)).alloc (.cells (zT t) 41)).alloc (.cells (zI p) 3)) _ _ _)
                            have h3 : Bx (((((U.alloc (.cells (zD d) 73)).alloc (.cells #[.int .i64 0, .int .i64 0, .int .i64 0, .int .i64 0, .string ⟨#[]⟩, .bool false, .string ⟨#[]⟩, .string ⟨#[]⟩, .int .i64 0, .int .i64 0, .slice none 0 0, .slice none 0 0, .slice none 0 0, .slice none 0 0] 29)).alloc (.cells (zT t) 41)).alloc (.cells (zI p) 3)).drew) (U.heap.size + 2) (zT t) 41 := by
                              rw [show U.heap.size + 2 = ((U.alloc (.cells (zD d) 73)).alloc (.cells #[.int .i64 0, .int .i64 0, .int .i64 0, .int .i64 0, .string ⟨#[]⟩, .bool false, .string ⟨#[]⟩, .string ⟨#[]⟩, .int .i64 0, .int .i64 0, .slice none 0 0, .slice none 0 0, .slice none 0 0, .slice none 0 0] 29)).heap.size by simp]
                              exact (((Bx.new ((U.alloc (.cells (zD d) 73)).alloc (.cells #[.int .i64 0, .int .i64 0, .int .i64 0, .int .i64 0, .string ⟨#[]⟩, .bool false, .string ⟨#[]⟩, .string ⟨#[]⟩, .int .i64 0, .int .i64 0, .slice none 0 0, .slice none 0 0, .slice none 0 0, .slice none 0 0] 29)) _ _).alloc _) : Bx ((((U.alloc (.cells (zD d) 73)).alloc (.cells #[.int .i64 0, .int .i64 0, .int .i64 0, .int .i64 0, .string ⟨#[]⟩, .bool false, .string ⟨#[]⟩, .string ⟨#[]⟩, .int .i64 0, .int .i64 0, .slice none 0 0, .slice none 0 0, .slice none 0 0, .slice none 0 0] 29)).alloc (.cells (zT t) 41)).alloc (.cells (zI p) 3)) _ _ _)
                            have h1 : Bx (((((U.alloc (.cells (zD d) 73)).alloc (.cells #[.int .i64 0, .int .i64 0, .int .i64 0, .int .i64 0, .string ⟨#[]⟩, .bool false, .string ⟨#[]⟩, .string ⟨#[]⟩, .int .i64 0, .int .i64 0, .slice none 0 0, .slice none 0 0, .slice none 0 0, .slice none 0 0] 29)).alloc (.cells (zT t) 41)).alloc (.cells (zI p) 3)).drew) (U.heap.size + 3) (zI p) 3 := by
                              rw [show U.heap.size + 3 = (((U.alloc (.cells (zD d) 73)).alloc (.cells #[.int .i64 0, .int .i64 0, .int .i64 0, .int .i64 0, .string ⟨#[]⟩, .bool false, .string ⟨#[]⟩, .string ⟨#[]⟩, .int .i64 0, .int .i64 0, .slice none 0 0, .slice none 0 0, .slice none 0 0, .slice none 0 0] 29)).alloc (.cells (zT t) 41)).heap.size by simp]
                              exact (((Bx.new (((U.alloc (.cells (zD d) 73)).alloc (.cells #[.int .i64 0, .int .i64 0, .int .i64 0, .int .i64 0, .string ⟨#[]⟩, .bool false, .string ⟨#[]⟩, .string ⟨#[]⟩, .int .i64 0, .int .i64 0, .slice none 0 0, .slice none 0 0, .slice none 0 0, .slice none 0 0] 29)).alloc (.cells (zT t) 41)) _ _)) : Bx ((((U.alloc (.cells (zD d) 73)).alloc (.cells #[.int .i64 0, .int .i64 0, .int .i64 0, .int .i64 0, .string ⟨#[]⟩, .bool false, .string ⟨#[]⟩, .string ⟨#[]⟩, .int .i64 0, .int .i64 0, .slice none 0 0, .slice none 0 0, .slice none 0 0, .slice none 0 0] 29)).alloc (.cells (zT t) 41)).alloc (.cells (zI p) 3)) _ _ _)
                            have HG := MkAt.put hHeld h1 h3 h5 h7 (by omega) (by omega) (by omega) (by omega)
                            refine wpAnyH_ready (rs := [8]) (by kernel_rfl) (by simp) ?_
                            refine AllReadyH.cons (o := { dst := none, op := Op.store 29 (Operand.tmp 9) (Operand.tmp 54), type := 0, pos := "more2.go:41", after := #[{ on := 7, ground := Ground.data }, { on := 6, ground := Ground.data }, { on := 0, ground := Ground.phase }, { on := 1, ground := Ground.phase }, { on := 2, ground := Ground.phase }, { on := 3, ground := Ground.phase }, { on := 4, ground := Ground.phase }, { on := 5, ground := Ground.phase }, { on := 6, ground := Ground.phase }, { on := 7, ground := Ground.phase }], guard := none }) rfl (fun K hK => ?_) ?_
                            · refine step_store_row rfl 29 (.tmp 9) (.tmp 54) rfl (U.heap.size + 1) #[.int .i64 7, .int .i64 0, .int .i64 0, .int .i64 0, .string ⟨#[]⟩, .bool false, .string ⟨#[]⟩, .string ⟨#[]⟩, .int .i64 0, .int .i64 0, .slice (some ⟨U.heap.size + 3, 0, none⟩) p p, .slice none 0 0, .slice (some ⟨U.heap.size + 2, 0, none⟩) t t, .slice (some ⟨U.heap.size, 0, none⟩) d d] rfl rfl 29 _ h7 (by kernel_rfl) rfl (by simp [Value.oneCell']) ?_
                              refine hK.out _ _ ?_ (fun hHeld => ?_)
                              · exact below_row hHeld (by omega)
                              clear hK K
                              (try simp only [Act.put, List.setIfInBounds_toArray, List.set_cons_zero, List.set_cons_succ])
                              refine wpAnyH_done (by kernel_rfl) ?_ _
                              refine NoPanic.normal ?_
                              refine ⟨rfl, U.heap.size + 3, U.heap.size + 2, U.heap.size, U.heap.size + 1, ?_, HG⟩
                              clear hHeld HG h1 h3 h5 h7
                              generalize U.heap.size + 3 = c3
                              generalize U.heap.size + 2 = c2
                              generalize U.heap.size + 1 = c1
                              generalize U.heap.size = c0
                              exact rfl
                            exact AllReadyH.nil
                          exact AllReadyH.nil
                        exact AllReadyH.nil
                      exact AllReadyH.nil
                    refine AllReadyH.cons (o := { dst := some 9, op := Op.alloc 29, type := 0, pos := "more2.go:41", after := #[], guard := none }) rfl (fun K hK => ?_) ?_
                    · go_simp
                      refine hK.out _ _ ?_ (fun hHeld => ?_)
                      · exact Held.step (by assumption) ((Below.refl _ _).alloc (Nat.le_refl _) _)
                      clear hK K
                      (try simp only [Act.put, List.setIfInBounds_toArray, List.set_cons_zero, List.set_cons_succ])
                      refine wpAnyH_ready (rs := [1, 3, 5]) (by kernel_rfl) (by simp) ?_
                      refine AllReadyH.cons (o := { dst := some 49, op := Op.makeSlice 24 (Operand.tmp 48) (Operand.tmp 48), type := 24, pos := "more2.go:41", after := #[{ on := 0, ground := Ground.data }, { on := 0, ground := Ground.data }], guard := none }) rfl (fun K hK => ?_) ?_
                      · have mk := MI.out; go_simp
                        refine hK.out _ _ ?_ (fun hHeld => ?_)
                        · exact Held.step (by assumption) ((Below.refl _ _).alloc (Nat.le_refl _) _)
                        clear hK K
                        (try simp only [Act.put, List.setIfInBounds_toArray, List.set_cons_zero, List.set_cons_succ])
                        refine wpAnyH_ready (rs := [3, 5]) (by kernel_rfl) (by simp) ?_
                        refine AllReadyH.cons (o := { dst := some 51, op := Op.makeSlice 26 (Operand.tmp 50) (Operand.tmp 50), type := 26, pos := "more2.go:41", after := #[{ on := 2, ground := Ground.data }, { on := 2, ground := Ground.data }], guard := none }) rfl (fun K hK => ?_) ?_
                        · have mk := MT.out; go_simp
                          refine hK.out _ _ ?_ (fun hHeld => ?_)
                          · exact Held.step (by assumption) ((Below.refl _ _).alloc (Nat.le_refl _) _)
                          clear hK K
                          (try simp only [Act.put, List.setIfInBounds_toArray, List.set_cons_zero, List.set_cons_succ])
                          refine wpAnyH_ready (rs := [5]) (by kernel_rfl) (by simp) ?_
                          refine AllReadyH.cons (o := { dst := some 53, op := Op.makeSlice 27 (Operand.tmp 52) (Operand.tmp 52), type := 27, pos := "more2.go:41", after := #[{ on := 4, ground := Ground.data }, { on := 4, ground := Ground.data }], guard := none }) rfl (fun K hK => ?_) ?_
                          · have mk := MD.out; go_simp
                            refine hK.out _ _ ?_ (fun hHeld => ?_)
                            · exact Held.step (by assumption) ((Below.refl _ _).alloc (Nat.le_refl _) _)
                            clear hK K
                            (try simp only [Act.put, List.setIfInBounds_toArray, List.set_cons_zero, List.set_cons_succ])
                            refine wpAnyH_take (i := 6) (oi := { dst := some 54, op := Op.build 29 #[(0, Operand.const (Value.int IntKind.i64 7)), (7, Operand.tmp 49), (9, Operand.tmp 51), (10, Operand.tmp 53)], type := 29, pos := "more2.go:41", after := #[{ on := 1, ground := Ground.data }, { on := 3, ground := Ground.data }, { on := 5, ground := Ground.data }], guard := none }) (v := .agg #[.int .i64 7, .int .i64 0, .int .i64 0, .int .i64 0, .string ⟨#[]⟩, .bool false, .string ⟨#[]⟩, .string ⟨#[]⟩, .int .i64 0, .int .i64 0, .slice (some ⟨U.heap.size + 1, 0, none⟩) p p, .slice none 0 0, .slice (some ⟨U.heap.size + 2, 0, none⟩) t t, .slice (some ⟨U.heap.size + 3, 0, none⟩) d d]) rfl (by kernel_rfl) (by kernel_rfl) (by kernel_rfl) (fun _ _ _ h => h) (Or.inl ⟨by rfl, fun w' hSw => by ((try dsimp only at hSw); go_simp)⟩) (by assumption) ?_
                            (try simp only [Act.put, List.setIfInBounds_toArray, List.set_cons_zero, List.set_cons_succ])
                            have h7 : Bx (((((U.alloc (.cells #[.int .i64 0, .int .i64 0, .int .i64 0, .int .i64 0, .string ⟨#[]⟩, .bool false, .string ⟨#[]⟩, .string ⟨#[]⟩, .int .i64 0, .int .i64 0, .slice none 0 0, .slice none 0 0, .slice none 0 0, .slice none 0 0] 29)).alloc (.cells (zI p) 3)).alloc (.cells (zT t) 41)).alloc (.cells (zD d) 73)).drew) (U.heap.size) #[.int .i64 0, .int .i64 0, .int .i64 0, .int .i64 0, .string ⟨#[]⟩, .bool false, .string ⟨#[]⟩, .string ⟨#[]⟩, .int .i64 0, .int .i64 0, .slice none 0 0, .slice none 0 0, .slice none 0 0, .slice none 0 0] 29 := by
                              exact (((Bx.new U _ _).alloc _ |>.alloc _ |>.alloc _) : Bx ((((U.alloc (.cells #[.int .i64 0, .int .i64 0, .int .i64 0, .int .i64 0, .string ⟨#[]⟩, .bool false, .string ⟨#[]⟩, .string ⟨#[]⟩, .int .i64 0, .int .i64 0, .slice none 0 0, .slice none 0 0, .slice none 0 0, .slice none 0 0] 29)).alloc (.cells (zI p) 3)).alloc (.cells (zT t) 41)).alloc (.cells (zD d) 73)) _ _ _)
                            have h1 : Bx (((((U.alloc (.cells #[.int .i64 0, .int .i64 0, .int .i64 0, .int .i64 0, .string ⟨#[]⟩, .bool false, .string ⟨#[]⟩, .string ⟨#[]⟩, .int .i64 0, .int .i64 0, .slice none 0 0, .slice none 0 0, .slice none 0 0, .slice none 0 0] 29)).alloc (.cells (zI p) 3)).alloc (.cells (zT t) 41)).alloc (.cells (zD d) 73)).drew) (U.heap.size + 1) (zI p) 3 := by
                              rw [show U.heap.size + 1 = (U.alloc (.cells #[.int .i64 0, .int .i64 0, .int .i64 0, .int .i64 0, .string ⟨#[]⟩, .bool false, .string ⟨#[]⟩, .string ⟨#[]⟩, .int .i64 0, .int .i64 0, .slice none 0 0, .slice none 0 0, .slice none 0 0, .slice none 0 0] 29)).heap.size by simp]
                              exact (((Bx.new (U.alloc (.cells #[.int .i64 0, .int .i64 0, .int .i64 0, .int .i64 0, .string ⟨#[]⟩, .bool false, .string ⟨#[]⟩, .string ⟨#[]⟩, .int .i64 0, .int .i64 0, .slice none 0 0, .slice none 0 0, .slice none 0 0, .slice none 0 0] 29)) _ _).alloc _ |>.alloc _) : Bx ((((U.alloc (.cells #[.int .i64 0, .int .i64 0, .int .i64 0, .int .i64 0, .string ⟨#[]⟩, .bool false, .string ⟨#[]⟩, .string ⟨#[]⟩, .int .i64 0, .int .i64 0, .slice none 0 0, .slice none 0 0, .slice none 0 0, .slice none 0 0] 29)).alloc (.cells (zI p) 3)).alloc (.cells (zT t) 41)).alloc (.cells (zD d) 73)) _ _ _)
                            have h3 : Bx (((((U.alloc (.cells #[.int .i64 0, .int .i64 0, .int .i64 0, .int .i64 0, .string ⟨#[]⟩, .bool false, .string ⟨#[]⟩, .string ⟨#[]⟩, .int .i64 0, .int .i64 0, .slice none 0 0, .slice none 0 0, .slice none 0 0, .slice none 0 0] 29)).alloc (.cells (zI p) 3)).alloc (.cells (zT t) 41)).alloc (.cells (zD d) 73)).drew) (U.heap.size + 2) (zT t) 41 := by
                              rw [show U.heap.size + 2 = ((U.alloc (.cells #[.int .i64 0, .int .i64 0, .int .i64 0, .int .i64 0, .string ⟨#[]⟩, .bool false, .string ⟨#[]⟩, .string ⟨#[]⟩, .int .i64 0, .int .i64 0, .slice none 0 0, .slice none 0 0, .slice none 0 0, .slice none 0 0] 29)).alloc (.cells (zI p) 3)).heap.size by simp]
                              exact (((Bx.new ((U.alloc (.cells #[.int .i64 0, .int .i64 0, .int .i64 0, .int .i64 0, .string ⟨#[]⟩, .bool false, .string ⟨#[]⟩, .string ⟨#[]⟩, .int .i64 0, .int .i64 0, .slice none 0 0, .slice none 0 0, .slice none 0 0, .slice none 0 0] 29)).alloc (.cells (zI p) 3)) _ _).alloc _) : Bx ((((U.alloc (.cells #[.int .i64 0, .int .i64 0, .int .i64 0, .int .i64 0, .string ⟨#[]⟩, .bool false, .string ⟨#[]⟩, .string ⟨#[]⟩, .int .i64 0, .int .i64 0, .slice none 0 0, .slice none 0 0, .slice none 0 0, .slice none 0 0] 29)).alloc (.cells (zI p) 3)).alloc (.cells (zT t) 41)).alloc (.cells (zD d) 73)) _ _ _)
                            have h5 : Bx (((((U.alloc (.cells #[.int .i64 0, .int .i64 0, .int .i64 0, .int .i64 0, .string ⟨#[]⟩, .bool false, .string ⟨#[]⟩, .string ⟨#[]⟩, .int .i64 0, .int .i64 0, .slice none 0 0, .slice none 0 0, .slice none 0 0, .slice none 0 0] 29)).alloc (.cells (zI p) 3)).alloc (.cells (zT t) 41)).alloc (.cells (zD d) 73)).drew) (U.heap.size + 3) (zD d) 73 := by
                              rw [show U.heap.size + 3 = (((U.alloc (.cells #[.int .i64 0, .int .i64 0, .int .i64 0, .int .i64 0, .string ⟨#[]⟩, .bool false, .string ⟨#[]⟩, .string ⟨#[]⟩, .int .i64 0, .int .i64 0, .slice none 0 0, .slice none 0 0, .slice none 0 0, .slice none 0 0] 29)).alloc (.cells (zI p) 3)).alloc (.cells (zT t) 41)).heap.size by simp]
                              exact (((Bx.new (((U.alloc (.cells #[.int .i64 0, .int .i64 0, .int .i64 0, .int .i64 0, .string ⟨#[]⟩, .bool false, .string ⟨#[]⟩, .string ⟨#[]⟩, .int .i64 0, .int .i64 0, .slice none 0 0, .slice none 0 0, .slice none 0 0, .slice none 0 0] 29)).alloc (.cells (zI p) 3)).alloc (.cells (zT t) 41)) _ _)) : Bx ((((U.alloc (.cells #[.int .i64 0, .int .i64 0, .int .i64 0, .int .i64 0, .string ⟨#[]⟩, .bool false, .string ⟨#[]⟩, .string ⟨#[]⟩, .int .i64 0, .int .i64 0, .slice none 0 0, .slice none 0 0, .slice none 0 0, .slice none 0 0] 29)).alloc (.cells (zI p) 3)).alloc (.cells (zT t) 41)).alloc (.cells (zD d) 73)) _ _ _)
                            have HG := MkAt.put hHeld h1 h3 h5 h7 (by omega) (by omega) (by omega) (by omega)
                            refine wpAnyH_ready (rs := [8]) (by kernel_rfl) (by simp) ?_
                            refine AllReadyH.cons (o := { dst := none, op := Op.store 29 (Operand.tmp 9) (Operand.tmp 54), type := 0, pos := "more2.go:41", after := #[{ on := 7, ground := Ground.data }, { on := 6, ground := Ground.data }, { on := 0, ground := Ground.phase }, { on := 1, ground := Ground.phase }, { on := 2, ground := Ground.phase }, { on := 3, ground := Ground.phase }, { on := 4, ground := Ground.phase }, { on := 5, ground := Ground.phase }, { on := 6, ground := Ground.phase }, { on := 7, ground := Ground.phase }], guard := none }) rfl (fun K hK => ?_) ?_
                            · refine step_store_row rfl 29 (.tmp 9) (.tmp 54) rfl (U.heap.size) #[.int .i64 7, .int .i64 0, .int .i64 0, .int .i64 0, .string ⟨#[]⟩, .bool false, .string ⟨#[]⟩, .string ⟨#[]⟩, .int .i64 0, .int .i64 0, .slice (some ⟨U.heap.size + 1, 0, none⟩) p p, .slice none 0 0, .slice (some ⟨U.heap.size + 2, 0, none⟩) t t, .slice (some ⟨U.heap.size + 3, 0, none⟩) d d] rfl rfl 29 _ h7 (by kernel_rfl) rfl (by simp [Value.oneCell']) ?_
                              refine hK.out _ _ ?_ (fun hHeld => ?_)
                              · exact below_row hHeld (by omega)
                              clear hK K
                              (try simp only [Act.put, List.setIfInBounds_toArray, List.set_cons_zero, List.set_cons_succ])
                              refine wpAnyH_done (by kernel_rfl) ?_ _
                              refine NoPanic.normal ?_
                              refine ⟨rfl, U.heap.size + 1, U.heap.size + 2, U.heap.size + 3, U.heap.size, ?_, HG⟩
                              clear hHeld HG h1 h3 h5 h7
                              generalize U.heap.size + 3 = c3
                              generalize U.heap.size + 2 = c2
                              generalize U.heap.size + 1 = c1
                              generalize U.heap.size = c0
                              exact rfl
                            exact AllReadyH.nil
                          exact AllReadyH.nil
                        refine AllReadyH.cons (o := { dst := some 53, op := Op.makeSlice 27 (Operand.tmp 52) (Operand.tmp 52), type := 27, pos := "more2.go:41", after := #[{ on := 4, ground := Ground.data }, { on := 4, ground := Ground.data }], guard := none }) rfl (fun K hK => ?_) ?_
                        · have mk := MD.out; go_simp
                          refine hK.out _ _ ?_ (fun hHeld => ?_)
                          · exact Held.step (by assumption) ((Below.refl _ _).alloc (Nat.le_refl _) _)
                          clear hK K
                          (try simp only [Act.put, List.setIfInBounds_toArray, List.set_cons_zero, List.set_cons_succ])
                          refine wpAnyH_ready (rs := [3]) (by kernel_rfl) (by simp) ?_
                          refine AllReadyH.cons (o := { dst := some 51, op := Op.makeSlice 26 (Operand.tmp 50) (Operand.tmp 50), type := 26, pos := "more2.go:41", after := #[{ on := 2, ground := Ground.data }, { on := 2, ground := Ground.data }], guard := none }) rfl (fun K hK => ?_) ?_
                          · have mk := MT.out; go_simp
                            refine hK.out _ _ ?_ (fun hHeld => ?_)
                            · exact Held.step (by assumption) ((Below.refl _ _).alloc (Nat.le_refl _) _)
                            clear hK K
                            (try simp only [Act.put, List.setIfInBounds_toArray, List.set_cons_zero, List.set_cons_succ])
                            refine wpAnyH_take (i := 6) (oi := { dst := some 54, op := Op.build 29 #[(0, Operand.const (Value.int IntKind.i64 7)), (7, Operand.tmp 49), (9, Operand.tmp 51), (10, Operand.tmp 53)], type := 29, pos := "more2.go:41", after := #[{ on := 1, ground := Ground.data }, { on := 3, ground := Ground.data }, { on := 5, ground := Ground.data }], guard := none }) (v := .agg #[.int .i64 7, .int .i64 0, .int .i64 0, .int .i64 0, .string ⟨#[]⟩, .bool false, .string ⟨#[]⟩, .string ⟨#[]⟩, .int .i64 0, .int .i64 0, .slice (some ⟨U.heap.size + 1, 0, none⟩) p p, .slice none 0 0, .slice (some ⟨U.heap.size + 3, 0, none⟩) t t, .slice (some ⟨U.heap.size + 2, 0, none⟩) d d]) rfl (by kernel_rfl) (by kernel_rfl) (by kernel_rfl) (fun _ _ _ h => h) (Or.inl ⟨by rfl, fun w' hSw => by ((try dsimp only at hSw); go_simp)⟩) (by assumption) ?_
                            (try simp only [Act.put, List.setIfInBounds_toArray, List.set_cons_zero, List.set_cons_succ])
                            have h7 : Bx (((((U.alloc (.cells #[.int .i64 0, .int .i64 0, .int .i64 0, .int .i64 0, .string ⟨#[]⟩, .bool false, .string ⟨#[]⟩, .string ⟨#[]⟩, .int .i64 0, .int .i64 0, .slice none 0 0, .slice none 0 0, .slice none 0 0, .slice none 0 0] 29)).alloc (.cells (zI p) 3)).alloc (.cells (zD d) 73)).alloc (.cells (zT t) 41)).drew) (U.heap.size) #[.int .i64 0, .int .i64 0, .int .i64 0, .int .i64 0, .string ⟨#[]⟩, .bool false, .string ⟨#[]⟩, .string ⟨#[]⟩, .int .i64 0, .int .i64 0, .slice none 0 0, .slice none 0 0, .slice none 0 0, .slice none 0 0] 29 := by
                              exact (((Bx.new U _ _).alloc _ |>.alloc _ |>.alloc _) : Bx ((((U.alloc (.cells #[.int .i64 0, .int .i64 0, .int .i64 0, .int .i64 0, .string ⟨#[]⟩, .bool false, .string ⟨#[]⟩, .string ⟨#[]⟩, .int .i64 0, .int .i64 0, .slice none 0 0, .slice none 0 0, .slice none 0 0, .slice none 0 0] 29)).alloc (.cells (zI p) 3)).alloc (.cells (zD d) 73)).alloc (.cells (zT t) 41)) _ _ _)
                            have h1 : Bx (((((U.alloc (.cells #[.int .i64 0, .int .i64 0, .int .i64 0, .int .i64 0, .string ⟨#[]⟩, .bool false, .string ⟨#[]⟩, .string ⟨#[]⟩, .int .i64 0, .int .i64 0, .slice none 0 0, .slice none 0 0, .slice none 0 0, .slice none 0 0] 29)).alloc (.cells (zI p) 3)).alloc (.cells (zD d) 73)).alloc (.cells (zT t) 41)).drew) (U.heap.size + 1) (zI p) 3 := by
                              rw [show U.heap.size + 1 = (U.alloc (.cells #[.int .i64 0, .int .i64 0, .int .i64 0, .int .i64 0, .string ⟨#[]⟩, .bool false, .string ⟨#[]⟩, .string ⟨#[]⟩, .int .i64 0, .int .i64 0, .slice none 0 0, .slice none 0 0, .slice none 0 0, .slice none 0 0] 29)).heap.size by simp]
                              exact (((Bx.new (U.alloc (.cells #[.int .i64 0, .int .i64 0, .int .i64 0, .int .i64 0, .string ⟨#[]⟩, .bool false, .string ⟨#[]⟩, .string ⟨#[]⟩, .int .i64 0, .int .i64 0, .slice none 0 0, .slice none 0 0, .slice none 0 0, .slice none 0 0] 29)) _ _).alloc _ |>.alloc _) : Bx ((((U.alloc (.cells #[.int .i64 0, .int .i64 0, .int .i64 0, .int .i64 0, .string ⟨#[]⟩, .bool false, .string ⟨#[]⟩, .string ⟨#[]⟩, .int .i64 0, .int .i64 0, .slice none 0 0, .slice none 0 0, .slice none 0 0, .slice none 0 0] 29)).alloc (.cells (zI p) 3)).alloc (.cells (zD d) 73)).alloc (.cells (zT t) 41)) _ _ _)
                            have h5 : Bx (((((U.alloc (.cells #[.int .i64 0, .int .i64 0, .int .i64 0, .int .i64 0, .string ⟨#[]⟩, .bool false, .string ⟨#[]⟩, .string ⟨#[]⟩, .int .i64 0, .int .i64 0, .slice none 0 0, .slice none 0 0, .slice none 0 0, .slice none 0 0] 29)).alloc (.cells (zI p) 3)).alloc (.cells (zD d) 73)).alloc (.cells (zT t) 41)).drew) (U.heap.size + 2) (zD d) 73 := by
                              rw [show U.heap.size + 2 = ((U.alloc (.cells #[.int .i64 0, .int .i64 0, .int .i64 0, .int .i64 0, .string ⟨#[]⟩, .bool false, .string ⟨#[]⟩, .string ⟨#[]⟩, .int .i64 0, .int .i64 0, .slice none 0 0, .slice none 0 0, .slice none 0 0, .slice none 0 0] 29)).alloc (.cells (zI p) 3)).heap.size by simp]
                              exact (((Bx.new ((U.alloc (.cells #[.int .i64 0, .int .i64 0, .int .i64 0, .int .i64 0, .string ⟨#[]⟩, .bool false, .string ⟨#[]⟩, .string ⟨#[]⟩, .int .i64 0, .int .i64 0, .slice none 0 0, .slice none 0 0, .slice none 0 0, .slice none 0 0] 29)).alloc (.cells (zI p) 3)) _ _).alloc _) : Bx ((((U.alloc (.cells #[.int .i64 0, .int .i64 0, .int .i64 0, .int .i64 0, .string ⟨#[]⟩, .bool false, .string ⟨#[]⟩, .string ⟨#[]⟩, .int .i64 0, .int .i64 0, .slice none 0 0, .slice none 0 0, .slice none 0 0, .slice none 0 0] 29)).alloc (.cells (zI p) 3)).alloc (.cells (zD d) 73)).alloc (.cells (zT t) 41)) _ _ _)
                            have h3 : Bx (((((U.alloc (.cells #[.int .i64 0, .int .i64 0, .int .i64 0, .int .i64 0, .string ⟨#[]⟩, .bool false, .string ⟨#[]⟩, .string ⟨#[]⟩, .int .i64 0, .int .i64 0, .slice none 0 0, .slice none 0 0, .slice none 0 0, .slice none 0 0] 29)).alloc (.cells (zI p) 3)).alloc (.cells (zD d) 73)).alloc (.cells (zT t) 41)).drew) (U.heap.size + 3) (zT t) 41 := by
                              rw [show U.heap.size + 3 = (((U.alloc (.cells #[.int .i64 0, .int .i64 0, .int .i64 0, .int .i64 0, .string ⟨#[]⟩, .bool false, .string ⟨#[]⟩, .string ⟨#[]⟩, .int .i64 0, .int .i64 0, .slice none 0 0, .slice none 0 0, .slice none 0 0, .slice none 0 0] 29)).alloc (.cells (zI p) 3)).alloc (.cells (zD d) 73)).heap.size by simp]
                              exact (((Bx.new (((U.alloc (.cells #[.int .i64 0, .int .i64 0, .int .i64 0, .int .i64 0, .string ⟨#[]⟩, .bool false, .string ⟨#[]⟩, .string ⟨#[]⟩, .int .i64 0, .int .i64 0, .slice none 0 0, .slice none 0 0, .slice none 0 0, .slice none 0 0] 29)).alloc (.cells (zI p) 3)).alloc (.cells (zD d) 73)) _ _)) : Bx ((((U.alloc (.cells #[.int .i64 0, .int .i64 0, .int .i64 0, .int .i64 0, .string ⟨#[]⟩, .bool false, .string ⟨#[]⟩, .string ⟨#[]⟩, .int .i64 0, .int .i64 0, .slice none 0 0, .slice none 0 0, .slice none 0 0, .slice none 0 0] 29)).alloc (.cells (zI p) 3)).alloc (.cells (zD d) 73)).alloc (.cells (zT t) 41)) _ _ _)
                            have HG := MkAt.put hHeld h1 h3 h5 h7 (by omega) (by omega) (by omega) (by omega)
                            refine wpAnyH_ready (rs := [8]) (by kernel_rfl) (by simp) ?_
                            refine AllReadyH.cons (o := { dst := none, op := Op.store 29 (Operand.tmp 9) (Operand.tmp 54), type := 0, pos := "more2.go:41", after := #[{ on := 7, ground := Ground.data }, { on := 6, ground := Ground.data }, { on := 0, ground := Ground.phase }, { on := 1, ground := Ground.phase }, { on := 2, ground := Ground.phase }, { on := 3, ground := Ground.phase }, { on := 4, ground := Ground.phase }, { on := 5, ground := Ground.phase }, { on := 6, ground := Ground.phase }, { on := 7, ground := Ground.phase }], guard := none }) rfl (fun K hK => ?_) ?_
                            · refine step_store_row rfl 29 (.tmp 9) (.tmp 54) rfl (U.heap.size) #[.int .i64 7, .int .i64 0, .int .i64 0, .int .i64 0, .string ⟨#[]⟩, .bool false, .string ⟨#[]⟩, .string ⟨#[]⟩, .int .i64 0, .int .i64 0, .slice (some ⟨U.heap.size + 1, 0, none⟩) p p, .slice none 0 0, .slice (some ⟨U.heap.size + 3, 0, none⟩) t t, .slice (some ⟨U.heap.size + 2, 0, none⟩) d d] rfl rfl 29 _ h7 (by kernel_rfl) rfl (by simp [Value.oneCell']) ?_
                              refine hK.out _ _ ?_ (fun hHeld => ?_)
                              · exact below_row hHeld (by omega)
                              clear hK K
                              (try simp only [Act.put, List.setIfInBounds_toArray, List.set_cons_zero, List.set_cons_succ])
                              refine wpAnyH_done (by kernel_rfl) ?_ _
                              refine NoPanic.normal ?_
                              refine ⟨rfl, U.heap.size + 1, U.heap.size + 3, U.heap.size + 2, U.heap.size, ?_, HG⟩
                              clear hHeld HG h1 h3 h5 h7
                              generalize U.heap.size + 3 = c3
                              generalize U.heap.size + 2 = c2
                              generalize U.heap.size + 1 = c1
                              generalize U.heap.size = c0
                              exact rfl
                            exact AllReadyH.nil
                          exact AllReadyH.nil
                        exact AllReadyH.nil
                      refine AllReadyH.cons (o := { dst := some 51, op := Op.makeSlice 26 (Operand.tmp 50) (Operand.tmp 50), type := 26, pos := "more2.go:41", after := #[{ on := 2, ground := Ground.data }, { on := 2, ground := Ground.data }], guard := none }) rfl (fun K hK => ?_) ?_
                      · have mk := MT.out; go_simp
                        refine hK.out _ _ ?_ (fun hHeld => ?_)
                        · exact Held.step (by assumption) ((Below.refl _ _).alloc (Nat.le_refl _) _)
                        clear hK K
                        (try simp only [Act.put, List.setIfInBounds_toArray, List.set_cons_zero, List.set_cons_succ])
                        refine wpAnyH_ready (rs := [1, 5]) (by kernel_rfl) (by simp) ?_
                        refine AllReadyH.cons (o := { dst := some 49, op := Op.makeSlice 24 (Operand.tmp 48) (Operand.tmp 48), type := 24, pos := "more2.go:41", after := #[{ on := 0, ground := Ground.data }, { on := 0, ground := Ground.data }], guard := none }) rfl (fun K hK => ?_) ?_
                        · have mk := MI.out; go_simp
                          refine hK.out _ _ ?_ (fun hHeld => ?_)
                          · exact Held.step (by assumption) ((Below.refl _ _).alloc (Nat.le_refl _) _)
                          clear hK K
                          (try simp only [Act.put, List.setIfInBounds_toArray, List.set_cons_zero, List.set_cons_succ])
                          refine wpAnyH_ready (rs := [5]) (by kernel_rfl) (by simp) ?_
                          refine AllReadyH.cons (o := { dst := some 53, op := Op.makeSlice 27 (Operand.tmp 52) (Operand.tmp 52), type := 27, pos := "more2.go:41", after := #[{ on := 4, ground := Ground.data }, { on := 4, ground := Ground.data }], guard := none }) rfl (fun K hK => ?_) ?_
                          · have mk := MD.out; go_simp
                            refine hK.out _ _ ?_ (fun hHeld => ?_)
                            · exact Held.step (by assumption) ((Below.refl _ _).alloc (Nat.le_refl _) _)
                            clear hK K
                            (try simp only [Act.put, List.setIfInBounds_toArray, List.set_cons_zero, List.set_cons_succ])
                            refine wpAnyH_take (i := 6) (oi := { dst := some 54, op := Op.build 29 #[(0, Operand.const (Value.int IntKind.i64 7)), (7, Operand.tmp 49), (9, Operand.tmp 51), (10, Operand.tmp 53)], type := 29, pos := "more2.go:41", after := #[{ on := 1, ground := Ground.data }, { on := 3, ground := Ground.data }, { on := 5, ground := Ground.data }], guard := none }) (v := .agg #[.int .i64 7, .int .i64 0, .int .i64 0, .int .i64 0, .string ⟨#[]⟩, .bool false, .string ⟨#[]⟩, .string ⟨#[]⟩, .int .i64 0, .int .i64 0, .slice (some ⟨U.heap.size + 2, 0, none⟩) p p, .slice none 0 0, .slice (some ⟨U.heap.size + 1, 0, none⟩) t t, .slice (some ⟨U.heap.size + 3, 0, none⟩) d d]) rfl (by kernel_rfl) (by kernel_rfl) (by kernel_rfl) (fun _ _ _ h => h) (Or.inl ⟨by rfl, fun w' hSw => by ((try dsimp only at hSw); go_simp)⟩) (by assumption) ?_
                            (try simp only [Act.put, List.setIfInBounds_toArray, List.set_cons_zero, List.set_cons_succ])
                            have h7 : Bx (((((U.alloc (.cells #[.int .i64 0, .int .i64 0, .int .i64 0, .int .i64 0, .string ⟨#[]⟩, .bool false, .string ⟨#[]⟩, .string ⟨#[]⟩, .int .i64 0, .int .i64 0, .slice none 0 0, .slice none 0 0, .slice none 0 0, .slice none 0 0] 29)).alloc (.cells (zT t) 41)).alloc (.cells (zI p) 3)).alloc (.cells (zD d) 73)).drew) (U.heap.size) #[.int .i64 0, .int .i64 0, .int .i64 0, .int .i64 0, .string ⟨#[]⟩, .bool false, .string ⟨#[]⟩, .string ⟨#[]⟩, .int .i64 0, .int .i64 0, .slice none 0 0, .slice none 0 0, .slice none 0 0, .slice none 0 0] 29 := by
                              exact (((Bx.new U _ _).alloc _ |>.alloc _ |>.alloc _) : Bx ((((U.alloc (.cells #[.int .i64 0, .int .i64 0, .int .i64 0, .int .i64 0, .string ⟨#[]⟩, .bool false, .string ⟨#[]⟩, .string ⟨#[]⟩, .int .i64 0, .int .i64 0, .slice none 0 0, .slice none 0 0, .slice none 0 0, .slice none 0 0] 29)).alloc (.cells (zT t) 41)).alloc (.cells (zI p) 3)).alloc (.cells (zD d) 73)) _ _ _)
                            have h3 : Bx (((((U.alloc (.cells #[.int .i64 0, .int .i64 0, .int .i64 0, .int .i64 0, .string ⟨#[]⟩, .bool false, .string ⟨#[]⟩, .string ⟨#[]⟩, .int .i64 0, .int .i64 0, .slice none 0 0, .slice none 0 0, .slice none 0 0, .slice none 0 0] 29)).alloc (.cells (zT t) 41)).alloc (.cells (zI p) 3)).alloc (.cells (zD d) 73)).drew) (U.heap.size + 1) (zT t) 41 := by
                              rw [show U.heap.size + 1 = (U.alloc (.cells #[.int .i64 0, .int .i64 0, .int .i64 0, .int .i64 0, .string ⟨#[]⟩, .bool false, .string ⟨#[]⟩, .string ⟨#[]⟩, .int .i64 0, .int .i64 0, .slice none 0 0, .slice none 0 0, .slice none 0 0, .slice none 0 0] 29)).heap.size by simp]
                              exact (((Bx.new (U.alloc (.cells #[.int .i64 0, .int .i64 0, .int .i64 0, .int .i64 0, .string ⟨#[]⟩, .bool false, .string ⟨#[]⟩, .string ⟨#[]⟩, .int .i64 0, .int .i64 0, .slice none 0 0, .slice none 0 0, .slice none 0 0, .slice none 0 0] 29)) _ _).alloc _ |>.alloc _) : Bx ((((U.alloc (.cells #[.int .i64 0, .int .i64 0, .int .i64 0, .int .i64 0, .string ⟨#[]⟩, .bool false, .string ⟨#[]⟩, .string ⟨#[]⟩, .int .i64 0, .int .i64 0, .slice none 0 0, .slice none 0 0, .slice none 0 0, .slice none 0 0] 29)).alloc (.cells (zT t) 41)).alloc (.cells (zI p) 3)).alloc (.cells (zD d) 73)) _ _ _)
                            have h1 : Bx (((((U.alloc (.cells #[.int .i64 0, .int .i64 0, .int .i64 0, .int .i64 0, .string ⟨#[]⟩, .bool false, .string ⟨#[]⟩, .string ⟨#[]⟩, .int .i64 0, .int .i64 0, .slice none 0 0, .slice none 0 0, .slice none 0 0, .slice none 0 0] 29)).alloc (.cells (zT t) 41)).alloc (.cells (zI p) 3)).alloc (.cells (zD d) 73)).drew) (U.heap.size + 2) (zI p) 3 := by
                              rw [show U.heap.size + 2 = ((U.alloc (.cells #[.int .i64 0, .int .i64 0, .int .i64 0, .int .i64 0, .string ⟨#[]⟩, .bool false, .string ⟨#[]⟩, .string ⟨#[]⟩, .int .i64 0, .int .i64 0, .slice none 0 0, .slice none 0 0, .slice none 0 0, .slice none 0 0] 29)).alloc (.cells (zT t) 41)).heap.size by simp]
                              exact (((Bx.new ((U.alloc (.cells #[.int .i64 0, .int .i64 0, .int .i64 0, .int .i64 0, .string ⟨#[]⟩, .bool false, .string ⟨#[]⟩, .string ⟨#[]⟩, .int .i64 0, .int .i64 0, .slice none 0 0, .slice none 0 0, .slice none 0 0, .slice none 0 0] 29)).alloc (.cells (zT t) 41)) _ _).alloc _) : Bx ((((U.alloc (.cells #[.int .i64 0, .int .i64 0, .int .i64 0, .int .i64 0, .string ⟨#[]⟩, .bool false, .string ⟨#[]⟩, .string ⟨#[]⟩, .int .i64 0, .int .i64 0, .slice none 0 0, .slice none 0 0, .slice none 0 0, .slice none 0 0] 29)).alloc (.cells (zT t) 41)).alloc (.cells (zI p) 3)).alloc (.cells (zD d) 73)) _ _ _)
                            have h5 : Bx (((((U.alloc (.cells #[.int .i64 0, .int .i64 0, .int .i64 0, .int .i64 0, .string ⟨#[]⟩, .bool false, .string ⟨#[]⟩, .string ⟨#[]⟩, .int .i64 0, .int .i64 0, .slice none 0 0, .slice none 0 0, .slice none 0 0, .slice none 0 0] 29)).alloc (.cells (zT t) 41)).alloc (.cells (zI p) 3)).alloc (.cells (zD d) 73)).drew) (U.heap.size + 3) (zD d) 73 := by
                              rw [show U.heap.size + 3 = (((U.alloc (.cells #[.int .i64 0, .int .i64 0, .int .i64 0, .int .i64 0, .string ⟨#[]⟩, .bool false, .string ⟨#[]⟩, .string ⟨#[]⟩, .int .i64 0, .int .i64 0, .slice none 0 0, .slice none 0 0, .slice none 0 0, .slice none 0 0] 29)).alloc (.cells (zT t) 41)).alloc (.cells (zI p) 3)).heap.size by simp]
                              exact (((Bx.new (((U.alloc (.cells #[.int .i64 0, .int .i64 0, .int .i64 0, .int .i64 0, .string ⟨#[]⟩, .bool false, .string ⟨#[]⟩, .string ⟨#[]⟩, .int .i64 0, .int .i64 0, .slice none 0 0, .slice none 0 0, .slice none 0 0, .slice none 0 0] 29)).alloc (.cells (zT t) 41)).alloc (.cells (zI p) 3)) _ _)) : Bx ((((U.alloc (.cells #[.int .i64 0, .int .i64 0, .int .i64 0, .int .i64 0, .string ⟨#[]⟩, .bool false, .string ⟨#[]⟩, .string ⟨#[]⟩, .int .i64 0, .int .i64 0, .slice none 0 0, .slice none 0 0, .slice none 0 0, .slice none 0 0] 29)).alloc (.cells (zT t) 41)).alloc (.cells (zI p) 3)).alloc (.cells (zD d) 73)) _ _ _)
                            have HG := MkAt.put hHeld h1 h3 h5 h7 (by omega) (by omega) (by omega) (by omega)
                            refine wpAnyH_ready (rs := [8]) (by kernel_rfl) (by simp) ?_
                            refine AllReadyH.cons (o := { dst := none, op := Op.store 29 (Operand.tmp 9) (Operand.tmp 54), type := 0, pos := "more2.go:41", after := #[{ on := 7, ground := Ground.data }, { on := 6, ground := Ground.data }, { on := 0, ground := Ground.phase }, { on := 1, ground := Ground.phase }, { on := 2, ground := Ground.phase }, { on := 3, ground := Ground.phase }, { on := 4, ground := Ground.phase }, { on := 5, ground := Ground.phase }, { on := 6, ground := Ground.phase }, { on := 7, ground := Ground.phase }], guard := none }) rfl (fun K hK => ?_) ?_
                            · refine step_store_row rfl 29 (.tmp 9) (.tmp 54) rfl (U.heap.size) #[.int .i64 7, .int .i64 0, .int .i64 0, .int .i64 0, .string ⟨#[]⟩, .bool false, .string ⟨#[]⟩, .string ⟨#[]⟩, .int .i64 0, .int .i64 0, .slice (some ⟨U.heap.size + 2, 0, none⟩) p p, .slice none 0 0, .slice (some ⟨U.heap.size + 1, 0, none⟩) t t, .slice (some ⟨U.heap.size + 3, 0, none⟩) d d] rfl rfl 29 _ h7 (by kernel_rfl) rfl (by simp [Value.oneCell']) ?_
                              refine hK.out _ _ ?_ (fun hHeld => ?_)
                              · exact below_row hHeld (by omega)
                              clear hK K
                              (try simp only [Act.put, List.setIfInBounds_toArray, List.set_cons_zero, List.set_cons_succ])
                              refine wpAnyH_done (by kernel_rfl) ?_ _
                              refine NoPanic.normal ?_
                              refine ⟨rfl, U.heap.size + 2, U.heap.size + 1, U.heap.size + 3, U.heap.size, ?_, HG⟩
                              clear hHeld HG h1 h3 h5 h7
                              generalize U.heap.size + 3 = c3
                              generalize U.heap.size + 2 = c2
                              generalize U.heap.size + 1 = c1
                              generalize U.heap.size = c0
                              exact rfl
                            exact AllReadyH.nil
                          exact AllReadyH.nil
                        refine AllReadyH.cons (o := { dst := some 53, op := Op.makeSlice 27 (Operand.tmp 52) (Operand.tmp 52), type := 27, pos := "more2.go:41", after := #[{ on := 4, ground := Ground.data }, { on := 4, ground := Ground.data }], guard := none }) rfl (fun K hK => ?_) ?_
                        · have mk := MD.out; go_simp
                          refine hK.out _ _ ?_ (fun hHeld => ?_)
                          · exact Held.step (by assumption) ((Below.refl _ _).alloc (Nat.le_refl _) _)
                          clear hK K
                          (try simp only [Act.put, List.setIfInBounds_toArray, List.set_cons_zero, List.set_cons_succ])
                          refine wpAnyH_ready (rs := [1]) (by kernel_rfl) (by simp) ?_
                          refine AllReadyH.cons (o := { dst := some 49, op := Op.makeSlice 24 (Operand.tmp 48) (Operand.tmp 48), type := 24, pos := "more2.go:41", after := #[{ on := 0, ground := Ground.data }, { on := 0, ground := Ground.data }], guard := none }) rfl (fun K hK => ?_) ?_
                          · have mk := MI.out; go_simp
                            refine hK.out _ _ ?_ (fun hHeld => ?_)
                            · exact Held.step (by assumption) ((Below.refl _ _).alloc (Nat.le_refl _) _)
                            clear hK K
                            (try simp only [Act.put, List.setIfInBounds_toArray, List.set_cons_zero, List.set_cons_succ])
                            refine wpAnyH_take (i := 6) (oi := { dst := some 54, op := Op.build 29 #[(0, Operand.const (Value.int IntKind.i64 7)), (7, Operand.tmp 49), (9, Operand.tmp 51), (10, Operand.tmp 53)], type := 29, pos := "more2.go:41", after := #[{ on := 1, ground := Ground.data }, { on := 3, ground := Ground.data }, { on := 5, ground := Ground.data }], guard := none }) (v := .agg #[.int .i64 7, .int .i64 0, .int .i64 0, .int .i64 0, .string ⟨#[]⟩, .bool false, .string ⟨#[]⟩, .string ⟨#[]⟩, .int .i64 0, .int .i64 0, .slice (some ⟨U.heap.size + 3, 0, none⟩) p p, .slice none 0 0, .slice (some ⟨U.heap.size + 1, 0, none⟩) t t, .slice (some ⟨U.heap.size + 2, 0, none⟩) d d]) rfl (by kernel_rfl) (by kernel_rfl) (by kernel_rfl) (fun _ _ _ h => h) (Or.inl ⟨by rfl, fun w' hSw => by ((try dsimp only at hSw); go_simp)⟩) (by assumption) ?_
                            (try simp only [Act.put, List.setIfInBounds_toArray, List.set_cons_zero, List.set_cons_succ])
                            have h7 : Bx (((((U.alloc (.cells #[.int .i64 0, .int .i64 0, .int .i64 0, .int .i64 0, .string ⟨#[]⟩, .bool false, .string ⟨#[]⟩, .string ⟨#[]⟩, .int .i64 0, .int .i64 0, .slice none 0 0, .slice none 0 0, .slice none 0 0, .slice none 0 0] 29)).alloc (.cells (zT t) 41)).alloc (.cells (zD d) 73)).alloc (.cells (zI p) 3)).drew) (U.heap.size) #[.int .i64 0, .int .i64 0, .int .i64 0, .int .i64 0, .string ⟨#[]⟩, .bool false, .string ⟨#[]⟩, .string ⟨#[]⟩, .int .i64 0, .int .i64 0, .slice none 0 0, .slice none 0 0, .slice none 0 0, .slice none 0 0] 29 := by
                              exact (((Bx.new U _ _).alloc _ |>.alloc _ |>.alloc _) : Bx ((((U.alloc (.cells #[.int .i64 0, .int .i64 0, .int .i64 0, .int .i64 0, .string ⟨#[]⟩, .bool false, .string ⟨#[]⟩, .string ⟨#[]⟩, .int .i64 0, .int .i64 0, .slice none 0 0, .slice none 0 0, .slice none 0 0, .slice none 0 0] 29)).alloc (.cells (zT t) 41)).alloc (.cells (zD d) 73)).alloc (.cells (zI p) 3)) _ _ _)
                            have h3 : Bx (((((U.alloc (.cells #[.int .i64 0, .int .i64 0, .int .i64 0, .int .i64 0, .string ⟨#[]⟩, .bool false, .string ⟨#[]⟩, .string ⟨#[]⟩, .int .i64 0, .int .i64 0, .slice none 0 0, .slice none 0 0, .slice none 0 0, .slice none 0 0] 29)).alloc (.cells (zT t) 41)).alloc (.cells (zD d) 73)).alloc (.cells (zI p) 3)).drew) (U.heap.size + 1) (zT t) 41 := by
                              rw [show U.heap.size + 1 = (U.alloc (.cells #[.int .i64 0, .int .i64 0, .int .i64 0, .int .i64 0, .string ⟨#[]⟩, .bool false, .string ⟨#[]⟩, .string ⟨#[]⟩, .int .i64 0, .int .i64 0, .slice none 0 0, .slice none 0 0, .slice none 0 0, .slice none 0 0] 29)).heap.size by simp]
                              exact (((Bx.new (U.alloc (.cells #[.int .i64 0, .int .i64 0, .int .i64 0, .int .i64 0, .string ⟨#[]⟩, .bool false, .string ⟨#[]⟩, .string ⟨#[]⟩, .int .i64 0, .int .i64 0, .slice none 0 0, .slice none 0 0, .slice none 0 0, .slice none 0 0] 29)) _ _).alloc _ |>.alloc _) : Bx ((((U.alloc (.cells #[.int .i64 0, .int .i64 0, .int .i64 0, .int .i64 0, .string ⟨#[]⟩, .bool false, .string ⟨#[]⟩, .string ⟨#[]⟩, .int .i64 0, .int .i64 0, .slice none 0 0, .slice none 0 0, .slice none 0 0, .slice none 0 0] 29)).alloc (.cells (zT t) 41)).alloc (.cells (zD d) 73)).alloc (.cells (zI p) 3)) _ _ _)
                            have h5 : Bx (((((U.alloc (.cells #[.int .i64 0, .int .i64 0, .int .i64 0, .int .i64 0, .string ⟨#[]⟩, .bool false, .string ⟨#[]⟩, .string ⟨#[]⟩, .int .i64 0, .int .i64 0, .slice none 0 0, .slice none 0 0, .slice none 0 0, .slice none 0 0] 29)).alloc (.cells (zT t) 41)).alloc (.cells (zD d) 73)).alloc (.cells (zI p) 3)).drew) (U.heap.size + 2) (zD d) 73 := by
                              rw [show U.heap.size + 2 = ((U.alloc (.cells #[.int .i64 0, .int .i64 0, .int .i64 0, .int .i64 0, .string ⟨#[]⟩, .bool false, .string ⟨#[]⟩, .string ⟨#[]⟩, .int .i64 0, .int .i64 0, .slice none 0 0, .slice none 0 0, .slice none 0 0, .slice none 0 0] 29)).alloc (.cells (zT t) 41)).heap.size by simp]
                              exact (((Bx.new ((U.alloc (.cells #[.int .i64 0, .int .i64 0, .int .i64 0, .int .i64 0, .string ⟨#[]⟩, .bool false, .string ⟨#[]⟩, .string ⟨#[]⟩, .int .i64 0, .int .i64 0, .slice none 0 0, .slice none 0 0, .slice none 0 0, .slice none 0 0] 29)).alloc (.cells (zT t) 41)) _ _).alloc _) : Bx ((((U.alloc (.cells #[.int .i64 0, .int .i64 0, .int .i64 0, .int .i64 0, .string ⟨#[]⟩, .bool false, .string ⟨#[]⟩, .string ⟨#[]⟩, .int .i64 0, .int .i64 0, .slice none 0 0, .slice none 0 0, .slice none 0 0, .slice none 0 0] 29)).alloc (.cells (zT t) 41)).alloc (.cells (zD d) 73)).alloc (.cells (zI p) 3)) _ _ _)
                            have h1 : Bx (((((U.alloc (.cells #[.int .i64 0, .int .i64 0, .int .i64 0, .int .i64 0, .string ⟨#[]⟩, .bool false, .string ⟨#[]⟩, .string ⟨#[]⟩, .int .i64 0, .int .i64 0, .slice none 0 0, .slice none 0 0, .slice none 0 0, .slice none 0 0] 29)).alloc (.cells (zT t) 41)).alloc (.cells (zD d) 73)).alloc (.cells (zI p) 3)).drew) (U.heap.size + 3) (zI p) 3 := by
                              rw [show U.heap.size + 3 = (((U.alloc (.cells #[.int .i64 0, .int .i64 0, .int .i64 0, .int .i64 0, .string ⟨#[]⟩, .bool false, .string ⟨#[]⟩, .string ⟨#[]⟩, .int .i64 0, .int .i64 0, .slice none 0 0, .slice none 0 0, .slice none 0 0, .slice none 0 0] 29)).alloc (.cells (zT t) 41)).alloc (.cells (zD d) 73)).heap.size by simp]
                              exact (((Bx.new (((U.alloc (.cells #[.int .i64 0, .int .i64 0, .int .i64 0, .int .i64 0, .string ⟨#[]⟩, .bool false, .string ⟨#[]⟩, .string ⟨#[]⟩, .int .i64 0, .int .i64 0, .slice none 0 0, .slice none 0 0, .slice none 0 0, .slice none 0 0] 29)).alloc (.cells (zT t) 41)).alloc (.cells (zD d) 73)) _ _)) : Bx ((((U.alloc (.cells #[.int .i64 0, .int .i64 0, .int .i64 0, .int .i64 0, .string ⟨#[]⟩, .bool false, .string ⟨#[]⟩, .string ⟨#[]⟩, .int .i64 0, .int .i64 0, .slice none 0 0, .slice none 0 0, .slice none 0 0, .slice none 0 0] 29)).alloc (.cells (zT t) 41)).alloc (.cells (zD d) 73)).alloc (.cells (zI p) 3)) _ _ _)
                            have HG := MkAt.put hHeld h1 h3 h5 h7 (by omega) (by omega) (by omega) (by omega)
                            refine wpAnyH_ready (rs := [8]) (by kernel_rfl) (by simp) ?_
                            refine AllReadyH.cons (o := { dst := none, op := Op.store 29 (Operand.tmp 9) (Operand.tmp 54), type := 0, pos := "more2.go:41", after := #[{ on := 7, ground := Ground.data }, { on := 6, ground := Ground.data }, { on := 0, ground := Ground.phase }, { on := 1, ground := Ground.phase }, { on := 2, ground := Ground.phase }, { on := 3, ground := Ground.phase }, { on := 4, ground := Ground.phase }, { on := 5, ground := Ground.phase }, { on := 6, ground := Ground.phase }, { on := 7, ground := Ground.phase }], guard := none }) rfl (fun K hK => ?_) ?_
                            · refine step_store_row rfl 29 (.tmp 9) (.tmp 54) rfl (U.heap.size) #[.int .i64 7, .int .i64 0, .int .i64 0, .int .i64 0, .string ⟨#[]⟩, .bool false, .string ⟨#[]⟩, .string ⟨#[]⟩, .int .i64 0, .int .i64 0, .slice (some ⟨U.heap.size + 3, 0, none⟩) p p, .slice none 0 0, .slice (some ⟨U.heap.size + 1, 0, none⟩) t t, .slice (some ⟨U.heap.size + 2, 0, none⟩) d d] rfl rfl 29 _ h7 (by kernel_rfl) rfl (by simp [Value.oneCell']) ?_
                              refine hK.out _ _ ?_ (fun hHeld => ?_)
                              · exact below_row hHeld (by omega)
                              clear hK K
                              (try simp only [Act.put, List.setIfInBounds_toArray, List.set_cons_zero, List.set_cons_succ])
                              refine wpAnyH_done (by kernel_rfl) ?_ _
                              refine NoPanic.normal ?_
                              refine ⟨rfl, U.heap.size + 3, U.heap.size + 1, U.heap.size + 2, U.heap.size, ?_, HG⟩
                              clear hHeld HG h1 h3 h5 h7
                              generalize U.heap.size + 3 = c3
                              generalize U.heap.size + 2 = c2
                              generalize U.heap.size + 1 = c1
                              generalize U.heap.size = c0
                              exact rfl
                            exact AllReadyH.nil
                          exact AllReadyH.nil
                        exact AllReadyH.nil
                      refine AllReadyH.cons (o := { dst := some 53, op := Op.makeSlice 27 (Operand.tmp 52) (Operand.tmp 52), type := 27, pos := "more2.go:41", after := #[{ on := 4, ground := Ground.data }, { on := 4, ground := Ground.data }], guard := none }) rfl (fun K hK => ?_) ?_
                      · have mk := MD.out; go_simp
                        refine hK.out _ _ ?_ (fun hHeld => ?_)
                        · exact Held.step (by assumption) ((Below.refl _ _).alloc (Nat.le_refl _) _)
                        clear hK K
                        (try simp only [Act.put, List.setIfInBounds_toArray, List.set_cons_zero, List.set_cons_succ])
                        refine wpAnyH_ready (rs := [1, 3]) (by kernel_rfl) (by simp) ?_
                        refine AllReadyH.cons (o := { dst := some 49, op := Op.makeSlice 24 (Operand.tmp 48) (Operand.tmp 48), type := 24, pos := "more2.go:41", after := #[{ on := 0, ground := Ground.data }, { on := 0, ground := Ground.data }], guard := none }) rfl (fun K hK => ?_) ?_
                        · have mk := MI.out; go_simp
                          refine hK.out _ _ ?_ (fun hHeld => ?_)
                          · exact Held.step (by assumption) ((Below.refl _ _).alloc (Nat.le_refl _) _)
                          clear hK K
                          (try simp only [Act.put, List.setIfInBounds_toArray, List.set_cons_zero, List.set_cons_succ])
                          refine wpAnyH_ready (rs := [3]) (by kernel_rfl) (by simp) ?_
                          refine AllReadyH.cons (o := { dst := some 51, op := Op.makeSlice 26 (Operand.tmp 50) (Operand.tmp 50), type := 26, pos := "more2.go:41", after := #[{ on := 2, ground := Ground.data }, { on := 2, ground := Ground.data }], guard := none }) rfl (fun K hK => ?_) ?_
                          · have mk := MT.out; go_simp
                            refine hK.out _ _ ?_ (fun hHeld => ?_)
                            · exact Held.step (by assumption) ((Below.refl _ _).alloc (Nat.le_refl _) _)
                            clear hK K
                            (try simp only [Act.put, List.setIfInBounds_toArray, List.set_cons_zero, List.set_cons_succ])
                            refine wpAnyH_take (i := 6) (oi := { dst := some 54, op := Op.build 29 #[(0, Operand.const (Value.int IntKind.i64 7)), (7, Operand.tmp 49), (9, Operand.tmp 51), (10, Operand.tmp 53)], type := 29, pos := "more2.go:41", after := #[{ on := 1, ground := Ground.data }, { on := 3, ground := Ground.data }, { on := 5, ground := Ground.data }], guard := none }) (v := .agg #[.int .i64 7, .int .i64 0, .int .i64 0, .int .i64 0, .string ⟨#[]⟩, .bool false, .string ⟨#[]⟩, .string ⟨#[]⟩, .int .i64 0, .int .i64 0, .slice (some ⟨U.heap.size + 2, 0, none⟩) p p, .slice none 0 0, .slice (some ⟨U.heap.size + 3, 0, none⟩) t t, .slice (some ⟨U.heap.size + 1, 0, none⟩) d d]) rfl (by kernel_rfl) (by kernel_rfl) (by kernel_rfl) (fun _ _ _ h => h) (Or.inl ⟨by rfl, fun w' hSw => by ((try dsimp only at hSw); go_simp)⟩) (by assumption) ?_
                            (try simp only [Act.put, List.setIfInBounds_toArray, List.set_cons_zero, List.set_cons_succ])
                            have h7 : Bx (((((U.alloc (.cells #[.int .i64 0, .int .i64 0, .int .i64 0, .int .i64 0, .string ⟨#[]⟩, .bool false, .string ⟨#[]⟩, .string ⟨#[]⟩, .int .i64 0, .int .i64 0, .slice none 0 0, .slice none 0 0, .slice none 0 0, .slice none 0 0] 29)).alloc (.cells (zD d) 73)).alloc (.cells (zI p) 3)).alloc (.cells (zT t) 41)).drew) (U.heap.size) #[.int .i64 0, .int .i64 0, .int .i64 0, .int .i64 0, .string ⟨#[]⟩, .bool false, .string ⟨#[]⟩, .string ⟨#[]⟩, .int .i64 0, .int .i64 0, .slice none 0 0, .slice none 0 0, .slice none 0 0, .slice none 0 0] 29 := by
                              exact (((Bx.new U _ _).alloc _ |>.alloc _ |>.alloc _) : Bx ((((U.alloc (.cells #[.int .i64 0, .int .i64 0, .int .i64 0, .int .i64 0, .string ⟨#[]⟩, .bool false, .string ⟨#[]⟩, .string ⟨#[]⟩, .int .i64 0, .int .i64 0, .slice none 0 0, .slice none 0 0, .slice none 0 0, .slice none 0 0] 29)).alloc (.cells (zD d) 73)).alloc (.cells (zI p) 3)).alloc (.cells (zT t) 41)) _ _ _)
                            have h5 : Bx (((((U.alloc (.cells #[.int .i64 0, .int .i64 0, .int .i64 0, .int .i64 0, .string ⟨#[]⟩, .bool false, .string ⟨#[]⟩, .string ⟨#[]⟩, .int .i64 0, .int .i64 0, .slice none 0 0, .slice none 0 0, .slice none 0 0, .slice none 0 0] 29)).alloc (.cells (zD d) 73)).alloc (.cells (zI p) 3)).alloc (.cells (zT t) 41)).drew) (U.heap.size + 1) (zD d) 73 := by
                              rw [show U.heap.size + 1 = (U.alloc (.cells #[.int .i64 0, .int .i64 0, .int .i64 0, .int .i64 0, .string ⟨#[]⟩, .bool false, .string ⟨#[]⟩, .string ⟨#[]⟩, .int .i64 0, .int .i64 0, .slice none 0 0, .slice none 0 0, .slice none 0 0, .slice none 0 0] 29)).heap.size by simp]
                              exact (((Bx.new (U.alloc (.cells #[.int .i64 0, .int .i64 0, .int .i64 0, .int .i64 0, .string ⟨#[]⟩, .bool false, .string ⟨#[]⟩, .string ⟨#[]⟩, .int .i64 0, .int .i64 0, .slice none 0 0, .slice none 0 0, .slice none 0 0, .slice none 0 0] 29)) _ _).alloc _ |>.alloc _) : Bx ((((U.alloc (.cells #[.int .i64 0, .int .i64 0, .int .i64 0, .int .i64 0, .string ⟨#[]⟩, .bool false, .string ⟨#[]⟩, .string ⟨#[]⟩, .int .i64 0, .int .i64 0, .slice none 0 0, .slice none 0 0, .slice none 0 0, .slice none 0 0] 29)).alloc (.cells (zD d) 73)).alloc (.cells (zI p) 3)).alloc (.cells (zT t) 41)) _ _ _)
                            have h1 : Bx (((((U.alloc (.cells #[.int .i64 0, .int .i64 0, .int .i64 0, .int .i64 0, .string ⟨#[]⟩, .bool false, .string ⟨#[]⟩, .string ⟨#[]⟩, .int .i64 0, .int .i64 0, .slice none 0 0, .slice none 0 0, .slice none 0 0, .slice none 0 0] 29)).alloc (.cells (zD d) 73)).alloc (.cells (zI p) 3)).alloc (.cells (zT t) 41)).drew) (U.heap.size + 2) (zI p) 3 := by
                              rw [show U.heap.size + 2 = ((U.alloc (.cells #[.int .i64 0, .int .i64 0, .int .i64 0, .int .i64 0, .string ⟨#[]⟩, .bool false, .string ⟨#[]⟩, .string ⟨#[]⟩, .int .i64 0, .int .i64 0, .slice none 0 0, .slice none 0 0, .slice none 0 0, .slice none 0 0] 29)).alloc (.cells (zD d) 73)).heap.size by simp]
                              exact (((Bx.new ((U.alloc (.cells #[.int .i64 0, .int .i64 0, .int .i64 0, .int .i64 0, .string ⟨#[]⟩, .bool false, .string ⟨#[]⟩, .string ⟨#[]⟩, .int .i64 0, .int .i64 0, .slice none 0 0, .slice none 0 0, .slice none 0 0, .slice none 0 0] 29)).alloc (.cells (zD d) 73)) _ _).alloc _) : Bx ((((U.alloc (.cells #[.int .i64 0, .int .i64 0, .int .i64 0, .int .i64 0, .string ⟨#[]⟩, .bool false, .string ⟨#[]⟩, .string ⟨#[]⟩, .int .i64 0, .int .i64 0, .slice none 0 0, .slice none 0 0, .slice none 0 0, .slice none 0 0] 29)).alloc (.cells (zD d) 73)).alloc (.cells (zI p) 3)).alloc (.cells (zT t) 41)) _ _ _)
                            have h3 : Bx (((((U.alloc (.cells #[.int .i64 0, .int .i64 0, .int .i64 0, .int .i64 0, .string ⟨#[]⟩, .bool false, .string ⟨#[]⟩, .string ⟨#[]⟩, .int .i64 0, .int .i64 0, .slice none 0 0, .slice none 0 0, .slice none 0 0, .slice none 0 0] 29)).alloc (.cells (zD d) 73)).alloc (.cells (zI p) 3)).alloc (.cells (zT t) 41)).drew) (U.heap.size + 3) (zT t) 41 := by
                              rw [show U.heap.size + 3 = (((U.alloc (.cells #[.int .i64 0, .int .i64 0, .int .i64 0, .int .i64 0, .string ⟨#[]⟩, .bool false, .string ⟨#[]⟩, .string ⟨#[]⟩, .int .i64 0, .int .i64 0, .slice none 0 0, .slice none 0 0, .slice none 0 0, .slice none 0 0] 29)).alloc (.cells (zD d) 73)).alloc (.cells (zI p) 3)).heap.size by simp]
                              exact (((Bx.new (((U.alloc (.cells #[.int .i64 0, .int .i64 0, .int .i64 0, .int .i64 0, .string ⟨#[]⟩, .bool false, .string ⟨#[]⟩, .string ⟨#[]⟩, .int .i64 0, .int .i64 0, .slice none 0 0, .slice none 0 0, .slice none 0 0, .slice none 0 0] 29)).alloc (.cells (zD d) 73)).alloc (.cells (zI p) 3)) _ _)) : Bx ((((U.alloc (.cells #[.int .i64 0, .int .i64 0, .int .i64 0, .int .i64 0, .string ⟨#[]⟩, .bool false, .string ⟨#[]⟩, .string ⟨#[]⟩, .int .i64 0, .int .i64 0, .slice none 0 0, .slice none 0 0, .slice none 0 0, .slice none 0 0] 29)).alloc (.cells (zD d) 73)).alloc (.cells (zI p) 3)).alloc (.cells (zT t) 41)) _ _ _)
                            have HG := MkAt.put hHeld h1 h3 h5 h7 (by omega) (by omega) (by omega) (by omega)
                            refine wpAnyH_ready (rs := [8]) (by kernel_rfl) (by simp) ?_
                            refine AllReadyH.cons (o := { dst := none, op := Op.store 29 (Operand.tmp 9) (Operand.tmp 54), type := 0, pos := "more2.go:41", after := #[{ on := 7, ground := Ground.data }, { on := 6, ground := Ground.data }, { on := 0, ground := Ground.phase }, { on := 1, ground := Ground.phase }, { on := 2, ground := Ground.phase }, { on := 3, ground := Ground.phase }, { on := 4, ground := Ground.phase }, { on := 5, ground := Ground.phase }, { on := 6, ground := Ground.phase }, { on := 7, ground := Ground.phase }], guard := none }) rfl (fun K hK => ?_) ?_
                            · refine step_store_row rfl 29 (.tmp 9) (.tmp 54) rfl (U.heap.size) #[.int .i64 7, .int .i64 0, .int .i64 0, .int .i64 0, .string ⟨#[]⟩, .bool false, .string ⟨#[]⟩, .string ⟨#[]⟩, .int .i64 0, .int .i64 0, .slice (some ⟨U.heap.size + 2, 0, none⟩) p p, .slice none 0 0, .slice (some ⟨U.heap.size + 3, 0, none⟩) t t, .slice (some ⟨U.heap.size + 1, 0, none⟩) d d] rfl rfl 29 _ h7 (by kernel_rfl) rfl (by simp [Value.oneCell']) ?_
                              refine hK.out _ _ ?_ (fun hHeld => ?_)
                              · exact below_row hHeld (by omega)
                              clear hK K
                              (try simp only [Act.put, List.setIfInBounds_toArray, List.set_cons_zero, List.set_cons_succ])
                              refine wpAnyH_done (by kernel_rfl) ?_ _
                              refine NoPanic.normal ?_
                              refine ⟨rfl, U.heap.size + 2, U.heap.size + 3, U.heap.size + 1, U.heap.size, ?_, HG⟩
                              clear hHeld HG h1 h3 h5 h7
                              generalize U.heap.size + 3 = c3
                              generalize U.heap.size + 2 = c2
                              generalize U.heap.size + 1 = c1
                              generalize U.heap.size = c0
                              exact rfl
                            exact AllReadyH.nil
                          exact AllReadyH.nil
                        refine AllReadyH.cons (o := { dst := some 51, op := Op.makeSlice 26 (Operand.tmp 50) (Operand.tmp 50), type := 26, pos := "more2.go:41", after := #[{ on := 2, ground := Ground.data }, { on := 2, ground := Ground.data }], guard := none }) rfl (fun K hK => ?_) ?_
                        · have mk := MT.out; go_simp
                          refine hK.out _ _ ?_ (fun hHeld => ?_)
                          · exact Held.step (by assumption) ((Below.refl _ _).alloc (Nat.le_refl _) _)
                          clear hK K
                          (try simp only [Act.put, List.setIfInBounds_toArray, List.set_cons_zero, List.set_cons_succ])
                          refine wpAnyH_ready (rs := [1]) (by kernel_rfl) (by simp) ?_
                          refine AllReadyH.cons (o := { dst := some 49, op := Op.makeSlice 24 (Operand.tmp 48) (Operand.tmp 48), type := 24, pos := "more2.go:41", after := #[{ on := 0, ground := Ground.data }, { on := 0, ground := Ground.data }], guard := none }) rfl (fun K hK => ?_) ?_
                          · have mk := MI.out; go_simp
                            refine hK.out _ _ ?_ (fun hHeld => ?_)
                            · exact Held.step (by assumption) ((Below.refl _ _).alloc (Nat.le_refl _) _)
                            clear hK K
                            (try simp only [Act.put, List.setIfInBounds_toArray, List.set_cons_zero, List.set_cons_succ])
                            refine wpAnyH_take (i := 6) (oi := { dst := some 54, op := Op.build 29 #[(0, Operand.const (Value.int IntKind.i64 7)), (7, Operand.tmp 49), (9, Operand.tmp 51), (10, Operand.tmp 53)], type := 29, pos := "more2.go:41", after := #[{ on := 1, ground := Ground.data }, { on := 3, ground := Ground.data }, { on := 5, ground := Ground.data }], guard := none }) (v := .agg #[.int .i64 7, .int .i64 0, .int .i64 0, .int .i64 0, .string ⟨#[]⟩, .bool false, .string ⟨#[]⟩, .string ⟨#[]⟩, .int .i64 0, .int .i64 0, .slice (some ⟨U.heap.size + 3, 0, none⟩) p p, .slice none 0 0, .slice (some ⟨U.heap.size + 2, 0, none⟩) t t, .slice (some ⟨U.heap.size + 1, 0, none⟩) d d]) rfl (by kernel_rfl) (by kernel_rfl) (by kernel_rfl) (fun _ _ _ h => h) (Or.inl ⟨by rfl, fun w' hSw => by ((try dsimp only at hSw); go_simp)⟩) (by assumption) ?_
                            (try simp only [Act.put, List.setIfInBounds_toArray, List.set_cons_zero, List.set_cons_succ])
                            have h7 : Bx (((((U.alloc (.cells #[.int .i64 0, .int .i64 0, .int .i64 0, .int .i64 0, .string ⟨#[]⟩, .bool false, .string ⟨#[]⟩, .string ⟨#[]⟩, .int .i64 0, .int .i64 0, .slice none 0 0, .slice none 0 0, .slice none 0 0, .slice none 0 0] 29)).alloc (.cells (zD d) 73)).alloc (.cells (zT t) 41)).alloc (.cells (zI p) 3)).drew) (U.heap.size) #[.int .i64 0, .int .i64 0, .int .i64 0, .int .i64 0, .string ⟨#[]⟩, .bool false, .string ⟨#[]⟩, .string ⟨#[]⟩, .int .i64 0, .int .i64 0, .slice none 0 0, .slice none 0 0, .slice none 0 0, .slice none 0 0] 29 := by
                              exact (((Bx.new U _ _).alloc _ |>.alloc _ |>.alloc _) : Bx ((((U.alloc (.cells #[.int .i64 0, .int .i64 0, .int .i64 0, .int .i64 0, .string ⟨#[]⟩, .bool false, .string ⟨#[]⟩, .string ⟨#[]⟩, .int .i64 0, .int .i64 0, .slice none 0 0, .slice none 0 0, .slice none 0 0, .slice none 0 0] 29)).alloc (.cells (zD d) 73)).alloc (.cells (zT t) 41)).alloc (.cells (zI p) 3)) _ _ _)
                            have h5 : Bx (((((U.alloc (.cells #[.int .i64 0, .int .i64 0, .int .i64 0, .int .i64 0, .string ⟨#[]⟩, .bool false, .string ⟨#[]⟩, .string ⟨#[]⟩, .int .i64 0, .int .i64 0, .slice none 0 0, .slice none 0 0, .slice none 0 0, .slice none 0 0] 29)).alloc (.cells (zD d) 73)).alloc (.cells (zT t) 41)).alloc (.cells (zI p) 3)).drew) (U.heap.size + 1) (zD d) 73 := by
                              rw [show U.heap.size + 1 = (U.alloc (.cells #[.int .i64 0, .int .i64 0, .int .i64 0, .int .i64 0, .string ⟨#[]⟩, .bool false, .string ⟨#[]⟩, .string ⟨#[]⟩, .int .i64 0, .int .i64 0, .slice none 0 0, .slice none 0 0, .slice none 0 0, .slice none 0 0] 29)).heap.size by simp]
                              exact (((Bx.new (U.alloc (.cells #[.int .i64 0, .int .i64 0, .int .i64 0, .int .i64 0, .string ⟨#[]⟩, .bool false, .string ⟨#[]⟩, .string ⟨#[]⟩, .int .i64 0, .int .i64 0, .slice none 0 0, .slice none 0 0, .slice none 0 0, .slice none 0 0] 29)) _ _).alloc _ |>.alloc _) : Bx ((((U.alloc (.cells #[.int .i64 0, .int .i64 0, .int .i64 0, .int .i64 0, .string ⟨#[]⟩, .bool false, .string ⟨#[]⟩, .string ⟨#[]⟩, .int .i64 0, .int .i64 0, .slice none 0 0, .slice none 0 0, .slice none 0 0, .slice none 0 0] 29)).alloc (.cells (zD d) 73)).alloc (.cells (zT t) 41)).alloc (.cells (zI p) 3)) _ _ _)
                            have h3 : Bx (((((U.alloc (.cells #[.int .i64 0, .int .i64 0, .int .i64 0, .int .i64 0, .string ⟨#[]⟩, .bool false, .string ⟨#[]⟩, .string ⟨#[]⟩, .int .i64 0, .int .i64 0, .slice none 0 0, .slice none 0 0, .slice none 0 0, .slice none 0 0] 29)).alloc (.cells (zD d) 73)).alloc (.cells (zT t) 41)).alloc (.cells (zI p) 3)).drew) (U.heap.size + 2) (zT t) 41 := by
                              rw [show U.heap.size + 2 = ((U.alloc (.cells #[.int .i64 0, .int .i64 0, .int .i64 0, .int .i64 0, .string ⟨#[]⟩, .bool false, .string ⟨#[]⟩, .string ⟨#[]⟩, .int .i64 0, .int .i64 0, .slice none 0 0, .slice none 0 0, .slice none 0 0, .slice none 0 0] 29)).alloc (.cells (zD d) 73)).heap.size by simp]
                              exact (((Bx.new ((U.alloc (.cells #[.int .i64 0, .int .i64 0, .int .i64 0, .int .i64 0, .string ⟨#[]⟩, .bool false, .string ⟨#[]⟩, .string ⟨#[]⟩, .int .i64 0, .int .i64 0, .slice none 0 0, .slice none 0 0, .slice none 0 0, .slice none 0 0] 29)).alloc (.cells (zD d) 73)) _ _).alloc _) : Bx ((((U.alloc (.cells #[.int .i64 0, .int .i64 0, .int .i64 0, .int .i64 0, .string ⟨#[]⟩, .bool false, .string ⟨#[]⟩, .string ⟨#[]⟩, .int .i64 0, .int .i64 0, .slice none 0 0, .slice none 0 0, .slice none 0 0, .slice none 0 0] 29)).alloc (.cells (zD d) 73)).alloc (.cells (zT t) 41)).alloc (.cells (zI p) 3)) _ _ _)
                            have h1 : Bx (((((U.alloc (.cells #[.int .i64 0, .int .i64 0, .int .i64 0, .int .i64 0, .string ⟨#[]⟩, .bool false, .string ⟨#[]⟩, .string ⟨#[]⟩, .int .i64 0, .int .i64 0, .slice none 0 0, .slice none 0 0, .slice none 0 0, .slice none 0 0] 29)).alloc (.cells (zD d) 73)).alloc (.cells (zT t) 41)).alloc (.cells (zI p) 3)).drew) (U.heap.size + 3) (zI p) 3 := by
                              rw [show U.heap.size + 3 = (((U.alloc (.cells #[.int .i64 0, .int .i64 0, .int .i64 0, .int .i64 0, .string ⟨#[]⟩, .bool false, .string ⟨#[]⟩, .string ⟨#[]⟩, .int .i64 0, .int .i64 0, .slice none 0 0, .slice none 0 0, .slice none 0 0, .slice none 0 0] 29)).alloc (.cells (zD d) 73)).alloc (.cells (zT t) 41)).heap.size by simp]
                              exact (((Bx.new (((U.alloc (.cells #[.int .i64 0, .int .i64 0, .int .i64 0, .int .i64 0, .string ⟨#[]⟩, .bool false, .string ⟨#[]⟩, .string ⟨#[]⟩, .int .i64 0, .int .i64 0, .slice none 0 0, .slice none 0 0, .slice none 0 0, .slice none 0 0] 29)).alloc (.cells (zD d) 73)).alloc (.cells (zT t) 41)) _ _)) : Bx ((((U.alloc (.cells #[.int .i64 0, .int .i64 0, .int .i64 0, .int .i64 0, .string ⟨#[]⟩, .bool false, .string ⟨#[]⟩, .string ⟨#[]⟩, .int .i64 0, .int .i64 0, .slice none 0 0, .slice none 0 0, .slice none 0 0, .slice none 0 0] 29)).alloc (.cells (zD d) 73)).alloc (.cells (zT t) 41)).alloc (.cells (zI p) 3)) _ _ _)
                            have HG := MkAt.put hHeld h1 h3 h5 h7 (by omega) (by omega) (by omega) (by omega)
                            refine wpAnyH_ready (rs := [8]) (by kernel_rfl) (by simp) ?_
                            refine AllReadyH.cons (o := { dst := none, op := Op.store 29 (Operand.tmp 9) (Operand.tmp 54), type := 0, pos := "more2.go:41", after := #[{ on := 7, ground := Ground.data }, { on := 6, ground := Ground.data }, { on := 0, ground := Ground.phase }, { on := 1, ground := Ground.phase }, { on := 2, ground := Ground.phase }, { on := 3, ground := Ground.phase }, { on := 4, ground := Ground.phase }, { on := 5, ground := Ground.phase }, { on := 6, ground := Ground.phase }, { on := 7, ground := Ground.phase }], guard := none }) rfl (fun K hK => ?_) ?_
                            · refine step_store_row rfl 29 (.tmp 9) (.tmp 54) rfl (U.heap.size) #[.int .i64 7, .int .i64 0, .int .i64 0, .int .i64 0, .string ⟨#[]⟩, .bool false, .string ⟨#[]⟩, .string ⟨#[]⟩, .int .i64 0, .int .i64 0, .slice (some ⟨U.heap.size + 3, 0, none⟩) p p, .slice none 0 0, .slice (some ⟨U.heap.size + 2, 0, none⟩) t t, .slice (some ⟨U.heap.size + 1, 0, none⟩) d d] rfl rfl 29 _ h7 (by kernel_rfl) rfl (by simp [Value.oneCell']) ?_
                              refine hK.out _ _ ?_ (fun hHeld => ?_)
                              · exact below_row hHeld (by omega)
                              clear hK K
                              (try simp only [Act.put, List.setIfInBounds_toArray, List.set_cons_zero, List.set_cons_succ])
                              refine wpAnyH_done (by kernel_rfl) ?_ _
                              refine NoPanic.normal ?_
                              refine ⟨rfl, U.heap.size + 3, U.heap.size + 2, U.heap.size + 1, U.heap.size, ?_, HG⟩
                              clear hHeld HG h1 h3 h5 h7
                              generalize U.heap.size + 3 = c3
                              generalize U.heap.size + 2 = c2
                              generalize U.heap.size + 1 = c1
                              generalize U.heap.size = c0
                              exact rfl
                            exact AllReadyH.nil
                          exact AllReadyH.nil
                        exact AllReadyH.nil
                      exact AllReadyH.nil
                    exact AllReadyH.nil
                  · intro bi bt bd br V hM
                    obtain ⟨m1, m2, m3, m4, m5, m6, m7, m8, m9⟩ := hM
                    have HNE := Lib.hid (⟨m6, m7, m8, m9⟩ : _ ∧ _ ∧ _ ∧ _)
                    have HM0 := Lib.hid (show MkSt U p t d bi bt bd br 0 none 0 V from ⟨m1, m2, m3, m4, m5, World.ownsRow_nil _ _ _ _⟩)
                    clear m1 m2 m3 m4 m5 m6 m7 m8 m9
                    obtain ⟨i0, hi0, hz0, hz1, hz2⟩ := info_parts infoP
                    go_wp2_with fail
                    go_loopw [10] (fun x wr => ∃ k : Nat, k ≤ n ∧ x = .int .i64 k ∧ ∃ A c, Hid (MkSt U p t d bi bt bd br k A c wr)) (fun x _ => n - (intOf x).toNat)
                    case atStart => exact ⟨0, Nat.zero_le _, rfl, none, 0, HM0⟩
                    case round =>
                      obtain ⟨k, hk, rfl, A, c, hq⟩ := hrel
                      have HQ := Lib.hid hq.out
                      clear hq
                      obtain ⟨e1, e2, e3, e4⟩ := HNE.out
                      have hcs := fun j => HQ.out.2.2.2.2.1.cell j
                      have x0 := hcs 0
                      have x1 := hcs 1
                      have x2 := hcs 2
                      have x3 := hcs 3
                      have x4 := hcs 4
                      have x5 := hcs 5
                      have x6 := hcs 6
                      have x7 := hcs 7
                      have x8 := hcs 8
                      have x9 := hcs 9
                      have x10 := hcs 10
                      have x11 := hcs 11
                      have x12 := hcs 12
                      have x13 := hcs 13
                      clear hcs
                      simp only [List.getElem?_toArray, List.getElem?_cons_zero, List.getElem?_cons_succ] at x0 x1 x2 x3 x4 x5 x6 x7 x8 x9 x10 x11 x12 x13
                      have f11 := HQ.out.2.2.2.2.1.free 11
                      by_cases hlt : k < n
                      · have b0 : (0 : Int) ≤ (k : Int) := by omega
                        have b1 : (k : Int) < (n : Int) := by omega
                        have hsz := HQ.out.1.size
                        go_wp2_with (at_builtin; refine wpList_append_own _ rfl (.tmp 61) (.tmp 64) 25 rfl U.heap.size 39 i0 (.agg #[.int .i64 0, .int .i64 0, .string ⟨#[]⟩]) 3 32 Tryd.underlying25 hi0 hz0 hz1 hz2 rfl (by decide) _ _ _ rfl (HQ.out.2.2.2.2.2.alloc _) ⟨wr.heap.size, 0, none⟩ 1 1 [.int .i64 k, .int .i64 0, .string ⟨#[112]⟩] rfl rfl (news_of wr _ _) (by intro u hu; simp at hu; rcases hu with rfl | rfl | rfl <;> rfl) (by unfold maxLen; omega) (by omega) (by simp; omega) ?_; intro v' w3 hown' hgrow _; obtain ⟨g', cap', rfl⟩ := ownsRow_succ hown'; have y11 := (HQ.out.2.2.2.2.1.grown HQ.out.2.2.2.2.2 (by decide) hgrow).cell 11; have g11 := (HQ.out.2.2.2.2.1.grown HQ.out.2.2.2.2.2 (by decide) hgrow).free 11; simp only [List.getElem?_toArray, List.getElem?_cons_zero, List.getElem?_cons_succ] at y11)
                        have HN := Lib.hid (HQ.out.next e2 e3 e4 e1 hown' hgrow)
                        clear hown' hgrow
                        go_wp2_with fail
                        go_roundw
                        case rel => exact ⟨k + 1, by omega, by go_num, _, _, HN⟩
                        case measure => simp [intOf]; omega
                      · have hkn : k = n := by omega
                        clear hk hlt
                        subst k
                        have hnI : (n : Int) ≤ 60 := by omega
                        have HRM := Lib.hid (HQ.out.rec hp hn ht hd)
                        have P := Lib.hid (show Calls Tryd.prog 12 #[.agg #[.int .i64 7, .int .i64 0, .int .i64 0, .int .i64 0, .string ⟨#[]⟩, .bool false, .string ⟨#[]⟩, .string ⟨#[]⟩, .int .i64 0, .int .i64 0, .slice (some ⟨bi, 0, none⟩) p p, .slice A n c, .slice (some ⟨bt, 0, none⟩) t t, .slice (some ⟨bd, 0, none⟩) d d]] wr fun e w' => e = .returned (.tuple #[.string (str (putS (manyR p n t d))), .bool (decide (p ≤ 64) && (decide (n ≤ 40) && (decide (t ≤ 8) && decide (d ≤ 64))))]) ∧ Below wr.heap.size wr w' from by
                          have h := put_any _ _ wr HRM.out (Nat.le_refl _)
                          rw [many_right hn] at h
                          exact h)
                        have TC := Lib.hid (fun u (hb : Below wr.heap.size wr u) => (show Calls Tryd.prog 16 #[.agg #[.int .i64 7, .int .i64 0, .int .i64 0, .int .i64 0, .string ⟨#[]⟩, .bool false, .string ⟨#[]⟩, .string ⟨#[]⟩, .int .i64 0, .int .i64 0, .slice (some ⟨bi, 0, none⟩) p p, .slice A n c, .slice (some ⟨bt, 0, none⟩) t t, .slice (some ⟨bd, 0, none⟩) d d]] u fun e w' => ∃ A2 c2, e = .returned (.slice A2 n c2) ∧ Below u.heap.size u w' from by
                          have h := touches_any _ _ u (HRM.out.kept hb) hb.size (by show (ptsN _).length ≤ 1000000; rw [ptsN_length]; omega)
                          refine h.mono ?_
                          rintro e w' ⟨A2, c2, rfl, _, h⟩
                          exact ⟨A2, c2, by rw [many_touch], h⟩))
                        generalize str (putS (manyR p n t d)) = sb at *
                        have HB2 := Lib.hid (HB1.out.trans (HQ.out.1.mono HB1.out.size))
                        have HX2 := Lib.hid HQ.out.2.2.2.2.1
                        clear HRM
                        by_cases q0 : p ≤ 64
                        · have r0 : (p : Int) ≤ 64 := by omega
                          by_cases q1 : n ≤ 40
                          · have r1 : (n : Int) ≤ 40 := by omega
                            by_cases q2 : t ≤ 8
                            · have r2 : (t : Int) ≤ 8 := by omega
                              by_cases q3 : d ≤ 64
                              · have r3 : (d : Int) ≤ 64 := by omega
                                simp only [q0, q1, q2, q3, decide_true, decide_false, Bool.true_and, Bool.false_and, Bool.and_false, Bool.and_true] at P
                                go_wp2_with fail
                                refine P.out.mono ?_; rintro e w6 ⟨rfl, hb⟩
                                have TC6 := Lib.hid (TC.out w6 hb)
                                have HX6 := Lib.hid (HX2.out.held hb)
                                have HB6 := Lib.hid (HB2.out.trans (hb.mono HB2.out.size))
                                clear hb P TC HX2 HB2 x0 x1 x2 x3 x4 x5 x6 x7 x8 x9 x10 x11 x12 x13
                                have hcs := fun j => HX6.out.cell j
                                have x0 := hcs 0
                                have x1 := hcs 1
                                have x2 := hcs 2
                                have x3 := hcs 3
                                have x4 := hcs 4
                                have x5 := hcs 5
                                have x6 := hcs 6
                                have x7 := hcs 7
                                have x8 := hcs 8
                                have x9 := hcs 9
                                have x10 := hcs 10
                                have x11 := hcs 11
                                have x12 := hcs 12
                                have x13 := hcs 13
                                clear hcs
                                simp only [List.getElem?_toArray, List.getElem?_cons_zero, List.getElem?_cons_succ] at x0 x1 x2 x3 x4 x5 x6 x7 x8 x9 x10 x11 x12 x13
                                go_wp2_with fail
                                refine TC6.out.mono ?_; rintro e w7 ⟨A2, c2, rfl, hb⟩
                                have HB7 := Lib.hid (HB6.out.trans (hb.mono HB6.out.size))
                                clear hb
                                go_wp2_with fail
                                go_ret
                                exact ⟨rfl, HB7.out⟩
                              · have r3 : ¬ (d : Int) ≤ 64 := by omega
                                have s3 : decide ((d : Int) ≤ 64) = false := decide_eq_false r3
                                simp only [q0, q1, q2, q3, decide_true, decide_false, Bool.true_and, Bool.false_and, Bool.and_false, Bool.and_true] at P
                                go_wp2_with fail
                                refine P.out.mono ?_; rintro e w6 ⟨rfl, hb⟩
                                have TC6 := Lib.hid (TC.out w6 hb)
                                have HX6 := Lib.hid (HX2.out.held hb)
                                have HB6 := Lib.hid (HB2.out.trans (hb.mono HB2.out.size))
                                clear hb P TC HX2 HB2 x0 x1 x2 x3 x4 x5 x6 x7 x8 x9 x10 x11 x12 x13
                                have hcs := fun j => HX6.out.cell j
                                have x0 := hcs 0
                                have x1 := hcs 1
                                have x2 := hcs 2
                                have x3 := hcs 3
                                have x4 := hcs 4
                                have x5 := hcs 5
                                have x6 := hcs 6
                                have x7 := hcs 7
                                have x8 := hcs 8
                                have x9 := hcs 9
                                have x10 := hcs 10
                                have x11 := hcs 11
                                have x12 := hcs 12
                                have x13 := hcs 13
                                clear hcs
                                simp only [List.getElem?_toArray, List.getElem?_cons_zero, List.getElem?_cons_succ] at x0 x1 x2 x3 x4 x5 x6 x7 x8 x9 x10 x11 x12 x13
                                go_wp2_with fail
                                refine TC6.out.mono ?_; rintro e w7 ⟨A2, c2, rfl, hb⟩
                                have HB7 := Lib.hid (HB6.out.trans (hb.mono HB6.out.size))
                                clear hb
                                go_wp2_with fail
                                go_ret
                                exact ⟨rfl, HB7.out⟩
                            · have r2 : ¬ (t : Int) ≤ 8 := by omega
                              have s2 : decide ((t : Int) ≤ 8) = false := decide_eq_false r2
                              simp only [q0, q1, q2, decide_true, decide_false, Bool.true_and, Bool.false_and, Bool.and_false, Bool.and_true] at P
                              go_wp2_with fail
                              refine P.out.mono ?_; rintro e w6 ⟨rfl, hb⟩
                              have TC6 := Lib.hid (TC.out w6 hb)
                              have HX6 := Lib.hid (HX2.out.held hb)
                              have HB6 := Lib.hid (HB2.out.trans (hb.mono HB2.out.size))
                              clear hb P TC HX2 HB2 x0 x1 x2 x3 x4 x5 x6 x7 x8 x9 x10 x11 x12 x13
                              have hcs := fun j => HX6.out.cell j
                              have x0 := hcs 0
                              have x1 := hcs 1
                              have x2 := hcs 2
                              have x3 := hcs 3
                              have x4 := hcs 4
                              have x5 := hcs 5
                              have x6 := hcs 6
                              have x7 := hcs 7
                              have x8 := hcs 8
                              have x9 := hcs 9
                              have x10 := hcs 10
                              have x11 := hcs 11
                              have x12 := hcs 12
                              have x13 := hcs 13
                              clear hcs
                              simp only [List.getElem?_toArray, List.getElem?_cons_zero, List.getElem?_cons_succ] at x0 x1 x2 x3 x4 x5 x6 x7 x8 x9 x10 x11 x12 x13
                              go_wp2_with fail
                              refine TC6.out.mono ?_; rintro e w7 ⟨A2, c2, rfl, hb⟩
                              have HB7 := Lib.hid (HB6.out.trans (hb.mono HB6.out.size))
                              clear hb
                              go_wp2_with fail
                              go_ret
                              exact ⟨rfl, HB7.out⟩
                          · have r1 : ¬ (n : Int) ≤ 40 := by omega
                            have s1 : decide ((n : Int) ≤ 40) = false := decide_eq_false r1
                            simp only [q0, q1, decide_true, decide_false, Bool.true_and, Bool.false_and, Bool.and_false, Bool.and_true] at P
                            go_wp2_with fail
                            refine P.out.mono ?_; rintro e w6 ⟨rfl, hb⟩
                            have TC6 := Lib.hid (TC.out w6 hb)
                            have HX6 := Lib.hid (HX2.out.held hb)
                            have HB6 := Lib.hid (HB2.out.trans (hb.mono HB2.out.size))
                            clear hb P TC HX2 HB2 x0 x1 x2 x3 x4 x5 x6 x7 x8 x9 x10 x11 x12 x13
                            have hcs := fun j => HX6.out.cell j
                            have x0 := hcs 0
                            have x1 := hcs 1
                            have x2 := hcs 2
                            have x3 := hcs 3
                            have x4 := hcs 4
                            have x5 := hcs 5
                            have x6 := hcs 6
                            have x7 := hcs 7
                            have x8 := hcs 8
                            have x9 := hcs 9
                            have x10 := hcs 10
                            have x11 := hcs 11
                            have x12 := hcs 12
                            have x13 := hcs 13
                            clear hcs
                            simp only [List.getElem?_toArray, List.getElem?_cons_zero, List.getElem?_cons_succ] at x0 x1 x2 x3 x4 x5 x6 x7 x8 x9 x10 x11 x12 x13
                            go_wp2_with fail
                            refine TC6.out.mono ?_; rintro e w7 ⟨A2, c2, rfl, hb⟩
                            have HB7 := Lib.hid (HB6.out.trans (hb.mono HB6.out.size))
                            clear hb
                            go_wp2_with fail
                            go_ret
                            exact ⟨rfl, HB7.out⟩
                        · have r0 : ¬ (p : Int) ≤ 64 := by omega
                          have s0 : decide ((p : Int) ≤ 64) = false := decide_eq_false r0
                          simp only [q0, decide_true, decide_false, Bool.true_and, Bool.false_and, Bool.and_false, Bool.and_true] at P
                          go_wp2_with fail
                          refine P.out.mono ?_; rintro e w6 ⟨rfl, hb⟩
                          have TC6 := Lib.hid (TC.out w6 hb)
                          have HX6 := Lib.hid (HX2.out.held hb)
                          have HB6 := Lib.hid (HB2.out.trans (hb.mono HB2.out.size))
                          clear hb P TC HX2 HB2 x0 x1 x2 x3 x4 x5 x6 x7 x8 x9 x10 x11 x12 x13
                          have hcs := fun j => HX6.out.cell j
                          have x0 := hcs 0
                          have x1 := hcs 1
                          have x2 := hcs 2
                          have x3 := hcs 3
                          have x4 := hcs 4
                          have x5 := hcs 5
                          have x6 := hcs 6
                          have x7 := hcs 7
                          have x8 := hcs 8
                          have x9 := hcs 9
                          have x10 := hcs 10
                          have x11 := hcs 11
                          have x12 := hcs 12
                          have x13 := hcs 13
                          clear hcs
                          simp only [List.getElem?_toArray, List.getElem?_cons_zero, List.getElem?_cons_succ] at x0 x1 x2 x3 x4 x5 x6 x7 x8 x9 x10 x11 x12 x13
                          go_wp2_with fail
                          refine TC6.out.mono ?_; rintro e w7 ⟨A2, c2, rfl, hb⟩
                          have HB7 := Lib.hid (HB6.out.trans (hb.mono HB6.out.size))
                          clear hb
                          go_wp2_with fail
                          go_ret
                          exact ⟨rfl, HB7.out⟩

/-! The row's step. -/
set_option maxRecDepth 100000 in
theorem lifted (os : Os) (started : os.Started) (H : Type) (enc : TypeId × Value → H) :
    ReturnsInHanded {} Tryd.checked os 8 .any (fun w args => (Rows.recordManySpec.pre enc Tryd.prog Tryd.f8 [] false w args ∧ laidMetH Tryd.prog laidL w) ∧ sizedMet enc Tryd.prog Tryd.f8 (OpenSpec.ofChange Rows.recordManySpec) false w args)
      (Rows.recordManySpec.post enc Tryd.prog Tryd.f8 false true false false) := by
  refine returnsInHanded_of_change_and (C := Tryd.checked) (X := fun w _ => laidMetH Tryd.prog laidL w) (fun _ _ _ hh h => h.of_heap hh) own started (by kernel_rfl) Tryd.func8
    (ChangeSpec.witness_shaped (enc := enc) (C := Tryd.checked) (os := os) (X := fun w _ => laidMetH Tryd.prog laidL w) false (World.doorLaid Tryd.prog 400 os) #[.int .i64 0, .int .i64 0, .int .i64 0, .int .i64 0] 8 rfl (World.shaped_of_RefB (by kernel_rfl) (by kernel_rfl)) (by kernel_rfl) (by kernel_rfl) (by kernel_rfl) (door_met os _)) ?_
  intro W base args ds gs before hval0 hW _ _ hL _
  have hval : ∀ (j : Nat) t v, Tryd.f8.params[j]? = some t → args[j]? = some v → Value.okWide Tryd.prog W .any base t v := hval0
  have hW' := hW
  obtain ⟨p, q, hA0, hV, rfl, hfz, hnd⟩ := hW
  have hA : DataW.TrodAll enc Tryd.prog W 0 (fun _ => true) true Tryd.f8.params.toList args.toList ds p := hA0
  rw [Tryd.params8] at hA hval
  obtain ⟨v0, vs0, d0, ds0, p0, q0, hargs, rfl, rfl, h0, r0⟩ := trodAll_cons hA
  obtain ⟨v1, vs1, d1, ds1, p1, q1, rfl, rfl, rfl, h1, r1⟩ := trodAll_cons r0
  obtain ⟨v2, vs2, d2, ds2, p2, q2, rfl, rfl, rfl, h2, r2⟩ := trodAll_cons r1
  obtain ⟨v3, vs3, d3, ds3, p3, q3, rfl, rfl, rfl, h3, r3⟩ := trodAll_cons r2
  obtain ⟨rfl, rfl, rfl⟩ := trodAll_nil r3
  obtain rfl : args = #[v0, v1, v2, v3] := by cases args; simp_all
  obtain ⟨rfl, rfl⟩ := trodVars_none hV
  obtain ⟨a0, rfl, rfl, rfl, w0⟩ := open_int Tryd.underlying3 (hval 0 3 v0 rfl rfl) h0
  obtain ⟨a1, rfl, rfl, rfl, w1⟩ := open_int Tryd.underlying3 (hval 1 3 v1 rfl rfl) h1
  obtain ⟨a2, rfl, rfl, rfl, w2⟩ := open_int Tryd.underlying3 (hval 2 3 v2 rfl rfl) h2
  obtain ⟨a3, rfl, rfl, rfl, w3⟩ := open_int Tryd.underlying3 (hval 3 3 v3 rfl rfl) h3
  clear hA0 hval0
  refine (walk a0 a1 a2 a3 W w0 w1 w2 w3 (of_laid hL)).mono fun e W' ⟨he, bel⟩ => ?_
  subst he
  exact ⟨_, rfl, _, _, _, [], _, [], hW', trodAll_mk1 (shut_bool Tryd.underlying4 _), (trodAll_cons_mk (shut_int Tryd.underlying3 w0) (trodAll_cons_mk (shut_int Tryd.underlying3 w1) (trodAll_cons_mk (shut_int Tryd.underlying3 w2) (trodAll_cons_mk (shut_int Tryd.underlying3 w3) trodAll_mk0)))), rfl, bel.frame _, fun h => by cases h⟩

/-- The row's statement. -/
theorem over : Rows.RecordManySaid :=
  OpenClaim.holds_of_wide 8 Tryd.f8 rfl rfl rfl rfl rfl rfl rfl ⟨rfl, rfl, rfl, rfl, rfl⟩ rfl rfl rfl rfl rfl (by kernel_rfl) Tryd.func8 (by kernel_rfl)
    (of_decide_eq_true (by kernel_rfl)) (by unfold Func.isWrapper; first | (rw [if_pos (by decide +kernel)]; kernel_rfl) | (rw [if_neg (by decide +kernel)]; exact ⟨rfl, rfl⟩))
    (fun os started H enc _ => lifted os started H enc)

/-- The card. -/
theorem proved : Rows.RecordManyCardSaid :=
  Claim7.holds_tied_plain_at .later [] [.data] true Rows.recordManyCard.stood.harness false
    over (fun _ h => by cases h) (by kernel_rfl) (fun _ h => by cases h) recordMany_row_tie rfl ⟨rfl, rfl⟩ (by kernel_rfl) rfl
    (fun f fn hf hfn => by
      obtain rfl : f = 8 := Option.some.inj ((show Tryd.prog.funcNamed "honeycomb/honeycomblaw12.RecordMany" = some 8 by kernel_rfl).symm.trans hf) |>.symm
      obtain rfl : fn = Tryd.f8 := (Option.some.inj (Tryd.func8.symm.trans hfn)).symm
      exact ⟨by kernel_rfl, fun j t ht => by
        rw [Tryd.params8] at ht
        have hm : t ∈ [3, 3, 3, 3] := by simpa using Array.mem_of_getElem? ht
        have hall : ([3, 3, 3, 3].all fun u => !Tryd.prog.wantsStandIn u) = true := by kernel_rfl
        exact (show Tryd.prog.wantsStandIn t = false by simpa using List.all_eq_true.1 hall t hm)⟩)
    (by kernel_rfl)
end Go.Proofs.YtbmnagfjpenemaaDoor.recordMany
