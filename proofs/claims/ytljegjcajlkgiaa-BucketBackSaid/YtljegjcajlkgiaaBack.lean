/- A cell that is put into a page, where none of its key was, and taken out, leaves the page as it was; what is refused leaves no page. -/
import Derived.Test.YtljegjcajlkgiaaRows
import Derived.Test.YtljegjcajlkgiaaBase
import Derived.Deep.RegionHeld3
import Derived.StillTailTactics
import Derived.BigQuiet
import Derived.Laws.MakeOwn
import Derived.Deep.DeepCutAuto
import Derived.Deep.RegionLaw
import Derived.Lib.Hide
import Derived.WalkKit
import Derived.ProofKit
import Derived.OpenShut
import Derived.ChangeOld
import Derived.Below
import Derived.Carry
namespace Go.Proofs.Ytljegjcajlkgiaa.bucketBack
open Go.ChangeShapes Go.WideShapes Go.ChangeAt Go.RowKit
set_option linter.unusedVariables false

theorem own : ownKnob Try.prog.godebug = none := by kernel_rfl
theorem laidOut : laidOutB Try.prog = true := by kernel_rfl


set_option maxRecDepth 100000 in
set_option maxHeartbeats 8000000 in
theorem walk (k0 s0 b0 : Int) (z0 : ByteArray) (k1 s1 : ByteArray) (b1 z1 : Int) (w : World) (wk0 : (Lit.int .i64 k0).wf = true) (ws0 : (Lit.int .i64 s0).wf = true) (wb0 : (Lit.int .i64 b0).wf = true) (wz0 : z0.size ≤ maxLen) (wk1 : k1.size ≤ maxLen) (ws1 : s1.size ≤ maxLen) (wb1 : (Lit.int .i64 b1).wf = true) (wz1 : (Lit.int .i64 z1).wf = true) :
    Calls Try.prog 6 #[.agg #[.int .i64 k0, .int .i64 s0, .int .i64 b0, .string z0], .agg #[.string k1, .string s1, .int .i64 b1, .int .i64 z1]] w fun e w' => e = .returned (.bool true) ∧ Below w.heap.size w w' := by
  have AL := Lib.hid alive_yes
  by_cases cc : 300 < (z0.size : Int)
  · as_aux_lemma =>
      have g0 : decide (300 < (z0.size : Int)) = true := decide_eq_true cc
      have AL := Lib.hid alive_yes
      have HB0 := Lib.hid (((Below.refl w.heap.size w).alloc (Nat.le_refl _) (.cells #[.int .i64 k0, .int .i64 s0, .int .i64 b0, .string z0] 25)).alloc (by simp) (.cells #[.string k1, .string s1, .int .i64 b1, .int .i64 z1] 31))
      go_enter Try.func6, Try.ntmps6
      go_wp2_with fail
      refine (AL.out _).mono ?_; rintro e w1 ⟨rfl, hb⟩
      have HB1 := Lib.hid (HB0.out.trans (hb.mono (Below.size HB0.out)))
      clear hb HB0 
      go_wp2_with fail
      go_ret
      exact ⟨rfl, HB1.out⟩
  · have g0 : decide (300 < (z0.size : Int)) = false := decide_eq_false cc
    obtain ⟨sm, e1⟩ : ∃ sm, IntKind.i64.wrap ((k1.size : Int) + (s1.size : Int)) = sm := ⟨_, rfl⟩
    by_cases cd : (600 : Int) < sm
    · as_aux_lemma =>
        have g1 : decide ((600 : Int) < sm) = true := decide_eq_true cd
        have AL := Lib.hid alive_yes
        have HB0 := Lib.hid (((Below.refl w.heap.size w).alloc (Nat.le_refl _) (.cells #[.int .i64 k0, .int .i64 s0, .int .i64 b0, .string z0] 25)).alloc (by simp) (.cells #[.string k1, .string s1, .int .i64 b1, .int .i64 z1] 31))
        go_enter Try.func6, Try.ntmps6
        go_wp2_with fail
        refine (AL.out _).mono ?_; rintro e w1 ⟨rfl, hb⟩
        have HB1 := Lib.hid (HB0.out.trans (hb.mono (Below.size HB0.out)))
        clear hb HB0 
        go_wp2_with fail
        go_ret
        exact ⟨rfl, HB1.out⟩
    · have g1 : decide ((600 : Int) < sm) = false := decide_eq_false cd
      obtain ⟨bb, rfl⟩ : ∃ bb, z0 = str bb := ⟨z0.data.toList, (str_data z0).symm⟩
      have hbl : bb.length ≤ 300 := by have hc := cc; rw [str_size] at hc; omega
      have HPS := cellsP_ok k0 bb
      have FI := Lib.hid (fun w => find_any k0 s0 b0 bb k1 (by omega) w)
      have SE := Lib.hid (fun w => set_any k0 s0 b0 bb ⟨k1, s1, b1, z1⟩ (by omega) w)
      have hr := putOk_rise HPS
      have hcases : (∃ y, findS (cellsP k0 bb) k1 = some y) ∨ (findS (cellsP k0 bb) k1 = none ∧ ((∃ ev : Int, (ev == 0) = false ∧ (ev != 0) = true ∧ resV (setP ⟨k0, s0, b0, bb⟩ ⟨k1, s1, b1, z1⟩) = .tuple #[.agg #[.int .i64 0, .int .i64 0, .int .i64 0, .string ⟨#[]⟩], .int .i64 ev]) ∨ (∃ b2 : BA, b2.length ≤ 300 ∧ resV (setP ⟨k0, s0, b0, bb⟩ ⟨k1, s1, b1, z1⟩) = .tuple #[.agg #[.int .i64 k0, .int .i64 s0, .int .i64 b0, .string (str b2)], .int .i64 0] ∧ resV (cutP ⟨k0, s0, b0, b2⟩ k1) = .tuple #[.agg #[.int .i64 k0, .int .i64 s0, .int .i64 b0, .string (str bb)], .int .i64 0] ∧ findS (cellsP k0 b2) k1 = some ⟨k1, s1, b1, z1⟩ ∧ resV (cutP ⟨k0, s0, b0, bb⟩ k1) = .tuple #[.agg #[.int .i64 0, .int .i64 0, .int .i64 0, .string ⟨#[]⟩], .int .i64 3]))) := by
        cases hf : findS (cellsP k0 bb) k1 with
        | some y => exact .inl ⟨y, rfl⟩
        | none =>
          refine .inr ⟨rfl, ?_⟩
          have hno := find_none hf
          unfold setP
          dsimp only
          cases g : goodP k0 bb with
          | false => exact .inl ⟨2, rfl, rfl, rfl⟩
          | true =>
            cases ok : okC ⟨k1, s1, b1, z1⟩ with
            | false => exact .inl ⟨1, rfl, rfl, rfl⟩
            | true =>
              cases hp : putOk (setS (cellsP k0 bb) ⟨k1, s1, b1, z1⟩) with
              | false => exact .inl ⟨13, rfl, rfl, rfl⟩
              | true =>
                obtain ⟨g2, c2⟩ := goodP_body (goodP_kind g) hp
                have hcut : cutS (setS (cellsP k0 bb) ⟨k1, s1, b1, z1⟩) k1 = cellsP k0 bb := (cut_set hr ⟨k1, s1, b1, z1⟩).trans (cut_none hno)
                refine .inr ⟨bodyOf (setS (cellsP k0 bb) ⟨k1, s1, b1, z1⟩), by rw [bodyOf_length hp]; omega, rfl, ?_, ?_, ?_⟩
                · unfold cutP
                  dsimp only
                  rw [g2, c2, hcut, (cellsP_yes g).2, if_pos rfl, if_neg (fun h => ?_)]
                  · rfl
                  · have := (set_perm hr ⟨k1, s1, b1, z1⟩).length_eq
                    rw [← h, List.length_cons] at this
                    have e2 := congrArg List.length (cut_none hno)
                    dsimp only at this
                    omega
                · rw [c2]; exact find_set_same hr _
                · unfold cutP
                  dsimp only
                  rw [g, if_pos rfl, if_pos (cut_length.2 hno)]
                  rfl
      have EQP := Lib.hid (fun w => (show (binOp .eql 25 (.agg #[.int .i64 k0, .int .i64 s0, .int .i64 b0, .string (str bb)]) (.agg #[.int .i64 k0, .int .i64 s0, .int .i64 b0, .string (str bb)])).run Try.prog w = .ok (.bool true) w from by rw [eq_pages, eqP4_iff.2 ⟨rfl, rfl, rfl, rfl⟩]))
      have EQZ := Lib.hid (fun w => (show (binOp .eql 25 (.agg #[.int .i64 0, .int .i64 0, .int .i64 0, .string ⟨#[]⟩]) (.agg #[.int .i64 0, .int .i64 0, .int .i64 0, .string ⟨#[]⟩])).run Try.prog w = .ok (.bool true) w from by rw [eq_pages, eqP4_iff.2 ⟨rfl, rfl, rfl, rfl⟩]))
      have EQC := Lib.hid (fun w => (show (binOp .eql 31 (.agg #[.string k1, .string s1, .int .i64 b1, .int .i64 z1]) (.agg #[.string k1, .string s1, .int .i64 b1, .int .i64 z1])).run Try.prog w = .ok (.bool true) w from by rw [eq_cells, eqC_iff.2 rfl]))
      have FI2 := Lib.hid (fun (b2 : BA) (h : b2.length ≤ 300) w => find_any k0 s0 b0 b2 k1 (by omega) w)
      have CU1 := Lib.hid (fun (b2 : BA) (h : b2.length ≤ 300) w => cut_any k0 s0 b0 b2 k1 (by omega) w)
      have CU2 := Lib.hid (fun w => cut_any k0 s0 b0 bb k1 (by omega) w)
      clear HPS hr
      unfold pv cvC cv at *
      generalize str bb = sb at *
      obtain ⟨W1, hW1⟩ : ∃ W1, W1 = w.alloc (.cells #[.int .i64 k0, .int .i64 s0, .int .i64 b0, .string sb] 25) := ⟨_, rfl⟩
      obtain ⟨W2, hW2⟩ : ∃ W2, W2 = W1.alloc (.cells #[.string k1, .string s1, .int .i64 b1, .int .i64 z1] 31) := ⟨_, rfl⟩
      have s1w : W1.heap.size = w.heap.size + 1 := by rw [hW1, World.size_alloc]
      have HX := Lib.hid (show PBox W2 w.heap.size k0 s0 b0 sb ∧ Box W2 (w.heap.size + 1) (.string k1) (.string s1) (.int .i64 b1) (.int .i64 z1) ∧ Below w.heap.size w W2 from by
        have q1 : Below w.heap.size w W1 := by rw [hW1]; exact (Below.refl _ _).alloc (Nat.le_refl _) _
        have q2 : Below W1.heap.size W1 W2 := by rw [hW2]; exact (Below.refl _ _).alloc (Nat.le_refl _) _
        have p1 : PBox W1 w.heap.size k0 s0 b0 sb := by rw [hW1]; exact PBox.new _ _ _ _ _
        have p2 : Box W2 (w.heap.size + 1) (.string k1) (.string s1) (.int .i64 b1) (.int .i64 z1) := by rw [← s1w, hW2]; exact Box.new _ _ _ _ _
        exact ⟨p1.kept q2, p2, q1.trans (q2.mono q1.size)⟩)
      have HW := Lib.hid (show ((w.alloc (.cells #[.int .i64 k0, .int .i64 s0, .int .i64 b0, .string sb] 25)).alloc (.cells #[.string k1, .string s1, .int .i64 b1, .int .i64 z1] 31)) = W2 by rw [hW2, hW1])
      clear hW1 hW2 s1w
      go_enter Try.func6, Try.ntmps6
      go_wp2_with fail
      rw [HW.out]
      obtain ⟨bP, hbP⟩ : ∃ B, B = w.heap.size := ⟨_, rfl⟩
      obtain ⟨bC, hbC⟩ : ∃ B, B = w.heap.size + 1 := ⟨_, rfl⟩
      have P0 := Lib.hid (show PBox W2 bP k0 s0 b0 sb by rw [hbP]; exact HX.out.1)
      have C0 := Lib.hid (show Box W2 bC (.string k1) (.string s1) (.int .i64 b1) (.int .i64 z1) by rw [hbC]; exact HX.out.2.1)
      have HB0 := Lib.hid HX.out.2.2
      rw [← hbC, ← hbP]
      clear HW HX hbP hbC
      refine (AL.out _).mono ?_; rintro e w1 ⟨rfl, hb⟩
      have P1 := Lib.hid (P0.out.kept hb)
      have C1 := Lib.hid (C0.out.kept hb)
      have HB1 := Lib.hid (HB0.out.trans (hb.mono (Below.size HB0.out)))
      clear hb HB0 P0 C0
      obtain ⟨oP0, oP1, oP2, oP3⟩ := P1.out.cells
      obtain ⟨oC0, oC1, oC2, oC3⟩ := C1.out.cells
      go_wp2_with fail
      clear oP0 oP1 oP2 oP3 oC0 oC1 oC2 oC3
      clear AL
      rcases hcases with ⟨y, hy⟩ | ⟨hn, ⟨ev, hev0, hev1, he⟩ | ⟨b2, hb2, h1, h2, h3, h4⟩⟩
      · as_aux_lemma =>
          have hfv : findV (findS (cellsP k0 bb) k1) = .tuple #[cvC y, .bool true] := by rw [hy]; rfl
          rw [hfv] at FI
          unfold cvC cv at FI
          clear hfv hy SE CU1 CU2 FI2 EQP EQZ EQC
          refine (FI.out _).mono ?_; rintro e w2 ⟨rfl, hb⟩
          have P2 := Lib.hid (P1.out.kept hb)
          have C2 := Lib.hid (C1.out.kept hb)
          have HB2 := Lib.hid (HB1.out.trans (hb.mono (Below.size HB1.out)))
          clear hb HB1 P1 C1
          have hal := (Below.refl (w2).heap.size (w2)).alloc (Nat.le_refl _) (.cells #[.string y.key, .string y.val, .int .i64 y.blob, .int .i64 y.size] 31)
          replace P2 := Lib.hid (P2.out.kept hal)
          replace C2 := Lib.hid (C2.out.kept hal)
          have A2 := Lib.hid (Box.new (w2) (.string y.key) (.string y.val) (.int .i64 y.blob) (.int .i64 y.size))
          replace HB2 := Lib.hid (HB2.out.trans (hal.mono (Below.size HB2.out)))
          clear hal
          go_wp2_with fail
          go_ret
          exact ⟨rfl, HB2.out⟩
      · as_aux_lemma =>
          have hfv : findV (findS (cellsP k0 bb) k1) = .tuple #[.agg #[.string ⟨#[]⟩, .string ⟨#[]⟩, .int .i64 0, .int .i64 0], .bool false] := by rw [hn]; rfl
          rw [hfv] at FI
          rw [he] at SE
          clear hfv hn he CU1 CU2 FI2 EQP EQC
          have ez := EQZ.out
          refine (FI.out _).mono ?_; rintro e w2 ⟨rfl, hb⟩
          have P2 := Lib.hid (P1.out.kept hb)
          have C2 := Lib.hid (C1.out.kept hb)
          have HB2 := Lib.hid (HB1.out.trans (hb.mono (Below.size HB1.out)))
          clear hb HB1 P1 C1
          have hal := (Below.refl (w2).heap.size (w2)).alloc (Nat.le_refl _) (.cells #[.string ⟨#[]⟩, .string ⟨#[]⟩, .int .i64 0, .int .i64 0] 31)
          replace P2 := Lib.hid (P2.out.kept hal)
          replace C2 := Lib.hid (C2.out.kept hal)
          have A2 := Lib.hid (Box.new (w2) (.string ⟨#[]⟩) (.string ⟨#[]⟩) (.int .i64 0) (.int .i64 0))
          replace HB2 := Lib.hid (HB2.out.trans (hal.mono (Below.size HB2.out)))
          clear hal
          obtain ⟨oP0, oP1, oP2, oP3⟩ := P2.out.cells
          obtain ⟨oC0, oC1, oC2, oC3⟩ := C2.out.cells
          go_wp2_with fail
          clear oP0 oP1 oP2 oP3 oC0 oC1 oC2 oC3
          obtain ⟨bA, hbA⟩ : ∃ bA, bA = (w2).heap.size := ⟨_, rfl⟩
          rw [← hbA] at A2 ⊢
          have HLA := Lib.hid hbA
          clear hbA
          generalize (w2).alloc (.cells #[.string ⟨#[]⟩, .string ⟨#[]⟩, .int .i64 0, .int .i64 0] 31) = v2 at *
          refine (SE.out _).mono ?_; rintro e w3 ⟨rfl, hb⟩
          have P3 := Lib.hid (P2.out.kept hb)
          have C3 := Lib.hid (C2.out.kept hb)
          have A3 := Lib.hid (A2.out.kept hb)
          have HB3 := Lib.hid (HB2.out.trans (hb.mono (Below.size HB2.out)))
          clear hb HB2 P2 C2 A2
          have hal := (Below.refl (w3).heap.size (w3)).alloc (Nat.le_refl _) (.cells #[.int .i64 0, .int .i64 0, .int .i64 0, .string ⟨#[]⟩] 25)
          replace P3 := Lib.hid (P3.out.kept hal)
          replace C3 := Lib.hid (C3.out.kept hal)
          replace A3 := Lib.hid (A3.out.kept hal)
          have Q3 := Lib.hid (PBox.new (w3) (0) (0) (0) (⟨#[]⟩))
          replace HB3 := Lib.hid (HB3.out.trans (hal.mono (Below.size HB3.out)))
          clear hal
          go_wp2_with fail
          go_ret
          exact ⟨rfl, HB3.out⟩
      · as_aux_lemma =>
          have hfv : findV (findS (cellsP k0 bb) k1) = .tuple #[.agg #[.string ⟨#[]⟩, .string ⟨#[]⟩, .int .i64 0, .int .i64 0], .bool false] := by rw [hn]; rfl
          rw [hfv] at FI
          rw [h1] at SE
          replace CU1 := Lib.hid (CU1.out b2 hb2)
          rw [h2] at CU1
          replace FI2 := Lib.hid (FI2.out b2 hb2)
          rw [h3] at FI2
          rw [h4] at CU2
          change Hid (∀ w, Calls _ _ _ w (fun e w' => e = .returned (.tuple #[.agg #[.string k1, .string s1, .int .i64 b1, .int .i64 z1], .bool true]) ∧ _)) at FI2
          generalize str b2 = sb2 at *
          clear hfv hn h1 h2 h3 h4 hb2 EQZ
          have ez := EQP.out
          have ec := EQC.out
          refine (FI.out _).mono ?_; rintro e w2 ⟨rfl, hb⟩
          have P2 := Lib.hid (P1.out.kept hb)
          have C2 := Lib.hid (C1.out.kept hb)
          have HB2 := Lib.hid (HB1.out.trans (hb.mono (Below.size HB1.out)))
          clear hb HB1 P1 C1
          have hal := (Below.refl (w2).heap.size (w2)).alloc (Nat.le_refl _) (.cells #[.string ⟨#[]⟩, .string ⟨#[]⟩, .int .i64 0, .int .i64 0] 31)
          replace P2 := Lib.hid (P2.out.kept hal)
          replace C2 := Lib.hid (C2.out.kept hal)
          have A2 := Lib.hid (Box.new (w2) (.string ⟨#[]⟩) (.string ⟨#[]⟩) (.int .i64 0) (.int .i64 0))
          replace HB2 := Lib.hid (HB2.out.trans (hal.mono (Below.size HB2.out)))
          clear hal
          obtain ⟨oP0, oP1, oP2, oP3⟩ := P2.out.cells
          obtain ⟨oC0, oC1, oC2, oC3⟩ := C2.out.cells
          go_wp2_with fail
          clear oP0 oP1 oP2 oP3 oC0 oC1 oC2 oC3
          obtain ⟨bA, hbA⟩ : ∃ bA, bA = (w2).heap.size := ⟨_, rfl⟩
          rw [← hbA] at A2 ⊢
          have HLA := Lib.hid hbA
          clear hbA
          generalize (w2).alloc (.cells #[.string ⟨#[]⟩, .string ⟨#[]⟩, .int .i64 0, .int .i64 0] 31) = v2 at *
          clear A2
          refine (SE.out _).mono ?_; rintro e w3 ⟨rfl, hb⟩
          have P3 := Lib.hid (P2.out.kept hb)
          have C3 := Lib.hid (C2.out.kept hb)
          have HB3 := Lib.hid (HB2.out.trans (hb.mono (Below.size HB2.out)))
          clear hb HB2 P2 C2
          have hal := (Below.refl (w3).heap.size (w3)).alloc (Nat.le_refl _) (.cells #[.int .i64 k0, .int .i64 s0, .int .i64 b0, .string sb2] 25)
          replace P3 := Lib.hid (P3.out.kept hal)
          replace C3 := Lib.hid (C3.out.kept hal)
          have Q3 := Lib.hid (PBox.new (w3) (k0) (s0) (b0) (sb2))
          replace HB3 := Lib.hid (HB3.out.trans (hal.mono (Below.size HB3.out)))
          clear hal
          obtain ⟨oP0, oP1, oP2, oP3⟩ := P3.out.cells
          obtain ⟨oC0, oC1, oC2, oC3⟩ := C3.out.cells
          go_wp2_with fail
          clear oP0 oP1 oP2 oP3 oC0 oC1 oC2 oC3
          obtain ⟨bQ, hbQ⟩ : ∃ bQ, bQ = (w3).heap.size := ⟨_, rfl⟩
          rw [← hbQ] at Q3 ⊢
          have HLQ := Lib.hid hbQ
          clear hbQ
          generalize (w3).alloc (.cells #[.int .i64 k0, .int .i64 s0, .int .i64 b0, .string sb2] 25) = v3 at *
          refine (CU1.out _).mono ?_; rintro e w4 ⟨rfl, hb⟩
          have P4 := Lib.hid (P3.out.kept hb)
          have C4 := Lib.hid (C3.out.kept hb)
          have Q4 := Lib.hid (Q3.out.kept hb)
          have HB4 := Lib.hid (HB3.out.trans (hb.mono (Below.size HB3.out)))
          clear hb HB3 P3 C3 Q3
          have hal := (Below.refl (w4).heap.size (w4)).alloc (Nat.le_refl _) (.cells #[.int .i64 k0, .int .i64 s0, .int .i64 b0, .string sb] 25)
          replace P4 := Lib.hid (P4.out.kept hal)
          replace C4 := Lib.hid (C4.out.kept hal)
          replace Q4 := Lib.hid (Q4.out.kept hal)
          have R4 := Lib.hid (PBox.new (w4) (k0) (s0) (b0) (sb))
          replace HB4 := Lib.hid (HB4.out.trans (hal.mono (Below.size HB4.out)))
          clear hal
          obtain ⟨oP0, oP1, oP2, oP3⟩ := P4.out.cells
          obtain ⟨oC0, oC1, oC2, oC3⟩ := C4.out.cells
          obtain ⟨oQ0, oQ1, oQ2, oQ3⟩ := Q4.out.cells
          go_wp2_with fail
          clear oP0 oP1 oP2 oP3 oC0 oC1 oC2 oC3 oQ0 oQ1 oQ2 oQ3
          obtain ⟨bR, hbR⟩ : ∃ bR, bR = (w4).heap.size := ⟨_, rfl⟩
          rw [← hbR] at R4 ⊢
          have HLR := Lib.hid hbR
          clear hbR
          generalize (w4).alloc (.cells #[.int .i64 k0, .int .i64 s0, .int .i64 b0, .string sb] 25) = v4 at *
          refine (FI2.out _).mono ?_; rintro e w5 ⟨rfl, hb⟩
          have P5 := Lib.hid (P4.out.kept hb)
          have C5 := Lib.hid (C4.out.kept hb)
          have Q5 := Lib.hid (Q4.out.kept hb)
          have R5 := Lib.hid (R4.out.kept hb)
          have HB5 := Lib.hid (HB4.out.trans (hb.mono (Below.size HB4.out)))
          clear hb HB4 P4 C4 Q4 R4
          have hal := (Below.refl (w5).heap.size (w5)).alloc (Nat.le_refl _) (.cells #[.string k1, .string s1, .int .i64 b1, .int .i64 z1] 31)
          replace P5 := Lib.hid (P5.out.kept hal)
          replace C5 := Lib.hid (C5.out.kept hal)
          replace Q5 := Lib.hid (Q5.out.kept hal)
          replace R5 := Lib.hid (R5.out.kept hal)
          have X5 := Lib.hid (Box.new (w5) (.string k1) (.string s1) (.int .i64 b1) (.int .i64 z1))
          replace HB5 := Lib.hid (HB5.out.trans (hal.mono (Below.size HB5.out)))
          clear hal
          obtain ⟨oP0, oP1, oP2, oP3⟩ := P5.out.cells
          obtain ⟨oC0, oC1, oC2, oC3⟩ := C5.out.cells
          obtain ⟨oQ0, oQ1, oQ2, oQ3⟩ := Q5.out.cells
          obtain ⟨oR0, oR1, oR2, oR3⟩ := R5.out.cells
          go_wp2_with fail
          clear oP0 oP1 oP2 oP3 oC0 oC1 oC2 oC3 oQ0 oQ1 oQ2 oQ3 oR0 oR1 oR2 oR3
          obtain ⟨bX, hbX⟩ : ∃ bX, bX = (w5).heap.size := ⟨_, rfl⟩
          rw [← hbX] at X5 ⊢
          have HLX := Lib.hid hbX
          clear hbX
          generalize (w5).alloc (.cells #[.string k1, .string s1, .int .i64 b1, .int .i64 z1] 31) = v5 at *
          refine (CU2.out _).mono ?_; rintro e w6 ⟨rfl, hb⟩
          have P6 := Lib.hid (P5.out.kept hb)
          have C6 := Lib.hid (C5.out.kept hb)
          have Q6 := Lib.hid (Q5.out.kept hb)
          have R6 := Lib.hid (R5.out.kept hb)
          have X6 := Lib.hid (X5.out.kept hb)
          have HB6 := Lib.hid (HB5.out.trans (hb.mono (Below.size HB5.out)))
          clear hb HB5 P5 C5 Q5 R5 X5
          have hal := (Below.refl (w6).heap.size (w6)).alloc (Nat.le_refl _) (.cells #[.int .i64 0, .int .i64 0, .int .i64 0, .string ⟨#[]⟩] 25)
          replace P6 := Lib.hid (P6.out.kept hal)
          replace C6 := Lib.hid (C6.out.kept hal)
          replace Q6 := Lib.hid (Q6.out.kept hal)
          replace R6 := Lib.hid (R6.out.kept hal)
          replace X6 := Lib.hid (X6.out.kept hal)
          have Y6 := Lib.hid (PBox.new (w6) (0) (0) (0) (⟨#[]⟩))
          replace HB6 := Lib.hid (HB6.out.trans (hal.mono (Below.size HB6.out)))
          clear hal
          obtain ⟨oP0, oP1, oP2, oP3⟩ := P6.out.cells
          obtain ⟨oC0, oC1, oC2, oC3⟩ := C6.out.cells
          obtain ⟨oQ0, oQ1, oQ2, oQ3⟩ := Q6.out.cells
          obtain ⟨oR0, oR1, oR2, oR3⟩ := R6.out.cells
          obtain ⟨oX0, oX1, oX2, oX3⟩ := X6.out.cells
          go_wp2_with fail
          go_ret
          exact ⟨rfl, HB6.out⟩

/-! The row's step. -/
set_option maxRecDepth 100000 in
theorem lifted (os : Os) (started : os.Started) (H : Type) (enc : TypeId × Value → H) :
    ReturnsInHanded {} Try.checked os 6 .any (Rows.bucketBackSpec.pre6 enc Try.prog Try.f6 Rows.bucketBackRow.domain false) (Rows.bucketBackSpec.post enc Try.prog Try.f6 false true false false) := by
  refine returnsInHanded_of_change (C := Try.checked) own started (by kernel_rfl) Try.func6
    (ChangeSpec.witness6 (enc := enc) (C := Try.checked) false ⟨#[], #[.agg #[.int .i64 0, .int .i64 0, .int .i64 0, .string ByteArray.empty], .agg #[.string ByteArray.empty, .string ByteArray.empty, .int .i64 0, .int .i64 0]], []⟩ 8 (by kernel_rfl) (by kernel_rfl) (by kernel_rfl) (by kernel_rfl)) ?_
  intro W base args ds gs before hval0 hW hcnd _
  have hval : ∀ (j : Nat) t v, Try.f6.params[j]? = some t → args[j]? = some v → Value.okWide Try.prog W .any base t v := hval0
  have hW' := hW
  obtain ⟨p, q, hA0, hV, rfl, hfz, hnd⟩ := hW
  have hA : DataW.TrodAll enc Try.prog W 0 (fun _ => true) true Try.f6.params.toList args.toList ds p := hA0
  rw [Try.params6] at hA hval
  obtain ⟨v0, vs0, d0, ds0, p0, q0, hargs, rfl, rfl, h0, r0⟩ := trodAll_cons hA
  obtain ⟨v1, vs1, d1, ds1, p1, q1, rfl, rfl, rfl, h1, r1⟩ := trodAll_cons r0
  obtain ⟨rfl, rfl, rfl⟩ := trodAll_nil r1
  obtain rfl : args = #[v0, v1] := by cases args; simp_all
  obtain ⟨rfl, rfl⟩ := trodVars_none hV
  obtain ⟨k0, s0, b0, z0, rfl, wk0, ws0, wb0, wz0, sh0⟩ := open_page (hval 0 25 v0 rfl rfl) h0
  obtain ⟨k1, s1, b1, z1, rfl, wk1, ws1, wb1, wz1, sh1⟩ := open_cell (hval 1 31 v1 rfl rfl) h1
  clear hA0 hval0
  refine (walk k0 s0 b0 z0 k1 s1 b1 z1 W wk0 ws0 wb0 wz0 wk1 ws1 wb1 wz1).mono fun e W' ⟨he, bel⟩ => ?_
  subst he
  exact ⟨_, rfl, _, _, _, [], _, [], hW', trodAll_mk1 (shut_bool Try.underlying4 _), (trodAll_cons_mk (sh0 _ _) (trodAll_cons_mk (sh1 _ _) trodAll_mk0)), rfl, bel.frame _, fun h => by cases h⟩

theorem over : Rows.bucketBackRow.holds Try.pinned (OpenSpec.ofChange Rows.bucketBackSpec) :=
  OpenClaim.holds_of_wide 6 Try.f6 rfl rfl rfl rfl rfl rfl rfl ⟨rfl, rfl, rfl, rfl, rfl⟩ rfl rfl rfl rfl rfl (by kernel_rfl) Try.func6 (by kernel_rfl)
    (of_decide_eq_true (by kernel_rfl)) (by unfold Func.isWrapper; first | (rw [if_pos (by decide +kernel)]; kernel_rfl) | (rw [if_neg (by decide +kernel)]; exact ⟨rfl, rfl⟩))
    (fun os started H enc _ => lifted os started H enc)

/-- The statement. -/
theorem proved : Rows.BucketBackSaid := over
end Go.Proofs.Ytljegjcajlkgiaa.bucketBack
