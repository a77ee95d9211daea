/- Whatever is done to a directory, in every order, of every page that might be one: each answer, each entry is the document's; the lists that were answered are the caller's own. -/
import Derived.Test.YtojfnafahlpjjaaRows
import Derived.Test.YtojfnafahlpjjaaMix
import Derived.LoopTactic
import Derived.StillTailTactics
import Derived.BigQuiet
import Derived.Deep.DeepCutAuto
import Derived.Deep.RegionLaw
import Derived.Deep.CutBlock
import Derived.Deep.RegionHeld3
import Derived.Lib.Hide
import Derived.WalkKit
import Derived.ProofKit
import Derived.OpenShut
import Derived.ChangeOld
import Derived.Below
import Derived.Carry
namespace Go.Proofs.Ytojfnafahlpjjaa.dirPlays
open Go.ChangeShapes Go.WideShapes Go.ChangeAt Go.RowKit
set_option linter.unusedVariables false

theorem own : ownKnob Try.prog.godebug = none := by kernel_rfl
theorem laidOut : laidOutB Try.prog = true := by kernel_rfl


set_option maxRecDepth 100000 in
set_option maxHeartbeats 100000000 in
theorem walk (a0 : Int) (k1 s1 b1 : Int) (z1 : ByteArray) (a2 : Bool) (A3 : Option Addr) (n3 c3 : Nat) (l3 : List Opp) (w : World) (w0 : (Lit.int .i64 a0).wf = true) (wk1 : (Lit.int .i64 k1).wf = true) (ws1 : (Lit.int .i64 s1).wf = true) (wb1 : (Lit.int .i64 b1).wf = true) (wz1 : z1.size ≤ maxLen) (w3 : OpsL w A3 n3 l3) (e3 : n3 ≤ maxLen) :
    Calls Try.prog 3 #[.int .i64 a0, .agg #[.int .i64 k1, .int .i64 s1, .int .i64 b1, .string z1], .bool a2, .slice A3 n3 c3] w fun e w' => e = .returned (.bool true) ∧ Below w.heap.size w w' := by
  have AL := Lib.hid alive_yes
  by_cases cc : 300 < (z1.size : Int)
  · as_aux_lemma =>
      have g0x : decide (300 < (z1.size : Int)) = true := decide_eq_true cc
      have HB0 := Lib.hid ((Below.refl w.heap.size w).alloc (Nat.le_refl _) (.cells #[.int .i64 k1, .int .i64 s1, .int .i64 b1, .string z1] 23))
      go_enter Try.func3, Try.ntmps3
      go_wp2_with fail
      refine (AL.out _).mono ?_; rintro e w1 ⟨rfl, hb⟩
      have HB1 := Lib.hid (HB0.out.trans (hb.mono (Below.size HB0.out)))
      clear hb HB0 
      go_wp2_with fail
      go_ret
      exact ⟨rfl, HB1.out⟩
  · have g0x : decide (300 < (z1.size : Int)) = false := decide_eq_false cc
    by_cases cd : 60 < (n3 : Int)
    · as_aux_lemma =>
        have g1x : decide (60 < (n3 : Int)) = true := decide_eq_true cd
        have HB0 := Lib.hid ((Below.refl w.heap.size w).alloc (Nat.le_refl _) (.cells #[.int .i64 k1, .int .i64 s1, .int .i64 b1, .string z1] 23))
        go_enter Try.func3, Try.ntmps3
        go_wp2_with fail
        refine (AL.out _).mono ?_; rintro e w1 ⟨rfl, hb⟩
        have HB1 := Lib.hid (HB0.out.trans (hb.mono (Below.size HB0.out)))
        clear hb HB0 
        go_wp2_with fail
        go_ret
        exact ⟨rfl, HB1.out⟩
    · have g1x : decide (60 < (n3 : Int)) = false := decide_eq_false cd
      have hn3 : n3 ≤ 60 := by omega
      have HP := Lib.hid (fun (i : Nat) (hi : i < n3) (w' : World) (hb : Below w.heap.size w w') => w3.at hi hb)
      clear w3
      obtain ⟨rb, rfl⟩ : ∃ rb, z1 = str rb := ⟨z1.data.toList, (str_data z1).symm⟩
      obtain ⟨sr, hsr⟩ : ∃ s, s = str rb := ⟨_, rfl⟩
      rw [← hsr] at cc g0x ⊢
      have HSR := Lib.hid hsr
      clear hsr wz1
      have HB0 := Lib.hid (Below.refl w.heap.size w)
      have hal := (Below.refl (w).heap.size (w)).alloc (Nat.le_refl _) (.cells #[.int .i64 k1, .int .i64 s1, .int .i64 b1, .string sr] 23)
      have R0 := Lib.hid (PBox.new (w) (k1) (s1) (b1) (sr))
      replace HB0 := Lib.hid (HB0.out.trans (hal.mono (Below.size HB0.out)))
      clear hal
      go_enter Try.func3, Try.ntmps3
      go_wp2_with fail
      obtain ⟨bR, hbR⟩ : ∃ bR, bR = (w).heap.size := ⟨_, rfl⟩
      rw [← hbR] at R0 ⊢
      have HLR := Lib.hid hbR
      clear hbR
      generalize (w).alloc (.cells #[.int .i64 k1, .int .i64 s1, .int .i64 b1, .string sr] 23) = v0 at *
      refine (AL.out _).mono ?_; rintro e w1 ⟨rfl, hb⟩
      have R1 := Lib.hid (R0.out.kept hb)
      have HB1 := Lib.hid (HB0.out.trans (hb.mono (Below.size HB0.out)))
      clear hb HB0 R0
      clear AL
      obtain ⟨mb, kk, sn, hmb, hne⟩ : ∃ (mb : Bool) (kk : Int) (sn : ByteArray), ((mb = true ∧ (2 ≤ a0 ∧ a0 < 64) ∧ kk = 1 ∧ sn = str (mkD [a0])) ∨ (mb = false ∧ ¬ (2 ≤ a0 ∧ a0 < 64) ∧ kk = 0 ∧ sn = ⟨#[]⟩)) ∧ ∀ w, Calls Try.prog 9 #[.int .i64 a0] w fun e w' => e = .returned (.tuple #[.agg #[.int .i64 kk, .int .i64 0, .int .i64 0, .string sn], .bool mb]) ∧ Below w.heap.size w w' := by
        by_cases hn : 2 ≤ a0 ∧ a0 < 64
        · exact ⟨true, 1, _, .inl ⟨rfl, hn, rfl, rfl⟩, fun w => new_ok a0 hn w⟩
        · exact ⟨false, 0, ⟨#[]⟩, .inr ⟨rfl, hn, rfl, rfl⟩, fun w => new_no a0 hn w⟩
      have HMB := Lib.hid hmb
      have NE := Lib.hid hne
      clear hmb hne
      obtain ⟨oR0, oR1, oR2, oR3⟩ := R1.out.cells
      go_wp2_with fail
      clear oR0 oR1 oR2 oR3
      refine (NE.out _).mono ?_; rintro e w2 ⟨rfl, hb⟩
      have R2 := Lib.hid (R1.out.kept hb)
      have HB2 := Lib.hid (HB1.out.trans (hb.mono (Below.size HB1.out)))
      clear hb HB1 R1
      clear NE
      have HSZ := Lib.hid HB2.out.size
      have hal := (Below.refl (w2).heap.size (w2)).alloc (Nat.le_refl _) (.cells #[.int .i64 kk, .int .i64 0, .int .i64 0, .string sn] 23)
      replace R2 := Lib.hid (R2.out.kept hal)
      have P2 := Lib.hid (PBox.new (w2) (kk) (0) (0) (sn))
      replace HB2 := Lib.hid (HB2.out.trans (hal.mono (Below.size HB2.out)))
      clear hal
      go_upto_region 4 with fail
      obtain ⟨bP, hbP⟩ : ∃ bP, bP = (w2).heap.size := ⟨_, rfl⟩
      rw [← hbP] at P2 ⊢
      have HLP := Lib.hid hbP
      clear hbP
      generalize (w2).alloc (.cells #[.int .i64 kk, .int .i64 0, .int .i64 0, .string sn] 23) = v5 at *
      have HLE := Lib.hid (show w.heap.size ≤ bP by rw [HLP.out]; exact HSZ.out)
      clear HLP HSZ
      go_cut [11] (fun s wx => s = .bool mb ∧ Hid (PBox wx bP kk 0 0 sn ∧ PBox wx bR k1 s1 b1 sr ∧ Below w.heap.size w wx))
      case first =>
        as_aux_lemma =>
          rcases HMB.out with ⟨hmb, ⟨h8, h64⟩, -, -⟩ | ⟨hmb, hn, -, -⟩
          · subst hmb
            have d8 : decide (a0 ≥ 2) = true := decide_eq_true h8
            have d8b : decide (2 ≤ a0) = true := decide_eq_true h8
            have d64 : decide (a0 < 64) = true := decide_eq_true h64
            clear HMB
            go_wp2_with fail
            go_meet
            exact ⟨by trivial, P2.out, R2.out, HB2.out⟩
          · subst hmb
            by_cases h8 : a0 ≥ 2
            · have h64 : ¬ a0 < 64 := fun h => hn ⟨h8, h⟩
              have d8 : decide (a0 ≥ 2) = true := decide_eq_true h8
              have d8b : decide (2 ≤ a0) = true := decide_eq_true h8
              have d64 : decide (a0 < 64) = false := decide_eq_false h64
              clear HMB
              go_wp2_with fail
              go_meet
              exact ⟨by trivial, P2.out, R2.out, HB2.out⟩
            · have d8 : decide (a0 ≥ 2) = false := decide_eq_false h8
              have d8b : decide (2 ≤ a0) = false := decide_eq_false h8
              clear HMB
              go_wp2_with fail
              go_meet
              exact ⟨by trivial, P2.out, R2.out, HB2.out⟩
      case rest =>
        as_aux_lemma =>
          obtain ⟨hs, hq⟩ := hcut
          subst hs
          clear P2 R2 HB2
          have P3 := Lib.hid hq.out.1
          have R3 := Lib.hid hq.out.2.1
          have HB3 := Lib.hid hq.out.2.2
          clear hq
          go_upto_region 5 with fail
          go_cut [76] (fun s wx => s = .bool false ∧ Hid (PBox wx bP kk 0 0 sn ∧ PBox wx bR k1 s1 b1 sr ∧ Below w.heap.size w wx))
          case first =>
            as_aux_lemma =>
              rcases HMB.out with ⟨hmb, hn, hk, hs⟩ | ⟨hmb, -, hk, hs⟩
              · subst hmb hk
                have DOF := Lib.hid (fun (bT : Nat) (V : World) (h : Tbl V bT [a0]) => (show Calls Try.prog 10 #[.agg #[.int .i64 1, .int .i64 0, .int .i64 0, .string ⟨#[]⟩], .int .i64 0, .slice (some ⟨bT, 0, none⟩) 1 1] V fun q w' => q = .returned (.agg #[.int .i64 1, .int .i64 0, .int .i64 0, .string sn]) ∧ Below V.heap.size V w' from by
                  rw [hs]
                  exact dirof_any 1 0 0 0 [] V.heap.size (some ⟨bT, 0, none⟩) 1 1 [a0] V (h.nums (by unfold maxLen; simp)) (Nat.le_refl _) (by omega) (fun i hi => by obtain rfl : i = 0 := (by omega); show 0 ≤ a0 ∧ a0 < 256; omega)))
                have NQ := Lib.hid (neq_same 1 0 0 sn)
                clear HMB hs hn
                refine wp_region_noPanic ?_
                refine wp_region_held_drew (S := fun w9 => PBox w9 bP 1 0 0 sn) (by kernel_rfl) ?_ (fun hHeld => ?_)
                · exact P3.out
                refine wpAnyH_take (i := 0) (oi := { dst := some 54, op := Op.move (Operand.tmp 10), type := 4, pos := "law.go:31", after := #[], guard := none }) (v := .bool true) rfl (by kernel_rfl) (by kernel_rfl) (by kernel_rfl) (fun _ _ _ h => h) (Or.inl ⟨by rfl, fun w' hSw => by ((try dsimp only at hSw); go_simp)⟩) (by assumption) ?_
                (try simp only [Act.put, List.setIfInBounds_toArray, List.set_cons_zero, List.set_cons_succ])
                refine wpAnyH_take (i := 1) (oi := { dst := some 55, op := Op.move (Operand.tmp 11), type := 4, pos := "law.go:31", after := #[], guard := none }) (v := .bool true) rfl (by kernel_rfl) (by kernel_rfl) (by kernel_rfl) (fun _ _ _ h => h) (Or.inl ⟨by rfl, fun w' hSw => by ((try dsimp only at hSw); go_simp)⟩) (by assumption) ?_
                (try simp only [Act.put, List.setIfInBounds_toArray, List.set_cons_zero, List.set_cons_succ])
                refine wpAnyH_take (i := 2) (oi := { dst := some 56, op := Op.binOp BinOp.neq 4 (Operand.tmp 54) (Operand.tmp 55) 4, type := 4, pos := "law.go:31", after := #[{ on := 0, ground := Ground.data }, { on := 1, ground := Ground.data }], guard := none }) (v := .bool false) rfl (by kernel_rfl) (by kernel_rfl) (by kernel_rfl) (fun _ _ _ h => h) (Or.inl ⟨by rfl, fun w' hSw => by ((try dsimp only at hSw); go_simp)⟩) (by assumption) ?_
                (try simp only [Act.put, List.setIfInBounds_toArray, List.set_cons_zero, List.set_cons_succ])
                refine wpAnyH_take (i := 3) (oi := { dst := some 57, op := Op.move (Operand.tmp 56), type := 4, pos := "law.go:31", after := #[{ on := 2, ground := Ground.data }], guard := none }) (v := .bool false) rfl (by kernel_rfl) (by kernel_rfl) (by kernel_rfl) (fun _ _ _ h => h) (Or.inl ⟨by rfl, fun w' hSw => by ((try dsimp only at hSw); go_simp)⟩) (by assumption) ?_
                (try simp only [Act.put, List.setIfInBounds_toArray, List.set_cons_zero, List.set_cons_succ])
                refine wpAnyH_take (i := 4) (oi := { dst := some 58, op := Op.move (Operand.tmp 10), type := 4, pos := "law.go:31", after := #[{ on := 3, ground := Ground.guard }], guard := some (3, false) }) (v := .bool true) rfl (by kernel_rfl) (by kernel_rfl) (by kernel_rfl) (fun _ _ _ h => h) (Or.inl ⟨by rfl, fun w' hSw => by ((try dsimp only at hSw); go_simp)⟩) (by assumption) ?_
                (try simp only [Act.put, List.setIfInBounds_toArray, List.set_cons_zero, List.set_cons_succ])
                refine wpAnyH_take (i := 5) (oi := { dst := some 59, op := Op.unOp UnOp.not 4 (Operand.tmp 58), type := 4, pos := "law.go:31", after := #[{ on := 4, ground := Ground.data }, { on := 3, ground := Ground.guard }], guard := some (3, false) }) (v := .bool false) rfl (by kernel_rfl) (by kernel_rfl) (by kernel_rfl) (fun _ _ _ h => h) (Or.inl ⟨by rfl, fun w' hSw => by ((try dsimp only at hSw); go_simp)⟩) (by assumption) ?_
                (try simp only [Act.put, List.setIfInBounds_toArray, List.set_cons_zero, List.set_cons_succ])
                refine wpAnyH_take (i := 6) (oi := { dst := some 60, op := Op.move (Operand.tmp 59), type := 4, pos := "law.go:31", after := #[{ on := 5, ground := Ground.data }, { on := 3, ground := Ground.chain }, { on := 3, ground := Ground.guard }], guard := some (3, false) }) (v := .bool false) rfl (by kernel_rfl) (by kernel_rfl) (by kernel_rfl) (fun _ _ _ h => h) (Or.inl ⟨by rfl, fun w' hSw => by ((try dsimp only at hSw); go_simp)⟩) (by assumption) ?_
                (try simp only [Act.put, List.setIfInBounds_toArray, List.set_cons_zero, List.set_cons_succ])
                refine wpAnyH_take (i := 7) (oi := { dst := some 61, op := Op.load 23 (Operand.tmp 9), type := 23, pos := "law.go:31", after := #[{ on := 6, ground := Ground.guard }], guard := some (6, true) }) (v := undef) rfl (by kernel_rfl) (by kernel_rfl) (by kernel_rfl) (fun _ _ _ h => h) (Or.inr ⟨by rfl, rfl⟩) (by assumption) ?_
                (try simp only [Act.put, List.setIfInBounds_toArray, List.set_cons_zero, List.set_cons_succ])
                refine wpAnyH_take (i := 8) (oi := { dst := some 62, op := Op.build 23 #[], type := 23, pos := "law.go:31", after := #[{ on := 6, ground := Ground.guard }], guard := some (6, true) }) (v := undef) rfl (by kernel_rfl) (by kernel_rfl) (by kernel_rfl) (fun _ _ _ h => h) (Or.inr ⟨by rfl, rfl⟩) (by assumption) ?_
                (try simp only [Act.put, List.setIfInBounds_toArray, List.set_cons_zero, List.set_cons_succ])
                refine wpAnyH_take (i := 9) (oi := { dst := some 63, op := Op.binOp BinOp.neq 23 (Operand.tmp 61) (Operand.tmp 62) 23, type := 4, pos := "law.go:31", after := #[{ on := 7, ground := Ground.data }, { on := 8, ground := Ground.data }, { on := 6, ground := Ground.guard }], guard := some (6, true) }) (v := undef) rfl (by kernel_rfl) (by kernel_rfl) (by kernel_rfl) (fun _ _ _ h => h) (Or.inr ⟨by rfl, rfl⟩) (by assumption) ?_
                (try simp only [Act.put, List.setIfInBounds_toArray, List.set_cons_zero, List.set_cons_succ])
                refine wpAnyH_take (i := 10) (oi := { dst := some 64, op := Op.pick (Operand.tmp 60) (Operand.tmp 63) (Operand.const (Value.bool false)), type := 4, pos := "law.go:31", after := #[{ on := 6, ground := Ground.data }, { on := 9, ground := Ground.data }, { on := 3, ground := Ground.guard }], guard := some (3, false) }) (v := .bool false) rfl (by kernel_rfl) (by kernel_rfl) (by kernel_rfl) (fun _ _ _ h => h) (Or.inl ⟨by rfl, fun w' hSw => by ((try dsimp only at hSw); go_simp)⟩) (by assumption) ?_
                (try simp only [Act.put, List.setIfInBounds_toArray, List.set_cons_zero, List.set_cons_succ])
                refine wpAnyH_take (i := 11) (oi := { dst := some 65, op := Op.pick (Operand.tmp 57) (Operand.const (Value.bool true)) (Operand.tmp 64), type := 4, pos := "law.go:31", after := #[{ on := 3, ground := Ground.data }, { on := 10, ground := Ground.data }], guard := none }) (v := .bool false) rfl (by kernel_rfl) (by kernel_rfl) (by kernel_rfl) (fun _ _ _ h => h) (Or.inl ⟨by rfl, fun w' hSw => by ((try dsimp only at hSw); go_simp)⟩) (by assumption) ?_
                (try simp only [Act.put, List.setIfInBounds_toArray, List.set_cons_zero, List.set_cons_succ])
                refine wpAnyH_take (i := 12) (oi := { dst := some 66, op := Op.move (Operand.tmp 65), type := 4, pos := "law.go:31", after := #[{ on := 11, ground := Ground.data }, { on := 6, ground := Ground.chain }], guard := none }) (v := .bool false) rfl (by kernel_rfl) (by kernel_rfl) (by kernel_rfl) (fun _ _ _ h => h) (Or.inl ⟨by rfl, fun w' hSw => by ((try dsimp only at hSw); go_simp)⟩) (by assumption) ?_
                (try simp only [Act.put, List.setIfInBounds_toArray, List.set_cons_zero, List.set_cons_succ])
                refine wpAnyH_take (i := 13) (oi := { dst := some 67, op := Op.move (Operand.tmp 11), type := 4, pos := "law.go:31", after := #[{ on := 12, ground := Ground.guard }], guard := some (12, false) }) (v := .bool true) rfl (by kernel_rfl) (by kernel_rfl) (by kernel_rfl) (fun _ _ _ h => h) (Or.inl ⟨by rfl, fun w' hSw => by ((try dsimp only at hSw); go_simp)⟩) (by assumption) ?_
                (try simp only [Act.put, List.setIfInBounds_toArray, List.set_cons_zero, List.set_cons_succ])
                refine wpAnyH_take (i := 14) (oi := { dst := some 68, op := Op.move (Operand.tmp 67), type := 4, pos := "law.go:31", after := #[{ on := 13, ground := Ground.data }, { on := 12, ground := Ground.chain }, { on := 12, ground := Ground.guard }], guard := some (12, false) }) (v := .bool true) rfl (by kernel_rfl) (by kernel_rfl) (by kernel_rfl) (fun _ _ _ h => h) (Or.inl ⟨by rfl, fun w' hSw => by ((try dsimp only at hSw); go_simp)⟩) (by assumption) ?_
                (try simp only [Act.put, List.setIfInBounds_toArray, List.set_cons_zero, List.set_cons_succ])
                refine wpAnyH_take (i := 15) (oi := { dst := some 69, op := Op.load 23 (Operand.tmp 9), type := 23, pos := "law.go:31", after := #[{ on := 14, ground := Ground.guard }], guard := some (14, true) }) (v := .agg #[.int .i64 1, .int .i64 0, .int .i64 0, .string sn]) rfl (by kernel_rfl) (by kernel_rfl) (by kernel_rfl) (fun _ _ _ h => h) (Or.inl ⟨by rfl, fun w' hSw => by ((try dsimp only at hSw); obtain ⟨x0, x1, x2, x3⟩ := hSw.cells; go_simp)⟩) (by assumption) ?_
                (try simp only [Act.put, List.setIfInBounds_toArray, List.set_cons_zero, List.set_cons_succ])
                refine wpAnyH_take (i := 16) (oi := { dst := some 70, op := Op.build 23 #[(0, Operand.const (Value.int IntKind.i64 1))], type := 23, pos := "law.go:31", after := #[{ on := 14, ground := Ground.guard }], guard := some (14, true) }) (v := .agg #[.int .i64 1, .int .i64 0, .int .i64 0, .string ⟨#[]⟩]) rfl (by kernel_rfl) (by kernel_rfl) (by kernel_rfl) (fun _ _ _ h => h) (Or.inl ⟨by rfl, fun w' hSw => by ((try dsimp only at hSw); go_simp)⟩) (by assumption) ?_
                (try simp only [Act.put, List.setIfInBounds_toArray, List.set_cons_zero, List.set_cons_succ])
                refine wpAnyH_take (i := 17) (oi := { dst := some 71, op := Op.move (Operand.tmp 0), type := 3, pos := "law.go:31", after := #[{ on := 14, ground := Ground.guard }], guard := some (14, true) }) (v := .int .i64 a0) rfl (by kernel_rfl) (by kernel_rfl) (by kernel_rfl) (fun _ _ _ h => h) (Or.inl ⟨by rfl, fun w' hSw => by ((try dsimp only at hSw); go_simp)⟩) (by assumption) ?_
                (try simp only [Act.put, List.setIfInBounds_toArray, List.set_cons_zero, List.set_cons_succ])
                refine wpAnyH_ready (rs := [18]) (by kernel_rfl) (by simp) ?_
                refine AllReadyH.cons (o := { dst := some 72, op := Op.buildSlice 29 1 #[(0, Operand.tmp 71)], type := 29, pos := "law.go:31", after := #[{ on := 17, ground := Ground.data }, { on := 14, ground := Ground.guard }], guard := some (14, true) }) rfl (fun K hK => ?_) ?_
                · go_simp
                  refine hK.out _ _ ?_ (fun hHeld => ?_)
                  · exact PBox.kept (by assumption) ((Below.refl _ _).alloc (Nat.le_refl _) _)
                  clear hK K
                  (try simp only [Act.put, List.setIfInBounds_toArray, List.set_cons_zero, List.set_cons_succ])
                  have hal : Below wc.heap.size wc (wc.alloc (.cells #[.int .i64 a0] 3)).drew := ((Below.refl wc.heap.size wc).alloc (Nat.le_refl _) _).drew
                  have HTV := Lib.hid (show Tbl (wc.alloc (.cells #[.int .i64 a0] 3)).drew wc.heap.size [a0] from heap_alloc_new wc _)
                  have RV := Lib.hid (R3.out.kept hal)
                  have HBV := Lib.hid (HB3.out.trans (hal.mono (Below.size HB3.out)))
                  clear hal
                  generalize (wc.alloc (.cells #[.int .i64 a0] 3)).drew = V5 at *
                  refine wpAnyH_ready (rs := [19]) (by kernel_rfl) (by simp) ?_
                  refine AllReadyH.cons (o := { dst := some 73, op := Op.call { callee := Callee.value (Operand.func 10), args := #[Operand.tmp 70, Operand.const (Value.int IntKind.i64 0), Operand.tmp 72], argTypes := #[23, 3, 29] }, type := 23, pos := "law.go:31", after := #[{ on := 16, ground := Ground.data }, { on := 18, ground := Ground.data }, { on := 14, ground := Ground.chain }, { on := 14, ground := Ground.guard }], guard := some (14, true) }) rfl (fun K hK => ?_) ?_
                  · go_simp; go_at_call 10; refine (DOF.out _ _ HTV.out).mono ?_; rintro e u ⟨rfl, hb⟩
                    refine hK.out _ _ ?_ (fun hHeld => ?_)
                    · exact PBox.kept (by assumption) hb
                    clear hK K
                    (try simp only [Act.put, List.setIfInBounds_toArray, List.set_cons_zero, List.set_cons_succ])
                    refine wpAnyH_take (i := 20) (oi := { dst := some 74, op := Op.binOp BinOp.neq 23 (Operand.tmp 69) (Operand.tmp 73) 23, type := 4, pos := "law.go:31", after := #[{ on := 15, ground := Ground.data }, { on := 19, ground := Ground.data }, { on := 14, ground := Ground.guard }], guard := some (14, true) }) (v := .bool false) rfl (by kernel_rfl) (by kernel_rfl) (by kernel_rfl) (fun _ _ _ h => h) (Or.inl ⟨by rfl, fun w' hSw => by ((try dsimp only at hSw); have := NQ.out w'; go_simp)⟩) (by assumption) ?_
                    (try simp only [Act.put, List.setIfInBounds_toArray, List.set_cons_zero, List.set_cons_succ])
                    refine wpAnyH_take (i := 21) (oi := { dst := some 75, op := Op.pick (Operand.tmp 68) (Operand.tmp 74) (Operand.const (Value.bool false)), type := 4, pos := "law.go:31", after := #[{ on := 14, ground := Ground.data }, { on := 20, ground := Ground.data }, { on := 12, ground := Ground.guard }], guard := some (12, false) }) (v := .bool false) rfl (by kernel_rfl) (by kernel_rfl) (by kernel_rfl) (fun _ _ _ h => h) (Or.inl ⟨by rfl, fun w' hSw => by ((try dsimp only at hSw); go_simp)⟩) (by assumption) ?_
                    (try simp only [Act.put, List.setIfInBounds_toArray, List.set_cons_zero, List.set_cons_succ])
                    refine wpAnyH_take (i := 22) (oi := { dst := some 76, op := Op.pick (Operand.tmp 66) (Operand.const (Value.bool true)) (Operand.tmp 75), type := 4, pos := "law.go:31", after := #[{ on := 12, ground := Ground.data }, { on := 21, ground := Ground.data }], guard := none }) (v := .bool false) rfl (by kernel_rfl) (by kernel_rfl) (by kernel_rfl) (fun _ _ _ h => h) (Or.inl ⟨by rfl, fun w' hSw => by ((try dsimp only at hSw); go_simp)⟩) (by assumption) ?_
                    (try simp only [Act.put, List.setIfInBounds_toArray, List.set_cons_zero, List.set_cons_succ])
                    refine wpAnyH_done (by kernel_rfl) ?_ _
                    refine NoPanic.normal ?_
                    have P9 := Lib.hid hHeld
                    have R9 := Lib.hid (RV.out.kept hb)
                    have HB9 := Lib.hid (HBV.out.trans (hb.mono (Below.size HBV.out)))
                    clear hHeld hb
                    go_wp2_with fail
                    go_meet
                    exact ⟨by trivial, P9.out, R9.out, HB9.out⟩
                  exact AllReadyH.nil
                exact AllReadyH.nil
              · subst hmb hk hs
                clear HMB
                have ez := neq_same 0 0 0 ⟨#[]⟩
                obtain ⟨oP0, oP1, oP2, oP3⟩ := P3.out.cells
                go_quiet (fail)
                clear oP0 oP1 oP2 oP3
                go_wp2_with fail
                have P8 := Lib.hid (show PBox (_) bP 0 0 0 ⟨#[]⟩ from (P3.out.kept (below_drewN (Below.refl _ _) nq)))
                have R8 := Lib.hid (R3.out.kept (below_drewN (Below.refl _ _) nq))
                have HB8 := Lib.hid (below_drewN HB3.out nq)
                go_meet
                exact ⟨by trivial, P8.out, R8.out, HB8.out⟩
          case rest =>
            as_aux_lemma =>
              obtain ⟨hs, hq⟩ := hcut
              subst hs
              clear P3 R3 HB3
              have P4 := Lib.hid hq.out.1
              have R4 := Lib.hid hq.out.2.1
              have HB4 := Lib.hid hq.out.2.2
              clear hq
              go_upto_region 7 with fail
              go_cut [81] (fun s wx => s = .bool (a2 || !mb) ∧ Hid (PBox wx bP kk 0 0 sn ∧ PBox wx bR k1 s1 b1 sr ∧ Below w.heap.size w wx))
              case first =>
                as_aux_lemma =>
                  clear HMB
                  cases a2 with
                  | true =>
                    go_wp2_with fail
                    go_meet
                    exact ⟨by trivial, P4.out, R4.out, HB4.out⟩
                  | false =>
                    cases mb with
                    | true =>
                      go_wp2_with fail
                      go_meet
                      exact ⟨by trivial, P4.out, R4.out, HB4.out⟩
                    | false =>
                      go_wp2_with fail
                      go_meet
                      exact ⟨by trivial, P4.out, R4.out, HB4.out⟩
              case rest =>
                as_aux_lemma =>
                  obtain ⟨hs, hq⟩ := hcut
                  subst hs
                  clear P4 R4 HB4
                  have P5 := Lib.hid hq.out.1
                  have R5 := Lib.hid hq.out.2.1
                  have HB5 := Lib.hid hq.out.2.2
                  clear hq
                  go_upto_if 81 with fail
                  go_cut [81] (fun s wx => (∃ z, s = .bool z) ∧ Hid (∃ (k d x : Int) (b : BA), PBox wx bP k d x (str b) ∧ Below w.heap.size w wx))
                  case first =>
                    as_aux_lemma =>
                      cases hv : (a2 || !mb) with
                      | true =>
                        obtain ⟨⟨oP0, oP1, oP2, oP3⟩, fP0, fP1, fP2, fP3⟩ := And.intro P5.out.cells P5.out.free
                        obtain ⟨oR0, oR1, oR2, oR3⟩ := R5.out.cells
                        go_wp2_with fail
                        go_meet
                        exact ⟨⟨_, rfl⟩, k1, s1, b1, rb, by rw [← HSR.out]; exact P5.out.set4 _ _ _ _, below_set4 HB5.out HLE.out⟩
                      | false =>
                        go_wp2_with fail
                        go_meet
                        exact ⟨⟨_, rfl⟩, kk, 0, 0, sn.data.toList, by rw [str_data]; exact P5.out, HB5.out⟩
                  case rest =>
                    as_aux_lemma =>
                      obtain ⟨⟨z81, hs⟩, hq⟩ := hcut
                      subst hs
                      obtain ⟨k, d, x, b, hb1, hb2⟩ := hq.out
                      have P0 := Lib.hid hb1
                      have HB0 := Lib.hid hb2
                      clear hq hb1 hb2 P5 R5 HB5 HMB HSR
                      go_wp2_with fail
                      have hal := (Below.refl wc.heap.size wc).alloc (Nat.le_refl _) (.cells (bookCells nil_ nil_) 41)
                      have P3 := Lib.hid (P0.out.kept hal)
                      have HB3 := Lib.hid (HB0.out.trans (hal.mono (Below.size HB0.out)))
                      have K3 := Lib.hid (Book.new (C := w.heap.size) (w := wc.alloc (.cells (bookCells nil_ nil_) 41)) (b := wc.heap.size) (Below.size HB0.out) (heap_alloc_new wc _))
                      clear hal P0 HB0
                      unfold bookCells nil_ at *
                      generalize wc.alloc (.cells #[.slice none 0 0, .slice none 0 0, .slice none 0 0, .slice none 0 0, .slice none 0 0, .slice none 0 0, .slice none 0 0, .slice none 0 0, .slice none 0 0, .slice none 0 0, .slice none 0 0, .slice none 0 0, .slice none 0 0, .slice none 0 0, .slice none 0 0, .slice none 0 0, .slice none 0 0, .slice none 0 0] 41) = w3 at *
                      obtain ⟨bB, hbB⟩ : ∃ B, B = wc.heap.size := ⟨_, rfl⟩
                      rw [← hbB] at K3 ⊢
                      clear hbB
                      have HST := Lib.hid (show ST w bP bB 0 w3 from ⟨k, d, x, b, [], [], [], P3.out, K3.out, ⟨rfl, fun e he => by simp at he, fun i hi => by simp at hi⟩, HB3.out⟩)
                      clear P3 HB3 K3
                      go_loopw [87] (fun x wr => ∃ j : Nat, j ≤ n3 ∧ x = .int .i64 j ∧ Hid (ST w bP bB j wr)) (fun x _ => n3 - (intOf x).toNat)
                      case atStart => exact ⟨0, Nat.zero_le _, rfl, HST.out⟩
                      case round =>
                        obtain ⟨j, hj, rfl, hq⟩ := hrel
                        obtain ⟨k, d, x, b, es, fs, ls, h1, h2, h3, h4⟩ := hq.out
                        have P0 := Lib.hid h1
                        have K0 := Lib.hid h2
                        have HBK := Lib.hid h3
                        have HB0 := Lib.hid h4
                        clear hq h1 h2 h3 h4 HST
                        have j0 : (0 : Int) ≤ (j : Int) := by omega
                        by_cases hlt : j < n3
                        · have j1 : (j : Int) < (n3 : Int) := by omega
                          have e1 : IntKind.i64.wrap ((j : Int) + 1) = (j : Int) + 1 := IntWalk.i64_in _ (by omega)
                          have HJ := Lib.hid (show j ≤ 100 by omega)
                          obtain ⟨ba, off, rfl, hbk, c0, c1, c2, c3, hr⟩ := HP.out j hlt wr HB0.out
                          generalize l3.getD j nilO = o at *
                          obtain ⟨ok, ob, od, on⟩ := o
                          dsimp only at c0 c1 c2 c3
                          have HR := Lib.hid (show inI ob ∧ inI od ∧ inI on from hr)
                          clear hbk hr
                          have hal := (Below.refl wr.heap.size wr).alloc (Nat.le_refl _) (.cells #[.int .i64 ok, .int .i64 ob, .int .i64 od, .int .i64 on] 43)
                          have HPL := Lib.hid P0.out.lt
                          have P1 := Lib.hid (P0.out.kept hal)
                          have K1 := Lib.hid (K0.out.kept hal)
                          have O1 := Lib.hid (OBox.new wr ok ob od on)
                          have HB1 := Lib.hid (HB0.out.trans (hal.mono (Below.size HB0.out)))
                          clear hal P0 K0 HB0
                          go_upto_region 13 with fail
                          clear c0 c1 c2 c3
                          obtain ⟨bO, hbO⟩ : ∃ B, B = wr.heap.size := ⟨_, rfl⟩
                          rw [← hbO] at O1 ⊢
                          have HNO := Lib.hid (show bO ≠ bP by have := HPL.out; omega)
                          have HPL2 := Lib.hid (show bP < wr.heap.size ∧ bO < wr.heap.size + 1 by have := HPL.out; omega)
                          clear hbO HPL
                          generalize wr.alloc (.cells #[.int .i64 ok, .int .i64 ob, .int .i64 od, .int .i64 on] 43) = w1 at *
                          rcases dir_or k d x b with h0 | ⟨e, L, hk, hd, hg, hb⟩
                          · skip
                            as_aux_lemma =>
                              have EN := Lib.hid (ent_none k d x b h0)
                              have DO := Lib.hid (double_none k d x b h0)
                              have HA := Lib.hid (halve_none k d x b h0)
                              have SE := Lib.hid (set_none k d x b h0 ob od on)
                              have AA := Lib.hid (all_none k d x b h0)
                              have AT := Lib.hid (at_none k d x b h0 ob)
                              have DE := Lib.hid (depth_none k d x b h0)
                              rw [show pv 0 0 0 [] = .agg #[.int .i64 0, .int .i64 0, .int .i64 0, .string ⟨#[]⟩] from rfl] at DO HA SE
                              unfold pv at EN DO HA SE AA AT DE
                              obtain ⟨s, hs⟩ : ∃ s, s = str b := ⟨_, rfl⟩
                              rw [← hs] at EN DO HA SE AA AT DE P1
                              have HS := Lib.hid hs
                              clear hs h0
                              obtain ⟨oP0, oP1, oP2, oP3⟩ := P1.out.cells
                              go_wp2_with fail
                              clear oP0 oP1 oP2 oP3
                              refine (EN.out _).mono ?_; rintro q w2 ⟨A2, m2, c2, rfl, hb⟩
                              have P2 := Lib.hid (P1.out.kept hb)
                              have O2 := Lib.hid (O1.out.kept hb)
                              have K2 := Lib.hid (K1.out.kept hb)
                              have HB2 := Lib.hid (HB1.out.trans (hb.mono (Below.size HB1.out)))
                              clear hb HB1 P1 O1 K1
                              have H2 := Lib.hid (two_start w2 0 0 0 ⟨#[]⟩)
                              obtain ⟨W0, hW⟩ : ∃ W0, W0 = (w2.alloc (.cells #[.int .i64 0, .int .i64 0, .int .i64 0, .string ⟨#[]⟩] 23)).alloc (.cells #[.int .i64 0, .int .i64 0, .int .i64 0, .string ⟨#[]⟩] 23) := ⟨_, rfl⟩
                              rw [← hW] at H2
                              obtain ⟨bQ, hbQ⟩ : ∃ B, B = w2.heap.size := ⟨_, rfl⟩
                              obtain ⟨bW, hbW⟩ : ∃ B, B = w2.heap.size + 1 := ⟨_, rfl⟩
                              have HNE := Lib.hid (show (bQ ≠ bP ∧ bQ ≠ bO ∧ bW ≠ bP ∧ bW ≠ bO ∧ bQ ≠ bW) ∧ w.heap.size ≤ bQ ∧ w.heap.size ≤ bW from by
                                have h1 := P2.out.lt
                                have h2 := O2.out.lt
                                have h3 := Below.size HB2.out
                                omega)
                              have P3 := Lib.hid (P2.out.kept H2.out.2.2)
                              have O3 := Lib.hid (O2.out.kept H2.out.2.2)
                              have K3 := Lib.hid (K2.out.kept H2.out.2.2)
                              have HB3 := Lib.hid (HB2.out.trans (H2.out.2.2.mono (Below.size HB2.out)))
                              have Q3 := Lib.hid (show PBox W0 bQ 0 0 0 ⟨#[]⟩ from by rw [hbQ]; exact H2.out.1)
                              have W3 := Lib.hid (show PBox W0 bW 0 0 0 ⟨#[]⟩ from by rw [hbW]; exact H2.out.2.1)
                              have HQE := Lib.hid (And.intro hbQ.symm hbW.symm)
                              have HWE := Lib.hid hW.symm
                              clear H2 hW hbQ hbW HB2 P2 O2 K2
                              go_upto_region 17 with fail
                              rw [HWE.out, HQE.out.2, HQE.out.1]
                              clear HWE HQE
                              obtain ⟨oO0, oO1, oO2, oO3⟩ := O3.out.cells
                              go_upto_block 2 with fail
                              clear oO0 oO1 oO2 oO3
                              go_cut [19, 20] (fun u v wx => u = .int .i64 2 ∧ v = .int .i64 2 ∧ Hid (PBox wx bP k d x s ∧ OBox wx bO ok ob od on ∧ PBox wx bQ 0 0 0 ⟨#[]⟩ ∧ PBox wx bW 0 0 0 ⟨#[]⟩ ∧ Book w.heap.size wx bB es fs ls ls ∧ Below w.heap.size w wx))
                              case first =>
                                by_cases hk1 : ok = 1
                                · subst hk1
                                  obtain ⟨oP0, oP1, oP2, oP3⟩ := P3.out.cells
                                  go_wp2_with fail
                                  clear oP0 oP1 oP2 oP3
                                  refine (DO.out _).mono ?_; rintro q w4 ⟨rfl, hb⟩
                                  have P4 := Lib.hid (P3.out.kept hb)
                                  have O4 := Lib.hid (O3.out.kept hb)
                                  have K4 := Lib.hid (K3.out.kept hb)
                                  have Q4 := Lib.hid (Q3.out.kept hb)
                                  have W4 := Lib.hid (W3.out.kept hb)
                                  have HB4 := Lib.hid (HB3.out.trans (hb.mono (Below.size HB3.out)))
                                  clear hb HB3 P3 O3 K3 Q3 W3
                                  obtain ⟨oP0, oP1, oP2, oP3⟩ := P4.out.cells
                                  obtain ⟨⟨oQ0, oQ1, oQ2, oQ3⟩, fQ0, fQ1, fQ2, fQ3⟩ := And.intro Q4.out.cells Q4.out.free
                                  go_wp2_with fail
                                  clear oP0 oP1 oP2 oP3
                                  clear oQ0 oQ1 oQ2 oQ3 fQ0 fQ1 fQ2 fQ3
                                  have Q5 := Lib.hid (Q4.out.set4 (0) (0) (0) ⟨#[]⟩)
                                  have P5 := Lib.hid (P4.out.heap (heap_set4 w4 bQ (.int .i64 (0)) (.int .i64 (0)) (.int .i64 (0)) (.string ⟨#[]⟩) _ HNE.out.1.1.symm))
                                  have O5 := Lib.hid (O4.out.heap (heap_set4 w4 bQ (.int .i64 (0)) (.int .i64 (0)) (.int .i64 (0)) (.string ⟨#[]⟩) _ HNE.out.1.2.1.symm))
                                  have K5 := Lib.hid (K4.out.other Q4.out (heap_set4 w4 bQ (.int .i64 (0)) (.int .i64 (0)) (.int .i64 (0)) (.string ⟨#[]⟩)))
                                  have W5 := Lib.hid (W4.out.heap (heap_set4 w4 bQ (.int .i64 (0)) (.int .i64 (0)) (.int .i64 (0)) (.string ⟨#[]⟩) _ HNE.out.1.2.2.2.2.symm))
                                  have HB5 := Lib.hid (below_set4 (u0 := .int .i64 (0)) (u1 := .int .i64 (0)) (u2 := .int .i64 (0)) (u3 := .string ⟨#[]⟩) HB4.out HNE.out.2.1)
                                  generalize (((w4.setCell ⟨bQ, 0, none⟩ (.int .i64 0)).setCell ⟨bQ, 1, none⟩ (.int .i64 0)).setCell ⟨bQ, 2, none⟩ (.int .i64 0)).setCell ⟨bQ, 3, none⟩ (.string ⟨#[]⟩) = V4 at *
                                  clear HB4 P4 O4 K4 Q4 W4
                                  go_meet
                                  exact ⟨by trivial, by trivial, P5.out, O5.out, Q5.out, W5.out, K5.out, HB5.out⟩
                                · have hk1b : (ok == 1) = false := by rw [beq_eq_false_iff_ne]; exact hk1
                                  by_cases hk2 : ok = 2
                                  · subst hk2
                                    obtain ⟨oP0, oP1, oP2, oP3⟩ := P3.out.cells
                                    go_wp2_with fail
                                    clear oP0 oP1 oP2 oP3
                                    refine (HA.out _).mono ?_; rintro q w4 ⟨rfl, hb⟩
                                    have P4 := Lib.hid (P3.out.kept hb)
                                    have O4 := Lib.hid (O3.out.kept hb)
                                    have K4 := Lib.hid (K3.out.kept hb)
                                    have Q4 := Lib.hid (Q3.out.kept hb)
                                    have W4 := Lib.hid (W3.out.kept hb)
                                    have HB4 := Lib.hid (HB3.out.trans (hb.mono (Below.size HB3.out)))
                                    clear hb HB3 P3 O3 K3 Q3 W3
                                    obtain ⟨oP0, oP1, oP2, oP3⟩ := P4.out.cells
                                    obtain ⟨⟨oQ0, oQ1, oQ2, oQ3⟩, fQ0, fQ1, fQ2, fQ3⟩ := And.intro Q4.out.cells Q4.out.free
                                    go_upto_region 43 with fail
                                    clear oP0 oP1 oP2 oP3
                                    clear oQ0 oQ1 oQ2 oQ3 fQ0 fQ1 fQ2 fQ3
                                    have Q5 := Lib.hid (Q4.out.set4 (0) (0) (0) ⟨#[]⟩)
                                    have P5 := Lib.hid (P4.out.heap (heap_set4 w4 bQ (.int .i64 (0)) (.int .i64 (0)) (.int .i64 (0)) (.string ⟨#[]⟩) _ HNE.out.1.1.symm))
                                    have O5 := Lib.hid (O4.out.heap (heap_set4 w4 bQ (.int .i64 (0)) (.int .i64 (0)) (.int .i64 (0)) (.string ⟨#[]⟩) _ HNE.out.1.2.1.symm))
                                    have K5 := Lib.hid (K4.out.other Q4.out (heap_set4 w4 bQ (.int .i64 (0)) (.int .i64 (0)) (.int .i64 (0)) (.string ⟨#[]⟩)))
                                    have W5 := Lib.hid (W4.out.heap (heap_set4 w4 bQ (.int .i64 (0)) (.int .i64 (0)) (.int .i64 (0)) (.string ⟨#[]⟩) _ HNE.out.1.2.2.2.2.symm))
                                    have HB5 := Lib.hid (below_set4 (u0 := .int .i64 (0)) (u1 := .int .i64 (0)) (u2 := .int .i64 (0)) (u3 := .string ⟨#[]⟩) HB4.out HNE.out.2.1)
                                    generalize (((w4.setCell ⟨bQ, 0, none⟩ (.int .i64 0)).setCell ⟨bQ, 1, none⟩ (.int .i64 0)).setCell ⟨bQ, 2, none⟩ (.int .i64 0)).setCell ⟨bQ, 3, none⟩ (.string ⟨#[]⟩) = V4 at *
                                    clear HB4 P4 O4 K4 Q4 W4
                                    go_quiet (fail)
                                    have hb := below_drewN (Below.refl V4.heap.size V4) nq
                                    have P6 := Lib.hid (P5.out.kept hb)
                                    have O6 := Lib.hid (O5.out.kept hb)
                                    have K6 := Lib.hid (K5.out.kept hb)
                                    have Q6 := Lib.hid (Q5.out.kept hb)
                                    have W6 := Lib.hid (W5.out.kept hb)
                                    have HB6 := Lib.hid (HB5.out.trans (hb.mono (Below.size HB5.out)))
                                    clear hb HB5 P5 O5 K5 Q5 W5
                                    go_wp2_with fail
                                    go_meet
                                    exact ⟨by trivial, by trivial, P6.out, O6.out, Q6.out, W6.out, K6.out, HB6.out⟩
                                  · have hk2b : (ok == 2) = false := by rw [beq_eq_false_iff_ne]; exact hk2
                                    obtain ⟨oP0, oP1, oP2, oP3⟩ := P3.out.cells
                                    obtain ⟨oO0, oO1, oO2, oO3⟩ := O3.out.cells
                                    go_wp2_with fail
                                    clear oP0 oP1 oP2 oP3 oO0 oO1 oO2 oO3
                                    refine (SE.out _).mono ?_; rintro q w4 ⟨rfl, hb⟩
                                    have P4 := Lib.hid (P3.out.kept hb)
                                    have O4 := Lib.hid (O3.out.kept hb)
                                    have K4 := Lib.hid (K3.out.kept hb)
                                    have Q4 := Lib.hid (Q3.out.kept hb)
                                    have W4 := Lib.hid (W3.out.kept hb)
                                    have HB4 := Lib.hid (HB3.out.trans (hb.mono (Below.size HB3.out)))
                                    clear hb HB3 P3 O3 K3 Q3 W3
                                    obtain ⟨oP0, oP1, oP2, oP3⟩ := P4.out.cells
                                    obtain ⟨oO0, oO1, oO2, oO3⟩ := O4.out.cells
                                    obtain ⟨⟨oQ0, oQ1, oQ2, oQ3⟩, fQ0, fQ1, fQ2, fQ3⟩ := And.intro Q4.out.cells Q4.out.free
                                    go_upto_region 23 with fail
                                    clear oP0 oP1 oP2 oP3 oO0 oO1 oO2 oO3
                                    clear oQ0 oQ1 oQ2 oQ3 fQ0 fQ1 fQ2 fQ3
                                    have Q5 := Lib.hid (Q4.out.set4 (0) (0) (0) ⟨#[]⟩)
                                    have P5 := Lib.hid (P4.out.heap (heap_set4 w4 bQ (.int .i64 (0)) (.int .i64 (0)) (.int .i64 (0)) (.string ⟨#[]⟩) _ HNE.out.1.1.symm))
                                    have O5 := Lib.hid (O4.out.heap (heap_set4 w4 bQ (.int .i64 (0)) (.int .i64 (0)) (.int .i64 (0)) (.string ⟨#[]⟩) _ HNE.out.1.2.1.symm))
                                    have K5 := Lib.hid (K4.out.other Q4.out (heap_set4 w4 bQ (.int .i64 (0)) (.int .i64 (0)) (.int .i64 (0)) (.string ⟨#[]⟩)))
                                    have W5 := Lib.hid (W4.out.heap (heap_set4 w4 bQ (.int .i64 (0)) (.int .i64 (0)) (.int .i64 (0)) (.string ⟨#[]⟩) _ HNE.out.1.2.2.2.2.symm))
                                    have HB5 := Lib.hid (below_set4 (u0 := .int .i64 (0)) (u1 := .int .i64 (0)) (u2 := .int .i64 (0)) (u3 := .string ⟨#[]⟩) HB4.out HNE.out.2.1)
                                    generalize (((w4.setCell ⟨bQ, 0, none⟩ (.int .i64 0)).setCell ⟨bQ, 1, none⟩ (.int .i64 0)).setCell ⟨bQ, 2, none⟩ (.int .i64 0)).setCell ⟨bQ, 3, none⟩ (.string ⟨#[]⟩) = V4 at *
                                    clear HB4 P4 O4 K4 Q4 W4
                                    go_quiet (fail)
                                    have hb := below_drewN (Below.refl V4.heap.size V4) nq
                                    have P6 := Lib.hid (P5.out.kept hb)
                                    have O6 := Lib.hid (O5.out.kept hb)
                                    have K6 := Lib.hid (K5.out.kept hb)
                                    have Q6 := Lib.hid (Q5.out.kept hb)
                                    have W6 := Lib.hid (W5.out.kept hb)
                                    have HB6 := Lib.hid (HB5.out.trans (hb.mono (Below.size HB5.out)))
                                    clear hb HB5 P5 O5 K5 Q5 W5
                                    go_wp2_with fail
                                    go_meet
                                    exact ⟨by trivial, by trivial, P6.out, O6.out, Q6.out, W6.out, K6.out, HB6.out⟩
                              case rest =>
                                obtain ⟨hs1, hs2, hq⟩ := hcut
                                subst hs1 hs2
                                clear P3 O3 Q3 W3 K3 HB3 DO HA SE
                                have P0 := Lib.hid hq.out.1
                                have O0 := Lib.hid hq.out.2.1
                                have Q0 := Lib.hid hq.out.2.2.1
                                have W0 := Lib.hid hq.out.2.2.2.1
                                have K0 := Lib.hid hq.out.2.2.2.2.1
                                have HB0 := Lib.hid hq.out.2.2.2.2.2
                                clear hq
                                have ez := neq_same 0 0 0 ⟨#[]⟩
                                obtain ⟨oP0, oP1, oP2, oP3⟩ := P0.out.cells
                                obtain ⟨oQ0, oQ1, oQ2, oQ3⟩ := Q0.out.cells
                                obtain ⟨oW0, oW1, oW2, oW3⟩ := W0.out.cells
                                go_wp2_with fail
                                clear oP0 oP1 oP2 oP3 oQ0 oQ1 oQ2 oQ3 oW0 oW1 oW2 oW3
                                clear ez
                                refine (EN.out _).mono ?_; rintro q w1 ⟨A2, m2, c2, rfl, hb⟩
                                have P1 := Lib.hid (P0.out.kept hb)
                                have O1 := Lib.hid (O0.out.kept hb)
                                have K1 := Lib.hid (K0.out.kept hb)
                                have HB1 := Lib.hid (HB0.out.trans (hb.mono (Below.size HB0.out)))
                                clear Q0 W0 EN
                                clear hb HB0 P0 O0 K0
                                obtain ⟨oP0, oP1, oP2, oP3⟩ := P1.out.cells
                                go_wp2_with fail
                                clear oP0 oP1 oP2 oP3
                                refine (AA.out _).mono ?_; rintro q w2 ⟨rfl, hb⟩
                                have P2 := Lib.hid (P1.out.kept hb)
                                have O2 := Lib.hid (O1.out.kept hb)
                                have K2 := Lib.hid (K1.out.kept hb)
                                have HB2 := Lib.hid (HB1.out.trans (hb.mono (Below.size HB1.out)))
                                clear hb HB1 P1 O1 K1
                                clear AA
                                have AD := Lib.hid (add_st K2.out HBK.out (Below.size HB2.out) HJ.out (A := none) (n := 0) (c := 0) (l := []) ⟨rfl, World.ownsRow_nil _ _ _ _⟩ (by omega) (fun g hg => by simp [E.own, E.val, Value.ownBlock] at hg) (fun x _ g _ hg => by simp [E.own, E.val, Value.ownBlock] at hg))
                                go_wp2_with fail
                                refine AD.out.mono ?_; rintro q w3 ⟨rfl, hkb, es2, fs2, ls2, hk2, hbk2⟩
                                obtain ⟨cs, hcs⟩ := K2.out.block
                                have P3 := Lib.hid (P2.out.keptB hkb hcs)
                                have O3 := Lib.hid (O2.out.keptB hkb hcs)
                                have K3 := Lib.hid hk2
                                have HBK3 := Lib.hid hbk2
                                have HB3 := Lib.hid (HB2.out.trans hkb.1)
                                clear AD hkb hk2 hbk2 hcs P2 O2 K2 HB2 HBK
                                obtain ⟨oP0, oP1, oP2, oP3⟩ := P3.out.cells
                                obtain ⟨oO0, oO1, oO2, oO3⟩ := O3.out.cells
                                go_wp2_with fail
                                clear oP0 oP1 oP2 oP3 oO0 oO1 oO2 oO3
                                refine (AT.out _).mono ?_; rintro q w4 ⟨rfl, hb⟩
                                have P4 := Lib.hid (P3.out.kept hb)
                                have O4 := Lib.hid (O3.out.kept hb)
                                have K4 := Lib.hid (K3.out.kept hb)
                                have HB4 := Lib.hid (HB3.out.trans (hb.mono (Below.size HB3.out)))
                                clear hb HB3 P3 O3 K3
                                clear AT
                                have SI := Lib.hid (fun w => same_walk 0 none none 0 0 0 [] w (by omega) (.inl ⟨_, _, rfl, rfl⟩) (.inl ⟨_, _, rfl, rfl⟩))
                                by_cases ho : 0 ≤ ob
                                · have o1 : decide (ob ≥ 0) = true := decide_eq_true ho
                                  have o1b : ob ≥ 0 := ho
                                  have o2 : ¬ (ob < 0) := by omega
                                  have o3 : decide (ob < 0) = false := decide_eq_false o2
                                  obtain ⟨oP0, oP1, oP2, oP3⟩ := P4.out.cells
                                  obtain ⟨oO0, oO1, oO2, oO3⟩ := O4.out.cells
                                  go_wp2_with fail
                                  clear oP0 oP1 oP2 oP3 oO0 oO1 oO2 oO3
                                  refine (SI.out _).mono ?_; rintro q w9 ⟨rfl, nq, rfl⟩
                                  have hb := below_drewN (Below.refl w4.heap.size w4) nq
                                  have P5 := Lib.hid (P4.out.kept hb)
                                  have O5 := Lib.hid (O4.out.kept hb)
                                  have K5 := Lib.hid (K4.out.kept hb)
                                  have HB5 := Lib.hid (HB4.out.trans (hb.mono (Below.size HB4.out)))
                                  clear hb HB4 P4 O4 K4
                                  obtain ⟨oP0, oP1, oP2, oP3⟩ := P5.out.cells
                                  obtain ⟨oO0, oO1, oO2, oO3⟩ := O5.out.cells
                                  go_wp2_with fail
                                  clear oP0 oP1 oP2 oP3 oO0 oO1 oO2 oO3
                                  refine (DE.out _).mono ?_; rintro q w6 ⟨rfl, hb⟩
                                  have P6 := Lib.hid (P5.out.kept hb)
                                  have O6 := Lib.hid (O5.out.kept hb)
                                  have K6 := Lib.hid (K5.out.kept hb)
                                  have HB6 := Lib.hid (HB5.out.trans (hb.mono (Below.size HB5.out)))
                                  clear hb HB5 P5 O5 K5
                                  clear DE
                                  obtain ⟨oP0, oP1, oP2, oP3⟩ := P6.out.cells
                                  obtain ⟨oO0, oO1, oO2, oO3⟩ := O6.out.cells
                                  go_wp2_with fail
                                  clear oP0 oP1 oP2 oP3 oO0 oO1 oO2 oO3
                                  go_roundw
                                  case rel => exact ⟨j + 1, by omega, by go_num, k, d, x, b, es2, fs2, ls2, by rw [← HS.out]; exact P6.out, K6.out, HBK3.out, HB6.out⟩
                                  case measure => simp [intOf]; omega
                                · have o1 : decide (ob ≥ 0) = false := decide_eq_false ho
                                  have o1b : ¬ (ob ≥ 0) := ho
                                  obtain ⟨oP0, oP1, oP2, oP3⟩ := P4.out.cells
                                  obtain ⟨oO0, oO1, oO2, oO3⟩ := O4.out.cells
                                  go_wp2_with fail
                                  clear oP0 oP1 oP2 oP3 oO0 oO1 oO2 oO3
                                  refine (SI.out _).mono ?_; rintro q w9 ⟨rfl, nq, rfl⟩
                                  have hb := below_drewN (Below.refl w4.heap.size w4) nq
                                  have P5 := Lib.hid (P4.out.kept hb)
                                  have O5 := Lib.hid (O4.out.kept hb)
                                  have K5 := Lib.hid (K4.out.kept hb)
                                  have HB5 := Lib.hid (HB4.out.trans (hb.mono (Below.size HB4.out)))
                                  clear hb HB4 P4 O4 K4
                                  obtain ⟨oP0, oP1, oP2, oP3⟩ := P5.out.cells
                                  obtain ⟨oO0, oO1, oO2, oO3⟩ := O5.out.cells
                                  go_wp2_with fail
                                  clear oP0 oP1 oP2 oP3 oO0 oO1 oO2 oO3
                                  refine (DE.out _).mono ?_; rintro q w6 ⟨rfl, hb⟩
                                  have P6 := Lib.hid (P5.out.kept hb)
                                  have O6 := Lib.hid (O5.out.kept hb)
                                  have K6 := Lib.hid (K5.out.kept hb)
                                  have HB6 := Lib.hid (HB5.out.trans (hb.mono (Below.size HB5.out)))
                                  clear hb HB5 P5 O5 K5
                                  clear DE
                                  obtain ⟨oP0, oP1, oP2, oP3⟩ := P6.out.cells
                                  obtain ⟨oO0, oO1, oO2, oO3⟩ := O6.out.cells
                                  go_wp2_with fail
                                  clear oP0 oP1 oP2 oP3 oO0 oO1 oO2 oO3
                                  go_roundw
                                  case rel => exact ⟨j + 1, by omega, by go_num, k, d, x, b, es2, fs2, ls2, by rw [← HS.out]; exact P6.out, K6.out, HBK3.out, HB6.out⟩
                                  case measure => simp [intOf]; omega
                          · subst hk hd hb
                            as_aux_lemma =>
                              have HG := Lib.hid hg
                              have EN := Lib.hid (ent_some x L e hg)
                              have HDC := Lib.hid (double_let x L e hg)
                              have HHC := Lib.hid (halve_let x L e hg)
                              have HSC := Lib.hid (set_let x L e hg ob od on)
                              have HL5 := Lib.hid hg.1
                              unfold pv at EN
                              obtain ⟨s, hs⟩ : ∃ s, s = str (mkD L) := ⟨_, rfl⟩
                              rw [← hs] at EN HDC HHC HSC P1
                              obtain ⟨m, hm⟩ : ∃ m, m = L.length := ⟨_, rfl⟩
                              rw [← hm] at EN
                              have HM := Lib.hid hm
                              have hm1 : 1 ≤ m := by rw [hm]; exact hg.len.1
                              have hm32 : m ≤ 32 := by rw [hm]; exact hg.len.2
                              have HS := Lib.hid hs
                              clear hs hm hg
                              obtain ⟨oP0, oP1, oP2, oP3⟩ := P1.out.cells
                              go_wp2_with fail
                              clear oP0 oP1 oP2 oP3
                              refine (EN.out _).mono ?_; rintro q w2 ⟨A, c, rfl, hV, hb⟩
                              clear EN
                              have P2 := Lib.hid (P1.out.kept hb)
                              have O2 := Lib.hid (O1.out.kept hb)
                              have K2 := Lib.hid (K1.out.kept hb)
                              have HB2 := Lib.hid (HB1.out.trans (hb.mono (Below.size HB1.out)))
                              have V2 := Lib.hid hV
                              clear hV
                              clear hb HB1 P1 O1 K1
                              have H2 := Lib.hid (two_start w2 0 0 0 ⟨#[]⟩)
                              obtain ⟨W0, hW⟩ : ∃ W0, W0 = (w2.alloc (.cells #[.int .i64 0, .int .i64 0, .int .i64 0, .string ⟨#[]⟩] 23)).alloc (.cells #[.int .i64 0, .int .i64 0, .int .i64 0, .string ⟨#[]⟩] 23) := ⟨_, rfl⟩
                              rw [← hW] at H2
                              obtain ⟨bQ, hbQ⟩ : ∃ B, B = w2.heap.size := ⟨_, rfl⟩
                              obtain ⟨bW, hbW⟩ : ∃ B, B = w2.heap.size + 1 := ⟨_, rfl⟩
                              have HNE := Lib.hid (show (bQ ≠ bP ∧ bQ ≠ bO ∧ bW ≠ bP ∧ bW ≠ bO ∧ bQ ≠ bW) ∧ w.heap.size ≤ bQ ∧ w.heap.size ≤ bW from by
                                have h1 := P2.out.lt
                                have h2 := O2.out.lt
                                have h3 := Below.size HB2.out
                                omega)
                              have P3 := Lib.hid (P2.out.kept H2.out.2.2)
                              have O3 := Lib.hid (O2.out.kept H2.out.2.2)
                              have K3 := Lib.hid (K2.out.kept H2.out.2.2)
                              have V3 := Lib.hid (V2.out.kept H2.out.2.2)
                              have HB3 := Lib.hid (HB2.out.trans (H2.out.2.2.mono (Below.size HB2.out)))
                              have Q3 := Lib.hid (show PBox W0 bQ 0 0 0 ⟨#[]⟩ from by rw [hbQ]; exact H2.out.1)
                              have W3 := Lib.hid (show PBox W0 bW 0 0 0 ⟨#[]⟩ from by rw [hbW]; exact H2.out.2.1)
                              have HQE := Lib.hid (And.intro hbQ.symm hbW.symm)
                              have HWE := Lib.hid hW.symm
                              clear H2 hW hbQ hbW HB2 P2 O2 K2 V2
                              go_upto_region 17 with fail
                              rw [HWE.out, HQE.out.2, HQE.out.1]
                              clear HWE HQE
                              have HVC := Lib.hid (row_cap V3.out (by omega))
                              obtain ⟨oO0, oO1, oO2, oO3⟩ := O3.out.cells
                              go_upto_block 2 with fail
                              clear oO0 oO1 oO2 oO3
                              go_cut [19, 20] (fun u v wx => ∃ (er kq dq xq : Int) (sq : ByteArray), u = .int .i64 er ∧ v = .int .i64 er ∧ Hid ((er ≠ 0 ∨ (er = 0 ∧ ∃ (e9 : Nat) (L9 : List Int), GoodD L9 e9 ∧ kq = 1 ∧ dq = (e9 : Int) ∧ sq = str (mkD L9))) ∧ PBox wx bP 1 e x s ∧ OBox wx bO ok ob od on ∧ PBox wx bQ kq dq xq sq ∧ PBox wx bW kq dq xq sq ∧ Book w.heap.size wx bB es fs ls ls ∧ Below w.heap.size w wx))
                              case first =>
                                by_cases hk1 : ok = 1
                                · subst hk1
                                  obtain ⟨er, ks, ds, xs, ss, hcase, hdo⟩ := HDC.out
                                  have DO := Lib.hid hdo
                                  clear hdo
                                  rcases hcase with ⟨rfl, he, rfl, rfl, hxs, hss⟩ | ⟨rfl, he, rfl, rfl, rfl, hss⟩
                                  · as_aux_lemma =>
                                      obtain rfl : x = xs := hxs.symm
                                      have hb5 : ((e : Int) == 5) = false := by rw [beq_eq_false_iff_ne]; omega
                                      have hb5b : (e : Int) ≠ 5 := by omega
                                      have HG9 := Lib.hid (HG.out.double he)
                                      have HSS := Lib.hid hss
                                      have DOF := Lib.hid (fun (u : World) (A2 : Option Addr) (c2 : Nat) (h : Row u A2 (m + m) c2 (L ++ L)) => (show Calls Try.prog 10 #[.agg #[.int .i64 1, .int .i64 e, .int .i64 x, .string s], .int .i64 ((e : Int) + 1), .slice A2 (m + m) c2] u fun q w' => q = .returned (.agg #[.int .i64 1, .int .i64 ((e : Int) + 1), .int .i64 x, .string ss]) ∧ Below u.heap.size u w' from by
                                        have h0 := dirof_any 1 e x ((e : Int) + 1) s.data.toList u.heap.size A2 (m + m) c2 (L ++ L) u h.nums (Nat.le_refl _) (by omega) (fun i hi => by have hgg := (HG9.out).at (i := i) (by have := h.1; omega); omega)
                                        unfold pv at h0
                                        rw [str_data, ← HSS.out] at h0
                                        exact h0))
                                      have e6 : IntKind.i64.wrap ((e : Int) + 1) = (e : Int) + 1 := IntWalk.i64_in _ (by omega)
                                      clear he hss HDC HHC HSC
                                      obtain ⟨oP0, oP1, oP2, oP3⟩ := P3.out.cells
                                      go_wp2_with fail
                                      clear oP0 oP1 oP2 oP3
                                      refine (DO.out _).mono ?_; rintro q w4 ⟨rfl, hb⟩
                                      have P4 := Lib.hid (P3.out.kept hb)
                                      have O4 := Lib.hid (O3.out.kept hb)
                                      have K4 := Lib.hid (K3.out.kept hb)
                                      have V4 := Lib.hid (V3.out.kept hb)
                                      have Q4 := Lib.hid (Q3.out.kept hb)
                                      have W4 := Lib.hid (W3.out.kept hb)
                                      have HB4 := Lib.hid (HB3.out.trans (hb.mono (Below.size HB3.out)))
                                      clear hb HB3 P3 O3 K3 V3 Q3 W3
                                      clear DO
                                      obtain ⟨oP0, oP1, oP2, oP3⟩ := P4.out.cells
                                      obtain ⟨⟨oQ0, oQ1, oQ2, oQ3⟩, fQ0, fQ1, fQ2, fQ3⟩ := And.intro Q4.out.cells Q4.out.free
                                      go_upto_region 36 with fail
                                      clear oP0 oP1 oP2 oP3
                                      clear oQ0 oQ1 oQ2 oQ3 fQ0 fQ1 fQ2 fQ3
                                      have VX := Lib.hid (V4.out.keep (w' := (((w4.setCell ⟨bQ, 0, none⟩ (.int .i64 1)).setCell ⟨bQ, 1, none⟩ (.int .i64 ((e : Int) + 1))).setCell ⟨bQ, 2, none⟩ (.int .i64 x)).setCell ⟨bQ, 3, none⟩ (.string ss)) (fun g hg => heap_set4 _ _ _ _ _ _ _ (by rintro rfl; obtain ⟨cur, hc⟩ := row_block V4.out hg; have hq := Q4.out; unfold PBox at hq; rw [hq] at hc; simp at hc)))
                                      have Q5 := Lib.hid (Q4.out.set4 (1) (((e : Int) + 1)) (x) ss)
                                      have P5 := Lib.hid (P4.out.heap (heap_set4 w4 bQ (.int .i64 (1)) (.int .i64 (((e : Int) + 1))) (.int .i64 (x)) (.string ss) _ HNE.out.1.1.symm))
                                      have O5 := Lib.hid (O4.out.heap (heap_set4 w4 bQ (.int .i64 (1)) (.int .i64 (((e : Int) + 1))) (.int .i64 (x)) (.string ss) _ HNE.out.1.2.1.symm))
                                      have K5 := Lib.hid (K4.out.other Q4.out (heap_set4 w4 bQ (.int .i64 (1)) (.int .i64 (((e : Int) + 1))) (.int .i64 (x)) (.string ss)))
                                      have W5 := Lib.hid (W4.out.heap (heap_set4 w4 bQ (.int .i64 (1)) (.int .i64 (((e : Int) + 1))) (.int .i64 (x)) (.string ss) _ HNE.out.1.2.2.2.2.symm))
                                      have HB5 := Lib.hid (below_set4 (u0 := .int .i64 (1)) (u1 := .int .i64 (((e : Int) + 1))) (u2 := .int .i64 (x)) (u3 := .string ss) HB4.out HNE.out.2.1)
                                      generalize (((w4.setCell ⟨bQ, 0, none⟩ (.int .i64 1)).setCell ⟨bQ, 1, none⟩ (.int .i64 ((e : Int) + 1))).setCell ⟨bQ, 2, none⟩ (.int .i64 x)).setCell ⟨bQ, 3, none⟩ (.string ss) = V7 at *
                                      clear HB4 P4 O4 K4 V4 Q4 W4
                                      obtain ⟨oP0, oP1, oP2, oP3⟩ := P5.out.cells
                                      go_upto_region 39 with fail
                                      clear oP0 oP1 oP2 oP3
                                      obtain ⟨i0, hi0, hz0, hz1, hz2⟩ := info_parts infoI
                                      have HSR := Lib.hid VX.out.nums.src
                                      refine wp_region_noPanic ?_
                                      refine wp_region_held_drew (S := fun w9 => PBox w9 bP 1 e x s) (by kernel_rfl) ?_ (fun hHeld => ?_)
                                      · exact P5.out
                                      refine wpAnyH_take (i := 0) (oi := { dst := some 195, op := Op.load 23 (Operand.tmp 9), type := 23, pos := "law.go:56", after := #[], guard := none }) (v := .agg #[.int .i64 1, .int .i64 (e : Int), .int .i64 x, .string s]) rfl (by kernel_rfl) (by kernel_rfl) (by kernel_rfl) (fun _ _ _ h => h) (Or.inl ⟨by rfl, fun w' hSw => by ((try dsimp only at hSw); obtain ⟨x0, x1, x2, x3⟩ := hSw.cells; go_simp)⟩) (by assumption) ?_
                                      (try simp only [Act.put, List.setIfInBounds_toArray, List.set_cons_zero, List.set_cons_succ])
                                      refine wpAnyH_take (i := 1) (oi := { dst := some 196, op := Op.fieldAddr 23 (Operand.tmp 9) 1, type := 0, pos := "law.go:56", after := #[], guard := none }) (v := .pointer (some ⟨bP, 1, none⟩)) rfl (by kernel_rfl) (by kernel_rfl) (by kernel_rfl) (fun _ _ _ h => h) (Or.inl ⟨by rfl, fun w' hSw => by ((try dsimp only at hSw); go_simp)⟩) (by assumption) ?_
                                      (try simp only [Act.put, List.setIfInBounds_toArray, List.set_cons_zero, List.set_cons_succ])
                                      refine wpAnyH_take (i := 2) (oi := { dst := some 197, op := Op.load 3 (Operand.tmp 196), type := 3, pos := "law.go:56", after := #[{ on := 1, ground := Ground.data }], guard := none }) (v := .int .i64 (e : Int)) rfl (by kernel_rfl) (by kernel_rfl) (by kernel_rfl) (fun _ _ _ h => h) (Or.inl ⟨by rfl, fun w' hSw => by ((try dsimp only at hSw); obtain ⟨x0, x1, x2, x3⟩ := hSw.cells; go_simp)⟩) (by assumption) ?_
                                      (try simp only [Act.put, List.setIfInBounds_toArray, List.set_cons_zero, List.set_cons_succ])
                                      refine wpAnyH_take (i := 3) (oi := { dst := some 198, op := Op.binOp BinOp.add 3 (Operand.tmp 197) (Operand.const (Value.int IntKind.i64 1)) 3, type := 3, pos := "law.go:56", after := #[{ on := 2, ground := Ground.data }], guard := none }) (v := .int .i64 ((e : Int) + 1)) rfl (by kernel_rfl) (by kernel_rfl) (by kernel_rfl) (fun _ _ _ h => h) (Or.inl ⟨by rfl, fun w' hSw => by ((try dsimp only at hSw); go_simp)⟩) (by assumption) ?_
                                      (try simp only [Act.put, List.setIfInBounds_toArray, List.set_cons_zero, List.set_cons_succ])
                                      refine wpAnyH_take (i := 4) (oi := { dst := some 199, op := Op.move (Operand.tmp 15), type := 29, pos := "law.go:56", after := #[], guard := none }) (v := .slice A m c) rfl (by kernel_rfl) (by kernel_rfl) (by kernel_rfl) (fun _ _ _ h => h) (Or.inl ⟨by rfl, fun w' hSw => by ((try dsimp only at hSw); go_simp)⟩) (by assumption) ?_
                                      (try simp only [Act.put, List.setIfInBounds_toArray, List.set_cons_zero, List.set_cons_succ])
                                      refine wpAnyH_take (i := 6) (oi := { dst := some 201, op := Op.move (Operand.tmp 15), type := 29, pos := "law.go:56", after := #[], guard := none }) (v := .slice A m c) rfl (by kernel_rfl) (by kernel_rfl) (by kernel_rfl) (fun _ _ _ h => h) (Or.inl ⟨by rfl, fun w' hSw => by ((try dsimp only at hSw); go_simp)⟩) (by assumption) ?_
                                      (try simp only [Act.put, List.setIfInBounds_toArray, List.set_cons_zero, List.set_cons_succ])
                                      refine wpAnyH_ready (rs := [5]) (by kernel_rfl) (by simp) ?_
                                      refine AllReadyH.cons (o := { dst := some 200, op := Op.call { callee := Callee.builtin Builtin.append, args := #[Operand.const (Value.slice none 0 0), Operand.tmp 199], argTypes := #[29, 29] }, type := 29, pos := "law.go:56", after := #[{ on := 4, ground := Ground.data }], guard := none }) rfl (fun K hK => ?_) ?_
                                      · refine step_append_src _ rfl _ _ 29 rfl 3 i0 (.int .i64 0) 1 8 Try.underlying29 hi0 hz0 hz1 hz2 rfl (by decide) V7.heap.size (.slice none 0 0) (0) ([]) rfl (World.ownsRow_nil _ _ _ _) A m c (L.map (Value.int .i64)) rfl (show Src V7.drew 1 A m (L.map (Value.int .i64)) from HSR.out) (ints_ones L) (by unfold maxLen; omega) (by omega) (Nat.le_refl _) ?_; intro v1 u1 hown1 hgrow1 hat1
                                        refine hK.out _ _ ?_ (fun hHeld => ?_)
                                        · exact (hgrow1.block bP (PBox.lt (by assumption)) (by simp [Value.ownBlock])).trans (by assumption)
                                        clear hK K
                                        (try simp only [Act.put, List.setIfInBounds_toArray, List.set_cons_zero, List.set_cons_succ])
                                        have HB91 := Lib.hid (((Below.refl V7.heap.size V7).drew).grown hgrow1 (Nat.le_refl _) (fun g hg => by simp [Value.ownBlock] at hg))
                                        rw [Nat.zero_add, List.nil_append] at hown1
                                        obtain ⟨A1, c1, rfl⟩ := own_shape hown1
                                        have HO1 := Lib.hid hown1
                                        have VX1 := Lib.hid (VX.out.kept HB91.out)
                                        have HSR2 := Lib.hid VX1.out.nums.src
                                        clear hown1 hgrow1 hat1
                                        refine wpAnyH_ready (rs := [7]) (by kernel_rfl) (by simp) ?_
                                        refine AllReadyH.cons (o := { dst := some 202, op := Op.call { callee := Callee.builtin Builtin.append, args := #[Operand.tmp 200, Operand.tmp 201], argTypes := #[29, 29] }, type := 29, pos := "law.go:56", after := #[{ on := 5, ground := Ground.data }, { on := 6, ground := Ground.data }, { on := 5, ground := Ground.chain }], guard := none }) rfl (fun K hK => ?_) ?_
                                        · refine step_append_src _ rfl _ _ 29 rfl 3 i0 (.int .i64 0) 1 8 Try.underlying29 hi0 hz0 hz1 hz2 rfl (by decide) V7.heap.size (.slice A1 m c1) (m) (L.map (Value.int .i64)) rfl HO1.out A m c (L.map (Value.int .i64)) rfl HSR2.out (ints_ones L) (by unfold maxLen; omega) (by omega) (Below.size HB91.out) ?_; intro v2 u2 hown2 hgrow2 hat2
                                          refine hK.out _ _ ?_ (fun hHeld => ?_)
                                          · exact (hgrow2.block bP (PBox.lt (by assumption)) (fun h => by have h1 := (HO1.out.lt bP h.symm).1; have h2 := P5.out.lt; omega)).trans (by assumption)
                                          clear hK K
                                          (try simp only [Act.put, List.setIfInBounds_toArray, List.set_cons_zero, List.set_cons_succ])
                                          have HB92 := Lib.hid (HB91.out.grown hgrow2 (Below.size HB91.out) (fun g hg => (HO1.out.lt g hg).1))
                                          rw [← List.map_append] at hown2
                                          obtain ⟨A2, c2, rfl⟩ := own_shape hown2
                                          have HO2 := Lib.hid (show Row u2 A2 (m + m) c2 (L ++ L) from ⟨by rw [List.length_append, HM.out], own_base hown2⟩)
                                          clear hown2 hgrow2 hat2
                                          refine wpAnyH_ready (rs := [8]) (by kernel_rfl) (by simp) ?_
                                          refine AllReadyH.cons (o := { dst := some 203, op := Op.call { callee := Callee.value (Operand.func 10), args := #[Operand.tmp 195, Operand.tmp 198, Operand.tmp 202], argTypes := #[23, 3, 29] }, type := 23, pos := "law.go:56", after := #[{ on := 0, ground := Ground.data }, { on := 3, ground := Ground.data }, { on := 7, ground := Ground.data }, { on := 7, ground := Ground.chain }], guard := none }) rfl (fun K hK => ?_) ?_
                                          · go_simp; go_at_call 10; refine (DOF.out _ _ _ HO2.out).mono ?_; rintro q u3 ⟨rfl, hb⟩
                                            refine hK.out _ _ ?_ (fun hHeld => ?_)
                                            · exact PBox.kept (by assumption) hb
                                            clear hK K
                                            (try simp only [Act.put, List.setIfInBounds_toArray, List.set_cons_zero, List.set_cons_succ])
                                            have HB93 := Lib.hid (HB92.out.trans (hb.mono (Below.size HB92.out)))
                                            clear hb
                                            obtain ⟨⟨oW0, oW1, oW2, oW3⟩, fW0, fW1, fW2, fW3⟩ := And.intro (W5.out.kept HB93.out).cells (W5.out.kept HB93.out).free
                                            refine wpAnyH_ready (rs := [9]) (by kernel_rfl) (by simp) ?_
                                            refine AllReadyH.cons (o := { dst := none, op := Op.store 23 (Operand.tmp 18) (Operand.tmp 203), type := 0, pos := "law.go:56", after := #[{ on := 8, ground := Ground.data }, { on := 8, ground := Ground.chain }, { on := 0, ground := Ground.phase }, { on := 1, ground := Ground.phase }, { on := 2, ground := Ground.phase }, { on := 3, ground := Ground.phase }, { on := 4, ground := Ground.phase }, { on := 5, ground := Ground.phase }, { on := 6, ground := Ground.phase }, { on := 7, ground := Ground.phase }, { on := 8, ground := Ground.phase }], guard := none }) rfl (fun K hK => ?_) ?_
                                            · go_simp
                                              refine hK.out _ _ ?_ (fun hHeld => ?_)
                                              · exact PBox.heap (by assumption) (heap_set4 _ _ _ _ _ _ _ HNE.out.1.2.2.1.symm)
                                              clear hK K
                                              (try simp only [Act.put, List.setIfInBounds_toArray, List.set_cons_zero, List.set_cons_succ])
                                              refine wpAnyH_done (by kernel_rfl) ?_ _
                                              refine NoPanic.normal ?_
                                              have P6 := Lib.hid (P5.out.kept HB93.out)
                                              have O6 := Lib.hid (O5.out.kept HB93.out)
                                              have K6 := Lib.hid (K5.out.kept HB93.out)
                                              have Q6 := Lib.hid (Q5.out.kept HB93.out)
                                              have W6 := Lib.hid (W5.out.kept HB93.out)
                                              have HB6 := Lib.hid (HB5.out.trans (HB93.out.mono (Below.size HB5.out)))
                                              clear hHeld HB5 P5 O5 K5 Q5 W5 oW0 oW1 oW2 oW3 fW0 fW1 fW2 fW3
                                              have W7 := Lib.hid (W6.out.set4 (1) (((e : Int) + 1)) (x) ss)
                                              have P7 := Lib.hid (P6.out.heap (heap_set4 u3 bW (.int .i64 (1)) (.int .i64 (((e : Int) + 1))) (.int .i64 (x)) (.string ss) _ HNE.out.1.2.2.1.symm))
                                              have O7 := Lib.hid (O6.out.heap (heap_set4 u3 bW (.int .i64 (1)) (.int .i64 (((e : Int) + 1))) (.int .i64 (x)) (.string ss) _ HNE.out.1.2.2.2.1.symm))
                                              have K7 := Lib.hid (K6.out.other W6.out (heap_set4 u3 bW (.int .i64 (1)) (.int .i64 (((e : Int) + 1))) (.int .i64 (x)) (.string ss)))
                                              have Q7 := Lib.hid (Q6.out.heap (heap_set4 u3 bW (.int .i64 (1)) (.int .i64 (((e : Int) + 1))) (.int .i64 (x)) (.string ss) _ HNE.out.1.2.2.2.2))
                                              have HB7 := Lib.hid (below_set4 (u0 := .int .i64 (1)) (u1 := .int .i64 (((e : Int) + 1))) (u2 := .int .i64 (x)) (u3 := .string ss) HB6.out HNE.out.2.2)
                                              generalize (((u3.setCell ⟨bW, 0, none⟩ (.int .i64 1)).setCell ⟨bW, 1, none⟩ (.int .i64 ((e : Int) + 1))).setCell ⟨bW, 2, none⟩ (.int .i64 x)).setCell ⟨bW, 3, none⟩ (.string ss) = V8 at *
                                              clear HB6 P6 O6 K6 Q6 W6
                                              go_wp2_with fail
                                              go_meet
                                              exact ⟨0, 1, ((e : Int) + 1), x, ss, by first | trivial | rfl, by first | trivial | rfl, .inr ⟨rfl, e + 1, L ++ L, HG9.out, rfl, by omega, HSS.out⟩, P7.out, O7.out, Q7.out, W7.out, K7.out, HB7.out⟩
                                            exact AllReadyH.nil
                                          exact AllReadyH.nil
                                        exact AllReadyH.nil
                                      exact AllReadyH.nil
                                  · as_aux_lemma =>
                                      obtain rfl : ss = ⟨#[]⟩ := hss
                                      clear HDC HHC HSC
                                      subst he
                                      rw [show ((5 : Nat) : Int) = 5 from rfl] at *
                                      obtain ⟨oP0, oP1, oP2, oP3⟩ := P3.out.cells
                                      go_wp2_with fail
                                      clear oP0 oP1 oP2 oP3
                                      refine (DO.out _).mono ?_; rintro q w4 ⟨rfl, hb⟩
                                      have P4 := Lib.hid (P3.out.kept hb)
                                      have O4 := Lib.hid (O3.out.kept hb)
                                      have K4 := Lib.hid (K3.out.kept hb)
                                      have V4 := Lib.hid (V3.out.kept hb)
                                      have Q4 := Lib.hid (Q3.out.kept hb)
                                      have W4 := Lib.hid (W3.out.kept hb)
                                      have HB4 := Lib.hid (HB3.out.trans (hb.mono (Below.size HB3.out)))
                                      clear hb HB3 P3 O3 K3 V3 Q3 W3
                                      clear DO
                                      obtain ⟨oP0, oP1, oP2, oP3⟩ := P4.out.cells
                                      obtain ⟨⟨oQ0, oQ1, oQ2, oQ3⟩, fQ0, fQ1, fQ2, fQ3⟩ := And.intro Q4.out.cells Q4.out.free
                                      go_upto_region 36 with fail
                                      clear oP0 oP1 oP2 oP3
                                      clear oQ0 oQ1 oQ2 oQ3 fQ0 fQ1 fQ2 fQ3
                                      have Q5 := Lib.hid (Q4.out.set4 (0) (0) (0) ⟨#[]⟩)
                                      have P5 := Lib.hid (P4.out.heap (heap_set4 w4 bQ (.int .i64 (0)) (.int .i64 (0)) (.int .i64 (0)) (.string ⟨#[]⟩) _ HNE.out.1.1.symm))
                                      have O5 := Lib.hid (O4.out.heap (heap_set4 w4 bQ (.int .i64 (0)) (.int .i64 (0)) (.int .i64 (0)) (.string ⟨#[]⟩) _ HNE.out.1.2.1.symm))
                                      have K5 := Lib.hid (K4.out.other Q4.out (heap_set4 w4 bQ (.int .i64 (0)) (.int .i64 (0)) (.int .i64 (0)) (.string ⟨#[]⟩)))
                                      have W5 := Lib.hid (W4.out.heap (heap_set4 w4 bQ (.int .i64 (0)) (.int .i64 (0)) (.int .i64 (0)) (.string ⟨#[]⟩) _ HNE.out.1.2.2.2.2.symm))
                                      have HB5 := Lib.hid (below_set4 (u0 := .int .i64 (0)) (u1 := .int .i64 (0)) (u2 := .int .i64 (0)) (u3 := .string ⟨#[]⟩) HB4.out HNE.out.2.1)
                                      generalize (((w4.setCell ⟨bQ, 0, none⟩ (.int .i64 0)).setCell ⟨bQ, 1, none⟩ (.int .i64 0)).setCell ⟨bQ, 2, none⟩ (.int .i64 0)).setCell ⟨bQ, 3, none⟩ (.string ⟨#[]⟩) = V7 at *
                                      clear HB4 P4 O4 K4 V4 Q4 W4
                                      obtain ⟨oP0, oP1, oP2, oP3⟩ := P5.out.cells
                                      go_wp2_with fail
                                      clear oP0 oP1 oP2 oP3
                                      go_meet
                                      exact ⟨13, 0, 0, 0, ⟨#[]⟩, by first | trivial | rfl, by first | trivial | rfl, .inl (by omega), P5.out, O5.out, Q5.out, W5.out, K5.out, HB5.out⟩
                                · have hk1b : (ok == 1) = false := by rw [beq_eq_false_iff_ne]; exact hk1
                                  by_cases hk2 : ok = 2
                                  · subst hk2
                                    rcases HHC.out with ⟨he0 | ⟨f, hef, htd⟩, hha⟩ | ⟨f, hef, htd, hha⟩
                                    · as_aux_lemma =>
                                        have HA := Lib.hid hha
                                        clear hha
                                        subst he0
                                        have hm : m = 1 := by rw [HM.out]; exact HG.out.2.1
                                        subst hm
                                        clear HDC HHC HSC
                                        rw [show ((0 : Nat) : Int) = 0 from rfl] at *
                                        obtain ⟨oP0, oP1, oP2, oP3⟩ := P3.out.cells
                                        go_wp2_with fail
                                        clear oP0 oP1 oP2 oP3
                                        refine (HA.out _).mono ?_; rintro q w4 ⟨rfl, hb⟩
                                        have P4 := Lib.hid (P3.out.kept hb)
                                        have O4 := Lib.hid (O3.out.kept hb)
                                        have K4 := Lib.hid (K3.out.kept hb)
                                        have V4 := Lib.hid (V3.out.kept hb)
                                        have Q4 := Lib.hid (Q3.out.kept hb)
                                        have W4 := Lib.hid (W3.out.kept hb)
                                        have HB4 := Lib.hid (HB3.out.trans (hb.mono (Below.size HB3.out)))
                                        clear hb HB3 P3 O3 K3 V3 Q3 W3
                                        clear HA
                                        obtain ⟨oP0, oP1, oP2, oP3⟩ := P4.out.cells
                                        obtain ⟨⟨oQ0, oQ1, oQ2, oQ3⟩, fQ0, fQ1, fQ2, fQ3⟩ := And.intro Q4.out.cells Q4.out.free
                                        go_upto_region 42 with fail
                                        clear oP0 oP1 oP2 oP3
                                        clear oQ0 oQ1 oQ2 oQ3 fQ0 fQ1 fQ2 fQ3
                                        have Q5 := Lib.hid (Q4.out.set4 (0) (0) (0) ⟨#[]⟩)
                                        have P5 := Lib.hid (P4.out.heap (heap_set4 w4 bQ (.int .i64 (0)) (.int .i64 (0)) (.int .i64 (0)) (.string ⟨#[]⟩) _ HNE.out.1.1.symm))
                                        have O5 := Lib.hid (O4.out.heap (heap_set4 w4 bQ (.int .i64 (0)) (.int .i64 (0)) (.int .i64 (0)) (.string ⟨#[]⟩) _ HNE.out.1.2.1.symm))
                                        have K5 := Lib.hid (K4.out.other Q4.out (heap_set4 w4 bQ (.int .i64 (0)) (.int .i64 (0)) (.int .i64 (0)) (.string ⟨#[]⟩)))
                                        have W5 := Lib.hid (W4.out.heap (heap_set4 w4 bQ (.int .i64 (0)) (.int .i64 (0)) (.int .i64 (0)) (.string ⟨#[]⟩) _ HNE.out.1.2.2.2.2.symm))
                                        have HB5 := Lib.hid (below_set4 (u0 := .int .i64 (0)) (u1 := .int .i64 (0)) (u2 := .int .i64 (0)) (u3 := .string ⟨#[]⟩) HB4.out HNE.out.2.1)
                                        generalize (((w4.setCell ⟨bQ, 0, none⟩ (.int .i64 0)).setCell ⟨bQ, 1, none⟩ (.int .i64 0)).setCell ⟨bQ, 2, none⟩ (.int .i64 0)).setCell ⟨bQ, 3, none⟩ (.string ⟨#[]⟩) = V7 at *
                                        clear HB4 P4 O4 K4 V4 Q4 W4
                                        obtain ⟨oP0, oP1, oP2, oP3⟩ := P5.out.cells
                                        go_upto_region 43 with fail
                                        go_quiet (fail)
                                        clear oP0 oP1 oP2 oP3
                                        have hb := below_drewN (Below.refl V7.heap.size V7) nq
                                        have P6 := Lib.hid (P5.out.kept hb)
                                        have O6 := Lib.hid (O5.out.kept hb)
                                        have K6 := Lib.hid (K5.out.kept hb)
                                        have Q6 := Lib.hid (Q5.out.kept hb)
                                        have W6 := Lib.hid (W5.out.kept hb)
                                        have HB6 := Lib.hid (HB5.out.trans (hb.mono (Below.size HB5.out)))
                                        clear hb HB5 P5 O5 K5 Q5 W5
                                        go_wp2_with fail
                                        go_meet
                                        exact ⟨11, 0, 0, 0, ⟨#[]⟩, by first | trivial | rfl, by first | trivial | rfl, .inl (by omega), P6.out, O6.out, Q6.out, W6.out, K6.out, HB6.out⟩
                                    · as_aux_lemma =>
                                        have HA := Lib.hid hha
                                        clear hha
                                        subst hef
                                        obtain ⟨M, hM⟩ : ∃ M, M = 2 ^ f := ⟨_, rfl⟩
                                        have hmM : m = M * 2 := by rw [HM.out, HG.out.2.1, hM]; rfl
                                        subst hmM
                                        rw [← hM] at htd
                                        have hcap := HVC.out
                                        have hM1 : 1 ≤ M := by omega
                                        have hM16 : M ≤ 16 := by omega
                                        have i1 : (((M * 2 : Nat)) : Int) / 2 = (M : Int) := by omega
                                        have i0 : (((M * 2 : Nat)) : Int) = (M : Int) * 2 := by omega
                                        have i2 : (M : Int) ≤ (c : Int) := by omega
                                        have i2b : (M : Int) ≤ (M : Int) * 2 := by omega
                                        have i3 : (0 : Int) ≤ (M : Int) := by omega
                                        have i4 : ¬ (c = M) := by omega
                                        have i5 : M * 2 - M = M := by omega
                                        have i6 : (M : Int) * 2 ≤ (c : Int) := by omega
                                        have e2 : (((f + 1 : Nat)) : Int) = (f : Int) + 1 := by omega
                                        rw [e2] at HA P3 ⊢
                                        have e3 : (((f : Int) + 1) == 0) = false := by rw [beq_eq_false_iff_ne]; omega
                                        have e3b : (f : Int) + 1 ≠ 0 := by omega
                                        have hf5 : f ≤ 5 := by have := HL5.out; omega
                                        have E7 := Lib.hid (show IntKind.i64.wrap (f : Int) = (f : Int) from IntWalk.i64_in _ (by omega))
                                        have E6 := Lib.hid (show wrap64 (f : Int) = (f : Int) from IntWalk.wrap64_in _ (by omega))
                                        have E5 := Lib.hid (show IntKind.i64.wrap ((f : Int) + 1 - 1) = (f : Int) from by rw [show (f : Int) + 1 - 1 = f by omega]; exact E7.out)
                                        obtain ⟨ga, hA, -⟩ := V3.out.at (i := 0) (by omega)
                                        subst hA
                                        have htd2 : decide (L.take M = L.drop M) = false := by exact decide_eq_false htd
                                        have HEQ := Lib.hid (fun (V : World) (h : Row V (some ⟨ga, 0, none⟩) (M * 2) c L) (w' : World) (hb : Below V.heap.size V w') => (show Calls Try.prog 14 #[.slice (some ⟨ga, 0, none⟩) M c, .slice (some ⟨ga, M, none⟩) M (c - M)] w' fun q w'' => q = .returned (.bool false) ∧ ∃ q, w'' = w'.drewN q from by
                                          have h1 := h.nums.below hb
                                          have hl := h.1
                                          have a := h1.part 0 M c (by omega)
                                          have b := h1.part M M (c - M) (by omega)
                                          rw [List.drop_zero] at a
                                          rw [show (L.drop M).take M = L.drop M by apply List.take_of_length_le; rw [List.length_drop]; omega] at b
                                          rw [Nat.add_zero] at a
                                          rw [Nat.zero_add] at b
                                          rw [← htd2]
                                          exact sameint_any V.heap.size _ _ M M c (c - M) _ _ w' (by omega) (by omega) a b))
                                        clear htd htd2 hM hcap HDC HHC HSC
                                        obtain ⟨oP0, oP1, oP2, oP3⟩ := P3.out.cells
                                        go_wp2_with fail
                                        clear oP0 oP1 oP2 oP3
                                        refine (HA.out _).mono ?_; rintro q w4 ⟨rfl, hb⟩
                                        have P4 := Lib.hid (P3.out.kept hb)
                                        have O4 := Lib.hid (O3.out.kept hb)
                                        have K4 := Lib.hid (K3.out.kept hb)
                                        have V4 := Lib.hid (V3.out.kept hb)
                                        have Q4 := Lib.hid (Q3.out.kept hb)
                                        have W4 := Lib.hid (W3.out.kept hb)
                                        have HB4 := Lib.hid (HB3.out.trans (hb.mono (Below.size HB3.out)))
                                        clear hb HB3 P3 O3 K3 V3 Q3 W3
                                        clear HA
                                        obtain ⟨oP0, oP1, oP2, oP3⟩ := P4.out.cells
                                        obtain ⟨⟨oQ0, oQ1, oQ2, oQ3⟩, fQ0, fQ1, fQ2, fQ3⟩ := And.intro Q4.out.cells Q4.out.free
                                        go_upto_region 42 with fail
                                        clear oP0 oP1 oP2 oP3
                                        clear oQ0 oQ1 oQ2 oQ3 fQ0 fQ1 fQ2 fQ3
                                        have VX := Lib.hid (V4.out.keep (w' := (((w4.setCell ⟨bQ, 0, none⟩ (.int .i64 0)).setCell ⟨bQ, 1, none⟩ (.int .i64 0)).setCell ⟨bQ, 2, none⟩ (.int .i64 0)).setCell ⟨bQ, 3, none⟩ (.string ⟨#[]⟩)) (fun g hg => heap_set4 _ _ _ _ _ _ _ (by rintro rfl; obtain ⟨cur, hc⟩ := row_block V4.out hg; have hq := Q4.out; unfold PBox at hq; rw [hq] at hc; simp at hc)))
                                        have Q5 := Lib.hid (Q4.out.set4 (0) (0) (0) ⟨#[]⟩)
                                        have P5 := Lib.hid (P4.out.heap (heap_set4 w4 bQ (.int .i64 (0)) (.int .i64 (0)) (.int .i64 (0)) (.string ⟨#[]⟩) _ HNE.out.1.1.symm))
                                        have O5 := Lib.hid (O4.out.heap (heap_set4 w4 bQ (.int .i64 (0)) (.int .i64 (0)) (.int .i64 (0)) (.string ⟨#[]⟩) _ HNE.out.1.2.1.symm))
                                        have K5 := Lib.hid (K4.out.other Q4.out (heap_set4 w4 bQ (.int .i64 (0)) (.int .i64 (0)) (.int .i64 (0)) (.string ⟨#[]⟩)))
                                        have W5 := Lib.hid (W4.out.heap (heap_set4 w4 bQ (.int .i64 (0)) (.int .i64 (0)) (.int .i64 (0)) (.string ⟨#[]⟩) _ HNE.out.1.2.2.2.2.symm))
                                        have HB5 := Lib.hid (below_set4 (u0 := .int .i64 (0)) (u1 := .int .i64 (0)) (u2 := .int .i64 (0)) (u3 := .string ⟨#[]⟩) HB4.out HNE.out.2.1)
                                        generalize (((w4.setCell ⟨bQ, 0, none⟩ (.int .i64 0)).setCell ⟨bQ, 1, none⟩ (.int .i64 0)).setCell ⟨bQ, 2, none⟩ (.int .i64 0)).setCell ⟨bQ, 3, none⟩ (.string ⟨#[]⟩) = V7 at *
                                        clear HB4 P4 O4 K4 V4 Q4 W4
                                        have HEQ1 := Lib.hid (fun k => HEQ.out V7 VX.out (V7.drewN k) (below_drewN (Below.refl _ _) k))
                                        clear HEQ
                                        obtain ⟨oP0, oP1, oP2, oP3⟩ := P5.out.cells
                                        go_upto_region 43 with fail
                                        go_quiet ((go_at_call 14; exact Calls.quiet_of (HEQ1.out _)))
                                        clear oP0 oP1 oP2 oP3
                                        clear HEQ1
                                        have VY := Lib.hid (show Row (V7.drewN nq) _ _ _ L from VX.out)
                                        clear VX
                                        have hb := below_drewN (Below.refl V7.heap.size V7) nq
                                        have P6 := Lib.hid (P5.out.kept hb)
                                        have O6 := Lib.hid (O5.out.kept hb)
                                        have K6 := Lib.hid (K5.out.kept hb)
                                        have Q6 := Lib.hid (Q5.out.kept hb)
                                        have W6 := Lib.hid (W5.out.kept hb)
                                        have HB6 := Lib.hid (HB5.out.trans (hb.mono (Below.size HB5.out)))
                                        clear hb HB5 P5 O5 K5 Q5 W5
                                        go_wp2_with fail
                                        go_meet
                                        exact ⟨11, 0, 0, 0, ⟨#[]⟩, by first | trivial | rfl, by first | trivial | rfl, .inl (by omega), P6.out, O6.out, Q6.out, W6.out, K6.out, HB6.out⟩
                                    · as_aux_lemma =>
                                        have HA := Lib.hid hha
                                        clear hha
                                        subst hef
                                        obtain ⟨M, hM⟩ : ∃ M, M = 2 ^ f := ⟨_, rfl⟩
                                        have hmM : m = M * 2 := by rw [HM.out, HG.out.2.1, hM]; rfl
                                        subst hmM
                                        rw [← hM] at htd
                                        have hcap := HVC.out
                                        have hM1 : 1 ≤ M := by omega
                                        have hM16 : M ≤ 16 := by omega
                                        have i1 : (((M * 2 : Nat)) : Int) / 2 = (M : Int) := by omega
                                        have i0 : (((M * 2 : Nat)) : Int) = (M : Int) * 2 := by omega
                                        have i2 : (M : Int) ≤ (c : Int) := by omega
                                        have i2b : (M : Int) ≤ (M : Int) * 2 := by omega
                                        have i3 : (0 : Int) ≤ (M : Int) := by omega
                                        have i4 : ¬ (c = M) := by omega
                                        have i5 : M * 2 - M = M := by omega
                                        have i6 : (M : Int) * 2 ≤ (c : Int) := by omega
                                        have e2 : (((f + 1 : Nat)) : Int) = (f : Int) + 1 := by omega
                                        rw [e2] at HA P3 ⊢
                                        have e3 : (((f : Int) + 1) == 0) = false := by rw [beq_eq_false_iff_ne]; omega
                                        have e3b : (f : Int) + 1 ≠ 0 := by omega
                                        have hf5 : f ≤ 5 := by have := HL5.out; omega
                                        have E7 := Lib.hid (show IntKind.i64.wrap (f : Int) = (f : Int) from IntWalk.i64_in _ (by omega))
                                        have E6 := Lib.hid (show wrap64 (f : Int) = (f : Int) from IntWalk.wrap64_in _ (by omega))
                                        have E5 := Lib.hid (show IntKind.i64.wrap ((f : Int) + 1 - 1) = (f : Int) from by rw [show (f : Int) + 1 - 1 = f by omega]; exact E7.out)
                                        obtain ⟨ga, hA, -⟩ := V3.out.at (i := 0) (by omega)
                                        subst hA
                                        have htd2 : decide (L.take M = L.drop M) = true := by exact decide_eq_true htd
                                        have HEQ := Lib.hid (fun (V : World) (h : Row V (some ⟨ga, 0, none⟩) (M * 2) c L) (w' : World) (hb : Below V.heap.size V w') => (show Calls Try.prog 14 #[.slice (some ⟨ga, 0, none⟩) M c, .slice (some ⟨ga, M, none⟩) M (c - M)] w' fun q w'' => q = .returned (.bool true) ∧ ∃ q, w'' = w'.drewN q from by
                                          have h1 := h.nums.below hb
                                          have hl := h.1
                                          have a := h1.part 0 M c (by omega)
                                          have b := h1.part M M (c - M) (by omega)
                                          rw [List.drop_zero] at a
                                          rw [show (L.drop M).take M = L.drop M by apply List.take_of_length_le; rw [List.length_drop]; omega] at b
                                          rw [Nat.add_zero] at a
                                          rw [Nat.zero_add] at b
                                          rw [← htd2]
                                          exact sameint_any V.heap.size _ _ M M c (c - M) _ _ w' (by omega) (by omega) a b))
                                        have HG9 := Lib.hid (show GoodD (L.take M) f from by rw [hM]; exact HG.out.half)
                                        obtain ⟨ss, hss⟩ : ∃ s, s = str (mkD (L.take M)) := ⟨_, rfl⟩
                                        rw [← hM, ← hss] at HA
                                        have HSS := Lib.hid hss
                                        clear hss
                                        have DOF := Lib.hid (fun (u : World) (A2 : Option Addr) (c2 : Nat) (h : Row u A2 (M) c2 (L.take M)) => (show Calls Try.prog 10 #[.agg #[.int .i64 1, .int .i64 ((f : Int) + 1), .int .i64 x, .string s], .int .i64 ((f : Int)), .slice A2 (M) c2] u fun q w' => q = .returned (.agg #[.int .i64 1, .int .i64 ((f : Int)), .int .i64 x, .string ss]) ∧ Below u.heap.size u w' from by
                                          have h0 := dirof_any 1 ((f : Int) + 1) x ((f : Int)) s.data.toList u.heap.size A2 (M) c2 (L.take M) u h.nums (Nat.le_refl _) (by omega) (fun i hi => by have hgg := (HG9.out).at (i := i) (by have := h.1; omega); omega)
                                          unfold pv at h0
                                          rw [str_data, ← HSS.out] at h0
                                          exact h0))
                                        clear htd htd2 hM hcap HDC HHC HSC
                                        obtain ⟨oP0, oP1, oP2, oP3⟩ := P3.out.cells
                                        go_wp2_with fail
                                        clear oP0 oP1 oP2 oP3
                                        refine (HA.out _).mono ?_; rintro q w4 ⟨rfl, hb⟩
                                        have P4 := Lib.hid (P3.out.kept hb)
                                        have O4 := Lib.hid (O3.out.kept hb)
                                        have K4 := Lib.hid (K3.out.kept hb)
                                        have V4 := Lib.hid (V3.out.kept hb)
                                        have Q4 := Lib.hid (Q3.out.kept hb)
                                        have W4 := Lib.hid (W3.out.kept hb)
                                        have HB4 := Lib.hid (HB3.out.trans (hb.mono (Below.size HB3.out)))
                                        clear hb HB3 P3 O3 K3 V3 Q3 W3
                                        clear HA
                                        obtain ⟨oP0, oP1, oP2, oP3⟩ := P4.out.cells
                                        obtain ⟨⟨oQ0, oQ1, oQ2, oQ3⟩, fQ0, fQ1, fQ2, fQ3⟩ := And.intro Q4.out.cells Q4.out.free
                                        go_upto_region 42 with fail
                                        clear oP0 oP1 oP2 oP3
                                        clear oQ0 oQ1 oQ2 oQ3 fQ0 fQ1 fQ2 fQ3
                                        have VX := Lib.hid (V4.out.keep (w' := (((w4.setCell ⟨bQ, 0, none⟩ (.int .i64 1)).setCell ⟨bQ, 1, none⟩ (.int .i64 (f : Int))).setCell ⟨bQ, 2, none⟩ (.int .i64 x)).setCell ⟨bQ, 3, none⟩ (.string ss)) (fun g hg => heap_set4 _ _ _ _ _ _ _ (by rintro rfl; obtain ⟨cur, hc⟩ := row_block V4.out hg; have hq := Q4.out; unfold PBox at hq; rw [hq] at hc; simp at hc)))
                                        have Q5 := Lib.hid (Q4.out.set4 (1) ((f : Int)) (x) ss)
                                        have P5 := Lib.hid (P4.out.heap (heap_set4 w4 bQ (.int .i64 (1)) (.int .i64 ((f : Int))) (.int .i64 (x)) (.string ss) _ HNE.out.1.1.symm))
                                        have O5 := Lib.hid (O4.out.heap (heap_set4 w4 bQ (.int .i64 (1)) (.int .i64 ((f : Int))) (.int .i64 (x)) (.string ss) _ HNE.out.1.2.1.symm))
                                        have K5 := Lib.hid (K4.out.other Q4.out (heap_set4 w4 bQ (.int .i64 (1)) (.int .i64 ((f : Int))) (.int .i64 (x)) (.string ss)))
                                        have W5 := Lib.hid (W4.out.heap (heap_set4 w4 bQ (.int .i64 (1)) (.int .i64 ((f : Int))) (.int .i64 (x)) (.string ss) _ HNE.out.1.2.2.2.2.symm))
                                        have HB5 := Lib.hid (below_set4 (u0 := .int .i64 (1)) (u1 := .int .i64 ((f : Int))) (u2 := .int .i64 (x)) (u3 := .string ss) HB4.out HNE.out.2.1)
                                        generalize (((w4.setCell ⟨bQ, 0, none⟩ (.int .i64 1)).setCell ⟨bQ, 1, none⟩ (.int .i64 (f : Int))).setCell ⟨bQ, 2, none⟩ (.int .i64 x)).setCell ⟨bQ, 3, none⟩ (.string ss) = V7 at *
                                        clear HB4 P4 O4 K4 V4 Q4 W4
                                        have HEQ1 := Lib.hid (fun k => HEQ.out V7 VX.out (V7.drewN k) (below_drewN (Below.refl _ _) k))
                                        clear HEQ
                                        obtain ⟨oP0, oP1, oP2, oP3⟩ := P5.out.cells
                                        go_upto_region 43 with fail
                                        go_quiet ((go_at_call 14; exact Calls.quiet_of (HEQ1.out _)))
                                        clear oP0 oP1 oP2 oP3
                                        clear HEQ1
                                        have VY := Lib.hid (show Row (V7.drewN nq) _ _ _ L from VX.out)
                                        clear VX
                                        have hb := below_drewN (Below.refl V7.heap.size V7) nq
                                        have P6 := Lib.hid (P5.out.kept hb)
                                        have O6 := Lib.hid (O5.out.kept hb)
                                        have K6 := Lib.hid (K5.out.kept hb)
                                        have Q6 := Lib.hid (Q5.out.kept hb)
                                        have W6 := Lib.hid (W5.out.kept hb)
                                        have HB6 := Lib.hid (HB5.out.trans (hb.mono (Below.size HB5.out)))
                                        clear hb HB5 P5 O5 K5 Q5 W5
                                        obtain ⟨V9, hV9⟩ : ∃ V, V = V7.drewN nq := ⟨_, rfl⟩
                                        rw [← hV9] at VY HB6 P6 O6 K6 Q6 W6 ⊢
                                        clear hV9
                                        have HRT := Lib.hid (show Row V9.drew (some ⟨ga, 0, none⟩) M c (L.take M) from ⟨by have := VY.out.1; rw [List.length_take]; omega, own_take VY.out (by omega)⟩)
                                        obtain ⟨oP0, oP1, oP2, oP3⟩ := P6.out.cells
                                        go_upto_region 46 with fail
                                        clear oP0 oP1 oP2 oP3
                                        have e5 := E5.out
                                        have e6 := E6.out
                                        have e7 := E7.out
                                        clear E5 E6 E7
                                        refine wp_region_noPanic ?_
                                        refine wp_region_held_drew (S := fun w9 => PBox w9 bP 1 ((f : Int) + 1) x s) (by kernel_rfl) ?_ (fun hHeld => ?_)
                                        · exact P6.out
                                        refine wpAnyH_take (i := 0) (oi := { dst := some 232, op := Op.load 23 (Operand.tmp 9), type := 23, pos := "law.go:65", after := #[], guard := none }) (v := .agg #[.int .i64 1, .int .i64 ((f : Int) + 1), .int .i64 x, .string s]) rfl (by kernel_rfl) (by kernel_rfl) (by kernel_rfl) (fun _ _ _ h => h) (Or.inl ⟨by rfl, fun w' hSw => by ((try dsimp only at hSw); obtain ⟨x0, x1, x2, x3⟩ := hSw.cells; go_simp)⟩) (by assumption) ?_
                                        (try simp only [Act.put, List.setIfInBounds_toArray, List.set_cons_zero, List.set_cons_succ])
                                        refine wpAnyH_take (i := 1) (oi := { dst := some 233, op := Op.fieldAddr 23 (Operand.tmp 9) 1, type := 0, pos := "law.go:65", after := #[], guard := none }) (v := .pointer (some ⟨bP, 1, none⟩)) rfl (by kernel_rfl) (by kernel_rfl) (by kernel_rfl) (fun _ _ _ h => h) (Or.inl ⟨by rfl, fun w' hSw => by ((try dsimp only at hSw); go_simp)⟩) (by assumption) ?_
                                        (try simp only [Act.put, List.setIfInBounds_toArray, List.set_cons_zero, List.set_cons_succ])
                                        refine wpAnyH_take (i := 2) (oi := { dst := some 234, op := Op.load 3 (Operand.tmp 233), type := 3, pos := "law.go:65", after := #[{ on := 1, ground := Ground.data }], guard := none }) (v := .int .i64 ((f : Int) + 1)) rfl (by kernel_rfl) (by kernel_rfl) (by kernel_rfl) (fun _ _ _ h => h) (Or.inl ⟨by rfl, fun w' hSw => by ((try dsimp only at hSw); obtain ⟨x0, x1, x2, x3⟩ := hSw.cells; go_simp)⟩) (by assumption) ?_
                                        (try simp only [Act.put, List.setIfInBounds_toArray, List.set_cons_zero, List.set_cons_succ])
                                        refine wpAnyH_take (i := 3) (oi := { dst := some 235, op := Op.binOp BinOp.sub 3 (Operand.tmp 234) (Operand.const (Value.int IntKind.i64 1)) 3, type := 3, pos := "law.go:65", after := #[{ on := 2, ground := Ground.data }], guard := none }) (v := .int .i64 (f : Int)) rfl (by kernel_rfl) (by kernel_rfl) (by kernel_rfl) (fun _ _ _ h => h) (Or.inl ⟨by rfl, fun w' hSw => by ((try dsimp only at hSw); go_simp)⟩) (by assumption) ?_
                                        (try simp only [Act.put, List.setIfInBounds_toArray, List.set_cons_zero, List.set_cons_succ])
                                        refine wpAnyH_take (i := 4) (oi := { dst := some 236, op := Op.move (Operand.tmp 15), type := 29, pos := "law.go:65", after := #[], guard := none }) (v := .slice (some ⟨ga, 0, none⟩) (M * 2) c) rfl (by kernel_rfl) (by kernel_rfl) (by kernel_rfl) (fun _ _ _ h => h) (Or.inl ⟨by rfl, fun w' hSw => by ((try dsimp only at hSw); go_simp)⟩) (by assumption) ?_
                                        (try simp only [Act.put, List.setIfInBounds_toArray, List.set_cons_zero, List.set_cons_succ])
                                        refine wpAnyH_take (i := 5) (oi := { dst := some 237, op := Op.move (Operand.tmp 21), type := 3, pos := "law.go:65", after := #[], guard := none }) (v := .int .i64 (M : Int)) rfl (by kernel_rfl) (by kernel_rfl) (by kernel_rfl) (fun _ _ _ h => h) (Or.inl ⟨by rfl, fun w' hSw => by ((try dsimp only at hSw); go_simp)⟩) (by assumption) ?_
                                        (try simp only [Act.put, List.setIfInBounds_toArray, List.set_cons_zero, List.set_cons_succ])
                                        refine wpAnyH_take (i := 6) (oi := { dst := some 238, op := Op.slice 29 (Operand.tmp 236) none (some (Operand.tmp 237)) none, type := 29, pos := "law.go:65", after := #[{ on := 4, ground := Ground.data }, { on := 5, ground := Ground.data }], guard := none }) (v := .slice (some ⟨ga, 0, none⟩) M c) rfl (by kernel_rfl) (by kernel_rfl) (by kernel_rfl) (fun _ _ _ h => h) (Or.inl ⟨by rfl, fun w' hSw => by ((try dsimp only at hSw); go_simp)⟩) (by assumption) ?_
                                        (try simp only [Act.put, List.setIfInBounds_toArray, List.set_cons_zero, List.set_cons_succ])
                                        refine wpAnyH_ready (rs := [7]) (by kernel_rfl) (by simp) ?_
                                        refine AllReadyH.cons (o := { dst := some 239, op := Op.call { callee := Callee.value (Operand.func 10), args := #[Operand.tmp 232, Operand.tmp 235, Operand.tmp 238], argTypes := #[23, 3, 29] }, type := 23, pos := "law.go:65", after := #[{ on := 0, ground := Ground.data }, { on := 3, ground := Ground.data }, { on := 6, ground := Ground.data }], guard := none }) rfl (fun K hK => ?_) ?_
                                        · go_simp; go_at_call 10; refine (DOF.out _ _ _ HRT.out).mono ?_; rintro q u3 ⟨rfl, hb⟩
                                          refine hK.out _ _ ?_ (fun hHeld => ?_)
                                          · exact PBox.kept (by assumption) hb
                                          clear hK K
                                          (try simp only [Act.put, List.setIfInBounds_toArray, List.set_cons_zero, List.set_cons_succ])
                                          obtain ⟨⟨oW0, oW1, oW2, oW3⟩, fW0, fW1, fW2, fW3⟩ := And.intro (W6.out.drew.kept hb).cells (W6.out.drew.kept hb).free
                                          have HB93 := Lib.hid (show Below V9.heap.size V9 u3 from (Below.refl V9.heap.size V9).drew.trans hb)
                                          clear hb
                                          refine wpAnyH_ready (rs := [8]) (by kernel_rfl) (by simp) ?_
                                          refine AllReadyH.cons (o := { dst := none, op := Op.store 23 (Operand.tmp 18) (Operand.tmp 239), type := 0, pos := "law.go:65", after := #[{ on := 7, ground := Ground.data }, { on := 7, ground := Ground.chain }, { on := 0, ground := Ground.phase }, { on := 1, ground := Ground.phase }, { on := 2, ground := Ground.phase }, { on := 3, ground := Ground.phase }, { on := 4, ground := Ground.phase }, { on := 5, ground := Ground.phase }, { on := 6, ground := Ground.phase }, { on := 7, ground := Ground.phase }], guard := none }) rfl (fun K hK => ?_) ?_
                                          · go_simp
                                            refine hK.out _ _ ?_ (fun hHeld => ?_)
                                            · exact PBox.heap (by assumption) (heap_set4 _ _ _ _ _ _ _ HNE.out.1.2.2.1.symm)
                                            clear hK K
                                            (try simp only [Act.put, List.setIfInBounds_toArray, List.set_cons_zero, List.set_cons_succ])
                                            refine wpAnyH_done (by kernel_rfl) ?_ _
                                            refine NoPanic.normal ?_
                                            have P7 := Lib.hid (P6.out.kept HB93.out)
                                            have O7 := Lib.hid (O6.out.kept HB93.out)
                                            have K7 := Lib.hid (K6.out.kept HB93.out)
                                            have Q7 := Lib.hid (Q6.out.kept HB93.out)
                                            have W7 := Lib.hid (W6.out.kept HB93.out)
                                            have HB7 := Lib.hid (HB6.out.trans (HB93.out.mono (Below.size HB6.out)))
                                            clear hHeld HB6 P6 O6 K6 Q6 W6 oW0 oW1 oW2 oW3 fW0 fW1 fW2 fW3
                                            have W8 := Lib.hid (W7.out.set4 (1) ((f : Int)) (x) ss)
                                            have P8 := Lib.hid (P7.out.heap (heap_set4 u3 bW (.int .i64 (1)) (.int .i64 ((f : Int))) (.int .i64 (x)) (.string ss) _ HNE.out.1.2.2.1.symm))
                                            have O8 := Lib.hid (O7.out.heap (heap_set4 u3 bW (.int .i64 (1)) (.int .i64 ((f : Int))) (.int .i64 (x)) (.string ss) _ HNE.out.1.2.2.2.1.symm))
                                            have K8 := Lib.hid (K7.out.other W7.out (heap_set4 u3 bW (.int .i64 (1)) (.int .i64 ((f : Int))) (.int .i64 (x)) (.string ss)))
                                            have Q8 := Lib.hid (Q7.out.heap (heap_set4 u3 bW (.int .i64 (1)) (.int .i64 ((f : Int))) (.int .i64 (x)) (.string ss) _ HNE.out.1.2.2.2.2))
                                            have HB8 := Lib.hid (below_set4 (u0 := .int .i64 (1)) (u1 := .int .i64 ((f : Int))) (u2 := .int .i64 (x)) (u3 := .string ss) HB7.out HNE.out.2.2)
                                            generalize (((u3.setCell ⟨bW, 0, none⟩ (.int .i64 1)).setCell ⟨bW, 1, none⟩ (.int .i64 (f : Int))).setCell ⟨bW, 2, none⟩ (.int .i64 x)).setCell ⟨bW, 3, none⟩ (.string ss) = V8 at *
                                            clear HB7 P7 O7 K7 Q7 W7
                                            go_wp2_with fail
                                            go_meet
                                            exact ⟨0, 1, (f : Int), x, ss, by first | trivial | rfl, by first | trivial | rfl, .inr ⟨rfl, f, L.take M, HG9.out, rfl, rfl, HSS.out⟩, by rw [e2]; exact P8.out, O8.out, Q8.out, W8.out, K8.out, HB8.out⟩
                                          exact AllReadyH.nil
                                        exact AllReadyH.nil
                                  · have hk2b : (ok == 2) = false := by rw [beq_eq_false_iff_ne]; exact hk2
                                    obtain ⟨er, ks, ds, xs, ss, hcase, hdo⟩ := HSC.out
                                    have SE := Lib.hid hdo
                                    clear hdo
                                    rcases hcase with ⟨rfl, hmay, rfl, rfl, hxs, hss⟩ | ⟨rfl, hmay, rfl, rfl, rfl, hss⟩
                                    · as_aux_lemma =>
                                        obtain rfl : x = xs := hxs.symm
                                        obtain ⟨⟨y1, y2⟩, ⟨y3, y4⟩, ⟨y5, y6⟩⟩ := hmay
                                        obtain ⟨dn, rfl⟩ : ∃ dn : Nat, od = dn := ⟨od.toNat, by omega⟩
                                        obtain ⟨bn, rfl⟩ : ∃ bn : Nat, ob = bn := ⟨ob.toNat, by omega⟩
                                        rw [Int.toNat_natCast] at y4 hss
                                        rw [Int.toNat_natCast] at hss
                                        have hdn5 : dn ≤ 5 := by have := HL5.out; omega
                                        have HG9 := Lib.hid (HG.out.set (bits := bn) (depth := dn) (n := on) ⟨y5, y6⟩)
                                        have HSS := Lib.hid hss
                                        have HMI := Lib.hid (fun (i : Nat) (hi : i ≤ 1000) => i64_mask dn hdn5 (i : Int) (by omega) (by omega))
                                        have HYES := Lib.hid (fun (i : Nat) (hi : i < m) => mixS_yes (l := L) (b := bn) (d := dn) (n := on) (i := i) (by have := HM.out; omega))
                                        have HNO2 := Lib.hid (fun (i : Nat) (hi : i < m) => mixS_no (l := L) (b := bn) (d := dn) (n := on) (i := i) (by have := HM.out; omega))
                                        have HALL := Lib.hid (show mixS L bn dn on m = setS L bn dn on from by rw [HM.out]; exact mixS_all _ _ _ _)
                                        have HML := Lib.hid (fun (i : Nat) (hi : i ≤ m) => mixS_length (l := L) (b := bn) (d := dn) (n := on) (i := i) (by have := HM.out; omega))
                                        have HMZ := Lib.hid (mixS_zero L bn dn on)
                                        have DOF := Lib.hid (fun (u : World) (A2 : Option Addr) (c2 : Nat) (h : Row u A2 (m) c2 (setS L bn dn on)) => (show Calls Try.prog 10 #[.agg #[.int .i64 1, .int .i64 e, .int .i64 x, .string s], .int .i64 ((e : Int)), .slice A2 (m) c2] u fun q w' => q = .returned (.agg #[.int .i64 1, .int .i64 ((e : Int)), .int .i64 x, .string ss]) ∧ Below u.heap.size u w' from by
                                          have h0 := dirof_any 1 e x ((e : Int)) s.data.toList u.heap.size A2 (m) c2 (setS L bn dn on) u h.nums (Nat.le_refl _) (by omega) (fun i hi => by have hgg := (HG9.out).at (i := i) (by have := h.1; omega); omega)
                                          unfold pv at h0
                                          rw [str_data, ← HSS.out] at h0
                                          exact h0))
                                        have t1 : decide ((dn : Int) < 0) = false := decide_eq_false (by omega)
                                        have t2 : decide ((dn : Int) > (e : Int)) = false := decide_eq_false (by omega)
                                        have t2b : decide ((e : Int) < (dn : Int)) = false := decide_eq_false (by omega)
                                        have u2 : ¬ ((e : Int) < (dn : Int)) := by omega
                                        have u2n : ¬ (e < dn) := by omega
                                        have u2m : decide (e < dn) = false := decide_eq_false u2n
                                        have u3 : ¬ ((bn : Int) < 0) := by omega
                                        have t3 : decide ((bn : Int) < 0) = false := decide_eq_false (by omega)
                                        have mn1 : min (dn : Int) 9 = (dn : Int) := by omega
                                        have mx1 : max (dn : Int) 0 = (dn : Int) := by omega
                                        have HSH := Lib.hid (shl_val dn (by omega))
                                        have HSH2 := Lib.hid (show wrap64 ((2 : Int) ^ dn) = ((2 ^ dn : Nat) : Int) from by rw [← HSH.out, Int.toNat_natCast, Nat.min_eq_left (by omega)])
                                        have dn0 : (0 : Int) ≤ (dn : Int) := by omega
                                        have dn0b : ¬ ((dn : Int) < 0) := by omega
                                        have hN := pow_le hdn5
                                        obtain ⟨RM, hRM⟩ : ∃ f : Nat → Nat, f = fun i => i % 2 ^ dn := ⟨_, rfl⟩
                                        have HMI2 := Lib.hid (fun (i : Nat) (hi : i ≤ 1000) => (show bits .and .i64 (i : Int) (((2 ^ dn : Nat) : Int) - 1) = ((RM i : Nat) : Int) from by rw [HMI.out i hi, hRM]; rfl))
                                        have HY2 := Lib.hid (fun (i : Nat) (hi : i < m) (h : RM i = bn) => (show (mixS L bn dn on i).set i on = mixS L bn dn on (i + 1) from HYES.out i hi (by rw [hRM] at h; exact h)))
                                        have HN2 := Lib.hid (fun (i : Nat) (hi : i < m) (h : RM i ≠ bn) => (show mixS L bn dn on i = mixS L bn dn on (i + 1) from HNO2.out i hi (by rw [hRM] at h; exact h)))
                                        clear HMI HYES HNO2 hRM
                                        obtain ⟨MX, hMX⟩ : ∃ f : Nat → List Int, f = mixS L bn dn on := ⟨_, rfl⟩
                                        rw [← hMX] at HY2 HN2 HALL HML HMZ
                                        clear hMX
                                        generalize 2 ^ dn = N at *
                                        have t4 : decide ((bn : Int) ≥ (N : Int)) = false := decide_eq_false (by omega)
                                        have t4b : decide ((N : Int) ≤ (bn : Int)) = false := decide_eq_false (by omega)
                                        have u4 : ¬ ((N : Int) ≤ (bn : Int)) := by omega
                                        have u4n : ¬ (N ≤ bn) := by omega
                                        have u4m : decide (N ≤ bn) = false := decide_eq_false u4n
                                        have t5 : decide (on < 2) = false := decide_eq_false (by omega)
                                        have t6 : decide (on ≥ 64) = false := decide_eq_false (by omega)
                                        have t6b : decide (64 ≤ on) = false := decide_eq_false (by omega)
                                        have e7 : IntKind.i64.wrap ((N : Int) - 1) = (N : Int) - 1 := IntWalk.i64_in _ (by omega)
                                        have SH := HSH.out
                                        have SH2 := HSH2.out
                                        clear HSH HSH2
                                        clear y1 y2 y3 y4 y5 y6 hss HDC HHC HSC
                                        obtain ⟨oP0, oP1, oP2, oP3⟩ := P3.out.cells
                                        obtain ⟨oO0, oO1, oO2, oO3⟩ := O3.out.cells
                                        go_wp2_with fail
                                        clear oP0 oP1 oP2 oP3 oO0 oO1 oO2 oO3
                                        refine (SE.out _).mono ?_; rintro q w4 ⟨rfl, hb⟩
                                        have P4 := Lib.hid (P3.out.kept hb)
                                        have O4 := Lib.hid (O3.out.kept hb)
                                        have K4 := Lib.hid (K3.out.kept hb)
                                        have V4 := Lib.hid (V3.out.kept hb)
                                        have Q4 := Lib.hid (Q3.out.kept hb)
                                        have W4 := Lib.hid (W3.out.kept hb)
                                        have HB4 := Lib.hid (HB3.out.trans (hb.mono (Below.size HB3.out)))
                                        clear hb HB3 P3 O3 K3 V3 Q3 W3
                                        clear SE
                                        obtain ⟨oP0, oP1, oP2, oP3⟩ := P4.out.cells
                                        obtain ⟨oO0, oO1, oO2, oO3⟩ := O4.out.cells
                                        obtain ⟨⟨oQ0, oQ1, oQ2, oQ3⟩, fQ0, fQ1, fQ2, fQ3⟩ := And.intro Q4.out.cells Q4.out.free
                                        go_upto_region 23 with fail
                                        clear oP0 oP1 oP2 oP3 oO0 oO1 oO2 oO3
                                        clear oQ0 oQ1 oQ2 oQ3 fQ0 fQ1 fQ2 fQ3
                                        have VX := Lib.hid (V4.out.keep (w' := (((w4.setCell ⟨bQ, 0, none⟩ (.int .i64 1)).setCell ⟨bQ, 1, none⟩ (.int .i64 (e : Int))).setCell ⟨bQ, 2, none⟩ (.int .i64 x)).setCell ⟨bQ, 3, none⟩ (.string ss)) (fun g hg => heap_set4 _ _ _ _ _ _ _ (by rintro rfl; obtain ⟨cur, hc⟩ := row_block V4.out hg; have hq := Q4.out; unfold PBox at hq; rw [hq] at hc; simp at hc)))
                                        have Q5 := Lib.hid (Q4.out.set4 (1) ((e : Int)) (x) ss)
                                        have P5 := Lib.hid (P4.out.heap (heap_set4 w4 bQ (.int .i64 (1)) (.int .i64 ((e : Int))) (.int .i64 (x)) (.string ss) _ HNE.out.1.1.symm))
                                        have O5 := Lib.hid (O4.out.heap (heap_set4 w4 bQ (.int .i64 (1)) (.int .i64 ((e : Int))) (.int .i64 (x)) (.string ss) _ HNE.out.1.2.1.symm))
                                        have K5 := Lib.hid (K4.out.other Q4.out (heap_set4 w4 bQ (.int .i64 (1)) (.int .i64 ((e : Int))) (.int .i64 (x)) (.string ss)))
                                        have W5 := Lib.hid (W4.out.heap (heap_set4 w4 bQ (.int .i64 (1)) (.int .i64 ((e : Int))) (.int .i64 (x)) (.string ss) _ HNE.out.1.2.2.2.2.symm))
                                        have HB5 := Lib.hid (below_set4 (u0 := .int .i64 (1)) (u1 := .int .i64 ((e : Int))) (u2 := .int .i64 (x)) (u3 := .string ss) HB4.out HNE.out.2.1)
                                        generalize (((w4.setCell ⟨bQ, 0, none⟩ (.int .i64 1)).setCell ⟨bQ, 1, none⟩ (.int .i64 (e : Int))).setCell ⟨bQ, 2, none⟩ (.int .i64 x)).setCell ⟨bQ, 3, none⟩ (.string ss) = V7 at *
                                        clear HB4 P4 O4 K4 V4 Q4 W4
                                        obtain ⟨oP0, oP1, oP2, oP3⟩ := P5.out.cells
                                        obtain ⟨oO0, oO1, oO2, oO3⟩ := O5.out.cells
                                        go_quiet (fail)
                                        clear oP0 oP1 oP2 oP3 oO0 oO1 oO2 oO3
                                        have VY := Lib.hid (show Row (V7.drewN nq) _ _ _ L from VX.out)
                                        clear VX
                                        have hb := below_drewN (Below.refl V7.heap.size V7) nq
                                        have P6 := Lib.hid (P5.out.kept hb)
                                        have O6 := Lib.hid (O5.out.kept hb)
                                        have K6 := Lib.hid (K5.out.kept hb)
                                        have Q6 := Lib.hid (Q5.out.kept hb)
                                        have W6 := Lib.hid (W5.out.kept hb)
                                        have HB6 := Lib.hid (HB5.out.trans (hb.mono (Below.size HB5.out)))
                                        clear hb HB5 P5 O5 K5 Q5 W5
                                        obtain ⟨V9, hV9⟩ : ∃ V, V = V7.drewN nq := ⟨_, rfl⟩
                                        rw [← hV9] at VY HB6 P6 O6 K6 Q6 W6 ⊢
                                        clear hV9 t1 t2 t2b t3 t4 t4b t5 t6 t6b mn1 mx1 u2 u2n u2m u3 u4 u4n u4m
                                        obtain ⟨i0, hi0, hz0, hz1, hz2⟩ := info_parts infoI
                                        have HSR := Lib.hid VY.out.nums.src
                                        have hsr := HSR.out
                                        go_wp2_with (at_builtin; refine wpList_append_src _ rfl _ _ 29 rfl 3 i0 (.int .i64 0) 1 8 Try.underlying29 hi0 hz0 hz1 hz2 rfl (by decide) V9.heap.size (.slice none 0 0) 0 [] rfl (World.ownsRow_nil _ _ _ _) A m c _ rfl hsr (ints_ones L) (by unfold maxLen; omega) (by omega) (Nat.le_refl _) ?_; intro v' u1 hown hgrow hat; rw [Nat.zero_add, List.nil_append] at hown; obtain ⟨A1, c1, rfl⟩ := own_shape hown; obtain ⟨gm, rfl, hgm⟩ := own_at hown (by omega))
                                        clear hsr HSR
                                        have HBU := Lib.hid ((Below.refl V9.heap.size V9).grown hgrow (Nat.le_refl _) (fun g hg => by simp [Value.ownBlock] at hg))
                                        have HGM := Lib.hid hgm
                                        have HST := Lib.hid (show u1.ownsRow V9.heap.size 3 1 (.slice (some ⟨gm, 0, none⟩) m c1) m ((MX 0).map (Value.int .i64)) ∧ Below V9.heap.size V9 u1 from ⟨by rw [HMZ.out]; exact hown, HBU.out⟩)
                                        clear hown hgrow hat HBU hgm
                                        go_loopw [157] (fun v wr => ∃ i : Nat, i ≤ m ∧ v = .int .i64 i ∧ Hid (wr.ownsRow V9.heap.size 3 1 (.slice (some ⟨gm, 0, none⟩) m c1) m ((MX i).map (Value.int .i64)) ∧ Below V9.heap.size V9 wr)) (fun v _ => m - (intOf v).toNat)
                                        case atStart => exact ⟨0, Nat.zero_le _, rfl, HST.out⟩
                                        case round =>
                                          obtain ⟨i, hi, rfl, hq⟩ := hrel
                                          have HQ := Lib.hid hq.out
                                          clear hq HST
                                          have i0 : (0 : Int) ≤ (i : Int) := by omega
                                          by_cases hlt : i < m
                                          · have i1 : (i : Int) < (m : Int) := by omega
                                            have mi := HMI2.out i (by omega)
                                            have e8 : IntKind.i64.wrap ((i : Int) + 1) = (i : Int) + 1 := IntWalk.i64_in _ (by omega)
                                            have HYI := Lib.hid (HY2.out i hlt)
                                            have HNI := Lib.hid (HN2.out i hlt)
                                            have HOX := Lib.hid (O6.out.kept HQ.out.2)
                                            obtain ⟨oO0, oO1, oO2, oO3⟩ := HOX.out.cells
                                            generalize RM i = r at *
                                            go_upto_region 30 with fail
                                            by_cases hr : r = bn
                                            · have HS1 := Lib.hid (HYI.out hr)
                                              subst hr
                                              go_quiet (fail)
                                              clear oO0 oO1 oO2 oO3
                                              obtain ⟨oO0, oO1, oO2, oO3⟩ := (HOX.out.kept (below_drewN (Below.refl wr.heap.size wr) nq)).cells
                                              obtain ⟨z0, z1⟩ := own_cell (w := wr.drewN nq) (i := i) HQ.out.1 (by rw [HML.out i hi]; have := HM.out; omega)
                                              have HS2 := Lib.hid (show ((wr.drewN nq).setCell ⟨gm, i, none⟩ (.int .i64 on)).ownsRow V9.heap.size 3 1 (.slice (some ⟨gm, 0, none⟩) m c1) m ((MX (i + 1)).map (Value.int .i64)) ∧ Below V9.heap.size V9 ((wr.drewN nq).setCell ⟨gm, i, none⟩ (.int .i64 on)) from ⟨by
                                                have h := own_set (w := wr.drewN nq) (g := gm) (k := i) HQ.out.1 rfl (.int .i64 on)
                                                rw [← List.map_set, HS1.out] at h
                                                exact h, below_set1 (below_drewN HQ.out.2 nq) HGM.out⟩)
                                              go_wp2_with fail
                                              go_roundw
                                              case rel => exact ⟨i + 1, by omega, by go_num, HS2.out⟩
                                              case measure => simp [intOf]; omega
                                            · have HS1 := Lib.hid (HNI.out hr)
                                              have rb : ((r : Int) == (bn : Int)) = false := by rw [beq_eq_false_iff_ne]; omega
                                              have rb2 : (r : Int) ≠ (bn : Int) := by omega
                                              go_quiet (fail)
                                              have HS2 := Lib.hid (show (wr.drewN nq).ownsRow V9.heap.size 3 1 (.slice (some ⟨gm, 0, none⟩) m c1) m ((MX (i + 1)).map (Value.int .i64)) ∧ Below V9.heap.size V9 (wr.drewN nq) from ⟨by rw [← HS1.out]; exact HQ.out.1, below_drewN HQ.out.2 nq⟩)
                                              go_wp2_with fail
                                              go_roundw
                                              case rel => exact ⟨i + 1, by omega, by go_num, HS2.out⟩
                                              case measure => simp [intOf]; omega
                                          · obtain rfl : m = i := by omega
                                            have i1 : ¬ (m : Int) < (m : Int) := by omega
                                            have hb := HQ.out.2
                                            have HRW := Lib.hid (show Row wr (some ⟨gm, 0, none⟩) m c1 (setS L bn dn on) from ⟨by rw [setS_length]; exact HM.out, by have := own_base HQ.out.1; rw [HALL.out] at this; exact this⟩)
                                            have P7 := Lib.hid (P6.out.kept hb)
                                            have O7 := Lib.hid (O6.out.kept hb)
                                            have K7 := Lib.hid (K6.out.kept hb)
                                            have Q7 := Lib.hid (Q6.out.kept hb)
                                            have W7 := Lib.hid (W6.out.kept hb)
                                            have HB7 := Lib.hid (HB6.out.trans (hb.mono (Below.size HB6.out)))
                                            clear HQ
                                            clear hb HB6 P6 O6 K6 Q6 W6
                                            obtain ⟨oP0, oP1, oP2, oP3⟩ := P7.out.cells
                                            go_wp2_with fail
                                            clear oP0 oP1 oP2 oP3
                                            refine (DOF.out _ _ _ HRW.out).mono ?_; rintro q w8 ⟨rfl, hb⟩
                                            have P8 := Lib.hid (P7.out.kept hb)
                                            have O8 := Lib.hid (O7.out.kept hb)
                                            have K8 := Lib.hid (K7.out.kept hb)
                                            have Q8 := Lib.hid (Q7.out.kept hb)
                                            have W8 := Lib.hid (W7.out.kept hb)
                                            have HB8 := Lib.hid (HB7.out.trans (hb.mono (Below.size HB7.out)))
                                            clear hb HB7 P7 O7 K7 Q7 W7
                                            obtain ⟨⟨oW0, oW1, oW2, oW3⟩, fW0, fW1, fW2, fW3⟩ := And.intro W8.out.cells W8.out.free
                                            go_wp2_with fail
                                            clear oW0 oW1 oW2 oW3 fW0 fW1 fW2 fW3
                                            have W9 := Lib.hid (W8.out.set4 (1) ((e : Int)) (x) ss)
                                            have P9 := Lib.hid (P8.out.heap (heap_set4 w8 bW (.int .i64 (1)) (.int .i64 ((e : Int))) (.int .i64 (x)) (.string ss) _ HNE.out.1.2.2.1.symm))
                                            have O9 := Lib.hid (O8.out.heap (heap_set4 w8 bW (.int .i64 (1)) (.int .i64 ((e : Int))) (.int .i64 (x)) (.string ss) _ HNE.out.1.2.2.2.1.symm))
                                            have K9 := Lib.hid (K8.out.other W8.out (heap_set4 w8 bW (.int .i64 (1)) (.int .i64 ((e : Int))) (.int .i64 (x)) (.string ss)))
                                            have Q9 := Lib.hid (Q8.out.heap (heap_set4 w8 bW (.int .i64 (1)) (.int .i64 ((e : Int))) (.int .i64 (x)) (.string ss) _ HNE.out.1.2.2.2.2))
                                            have HB9 := Lib.hid (below_set4 (u0 := .int .i64 (1)) (u1 := .int .i64 ((e : Int))) (u2 := .int .i64 (x)) (u3 := .string ss) HB8.out HNE.out.2.2)
                                            generalize (((w8.setCell ⟨bW, 0, none⟩ (.int .i64 1)).setCell ⟨bW, 1, none⟩ (.int .i64 (e : Int))).setCell ⟨bW, 2, none⟩ (.int .i64 x)).setCell ⟨bW, 3, none⟩ (.string ss) = V8 at *
                                            clear HB8 P8 O8 K8 Q8 W8
                                            go_meet
                                            exact ⟨0, 1, (e : Int), x, ss, by first | trivial | rfl, by first | trivial | rfl, .inr ⟨rfl, e, _, HG9.out, rfl, rfl, HSS.out⟩, P9.out, O9.out, Q9.out, W9.out, K9.out, HB9.out⟩
                                    · as_aux_lemma =>
                                        obtain rfl : ss = ⟨#[]⟩ := hss
                                        have KC : od < 0 ∨ (0 ≤ od ∧ (e : Int) < od) ∨ (∃ dn : Nat, od = dn ∧ dn ≤ e ∧ (ob < 0 ∨ (0 ≤ ob ∧ ((2 ^ dn : Nat) : Int) ≤ ob) ∨ ((0 ≤ ob ∧ ob < ((2 ^ dn : Nat) : Int)) ∧ (on < 2 ∨ (2 ≤ on ∧ 64 ≤ on))))) := by
                                          by_cases k1 : od < 0
                                          · exact .inl k1
                                          by_cases k2 : (e : Int) < od
                                          · exact .inr (.inl ⟨by omega, k2⟩)
                                          obtain ⟨dn, rfl⟩ : ∃ dn : Nat, od = dn := ⟨od.toNat, by omega⟩
                                          refine .inr (.inr ⟨dn, rfl, by omega, ?_⟩)
                                          by_cases k3 : ob < 0
                                          · exact .inl k3
                                          by_cases k4 : ((2 ^ dn : Nat) : Int) ≤ ob
                                          · exact .inr (.inl ⟨by omega, k4⟩)
                                          refine .inr (.inr ⟨⟨by omega, by omega⟩, ?_⟩)
                                          by_cases k5 : on < 2
                                          · exact .inl k5
                                          by_cases k6 : 64 ≤ on
                                          · exact .inr ⟨by omega, k6⟩
                                          exact absurd ⟨⟨by omega, by omega⟩, by rw [Int.toNat_natCast]; exact ⟨by omega, by omega⟩, ⟨by omega, by omega⟩⟩ hmay
                                        have HKC := Lib.hid KC
                                        clear KC hmay HDC HHC HSC
                                        obtain ⟨oP0, oP1, oP2, oP3⟩ := P3.out.cells
                                        obtain ⟨oO0, oO1, oO2, oO3⟩ := O3.out.cells
                                        go_wp2_with fail
                                        clear oP0 oP1 oP2 oP3 oO0 oO1 oO2 oO3
                                        refine (SE.out _).mono ?_; rintro q w4 ⟨rfl, hb⟩
                                        have P4 := Lib.hid (P3.out.kept hb)
                                        have O4 := Lib.hid (O3.out.kept hb)
                                        have K4 := Lib.hid (K3.out.kept hb)
                                        have V4 := Lib.hid (V3.out.kept hb)
                                        have Q4 := Lib.hid (Q3.out.kept hb)
                                        have W4 := Lib.hid (W3.out.kept hb)
                                        have HB4 := Lib.hid (HB3.out.trans (hb.mono (Below.size HB3.out)))
                                        clear hb HB3 P3 O3 K3 V3 Q3 W3
                                        clear SE
                                        obtain ⟨oP0, oP1, oP2, oP3⟩ := P4.out.cells
                                        obtain ⟨oO0, oO1, oO2, oO3⟩ := O4.out.cells
                                        obtain ⟨⟨oQ0, oQ1, oQ2, oQ3⟩, fQ0, fQ1, fQ2, fQ3⟩ := And.intro Q4.out.cells Q4.out.free
                                        go_upto_region 23 with fail
                                        clear oP0 oP1 oP2 oP3 oO0 oO1 oO2 oO3
                                        clear oQ0 oQ1 oQ2 oQ3 fQ0 fQ1 fQ2 fQ3
                                        have Q5 := Lib.hid (Q4.out.set4 (0) (0) (0) ⟨#[]⟩)
                                        have P5 := Lib.hid (P4.out.heap (heap_set4 w4 bQ (.int .i64 (0)) (.int .i64 (0)) (.int .i64 (0)) (.string ⟨#[]⟩) _ HNE.out.1.1.symm))
                                        have O5 := Lib.hid (O4.out.heap (heap_set4 w4 bQ (.int .i64 (0)) (.int .i64 (0)) (.int .i64 (0)) (.string ⟨#[]⟩) _ HNE.out.1.2.1.symm))
                                        have K5 := Lib.hid (K4.out.other Q4.out (heap_set4 w4 bQ (.int .i64 (0)) (.int .i64 (0)) (.int .i64 (0)) (.string ⟨#[]⟩)))
                                        have W5 := Lib.hid (W4.out.heap (heap_set4 w4 bQ (.int .i64 (0)) (.int .i64 (0)) (.int .i64 (0)) (.string ⟨#[]⟩) _ HNE.out.1.2.2.2.2.symm))
                                        have HB5 := Lib.hid (below_set4 (u0 := .int .i64 (0)) (u1 := .int .i64 (0)) (u2 := .int .i64 (0)) (u3 := .string ⟨#[]⟩) HB4.out HNE.out.2.1)
                                        generalize (((w4.setCell ⟨bQ, 0, none⟩ (.int .i64 0)).setCell ⟨bQ, 1, none⟩ (.int .i64 0)).setCell ⟨bQ, 2, none⟩ (.int .i64 0)).setCell ⟨bQ, 3, none⟩ (.string ⟨#[]⟩) = V7 at *
                                        clear HB4 P4 O4 K4 V4 Q4 W4
                                        rcases HKC.out with k1 | ⟨k1, k2⟩ | ⟨dn, rfl, k2, k3 | ⟨k3, k4⟩ | ⟨⟨k3, k4⟩, k5 | ⟨k5, k6⟩⟩⟩
                                        · clear HKC
                                          have t1 : decide (od < 0) = true := decide_eq_true (by omega)
                                          obtain ⟨oP0, oP1, oP2, oP3⟩ := P5.out.cells
                                          obtain ⟨oO0, oO1, oO2, oO3⟩ := O5.out.cells
                                          go_quiet (fail)
                                          clear oP0 oP1 oP2 oP3 oO0 oO1 oO2 oO3
                                          have hb := below_drewN (Below.refl V7.heap.size V7) nq
                                          have P6 := Lib.hid (P5.out.kept hb)
                                          have O6 := Lib.hid (O5.out.kept hb)
                                          have K6 := Lib.hid (K5.out.kept hb)
                                          have Q6 := Lib.hid (Q5.out.kept hb)
                                          have W6 := Lib.hid (W5.out.kept hb)
                                          have HB6 := Lib.hid (HB5.out.trans (hb.mono (Below.size HB5.out)))
                                          clear hb HB5 P5 O5 K5 Q5 W5
                                          go_wp2_with fail
                                          go_meet
                                          exact ⟨1, 0, 0, 0, ⟨#[]⟩, by first | trivial | rfl, by first | trivial | rfl, .inl (by omega), P6.out, O6.out, Q6.out, W6.out, K6.out, HB6.out⟩
                                        · clear HKC
                                          have t1 : decide (od < 0) = false := decide_eq_false (by omega)
                                          have t2 : decide (od > (e : Int)) = true := decide_eq_true (by omega)
                                          have t2b : decide ((e : Int) < od) = true := decide_eq_true (by omega)
                                          obtain ⟨oP0, oP1, oP2, oP3⟩ := P5.out.cells
                                          obtain ⟨oO0, oO1, oO2, oO3⟩ := O5.out.cells
                                          go_quiet (fail)
                                          clear oP0 oP1 oP2 oP3 oO0 oO1 oO2 oO3
                                          have hb := below_drewN (Below.refl V7.heap.size V7) nq
                                          have P6 := Lib.hid (P5.out.kept hb)
                                          have O6 := Lib.hid (O5.out.kept hb)
                                          have K6 := Lib.hid (K5.out.kept hb)
                                          have Q6 := Lib.hid (Q5.out.kept hb)
                                          have W6 := Lib.hid (W5.out.kept hb)
                                          have HB6 := Lib.hid (HB5.out.trans (hb.mono (Below.size HB5.out)))
                                          clear hb HB5 P5 O5 K5 Q5 W5
                                          go_wp2_with fail
                                          go_meet
                                          exact ⟨1, 0, 0, 0, ⟨#[]⟩, by first | trivial | rfl, by first | trivial | rfl, .inl (by omega), P6.out, O6.out, Q6.out, W6.out, K6.out, HB6.out⟩
                                        · clear HKC
                                          have t1 : decide ((dn : Int) < 0) = false := decide_eq_false (by omega)
                                          have t2 : decide ((dn : Int) > (e : Int)) = false := decide_eq_false (by omega)
                                          have t2b : decide ((e : Int) < (dn : Int)) = false := decide_eq_false (by omega)
                                          have u2 : ¬ ((e : Int) < (dn : Int)) := by omega
                                          have u2n : ¬ (e < dn) := by omega
                                          have u2m : decide (e < dn) = false := decide_eq_false u2n
                                          have t3 : decide (ob < 0) = true := decide_eq_true (by omega)
                                          obtain ⟨oP0, oP1, oP2, oP3⟩ := P5.out.cells
                                          obtain ⟨oO0, oO1, oO2, oO3⟩ := O5.out.cells
                                          go_quiet (fail)
                                          clear oP0 oP1 oP2 oP3 oO0 oO1 oO2 oO3
                                          have hb := below_drewN (Below.refl V7.heap.size V7) nq
                                          have P6 := Lib.hid (P5.out.kept hb)
                                          have O6 := Lib.hid (O5.out.kept hb)
                                          have K6 := Lib.hid (K5.out.kept hb)
                                          have Q6 := Lib.hid (Q5.out.kept hb)
                                          have W6 := Lib.hid (W5.out.kept hb)
                                          have HB6 := Lib.hid (HB5.out.trans (hb.mono (Below.size HB5.out)))
                                          clear hb HB5 P5 O5 K5 Q5 W5
                                          go_wp2_with fail
                                          go_meet
                                          exact ⟨1, 0, 0, 0, ⟨#[]⟩, by first | trivial | rfl, by first | trivial | rfl, .inl (by omega), P6.out, O6.out, Q6.out, W6.out, K6.out, HB6.out⟩
                                        · clear HKC
                                          have t1 : decide ((dn : Int) < 0) = false := decide_eq_false (by omega)
                                          have t2 : decide ((dn : Int) > (e : Int)) = false := decide_eq_false (by omega)
                                          have t2b : decide ((e : Int) < (dn : Int)) = false := decide_eq_false (by omega)
                                          have u2 : ¬ ((e : Int) < (dn : Int)) := by omega
                                          have u2n : ¬ (e < dn) := by omega
                                          have u2m : decide (e < dn) = false := decide_eq_false u2n
                                          have t3 : decide (ob < 0) = false := decide_eq_false (by omega)
                                          have hdn5 : dn ≤ 5 := by have := HL5.out; omega
                                          have mn1 : min (dn : Int) 9 = (dn : Int) := by omega
                                          have mx1 : max (dn : Int) 0 = (dn : Int) := by omega
                                          have HSH := Lib.hid (shl_val dn (by omega))
                                          have HSH2 := Lib.hid (show wrap64 ((2 : Int) ^ dn) = ((2 ^ dn : Nat) : Int) from by rw [← HSH.out, Int.toNat_natCast, Nat.min_eq_left (by omega)])
                                          have dn0 : (0 : Int) ≤ (dn : Int) := by omega
                                          have dn0b : ¬ ((dn : Int) < 0) := by omega
                                          generalize 2 ^ dn = N at *
                                          have t4 : decide (ob ≥ (N : Int)) = true := decide_eq_true (by omega)
                                          have t4b : decide ((N : Int) ≤ ob) = true := decide_eq_true (by omega)
                                          have SH := HSH.out
                                          have SH2 := HSH2.out
                                          clear HSH HSH2
                                          obtain ⟨oP0, oP1, oP2, oP3⟩ := P5.out.cells
                                          obtain ⟨oO0, oO1, oO2, oO3⟩ := O5.out.cells
                                          go_quiet (fail)
                                          clear oP0 oP1 oP2 oP3 oO0 oO1 oO2 oO3
                                          have hb := below_drewN (Below.refl V7.heap.size V7) nq
                                          have P6 := Lib.hid (P5.out.kept hb)
                                          have O6 := Lib.hid (O5.out.kept hb)
                                          have K6 := Lib.hid (K5.out.kept hb)
                                          have Q6 := Lib.hid (Q5.out.kept hb)
                                          have W6 := Lib.hid (W5.out.kept hb)
                                          have HB6 := Lib.hid (HB5.out.trans (hb.mono (Below.size HB5.out)))
                                          clear hb HB5 P5 O5 K5 Q5 W5
                                          go_wp2_with fail
                                          go_meet
                                          exact ⟨1, 0, 0, 0, ⟨#[]⟩, by first | trivial | rfl, by first | trivial | rfl, .inl (by omega), P6.out, O6.out, Q6.out, W6.out, K6.out, HB6.out⟩
                                        · clear HKC
                                          have t1 : decide ((dn : Int) < 0) = false := decide_eq_false (by omega)
                                          have t2 : decide ((dn : Int) > (e : Int)) = false := decide_eq_false (by omega)
                                          have t2b : decide ((e : Int) < (dn : Int)) = false := decide_eq_false (by omega)
                                          have u2 : ¬ ((e : Int) < (dn : Int)) := by omega
                                          have u2n : ¬ (e < dn) := by omega
                                          have u2m : decide (e < dn) = false := decide_eq_false u2n
                                          have t3 : decide (ob < 0) = false := decide_eq_false (by omega)
                                          have hdn5 : dn ≤ 5 := by have := HL5.out; omega
                                          have mn1 : min (dn : Int) 9 = (dn : Int) := by omega
                                          have mx1 : max (dn : Int) 0 = (dn : Int) := by omega
                                          have HSH := Lib.hid (shl_val dn (by omega))
                                          have HSH2 := Lib.hid (show wrap64 ((2 : Int) ^ dn) = ((2 ^ dn : Nat) : Int) from by rw [← HSH.out, Int.toNat_natCast, Nat.min_eq_left (by omega)])
                                          have dn0 : (0 : Int) ≤ (dn : Int) := by omega
                                          have dn0b : ¬ ((dn : Int) < 0) := by omega
                                          generalize 2 ^ dn = N at *
                                          have t4 : decide (ob ≥ (N : Int)) = false := decide_eq_false (by omega)
                                          have t4b : decide ((N : Int) ≤ ob) = false := decide_eq_false (by omega)
                                          have t5 : decide (on < 2) = true := decide_eq_true (by omega)
                                          have SH := HSH.out
                                          have SH2 := HSH2.out
                                          clear HSH HSH2
                                          obtain ⟨oP0, oP1, oP2, oP3⟩ := P5.out.cells
                                          obtain ⟨oO0, oO1, oO2, oO3⟩ := O5.out.cells
                                          go_quiet (fail)
                                          clear oP0 oP1 oP2 oP3 oO0 oO1 oO2 oO3
                                          have hb := below_drewN (Below.refl V7.heap.size V7) nq
                                          have P6 := Lib.hid (P5.out.kept hb)
                                          have O6 := Lib.hid (O5.out.kept hb)
                                          have K6 := Lib.hid (K5.out.kept hb)
                                          have Q6 := Lib.hid (Q5.out.kept hb)
                                          have W6 := Lib.hid (W5.out.kept hb)
                                          have HB6 := Lib.hid (HB5.out.trans (hb.mono (Below.size HB5.out)))
                                          clear hb HB5 P5 O5 K5 Q5 W5
                                          go_wp2_with fail
                                          go_meet
                                          exact ⟨1, 0, 0, 0, ⟨#[]⟩, by first | trivial | rfl, by first | trivial | rfl, .inl (by omega), P6.out, O6.out, Q6.out, W6.out, K6.out, HB6.out⟩
                                        · clear HKC
                                          have t1 : decide ((dn : Int) < 0) = false := decide_eq_false (by omega)
                                          have t2 : decide ((dn : Int) > (e : Int)) = false := decide_eq_false (by omega)
                                          have t2b : decide ((e : Int) < (dn : Int)) = false := decide_eq_false (by omega)
                                          have u2 : ¬ ((e : Int) < (dn : Int)) := by omega
                                          have u2n : ¬ (e < dn) := by omega
                                          have u2m : decide (e < dn) = false := decide_eq_false u2n
                                          have t3 : decide (ob < 0) = false := decide_eq_false (by omega)
                                          have hdn5 : dn ≤ 5 := by have := HL5.out; omega
                                          have mn1 : min (dn : Int) 9 = (dn : Int) := by omega
                                          have mx1 : max (dn : Int) 0 = (dn : Int) := by omega
                                          have HSH := Lib.hid (shl_val dn (by omega))
                                          have HSH2 := Lib.hid (show wrap64 ((2 : Int) ^ dn) = ((2 ^ dn : Nat) : Int) from by rw [← HSH.out, Int.toNat_natCast, Nat.min_eq_left (by omega)])
                                          have dn0 : (0 : Int) ≤ (dn : Int) := by omega
                                          have dn0b : ¬ ((dn : Int) < 0) := by omega
                                          generalize 2 ^ dn = N at *
                                          have t4 : decide (ob ≥ (N : Int)) = false := decide_eq_false (by omega)
                                          have t4b : decide ((N : Int) ≤ ob) = false := decide_eq_false (by omega)
                                          have t5 : decide (on < 2) = false := decide_eq_false (by omega)
                                          have t6 : decide (on ≥ 64) = true := decide_eq_true (by omega)
                                          have t6b : decide (64 ≤ on) = true := decide_eq_true (by omega)
                                          have SH := HSH.out
                                          have SH2 := HSH2.out
                                          clear HSH HSH2
                                          obtain ⟨oP0, oP1, oP2, oP3⟩ := P5.out.cells
                                          obtain ⟨oO0, oO1, oO2, oO3⟩ := O5.out.cells
                                          go_quiet (fail)
                                          clear oP0 oP1 oP2 oP3 oO0 oO1 oO2 oO3
                                          have hb := below_drewN (Below.refl V7.heap.size V7) nq
                                          have P6 := Lib.hid (P5.out.kept hb)
                                          have O6 := Lib.hid (O5.out.kept hb)
                                          have K6 := Lib.hid (K5.out.kept hb)
                                          have Q6 := Lib.hid (Q5.out.kept hb)
                                          have W6 := Lib.hid (W5.out.kept hb)
                                          have HB6 := Lib.hid (HB5.out.trans (hb.mono (Below.size HB5.out)))
                                          clear hb HB5 P5 O5 K5 Q5 W5
                                          go_wp2_with fail
                                          go_meet
                                          exact ⟨1, 0, 0, 0, ⟨#[]⟩, by first | trivial | rfl, by first | trivial | rfl, .inl (by omega), P6.out, O6.out, Q6.out, W6.out, K6.out, HB6.out⟩
                              case rest =>
                                as_aux_lemma =>
                                  obtain ⟨er, kq, dq, xq, sq, hs1, hs2, hq⟩ := hcut
                                  subst hs1 hs2
                                  clear P3 O3 Q3 W3 K3 HDC HHC HSC HM HVC hm1 hm32 V3
                                  have HREL := Lib.hid hq.out.1
                                  have P0 := Lib.hid hq.out.2.1
                                  have O0 := Lib.hid hq.out.2.2.1
                                  have Q0 := Lib.hid hq.out.2.2.2.1
                                  have W0 := Lib.hid hq.out.2.2.2.2.1
                                  have K0 := Lib.hid hq.out.2.2.2.2.2.1
                                  have HB0 := Lib.hid hq.out.2.2.2.2.2.2
                                  clear hq
                                  have nqq := neq_same kq dq xq sq
                                  obtain ⟨oQ0, oQ1, oQ2, oQ3⟩ := Q0.out.cells
                                  obtain ⟨oW0, oW1, oW2, oW3⟩ := W0.out.cells
                                  go_upto_if 249 with fail
                                  clear oQ0 oQ1 oQ2 oQ3 oW0 oW1 oW2 oW3
                                  clear nqq
                                  go_cut [] (fun wx => Hid (∃ (e9 : Nat) (x9 : Int) (L9 : List Int), GoodD L9 e9 ∧ PBox wx bP 1 e9 x9 (str (mkD L9)) ∧ OBox wx bO ok ob od on ∧ Book w.heap.size wx bB es fs ls ls ∧ Below w.heap.size w wx))
                                  case first =>
                                    as_aux_lemma =>
                                      rcases HREL.out with her | ⟨rfl, e9, L9, hg9, rfl, rfl, hsq⟩
                                      · have h1 : (er == 0) = false := by rw [beq_eq_false_iff_ne]; exact her
                                        go_wp2_with fail
                                        go_meet
                                        exact ⟨e, x, L, HG.out, by rw [← HS.out]; exact P0.out, O0.out, K0.out, HB0.out⟩
                                      · have HSQ := Lib.hid hsq
                                        have HG9 := Lib.hid hg9
                                        clear hsq hg9
                                        obtain ⟨⟨oP0, oP1, oP2, oP3⟩, fP0, fP1, fP2, fP3⟩ := And.intro P0.out.cells P0.out.free
                                        obtain ⟨oQ0, oQ1, oQ2, oQ3⟩ := Q0.out.cells
                                        go_wp2_with fail
                                        clear oP0 oP1 oP2 oP3 fP0 fP1 fP2 fP3
                                        clear oQ0 oQ1 oQ2 oQ3
                                        have P1 := Lib.hid (P0.out.set4 (1) ((e9 : Int)) (xq) sq)
                                        have O1 := Lib.hid (O0.out.heap (heap_set4 wc bP (.int .i64 (1)) (.int .i64 ((e9 : Int))) (.int .i64 (xq)) (.string sq) _ HNO.out))
                                        have K1 := Lib.hid (K0.out.other P0.out (heap_set4 wc bP (.int .i64 (1)) (.int .i64 ((e9 : Int))) (.int .i64 (xq)) (.string sq)))
                                        have HB1 := Lib.hid (below_set4 (u0 := .int .i64 (1)) (u1 := .int .i64 ((e9 : Int))) (u2 := .int .i64 (xq)) (u3 := .string sq) HB0.out HLE.out)
                                        generalize (((wc.setCell ⟨bP, 0, none⟩ (.int .i64 1)).setCell ⟨bP, 1, none⟩ (.int .i64 (e9 : Int))).setCell ⟨bP, 2, none⟩ (.int .i64 xq)).setCell ⟨bP, 3, none⟩ (.string sq) = V9 at *
                                        clear HB0 P0 O0 K0
                                        go_meet
                                        exact ⟨e9, xq, L9, HG9.out, by rw [← HSQ.out]; exact P1.out, O1.out, K1.out, HB1.out⟩
                                  case rest =>
                                    as_aux_lemma =>
                                      obtain ⟨e9, x9, L9, hb1, hb2, hb3, hb4, hb5⟩ := hcut.out
                                      clear hcut P0 O0 Q0 W0 K0 HB0 HREL HG HS
                                      have HG := Lib.hid hb1
                                      have P0 := Lib.hid hb2
                                      have O0 := Lib.hid hb3
                                      have K0 := Lib.hid hb4
                                      have HB0 := Lib.hid hb5
                                      have EN := Lib.hid (ent_some x9 L9 e9 hb1)
                                      have AA := Lib.hid (all_some x9 L9 e9 hb1)
                                      have DE := Lib.hid (depth_some x9 L9 e9 hb1)
                                      have ATI := Lib.hid (at_in x9 L9 e9 hb1)
                                      have ATO := Lib.hid (at_out x9 L9 e9 hb1)
                                      have HMX := Lib.hid hb1.max
                                      unfold pv at EN AA DE ATI ATO
                                      obtain ⟨s9, hs9⟩ : ∃ s, s = str (mkD L9) := ⟨_, rfl⟩
                                      rw [← hs9] at EN AA DE ATI ATO P0
                                      have HS9 := Lib.hid hs9
                                      obtain ⟨m9, hm9⟩ : ∃ m, m = L9.length := ⟨_, rfl⟩
                                      rw [← hm9] at EN AA ATI ATO
                                      have HM9 := Lib.hid hm9
                                      have hm1 : 1 ≤ m9 := by rw [hm9]; exact hb1.len.1
                                      have hm32 : m9 ≤ 32 := by rw [hm9]; exact hb1.len.2
                                      clear hs9 hm9 hb1 hb2 hb3 hb4 hb5
                                      obtain ⟨oP0, oP1, oP2, oP3⟩ := P0.out.cells
                                      go_wp2_with fail
                                      clear oP0 oP1 oP2 oP3
                                      refine (EN.out _).mono ?_; rintro q w1 ⟨A, c, rfl, hV, hb⟩
                                      clear EN
                                      have P1 := Lib.hid (P0.out.kept hb)
                                      have O1 := Lib.hid (O0.out.kept hb)
                                      have K1 := Lib.hid (K0.out.kept hb)
                                      have HB1 := Lib.hid (HB0.out.trans (hb.mono (Below.size HB0.out)))
                                      have V1 := Lib.hid hV
                                      clear hV
                                      clear hb HB0 P0 O0 K0
                                      obtain ⟨oP0, oP1, oP2, oP3⟩ := P1.out.cells
                                      go_wp2_with fail
                                      clear oP0 oP1 oP2 oP3
                                      refine (AA.out _).mono ?_; rintro q w2 ⟨g, rfl, hle, hT, hb⟩
                                      clear AA
                                      have HFAR := Lib.hid (book_far K1.out (show w2.ownsRow w1.heap.size 3 1 (.slice (some ⟨g, 0, none⟩) m9 m9) m9 (L9.map (Value.int .i64)) from by have h := hT.owns hle HMX.out; rw [← HM9.out] at h; exact h) (Nat.le_refl _))
                                      have HGL := Lib.hid (show w.heap.size ≤ g from Nat.le_trans (Below.size HB1.out) hle)
                                      have P2 := Lib.hid (P1.out.kept hb)
                                      have O2 := Lib.hid (O1.out.kept hb)
                                      have K2 := Lib.hid (K1.out.kept hb)
                                      have V2 := Lib.hid (V1.out.kept hb)
                                      have HB2 := Lib.hid (HB1.out.trans (hb.mono (Below.size HB1.out)))
                                      have T2 := Lib.hid hT
                                      clear hT hle
                                      clear hb HB1 P1 O1 K1 V1
                                      have AD := Lib.hid (add_st K2.out HBK.out (Below.size HB2.out) HJ.out (A := some ⟨g, 0, none⟩) (n := m9) (c := m9) (l := L9) (show Row w2 (some ⟨g, 0, none⟩) m9 m9 L9 from by have h := T2.out.row HMX.out; rw [← HM9.out] at h; exact h) (by omega) (fun g' hg' => by simp [E.own, E.val, Value.ownBlock] at hg'; subst hg'; exact HGL.out) HFAR.out)
                                      go_wp2_with fail
                                      refine AD.out.mono ?_; rintro q w3 ⟨rfl, hkb, es2, fs2, ls2, hk2, hbk2⟩
                                      obtain ⟨cs, hcs⟩ := K2.out.block
                                      have P3 := Lib.hid (P2.out.keptB hkb hcs)
                                      have O3 := Lib.hid (O2.out.keptB hkb hcs)
                                      have V3 := Lib.hid (hkb.row V2.out hcs)
                                      have T3 := Lib.hid (T2.out.keptB hkb hcs)
                                      have K3 := Lib.hid hk2
                                      have HBK3 := Lib.hid hbk2
                                      have HB3 := Lib.hid (HB2.out.trans hkb.1)
                                      clear AD hkb hk2 hbk2 hcs P2 O2 K2 V2 T2 HB2 HBK HFAR HGL
                                      by_cases ho : 0 ≤ ob ∧ ob < (m9 : Int)
                                      · as_aux_lemma =>
                                          obtain ⟨i, rfl⟩ : ∃ i : Nat, ob = (i : Int) := ⟨ob.toNat, by omega⟩
                                          have hi : i < m9 := by omega
                                          have AT := Lib.hid (ATI.out i hi)
                                          obtain ⟨y, hy⟩ : ∃ y, y = L9.getD i 0 := ⟨_, rfl⟩
                                          rw [← hy] at AT
                                          have HY := Lib.hid hy
                                          clear hy ATI ATO ho
                                          have o1 : decide ((i : Int) ≥ 0) = true := decide_eq_true (by omega)
                                          have o2 : (i : Int) < (m9 : Int) := by omega
                                          have o3 : decide ((i : Int) < (m9 : Int)) = true := decide_eq_true o2
                                          have o4 : (0 : Int) ≤ (i : Int) := by omega
                                          obtain ⟨oP0, oP1, oP2, oP3⟩ := P3.out.cells
                                          obtain ⟨oO0, oO1, oO2, oO3⟩ := O3.out.cells
                                          go_wp2_with fail
                                          clear oP0 oP1 oP2 oP3 oO0 oO1 oO2 oO3
                                          refine (AT.out _).mono ?_; rintro q w4 ⟨rfl, hb⟩
                                          have P4 := Lib.hid (P3.out.kept hb)
                                          have O4 := Lib.hid (O3.out.kept hb)
                                          have K4 := Lib.hid (K3.out.kept hb)
                                          have V4 := Lib.hid (V3.out.kept hb)
                                          have T4 := Lib.hid (T3.out.kept hb)
                                          have HB4 := Lib.hid (HB3.out.trans (hb.mono (Below.size HB3.out)))
                                          clear hb HB3 P3 O3 K3 V3 T3
                                          clear AT
                                          have SI := Lib.hid (same_walk w4.heap.size (some ⟨g, 0, none⟩) A m9 m9 c L9 w4 (by omega) (show Nums w4.heap.size w4 (.slice (some ⟨g, 0, none⟩) m9 m9) L9 from by have h := T4.out.nums HMX.out; rw [← HM9.out] at h; exact h) V4.out.nums)
                                          obtain ⟨oP0, oP1, oP2, oP3⟩ := P4.out.cells
                                          obtain ⟨oO0, oO1, oO2, oO3⟩ := O4.out.cells
                                          go_wp2_with fail
                                          clear oP0 oP1 oP2 oP3 oO0 oO1 oO2 oO3
                                          refine SI.out.mono ?_; rintro q w9 ⟨rfl, nq, rfl⟩
                                          clear SI
                                          have hb := below_drewN (Below.refl w4.heap.size w4) nq
                                          have P5 := Lib.hid (P4.out.kept hb)
                                          have O5 := Lib.hid (O4.out.kept hb)
                                          have K5 := Lib.hid (K4.out.kept hb)
                                          have V5 := Lib.hid (V4.out.kept hb)
                                          have T5 := Lib.hid (T4.out.kept hb)
                                          have HB5 := Lib.hid (HB4.out.trans (hb.mono (Below.size HB4.out)))
                                          clear hb HB4 P4 O4 K4 V4 T4
                                          obtain ⟨gv, hgv, hcv⟩ := V5.out.at (i := i) (by omega)
                                          subst hgv
                                          rw [← HY.out] at hcv
                                          obtain ⟨oP0, oP1, oP2, oP3⟩ := P5.out.cells
                                          obtain ⟨oO0, oO1, oO2, oO3⟩ := O5.out.cells
                                          go_wp2_with fail
                                          clear oP0 oP1 oP2 oP3 oO0 oO1 oO2 oO3
                                          refine (DE.out _).mono ?_; rintro q w6 ⟨rfl, hb⟩
                                          have P6 := Lib.hid (P5.out.kept hb)
                                          have O6 := Lib.hid (O5.out.kept hb)
                                          have K6 := Lib.hid (K5.out.kept hb)
                                          have V6 := Lib.hid (V5.out.kept hb)
                                          have T6 := Lib.hid (T5.out.kept hb)
                                          have HB6 := Lib.hid (HB5.out.trans (hb.mono (Below.size HB5.out)))
                                          clear hb HB5 P5 O5 K5 V5 T5
                                          clear DE
                                          obtain ⟨oP0, oP1, oP2, oP3⟩ := P6.out.cells
                                          obtain ⟨oO0, oO1, oO2, oO3⟩ := O6.out.cells
                                          go_wp2_with fail
                                          clear oP0 oP1 oP2 oP3 oO0 oO1 oO2 oO3
                                          go_roundw
                                          case rel => exact ⟨j + 1, by omega, by go_num, 1, e9, x9, mkD L9, es2, fs2, ls2, by rw [← HS9.out]; exact P6.out, K6.out, HBK3.out, HB6.out⟩
                                          case measure => simp [intOf]; omega
                                      · as_aux_lemma =>
                                          have AT := Lib.hid (ATO.out ob ho)
                                          clear ATI ATO
                                          obtain ⟨oP0, oP1, oP2, oP3⟩ := P3.out.cells
                                          obtain ⟨oO0, oO1, oO2, oO3⟩ := O3.out.cells
                                          go_wp2_with fail
                                          clear oP0 oP1 oP2 oP3 oO0 oO1 oO2 oO3
                                          refine (AT.out _).mono ?_; rintro q w4 ⟨rfl, hb⟩
                                          have P4 := Lib.hid (P3.out.kept hb)
                                          have O4 := Lib.hid (O3.out.kept hb)
                                          have K4 := Lib.hid (K3.out.kept hb)
                                          have V4 := Lib.hid (V3.out.kept hb)
                                          have T4 := Lib.hid (T3.out.kept hb)
                                          have HB4 := Lib.hid (HB3.out.trans (hb.mono (Below.size HB3.out)))
                                          clear hb HB3 P3 O3 K3 V3 T3
                                          clear AT
                                          by_cases ho1 : 0 ≤ ob
                                          · have o1 : decide (ob ≥ 0) = true := decide_eq_true ho1
                                            have o1b : ob ≥ 0 := ho1
                                            have o2 : ¬ (ob < (m9 : Int)) := fun h => ho ⟨ho1, h⟩
                                            have o3 : decide (ob < (m9 : Int)) = false := decide_eq_false o2
                                            have SI := Lib.hid (same_walk w4.heap.size (some ⟨g, 0, none⟩) A m9 m9 c L9 w4 (by omega) (show Nums w4.heap.size w4 (.slice (some ⟨g, 0, none⟩) m9 m9) L9 from by have h := T4.out.nums HMX.out; rw [← HM9.out] at h; exact h) V4.out.nums)
                                            obtain ⟨oP0, oP1, oP2, oP3⟩ := P4.out.cells
                                            obtain ⟨oO0, oO1, oO2, oO3⟩ := O4.out.cells
                                            go_wp2_with fail
                                            clear oP0 oP1 oP2 oP3 oO0 oO1 oO2 oO3
                                            refine SI.out.mono ?_; rintro q w9 ⟨rfl, nq, rfl⟩
                                            clear SI
                                            have hb := below_drewN (Below.refl w4.heap.size w4) nq
                                            have P5 := Lib.hid (P4.out.kept hb)
                                            have O5 := Lib.hid (O4.out.kept hb)
                                            have K5 := Lib.hid (K4.out.kept hb)
                                            have V5 := Lib.hid (V4.out.kept hb)
                                            have T5 := Lib.hid (T4.out.kept hb)
                                            have HB5 := Lib.hid (HB4.out.trans (hb.mono (Below.size HB4.out)))
                                            clear hb HB4 P4 O4 K4 V4 T4
                                            obtain ⟨oP0, oP1, oP2, oP3⟩ := P5.out.cells
                                            obtain ⟨oO0, oO1, oO2, oO3⟩ := O5.out.cells
                                            go_wp2_with fail
                                            clear oP0 oP1 oP2 oP3 oO0 oO1 oO2 oO3
                                            refine (DE.out _).mono ?_; rintro q w6 ⟨rfl, hb⟩
                                            have P6 := Lib.hid (P5.out.kept hb)
                                            have O6 := Lib.hid (O5.out.kept hb)
                                            have K6 := Lib.hid (K5.out.kept hb)
                                            have V6 := Lib.hid (V5.out.kept hb)
                                            have T6 := Lib.hid (T5.out.kept hb)
                                            have HB6 := Lib.hid (HB5.out.trans (hb.mono (Below.size HB5.out)))
                                            clear hb HB5 P5 O5 K5 V5 T5
                                            clear DE
                                            obtain ⟨oP0, oP1, oP2, oP3⟩ := P6.out.cells
                                            obtain ⟨oO0, oO1, oO2, oO3⟩ := O6.out.cells
                                            go_wp2_with fail
                                            clear oP0 oP1 oP2 oP3 oO0 oO1 oO2 oO3
                                            go_roundw
                                            case rel => exact ⟨j + 1, by omega, by go_num, 1, e9, x9, mkD L9, es2, fs2, ls2, by rw [← HS9.out]; exact P6.out, K6.out, HBK3.out, HB6.out⟩
                                            case measure => simp [intOf]; omega
                                          · have o1 : decide (ob ≥ 0) = false := decide_eq_false ho1
                                            have o1b : ¬ (ob ≥ 0) := ho1
                                            have SI := Lib.hid (same_walk w4.heap.size (some ⟨g, 0, none⟩) A m9 m9 c L9 w4 (by omega) (show Nums w4.heap.size w4 (.slice (some ⟨g, 0, none⟩) m9 m9) L9 from by have h := T4.out.nums HMX.out; rw [← HM9.out] at h; exact h) V4.out.nums)
                                            obtain ⟨oP0, oP1, oP2, oP3⟩ := P4.out.cells
                                            obtain ⟨oO0, oO1, oO2, oO3⟩ := O4.out.cells
                                            go_wp2_with fail
                                            clear oP0 oP1 oP2 oP3 oO0 oO1 oO2 oO3
                                            refine SI.out.mono ?_; rintro q w9 ⟨rfl, nq, rfl⟩
                                            clear SI
                                            have hb := below_drewN (Below.refl w4.heap.size w4) nq
                                            have P5 := Lib.hid (P4.out.kept hb)
                                            have O5 := Lib.hid (O4.out.kept hb)
                                            have K5 := Lib.hid (K4.out.kept hb)
                                            have V5 := Lib.hid (V4.out.kept hb)
                                            have T5 := Lib.hid (T4.out.kept hb)
                                            have HB5 := Lib.hid (HB4.out.trans (hb.mono (Below.size HB4.out)))
                                            clear hb HB4 P4 O4 K4 V4 T4
                                            obtain ⟨oP0, oP1, oP2, oP3⟩ := P5.out.cells
                                            obtain ⟨oO0, oO1, oO2, oO3⟩ := O5.out.cells
                                            go_wp2_with fail
                                            clear oP0 oP1 oP2 oP3 oO0 oO1 oO2 oO3
                                            refine (DE.out _).mono ?_; rintro q w6 ⟨rfl, hb⟩
                                            have P6 := Lib.hid (P5.out.kept hb)
                                            have O6 := Lib.hid (O5.out.kept hb)
                                            have K6 := Lib.hid (K5.out.kept hb)
                                            have V6 := Lib.hid (V5.out.kept hb)
                                            have T6 := Lib.hid (T5.out.kept hb)
                                            have HB6 := Lib.hid (HB5.out.trans (hb.mono (Below.size HB5.out)))
                                            clear hb HB5 P5 O5 K5 V5 T5
                                            clear DE
                                            obtain ⟨oP0, oP1, oP2, oP3⟩ := P6.out.cells
                                            obtain ⟨oO0, oO1, oO2, oO3⟩ := O6.out.cells
                                            go_wp2_with fail
                                            clear oP0 oP1 oP2 oP3 oO0 oO1 oO2 oO3
                                            go_roundw
                                            case rel => exact ⟨j + 1, by omega, by go_num, 1, e9, x9, mkD L9, es2, fs2, ls2, by rw [← HS9.out]; exact P6.out, K6.out, HBK3.out, HB6.out⟩
                                            case measure => simp [intOf]; omega
                        · obtain rfl : n3 = j := by omega
                          have j1 : ¬ (n3 : Int) < (n3 : Int) := by omega
                          have AP := Lib.hid (apart_walk w.heap.size bB es fs ls wr K0.out (Below.size HB0.out) HBK.out.2.1 (by rw [HBK.out.1]; omega) HBK.out.2.2)
                          clear K0 HBK
                          go_wp2_with fail
                          refine AP.out.mono ?_; rintro q w9 ⟨rfl, hb⟩
                          have HB9 := Lib.hid (HB0.out.trans hb)
                          clear hb
                          go_wp2_with fail
                          go_ret
                          exact ⟨rfl, HB9.out⟩

/-! The row's step. -/
set_option maxRecDepth 100000 in
theorem lifted (os : Os) (started : os.Started) (H : Type) (enc : TypeId × Value → H) :
    ReturnsInHanded {} Try.checked os 3 .any (Rows.dirPlaysSpec.pre6 enc Try.prog Try.f3 Rows.dirPlaysRow.domain false) (Rows.dirPlaysSpec.post enc Try.prog Try.f3 false true false false) := by
  refine returnsInHanded_of_change (C := Try.checked) own started (by kernel_rfl) Try.func3
    (ChangeSpec.witness6 (enc := enc) (C := Try.checked) false ⟨#[], #[.int .i64 0, .agg #[.int .i64 0, .int .i64 0, .int .i64 0, .string ByteArray.empty], .bool false, .slice none 0 0], []⟩ 8 (by kernel_rfl) (by kernel_rfl) (by kernel_rfl) (by kernel_rfl)) ?_
  intro W base args ds gs before hval0 hW hcnd _
  have hval : ∀ (j : Nat) t v, Try.f3.params[j]? = some t → args[j]? = some v → Value.okWide Try.prog W .any base t v := hval0
  have hW' := hW
  obtain ⟨p, q, hA0, hV, rfl, hfz, hnd⟩ := hW
  have hA : DataW.TrodAll enc Try.prog W 0 (fun _ => true) true Try.f3.params.toList args.toList ds p := hA0
  rw [Try.params3] at hA hval
  obtain ⟨v0, vs0, d0, ds0, p0, q0, hargs, rfl, rfl, h0, r0⟩ := trodAll_cons hA
  obtain ⟨v1, vs1, d1, ds1, p1, q1, rfl, rfl, rfl, h1, r1⟩ := trodAll_cons r0
  obtain ⟨v2, vs2, d2, ds2, p2, q2, rfl, rfl, rfl, h2, r2⟩ := trodAll_cons r1
  obtain ⟨v3, vs3, d3, ds3, p3, q3, rfl, rfl, rfl, h3, r3⟩ := trodAll_cons r2
  obtain ⟨rfl, rfl, rfl⟩ := trodAll_nil r3
  obtain rfl : args = #[v0, v1, v2, v3] := by cases args; simp_all
  obtain ⟨rfl, rfl⟩ := trodVars_none hV
  obtain ⟨a0, rfl, rfl, rfl, w0⟩ := open_int Try.underlying3 (hval 0 3 v0 rfl rfl) h0
  obtain ⟨k1, s1, b1, z1, rfl, wk1, ws1, wb1, wz1, sh1⟩ := open_page (hval 1 23 v1 rfl rfl) h1
  obtain ⟨a2, rfl, rfl, rfl⟩ := open_bool Try.underlying4 (hval 2 4 v2 rfl rfl) h2
  obtain ⟨A3, n3, c3, rfl⟩ := okWide_slice Try.underlying24 (hval 3 24 v3 rfl rfl)
  have k3 := h3
  have lt3 : ∀ x ∈ p3, x.block < W.heap.size := by obtain ⟨m, hm⟩ := k3; exact DataW.trod_lt m _ _ _ hm
  obtain ⟨l3, w3, e3, f3⟩ := (by obtain ⟨fuel, hf⟩ := h3; exact ops_read hf (fun _ => rfl) : ∃ l, OpsL W A3 n3 l ∧ n3 ≤ c3 ∧ c3 ≤ maxLen)
  clear hA0 hval0
  refine (walk a0 k1 s1 b1 z1 a2 A3 n3 c3 l3 W w0 wk1 ws1 wb1 wz1 w3 (Nat.le_trans e3 f3)).mono fun e W' ⟨he, bel⟩ => ?_
  subst he
  exact ⟨_, rfl, _, _, _, [], _, [], hW', trodAll_mk1 (shut_bool Try.underlying4 _), (trodAll_cons_mk (shut_int Try.underlying3 w0) (trodAll_cons_mk (sh1 _ _) (trodAll_cons_mk (shut_bool Try.underlying4 _) (trodAll_cons_mk (Below.trod laidOut (by kernel_rfl) (of_decide_eq_true (by kernel_rfl)) k3 bel lt3) trodAll_mk0)))), rfl, bel.frame _, fun h => by cases h⟩

theorem over : Rows.dirPlaysRow.holds Try.pinned (OpenSpec.ofChange Rows.dirPlaysSpec) :=
  OpenClaim.holds_of_wide 3 Try.f3 rfl rfl rfl rfl rfl rfl rfl ⟨rfl, rfl, rfl, rfl, rfl⟩ rfl rfl rfl rfl rfl (by kernel_rfl) Try.func3 (by kernel_rfl)
    (of_decide_eq_true (by kernel_rfl)) (by unfold Func.isWrapper; first | (rw [if_pos (by decide +kernel)]; kernel_rfl) | (rw [if_neg (by decide +kernel)]; exact ⟨rfl, rfl⟩))
    (fun os started H enc _ => lifted os started H enc)

/-- The statement. -/
theorem proved : Rows.DirPlaysSaid := over
end Go.Proofs.Ytojfnafahlpjjaa.dirPlays
