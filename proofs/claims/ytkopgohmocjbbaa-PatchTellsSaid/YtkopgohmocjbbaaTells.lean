/- For every page, every two texts and every list of patches: Diff, Whole, Apply, Right and All answer as the document's own do; the list that was handed in stays. -/
import Derived.Test.YtkopgohmocjbbaaRows
import Derived.Test.YtkopgohmocjbbaaLent
import Derived.Deep.RegionHeld3
import Derived.StillTailTactics
import Derived.BigQuiet
import Derived.Laws.MakeOwn
import Derived.Deep.DeepCutAuto
import Derived.Deep.RegionLaw
import Derived.Lib.Hide
import Derived.WalkKit
import Derived.ProofKit
import Derived.OpenShut
import Derived.ChangeOld
import Derived.Below
import Derived.Carry
namespace Go.Proofs.Ytkopgohmocjbbaa.patchTells
open Go.ChangeShapes Go.WideShapes Go.ChangeAt Go.RowKit
set_option linter.unusedVariables false

theorem own : ownKnob Try.prog.godebug = none := by kernel_rfl
theorem laidOut : laidOutB Try.prog = true := by kernel_rfl

/-- What Whole answers, by its two cases. -/
theorem whole_in (k : Int) (Y : ByteArray) : (0 ≤ k ∧ k ≤ 63 ∧ (Y.size : Int) = 256 ∧ k = (wholeS k Y).pg ∧ (wholeS k Y).ofs = 0 ∧ Y = (wholeS k Y).bs ∧ okW k Y = true) ∨ ((0 ≤ k → k < 64 → (Y.size : Int) = 256 → False) ∧ (wholeS k Y).pg = 0 ∧ (wholeS k Y).ofs = 0 ∧ (wholeS k Y).bs = ⟨#[]⟩ ∧ okW k Y = false) := by
  by_cases h : (0 ≤ k ∧ k ≤ 63) ∧ Y.size = 256
  · have ho : okW k Y = true := decide_eq_true h
    have hw : wholeS k Y = whole k Y := by unfold wholeS; rw [ho]; rfl
    rw [hw]
    exact .inl ⟨h.1.1, h.1.2, by omega, rfl, rfl, rfl, ho⟩
  · have ho : okW k Y = false := decide_eq_false h
    have hw : wholeS k Y = nilP := by unfold wholeS; rw [ho]; rfl
    rw [hw]
    exact .inr ⟨fun a b c => h ⟨⟨a, by omega⟩, by omega⟩, rfl, rfl, rfl, ho⟩

set_option maxRecDepth 100000 in
set_option maxHeartbeats 16000000 in
theorem walk (k : Int) (s0 s1 : ByteArray) (raw : Bool) (A : Option Addr) (n c : Nat) (l : List Pt) (w : World) (wk : (Lit.int .i64 k).wf = true) (ws0 : s0.size ≤ maxLen) (ws1 : s1.size ≤ maxLen) (hl0 : PtsL w A n l) (hm : n ≤ maxLen) :
    Calls Try.prog 3 #[.int .i64 k, .string s0, .string s1, .bool raw, .slice A n c] w fun e w' => e = .returned (.bool true) ∧ Below w.heap.size w w' := by
  clear wk
  by_cases c0 : (400 : Int) < s0.size
  · as_aux_lemma =>
      have HB0 := Lib.hid (Below.refl w.heap.size w)
      have AL := Lib.hid alive_yes
      go_enter Try.func3, Try.ntmps3
      go_wp2_with fail
      refine (AL.out _).mono ?_; rintro e w1 ⟨rfl, hb⟩
      have HB1 := Lib.hid (HB0.out.trans (hb.mono (Below.size HB0.out)))
      clear hb HB0 
      go_wp2_with fail
      go_ret
      exact ⟨rfl, HB1.out⟩
  · by_cases c1 : (400 : Int) < s1.size
    · as_aux_lemma =>
        have HB0 := Lib.hid (Below.refl w.heap.size w)
        have AL := Lib.hid alive_yes
        go_enter Try.func3, Try.ntmps3
        go_wp2_with fail
        refine (AL.out _).mono ?_; rintro e w1 ⟨rfl, hb⟩
        have HB1 := Lib.hid (HB0.out.trans (hb.mono (Below.size HB0.out)))
        clear hb HB0 
        go_wp2_with fail
        go_ret
        exact ⟨rfl, HB1.out⟩
    · by_cases c2 : (20 : Int) < (n : Int)
      · as_aux_lemma =>
          have HB0 := Lib.hid (Below.refl w.heap.size w)
          have AL := Lib.hid alive_yes
          go_enter Try.func3, Try.ntmps3
          go_wp2_with fail
          refine (AL.out _).mono ?_; rintro e w1 ⟨rfl, hb⟩
          have HB1 := Lib.hid (HB0.out.trans (hb.mono (Below.size HB0.out)))
          clear hb HB0 
          go_wp2_with fail
          go_ret
          exact ⟨rfl, HB1.out⟩
      · obtain ⟨hn, hp⟩ := hl0
        have HN := Lib.hid hn
        have HP := Lib.hid hp
        have hN : (n : Int) ≤ 20 := by omega
        clear hn hp hm
        cases raw with
        | true =>
          have hX := ws0
          have hY := ws1
          generalize s0 = X at *
          generalize s1 = Y at *
          have WH := Lib.hid (fun w => whole_any k Y hY w)
          have HIN := Lib.hid (whole_in k Y)
          unfold pvP pv at WH
          generalize okW k Y = wo at *
          generalize wholeS k Y = ww at *
          obtain ⟨wk, wa, wS⟩ := ww
          dsimp only at WH HIN
          have DI := Lib.hid (fun w => diff_any k X Y hX hY w)
          have RD := Lib.hid (fun w => rdiff_any k X Y hX hY w)
          generalize difS k X.data.toList Y.data.toList = dd at *
          generalize okD k X.data.toList Y.data.toList = okd at *
          obtain ⟨dk, da, dS⟩ := dd
          have AP := Lib.hid (fun (p : Pt) (hs : p.bs.size ≤ maxLen) w => apply_any p.pg p.ofs p.bs X hs hX w)
          have RP := Lib.hid (fun (p : Pt) (hs : p.bs.size ≤ maxLen) w => rapply_any p.pg p.ofs p.bs X hs hX w)
          have AL2 := Lib.hid (fun (r : World) (g c2 : Nat) (h : Lent r g n c2 l) => all_walk (lc := c2) (page := k) (b := X) r (h.pts HP.out.2.1 (by unfold maxLen; omega)) HN.out (Nat.le_refl _) hX)
          have RL := Lib.hid (fun (r : World) (h : Pts w.heap.size r A l) (hs : w.heap.size ≤ r.heap.size) => rall_walk (lc := c) (page := k) (b := X) r h HN.out hs hX)
          generalize str (allS k X.data.toList l) = FS at *
          generalize allOk X.data.toList l = fo at *
          have hse := show (FS.toList == FS.toList) = true by simp
          have hse2 := show (dS.toList == dS.toList) = true by simp
          have hse3 := show (Y.toList == Y.toList) = true by simp
          unfold pvP pv at DI RD
          dsimp only at DI RD
          have hin : (0 ≤ k ∧ k ≤ 63 ∧ (Y.size : Int) = 256 ∧ k = wk ∧ wa = 0 ∧ Y = wS ∧ wo = true) ∨ ((0 ≤ k → k < 64 → (Y.size : Int) = 256 → False) ∧ wk = 0 ∧ wa = 0 ∧ wS = ⟨#[]⟩ ∧ wo = false) := HIN.out
          clear HIN
          clear hX hY
          have HB0 := Lib.hid (Below.refl w.heap.size w)
          have AL := Lib.hid alive_yes
          go_enter Try.func3, Try.ntmps3
          go_wp2_with fail
          refine (AL.out _).mono ?_; rintro e w1 ⟨rfl, hb⟩
          have HB1 := Lib.hid (HB0.out.trans (hb.mono (Below.size HB0.out)))
          clear hb HB0 
          go_wp2_with fail
          refine (DI.out _).mono ?_; rintro e w2 ⟨rfl, hb⟩
          have HB2 := Lib.hid (HB1.out.trans (hb.mono (Below.size HB1.out)))
          clear hb HB1 
          go_wp2_with fail
          have HD2 := Lib.hid (Box.new w2 (.int .i64 dk) (.int .i64 da) (.string dS))
          have hal := (Below.refl w2.heap.size w2).alloc (Nat.le_refl _) (.cells #[.int .i64 dk, .int .i64 da, .string dS] 26)
          replace HB2 := Lib.hid (HB2.out.trans (hal.mono (Below.size HB2.out)))
          clear hal
          obtain ⟨bHD, hbHD⟩ : ∃ bHD, bHD = w2.heap.size := ⟨_, rfl⟩
          generalize w2.alloc (.cells #[.int .i64 dk, .int .i64 da, .string dS] 26) = v2 at *
          rw [← hbHD] at HD2 ⊢
          clear hbHD
          refine (RD.out _).mono ?_; rintro e w3 ⟨rfl, hb⟩
          have HD3 := Lib.hid (HD2.out.kept hb)
          have HB3 := Lib.hid (HB2.out.trans (hb.mono (Below.size HB2.out)))
          clear hb HB2 HD2
          go_wp2_with fail
          have HE3 := Lib.hid (Box.new w3 (.int .i64 dk) (.int .i64 da) (.string dS))
          have hal := (Below.refl w3.heap.size w3).alloc (Nat.le_refl _) (.cells #[.int .i64 dk, .int .i64 da, .string dS] 26)
          replace HD3 := Lib.hid (HD3.out.below hal (Nat.le_refl _))
          replace HB3 := Lib.hid (HB3.out.trans (hal.mono (Below.size HB3.out)))
          clear hal
          obtain ⟨bHE, hbHE⟩ : ∃ bHE, bHE = w3.heap.size := ⟨_, rfl⟩
          generalize w3.alloc (.cells #[.int .i64 dk, .int .i64 da, .string dS] 26) = v3 at *
          rw [← hbHE] at HE3 ⊢
          clear hbHE
          refine (WH.out _).mono ?_; rintro e w4 ⟨rfl, hb⟩
          have HD4 := Lib.hid (HD3.out.kept hb)
          have HE4 := Lib.hid (HE3.out.kept hb)
          have HB4 := Lib.hid (HB3.out.trans (hb.mono (Below.size HB3.out)))
          clear hb HB3 HD3 HE3
          go_upto_region 8 with fail
          have HW4 := Lib.hid (Box.new w4 (.int .i64 wk) (.int .i64 wa) (.string wS))
          have hal := (Below.refl w4.heap.size w4).alloc (Nat.le_refl _) (.cells #[.int .i64 wk, .int .i64 wa, .string wS] 26)
          replace HD4 := Lib.hid (HD4.out.below hal (Nat.le_refl _))
          replace HE4 := Lib.hid (HE4.out.below hal (Nat.le_refl _))
          replace HB4 := Lib.hid (HB4.out.trans (hal.mono (Below.size HB4.out)))
          clear hal
          obtain ⟨bHW, hbHW⟩ : ∃ bHW, bHW = w4.heap.size := ⟨_, rfl⟩
          generalize w4.alloc (.cells #[.int .i64 wk, .int .i64 wa, .string wS] 26) = v4 at *
          rw [← hbHW] at HW4 ⊢
          clear hbHW
          go_cut [17] (fun s17 wx => s17 = .bool wo ∧ wx = v4)
          case first =>
            rcases hin with ⟨hi0, hi1, hi2, rfl, rfl, rfl, rfl⟩ | ⟨hno, rfl, rfl, rfl, rfl⟩
            · have hi3 : k < 64 := by omega
              go_wp2_with fail
              go_meet
              exact ⟨rfl, rfl⟩
            · by_cases j0 : 0 ≤ k
              · by_cases j1 : k < 64
                · have j2 : ((Y.size : Int) == 256) = false := by rw [beq_eq_false_iff_ne]; exact fun e => hno j0 j1 e
                  have j3 : ¬ (Y.size : Int) = 256 := fun e => hno j0 j1 e
                  go_wp2_with fail
                  go_meet
                  exact ⟨rfl, rfl⟩
                · go_wp2_with fail
                  go_meet
                  exact ⟨rfl, rfl⟩
              · go_wp2_with fail
                go_meet
                exact ⟨rfl, rfl⟩
          case rest =>
            obtain ⟨rfl, rfl⟩ := hcut
            obtain ⟨x0, x1, x2⟩ := HD4.out.cells
            obtain ⟨y0, y1, y2⟩ := HE4.out.cells
            obtain ⟨z0, z1, z2⟩ := HW4.out.cells
            have HBL := Lib.hid HB4.out
            clear HB4
            rcases hin with ⟨hi0, hi1, hi2, rfl, rfl, rfl, rfl⟩ | ⟨hno, rfl, rfl, rfl, rfl⟩
            · cases okd with
              | true => as_aux_lemma =>
                  go_wp2_with fail
                  clear x0 x1 x2 y0 y1 y2 z0 z1 z2 HD4 HE4 HW4 DI RD WH
                  go_loopw [118] (fun x wr => ∃ k1 : Nat, k1 ≤ n ∧ x = .int .i64 k1 ∧ Hid (Below w.heap.size w wr)) (fun x _ => n - (intOf x).toNat)
                  case atStart => exact ⟨0, Nat.zero_le _, rfl, HBL.out⟩
                  case round =>
                    obtain ⟨k1, hk, rfl, hq⟩ := hrel
                    have HQ := Lib.hid hq.out
                    clear hq
                    by_cases hlt : k1 < n
                    · have hkl : k1 < l.length := by rw [HN.out]; exact hlt
                      obtain ⟨bl, off, rfl, hbl, hpp⟩ := HP.out.1 k1 hkl
                      obtain ⟨c0, c1, c2⟩ := hpp.kept (w' := wr) hbl HQ.out
                      have HSZ := HP.out.size k1 hkl
                      have A1 := Lib.hid (AP.out _ HSZ)
                      have A2 := Lib.hid (RP.out _ HSZ)
                      have HR := Lib.hid (fun r => right_any (l.getD k1 nilP).pg (l.getD k1 nilP).ofs (l.getD k1 nilP).bs HSZ r)
                      have HRR := Lib.hid (fun r => rright_any (l.getD k1 nilP).pg (l.getD k1 nilP).ofs (l.getD k1 nilP).bs HSZ r)
                      generalize (l.getD k1 nilP) = q at *
                      obtain ⟨qk, qo, qb⟩ := q
                      dsimp only at c0 c1 c2 A1 A2 HR HRR
                      generalize str (applyS X.data.toList ⟨qk, qo, qb⟩) = xs at *
                      generalize applyOk X.data.toList ⟨qk, qo, qb⟩ = xo at *
                      generalize okP ⟨qk, qo, qb⟩ = rg at *
                      unfold pv at A1 A2 HR HRR
                      have hsx := show (xs.toList == xs.toList) = true by simp
                      have HX := Lib.hid (Box.new wr (.int .i64 qk) (.int .i64 qo) (.string qb))
                      have hA := (Below.refl wr.heap.size wr).alloc (Nat.le_refl _) (.cells #[.int .i64 qk, .int .i64 qo, .string qb] 26)
                      have HBW0 := Lib.hid (HQ.out.trans (hA.mono HQ.out.size))
                      clear hbl hpp hA HSZ
                      have b1 : (0 : Int) ≤ (k1 : Int) := by omega
                      have b2 : (k1 : Int) < (n : Int) := by omega
                      by_cases hlong : (400 : Int) < (qb.size : Int)
                      · go_wp2_with fail
                        go_ret
                        exact ⟨rfl, HBW0.out⟩
                      · go_wp2_with fail
                        clear c0 c1 c2
                        generalize wr.alloc (.cells #[.int .i64 qk, .int .i64 qo, .string qb] 26) = W0 at *
                        refine (A1.out _).mono ?_; rintro e w1 ⟨rfl, hb⟩
                        have HX1 := Lib.hid (HX.out.kept hb)
                        have HB1 := Lib.hid (HBW0.out.trans (hb.mono HBW0.out.size))
                        clear hb HX HBW0 HQ
                        obtain ⟨x0, x1, x2⟩ := HX1.out.cells
                        go_wp2_with fail
                        refine (A2.out _).mono ?_; rintro e W ⟨rfl, hb⟩
                        have HX2 := Lib.hid (HX1.out.kept hb)
                        have HBW := Lib.hid (HB1.out.trans (hb.mono HB1.out.size))
                        clear hb HX1 HB1 x0 x1 x2
                        obtain ⟨x0, x1, x2⟩ := HX2.out.cells
                        have X0 := fun r (h : Held W r) => h.cell x0
                        have X1 := fun r (h : Held W r) => h.cell x1
                        have X2 := fun r (h : Held W r) => h.cell x2
                        clear x0 x1 x2
                        go_upto_region 18 with fail
                        refine wp_region_noPanic ?_
                        refine wp_region_held_drew (S := Held W) (by kernel_rfl) ?_ (fun hHeld => ?_)
                        · exact Held.start _
                        refine wpAnyH_take (i := 0) (oi := { dst := some 138, op := Op.move (Operand.tmp 20), type := 9, pos := "law.go:47", after := #[], guard := none }) (v := .string xs) rfl (by kernel_rfl) (by kernel_rfl) (by kernel_rfl) (fun _ _ _ h => h) (Or.inl ⟨by rfl, fun w' hSw => by ((try dsimp only at hSw); go_simp)⟩) (by assumption) ?_
                        (try simp only [Act.put, List.setIfInBounds_toArray, List.set_cons_zero, List.set_cons_succ])
                        refine wpAnyH_take (i := 1) (oi := { dst := some 139, op := Op.move (Operand.tmp 22), type := 9, pos := "law.go:47", after := #[], guard := none }) (v := .string xs) rfl (by kernel_rfl) (by kernel_rfl) (by kernel_rfl) (fun _ _ _ h => h) (Or.inl ⟨by rfl, fun w' hSw => by ((try dsimp only at hSw); go_simp)⟩) (by assumption) ?_
                        (try simp only [Act.put, List.setIfInBounds_toArray, List.set_cons_zero, List.set_cons_succ])
                        refine wpAnyH_take (i := 2) (oi := { dst := some 140, op := Op.binOp BinOp.neq 9 (Operand.tmp 138) (Operand.tmp 139) 9, type := 4, pos := "law.go:47", after := #[{ on := 0, ground := Ground.data }, { on := 1, ground := Ground.data }], guard := none }) (v := .bool false) rfl (by kernel_rfl) (by kernel_rfl) (by kernel_rfl) (fun _ _ _ h => h) (Or.inl ⟨by rfl, fun w' hSw => by ((try dsimp only at hSw); go_simp)⟩) (by assumption) ?_
                        (try simp only [Act.put, List.setIfInBounds_toArray, List.set_cons_zero, List.set_cons_succ])
                        refine wpAnyH_take (i := 3) (oi := { dst := some 141, op := Op.move (Operand.tmp 140), type := 4, pos := "law.go:47", after := #[{ on := 2, ground := Ground.data }], guard := none }) (v := .bool false) rfl (by kernel_rfl) (by kernel_rfl) (by kernel_rfl) (fun _ _ _ h => h) (Or.inl ⟨by rfl, fun w' hSw => by ((try dsimp only at hSw); go_simp)⟩) (by assumption) ?_
                        (try simp only [Act.put, List.setIfInBounds_toArray, List.set_cons_zero, List.set_cons_succ])
                        refine wpAnyH_take (i := 4) (oi := { dst := some 142, op := Op.move (Operand.tmp 21), type := 4, pos := "law.go:47", after := #[{ on := 3, ground := Ground.guard }], guard := some (3, false) }) (v := .bool xo) rfl (by kernel_rfl) (by kernel_rfl) (by kernel_rfl) (fun _ _ _ h => h) (Or.inl ⟨by rfl, fun w' hSw => by ((try dsimp only at hSw); go_simp)⟩) (by assumption) ?_
                        (try simp only [Act.put, List.setIfInBounds_toArray, List.set_cons_zero, List.set_cons_succ])
                        refine wpAnyH_take (i := 5) (oi := { dst := some 143, op := Op.move (Operand.tmp 23), type := 4, pos := "law.go:47", after := #[{ on := 3, ground := Ground.guard }], guard := some (3, false) }) (v := .bool xo) rfl (by kernel_rfl) (by kernel_rfl) (by kernel_rfl) (fun _ _ _ h => h) (Or.inl ⟨by rfl, fun w' hSw => by ((try dsimp only at hSw); go_simp)⟩) (by assumption) ?_
                        (try simp only [Act.put, List.setIfInBounds_toArray, List.set_cons_zero, List.set_cons_succ])
                        refine wpAnyH_take (i := 6) (oi := { dst := some 144, op := Op.binOp BinOp.neq 4 (Operand.tmp 142) (Operand.tmp 143) 4, type := 4, pos := "law.go:47", after := #[{ on := 4, ground := Ground.data }, { on := 5, ground := Ground.data }, { on := 3, ground := Ground.guard }], guard := some (3, false) }) (v := .bool false) rfl (by kernel_rfl) (by kernel_rfl) (by kernel_rfl) (fun _ _ _ h => h) (Or.inl ⟨by rfl, fun w' hSw => by ((try dsimp only at hSw); go_simp)⟩) (by assumption) ?_
                        (try simp only [Act.put, List.setIfInBounds_toArray, List.set_cons_zero, List.set_cons_succ])
                        refine wpAnyH_take (i := 7) (oi := { dst := some 145, op := Op.pick (Operand.tmp 141) (Operand.const (Value.bool true)) (Operand.tmp 144), type := 4, pos := "law.go:47", after := #[{ on := 3, ground := Ground.data }, { on := 6, ground := Ground.data }], guard := none }) (v := .bool false) rfl (by kernel_rfl) (by kernel_rfl) (by kernel_rfl) (fun _ _ _ h => h) (Or.inl ⟨by rfl, fun w' hSw => by ((try dsimp only at hSw); go_simp)⟩) (by assumption) ?_
                        (try simp only [Act.put, List.setIfInBounds_toArray, List.set_cons_zero, List.set_cons_succ])
                        refine wpAnyH_take (i := 8) (oi := { dst := some 146, op := Op.move (Operand.tmp 145), type := 4, pos := "law.go:47", after := #[{ on := 7, ground := Ground.data }, { on := 3, ground := Ground.chain }], guard := none }) (v := .bool false) rfl (by kernel_rfl) (by kernel_rfl) (by kernel_rfl) (fun _ _ _ h => h) (Or.inl ⟨by rfl, fun w' hSw => by ((try dsimp only at hSw); go_simp)⟩) (by assumption) ?_
                        (try simp only [Act.put, List.setIfInBounds_toArray, List.set_cons_zero, List.set_cons_succ])
                        refine wpAnyH_take (i := 9) (oi := { dst := some 147, op := Op.load 26 (Operand.tmp 19), type := 26, pos := "law.go:47", after := #[{ on := 8, ground := Ground.guard }], guard := some (8, false) }) (v := .agg #[.int .i64 qk, .int .i64 qo, .string qb]) rfl (by kernel_rfl) (by kernel_rfl) (by kernel_rfl) (fun _ _ _ h => h) (Or.inl ⟨by rfl, fun w' hSw => by ((try dsimp only at hSw); have := X0 _ hSw; have := X1 _ hSw; have := X2 _ hSw; go_simp)⟩) (by assumption) ?_
                        (try simp only [Act.put, List.setIfInBounds_toArray, List.set_cons_zero, List.set_cons_succ])
                        refine wpAnyH_take (i := 11) (oi := { dst := some 149, op := Op.load 26 (Operand.tmp 19), type := 26, pos := "law.go:47", after := #[{ on := 8, ground := Ground.guard }], guard := some (8, false) }) (v := .agg #[.int .i64 qk, .int .i64 qo, .string qb]) rfl (by kernel_rfl) (by kernel_rfl) (by kernel_rfl) (fun _ _ _ h => h) (Or.inl ⟨by rfl, fun w' hSw => by ((try dsimp only at hSw); have := X0 _ hSw; have := X1 _ hSw; have := X2 _ hSw; go_simp)⟩) (by assumption) ?_
                        (try simp only [Act.put, List.setIfInBounds_toArray, List.set_cons_zero, List.set_cons_succ])
                        refine wpAnyH_ready (rs := [10]) (by kernel_rfl) (by simp) ?_
                        refine AllReadyH.cons (o := { dst := some 148, op := Op.call { callee := Callee.value (Operand.func 16), args := #[Operand.tmp 147], argTypes := #[26] }, type := 4, pos := "law.go:47", after := #[{ on := 9, ground := Ground.data }, { on := 8, ground := Ground.chain }, { on := 8, ground := Ground.guard }], guard := some (8, false) }) rfl (fun K hK => ?_) ?_
                        · go_simp; go_at_call 16; refine (HR.out _).mono ?_; rintro e u1 ⟨rfl, hb1⟩
                          refine hK.out _ _ ?_ (fun hHeld => ?_)
                          · exact Held.step (by assumption) hb1
                          clear hK K
                          (try simp only [Act.put, List.setIfInBounds_toArray, List.set_cons_zero, List.set_cons_succ])
                          refine wpAnyH_ready (rs := [12]) (by kernel_rfl) (by simp) ?_
                          refine AllReadyH.cons (o := { dst := some 150, op := Op.call { callee := Callee.value (Operand.func 17), args := #[Operand.tmp 149], argTypes := #[26] }, type := 4, pos := "law.go:47", after := #[{ on := 11, ground := Ground.data }, { on := 10, ground := Ground.chain }, { on := 8, ground := Ground.guard }], guard := some (8, false) }) rfl (fun K hK => ?_) ?_
                          · go_simp; go_at_call 17; refine (HRR.out _).mono ?_; rintro e u2 ⟨rfl, hb2⟩
                            refine hK.out _ _ ?_ (fun hHeld => ?_)
                            · exact Held.step (by assumption) hb2
                            clear hK K
                            (try simp only [Act.put, List.setIfInBounds_toArray, List.set_cons_zero, List.set_cons_succ])
                            refine wpAnyH_take (i := 13) (oi := { dst := some 151, op := Op.binOp BinOp.neq 4 (Operand.tmp 148) (Operand.tmp 150) 4, type := 4, pos := "law.go:47", after := #[{ on := 10, ground := Ground.data }, { on := 12, ground := Ground.data }, { on := 8, ground := Ground.guard }], guard := some (8, false) }) (v := .bool false) rfl (by kernel_rfl) (by kernel_rfl) (by kernel_rfl) (fun _ _ _ h => h) (Or.inl ⟨by rfl, fun w' hSw => by ((try dsimp only at hSw); go_simp)⟩) (by assumption) ?_
                            (try simp only [Act.put, List.setIfInBounds_toArray, List.set_cons_zero, List.set_cons_succ])
                            refine wpAnyH_take (i := 14) (oi := { dst := some 152, op := Op.pick (Operand.tmp 146) (Operand.const (Value.bool true)) (Operand.tmp 151), type := 4, pos := "law.go:47", after := #[{ on := 8, ground := Ground.data }, { on := 13, ground := Ground.data }], guard := none }) (v := .bool false) rfl (by kernel_rfl) (by kernel_rfl) (by kernel_rfl) (fun _ _ _ h => h) (Or.inl ⟨by rfl, fun w' hSw => by ((try dsimp only at hSw); go_simp)⟩) (by assumption) ?_
                            (try simp only [Act.put, List.setIfInBounds_toArray, List.set_cons_zero, List.set_cons_succ])
                            refine wpAnyH_done (by kernel_rfl) ?_ _
                            refine NoPanic.normal ?_
                            have HF := Lib.hid (HBW.out.trans (Below.mono hHeld HBW.out.size))
                            go_wp2_with fail
                            go_roundw
                            case rel => exact ⟨k1 + 1, by omega, by go_num, HF.out⟩
                            case measure => simp [intOf]; omega
                          exact AllReadyH.nil
                        exact AllReadyH.nil
                    · obtain rfl : n = k1 := by omega
                      have HPQ := Lib.hid (HP.out.kept HQ.out)
                      have HLE := Lib.hid (lent_walk (c := c) wr HPQ.out HN.out (by omega))
                      have b0 : (n : Int) ≤ 100000 := by omega
                      go_wp2_with fail
                      refine HLE.out.mono ?_; rintro e w1 ⟨g, c2, rfl, hlent, hg, hb⟩
                      have HL1 := Lib.hid hlent
                      have HB1 := Lib.hid (HQ.out.trans (hb.mono HQ.out.size))
                      clear hlent hg hb HQ HPQ HLE
                      go_wp2_with fail
                      refine (AL2.out _ _ _ HL1.out).mono ?_; rintro e w2 ⟨rfl, hb⟩
                      have HL2 := Lib.hid (HL1.out.kept hb)
                      have HB2 := Lib.hid (HB1.out.trans (hb.mono HB1.out.size))
                      clear hb HL1 HB1
                      go_wp2_with fail
                      refine (RL.out _ (HP.out.kept HB2.out) HB2.out.size).mono ?_; rintro e w3 ⟨rfl, hb⟩
                      have HL3 := Lib.hid (HL2.out.kept hb)
                      have HB3 := Lib.hid (HB2.out.trans (hb.mono HB2.out.size))
                      clear hb HL2 HB2
                      have HST := Lib.hid (stays_walk (d := c) w3 HL3.out (HP.out.kept HB3.out) (by omega))
                      cases fo with
                      | true =>
                        go_wp2_with fail
                        refine HST.out.mono ?_; rintro e w4 ⟨rfl, hb⟩
                        have HB4 := Lib.hid (HB3.out.trans (hb.mono HB3.out.size))
                        clear hb
                        go_wp2_with fail
                        go_ret
                        exact ⟨rfl, HB4.out⟩
                      | false =>
                        go_wp2_with fail
                        refine HST.out.mono ?_; rintro e w4 ⟨rfl, hb⟩
                        have HB4 := Lib.hid (HB3.out.trans (hb.mono HB3.out.size))
                        clear hb
                        go_wp2_with fail
                        go_ret
                        exact ⟨rfl, HB4.out⟩
              | false => as_aux_lemma =>
                  go_wp2_with fail
                  clear x0 x1 x2 y0 y1 y2 z0 z1 z2 HD4 HE4 HW4 DI RD WH
                  go_loopw [118] (fun x wr => ∃ k1 : Nat, k1 ≤ n ∧ x = .int .i64 k1 ∧ Hid (Below w.heap.size w wr)) (fun x _ => n - (intOf x).toNat)
                  case atStart => exact ⟨0, Nat.zero_le _, rfl, HBL.out⟩
                  case round =>
                    obtain ⟨k1, hk, rfl, hq⟩ := hrel
                    have HQ := Lib.hid hq.out
                    clear hq
                    by_cases hlt : k1 < n
                    · have hkl : k1 < l.length := by rw [HN.out]; exact hlt
                      obtain ⟨bl, off, rfl, hbl, hpp⟩ := HP.out.1 k1 hkl
                      obtain ⟨c0, c1, c2⟩ := hpp.kept (w' := wr) hbl HQ.out
                      have HSZ := HP.out.size k1 hkl
                      have A1 := Lib.hid (AP.out _ HSZ)
                      have A2 := Lib.hid (RP.out _ HSZ)
                      have HR := Lib.hid (fun r => right_any (l.getD k1 nilP).pg (l.getD k1 nilP).ofs (l.getD k1 nilP).bs HSZ r)
                      have HRR := Lib.hid (fun r => rright_any (l.getD k1 nilP).pg (l.getD k1 nilP).ofs (l.getD k1 nilP).bs HSZ r)
                      generalize (l.getD k1 nilP) = q at *
                      obtain ⟨qk, qo, qb⟩ := q
                      dsimp only at c0 c1 c2 A1 A2 HR HRR
                      generalize str (applyS X.data.toList ⟨qk, qo, qb⟩) = xs at *
                      generalize applyOk X.data.toList ⟨qk, qo, qb⟩ = xo at *
                      generalize okP ⟨qk, qo, qb⟩ = rg at *
                      unfold pv at A1 A2 HR HRR
                      have hsx := show (xs.toList == xs.toList) = true by simp
                      have HX := Lib.hid (Box.new wr (.int .i64 qk) (.int .i64 qo) (.string qb))
                      have hA := (Below.refl wr.heap.size wr).alloc (Nat.le_refl _) (.cells #[.int .i64 qk, .int .i64 qo, .string qb] 26)
                      have HBW0 := Lib.hid (HQ.out.trans (hA.mono HQ.out.size))
                      clear hbl hpp hA HSZ
                      have b1 : (0 : Int) ≤ (k1 : Int) := by omega
                      have b2 : (k1 : Int) < (n : Int) := by omega
                      by_cases hlong : (400 : Int) < (qb.size : Int)
                      · go_wp2_with fail
                        go_ret
                        exact ⟨rfl, HBW0.out⟩
                      · go_wp2_with fail
                        clear c0 c1 c2
                        generalize wr.alloc (.cells #[.int .i64 qk, .int .i64 qo, .string qb] 26) = W0 at *
                        refine (A1.out _).mono ?_; rintro e w1 ⟨rfl, hb⟩
                        have HX1 := Lib.hid (HX.out.kept hb)
                        have HB1 := Lib.hid (HBW0.out.trans (hb.mono HBW0.out.size))
                        clear hb HX HBW0 HQ
                        obtain ⟨x0, x1, x2⟩ := HX1.out.cells
                        go_wp2_with fail
                        refine (A2.out _).mono ?_; rintro e W ⟨rfl, hb⟩
                        have HX2 := Lib.hid (HX1.out.kept hb)
                        have HBW := Lib.hid (HB1.out.trans (hb.mono HB1.out.size))
                        clear hb HX1 HB1 x0 x1 x2
                        obtain ⟨x0, x1, x2⟩ := HX2.out.cells
                        have X0 := fun r (h : Held W r) => h.cell x0
                        have X1 := fun r (h : Held W r) => h.cell x1
                        have X2 := fun r (h : Held W r) => h.cell x2
                        clear x0 x1 x2
                        go_upto_region 18 with fail
                        refine wp_region_noPanic ?_
                        refine wp_region_held_drew (S := Held W) (by kernel_rfl) ?_ (fun hHeld => ?_)
                        · exact Held.start _
                        refine wpAnyH_take (i := 0) (oi := { dst := some 138, op := Op.move (Operand.tmp 20), type := 9, pos := "law.go:47", after := #[], guard := none }) (v := .string xs) rfl (by kernel_rfl) (by kernel_rfl) (by kernel_rfl) (fun _ _ _ h => h) (Or.inl ⟨by rfl, fun w' hSw => by ((try dsimp only at hSw); go_simp)⟩) (by assumption) ?_
                        (try simp only [Act.put, List.setIfInBounds_toArray, List.set_cons_zero, List.set_cons_succ])
                        refine wpAnyH_take (i := 1) (oi := { dst := some 139, op := Op.move (Operand.tmp 22), type := 9, pos := "law.go:47", after := #[], guard := none }) (v := .string xs) rfl (by kernel_rfl) (by kernel_rfl) (by kernel_rfl) (fun _ _ _ h => h) (Or.inl ⟨by rfl, fun w' hSw => by ((try dsimp only at hSw); go_simp)⟩) (by assumption) ?_
                        (try simp only [Act.put, List.setIfInBounds_toArray, List.set_cons_zero, List.set_cons_succ])
                        refine wpAnyH_take (i := 2) (oi := { dst := some 140, op := Op.binOp BinOp.neq 9 (Operand.tmp 138) (Operand.tmp 139) 9, type := 4, pos := "law.go:47", after := #[{ on := 0, ground := Ground.data }, { on := 1, ground := Ground.data }], guard := none }) (v := .bool false) rfl (by kernel_rfl) (by kernel_rfl) (by kernel_rfl) (fun _ _ _ h => h) (Or.inl ⟨by rfl, fun w' hSw => by ((try dsimp only at hSw); go_simp)⟩) (by assumption) ?_
                        (try simp only [Act.put, List.setIfInBounds_toArray, List.set_cons_zero, List.set_cons_succ])
                        refine wpAnyH_take (i := 3) (oi := { dst := some 141, op := Op.move (Operand.tmp 140), type := 4, pos := "law.go:47", after := #[{ on := 2, ground := Ground.data }], guard := none }) (v := .bool false) rfl (by kernel_rfl) (by kernel_rfl) (by kernel_rfl) (fun _ _ _ h => h) (Or.inl ⟨by rfl, fun w' hSw => by ((try dsimp only at hSw); go_simp)⟩) (by assumption) ?_
                        (try simp only [Act.put, List.setIfInBounds_toArray, List.set_cons_zero, List.set_cons_succ])
                        refine wpAnyH_take (i := 4) (oi := { dst := some 142, op := Op.move (Operand.tmp 21), type := 4, pos := "law.go:47", after := #[{ on := 3, ground := Ground.guard }], guard := some (3, false) }) (v := .bool xo) rfl (by kernel_rfl) (by kernel_rfl) (by kernel_rfl) (fun _ _ _ h => h) (Or.inl ⟨by rfl, fun w' hSw => by ((try dsimp only at hSw); go_simp)⟩) (by assumption) ?_
                        (try simp only [Act.put, List.setIfInBounds_toArray, List.set_cons_zero, List.set_cons_succ])
                        refine wpAnyH_take (i := 5) (oi := { dst := some 143, op := Op.move (Operand.tmp 23), type := 4, pos := "law.go:47", after := #[{ on := 3, ground := Ground.guard }], guard := some (3, false) }) (v := .bool xo) rfl (by kernel_rfl) (by kernel_rfl) (by kernel_rfl) (fun _ _ _ h => h) (Or.inl ⟨by rfl, fun w' hSw => by ((try dsimp only at hSw); go_simp)⟩) (by assumption) ?_
                        (try simp only [Act.put, List.setIfInBounds_toArray, List.set_cons_zero, List.set_cons_succ])
                        refine wpAnyH_take (i := 6) (oi := { dst := some 144, op := Op.binOp BinOp.neq 4 (Operand.tmp 142) (Operand.tmp 143) 4, type := 4, pos := "law.go:47", after := #[{ on := 4, ground := Ground.data }, { on := 5, ground := Ground.data }, { on := 3, ground := Ground.guard }], guard := some (3, false) }) (v := .bool false) rfl (by kernel_rfl) (by kernel_rfl) (by kernel_rfl) (fun _ _ _ h => h) (Or.inl ⟨by rfl, fun w' hSw => by ((try dsimp only at hSw); go_simp)⟩) (by assumption) ?_
                        (try simp only [Act.put, List.setIfInBounds_toArray, List.set_cons_zero, List.set_cons_succ])
                        refine wpAnyH_take (i := 7) (oi := { dst := some 145, op := Op.pick (Operand.tmp 141) (Operand.const (Value.bool true)) (Operand.tmp 144), type := 4, pos := "law.go:47", after := #[{ on := 3, ground := Ground.data }, { on := 6, ground := Ground.data }], guard := none }) (v := .bool false) rfl (by kernel_rfl) (by kernel_rfl) (by kernel_rfl) (fun _ _ _ h => h) (Or.inl ⟨by rfl, fun w' hSw => by ((try dsimp only at hSw); go_simp)⟩) (by assumption) ?_
                        (try simp only [Act.put, List.setIfInBounds_toArray, List.set_cons_zero, List.set_cons_succ])
                        refine wpAnyH_take (i := 8) (oi := { dst := some 146, op := Op.move (Operand.tmp 145), type := 4, pos := "law.go:47", after := #[{ on := 7, ground := Ground.data }, { on := 3, ground := Ground.chain }], guard := none }) (v := .bool false) rfl (by kernel_rfl) (by kernel_rfl) (by kernel_rfl) (fun _ _ _ h => h) (Or.inl ⟨by rfl, fun w' hSw => by ((try dsimp only at hSw); go_simp)⟩) (by assumption) ?_
                        (try simp only [Act.put, List.setIfInBounds_toArray, List.set_cons_zero, List.set_cons_succ])
                        refine wpAnyH_take (i := 9) (oi := { dst := some 147, op := Op.load 26 (Operand.tmp 19), type := 26, pos := "law.go:47", after := #[{ on := 8, ground := Ground.guard }], guard := some (8, false) }) (v := .agg #[.int .i64 qk, .int .i64 qo, .string qb]) rfl (by kernel_rfl) (by kernel_rfl) (by kernel_rfl) (fun _ _ _ h => h) (Or.inl ⟨by rfl, fun w' hSw => by ((try dsimp only at hSw); have := X0 _ hSw; have := X1 _ hSw; have := X2 _ hSw; go_simp)⟩) (by assumption) ?_
                        (try simp only [Act.put, List.setIfInBounds_toArray, List.set_cons_zero, List.set_cons_succ])
                        refine wpAnyH_take (i := 11) (oi := { dst := some 149, op := Op.load 26 (Operand.tmp 19), type := 26, pos := "law.go:47", after := #[{ on := 8, ground := Ground.guard }], guard := some (8, false) }) (v := .agg #[.int .i64 qk, .int .i64 qo, .string qb]) rfl (by kernel_rfl) (by kernel_rfl) (by kernel_rfl) (fun _ _ _ h => h) (Or.inl ⟨by rfl, fun w' hSw => by ((try dsimp only at hSw); have := X0 _ hSw; have := X1 _ hSw; have := X2 _ hSw; go_simp)⟩) (by assumption) ?_
                        (try simp only [Act.put, List.setIfInBounds_toArray, List.set_cons_zero, List.set_cons_succ])
                        refine wpAnyH_ready (rs := [10]) (by kernel_rfl) (by simp) ?_
                        refine AllReadyH.cons (o := { dst := some 148, op := Op.call { callee := Callee.value (Operand.func 16), args := #[Operand.tmp 147], argTypes := #[26] }, type := 4, pos := "law.go:47", after := #[{ on := 9, ground := Ground.data }, { on := 8, ground := Ground.chain }, { on := 8, ground := Ground.guard }], guard := some (8, false) }) rfl (fun K hK => ?_) ?_
                        · go_simp; go_at_call 16; refine (HR.out _).mono ?_; rintro e u1 ⟨rfl, hb1⟩
                          refine hK.out _ _ ?_ (fun hHeld => ?_)
                          · exact Held.step (by assumption) hb1
                          clear hK K
                          (try simp only [Act.put, List.setIfInBounds_toArray, List.set_cons_zero, List.set_cons_succ])
                          refine wpAnyH_ready (rs := [12]) (by kernel_rfl) (by simp) ?_
                          refine AllReadyH.cons (o := { dst := some 150, op := Op.call { callee := Callee.value (Operand.func 17), args := #[Operand.tmp 149], argTypes := #[26] }, type := 4, pos := "law.go:47", after := #[{ on := 11, ground := Ground.data }, { on := 10, ground := Ground.chain }, { on := 8, ground := Ground.guard }], guard := some (8, false) }) rfl (fun K hK => ?_) ?_
                          · go_simp; go_at_call 17; refine (HRR.out _).mono ?_; rintro e u2 ⟨rfl, hb2⟩
                            refine hK.out _ _ ?_ (fun hHeld => ?_)
                            · exact Held.step (by assumption) hb2
                            clear hK K
                            (try simp only [Act.put, List.setIfInBounds_toArray, List.set_cons_zero, List.set_cons_succ])
                            refine wpAnyH_take (i := 13) (oi := { dst := some 151, op := Op.binOp BinOp.neq 4 (Operand.tmp 148) (Operand.tmp 150) 4, type := 4, pos := "law.go:47", after := #[{ on := 10, ground := Ground.data }, { on := 12, ground := Ground.data }, { on := 8, ground := Ground.guard }], guard := some (8, false) }) (v := .bool false) rfl (by kernel_rfl) (by kernel_rfl) (by kernel_rfl) (fun _ _ _ h => h) (Or.inl ⟨by rfl, fun w' hSw => by ((try dsimp only at hSw); go_simp)⟩) (by assumption) ?_
                            (try simp only [Act.put, List.setIfInBounds_toArray, List.set_cons_zero, List.set_cons_succ])
                            refine wpAnyH_take (i := 14) (oi := { dst := some 152, op := Op.pick (Operand.tmp 146) (Operand.const (Value.bool true)) (Operand.tmp 151), type := 4, pos := "law.go:47", after := #[{ on := 8, ground := Ground.data }, { on := 13, ground := Ground.data }], guard := none }) (v := .bool false) rfl (by kernel_rfl) (by kernel_rfl) (by kernel_rfl) (fun _ _ _ h => h) (Or.inl ⟨by rfl, fun w' hSw => by ((try dsimp only at hSw); go_simp)⟩) (by assumption) ?_
                            (try simp only [Act.put, List.setIfInBounds_toArray, List.set_cons_zero, List.set_cons_succ])
                            refine wpAnyH_done (by kernel_rfl) ?_ _
                            refine NoPanic.normal ?_
                            have HF := Lib.hid (HBW.out.trans (Below.mono hHeld HBW.out.size))
                            go_wp2_with fail
                            go_roundw
                            case rel => exact ⟨k1 + 1, by omega, by go_num, HF.out⟩
                            case measure => simp [intOf]; omega
                          exact AllReadyH.nil
                        exact AllReadyH.nil
                    · obtain rfl : n = k1 := by omega
                      have HPQ := Lib.hid (HP.out.kept HQ.out)
                      have HLE := Lib.hid (lent_walk (c := c) wr HPQ.out HN.out (by omega))
                      have b0 : (n : Int) ≤ 100000 := by omega
                      go_wp2_with fail
                      refine HLE.out.mono ?_; rintro e w1 ⟨g, c2, rfl, hlent, hg, hb⟩
                      have HL1 := Lib.hid hlent
                      have HB1 := Lib.hid (HQ.out.trans (hb.mono HQ.out.size))
                      clear hlent hg hb HQ HPQ HLE
                      go_wp2_with fail
                      refine (AL2.out _ _ _ HL1.out).mono ?_; rintro e w2 ⟨rfl, hb⟩
                      have HL2 := Lib.hid (HL1.out.kept hb)
                      have HB2 := Lib.hid (HB1.out.trans (hb.mono HB1.out.size))
                      clear hb HL1 HB1
                      go_wp2_with fail
                      refine (RL.out _ (HP.out.kept HB2.out) HB2.out.size).mono ?_; rintro e w3 ⟨rfl, hb⟩
                      have HL3 := Lib.hid (HL2.out.kept hb)
                      have HB3 := Lib.hid (HB2.out.trans (hb.mono HB2.out.size))
                      clear hb HL2 HB2
                      have HST := Lib.hid (stays_walk (d := c) w3 HL3.out (HP.out.kept HB3.out) (by omega))
                      cases fo with
                      | true =>
                        go_wp2_with fail
                        refine HST.out.mono ?_; rintro e w4 ⟨rfl, hb⟩
                        have HB4 := Lib.hid (HB3.out.trans (hb.mono HB3.out.size))
                        clear hb
                        go_wp2_with fail
                        go_ret
                        exact ⟨rfl, HB4.out⟩
                      | false =>
                        go_wp2_with fail
                        refine HST.out.mono ?_; rintro e w4 ⟨rfl, hb⟩
                        have HB4 := Lib.hid (HB3.out.trans (hb.mono HB3.out.size))
                        clear hb
                        go_wp2_with fail
                        go_ret
                        exact ⟨rfl, HB4.out⟩
            · cases okd with
              | true => as_aux_lemma =>
                  go_wp2_with fail
                  clear x0 x1 x2 y0 y1 y2 z0 z1 z2 HD4 HE4 HW4 DI RD WH
                  go_loopw [118] (fun x wr => ∃ k1 : Nat, k1 ≤ n ∧ x = .int .i64 k1 ∧ Hid (Below w.heap.size w wr)) (fun x _ => n - (intOf x).toNat)
                  case atStart => exact ⟨0, Nat.zero_le _, rfl, HBL.out⟩
                  case round =>
                    obtain ⟨k1, hk, rfl, hq⟩ := hrel
                    have HQ := Lib.hid hq.out
                    clear hq
                    by_cases hlt : k1 < n
                    · have hkl : k1 < l.length := by rw [HN.out]; exact hlt
                      obtain ⟨bl, off, rfl, hbl, hpp⟩ := HP.out.1 k1 hkl
                      obtain ⟨c0, c1, c2⟩ := hpp.kept (w' := wr) hbl HQ.out
                      have HSZ := HP.out.size k1 hkl
                      have A1 := Lib.hid (AP.out _ HSZ)
                      have A2 := Lib.hid (RP.out _ HSZ)
                      have HR := Lib.hid (fun r => right_any (l.getD k1 nilP).pg (l.getD k1 nilP).ofs (l.getD k1 nilP).bs HSZ r)
                      have HRR := Lib.hid (fun r => rright_any (l.getD k1 nilP).pg (l.getD k1 nilP).ofs (l.getD k1 nilP).bs HSZ r)
                      generalize (l.getD k1 nilP) = q at *
                      obtain ⟨qk, qo, qb⟩ := q
                      dsimp only at c0 c1 c2 A1 A2 HR HRR
                      generalize str (applyS X.data.toList ⟨qk, qo, qb⟩) = xs at *
                      generalize applyOk X.data.toList ⟨qk, qo, qb⟩ = xo at *
                      generalize okP ⟨qk, qo, qb⟩ = rg at *
                      unfold pv at A1 A2 HR HRR
                      have hsx := show (xs.toList == xs.toList) = true by simp
                      have HX := Lib.hid (Box.new wr (.int .i64 qk) (.int .i64 qo) (.string qb))
                      have hA := (Below.refl wr.heap.size wr).alloc (Nat.le_refl _) (.cells #[.int .i64 qk, .int .i64 qo, .string qb] 26)
                      have HBW0 := Lib.hid (HQ.out.trans (hA.mono HQ.out.size))
                      clear hbl hpp hA HSZ
                      have b1 : (0 : Int) ≤ (k1 : Int) := by omega
                      have b2 : (k1 : Int) < (n : Int) := by omega
                      by_cases hlong : (400 : Int) < (qb.size : Int)
                      · go_wp2_with fail
                        go_ret
                        exact ⟨rfl, HBW0.out⟩
                      · go_wp2_with fail
                        clear c0 c1 c2
                        generalize wr.alloc (.cells #[.int .i64 qk, .int .i64 qo, .string qb] 26) = W0 at *
                        refine (A1.out _).mono ?_; rintro e w1 ⟨rfl, hb⟩
                        have HX1 := Lib.hid (HX.out.kept hb)
                        have HB1 := Lib.hid (HBW0.out.trans (hb.mono HBW0.out.size))
                        clear hb HX HBW0 HQ
                        obtain ⟨x0, x1, x2⟩ := HX1.out.cells
                        go_wp2_with fail
                        refine (A2.out _).mono ?_; rintro e W ⟨rfl, hb⟩
                        have HX2 := Lib.hid (HX1.out.kept hb)
                        have HBW := Lib.hid (HB1.out.trans (hb.mono HB1.out.size))
                        clear hb HX1 HB1 x0 x1 x2
                        obtain ⟨x0, x1, x2⟩ := HX2.out.cells
                        have X0 := fun r (h : Held W r) => h.cell x0
                        have X1 := fun r (h : Held W r) => h.cell x1
                        have X2 := fun r (h : Held W r) => h.cell x2
                        clear x0 x1 x2
                        go_upto_region 18 with fail
                        refine wp_region_noPanic ?_
                        refine wp_region_held_drew (S := Held W) (by kernel_rfl) ?_ (fun hHeld => ?_)
                        · exact Held.start _
                        refine wpAnyH_take (i := 0) (oi := { dst := some 138, op := Op.move (Operand.tmp 20), type := 9, pos := "law.go:47", after := #[], guard := none }) (v := .string xs) rfl (by kernel_rfl) (by kernel_rfl) (by kernel_rfl) (fun _ _ _ h => h) (Or.inl ⟨by rfl, fun w' hSw => by ((try dsimp only at hSw); go_simp)⟩) (by assumption) ?_
                        (try simp only [Act.put, List.setIfInBounds_toArray, List.set_cons_zero, List.set_cons_succ])
                        refine wpAnyH_take (i := 1) (oi := { dst := some 139, op := Op.move (Operand.tmp 22), type := 9, pos := "law.go:47", after := #[], guard := none }) (v := .string xs) rfl (by kernel_rfl) (by kernel_rfl) (by kernel_rfl) (fun _ _ _ h => h) (Or.inl ⟨by rfl, fun w' hSw => by ((try dsimp only at hSw); go_simp)⟩) (by assumption) ?_
                        (try simp only [Act.put, List.setIfInBounds_toArray, List.set_cons_zero, List.set_cons_succ])
                        refine wpAnyH_take (i := 2) (oi := { dst := some 140, op := Op.binOp BinOp.neq 9 (Operand.tmp 138) (Operand.tmp 139) 9, type := 4, pos := "law.go:47", after := #[{ on := 0, ground := Ground.data }, { on := 1, ground := Ground.data }], guard := none }) (v := .bool false) rfl (by kernel_rfl) (by kernel_rfl) (by kernel_rfl) (fun _ _ _ h => h) (Or.inl ⟨by rfl, fun w' hSw => by ((try dsimp only at hSw); go_simp)⟩) (by assumption) ?_
                        (try simp only [Act.put, List.setIfInBounds_toArray, List.set_cons_zero, List.set_cons_succ])
                        refine wpAnyH_take (i := 3) (oi := { dst := some 141, op := Op.move (Operand.tmp 140), type := 4, pos := "law.go:47", after := #[{ on := 2, ground := Ground.data }], guard := none }) (v := .bool false) rfl (by kernel_rfl) (by kernel_rfl) (by kernel_rfl) (fun _ _ _ h => h) (Or.inl ⟨by rfl, fun w' hSw => by ((try dsimp only at hSw); go_simp)⟩) (by assumption) ?_
                        (try simp only [Act.put, List.setIfInBounds_toArray, List.set_cons_zero, List.set_cons_succ])
                        refine wpAnyH_take (i := 4) (oi := { dst := some 142, op := Op.move (Operand.tmp 21), type := 4, pos := "law.go:47", after := #[{ on := 3, ground := Ground.guard }], guard := some (3, false) }) (v := .bool xo) rfl (by kernel_rfl) (by kernel_rfl) (by kernel_rfl) (fun _ _ _ h => h) (Or.inl ⟨by rfl, fun w' hSw => by ((try dsimp only at hSw); go_simp)⟩) (by assumption) ?_
                        (try simp only [Act.put, List.setIfInBounds_toArray, List.set_cons_zero, List.set_cons_succ])
                        refine wpAnyH_take (i := 5) (oi := { dst := some 143, op := Op.move (Operand.tmp 23), type := 4, pos := "law.go:47", after := #[{ on := 3, ground := Ground.guard }], guard := some (3, false) }) (v := .bool xo) rfl (by kernel_rfl) (by kernel_rfl) (by kernel_rfl) (fun _ _ _ h => h) (Or.inl ⟨by rfl, fun w' hSw => by ((try dsimp only at hSw); go_simp)⟩) (by assumption) ?_
                        (try simp only [Act.put, List.setIfInBounds_toArray, List.set_cons_zero, List.set_cons_succ])
                        refine wpAnyH_take (i := 6) (oi := { dst := some 144, op := Op.binOp BinOp.neq 4 (Operand.tmp 142) (Operand.tmp 143) 4, type := 4, pos := "law.go:47", after := #[{ on := 4, ground := Ground.data }, { on := 5, ground := Ground.data }, { on := 3, ground := Ground.guard }], guard := some (3, false) }) (v := .bool false) rfl (by kernel_rfl) (by kernel_rfl) (by kernel_rfl) (fun _ _ _ h => h) (Or.inl ⟨by rfl, fun w' hSw => by ((try dsimp only at hSw); go_simp)⟩) (by assumption) ?_
                        (try simp only [Act.put, List.setIfInBounds_toArray, List.set_cons_zero, List.set_cons_succ])
                        refine wpAnyH_take (i := 7) (oi := { dst := some 145, op := Op.pick (Operand.tmp 141) (Operand.const (Value.bool true)) (Operand.tmp 144), type := 4, pos := "law.go:47", after := #[{ on := 3, ground := Ground.data }, { on := 6, ground := Ground.data }], guard := none }) (v := .bool false) rfl (by kernel_rfl) (by kernel_rfl) (by kernel_rfl) (fun _ _ _ h => h) (Or.inl ⟨by rfl, fun w' hSw => by ((try dsimp only at hSw); go_simp)⟩) (by assumption) ?_
                        (try simp only [Act.put, List.setIfInBounds_toArray, List.set_cons_zero, List.set_cons_succ])
                        refine wpAnyH_take (i := 8) (oi := { dst := some 146, op := Op.move (Operand.tmp 145), type := 4, pos := "law.go:47", after := #[{ on := 7, ground := Ground.data }, { on := 3, ground := Ground.chain }], guard := none }) (v := .bool false) rfl (by kernel_rfl) (by kernel_rfl) (by kernel_rfl) (fun _ _ _ h => h) (Or.inl ⟨by rfl, fun w' hSw => by ((try dsimp only at hSw); go_simp)⟩) (by assumption) ?_
                        (try simp only [Act.put, List.setIfInBounds_toArray, List.set_cons_zero, List.set_cons_succ])
                        refine wpAnyH_take (i := 9) (oi := { dst := some 147, op := Op.load 26 (Operand.tmp 19), type := 26, pos := "law.go:47", after := #[{ on := 8, ground := Ground.guard }], guard := some (8, false) }) (v := .agg #[.int .i64 qk, .int .i64 qo, .string qb]) rfl (by kernel_rfl) (by kernel_rfl) (by kernel_rfl) (fun _ _ _ h => h) (Or.inl ⟨by rfl, fun w' hSw => by ((try dsimp only at hSw); have := X0 _ hSw; have := X1 _ hSw; have := X2 _ hSw; go_simp)⟩) (by assumption) ?_
                        (try simp only [Act.put, List.setIfInBounds_toArray, List.set_cons_zero, List.set_cons_succ])
                        refine wpAnyH_take (i := 11) (oi := { dst := some 149, op := Op.load 26 (Operand.tmp 19), type := 26, pos := "law.go:47", after := #[{ on := 8, ground := Ground.guard }], guard := some (8, false) }) (v := .agg #[.int .i64 qk, .int .i64 qo, .string qb]) rfl (by kernel_rfl) (by kernel_rfl) (by kernel_rfl) (fun _ _ _ h => h) (Or.inl ⟨by rfl, fun w' hSw => by ((try dsimp only at hSw); have := X0 _ hSw; have := X1 _ hSw; have := X2 _ hSw; go_simp)⟩) (by assumption) ?_
                        (try simp only [Act.put, List.setIfInBounds_toArray, List.set_cons_zero, List.set_cons_succ])
                        refine wpAnyH_ready (rs := [10]) (by kernel_rfl) (by simp) ?_
                        refine AllReadyH.cons (o := { dst := some 148, op := Op.call { callee := Callee.value (Operand.func 16), args := #[Operand.tmp 147], argTypes := #[26] }, type := 4, pos := "law.go:47", after := #[{ on := 9, ground := Ground.data }, { on := 8, ground := Ground.chain }, { on := 8, ground := Ground.guard }], guard := some (8, false) }) rfl (fun K hK => ?_) ?_
                        · go_simp; go_at_call 16; refine (HR.out _).mono ?_; rintro e u1 ⟨rfl, hb1⟩
                          refine hK.out _ _ ?_ (fun hHeld => ?_)
                          · exact Held.step (by assumption) hb1
                          clear hK K
                          (try simp only [Act.put, List.setIfInBounds_toArray, List.set_cons_zero, List.set_cons_succ])
                          refine wpAnyH_ready (rs := [12]) (by kernel_rfl) (by simp) ?_
                          refine AllReadyH.cons (o := { dst := some 150, op := Op.call { callee := Callee.value (Operand.func 17), args := #[Operand.tmp 149], argTypes := #[26] }, type := 4, pos := "law.go:47", after := #[{ on := 11, ground := Ground.data }, { on := 10, ground := Ground.chain }, { on := 8, ground := Ground.guard }], guard := some (8, false) }) rfl (fun K hK => ?_) ?_
                          · go_simp; go_at_call 17; refine (HRR.out _).mono ?_; rintro e u2 ⟨rfl, hb2⟩
                            refine hK.out _ _ ?_ (fun hHeld => ?_)
                            · exact Held.step (by assumption) hb2
                            clear hK K
                            (try simp only [Act.put, List.setIfInBounds_toArray, List.set_cons_zero, List.set_cons_succ])
                            refine wpAnyH_take (i := 13) (oi := { dst := some 151, op := Op.binOp BinOp.neq 4 (Operand.tmp 148) (Operand.tmp 150) 4, type := 4, pos := "law.go:47", after := #[{ on := 10, ground := Ground.data }, { on := 12, ground := Ground.data }, { on := 8, ground := Ground.guard }], guard := some (8, false) }) (v := .bool false) rfl (by kernel_rfl) (by kernel_rfl) (by kernel_rfl) (fun _ _ _ h => h) (Or.inl ⟨by rfl, fun w' hSw => by ((try dsimp only at hSw); go_simp)⟩) (by assumption) ?_
                            (try simp only [Act.put, List.setIfInBounds_toArray, List.set_cons_zero, List.set_cons_succ])
                            refine wpAnyH_take (i := 14) (oi := { dst := some 152, op := Op.pick (Operand.tmp 146) (Operand.const (Value.bool true)) (Operand.tmp 151), type := 4, pos := "law.go:47", after := #[{ on := 8, ground := Ground.data }, { on := 13, ground := Ground.data }], guard := none }) (v := .bool false) rfl (by kernel_rfl) (by kernel_rfl) (by kernel_rfl) (fun _ _ _ h => h) (Or.inl ⟨by rfl, fun w' hSw => by ((try dsimp only at hSw); go_simp)⟩) (by assumption) ?_
                            (try simp only [Act.put, List.setIfInBounds_toArray, List.set_cons_zero, List.set_cons_succ])
                            refine wpAnyH_done (by kernel_rfl) ?_ _
                            refine NoPanic.normal ?_
                            have HF := Lib.hid (HBW.out.trans (Below.mono hHeld HBW.out.size))
                            go_wp2_with fail
                            go_roundw
                            case rel => exact ⟨k1 + 1, by omega, by go_num, HF.out⟩
                            case measure => simp [intOf]; omega
                          exact AllReadyH.nil
                        exact AllReadyH.nil
                    · obtain rfl : n = k1 := by omega
                      have HPQ := Lib.hid (HP.out.kept HQ.out)
                      have HLE := Lib.hid (lent_walk (c := c) wr HPQ.out HN.out (by omega))
                      have b0 : (n : Int) ≤ 100000 := by omega
                      go_wp2_with fail
                      refine HLE.out.mono ?_; rintro e w1 ⟨g, c2, rfl, hlent, hg, hb⟩
                      have HL1 := Lib.hid hlent
                      have HB1 := Lib.hid (HQ.out.trans (hb.mono HQ.out.size))
                      clear hlent hg hb HQ HPQ HLE
                      go_wp2_with fail
                      refine (AL2.out _ _ _ HL1.out).mono ?_; rintro e w2 ⟨rfl, hb⟩
                      have HL2 := Lib.hid (HL1.out.kept hb)
                      have HB2 := Lib.hid (HB1.out.trans (hb.mono HB1.out.size))
                      clear hb HL1 HB1
                      go_wp2_with fail
                      refine (RL.out _ (HP.out.kept HB2.out) HB2.out.size).mono ?_; rintro e w3 ⟨rfl, hb⟩
                      have HL3 := Lib.hid (HL2.out.kept hb)
                      have HB3 := Lib.hid (HB2.out.trans (hb.mono HB2.out.size))
                      clear hb HL2 HB2
                      have HST := Lib.hid (stays_walk (d := c) w3 HL3.out (HP.out.kept HB3.out) (by omega))
                      cases fo with
                      | true =>
                        go_wp2_with fail
                        refine HST.out.mono ?_; rintro e w4 ⟨rfl, hb⟩
                        have HB4 := Lib.hid (HB3.out.trans (hb.mono HB3.out.size))
                        clear hb
                        go_wp2_with fail
                        go_ret
                        exact ⟨rfl, HB4.out⟩
                      | false =>
                        go_wp2_with fail
                        refine HST.out.mono ?_; rintro e w4 ⟨rfl, hb⟩
                        have HB4 := Lib.hid (HB3.out.trans (hb.mono HB3.out.size))
                        clear hb
                        go_wp2_with fail
                        go_ret
                        exact ⟨rfl, HB4.out⟩
              | false => as_aux_lemma =>
                  go_wp2_with fail
                  clear x0 x1 x2 y0 y1 y2 z0 z1 z2 HD4 HE4 HW4 DI RD WH
                  go_loopw [118] (fun x wr => ∃ k1 : Nat, k1 ≤ n ∧ x = .int .i64 k1 ∧ Hid (Below w.heap.size w wr)) (fun x _ => n - (intOf x).toNat)
                  case atStart => exact ⟨0, Nat.zero_le _, rfl, HBL.out⟩
                  case round =>
                    obtain ⟨k1, hk, rfl, hq⟩ := hrel
                    have HQ := Lib.hid hq.out
                    clear hq
                    by_cases hlt : k1 < n
                    · have hkl : k1 < l.length := by rw [HN.out]; exact hlt
                      obtain ⟨bl, off, rfl, hbl, hpp⟩ := HP.out.1 k1 hkl
                      obtain ⟨c0, c1, c2⟩ := hpp.kept (w' := wr) hbl HQ.out
                      have HSZ := HP.out.size k1 hkl
                      have A1 := Lib.hid (AP.out _ HSZ)
                      have A2 := Lib.hid (RP.out _ HSZ)
                      have HR := Lib.hid (fun r => right_any (l.getD k1 nilP).pg (l.getD k1 nilP).ofs (l.getD k1 nilP).bs HSZ r)
                      have HRR := Lib.hid (fun r => rright_any (l.getD k1 nilP).pg (l.getD k1 nilP).ofs (l.getD k1 nilP).bs HSZ r)
                      generalize (l.getD k1 nilP) = q at *
                      obtain ⟨qk, qo, qb⟩ := q
                      dsimp only at c0 c1 c2 A1 A2 HR HRR
                      generalize str (applyS X.data.toList ⟨qk, qo, qb⟩) = xs at *
                      generalize applyOk X.data.toList ⟨qk, qo, qb⟩ = xo at *
                      generalize okP ⟨qk, qo, qb⟩ = rg at *
                      unfold pv at A1 A2 HR HRR
                      have hsx := show (xs.toList == xs.toList) = true by simp
                      have HX := Lib.hid (Box.new wr (.int .i64 qk) (.int .i64 qo) (.string qb))
                      have hA := (Below.refl wr.heap.size wr).alloc (Nat.le_refl _) (.cells #[.int .i64 qk, .int .i64 qo, .string qb] 26)
                      have HBW0 := Lib.hid (HQ.out.trans (hA.mono HQ.out.size))
                      clear hbl hpp hA HSZ
                      have b1 : (0 : Int) ≤ (k1 : Int) := by omega
                      have b2 : (k1 : Int) < (n : Int) := by omega
                      by_cases hlong : (400 : Int) < (qb.size : Int)
                      · go_wp2_with fail
                        go_ret
                        exact ⟨rfl, HBW0.out⟩
                      · go_wp2_with fail
                        clear c0 c1 c2
                        generalize wr.alloc (.cells #[.int .i64 qk, .int .i64 qo, .string qb] 26) = W0 at *
                        refine (A1.out _).mono ?_; rintro e w1 ⟨rfl, hb⟩
                        have HX1 := Lib.hid (HX.out.kept hb)
                        have HB1 := Lib.hid (HBW0.out.trans (hb.mono HBW0.out.size))
                        clear hb HX HBW0 HQ
                        obtain ⟨x0, x1, x2⟩ := HX1.out.cells
                        go_wp2_with fail
                        refine (A2.out _).mono ?_; rintro e W ⟨rfl, hb⟩
                        have HX2 := Lib.hid (HX1.out.kept hb)
                        have HBW := Lib.hid (HB1.out.trans (hb.mono HB1.out.size))
                        clear hb HX1 HB1 x0 x1 x2
                        obtain ⟨x0, x1, x2⟩ := HX2.out.cells
                        have X0 := fun r (h : Held W r) => h.cell x0
                        have X1 := fun r (h : Held W r) => h.cell x1
                        have X2 := fun r (h : Held W r) => h.cell x2
                        clear x0 x1 x2
                        go_upto_region 18 with fail
                        refine wp_region_noPanic ?_
                        refine wp_region_held_drew (S := Held W) (by kernel_rfl) ?_ (fun hHeld => ?_)
                        · exact Held.start _
                        refine wpAnyH_take (i := 0) (oi := { dst := some 138, op := Op.move (Operand.tmp 20), type := 9, pos := "law.go:47", after := #[], guard := none }) (v := .string xs) rfl (by kernel_rfl) (by kernel_rfl) (by kernel_rfl) (fun _ _ _ h => h) (Or.inl ⟨by rfl, fun w' hSw => by ((try dsimp only at hSw); go_simp)⟩) (by assumption) ?_
                        (try simp only [Act.put, List.setIfInBounds_toArray, List.set_cons_zero, List.set_cons_succ])
                        refine wpAnyH_take (i := 1) (oi := { dst := some 139, op := Op.move (Operand.tmp 22), type := 9, pos := "law.go:47", after := #[], guard := none }) (v := .string xs) rfl (by kernel_rfl) (by kernel_rfl) (by kernel_rfl) (fun _ _ _ h => h) (Or.inl ⟨by rfl, fun w' hSw => by ((try dsimp only at hSw); go_simp)⟩) (by assumption) ?_
                        (try simp only [Act.put, List.setIfInBounds_toArray, List.set_cons_zero, List.set_cons_succ])
                        refine wpAnyH_take (i := 2) (oi := { dst := some 140, op := Op.binOp BinOp.neq 9 (Operand.tmp 138) (Operand.tmp 139) 9, type := 4, pos := "law.go:47", after := #[{ on := 0, ground := Ground.data }, { on := 1, ground := Ground.data }], guard := none }) (v := .bool false) rfl (by kernel_rfl) (by kernel_rfl) (by kernel_rfl) (fun _ _ _ h => h) (Or.inl ⟨by rfl, fun w' hSw => by ((try dsimp only at hSw); go_simp)⟩) (by assumption) ?_
                        (try simp only [Act.put, List.setIfInBounds_toArray, List.set_cons_zero, List.set_cons_succ])
                        refine wpAnyH_take (i := 3) (oi := { dst := some 141, op := Op.move (Operand.tmp 140), type := 4, pos := "law.go:47", after := #[{ on := 2, ground := Ground.data }], guard := none }) (v := .bool false) rfl (by kernel_rfl) (by kernel_rfl) (by kernel_rfl) (fun _ _ _ h => h) (Or.inl ⟨by rfl, fun w' hSw => by ((try dsimp only at hSw); go_simp)⟩) (by assumption) ?_
                        (try simp only [Act.put, List.setIfInBounds_toArray, List.set_cons_zero, List.set_cons_succ])
                        refine wpAnyH_take (i := 4) (oi := { dst := some 142, op := Op.move (Operand.tmp 21), type := 4, pos := "law.go:47", after := #[{ on := 3, ground := Ground.guard }], guard := some (3, false) }) (v := .bool xo) rfl (by kernel_rfl) (by kernel_rfl) (by kernel_rfl) (fun _ _ _ h => h) (Or.inl ⟨by rfl, fun w' hSw => by ((try dsimp only at hSw); go_simp)⟩) (by assumption) ?_
                        (try simp only [Act.put, List.setIfInBounds_toArray, List.set_cons_zero, List.set_cons_succ])
                        refine wpAnyH_take (i := 5) (oi := { dst := some 143, op := Op.move (Operand.tmp 23), type := 4, pos := "law.go:47", after := #[{ on := 3, ground := Ground.guard }], guard := some (3, false) }) (v := .bool xo) rfl (by kernel_rfl) (by kernel_rfl) (by kernel_rfl) (fun _ _ _ h => h) (Or.inl ⟨by rfl, fun w' hSw => by ((try dsimp only at hSw); go_simp)⟩) (by assumption) ?_
                        (try simp only [Act.put, List.setIfInBounds_toArray, List.set_cons_zero, List.set_cons_succ])
                        refine wpAnyH_take (i := 6) (oi := { dst := some 144, op := Op.binOp BinOp.neq 4 (Operand.tmp 142) (Operand.tmp 143) 4, type := 4, pos := "law.go:47", after := #[{ on := 4, ground := Ground.data }, { on := 5, ground := Ground.data }, { on := 3, ground := Ground.guard }], guard := some (3, false) }) (v := .bool false) rfl (by kernel_rfl) (by kernel_rfl) (by kernel_rfl) (fun _ _ _ h => h) (Or.inl ⟨by rfl, fun w' hSw => by ((try dsimp only at hSw); go_simp)⟩) (by assumption) ?_
                        (try simp only [Act.put, List.setIfInBounds_toArray, List.set_cons_zero, List.set_cons_succ])
                        refine wpAnyH_take (i := 7) (oi := { dst := some 145, op := Op.pick (Operand.tmp 141) (Operand.const (Value.bool true)) (Operand.tmp 144), type := 4, pos := "law.go:47", after := #[{ on := 3, ground := Ground.data }, { on := 6, ground := Ground.data }], guard := none }) (v := .bool false) rfl (by kernel_rfl) (by kernel_rfl) (by kernel_rfl) (fun _ _ _ h => h) (Or.inl ⟨by rfl, fun w' hSw => by ((try dsimp only at hSw); go_simp)⟩) (by assumption) ?_
                        (try simp only [Act.put, List.setIfInBounds_toArray, List.set_cons_zero, List.set_cons_succ])
                        refine wpAnyH_take (i := 8) (oi := { dst := some 146, op := Op.move (Operand.tmp 145), type := 4, pos := "law.go:47", after := #[{ on := 7, ground := Ground.data }, { on := 3, ground := Ground.chain }], guard := none }) (v := .bool false) rfl (by kernel_rfl) (by kernel_rfl) (by kernel_rfl) (fun _ _ _ h => h) (Or.inl ⟨by rfl, fun w' hSw => by ((try dsimp only at hSw); go_simp)⟩) (by assumption) ?_
                        (try simp only [Act.put, List.setIfInBounds_toArray, List.set_cons_zero, List.set_cons_succ])
                        refine wpAnyH_take (i := 9) (oi := { dst := some 147, op := Op.load 26 (Operand.tmp 19), type := 26, pos := "law.go:47", after := #[{ on := 8, ground := Ground.guard }], guard := some (8, false) }) (v := .agg #[.int .i64 qk, .int .i64 qo, .string qb]) rfl (by kernel_rfl) (by kernel_rfl) (by kernel_rfl) (fun _ _ _ h => h) (Or.inl ⟨by rfl, fun w' hSw => by ((try dsimp only at hSw); have := X0 _ hSw; have := X1 _ hSw; have := X2 _ hSw; go_simp)⟩) (by assumption) ?_
                        (try simp only [Act.put, List.setIfInBounds_toArray, List.set_cons_zero, List.set_cons_succ])
                        refine wpAnyH_take (i := 11) (oi := { dst := some 149, op := Op.load 26 (Operand.tmp 19), type := 26, pos := "law.go:47", after := #[{ on := 8, ground := Ground.guard }], guard := some (8, false) }) (v := .agg #[.int .i64 qk, .int .i64 qo, .string qb]) rfl (by kernel_rfl) (by kernel_rfl) (by kernel_rfl) (fun _ _ _ h => h) (Or.inl ⟨by rfl, fun w' hSw => by ((try dsimp only at hSw); have := X0 _ hSw; have := X1 _ hSw; have := X2 _ hSw; go_simp)⟩) (by assumption) ?_
                        (try simp only [Act.put, List.setIfInBounds_toArray, List.set_cons_zero, List.set_cons_succ])
                        refine wpAnyH_ready (rs := [10]) (by kernel_rfl) (by simp) ?_
                        refine AllReadyH.cons (o := { dst := some 148, op := Op.call { callee := Callee.value (Operand.func 16), args := #[Operand.tmp 147], argTypes := #[26] }, type := 4, pos := "law.go:47", after := #[{ on := 9, ground := Ground.data }, { on := 8, ground := Ground.chain }, { on := 8, ground := Ground.guard }], guard := some (8, false) }) rfl (fun K hK => ?_) ?_
                        · go_simp; go_at_call 16; refine (HR.out _).mono ?_; rintro e u1 ⟨rfl, hb1⟩
                          refine hK.out _ _ ?_ (fun hHeld => ?_)
                          · exact Held.step (by assumption) hb1
                          clear hK K
                          (try simp only [Act.put, List.setIfInBounds_toArray, List.set_cons_zero, List.set_cons_succ])
                          refine wpAnyH_ready (rs := [12]) (by kernel_rfl) (by simp) ?_
                          refine AllReadyH.cons (o := { dst := some 150, op := Op.call { callee := Callee.value (Operand.func 17), args := #[Operand.tmp 149], argTypes := #[26] }, type := 4, pos := "law.go:47", after := #[{ on := 11, ground := Ground.data }, { on := 10, ground := Ground.chain }, { on := 8, ground := Ground.guard }], guard := some (8, false) }) rfl (fun K hK => ?_) ?_
                          · go_simp; go_at_call 17; refine (HRR.out _).mono ?_; rintro e u2 ⟨rfl, hb2⟩
                            refine hK.out _ _ ?_ (fun hHeld => ?_)
                            · exact Held.step (by assumption) hb2
                            clear hK K
                            (try simp only [Act.put, List.setIfInBounds_toArray, List.set_cons_zero, List.set_cons_succ])
                            refine wpAnyH_take (i := 13) (oi := { dst := some 151, op := Op.binOp BinOp.neq 4 (Operand.tmp 148) (Operand.tmp 150) 4, type := 4, pos := "law.go:47", after := #[{ on := 10, ground := Ground.data }, { on := 12, ground := Ground.data }, { on := 8, ground := Ground.guard }], guard := some (8, false) }) (v := .bool false) rfl (by kernel_rfl) (by kernel_rfl) (by kernel_rfl) (fun _ _ _ h => h) (Or.inl ⟨by rfl, fun w' hSw => by ((try dsimp only at hSw); go_simp)⟩) (by assumption) ?_
                            (try simp only [Act.put, List.setIfInBounds_toArray, List.set_cons_zero, List.set_cons_succ])
                            refine wpAnyH_take (i := 14) (oi := { dst := some 152, op := Op.pick (Operand.tmp 146) (Operand.const (Value.bool true)) (Operand.tmp 151), type := 4, pos := "law.go:47", after := #[{ on := 8, ground := Ground.data }, { on := 13, ground := Ground.data }], guard := none }) (v := .bool false) rfl (by kernel_rfl) (by kernel_rfl) (by kernel_rfl) (fun _ _ _ h => h) (Or.inl ⟨by rfl, fun w' hSw => by ((try dsimp only at hSw); go_simp)⟩) (by assumption) ?_
                            (try simp only [Act.put, List.setIfInBounds_toArray, List.set_cons_zero, List.set_cons_succ])
                            refine wpAnyH_done (by kernel_rfl) ?_ _
                            refine NoPanic.normal ?_
                            have HF := Lib.hid (HBW.out.trans (Below.mono hHeld HBW.out.size))
                            go_wp2_with fail
                            go_roundw
                            case rel => exact ⟨k1 + 1, by omega, by go_num, HF.out⟩
                            case measure => simp [intOf]; omega
                          exact AllReadyH.nil
                        exact AllReadyH.nil
                    · obtain rfl : n = k1 := by omega
                      have HPQ := Lib.hid (HP.out.kept HQ.out)
                      have HLE := Lib.hid (lent_walk (c := c) wr HPQ.out HN.out (by omega))
                      have b0 : (n : Int) ≤ 100000 := by omega
                      go_wp2_with fail
                      refine HLE.out.mono ?_; rintro e w1 ⟨g, c2, rfl, hlent, hg, hb⟩
                      have HL1 := Lib.hid hlent
                      have HB1 := Lib.hid (HQ.out.trans (hb.mono HQ.out.size))
                      clear hlent hg hb HQ HPQ HLE
                      go_wp2_with fail
                      refine (AL2.out _ _ _ HL1.out).mono ?_; rintro e w2 ⟨rfl, hb⟩
                      have HL2 := Lib.hid (HL1.out.kept hb)
                      have HB2 := Lib.hid (HB1.out.trans (hb.mono HB1.out.size))
                      clear hb HL1 HB1
                      go_wp2_with fail
                      refine (RL.out _ (HP.out.kept HB2.out) HB2.out.size).mono ?_; rintro e w3 ⟨rfl, hb⟩
                      have HL3 := Lib.hid (HL2.out.kept hb)
                      have HB3 := Lib.hid (HB2.out.trans (hb.mono HB2.out.size))
                      clear hb HL2 HB2
                      have HST := Lib.hid (stays_walk (d := c) w3 HL3.out (HP.out.kept HB3.out) (by omega))
                      cases fo with
                      | true =>
                        go_wp2_with fail
                        refine HST.out.mono ?_; rintro e w4 ⟨rfl, hb⟩
                        have HB4 := Lib.hid (HB3.out.trans (hb.mono HB3.out.size))
                        clear hb
                        go_wp2_with fail
                        go_ret
                        exact ⟨rfl, HB4.out⟩
                      | false =>
                        go_wp2_with fail
                        refine HST.out.mono ?_; rintro e w4 ⟨rfl, hb⟩
                        have HB4 := Lib.hid (HB3.out.trans (hb.mono HB3.out.size))
                        clear hb
                        go_wp2_with fail
                        go_ret
                        exact ⟨rfl, HB4.out⟩
        | false =>
          have P0 := Lib.hid (fun w => page_any s0 ws0 w)
          have P1 := Lib.hid (fun w => page_any s1 ws1 w)
          have hX := str_max _ (pageOf_length s0.data.toList)
          have hY := str_max _ (pageOf_length s1.data.toList)
          generalize str (pageOf s0.data.toList) = X at *
          generalize str (pageOf s1.data.toList) = Y at *
          have WH := Lib.hid (fun w => whole_any k Y hY w)
          have HIN := Lib.hid (whole_in k Y)
          unfold pvP pv at WH
          generalize okW k Y = wo at *
          generalize wholeS k Y = ww at *
          obtain ⟨wk, wa, wS⟩ := ww
          dsimp only at WH HIN
          have DI := Lib.hid (fun w => diff_any k X Y hX hY w)
          have RD := Lib.hid (fun w => rdiff_any k X Y hX hY w)
          generalize difS k X.data.toList Y.data.toList = dd at *
          generalize okD k X.data.toList Y.data.toList = okd at *
          obtain ⟨dk, da, dS⟩ := dd
          have AP := Lib.hid (fun (p : Pt) (hs : p.bs.size ≤ maxLen) w => apply_any p.pg p.ofs p.bs X hs hX w)
          have RP := Lib.hid (fun (p : Pt) (hs : p.bs.size ≤ maxLen) w => rapply_any p.pg p.ofs p.bs X hs hX w)
          have AL2 := Lib.hid (fun (r : World) (g c2 : Nat) (h : Lent r g n c2 l) => all_walk (lc := c2) (page := k) (b := X) r (h.pts HP.out.2.1 (by unfold maxLen; omega)) HN.out (Nat.le_refl _) hX)
          have RL := Lib.hid (fun (r : World) (h : Pts w.heap.size r A l) (hs : w.heap.size ≤ r.heap.size) => rall_walk (lc := c) (page := k) (b := X) r h HN.out hs hX)
          generalize str (allS k X.data.toList l) = FS at *
          generalize allOk X.data.toList l = fo at *
          have hse := show (FS.toList == FS.toList) = true by simp
          have hse2 := show (dS.toList == dS.toList) = true by simp
          have hse3 := show (Y.toList == Y.toList) = true by simp
          unfold pvP pv at DI RD
          dsimp only at DI RD
          have hin : (0 ≤ k ∧ k ≤ 63 ∧ (Y.size : Int) = 256 ∧ k = wk ∧ wa = 0 ∧ Y = wS ∧ wo = true) ∨ ((0 ≤ k → k < 64 → (Y.size : Int) = 256 → False) ∧ wk = 0 ∧ wa = 0 ∧ wS = ⟨#[]⟩ ∧ wo = false) := HIN.out
          clear HIN
          clear hX hY
          have HB0 := Lib.hid (Below.refl w.heap.size w)
          have AL := Lib.hid alive_yes
          go_enter Try.func3, Try.ntmps3
          go_wp2_with fail
          refine (AL.out _).mono ?_; rintro e w1 ⟨rfl, hb⟩
          have HB1 := Lib.hid (HB0.out.trans (hb.mono (Below.size HB0.out)))
          clear hb HB0 
          go_wp2_with fail
          refine (P0.out _).mono ?_; rintro e w2 ⟨rfl, hb⟩
          have HB2 := Lib.hid (HB1.out.trans (hb.mono (Below.size HB1.out)))
          clear hb HB1 
          go_wp2_with fail
          refine (P1.out _).mono ?_; rintro e w3 ⟨rfl, hb⟩
          have HB3 := Lib.hid (HB2.out.trans (hb.mono (Below.size HB2.out)))
          clear hb HB2 
          go_wp2_with fail
          refine (DI.out _).mono ?_; rintro e w4 ⟨rfl, hb⟩
          have HB4 := Lib.hid (HB3.out.trans (hb.mono (Below.size HB3.out)))
          clear hb HB3 
          go_wp2_with fail
          have HD4 := Lib.hid (Box.new w4 (.int .i64 dk) (.int .i64 da) (.string dS))
          have hal := (Below.refl w4.heap.size w4).alloc (Nat.le_refl _) (.cells #[.int .i64 dk, .int .i64 da, .string dS] 26)
          replace HB4 := Lib.hid (HB4.out.trans (hal.mono (Below.size HB4.out)))
          clear hal
          obtain ⟨bHD, hbHD⟩ : ∃ bHD, bHD = w4.heap.size := ⟨_, rfl⟩
          generalize w4.alloc (.cells #[.int .i64 dk, .int .i64 da, .string dS] 26) = v4 at *
          rw [← hbHD] at HD4 ⊢
          clear hbHD
          refine (RD.out _).mono ?_; rintro e w5 ⟨rfl, hb⟩
          have HD5 := Lib.hid (HD4.out.kept hb)
          have HB5 := Lib.hid (HB4.out.trans (hb.mono (Below.size HB4.out)))
          clear hb HB4 HD4
          go_wp2_with fail
          have HE5 := Lib.hid (Box.new w5 (.int .i64 dk) (.int .i64 da) (.string dS))
          have hal := (Below.refl w5.heap.size w5).alloc (Nat.le_refl _) (.cells #[.int .i64 dk, .int .i64 da, .string dS] 26)
          replace HD5 := Lib.hid (HD5.out.below hal (Nat.le_refl _))
          replace HB5 := Lib.hid (HB5.out.trans (hal.mono (Below.size HB5.out)))
          clear hal
          obtain ⟨bHE, hbHE⟩ : ∃ bHE, bHE = w5.heap.size := ⟨_, rfl⟩
          generalize w5.alloc (.cells #[.int .i64 dk, .int .i64 da, .string dS] 26) = v5 at *
          rw [← hbHE] at HE5 ⊢
          clear hbHE
          refine (WH.out _).mono ?_; rintro e w6 ⟨rfl, hb⟩
          have HD6 := Lib.hid (HD5.out.kept hb)
          have HE6 := Lib.hid (HE5.out.kept hb)
          have HB6 := Lib.hid (HB5.out.trans (hb.mono (Below.size HB5.out)))
          clear hb HB5 HD5 HE5
          go_upto_region 8 with fail
          have HW6 := Lib.hid (Box.new w6 (.int .i64 wk) (.int .i64 wa) (.string wS))
          have hal := (Below.refl w6.heap.size w6).alloc (Nat.le_refl _) (.cells #[.int .i64 wk, .int .i64 wa, .string wS] 26)
          replace HD6 := Lib.hid (HD6.out.below hal (Nat.le_refl _))
          replace HE6 := Lib.hid (HE6.out.below hal (Nat.le_refl _))
          replace HB6 := Lib.hid (HB6.out.trans (hal.mono (Below.size HB6.out)))
          clear hal
          obtain ⟨bHW, hbHW⟩ : ∃ bHW, bHW = w6.heap.size := ⟨_, rfl⟩
          generalize w6.alloc (.cells #[.int .i64 wk, .int .i64 wa, .string wS] 26) = v6 at *
          rw [← hbHW] at HW6 ⊢
          clear hbHW
          go_cut [17] (fun s17 wx => s17 = .bool wo ∧ wx = v6)
          case first =>
            rcases hin with ⟨hi0, hi1, hi2, rfl, rfl, rfl, rfl⟩ | ⟨hno, rfl, rfl, rfl, rfl⟩
            · have hi3 : k < 64 := by omega
              go_wp2_with fail
              go_meet
              exact ⟨rfl, rfl⟩
            · by_cases j0 : 0 ≤ k
              · by_cases j1 : k < 64
                · have j2 : ((Y.size : Int) == 256) = false := by rw [beq_eq_false_iff_ne]; exact fun e => hno j0 j1 e
                  have j3 : ¬ (Y.size : Int) = 256 := fun e => hno j0 j1 e
                  go_wp2_with fail
                  go_meet
                  exact ⟨rfl, rfl⟩
                · go_wp2_with fail
                  go_meet
                  exact ⟨rfl, rfl⟩
              · go_wp2_with fail
                go_meet
                exact ⟨rfl, rfl⟩
          case rest =>
            obtain ⟨rfl, rfl⟩ := hcut
            obtain ⟨x0, x1, x2⟩ := HD6.out.cells
            obtain ⟨y0, y1, y2⟩ := HE6.out.cells
            obtain ⟨z0, z1, z2⟩ := HW6.out.cells
            have HBL := Lib.hid HB6.out
            clear HB6
            rcases hin with ⟨hi0, hi1, hi2, rfl, rfl, rfl, rfl⟩ | ⟨hno, rfl, rfl, rfl, rfl⟩
            · cases okd with
              | true => as_aux_lemma =>
                  go_wp2_with fail
                  clear x0 x1 x2 y0 y1 y2 z0 z1 z2 HD6 HE6 HW6 DI RD WH
                  go_loopw [118] (fun x wr => ∃ k1 : Nat, k1 ≤ n ∧ x = .int .i64 k1 ∧ Hid (Below w.heap.size w wr)) (fun x _ => n - (intOf x).toNat)
                  case atStart => exact ⟨0, Nat.zero_le _, rfl, HBL.out⟩
                  case round =>
                    obtain ⟨k1, hk, rfl, hq⟩ := hrel
                    have HQ := Lib.hid hq.out
                    clear hq
                    by_cases hlt : k1 < n
                    · have hkl : k1 < l.length := by rw [HN.out]; exact hlt
                      obtain ⟨bl, off, rfl, hbl, hpp⟩ := HP.out.1 k1 hkl
                      obtain ⟨c0, c1, c2⟩ := hpp.kept (w' := wr) hbl HQ.out
                      have HSZ := HP.out.size k1 hkl
                      have A1 := Lib.hid (AP.out _ HSZ)
                      have A2 := Lib.hid (RP.out _ HSZ)
                      have HR := Lib.hid (fun r => right_any (l.getD k1 nilP).pg (l.getD k1 nilP).ofs (l.getD k1 nilP).bs HSZ r)
                      have HRR := Lib.hid (fun r => rright_any (l.getD k1 nilP).pg (l.getD k1 nilP).ofs (l.getD k1 nilP).bs HSZ r)
                      generalize (l.getD k1 nilP) = q at *
                      obtain ⟨qk, qo, qb⟩ := q
                      dsimp only at c0 c1 c2 A1 A2 HR HRR
                      generalize str (applyS X.data.toList ⟨qk, qo, qb⟩) = xs at *
                      generalize applyOk X.data.toList ⟨qk, qo, qb⟩ = xo at *
                      generalize okP ⟨qk, qo, qb⟩ = rg at *
                      unfold pv at A1 A2 HR HRR
                      have hsx := show (xs.toList == xs.toList) = true by simp
                      have HX := Lib.hid (Box.new wr (.int .i64 qk) (.int .i64 qo) (.string qb))
                      have hA := (Below.refl wr.heap.size wr).alloc (Nat.le_refl _) (.cells #[.int .i64 qk, .int .i64 qo, .string qb] 26)
                      have HBW0 := Lib.hid (HQ.out.trans (hA.mono HQ.out.size))
                      clear hbl hpp hA HSZ
                      have b1 : (0 : Int) ≤ (k1 : Int) := by omega
                      have b2 : (k1 : Int) < (n : Int) := by omega
                      by_cases hlong : (400 : Int) < (qb.size : Int)
                      · go_wp2_with fail
                        go_ret
                        exact ⟨rfl, HBW0.out⟩
                      · go_wp2_with fail
                        clear c0 c1 c2
                        generalize wr.alloc (.cells #[.int .i64 qk, .int .i64 qo, .string qb] 26) = W0 at *
                        refine (A1.out _).mono ?_; rintro e w1 ⟨rfl, hb⟩
                        have HX1 := Lib.hid (HX.out.kept hb)
                        have HB1 := Lib.hid (HBW0.out.trans (hb.mono HBW0.out.size))
                        clear hb HX HBW0 HQ
                        obtain ⟨x0, x1, x2⟩ := HX1.out.cells
                        go_wp2_with fail
                        refine (A2.out _).mono ?_; rintro e W ⟨rfl, hb⟩
                        have HX2 := Lib.hid (HX1.out.kept hb)
                        have HBW := Lib.hid (HB1.out.trans (hb.mono HB1.out.size))
                        clear hb HX1 HB1 x0 x1 x2
                        obtain ⟨x0, x1, x2⟩ := HX2.out.cells
                        have X0 := fun r (h : Held W r) => h.cell x0
                        have X1 := fun r (h : Held W r) => h.cell x1
                        have X2 := fun r (h : Held W r) => h.cell x2
                        clear x0 x1 x2
                        go_upto_region 18 with fail
                        refine wp_region_noPanic ?_
                        refine wp_region_held_drew (S := Held W) (by kernel_rfl) ?_ (fun hHeld => ?_)
                        · exact Held.start _
                        refine wpAnyH_take (i := 0) (oi := { dst := some 138, op := Op.move (Operand.tmp 20), type := 9, pos := "law.go:47", after := #[], guard := none }) (v := .string xs) rfl (by kernel_rfl) (by kernel_rfl) (by kernel_rfl) (fun _ _ _ h => h) (Or.inl ⟨by rfl, fun w' hSw => by ((try dsimp only at hSw); go_simp)⟩) (by assumption) ?_
                        (try simp only [Act.put, List.setIfInBounds_toArray, List.set_cons_zero, List.set_cons_succ])
                        refine wpAnyH_take (i := 1) (oi := { dst := some 139, op := Op.move (Operand.tmp 22), type := 9, pos := "law.go:47", after := #[], guard := none }) (v := .string xs) rfl (by kernel_rfl) (by kernel_rfl) (by kernel_rfl) (fun _ _ _ h => h) (Or.inl ⟨by rfl, fun w' hSw => by ((try dsimp only at hSw); go_simp)⟩) (by assumption) ?_
                        (try simp only [Act.put, List.setIfInBounds_toArray, List.set_cons_zero, List.set_cons_succ])
                        refine wpAnyH_take (i := 2) (oi := { dst := some 140, op := Op.binOp BinOp.neq 9 (Operand.tmp 138) (Operand.tmp 139) 9, type := 4, pos := "law.go:47", after := #[{ on := 0, ground := Ground.data }, { on := 1, ground := Ground.data }], guard := none }) (v := .bool false) rfl (by kernel_rfl) (by kernel_rfl) (by kernel_rfl) (fun _ _ _ h => h) (Or.inl ⟨by rfl, fun w' hSw => by ((try dsimp only at hSw); go_simp)⟩) (by assumption) ?_
                        (try simp only [Act.put, List.setIfInBounds_toArray, List.set_cons_zero, List.set_cons_succ])
                        refine wpAnyH_take (i := 3) (oi := { dst := some 141, op := Op.move (Operand.tmp 140), type := 4, pos := "law.go:47", after := #[{ on := 2, ground := Ground.data }], guard := none }) (v := .bool false) rfl (by kernel_rfl) (by kernel_rfl) (by kernel_rfl) (fun _ _ _ h => h) (Or.inl ⟨by rfl, fun w' hSw => by ((try dsimp only at hSw); go_simp)⟩) (by assumption) ?_
                        (try simp only [Act.put, List.setIfInBounds_toArray, List.set_cons_zero, List.set_cons_succ])
                        refine wpAnyH_take (i := 4) (oi := { dst := some 142, op := Op.move (Operand.tmp 21), type := 4, pos := "law.go:47", after := #[{ on := 3, ground := Ground.guard }], guard := some (3, false) }) (v := .bool xo) rfl (by kernel_rfl) (by kernel_rfl) (by kernel_rfl) (fun _ _ _ h => h) (Or.inl ⟨by rfl, fun w' hSw => by ((try dsimp only at hSw); go_simp)⟩) (by assumption) ?_
                        (try simp only [Act.put, List.setIfInBounds_toArray, List.set_cons_zero, List.set_cons_succ])
                        refine wpAnyH_take (i := 5) (oi := { dst := some 143, op := Op.move (Operand.tmp 23), type := 4, pos := "law.go:47", after := #[{ on := 3, ground := Ground.guard }], guard := some (3, false) }) (v := .bool xo) rfl (by kernel_rfl) (by kernel_rfl) (by kernel_rfl) (fun _ _ _ h => h) (Or.inl ⟨by rfl, fun w' hSw => by ((try dsimp only at hSw); go_simp)⟩) (by assumption) ?_
                        (try simp only [Act.put, List.setIfInBounds_toArray, List.set_cons_zero, List.set_cons_succ])
                        refine wpAnyH_take (i := 6) (oi := { dst := some 144, op := Op.binOp BinOp.neq 4 (Operand.tmp 142) (Operand.tmp 143) 4, type := 4, pos := "law.go:47", after := #[{ on := 4, ground := Ground.data }, { on := 5, ground := Ground.data }, { on := 3, ground := Ground.guard }], guard := some (3, false) }) (v := .bool false) rfl (by kernel_rfl) (by kernel_rfl) (by kernel_rfl) (fun _ _ _ h => h) (Or.inl ⟨by rfl, fun w' hSw => by ((try dsimp only at hSw); go_simp)⟩) (by assumption) ?_
                        (try simp only [Act.put, List.setIfInBounds_toArray, List.set_cons_zero, List.set_cons_succ])
                        refine wpAnyH_take (i := 7) (oi := { dst := some 145, op := Op.pick (Operand.tmp 141) (Operand.const (Value.bool true)) (Operand.tmp 144), type := 4, pos := "law.go:47", after := #[{ on := 3, ground := Ground.data }, { on := 6, ground := Ground.data }], guard := none }) (v := .bool false) rfl (by kernel_rfl) (by kernel_rfl) (by kernel_rfl) (fun _ _ _ h => h) (Or.inl ⟨by rfl, fun w' hSw => by ((try dsimp only at hSw); go_simp)⟩) (by assumption) ?_
                        (try simp only [Act.put, List.setIfInBounds_toArray, List.set_cons_zero, List.set_cons_succ])
                        refine wpAnyH_take (i := 8) (oi := { dst := some 146, op := Op.move (Operand.tmp 145), type := 4, pos := "law.go:47", after := #[{ on := 7, ground := Ground.data }, { on := 3, ground := Ground.chain }], guard := none }) (v := .bool false) rfl (by kernel_rfl) (by kernel_rfl) (by kernel_rfl) (fun _ _ _ h => h) (Or.inl ⟨by rfl, fun w' hSw => by ((try dsimp only at hSw); go_simp)⟩) (by assumption) ?_
                        (try simp only [Act.put, List.setIfInBounds_toArray, List.set_cons_zero, List.set_cons_succ])
                        refine wpAnyH_take (i := 9) (oi := { dst := some 147, op := Op.load 26 (Operand.tmp 19), type := 26, pos := "law.go:47", after := #[{ on := 8, ground := Ground.guard }], guard := some (8, false) }) (v := .agg #[.int .i64 qk, .int .i64 qo, .string qb]) rfl (by kernel_rfl) (by kernel_rfl) (by kernel_rfl) (fun _ _ _ h => h) (Or.inl ⟨by rfl, fun w' hSw => by ((try dsimp only at hSw); have := X0 _ hSw; have := X1 _ hSw; have := X2 _ hSw; go_simp)⟩) (by assumption) ?_
                        (try simp only [Act.put, List.setIfInBounds_toArray, List.set_cons_zero, List.set_cons_succ])
                        refine wpAnyH_take (i := 11) (oi := { dst := some 149, op := Op.load 26 (Operand.tmp 19), type := 26, pos := "law.go:47", after := #[{ on := 8, ground := Ground.guard }], guard := some (8, false) }) (v := .agg #[.int .i64 qk, .int .i64 qo, .string qb]) rfl (by kernel_rfl) (by kernel_rfl) (by kernel_rfl) (fun _ _ _ h => h) (Or.inl ⟨by rfl, fun w' hSw => by ((try dsimp only at hSw); have := X0 _ hSw; have := X1 _ hSw; have := X2 _ hSw; go_simp)⟩) (by assumption) ?_
                        (try simp only [Act.put, List.setIfInBounds_toArray, List.set_cons_zero, List.set_cons_succ])
                        refine wpAnyH_ready (rs := [10]) (by kernel_rfl) (by simp) ?_
                        refine AllReadyH.cons (o := { dst := some 148, op := Op.call { callee := Callee.value (Operand.func 16), args := #[Operand.tmp 147], argTypes := #[26] }, type := 4, pos := "law.go:47", after := #[{ on := 9, ground := Ground.data }, { on := 8, ground := Ground.chain }, { on := 8, ground := Ground.guard }], guard := some (8, false) }) rfl (fun K hK => ?_) ?_
                        · go_simp; go_at_call 16; refine (HR.out _).mono ?_; rintro e u1 ⟨rfl, hb1⟩
                          refine hK.out _ _ ?_ (fun hHeld => ?_)
                          · exact Held.step (by assumption) hb1
                          clear hK K
                          (try simp only [Act.put, List.setIfInBounds_toArray, List.set_cons_zero, List.set_cons_succ])
                          refine wpAnyH_ready (rs := [12]) (by kernel_rfl) (by simp) ?_
                          refine AllReadyH.cons (o := { dst := some 150, op := Op.call { callee := Callee.value (Operand.func 17), args := #[Operand.tmp 149], argTypes := #[26] }, type := 4, pos := "law.go:47", after := #[{ on := 11, ground := Ground.data }, { on := 10, ground := Ground.chain }, { on := 8, ground := Ground.guard }], guard := some (8, false) }) rfl (fun K hK => ?_) ?_
                          · go_simp; go_at_call 17; refine (HRR.out _).mono ?_; rintro e u2 ⟨rfl, hb2⟩
                            refine hK.out _ _ ?_ (fun hHeld => ?_)
                            · exact Held.step (by assumption) hb2
                            clear hK K
                            (try simp only [Act.put, List.setIfInBounds_toArray, List.set_cons_zero, List.set_cons_succ])
                            refine wpAnyH_take (i := 13) (oi := { dst := some 151, op := Op.binOp BinOp.neq 4 (Operand.tmp 148) (Operand.tmp 150) 4, type := 4, pos := "law.go:47", after := #[{ on := 10, ground := Ground.data }, { on := 12, ground := Ground.data }, { on := 8, ground := Ground.guard }], guard := some (8, false) }) (v := .bool false) rfl (by kernel_rfl) (by kernel_rfl) (by kernel_rfl) (fun _ _ _ h => h) (Or.inl ⟨by rfl, fun w' hSw => by ((try dsimp only at hSw); go_simp)⟩) (by assumption) ?_
                            (try simp only [Act.put, List.setIfInBounds_toArray, List.set_cons_zero, List.set_cons_succ])
                            refine wpAnyH_take (i := 14) (oi := { dst := some 152, op := Op.pick (Operand.tmp 146) (Operand.const (Value.bool true)) (Operand.tmp 151), type := 4, pos := "law.go:47", after := #[{ on := 8, ground := Ground.data }, { on := 13, ground := Ground.data }], guard := none }) (v := .bool false) rfl (by kernel_rfl) (by kernel_rfl) (by kernel_rfl) (fun _ _ _ h => h) (Or.inl ⟨by rfl, fun w' hSw => by ((try dsimp only at hSw); go_simp)⟩) (by assumption) ?_
                            (try simp only [Act.put, List.setIfInBounds_toArray, List.set_cons_zero, List.set_cons_succ])
                            refine wpAnyH_done (by kernel_rfl) ?_ _
                            refine NoPanic.normal ?_
                            have HF := Lib.hid (HBW.out.trans (Below.mono hHeld HBW.out.size))
                            go_wp2_with fail
                            go_roundw
                            case rel => exact ⟨k1 + 1, by omega, by go_num, HF.out⟩
                            case measure => simp [intOf]; omega
                          exact AllReadyH.nil
                        exact AllReadyH.nil
                    · obtain rfl : n = k1 := by omega
                      have HPQ := Lib.hid (HP.out.kept HQ.out)
                      have HLE := Lib.hid (lent_walk (c := c) wr HPQ.out HN.out (by omega))
                      have b0 : (n : Int) ≤ 100000 := by omega
                      go_wp2_with fail
                      refine HLE.out.mono ?_; rintro e w1 ⟨g, c2, rfl, hlent, hg, hb⟩
                      have HL1 := Lib.hid hlent
                      have HB1 := Lib.hid (HQ.out.trans (hb.mono HQ.out.size))
                      clear hlent hg hb HQ HPQ HLE
                      go_wp2_with fail
                      refine (AL2.out _ _ _ HL1.out).mono ?_; rintro e w2 ⟨rfl, hb⟩
                      have HL2 := Lib.hid (HL1.out.kept hb)
                      have HB2 := Lib.hid (HB1.out.trans (hb.mono HB1.out.size))
                      clear hb HL1 HB1
                      go_wp2_with fail
                      refine (RL.out _ (HP.out.kept HB2.out) HB2.out.size).mono ?_; rintro e w3 ⟨rfl, hb⟩
                      have HL3 := Lib.hid (HL2.out.kept hb)
                      have HB3 := Lib.hid (HB2.out.trans (hb.mono HB2.out.size))
                      clear hb HL2 HB2
                      have HST := Lib.hid (stays_walk (d := c) w3 HL3.out (HP.out.kept HB3.out) (by omega))
                      cases fo with
                      | true =>
                        go_wp2_with fail
                        refine HST.out.mono ?_; rintro e w4 ⟨rfl, hb⟩
                        have HB4 := Lib.hid (HB3.out.trans (hb.mono HB3.out.size))
                        clear hb
                        go_wp2_with fail
                        go_ret
                        exact ⟨rfl, HB4.out⟩
                      | false =>
                        go_wp2_with fail
                        refine HST.out.mono ?_; rintro e w4 ⟨rfl, hb⟩
                        have HB4 := Lib.hid (HB3.out.trans (hb.mono HB3.out.size))
                        clear hb
                        go_wp2_with fail
                        go_ret
                        exact ⟨rfl, HB4.out⟩
              | false => as_aux_lemma =>
                  go_wp2_with fail
                  clear x0 x1 x2 y0 y1 y2 z0 z1 z2 HD6 HE6 HW6 DI RD WH
                  go_loopw [118] (fun x wr => ∃ k1 : Nat, k1 ≤ n ∧ x = .int .i64 k1 ∧ Hid (Below w.heap.size w wr)) (fun x _ => n - (intOf x).toNat)
                  case atStart => exact ⟨0, Nat.zero_le _, rfl, HBL.out⟩
                  case round =>
                    obtain ⟨k1, hk, rfl, hq⟩ := hrel
                    have HQ := Lib.hid hq.out
                    clear hq
                    by_cases hlt : k1 < n
                    · have hkl : k1 < l.length := by rw [HN.out]; exact hlt
                      obtain ⟨bl, off, rfl, hbl, hpp⟩ := HP.out.1 k1 hkl
                      obtain ⟨c0, c1, c2⟩ := hpp.kept (w' := wr) hbl HQ.out
                      have HSZ := HP.out.size k1 hkl
                      have A1 := Lib.hid (AP.out _ HSZ)
                      have A2 := Lib.hid (RP.out _ HSZ)
                      have HR := Lib.hid (fun r => right_any (l.getD k1 nilP).pg (l.getD k1 nilP).ofs (l.getD k1 nilP).bs HSZ r)
                      have HRR := Lib.hid (fun r => rright_any (l.getD k1 nilP).pg (l.getD k1 nilP).ofs (l.getD k1 nilP).bs HSZ r)
                      generalize (l.getD k1 nilP) = q at *
                      obtain ⟨qk, qo, qb⟩ := q
                      dsimp only at c0 c1 c2 A1 A2 HR HRR
                      generalize str (applyS X.data.toList ⟨qk, qo, qb⟩) = xs at *
                      generalize applyOk X.data.toList ⟨qk, qo, qb⟩ = xo at *
                      generalize okP ⟨qk, qo, qb⟩ = rg at *
                      unfold pv at A1 A2 HR HRR
                      have hsx := show (xs.toList == xs.toList) = true by simp
                      have HX := Lib.hid (Box.new wr (.int .i64 qk) (.int .i64 qo) (.string qb))
                      have hA := (Below.refl wr.heap.size wr).alloc (Nat.le_refl _) (.cells #[.int .i64 qk, .int .i64 qo, .string qb] 26)
                      have HBW0 := Lib.hid (HQ.out.trans (hA.mono HQ.out.size))
                      clear hbl hpp hA HSZ
                      have b1 : (0 : Int) ≤ (k1 : Int) := by omega
                      have b2 : (k1 : Int) < (n : Int) := by omega
                      by_cases hlong : (400 : Int) < (qb.size : Int)
                      · go_wp2_with fail
                        go_ret
                        exact ⟨rfl, HBW0.out⟩
                      · go_wp2_with fail
                        clear c0 c1 c2
                        generalize wr.alloc (.cells #[.int .i64 qk, .int .i64 qo, .string qb] 26) = W0 at *
                        refine (A1.out _).mono ?_; rintro e w1 ⟨rfl, hb⟩
                        have HX1 := Lib.hid (HX.out.kept hb)
                        have HB1 := Lib.hid (HBW0.out.trans (hb.mono HBW0.out.size))
                        clear hb HX HBW0 HQ
                        obtain ⟨x0, x1, x2⟩ := HX1.out.cells
                        go_wp2_with fail
                        refine (A2.out _).mono ?_; rintro e W ⟨rfl, hb⟩
                        have HX2 := Lib.hid (HX1.out.kept hb)
                        have HBW := Lib.hid (HB1.out.trans (hb.mono HB1.out.size))
                        clear hb HX1 HB1 x0 x1 x2
                        obtain ⟨x0, x1, x2⟩ := HX2.out.cells
                        have X0 := fun r (h : Held W r) => h.cell x0
                        have X1 := fun r (h : Held W r) => h.cell x1
                        have X2 := fun r (h : Held W r) => h.cell x2
                        clear x0 x1 x2
                        go_upto_region 18 with fail
                        refine wp_region_noPanic ?_
                        refine wp_region_held_drew (S := Held W) (by kernel_rfl) ?_ (fun hHeld => ?_)
                        · exact Held.start _
                        refine wpAnyH_take (i := 0) (oi := { dst := some 138, op := Op.move (Operand.tmp 20), type := 9, pos := "law.go:47", after := #[], guard := none }) (v := .string xs) rfl (by kernel_rfl) (by kernel_rfl) (by kernel_rfl) (fun _ _ _ h => h) (Or.inl ⟨by rfl, fun w' hSw => by ((try dsimp only at hSw); go_simp)⟩) (by assumption) ?_
                        (try simp only [Act.put, List.setIfInBounds_toArray, List.set_cons_zero, List.set_cons_succ])
                        refine wpAnyH_take (i := 1) (oi := { dst := some 139, op := Op.move (Operand.tmp 22), type := 9, pos := "law.go:47", after := #[], guard := none }) (v := .string xs) rfl (by kernel_rfl) (by kernel_rfl) (by kernel_rfl) (fun _ _ _ h => h) (Or.inl ⟨by rfl, fun w' hSw => by ((try dsimp only at hSw); go_simp)⟩) (by assumption) ?_
                        (try simp only [Act.put, List.setIfInBounds_toArray, List.set_cons_zero, List.set_cons_succ])
                        refine wpAnyH_take (i := 2) (oi := { dst := some 140, op := Op.binOp BinOp.neq 9 (Operand.tmp 138) (Operand.tmp 139) 9, type := 4, pos := "law.go:47", after := #[{ on := 0, ground := Ground.data }, { on := 1, ground := Ground.data }], guard := none }) (v := .bool false) rfl (by kernel_rfl) (by kernel_rfl) (by kernel_rfl) (fun _ _ _ h => h) (Or.inl ⟨by rfl, fun w' hSw => by ((try dsimp only at hSw); go_simp)⟩) (by assumption) ?_
                        (try simp only [Act.put, List.setIfInBounds_toArray, List.set_cons_zero, List.set_cons_succ])
                        refine wpAnyH_take (i := 3) (oi := { dst := some 141, op := Op.move (Operand.tmp 140), type := 4, pos := "law.go:47", after := #[{ on := 2, ground := Ground.data }], guard := none }) (v := .bool false) rfl (by kernel_rfl) (by kernel_rfl) (by kernel_rfl) (fun _ _ _ h => h) (Or.inl ⟨by rfl, fun w' hSw => by ((try dsimp only at hSw); go_simp)⟩) (by assumption) ?_
                        (try simp only [Act.put, List.setIfInBounds_toArray, List.set_cons_zero, List.set_cons_succ])
                        refine wpAnyH_take (i := 4) (oi := { dst := some 142, op := Op.move (Operand.tmp 21), type := 4, pos := "law.go:47", after := #[{ on := 3, ground := Ground.guard }], guard := some (3, false) }) (v := .bool xo) rfl (by kernel_rfl) (by kernel_rfl) (by kernel_rfl) (fun _ _ _ h => h) (Or.inl ⟨by rfl, fun w' hSw => by ((try dsimp only at hSw); go_simp)⟩) (by assumption) ?_
                        (try simp only [Act.put, List.setIfInBounds_toArray, List.set_cons_zero, List.set_cons_succ])
                        refine wpAnyH_take (i := 5) (oi := { dst := some 143, op := Op.move (Operand.tmp 23), type := 4, pos := "law.go:47", after := #[{ on := 3, ground := Ground.guard }], guard := some (3, false) }) (v := .bool xo) rfl (by kernel_rfl) (by kernel_rfl) (by kernel_rfl) (fun _ _ _ h => h) (Or.inl ⟨by rfl, fun w' hSw => by ((try dsimp only at hSw); go_simp)⟩) (by assumption) ?_
                        (try simp only [Act.put, List.setIfInBounds_toArray, List.set_cons_zero, List.set_cons_succ])
                        refine wpAnyH_take (i := 6) (oi := { dst := some 144, op := Op.binOp BinOp.neq 4 (Operand.tmp 142) (Operand.tmp 143) 4, type := 4, pos := "law.go:47", after := #[{ on := 4, ground := Ground.data }, { on := 5, ground := Ground.data }, { on := 3, ground := Ground.guard }], guard := some (3, false) }) (v := .bool false) rfl (by kernel_rfl) (by kernel_rfl) (by kernel_rfl) (fun _ _ _ h => h) (Or.inl ⟨by rfl, fun w' hSw => by ((try dsimp only at hSw); go_simp)⟩) (by assumption) ?_
                        (try simp only [Act.put, List.setIfInBounds_toArray, List.set_cons_zero, List.set_cons_succ])
                        refine wpAnyH_take (i := 7) (oi := { dst := some 145, op := Op.pick (Operand.tmp 141) (Operand.const (Value.bool true)) (Operand.tmp 144), type := 4, pos := "law.go:47", after := #[{ on := 3, ground := Ground.data }, { on := 6, ground := Ground.data }], guard := none }) (v := .bool false) rfl (by kernel_rfl) (by kernel_rfl) (by kernel_rfl) (fun _ _ _ h => h) (Or.inl ⟨by rfl, fun w' hSw => by ((try dsimp only at hSw); go_simp)⟩) (by assumption) ?_
                        (try simp only [Act.put, List.setIfInBounds_toArray, List.set_cons_zero, List.set_cons_succ])
                        refine wpAnyH_take (i := 8) (oi := { dst := some 146, op := Op.move (Operand.tmp 145), type := 4, pos := "law.go:47", after := #[{ on := 7, ground := Ground.data }, { on := 3, ground := Ground.chain }], guard := none }) (v := .bool false) rfl (by kernel_rfl) (by kernel_rfl) (by kernel_rfl) (fun _ _ _ h => h) (Or.inl ⟨by rfl, fun w' hSw => by ((try dsimp only at hSw); go_simp)⟩) (by assumption) ?_
                        (try simp only [Act.put, List.setIfInBounds_toArray, List.set_cons_zero, List.set_cons_succ])
                        refine wpAnyH_take (i := 9) (oi := { dst := some 147, op := Op.load 26 (Operand.tmp 19), type := 26, pos := "law.go:47", after := #[{ on := 8, ground := Ground.guard }], guard := some (8, false) }) (v := .agg #[.int .i64 qk, .int .i64 qo, .string qb]) rfl (by kernel_rfl) (by kernel_rfl) (by kernel_rfl) (fun _ _ _ h => h) (Or.inl ⟨by rfl, fun w' hSw => by ((try dsimp only at hSw); have := X0 _ hSw; have := X1 _ hSw; have := X2 _ hSw; go_simp)⟩) (by assumption) ?_
                        (try simp only [Act.put, List.setIfInBounds_toArray, List.set_cons_zero, List.set_cons_succ])
                        refine wpAnyH_take (i := 11) (oi := { dst := some 149, op := Op.load 26 (Operand.tmp 19), type := 26, pos := "law.go:47", after := #[{ on := 8, ground := Ground.guard }], guard := some (8, false) }) (v := .agg #[.int .i64 qk, .int .i64 qo, .string qb]) rfl (by kernel_rfl) (by kernel_rfl) (by kernel_rfl) (fun _ _ _ h => h) (Or.inl ⟨by rfl, fun w' hSw => by ((try dsimp only at hSw); have := X0 _ hSw; have := X1 _ hSw; have := X2 _ hSw; go_simp)⟩) (by assumption) ?_
                        (try simp only [Act.put, List.setIfInBounds_toArray, List.set_cons_zero, List.set_cons_succ])
                        refine wpAnyH_ready (rs := [10]) (by kernel_rfl) (by simp) ?_
                        refine AllReadyH.cons (o := { dst := some 148, op := Op.call { callee := Callee.value (Operand.func 16), args := #[Operand.tmp 147], argTypes := #[26] }, type := 4, pos := "law.go:47", after := #[{ on := 9, ground := Ground.data }, { on := 8, ground := Ground.chain }, { on := 8, ground := Ground.guard }], guard := some (8, false) }) rfl (fun K hK => ?_) ?_
                        · go_simp; go_at_call 16; refine (HR.out _).mono ?_; rintro e u1 ⟨rfl, hb1⟩
                          refine hK.out _ _ ?_ (fun hHeld => ?_)
                          · exact Held.step (by assumption) hb1
                          clear hK K
                          (try simp only [Act.put, List.setIfInBounds_toArray, List.set_cons_zero, List.set_cons_succ])
                          refine wpAnyH_ready (rs := [12]) (by kernel_rfl) (by simp) ?_
                          refine AllReadyH.cons (o := { dst := some 150, op := Op.call { callee := Callee.value (Operand.func 17), args := #[Operand.tmp 149], argTypes := #[26] }, type := 4, pos := "law.go:47", after := #[{ on := 11, ground := Ground.data }, { on := 10, ground := Ground.chain }, { on := 8, ground := Ground.guard }], guard := some (8, false) }) rfl (fun K hK => ?_) ?_
                          · go_simp; go_at_call 17; refine (HRR.out _).mono ?_; rintro e u2 ⟨rfl, hb2⟩
                            refine hK.out _ _ ?_ (fun hHeld => ?_)
                            · exact Held.step (by assumption) hb2
                            clear hK K
                            (try simp only [Act.put, List.setIfInBounds_toArray, List.set_cons_zero, List.set_cons_succ])
                            refine wpAnyH_take (i := 13) (oi := { dst := some 151, op := Op.binOp BinOp.neq 4 (Operand.tmp 148) (Operand.tmp 150) 4, type := 4, pos := "law.go:47", after := #[{ on := 10, ground := Ground.data }, { on := 12, ground := Ground.data }, { on := 8, ground := Ground.guard }], guard := some (8, false) }) (v := .bool false) rfl (by kernel_rfl) (by kernel_rfl) (by kernel_rfl) (fun _ _ _ h => h) (Or.inl ⟨by rfl, fun w' hSw => by ((try dsimp only at hSw); go_simp)⟩) (by assumption) ?_
                            (try simp only [Act.put, List.setIfInBounds_toArray, List.set_cons_zero, List.set_cons_succ])
                            refine wpAnyH_take (i := 14) (oi := { dst := some 152, op := Op.pick (Operand.tmp 146) (Operand.const (Value.bool true)) (Operand.tmp 151), type := 4, pos := "law.go:47", after := #[{ on := 8, ground := Ground.data }, { on := 13, ground := Ground.data }], guard := none }) (v := .bool false) rfl (by kernel_rfl) (by kernel_rfl) (by kernel_rfl) (fun _ _ _ h => h) (Or.inl ⟨by rfl, fun w' hSw => by ((try dsimp only at hSw); go_simp)⟩) (by assumption) ?_
                            (try simp only [Act.put, List.setIfInBounds_toArray, List.set_cons_zero, List.set_cons_succ])
                            refine wpAnyH_done (by kernel_rfl) ?_ _
                            refine NoPanic.normal ?_
                            have HF := Lib.hid (HBW.out.trans (Below.mono hHeld HBW.out.size))
                            go_wp2_with fail
                            go_roundw
                            case rel => exact ⟨k1 + 1, by omega, by go_num, HF.out⟩
                            case measure => simp [intOf]; omega
                          exact AllReadyH.nil
                        exact AllReadyH.nil
                    · obtain rfl : n = k1 := by omega
                      have HPQ := Lib.hid (HP.out.kept HQ.out)
                      have HLE := Lib.hid (lent_walk (c := c) wr HPQ.out HN.out (by omega))
                      have b0 : (n : Int) ≤ 100000 := by omega
                      go_wp2_with fail
                      refine HLE.out.mono ?_; rintro e w1 ⟨g, c2, rfl, hlent, hg, hb⟩
                      have HL1 := Lib.hid hlent
                      have HB1 := Lib.hid (HQ.out.trans (hb.mono HQ.out.size))
                      clear hlent hg hb HQ HPQ HLE
                      go_wp2_with fail
                      refine (AL2.out _ _ _ HL1.out).mono ?_; rintro e w2 ⟨rfl, hb⟩
                      have HL2 := Lib.hid (HL1.out.kept hb)
                      have HB2 := Lib.hid (HB1.out.trans (hb.mono HB1.out.size))
                      clear hb HL1 HB1
                      go_wp2_with fail
                      refine (RL.out _ (HP.out.kept HB2.out) HB2.out.size).mono ?_; rintro e w3 ⟨rfl, hb⟩
                      have HL3 := Lib.hid (HL2.out.kept hb)
                      have HB3 := Lib.hid (HB2.out.trans (hb.mono HB2.out.size))
                      clear hb HL2 HB2
                      have HST := Lib.hid (stays_walk (d := c) w3 HL3.out (HP.out.kept HB3.out) (by omega))
                      cases fo with
                      | true =>
                        go_wp2_with fail
                        refine HST.out.mono ?_; rintro e w4 ⟨rfl, hb⟩
                        have HB4 := Lib.hid (HB3.out.trans (hb.mono HB3.out.size))
                        clear hb
                        go_wp2_with fail
                        go_ret
                        exact ⟨rfl, HB4.out⟩
                      | false =>
                        go_wp2_with fail
                        refine HST.out.mono ?_; rintro e w4 ⟨rfl, hb⟩
                        have HB4 := Lib.hid (HB3.out.trans (hb.mono HB3.out.size))
                        clear hb
                        go_wp2_with fail
                        go_ret
                        exact ⟨rfl, HB4.out⟩
            · cases okd with
              | true => as_aux_lemma =>
                  go_wp2_with fail
                  clear x0 x1 x2 y0 y1 y2 z0 z1 z2 HD6 HE6 HW6 DI RD WH
                  go_loopw [118] (fun x wr => ∃ k1 : Nat, k1 ≤ n ∧ x = .int .i64 k1 ∧ Hid (Below w.heap.size w wr)) (fun x _ => n - (intOf x).toNat)
                  case atStart => exact ⟨0, Nat.zero_le _, rfl, HBL.out⟩
                  case round =>
                    obtain ⟨k1, hk, rfl, hq⟩ := hrel
                    have HQ := Lib.hid hq.out
                    clear hq
                    by_cases hlt : k1 < n
                    · have hkl : k1 < l.length := by rw [HN.out]; exact hlt
                      obtain ⟨bl, off, rfl, hbl, hpp⟩ := HP.out.1 k1 hkl
                      obtain ⟨c0, c1, c2⟩ := hpp.kept (w' := wr) hbl HQ.out
                      have HSZ := HP.out.size k1 hkl
                      have A1 := Lib.hid (AP.out _ HSZ)
                      have A2 := Lib.hid (RP.out _ HSZ)
                      have HR := Lib.hid (fun r => right_any (l.getD k1 nilP).pg (l.getD k1 nilP).ofs (l.getD k1 nilP).bs HSZ r)
                      have HRR := Lib.hid (fun r => rright_any (l.getD k1 nilP).pg (l.getD k1 nilP).ofs (l.getD k1 nilP).bs HSZ r)
                      generalize (l.getD k1 nilP) = q at *
                      obtain ⟨qk, qo, qb⟩ := q
                      dsimp only at c0 c1 c2 A1 A2 HR HRR
                      generalize str (applyS X.data.toList ⟨qk, qo, qb⟩) = xs at *
                      generalize applyOk X.data.toList ⟨qk, qo, qb⟩ = xo at *
                      generalize okP ⟨qk, qo, qb⟩ = rg at *
                      unfold pv at A1 A2 HR HRR
                      have hsx := show (xs.toList == xs.toList) = true by simp
                      have HX := Lib.hid (Box.new wr (.int .i64 qk) (.int .i64 qo) (.string qb))
                      have hA := (Below.refl wr.heap.size wr).alloc (Nat.le_refl _) (.cells #[.int .i64 qk, .int .i64 qo, .string qb] 26)
                      have HBW0 := Lib.hid (HQ.out.trans (hA.mono HQ.out.size))
                      clear hbl hpp hA HSZ
                      have b1 : (0 : Int) ≤ (k1 : Int) := by omega
                      have b2 : (k1 : Int) < (n : Int) := by omega
                      by_cases hlong : (400 : Int) < (qb.size : Int)
                      · go_wp2_with fail
                        go_ret
                        exact ⟨rfl, HBW0.out⟩
                      · go_wp2_with fail
                        clear c0 c1 c2
                        generalize wr.alloc (.cells #[.int .i64 qk, .int .i64 qo, .string qb] 26) = W0 at *
                        refine (A1.out _).mono ?_; rintro e w1 ⟨rfl, hb⟩
                        have HX1 := Lib.hid (HX.out.kept hb)
                        have HB1 := Lib.hid (HBW0.out.trans (hb.mono HBW0.out.size))
                        clear hb HX HBW0 HQ
                        obtain ⟨x0, x1, x2⟩ := HX1.out.cells
                        go_wp2_with fail
                        refine (A2.out _).mono ?_; rintro e W ⟨rfl, hb⟩
                        have HX2 := Lib.hid (HX1.out.kept hb)
                        have HBW := Lib.hid (HB1.out.trans (hb.mono HB1.out.size))
                        clear hb HX1 HB1 x0 x1 x2
                        obtain ⟨x0, x1, x2⟩ := HX2.out.cells
                        have X0 := fun r (h : Held W r) => h.cell x0
                        have X1 := fun r (h : Held W r) => h.cell x1
                        have X2 := fun r (h : Held W r) => h.cell x2
                        clear x0 x1 x2
                        go_upto_region 18 with fail
                        refine wp_region_noPanic ?_
                        refine wp_region_held_drew (S := Held W) (by kernel_rfl) ?_ (fun hHeld => ?_)
                        · exact Held.start _
                        refine wpAnyH_take (i := 0) (oi := { dst := some 138, op := Op.move (Operand.tmp 20), type := 9, pos := "law.go:47", after := #[], guard := none }) (v := .string xs) rfl (by kernel_rfl) (by kernel_rfl) (by kernel_rfl) (fun _ _ _ h => h) (Or.inl ⟨by rfl, fun w' hSw => by ((try dsimp only at hSw); go_simp)⟩) (by assumption) ?_
                        (try simp only [Act.put, List.setIfInBounds_toArray, List.set_cons_zero, List.set_cons_succ])
                        refine wpAnyH_take (i := 1) (oi := { dst := some 139, op := Op.move (Operand.tmp 22), type := 9, pos := "law.go:47", after := #[], guard := none }) (v := .string xs) rfl (by kernel_rfl) (by kernel_rfl) (by kernel_rfl) (fun _ _ _ h => h) (Or.inl ⟨by rfl, fun w' hSw => by ((try dsimp only at hSw); go_simp)⟩) (by assumption) ?_
                        (try simp only [Act.put, List.setIfInBounds_toArray, List.set_cons_zero, List.set_cons_succ])
                        refine wpAnyH_take (i := 2) (oi := { dst := some 140, op := Op.binOp BinOp.neq 9 (Operand.tmp 138) (Operand.tmp 139) 9, type := 4, pos := "law.go:47", after := #[{ on := 0, ground := Ground.data }, { on := 1, ground := Ground.data }], guard := none }) (v := .bool false) rfl (by kernel_rfl) (by kernel_rfl) (by kernel_rfl) (fun _ _ _ h => h) (Or.inl ⟨by rfl, fun w' hSw => by ((try dsimp only at hSw); go_simp)⟩) (by assumption) ?_
                        (try simp only [Act.put, List.setIfInBounds_toArray, List.set_cons_zero, List.set_cons_succ])
                        refine wpAnyH_take (i := 3) (oi := { dst := some 141, op := Op.move (Operand.tmp 140), type := 4, pos := "law.go:47", after := #[{ on := 2, ground := Ground.data }], guard := none }) (v := .bool false) rfl (by kernel_rfl) (by kernel_rfl) (by kernel_rfl) (fun _ _ _ h => h) (Or.inl ⟨by rfl, fun w' hSw => by ((try dsimp only at hSw); go_simp)⟩) (by assumption) ?_
                        (try simp only [Act.put, List.setIfInBounds_toArray, List.set_cons_zero, List.set_cons_succ])
                        refine wpAnyH_take (i := 4) (oi := { dst := some 142, op := Op.move (Operand.tmp 21), type := 4, pos := "law.go:47", after := #[{ on := 3, ground := Ground.guard }], guard := some (3, false) }) (v := .bool xo) rfl (by kernel_rfl) (by kernel_rfl) (by kernel_rfl) (fun _ _ _ h => h) (Or.inl ⟨by rfl, fun w' hSw => by ((try dsimp only at hSw); go_simp)⟩) (by assumption) ?_
                        (try simp only [Act.put, List.setIfInBounds_toArray, List.set_cons_zero, List.set_cons_succ])
                        refine wpAnyH_take (i := 5) (oi := { dst := some 143, op := Op.move (Operand.tmp 23), type := 4, pos := "law.go:47", after := #[{ on := 3, ground := Ground.guard }], guard := some (3, false) }) (v := .bool xo) rfl (by kernel_rfl) (by kernel_rfl) (by kernel_rfl) (fun _ _ _ h => h) (Or.inl ⟨by rfl, fun w' hSw => by ((try dsimp only at hSw); go_simp)⟩) (by assumption) ?_
                        (try simp only [Act.put, List.setIfInBounds_toArray, List.set_cons_zero, List.set_cons_succ])
                        refine wpAnyH_take (i := 6) (oi := { dst := some 144, op := Op.binOp BinOp.neq 4 (Operand.tmp 142) (Operand.tmp 143) 4, type := 4, pos := "law.go:47", after := #[{ on := 4, ground := Ground.data }, { on := 5, ground := Ground.data }, { on := 3, ground := Ground.guard }], guard := some (3, false) }) (v := .bool false) rfl (by kernel_rfl) (by kernel_rfl) (by kernel_rfl) (fun _ _ _ h => h) (Or.inl ⟨by rfl, fun w' hSw => by ((try dsimp only at hSw); go_simp)⟩) (by assumption) ?_
                        (try simp only [Act.put, List.setIfInBounds_toArray, List.set_cons_zero, List.set_cons_succ])
                        refine wpAnyH_take (i := 7) (oi := { dst := some 145, op := Op.pick (Operand.tmp 141) (Operand.const (Value.bool true)) (Operand.tmp 144), type := 4, pos := "law.go:47", after := #[{ on := 3, ground := Ground.data }, { on := 6, ground := Ground.data }], guard := none }) (v := .bool false) rfl (by kernel_rfl) (by kernel_rfl) (by kernel_rfl) (fun _ _ _ h => h) (Or.inl ⟨by rfl, fun w' hSw => by ((try dsimp only at hSw); go_simp)⟩) (by assumption) ?_
                        (try simp only [Act.put, List.setIfInBounds_toArray, List.set_cons_zero, List.set_cons_succ])
                        refine wpAnyH_take (i := 8) (oi := { dst := some 146, op := Op.move (Operand.tmp 145), type := 4, pos := "law.go:47", after := #[{ on := 7, ground := Ground.data }, { on := 3, ground := Ground.chain }], guard := none }) (v := .bool false) rfl (by kernel_rfl) (by kernel_rfl) (by kernel_rfl) (fun _ _ _ h => h) (Or.inl ⟨by rfl, fun w' hSw => by ((try dsimp only at hSw); go_simp)⟩) (by assumption) ?_
                        (try simp only [Act.put, List.setIfInBounds_toArray, List.set_cons_zero, List.set_cons_succ])
                        refine wpAnyH_take (i := 9) (oi := { dst := some 147, op := Op.load 26 (Operand.tmp 19), type := 26, pos := "law.go:47", after := #[{ on := 8, ground := Ground.guard }], guard := some (8, false) }) (v := .agg #[.int .i64 qk, .int .i64 qo, .string qb]) rfl (by kernel_rfl) (by kernel_rfl) (by kernel_rfl) (fun _ _ _ h => h) (Or.inl ⟨by rfl, fun w' hSw => by ((try dsimp only at hSw); have := X0 _ hSw; have := X1 _ hSw; have := X2 _ hSw; go_simp)⟩) (by assumption) ?_
                        (try simp only [Act.put, List.setIfInBounds_toArray, List.set_cons_zero, List.set_cons_succ])
                        refine wpAnyH_take (i := 11) (oi := { dst := some 149, op := Op.load 26 (Operand.tmp 19), type := 26, pos := "law.go:47", after := #[{ on := 8, ground := Ground.guard }], guard := some (8, false) }) (v := .agg #[.int .i64 qk, .int .i64 qo, .string qb]) rfl (by kernel_rfl) (by kernel_rfl) (by kernel_rfl) (fun _ _ _ h => h) (Or.inl ⟨by rfl, fun w' hSw => by ((try dsimp only at hSw); have := X0 _ hSw; have := X1 _ hSw; have := X2 _ hSw; go_simp)⟩) (by assumption) ?_
                        (try simp only [Act.put, List.setIfInBounds_toArray, List.set_cons_zero, List.set_cons_succ])
                        refine wpAnyH_ready (rs := [10]) (by kernel_rfl) (by simp) ?_
                        refine AllReadyH.cons (o := { dst := some 148, op := Op.call { callee := Callee.value (Operand.func 16), args := #[Operand.tmp 147], argTypes := #[26] }, type := 4, pos := "law.go:47", after := #[{ on := 9, ground := Ground.data }, { on := 8, ground := Ground.chain }, { on := 8, ground := Ground.guard }], guard := some (8, false) }) rfl (fun K hK => ?_) ?_
                        · go_simp; go_at_call 16; refine (HR.out _).mono ?_; rintro e u1 ⟨rfl, hb1⟩
                          refine hK.out _ _ ?_ (fun hHeld => ?_)
                          · exact Held.step (by assumption) hb1
                          clear hK K
                          (try simp only [Act.put, List.setIfInBounds_toArray, List.set_cons_zero, List.set_cons_succ])
                          refine wpAnyH_ready (rs := [12]) (by kernel_rfl) (by simp) ?_
                          refine AllReadyH.cons (o := { dst := some 150, op := Op.call { callee := Callee.value (Operand.func 17), args := #[Operand.tmp 149], argTypes := #[26] }, type := 4, pos := "law.go:47", after := #[{ on := 11, ground := Ground.data }, { on := 10, ground := Ground.chain }, { on := 8, ground := Ground.guard }], guard := some (8, false) }) rfl (fun K hK => ?_) ?_
                          · go_simp; go_at_call 17; refine (HRR.out _).mono ?_; rintro e u2 ⟨rfl, hb2⟩
                            refine hK.out _ _ ?_ (fun hHeld => ?_)
                            · exact Held.step (by assumption) hb2
                            clear hK K
                            (try simp only [Act.put, List.setIfInBounds_toArray, List.set_cons_zero, List.set_cons_succ])
                            refine wpAnyH_take (i := 13) (oi := { dst := some 151, op := Op.binOp BinOp.neq 4 (Operand.tmp 148) (Operand.tmp 150) 4, type := 4, pos := "law.go:47", after := #[{ on := 10, ground := Ground.data }, { on := 12, ground := Ground.data }, { on := 8, ground := Ground.guard }], guard := some (8, false) }) (v := .bool false) rfl (by kernel_rfl) (by kernel_rfl) (by kernel_rfl) (fun _ _ _ h => h) (Or.inl ⟨by rfl, fun w' hSw => by ((try dsimp only at hSw); go_simp)⟩) (by assumption) ?_
                            (try simp only [Act.put, List.setIfInBounds_toArray, List.set_cons_zero, List.set_cons_succ])
                            refine wpAnyH_take (i := 14) (oi := { dst := some 152, op := Op.pick (Operand.tmp 146) (Operand.const (Value.bool true)) (Operand.tmp 151), type := 4, pos := "law.go:47", after := #[{ on := 8, ground := Ground.data }, { on := 13, ground := Ground.data }], guard := none }) (v := .bool false) rfl (by kernel_rfl) (by kernel_rfl) (by kernel_rfl) (fun _ _ _ h => h) (Or.inl ⟨by rfl, fun w' hSw => by ((try dsimp only at hSw); go_simp)⟩) (by assumption) ?_
                            (try simp only [Act.put, List.setIfInBounds_toArray, List.set_cons_zero, List.set_cons_succ])
                            refine wpAnyH_done (by kernel_rfl) ?_ _
                            refine NoPanic.normal ?_
                            have HF := Lib.hid (HBW.out.trans (Below.mono hHeld HBW.out.size))
                            go_wp2_with fail
                            go_roundw
                            case rel => exact ⟨k1 + 1, by omega, by go_num, HF.out⟩
                            case measure => simp [intOf]; omega
                          exact AllReadyH.nil
                        exact AllReadyH.nil
                    · obtain rfl : n = k1 := by omega
                      have HPQ := Lib.hid (HP.out.kept HQ.out)
                      have HLE := Lib.hid (lent_walk (c := c) wr HPQ.out HN.out (by omega))
                      have b0 : (n : Int) ≤ 100000 := by omega
                      go_wp2_with fail
                      refine HLE.out.mono ?_; rintro e w1 ⟨g, c2, rfl, hlent, hg, hb⟩
                      have HL1 := Lib.hid hlent
                      have HB1 := Lib.hid (HQ.out.trans (hb.mono HQ.out.size))
                      clear hlent hg hb HQ HPQ HLE
                      go_wp2_with fail
                      refine (AL2.out _ _ _ HL1.out).mono ?_; rintro e w2 ⟨rfl, hb⟩
                      have HL2 := Lib.hid (HL1.out.kept hb)
                      have HB2 := Lib.hid (HB1.out.trans (hb.mono HB1.out.size))
                      clear hb HL1 HB1
                      go_wp2_with fail
                      refine (RL.out _ (HP.out.kept HB2.out) HB2.out.size).mono ?_; rintro e w3 ⟨rfl, hb⟩
                      have HL3 := Lib.hid (HL2.out.kept hb)
                      have HB3 := Lib.hid (HB2.out.trans (hb.mono HB2.out.size))
                      clear hb HL2 HB2
                      have HST := Lib.hid (stays_walk (d := c) w3 HL3.out (HP.out.kept HB3.out) (by omega))
                      cases fo with
                      | true =>
                        go_wp2_with fail
                        refine HST.out.mono ?_; rintro e w4 ⟨rfl, hb⟩
                        have HB4 := Lib.hid (HB3.out.trans (hb.mono HB3.out.size))
                        clear hb
                        go_wp2_with fail
                        go_ret
                        exact ⟨rfl, HB4.out⟩
                      | false =>
                        go_wp2_with fail
                        refine HST.out.mono ?_; rintro e w4 ⟨rfl, hb⟩
                        have HB4 := Lib.hid (HB3.out.trans (hb.mono HB3.out.size))
                        clear hb
                        go_wp2_with fail
                        go_ret
                        exact ⟨rfl, HB4.out⟩
              | false => as_aux_lemma =>
                  go_wp2_with fail
                  clear x0 x1 x2 y0 y1 y2 z0 z1 z2 HD6 HE6 HW6 DI RD WH
                  go_loopw [118] (fun x wr => ∃ k1 : Nat, k1 ≤ n ∧ x = .int .i64 k1 ∧ Hid (Below w.heap.size w wr)) (fun x _ => n - (intOf x).toNat)
                  case atStart => exact ⟨0, Nat.zero_le _, rfl, HBL.out⟩
                  case round =>
                    obtain ⟨k1, hk, rfl, hq⟩ := hrel
                    have HQ := Lib.hid hq.out
                    clear hq
                    by_cases hlt : k1 < n
                    · have hkl : k1 < l.length := by rw [HN.out]; exact hlt
                      obtain ⟨bl, off, rfl, hbl, hpp⟩ := HP.out.1 k1 hkl
                      obtain ⟨c0, c1, c2⟩ := hpp.kept (w' := wr) hbl HQ.out
                      have HSZ := HP.out.size k1 hkl
                      have A1 := Lib.hid (AP.out _ HSZ)
                      have A2 := Lib.hid (RP.out _ HSZ)
                      have HR := Lib.hid (fun r => right_any (l.getD k1 nilP).pg (l.getD k1 nilP).ofs (l.getD k1 nilP).bs HSZ r)
                      have HRR := Lib.hid (fun r => rright_any (l.getD k1 nilP).pg (l.getD k1 nilP).ofs (l.getD k1 nilP).bs HSZ r)
                      generalize (l.getD k1 nilP) = q at *
                      obtain ⟨qk, qo, qb⟩ := q
                      dsimp only at c0 c1 c2 A1 A2 HR HRR
                      generalize str (applyS X.data.toList ⟨qk, qo, qb⟩) = xs at *
                      generalize applyOk X.data.toList ⟨qk, qo, qb⟩ = xo at *
                      generalize okP ⟨qk, qo, qb⟩ = rg at *
                      unfold pv at A1 A2 HR HRR
                      have hsx := show (xs.toList == xs.toList) = true by simp
                      have HX := Lib.hid (Box.new wr (.int .i64 qk) (.int .i64 qo) (.string qb))
                      have hA := (Below.refl wr.heap.size wr).alloc (Nat.le_refl _) (.cells #[.int .i64 qk, .int .i64 qo, .string qb] 26)
                      have HBW0 := Lib.hid (HQ.out.trans (hA.mono HQ.out.size))
                      clear hbl hpp hA HSZ
                      have b1 : (0 : Int) ≤ (k1 : Int) := by omega
                      have b2 : (k1 : Int) < (n : Int) := by omega
                      by_cases hlong : (400 : Int) < (qb.size : Int)
                      · go_wp2_with fail
                        go_ret
                        exact ⟨rfl, HBW0.out⟩
                      · go_wp2_with fail
                        clear c0 c1 c2
                        generalize wr.alloc (.cells #[.int .i64 qk, .int .i64 qo, .string qb] 26) = W0 at *
                        refine (A1.out _).mono ?_; rintro e w1 ⟨rfl, hb⟩
                        have HX1 := Lib.hid (HX.out.kept hb)
                        have HB1 := Lib.hid (HBW0.out.trans (hb.mono HBW0.out.size))
                        clear hb HX HBW0 HQ
                        obtain ⟨x0, x1, x2⟩ := HX1.out.cells
                        go_wp2_with fail
                        refine (A2.out _).mono ?_; rintro e W ⟨rfl, hb⟩
                        have HX2 := Lib.hid (HX1.out.kept hb)
                        have HBW := Lib.hid (HB1.out.trans (hb.mono HB1.out.size))
                        clear hb HX1 HB1 x0 x1 x2
                        obtain ⟨x0, x1, x2⟩ := HX2.out.cells
                        have X0 := fun r (h : Held W r) => h.cell x0
                        have X1 := fun r (h : Held W r) => h.cell x1
                        have X2 := fun r (h : Held W r) => h.cell x2
                        clear x0 x1 x2
                        go_upto_region 18 with fail
                        refine wp_region_noPanic ?_
                        refine wp_region_held_drew (S := Held W) (by kernel_rfl) ?_ (fun hHeld => ?_)
                        · exact Held.start _
                        refine wpAnyH_take (i := 0) (oi := { dst := some 138, op := Op.move (Operand.tmp 20), type := 9, pos := "law.go:47", after := #[], guard := none }) (v := .string xs) rfl (by kernel_rfl) (by kernel_rfl) (by kernel_rfl) (fun _ _ _ h => h) (Or.inl ⟨by rfl, fun w' hSw => by ((try dsimp only at hSw); go_simp)⟩) (by assumption) ?_
                        (try simp only [Act.put, List.setIfInBounds_toArray, List.set_cons_zero, List.set_cons_succ])
                        refine wpAnyH_take (i := 1) (oi := { dst := some 139, op := Op.move (Operand.tmp 22), type := 9, pos := "law.go:47", after := #[], guard := none }) (v := .string xs) rfl (by kernel_rfl) (by kernel_rfl) (by kernel_rfl) (fun _ _ _ h => h) (Or.inl ⟨by rfl, fun w' hSw => by ((try dsimp only at hSw); go_simp)⟩) (by assumption) ?_
                        (try simp only [Act.put, List.setIfInBounds_toArray, List.set_cons_zero, List.set_cons_succ])
                        refine wpAnyH_take (i := 2) (oi := { dst := some 140, op := Op.binOp BinOp.neq 9 (Operand.tmp 138) (Operand.tmp 139) 9, type := 4, pos := "law.go:47", after := #[{ on := 0, ground := Ground.data }, { on := 1, ground := Ground.data }], guard := none }) (v := .bool false) rfl (by kernel_rfl) (by kernel_rfl) (by kernel_rfl) (fun _ _ _ h => h) (Or.inl ⟨by rfl, fun w' hSw => by ((try dsimp only at hSw); go_simp)⟩) (by assumption) ?_
                        (try simp only [Act.put, List.setIfInBounds_toArray, List.set_cons_zero, List.set_cons_succ])
                        refine wpAnyH_take (i := 3) (oi := { dst := some 141, op := Op.move (Operand.tmp 140), type := 4, pos := "law.go:47", after := #[{ on := 2, ground := Ground.data }], guard := none }) (v := .bool false) rfl (by kernel_rfl) (by kernel_rfl) (by kernel_rfl) (fun _ _ _ h => h) (Or.inl ⟨by rfl, fun w' hSw => by ((try dsimp only at hSw); go_simp)⟩) (by assumption) ?_
                        (try simp only [Act.put, List.setIfInBounds_toArray, List.set_cons_zero, List.set_cons_succ])
                        refine wpAnyH_take (i := 4) (oi := { dst := some 142, op := Op.move (Operand.tmp 21), type := 4, pos := "law.go:47", after := #[{ on := 3, ground := Ground.guard }], guard := some (3, false) }) (v := .bool xo) rfl (by kernel_rfl) (by kernel_rfl) (by kernel_rfl) (fun _ _ _ h => h) (Or.inl ⟨by rfl, fun w' hSw => by ((try dsimp only at hSw); go_simp)⟩) (by assumption) ?_
                        (try simp only [Act.put, List.setIfInBounds_toArray, List.set_cons_zero, List.set_cons_succ])
                        refine wpAnyH_take (i := 5) (oi := { dst := some 143, op := Op.move (Operand.tmp 23), type := 4, pos := "law.go:47", after := #[{ on := 3, ground := Ground.guard }], guard := some (3, false) }) (v := .bool xo) rfl (by kernel_rfl) (by kernel_rfl) (by kernel_rfl) (fun _ _ _ h => h) (Or.inl ⟨by rfl, fun w' hSw => by ((try dsimp only at hSw); go_simp)⟩) (by assumption) ?_
                        (try simp only [Act.put, List.setIfInBounds_toArray, List.set_cons_zero, List.set_cons_succ])
                        refine wpAnyH_take (i := 6) (oi := { dst := some 144, op := Op.binOp BinOp.neq 4 (Operand.tmp 142) (Operand.tmp 143) 4, type := 4, pos := "law.go:47", after := #[{ on := 4, ground := Ground.data }, { on := 5, ground := Ground.data }, { on := 3, ground := Ground.guard }], guard := some (3, false) }) (v := .bool false) rfl (by kernel_rfl) (by kernel_rfl) (by kernel_rfl) (fun _ _ _ h => h) (Or.inl ⟨by rfl, fun w' hSw => by ((try dsimp only at hSw); go_simp)⟩) (by assumption) ?_
                        (try simp only [Act.put, List.setIfInBounds_toArray, List.set_cons_zero, List.set_cons_succ])
                        refine wpAnyH_take (i := 7) (oi := { dst := some 145, op := Op.pick (Operand.tmp 141) (Operand.const (Value.bool true)) (Operand.tmp 144), type := 4, pos := "law.go:47", after := #[{ on := 3, ground := Ground.data }, { on := 6, ground := Ground.data }], guard := none }) (v := .bool false) rfl (by kernel_rfl) (by kernel_rfl) (by kernel_rfl) (fun _ _ _ h => h) (Or.inl ⟨by rfl, fun w' hSw => by ((try dsimp only at hSw); go_simp)⟩) (by assumption) ?_
                        (try simp only [Act.put, List.setIfInBounds_toArray, List.set_cons_zero, List.set_cons_succ])
                        refine wpAnyH_take (i := 8) (oi := { dst := some 146, op := Op.move (Operand.tmp 145), type := 4, pos := "law.go:47", after := #[{ on := 7, ground := Ground.data }, { on := 3, ground := Ground.chain }], guard := none }) (v := .bool false) rfl (by kernel_rfl) (by kernel_rfl) (by kernel_rfl) (fun _ _ _ h => h) (Or.inl ⟨by rfl, fun w' hSw => by ((try dsimp only at hSw); go_simp)⟩) (by assumption) ?_
                        (try simp only [Act.put, List.setIfInBounds_toArray, List.set_cons_zero, List.set_cons_succ])
                        refine wpAnyH_take (i := 9) (oi := { dst := some 147, op := Op.load 26 (Operand.tmp 19), type := 26, pos := "law.go:47", after := #[{ on := 8, ground := Ground.guard }], guard := some (8, false) }) (v := .agg #[.int .i64 qk, .int .i64 qo, .string qb]) rfl (by kernel_rfl) (by kernel_rfl) (by kernel_rfl) (fun _ _ _ h => h) (Or.inl ⟨by rfl, fun w' hSw => by ((try dsimp only at hSw); have := X0 _ hSw; have := X1 _ hSw; have := X2 _ hSw; go_simp)⟩) (by assumption) ?_
                        (try simp only [Act.put, List.setIfInBounds_toArray, List.set_cons_zero, List.set_cons_succ])
                        refine wpAnyH_take (i := 11) (oi := { dst := some 149, op := Op.load 26 (Operand.tmp 19), type := 26, pos := "law.go:47", after := #[{ on := 8, ground := Ground.guard }], guard := some (8, false) }) (v := .agg #[.int .i64 qk, .int .i64 qo, .string qb]) rfl (by kernel_rfl) (by kernel_rfl) (by kernel_rfl) (fun _ _ _ h => h) (Or.inl ⟨by rfl, fun w' hSw => by ((try dsimp only at hSw); have := X0 _ hSw; have := X1 _ hSw; have := X2 _ hSw; go_simp)⟩) (by assumption) ?_
                        (try simp only [Act.put, List.setIfInBounds_toArray, List.set_cons_zero, List.set_cons_succ])
                        refine wpAnyH_ready (rs := [10]) (by kernel_rfl) (by simp) ?_
                        refine AllReadyH.cons (o := { dst := some 148, op := Op.call { callee := Callee.value (Operand.func 16), args := #[Operand.tmp 147], argTypes := #[26] }, type := 4, pos := "law.go:47", after := #[{ on := 9, ground := Ground.data }, { on := 8, ground := Ground.chain }, { on := 8, ground := Ground.guard }], guard := some (8, false) }) rfl (fun K hK => ?_) ?_
                        · go_simp; go_at_call 16; refine (HR.out _).mono ?_; rintro e u1 ⟨rfl, hb1⟩
                          refine hK.out _ _ ?_ (fun hHeld => ?_)
                          · exact Held.step (by assumption) hb1
                          clear hK K
                          (try simp only [Act.put, List.setIfInBounds_toArray, List.set_cons_zero, List.set_cons_succ])
                          refine wpAnyH_ready (rs := [12]) (by kernel_rfl) (by simp) ?_
                          refine AllReadyH.cons (o := { dst := some 150, op := Op.call { callee := Callee.value (Operand.func 17), args := #[Operand.tmp 149], argTypes := #[26] }, type := 4, pos := "law.go:47", after := #[{ on := 11, ground := Ground.data }, { on := 10, ground := Ground.chain }, { on := 8, ground := Ground.guard }], guard := some (8, false) }) rfl (fun K hK => ?_) ?_
                          · go_simp; go_at_call 17; refine (HRR.out _).mono ?_; rintro e u2 ⟨rfl, hb2⟩
                            refine hK.out _ _ ?_ (fun hHeld => ?_)
                            · exact Held.step (by assumption) hb2
                            clear hK K
                            (try simp only [Act.put, List.setIfInBounds_toArray, List.set_cons_zero, List.set_cons_succ])
                            refine wpAnyH_take (i := 13) (oi := { dst := some 151, op := Op.binOp BinOp.neq 4 (Operand.tmp 148) (Operand.tmp 150) 4, type := 4, pos := "law.go:47", after := #[{ on := 10, ground := Ground.data }, { on := 12, ground := Ground.data }, { on := 8, ground := Ground.guard }], guard := some (8, false) }) (v := .bool false) rfl (by kernel_rfl) (by kernel_rfl) (by kernel_rfl) (fun _ _ _ h => h) (Or.inl ⟨by rfl, fun w' hSw => by ((try dsimp only at hSw); go_simp)⟩) (by assumption) ?_
                            (try simp only [Act.put, List.setIfInBounds_toArray, List.set_cons_zero, List.set_cons_succ])
                            refine wpAnyH_take (i := 14) (oi := { dst := some 152, op := Op.pick (Operand.tmp 146) (Operand.const (Value.bool true)) (Operand.tmp 151), type := 4, pos := "law.go:47", after := #[{ on := 8, ground := Ground.data }, { on := 13, ground := Ground.data }], guard := none }) (v := .bool false) rfl (by kernel_rfl) (by kernel_rfl) (by kernel_rfl) (fun _ _ _ h => h) (Or.inl ⟨by rfl, fun w' hSw => by ((try dsimp only at hSw); go_simp)⟩) (by assumption) ?_
                            (try simp only [Act.put, List.setIfInBounds_toArray, List.set_cons_zero, List.set_cons_succ])
                            refine wpAnyH_done (by kernel_rfl) ?_ _
                            refine NoPanic.normal ?_
                            have HF := Lib.hid (HBW.out.trans (Below.mono hHeld HBW.out.size))
                            go_wp2_with fail
                            go_roundw
                            case rel => exact ⟨k1 + 1, by omega, by go_num, HF.out⟩
                            case measure => simp [intOf]; omega
                          exact AllReadyH.nil
                        exact AllReadyH.nil
                    · obtain rfl : n = k1 := by omega
                      have HPQ := Lib.hid (HP.out.kept HQ.out)
                      have HLE := Lib.hid (lent_walk (c := c) wr HPQ.out HN.out (by omega))
                      have b0 : (n : Int) ≤ 100000 := by omega
                      go_wp2_with fail
                      refine HLE.out.mono ?_; rintro e w1 ⟨g, c2, rfl, hlent, hg, hb⟩
                      have HL1 := Lib.hid hlent
                      have HB1 := Lib.hid (HQ.out.trans (hb.mono HQ.out.size))
                      clear hlent hg hb HQ HPQ HLE
                      go_wp2_with fail
                      refine (AL2.out _ _ _ HL1.out).mono ?_; rintro e w2 ⟨rfl, hb⟩
                      have HL2 := Lib.hid (HL1.out.kept hb)
                      have HB2 := Lib.hid (HB1.out.trans (hb.mono HB1.out.size))
                      clear hb HL1 HB1
                      go_wp2_with fail
                      refine (RL.out _ (HP.out.kept HB2.out) HB2.out.size).mono ?_; rintro e w3 ⟨rfl, hb⟩
                      have HL3 := Lib.hid (HL2.out.kept hb)
                      have HB3 := Lib.hid (HB2.out.trans (hb.mono HB2.out.size))
                      clear hb HL2 HB2
                      have HST := Lib.hid (stays_walk (d := c) w3 HL3.out (HP.out.kept HB3.out) (by omega))
                      cases fo with
                      | true =>
                        go_wp2_with fail
                        refine HST.out.mono ?_; rintro e w4 ⟨rfl, hb⟩
                        have HB4 := Lib.hid (HB3.out.trans (hb.mono HB3.out.size))
                        clear hb
                        go_wp2_with fail
                        go_ret
                        exact ⟨rfl, HB4.out⟩
                      | false =>
                        go_wp2_with fail
                        refine HST.out.mono ?_; rintro e w4 ⟨rfl, hb⟩
                        have HB4 := Lib.hid (HB3.out.trans (hb.mono HB3.out.size))
                        clear hb
                        go_wp2_with fail
                        go_ret
                        exact ⟨rfl, HB4.out⟩

/-! The row's step. -/
set_option maxRecDepth 100000 in
theorem lifted (os : Os) (started : os.Started) (H : Type) (enc : TypeId × Value → H) :
    ReturnsInHanded {} Try.checked os 3 .any (Rows.patchTellsSpec.pre6 enc Try.prog Try.f3 Rows.patchTellsRow.domain false) (Rows.patchTellsSpec.post enc Try.prog Try.f3 false true false false) := by
  refine returnsInHanded_of_change (C := Try.checked) own started (by kernel_rfl) Try.func3
    (ChangeSpec.witness6 (enc := enc) (C := Try.checked) false ⟨#[], #[.int .i64 0, .string ByteArray.empty, .string ByteArray.empty, .bool false, .slice none 0 0], []⟩ 8 (by kernel_rfl) (by kernel_rfl) (by kernel_rfl) (by kernel_rfl)) ?_
  intro W base args ds gs before hval0 hW hcnd _
  have hval : ∀ (j : Nat) t v, Try.f3.params[j]? = some t → args[j]? = some v → Value.okWide Try.prog W .any base t v := hval0
  have hW' := hW
  obtain ⟨p, q, hA0, hV, rfl, hfz, hnd⟩ := hW
  have hA : DataW.TrodAll enc Try.prog W 0 (fun _ => true) true Try.f3.params.toList args.toList ds p := hA0
  rw [Try.params3] at hA hval
  obtain ⟨v0, vs0, d0, ds0, p0, q0, hargs, rfl, rfl, h0, r0⟩ := trodAll_cons hA
  obtain ⟨v1, vs1, d1, ds1, p1, q1, rfl, rfl, rfl, h1, r1⟩ := trodAll_cons r0
  obtain ⟨v2, vs2, d2, ds2, p2, q2, rfl, rfl, rfl, h2, r2⟩ := trodAll_cons r1
  obtain ⟨v3, vs3, d3, ds3, p3, q3, rfl, rfl, rfl, h3, r3⟩ := trodAll_cons r2
  obtain ⟨v4, vs4, d4, ds4, p4, q4, rfl, rfl, rfl, h4, r4⟩ := trodAll_cons r3
  obtain ⟨rfl, rfl, rfl⟩ := trodAll_nil r4
  obtain rfl : args = #[v0, v1, v2, v3, v4] := by cases args; simp_all
  obtain ⟨rfl, rfl⟩ := trodVars_none hV
  obtain ⟨a0, rfl, rfl, rfl, w0⟩ := open_int Try.underlying3 (hval 0 3 v0 rfl rfl) h0
  obtain ⟨a1, rfl, rfl, rfl, w1⟩ := Go.ChangeMaps.open_string Try.underlying9 (hval 1 9 v1 rfl rfl) h1
  obtain ⟨a2, rfl, rfl, rfl, w2⟩ := Go.ChangeMaps.open_string Try.underlying9 (hval 2 9 v2 rfl rfl) h2
  obtain ⟨a3, rfl, rfl, rfl⟩ := open_bool Try.underlying4 (hval 3 4 v3 rfl rfl) h3
  obtain ⟨A4, n4, c4, rfl⟩ := okWide_slice Try.underlying22 (hval 4 22 v4 rfl rfl)
  have k4 := h4
  have lt4 : ∀ x ∈ p4, x.block < W.heap.size := by obtain ⟨m, hm⟩ := k4; exact DataW.trod_lt m _ _ _ hm
  obtain ⟨l4, w4, e4, f4⟩ := (by obtain ⟨fuel, hf⟩ := h4; exact pts_read hf (fun _ => rfl) : ∃ l, PtsL W A4 n4 l ∧ n4 ≤ c4 ∧ c4 ≤ maxLen)
  clear hA0 hval0
  refine (walk a0 a1 a2 a3 A4 n4 c4 l4 W w0 w1 w2 w4 (Nat.le_trans e4 f4)).mono fun e W' ⟨he, bel⟩ => ?_
  subst he
  exact ⟨_, rfl, _, _, _, [], _, [], hW', trodAll_mk1 (shut_bool Try.underlying4 _), (trodAll_cons_mk (shut_int Try.underlying3 w0) (trodAll_cons_mk (Go.ChangeMaps.shut_string Try.underlying9 w1) (trodAll_cons_mk (Go.ChangeMaps.shut_string Try.underlying9 w2) (trodAll_cons_mk (shut_bool Try.underlying4 _) (trodAll_cons_mk (Below.trod laidOut (by kernel_rfl) (of_decide_eq_true (by kernel_rfl)) k4 bel lt4) trodAll_mk0))))), rfl, bel.frame _, fun h => by cases h⟩

theorem over : Rows.patchTellsRow.holds Try.pinned (OpenSpec.ofChange Rows.patchTellsSpec) :=
  OpenClaim.holds_of_wide 3 Try.f3 rfl rfl rfl rfl rfl rfl rfl ⟨rfl, rfl, rfl, rfl, rfl⟩ rfl rfl rfl rfl rfl (by kernel_rfl) Try.func3 (by kernel_rfl)
    (of_decide_eq_true (by kernel_rfl)) (by unfold Func.isWrapper; first | (rw [if_pos (by decide +kernel)]; kernel_rfl) | (rw [if_neg (by decide +kernel)]; exact ⟨rfl, rfl⟩))
    (fun os started H enc _ => lifted os started H enc)

/-- The statement. -/
theorem proved : Rows.PatchTellsSaid := over
end Go.Proofs.Ytkopgohmocjbbaa.patchTells
