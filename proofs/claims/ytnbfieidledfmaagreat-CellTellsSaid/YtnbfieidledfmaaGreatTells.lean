/- Every cell, every list of cells as a body, every body: the program tells what the document says; what is handed in stays; what is handed back is the caller's own. -/
import Derived.Test.YtnbfieidledfmaaGreatRows
import Derived.Test.YtnbfieidledfmaaGreatTop
import Derived.Deep.RegionHeld3
import Derived.StillTailTactics
import Derived.BigQuiet
import Derived.Laws.MakeOwn
import Derived.Deep.DeepCutAuto
import Derived.Deep.RegionLaw
import Derived.Lib.Hide
import Derived.WalkKit
import Derived.ProofKit
import Derived.OpenShut
import Derived.ChangeOld
import Derived.Below
import Derived.Carry
namespace Go.Proofs.YtnbfieidledfmaaGreat.cellTells
open Go.ChangeShapes Go.WideShapes Go.ChangeAt Go.RowKit
set_option linter.unusedVariables false

theorem own : ownKnob Tryz.prog.godebug = none := by kernel_rfl
theorem laidOut : laidOutB Tryz.prog = true := by kernel_rfl


set_option maxRecDepth 100000 in
set_option maxHeartbeats 8000000 in
theorem walk (A0 : Option Addr) (n0 c0 : Nat) (l0 : List Ce) (a1 : ByteArray) (w : World) (w0 : CesL w A0 n0 l0) (e0 : n0 ≤ maxLen) (z1 : a1.size ≤ maxLen) :
    Calls Tryz.prog 3 #[.slice A0 n0 c0, .string a1] w fun e w' => e = .returned (.bool true) ∧ Below w.heap.size w w' := by
  by_cases cc : 60 < (n0 : Int)
  · as_aux_lemma =>
      have g0 : decide (60 < (n0 : Int)) = true := decide_eq_true cc
      have HB0 := Lib.hid (Below.refl w.heap.size w)
      have AL := Lib.hid alive_yes
      go_enter Tryz.func3, Tryz.ntmps3
      go_wp2_with fail
      refine (AL.out _).mono ?_; rintro e w1 ⟨rfl, hb⟩
      have HB1 := Lib.hid (HB0.out.trans (hb.mono (Below.size HB0.out)))
      clear hb HB0 
      go_wp2_with fail
      go_ret
      exact ⟨rfl, HB1.out⟩
  · have g0 : decide (60 < (n0 : Int)) = false := decide_eq_false cc
    by_cases cd : 300 < (a1.size : Int)
    · as_aux_lemma =>
        have g1 : decide (300 < (a1.size : Int)) = true := decide_eq_true cd
        have HB0 := Lib.hid (Below.refl w.heap.size w)
        have AL := Lib.hid alive_yes
        go_enter Tryz.func3, Tryz.ntmps3
        go_wp2_with fail
        refine (AL.out _).mono ?_; rintro e w1 ⟨rfl, hb⟩
        have HB1 := Lib.hid (HB0.out.trans (hb.mono (Below.size HB0.out)))
        clear hb HB0 
        go_wp2_with fail
        go_ret
        exact ⟨rfl, HB1.out⟩
    · have g1 : decide (300 < (a1.size : Int)) = false := decide_eq_false cd
      obtain ⟨hn, hces⟩ := w0
      have hm : n0 ≤ 60 := by omega
      have hz : a1.size ≤ 300 := by omega
      clear e0
      have HP := Lib.hid (fun w' (hb : Below w.heap.size w w') => hces.kept hb)
      have HN := Lib.hid hn
      have b60 : (n0 : Int) ≤ 60 := by omega
      have HS2 := Lib.hid hces.2.1
      clear hces hn z1
      obtain ⟨bb, hbb⟩ : ∃ bb, a1 = str bb := ⟨a1.data.toList, (str_data a1).symm⟩
      have hbl : bb.length ≤ 300 := by rw [hbb, str_size] at hz; exact hz
      obtain ⟨m, hmm⟩ : ∃ m, (getS bb).length = m := ⟨_, rfl⟩
      have hm47 : m ≤ 47 := by rw [← hmm]; exact getS_len bb
      have GE := Lib.hid (fun w => get_any bb (by omega) w)
      have RG := Lib.hid (fun w => rget_any bb w)
      have HM := Lib.hid hmm
      have HSG := Lib.hid (getS_sizes bb)
      unfold Got Own at GE RG
      rw [hmm, ← hbb] at GE RG
      generalize getS bb = gs at *
      generalize getOk bb = gk at *
      clear hbb hbl hmm bb
      have HB0 := Lib.hid (Below.refl w.heap.size w)
      have AL := Lib.hid alive_yes
      go_enter Tryz.func3, Tryz.ntmps3
      go_wp2_with fail
      refine (AL.out _).mono ?_; rintro e w1 ⟨rfl, hb⟩
      have HB1 := Lib.hid (HB0.out.trans (hb.mono (Below.size HB0.out)))
      clear hb HB0 
      go_wp2_with fail
      go_loopw [34] (fun x wr => ∃ k : Nat, k ≤ n0 ∧ x = .int .i64 k ∧ Hid (Below w.heap.size w wr)) (fun x _ => n0 - (intOf x).toNat)
      case atStart => exact ⟨0, Nat.zero_le _, rfl, HB1.out⟩
      case round =>
        obtain ⟨k, hk, rfl, hq⟩ := hrel
        have HQ := Lib.hid hq.out
        clear hq
        have q0 : (0 : Int) ≤ (k : Int) := by omega
        by_cases hlt : k < n0
        · have q1 : (k : Int) < (n0 : Int) := by omega
          obtain ⟨b, off, rfl, hb, p0, p1, p2, p3⟩ := (HP.out wr HQ.out).1 k (by rw [HN.out]; exact hlt)
          generalize l0.getD k nilC = x at *
          have HR := Lib.hid (fun r => right_any x.key x.val x.blob x.size r)
          have HRR := Lib.hid (fun r => rright_any x.key x.val x.blob x.size r)
          have HSI := Lib.hid (fun r => size_w x.key x.val x.blob x.size r)
          have HRS := Lib.hid (fun r => rsize_w x.key x.val x.blob x.size r)
          obtain ⟨xk, xv, xb, xz⟩ := x
          dsimp only at p0 p1 p2 p3 HR HRR HSI HRS
          unfold cv at HR HRR HSI HRS
          generalize okC ⟨xk, xv, xb, xz⟩ = rg at *
          generalize szW xk xv xb = sg at *
          obtain ⟨sm, e1⟩ : ∃ sm, IntKind.i64.wrap ((xk.size : Int) + (xv.size : Int)) = sm := ⟨_, rfl⟩
          have HX := Lib.hid (Box.new wr (.string xk) (.string xv) (.int .i64 xb) (.int .i64 xz))
          have hA := (Below.refl wr.heap.size wr).alloc (Nat.le_refl _) (.cells #[.string xk, .string xv, .int .i64 xb, .int .i64 xz] 25)
          have HBW0 := Lib.hid (HQ.out.trans (hA.mono HQ.out.size))
          clear hb hA
          by_cases hlong : (600 : Int) < sm
          · go_upto_region 6 with fail
            clear p0 p1 p2 p3
            generalize wr.alloc (.cells #[.string xk, .string xv, .int .i64 xb, .int .i64 xz] 25) = W at *
            obtain ⟨B, hB⟩ : ∃ B, B = wr.heap.size := ⟨_, rfl⟩
            rw [← hB] at HX ⊢
            clear hB
            obtain ⟨x0, x1, x2, x3⟩ := HX.out.cells
            have hdl : decide ((600 : Int) < sm) = true := decide_eq_true hlong
            go_quiet (fail)
            go_wp2_with fail
            go_ret
            exact ⟨rfl, HBW0.out.os, HBW0.out.tape, HBW0.out.output, HBW0.out.size, HBW0.out.block⟩
          · have hdl : decide ((600 : Int) < sm) = false := decide_eq_false hlong
            go_upto_region 6 with fail
            clear p0 p1 p2 p3
            have HBW := HBW0
            clear HBW0
            generalize wr.alloc (.cells #[.string xk, .string xv, .int .i64 xb, .int .i64 xz] 25) = W at *
            obtain ⟨B, hB⟩ : ∃ B, B = wr.heap.size := ⟨_, rfl⟩
            rw [← hB] at HX ⊢
            clear hB
            obtain ⟨x0, x1, x2, x3⟩ := HX.out.cells
            have X0 := fun r (h : Held W r) => h.cell x0
            have X1 := fun r (h : Held W r) => h.cell x1
            have X2 := fun r (h : Held W r) => h.cell x2
            have X3 := fun r (h : Held W r) => h.cell x3
            clear x0 x1 x2 x3
            refine wp_region_noPanic ?_
            refine wp_region_held_drew (S := Held W) (by kernel_rfl) ?_ (fun hHeld => ?_)
            · exact Held.start _
            refine wpAnyH_take (i := 0) (oi := { dst := some 38, op := Op.fieldAddr 25 (Operand.tmp 6) 0, type := 0, pos := "law.go:24", after := #[], guard := none }) (v := .pointer (some ⟨B, 0, none⟩)) rfl (by kernel_rfl) (by kernel_rfl) (by kernel_rfl) (fun _ _ _ h => h) (Or.inl ⟨by rfl, fun w' hSw => by ((try dsimp only at hSw); go_simp)⟩) (by assumption) ?_
            (try simp only [Act.put, List.setIfInBounds_toArray, List.set_cons_zero, List.set_cons_succ])
            refine wpAnyH_take (i := 1) (oi := { dst := some 39, op := Op.load 9 (Operand.tmp 38), type := 9, pos := "law.go:24", after := #[{ on := 0, ground := Ground.data }], guard := none }) (v := .string xk) rfl (by kernel_rfl) (by kernel_rfl) (by kernel_rfl) (fun _ _ _ h => h) (Or.inl ⟨by rfl, fun w' hSw => by ((try dsimp only at hSw); have := X0 _ hSw; have := X1 _ hSw; have := X2 _ hSw; have := X3 _ hSw; go_simp)⟩) (by assumption) ?_
            (try simp only [Act.put, List.setIfInBounds_toArray, List.set_cons_zero, List.set_cons_succ])
            refine wpAnyH_take (i := 2) (oi := { dst := some 40, op := Op.call { callee := Callee.builtin Builtin.len, args := #[Operand.tmp 39], argTypes := #[9] }, type := 3, pos := "law.go:24", after := #[{ on := 1, ground := Ground.data }], guard := none }) (v := .int .i64 xk.size) rfl (by kernel_rfl) (by kernel_rfl) (by kernel_rfl) (fun _ _ _ h => h) (Or.inl ⟨by rfl, fun w' hSw => by ((try dsimp only at hSw); go_simp)⟩) (by assumption) ?_
            (try simp only [Act.put, List.setIfInBounds_toArray, List.set_cons_zero, List.set_cons_succ])
            refine wpAnyH_take (i := 3) (oi := { dst := some 41, op := Op.fieldAddr 25 (Operand.tmp 6) 1, type := 0, pos := "law.go:24", after := #[], guard := none }) (v := .pointer (some ⟨B, 1, none⟩)) rfl (by kernel_rfl) (by kernel_rfl) (by kernel_rfl) (fun _ _ _ h => h) (Or.inl ⟨by rfl, fun w' hSw => by ((try dsimp only at hSw); go_simp)⟩) (by assumption) ?_
            (try simp only [Act.put, List.setIfInBounds_toArray, List.set_cons_zero, List.set_cons_succ])
            refine wpAnyH_take (i := 4) (oi := { dst := some 42, op := Op.load 9 (Operand.tmp 41), type := 9, pos := "law.go:24", after := #[{ on := 3, ground := Ground.data }], guard := none }) (v := .string xv) rfl (by kernel_rfl) (by kernel_rfl) (by kernel_rfl) (fun _ _ _ h => h) (Or.inl ⟨by rfl, fun w' hSw => by ((try dsimp only at hSw); have := X0 _ hSw; have := X1 _ hSw; have := X2 _ hSw; have := X3 _ hSw; go_simp)⟩) (by assumption) ?_
            (try simp only [Act.put, List.setIfInBounds_toArray, List.set_cons_zero, List.set_cons_succ])
            refine wpAnyH_take (i := 5) (oi := { dst := some 43, op := Op.call { callee := Callee.builtin Builtin.len, args := #[Operand.tmp 42], argTypes := #[9] }, type := 3, pos := "law.go:24", after := #[{ on := 4, ground := Ground.data }], guard := none }) (v := .int .i64 xv.size) rfl (by kernel_rfl) (by kernel_rfl) (by kernel_rfl) (fun _ _ _ h => h) (Or.inl ⟨by rfl, fun w' hSw => by ((try dsimp only at hSw); go_simp)⟩) (by assumption) ?_
            (try simp only [Act.put, List.setIfInBounds_toArray, List.set_cons_zero, List.set_cons_succ])
            refine wpAnyH_take (i := 6) (oi := { dst := some 44, op := Op.binOp BinOp.add 3 (Operand.tmp 40) (Operand.tmp 43) 3, type := 3, pos := "law.go:24", after := #[{ on := 2, ground := Ground.data }, { on := 5, ground := Ground.data }], guard := none }) (v := .int .i64 sm) rfl (by kernel_rfl) (by kernel_rfl) (by kernel_rfl) (fun _ _ _ h => h) (Or.inl ⟨by rfl, fun w' hSw => by ((try dsimp only at hSw); go_simp)⟩) (by assumption) ?_
            (try simp only [Act.put, List.setIfInBounds_toArray, List.set_cons_zero, List.set_cons_succ])
            refine wpAnyH_take (i := 7) (oi := { dst := some 45, op := Op.binOp BinOp.gtr 3 (Operand.tmp 44) (Operand.const (Value.int IntKind.i64 600)) 3, type := 4, pos := "law.go:24", after := #[{ on := 6, ground := Ground.data }], guard := none }) (v := .bool false) rfl (by kernel_rfl) (by kernel_rfl) (by kernel_rfl) (fun _ _ _ h => h) (Or.inl ⟨by rfl, fun w' hSw => by ((try dsimp only at hSw); go_simp)⟩) (by assumption) ?_
            (try simp only [Act.put, List.setIfInBounds_toArray, List.set_cons_zero, List.set_cons_succ])
            refine wpAnyH_take (i := 8) (oi := { dst := some 46, op := Op.move (Operand.tmp 45), type := 4, pos := "law.go:24", after := #[{ on := 7, ground := Ground.data }], guard := none }) (v := .bool false) rfl (by kernel_rfl) (by kernel_rfl) (by kernel_rfl) (fun _ _ _ h => h) (Or.inl ⟨by rfl, fun w' hSw => by ((try dsimp only at hSw); go_simp)⟩) (by assumption) ?_
            (try simp only [Act.put, List.setIfInBounds_toArray, List.set_cons_zero, List.set_cons_succ])
            refine wpAnyH_take (i := 9) (oi := { dst := some 47, op := Op.load 25 (Operand.tmp 6), type := 25, pos := "law.go:24", after := #[{ on := 8, ground := Ground.guard }], guard := some (8, false) }) (v := .agg #[.string xk, .string xv, .int .i64 xb, .int .i64 xz]) rfl (by kernel_rfl) (by kernel_rfl) (by kernel_rfl) (fun _ _ _ h => h) (Or.inl ⟨by rfl, fun w' hSw => by ((try dsimp only at hSw); have := X0 _ hSw; have := X1 _ hSw; have := X2 _ hSw; have := X3 _ hSw; go_simp)⟩) (by assumption) ?_
            (try simp only [Act.put, List.setIfInBounds_toArray, List.set_cons_zero, List.set_cons_succ])
            refine wpAnyH_take (i := 11) (oi := { dst := some 49, op := Op.load 25 (Operand.tmp 6), type := 25, pos := "law.go:24", after := #[{ on := 8, ground := Ground.guard }], guard := some (8, false) }) (v := .agg #[.string xk, .string xv, .int .i64 xb, .int .i64 xz]) rfl (by kernel_rfl) (by kernel_rfl) (by kernel_rfl) (fun _ _ _ h => h) (Or.inl ⟨by rfl, fun w' hSw => by ((try dsimp only at hSw); have := X0 _ hSw; have := X1 _ hSw; have := X2 _ hSw; have := X3 _ hSw; go_simp)⟩) (by assumption) ?_
            (try simp only [Act.put, List.setIfInBounds_toArray, List.set_cons_zero, List.set_cons_succ])
            refine wpAnyH_ready (rs := [10]) (by kernel_rfl) (by simp) ?_
            refine AllReadyH.cons (o := { dst := some 48, op := Op.call { callee := Callee.value (Operand.func 5), args := #[Operand.tmp 47], argTypes := #[25] }, type := 4, pos := "law.go:24", after := #[{ on := 9, ground := Ground.data }, { on := 8, ground := Ground.chain }, { on := 8, ground := Ground.guard }], guard := some (8, false) }) rfl (fun K hK => ?_) ?_
            · go_simp; go_at_call 5; refine (HR.out _).mono ?_; rintro e u1 ⟨rfl, hbu1⟩
              refine hK.out _ _ ?_ (fun hHeld => ?_)
              · exact Held.step (by assumption) hbu1
              clear hK K
              (try simp only [Act.put, List.setIfInBounds_toArray, List.set_cons_zero, List.set_cons_succ])
              refine wpAnyH_ready (rs := [12]) (by kernel_rfl) (by simp) ?_
              refine AllReadyH.cons (o := { dst := some 50, op := Op.call { callee := Callee.value (Operand.func 6), args := #[Operand.tmp 49], argTypes := #[25] }, type := 4, pos := "law.go:24", after := #[{ on := 11, ground := Ground.data }, { on := 10, ground := Ground.chain }, { on := 8, ground := Ground.guard }], guard := some (8, false) }) rfl (fun K hK => ?_) ?_
              · go_simp; go_at_call 6; refine (HRR.out _).mono ?_; rintro e u2 ⟨rfl, hbu2⟩
                refine hK.out _ _ ?_ (fun hHeld => ?_)
                · exact Held.step (by assumption) hbu2
                clear hK K
                (try simp only [Act.put, List.setIfInBounds_toArray, List.set_cons_zero, List.set_cons_succ])
                refine wpAnyH_take (i := 13) (oi := { dst := some 51, op := Op.binOp BinOp.neq 4 (Operand.tmp 48) (Operand.tmp 50) 4, type := 4, pos := "law.go:24", after := #[{ on := 10, ground := Ground.data }, { on := 12, ground := Ground.data }, { on := 8, ground := Ground.guard }], guard := some (8, false) }) (v := .bool false) rfl (by kernel_rfl) (by kernel_rfl) (by kernel_rfl) (fun _ _ _ h => h) (Or.inl ⟨by rfl, fun w' hSw => by ((try dsimp only at hSw); go_simp)⟩) (by assumption) ?_
                (try simp only [Act.put, List.setIfInBounds_toArray, List.set_cons_zero, List.set_cons_succ])
                refine wpAnyH_take (i := 14) (oi := { dst := some 52, op := Op.pick (Operand.tmp 46) (Operand.const (Value.bool true)) (Operand.tmp 51), type := 4, pos := "law.go:24", after := #[{ on := 8, ground := Ground.data }, { on := 13, ground := Ground.data }], guard := none }) (v := .bool false) rfl (by kernel_rfl) (by kernel_rfl) (by kernel_rfl) (fun _ _ _ h => h) (Or.inl ⟨by rfl, fun w' hSw => by ((try dsimp only at hSw); go_simp)⟩) (by assumption) ?_
                (try simp only [Act.put, List.setIfInBounds_toArray, List.set_cons_zero, List.set_cons_succ])
                refine wpAnyH_take (i := 15) (oi := { dst := some 53, op := Op.move (Operand.tmp 52), type := 4, pos := "law.go:24", after := #[{ on := 14, ground := Ground.data }, { on := 12, ground := Ground.chain }], guard := none }) (v := .bool false) rfl (by kernel_rfl) (by kernel_rfl) (by kernel_rfl) (fun _ _ _ h => h) (Or.inl ⟨by rfl, fun w' hSw => by ((try dsimp only at hSw); go_simp)⟩) (by assumption) ?_
                (try simp only [Act.put, List.setIfInBounds_toArray, List.set_cons_zero, List.set_cons_succ])
                refine wpAnyH_take (i := 16) (oi := { dst := some 54, op := Op.load 25 (Operand.tmp 6), type := 25, pos := "law.go:24", after := #[{ on := 15, ground := Ground.guard }], guard := some (15, false) }) (v := .agg #[.string xk, .string xv, .int .i64 xb, .int .i64 xz]) rfl (by kernel_rfl) (by kernel_rfl) (by kernel_rfl) (fun _ _ _ h => h) (Or.inl ⟨by rfl, fun w' hSw => by ((try dsimp only at hSw); have := X0 _ hSw; have := X1 _ hSw; have := X2 _ hSw; have := X3 _ hSw; go_simp)⟩) (by assumption) ?_
                (try simp only [Act.put, List.setIfInBounds_toArray, List.set_cons_zero, List.set_cons_succ])
                refine wpAnyH_take (i := 18) (oi := { dst := some 56, op := Op.load 25 (Operand.tmp 6), type := 25, pos := "law.go:24", after := #[{ on := 15, ground := Ground.guard }], guard := some (15, false) }) (v := .agg #[.string xk, .string xv, .int .i64 xb, .int .i64 xz]) rfl (by kernel_rfl) (by kernel_rfl) (by kernel_rfl) (fun _ _ _ h => h) (Or.inl ⟨by rfl, fun w' hSw => by ((try dsimp only at hSw); have := X0 _ hSw; have := X1 _ hSw; have := X2 _ hSw; have := X3 _ hSw; go_simp)⟩) (by assumption) ?_
                (try simp only [Act.put, List.setIfInBounds_toArray, List.set_cons_zero, List.set_cons_succ])
                refine wpAnyH_ready (rs := [17]) (by kernel_rfl) (by simp) ?_
                refine AllReadyH.cons (o := { dst := some 55, op := Op.call { callee := Callee.value (Operand.func 7), args := #[Operand.tmp 54], argTypes := #[25] }, type := 3, pos := "law.go:24", after := #[{ on := 16, ground := Ground.data }, { on := 15, ground := Ground.chain }, { on := 15, ground := Ground.guard }], guard := some (15, false) }) rfl (fun K hK => ?_) ?_
                · go_simp; go_at_call 7; refine (HSI.out _).mono ?_; rintro e u3 ⟨rfl, hbu3⟩
                  refine hK.out _ _ ?_ (fun hHeld => ?_)
                  · exact Held.step (by assumption) hbu3
                  clear hK K
                  (try simp only [Act.put, List.setIfInBounds_toArray, List.set_cons_zero, List.set_cons_succ])
                  refine wpAnyH_ready (rs := [19]) (by kernel_rfl) (by simp) ?_
                  refine AllReadyH.cons (o := { dst := some 57, op := Op.call { callee := Callee.value (Operand.func 8), args := #[Operand.tmp 56], argTypes := #[25] }, type := 3, pos := "law.go:24", after := #[{ on := 18, ground := Ground.data }, { on := 17, ground := Ground.chain }, { on := 15, ground := Ground.guard }], guard := some (15, false) }) rfl (fun K hK => ?_) ?_
                  · go_simp; go_at_call 8; refine (HRS.out _).mono ?_; rintro e u4 ⟨rfl, hbu4⟩
                    refine hK.out _ _ ?_ (fun hHeld => ?_)
                    · exact Held.step (by assumption) hbu4
                    clear hK K
                    (try simp only [Act.put, List.setIfInBounds_toArray, List.set_cons_zero, List.set_cons_succ])
                    refine wpAnyH_take (i := 20) (oi := { dst := some 58, op := Op.binOp BinOp.neq 3 (Operand.tmp 55) (Operand.tmp 57) 3, type := 4, pos := "law.go:24", after := #[{ on := 17, ground := Ground.data }, { on := 19, ground := Ground.data }, { on := 15, ground := Ground.guard }], guard := some (15, false) }) (v := .bool false) rfl (by kernel_rfl) (by kernel_rfl) (by kernel_rfl) (fun _ _ _ h => h) (Or.inl ⟨by rfl, fun w' hSw => by ((try dsimp only at hSw); go_simp)⟩) (by assumption) ?_
                    (try simp only [Act.put, List.setIfInBounds_toArray, List.set_cons_zero, List.set_cons_succ])
                    refine wpAnyH_take (i := 21) (oi := { dst := some 59, op := Op.pick (Operand.tmp 53) (Operand.const (Value.bool true)) (Operand.tmp 58), type := 4, pos := "law.go:24", after := #[{ on := 15, ground := Ground.data }, { on := 20, ground := Ground.data }], guard := none }) (v := .bool false) rfl (by kernel_rfl) (by kernel_rfl) (by kernel_rfl) (fun _ _ _ h => h) (Or.inl ⟨by rfl, fun w' hSw => by ((try dsimp only at hSw); go_simp)⟩) (by assumption) ?_
                    (try simp only [Act.put, List.setIfInBounds_toArray, List.set_cons_zero, List.set_cons_succ])
                    refine wpAnyH_done (by kernel_rfl) ?_ _
                    refine NoPanic.normal ?_
                    have HF := Lib.hid (HBW.out.trans (Below.mono hHeld HBW.out.size))
                    go_wp2_with fail
                    go_roundw
                    case rel => exact ⟨k + 1, by omega, by go_num, HF.out⟩
                    case measure => simp [intOf]; omega
                  exact AllReadyH.nil
                exact AllReadyH.nil
              exact AllReadyH.nil
            exact AllReadyH.nil
        · obtain rfl : n0 = k := by omega
          have q1 : ¬ (n0 : Int) < (n0 : Int) := by omega
          have b0 : (n0 : Int) ≤ 100000 := by omega
          have LE := Lib.hid (lent_walk (c := c0) wr (HP.out wr HQ.out) HN.out (by omega))
          go_wp2_with fail
          refine LE.out.mono ?_; rintro e w2 ⟨g, c2, rfl, hlent, hg, hb⟩
          have HL2 := Lib.hid hlent
          have HGC := Lib.hid (Nat.le_trans HQ.out.size hg)
          have HB2 := Lib.hid (HQ.out.trans (hb.mono HQ.out.size))
          clear hlent hg hb LE HQ
          have PU := Lib.hid (put_any (c := c2) w2 (HL2.out.ces HS2.out (by unfold maxLen; omega)) HN.out (by omega) (Nat.le_refl _))
          generalize hFS : str (putS l0) = FS at *
          generalize hfo : putOk l0 = fo at *
          go_wp2_with fail
          refine PU.out.mono ?_; rintro e w3 ⟨rfl, hb⟩
          have HL3 := Lib.hid (HL2.out.kept hb)
          have HB3 := Lib.hid (HB2.out.trans (hb.mono HB2.out.size))
          clear hb PU HL2 HB2
          have RP := Lib.hid (rput_walk (c := c0) w3 (HP.out w3 HB3.out) HN.out (by omega) HB3.out.size)
          rw [hFS, hfo] at RP
          clear hFS hfo
          go_wp2_with fail
          refine RP.out.mono ?_; rintro e w4 ⟨rfl, hb⟩
          have HL4 := Lib.hid (HL3.out.kept hb)
          have HB4 := Lib.hid (HB3.out.trans (hb.mono HB3.out.size))
          clear hb RP HL3 HB3
          go_wp2_with fail
          refine (GE.out _).mono ?_; rintro e w5 ⟨A5, c5, rfl, hx, hb⟩
          have HX5 := Lib.hid hx
          have HXR5 := Lib.hid (own_lists hx HM.out)
          have HL5 := Lib.hid (HL4.out.kept hb)
          have HB5 := Lib.hid (HB4.out.trans (hb.mono HB4.out.size))
          have HXC := Lib.hid (fun g (hg : (⟨A5, m, c5⟩ : E).own = some g) => Nat.le_trans HB4.out.size (hx.lt g hg).1)
          clear hb hx HL4 HB4
          go_wp2_with fail
          refine (RG.out _).mono ?_; rintro e w6 ⟨A6, c6, rfl, hx, hb⟩
          have HYR6 := Lib.hid (own_lists hx HM.out)
          have HXR6 := Lib.hid (HXR5.out.below hb)
          have HL6 := Lib.hid (HL5.out.kept hb)
          have HB6 := Lib.hid (HB5.out.trans (hb.mono HB5.out.size))
          have HXL := Lib.hid (fun g (hg : (⟨A5, m, c5⟩ : E).own = some g) => Nat.lt_of_lt_of_le (HX5.out.lt g hg).2 hb.size)
          clear hb hx HL5 HB5 HXR5 HX5
          go_wp2_with fail
          refine (GE.out _).mono ?_; rintro e w7 ⟨A7, c7, rfl, hx, hb⟩
          have HZR7 := Lib.hid (own_lists hx HM.out)
          have HYR7 := Lib.hid (HYR6.out.below hb)
          have HXR7 := Lib.hid (HXR6.out.below hb)
          have HL7 := Lib.hid (HL6.out.kept hb)
          have HB7 := Lib.hid (HB6.out.trans (hb.mono HB6.out.size))
          have HZC := Lib.hid (fun g (hg : (⟨A7, m, c7⟩ : E).own = some g) => Nat.le_trans HB6.out.size (hx.lt g hg).1)
          have HFR := Lib.hid (show FarR ⟨A5, m, c5⟩ ⟨A7, m, c7⟩ from fun g h1 h2 => by
            have := HXL.out g h1
            have := (hx.lt g h2).1
            omega)
          clear hb hx HL6 HB6 HXR6 HYR6 HXL
          go_wp2_with fail
          have HBK := Lib.hid (Book.new (C := w.heap.size) (w := w7.alloc (.cells (bookCells nil_ nil_) 45)) (b := w7.heap.size) HB7.out.size (heap_alloc_new w7 _))
          have hA := (Below.refl w7.heap.size w7).alloc (Nat.le_refl _) (.cells (bookCells nil_ nil_) 45)
          have HZR8 := Lib.hid (HZR7.out.below hA)
          have HYR8 := Lib.hid (HYR7.out.below hA)
          have HXR8 := Lib.hid (HXR7.out.below hA)
          have HL8 := Lib.hid (HL7.out.kept hA)
          have HB8 := Lib.hid (HB7.out.trans (hA.mono HB7.out.size))
          clear hA HZR7 HYR7 HXR7 HL7 HB7
          unfold bookCells nil_ at *
          generalize w7.alloc (.cells #[.slice none 0 0, .slice none 0 0, .slice none 0 0, .slice none 0 0, .slice none 0 0, .slice none 0 0, .slice none 0 0, .slice none 0 0, .slice none 0 0, .slice none 0 0, .slice none 0 0, .slice none 0 0, .slice none 0 0, .slice none 0 0, .slice none 0 0, .slice none 0 0, .slice none 0 0, .slice none 0 0] 45) = w8 at *
          obtain ⟨B, hB⟩ : ∃ B, B = w7.heap.size := ⟨_, rfl⟩
          rw [← hB] at HBK ⊢
          clear hB
          refine (add_walk w.heap.size B [] [] [] [] A5 m c5 gs w8 HBK.out HB8.out.size HXR8.out HSG.out (by omega) (by simp) (by simp) (by simp)).mono ?_; rintro e w9 ⟨rfl, f1, hbk, hk9, hf1⟩
          simp only [List.nil_append] at hbk
          obtain ⟨cs8, hb8⟩ := HBK.out.block
          have HBK9 := Lib.hid hbk
          have HFR2 := Lib.hid (show ∀ x ∈ [(⟨A5, m, c5⟩ : E)] ++ [f1], FarR x ⟨A7, m, c7⟩ from fun x hx => by
            simp only [List.cons_append, List.nil_append, List.mem_cons, List.not_mem_nil, or_false] at hx
            rcases hx with rfl | rfl
            · exact HFR.out
            · intro g h1 h2
              have := hf1 g h1
              have := row_own_lt HZR8.out h2
              omega)
          have HZR9 := Lib.hid (hk9.row HZR8.out hb8)
          have HYR9 := Lib.hid (hk9.row HYR8.out hb8)
          have HXR9 := Lib.hid (hk9.row HXR8.out hb8)
          have HL9 := Lib.hid (HL8.out.keptB hk9 hb8)
          have HB9 := Lib.hid (HB8.out.trans hk9.1)
          clear hbk hk9 hf1 hb8 HBK HB8 HL8 HXR8 HYR8 HZR8 HFR
          go_wp2_with fail
          refine (add_walk w.heap.size B [⟨A5, m, c5⟩] [f1] [gs] [gs] A7 m c7 gs w9 HBK9.out HB9.out.size HZR9.out HSG.out (by omega) (by simp) (by simp) HFR2.out).mono ?_; rintro e w10 ⟨rfl, f2, hbk, hk9, hf1⟩
          obtain ⟨cs8, hb8⟩ := HBK9.out.block
          have HBK10 := Lib.hid hbk
          have HYR10 := Lib.hid (hk9.row HYR9.out hb8)
          have HXR10 := Lib.hid (hk9.row HXR9.out hb8)
          have HL10 := Lib.hid (HL9.out.keptB hk9 hb8)
          have HB10 := Lib.hid (HB9.out.trans hk9.1)
          clear hbk hk9 hf1 hb8 HBK9 HB9 HL9 HXR9 HYR9 HZR9 HFR2
          have hse := show (FS.toList == FS.toList) = true by simp
          have FI := Lib.hid (fits_walk (c := c2) w10 (HL10.out.ces HS2.out (by unfold maxLen; omega)) HN.out (by omega) (Nat.le_refl _))
          have RF := Lib.hid (fun r (hb : Below w.heap.size w r) => rfits_walk (c := c0) r (HP.out r hb) HN.out (by omega) hb.size)
          generalize fitsB l0 = fi at *
          go_wp2_with fail
          refine FI.out.mono ?_; rintro e w11 ⟨rfl, hb⟩
          have HL11 := Lib.hid (HL10.out.kept hb)
          have HXR11 := Lib.hid (HXR10.out.below hb)
          have HYR11 := Lib.hid (HYR10.out.below hb)
          have HBK11 := Lib.hid (HBK10.out.below hb)
          have HB11 := Lib.hid (HB10.out.trans (hb.mono HB10.out.size))
          clear hb HB10 HL10 HXR10 HYR10 HBK10
          clear FI
          go_wp2_with fail
          refine (RF.out _ HB11.out).mono ?_; rintro e w12 ⟨rfl, hb⟩
          have HL12 := Lib.hid (HL11.out.kept hb)
          have HXR12 := Lib.hid (HXR11.out.below hb)
          have HYR12 := Lib.hid (HYR11.out.below hb)
          have HBK12 := Lib.hid (HBK11.out.below hb)
          have HB12 := Lib.hid (HB11.out.trans (hb.mono HB11.out.size))
          clear hb HB11 HL11 HXR11 HYR11 HBK11
          have ST := Lib.hid (stays_walk (d := c0) w12 HL12.out (HP.out _ HB12.out) (by omega))
          clear RF
          go_wp2_with fail
          refine ST.out.mono ?_; rintro e w13 ⟨rfl, hb⟩
          have HL13 := Lib.hid (HL12.out.kept hb)
          have HXR13 := Lib.hid (HXR12.out.below hb)
          have HYR13 := Lib.hid (HYR12.out.below hb)
          have HBK13 := Lib.hid (HBK12.out.below hb)
          have HB13 := Lib.hid (HB12.out.trans (hb.mono HB12.out.size))
          clear hb HB12 HL12 HXR12 HYR12 HBK12
          clear ST
          have SA := Lib.hid (same_walk (c := c5) (d := c6) w13 (HXR13.out.ces HSG.out (by unfold maxLen; omega)) (HYR13.out.ces HSG.out (by unfold maxLen; omega)) HM.out HM.out (by omega))
          rw [sameB_self] at SA
          go_wp2_with fail
          refine SA.out.mono ?_; rintro e w14 ⟨rfl, q, rfl⟩
          have hb : Below w13.heap.size w13 (w13.drewN q) := ⟨rfl, rfl, rfl, Nat.le_refl _, fun _ _ => rfl⟩
          have HBK14 := Lib.hid (HBK13.out.below hb)
          have HB14 := Lib.hid (HB13.out.trans (hb.mono HB13.out.size))
          clear hb SA HBK13 HB13 HL13 HXR13 HYR13
          have AP := Lib.hid (apart_walk w.heap.size B _ _ _ _ HBK14.out HB14.out.size (fun e he g hg => by
            simp only [List.cons_append, List.nil_append, List.mem_cons, List.not_mem_nil, or_false] at he
            rcases he with rfl | rfl
            · exact HXC.out g hg
            · exact HZC.out g hg) (by simp) (fun i hi => by
            simp only [List.cons_append, List.nil_append, List.length_cons, List.length_nil] at hi
            rcases (show i = 0 ∨ i = 1 by omega) with rfl | rfl <;> (simp; omega)) (fun i hi => by
            simp only [List.cons_append, List.nil_append, List.length_cons, List.length_nil] at hi
            rcases (show i = 0 ∨ i = 1 by omega) with rfl | rfl <;> exact HSG.out))
          generalize w13.drewN q = W14 at *
          go_wp2_with fail
          refine AP.out.mono ?_; rintro e w15 ⟨rfl, hb⟩
          have HB15 := Lib.hid (HB14.out.trans hb)
          clear hb
          go_wp2_with fail
          go_ret
          exact ⟨rfl, HB15.out⟩

/-! The row's step. -/
set_option maxRecDepth 100000 in
theorem lifted (os : Os) (started : os.Started) (H : Type) (enc : TypeId × Value → H) :
    ReturnsInHanded {} Tryz.checked os 3 .any (Rows.cellTellsSpec.pre6 enc Tryz.prog Tryz.f3 Rows.cellTellsRow.domain false) (Rows.cellTellsSpec.post enc Tryz.prog Tryz.f3 false true false false) := by
  refine returnsInHanded_of_change (C := Tryz.checked) own started (by kernel_rfl) Tryz.func3
    (ChangeSpec.witness6 (enc := enc) (C := Tryz.checked) false ⟨#[], #[.slice none 0 0, .string ByteArray.empty], []⟩ 8 (by kernel_rfl) (by kernel_rfl) (by kernel_rfl) (by kernel_rfl)) ?_
  intro W base args ds gs before hval0 hW hcnd _
  have hval : ∀ (j : Nat) t v, Tryz.f3.params[j]? = some t → args[j]? = some v → Value.okWide Tryz.prog W .any base t v := hval0
  have hW' := hW
  obtain ⟨p, q, hA0, hV, rfl, hfz, hnd⟩ := hW
  have hA : DataW.TrodAll enc Tryz.prog W 0 (fun _ => true) true Tryz.f3.params.toList args.toList ds p := hA0
  rw [Tryz.params3] at hA hval
  obtain ⟨v0, vs0, d0, ds0, p0, q0, hargs, rfl, rfl, h0, r0⟩ := trodAll_cons hA
  obtain ⟨v1, vs1, d1, ds1, p1, q1, rfl, rfl, rfl, h1, r1⟩ := trodAll_cons r0
  obtain ⟨rfl, rfl, rfl⟩ := trodAll_nil r1
  obtain rfl : args = #[v0, v1] := by cases args; simp_all
  obtain ⟨rfl, rfl⟩ := trodVars_none hV
  obtain ⟨A0, n0, c0, rfl⟩ := okWide_slice Tryz.underlying22 (hval 0 22 v0 rfl rfl)
  have k0 := h0
  have lt0 : ∀ x ∈ p0, x.block < W.heap.size := by obtain ⟨m, hm⟩ := k0; exact DataW.trod_lt m _ _ _ hm
  obtain ⟨l0, w0, e0, f0⟩ := (by obtain ⟨fuel, hf⟩ := h0; exact ces_read hf (fun _ => rfl) : ∃ l, CesL W A0 n0 l ∧ n0 ≤ c0 ∧ c0 ≤ maxLen)
  obtain ⟨a1, rfl, rfl, rfl, w1⟩ := Go.ChangeMaps.open_string Tryz.underlying9 (hval 1 9 v1 rfl rfl) h1
  clear hA0 hval0
  refine (walk A0 n0 c0 l0 a1 W w0 (Nat.le_trans e0 f0) w1).mono fun e W' ⟨he, bel⟩ => ?_
  subst he
  exact ⟨_, rfl, _, _, _, [], _, [], hW', trodAll_mk1 (shut_bool Tryz.underlying4 _), (trodAll_cons_mk (Below.trod laidOut (by kernel_rfl) (of_decide_eq_true (by kernel_rfl)) k0 bel lt0) (trodAll_cons_mk (Go.ChangeMaps.shut_string Tryz.underlying9 w1) trodAll_mk0)), rfl, bel.frame _, fun h => by cases h⟩

theorem over : Rows.cellTellsRow.holds Tryz.pinned (OpenSpec.ofChange Rows.cellTellsSpec) :=
  OpenClaim.holds_of_wide 3 Tryz.f3 rfl rfl rfl rfl rfl rfl rfl ⟨rfl, rfl, rfl, rfl, rfl⟩ rfl rfl rfl rfl rfl (by kernel_rfl) Tryz.func3 (by kernel_rfl)
    (of_decide_eq_true (by kernel_rfl)) (by unfold Func.isWrapper; first | (rw [if_pos (by decide +kernel)]; kernel_rfl) | (rw [if_neg (by decide +kernel)]; exact ⟨rfl, rfl⟩))
    (fun os started H enc _ => lifted os started H enc)

/-- The statement. -/
theorem proved : Rows.CellTellsSaid := over
end Go.Proofs.YtnbfieidledfmaaGreat.cellTells
