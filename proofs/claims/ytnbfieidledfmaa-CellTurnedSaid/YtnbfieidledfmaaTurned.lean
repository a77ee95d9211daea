/- A body of which a byte is turned is none, or one of other cells, for every list of cells, every place, every byte. -/
import Derived.Test.YtnbfieidledfmaaRows
import Derived.Test.YtnbfieidledfmaaTurn
import Derived.Deep.RegionHeld3
import Derived.StillTailTactics
import Derived.BigQuiet
import Derived.Laws.MakeOwn
import Derived.Deep.DeepCutAuto
import Derived.Deep.RegionLaw
import Derived.Lib.Hide
import Derived.WalkKit
import Derived.ProofKit
import Derived.OpenShut
import Derived.ChangeOld
import Derived.Below
import Derived.Carry
namespace Go.Proofs.Ytnbfieidledfmaa.cellTurned
open Go.ChangeShapes Go.WideShapes Go.ChangeAt Go.RowKit
set_option linter.unusedVariables false

theorem own : ownKnob Try.prog.godebug = none := by kernel_rfl
theorem laidOut : laidOutB Try.prog = true := by kernel_rfl


theorem got_ces5 {B n : Nat} {w : World} {A : Option Addr} {c : Nat} {Q : List Ce} (h : Own B w (.slice A n c) Q) (hn : Q.length = n) (hs : (∀ p ∈ Q, p.key.size ≤ maxLen ∧ p.val.size ≤ maxLen) ∧ n ≤ 1000000) : Ces w.heap.size w A Q := by
  subst hn
  exact own_ces h hs.1 (max_small hs.2)
set_option maxRecDepth 100000 in
set_option maxHeartbeats 8000000 in
theorem walk (A0 : Option Addr) (n0 c0 : Nat) (l0 : List Ce) (a1 a2 : Int) (w : World) (w0 : CesL w A0 n0 l0) (e0 : n0 ≤ maxLen) (w1 : (Lit.int .i64 a1).wf = true) (w2 : (Lit.int .u8 a2).wf = true) :
    Calls Try.prog 6 #[.slice A0 n0 c0, .int .i64 a1, .int .u8 a2] w fun e w' => e = .returned (.bool true) ∧ Below w.heap.size w w' := by
  by_cases cc : 60 < (n0 : Int)
  · as_aux_lemma =>
      have HB0 := Lib.hid (Below.refl w.heap.size w)
      have AL := Lib.hid alive_yes
      go_enter Try.func6, Try.ntmps6
      go_wp2_with fail
      refine (AL.out _).mono ?_; rintro e w1 ⟨rfl, hb⟩
      have HB1 := Lib.hid (HB0.out.trans (hb.mono (Below.size HB0.out)))
      clear hb HB0 
      go_wp2_with fail
      go_ret
      exact ⟨rfl, HB1.out⟩
  · by_cases c2 : a2 = 0
    · as_aux_lemma =>
        subst c2
        have HB0 := Lib.hid (Below.refl w.heap.size w)
        have AL := Lib.hid alive_yes
        go_enter Try.func6, Try.ntmps6
        go_wp2_with fail
        refine (AL.out _).mono ?_; rintro e w1 ⟨rfl, hb⟩
        have HB1 := Lib.hid (HB0.out.trans (hb.mono (Below.size HB0.out)))
        clear hb HB0 
        go_wp2_with fail
        go_ret
        exact ⟨rfl, HB1.out⟩
    · obtain ⟨hn, hces⟩ := w0
      have hm : n0 ≤ 60 := by omega
      clear e0
      obtain ⟨y, rfl⟩ := u8_of_int a2 w2
      clear w1 w2
      have hy : y ≠ 0 := fun e => by rw [e] at c2; exact c2 rfl
      have hyi : (((y.toNat : Nat) : Int) == 0) = false := by rw [beq_eq_false_iff_ne]; exact c2
      have hyi' : ¬ ((y.toNat : Nat) : Int) = 0 := c2
      have HP := Lib.hid (fun w' (hb : Below w.heap.size w w') => hces.kept hb)
      have HN := Lib.hid hn
      have PU := Lib.hid (fun w' (hb : Below w.heap.size w w') => put_any (c := c0) w' (hces.kept hb) hn (by omega) hb.size)
      clear c2
      cases ho : putOk l0 with
      | false =>
        as_aux_lemma =>
          rw [show putS l0 = [] by unfold putS; rw [ho]; rfl, ho, show str [] = ByteArray.mk #[] from rfl] at PU
          clear ho hn hces
          have HB0 := Lib.hid (Below.refl w.heap.size w)
          have AL := Lib.hid alive_yes
          go_enter Try.func6, Try.ntmps6
          go_wp2_with fail
          refine (AL.out _).mono ?_; rintro e w1 ⟨rfl, hb⟩
          have HB1 := Lib.hid (HB0.out.trans (hb.mono (Below.size HB0.out)))
          clear hb HB0 
          go_wp2_with fail
          refine (PU.out _ HB1.out).mono ?_; rintro e w2 ⟨rfl, hb⟩
          have HB2 := Lib.hid (HB1.out.trans (hb.mono (Below.size HB1.out)))
          clear hb HB1 
          go_wp2_with fail
          go_ret
          exact ⟨rfl, HB2.out⟩
      | true =>
        as_aux_lemma =>
          have hlen := bodyOf_length ho
          rw [show putS l0 = bodyOf l0 by unfold putS; rw [ho]; rfl, ho] at PU
          obtain ⟨j, hj, hja⟩ := place a1 240 (by omega) (by omega)
          have hja' : (wrap64 (a1.tmod 240 + 240)).tmod 240 = (j : Int) := hja
          have HNE := turned_ne ho (k := j) (by omega) (y := y) hy
          obtain ⟨c0b, hc0⟩ : ∃ c0b, c0b = (bodyOf l0).getD j 0 := ⟨_, rfl⟩
          rw [← hc0] at HNE
          obtain ⟨cb, hc⟩ : ∃ cb, cb = c0b ^^^ y := ⟨_, rfl⟩
          rw [← hc] at HNE
          have HXO := Lib.hid (xor_u8 c0b y)
          rw [← hc] at HXO
          have HE := Lib.hid (patch_str (bodyOf l0) j 240 (by omega) cb)
          have GT := Lib.hid (fun w => get_any (patch (bodyOf l0) j cb) (by rw [patch_length (by omega), hlen]; omega) w)
          unfold Got at GT
          have HIX0 := fun w => run_ix (str (bodyOf l0)) j (by rw [str_size, hlen]; exact hj) w
          rw [str_toList, ← hc0] at HIX0
          have HIX := Lib.hid HIX0
          have HSZ0 := Lib.hid (And.intro (getS_sizes (patch (bodyOf l0) j cb)) (show (getS (patch (bodyOf l0) j cb)).length ≤ 1000000 by have := getS_len (patch (bodyOf l0) j cb); omega))
          obtain ⟨Q, hQ⟩ : ∃ Q, Q = getS (patch (bodyOf l0) j cb) := ⟨_, rfl⟩
          obtain ⟨gd, hg⟩ : ∃ g, g = getOk (patch (bodyOf l0) j cb) := ⟨_, rfl⟩
          rw [← hQ, ← hg] at GT HNE
          rw [← hQ] at HSZ0
          obtain ⟨n5, hn5⟩ : ∃ n5, n5 = Q.length := ⟨_, rfl⟩
          rw [← hn5] at GT HSZ0
          have HSZ := Lib.hid HSZ0.out
          have HNQ := Lib.hid hn5.symm
          have HQ := Lib.hid HNE
          obtain ⟨bb, hbb⟩ : ∃ bb, bb = str (bodyOf l0) := ⟨_, rfl⟩
          have hbs : bb.size = 240 := by rw [hbb, str_size, hlen]
          rw [← hbb] at PU HE HIX
          obtain ⟨sA, hA⟩ : ∃ sA, sA = bb.extract 0 j := ⟨_, rfl⟩
          obtain ⟨sB, hB⟩ : ∃ sB, sB = str [cb] := ⟨_, rfl⟩
          obtain ⟨sC, hC⟩ : ∃ sC, sC = bb.extract (j + 1) 240 := ⟨_, rfl⟩
          rw [← hA, ← hB, ← hC] at HE
          have hAs : sA.size = j := by rw [hA, hbb, extract_str, str_size, List.length_take, List.drop_zero, str_toList, hlen]; omega
          have hBs : sB.size = 1 := by rw [hB]; rfl
          have hCs : sC.size = 239 - j := by rw [hC, hbb, extract_str2 _ _ _ (by omega), str_size, List.length_drop, hlen]; omega
          rw [← HE.out] at GT
          have HA := Lib.hid hA.symm
          have HBB := Lib.hid hB
          have HCC := Lib.hid hC.symm
          clear hA hB hC hbb HE hQ hg hn5 HNE HIX0 hc hc0 hlen ho hja hces hn HSZ0 hy
          have hbs' : (bb.size : Int) = 240 := by omega
          have j0 : (0 : Int) ≤ (j : Int) := by omega
          have j1 : (j : Int) ≤ 240 := by omega
          have j2 : (j : Int) + 1 ≤ 240 := by omega
          have j3 : wrap64 ((j : Int) + 1) = (j : Int) + 1 := by unfold wrap64; omega
          have j3' : IntKind.i64.wrap ((j : Int) + 1) = (j : Int) + 1 := wrap_in _ (by omega) (by omega)
          have j4 : ((j : Int) + 1).toNat = j + 1 := by omega
          have j5 : (0 : Int) ≤ (j : Int) + 1 := by omega
          have j6 : j ≤ 9223372036854775806 := by omega
          have j7 : j + 1 + (239 - j) ≤ 9223372036854775807 := by omega
          have HB0 := Lib.hid (Below.refl w.heap.size w)
          have AL := Lib.hid alive_yes
          go_enter Try.func6, Try.ntmps6
          go_wp2_with fail
          refine (AL.out _).mono ?_; rintro e w1 ⟨rfl, hb⟩
          have HB1 := Lib.hid (HB0.out.trans (hb.mono (Below.size HB0.out)))
          clear hb HB0 
          go_wp2_with fail
          refine (PU.out _ HB1.out).mono ?_; rintro e U ⟨rfl, hb⟩
          have HB2 := Lib.hid (HB1.out.trans (hb.mono (Below.size HB1.out)))
          clear hb HB1 PU
          go_wp2_with fail
          refine wp_region_noPanic ?_
          refine wp_region_held_drew (S := Held U) (by kernel_rfl) ?_ (fun hHeld => ?_)
          · exact (Below.refl _ _).drew
          refine wpAnyH_take (i := 0) (oi := { dst := some 45, op := Op.move (Operand.tmp 7), type := 9, pos := "more.go:52", after := #[], guard := none }) (v := .string bb) rfl (by kernel_rfl) (by kernel_rfl) (by kernel_rfl) (fun _ _ _ h => h) (Or.inl ⟨by rfl, fun w' hSw => by ((try dsimp only at hSw); go_simp)⟩) (by assumption) ?_
          (try simp only [Act.put, List.setIfInBounds_toArray, List.set_cons_zero, List.set_cons_succ])
          refine wpAnyH_take (i := 1) (oi := { dst := some 46, op := Op.move (Operand.tmp 9), type := 3, pos := "more.go:52", after := #[], guard := none }) (v := .int .i64 j) rfl (by kernel_rfl) (by kernel_rfl) (by kernel_rfl) (fun _ _ _ h => h) (Or.inl ⟨by rfl, fun w' hSw => by ((try dsimp only at hSw); go_simp)⟩) (by assumption) ?_
          (try simp only [Act.put, List.setIfInBounds_toArray, List.set_cons_zero, List.set_cons_succ])
          refine wpAnyH_take (i := 2) (oi := { dst := some 47, op := Op.slice 9 (Operand.tmp 45) none (some (Operand.tmp 46)) none, type := 9, pos := "more.go:52", after := #[{ on := 0, ground := Ground.data }, { on := 1, ground := Ground.data }], guard := none }) (v := .string sA) rfl (by kernel_rfl) (by kernel_rfl) (by kernel_rfl) (fun _ _ _ h => h) (Or.inl ⟨by rfl, fun w' hSw => by ((try dsimp only at hSw); have := HA.out; go_simp)⟩) (by assumption) ?_
          (try simp only [Act.put, List.setIfInBounds_toArray, List.set_cons_zero, List.set_cons_succ])
          refine wpAnyH_take (i := 3) (oi := { dst := some 48, op := Op.move (Operand.tmp 7), type := 9, pos := "more.go:52", after := #[], guard := none }) (v := .string bb) rfl (by kernel_rfl) (by kernel_rfl) (by kernel_rfl) (fun _ _ _ h => h) (Or.inl ⟨by rfl, fun w' hSw => by ((try dsimp only at hSw); go_simp)⟩) (by assumption) ?_
          (try simp only [Act.put, List.setIfInBounds_toArray, List.set_cons_zero, List.set_cons_succ])
          refine wpAnyH_take (i := 4) (oi := { dst := some 49, op := Op.move (Operand.tmp 9), type := 3, pos := "more.go:52", after := #[], guard := none }) (v := .int .i64 j) rfl (by kernel_rfl) (by kernel_rfl) (by kernel_rfl) (fun _ _ _ h => h) (Or.inl ⟨by rfl, fun w' hSw => by ((try dsimp only at hSw); go_simp)⟩) (by assumption) ?_
          (try simp only [Act.put, List.setIfInBounds_toArray, List.set_cons_zero, List.set_cons_succ])
          refine wpAnyH_take (i := 5) (oi := { dst := some 50, op := Op.index 9 (Operand.tmp 48) (Operand.tmp 49), type := 5, pos := "more.go:52", after := #[{ on := 3, ground := Ground.data }, { on := 4, ground := Ground.data }], guard := none }) (v := .int .u8 (c0b.toNat : Int)) rfl (by kernel_rfl) (by kernel_rfl) (by kernel_rfl) (fun _ _ _ h => h) (Or.inl ⟨by rfl, fun w' hSw => by ((try dsimp only at hSw); have := HIX.out w'; go_simp)⟩) (by assumption) ?_
          (try simp only [Act.put, List.setIfInBounds_toArray, List.set_cons_zero, List.set_cons_succ])
          refine wpAnyH_take (i := 6) (oi := { dst := some 51, op := Op.move (Operand.tmp 2), type := 5, pos := "more.go:52", after := #[], guard := none }) (v := .int .u8 (y.toNat : Int)) rfl (by kernel_rfl) (by kernel_rfl) (by kernel_rfl) (fun _ _ _ h => h) (Or.inl ⟨by rfl, fun w' hSw => by ((try dsimp only at hSw); go_simp)⟩) (by assumption) ?_
          (try simp only [Act.put, List.setIfInBounds_toArray, List.set_cons_zero, List.set_cons_succ])
          refine wpAnyH_take (i := 7) (oi := { dst := some 52, op := Op.binOp BinOp.xor 5 (Operand.tmp 50) (Operand.tmp 51) 5, type := 5, pos := "more.go:52", after := #[{ on := 5, ground := Ground.data }, { on := 6, ground := Ground.data }], guard := none }) (v := .int .u8 (cb.toNat : Int)) rfl (by kernel_rfl) (by kernel_rfl) (by kernel_rfl) (fun _ _ _ h => h) (Or.inl ⟨by rfl, fun w' hSw => by ((try dsimp only at hSw); have := HXO.out; go_simp)⟩) (by assumption) ?_
          (try simp only [Act.put, List.setIfInBounds_toArray, List.set_cons_zero, List.set_cons_succ])
          refine wpAnyH_take (i := 11) (oi := { dst := some 56, op := Op.move (Operand.tmp 7), type := 9, pos := "more.go:52", after := #[], guard := none }) (v := .string bb) rfl (by kernel_rfl) (by kernel_rfl) (by kernel_rfl) (fun _ _ _ h => h) (Or.inl ⟨by rfl, fun w' hSw => by ((try dsimp only at hSw); go_simp)⟩) (by assumption) ?_
          (try simp only [Act.put, List.setIfInBounds_toArray, List.set_cons_zero, List.set_cons_succ])
          refine wpAnyH_take (i := 12) (oi := { dst := some 57, op := Op.move (Operand.tmp 9), type := 3, pos := "more.go:52", after := #[], guard := none }) (v := .int .i64 j) rfl (by kernel_rfl) (by kernel_rfl) (by kernel_rfl) (fun _ _ _ h => h) (Or.inl ⟨by rfl, fun w' hSw => by ((try dsimp only at hSw); go_simp)⟩) (by assumption) ?_
          (try simp only [Act.put, List.setIfInBounds_toArray, List.set_cons_zero, List.set_cons_succ])
          refine wpAnyH_take (i := 13) (oi := { dst := some 58, op := Op.binOp BinOp.add 3 (Operand.tmp 57) (Operand.const (Value.int IntKind.i64 1)) 3, type := 3, pos := "more.go:52", after := #[{ on := 12, ground := Ground.data }], guard := none }) (v := .int .i64 ((j : Int) + 1)) rfl (by kernel_rfl) (by kernel_rfl) (by kernel_rfl) (fun _ _ _ h => h) (Or.inl ⟨by rfl, fun w' hSw => by ((try dsimp only at hSw); go_simp)⟩) (by assumption) ?_
          (try simp only [Act.put, List.setIfInBounds_toArray, List.set_cons_zero, List.set_cons_succ])
          refine wpAnyH_take (i := 14) (oi := { dst := some 59, op := Op.slice 9 (Operand.tmp 56) (some (Operand.tmp 58)) none none, type := 9, pos := "more.go:52", after := #[{ on := 11, ground := Ground.data }, { on := 13, ground := Ground.data }], guard := none }) (v := .string sC) rfl (by kernel_rfl) (by kernel_rfl) (by kernel_rfl) (fun _ _ _ h => h) (Or.inl ⟨by rfl, fun w' hSw => by ((try dsimp only at hSw); have := HCC.out; go_simp)⟩) (by assumption) ?_
          (try simp only [Act.put, List.setIfInBounds_toArray, List.set_cons_zero, List.set_cons_succ])
          refine wpAnyH_ready (rs := [8]) (by kernel_rfl) (by simp) ?_
          refine AllReadyH.cons (o := { dst := some 53, op := Op.buildSlice 34 1 #[(0, Operand.tmp 52)], type := 34, pos := "more.go:52", after := #[{ on := 7, ground := Ground.data }], guard := none }) rfl (fun K hK => ?_) ?_
          · go_simp
            refine hK.out _ _ ?_ (fun hHeld => ?_)
            · exact Held.step (by assumption) ((Below.refl _ _).alloc (Nat.le_refl _) _)
            clear hK K
            (try simp only [Act.put, List.setIfInBounds_toArray, List.set_cons_zero, List.set_cons_succ])
            have hRow : HR U U.heap.size cb _ := ⟨hHeld, heap_alloc_new U (.cells #[.int .u8 (cb.toNat : Int)] 5)⟩
            refine wpAnyH_mono (S' := HR U U.heap.size cb) (fun r h => h.1) ?_
            replace hHeld := hRow
            clear hRow
            refine wpAnyH_take (i := 9) (oi := { dst := some 54, op := Op.convert 34 9 (Operand.tmp 53), type := 9, pos := "more.go:52", after := #[{ on := 8, ground := Ground.data }], guard := none }) (v := .string sB) rfl (by kernel_rfl) (by kernel_rfl) (by kernel_rfl) (fun _ _ _ h => h) (Or.inl ⟨by rfl, fun w' hSw => by ((try dsimp only at hSw); have := HR.convert hSw; rw [HBB.out]; go_simp)⟩) (by assumption) ?_
            (try simp only [Act.put, List.setIfInBounds_toArray, List.set_cons_zero, List.set_cons_succ])
            refine wpAnyH_take (i := 10) (oi := { dst := some 55, op := Op.binOp BinOp.add 9 (Operand.tmp 47) (Operand.tmp 54) 9, type := 9, pos := "more.go:52", after := #[{ on := 2, ground := Ground.data }, { on := 9, ground := Ground.data }], guard := none }) (v := .string (sA ++ sB)) rfl (by kernel_rfl) (by kernel_rfl) (by kernel_rfl) (fun _ _ _ h => h) (Or.inl ⟨by rfl, fun w' hSw => by ((try dsimp only at hSw); go_simp)⟩) (by assumption) ?_
            (try simp only [Act.put, List.setIfInBounds_toArray, List.set_cons_zero, List.set_cons_succ])
            refine wpAnyH_take (i := 15) (oi := { dst := some 60, op := Op.binOp BinOp.add 9 (Operand.tmp 55) (Operand.tmp 59) 9, type := 9, pos := "more.go:52", after := #[{ on := 10, ground := Ground.data }, { on := 14, ground := Ground.data }], guard := none }) (v := .string (sA ++ sB ++ sC)) rfl (by kernel_rfl) (by kernel_rfl) (by kernel_rfl) (fun _ _ _ h => h) (Or.inl ⟨by rfl, fun w' hSw => by ((try dsimp only at hSw); go_simp)⟩) (by assumption) ?_
            (try simp only [Act.put, List.setIfInBounds_toArray, List.set_cons_zero, List.set_cons_succ])
            refine wpAnyH_ready (rs := [16]) (by kernel_rfl) (by simp) ?_
            refine AllReadyH.cons (o := { dst := some 61, op := Op.call { callee := Callee.value (Operand.func 11), args := #[Operand.tmp 60], argTypes := #[9] }, type := 26, pos := "more.go:52", after := #[{ on := 15, ground := Ground.data }], guard := none }) rfl (fun K hK => ?_) ?_
            · go_simp; go_at_call 11; refine (GT.out _).mono ?_; rintro e w5 ⟨A5, c5, rfl, hown5, hb5⟩
              refine hK.out _ _ ?_ (fun hHeld => ?_)
              · exact HR.step (by assumption) hb5
              clear hK K
              (try simp only [Act.put, List.setIfInBounds_toArray, List.set_cons_zero, List.set_cons_succ])
              refine wpAnyH_take (i := 17) (oi := { dst := some 44, op := Op.move (Operand.tmp 61), type := 26, pos := "more.go:52", after := #[{ on := 16, ground := Ground.data }], guard := none }) (v := .tuple #[.slice A5 n5 c5, .bool gd]) rfl (by kernel_rfl) (by kernel_rfl) (by kernel_rfl) (fun _ _ _ h => h) (Or.inl ⟨by rfl, fun w' hSw => by ((try dsimp only at hSw); go_simp)⟩) (by assumption) ?_
              (try simp only [Act.put, List.setIfInBounds_toArray, List.set_cons_zero, List.set_cons_succ])
              refine wpAnyH_take (i := 18) (oi := { dst := some 62, op := Op.extract (Operand.tmp 44) 0, type := 22, pos := "more.go:52", after := #[{ on := 17, ground := Ground.data }], guard := none }) (v := .slice A5 n5 c5) rfl (by kernel_rfl) (by kernel_rfl) (by kernel_rfl) (fun _ _ _ h => h) (Or.inl ⟨by rfl, fun w' hSw => by ((try dsimp only at hSw); go_simp)⟩) (by assumption) ?_
              (try simp only [Act.put, List.setIfInBounds_toArray, List.set_cons_zero, List.set_cons_succ])
              refine wpAnyH_take (i := 19) (oi := { dst := some 63, op := Op.extract (Operand.tmp 44) 1, type := 4, pos := "more.go:52", after := #[{ on := 17, ground := Ground.data }, { on := 20, ground := Ground.gcOnly Go.Departure.lateStores }], guard := none }) (v := .bool gd) rfl (by kernel_rfl) (by kernel_rfl) (by kernel_rfl) (fun _ _ _ h => h) (Or.inl ⟨by rfl, fun w' hSw => by ((try dsimp only at hSw); go_simp)⟩) (by assumption) ?_
              (try simp only [Act.put, List.setIfInBounds_toArray, List.set_cons_zero, List.set_cons_succ])
              refine wpAnyH_take (i := 20) (oi := { dst := some 10, op := Op.assign (Operand.tmp 62), type := 22, pos := "more.go:52", after := #[{ on := 18, ground := Ground.data }, { on := 16, ground := Ground.chain }, { on := 0, ground := Ground.phase }, { on := 1, ground := Ground.phase }, { on := 2, ground := Ground.phase }, { on := 3, ground := Ground.phase }, { on := 4, ground := Ground.phase }, { on := 5, ground := Ground.phase }, { on := 6, ground := Ground.phase }, { on := 7, ground := Ground.phase }, { on := 8, ground := Ground.phase }, { on := 9, ground := Ground.phase }, { on := 10, ground := Ground.phase }, { on := 11, ground := Ground.phase }, { on := 12, ground := Ground.phase }, { on := 13, ground := Ground.phase }, { on := 14, ground := Ground.phase }, { on := 15, ground := Ground.phase }, { on := 16, ground := Ground.phase }, { on := 17, ground := Ground.phase }, { on := 18, ground := Ground.phase }, { on := 19, ground := Ground.textOnly Go.Departure.lateStores }], guard := none }) (v := .slice A5 n5 c5) rfl (by kernel_rfl) (by kernel_rfl) (by kernel_rfl) (fun _ _ _ h => h) (Or.inl ⟨by rfl, fun w' hSw => by ((try dsimp only at hSw); go_simp)⟩) (by assumption) ?_
              (try simp only [Act.put, List.setIfInBounds_toArray, List.set_cons_zero, List.set_cons_succ])
              refine wpAnyH_take (i := 21) (oi := { dst := some 11, op := Op.assign (Operand.tmp 63), type := 4, pos := "more.go:52", after := #[{ on := 19, ground := Ground.data }, { on := 20, ground := Ground.chain }, { on := 0, ground := Ground.phase }, { on := 1, ground := Ground.phase }, { on := 2, ground := Ground.phase }, { on := 3, ground := Ground.phase }, { on := 4, ground := Ground.phase }, { on := 5, ground := Ground.phase }, { on := 6, ground := Ground.phase }, { on := 7, ground := Ground.phase }, { on := 8, ground := Ground.phase }, { on := 9, ground := Ground.phase }, { on := 10, ground := Ground.phase }, { on := 11, ground := Ground.phase }, { on := 12, ground := Ground.phase }, { on := 13, ground := Ground.phase }, { on := 14, ground := Ground.phase }, { on := 15, ground := Ground.phase }, { on := 16, ground := Ground.phase }, { on := 17, ground := Ground.phase }, { on := 18, ground := Ground.phase }, { on := 19, ground := Ground.phase }, { on := 20, ground := Ground.phase }], guard := none }) (v := .bool gd) rfl (by kernel_rfl) (by kernel_rfl) (by kernel_rfl) (fun _ _ _ h => h) (Or.inl ⟨by rfl, fun w' hSw => by ((try dsimp only at hSw); go_simp)⟩) (by assumption) ?_
              (try simp only [Act.put, List.setIfInBounds_toArray, List.set_cons_zero, List.set_cons_succ])
              refine wpAnyH_done (by kernel_rfl) ?_ _
              refine NoPanic.normal ?_
              have HF := Lib.hid (HB2.out.trans (Below.mono hHeld.1 (Below.size HB2.out)))
              have HO5 := Lib.hid hown5
              clear hHeld HB2 hown5 hb5
              cases gd with
              | false =>
                go_wp2_with fail
                go_ret
                exact ⟨rfl, HF.out⟩
              | true =>
                have SA := Lib.hid (same_walk (c := c5) (d := c0) w5 (got_ces5 HO5.out HNQ.out HSZ.out) (HP.out w5 HF.out) HNQ.out HN.out HSZ.out.2)
                rw [sameB_no (HQ.out rfl)] at SA
                go_wp2_with fail
                refine SA.out.mono ?_; rintro e w6 ⟨rfl, q, rfl⟩
                have HB6 := Lib.hid (show Below w.heap.size w (w5.drewN q) from ⟨HF.out.os, HF.out.tape, HF.out.output, HF.out.size, HF.out.block⟩)
                go_wp2_with fail
                go_ret
                exact ⟨rfl, HB6.out⟩
            exact AllReadyH.nil
          exact AllReadyH.nil

/-! The row's step. -/
set_option maxRecDepth 100000 in
theorem lifted (os : Os) (started : os.Started) (H : Type) (enc : TypeId × Value → H) :
    ReturnsInHanded {} Try.checked os 6 .any (Rows.cellTurnedSpec.pre6 enc Try.prog Try.f6 Rows.cellTurnedRow.domain false) (Rows.cellTurnedSpec.post enc Try.prog Try.f6 false true false false) := by
  refine returnsInHanded_of_change (C := Try.checked) own started (by kernel_rfl) Try.func6
    (ChangeSpec.witness6 (enc := enc) (C := Try.checked) false ⟨#[], #[.slice none 0 0, .int .i64 0, .int .u8 0], []⟩ 8 (by kernel_rfl) (by kernel_rfl) (by kernel_rfl) (by kernel_rfl)) ?_
  intro W base args ds gs before hval0 hW hcnd _
  have hval : ∀ (j : Nat) t v, Try.f6.params[j]? = some t → args[j]? = some v → Value.okWide Try.prog W .any base t v := hval0
  have hW' := hW
  obtain ⟨p, q, hA0, hV, rfl, hfz, hnd⟩ := hW
  have hA : DataW.TrodAll enc Try.prog W 0 (fun _ => true) true Try.f6.params.toList args.toList ds p := hA0
  rw [Try.params6] at hA hval
  obtain ⟨v0, vs0, d0, ds0, p0, q0, hargs, rfl, rfl, h0, r0⟩ := trodAll_cons hA
  obtain ⟨v1, vs1, d1, ds1, p1, q1, rfl, rfl, rfl, h1, r1⟩ := trodAll_cons r0
  obtain ⟨v2, vs2, d2, ds2, p2, q2, rfl, rfl, rfl, h2, r2⟩ := trodAll_cons r1
  obtain ⟨rfl, rfl, rfl⟩ := trodAll_nil r2
  obtain rfl : args = #[v0, v1, v2] := by cases args; simp_all
  obtain ⟨rfl, rfl⟩ := trodVars_none hV
  obtain ⟨A0, n0, c0, rfl⟩ := okWide_slice Try.underlying22 (hval 0 22 v0 rfl rfl)
  have k0 := h0
  have lt0 : ∀ x ∈ p0, x.block < W.heap.size := by obtain ⟨m, hm⟩ := k0; exact DataW.trod_lt m _ _ _ hm
  obtain ⟨l0, w0, e0, f0⟩ := (by obtain ⟨fuel, hf⟩ := h0; exact ces_read hf (fun _ => rfl) : ∃ l, CesL W A0 n0 l ∧ n0 ≤ c0 ∧ c0 ≤ maxLen)
  obtain ⟨a1, rfl, rfl, rfl, w1⟩ := open_int Try.underlying3 (hval 1 3 v1 rfl rfl) h1
  obtain ⟨a2, rfl, rfl, rfl, w2⟩ := open_int Try.underlying5 (hval 2 5 v2 rfl rfl) h2
  clear hA0 hval0
  refine (walk A0 n0 c0 l0 a1 a2 W w0 (Nat.le_trans e0 f0) w1 w2).mono fun e W' ⟨he, bel⟩ => ?_
  subst he
  exact ⟨_, rfl, _, _, _, [], _, [], hW', trodAll_mk1 (shut_bool Try.underlying4 _), (trodAll_cons_mk (Below.trod laidOut (by kernel_rfl) (of_decide_eq_true (by kernel_rfl)) k0 bel lt0) (trodAll_cons_mk (shut_int Try.underlying3 w1) (trodAll_cons_mk (shut_int Try.underlying5 w2) trodAll_mk0))), rfl, bel.frame _, fun h => by cases h⟩

theorem over : Rows.cellTurnedRow.holds Try.pinned (OpenSpec.ofChange Rows.cellTurnedSpec) :=
  OpenClaim.holds_of_wide 6 Try.f6 rfl rfl rfl rfl rfl rfl rfl ⟨rfl, rfl, rfl, rfl, rfl⟩ rfl rfl rfl rfl rfl (by kernel_rfl) Try.func6 (by kernel_rfl)
    (of_decide_eq_true (by kernel_rfl)) (by unfold Func.isWrapper; first | (rw [if_pos (by decide +kernel)]; kernel_rfl) | (rw [if_neg (by decide +kernel)]; exact ⟨rfl, rfl⟩))
    (fun os started H enc _ => lifted os started H enc)

/-- The statement. -/
theorem proved : Rows.CellTurnedSaid := over
end Go.Proofs.Ytnbfieidledfmaa.cellTurned
