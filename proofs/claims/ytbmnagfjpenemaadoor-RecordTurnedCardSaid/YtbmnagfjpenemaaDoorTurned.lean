/- A record with one byte turned is another record, or none. The row speaks of the table of names as the program's text lays it; the card ties that to the text. -/
import Derived.Test.YtbmnagfjpenemaaDoorRows
import Derived.Test.YtbmnagfjpenemaaDoorCards
import Derived.Test.YtbmnagfjpenemaaDoorTie
import Derived.Test.YtbmnagfjpenemaaDoorTurn
import Derived.Test.YtbmnagfjpenemaaDoorLight
import Derived.Test.YtbmnagfjpenemaaDoorBase
import Derived.Deep.RegionHeld3
import Derived.Deep.QuietTactic
import Derived.LoopTactic
import Derived.StillTailTactics
import Derived.BigQuiet
import Derived.Deep.DeepCutAuto
import Derived.Deep.RegionLaw
import Derived.Deep.CutBlock
import Derived.Lib.Hide
import Derived.WalkKit
import Derived.ProofKit
import Derived.OpenShut
import Derived.ChangeOld
import Derived.Below
import Derived.Carry
import Derived.LaidMore
import Derived.SevenTiedAt
namespace Go.Proofs.YtbmnagfjpenemaaDoor.recordTurned
open Go.ChangeShapes Go.WideShapes Go.ChangeAt Go.RowKit
set_option linter.unusedVariables false
set_option linter.unusedSimpArgs false
set_option maxRecDepth 100000
theorem eqR_not {a b : Rc} (h : a ≠ b) : eqR a b = false := by
  cases e : eqR a b with
  | false => rfl
  | true => exact absurd ((eqR_iff a b).1 e) h

set_option maxRecDepth 100000 in
set_option maxHeartbeats 100000000 in
theorem walk (r : Rc) (h : Hd) (a1 a2 : Int) (w : World) (hr : RcM w.heap.size w r h) (w1 : (Lit.int .i64 a1).wf = true) (w2 : (Lit.int .u8 a2).wf = true) (hn : NamesAt w) :
    Calls Tryd.prog 6 #[rcv r h, .int .i64 a1, .int .u8 a2] w fun e w' => e = .returned (.bool true) ∧ Below w.heap.size w w' := by
  have HN := Lib.hid hn
  have A0 := Lib.hid (fun u (hb : Below w.heap.size w u) => alive_yes u (HN.out.kept hb))
  have LI := Lib.hid (fun u (hb : Below w.heap.size w u) => light_any r h u (hr.kept hb) hb.size)
  have PU := Lib.hid (fun u (hb : Below w.heap.size w u) => put_any r h u (hr.kept hb) hb.size)
  have HRM := Lib.hid hr
  unfold rcv at LI PU ⊢
  clear hr hn
  have HX := Lib.hid (Bx.new w #[.int .i64 r.kind, .int .i64 r.tx, .int .i64 r.prev, .int .i64 r.next, .string r.key, .bool r.had, .string r.old.k, .string r.old.v, .int .i64 r.old.b, .int .i64 r.old.z, .slice h.g.A h.g.n h.g.c, .slice h.p.A h.p.n h.p.c, .slice h.t.A h.t.n h.t.c, .slice h.d.A h.d.n h.d.c] 29)
  have HX0 := Lib.hid (Bx.new w #[.int .i64 r.kind, .int .i64 r.tx, .int .i64 r.prev, .int .i64 r.next, .string r.key, .bool r.had, .string r.old.k, .string r.old.v, .int .i64 r.old.b, .int .i64 r.old.z, .slice h.g.A h.g.n h.g.c, .slice h.p.A h.p.n h.p.c, .slice h.t.A h.t.n h.t.c, .slice h.d.A h.d.n h.d.c] 29)
  have HB := Lib.hid ((Below.refl w.heap.size w).alloc (Nat.le_refl _) (.cells #[.int .i64 r.kind, .int .i64 r.tx, .int .i64 r.prev, .int .i64 r.next, .string r.key, .bool r.had, .string r.old.k, .string r.old.v, .int .i64 r.old.b, .int .i64 r.old.z, .slice h.g.A h.g.n h.g.c, .slice h.p.A h.p.n h.p.c, .slice h.t.A h.t.n h.t.c, .slice h.d.A h.d.n h.d.c] 29))
  go_enter Tryd.func6, Tryd.ntmps6
  go_upto_region 1 with fail
  generalize w.alloc (.cells #[.int .i64 r.kind, .int .i64 r.tx, .int .i64 r.prev, .int .i64 r.next, .string r.key, .bool r.had, .string r.old.k, .string r.old.v, .int .i64 r.old.b, .int .i64 r.old.z, .slice h.g.A h.g.n h.g.c, .slice h.p.A h.p.n h.p.c, .slice h.t.A h.t.n h.t.c, .slice h.d.A h.d.n h.d.c] 29) = W at *
  have hcs := fun j => HX.out.cell j
  have x0 := hcs 0
  have x1 := hcs 1
  have x2 := hcs 2
  have x3 := hcs 3
  have x4 := hcs 4
  have x5 := hcs 5
  have x6 := hcs 6
  have x7 := hcs 7
  have x8 := hcs 8
  have x9 := hcs 9
  have x10 := hcs 10
  have x11 := hcs 11
  have x12 := hcs 12
  have x13 := hcs 13
  clear hcs
  simp only [List.getElem?_toArray, List.getElem?_cons_zero, List.getElem?_cons_succ] at x0 x1 x2 x3 x4 x5 x6 x7 x8 x9 x10 x11 x12 x13
  go_wp2_with fail
  refine (LI.out _ HB.out).mono ?_; rintro e w3 ⟨li, rfl, _, hb⟩
  have HB1 := Lib.hid (HB.out.trans (hb.mono HB.out.size))
  have HX1 := Lib.hid (HX.out.held hb)
  clear hb HX HB LI
  clear x0 x1 x2 x3 x4 x5 x6 x7 x8 x9 x10 x11 x12 x13
  cases li with
  | false =>
    go_wp2_with fail
    refine (A0.out _ HB1.out).mono ?_; rintro e w2 ⟨rfl, hb⟩
    have HBZ := Lib.hid (HB1.out.trans (hb.mono HB1.out.size))
    clear hb
    go_wp2_with fail
    go_ret
    exact ⟨rfl, HBZ.out⟩
  | true =>
    by_cases c1 : a2 = 0
    · subst c1
      go_wp2_with fail
      refine (A0.out _ HB1.out).mono ?_; rintro e w2 ⟨rfl, hb⟩
      have HBZ := Lib.hid (HB1.out.trans (hb.mono HB1.out.size))
      clear hb
      go_wp2_with fail
      go_ret
      exact ⟨rfl, HBZ.out⟩
    · have by0 : (a2 == 0) = false := beq_eq_false_iff_ne.2 c1
      go_wp2_with fail
      refine (A0.out _ HB1.out).mono ?_; rintro e w2' ⟨rfl, hb⟩
      have HB4 := Lib.hid (HB1.out.trans (hb.mono HB1.out.size))
      have HX4 := Lib.hid (HX1.out.held hb)
      clear hb HX1 HB1
      have hcs := fun j => HX4.out.cell j
      have x0 := hcs 0
      have x1 := hcs 1
      have x2 := hcs 2
      have x3 := hcs 3
      have x4 := hcs 4
      have x5 := hcs 5
      have x6 := hcs 6
      have x7 := hcs 7
      have x8 := hcs 8
      have x9 := hcs 9
      have x10 := hcs 10
      have x11 := hcs 11
      have x12 := hcs 12
      have x13 := hcs 13
      clear hcs
      simp only [List.getElem?_toArray, List.getElem?_cons_zero, List.getElem?_cons_succ] at x0 x1 x2 x3 x4 x5 x6 x7 x8 x9 x10 x11 x12 x13
      cases hz : rightR r with
      | false =>
        rw [hz] at PU
        go_wp2_with fail
        refine (PU.out _ HB4.out).mono ?_; rintro e w3' ⟨rfl, hb⟩
        have HB3 := Lib.hid (HB4.out.trans (hb.mono HB4.out.size))
        clear hb
        go_wp2_with fail
        go_ret
        exact ⟨rfl, HB3.out⟩
      | true =>
        have hps : putS r = encR r := by unfold putS; rw [hz]; rfl
        rw [hz, hps] at PU
        have hE := enc_small (rightR_iff.1 hz)
        have hpos := encR_pos r
        obtain ⟨y, hy⟩ := u8_of_int a2 w2
        have hy0 : y ≠ 0 := fun e => c1 (by rw [hy, e]; rfl)
        obtain ⟨bb, hbb⟩ : ∃ bb, bb = str (encR r) := ⟨_, rfl⟩
        have hbs : bb.size = (encR r).length := by rw [hbb, str_size]
        obtain ⟨k, hk, _, hk1, hk2, hk3, hk4⟩ := place a1 bb.size (by omega) (by omega)
        have hkl : k < (encR r).length := Nat.lt_of_lt_of_eq hk hbs
        obtain ⟨c0, hc0⟩ : ∃ c0, c0 = (encR r).getD k 0 := ⟨_, rfl⟩
        obtain ⟨c, hc⟩ : ∃ c, c = c0 ^^^ y := ⟨_, rfl⟩
        have HXO := Lib.hid (xor_u8 c0 y)
        rw [← hc] at HXO
        subst hy
        have hne := fun g => turned_ne (r := r) (k := k) hkl (c := c) (by rw [hc, ← hc0]; exact xor_ne c0 y hy0) g
        have hlen : (patch (encR r) k c).length ≤ 800000 := by rw [patch_length hkl]; omega
        have GT := Lib.hid (fun u => got_any (patch (encR r) k c) hlen u)
        have HGW := Lib.hid (got_w hlen)
        have HQ := Lib.hid (show getOk (patch (encR r) k c) = true → gotR (patch (encR r) k c) ≠ r from fun g => by unfold gotR; rw [if_pos g]; exact hne g)
        have IX := Lib.hid (run_ix bb k hk)
        rw [show bb.data.toList.getD k 0 = c0 from by rw [hc0, hbb, data_str]] at IX
        have SH := Lib.hid (run_slice_hi bb k (by omega))
        have SL := Lib.hid (fun W => (show (Instr.slice 9 (.string bb) (some (.int .i64 ((k : Int) + 1))) none none).run Tryd.prog W = .ok (.string (str (bb.data.toList.drop (k + 1)))) W from run_slice_lo bb (k + 1) (by omega) W))
        have HJ := Lib.hid (show str (bb.data.toList.take k) ++ str [c] ++ str (bb.data.toList.drop (k + 1)) = str (patch (encR r) k c) from by
          rw [str_join, str_join, hbb, data_str]
          unfold patch
          simp)
        have s1 : (str (bb.data.toList.take k)).size = k := by rw [str_size, List.length_take, size_data]; omega
        have s2 : (str [c]).size = 1 := rfl
        have s3 : (str (bb.data.toList.drop (k + 1))).size = bb.size - (k + 1) := by rw [str_size, List.length_drop, size_data]
        generalize str (patch (encR r) k c) = pb at *
        generalize getOk (patch (encR r) k c) = g at *
        generalize gotR (patch (encR r) k c) = r2 at *
        rw [← hbb] at PU
        generalize str (bb.data.toList.take k) = sA at *
        obtain ⟨sB, hsB⟩ : ∃ sB, sB = str [c] := ⟨_, rfl⟩
        have HSB := Lib.hid hsB
        rw [← hsB] at HJ s2
        generalize str (bb.data.toList.drop (k + 1)) = sC at *
        have s12 : ¬ 9223372036854775807 < sA.size + sB.size := by omega
        have s123 : ¬ 9223372036854775807 < (sA ++ sB).size + sC.size := by
          have : (sA ++ sB).size = sA.size + sB.size := ByteArray.size_append ..
          omega
        have HS134 := Lib.hid (⟨by omega, by omega⟩ : sA.size + sB.size ≤ 9223372036854775807 ∧ sA.size + sB.size + sC.size ≤ 9223372036854775807)
        have k1 : (0 : Int) ≤ (k : Int) := by omega
        have k2 : (k : Int) < (bb.size : Int) := by omega
        have k3 : ((bb.size : Int) == 0) = false := by rw [beq_eq_false_iff_ne]; omega
        have k4 : ¬ (bb.size : Int) = 0 := by omega
        have k5 : (bb.size : Int) ≤ 20000 := by omega
        have HK67 := Lib.hid (⟨IntWalk.i64_in _ (by omega), IntWalk.wrap64_in _ (by omega)⟩ : IntKind.i64.wrap ((k : Int) + 1) = (k : Int) + 1 ∧ wrap64 ((k : Int) + 1) = (k : Int) + 1)
        have HB0 := Lib.hid HB4.out.size
        clear hps hz hE hpos hy0 hbb hbs hkl hc0 hc hne hlen hsB s1 s2 s3 w1 w2 hk
        go_wp2_with fail
        refine (PU.out _ HB4.out).mono ?_; rintro e U ⟨rfl, hb⟩
        have HB2 := Lib.hid (HB4.out.trans (hb.mono HB4.out.size))
        have HX2 := Lib.hid (HX4.out.held hb)
        clear hb HX4 HB4 PU
        clear x0 x1 x2 x3 x4 x5 x6 x7 x8 x9 x10 x11 x12 x13
        go_upto_region 9 with fail
        obtain ⟨k6, k7⟩ := HK67.out
        obtain ⟨s13, s124⟩ := HS134.out
        refine wp_region_noPanic ?_
        refine wp_region_held_drew (S := Held U) (by kernel_rfl) ?_ (fun hHeld => ?_)
        · exact (Below.refl _ _).drew
        refine wpAnyH_take (i := 0) (oi := { dst := some 45, op := Op.move (Operand.tmp 7), type := 9, pos := "more.go:52", after := #[], guard := none }) (v := .string bb) rfl (by kernel_rfl) (by kernel_rfl) (by kernel_rfl) (fun _ _ _ h => h) (Or.inl ⟨by rfl, fun w' hSw => by ((try dsimp only at hSw); go_simp)⟩) (by assumption) ?_
        (try simp only [Act.put, List.setIfInBounds_toArray, List.set_cons_zero, List.set_cons_succ])
        refine wpAnyH_take (i := 1) (oi := { dst := some 46, op := Op.move (Operand.tmp 9), type := 3, pos := "more.go:52", after := #[], guard := none }) (v := .int .i64 k) rfl (by kernel_rfl) (by kernel_rfl) (by kernel_rfl) (fun _ _ _ h => h) (Or.inl ⟨by rfl, fun w' hSw => by ((try dsimp only at hSw); go_simp)⟩) (by assumption) ?_
        (try simp only [Act.put, List.setIfInBounds_toArray, List.set_cons_zero, List.set_cons_succ])
        refine wpAnyH_take (i := 2) (oi := { dst := some 47, op := Op.slice 9 (Operand.tmp 45) none (some (Operand.tmp 46)) none, type := 9, pos := "more.go:52", after := #[{ on := 0, ground := Ground.data }, { on := 1, ground := Ground.data }], guard := none }) (v := .string sA) rfl (by kernel_rfl) (by kernel_rfl) (by kernel_rfl) (fun _ _ _ h => h) (Or.inl ⟨by rfl, fun w' hSw => by ((try dsimp only at hSw); have := SH.out; go_simp)⟩) (by assumption) ?_
        (try simp only [Act.put, List.setIfInBounds_toArray, List.set_cons_zero, List.set_cons_succ])
        refine wpAnyH_take (i := 3) (oi := { dst := some 48, op := Op.move (Operand.tmp 7), type := 9, pos := "more.go:52", after := #[], guard := none }) (v := .string bb) rfl (by kernel_rfl) (by kernel_rfl) (by kernel_rfl) (fun _ _ _ h => h) (Or.inl ⟨by rfl, fun w' hSw => by ((try dsimp only at hSw); go_simp)⟩) (by assumption) ?_
        (try simp only [Act.put, List.setIfInBounds_toArray, List.set_cons_zero, List.set_cons_succ])
        refine wpAnyH_take (i := 4) (oi := { dst := some 49, op := Op.move (Operand.tmp 9), type := 3, pos := "more.go:52", after := #[], guard := none }) (v := .int .i64 k) rfl (by kernel_rfl) (by kernel_rfl) (by kernel_rfl) (fun _ _ _ h => h) (Or.inl ⟨by rfl, fun w' hSw => by ((try dsimp only at hSw); go_simp)⟩) (by assumption) ?_
        (try simp only [Act.put, List.setIfInBounds_toArray, List.set_cons_zero, List.set_cons_succ])
        refine wpAnyH_take (i := 5) (oi := { dst := some 50, op := Op.index 9 (Operand.tmp 48) (Operand.tmp 49), type := 5, pos := "more.go:52", after := #[{ on := 3, ground := Ground.data }, { on := 4, ground := Ground.data }], guard := none }) (v := .int .u8 (c0.toNat : Int)) rfl (by kernel_rfl) (by kernel_rfl) (by kernel_rfl) (fun _ _ _ h => h) (Or.inl ⟨by rfl, fun w' hSw => by ((try dsimp only at hSw); have := IX.out; go_simp)⟩) (by assumption) ?_
        (try simp only [Act.put, List.setIfInBounds_toArray, List.set_cons_zero, List.set_cons_succ])
        refine wpAnyH_take (i := 6) (oi := { dst := some 51, op := Op.move (Operand.tmp 2), type := 5, pos := "more.go:52", after := #[], guard := none }) (v := .int .u8 (y.toNat : Int)) rfl (by kernel_rfl) (by kernel_rfl) (by kernel_rfl) (fun _ _ _ h => h) (Or.inl ⟨by rfl, fun w' hSw => by ((try dsimp only at hSw); go_simp)⟩) (by assumption) ?_
        (try simp only [Act.put, List.setIfInBounds_toArray, List.set_cons_zero, List.set_cons_succ])
        refine wpAnyH_take (i := 7) (oi := { dst := some 52, op := Op.binOp BinOp.xor 5 (Operand.tmp 50) (Operand.tmp 51) 5, type := 5, pos := "more.go:52", after := #[{ on := 5, ground := Ground.data }, { on := 6, ground := Ground.data }], guard := none }) (v := .int .u8 (c.toNat : Int)) rfl (by kernel_rfl) (by kernel_rfl) (by kernel_rfl) (fun _ _ _ h => h) (Or.inl ⟨by rfl, fun w' hSw => by ((try dsimp only at hSw); have := HXO.out; go_simp)⟩) (by assumption) ?_
        (try simp only [Act.put, List.setIfInBounds_toArray, List.set_cons_zero, List.set_cons_succ])
        refine wpAnyH_take (i := 11) (oi := { dst := some 56, op := Op.move (Operand.tmp 7), type := 9, pos := "more.go:52", after := #[], guard := none }) (v := .string bb) rfl (by kernel_rfl) (by kernel_rfl) (by kernel_rfl) (fun _ _ _ h => h) (Or.inl ⟨by rfl, fun w' hSw => by ((try dsimp only at hSw); go_simp)⟩) (by assumption) ?_
        (try simp only [Act.put, List.setIfInBounds_toArray, List.set_cons_zero, List.set_cons_succ])
        refine wpAnyH_take (i := 12) (oi := { dst := some 57, op := Op.move (Operand.tmp 9), type := 3, pos := "more.go:52", after := #[], guard := none }) (v := .int .i64 k) rfl (by kernel_rfl) (by kernel_rfl) (by kernel_rfl) (fun _ _ _ h => h) (Or.inl ⟨by rfl, fun w' hSw => by ((try dsimp only at hSw); go_simp)⟩) (by assumption) ?_
        (try simp only [Act.put, List.setIfInBounds_toArray, List.set_cons_zero, List.set_cons_succ])
        refine wpAnyH_take (i := 13) (oi := { dst := some 58, op := Op.binOp BinOp.add 3 (Operand.tmp 57) (Operand.const (Value.int IntKind.i64 1)) 3, type := 3, pos := "more.go:52", after := #[{ on := 12, ground := Ground.data }], guard := none }) (v := .int .i64 ((k : Int) + 1)) rfl (by kernel_rfl) (by kernel_rfl) (by kernel_rfl) (fun _ _ _ h => h) (Or.inl ⟨by rfl, fun w' hSw => by ((try dsimp only at hSw); go_simp)⟩) (by assumption) ?_
        (try simp only [Act.put, List.setIfInBounds_toArray, List.set_cons_zero, List.set_cons_succ])
        refine wpAnyH_take (i := 14) (oi := { dst := some 59, op := Op.slice 9 (Operand.tmp 56) (some (Operand.tmp 58)) none none, type := 9, pos := "more.go:52", after := #[{ on := 11, ground := Ground.data }, { on := 13, ground := Ground.data }], guard := none }) (v := .string sC) rfl (by kernel_rfl) (by kernel_rfl) (by kernel_rfl) (fun _ _ _ h => h) (Or.inl ⟨by rfl, fun w' hSw => by ((try dsimp only at hSw); have := SL.out; go_simp)⟩) (by assumption) ?_
        (try simp only [Act.put, List.setIfInBounds_toArray, List.set_cons_zero, List.set_cons_succ])
        refine wpAnyH_ready (rs := [8, 20]) (by kernel_rfl) (by simp) ?_
        refine AllReadyH.cons (o := { dst := some 53, op := Op.buildSlice 44 1 #[(0, Operand.tmp 52)], type := 44, pos := "more.go:52", after := #[{ on := 7, ground := Ground.data }], guard := none }) rfl (fun K hK => ?_) ?_
        · go_simp
          refine hK.out _ _ ?_ (fun hHeld => ?_)
          · exact Held.step (by assumption) ((Below.refl _ _).alloc (Nat.le_refl _) _)
          clear hK K
          (try simp only [Act.put, List.setIfInBounds_toArray, List.set_cons_zero, List.set_cons_succ])
          have hRow : HR U (U.heap.size) c _ := ⟨hHeld, heap_alloc_new U (.cells #[.int .u8 (c.toNat : Int)] 5)⟩
          refine wpAnyH_mono (S' := HR U (U.heap.size) c) (fun r h => h.1) ?_
          replace hHeld := hRow
          clear hRow
          refine wpAnyH_take (i := 9) (oi := { dst := some 54, op := Op.convert 44 9 (Operand.tmp 53), type := 9, pos := "more.go:52", after := #[{ on := 8, ground := Ground.data }], guard := none }) (v := .string sB) rfl (by kernel_rfl) (by kernel_rfl) (by kernel_rfl) (fun _ _ _ h => h) (Or.inl ⟨by rfl, fun w' hSw => by ((try dsimp only at hSw); have := HR.convert hSw; rw [HSB.out]; go_simp)⟩) (by assumption) ?_
          (try simp only [Act.put, List.setIfInBounds_toArray, List.set_cons_zero, List.set_cons_succ])
          refine wpAnyH_take (i := 10) (oi := { dst := some 55, op := Op.binOp BinOp.add 9 (Operand.tmp 47) (Operand.tmp 54) 9, type := 9, pos := "more.go:52", after := #[{ on := 2, ground := Ground.data }, { on := 9, ground := Ground.data }], guard := none }) (v := .string (sA ++ sB)) rfl (by kernel_rfl) (by kernel_rfl) (by kernel_rfl) (fun _ _ _ h => h) (Or.inl ⟨by rfl, fun w' hSw => by ((try dsimp only at hSw); go_simp)⟩) (by assumption) ?_
          (try simp only [Act.put, List.setIfInBounds_toArray, List.set_cons_zero, List.set_cons_succ])
          refine wpAnyH_take (i := 15) (oi := { dst := some 60, op := Op.binOp BinOp.add 9 (Operand.tmp 55) (Operand.tmp 59) 9, type := 9, pos := "more.go:52", after := #[{ on := 10, ground := Ground.data }, { on := 14, ground := Ground.data }], guard := none }) (v := .string pb) rfl (by kernel_rfl) (by kernel_rfl) (by kernel_rfl) (fun _ _ _ h => h) (Or.inl ⟨by rfl, fun w' hSw => by ((try dsimp only at hSw); have hJ := HJ.out; go_simp)⟩) (by assumption) ?_
          (try simp only [Act.put, List.setIfInBounds_toArray, List.set_cons_zero, List.set_cons_succ])
          refine wpAnyH_ready (rs := [16, 20]) (by kernel_rfl) (by simp) ?_
          refine AllReadyH.cons (o := { dst := some 61, op := Op.call { callee := Callee.value (Operand.func 11), args := #[Operand.tmp 60], argTypes := #[9] }, type := 32, pos := "more.go:52", after := #[{ on := 15, ground := Ground.data }], guard := none }) rfl (fun K hK => ?_) ?_
          · go_simp; go_at_call 11; refine (GT.out _).mono ?_; rintro e w5 ⟨h2, rfl, hb5, ho5⟩
            refine hK.out _ _ ?_ (fun hHeld => ?_)
            · exact HR.step (by assumption) hb5
            clear hK K
            (try simp only [Act.put, List.setIfInBounds_toArray, List.set_cons_zero, List.set_cons_succ])
            have hPre := hHeld
            refine wpAnyH_take (i := 17) (oi := { dst := some 44, op := Op.move (Operand.tmp 61), type := 32, pos := "more.go:52", after := #[{ on := 16, ground := Ground.data }], guard := none }) (v := .tuple #[rcv r2 h2, .bool g]) rfl (by kernel_rfl) (by kernel_rfl) (by kernel_rfl) (fun _ _ _ h => h) (Or.inl ⟨by rfl, fun w' hSw => by ((try dsimp only at hSw); go_simp)⟩) (by assumption) ?_
            (try simp only [Act.put, List.setIfInBounds_toArray, List.set_cons_zero, List.set_cons_succ])
            refine wpAnyH_take (i := 18) (oi := { dst := some 62, op := Op.extract (Operand.tmp 44) 0, type := 29, pos := "more.go:52", after := #[{ on := 17, ground := Ground.data }], guard := none }) (v := rcv r2 h2) rfl (by kernel_rfl) (by kernel_rfl) (by kernel_rfl) (fun _ _ _ h => h) (Or.inl ⟨by rfl, fun w' hSw => by ((try dsimp only at hSw); go_simp)⟩) (by assumption) ?_
            (try simp only [Act.put, List.setIfInBounds_toArray, List.set_cons_zero, List.set_cons_succ])
            refine wpAnyH_take (i := 19) (oi := { dst := some 63, op := Op.extract (Operand.tmp 44) 1, type := 4, pos := "more.go:52", after := #[{ on := 17, ground := Ground.data }, { on := 21, ground := Ground.gcOnly Go.Departure.lateStores }], guard := none }) (v := .bool g) rfl (by kernel_rfl) (by kernel_rfl) (by kernel_rfl) (fun _ _ _ h => h) (Or.inl ⟨by rfl, fun w' hSw => by ((try dsimp only at hSw); go_simp)⟩) (by assumption) ?_
            (try simp only [Act.put, List.setIfInBounds_toArray, List.set_cons_zero, List.set_cons_succ])
            refine wpAnyH_ready (rs := [20]) (by kernel_rfl) (by simp) ?_
            refine AllReadyH.cons (o := { dst := some 10, op := Op.alloc 29, type := 0, pos := "more.go:52", after := #[], guard := none }) rfl (fun K hK => ?_) ?_
            · go_simp
              refine hK.out _ _ ?_ (fun hHeld => ?_)
              · exact HR.alloc (by assumption) _
              clear hK K
              (try simp only [Act.put, List.setIfInBounds_toArray, List.set_cons_zero, List.set_cons_succ])
              have hz5 : Bx (w5.alloc (.cells #[.int .i64 0, .int .i64 0, .int .i64 0, .int .i64 0, .string ⟨#[]⟩, .bool false, .string ⟨#[]⟩, .string ⟨#[]⟩, .int .i64 0, .int .i64 0, .slice none 0 0, .slice none 0 0, .slice none 0 0, .slice none 0 0] 29)) (w5.heap.size) #[.int .i64 0, .int .i64 0, .int .i64 0, .int .i64 0, .string ⟨#[]⟩, .bool false, .string ⟨#[]⟩, .string ⟨#[]⟩, .int .i64 0, .int .i64 0, .slice none 0 0, .slice none 0 0, .slice none 0 0, .slice none 0 0] 29 := Bx.new w5 _ _
              have HG5 := Lib.hid (Got.put (V := U) (hHeld).1 (hPre.1.size) hz5 (ho5.below ((Below.refl _ _).alloc (Nat.le_refl _) _)) HGW.out)
              refine wpAnyH_ready (rs := [21]) (by kernel_rfl) (by simp) ?_
              refine AllReadyH.cons (o := { dst := none, op := Op.store 29 (Operand.tmp 10) (Operand.tmp 62), type := 0, pos := "more.go:52", after := #[{ on := 20, ground := Ground.data }, { on := 18, ground := Ground.data }, { on := 16, ground := Ground.chain }, { on := 0, ground := Ground.phase }, { on := 1, ground := Ground.phase }, { on := 2, ground := Ground.phase }, { on := 3, ground := Ground.phase }, { on := 4, ground := Ground.phase }, { on := 5, ground := Ground.phase }, { on := 6, ground := Ground.phase }, { on := 7, ground := Ground.phase }, { on := 8, ground := Ground.phase }, { on := 9, ground := Ground.phase }, { on := 10, ground := Ground.phase }, { on := 11, ground := Ground.phase }, { on := 12, ground := Ground.phase }, { on := 13, ground := Ground.phase }, { on := 14, ground := Ground.phase }, { on := 15, ground := Ground.phase }, { on := 16, ground := Ground.phase }, { on := 17, ground := Ground.phase }, { on := 18, ground := Ground.phase }, { on := 19, ground := Ground.textOnly Go.Departure.lateStores }, { on := 20, ground := Ground.phase }], guard := none }) rfl (fun K hK => ?_) ?_
              · refine step_store_row rfl 29 (.tmp 10) (.tmp 62) rfl (w5.heap.size) (rcs r2 h2) rfl rfl 29 _ hz5 (by kernel_rfl) rfl (by simp [rcs, Value.oneCell']) ?_
                refine hK.out _ _ ?_ (fun hHeld => ?_)
                · exact HR.row hHeld (hPre.1.size) (Nat.ne_of_lt hPre.lt) _
                clear hK K
                (try simp only [Act.put, List.setIfInBounds_toArray, List.set_cons_zero, List.set_cons_succ])
                refine wpAnyH_take (i := 22) (oi := { dst := some 11, op := Op.assign (Operand.tmp 63), type := 4, pos := "more.go:52", after := #[{ on := 19, ground := Ground.data }, { on := 21, ground := Ground.chain }, { on := 0, ground := Ground.phase }, { on := 1, ground := Ground.phase }, { on := 2, ground := Ground.phase }, { on := 3, ground := Ground.phase }, { on := 4, ground := Ground.phase }, { on := 5, ground := Ground.phase }, { on := 6, ground := Ground.phase }, { on := 7, ground := Ground.phase }, { on := 8, ground := Ground.phase }, { on := 9, ground := Ground.phase }, { on := 10, ground := Ground.phase }, { on := 11, ground := Ground.phase }, { on := 12, ground := Ground.phase }, { on := 13, ground := Ground.phase }, { on := 14, ground := Ground.phase }, { on := 15, ground := Ground.phase }, { on := 16, ground := Ground.phase }, { on := 17, ground := Ground.phase }, { on := 18, ground := Ground.phase }, { on := 19, ground := Ground.phase }, { on := 20, ground := Ground.phase }, { on := 21, ground := Ground.phase }], guard := none }) (v := .bool g) rfl (by kernel_rfl) (by kernel_rfl) (by kernel_rfl) (fun _ _ _ h => h) (Or.inl ⟨by rfl, fun w' hSw => by ((try dsimp only at hSw); go_simp)⟩) (by assumption) ?_
                (try simp only [Act.put, List.setIfInBounds_toArray, List.set_cons_zero, List.set_cons_succ])
                refine wpAnyH_done (by kernel_rfl) ?_ _
                refine NoPanic.normal ?_
                clear hHeld
                generalize (w5.alloc (.cells #[.int .i64 0, .int .i64 0, .int .i64 0, .int .i64 0, .string ⟨#[]⟩, .bool false, .string ⟨#[]⟩, .string ⟨#[]⟩, .int .i64 0, .int .i64 0, .slice none 0 0, .slice none 0 0, .slice none 0 0, .slice none 0 0] 29)).setRow (w5.heap.size) (rcs r2 h2) = V at *
                have HF := Lib.hid (HB2.out.trans (Below.mono HG5.out.1 HB2.out.size))
                have HXF := Lib.hid (Bx.kept HX2.out HG5.out.1 HX2.out.lt)
                have SM := Lib.hid (samer_is r2 r h2 h V HG5.out.2.2 (HRM.out.kept HF.out) (Nat.le_refl _) HF.out.size)
                have YB := Lib.hid HG5.out.2.1
                clear HG5
                unfold rcs at YB
                unfold rcv at SM
                have hcs := fun j => HXF.out.cell j
                have x0 := hcs 0
                have x1 := hcs 1
                have x2 := hcs 2
                have x3 := hcs 3
                have x4 := hcs 4
                have x5 := hcs 5
                have x6 := hcs 6
                have x7 := hcs 7
                have x8 := hcs 8
                have x9 := hcs 9
                have x10 := hcs 10
                have x11 := hcs 11
                have x12 := hcs 12
                have x13 := hcs 13
                clear hcs
                simp only [List.getElem?_toArray, List.getElem?_cons_zero, List.getElem?_cons_succ] at x0 x1 x2 x3 x4 x5 x6 x7 x8 x9 x10 x11 x12 x13
                have hcs := fun j => YB.out.cell j
                have y0 := hcs 0
                have y1 := hcs 1
                have y2 := hcs 2
                have y3 := hcs 3
                have y4 := hcs 4
                have y5 := hcs 5
                have y6 := hcs 6
                have y7 := hcs 7
                have y8 := hcs 8
                have y9 := hcs 9
                have y10 := hcs 10
                have y11 := hcs 11
                have y12 := hcs 12
                have y13 := hcs 13
                clear hcs
                simp only [List.getElem?_toArray, List.getElem?_cons_zero, List.getElem?_cons_succ] at y0 y1 y2 y3 y4 y5 y6 y7 y8 y9 y10 y11 y12 y13
                cases g with
                | false =>
                  go_wp2_with fail
                  go_ret
                  exact ⟨rfl, HF.out⟩
                | true =>
                  have hq := eqR_not (HQ.out rfl)
                  rw [hq] at SM
                  go_wp2_with fail
                  refine SM.out.mono ?_; rintro e w9 ⟨rfl, hb⟩
                  have HF9 := Lib.hid (HF.out.trans (hb.mono HF.out.size))
                  clear hb
                  go_wp2_with fail
                  go_ret
                  exact ⟨rfl, HF9.out⟩
              exact AllReadyH.nil
            exact AllReadyH.nil
          refine AllReadyH.cons (o := { dst := some 10, op := Op.alloc 29, type := 0, pos := "more.go:52", after := #[], guard := none }) rfl (fun K hK => ?_) ?_
          · go_simp
            refine hK.out _ _ ?_ (fun hHeld => ?_)
            · exact HR.alloc (by assumption) _
            clear hK K
            (try simp only [Act.put, List.setIfInBounds_toArray, List.set_cons_zero, List.set_cons_succ])
            refine wpAnyH_ready (rs := [16]) (by kernel_rfl) (by simp) ?_
            refine AllReadyH.cons (o := { dst := some 61, op := Op.call { callee := Callee.value (Operand.func 11), args := #[Operand.tmp 60], argTypes := #[9] }, type := 32, pos := "more.go:52", after := #[{ on := 15, ground := Ground.data }], guard := none }) rfl (fun K hK => ?_) ?_
            · go_simp; go_at_call 11; refine (GT.out _).mono ?_; rintro e w5 ⟨h2, rfl, hb5, ho5⟩
              refine hK.out _ _ ?_ (fun hHeld => ?_)
              · exact HR.step (by assumption) hb5
              clear hK K
              (try simp only [Act.put, List.setIfInBounds_toArray, List.set_cons_zero, List.set_cons_succ])
              refine wpAnyH_take (i := 17) (oi := { dst := some 44, op := Op.move (Operand.tmp 61), type := 32, pos := "more.go:52", after := #[{ on := 16, ground := Ground.data }], guard := none }) (v := .tuple #[rcv r2 h2, .bool g]) rfl (by kernel_rfl) (by kernel_rfl) (by kernel_rfl) (fun _ _ _ h => h) (Or.inl ⟨by rfl, fun w' hSw => by ((try dsimp only at hSw); go_simp)⟩) (by assumption) ?_
              (try simp only [Act.put, List.setIfInBounds_toArray, List.set_cons_zero, List.set_cons_succ])
              refine wpAnyH_take (i := 18) (oi := { dst := some 62, op := Op.extract (Operand.tmp 44) 0, type := 29, pos := "more.go:52", after := #[{ on := 17, ground := Ground.data }], guard := none }) (v := rcv r2 h2) rfl (by kernel_rfl) (by kernel_rfl) (by kernel_rfl) (fun _ _ _ h => h) (Or.inl ⟨by rfl, fun w' hSw => by ((try dsimp only at hSw); go_simp)⟩) (by assumption) ?_
              (try simp only [Act.put, List.setIfInBounds_toArray, List.set_cons_zero, List.set_cons_succ])
              refine wpAnyH_take (i := 19) (oi := { dst := some 63, op := Op.extract (Operand.tmp 44) 1, type := 4, pos := "more.go:52", after := #[{ on := 17, ground := Ground.data }, { on := 21, ground := Ground.gcOnly Go.Departure.lateStores }], guard := none }) (v := .bool g) rfl (by kernel_rfl) (by kernel_rfl) (by kernel_rfl) (fun _ _ _ h => h) (Or.inl ⟨by rfl, fun w' hSw => by ((try dsimp only at hSw); go_simp)⟩) (by assumption) ?_
              (try simp only [Act.put, List.setIfInBounds_toArray, List.set_cons_zero, List.set_cons_succ])
              have hz5 : Bx w5 (U.heap.size + 1) #[.int .i64 0, .int .i64 0, .int .i64 0, .int .i64 0, .string ⟨#[]⟩, .bool false, .string ⟨#[]⟩, .string ⟨#[]⟩, .int .i64 0, .int .i64 0, .slice none 0 0, .slice none 0 0, .slice none 0 0, .slice none 0 0] 29 := (show Bx (((U.alloc (.cells #[.int .u8 (c.toNat : Int)] 5)).alloc (.cells #[.int .i64 0, .int .i64 0, .int .i64 0, .int .i64 0, .string ⟨#[]⟩, .bool false, .string ⟨#[]⟩, .string ⟨#[]⟩, .int .i64 0, .int .i64 0, .slice none 0 0, .slice none 0 0, .slice none 0 0, .slice none 0 0] 29)).drew) (U.heap.size + 1) _ _ from by rw [show U.heap.size + 1 = (U.alloc (.cells #[.int .u8 (c.toNat : Int)] 5)).heap.size by simp]; exact Bx.new (U.alloc (.cells #[.int .u8 (c.toNat : Int)] 5)) _ _).held hb5
              have HG5 := Lib.hid (Got.put (V := U) (hHeld).1 (by omega) hz5 ho5 HGW.out)
              refine wpAnyH_ready (rs := [21]) (by kernel_rfl) (by simp) ?_
              refine AllReadyH.cons (o := { dst := none, op := Op.store 29 (Operand.tmp 10) (Operand.tmp 62), type := 0, pos := "more.go:52", after := #[{ on := 20, ground := Ground.data }, { on := 18, ground := Ground.data }, { on := 16, ground := Ground.chain }, { on := 0, ground := Ground.phase }, { on := 1, ground := Ground.phase }, { on := 2, ground := Ground.phase }, { on := 3, ground := Ground.phase }, { on := 4, ground := Ground.phase }, { on := 5, ground := Ground.phase }, { on := 6, ground := Ground.phase }, { on := 7, ground := Ground.phase }, { on := 8, ground := Ground.phase }, { on := 9, ground := Ground.phase }, { on := 10, ground := Ground.phase }, { on := 11, ground := Ground.phase }, { on := 12, ground := Ground.phase }, { on := 13, ground := Ground.phase }, { on := 14, ground := Ground.phase }, { on := 15, ground := Ground.phase }, { on := 16, ground := Ground.phase }, { on := 17, ground := Ground.phase }, { on := 18, ground := Ground.phase }, { on := 19, ground := Ground.textOnly Go.Departure.lateStores }, { on := 20, ground := Ground.phase }], guard := none }) rfl (fun K hK => ?_) ?_
              · refine step_store_row rfl 29 (.tmp 10) (.tmp 62) rfl (U.heap.size + 1) (rcs r2 h2) rfl rfl 29 _ hz5 (by kernel_rfl) rfl (by simp [rcs, Value.oneCell']) ?_
                refine hK.out _ _ ?_ (fun hHeld => ?_)
                · exact HR.row hHeld (by omega) (by omega) _
                clear hK K
                (try simp only [Act.put, List.setIfInBounds_toArray, List.set_cons_zero, List.set_cons_succ])
                refine wpAnyH_take (i := 22) (oi := { dst := some 11, op := Op.assign (Operand.tmp 63), type := 4, pos := "more.go:52", after := #[{ on := 19, ground := Ground.data }, { on := 21, ground := Ground.chain }, { on := 0, ground := Ground.phase }, { on := 1, ground := Ground.phase }, { on := 2, ground := Ground.phase }, { on := 3, ground := Ground.phase }, { on := 4, ground := Ground.phase }, { on := 5, ground := Ground.phase }, { on := 6, ground := Ground.phase }, { on := 7, ground := Ground.phase }, { on := 8, ground := Ground.phase }, { on := 9, ground := Ground.phase }, { on := 10, ground := Ground.phase }, { on := 11, ground := Ground.phase }, { on := 12, ground := Ground.phase }, { on := 13, ground := Ground.phase }, { on := 14, ground := Ground.phase }, { on := 15, ground := Ground.phase }, { on := 16, ground := Ground.phase }, { on := 17, ground := Ground.phase }, { on := 18, ground := Ground.phase }, { on := 19, ground := Ground.phase }, { on := 20, ground := Ground.phase }, { on := 21, ground := Ground.phase }], guard := none }) (v := .bool g) rfl (by kernel_rfl) (by kernel_rfl) (by kernel_rfl) (fun _ _ _ h => h) (Or.inl ⟨by rfl, fun w' hSw => by ((try dsimp only at hSw); go_simp)⟩) (by assumption) ?_
                (try simp only [Act.put, List.setIfInBounds_toArray, List.set_cons_zero, List.set_cons_succ])
                refine wpAnyH_done (by kernel_rfl) ?_ _
                refine NoPanic.normal ?_
                clear hHeld
                generalize w5.setRow (U.heap.size + 1) (rcs r2 h2) = V at *
                have HF := Lib.hid (HB2.out.trans (Below.mono HG5.out.1 HB2.out.size))
                have HXF := Lib.hid (Bx.kept HX2.out HG5.out.1 HX2.out.lt)
                have SM := Lib.hid (samer_is r2 r h2 h V HG5.out.2.2 (HRM.out.kept HF.out) (Nat.le_refl _) HF.out.size)
                have YB := Lib.hid HG5.out.2.1
                clear HG5
                unfold rcs at YB
                unfold rcv at SM
                have hcs := fun j => HXF.out.cell j
                have x0 := hcs 0
                have x1 := hcs 1
                have x2 := hcs 2
                have x3 := hcs 3
                have x4 := hcs 4
                have x5 := hcs 5
                have x6 := hcs 6
                have x7 := hcs 7
                have x8 := hcs 8
                have x9 := hcs 9
                have x10 := hcs 10
                have x11 := hcs 11
                have x12 := hcs 12
                have x13 := hcs 13
                clear hcs
                simp only [List.getElem?_toArray, List.getElem?_cons_zero, List.getElem?_cons_succ] at x0 x1 x2 x3 x4 x5 x6 x7 x8 x9 x10 x11 x12 x13
                have hcs := fun j => YB.out.cell j
                have y0 := hcs 0
                have y1 := hcs 1
                have y2 := hcs 2
                have y3 := hcs 3
                have y4 := hcs 4
                have y5 := hcs 5
                have y6 := hcs 6
                have y7 := hcs 7
                have y8 := hcs 8
                have y9 := hcs 9
                have y10 := hcs 10
                have y11 := hcs 11
                have y12 := hcs 12
                have y13 := hcs 13
                clear hcs
                simp only [List.getElem?_toArray, List.getElem?_cons_zero, List.getElem?_cons_succ] at y0 y1 y2 y3 y4 y5 y6 y7 y8 y9 y10 y11 y12 y13
                cases g with
                | false =>
                  go_wp2_with fail
                  go_ret
                  exact ⟨rfl, HF.out⟩
                | true =>
                  have hq := eqR_not (HQ.out rfl)
                  rw [hq] at SM
                  go_wp2_with fail
                  refine SM.out.mono ?_; rintro e w9 ⟨rfl, hb⟩
                  have HF9 := Lib.hid (HF.out.trans (hb.mono HF.out.size))
                  clear hb
                  go_wp2_with fail
                  go_ret
                  exact ⟨rfl, HF9.out⟩
              exact AllReadyH.nil
            exact AllReadyH.nil
          exact AllReadyH.nil
        refine AllReadyH.cons (o := { dst := some 10, op := Op.alloc 29, type := 0, pos := "more.go:52", after := #[], guard := none }) rfl (fun K hK => ?_) ?_
        · go_simp
          refine hK.out _ _ ?_ (fun hHeld => ?_)
          · exact Held.step (by assumption) ((Below.refl _ _).alloc (Nat.le_refl _) _)
          clear hK K
          (try simp only [Act.put, List.setIfInBounds_toArray, List.set_cons_zero, List.set_cons_succ])
          refine wpAnyH_ready (rs := [8]) (by kernel_rfl) (by simp) ?_
          refine AllReadyH.cons (o := { dst := some 53, op := Op.buildSlice 44 1 #[(0, Operand.tmp 52)], type := 44, pos := "more.go:52", after := #[{ on := 7, ground := Ground.data }], guard := none }) rfl (fun K hK => ?_) ?_
          · go_simp
            refine hK.out _ _ ?_ (fun hHeld => ?_)
            · exact Held.step (by assumption) ((Below.refl _ _).alloc (Nat.le_refl _) _)
            clear hK K
            (try simp only [Act.put, List.setIfInBounds_toArray, List.set_cons_zero, List.set_cons_succ])
            have hRow : HR U (U.heap.size + 1) c _ := ⟨hHeld, by rw [show U.heap.size + 1 = (U.alloc (.cells #[.int .i64 0, .int .i64 0, .int .i64 0, .int .i64 0, .string ⟨#[]⟩, .bool false, .string ⟨#[]⟩, .string ⟨#[]⟩, .int .i64 0, .int .i64 0, .slice none 0 0, .slice none 0 0, .slice none 0 0, .slice none 0 0] 29)).heap.size by simp]; exact heap_alloc_new (U.alloc (.cells #[.int .i64 0, .int .i64 0, .int .i64 0, .int .i64 0, .string ⟨#[]⟩, .bool false, .string ⟨#[]⟩, .string ⟨#[]⟩, .int .i64 0, .int .i64 0, .slice none 0 0, .slice none 0 0, .slice none 0 0, .slice none 0 0] 29)) (.cells #[.int .u8 (c.toNat : Int)] 5)⟩
            refine wpAnyH_mono (S' := HR U (U.heap.size + 1) c) (fun r h => h.1) ?_
            replace hHeld := hRow
            clear hRow
            refine wpAnyH_take (i := 9) (oi := { dst := some 54, op := Op.convert 44 9 (Operand.tmp 53), type := 9, pos := "more.go:52", after := #[{ on := 8, ground := Ground.data }], guard := none }) (v := .string sB) rfl (by kernel_rfl) (by kernel_rfl) (by kernel_rfl) (fun _ _ _ h => h) (Or.inl ⟨by rfl, fun w' hSw => by ((try dsimp only at hSw); have := HR.convert hSw; rw [HSB.out]; go_simp)⟩) (by assumption) ?_
            (try simp only [Act.put, List.setIfInBounds_toArray, List.set_cons_zero, List.set_cons_succ])
            refine wpAnyH_take (i := 10) (oi := { dst := some 55, op := Op.binOp BinOp.add 9 (Operand.tmp 47) (Operand.tmp 54) 9, type := 9, pos := "more.go:52", after := #[{ on := 2, ground := Ground.data }, { on := 9, ground := Ground.data }], guard := none }) (v := .string (sA ++ sB)) rfl (by kernel_rfl) (by kernel_rfl) (by kernel_rfl) (fun _ _ _ h => h) (Or.inl ⟨by rfl, fun w' hSw => by ((try dsimp only at hSw); go_simp)⟩) (by assumption) ?_
            (try simp only [Act.put, List.setIfInBounds_toArray, List.set_cons_zero, List.set_cons_succ])
            refine wpAnyH_take (i := 15) (oi := { dst := some 60, op := Op.binOp BinOp.add 9 (Operand.tmp 55) (Operand.tmp 59) 9, type := 9, pos := "more.go:52", after := #[{ on := 10, ground := Ground.data }, { on := 14, ground := Ground.data }], guard := none }) (v := .string pb) rfl (by kernel_rfl) (by kernel_rfl) (by kernel_rfl) (fun _ _ _ h => h) (Or.inl ⟨by rfl, fun w' hSw => by ((try dsimp only at hSw); have hJ := HJ.out; go_simp)⟩) (by assumption) ?_
            (try simp only [Act.put, List.setIfInBounds_toArray, List.set_cons_zero, List.set_cons_succ])
            refine wpAnyH_ready (rs := [16]) (by kernel_rfl) (by simp) ?_
            refine AllReadyH.cons (o := { dst := some 61, op := Op.call { callee := Callee.value (Operand.func 11), args := #[Operand.tmp 60], argTypes := #[9] }, type := 32, pos := "more.go:52", after := #[{ on := 15, ground := Ground.data }], guard := none }) rfl (fun K hK => ?_) ?_
            · go_simp; go_at_call 11; refine (GT.out _).mono ?_; rintro e w5 ⟨h2, rfl, hb5, ho5⟩
              refine hK.out _ _ ?_ (fun hHeld => ?_)
              · exact HR.step (by assumption) hb5
              clear hK K
              (try simp only [Act.put, List.setIfInBounds_toArray, List.set_cons_zero, List.set_cons_succ])
              refine wpAnyH_take (i := 17) (oi := { dst := some 44, op := Op.move (Operand.tmp 61), type := 32, pos := "more.go:52", after := #[{ on := 16, ground := Ground.data }], guard := none }) (v := .tuple #[rcv r2 h2, .bool g]) rfl (by kernel_rfl) (by kernel_rfl) (by kernel_rfl) (fun _ _ _ h => h) (Or.inl ⟨by rfl, fun w' hSw => by ((try dsimp only at hSw); go_simp)⟩) (by assumption) ?_
              (try simp only [Act.put, List.setIfInBounds_toArray, List.set_cons_zero, List.set_cons_succ])
              refine wpAnyH_take (i := 18) (oi := { dst := some 62, op := Op.extract (Operand.tmp 44) 0, type := 29, pos := "more.go:52", after := #[{ on := 17, ground := Ground.data }], guard := none }) (v := rcv r2 h2) rfl (by kernel_rfl) (by kernel_rfl) (by kernel_rfl) (fun _ _ _ h => h) (Or.inl ⟨by rfl, fun w' hSw => by ((try dsimp only at hSw); go_simp)⟩) (by assumption) ?_
              (try simp only [Act.put, List.setIfInBounds_toArray, List.set_cons_zero, List.set_cons_succ])
              refine wpAnyH_take (i := 19) (oi := { dst := some 63, op := Op.extract (Operand.tmp 44) 1, type := 4, pos := "more.go:52", after := #[{ on := 17, ground := Ground.data }, { on := 21, ground := Ground.gcOnly Go.Departure.lateStores }], guard := none }) (v := .bool g) rfl (by kernel_rfl) (by kernel_rfl) (by kernel_rfl) (fun _ _ _ h => h) (Or.inl ⟨by rfl, fun w' hSw => by ((try dsimp only at hSw); go_simp)⟩) (by assumption) ?_
              (try simp only [Act.put, List.setIfInBounds_toArray, List.set_cons_zero, List.set_cons_succ])
              have hz5 : Bx w5 (U.heap.size) #[.int .i64 0, .int .i64 0, .int .i64 0, .int .i64 0, .string ⟨#[]⟩, .bool false, .string ⟨#[]⟩, .string ⟨#[]⟩, .int .i64 0, .int .i64 0, .slice none 0 0, .slice none 0 0, .slice none 0 0, .slice none 0 0] 29 := (Bx.kept (show Bx (U.alloc (.cells #[.int .i64 0, .int .i64 0, .int .i64 0, .int .i64 0, .string ⟨#[]⟩, .bool false, .string ⟨#[]⟩, .string ⟨#[]⟩, .int .i64 0, .int .i64 0, .slice none 0 0, .slice none 0 0, .slice none 0 0, .slice none 0 0] 29)) U.heap.size _ _ from Bx.new U _ _) (Below.drew ((Below.refl _ _).alloc (Nat.le_refl _) _)) (by simp)).held hb5
              have HG5 := Lib.hid (Got.put (V := U) (hHeld).1 (Nat.le_refl _) hz5 ho5 HGW.out)
              refine wpAnyH_ready (rs := [21]) (by kernel_rfl) (by simp) ?_
              refine AllReadyH.cons (o := { dst := none, op := Op.store 29 (Operand.tmp 10) (Operand.tmp 62), type := 0, pos := "more.go:52", after := #[{ on := 20, ground := Ground.data }, { on := 18, ground := Ground.data }, { on := 16, ground := Ground.chain }, { on := 0, ground := Ground.phase }, { on := 1, ground := Ground.phase }, { on := 2, ground := Ground.phase }, { on := 3, ground := Ground.phase }, { on := 4, ground := Ground.phase }, { on := 5, ground := Ground.phase }, { on := 6, ground := Ground.phase }, { on := 7, ground := Ground.phase }, { on := 8, ground := Ground.phase }, { on := 9, ground := Ground.phase }, { on := 10, ground := Ground.phase }, { on := 11, ground := Ground.phase }, { on := 12, ground := Ground.phase }, { on := 13, ground := Ground.phase }, { on := 14, ground := Ground.phase }, { on := 15, ground := Ground.phase }, { on := 16, ground := Ground.phase }, { on := 17, ground := Ground.phase }, { on := 18, ground := Ground.phase }, { on := 19, ground := Ground.textOnly Go.Departure.lateStores }, { on := 20, ground := Ground.phase }], guard := none }) rfl (fun K hK => ?_) ?_
              · refine step_store_row rfl 29 (.tmp 10) (.tmp 62) rfl (U.heap.size) (rcs r2 h2) rfl rfl 29 _ hz5 (by kernel_rfl) rfl (by simp [rcs, Value.oneCell']) ?_
                refine hK.out _ _ ?_ (fun hHeld => ?_)
                · exact HR.row hHeld (Nat.le_refl _) (by omega) _
                clear hK K
                (try simp only [Act.put, List.setIfInBounds_toArray, List.set_cons_zero, List.set_cons_succ])
                refine wpAnyH_take (i := 22) (oi := { dst := some 11, op := Op.assign (Operand.tmp 63), type := 4, pos := "more.go:52", after := #[{ on := 19, ground := Ground.data }, { on := 21, ground := Ground.chain }, { on := 0, ground := Ground.phase }, { on := 1, ground := Ground.phase }, { on := 2, ground := Ground.phase }, { on := 3, ground := Ground.phase }, { on := 4, ground := Ground.phase }, { on := 5, ground := Ground.phase }, { on := 6, ground := Ground.phase }, { on := 7, ground := Ground.phase }, { on := 8, ground := Ground.phase }, { on := 9, ground := Ground.phase }, { on := 10, ground := Ground.phase }, { on := 11, ground := Ground.phase }, { on := 12, ground := Ground.phase }, { on := 13, ground := Ground.phase }, { on := 14, ground := Ground.phase }, { on := 15, ground := Ground.phase }, { on := 16, ground := Ground.phase }, { on := 17, ground := Ground.phase }, { on := 18, ground := Ground.phase }, { on := 19, ground := Ground.phase }, { on := 20, ground := Ground.phase }, { on := 21, ground := Ground.phase }], guard := none }) (v := .bool g) rfl (by kernel_rfl) (by kernel_rfl) (by kernel_rfl) (fun _ _ _ h => h) (Or.inl ⟨by rfl, fun w' hSw => by ((try dsimp only at hSw); go_simp)⟩) (by assumption) ?_
                (try simp only [Act.put, List.setIfInBounds_toArray, List.set_cons_zero, List.set_cons_succ])
                refine wpAnyH_done (by kernel_rfl) ?_ _
                refine NoPanic.normal ?_
                clear hHeld
                generalize w5.setRow (U.heap.size) (rcs r2 h2) = V at *
                have HF := Lib.hid (HB2.out.trans (Below.mono HG5.out.1 HB2.out.size))
                have HXF := Lib.hid (Bx.kept HX2.out HG5.out.1 HX2.out.lt)
                have SM := Lib.hid (samer_is r2 r h2 h V HG5.out.2.2 (HRM.out.kept HF.out) (Nat.le_refl _) HF.out.size)
                have YB := Lib.hid HG5.out.2.1
                clear HG5
                unfold rcs at YB
                unfold rcv at SM
                have hcs := fun j => HXF.out.cell j
                have x0 := hcs 0
                have x1 := hcs 1
                have x2 := hcs 2
                have x3 := hcs 3
                have x4 := hcs 4
                have x5 := hcs 5
                have x6 := hcs 6
                have x7 := hcs 7
                have x8 := hcs 8
                have x9 := hcs 9
                have x10 := hcs 10
                have x11 := hcs 11
                have x12 := hcs 12
                have x13 := hcs 13
                clear hcs
                simp only [List.getElem?_toArray, List.getElem?_cons_zero, List.getElem?_cons_succ] at x0 x1 x2 x3 x4 x5 x6 x7 x8 x9 x10 x11 x12 x13
                have hcs := fun j => YB.out.cell j
                have y0 := hcs 0
                have y1 := hcs 1
                have y2 := hcs 2
                have y3 := hcs 3
                have y4 := hcs 4
                have y5 := hcs 5
                have y6 := hcs 6
                have y7 := hcs 7
                have y8 := hcs 8
                have y9 := hcs 9
                have y10 := hcs 10
                have y11 := hcs 11
                have y12 := hcs 12
                have y13 := hcs 13
                clear hcs
                simp only [List.getElem?_toArray, List.getElem?_cons_zero, List.getElem?_cons_succ] at y0 y1 y2 y3 y4 y5 y6 y7 y8 y9 y10 y11 y12 y13
                cases g with
                | false =>
                  go_wp2_with fail
                  go_ret
                  exact ⟨rfl, HF.out⟩
                | true =>
                  have hq := eqR_not (HQ.out rfl)
                  rw [hq] at SM
                  go_wp2_with fail
                  refine SM.out.mono ?_; rintro e w9 ⟨rfl, hb⟩
                  have HF9 := Lib.hid (HF.out.trans (hb.mono HF.out.size))
                  clear hb
                  go_wp2_with fail
                  go_ret
                  exact ⟨rfl, HF9.out⟩
              exact AllReadyH.nil
            exact AllReadyH.nil
          exact AllReadyH.nil
        exact AllReadyH.nil

/-! The row's step. -/
set_option maxRecDepth 100000 in
theorem lifted (os : Os) (started : os.Started) (H : Type) (enc : TypeId × Value → H) :
    ReturnsInHanded {} Tryd.checked os 6 .any (fun w args => (Rows.recordTurnedSpec.pre enc Tryd.prog Tryd.f6 [] false w args ∧ laidMetH Tryd.prog laidL w) ∧ sizedMet enc Tryd.prog Tryd.f6 (OpenSpec.ofChange Rows.recordTurnedSpec) false w args)
      (Rows.recordTurnedSpec.post enc Tryd.prog Tryd.f6 false true false false) := by
  refine returnsInHanded_of_change_and (C := Tryd.checked) (X := fun w _ => laidMetH Tryd.prog laidL w) (fun _ _ _ hh h => h.of_heap hh) own started (by kernel_rfl) Tryd.func6
    (ChangeSpec.witness_shaped (enc := enc) (C := Tryd.checked) (os := os) (X := fun w _ => laidMetH Tryd.prog laidL w) false (World.doorLaid Tryd.prog 400 os) #[.agg #[.int .i64 0, .int .i64 0, .int .i64 0, .int .i64 0, .string ByteArray.empty, .bool false, .string ByteArray.empty, .string ByteArray.empty, .int .i64 0, .int .i64 0, .slice none 0 0, .slice none 0 0, .slice none 0 0, .slice none 0 0], .int .i64 0, .int .u8 0] 8 rfl (World.shaped_of_RefB (by kernel_rfl) (by kernel_rfl)) (by kernel_rfl) (by kernel_rfl) (by kernel_rfl) (door_met os _)) ?_
  intro W base args ds gs before hval0 hW _ _ hL _
  have hval : ∀ (j : Nat) t v, Tryd.f6.params[j]? = some t → args[j]? = some v → Value.okWide Tryd.prog W .any base t v := hval0
  have hW' := hW
  obtain ⟨p, q, hA0, hV, rfl, hfz, hnd⟩ := hW
  have hA : DataW.TrodAll enc Tryd.prog W 0 (fun _ => true) true Tryd.f6.params.toList args.toList ds p := hA0
  rw [Tryd.params6] at hA hval
  obtain ⟨v0, vs0, d0, ds0, p0, q0, hargs, rfl, rfl, h0, r0⟩ := trodAll_cons hA
  obtain ⟨v1, vs1, d1, ds1, p1, q1, rfl, rfl, rfl, h1, r1⟩ := trodAll_cons r0
  obtain ⟨v2, vs2, d2, ds2, p2, q2, rfl, rfl, rfl, h2, r2⟩ := trodAll_cons r1
  obtain ⟨rfl, rfl, rfl⟩ := trodAll_nil r2
  obtain rfl : args = #[v0, v1, v2] := by cases args; simp_all
  obtain ⟨rfl, rfl⟩ := trodVars_none hV
  have k0 := h0
  have lt0 : ∀ x ∈ p0, x.block < W.heap.size := by obtain ⟨m, hm⟩ := k0; exact DataW.trod_lt m _ _ _ hm
  obtain ⟨r0r, r0h, rfl, r0m⟩ := rec_read (hval 0 29 v0 rfl rfl) h0 (fun _ => rfl)
  obtain ⟨a1, rfl, rfl, rfl, w1⟩ := open_int Tryd.underlying3 (hval 1 3 v1 rfl rfl) h1
  obtain ⟨a2, rfl, rfl, rfl, w2⟩ := open_int Tryd.underlying5 (hval 2 5 v2 rfl rfl) h2
  clear hA0 hval0
  refine (walk r0r r0h a1 a2 W r0m w1 w2 (of_laid hL)).mono fun e W' ⟨he, bel⟩ => ?_
  subst he
  exact ⟨_, rfl, _, _, _, [], _, [], hW', trodAll_mk1 (shut_bool Tryd.underlying4 _), (trodAll_cons_mk (Below.trod laidOut (by kernel_rfl) (of_decide_eq_true (by kernel_rfl)) k0 bel lt0) (trodAll_cons_mk (shut_int Tryd.underlying3 w1) (trodAll_cons_mk (shut_int Tryd.underlying5 w2) trodAll_mk0))), rfl, bel.frame _, fun h => by cases h⟩

/-- The row's statement. -/
theorem over : Rows.RecordTurnedSaid :=
  OpenClaim.holds_of_wide 6 Tryd.f6 rfl rfl rfl rfl rfl rfl rfl ⟨rfl, rfl, rfl, rfl, rfl⟩ rfl rfl rfl rfl rfl (by kernel_rfl) Tryd.func6 (by kernel_rfl)
    (of_decide_eq_true (by kernel_rfl)) (by unfold Func.isWrapper; first | (rw [if_pos (by decide +kernel)]; kernel_rfl) | (rw [if_neg (by decide +kernel)]; exact ⟨rfl, rfl⟩))
    (fun os started H enc _ => lifted os started H enc)

/-- The card. -/
theorem proved : Rows.RecordTurnedCardSaid :=
  Claim7.holds_tied_plain_at .later [] [.data] true Rows.recordTurnedCard.stood.harness false
    over (fun _ h => by cases h) (by kernel_rfl) (fun _ h => by cases h) recordTurned_row_tie rfl ⟨rfl, rfl⟩ (by kernel_rfl) rfl
    (fun f fn hf hfn => by
      obtain rfl : f = 6 := Option.some.inj ((show Tryd.prog.funcNamed "honeycomb/honeycomblaw12.RecordTurned" = some 6 by kernel_rfl).symm.trans hf) |>.symm
      obtain rfl : fn = Tryd.f6 := (Option.some.inj (Tryd.func6.symm.trans hfn)).symm
      exact ⟨by kernel_rfl, fun j t ht => by
        rw [Tryd.params6] at ht
        have hm : t ∈ [29, 3, 5] := by simpa using Array.mem_of_getElem? ht
        have hall : ([29, 3, 5].all fun u => !Tryd.prog.wantsStandIn u) = true := by kernel_rfl
        exact (show Tryd.prog.wantsStandIn t = false by simpa using List.all_eq_true.1 hall t hm)⟩)
    (by kernel_rfl)
end Go.Proofs.YtbmnagfjpenemaaDoor.recordTurned
