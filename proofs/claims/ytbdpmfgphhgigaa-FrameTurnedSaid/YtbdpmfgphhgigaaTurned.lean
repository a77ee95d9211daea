/- A byte that is turned makes a sector another one, or none. -/
import Derived.Test.YtbdpmfgphhgigaaRows
import Derived.Test.YtbdpmfgphhgigaaTurn
import Derived.Deep.RegionHeld3
import Derived.Deep.QuietTactic
import Derived.LoopTactic
import Derived.StillTailTactics
import Derived.BigQuiet
import Derived.Deep.DeepCutAuto
import Derived.Deep.RegionLaw
import Derived.Deep.CutBlock
import Derived.Lib.Hide
import Derived.WalkKit
import Derived.ProofKit
import Derived.OpenShut
import Derived.ChangeOld
import Derived.Below
import Derived.Carry
namespace Go.Proofs.Ytbdpmfgphhgigaa.frameTurned
open Go.ChangeShapes Go.WideShapes Go.ChangeAt Go.RowKit
set_option linter.unusedVariables false

theorem own : ownKnob Try.prog.godebug = none := by kernel_rfl
theorem laidOut : laidOutB Try.prog = true := by kernel_rfl

set_option linter.unusedSimpArgs false

set_option maxRecDepth 100000 in
set_option maxHeartbeats 100000000 in
theorem walk (x : Sx) (a1 a2 : Int) (w : World) (wa : (Lit.int .i64 x.ep).wf = true) (wb : (Lit.int .i64 x.ix).wf = true) (wc : x.pl.length ≤ maxLen) (w1 : (Lit.int .i64 a1).wf = true) (w2 : (Lit.int .u8 a2).wf = true) :
    Calls Try.prog 8 #[sv x, .int .i64 a1, .int .u8 a2] w fun e w' => e = .returned (.bool true) ∧ Below w.heap.size w w' := by
  have A0 := Lib.hid alive_yes
  have PU := Lib.hid (fun u => put_any x (wf_rng wa) wc u)
  have HS := Lib.hid (Sb.new w x)
  have HB := Lib.hid ((Below.refl w.heap.size w).alloc (Nat.le_refl _) (.cells #[.int .i64 x.ep, .int .i64 x.ix, .bool x.fr, .string (str x.pl)] 40))
  have hsz : (str x.pl).size = x.pl.length := rfl
  unfold PutP sv at PU
  unfold sv
  go_enter Try.func8, Try.ntmps8
  go_upto_region 1 with fail
  generalize w.alloc (.cells #[.int .i64 x.ep, .int .i64 x.ix, .bool x.fr, .string (str x.pl)] 40) = W at *
  obtain ⟨x0, x1, x2, x3⟩ := HS.out.cells
  by_cases c0 : 100 < x.pl.length
  · have c0' : (100 : Int) < (x.pl.length : Int) := by omega
    as_aux_lemma =>
      go_wp2_with fail
      refine (A0.out _).mono ?_; rintro e w2 ⟨rfl, hb⟩
      have HBZ := Lib.hid (HB.out.trans (hb.mono HB.out.size))
      clear hb
      go_wp2_with fail
      go_ret
      exact ⟨by trivial, HBZ.out⟩
  · have c0' : ¬ (100 : Int) < (x.pl.length : Int) := by omega
    by_cases c1 : a2 = 0
    · subst c1
      as_aux_lemma =>
        go_wp2_with fail
        refine (A0.out _).mono ?_; rintro e w2 ⟨rfl, hb⟩
        have HBZ := Lib.hid (HB.out.trans (hb.mono HB.out.size))
        clear hb
        go_wp2_with fail
        go_ret
        exact ⟨by trivial, HBZ.out⟩
    · have by0 : (a2 == 0) = false := beq_eq_false_iff_ne.2 c1
      go_wp2_with fail
      refine (A0.out _).mono ?_; rintro e w2' ⟨rfl, hb⟩
      have HB4 := Lib.hid (HB.out.trans (hb.mono HB.out.size))
      have HX4 := Lib.hid (HS.out.held hb)
      clear hb HS HB x0 x1 x2 x3
      obtain ⟨x0, x1, x2, x3⟩ := HX4.out.cells
      cases hz : okX x with
      | false =>
        rw [hz, putX_no hz] at PU
        go_wp2_with fail
        refine (PU.out _).mono ?_; rintro e w3' ⟨rfl, hb⟩
        have HB3 := Lib.hid (HB4.out.trans (hb.mono HB4.out.size))
        clear hb
        go_wp2_with fail
        go_ret
        exact ⟨by trivial, HB3.out⟩
      | true =>
        rw [hz, putX_yes hz] at PU
        have hE := encX_length (okX_iff.1 hz).2.2.2.2.2
        obtain ⟨y, hy⟩ := u8_of_int a2 w2
        have hy0 : y ≠ 0 := fun e => c1 (by rw [hy, e]; rfl)
        obtain ⟨bb, hbb⟩ : ∃ bb, bb = str (encX x) := ⟨_, rfl⟩
        have hbs : bb.size = 64 := by rw [hbb, str_size]; exact hE
        obtain ⟨k, hk, hkq⟩ := place64 a1
        have HKQ := Lib.hid hkq
        clear hkq
        have hkl : k < (encX x).length := by rw [hE]; exact hk
        obtain ⟨c0, hc0⟩ : ∃ c0, c0 = (encX x).getD k 0 := ⟨_, rfl⟩
        obtain ⟨c, hc⟩ : ∃ c, c = c0 ^^^ y := ⟨_, rfl⟩
        have HXO := Lib.hid (xor_u8 c0 y)
        rw [← hc] at HXO
        subst hy
        have hne := fun g => turned_ne hz (k := k) hkl (c := c) (by rw [hc, ← hc0]; exact xor_ne c0 y hy0) g
        have hlen : (patch (encX x) k c).length ≤ maxLen := by rw [patch_length hkl, hE]; unfold maxLen; omega
        have GT := Lib.hid (fun u => get_any (patch (encX x) k c) hlen u)
        have G2 := Lib.hid (fun u => get_any (encX x) (by rw [hE]; unfold maxLen; omega) u)
        unfold GetP sv at GT G2
        rw [gotX_enc hz, getOkX_enc hz, ← hbb] at G2
        rw [← hbb] at PU
        have HQ := Lib.hid hne
        have IX := Lib.hid (run_ixs bb k (by rw [hbs]; exact hk))
        rw [show bb.data.toList.getD k 0 = c0 from by rw [hc0, hbb, data_str]] at IX
        have SH := Lib.hid (run_slice_hi bb k (by omega))
        have SL := Lib.hid (fun W => run_slice_lo bb (k + 1) (by omega) W)
        rw [show ((k + 1 : Nat) : Int) = (k : Int) + 1 by omega] at SL
        have HJ := Lib.hid (show str (bb.data.toList.take k) ++ str [c] ++ str (bb.data.toList.drop (k + 1)) = str (patch (encX x) k c) from by
          rw [str_join, str_join, hbb, data_str]
          unfold patch
          simp)
        have s1 : (str (bb.data.toList.take k)).size = k := by rw [str_size, List.length_take, size_data]; omega
        have s2 : (str [c]).size = 1 := rfl
        have s3 : (str (bb.data.toList.drop (k + 1))).size = 64 - (k + 1) := by rw [str_size, List.length_drop, size_data, hbs]
        obtain ⟨sA, hsA⟩ : ∃ s, s = str (bb.data.toList.take k) := ⟨_, rfl⟩
        obtain ⟨sB, hsB⟩ : ∃ s, s = str [c] := ⟨_, rfl⟩
        obtain ⟨sC, hsC⟩ : ∃ s, s = str (bb.data.toList.drop (k + 1)) := ⟨_, rfl⟩
        obtain ⟨pb, hpb⟩ : ∃ s, s = str (patch (encX x) k c) := ⟨_, rfl⟩
        rw [← hsA] at s1 SH HJ
        rw [← hsB] at s2 HJ
        rw [← hsC] at s3 SL HJ
        rw [← hpb] at GT HJ
        have HSB := Lib.hid hsB.symm
        have b0 : (0 : Int) ≤ (k : Int) := by omega
        have b1 : (k : Int) < 64 := by omega
        have b2 : (k : Int) ≤ 64 := by omega
        obtain ⟨e1, e2⟩ := near64 k hk
        obtain ⟨j1, j2, j3⟩ := join64 hk s1 s2 s3
        have HS123 := Lib.hid (And.intro s1 (And.intro s2 s3))
        clear hsA hsB hsC hpb s1 s2 s3 hlen hne hkl hE hy0 hc hc0 wc
        obtain ⟨s2, hs2⟩ : ∃ s2, s2 = gotX (patch (encX x) k c) := ⟨_, rfl⟩
        obtain ⟨g, hg⟩ : ∃ g, g = getOkX (patch (encX x) k c) := ⟨_, rfl⟩
        rw [← hs2, ← hg] at GT HQ
        clear hs2 hg hbb
        go_wp2_with fail
        refine (PU.out _).mono ?_; rintro e U ⟨rfl, hb⟩
        have HB2 := Lib.hid (HB4.out.trans (hb.mono HB4.out.size))
        have HX2 := Lib.hid (HX4.out.held hb)
        clear hb x0 x1 x2 x3 HX4 HB4
        obtain ⟨hk1, hk2, hk3, hk4⟩ := HKQ.out
        clear HKQ
        go_upto_region 9 with fail
        go_cut [10, 11] (fun u10 u11 wx => ∃ B2, u10 = .pointer (some ⟨B2, 0, none⟩) ∧ u11 = .bool g ∧ Hid (Sb wx B2 s2 ∧ Sb wx w.heap.size x ∧ Below w.heap.size w wx))
        case first =>
          have hk5 := hk4
          refine wp_region_noPanic ?_
          refine wp_region_held_drew (S := Held U) (by kernel_rfl) ?_ (fun hHeld => ?_)
          · exact (Below.refl _ _).drew
          refine wpAnyH_take (i := 0) (oi := { dst := some 50, op := Op.move (Operand.tmp 7), type := 9, pos := "more.go:86", after := #[], guard := none }) (v := .string bb) rfl (by kernel_rfl) (by kernel_rfl) (by kernel_rfl) (fun _ _ _ h => h) (Or.inl ⟨by rfl, fun w' hSw => by ((try dsimp only at hSw); go_simp)⟩) (by assumption) ?_
          (try simp only [Act.put, List.setIfInBounds_toArray, List.set_cons_zero, List.set_cons_succ])
          refine wpAnyH_take (i := 1) (oi := { dst := some 51, op := Op.move (Operand.tmp 9), type := 3, pos := "more.go:86", after := #[], guard := none }) (v := .int .i64 k) rfl (by kernel_rfl) (by kernel_rfl) (by kernel_rfl) (fun _ _ _ h => h) (Or.inl ⟨by rfl, fun w' hSw => by ((try dsimp only at hSw); go_simp)⟩) (by assumption) ?_
          (try simp only [Act.put, List.setIfInBounds_toArray, List.set_cons_zero, List.set_cons_succ])
          refine wpAnyH_take (i := 2) (oi := { dst := some 52, op := Op.slice 9 (Operand.tmp 50) none (some (Operand.tmp 51)) none, type := 9, pos := "more.go:86", after := #[{ on := 0, ground := Ground.data }, { on := 1, ground := Ground.data }], guard := none }) (v := .string sA) rfl (by kernel_rfl) (by kernel_rfl) (by kernel_rfl) (fun _ _ _ h => h) (Or.inl ⟨by rfl, fun w' hSw => by ((try dsimp only at hSw); have := SH.out; go_simp)⟩) (by assumption) ?_
          (try simp only [Act.put, List.setIfInBounds_toArray, List.set_cons_zero, List.set_cons_succ])
          refine wpAnyH_take (i := 3) (oi := { dst := some 53, op := Op.move (Operand.tmp 7), type := 9, pos := "more.go:86", after := #[], guard := none }) (v := .string bb) rfl (by kernel_rfl) (by kernel_rfl) (by kernel_rfl) (fun _ _ _ h => h) (Or.inl ⟨by rfl, fun w' hSw => by ((try dsimp only at hSw); go_simp)⟩) (by assumption) ?_
          (try simp only [Act.put, List.setIfInBounds_toArray, List.set_cons_zero, List.set_cons_succ])
          refine wpAnyH_take (i := 4) (oi := { dst := some 54, op := Op.move (Operand.tmp 9), type := 3, pos := "more.go:86", after := #[], guard := none }) (v := .int .i64 k) rfl (by kernel_rfl) (by kernel_rfl) (by kernel_rfl) (fun _ _ _ h => h) (Or.inl ⟨by rfl, fun w' hSw => by ((try dsimp only at hSw); go_simp)⟩) (by assumption) ?_
          (try simp only [Act.put, List.setIfInBounds_toArray, List.set_cons_zero, List.set_cons_succ])
          refine wpAnyH_take (i := 5) (oi := { dst := some 55, op := Op.index 9 (Operand.tmp 53) (Operand.tmp 54), type := 5, pos := "more.go:86", after := #[{ on := 3, ground := Ground.data }, { on := 4, ground := Ground.data }], guard := none }) (v := .int .u8 (c0.toNat : Int)) rfl (by kernel_rfl) (by kernel_rfl) (by kernel_rfl) (fun _ _ _ h => h) (Or.inl ⟨by rfl, fun w' hSw => by ((try dsimp only at hSw); have := IX.out; go_simp)⟩) (by assumption) ?_
          (try simp only [Act.put, List.setIfInBounds_toArray, List.set_cons_zero, List.set_cons_succ])
          refine wpAnyH_take (i := 6) (oi := { dst := some 56, op := Op.move (Operand.tmp 2), type := 5, pos := "more.go:86", after := #[], guard := none }) (v := .int .u8 (y.toNat : Int)) rfl (by kernel_rfl) (by kernel_rfl) (by kernel_rfl) (fun _ _ _ h => h) (Or.inl ⟨by rfl, fun w' hSw => by ((try dsimp only at hSw); go_simp)⟩) (by assumption) ?_
          (try simp only [Act.put, List.setIfInBounds_toArray, List.set_cons_zero, List.set_cons_succ])
          refine wpAnyH_take (i := 7) (oi := { dst := some 57, op := Op.binOp BinOp.xor 5 (Operand.tmp 55) (Operand.tmp 56) 5, type := 5, pos := "more.go:86", after := #[{ on := 5, ground := Ground.data }, { on := 6, ground := Ground.data }], guard := none }) (v := .int .u8 (c.toNat : Int)) rfl (by kernel_rfl) (by kernel_rfl) (by kernel_rfl) (fun _ _ _ h => h) (Or.inl ⟨by rfl, fun w' hSw => by ((try dsimp only at hSw); have := HXO.out; go_simp)⟩) (by assumption) ?_
          (try simp only [Act.put, List.setIfInBounds_toArray, List.set_cons_zero, List.set_cons_succ])
          refine wpAnyH_take (i := 11) (oi := { dst := some 61, op := Op.move (Operand.tmp 7), type := 9, pos := "more.go:86", after := #[], guard := none }) (v := .string bb) rfl (by kernel_rfl) (by kernel_rfl) (by kernel_rfl) (fun _ _ _ h => h) (Or.inl ⟨by rfl, fun w' hSw => by ((try dsimp only at hSw); go_simp)⟩) (by assumption) ?_
          (try simp only [Act.put, List.setIfInBounds_toArray, List.set_cons_zero, List.set_cons_succ])
          refine wpAnyH_take (i := 12) (oi := { dst := some 62, op := Op.move (Operand.tmp 9), type := 3, pos := "more.go:86", after := #[], guard := none }) (v := .int .i64 k) rfl (by kernel_rfl) (by kernel_rfl) (by kernel_rfl) (fun _ _ _ h => h) (Or.inl ⟨by rfl, fun w' hSw => by ((try dsimp only at hSw); go_simp)⟩) (by assumption) ?_
          (try simp only [Act.put, List.setIfInBounds_toArray, List.set_cons_zero, List.set_cons_succ])
          refine wpAnyH_take (i := 13) (oi := { dst := some 63, op := Op.binOp BinOp.add 3 (Operand.tmp 62) (Operand.const (Value.int IntKind.i64 1)) 3, type := 3, pos := "more.go:86", after := #[{ on := 12, ground := Ground.data }], guard := none }) (v := .int .i64 ((k : Int) + 1)) rfl (by kernel_rfl) (by kernel_rfl) (by kernel_rfl) (fun _ _ _ h => h) (Or.inl ⟨by rfl, fun w' hSw => by ((try dsimp only at hSw); go_simp)⟩) (by assumption) ?_
          (try simp only [Act.put, List.setIfInBounds_toArray, List.set_cons_zero, List.set_cons_succ])
          refine wpAnyH_take (i := 14) (oi := { dst := some 64, op := Op.slice 9 (Operand.tmp 61) (some (Operand.tmp 63)) none none, type := 9, pos := "more.go:86", after := #[{ on := 11, ground := Ground.data }, { on := 13, ground := Ground.data }], guard := none }) (v := .string sC) rfl (by kernel_rfl) (by kernel_rfl) (by kernel_rfl) (fun _ _ _ h => h) (Or.inl ⟨by rfl, fun w' hSw => by ((try dsimp only at hSw); have := SL.out; go_simp)⟩) (by assumption) ?_
          (try simp only [Act.put, List.setIfInBounds_toArray, List.set_cons_zero, List.set_cons_succ])
          refine wpAnyH_ready (rs := [8, 20]) (by kernel_rfl) (by simp) ?_
          refine AllReadyH.cons (o := { dst := some 58, op := Op.buildSlice 46 1 #[(0, Operand.tmp 57)], type := 46, pos := "more.go:86", after := #[{ on := 7, ground := Ground.data }], guard := none }) rfl (fun K hK => ?_) ?_
          · go_simp
            refine hK.out _ _ ?_ (fun hHeld => ?_)
            · exact Held.step (by assumption) ((Below.refl _ _).alloc (Nat.le_refl _) _)
            clear hK K
            (try simp only [Act.put, List.setIfInBounds_toArray, List.set_cons_zero, List.set_cons_succ])
            have hRow : HR U (U.heap.size) c _ := ⟨hHeld, heap_alloc_new U (.cells #[.int .u8 (c.toNat : Int)] 5)⟩
            refine wpAnyH_mono (S' := HR U (U.heap.size) c) (fun r h => h.1) ?_
            replace hHeld := hRow
            clear hRow
            refine wpAnyH_take (i := 9) (oi := { dst := some 59, op := Op.convert 46 9 (Operand.tmp 58), type := 9, pos := "more.go:86", after := #[{ on := 8, ground := Ground.data }], guard := none }) (v := .string sB) rfl (by kernel_rfl) (by kernel_rfl) (by kernel_rfl) (fun _ _ _ h => h) (Or.inl ⟨by rfl, fun w' hSw => by ((try dsimp only at hSw); have hcv := HR.convert hSw; rw [HSB.out] at hcv; go_simp)⟩) (by assumption) ?_
            (try simp only [Act.put, List.setIfInBounds_toArray, List.set_cons_zero, List.set_cons_succ])
            refine wpAnyH_take (i := 10) (oi := { dst := some 60, op := Op.binOp BinOp.add 9 (Operand.tmp 52) (Operand.tmp 59) 9, type := 9, pos := "more.go:86", after := #[{ on := 2, ground := Ground.data }, { on := 9, ground := Ground.data }], guard := none }) (v := .string (sA ++ sB)) rfl (by kernel_rfl) (by kernel_rfl) (by kernel_rfl) (fun _ _ _ h => h) (Or.inl ⟨by rfl, fun w' hSw => by ((try dsimp only at hSw); go_simp)⟩) (by assumption) ?_
            (try simp only [Act.put, List.setIfInBounds_toArray, List.set_cons_zero, List.set_cons_succ])
            refine wpAnyH_take (i := 15) (oi := { dst := some 65, op := Op.binOp BinOp.add 9 (Operand.tmp 60) (Operand.tmp 64) 9, type := 9, pos := "more.go:86", after := #[{ on := 10, ground := Ground.data }, { on := 14, ground := Ground.data }], guard := none }) (v := .string pb) rfl (by kernel_rfl) (by kernel_rfl) (by kernel_rfl) (fun _ _ _ h => h) (Or.inl ⟨by rfl, fun w' hSw => by ((try dsimp only at hSw); have hJ := HJ.out; go_simp)⟩) (by assumption) ?_
            (try simp only [Act.put, List.setIfInBounds_toArray, List.set_cons_zero, List.set_cons_succ])
            refine wpAnyH_ready (rs := [16, 20]) (by kernel_rfl) (by simp) ?_
            refine AllReadyH.cons (o := { dst := some 66, op := Op.call { callee := Callee.value (Operand.func 18), args := #[Operand.tmp 65], argTypes := #[9] }, type := 41, pos := "more.go:86", after := #[{ on := 15, ground := Ground.data }], guard := none }) rfl (fun K hK => ?_) ?_
            · go_simp; go_at_call 18; refine (GT.out _).mono ?_; rintro e w5 ⟨rfl, hb5⟩
              refine hK.out _ _ ?_ (fun hHeld => ?_)
              · exact HR.step (by assumption) hb5
              clear hK K
              (try simp only [Act.put, List.setIfInBounds_toArray, List.set_cons_zero, List.set_cons_succ])
              have hPre := hHeld
              refine wpAnyH_take (i := 17) (oi := { dst := some 49, op := Op.move (Operand.tmp 66), type := 41, pos := "more.go:86", after := #[{ on := 16, ground := Ground.data }], guard := none }) (v := .tuple #[.agg #[.int .i64 s2.ep, .int .i64 s2.ix, .bool s2.fr, .string (str s2.pl)], .bool g]) rfl (by kernel_rfl) (by kernel_rfl) (by kernel_rfl) (fun _ _ _ h => h) (Or.inl ⟨by rfl, fun w' hSw => by ((try dsimp only at hSw); go_simp)⟩) (by assumption) ?_
              (try simp only [Act.put, List.setIfInBounds_toArray, List.set_cons_zero, List.set_cons_succ])
              refine wpAnyH_take (i := 18) (oi := { dst := some 67, op := Op.extract (Operand.tmp 49) 0, type := 40, pos := "more.go:86", after := #[{ on := 17, ground := Ground.data }], guard := none }) (v := .agg #[.int .i64 s2.ep, .int .i64 s2.ix, .bool s2.fr, .string (str s2.pl)]) rfl (by kernel_rfl) (by kernel_rfl) (by kernel_rfl) (fun _ _ _ h => h) (Or.inl ⟨by rfl, fun w' hSw => by ((try dsimp only at hSw); go_simp)⟩) (by assumption) ?_
              (try simp only [Act.put, List.setIfInBounds_toArray, List.set_cons_zero, List.set_cons_succ])
              refine wpAnyH_take (i := 19) (oi := { dst := some 68, op := Op.extract (Operand.tmp 49) 1, type := 4, pos := "more.go:86", after := #[{ on := 17, ground := Ground.data }, { on := 21, ground := Ground.gcOnly Go.Departure.lateStores }], guard := none }) (v := .bool g) rfl (by kernel_rfl) (by kernel_rfl) (by kernel_rfl) (fun _ _ _ h => h) (Or.inl ⟨by rfl, fun w' hSw => by ((try dsimp only at hSw); go_simp)⟩) (by assumption) ?_
              (try simp only [Act.put, List.setIfInBounds_toArray, List.set_cons_zero, List.set_cons_succ])
              refine wpAnyH_ready (rs := [20]) (by kernel_rfl) (by simp) ?_
              refine AllReadyH.cons (o := { dst := some 10, op := Op.alloc 40, type := 0, pos := "more.go:86", after := #[], guard := none }) rfl (fun K hK => ?_) ?_
              · go_simp
                refine hK.out _ _ ?_ (fun hHeld => ?_)
                · exact HR.alloc (by assumption) _
                clear hK K
                (try simp only [Act.put, List.setIfInBounds_toArray, List.set_cons_zero, List.set_cons_succ])
                have hz5 : Bx (w5.alloc (.cells #[.int .i64 0, .int .i64 0, .bool false, .string ⟨#[]⟩] 40)) (w5.heap.size) #[.int .i64 0, .int .i64 0, .bool false, .string ⟨#[]⟩] 40 := Bx.new w5 _ _
                have HG5 := Lib.hid (show Held U ((w5.alloc (.cells #[.int .i64 0, .int .i64 0, .bool false, .string ⟨#[]⟩] 40)).setRow (w5.heap.size) #[.int .i64 s2.ep, .int .i64 s2.ix, .bool s2.fr, .string (str s2.pl)]) ∧ Sb ((w5.alloc (.cells #[.int .i64 0, .int .i64 0, .bool false, .string ⟨#[]⟩] 40)).setRow (w5.heap.size) #[.int .i64 s2.ep, .int .i64 s2.ix, .bool s2.fr, .string (str s2.pl)]) (w5.heap.size) s2 from ⟨below_srow (hHeld).1 (hPre.1.size), hz5.row _⟩)
                refine wpAnyH_ready (rs := [21]) (by kernel_rfl) (by simp) ?_
                refine AllReadyH.cons (o := { dst := none, op := Op.store 40 (Operand.tmp 10) (Operand.tmp 67), type := 0, pos := "more.go:86", after := #[{ on := 20, ground := Ground.data }, { on := 18, ground := Ground.data }, { on := 16, ground := Ground.chain }, { on := 0, ground := Ground.phase }, { on := 1, ground := Ground.phase }, { on := 2, ground := Ground.phase }, { on := 3, ground := Ground.phase }, { on := 4, ground := Ground.phase }, { on := 5, ground := Ground.phase }, { on := 6, ground := Ground.phase }, { on := 7, ground := Ground.phase }, { on := 8, ground := Ground.phase }, { on := 9, ground := Ground.phase }, { on := 10, ground := Ground.phase }, { on := 11, ground := Ground.phase }, { on := 12, ground := Ground.phase }, { on := 13, ground := Ground.phase }, { on := 14, ground := Ground.phase }, { on := 15, ground := Ground.phase }, { on := 16, ground := Ground.phase }, { on := 17, ground := Ground.phase }, { on := 18, ground := Ground.phase }, { on := 19, ground := Ground.textOnly Go.Departure.lateStores }, { on := 20, ground := Ground.phase }], guard := none }) rfl (fun K hK => ?_) ?_
                · refine step_store_row rfl 40 (.tmp 10) (.tmp 67) rfl (w5.heap.size) #[.int .i64 s2.ep, .int .i64 s2.ix, .bool s2.fr, .string (str s2.pl)] rfl rfl 40 _ hz5 (by kernel_rfl) rfl (by simp [Value.oneCell']) ?_
                  refine hK.out _ _ ?_ (fun hHeld => ?_)
                  · exact HR.row hHeld (hPre.1.size) (Nat.ne_of_lt hPre.lt) _
                  clear hK K
                  (try simp only [Act.put, List.setIfInBounds_toArray, List.set_cons_zero, List.set_cons_succ])
                  refine wpAnyH_take (i := 22) (oi := { dst := some 11, op := Op.assign (Operand.tmp 68), type := 4, pos := "more.go:86", after := #[{ on := 19, ground := Ground.data }, { on := 21, ground := Ground.chain }, { on := 0, ground := Ground.phase }, { on := 1, ground := Ground.phase }, { on := 2, ground := Ground.phase }, { on := 3, ground := Ground.phase }, { on := 4, ground := Ground.phase }, { on := 5, ground := Ground.phase }, { on := 6, ground := Ground.phase }, { on := 7, ground := Ground.phase }, { on := 8, ground := Ground.phase }, { on := 9, ground := Ground.phase }, { on := 10, ground := Ground.phase }, { on := 11, ground := Ground.phase }, { on := 12, ground := Ground.phase }, { on := 13, ground := Ground.phase }, { on := 14, ground := Ground.phase }, { on := 15, ground := Ground.phase }, { on := 16, ground := Ground.phase }, { on := 17, ground := Ground.phase }, { on := 18, ground := Ground.phase }, { on := 19, ground := Ground.phase }, { on := 20, ground := Ground.phase }, { on := 21, ground := Ground.phase }], guard := none }) (v := .bool g) rfl (by kernel_rfl) (by kernel_rfl) (by kernel_rfl) (fun _ _ _ h => h) (Or.inl ⟨by rfl, fun w' hSw => by ((try dsimp only at hSw); go_simp)⟩) (by assumption) ?_
                  (try simp only [Act.put, List.setIfInBounds_toArray, List.set_cons_zero, List.set_cons_succ])
                  refine wpAnyH_done (by kernel_rfl) ?_ _
                  refine NoPanic.normal ?_
                  clear hHeld
                  generalize (w5.alloc (.cells #[.int .i64 0, .int .i64 0, .bool false, .string ⟨#[]⟩] 40)).setRow (w5.heap.size) #[.int .i64 s2.ep, .int .i64 s2.ix, .bool s2.fr, .string (str s2.pl)] = V at *
                  have HF := Lib.hid (HB2.out.trans (Below.mono HG5.out.1 HB2.out.size))
                  have HXF := Lib.hid (Sb.kept HX2.out HG5.out.1 (Bx.lt HX2.out))
                  have YB := Lib.hid HG5.out.2
                  clear HG5 hz5
                  go_wp2_with fail
                  go_meet
                  exact ⟨w5.heap.size, by trivial, by trivial, YB.out, HXF.out, HF.out⟩
                exact AllReadyH.nil
              exact AllReadyH.nil
            refine AllReadyH.cons (o := { dst := some 10, op := Op.alloc 40, type := 0, pos := "more.go:86", after := #[], guard := none }) rfl (fun K hK => ?_) ?_
            · go_simp
              refine hK.out _ _ ?_ (fun hHeld => ?_)
              · exact HR.alloc (by assumption) _
              clear hK K
              (try simp only [Act.put, List.setIfInBounds_toArray, List.set_cons_zero, List.set_cons_succ])
              refine wpAnyH_ready (rs := [16]) (by kernel_rfl) (by simp) ?_
              refine AllReadyH.cons (o := { dst := some 66, op := Op.call { callee := Callee.value (Operand.func 18), args := #[Operand.tmp 65], argTypes := #[9] }, type := 41, pos := "more.go:86", after := #[{ on := 15, ground := Ground.data }], guard := none }) rfl (fun K hK => ?_) ?_
              · go_simp; go_at_call 18; refine (GT.out _).mono ?_; rintro e w5 ⟨rfl, hb5⟩
                refine hK.out _ _ ?_ (fun hHeld => ?_)
                · exact HR.step (by assumption) hb5
                clear hK K
                (try simp only [Act.put, List.setIfInBounds_toArray, List.set_cons_zero, List.set_cons_succ])
                refine wpAnyH_take (i := 17) (oi := { dst := some 49, op := Op.move (Operand.tmp 66), type := 41, pos := "more.go:86", after := #[{ on := 16, ground := Ground.data }], guard := none }) (v := .tuple #[.agg #[.int .i64 s2.ep, .int .i64 s2.ix, .bool s2.fr, .string (str s2.pl)], .bool g]) rfl (by kernel_rfl) (by kernel_rfl) (by kernel_rfl) (fun _ _ _ h => h) (Or.inl ⟨by rfl, fun w' hSw => by ((try dsimp only at hSw); go_simp)⟩) (by assumption) ?_
                (try simp only [Act.put, List.setIfInBounds_toArray, List.set_cons_zero, List.set_cons_succ])
                refine wpAnyH_take (i := 18) (oi := { dst := some 67, op := Op.extract (Operand.tmp 49) 0, type := 40, pos := "more.go:86", after := #[{ on := 17, ground := Ground.data }], guard := none }) (v := .agg #[.int .i64 s2.ep, .int .i64 s2.ix, .bool s2.fr, .string (str s2.pl)]) rfl (by kernel_rfl) (by kernel_rfl) (by kernel_rfl) (fun _ _ _ h => h) (Or.inl ⟨by rfl, fun w' hSw => by ((try dsimp only at hSw); go_simp)⟩) (by assumption) ?_
                (try simp only [Act.put, List.setIfInBounds_toArray, List.set_cons_zero, List.set_cons_succ])
                refine wpAnyH_take (i := 19) (oi := { dst := some 68, op := Op.extract (Operand.tmp 49) 1, type := 4, pos := "more.go:86", after := #[{ on := 17, ground := Ground.data }, { on := 21, ground := Ground.gcOnly Go.Departure.lateStores }], guard := none }) (v := .bool g) rfl (by kernel_rfl) (by kernel_rfl) (by kernel_rfl) (fun _ _ _ h => h) (Or.inl ⟨by rfl, fun w' hSw => by ((try dsimp only at hSw); go_simp)⟩) (by assumption) ?_
                (try simp only [Act.put, List.setIfInBounds_toArray, List.set_cons_zero, List.set_cons_succ])
                have hz5 : Bx w5 (U.heap.size + 1) #[.int .i64 0, .int .i64 0, .bool false, .string ⟨#[]⟩] 40 := (show Bx (((U.alloc (.cells #[.int .u8 (c.toNat : Int)] 5)).alloc (.cells #[.int .i64 0, .int .i64 0, .bool false, .string ⟨#[]⟩] 40)).drew) (U.heap.size + 1) _ _ from by rw [show U.heap.size + 1 = (U.alloc (.cells #[.int .u8 (c.toNat : Int)] 5)).heap.size by simp]; exact Bx.new (U.alloc (.cells #[.int .u8 (c.toNat : Int)] 5)) _ _).held hb5
                have HG5 := Lib.hid (show Held U (w5.setRow (U.heap.size + 1) #[.int .i64 s2.ep, .int .i64 s2.ix, .bool s2.fr, .string (str s2.pl)]) ∧ Sb (w5.setRow (U.heap.size + 1) #[.int .i64 s2.ep, .int .i64 s2.ix, .bool s2.fr, .string (str s2.pl)]) (U.heap.size + 1) s2 from ⟨below_srow (hHeld).1 (by omega), hz5.row _⟩)
                refine wpAnyH_ready (rs := [21]) (by kernel_rfl) (by simp) ?_
                refine AllReadyH.cons (o := { dst := none, op := Op.store 40 (Operand.tmp 10) (Operand.tmp 67), type := 0, pos := "more.go:86", after := #[{ on := 20, ground := Ground.data }, { on := 18, ground := Ground.data }, { on := 16, ground := Ground.chain }, { on := 0, ground := Ground.phase }, { on := 1, ground := Ground.phase }, { on := 2, ground := Ground.phase }, { on := 3, ground := Ground.phase }, { on := 4, ground := Ground.phase }, { on := 5, ground := Ground.phase }, { on := 6, ground := Ground.phase }, { on := 7, ground := Ground.phase }, { on := 8, ground := Ground.phase }, { on := 9, ground := Ground.phase }, { on := 10, ground := Ground.phase }, { on := 11, ground := Ground.phase }, { on := 12, ground := Ground.phase }, { on := 13, ground := Ground.phase }, { on := 14, ground := Ground.phase }, { on := 15, ground := Ground.phase }, { on := 16, ground := Ground.phase }, { on := 17, ground := Ground.phase }, { on := 18, ground := Ground.phase }, { on := 19, ground := Ground.textOnly Go.Departure.lateStores }, { on := 20, ground := Ground.phase }], guard := none }) rfl (fun K hK => ?_) ?_
                · refine step_store_row rfl 40 (.tmp 10) (.tmp 67) rfl (U.heap.size + 1) #[.int .i64 s2.ep, .int .i64 s2.ix, .bool s2.fr, .string (str s2.pl)] rfl rfl 40 _ hz5 (by kernel_rfl) rfl (by simp [Value.oneCell']) ?_
                  refine hK.out _ _ ?_ (fun hHeld => ?_)
                  · exact HR.row hHeld (by omega) (by omega) _
                  clear hK K
                  (try simp only [Act.put, List.setIfInBounds_toArray, List.set_cons_zero, List.set_cons_succ])
                  refine wpAnyH_take (i := 22) (oi := { dst := some 11, op := Op.assign (Operand.tmp 68), type := 4, pos := "more.go:86", after := #[{ on := 19, ground := Ground.data }, { on := 21, ground := Ground.chain }, { on := 0, ground := Ground.phase }, { on := 1, ground := Ground.phase }, { on := 2, ground := Ground.phase }, { on := 3, ground := Ground.phase }, { on := 4, ground := Ground.phase }, { on := 5, ground := Ground.phase }, { on := 6, ground := Ground.phase }, { on := 7, ground := Ground.phase }, { on := 8, ground := Ground.phase }, { on := 9, ground := Ground.phase }, { on := 10, ground := Ground.phase }, { on := 11, ground := Ground.phase }, { on := 12, ground := Ground.phase }, { on := 13, ground := Ground.phase }, { on := 14, ground := Ground.phase }, { on := 15, ground := Ground.phase }, { on := 16, ground := Ground.phase }, { on := 17, ground := Ground.phase }, { on := 18, ground := Ground.phase }, { on := 19, ground := Ground.phase }, { on := 20, ground := Ground.phase }, { on := 21, ground := Ground.phase }], guard := none }) (v := .bool g) rfl (by kernel_rfl) (by kernel_rfl) (by kernel_rfl) (fun _ _ _ h => h) (Or.inl ⟨by rfl, fun w' hSw => by ((try dsimp only at hSw); go_simp)⟩) (by assumption) ?_
                  (try simp only [Act.put, List.setIfInBounds_toArray, List.set_cons_zero, List.set_cons_succ])
                  refine wpAnyH_done (by kernel_rfl) ?_ _
                  refine NoPanic.normal ?_
                  clear hHeld
                  generalize w5.setRow (U.heap.size + 1) #[.int .i64 s2.ep, .int .i64 s2.ix, .bool s2.fr, .string (str s2.pl)] = V at *
                  have HF := Lib.hid (HB2.out.trans (Below.mono HG5.out.1 HB2.out.size))
                  have HXF := Lib.hid (Sb.kept HX2.out HG5.out.1 (Bx.lt HX2.out))
                  have YB := Lib.hid HG5.out.2
                  clear HG5 hz5
                  go_wp2_with fail
                  go_meet
                  exact ⟨U.heap.size + 1, by trivial, by trivial, YB.out, HXF.out, HF.out⟩
                exact AllReadyH.nil
              exact AllReadyH.nil
            exact AllReadyH.nil
          refine AllReadyH.cons (o := { dst := some 10, op := Op.alloc 40, type := 0, pos := "more.go:86", after := #[], guard := none }) rfl (fun K hK => ?_) ?_
          · go_simp
            refine hK.out _ _ ?_ (fun hHeld => ?_)
            · exact Held.step (by assumption) ((Below.refl _ _).alloc (Nat.le_refl _) _)
            clear hK K
            (try simp only [Act.put, List.setIfInBounds_toArray, List.set_cons_zero, List.set_cons_succ])
            refine wpAnyH_ready (rs := [8]) (by kernel_rfl) (by simp) ?_
            refine AllReadyH.cons (o := { dst := some 58, op := Op.buildSlice 46 1 #[(0, Operand.tmp 57)], type := 46, pos := "more.go:86", after := #[{ on := 7, ground := Ground.data }], guard := none }) rfl (fun K hK => ?_) ?_
            · go_simp
              refine hK.out _ _ ?_ (fun hHeld => ?_)
              · exact Held.step (by assumption) ((Below.refl _ _).alloc (Nat.le_refl _) _)
              clear hK K
              (try simp only [Act.put, List.setIfInBounds_toArray, List.set_cons_zero, List.set_cons_succ])
              have hRow : HR U (U.heap.size + 1) c _ := ⟨hHeld, by rw [show U.heap.size + 1 = (U.alloc (.cells #[.int .i64 0, .int .i64 0, .bool false, .string ⟨#[]⟩] 40)).heap.size by simp]; exact heap_alloc_new (U.alloc (.cells #[.int .i64 0, .int .i64 0, .bool false, .string ⟨#[]⟩] 40)) (.cells #[.int .u8 (c.toNat : Int)] 5)⟩
              refine wpAnyH_mono (S' := HR U (U.heap.size + 1) c) (fun r h => h.1) ?_
              replace hHeld := hRow
              clear hRow
              refine wpAnyH_take (i := 9) (oi := { dst := some 59, op := Op.convert 46 9 (Operand.tmp 58), type := 9, pos := "more.go:86", after := #[{ on := 8, ground := Ground.data }], guard := none }) (v := .string sB) rfl (by kernel_rfl) (by kernel_rfl) (by kernel_rfl) (fun _ _ _ h => h) (Or.inl ⟨by rfl, fun w' hSw => by ((try dsimp only at hSw); have hcv := HR.convert hSw; rw [HSB.out] at hcv; go_simp)⟩) (by assumption) ?_
              (try simp only [Act.put, List.setIfInBounds_toArray, List.set_cons_zero, List.set_cons_succ])
              refine wpAnyH_take (i := 10) (oi := { dst := some 60, op := Op.binOp BinOp.add 9 (Operand.tmp 52) (Operand.tmp 59) 9, type := 9, pos := "more.go:86", after := #[{ on := 2, ground := Ground.data }, { on := 9, ground := Ground.data }], guard := none }) (v := .string (sA ++ sB)) rfl (by kernel_rfl) (by kernel_rfl) (by kernel_rfl) (fun _ _ _ h => h) (Or.inl ⟨by rfl, fun w' hSw => by ((try dsimp only at hSw); go_simp)⟩) (by assumption) ?_
              (try simp only [Act.put, List.setIfInBounds_toArray, List.set_cons_zero, List.set_cons_succ])
              refine wpAnyH_take (i := 15) (oi := { dst := some 65, op := Op.binOp BinOp.add 9 (Operand.tmp 60) (Operand.tmp 64) 9, type := 9, pos := "more.go:86", after := #[{ on := 10, ground := Ground.data }, { on := 14, ground := Ground.data }], guard := none }) (v := .string pb) rfl (by kernel_rfl) (by kernel_rfl) (by kernel_rfl) (fun _ _ _ h => h) (Or.inl ⟨by rfl, fun w' hSw => by ((try dsimp only at hSw); have hJ := HJ.out; go_simp)⟩) (by assumption) ?_
              (try simp only [Act.put, List.setIfInBounds_toArray, List.set_cons_zero, List.set_cons_succ])
              refine wpAnyH_ready (rs := [16]) (by kernel_rfl) (by simp) ?_
              refine AllReadyH.cons (o := { dst := some 66, op := Op.call { callee := Callee.value (Operand.func 18), args := #[Operand.tmp 65], argTypes := #[9] }, type := 41, pos := "more.go:86", after := #[{ on := 15, ground := Ground.data }], guard := none }) rfl (fun K hK => ?_) ?_
              · go_simp; go_at_call 18; refine (GT.out _).mono ?_; rintro e w5 ⟨rfl, hb5⟩
                refine hK.out _ _ ?_ (fun hHeld => ?_)
                · exact HR.step (by assumption) hb5
                clear hK K
                (try simp only [Act.put, List.setIfInBounds_toArray, List.set_cons_zero, List.set_cons_succ])
                refine wpAnyH_take (i := 17) (oi := { dst := some 49, op := Op.move (Operand.tmp 66), type := 41, pos := "more.go:86", after := #[{ on := 16, ground := Ground.data }], guard := none }) (v := .tuple #[.agg #[.int .i64 s2.ep, .int .i64 s2.ix, .bool s2.fr, .string (str s2.pl)], .bool g]) rfl (by kernel_rfl) (by kernel_rfl) (by kernel_rfl) (fun _ _ _ h => h) (Or.inl ⟨by rfl, fun w' hSw => by ((try dsimp only at hSw); go_simp)⟩) (by assumption) ?_
                (try simp only [Act.put, List.setIfInBounds_toArray, List.set_cons_zero, List.set_cons_succ])
                refine wpAnyH_take (i := 18) (oi := { dst := some 67, op := Op.extract (Operand.tmp 49) 0, type := 40, pos := "more.go:86", after := #[{ on := 17, ground := Ground.data }], guard := none }) (v := .agg #[.int .i64 s2.ep, .int .i64 s2.ix, .bool s2.fr, .string (str s2.pl)]) rfl (by kernel_rfl) (by kernel_rfl) (by kernel_rfl) (fun _ _ _ h => h) (Or.inl ⟨by rfl, fun w' hSw => by ((try dsimp only at hSw); go_simp)⟩) (by assumption) ?_
                (try simp only [Act.put, List.setIfInBounds_toArray, List.set_cons_zero, List.set_cons_succ])
                refine wpAnyH_take (i := 19) (oi := { dst := some 68, op := Op.extract (Operand.tmp 49) 1, type := 4, pos := "more.go:86", after := #[{ on := 17, ground := Ground.data }, { on := 21, ground := Ground.gcOnly Go.Departure.lateStores }], guard := none }) (v := .bool g) rfl (by kernel_rfl) (by kernel_rfl) (by kernel_rfl) (fun _ _ _ h => h) (Or.inl ⟨by rfl, fun w' hSw => by ((try dsimp only at hSw); go_simp)⟩) (by assumption) ?_
                (try simp only [Act.put, List.setIfInBounds_toArray, List.set_cons_zero, List.set_cons_succ])
                have hz5 : Bx w5 (U.heap.size) #[.int .i64 0, .int .i64 0, .bool false, .string ⟨#[]⟩] 40 := (Bx.kept (show Bx (U.alloc (.cells #[.int .i64 0, .int .i64 0, .bool false, .string ⟨#[]⟩] 40)) U.heap.size _ _ from Bx.new U _ _) (Below.drew ((Below.refl _ _).alloc (Nat.le_refl _) _)) (by simp)).held hb5
                have HG5 := Lib.hid (show Held U (w5.setRow (U.heap.size) #[.int .i64 s2.ep, .int .i64 s2.ix, .bool s2.fr, .string (str s2.pl)]) ∧ Sb (w5.setRow (U.heap.size) #[.int .i64 s2.ep, .int .i64 s2.ix, .bool s2.fr, .string (str s2.pl)]) (U.heap.size) s2 from ⟨below_srow (hHeld).1 (Nat.le_refl _), hz5.row _⟩)
                refine wpAnyH_ready (rs := [21]) (by kernel_rfl) (by simp) ?_
                refine AllReadyH.cons (o := { dst := none, op := Op.store 40 (Operand.tmp 10) (Operand.tmp 67), type := 0, pos := "more.go:86", after := #[{ on := 20, ground := Ground.data }, { on := 18, ground := Ground.data }, { on := 16, ground := Ground.chain }, { on := 0, ground := Ground.phase }, { on := 1, ground := Ground.phase }, { on := 2, ground := Ground.phase }, { on := 3, ground := Ground.phase }, { on := 4, ground := Ground.phase }, { on := 5, ground := Ground.phase }, { on := 6, ground := Ground.phase }, { on := 7, ground := Ground.phase }, { on := 8, ground := Ground.phase }, { on := 9, ground := Ground.phase }, { on := 10, ground := Ground.phase }, { on := 11, ground := Ground.phase }, { on := 12, ground := Ground.phase }, { on := 13, ground := Ground.phase }, { on := 14, ground := Ground.phase }, { on := 15, ground := Ground.phase }, { on := 16, ground := Ground.phase }, { on := 17, ground := Ground.phase }, { on := 18, ground := Ground.phase }, { on := 19, ground := Ground.textOnly Go.Departure.lateStores }, { on := 20, ground := Ground.phase }], guard := none }) rfl (fun K hK => ?_) ?_
                · refine step_store_row rfl 40 (.tmp 10) (.tmp 67) rfl (U.heap.size) #[.int .i64 s2.ep, .int .i64 s2.ix, .bool s2.fr, .string (str s2.pl)] rfl rfl 40 _ hz5 (by kernel_rfl) rfl (by simp [Value.oneCell']) ?_
                  refine hK.out _ _ ?_ (fun hHeld => ?_)
                  · exact HR.row hHeld (Nat.le_refl _) (by omega) _
                  clear hK K
                  (try simp only [Act.put, List.setIfInBounds_toArray, List.set_cons_zero, List.set_cons_succ])
                  refine wpAnyH_take (i := 22) (oi := { dst := some 11, op := Op.assign (Operand.tmp 68), type := 4, pos := "more.go:86", after := #[{ on := 19, ground := Ground.data }, { on := 21, ground := Ground.chain }, { on := 0, ground := Ground.phase }, { on := 1, ground := Ground.phase }, { on := 2, ground := Ground.phase }, { on := 3, ground := Ground.phase }, { on := 4, ground := Ground.phase }, { on := 5, ground := Ground.phase }, { on := 6, ground := Ground.phase }, { on := 7, ground := Ground.phase }, { on := 8, ground := Ground.phase }, { on := 9, ground := Ground.phase }, { on := 10, ground := Ground.phase }, { on := 11, ground := Ground.phase }, { on := 12, ground := Ground.phase }, { on := 13, ground := Ground.phase }, { on := 14, ground := Ground.phase }, { on := 15, ground := Ground.phase }, { on := 16, ground := Ground.phase }, { on := 17, ground := Ground.phase }, { on := 18, ground := Ground.phase }, { on := 19, ground := Ground.phase }, { on := 20, ground := Ground.phase }, { on := 21, ground := Ground.phase }], guard := none }) (v := .bool g) rfl (by kernel_rfl) (by kernel_rfl) (by kernel_rfl) (fun _ _ _ h => h) (Or.inl ⟨by rfl, fun w' hSw => by ((try dsimp only at hSw); go_simp)⟩) (by assumption) ?_
                  (try simp only [Act.put, List.setIfInBounds_toArray, List.set_cons_zero, List.set_cons_succ])
                  refine wpAnyH_done (by kernel_rfl) ?_ _
                  refine NoPanic.normal ?_
                  clear hHeld
                  generalize w5.setRow (U.heap.size) #[.int .i64 s2.ep, .int .i64 s2.ix, .bool s2.fr, .string (str s2.pl)] = V at *
                  have HF := Lib.hid (HB2.out.trans (Below.mono HG5.out.1 HB2.out.size))
                  have HXF := Lib.hid (Sb.kept HX2.out HG5.out.1 (Bx.lt HX2.out))
                  have YB := Lib.hid HG5.out.2
                  clear HG5 hz5
                  go_wp2_with fail
                  go_meet
                  exact ⟨U.heap.size, by trivial, by trivial, YB.out, HXF.out, HF.out⟩
                exact AllReadyH.nil
              exact AllReadyH.nil
            exact AllReadyH.nil
          exact AllReadyH.nil
        case rest =>
          obtain ⟨B2, rfl, rfl, hq⟩ := hcut
          have Y2 := Lib.hid hq.out.1
          have X2 := Lib.hid hq.out.2.1
          have HC := Lib.hid hq.out.2.2
          clear hq HX2 HB2 GT SH SL IX HXO HJ HSB
          obtain ⟨x0, x1, x2, x3⟩ := X2.out.cells
          obtain ⟨y0, y1, y2, y3⟩ := Y2.out.cells
          go_wp2_with fail
          refine (G2.out _).mono ?_; rintro e U2 ⟨rfl, hb⟩
          have HC2 := Lib.hid ((HC.out.trans (hb.mono HC.out.size)).alloc (Nat.le_trans HC.out.size hb.size) (.cells #[.int .i64 x.ep, .int .i64 x.ix, .bool x.fr, .string (str x.pl)] 40))
          have X3 := Lib.hid (Bx.alloc (X2.out.held hb) (.cells #[.int .i64 x.ep, .int .i64 x.ix, .bool x.fr, .string (str x.pl)] 40))
          have Y3 := Lib.hid (Bx.alloc (Y2.out.held hb) (.cells #[.int .i64 x.ep, .int .i64 x.ix, .bool x.fr, .string (str x.pl)] 40))
          have Z3 := Lib.hid (Sb.new U2 x)
          clear hb X2 Y2 HC x0 x1 x2 x3 y0 y1 y2 y3
          obtain ⟨x0, x1, x2, x3⟩ := (show Sb _ _ x from X3.out).cells
          obtain ⟨y0, y1, y2, y3⟩ := (show Sb _ _ s2 from Y3.out).cells
          have EQ1 := eq_sec x x
          rw [eqX_refl] at EQ1
          have EQ2 := neq_sec s2 x
          cases g with
          | false =>
            clear EQ2
            go_wp2_with fail
            go_ret
            exact ⟨by trivial, HC2.out⟩
          | true =>
            rw [eqX_not (HQ.out rfl)] at EQ2
            go_wp2_with fail
            go_ret
            exact ⟨by trivial, HC2.out⟩

/-! The row's step. -/
set_option maxRecDepth 100000 in
theorem lifted (os : Os) (started : os.Started) (H : Type) (enc : TypeId × Value → H) :
    ReturnsInHanded {} Try.checked os 8 .any (Rows.frameTurnedSpec.pre6 enc Try.prog Try.f8 Rows.frameTurnedRow.domain false) (Rows.frameTurnedSpec.post enc Try.prog Try.f8 false true false false) := by
  refine returnsInHanded_of_change (C := Try.checked) own started (by kernel_rfl) Try.func8
    (ChangeSpec.witness6 (enc := enc) (C := Try.checked) false ⟨#[], #[.agg #[.int .i64 0, .int .i64 0, .bool false, .string ByteArray.empty], .int .i64 0, .int .u8 0], []⟩ 8 (by kernel_rfl) (by kernel_rfl) (by kernel_rfl) (by kernel_rfl)) ?_
  intro W base args ds gs before hval0 hW hcnd _
  have hval : ∀ (j : Nat) t v, Try.f8.params[j]? = some t → args[j]? = some v → Value.okWide Try.prog W .any base t v := hval0
  have hW' := hW
  obtain ⟨p, q, hA0, hV, rfl, hfz, hnd⟩ := hW
  have hA : DataW.TrodAll enc Try.prog W 0 (fun _ => true) true Try.f8.params.toList args.toList ds p := hA0
  rw [Try.params8] at hA hval
  obtain ⟨v0, vs0, d0, ds0, p0, q0, hargs, rfl, rfl, h0, r0⟩ := trodAll_cons hA
  obtain ⟨v1, vs1, d1, ds1, p1, q1, rfl, rfl, rfl, h1, r1⟩ := trodAll_cons r0
  obtain ⟨v2, vs2, d2, ds2, p2, q2, rfl, rfl, rfl, h2, r2⟩ := trodAll_cons r1
  obtain ⟨rfl, rfl, rfl⟩ := trodAll_nil r2
  obtain rfl : args = #[v0, v1, v2] := by cases args; simp_all
  obtain ⟨rfl, rfl⟩ := trodVars_none hV
  obtain ⟨x0, rfl, wa0, wb0, wc0, sh0⟩ := open_sector (hval 0 40 v0 rfl rfl) h0
  obtain ⟨a1, rfl, rfl, rfl, w1⟩ := open_int Try.underlying3 (hval 1 3 v1 rfl rfl) h1
  obtain ⟨a2, rfl, rfl, rfl, w2⟩ := open_int Try.underlying5 (hval 2 5 v2 rfl rfl) h2
  clear hA0 hval0
  refine (walk x0 a1 a2 W wa0 wb0 wc0 w1 w2).mono fun e W' ⟨he, bel⟩ => ?_
  subst he
  exact ⟨_, rfl, _, _, _, [], _, [], hW', trodAll_mk1 (shut_bool Try.underlying4 _), (trodAll_cons_mk (sh0 _ _) (trodAll_cons_mk (shut_int Try.underlying3 w1) (trodAll_cons_mk (shut_int Try.underlying5 w2) trodAll_mk0))), rfl, bel.frame _, fun h => by cases h⟩

theorem over : Rows.frameTurnedRow.holds Try.pinned (OpenSpec.ofChange Rows.frameTurnedSpec) :=
  OpenClaim.holds_of_wide 8 Try.f8 rfl rfl rfl rfl rfl rfl rfl ⟨rfl, rfl, rfl, rfl, rfl⟩ rfl rfl rfl rfl rfl (by kernel_rfl) Try.func8 (by kernel_rfl)
    (of_decide_eq_true (by kernel_rfl)) (by unfold Func.isWrapper; first | (rw [if_pos (by decide +kernel)]; kernel_rfl) | (rw [if_neg (by decide +kernel)]; exact ⟨rfl, rfl⟩))
    (fun os started H enc _ => lifted os started H enc)

/-- The statement. -/
theorem proved : Rows.FrameTurnedSaid := over
end Go.Proofs.Ytbdpmfgphhgigaa.frameTurned
