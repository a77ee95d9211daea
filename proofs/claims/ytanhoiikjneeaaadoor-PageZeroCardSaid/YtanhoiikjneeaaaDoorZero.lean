/- For every place and every byte: a page of zeros is a free one; with this byte at this place it is a page just if the byte is zero. The row speaks of the table of names as the program's text lays it; the card ties that to the text. -/
import Derived.Test.YtanhoiikjneeaaaDoorRows
import Derived.Test.YtanhoiikjneeaaaDoorCards
import Derived.Test.YtanhoiikjneeaaaDoorTie
import Derived.Test.YtanhoiikjneeaaaDoorTurn
import Derived.Lib.Hide
import Derived.WalkKit
import Derived.ProofKit
import Derived.OpenShut
import Derived.ChangeOld
import Derived.Below
import Derived.Carry
import Derived.LaidMore
import Derived.SevenTiedAt
namespace Go.Proofs.YtanhoiikjneeaaaDoor.pageZero
open Go.ChangeShapes Go.WideShapes Go.ChangeAt Go.RowKit
set_option linter.unusedVariables false
set_option linter.unusedSimpArgs false

theorem zs_get (n j : Nat) (h : j < n) : (zs n).getD j 0 = 0 := by
  rw [zs, List.getD_eq_getElem?_getD, List.getElem?_replicate, if_pos h]; rfl
theorem okB_turned {k : Nat} (h : k < 256) (c : UInt8) : okB (patch (zs 256) k c) = decide (c = 0) := by
  have hl : k < (zs 256).length := by rw [zs_length]; exact h
  by_cases hc : c = 0
  · subst hc
    rw [patch_same hl (zs_get 256 k h), okB_some getP_zero]; rfl
  · rw [decide_eq_false hc]
    refine okB_none (getP_none ?_ ?_)
    · intro e
      have := patch_at hl c k
      rw [e, zs_get 256 k h, if_pos rfl] at this
      exact hc this.symm
    · rintro ⟨-, e⟩
      have h0 := (bytes_head (ofB (patch (zs 256) k c))).1
      have h1 := (bytes_head (ofB (patch (zs 256) k c))).2
      rw [e, patch_at hl c 0, zs_get 256 0 (by omega)] at h0
      rw [e, patch_at hl c 1, zs_get 256 1 (by omega)] at h1
      split at h0
      · split at h1
        · omega
        · exact absurd h1 (by decide)
      · exact absurd h0 (by decide)
theorem okB_zs : okB (zs 256) = true := okB_some getP_zero
theorem valB_zs : valB (zs 256) = free := valB_some getP_zero
set_option maxRecDepth 100000 in
set_option maxHeartbeats 8000000 in
theorem walk (a b : Int) (w : World) (wa : (Lit.int .i64 a).wf = true) (wb : (Lit.int .u8 b).wf = true) (hn : NamesAt w) :
    Calls Tryd.prog 4 #[.int .i64 a, .int .u8 b] w fun e w' => e = .returned (.bool true) ∧ Below w.heap.size w w' := by
  obtain ⟨c, rfl⟩ := u8_of_int b wb
  have HN := Lib.hid hn
  clear hn wa wb
  have A0 := Lib.hid (alive_yes w HN.out)
  have ZE := Lib.hid (fun w => zeros_ok 256 (by omega) w)
  have ZR := Lib.hid (fun w => zeros_ok 240 (by omega) w)
  have GE := Lib.hid (fun w => get_any (str (zs 256)) (by rw [str_size, zs_length]; unfold maxLen; omega) w)
  rw [str_toList, okB_zs, valB_zs] at GE
  unfold pvP pv free at GE
  have HDC := Lib.hid (show (decide (c = 0) == ((c.toNat : Int) == 0)) = true by
    rw [beq_iff_eq]
    by_cases hc : c = 0
    · subst hc; rfl
    · rw [decide_eq_false hc]
      refine Eq.symm (beq_eq_false_iff_ne.2 fun h => hc ?_)
      apply UInt8.toNat_inj.1
      have : c.toNat = 0 := by omega
      rw [this]; rfl)
  obtain ⟨k, hk, hka⟩ := place a 256 (by omega) (by omega)
  have hka' : (wrap64 (a.tmod 256 + 256)).tmod 256 = (k : Int) := hka
  have HE := Lib.hid (patch_str (zs 256) k 256 (by rw [zs_length]; omega) c)
  have GT := Lib.hid (fun w => get_any (str (patch (zs 256) k c)) (by rw [str_size, patch_length (by rw [zs_length]; exact hk), zs_length]; unfold maxLen; omega) w)
  rw [str_toList, okB_turned hk] at GT
  obtain ⟨q0, q1, q2, q3, hq⟩ : ∃ q0 q1 q2 q3, pvP (valB (patch (zs 256) k c)) = .agg #[.int .i64 q0, .int .i64 q1, .int .i64 q2, .string q3] := ⟨_, _, _, _, rfl⟩
  rw [hq] at GT
  clear hq hka
  obtain ⟨z, hz⟩ : ∃ z, z = str (zs 256) := ⟨_, rfl⟩
  have hzs : z.size = 256 := by rw [hz, str_size, zs_length]
  rw [← hz] at HE GE ZE
  obtain ⟨sA, hA⟩ : ∃ sA, sA = z.extract 0 k := ⟨_, rfl⟩
  obtain ⟨sB, hB⟩ : ∃ sB, sB = str [c] := ⟨_, rfl⟩
  obtain ⟨sC, hC⟩ : ∃ sC, sC = z.extract (k + 1) 256 := ⟨_, rfl⟩
  rw [← hA, ← hB, ← hC] at HE
  have hAs : sA.size = k := by rw [hA, hz, extract_str, str_size, List.length_take, zs_length]; omega
  have hBs : sB.size = 1 := by rw [hB]; rfl
  have hCs : sC.size = 255 - k := by rw [hC, hz, extract_str2 _ _ _ (by rw [zs_length]; omega), str_size, List.length_drop, zs_length]; omega
  rw [← HE.out] at GT
  have HA := Lib.hid hA.symm
  have HBB := Lib.hid hB
  have HCC := Lib.hid hC.symm
  clear hA hB hC hz HE
  have k0 : (0 : Int) ≤ (k : Int) := by omega
  have k1 : (k : Int) ≤ 256 := by omega
  have k2 : (k : Int) + 1 ≤ 256 := by omega
  have k3 : wrap64 ((k : Int) + 1) = (k : Int) + 1 := by unfold wrap64; omega
  have k3' : IntKind.i64.wrap ((k : Int) + 1) = (k : Int) + 1 := wrap_in _ (by omega) (by omega)
  have k4 : ((k : Int) + 1).toNat = k + 1 := by omega
  have k6 : k ≤ 9223372036854775806 := by omega
  have k7 : k + 1 + (255 - k) ≤ 9223372036854775807 := by omega
  have k5 : (0 : Int) ≤ (k : Int) + 1 := by omega
  have hss : ((str (zs 240)).toList == (str (zs 240)).toList) = true := by simp
  generalize str (zs 240) = y at *
  go_enter Tryd.func4, Tryd.ntmps4
  go_wp2_with fail
  refine A0.out.mono ?_; rintro e w1 ⟨rfl, hb⟩
  have HB := Lib.hid hb
  clear hb A0
  go_wp2_with fail
  refine (ZE.out _).mono ?_; rintro e w2 ⟨rfl, hb⟩
  have HB2 := Lib.hid (HB.out.trans (hb.mono (Below.size HB.out)))
  clear hb HB ZE
  go_wp2_with fail
  refine (GE.out _).mono ?_; rintro e w3 ⟨rfl, hb⟩
  have HB3 := Lib.hid (HB2.out.trans (hb.mono (Below.size HB2.out)))
  clear hb HB2 GE
  go_wp2_with fail
  have hx := Box.new w3 (.int .i64 0) (.int .i64 0) (.int .i64 0) (.string y)
  have HB4 := Lib.hid (HB3.out.alloc (Below.size HB3.out) (.cells #[.int .i64 0, .int .i64 0, .int .i64 0, .string y] 23))
  clear HB3
  generalize w3.alloc (.cells #[.int .i64 0, .int .i64 0, .int .i64 0, .string y] 23) = X at *
  have hc0 := fun r (h : Held X r) => Held.cell h hx.cells.1
  have hc3 := fun r (h : Held X r) => Held.cell h hx.cells.2.2.2
  clear hx
  go_region_held3 (fun w' => Held X w') (first | exact Held.start _ | exact Held.step (by assumption) (by assumption)) (first
    | (go_at_call 15; refine (ZR.out _).mono ?_; rintro e U ⟨rfl, hb⟩))
  have hU := ‹Held X U›
  have HB5 := Lib.hid (HB4.out.trans (Below.mono hU (Below.size HB4.out)))
  clear HB4 hc0 hc3 hU hb
  go_wp2_with fail
  refine wp_region_noPanic ?_
  refine wp_region_held_drew (S := Held U) (by kernel_rfl) ?_ (fun hHeld => ?_)
  · exact (Below.refl _ _).drew
  refine wpAnyH_take (i := 0) (oi := { dst := some 37, op := Op.move (Operand.tmp 5), type := 9, pos := "law.go:53", after := #[], guard := none }) (v := .string z) rfl (by kernel_rfl) (by kernel_rfl) (by kernel_rfl) (fun _ _ _ h => h) (Or.inl ⟨by rfl, fun w' hSw => by ((try dsimp only at hSw); go_simp)⟩) (by assumption) ?_
  (try simp only [Act.put, List.setIfInBounds_toArray, List.set_cons_zero, List.set_cons_succ])
  refine wpAnyH_take (i := 1) (oi := { dst := some 38, op := Op.move (Operand.tmp 8), type := 3, pos := "law.go:53", after := #[], guard := none }) (v := .int .i64 k) rfl (by kernel_rfl) (by kernel_rfl) (by kernel_rfl) (fun _ _ _ h => h) (Or.inl ⟨by rfl, fun w' hSw => by ((try dsimp only at hSw); go_simp)⟩) (by assumption) ?_
  (try simp only [Act.put, List.setIfInBounds_toArray, List.set_cons_zero, List.set_cons_succ])
  refine wpAnyH_take (i := 2) (oi := { dst := some 39, op := Op.slice 9 (Operand.tmp 37) none (some (Operand.tmp 38)) none, type := 9, pos := "law.go:53", after := #[{ on := 0, ground := Ground.data }, { on := 1, ground := Ground.data }], guard := none }) (v := .string sA) rfl (by kernel_rfl) (by kernel_rfl) (by kernel_rfl) (fun _ _ _ h => h) (Or.inl ⟨by rfl, fun w' hSw => by ((try dsimp only at hSw); have := HA.out; go_simp)⟩) (by assumption) ?_
  (try simp only [Act.put, List.setIfInBounds_toArray, List.set_cons_zero, List.set_cons_succ])
  refine wpAnyH_take (i := 3) (oi := { dst := some 40, op := Op.move (Operand.tmp 1), type := 5, pos := "law.go:53", after := #[], guard := none }) (v := .int .u8 (c.toNat : Int)) rfl (by kernel_rfl) (by kernel_rfl) (by kernel_rfl) (fun _ _ _ h => h) (Or.inl ⟨by rfl, fun w' hSw => by ((try dsimp only at hSw); go_simp)⟩) (by assumption) ?_
  (try simp only [Act.put, List.setIfInBounds_toArray, List.set_cons_zero, List.set_cons_succ])
  refine wpAnyH_take (i := 7) (oi := { dst := some 44, op := Op.move (Operand.tmp 5), type := 9, pos := "law.go:53", after := #[], guard := none }) (v := .string z) rfl (by kernel_rfl) (by kernel_rfl) (by kernel_rfl) (fun _ _ _ h => h) (Or.inl ⟨by rfl, fun w' hSw => by ((try dsimp only at hSw); go_simp)⟩) (by assumption) ?_
  (try simp only [Act.put, List.setIfInBounds_toArray, List.set_cons_zero, List.set_cons_succ])
  refine wpAnyH_take (i := 8) (oi := { dst := some 45, op := Op.move (Operand.tmp 8), type := 3, pos := "law.go:53", after := #[], guard := none }) (v := .int .i64 k) rfl (by kernel_rfl) (by kernel_rfl) (by kernel_rfl) (fun _ _ _ h => h) (Or.inl ⟨by rfl, fun w' hSw => by ((try dsimp only at hSw); go_simp)⟩) (by assumption) ?_
  (try simp only [Act.put, List.setIfInBounds_toArray, List.set_cons_zero, List.set_cons_succ])
  refine wpAnyH_take (i := 9) (oi := { dst := some 46, op := Op.binOp BinOp.add 3 (Operand.tmp 45) (Operand.const (Value.int IntKind.i64 1)) 3, type := 3, pos := "law.go:53", after := #[{ on := 8, ground := Ground.data }], guard := none }) (v := .int .i64 ((k : Int) + 1)) rfl (by kernel_rfl) (by kernel_rfl) (by kernel_rfl) (fun _ _ _ h => h) (Or.inl ⟨by rfl, fun w' hSw => by ((try dsimp only at hSw); go_simp)⟩) (by assumption) ?_
  (try simp only [Act.put, List.setIfInBounds_toArray, List.set_cons_zero, List.set_cons_succ])
  refine wpAnyH_take (i := 10) (oi := { dst := some 47, op := Op.slice 9 (Operand.tmp 44) (some (Operand.tmp 46)) none none, type := 9, pos := "law.go:53", after := #[{ on := 7, ground := Ground.data }, { on := 9, ground := Ground.data }], guard := none }) (v := .string sC) rfl (by kernel_rfl) (by kernel_rfl) (by kernel_rfl) (fun _ _ _ h => h) (Or.inl ⟨by rfl, fun w' hSw => by ((try dsimp only at hSw); have := HCC.out; go_simp)⟩) (by assumption) ?_
  (try simp only [Act.put, List.setIfInBounds_toArray, List.set_cons_zero, List.set_cons_succ])
  refine wpAnyH_ready (rs := [4, 16]) (by kernel_rfl) (by simp) ?_
  refine AllReadyH.cons (o := { dst := some 41, op := Op.buildSlice 33 1 #[(0, Operand.tmp 40)], type := 33, pos := "law.go:53", after := #[{ on := 3, ground := Ground.data }], guard := none }) rfl (fun K hK => ?_) ?_
  · go_simp
    refine hK.out _ _ ?_ (fun hHeld => ?_)
    · exact Held.step (by assumption) ((Below.refl _ _).alloc (Nat.le_refl _) _)
    clear hK K
    (try simp only [Act.put, List.setIfInBounds_toArray, List.set_cons_zero, List.set_cons_succ])
    have hRow : HR U (U.heap.size) c _ := ⟨hHeld, heap_alloc_new U (.cells #[.int .u8 (c.toNat : Int)] 5)⟩
    refine wpAnyH_mono (S' := HR U (U.heap.size) c) (fun r h => h.1) ?_
    replace hHeld := hRow
    clear hRow
    refine wpAnyH_take (i := 5) (oi := { dst := some 42, op := Op.convert 33 9 (Operand.tmp 41), type := 9, pos := "law.go:53", after := #[{ on := 4, ground := Ground.data }], guard := none }) (v := .string sB) rfl (by kernel_rfl) (by kernel_rfl) (by kernel_rfl) (fun _ _ _ h => h) (Or.inl ⟨by rfl, fun w' hSw => by ((try dsimp only at hSw); have := HR.convert hSw; rw [HBB.out]; go_simp)⟩) (by assumption) ?_
    (try simp only [Act.put, List.setIfInBounds_toArray, List.set_cons_zero, List.set_cons_succ])
    refine wpAnyH_take (i := 6) (oi := { dst := some 43, op := Op.binOp BinOp.add 9 (Operand.tmp 39) (Operand.tmp 42) 9, type := 9, pos := "law.go:53", after := #[{ on := 2, ground := Ground.data }, { on := 5, ground := Ground.data }], guard := none }) (v := .string (sA ++ sB)) rfl (by kernel_rfl) (by kernel_rfl) (by kernel_rfl) (fun _ _ _ h => h) (Or.inl ⟨by rfl, fun w' hSw => by ((try dsimp only at hSw); go_simp)⟩) (by assumption) ?_
    (try simp only [Act.put, List.setIfInBounds_toArray, List.set_cons_zero, List.set_cons_succ])
    refine wpAnyH_take (i := 11) (oi := { dst := some 48, op := Op.binOp BinOp.add 9 (Operand.tmp 43) (Operand.tmp 47) 9, type := 9, pos := "law.go:53", after := #[{ on := 6, ground := Ground.data }, { on := 10, ground := Ground.data }], guard := none }) (v := .string (sA ++ sB ++ sC)) rfl (by kernel_rfl) (by kernel_rfl) (by kernel_rfl) (fun _ _ _ h => h) (Or.inl ⟨by rfl, fun w' hSw => by ((try dsimp only at hSw); go_simp)⟩) (by assumption) ?_
    (try simp only [Act.put, List.setIfInBounds_toArray, List.set_cons_zero, List.set_cons_succ])
    refine wpAnyH_ready (rs := [12, 16]) (by kernel_rfl) (by simp) ?_
    refine AllReadyH.cons (o := { dst := some 49, op := Op.call { callee := Callee.value (Operand.func 12), args := #[Operand.tmp 48], argTypes := #[9] }, type := 27, pos := "law.go:53", after := #[{ on := 11, ground := Ground.data }], guard := none }) rfl (fun K hK => ?_) ?_
    · go_simp; go_at_call 12; refine (GT.out _).mono ?_; rintro e w5 ⟨rfl, hb5⟩
      refine hK.out _ _ ?_ (fun hHeld => ?_)
      · exact HR.step (by assumption) hb5
      clear hK K
      (try simp only [Act.put, List.setIfInBounds_toArray, List.set_cons_zero, List.set_cons_succ])
      refine wpAnyH_take (i := 13) (oi := { dst := some 36, op := Op.move (Operand.tmp 49), type := 27, pos := "law.go:53", after := #[{ on := 12, ground := Ground.data }], guard := none }) (v := .tuple #[.agg #[.int .i64 q0, .int .i64 q1, .int .i64 q2, .string q3], .bool (decide (c = 0))]) rfl (by kernel_rfl) (by kernel_rfl) (by kernel_rfl) (fun _ _ _ h => h) (Or.inl ⟨by rfl, fun w' hSw => by ((try dsimp only at hSw); go_simp)⟩) (by assumption) ?_
      (try simp only [Act.put, List.setIfInBounds_toArray, List.set_cons_zero, List.set_cons_succ])
      refine wpAnyH_take (i := 14) (oi := { dst := some 50, op := Op.extract (Operand.tmp 36) 0, type := 23, pos := "law.go:53", after := #[{ on := 13, ground := Ground.data }], guard := none }) (v := .agg #[.int .i64 q0, .int .i64 q1, .int .i64 q2, .string q3]) rfl (by kernel_rfl) (by kernel_rfl) (by kernel_rfl) (fun _ _ _ h => h) (Or.inl ⟨by rfl, fun w' hSw => by ((try dsimp only at hSw); go_simp)⟩) (by assumption) ?_
      (try simp only [Act.put, List.setIfInBounds_toArray, List.set_cons_zero, List.set_cons_succ])
      refine wpAnyH_take (i := 15) (oi := { dst := some 51, op := Op.extract (Operand.tmp 36) 1, type := 4, pos := "law.go:53", after := #[{ on := 13, ground := Ground.data }, { on := 17, ground := Ground.gcOnly Go.Departure.lateStores }], guard := none }) (v := .bool (decide (c = 0))) rfl (by kernel_rfl) (by kernel_rfl) (by kernel_rfl) (fun _ _ _ h => h) (Or.inl ⟨by rfl, fun w' hSw => by ((try dsimp only at hSw); go_simp)⟩) (by assumption) ?_
      (try simp only [Act.put, List.setIfInBounds_toArray, List.set_cons_zero, List.set_cons_succ])
      have hPre := hHeld
      refine wpAnyH_ready (rs := [16]) (by kernel_rfl) (by simp) ?_
      refine AllReadyH.cons (o := { dst := some 9, op := Op.alloc 23, type := 0, pos := "law.go:53", after := #[], guard := none }) rfl (fun K hK => ?_) ?_
      · go_simp
        refine hK.out _ _ ?_ (fun hHeld => ?_)
        · exact HR.alloc (by assumption) _
        clear hK K
        (try simp only [Act.put, List.setIfInBounds_toArray, List.set_cons_zero, List.set_cons_succ])
        refine wpAnyH_ready (rs := [17]) (by kernel_rfl) (by simp) ?_
        refine AllReadyH.cons (o := { dst := none, op := Op.store 23 (Operand.tmp 9) (Operand.tmp 50), type := 0, pos := "law.go:53", after := #[{ on := 16, ground := Ground.data }, { on := 14, ground := Ground.data }, { on := 12, ground := Ground.chain }, { on := 0, ground := Ground.phase }, { on := 1, ground := Ground.phase }, { on := 2, ground := Ground.phase }, { on := 3, ground := Ground.phase }, { on := 4, ground := Ground.phase }, { on := 5, ground := Ground.phase }, { on := 6, ground := Ground.phase }, { on := 7, ground := Ground.phase }, { on := 8, ground := Ground.phase }, { on := 9, ground := Ground.phase }, { on := 10, ground := Ground.phase }, { on := 11, ground := Ground.phase }, { on := 12, ground := Ground.phase }, { on := 13, ground := Ground.phase }, { on := 14, ground := Ground.phase }, { on := 15, ground := Ground.textOnly Go.Departure.lateStores }, { on := 16, ground := Ground.phase }], guard := none }) rfl (fun K hK => ?_) ?_
        · go_simp
          refine hK.out _ _ ?_ (fun hHeld => ?_)
          · exact HR.alloc hPre _
          clear hK K
          (try simp only [Act.put, List.setIfInBounds_toArray, List.set_cons_zero, List.set_cons_succ])
          refine wpAnyH_take (i := 18) (oi := { dst := some 10, op := Op.assign (Operand.tmp 51), type := 4, pos := "law.go:53", after := #[{ on := 15, ground := Ground.data }, { on := 17, ground := Ground.chain }, { on := 0, ground := Ground.phase }, { on := 1, ground := Ground.phase }, { on := 2, ground := Ground.phase }, { on := 3, ground := Ground.phase }, { on := 4, ground := Ground.phase }, { on := 5, ground := Ground.phase }, { on := 6, ground := Ground.phase }, { on := 7, ground := Ground.phase }, { on := 8, ground := Ground.phase }, { on := 9, ground := Ground.phase }, { on := 10, ground := Ground.phase }, { on := 11, ground := Ground.phase }, { on := 12, ground := Ground.phase }, { on := 13, ground := Ground.phase }, { on := 14, ground := Ground.phase }, { on := 15, ground := Ground.phase }, { on := 16, ground := Ground.phase }, { on := 17, ground := Ground.phase }], guard := none }) (v := .bool (decide (c = 0))) rfl (by kernel_rfl) (by kernel_rfl) (by kernel_rfl) (fun _ _ _ h => h) (Or.inl ⟨by rfl, fun w' hSw => by ((try dsimp only at hSw); go_simp)⟩) (by assumption) ?_
          (try simp only [Act.put, List.setIfInBounds_toArray, List.set_cons_zero, List.set_cons_succ])
          refine wpAnyH_done (by kernel_rfl) ?_ _
          refine NoPanic.normal ?_
          have HF := Lib.hid (HB5.out.trans (Below.mono hHeld.1 (Below.size HB5.out)))
          clear hHeld
          go_wp2_with fail
          rw [HDC.out]
          go_ret
          exact ⟨rfl, HF.out⟩
        exact AllReadyH.nil
      exact AllReadyH.nil
    refine AllReadyH.cons (o := { dst := some 9, op := Op.alloc 23, type := 0, pos := "law.go:53", after := #[], guard := none }) rfl (fun K hK => ?_) ?_
    · go_simp
      refine hK.out _ _ ?_ (fun hHeld => ?_)
      · exact HR.alloc (by assumption) _
      clear hK K
      (try simp only [Act.put, List.setIfInBounds_toArray, List.set_cons_zero, List.set_cons_succ])
      refine wpAnyH_ready (rs := [12]) (by kernel_rfl) (by simp) ?_
      refine AllReadyH.cons (o := { dst := some 49, op := Op.call { callee := Callee.value (Operand.func 12), args := #[Operand.tmp 48], argTypes := #[9] }, type := 27, pos := "law.go:53", after := #[{ on := 11, ground := Ground.data }], guard := none }) rfl (fun K hK => ?_) ?_
      · go_simp; go_at_call 12; refine (GT.out _).mono ?_; rintro e w5 ⟨rfl, hb5⟩
        refine hK.out _ _ ?_ (fun hHeld => ?_)
        · exact HR.step (by assumption) hb5
        clear hK K
        (try simp only [Act.put, List.setIfInBounds_toArray, List.set_cons_zero, List.set_cons_succ])
        refine wpAnyH_take (i := 13) (oi := { dst := some 36, op := Op.move (Operand.tmp 49), type := 27, pos := "law.go:53", after := #[{ on := 12, ground := Ground.data }], guard := none }) (v := .tuple #[.agg #[.int .i64 q0, .int .i64 q1, .int .i64 q2, .string q3], .bool (decide (c = 0))]) rfl (by kernel_rfl) (by kernel_rfl) (by kernel_rfl) (fun _ _ _ h => h) (Or.inl ⟨by rfl, fun w' hSw => by ((try dsimp only at hSw); go_simp)⟩) (by assumption) ?_
        (try simp only [Act.put, List.setIfInBounds_toArray, List.set_cons_zero, List.set_cons_succ])
        refine wpAnyH_take (i := 14) (oi := { dst := some 50, op := Op.extract (Operand.tmp 36) 0, type := 23, pos := "law.go:53", after := #[{ on := 13, ground := Ground.data }], guard := none }) (v := .agg #[.int .i64 q0, .int .i64 q1, .int .i64 q2, .string q3]) rfl (by kernel_rfl) (by kernel_rfl) (by kernel_rfl) (fun _ _ _ h => h) (Or.inl ⟨by rfl, fun w' hSw => by ((try dsimp only at hSw); go_simp)⟩) (by assumption) ?_
        (try simp only [Act.put, List.setIfInBounds_toArray, List.set_cons_zero, List.set_cons_succ])
        refine wpAnyH_take (i := 15) (oi := { dst := some 51, op := Op.extract (Operand.tmp 36) 1, type := 4, pos := "law.go:53", after := #[{ on := 13, ground := Ground.data }, { on := 17, ground := Ground.gcOnly Go.Departure.lateStores }], guard := none }) (v := .bool (decide (c = 0))) rfl (by kernel_rfl) (by kernel_rfl) (by kernel_rfl) (fun _ _ _ h => h) (Or.inl ⟨by rfl, fun w' hSw => by ((try dsimp only at hSw); go_simp)⟩) (by assumption) ?_
        (try simp only [Act.put, List.setIfInBounds_toArray, List.set_cons_zero, List.set_cons_succ])
        have HY := Lib.hid (show Box w5 (U.heap.size + 1) _ _ _ _ from (show Box (((U.alloc (.cells #[.int .u8 (c.toNat : Int)] 5)).alloc (.cells #[.int .i64 0, .int .i64 0, .int .i64 0, .string ⟨#[]⟩] 23)).drew) (U.heap.size + 1) _ _ _ _ from by rw [show U.heap.size + 1 = (U.alloc (.cells #[.int .u8 (c.toNat : Int)] 5)).heap.size by simp]; exact Box.new (U.alloc (.cells #[.int .u8 (c.toNat : Int)] 5)) (.int .i64 0) (.int .i64 0) (.int .i64 0) (.string ⟨#[]⟩)).kept hb5)
        obtain ⟨⟨z0, z1, z2, z3⟩, g0, g1, g2, g3⟩ := And.intro HY.out.cells HY.out.free
        refine wpAnyH_ready (rs := [17]) (by kernel_rfl) (by simp) ?_
        refine AllReadyH.cons (o := { dst := none, op := Op.store 23 (Operand.tmp 9) (Operand.tmp 50), type := 0, pos := "law.go:53", after := #[{ on := 16, ground := Ground.data }, { on := 14, ground := Ground.data }, { on := 12, ground := Ground.chain }, { on := 0, ground := Ground.phase }, { on := 1, ground := Ground.phase }, { on := 2, ground := Ground.phase }, { on := 3, ground := Ground.phase }, { on := 4, ground := Ground.phase }, { on := 5, ground := Ground.phase }, { on := 6, ground := Ground.phase }, { on := 7, ground := Ground.phase }, { on := 8, ground := Ground.phase }, { on := 9, ground := Ground.phase }, { on := 10, ground := Ground.phase }, { on := 11, ground := Ground.phase }, { on := 12, ground := Ground.phase }, { on := 13, ground := Ground.phase }, { on := 14, ground := Ground.phase }, { on := 15, ground := Ground.textOnly Go.Departure.lateStores }, { on := 16, ground := Ground.phase }], guard := none }) rfl (fun K hK => ?_) ?_
        · go_simp
          refine hK.out _ _ ?_ (fun hHeld => ?_)
          · exact HR.set4 (by assumption) (by omega) (by omega) _ _ _ _
          clear hK K
          (try simp only [Act.put, List.setIfInBounds_toArray, List.set_cons_zero, List.set_cons_succ])
          refine wpAnyH_take (i := 18) (oi := { dst := some 10, op := Op.assign (Operand.tmp 51), type := 4, pos := "law.go:53", after := #[{ on := 15, ground := Ground.data }, { on := 17, ground := Ground.chain }, { on := 0, ground := Ground.phase }, { on := 1, ground := Ground.phase }, { on := 2, ground := Ground.phase }, { on := 3, ground := Ground.phase }, { on := 4, ground := Ground.phase }, { on := 5, ground := Ground.phase }, { on := 6, ground := Ground.phase }, { on := 7, ground := Ground.phase }, { on := 8, ground := Ground.phase }, { on := 9, ground := Ground.phase }, { on := 10, ground := Ground.phase }, { on := 11, ground := Ground.phase }, { on := 12, ground := Ground.phase }, { on := 13, ground := Ground.phase }, { on := 14, ground := Ground.phase }, { on := 15, ground := Ground.phase }, { on := 16, ground := Ground.phase }, { on := 17, ground := Ground.phase }], guard := none }) (v := .bool (decide (c = 0))) rfl (by kernel_rfl) (by kernel_rfl) (by kernel_rfl) (fun _ _ _ h => h) (Or.inl ⟨by rfl, fun w' hSw => by ((try dsimp only at hSw); go_simp)⟩) (by assumption) ?_
          (try simp only [Act.put, List.setIfInBounds_toArray, List.set_cons_zero, List.set_cons_succ])
          refine wpAnyH_done (by kernel_rfl) ?_ _
          refine NoPanic.normal ?_
          have HF := Lib.hid (HB5.out.trans (Below.mono hHeld.1 (Below.size HB5.out)))
          clear hHeld
          go_wp2_with fail
          rw [HDC.out]
          go_ret
          exact ⟨rfl, HF.out⟩
        exact AllReadyH.nil
      exact AllReadyH.nil
    exact AllReadyH.nil
  refine AllReadyH.cons (o := { dst := some 9, op := Op.alloc 23, type := 0, pos := "law.go:53", after := #[], guard := none }) rfl (fun K hK => ?_) ?_
  · go_simp
    refine hK.out _ _ ?_ (fun hHeld => ?_)
    · exact Held.step (by assumption) ((Below.refl _ _).alloc (Nat.le_refl _) _)
    clear hK K
    (try simp only [Act.put, List.setIfInBounds_toArray, List.set_cons_zero, List.set_cons_succ])
    refine wpAnyH_ready (rs := [4]) (by kernel_rfl) (by simp) ?_
    refine AllReadyH.cons (o := { dst := some 41, op := Op.buildSlice 33 1 #[(0, Operand.tmp 40)], type := 33, pos := "law.go:53", after := #[{ on := 3, ground := Ground.data }], guard := none }) rfl (fun K hK => ?_) ?_
    · go_simp
      refine hK.out _ _ ?_ (fun hHeld => ?_)
      · exact Held.step (by assumption) ((Below.refl _ _).alloc (Nat.le_refl _) _)
      clear hK K
      (try simp only [Act.put, List.setIfInBounds_toArray, List.set_cons_zero, List.set_cons_succ])
      have hRow : HR U (U.heap.size + 1) c _ := ⟨hHeld, by rw [show U.heap.size + 1 = (U.alloc (.cells #[.int .i64 0, .int .i64 0, .int .i64 0, .string ⟨#[]⟩] 23)).heap.size by simp]; exact heap_alloc_new (U.alloc (.cells #[.int .i64 0, .int .i64 0, .int .i64 0, .string ⟨#[]⟩] 23)) (.cells #[.int .u8 (c.toNat : Int)] 5)⟩
      refine wpAnyH_mono (S' := HR U (U.heap.size + 1) c) (fun r h => h.1) ?_
      replace hHeld := hRow
      clear hRow
      refine wpAnyH_take (i := 5) (oi := { dst := some 42, op := Op.convert 33 9 (Operand.tmp 41), type := 9, pos := "law.go:53", after := #[{ on := 4, ground := Ground.data }], guard := none }) (v := .string sB) rfl (by kernel_rfl) (by kernel_rfl) (by kernel_rfl) (fun _ _ _ h => h) (Or.inl ⟨by rfl, fun w' hSw => by ((try dsimp only at hSw); have := HR.convert hSw; rw [HBB.out]; go_simp)⟩) (by assumption) ?_
      (try simp only [Act.put, List.setIfInBounds_toArray, List.set_cons_zero, List.set_cons_succ])
      refine wpAnyH_take (i := 6) (oi := { dst := some 43, op := Op.binOp BinOp.add 9 (Operand.tmp 39) (Operand.tmp 42) 9, type := 9, pos := "law.go:53", after := #[{ on := 2, ground := Ground.data }, { on := 5, ground := Ground.data }], guard := none }) (v := .string (sA ++ sB)) rfl (by kernel_rfl) (by kernel_rfl) (by kernel_rfl) (fun _ _ _ h => h) (Or.inl ⟨by rfl, fun w' hSw => by ((try dsimp only at hSw); go_simp)⟩) (by assumption) ?_
      (try simp only [Act.put, List.setIfInBounds_toArray, List.set_cons_zero, List.set_cons_succ])
      refine wpAnyH_take (i := 11) (oi := { dst := some 48, op := Op.binOp BinOp.add 9 (Operand.tmp 43) (Operand.tmp 47) 9, type := 9, pos := "law.go:53", after := #[{ on := 6, ground := Ground.data }, { on := 10, ground := Ground.data }], guard := none }) (v := .string (sA ++ sB ++ sC)) rfl (by kernel_rfl) (by kernel_rfl) (by kernel_rfl) (fun _ _ _ h => h) (Or.inl ⟨by rfl, fun w' hSw => by ((try dsimp only at hSw); go_simp)⟩) (by assumption) ?_
      (try simp only [Act.put, List.setIfInBounds_toArray, List.set_cons_zero, List.set_cons_succ])
      refine wpAnyH_ready (rs := [12]) (by kernel_rfl) (by simp) ?_
      refine AllReadyH.cons (o := { dst := some 49, op := Op.call { callee := Callee.value (Operand.func 12), args := #[Operand.tmp 48], argTypes := #[9] }, type := 27, pos := "law.go:53", after := #[{ on := 11, ground := Ground.data }], guard := none }) rfl (fun K hK => ?_) ?_
      · go_simp; go_at_call 12; refine (GT.out _).mono ?_; rintro e w5 ⟨rfl, hb5⟩
        refine hK.out _ _ ?_ (fun hHeld => ?_)
        · exact HR.step (by assumption) hb5
        clear hK K
        (try simp only [Act.put, List.setIfInBounds_toArray, List.set_cons_zero, List.set_cons_succ])
        refine wpAnyH_take (i := 13) (oi := { dst := some 36, op := Op.move (Operand.tmp 49), type := 27, pos := "law.go:53", after := #[{ on := 12, ground := Ground.data }], guard := none }) (v := .tuple #[.agg #[.int .i64 q0, .int .i64 q1, .int .i64 q2, .string q3], .bool (decide (c = 0))]) rfl (by kernel_rfl) (by kernel_rfl) (by kernel_rfl) (fun _ _ _ h => h) (Or.inl ⟨by rfl, fun w' hSw => by ((try dsimp only at hSw); go_simp)⟩) (by assumption) ?_
        (try simp only [Act.put, List.setIfInBounds_toArray, List.set_cons_zero, List.set_cons_succ])
        refine wpAnyH_take (i := 14) (oi := { dst := some 50, op := Op.extract (Operand.tmp 36) 0, type := 23, pos := "law.go:53", after := #[{ on := 13, ground := Ground.data }], guard := none }) (v := .agg #[.int .i64 q0, .int .i64 q1, .int .i64 q2, .string q3]) rfl (by kernel_rfl) (by kernel_rfl) (by kernel_rfl) (fun _ _ _ h => h) (Or.inl ⟨by rfl, fun w' hSw => by ((try dsimp only at hSw); go_simp)⟩) (by assumption) ?_
        (try simp only [Act.put, List.setIfInBounds_toArray, List.set_cons_zero, List.set_cons_succ])
        refine wpAnyH_take (i := 15) (oi := { dst := some 51, op := Op.extract (Operand.tmp 36) 1, type := 4, pos := "law.go:53", after := #[{ on := 13, ground := Ground.data }, { on := 17, ground := Ground.gcOnly Go.Departure.lateStores }], guard := none }) (v := .bool (decide (c = 0))) rfl (by kernel_rfl) (by kernel_rfl) (by kernel_rfl) (fun _ _ _ h => h) (Or.inl ⟨by rfl, fun w' hSw => by ((try dsimp only at hSw); go_simp)⟩) (by assumption) ?_
        (try simp only [Act.put, List.setIfInBounds_toArray, List.set_cons_zero, List.set_cons_succ])
        have HY := Lib.hid (show Box w5 (U.heap.size) _ _ _ _ from (show Box (((U.alloc (.cells #[.int .i64 0, .int .i64 0, .int .i64 0, .string ⟨#[]⟩] 23)).alloc (.cells #[.int .u8 (c.toNat : Int)] 5)).drew) U.heap.size _ _ _ _ from (Box.new U (.int .i64 0) (.int .i64 0) (.int .i64 0) (.string ⟨#[]⟩)).kept (Below.drew ((Below.refl _ _).alloc (Nat.le_refl _) _))).kept hb5)
        obtain ⟨⟨z0, z1, z2, z3⟩, g0, g1, g2, g3⟩ := And.intro HY.out.cells HY.out.free
        refine wpAnyH_ready (rs := [17]) (by kernel_rfl) (by simp) ?_
        refine AllReadyH.cons (o := { dst := none, op := Op.store 23 (Operand.tmp 9) (Operand.tmp 50), type := 0, pos := "law.go:53", after := #[{ on := 16, ground := Ground.data }, { on := 14, ground := Ground.data }, { on := 12, ground := Ground.chain }, { on := 0, ground := Ground.phase }, { on := 1, ground := Ground.phase }, { on := 2, ground := Ground.phase }, { on := 3, ground := Ground.phase }, { on := 4, ground := Ground.phase }, { on := 5, ground := Ground.phase }, { on := 6, ground := Ground.phase }, { on := 7, ground := Ground.phase }, { on := 8, ground := Ground.phase }, { on := 9, ground := Ground.phase }, { on := 10, ground := Ground.phase }, { on := 11, ground := Ground.phase }, { on := 12, ground := Ground.phase }, { on := 13, ground := Ground.phase }, { on := 14, ground := Ground.phase }, { on := 15, ground := Ground.textOnly Go.Departure.lateStores }, { on := 16, ground := Ground.phase }], guard := none }) rfl (fun K hK => ?_) ?_
        · go_simp
          refine hK.out _ _ ?_ (fun hHeld => ?_)
          · exact HR.set4 (by assumption) (Nat.le_refl _) (by omega) _ _ _ _
          clear hK K
          (try simp only [Act.put, List.setIfInBounds_toArray, List.set_cons_zero, List.set_cons_succ])
          refine wpAnyH_take (i := 18) (oi := { dst := some 10, op := Op.assign (Operand.tmp 51), type := 4, pos := "law.go:53", after := #[{ on := 15, ground := Ground.data }, { on := 17, ground := Ground.chain }, { on := 0, ground := Ground.phase }, { on := 1, ground := Ground.phase }, { on := 2, ground := Ground.phase }, { on := 3, ground := Ground.phase }, { on := 4, ground := Ground.phase }, { on := 5, ground := Ground.phase }, { on := 6, ground := Ground.phase }, { on := 7, ground := Ground.phase }, { on := 8, ground := Ground.phase }, { on := 9, ground := Ground.phase }, { on := 10, ground := Ground.phase }, { on := 11, ground := Ground.phase }, { on := 12, ground := Ground.phase }, { on := 13, ground := Ground.phase }, { on := 14, ground := Ground.phase }, { on := 15, ground := Ground.phase }, { on := 16, ground := Ground.phase }, { on := 17, ground := Ground.phase }], guard := none }) (v := .bool (decide (c = 0))) rfl (by kernel_rfl) (by kernel_rfl) (by kernel_rfl) (fun _ _ _ h => h) (Or.inl ⟨by rfl, fun w' hSw => by ((try dsimp only at hSw); go_simp)⟩) (by assumption) ?_
          (try simp only [Act.put, List.setIfInBounds_toArray, List.set_cons_zero, List.set_cons_succ])
          refine wpAnyH_done (by kernel_rfl) ?_ _
          refine NoPanic.normal ?_
          have HF := Lib.hid (HB5.out.trans (Below.mono hHeld.1 (Below.size HB5.out)))
          clear hHeld
          go_wp2_with fail
          rw [HDC.out]
          go_ret
          exact ⟨rfl, HF.out⟩
        exact AllReadyH.nil
      exact AllReadyH.nil
    exact AllReadyH.nil
  exact AllReadyH.nil

/-! The row's step. -/
set_option maxRecDepth 100000 in
theorem lifted (os : Os) (started : os.Started) (H : Type) (enc : TypeId × Value → H) :
    ReturnsInHanded {} Tryd.checked os 4 .any (fun w args => (Rows.pageZeroSpec.pre enc Tryd.prog Tryd.f4 [] false w args ∧ laidMetH Tryd.prog laidL w) ∧ sizedMet enc Tryd.prog Tryd.f4 (OpenSpec.ofChange Rows.pageZeroSpec) false w args)
      (Rows.pageZeroSpec.post enc Tryd.prog Tryd.f4 false true false false) := by
  refine returnsInHanded_of_change_and (C := Tryd.checked) (X := fun w _ => laidMetH Tryd.prog laidL w) (fun _ _ _ hh h => h.of_heap hh) own started (by kernel_rfl) Tryd.func4
    (ChangeSpec.witness_shaped (enc := enc) (C := Tryd.checked) (os := os) (X := fun w _ => laidMetH Tryd.prog laidL w) false (World.doorLaid Tryd.prog 400 os) #[.int .i64 0, .int .u8 0] 8 rfl (World.shaped_of_RefB (by kernel_rfl) (by kernel_rfl)) (by kernel_rfl) (by kernel_rfl) (by kernel_rfl) (door_met os _)) ?_
  intro W base args ds gs before hval0 hW _ _ hL _
  have hval : ∀ (j : Nat) t v, Tryd.f4.params[j]? = some t → args[j]? = some v → Value.okWide Tryd.prog W .any base t v := hval0
  have hW' := hW
  obtain ⟨p, q, hA0, hV, rfl, hfz, hnd⟩ := hW
  have hA : DataW.TrodAll enc Tryd.prog W 0 (fun _ => true) true Tryd.f4.params.toList args.toList ds p := hA0
  rw [Tryd.params4] at hA hval
  obtain ⟨v0, vs0, d0, ds0, p0, q0, hargs, rfl, rfl, h0, r0⟩ := trodAll_cons hA
  obtain ⟨v1, vs1, d1, ds1, p1, q1, rfl, rfl, rfl, h1, r1⟩ := trodAll_cons r0
  obtain ⟨rfl, rfl, rfl⟩ := trodAll_nil r1
  obtain rfl : args = #[v0, v1] := by cases args; simp_all
  obtain ⟨rfl, rfl⟩ := trodVars_none hV
  obtain ⟨a0, rfl, rfl, rfl, w0⟩ := open_int Tryd.underlying3 (hval 0 3 v0 rfl rfl) h0
  obtain ⟨a1, rfl, rfl, rfl, w1⟩ := open_int Tryd.underlying5 (hval 1 5 v1 rfl rfl) h1
  clear hA0 hval0
  refine (walk a0 a1 W w0 w1 (of_laid hL)).mono fun e W' ⟨he, bel⟩ => ?_
  subst he
  exact ⟨_, rfl, _, _, _, [], _, [], hW', trodAll_mk1 (shut_bool Tryd.underlying4 _), (trodAll_cons_mk (shut_int Tryd.underlying3 w0) (trodAll_cons_mk (shut_int Tryd.underlying5 w1) trodAll_mk0)), rfl, bel.frame _, fun h => by cases h⟩

/-- The row's statement. -/
theorem over : Rows.PageZeroSaid :=
  OpenClaim.holds_of_wide 4 Tryd.f4 rfl rfl rfl rfl rfl rfl rfl ⟨rfl, rfl, rfl, rfl, rfl⟩ rfl rfl rfl rfl rfl (by kernel_rfl) Tryd.func4 (by kernel_rfl)
    (of_decide_eq_true (by kernel_rfl)) (by unfold Func.isWrapper; first | (rw [if_pos (by decide +kernel)]; kernel_rfl) | (rw [if_neg (by decide +kernel)]; exact ⟨rfl, rfl⟩))
    (fun os started H enc _ => lifted os started H enc)

/-- The card. -/
theorem proved : Rows.PageZeroCardSaid :=
  Claim7.holds_tied_plain_at .later [] [.data] true Rows.pageZeroCard.stood.harness false
    over (fun _ h => by cases h) (by kernel_rfl) (fun _ h => by cases h) pageZero_row_tie rfl ⟨rfl, rfl⟩ (by kernel_rfl) rfl
    (fun f fn hf hfn => by
      obtain rfl : f = 4 := Option.some.inj ((show Tryd.prog.funcNamed "honeycomb/honeycomblaw5.PageZero" = some 4 by kernel_rfl).symm.trans hf) |>.symm
      obtain rfl : fn = Tryd.f4 := (Option.some.inj (Tryd.func4.symm.trans hfn)).symm
      exact ⟨by kernel_rfl, fun j t ht => by
        rw [Tryd.params4] at ht
        have hm : t ∈ [3, 5] := by simpa using Array.mem_of_getElem? ht
        have hall : ([3, 5].all fun u => !Tryd.prog.wantsStandIn u) = true := by kernel_rfl
        exact (show Tryd.prog.wantsStandIn t = false by simpa using List.all_eq_true.1 hall t hm)⟩)
    (by kernel_rfl)
end Go.Proofs.YtanhoiikjneeaaaDoor.pageZero
