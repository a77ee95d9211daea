/- For every three numbers, the first and the third within the bounds: a sector that is none, and bytes that are no sector, are refused, and do not count as a write. No condition. -/
import Derived.Test.YtbfboccjlplapaaRows
import Derived.Test.YtbfboccjlplapaaBase
import Derived.Lib.Hide
import Derived.WalkKit
import Derived.ProofKit
import Derived.OpenShut
import Derived.ChangeOld
import Derived.Below
import Derived.Carry
namespace Go.Proofs.Ytbfboccjlplapaa.diskEdges
open Go.ChangeShapes Go.WideShapes Go.ChangeAt Go.RowKit
set_option linter.unusedVariables false

theorem own : ownKnob Try.prog.godebug = none := by kernel_rfl
theorem laidOut : laidOutB Try.prog = true := by kernel_rfl


def fx : BA := fill [120]
theorem fill_x (w : World) : Calls Try.prog 18 #[.string ⟨#[120]⟩] w fun e w' => e = .returned (.string (str fx)) ∧ Below w.heap.size w w' := fill_ok ⟨#[120]⟩ (by decide) w
set_option maxRecDepth 100000 in
set_option maxHeartbeats 8000000 in
theorem walk (n at_ size : Int) (w : World) (hn : (Lit.int .i64 n).wf = true) (ha : (Lit.int .i64 at_).wf = true) (hm : (Lit.int .i64 size).wf = true) :
    Calls Try.prog 9 #[.int .i64 n, .int .i64 at_, .int .i64 size] w fun e w' => e = .returned (.bool true) ∧ Below w.heap.size w w' := by
  by_cases c0 : n < 1
  · have d0 : True := trivial
    go_enter Try.func9, Try.ntmps9
    go_wp2_with fail
    refine (alive_yes _).mono ?_; rintro e w1 ⟨rfl, hb1⟩
    have B1 := Lib.hid hb1
    clear hb1
    go_wp2_with fail
    go_ret
    exact ⟨rfl, B1.out⟩
  · have d0 : 1 ≤ n := by omega
    by_cases c1 : 60 < n
    · have d1 : True := trivial
      go_enter Try.func9, Try.ntmps9
      go_wp2_with fail
      refine (alive_yes _).mono ?_; rintro e w1 ⟨rfl, hb1⟩
      have B1 := Lib.hid hb1
      clear hb1
      go_wp2_with fail
      go_ret
      exact ⟨rfl, B1.out⟩
    · have d1 : n ≤ 60 := by omega
      by_cases c2 : size < 0
      · have d2 : True := trivial
        go_enter Try.func9, Try.ntmps9
        go_wp2_with fail
        refine (alive_yes _).mono ?_; rintro e w1 ⟨rfl, hb1⟩
        have B1 := Lib.hid hb1
        clear hb1
        go_wp2_with fail
        go_ret
        exact ⟨rfl, B1.out⟩
      · have d2 : 0 ≤ size := by omega
        by_cases c3 : 200 < size
        · have d3 : True := trivial
          go_enter Try.func9, Try.ntmps9
          go_wp2_with fail
          refine (alive_yes _).mono ?_; rintro e w1 ⟨rfl, hb1⟩
          have B1 := Lib.hid hb1
          clear hb1
          go_wp2_with fail
          go_ret
          exact ⟨rfl, B1.out⟩
        · have d3 : size ≤ 200 := by omega
          by_cases q0 : at_ < 0
          · have q1 : True := trivial
            obtain ⟨N, rfl⟩ : ∃ N : Nat, n = N := ⟨n.toNat, by omega⟩
            obtain ⟨S, rfl⟩ : ∃ S : Nat, size = S := ⟨size.toNat, by omega⟩
            obtain ⟨i0, hi, hz0, hz1, hz2⟩ := info_parts info_u8
            have hmk := fun w : World => run_make (P := Try.prog) w 49 5 i0 _ Try.underlying49 hi hz0 .i64 .i64 (S : Int) (S : Int) (by omega) (Int.le_refl _) (by rw [hz2]; omega) (by omega)
            rw [hz1] at hmk
            simp only [Int.toNat_natCast, Value.cells, Nat.mul_one] at hmk
            have hcv := fun W : World => convert_zeros W S
            unfold zRow at hcv
            obtain ⟨row, hrow⟩ : ∃ row, row = madeCells #[Value.int .u8 0] S := ⟨_, rfl⟩
            rw [← hrow] at hmk hcv
            obtain ⟨zs, hzs⟩ : ∃ zs, zs = str (List.replicate S 0) := ⟨_, rfl⟩
            rw [← hzs] at hcv
            have HZ := Lib.hid hzs
            clear hi hz0 hz1 hz2 hrow hzs
            go_enter Try.func9, Try.ntmps9
            go_wp2_with fail
            refine (alive_yes _).mono ?_; rintro e w1 ⟨rfl, hb1⟩
            have B1 := Lib.hid hb1
            clear hb1
            go_wp2_with fail
            refine (new_d N (by omega) (by omega) _).mono ?_; rintro e w2 ⟨rfl, h⟩
            obtain ⟨C, hC⟩ : ∃ C, C = w1.heap.size := ⟨_, rfl⟩
            rw [← hC] at h ⊢
            have H := Lib.hid h
            have HC := Lib.hid (show w.heap.size ≤ C by rw [hC]; exact B1.out.size)
            clear h hC
            go_wp2_with fail
            refine (stop_d H.out.1 1 (by omega) (by omega) rfl).mono ?_; rintro e w3 ⟨rfl, h⟩
            have H2 := Lib.hid (show After C (C + 1) ⟨List.replicate N zeroS, [], true, 1⟩ w1 w3 from H.out.then h)
            clear h H
            go_wp2_with fail
            have H3 := Lib.hid (H2.out.more ((Below.refl _ w3).alloc (Nat.le_refl _) (.cells row 5)) (Nat.le_refl _))
            refine (read_range_d H3.out.1 _ rfl (by simp; omega)).mono ?_; rintro e X4 ⟨rfl, rfl⟩
            go_wp2_with fail
            refine (write_range_d H3.out.1 _ _ rfl (by simp; omega)).mono ?_; rintro e X4 ⟨rfl, rfl⟩
            go_wp2_with fail
            refine (fill_x _).mono ?_; rintro e X4 ⟨rfl, h⟩
            have H4 := Lib.hid (H3.out.more h (Nat.le_refl _))
            clear h
            go_wp2_with fail
            refine (write_d H4.out.1 0 fx rfl (by simp; omega) (fill_length _) (by simp) (by simp)).mono ?_; rintro e X5 ⟨rfl, h⟩
            have H5 := Lib.hid (H4.out.then h)
            clear h
            go_wp2_with fail
            have hd : Calls Try.prog 23 #[ptr (C + 1)] X5 fun e w' => e = .returned (.int .i64 N) ∧ X5 = w' := by have := sectors_d H5.out.1; simpa [wrote] using this
            refine hd.mono ?_; rintro e X6 ⟨rfl, rfl⟩
            clear hd
            go_wp2_with fail
            go_ret
            exact ⟨rfl, B1.out.trans (H5.out.2.below.mono HC.out)⟩
          · by_cases q1 : n ≤ at_
            · have q2 : ¬ at_ < 0 := q0
              obtain ⟨N, rfl⟩ : ∃ N : Nat, n = N := ⟨n.toNat, by omega⟩
              obtain ⟨S, rfl⟩ : ∃ S : Nat, size = S := ⟨size.toNat, by omega⟩
              obtain ⟨i0, hi, hz0, hz1, hz2⟩ := info_parts info_u8
              have hmk := fun w : World => run_make (P := Try.prog) w 49 5 i0 _ Try.underlying49 hi hz0 .i64 .i64 (S : Int) (S : Int) (by omega) (Int.le_refl _) (by rw [hz2]; omega) (by omega)
              rw [hz1] at hmk
              simp only [Int.toNat_natCast, Value.cells, Nat.mul_one] at hmk
              have hcv := fun W : World => convert_zeros W S
              unfold zRow at hcv
              obtain ⟨row, hrow⟩ : ∃ row, row = madeCells #[Value.int .u8 0] S := ⟨_, rfl⟩
              rw [← hrow] at hmk hcv
              obtain ⟨zs, hzs⟩ : ∃ zs, zs = str (List.replicate S 0) := ⟨_, rfl⟩
              rw [← hzs] at hcv
              have HZ := Lib.hid hzs
              clear hi hz0 hz1 hz2 hrow hzs
              go_enter Try.func9, Try.ntmps9
              go_wp2_with fail
              refine (alive_yes _).mono ?_; rintro e w1 ⟨rfl, hb1⟩
              have B1 := Lib.hid hb1
              clear hb1
              go_wp2_with fail
              refine (new_d N (by omega) (by omega) _).mono ?_; rintro e w2 ⟨rfl, h⟩
              obtain ⟨C, hC⟩ : ∃ C, C = w1.heap.size := ⟨_, rfl⟩
              rw [← hC] at h ⊢
              have H := Lib.hid h
              have HC := Lib.hid (show w.heap.size ≤ C by rw [hC]; exact B1.out.size)
              clear h hC
              go_wp2_with fail
              refine (stop_d H.out.1 1 (by omega) (by omega) rfl).mono ?_; rintro e w3 ⟨rfl, h⟩
              have H2 := Lib.hid (show After C (C + 1) ⟨List.replicate N zeroS, [], true, 1⟩ w1 w3 from H.out.then h)
              clear h H
              go_wp2_with fail
              have H3 := Lib.hid (H2.out.more ((Below.refl _ w3).alloc (Nat.le_refl _) (.cells row 5)) (Nat.le_refl _))
              refine (read_range_d H3.out.1 _ rfl (by simp; omega)).mono ?_; rintro e X4 ⟨rfl, rfl⟩
              go_wp2_with fail
              refine (write_range_d H3.out.1 _ _ rfl (by simp; omega)).mono ?_; rintro e X4 ⟨rfl, rfl⟩
              go_wp2_with fail
              refine (fill_x _).mono ?_; rintro e X4 ⟨rfl, h⟩
              have H4 := Lib.hid (H3.out.more h (Nat.le_refl _))
              clear h
              go_wp2_with fail
              refine (write_d H4.out.1 0 fx rfl (by simp; omega) (fill_length _) (by simp) (by simp)).mono ?_; rintro e X5 ⟨rfl, h⟩
              have H5 := Lib.hid (H4.out.then h)
              clear h
              go_wp2_with fail
              have hd : Calls Try.prog 23 #[ptr (C + 1)] X5 fun e w' => e = .returned (.int .i64 N) ∧ X5 = w' := by have := sectors_d H5.out.1; simpa [wrote] using this
              refine hd.mono ?_; rintro e X6 ⟨rfl, rfl⟩
              clear hd
              go_wp2_with fail
              go_ret
              exact ⟨rfl, B1.out.trans (H5.out.2.below.mono HC.out)⟩
            · obtain ⟨Q, rfl⟩ : ∃ Q : Nat, at_ = Q := ⟨at_.toNat, by omega⟩
              by_cases q3 : size = 64
              · have q4 : (size == 64) = true := by simpa using q3
                have Q3 := Lib.hid q3
                clear q3
                obtain ⟨N, rfl⟩ : ∃ N : Nat, n = N := ⟨n.toNat, by omega⟩
                obtain ⟨S, rfl⟩ : ∃ S : Nat, size = S := ⟨size.toNat, by omega⟩
                obtain ⟨i0, hi, hz0, hz1, hz2⟩ := info_parts info_u8
                have hmk := fun w : World => run_make (P := Try.prog) w 49 5 i0 _ Try.underlying49 hi hz0 .i64 .i64 (S : Int) (S : Int) (by omega) (Int.le_refl _) (by rw [hz2]; omega) (by omega)
                rw [hz1] at hmk
                simp only [Int.toNat_natCast, Value.cells, Nat.mul_one] at hmk
                have hcv := fun W : World => convert_zeros W S
                unfold zRow at hcv
                obtain ⟨row, hrow⟩ : ∃ row, row = madeCells #[Value.int .u8 0] S := ⟨_, rfl⟩
                rw [← hrow] at hmk hcv
                obtain ⟨zs, hzs⟩ : ∃ zs, zs = str (List.replicate S 0) := ⟨_, rfl⟩
                rw [← hzs] at hcv
                have HZ := Lib.hid hzs
                clear hi hz0 hz1 hz2 hrow hzs
                go_enter Try.func9, Try.ntmps9
                go_wp2_with fail
                refine (alive_yes _).mono ?_; rintro e w1 ⟨rfl, hb1⟩
                have B1 := Lib.hid hb1
                clear hb1
                go_wp2_with fail
                refine (new_d N (by omega) (by omega) _).mono ?_; rintro e w2 ⟨rfl, h⟩
                obtain ⟨C, hC⟩ : ∃ C, C = w1.heap.size := ⟨_, rfl⟩
                rw [← hC] at h ⊢
                have H := Lib.hid h
                have HC := Lib.hid (show w.heap.size ≤ C by rw [hC]; exact B1.out.size)
                clear h hC
                go_wp2_with fail
                refine (stop_d H.out.1 1 (by omega) (by omega) rfl).mono ?_; rintro e w3 ⟨rfl, h⟩
                have H2 := Lib.hid (show After C (C + 1) ⟨List.replicate N zeroS, [], true, 1⟩ w1 w3 from H.out.then h)
                clear h H
                go_wp2_with fail
                have H3 := Lib.hid (H2.out.more ((Below.refl _ w3).alloc (Nat.le_refl _) (.cells row 5)) (Nat.le_refl _))
                have hrd := read_d H3.out.1 Q rfl (by simp; omega)
                refine hrd.mono ?_; rintro e X4 ⟨rfl, rfl⟩
                clear hrd
                go_wp2_with fail
                rw [HZ.out]
                refine (write_d H3.out.1 Q (List.replicate S 0) rfl (by simp; omega) (by have := Q3.out; simp; omega) (by simp) (by simp)).mono ?_; rintro e X4 ⟨rfl, h⟩
                have H3' := Lib.hid (H3.out.then h)
                clear h H3
                have H3 := H3'
                clear H3'
                go_wp2_with fail
                refine (fill_x _).mono ?_; rintro e X4 ⟨rfl, h⟩
                have H4 := Lib.hid (H3.out.more h (Nat.le_refl _))
                clear h
                go_wp2_with fail
                refine (write_stop_d H4.out.1 0 fx rfl (by simp [wrote]; omega) (fill_length _) (by simp [wrote])).mono ?_; rintro e X5 ⟨rfl, h⟩
                have H5 := Lib.hid (H4.out.then h)
                clear h
                go_wp2_with fail
                have hd : Calls Try.prog 23 #[ptr (C + 1)] X5 fun e w' => e = .returned (.int .i64 N) ∧ X5 = w' := by have := sectors_d H5.out.1; simpa [wrote] using this
                refine hd.mono ?_; rintro e X6 ⟨rfl, rfl⟩
                clear hd
                go_wp2_with fail
                go_ret
                exact ⟨rfl, B1.out.trans (H5.out.2.below.mono HC.out)⟩
              · have q4 : (size == 64) = false := by simpa using q3
                obtain ⟨N, rfl⟩ : ∃ N : Nat, n = N := ⟨n.toNat, by omega⟩
                obtain ⟨S, rfl⟩ : ∃ S : Nat, size = S := ⟨size.toNat, by omega⟩
                obtain ⟨i0, hi, hz0, hz1, hz2⟩ := info_parts info_u8
                have hmk := fun w : World => run_make (P := Try.prog) w 49 5 i0 _ Try.underlying49 hi hz0 .i64 .i64 (S : Int) (S : Int) (by omega) (Int.le_refl _) (by rw [hz2]; omega) (by omega)
                rw [hz1] at hmk
                simp only [Int.toNat_natCast, Value.cells, Nat.mul_one] at hmk
                have hcv := fun W : World => convert_zeros W S
                unfold zRow at hcv
                obtain ⟨row, hrow⟩ : ∃ row, row = madeCells #[Value.int .u8 0] S := ⟨_, rfl⟩
                rw [← hrow] at hmk hcv
                obtain ⟨zs, hzs⟩ : ∃ zs, zs = str (List.replicate S 0) := ⟨_, rfl⟩
                rw [← hzs] at hcv
                have HZ := Lib.hid hzs
                clear hi hz0 hz1 hz2 hrow hzs
                go_enter Try.func9, Try.ntmps9
                go_wp2_with fail
                refine (alive_yes _).mono ?_; rintro e w1 ⟨rfl, hb1⟩
                have B1 := Lib.hid hb1
                clear hb1
                go_wp2_with fail
                refine (new_d N (by omega) (by omega) _).mono ?_; rintro e w2 ⟨rfl, h⟩
                obtain ⟨C, hC⟩ : ∃ C, C = w1.heap.size := ⟨_, rfl⟩
                rw [← hC] at h ⊢
                have H := Lib.hid h
                have HC := Lib.hid (show w.heap.size ≤ C by rw [hC]; exact B1.out.size)
                clear h hC
                go_wp2_with fail
                refine (stop_d H.out.1 1 (by omega) (by omega) rfl).mono ?_; rintro e w3 ⟨rfl, h⟩
                have H2 := Lib.hid (show After C (C + 1) ⟨List.replicate N zeroS, [], true, 1⟩ w1 w3 from H.out.then h)
                clear h H
                go_wp2_with fail
                have H3 := Lib.hid (H2.out.more ((Below.refl _ w3).alloc (Nat.le_refl _) (.cells row 5)) (Nat.le_refl _))
                have hrd := read_d H3.out.1 Q rfl (by simp; omega)
                refine hrd.mono ?_; rintro e X4 ⟨rfl, rfl⟩
                clear hrd
                go_wp2_with fail
                refine (write_arg_d H3.out.1 Q zs rfl (by simp; omega) (by rw [HZ.out, str_size]; simp; omega) (by rw [HZ.out, str_size]; simp [maxLen]; omega)).mono ?_; rintro e X4 ⟨rfl, rfl⟩
                go_wp2_with fail
                refine (fill_x _).mono ?_; rintro e X4 ⟨rfl, h⟩
                have H4 := Lib.hid (H3.out.more h (Nat.le_refl _))
                clear h
                go_wp2_with fail
                refine (write_d H4.out.1 0 fx rfl (by simp; omega) (fill_length _) (by simp) (by simp)).mono ?_; rintro e X5 ⟨rfl, h⟩
                have H5 := Lib.hid (H4.out.then h)
                clear h
                go_wp2_with fail
                have hd : Calls Try.prog 23 #[ptr (C + 1)] X5 fun e w' => e = .returned (.int .i64 N) ∧ X5 = w' := by have := sectors_d H5.out.1; simpa [wrote] using this
                refine hd.mono ?_; rintro e X6 ⟨rfl, rfl⟩
                clear hd
                go_wp2_with fail
                go_ret
                exact ⟨rfl, B1.out.trans (H5.out.2.below.mono HC.out)⟩

/-! The row's step. -/
set_option maxRecDepth 100000 in
theorem lifted (os : Os) (started : os.Started) (H : Type) (enc : TypeId × Value → H) :
    ReturnsInHanded {} Try.checked os 9 .any (Rows.diskEdgesSpec.pre6 enc Try.prog Try.f9 Rows.diskEdgesRow.domain false) (Rows.diskEdgesSpec.post enc Try.prog Try.f9 false true false false) := by
  refine returnsInHanded_of_change (C := Try.checked) own started (by kernel_rfl) Try.func9
    (ChangeSpec.witness6 (enc := enc) (C := Try.checked) false ⟨#[], #[.int .i64 0, .int .i64 0, .int .i64 0], []⟩ 8 (by kernel_rfl) (by kernel_rfl) (by kernel_rfl) (by kernel_rfl)) ?_
  intro W base args ds gs before hval0 hW hcnd _
  have hval : ∀ (j : Nat) t v, Try.f9.params[j]? = some t → args[j]? = some v → Value.okWide Try.prog W .any base t v := hval0
  have hW' := hW
  obtain ⟨p, q, hA0, hV, rfl, hfz, hnd⟩ := hW
  have hA : DataW.TrodAll enc Try.prog W 0 (fun _ => true) true Try.f9.params.toList args.toList ds p := hA0
  rw [Try.params9] at hA hval
  obtain ⟨v0, vs0, d0, ds0, p0, q0, hargs, rfl, rfl, h0, r0⟩ := trodAll_cons hA
  obtain ⟨v1, vs1, d1, ds1, p1, q1, rfl, rfl, rfl, h1, r1⟩ := trodAll_cons r0
  obtain ⟨v2, vs2, d2, ds2, p2, q2, rfl, rfl, rfl, h2, r2⟩ := trodAll_cons r1
  obtain ⟨rfl, rfl, rfl⟩ := trodAll_nil r2
  obtain rfl : args = #[v0, v1, v2] := by cases args; simp_all
  obtain ⟨rfl, rfl⟩ := trodVars_none hV
  obtain ⟨a0, rfl, rfl, rfl, w0⟩ := open_int Try.underlying3 (hval 0 3 v0 rfl rfl) h0
  obtain ⟨a1, rfl, rfl, rfl, w1⟩ := open_int Try.underlying3 (hval 1 3 v1 rfl rfl) h1
  obtain ⟨a2, rfl, rfl, rfl, w2⟩ := open_int Try.underlying3 (hval 2 3 v2 rfl rfl) h2
  clear hA0 hval0
  refine (walk a0 a1 a2 W w0 w1 w2).mono fun e W' ⟨he, bel⟩ => ?_
  subst he
  exact ⟨_, rfl, _, _, _, [], _, [], hW', trodAll_mk1 (shut_bool Try.underlying4 _), (trodAll_cons_mk (shut_int Try.underlying3 w0) (trodAll_cons_mk (shut_int Try.underlying3 w1) (trodAll_cons_mk (shut_int Try.underlying3 w2) trodAll_mk0))), rfl, bel.frame _, fun h => by cases h⟩

theorem over : Rows.diskEdgesRow.holds Try.pinned (OpenSpec.ofChange Rows.diskEdgesSpec) :=
  OpenClaim.holds_of_wide 9 Try.f9 rfl rfl rfl rfl rfl rfl rfl ⟨rfl, rfl, rfl, rfl, rfl⟩ rfl rfl rfl rfl rfl (by kernel_rfl) Try.func9 (by kernel_rfl)
    (of_decide_eq_true (by kernel_rfl)) (by unfold Func.isWrapper; first | (rw [if_pos (by decide +kernel)]; kernel_rfl) | (rw [if_neg (by decide +kernel)]; exact ⟨rfl, rfl⟩))
    (fun os started H enc _ => lifted os started H enc)

/-- The statement. -/
theorem proved : Rows.DiskEdgesSaid := over
end Go.Proofs.Ytbfboccjlplapaa.diskEdges
