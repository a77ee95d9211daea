/- For every two numbers within the bounds: a machine that is to stop behind n writes writes just n; the next ones, and Sync and Read, are told that it is dead, and nothing more is pending; behind a crash it goes on. No condition. -/
import Derived.Test.YtbfboccjlplapaaRows
import Derived.Test.YtbfboccjlplapaaBase
import Derived.Lib.Hide
import Derived.WalkKit
import Derived.ProofKit
import Derived.OpenShut
import Derived.ChangeOld
import Derived.Below
import Derived.Carry
namespace Go.Proofs.Ytbfboccjlplapaa.diskStops
open Go.ChangeShapes Go.WideShapes Go.ChangeAt Go.RowKit
set_option linter.unusedVariables false

theorem own : ownKnob Try.prog.godebug = none := by kernel_rfl
theorem laidOut : laidOutB Try.prog = true := by kernel_rfl


def fx : BA := fill [120]
def fy : BA := fill [121]
def fz : BA := fill [122]
theorem fill_x (w : World) : Calls Try.prog 18 #[.string ⟨#[120]⟩] w fun e w' => e = .returned (.string (str fx)) ∧ Below w.heap.size w w' := fill_ok ⟨#[120]⟩ (by decide) w
theorem fill_y (w : World) : Calls Try.prog 18 #[.string ⟨#[121]⟩] w fun e w' => e = .returned (.string (str fy)) ∧ Below w.heap.size w w' := fill_ok ⟨#[121]⟩ (by decide) w
theorem fill_z (w : World) : Calls Try.prog 18 #[.string ⟨#[122]⟩] w fun e w' => e = .returned (.string (str fz)) ∧ Below w.heap.size w w' := fill_ok ⟨#[122]⟩ (by decide) w
theorem wrote_left {A : St} {k : Nat} {b : BA} (h : 0 < A.left) : wrote A k b = { A with pend := A.pend ++ [(k, b)], left := A.left - 1 } := by simp [wrote, h]
/-- The first loop: k writes are pending, N - k are left. -/
def St1 (C N k : Nat) (w1 wr : World) : Prop := ∃ pend, pend.length = k ∧ After C (C + 1) ⟨List.replicate 60 zeroS, pend, true, (N : Int) - k⟩ w1 wr
/-- The second loop: from its first write on the machine has stopped. -/
def St2 (C N i : Nat) (w1 wr : World) : Prop := ∃ pend, pend.length = N ∧ After C (C + 1) ⟨List.replicate 60 zeroS, pend, decide (i = 0), 0⟩ w1 wr
set_option maxRecDepth 100000 in
set_option maxHeartbeats 4000000 in
theorem walk (n more : Int) (w : World) (hn : (Lit.int .i64 n).wf = true) (hm : (Lit.int .i64 more).wf = true) :
    Calls Try.prog 5 #[.int .i64 n, .int .i64 more] w fun e w' => e = .returned (.bool true) ∧ Below w.heap.size w w' := by
  by_cases c0 : n < 0
  · have d0 : True := trivial
    go_enter Try.func5, Try.ntmps5
    go_wp2_with fail
    refine (alive_yes _).mono ?_; rintro e w1 ⟨rfl, hb1⟩
    have B1 := Lib.hid hb1
    clear hb1
    go_wp2_with fail
    go_ret
    exact ⟨rfl, B1.out⟩
  · have d0 : 0 ≤ n := by omega
    by_cases c1 : 30 < n
    · have d1 : True := trivial
      go_enter Try.func5, Try.ntmps5
      go_wp2_with fail
      refine (alive_yes _).mono ?_; rintro e w1 ⟨rfl, hb1⟩
      have B1 := Lib.hid hb1
      clear hb1
      go_wp2_with fail
      go_ret
      exact ⟨rfl, B1.out⟩
    · have d1 : n ≤ 30 := by omega
      by_cases c2 : more < 0
      · have d2 : True := trivial
        go_enter Try.func5, Try.ntmps5
        go_wp2_with fail
        refine (alive_yes _).mono ?_; rintro e w1 ⟨rfl, hb1⟩
        have B1 := Lib.hid hb1
        clear hb1
        go_wp2_with fail
        go_ret
        exact ⟨rfl, B1.out⟩
      · have d2 : 0 ≤ more := by omega
        by_cases c3 : 10 < more
        · have d3 : True := trivial
          go_enter Try.func5, Try.ntmps5
          go_wp2_with fail
          refine (alive_yes _).mono ?_; rintro e w1 ⟨rfl, hb1⟩
          have B1 := Lib.hid hb1
          clear hb1
          go_wp2_with fail
          go_ret
          exact ⟨rfl, B1.out⟩
        · have d3 : more ≤ 10 := by omega
          go_enter Try.func5, Try.ntmps5
          go_wp2_with fail
          refine (alive_yes _).mono ?_; rintro e w1 ⟨rfl, hb1⟩
          have B1 := Lib.hid hb1
          clear hb1
          go_wp2_with fail
          refine (new_d 60 (by omega) (by omega) _).mono ?_; rintro e w2 ⟨rfl, h⟩
          obtain ⟨C, hC⟩ : ∃ C, C = w1.heap.size := ⟨_, rfl⟩
          rw [← hC] at h ⊢
          have H := Lib.hid h
          have HC := Lib.hid (show w.heap.size ≤ C by rw [hC]; exact B1.out.size)
          clear h hC
          obtain ⟨N, rfl⟩ : ∃ N : Nat, n = N := ⟨n.toNat, by omega⟩
          obtain ⟨M, rfl⟩ : ∃ M : Nat, more = M := ⟨more.toNat, by omega⟩
          go_wp2_with fail
          refine (stop_d H.out.1 N (by omega) (by omega) rfl).mono ?_; rintro e w3 ⟨rfl, h⟩
          have H2 := Lib.hid (H.out.then h)
          clear h H
          go_wp2_with fail
          go_loopw [6] (fun x wr => ∃ k : Nat, k ≤ N ∧ x = .int .i64 k ∧ St1 C N k w1 wr) (fun x _ => N - (intOf x).toNat)
          case atStart => exact ⟨0, Nat.zero_le _, rfl, [], rfl, by simpa [blank] using H2.out⟩
          case round =>
            clear H2
            obtain ⟨k, hk, rfl, hq⟩ := hrel
            have HQ := Lib.hid hq
            clear hq
            by_cases hlt : k < N
            · obtain ⟨pend, hp, hD⟩ := HQ.out
              have HD := Lib.hid hD
              have HP := Lib.hid hp
              have hkk : (k : Int) < N := by omega
              clear hp hD
              go_wp2_with fail
              refine (fill_x _).mono ?_; rintro e X1 ⟨rfl, h⟩
              have H1 := Lib.hid (HD.out.more h (Nat.le_refl _))
              clear h
              go_wp2_with fail
              refine (write_d H1.out.1 k fx rfl (by simp; omega) (fill_length _) (by show (N : Int) - k ≠ 0; omega) (by show pend.length ≤ _; rw [HP.out]; omega)).mono ?_; rintro e X2 ⟨rfl, h⟩
              have H2 := Lib.hid (H1.out.then h)
              clear h
              go_wp2_with fail
              have hd := dead_d H2.out.1
              rw [show (!(wrote ⟨List.replicate 60 zeroS, pend, true, (N : Int) - k⟩ k fx).runs) = false from rfl] at hd
              refine hd.mono ?_; rintro e X3 ⟨rfl, rfl⟩
              clear hd
              go_wp2_with fail
              go_roundw
              case rel => exact ⟨k + 1, by omega, by go_num, pend ++ [(k, fx)], by simp [HP.out], by have := H2.out; rw [wrote_left (by show 0 < (N : Int) - k; omega)] at this; rw [show ((k + 1 : Nat) : Int) = k + 1 by omega, show (N : Int) - (k + 1) = N - k - 1 by omega]; exact this⟩
              case measure => simp [intOf]; omega
            · obtain rfl : k = N := by omega
              go_wp2_with fail
              go_loopw [7] (fun x wr => ∃ i : Nat, i ≤ M + 1 ∧ x = .int .i64 i ∧ St2 C k i w1 wr) (fun x _ => M + 1 - (intOf x).toNat)
              case atStart => exact ⟨0, Nat.zero_le _, rfl, by obtain ⟨pend, hp, hD⟩ := HQ.out; exact ⟨pend, hp, by simpa using hD⟩⟩
              case round =>
                clear HQ
                obtain ⟨i, hi, rfl, hq⟩ := hrel
                have HQ := Lib.hid hq
                clear hq
                by_cases hit : i ≤ M
                · obtain ⟨pend, hp, hD⟩ := HQ.out
                  have HD := Lib.hid hD
                  have HP := Lib.hid hp
                  have hii : (i : Int) ≤ M := by omega
                  clear hp hD
                  go_wp2_with fail
                  refine (fill_y _).mono ?_; rintro e X1 ⟨rfl, h⟩
                  have H1 := Lib.hid (HD.out.more h (Nat.le_refl _))
                  clear h
                  go_wp2_with fail
                  have hW : Calls Try.prog 17 #[ptr (C + 1), .int .i64 i, .string (str fy)] X1 fun e w' => e = .returned (.int .i64 10) ∧ After C (C + 1) ⟨List.replicate 60 zeroS, pend, false, 0⟩ w1 w' := by
                    have hD := H1.out
                    by_cases h0 : i = 0
                    · subst h0
                      exact (write_stop_d hD.1 0 fy rfl (by simp) (fill_length _) rfl).mono fun e w' ⟨he, h⟩ => ⟨he, hD.then h⟩
                    · have hf : decide (i = 0) = false := by simpa using h0
                      rw [hf] at hD
                      exact (write_dead_d hD.1 i _ rfl).mono fun e w' ⟨he, h⟩ => ⟨he, by rw [← h]; exact hD⟩
                  refine hW.mono ?_; rintro e X2 ⟨rfl, h⟩
                  have H2 := Lib.hid h
                  clear h hW
                  go_wp2_with fail
                  have hd : Calls Try.prog 20 #[ptr (C + 1)] X2 fun e w' => e = .returned (.bool true) ∧ X2 = w' := dead_d H2.out.1
                  refine hd.mono ?_; rintro e X3 ⟨rfl, rfl⟩
                  clear hd
                  go_wp2_with fail
                  refine (sync_dead_d H2.out.1 rfl).mono ?_; rintro e X3 ⟨rfl, rfl⟩
                  go_wp2_with fail
                  have hd : Calls Try.prog 22 #[ptr (C + 1)] X2 fun e w' => e = .returned (.int .i64 k) ∧ X2 = w' := by have := pending_d H2.out.1; rw [show (⟨List.replicate 60 zeroS, pend, false, 0⟩ : St).pend.length = k from HP.out] at this; exact this
                  refine hd.mono ?_; rintro e X3 ⟨rfl, rfl⟩
                  clear hd
                  go_wp2_with fail
                  go_roundw
                  case rel => exact ⟨i + 1, by omega, by go_num, pend, HP.out, (by rw [show decide (i + 1 = 0) = false by simp]; exact H2.out)⟩
                  case measure => simp [intOf]; omega
                · obtain rfl : i = M + 1 := by omega
                  obtain ⟨pend, hp, hD⟩ := HQ.out
                  have hf : decide (M + 1 = 0) = false := by simp
                  rw [hf] at hD
                  have HD := Lib.hid hD
                  have HP := Lib.hid hp
                  clear hp hD hf
                  have hii : ¬ ((M + 1 : Nat) : Int) ≤ M := by omega
                  go_wp2_with fail
                  refine (read_dead_d HD.out.1 0 rfl).mono ?_; rintro e X1 ⟨rfl, rfl⟩
                  go_wp2_with fail
                  refine (crash_none HD.out.1 none 0 (by show pend.length ≤ _; rw [HP.out]; omega)).mono ?_; rintro e X1 ⟨rfl, h⟩
                  have H1 := Lib.hid (HD.out.then h)
                  clear h
                  go_wp2_with fail
                  have hd : Calls Try.prog 20 #[ptr (C + 1)] X1 fun e w' => e = .returned (.bool false) ∧ X1 = w' := dead_d H1.out.1
                  refine hd.mono ?_; rintro e X3 ⟨rfl, rfl⟩
                  clear hd
                  go_wp2_with fail
                  refine (fill_z _).mono ?_; rintro e X2 ⟨rfl, h⟩
                  have H2 := Lib.hid (H1.out.more h (Nat.le_refl _))
                  clear h
                  go_wp2_with fail
                  refine (write_d H2.out.1 0 fz rfl (by simp) (fill_length _) (by simp) (by simp)).mono ?_; rintro e X3 ⟨rfl, h⟩
                  have H3 := Lib.hid (H2.out.then h)
                  clear h
                  go_wp2_with fail
                  refine (sync_d H3.out.1 rfl).mono ?_; rintro e X4 ⟨rfl, h⟩
                  have H4 := Lib.hid (H3.out.then h)
                  clear h
                  go_wp2_with fail
                  go_ret
                  exact ⟨rfl, B1.out.trans (H4.out.2.below.mono HC.out)⟩

/-! The row's step. -/
set_option maxRecDepth 100000 in
theorem lifted (os : Os) (started : os.Started) (H : Type) (enc : TypeId × Value → H) :
    ReturnsInHanded {} Try.checked os 5 .any (Rows.diskStopsSpec.pre6 enc Try.prog Try.f5 Rows.diskStopsRow.domain false) (Rows.diskStopsSpec.post enc Try.prog Try.f5 false true false false) := by
  refine returnsInHanded_of_change (C := Try.checked) own started (by kernel_rfl) Try.func5
    (ChangeSpec.witness6 (enc := enc) (C := Try.checked) false ⟨#[], #[.int .i64 0, .int .i64 0], []⟩ 8 (by kernel_rfl) (by kernel_rfl) (by kernel_rfl) (by kernel_rfl)) ?_
  intro W base args ds gs before hval0 hW hcnd _
  have hval : ∀ (j : Nat) t v, Try.f5.params[j]? = some t → args[j]? = some v → Value.okWide Try.prog W .any base t v := hval0
  have hW' := hW
  obtain ⟨p, q, hA0, hV, rfl, hfz, hnd⟩ := hW
  have hA : DataW.TrodAll enc Try.prog W 0 (fun _ => true) true Try.f5.params.toList args.toList ds p := hA0
  rw [Try.params5] at hA hval
  obtain ⟨v0, vs0, d0, ds0, p0, q0, hargs, rfl, rfl, h0, r0⟩ := trodAll_cons hA
  obtain ⟨v1, vs1, d1, ds1, p1, q1, rfl, rfl, rfl, h1, r1⟩ := trodAll_cons r0
  obtain ⟨rfl, rfl, rfl⟩ := trodAll_nil r1
  obtain rfl : args = #[v0, v1] := by cases args; simp_all
  obtain ⟨rfl, rfl⟩ := trodVars_none hV
  obtain ⟨a0, rfl, rfl, rfl, w0⟩ := open_int Try.underlying3 (hval 0 3 v0 rfl rfl) h0
  obtain ⟨a1, rfl, rfl, rfl, w1⟩ := open_int Try.underlying3 (hval 1 3 v1 rfl rfl) h1
  clear hA0 hval0
  refine (walk a0 a1 W w0 w1).mono fun e W' ⟨he, bel⟩ => ?_
  subst he
  exact ⟨_, rfl, _, _, _, [], _, [], hW', trodAll_mk1 (shut_bool Try.underlying4 _), (trodAll_cons_mk (shut_int Try.underlying3 w0) (trodAll_cons_mk (shut_int Try.underlying3 w1) trodAll_mk0)), rfl, bel.frame _, fun h => by cases h⟩

theorem over : Rows.diskStopsRow.holds Try.pinned (OpenSpec.ofChange Rows.diskStopsSpec) :=
  OpenClaim.holds_of_wide 5 Try.f5 rfl rfl rfl rfl rfl rfl rfl ⟨rfl, rfl, rfl, rfl, rfl⟩ rfl rfl rfl rfl rfl (by kernel_rfl) Try.func5 (by kernel_rfl)
    (of_decide_eq_true (by kernel_rfl)) (by unfold Func.isWrapper; first | (rw [if_pos (by decide +kernel)]; kernel_rfl) | (rw [if_neg (by decide +kernel)]; exact ⟨rfl, rfl⟩))
    (fun os started H enc _ => lifted os started H enc)

/-- The statement. -/
theorem proved : Rows.DiskStopsSaid := over
end Go.Proofs.Ytbfboccjlplapaa.diskStops
