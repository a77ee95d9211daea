/- For every two numbers within the bounds: a machine that has stopped goes on behind a crash: it takes every write, and stops no more. No condition. -/
import Derived.Test.YtbfboccjlplapaaRows
import Derived.Test.YtbfboccjlplapaaBase
import Derived.Lib.Hide
import Derived.WalkKit
import Derived.ProofKit
import Derived.OpenShut
import Derived.ChangeOld
import Derived.Below
import Derived.Carry
namespace Go.Proofs.Ytbfboccjlplapaa.diskAnew
open Go.ChangeShapes Go.WideShapes Go.ChangeAt Go.RowKit
set_option linter.unusedVariables false

theorem own : ownKnob Try.prog.godebug = none := by kernel_rfl
theorem laidOut : laidOutB Try.prog = true := by kernel_rfl


theorem wrote_left {A : St} {k : Nat} {b : BA} (h : 0 < A.left) : wrote A k b = { A with pend := A.pend ++ [(k, b)], left := A.left - 1 } := by simp [wrote, h]
theorem after_dead {C p : Nat} {A : St} {w w' : World} (h : After C p A w w') : After C p A w w' := h
/-- The first loop. -/
def Sa (C N k : Nat) (w1 wr : World) : Prop := ∃ pend, pend.length ≤ k ∧ After C (C + 1) ⟨List.replicate 40 zeroS, pend, decide (k ≤ N), (if k ≤ N then (N : Int) - k else 0)⟩ w1 wr
/-- The second loop. -/
def Sb (C i : Nat) (w1 wr : World) : Prop := ∃ pend, pend.length = i ∧ After C (C + 1) ⟨List.replicate 40 zeroS, pend, true, -1⟩ w1 wr
set_option maxRecDepth 100000 in
set_option maxHeartbeats 4000000 in
theorem walk (n more : Int) (w : World) (hn : (Lit.int .i64 n).wf = true) (hm : (Lit.int .i64 more).wf = true) :
    Calls Try.prog 10 #[.int .i64 n, .int .i64 more] w fun e w' => e = .returned (.bool true) ∧ Below w.heap.size w w' := by
  by_cases c0 : n < 0
  · have d0 : True := trivial
    go_enter Try.func10, Try.ntmps10
    go_wp2_with fail
    refine (alive_yes _).mono ?_; rintro e w1 ⟨rfl, hb1⟩
    have B1 := Lib.hid hb1
    clear hb1
    go_wp2_with fail
    go_ret
    exact ⟨rfl, B1.out⟩
  · have d0 : 0 ≤ n := by omega
    by_cases c1 : 10 < n
    · have d1 : True := trivial
      go_enter Try.func10, Try.ntmps10
      go_wp2_with fail
      refine (alive_yes _).mono ?_; rintro e w1 ⟨rfl, hb1⟩
      have B1 := Lib.hid hb1
      clear hb1
      go_wp2_with fail
      go_ret
      exact ⟨rfl, B1.out⟩
    · have d1 : n ≤ 10 := by omega
      by_cases c2 : more < 1
      · have d2 : True := trivial
        go_enter Try.func10, Try.ntmps10
        go_wp2_with fail
        refine (alive_yes _).mono ?_; rintro e w1 ⟨rfl, hb1⟩
        have B1 := Lib.hid hb1
        clear hb1
        go_wp2_with fail
        go_ret
        exact ⟨rfl, B1.out⟩
      · have d2 : 1 ≤ more := by omega
        by_cases c3 : 30 < more
        · have d3 : True := trivial
          go_enter Try.func10, Try.ntmps10
          go_wp2_with fail
          refine (alive_yes _).mono ?_; rintro e w1 ⟨rfl, hb1⟩
          have B1 := Lib.hid hb1
          clear hb1
          go_wp2_with fail
          go_ret
          exact ⟨rfl, B1.out⟩
        · have d3 : more ≤ 30 := by omega
          go_enter Try.func10, Try.ntmps10
          go_wp2_with fail
          refine (alive_yes _).mono ?_; rintro e w1 ⟨rfl, hb1⟩
          have B1 := Lib.hid hb1
          clear hb1
          go_wp2_with fail
          refine (new_d 40 (by omega) (by omega) _).mono ?_; rintro e w2 ⟨rfl, h⟩
          obtain ⟨C, hC⟩ : ∃ C, C = w1.heap.size := ⟨_, rfl⟩
          rw [← hC] at h ⊢
          have H := Lib.hid h
          have HC := Lib.hid (show w.heap.size ≤ C by rw [hC]; exact B1.out.size)
          clear h hC
          obtain ⟨N, rfl⟩ : ∃ N : Nat, n = N := ⟨n.toNat, by omega⟩
          obtain ⟨M, rfl⟩ : ∃ M : Nat, more = M := ⟨more.toNat, by omega⟩
          go_wp2_with fail
          refine (stop_d H.out.1 N (by omega) (by omega) rfl).mono ?_; rintro e w3 ⟨rfl, h⟩
          have H2 := Lib.hid (H.out.then h)
          clear h H
          go_wp2_with fail
          go_loopw [6] (fun x wr => ∃ k : Nat, k ≤ N + 1 ∧ x = .int .i64 k ∧ Sa C N k w1 wr) (fun x _ => N + 1 - (intOf x).toNat)
          case atStart => exact ⟨0, Nat.zero_le _, rfl, [], by simp, by simpa [blank] using H2.out⟩
          case round =>
            clear H2
            obtain ⟨k, hk, rfl, hq⟩ := hrel
            have HQ := Lib.hid hq
            clear hq
            by_cases hlt : k ≤ N
            · obtain ⟨pend, hp, hD⟩ := HQ.out
              have HD := Lib.hid hD
              have HP := Lib.hid hp
              have hkk : (k : Int) ≤ N := by omega
              clear hp hD
              go_wp2_with fail
              refine (fill_a _).mono ?_; rintro e X1 ⟨rfl, h⟩
              have H1 := Lib.hid (HD.out.more h (Nat.le_refl _))
              clear h
              go_wp2_with fail
              have hW : Calls Try.prog 17 #[ptr (C + 1), .int .i64 k, .string (str fa)] X1 fun e w' => (∃ v, e = .returned v) ∧ Sa C N (k + 1) w1 w' := by
                have hD := H1.out
                rw [show decide (k ≤ N) = true by simpa using hlt, if_pos hlt] at hD
                by_cases h0 : k = N
                · subst h0
                  refine (write_stop_d hD.1 k fa rfl (by simp; omega) (fill_length _) (by show (k : Int) - k = 0; omega)).mono fun e w' ⟨he, h⟩ => ⟨⟨_, he⟩, pend, by have := HP.out; omega, ?_⟩
                  rw [show decide (k + 1 ≤ k) = false by simp, if_neg (by omega), show (0 : Int) = (k : Int) - k by omega]
                  exact after_dead (hD.then h)
                · refine (write_d hD.1 k fa rfl (by simp; omega) (fill_length _) (by show (N : Int) - k ≠ 0; omega) (by show pend.length ≤ _; have := HP.out; omega)).mono fun e w' ⟨he, h⟩ => ⟨⟨_, he⟩, pend ++ [(k, fa)], by have := HP.out; simp; omega, ?_⟩
                  have h2 := hD.then h
                  rw [wrote_left (by show 0 < (N : Int) - k; omega)] at h2
                  rw [show decide (k + 1 ≤ N) = true by simp; omega, if_pos (by omega), show ((k + 1 : Nat) : Int) = k + 1 by omega, show (N : Int) - (k + 1) = N - k - 1 by omega]
                  exact h2
              refine hW.mono ?_; rintro e X2 ⟨⟨v, rfl⟩, h⟩
              have H2 := Lib.hid h
              clear h hW
              go_wp2_with fail
              go_roundw
              case rel => exact ⟨k + 1, by omega, by go_num, H2.out⟩
              case measure => simp [intOf]; omega
            · obtain rfl : k = N + 1 := by omega
              obtain ⟨pend, hp, hD⟩ := HQ.out
              rw [show decide (N + 1 ≤ N) = false by simp, if_neg (by omega)] at hD
              have HD := Lib.hid hD
              have HP := Lib.hid hp
              clear hp hD
              have hii : ¬ ((N + 1 : Nat) : Int) ≤ N := by omega
              go_wp2_with fail
              have hd : Calls Try.prog 20 #[ptr (C + 1)] wr fun e w' => e = .returned (.bool true) ∧ wr = w' := dead_d HD.out.1
              refine hd.mono ?_; rintro e X3 ⟨rfl, rfl⟩
              clear hd
              go_wp2_with fail
              refine (crash_none HD.out.1 none 0 (by show pend.length ≤ _; have := HP.out; omega)).mono ?_; rintro e X1 ⟨rfl, h⟩
              have H1 := Lib.hid (HD.out.then h)
              clear h
              go_wp2_with fail
              go_loopw [7] (fun x wr => ∃ i : Nat, i ≤ M ∧ x = .int .i64 i ∧ Sb C i w1 wr) (fun x _ => M - (intOf x).toNat)
              case atStart => exact ⟨0, Nat.zero_le _, rfl, [], rfl, H1.out⟩
              case round =>
                clear H1 HQ
                obtain ⟨i, hi, rfl, hq⟩ := hrel
                have HQ := Lib.hid hq
                clear hq
                by_cases hit : i < M
                · obtain ⟨pd, hp, hD⟩ := HQ.out
                  have HD := Lib.hid hD
                  have HP := Lib.hid hp
                  have hiM : (i : Int) < M := by omega
                  clear hp hD
                  go_wp2_with fail
                  refine (fill_b _).mono ?_; rintro e X1 ⟨rfl, h⟩
                  have H1 := Lib.hid (HD.out.more h (Nat.le_refl _))
                  clear h
                  go_wp2_with fail
                  refine (write_d H1.out.1 i fb rfl (by simp; omega) (fill_length _) (by simp) (by show pd.length ≤ _; rw [HP.out]; omega)).mono ?_; rintro e X2 ⟨rfl, h⟩
                  have H2 := Lib.hid (H1.out.then h)
                  clear h
                  go_wp2_with fail
                  have hd : Calls Try.prog 20 #[ptr (C + 1)] X2 fun e w' => e = .returned (.bool false) ∧ X2 = w' := dead_d H2.out.1
                  refine hd.mono ?_; rintro e X3 ⟨rfl, rfl⟩
                  clear hd
                  go_wp2_with fail
                  go_roundw
                  case rel => exact ⟨i + 1, by omega, by go_num, pd ++ [(i, fb)], by simp [HP.out], by have := H2.out; simpa [wrote] using this⟩
                  case measure => simp [intOf]; omega
                · obtain rfl : i = M := by omega
                  obtain ⟨pd, hp, hD⟩ := HQ.out
                  have HD := Lib.hid hD
                  have HP := Lib.hid hp
                  clear hp hD
                  go_wp2_with fail
                  have hd : Calls Try.prog 22 #[ptr (C + 1)] wr fun e w' => e = .returned (.int .i64 i) ∧ wr = w' := by have := pending_d HD.out.1; rw [show (⟨List.replicate 40 zeroS, pd, true, -1⟩ : St).pend.length = i from HP.out] at this; exact this
                  refine hd.mono ?_; rintro e X3 ⟨rfl, rfl⟩
                  clear hd
                  go_wp2_with fail
                  refine (sync_d HD.out.1 rfl).mono ?_; rintro e X4 ⟨rfl, h⟩
                  have H4 := Lib.hid (HD.out.then h)
                  clear h
                  go_wp2_with fail
                  have hd : Calls Try.prog 22 #[ptr (C + 1)] X4 fun e w' => e = .returned (.int .i64 0) ∧ X4 = w' := pending_d H4.out.1
                  refine hd.mono ?_; rintro e X3 ⟨rfl, rfl⟩
                  clear hd
                  go_wp2_with fail
                  go_ret
                  exact ⟨rfl, B1.out.trans (H4.out.2.below.mono HC.out)⟩

/-! The row's step. -/
set_option maxRecDepth 100000 in
theorem lifted (os : Os) (started : os.Started) (H : Type) (enc : TypeId × Value → H) :
    ReturnsInHanded {} Try.checked os 10 .any (Rows.diskAnewSpec.pre6 enc Try.prog Try.f10 Rows.diskAnewRow.domain false) (Rows.diskAnewSpec.post enc Try.prog Try.f10 false true false false) := by
  refine returnsInHanded_of_change (C := Try.checked) own started (by kernel_rfl) Try.func10
    (ChangeSpec.witness6 (enc := enc) (C := Try.checked) false ⟨#[], #[.int .i64 0, .int .i64 0], []⟩ 8 (by kernel_rfl) (by kernel_rfl) (by kernel_rfl) (by kernel_rfl)) ?_
  intro W base args ds gs before hval0 hW hcnd _
  have hval : ∀ (j : Nat) t v, Try.f10.params[j]? = some t → args[j]? = some v → Value.okWide Try.prog W .any base t v := hval0
  have hW' := hW
  obtain ⟨p, q, hA0, hV, rfl, hfz, hnd⟩ := hW
  have hA : DataW.TrodAll enc Try.prog W 0 (fun _ => true) true Try.f10.params.toList args.toList ds p := hA0
  rw [Try.params10] at hA hval
  obtain ⟨v0, vs0, d0, ds0, p0, q0, hargs, rfl, rfl, h0, r0⟩ := trodAll_cons hA
  obtain ⟨v1, vs1, d1, ds1, p1, q1, rfl, rfl, rfl, h1, r1⟩ := trodAll_cons r0
  obtain ⟨rfl, rfl, rfl⟩ := trodAll_nil r1
  obtain rfl : args = #[v0, v1] := by cases args; simp_all
  obtain ⟨rfl, rfl⟩ := trodVars_none hV
  obtain ⟨a0, rfl, rfl, rfl, w0⟩ := open_int Try.underlying3 (hval 0 3 v0 rfl rfl) h0
  obtain ⟨a1, rfl, rfl, rfl, w1⟩ := open_int Try.underlying3 (hval 1 3 v1 rfl rfl) h1
  clear hA0 hval0
  refine (walk a0 a1 W w0 w1).mono fun e W' ⟨he, bel⟩ => ?_
  subst he
  exact ⟨_, rfl, _, _, _, [], _, [], hW', trodAll_mk1 (shut_bool Try.underlying4 _), (trodAll_cons_mk (shut_int Try.underlying3 w0) (trodAll_cons_mk (shut_int Try.underlying3 w1) trodAll_mk0)), rfl, bel.frame _, fun h => by cases h⟩

theorem over : Rows.diskAnewRow.holds Try.pinned (OpenSpec.ofChange Rows.diskAnewSpec) :=
  OpenClaim.holds_of_wide 10 Try.f10 rfl rfl rfl rfl rfl rfl rfl ⟨rfl, rfl, rfl, rfl, rfl⟩ rfl rfl rfl rfl rfl (by kernel_rfl) Try.func10 (by kernel_rfl)
    (of_decide_eq_true (by kernel_rfl)) (by unfold Func.isWrapper; first | (rw [if_pos (by decide +kernel)]; kernel_rfl) | (rw [if_neg (by decide +kernel)]; exact ⟨rfl, rfl⟩))
    (fun os started H enc _ => lifted os started H enc)

/-- The statement. -/
theorem proved : Rows.DiskAnewSaid := over
end Go.Proofs.Ytbfboccjlplapaa.diskAnew
