/- For every two texts of at most 60 bytes, synced or not: a copy is a disk of its own; what is done to the one is not done to the other. No condition. -/
import Derived.Test.YtbfboccjlplapaaRows
import Derived.Test.YtbfboccjlplapaaTwo
import Derived.Lib.Hide
import Derived.WalkKit
import Derived.ProofKit
import Derived.OpenShut
import Derived.ChangeOld
import Derived.Below
import Derived.Carry
namespace Go.Proofs.Ytbfboccjlplapaa.diskCopies
open Go.ChangeShapes Go.WideShapes Go.ChangeAt Go.RowKit
set_option linter.unusedVariables false

theorem own : ownKnob Try.prog.godebug = none := by kernel_rfl
theorem laidOut : laidOutB Try.prog = true := by kernel_rfl


theorem fill_e (w : World) : Calls Try.prog 18 #[.string ⟨#[]⟩] w fun e w' => e = .returned (.string (str zeroS)) ∧ Below w.heap.size w w' := by
  have := fill_ok ⟨#[]⟩ (by decide) w
  rw [show fill (ByteArray.mk #[]).data.toList = zeroS from fill_nil] at this
  exact this
set_option maxRecDepth 100000 in
set_option maxHeartbeats 8000000 in
theorem walk (a b : ByteArray) (sync : Bool) (w : World) (ha : a.size ≤ maxLen) (hb : b.size ≤ maxLen) :
    Calls Try.prog 7 #[.string a, .string b, .bool sync] w fun e w' => e = .returned (.bool true) ∧ Below w.heap.size w w' := by
  by_cases c0 : 60 < a.size
  · have d0 : True := trivial
    go_enter Try.func7, Try.ntmps7
    go_wp2_with fail
    refine (alive_yes _).mono ?_; rintro e w1 ⟨rfl, hb1⟩
    have B1 := Lib.hid hb1
    clear hb1
    go_wp2_with fail
    go_ret
    exact ⟨rfl, B1.out⟩
  · have d0 : a.size ≤ 60 := by omega
    by_cases c1 : 60 < b.size
    · have d1 : True := trivial
      go_enter Try.func7, Try.ntmps7
      go_wp2_with fail
      refine (alive_yes _).mono ?_; rintro e w1 ⟨rfl, hb1⟩
      have B1 := Lib.hid hb1
      clear hb1
      go_wp2_with fail
      go_ret
      exact ⟨rfl, B1.out⟩
    · have d1 : b.size ≤ 60 := by omega
      go_enter Try.func7, Try.ntmps7
      go_wp2_with fail
      refine (alive_yes _).mono ?_; rintro e w1 ⟨rfl, hb1⟩
      have B1 := Lib.hid hb1
      clear hb1
      go_wp2_with fail
      refine (new_d 3 (by omega) (by omega) _).mono ?_; rintro e w2 ⟨rfl, h⟩
      obtain ⟨C, hC⟩ : ∃ C, C = w1.heap.size := ⟨_, rfl⟩
      rw [← hC] at h ⊢
      have H := Lib.hid h
      have HC := Lib.hid (show w.heap.size ≤ C by rw [hC]; exact B1.out.size)
      clear h hC
      have FA := Lib.hid (fill_ok a ha)
      have FB := Lib.hid (fill_ok b hb)
      have FE := Lib.hid fill_e
      obtain ⟨la, hla⟩ : ∃ la, la = fill a.data.toList := ⟨_, rfl⟩
      obtain ⟨lb, hlb⟩ : ∃ lb, lb = fill b.data.toList := ⟨_, rfl⟩
      rw [← hla] at FA
      rw [← hlb] at FB
      have HLA := Lib.hid (show la.length = 64 by rw [hla]; exact fill_length _)
      have HLB := Lib.hid (show lb.length = 64 by rw [hlb]; exact fill_length _)
      clear hla hlb
      go_wp2_with fail
      refine (FA.out _).mono ?_; rintro e w3 ⟨rfl, h⟩
      have H1 := Lib.hid (H.out.more h (Nat.le_refl _))
      clear h H
      go_wp2_with fail
      refine (write_d H1.out.1 0 la rfl (by simp [blank]) HLA.out (by simp [blank]) (by simp [blank])).mono ?_; rintro e w4 ⟨rfl, h⟩
      have H2 := Lib.hid (show After C (C + 1) ⟨List.replicate 3 zeroS, [(0, la)], true, -1⟩ w1 w4 from by have := H1.out.then h; simpa [blank, wrote] using this)
      clear h H1
      obtain ⟨X, hX⟩ : ∃ X, X = str la := ⟨_, rfl⟩
      obtain ⟨B, hB⟩ : ∃ B, B = str lb := ⟨_, rfl⟩
      obtain ⟨Z, hZ⟩ : ∃ Z, Z = str zeroS := ⟨_, rfl⟩
      rw [← hX] at FA ⊢
      rw [← hB] at FB
      rw [← hZ] at FE
      have HX := Lib.hid hX
      have HB := Lib.hid hB
      have HZ := Lib.hid hZ
      clear hX hB hZ
      cases sync with
      | true =>
        go_wp2_with fail
        refine (sync_d H2.out.1 rfl).mono ?_; rintro e w5 ⟨rfl, h⟩
        have H3 := Lib.hid (show After C (C + 1) (⟨(List.replicate 3 zeroS).set 0 la, [], true, -1⟩ : St) w1 w5 from by have := H2.out.then h; simpa [synced, appl] using this)
        clear h H2
        go_wp2_with fail
        refine (copy_two H3.out.1 (by simp)).mono ?_; rintro e w6 ⟨p', rfl, h⟩
        have H4 := Lib.hid (show AfterTwo C (C + 1) (⟨(List.replicate 3 zeroS).set 0 la, [], true, -1⟩ : St) p' (⟨(List.replicate 3 zeroS).set 0 la, [], true, -1⟩ : St) w1 w6 from ⟨h.1, H3.out.2.below.trans h.2⟩)
        clear h H3
        go_wp2_with fail
        have hd : Calls Try.prog 22 #[ptr p'] w6 fun e w' => e = .returned (.int .i64 0) ∧ w6 = w' := pending_d H4.out.1.other
        refine hd.mono ?_; rintro e X3 ⟨rfl, rfl⟩
        clear hd
        go_wp2_with fail
        have hd : Calls Try.prog 22 #[ptr (C + 1)] w6 fun e w' => e = .returned (.int .i64 0) ∧ w6 = w' := pending_d H4.out.1.one
        refine hd.mono ?_; rintro e X3 ⟨rfl, rfl⟩
        clear hd
        go_wp2_with fail
        refine (FB.out _).mono ?_; rintro e w7 ⟨rfl, h⟩
        have H5 := Lib.hid (H4.out.more h (Nat.le_refl _))
        clear h H4
        go_wp2_with fail
        rw [HB.out]
        refine (write_two H5.out.1 0 lb rfl (by simp) HLB.out (by simp) (by simp)).mono ?_; rintro e w8 ⟨rfl, h⟩
        have H6 := Lib.hid (H5.out.then h)
        clear h H5
        rw [← HB.out]
        go_wp2_with fail
        refine (sync_two H6.out.1 rfl).mono ?_; rintro e w9 ⟨rfl, h⟩
        have H7 := Lib.hid (H6.out.then h)
        clear h H6
        go_wp2_with fail
        have hr : Calls Try.prog 15 #[ptr p', .int .i64 0] w9 fun e w' => e = .returned (.tuple #[.string X, .int .i64 0]) ∧ w9 = w' := by rw [HX.out]; exact read_d H7.out.1.other 0 rfl (by simp)
        refine hr.mono ?_; rintro e X3 ⟨rfl, rfl⟩
        clear hr
        go_wp2_with fail
        refine (crash_two H7.out.1.symm none 0 (by simp)).mono ?_; rintro e w10 ⟨rfl, h⟩
        have H8 := Lib.hid (show Two C p' ⟨(List.replicate 3 zeroS).set 0 la, [], true, -1⟩ (C + 1) (synced (wrote (⟨(List.replicate 3 zeroS).set 0 la, [], true, -1⟩ : St) 0 lb)) w10 ∧ Below C w1 w10 from ⟨h.1, H7.out.2.trans h.2⟩)
        clear h H7
        go_wp2_with fail
        have hr : Calls Try.prog 15 #[ptr p', .int .i64 0] w10 fun e w' => e = .returned (.tuple #[.string X, .int .i64 0]) ∧ w10 = w' := by rw [HX.out]; exact read_d H8.out.1.one 0 rfl (by simp)
        refine hr.mono ?_; rintro e X3 ⟨rfl, rfl⟩
        clear hr
        go_wp2_with fail
        have hr : Calls Try.prog 15 #[ptr (C + 1), .int .i64 0] w10 fun e w' => e = .returned (.tuple #[.string B, .int .i64 0]) ∧ w10 = w' := by rw [HB.out]; exact read_d H8.out.1.other 0 rfl (by simp [synced, wrote, appl])
        refine hr.mono ?_; rintro e X3 ⟨rfl, rfl⟩
        clear hr
        go_wp2_with fail
        refine (FE.out _).mono ?_; rintro e w11 ⟨rfl, h⟩
        have H9 := Lib.hid (show Two C p' ⟨(List.replicate 3 zeroS).set 0 la, [], true, -1⟩ (C + 1) (synced (wrote (⟨(List.replicate 3 zeroS).set 0 la, [], true, -1⟩ : St) 0 lb)) w11 ∧ Below C w1 w11 from ⟨H8.out.1.below h (Nat.le_refl _), H8.out.2.trans (h.mono (by have := H8.out.1.one.base; omega))⟩)
        clear h H8
        go_wp2_with fail
        refine (FA.out _).mono ?_; rintro e x9 ⟨rfl, h⟩
        have H10 := Lib.hid (show Two C p' ⟨(List.replicate 3 zeroS).set 0 la, [], true, -1⟩ (C + 1) (synced (wrote (⟨(List.replicate 3 zeroS).set 0 la, [], true, -1⟩ : St) 0 lb)) x9 ∧ Below C w1 x9 from ⟨H9.out.1.below h (Nat.le_refl _), H9.out.2.trans (h.mono (by have := H9.out.1.one.base; omega))⟩)
        clear h H9
        go_wp2_with fail
        refine (FA.out _).mono ?_; rintro e x10 ⟨rfl, h⟩
        have H11 := Lib.hid (show Two C p' ⟨(List.replicate 3 zeroS).set 0 la, [], true, -1⟩ (C + 1) (synced (wrote (⟨(List.replicate 3 zeroS).set 0 la, [], true, -1⟩ : St) 0 lb)) x10 ∧ Below C w1 x10 from ⟨H10.out.1.below h (Nat.le_refl _), H10.out.2.trans (h.mono (by have := H10.out.1.one.base; omega))⟩)
        clear h H10
        go_wp2_with fail
        refine (FB.out _).mono ?_; rintro e x11 ⟨rfl, h⟩
        have H12 := Lib.hid (show Two C p' ⟨(List.replicate 3 zeroS).set 0 la, [], true, -1⟩ (C + 1) (synced (wrote (⟨(List.replicate 3 zeroS).set 0 la, [], true, -1⟩ : St) 0 lb)) x11 ∧ Below C w1 x11 from ⟨H11.out.1.below h (Nat.le_refl _), H11.out.2.trans (h.mono (by have := H11.out.1.one.base; omega))⟩)
        clear h H11
        go_wp2_with fail
        have hd : Calls Try.prog 23 #[ptr p'] x11 fun e w' => e = .returned (.int .i64 3) ∧ x11 = w' := sectors_d H12.out.1.one
        refine hd.mono ?_; rintro e X3 ⟨rfl, rfl⟩
        clear hd
        go_wp2_with fail
        go_ret
        exact ⟨rfl, B1.out.trans (H12.out.2.mono HC.out)⟩
      | false =>
        go_wp2_with fail
        have H3 := Lib.hid H2.out
        clear H2
        refine (copy_two H3.out.1 (by simp)).mono ?_; rintro e w6 ⟨p', rfl, h⟩
        have H4 := Lib.hid (show AfterTwo C (C + 1) (⟨List.replicate 3 zeroS, [(0, la)], true, -1⟩ : St) p' (⟨List.replicate 3 zeroS, [(0, la)], true, -1⟩ : St) w1 w6 from ⟨h.1, H3.out.2.below.trans h.2⟩)
        clear h H3
        go_wp2_with fail
        have hd : Calls Try.prog 22 #[ptr p'] w6 fun e w' => e = .returned (.int .i64 1) ∧ w6 = w' := pending_d H4.out.1.other
        refine hd.mono ?_; rintro e X3 ⟨rfl, rfl⟩
        clear hd
        go_wp2_with fail
        have hd : Calls Try.prog 22 #[ptr (C + 1)] w6 fun e w' => e = .returned (.int .i64 1) ∧ w6 = w' := pending_d H4.out.1.one
        refine hd.mono ?_; rintro e X3 ⟨rfl, rfl⟩
        clear hd
        go_wp2_with fail
        refine (FB.out _).mono ?_; rintro e w7 ⟨rfl, h⟩
        have H5 := Lib.hid (H4.out.more h (Nat.le_refl _))
        clear h H4
        go_wp2_with fail
        rw [HB.out]
        refine (write_two H5.out.1 0 lb rfl (by simp) HLB.out (by simp) (by simp)).mono ?_; rintro e w8 ⟨rfl, h⟩
        have H6 := Lib.hid (H5.out.then h)
        clear h H5
        rw [← HB.out]
        go_wp2_with fail
        refine (sync_two H6.out.1 rfl).mono ?_; rintro e w9 ⟨rfl, h⟩
        have H7 := Lib.hid (H6.out.then h)
        clear h H6
        go_wp2_with fail
        have hr : Calls Try.prog 15 #[ptr p', .int .i64 0] w9 fun e w' => e = .returned (.tuple #[.string X, .int .i64 0]) ∧ w9 = w' := by rw [HX.out]; exact read_d H7.out.1.other 0 rfl (by simp)
        refine hr.mono ?_; rintro e X3 ⟨rfl, rfl⟩
        clear hr
        go_wp2_with fail
        refine (crash_two H7.out.1.symm none 0 (by simp)).mono ?_; rintro e w10 ⟨rfl, h⟩
        have H8 := Lib.hid (show Two C p' ⟨List.replicate 3 zeroS, [], true, -1⟩ (C + 1) (synced (wrote (⟨List.replicate 3 zeroS, [(0, la)], true, -1⟩ : St) 0 lb)) w10 ∧ Below C w1 w10 from ⟨h.1, H7.out.2.trans h.2⟩)
        clear h H7
        go_wp2_with fail
        have hr : Calls Try.prog 15 #[ptr p', .int .i64 0] w10 fun e w' => e = .returned (.tuple #[.string Z, .int .i64 0]) ∧ w10 = w' := by rw [HZ.out]; exact read_d H8.out.1.one 0 rfl (by simp)
        refine hr.mono ?_; rintro e X3 ⟨rfl, rfl⟩
        clear hr
        go_wp2_with fail
        have hr : Calls Try.prog 15 #[ptr (C + 1), .int .i64 0] w10 fun e w' => e = .returned (.tuple #[.string B, .int .i64 0]) ∧ w10 = w' := by rw [HB.out]; exact read_d H8.out.1.other 0 rfl (by simp [synced, wrote, appl])
        refine hr.mono ?_; rintro e X3 ⟨rfl, rfl⟩
        clear hr
        go_wp2_with fail
        refine (FE.out _).mono ?_; rintro e w11 ⟨rfl, h⟩
        have H9 := Lib.hid (show Two C p' ⟨List.replicate 3 zeroS, [], true, -1⟩ (C + 1) (synced (wrote (⟨List.replicate 3 zeroS, [(0, la)], true, -1⟩ : St) 0 lb)) w11 ∧ Below C w1 w11 from ⟨H8.out.1.below h (Nat.le_refl _), H8.out.2.trans (h.mono (by have := H8.out.1.one.base; omega))⟩)
        clear h H8
        go_wp2_with fail
        refine (FA.out _).mono ?_; rintro e x9 ⟨rfl, h⟩
        have H10 := Lib.hid (show Two C p' ⟨List.replicate 3 zeroS, [], true, -1⟩ (C + 1) (synced (wrote (⟨List.replicate 3 zeroS, [(0, la)], true, -1⟩ : St) 0 lb)) x9 ∧ Below C w1 x9 from ⟨H9.out.1.below h (Nat.le_refl _), H9.out.2.trans (h.mono (by have := H9.out.1.one.base; omega))⟩)
        clear h H9
        go_wp2_with fail
        refine (FB.out _).mono ?_; rintro e x10 ⟨rfl, h⟩
        have H11 := Lib.hid (show Two C p' ⟨List.replicate 3 zeroS, [], true, -1⟩ (C + 1) (synced (wrote (⟨List.replicate 3 zeroS, [(0, la)], true, -1⟩ : St) 0 lb)) x10 ∧ Below C w1 x10 from ⟨H10.out.1.below h (Nat.le_refl _), H10.out.2.trans (h.mono (by have := H10.out.1.one.base; omega))⟩)
        clear h H10
        go_wp2_with fail
        have hd : Calls Try.prog 23 #[ptr p'] x10 fun e w' => e = .returned (.int .i64 3) ∧ x10 = w' := sectors_d H11.out.1.one
        refine hd.mono ?_; rintro e X3 ⟨rfl, rfl⟩
        clear hd
        go_wp2_with fail
        go_ret
        exact ⟨rfl, B1.out.trans (H11.out.2.mono HC.out)⟩

/-! The row's step. -/
set_option maxRecDepth 100000 in
theorem lifted (os : Os) (started : os.Started) (H : Type) (enc : TypeId × Value → H) :
    ReturnsInHanded {} Try.checked os 7 .any (Rows.diskCopiesSpec.pre6 enc Try.prog Try.f7 Rows.diskCopiesRow.domain false) (Rows.diskCopiesSpec.post enc Try.prog Try.f7 false true false false) := by
  refine returnsInHanded_of_change (C := Try.checked) own started (by kernel_rfl) Try.func7
    (ChangeSpec.witness6 (enc := enc) (C := Try.checked) false ⟨#[], #[.string ByteArray.empty, .string ByteArray.empty, .bool false], []⟩ 8 (by kernel_rfl) (by kernel_rfl) (by kernel_rfl) (by kernel_rfl)) ?_
  intro W base args ds gs before hval0 hW hcnd _
  have hval : ∀ (j : Nat) t v, Try.f7.params[j]? = some t → args[j]? = some v → Value.okWide Try.prog W .any base t v := hval0
  have hW' := hW
  obtain ⟨p, q, hA0, hV, rfl, hfz, hnd⟩ := hW
  have hA : DataW.TrodAll enc Try.prog W 0 (fun _ => true) true Try.f7.params.toList args.toList ds p := hA0
  rw [Try.params7] at hA hval
  obtain ⟨v0, vs0, d0, ds0, p0, q0, hargs, rfl, rfl, h0, r0⟩ := trodAll_cons hA
  obtain ⟨v1, vs1, d1, ds1, p1, q1, rfl, rfl, rfl, h1, r1⟩ := trodAll_cons r0
  obtain ⟨v2, vs2, d2, ds2, p2, q2, rfl, rfl, rfl, h2, r2⟩ := trodAll_cons r1
  obtain ⟨rfl, rfl, rfl⟩ := trodAll_nil r2
  obtain rfl : args = #[v0, v1, v2] := by cases args; simp_all
  obtain ⟨rfl, rfl⟩ := trodVars_none hV
  obtain ⟨a0, rfl, rfl, rfl, w0⟩ := Go.ChangeMaps.open_string Try.underlying9 (hval 0 9 v0 rfl rfl) h0
  obtain ⟨a1, rfl, rfl, rfl, w1⟩ := Go.ChangeMaps.open_string Try.underlying9 (hval 1 9 v1 rfl rfl) h1
  obtain ⟨a2, rfl, rfl, rfl⟩ := open_bool Try.underlying4 (hval 2 4 v2 rfl rfl) h2
  clear hA0 hval0
  refine (walk a0 a1 a2 W w0 w1).mono fun e W' ⟨he, bel⟩ => ?_
  subst he
  exact ⟨_, rfl, _, _, _, [], _, [], hW', trodAll_mk1 (shut_bool Try.underlying4 _), (trodAll_cons_mk (Go.ChangeMaps.shut_string Try.underlying9 w0) (trodAll_cons_mk (Go.ChangeMaps.shut_string Try.underlying9 w1) (trodAll_cons_mk (shut_bool Try.underlying4 _) trodAll_mk0))), rfl, bel.frame _, fun h => by cases h⟩

theorem over : Rows.diskCopiesRow.holds Try.pinned (OpenSpec.ofChange Rows.diskCopiesSpec) :=
  OpenClaim.holds_of_wide 7 Try.f7 rfl rfl rfl rfl rfl rfl rfl ⟨rfl, rfl, rfl, rfl, rfl⟩ rfl rfl rfl rfl rfl (by kernel_rfl) Try.func7 (by kernel_rfl)
    (of_decide_eq_true (by kernel_rfl)) (by unfold Func.isWrapper; first | (rw [if_pos (by decide +kernel)]; kernel_rfl) | (rw [if_neg (by decide +kernel)]; exact ⟨rfl, rfl⟩))
    (fun os started H enc _ => lifted os started H enc)

/-- The statement. -/
theorem proved : Rows.DiskCopiesSaid := over
end Go.Proofs.Ytbfboccjlplapaa.diskCopies
