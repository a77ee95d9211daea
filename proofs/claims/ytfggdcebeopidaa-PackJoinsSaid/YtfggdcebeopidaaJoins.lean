/- For all numbers a, b and all strings s, t the law PackJoins returns true: bytes of two writers, one behind the other, are read as what both wrote; the strings lie within the form's own reach, nothing else is assumed. -/
import Derived.Test.YtfggdcebeopidaaRows
import Derived.Test.YtfggdcebeopidaaAlive
import Derived.Lib.Hide
import Derived.WalkLawsBesides
import Derived.WalkSpells
import Derived.Deep.QuietTactic
import Derived.BigQuiet
import Derived.WalkKit
import Derived.SizedLaws
import Derived.ProofKit
import Derived.OpenShut
import Derived.ShutString
namespace Go.Proofs.Ytfggdcebeopidaa.packJoins
open Go.ChangeShapes Go.WideShapes Go.ChangeAt Go.RowKit
open Go.ChangeMaps (open_string shut_string)
set_option linter.unusedVariables false

theorem own : ownKnob Try.prog.godebug = none := by kernel_rfl

theorem two_new' (w1 : World) : ((w1.alloc newW).alloc newW).heap[w1.heap.size]? = some newW ∧ ((w1.alloc newW).alloc newW).heap[w1.heap.size + 1]? = some newW ∧
    Below w1.heap.size w1 ((w1.alloc newW).alloc newW) ∧ w1.heap.size + 1 < ((w1.alloc newW).alloc newW).heap.size := by
  have h1 := heap_alloc_new w1 newW
  have h2 := heap_alloc_new (w1.alloc newW) newW
  have e1 : (w1.alloc newW).heap.size = w1.heap.size + 1 := by simp
  rw [e1] at h2
  refine ⟨(Below.heap_alloc _ _ _ (by simp)).trans h1, h2, (((Below.refl _ _).alloc (Nat.le_refl _) _).alloc (by simp) _), by simp⟩
theorem str_append (l m : List UInt8) : str l ++ str m = str (l ++ m) := by
  apply ByteArray.ext; apply Array.ext'; simp [str]
/-! The walk: the Go text returns true and leaves what was there as it was. -/
set_option maxHeartbeats 1000000 in
theorem walk (a0 : Int) (a1 : Int) (a2 : ByteArray) (a3 : ByteArray) (w0 : (Lit.int .i64 a0).wf = true) (w1 : (Lit.int .i64 a1).wf = true) (w2 : a2.size ≤ maxLen) (w3 : a3.size ≤ maxLen) (r2 : a2.size ≤ 140737488351232) (r3 : a3.size ≤ 140737488351232) (w : World) :
    Calls Try.prog 5 #[.int .i64 a0, .int .i64 a1, .string a2, .string a3] w fun e w' => e = .returned (.bool true) ∧ Below w.heap.size w w' := by
  clear w0 w1 w2 w3
  by_cases h1 : 0 ≤ a0
  · by_cases h2 : a0 ≤ 65535
    · by_cases h3 : 0 ≤ a1
      · by_cases h4 : a1 ≤ 4294967295
        · by_cases h5 : a2.size + a3.size ≤ 200
          · have n1 : ¬ a0 < 0 := by omega
            have n2 : ¬ 65535 < a0 := by omega
            have n3 : ¬ a1 < 0 := by omega
            have n4 : ¬ 4294967295 < a1 := by omega
            have n5 : ¬ 200 < (a2.size : Int) + (a3.size : Int) := by omega
            go_enter Try.func5, Try.ntmps5
            go_wp2_with fail
            refine (alive_yes _).mono ?_; rintro e w1 ⟨rfl, hb1⟩
            have B1 := Lib.hid hb1
            clear hb1
            go_wp2_with fail
            obtain ⟨hp1, hp2, hb3, hz3⟩ := two_new' w1
            generalize ((w1.alloc newW).alloc newW) = W3 at *
            have hg1 : w.heap.size ≤ w1.heap.size := B1.out.size
            have hg3 : w1.heap.size ≤ W3.heap.size := hb3.size
            have HP1 := Lib.hid hp1
            have HP2 := Lib.hid hp2
            have BB := Lib.hid (B1.out.trans (hb3.mono B1.out.size))
            have HZ := Lib.hid hz3
            clear hp1 hp2 hb3 hz3
            refine (num_fits W3.heap.size _ a0 [] _ h1 h2 (by simp) (Wr.nil HP1.out (Nat.le_refl _))).mono ?_; rintro e X4 ⟨rfl, hw4⟩
            have H4 := Lib.hid hw4
            clear hw4
            go_wp2_with fail
            refine (text_ok W3.heap.size _ a2 _ _ (by omega) (by simp [w2_length]) H4.out.1).mono ?_; rintro e X5 ⟨rfl, hw5⟩
            have H5 := Lib.hid (H4.out.then hw5)
            have hg5 : W3.heap.size ≤ X5.heap.size := H5.out.2.size
            have Hq5 := Lib.hid ((H5.out.2.block (w1.heap.size + 1) HZ.out (by omega)).trans HP2.out)
            have B5 := Lib.hid (BB.out.trans (H5.out.2.to_below w.heap.size hg1 (by omega)))
            clear hw5
            go_wp2_with fail
            refine (long_fits X5.heap.size _ a1 [] _ h3 h4 (by simp) (Wr.nil Hq5.out (Nat.le_refl _))).mono ?_; rintro e X6 ⟨rfl, hw6⟩
            have H6 := Lib.hid hw6
            clear hw6
            go_wp2_with fail
            refine (text_ok X5.heap.size _ a3 _ _ (by omega) (by simp [w4_length]) H6.out.1).mono ?_; rintro e X7 ⟨rfl, hw7⟩
            have H7 := Lib.hid (H6.out.then hw7)
            have K7 := Lib.hid (H5.out.1.stays H7.out.2 (Nat.le_refl _) (by omega) Hq5.out)
            have B7 := Lib.hid (B5.out.trans (H7.out.2.to_below w.heap.size (by omega) (by omega)))
            clear hw7
            go_wp2_with fail
            refine (done_good _ _ _ _ K7.out).mono ?_; rintro e X8 ⟨rfl, rfl⟩
            go_wp2_with fail
            refine (done_good _ _ _ _ H7.out.1).mono ?_; rintro e X8 ⟨rfl, rfl⟩
            rw [List.nil_append]
            have hL1 : (str (w2 a0 ++ (w2 a2.size ++ a2.data.toList))).size = 4 + a2.size := by simp [str_size, w2_length]; omega
            have hL2 : (str (w4 a1 ++ (w2 a3.size ++ a3.data.toList))).size = 6 + a3.size := by simp [str_size, w2_length, w4_length]; omega
            have HX := Lib.hid (str_append (w2 a0 ++ (w2 a2.size ++ a2.data.toList)) (w4 a1 ++ (w2 a3.size ++ a3.data.toList)))
            generalize str (w2 a0 ++ (w2 a2.size ++ a2.data.toList)) = x at *
            generalize str (w4 a1 ++ (w2 a3.size ++ a3.data.toList)) = y at *
            clear H4 H5 H6 Hq5 H7 K7
            go_wp2_with fail
            rw [HX.out]
            have hnt : w2 a3.size ++ a3.data.toList ≠ [] := by simp [w2]
            refine (from_any _ _).mono ?_; rintro e X8 ⟨rfl, hw8⟩
            have B8 := Lib.hid (show Below w.heap.size w X8 by rw [← hw8]; exact B7.out.alloc B7.out.size _)
            have R8 := Lib.hid (show Rd X8 X7.heap.size (w2 a0 ++ (w2 a2.size ++ (a2.data.toList ++ (w4 a1 ++ (w2 a3.size ++ (a3.data.toList ++ [])))))) true by rw [← hw8]; have := Rd.new X7 ((w2 a0 ++ (w2 a2.size ++ a2.data.toList)) ++ (w4 a1 ++ (w2 a3.size ++ a3.data.toList))); simpa using this)
            have Hz := Lib.hid B7.out.size
            have Z8 := Lib.hid B8.out.size
            have Hnt := Lib.hid hnt
            have Hs2 := Lib.hid (show a2.data.toList.length = a2.size from by simp)
            have Hs3 := Lib.hid (show a3.data.toList.length = a3.size from by simp)
            generalize X7.heap.size = q at *
            clear hw8 hnt
            go_wp2_with fail
            refine (rnum_ok w.heap.size q a0 _ _ h1 h2 (by have := Hs2.out; have := Hs3.out; simp [w2_length, w4_length]; omega) Z8.out R8.out).mono ?_; rintro e X9 ⟨rfl, hr9⟩
            have H9 := Lib.hid hr9
            have Z9 := Lib.hid (Nat.le_trans Z8.out hr9.2.size)
            clear hr9 R8
            go_wp2_with fail
            refine (rtext_ok w.heap.size q a2 _ _ (by omega) (by have := Hs2.out; have := Hs3.out; simp [w2_length, w4_length]; omega) Z9.out H9.out.1).mono ?_; rintro e X10 ⟨rfl, hr10⟩
            have H10 := Lib.hid (H9.out.then hr10)
            have Z10 := Lib.hid (Nat.le_trans Z9.out hr10.2.size)
            clear hr10 H9
            go_wp2_with fail
            refine (rlong_ok w.heap.size q a1 _ _ h3 h4 (by have := Hs2.out; have := Hs3.out; simp [w2_length]; omega) Z10.out H10.out.1).mono ?_; rintro e X11 ⟨rfl, hr11⟩
            have H11 := Lib.hid (H10.out.then hr11)
            have Z11 := Lib.hid (Nat.le_trans Z10.out hr11.2.size)
            clear hr11 H10
            go_wp2_with fail
            refine (end_no q _ _ (by rw [List.append_nil]; exact Hnt.out) H11.out.1).mono ?_; rintro e X12 ⟨rfl, rfl⟩
            go_wp2_with fail
            refine (rtext_ok w.heap.size q a3 [] _ (by omega) (by simp) Z11.out H11.out.1).mono ?_; rintro e X12 ⟨rfl, hr12⟩
            have H12 := Lib.hid (H11.out.then hr12)
            clear hr12 H11
            go_wp2_with fail
            refine (end_yes q _ H12.out.1).mono ?_; rintro e X13 ⟨rfl, rfl⟩
            go_wp2_with fail
            go_ret
            exact ⟨rfl, B8.out.trans (H12.out.2.below Hz.out)⟩
          · have n5 : 200 < (a2.size : Int) + (a3.size : Int) := by omega
            go_enter Try.func5, Try.ntmps5
            go_wp2_with fail
            refine (alive_yes _).mono ?_; rintro e w1 ⟨rfl, hb1⟩
            have B1 := Lib.hid hb1
            clear hb1
            go_wp2_with fail
            go_ret
            exact ⟨rfl, B1.out⟩
        · have n4 : 4294967295 < a1 := by omega
          go_enter Try.func5, Try.ntmps5
          go_wp2_with fail
          refine (alive_yes _).mono ?_; rintro e w1 ⟨rfl, hb1⟩
          have B1 := Lib.hid hb1
          clear hb1
          go_wp2_with fail
          go_ret
          exact ⟨rfl, B1.out⟩
      · have n4 : a1 < 0 := by omega
        go_enter Try.func5, Try.ntmps5
        go_wp2_with fail
        refine (alive_yes _).mono ?_; rintro e w1 ⟨rfl, hb1⟩
        have B1 := Lib.hid hb1
        clear hb1
        go_wp2_with fail
        go_ret
        exact ⟨rfl, B1.out⟩
    · have n4 : 65535 < a0 := by omega
      go_enter Try.func5, Try.ntmps5
      go_wp2_with fail
      refine (alive_yes _).mono ?_; rintro e w1 ⟨rfl, hb1⟩
      have B1 := Lib.hid hb1
      clear hb1
      go_wp2_with fail
      go_ret
      exact ⟨rfl, B1.out⟩
  · have n4 : a0 < 0 := by omega
    go_enter Try.func5, Try.ntmps5
    go_wp2_with fail
    refine (alive_yes _).mono ?_; rintro e w1 ⟨rfl, hb1⟩
    have B1 := Lib.hid hb1
    clear hb1
    go_wp2_with fail
    go_ret
    exact ⟨rfl, B1.out⟩

/-! The row's step. -/
set_option maxRecDepth 100000 in
theorem lifted (os : Os) (started : os.Started) (H : Type) (enc : TypeId × Value → H) :
    ReturnsInHanded {} Try.checked os 5 .any (Rows.packJoinsSpec.pre6 enc Try.prog Try.f5 Rows.packJoinsRow.domain false) (Rows.packJoinsSpec.post enc Try.prog Try.f5 false true false false) := by
  refine returnsInHanded_of_change_sized (C := Try.checked) own started (by kernel_rfl) Try.func5
    (ChangeSpec.witness6 (enc := enc) (C := Try.checked) false ⟨#[], #[.int .i64 0, .int .i64 0, .string ByteArray.empty, .string ByteArray.empty], []⟩ 8 (by kernel_rfl) (by kernel_rfl) (by kernel_rfl) (by kernel_rfl)) ?_
  intro W base args ds gs before hval0 hW hcnd hsz0 _
  have hsz : (DataW.weightsEach Try.prog (Try.f5.params.toList ++ Rows.packJoinsSpec.plain.varTypes Try.prog) (ds ++ gs)).all (· ≤ reachBytes) = true := hsz0
  have hval : ∀ (j : Nat) t v, Try.f5.params[j]? = some t → args[j]? = some v → Value.okWide Try.prog W .any base t v := hval0
  have hW' := hW
  obtain ⟨p, q, hA0, hV, rfl, hfz, hnd⟩ := hW
  have hA : DataW.TrodAll enc Try.prog W 0 (fun _ => true) true Try.f5.params.toList args.toList ds p := hA0
  rw [Try.params5] at hA hval hsz
  obtain ⟨v0, vs0, d0, ds0, p0, q0, hargs, rfl, rfl, h0, r0⟩ := trodAll_cons hA
  obtain ⟨v1, vs1, d1, ds1, p1, q1, rfl, rfl, rfl, h1, r1⟩ := trodAll_cons r0
  obtain ⟨v2, vs2, d2, ds2, p2, q2, rfl, rfl, rfl, h2, r2⟩ := trodAll_cons r1
  obtain ⟨v3, vs3, d3, ds3, p3, q3, rfl, rfl, rfl, h3, r3⟩ := trodAll_cons r2
  obtain ⟨rfl, rfl, rfl⟩ := trodAll_nil r3
  obtain rfl : args = #[v0, v1, v2, v3] := by cases args; simp_all
  obtain ⟨rfl, rfl⟩ := trodVars_none hV
  obtain ⟨a0, rfl, rfl, rfl, w0⟩ := open_int Try.underlying3 (hval 0 3 v0 rfl rfl) h0
  obtain ⟨a1, rfl, rfl, rfl, w1⟩ := open_int Try.underlying3 (hval 1 3 v1 rfl rfl) h1
  obtain ⟨a2, rfl, rfl, rfl, w2⟩ := open_string Try.underlying9 (hval 2 9 v2 rfl rfl) h2
  obtain ⟨a3, rfl, rfl, rfl, w3⟩ := open_string Try.underlying9 (hval 3 9 v3 rfl rfl) h3
  clear hA0 hval0
  have r2 : a2.size ≤ 140737488351232 := by have := sized_string hsz (j := 2) (t := 9) rfl rfl; simpa [reachBytes] using this
  have r3 : a3.size ≤ 140737488351232 := by have := sized_string hsz (j := 3) (t := 9) rfl rfl; simpa [reachBytes] using this
  simp only [List.append_nil] at hW'
  refine (walk a0 a1 a2 a3 w0 w1 w2 w3 r2 r3 W).mono fun e W' ⟨he, hg⟩ => ?_
  subst he
  exact ⟨_, rfl, post_of_below (pa := []) (pv := []) hW' (fun _ _ _ => (trodAll_cons_mk (shut_bool Try.underlying4 _) trodAll_mk0)) (fun sp _ => (trodAll_cons_mk (shut_int Try.underlying3 w0) (trodAll_cons_mk (shut_int Try.underlying3 w1) (trodAll_cons_mk (shut_string Try.underlying9 w2) (trodAll_cons_mk (shut_string Try.underlying9 w3) trodAll_mk0))))) (fun _ _ => rfl) rfl
    hg (ok_one (by kernel_rfl) rfl (okWide_bool_mk Try.underlying4 _))⟩

theorem over : Rows.packJoinsRow.holds Try.pinned (OpenSpec.ofChange Rows.packJoinsSpec) :=
  OpenClaim.holds_of_wide 5 Try.f5 rfl rfl rfl rfl rfl rfl rfl ⟨rfl, rfl, rfl, rfl, rfl⟩ rfl rfl rfl rfl rfl (by kernel_rfl) Try.func5 (by kernel_rfl)
    (of_decide_eq_true (by kernel_rfl)) (by unfold Func.isWrapper; first | (rw [if_pos (by decide +kernel)]; kernel_rfl) | (rw [if_neg (by decide +kernel)]; exact ⟨rfl, rfl⟩))
    (fun os started H enc _ => lifted os started H enc)

/-- The statement. -/
theorem proved : Rows.PackJoinsSaid :=
  over
end Go.Proofs.Ytfggdcebeopidaa.packJoins
