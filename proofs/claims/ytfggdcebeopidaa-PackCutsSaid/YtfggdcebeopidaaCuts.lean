/- For every string and all numbers n, k the law PackCuts returns true: bytes of which some lack are not read to their end; nothing else is assumed. -/
import Derived.Test.YtfggdcebeopidaaRows
import Derived.Test.YtfggdcebeopidaaAlive
import Derived.Lib.Hide
import Derived.WalkLawsBesides
import Derived.WalkSpells
import Derived.Deep.QuietTactic
import Derived.BigQuiet
import Derived.WalkKit
import Derived.ProofKit
import Derived.OpenShut
import Derived.ShutString
namespace Go.Proofs.Ytfggdcebeopidaa.packCuts
open Go.ChangeShapes Go.WideShapes Go.ChangeAt Go.RowKit
open Go.ChangeMaps (open_string shut_string)
set_option linter.unusedVariables false

theorem own : ownKnob Try.prog.godebug = none := by kernel_rfl

theorem cut_at (k : Int) (n : Nat) (hn : n ≤ 1000) : ∃ c : Nat, (wrap64 (k.tmod (4 + (n : Int)) + (4 + (n : Int)))).tmod (4 + (n : Int)) = (c : Int) ∧ c < 4 + n := by
  have h1 := Int.tmod_lt_of_pos k (b := 4 + (n : Int)) (by omega)
  have h2 : -(4 + (n : Int)) < k.tmod (4 + (n : Int)) := by
    have := Int.tmod_lt_of_pos (-k) (b := 4 + (n : Int)) (by omega)
    rw [Int.neg_tmod] at this
    omega
  have e : wrap64 (k.tmod (4 + (n : Int)) + (4 + (n : Int))) = k.tmod (4 + (n : Int)) + (4 + (n : Int)) := by unfold wrap64; omega
  rw [e]
  have h3 := Int.tmod_nonneg (4 + (n : Int)) (a := k.tmod (4 + (n : Int)) + (4 + (n : Int))) (by omega)
  have h4 := Int.tmod_lt_of_pos (k.tmod (4 + (n : Int)) + (4 + (n : Int))) (b := 4 + (n : Int)) (by omega)
  exact ⟨((k.tmod (4 + (n : Int)) + (4 + (n : Int))).tmod (4 + (n : Int))).toNat, by omega, by omega⟩
theorem take_w2 (v : Int) (l : List UInt8) (c : Nat) (h : 2 ≤ c) : (w2 v ++ l).take c = w2 v ++ l.take (c - 2) := by
  rw [List.take_append, w2_length, List.take_of_length_le (by rw [w2_length]; exact h)]
/-! The walk: the Go text returns true and leaves what was there as it was. -/
theorem walk (a0 : ByteArray) (a1 : Int) (a2 : Int) (w0 : a0.size ≤ maxLen) (w1 : (Lit.int .i64 a1).wf = true) (w2 : (Lit.int .i64 a2).wf = true) (w : World) :
    Calls Try.prog 4 #[.string a0, .int .i64 a1, .int .i64 a2] w fun e w' => e = .returned (.bool true) ∧ Below w.heap.size w w' := by
  clear w0 w1 w2
  by_cases h1 : 1 ≤ a0.size
  · by_cases h2 : a0.size ≤ 200
    · by_cases h3 : 0 ≤ a1
      · by_cases h4 : a1 ≤ 65535
        · have n1 : ¬ a0.size < 1 := by omega
          have n2 : ¬ 200 < a0.size := by omega
          have n3 : ¬ a1 < 0 := by omega
          have n4 : ¬ 65535 < a1 := by omega
          go_enter Try.func4, Try.ntmps4
          go_wp2_with fail
          refine (alive_yes _).mono ?_; rintro e w1 ⟨rfl, hb1⟩
          have B1 := Lib.hid hb1
          clear hb1
          go_wp2_with fail
          refine (num_fits w.heap.size _ a1 [] _ h3 h4 (by simp) (Wr.new _ w1 (by have := B1.out.size; omega))).mono ?_; rintro e w2' ⟨rfl, hw2⟩
          have B2 := Lib.hid ((B1.out.alloc B1.out.size (.cells #[.slice none 0 0, .bool false] 27)).trans (hw2.2.below B1.out.size))
          have H2 := Lib.hid hw2.1
          clear hw2
          go_wp2_with fail
          refine (text_ok w.heap.size _ a0 _ _ (by omega) (by simp [w2_length]) H2.out).mono ?_; rintro e w3 ⟨rfl, hw3⟩
          have B3 := Lib.hid (B2.out.trans (hw3.2.below B1.out.size))
          have H3 := Lib.hid hw3.1
          clear hw3
          go_wp2_with fail
          refine (done_good _ _ _ _ H3.out).mono ?_; rintro e w3' ⟨rfl, rfl⟩
          rw [List.nil_append]
          have hL : (str (w2 a1 ++ (w2 a0.size ++ a0.data.toList))).size = 4 + a0.size := by simp [str_size, w2_length]; omega
          generalize hxx : str (w2 a1 ++ (w2 a0.size ++ a0.data.toList)) = x at hL ⊢
          have Hx := Lib.hid hxx
          clear hxx
          obtain ⟨c, hc, hcl⟩ := cut_at a2 a0.size (by omega)
          have hc' : (c : Int) ≤ 4 + a0.size := by omega
          have hx0 : ¬ x.size = 0 := by omega
          have hz0 : ¬ (4 + (a0.size : Int)) = 0 := by omega
          go_wp2_with fail
          rw [show x.extract 0 c = str ((w2 a1 ++ (w2 a0.size ++ a0.data.toList)).take c) by rw [← Hx.out, extract_take]]
          refine (from_any _ _).mono ?_; rintro e w4 ⟨rfl, hw4⟩
          have B4 := Lib.hid (show Below w.heap.size w w4 by rw [← hw4]; exact B3.out.alloc B3.out.size _)
          have R4 := Lib.hid (show Rd w4 w3.heap.size ((w2 a1 ++ (w2 a0.size ++ a0.data.toList)).take c) true by rw [← hw4]; exact Rd.new _ _)
          have Hz := Lib.hid B3.out.size
          have Z4 := Lib.hid B4.out.size
          have Hs := Lib.hid (show a0.data.toList.length = a0.size from by simp)
          have hse : (str []).toList.isEmpty = true := by rw [str_toList]; rfl
          generalize w3.heap.size = q at *
          clear hw4 hc hL hx0 hz0
          by_cases c2 : c < 2
          · go_wp2_with fail
            refine (rnum_short w.heap.size q _ _ (by simp; omega) Z4.out R4.out).mono ?_; rintro e w5 ⟨rfl, hr5⟩
            have H5 := Lib.hid hr5
            have Z5 := Lib.hid (Nat.le_trans Z4.out hr5.2.size)
            clear hr5
            go_wp2_with fail
            refine (rtext_bad w.heap.size q _ _ Z5.out H5.out.1).mono ?_; rintro e w6 ⟨rfl, hr6⟩
            have H6 := Lib.hid (H5.out.then hr6)
            clear hr6
            go_wp2_with fail
            refine (bad_yes q _ _ H6.out.1).mono ?_; rintro e w7 ⟨rfl, rfl⟩
            go_wp2_with fail
            go_ret
            exact ⟨rfl, B4.out.trans (H6.out.2.below Hz.out)⟩
          · by_cases c4 : c < 4
            · go_wp2_with fail
              refine (rnum_ok w.heap.size q a1 ((w2 a0.size ++ a0.data.toList).take (c - 2)) _ h3 h4 (by simp; omega) Z4.out (by rw [← take_w2 _ _ _ (by omega)]; exact R4.out)).mono ?_; rintro e w5 ⟨rfl, hr5⟩
              have H5 := Lib.hid hr5
              have Z5 := Lib.hid (Nat.le_trans Z4.out hr5.2.size)
              clear hr5
              go_wp2_with fail
              refine (rtext_few w.heap.size q _ _ (by simp; omega) Z5.out H5.out.1).mono ?_; rintro e w6 ⟨rfl, hr6⟩
              have H6 := Lib.hid (H5.out.then hr6)
              clear hr6
              go_wp2_with fail
              refine (bad_yes q _ _ H6.out.1).mono ?_; rintro e w7 ⟨rfl, rfl⟩
              go_wp2_with fail
              go_ret
              exact ⟨rfl, B4.out.trans (H6.out.2.below Hz.out)⟩
            · go_wp2_with fail
              refine (rnum_ok w.heap.size q a1 (w2 a0.size ++ a0.data.toList.take (c - 2 - 2)) _ h3 h4 (by have := Hs.out; simp [w2_length]; omega) Z4.out (by rw [← take_w2 a0.size _ _ (by omega), ← take_w2 _ _ _ (by omega)]; exact R4.out)).mono ?_; rintro e w5 ⟨rfl, hr5⟩
              have H5 := Lib.hid hr5
              have Z5 := Lib.hid (Nat.le_trans Z4.out hr5.2.size)
              clear hr5
              go_wp2_with fail
              refine (rtext_short w.heap.size q a0.size _ _ (by omega) (by simp; omega) Z5.out H5.out.1).mono ?_; rintro e w6 ⟨rfl, hr6⟩
              have H6 := Lib.hid (H5.out.then hr6)
              clear hr6
              go_wp2_with fail
              refine (bad_yes q _ _ H6.out.1).mono ?_; rintro e w7 ⟨rfl, rfl⟩
              go_wp2_with fail
              go_ret
              exact ⟨rfl, B4.out.trans (H6.out.2.below Hz.out)⟩
        · have n1 : ¬ a0.size < 1 := by omega
          have n2 : ¬ 200 < a0.size := by omega
          have n3 : ¬ a1 < 0 := by omega
          have n4 : 65535 < a1 := by omega
          go_enter Try.func4, Try.ntmps4
          go_wp2_with fail
          refine (alive_yes _).mono ?_; rintro e w1 ⟨rfl, hb1⟩
          have B1 := Lib.hid hb1
          clear hb1
          go_wp2_with fail
          go_ret
          exact ⟨rfl, B1.out⟩
      · have n1 : ¬ a0.size < 1 := by omega
        have n2 : ¬ 200 < a0.size := by omega
        have n3 : a1 < 0 := by omega
        go_enter Try.func4, Try.ntmps4
        go_wp2_with fail
        refine (alive_yes _).mono ?_; rintro e w1 ⟨rfl, hb1⟩
        have B1 := Lib.hid hb1
        clear hb1
        go_wp2_with fail
        go_ret
        exact ⟨rfl, B1.out⟩
    · have n1 : ¬ a0.size < 1 := by omega
      have n2 : 200 < a0.size := by omega
      go_enter Try.func4, Try.ntmps4
      go_wp2_with fail
      refine (alive_yes _).mono ?_; rintro e w1 ⟨rfl, hb1⟩
      have B1 := Lib.hid hb1
      clear hb1
      go_wp2_with fail
      go_ret
      exact ⟨rfl, B1.out⟩
  · have n1 : a0.size < 1 := by omega
    go_enter Try.func4, Try.ntmps4
    go_wp2_with fail
    refine (alive_yes _).mono ?_; rintro e w1 ⟨rfl, hb1⟩
    have B1 := Lib.hid hb1
    clear hb1
    go_wp2_with fail
    go_ret
    exact ⟨rfl, B1.out⟩

/-! The row's step. -/
set_option maxRecDepth 100000 in
theorem lifted (os : Os) (started : os.Started) (H : Type) (enc : TypeId × Value → H) :
    ReturnsInHanded {} Try.checked os 4 .any (Rows.packCutsSpec.pre6 enc Try.prog Try.f4 Rows.packCutsRow.domain false) (Rows.packCutsSpec.post enc Try.prog Try.f4 false true false false) := by
  refine returnsInHanded_of_change (C := Try.checked) own started (by kernel_rfl) Try.func4
    (ChangeSpec.witness6 (enc := enc) (C := Try.checked) false ⟨#[], #[.string ByteArray.empty, .int .i64 0, .int .i64 0], []⟩ 8 (by kernel_rfl) (by kernel_rfl) (by kernel_rfl) (by kernel_rfl)) ?_
  intro W base args ds gs before hval0 hW hcnd _
  have hval : ∀ (j : Nat) t v, Try.f4.params[j]? = some t → args[j]? = some v → Value.okWide Try.prog W .any base t v := hval0
  have hW' := hW
  obtain ⟨p, q, hA0, hV, rfl, hfz, hnd⟩ := hW
  have hA : DataW.TrodAll enc Try.prog W 0 (fun _ => true) true Try.f4.params.toList args.toList ds p := hA0
  rw [Try.params4] at hA hval
  obtain ⟨v0, vs0, d0, ds0, p0, q0, hargs, rfl, rfl, h0, r0⟩ := trodAll_cons hA
  obtain ⟨v1, vs1, d1, ds1, p1, q1, rfl, rfl, rfl, h1, r1⟩ := trodAll_cons r0
  obtain ⟨v2, vs2, d2, ds2, p2, q2, rfl, rfl, rfl, h2, r2⟩ := trodAll_cons r1
  obtain ⟨rfl, rfl, rfl⟩ := trodAll_nil r2
  obtain rfl : args = #[v0, v1, v2] := by cases args; simp_all
  obtain ⟨rfl, rfl⟩ := trodVars_none hV
  obtain ⟨a0, rfl, rfl, rfl, w0⟩ := open_string Try.underlying9 (hval 0 9 v0 rfl rfl) h0
  obtain ⟨a1, rfl, rfl, rfl, w1⟩ := open_int Try.underlying3 (hval 1 3 v1 rfl rfl) h1
  obtain ⟨a2, rfl, rfl, rfl, w2⟩ := open_int Try.underlying3 (hval 2 3 v2 rfl rfl) h2
  clear hA0 hval0
  simp only [List.append_nil] at hW'
  refine (walk a0 a1 a2 w0 w1 w2 W).mono fun e W' ⟨he, hg⟩ => ?_
  subst he
  exact ⟨_, rfl, post_of_below (pa := []) (pv := []) hW' (fun _ _ _ => (trodAll_cons_mk (shut_bool Try.underlying4 _) trodAll_mk0)) (fun sp _ => (trodAll_cons_mk (shut_string Try.underlying9 w0) (trodAll_cons_mk (shut_int Try.underlying3 w1) (trodAll_cons_mk (shut_int Try.underlying3 w2) trodAll_mk0)))) (fun _ _ => rfl) rfl
    hg (ok_one (by kernel_rfl) rfl (okWide_bool_mk Try.underlying4 _))⟩

theorem over : Rows.packCutsRow.holds Try.pinned (OpenSpec.ofChange Rows.packCutsSpec) :=
  OpenClaim.holds_of_wide 4 Try.f4 rfl rfl rfl rfl rfl rfl rfl ⟨rfl, rfl, rfl, rfl, rfl⟩ rfl rfl rfl rfl rfl (by kernel_rfl) Try.func4 (by kernel_rfl)
    (of_decide_eq_true (by kernel_rfl)) (by unfold Func.isWrapper; first | (rw [if_pos (by decide +kernel)]; kernel_rfl) | (rw [if_neg (by decide +kernel)]; exact ⟨rfl, rfl⟩))
    (fun os started H enc _ => lifted os started H enc)

/-- The statement. -/
theorem proved : Rows.PackCutsSaid :=
  over
end Go.Proofs.Ytfggdcebeopidaa.packCuts
