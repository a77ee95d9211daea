/- For every disk of one to forty sectors, every place and every text of at most 64 bytes: a write changes its own sector and no other one, and just it is pending. No condition. -/
import Derived.Test.YtbfboccjlplapaaRows
import Derived.Test.YtbfboccjlplapaaBase
import Derived.Lib.Hide
import Derived.WalkKit
import Derived.ProofKit
import Derived.OpenShut
import Derived.ChangeOld
import Derived.Below
import Derived.Carry
namespace Go.Proofs.Ytbfboccjlplapaa.diskAlone
open Go.ChangeShapes Go.WideShapes Go.ChangeAt Go.RowKit
set_option linter.unusedVariables false

theorem own : ownKnob Try.prog.godebug = none := by kernel_rfl
theorem laidOut : laidOutB Try.prog = true := by kernel_rfl


theorem fill_e (w : World) : Calls Try.prog 18 #[.string ⟨#[]⟩] w fun e w' => e = .returned (.string (str zeroS)) ∧ Below w.heap.size w w' := by
  have := fill_ok ⟨#[]⟩ (by decide) w
  rw [show fill (ByteArray.mk #[]).data.toList = zeroS from fill_nil] at this
  exact this
theorem tmod_lo (a : Int) (n : Nat) (h : 0 < n) : -(n : Int) < a.tmod n := by
  rcases Int.le_total 0 a with h0 | h0
  · have := Int.tmod_nonneg (n : Int) h0; omega
  · have h1 : a.tmod n = -((-a).tmod n) := by rw [Int.neg_tmod, Int.neg_neg]
    have h2 := Int.tmod_lt_of_pos (-a) (show (0 : Int) < n by omega)
    omega
theorem tmod_hi (a : Int) (n : Nat) (h : 0 < n) : a.tmod n < n := Int.tmod_lt_of_pos a (by omega)
theorem place (q : Int) (N : Nat) (h : 0 < N) (hq : -(N : Int) < q) : ∃ K : Nat, (q + N) % N = K ∧ (q + N).tmod N = K ∧ K < N := by
  have h1 := Int.emod_nonneg (q + N) (show (N : Int) ≠ 0 by omega)
  have h2 := Int.emod_lt_of_pos (q + N) (show (0 : Int) < N by omega)
  refine ⟨((q + N) % N).toNat, by omega, ?_, by omega⟩
  rw [Int.tmod_eq_emod_of_nonneg (by omega)]
  omega
theorem alone_get (N K i : Nat) (b : BA) (hi : i < N) (hK : K < N) : (appl (List.replicate N zeroS) [(K, b)]).getD i [] = if i = K then b else zeroS := by
  simp only [appl, List.foldl_cons, List.foldl_nil]
  rw [List.getD_eq_getElem?_getD]
  by_cases e : i = K
  · subst e; rw [List.getElem?_set_self (by simpa using hi), if_pos rfl]; rfl
  · rw [List.getElem?_set_ne (fun h => e h.symm), if_neg e, List.getElem?_replicate, if_pos hi]; rfl
set_option maxRecDepth 100000 in
set_option maxHeartbeats 8000000 in
theorem walk (n at_ : Int) (b : ByteArray) (w : World) (hn : (Lit.int .i64 n).wf = true) (ha : (Lit.int .i64 at_).wf = true) (hb : b.size ≤ maxLen) :
    Calls Try.prog 11 #[.int .i64 n, .int .i64 at_, .string b] w fun e w' => e = .returned (.bool true) ∧ Below w.heap.size w w' := by
  by_cases c0 : n < 1
  · have d0 : True := trivial
    go_enter Try.func11, Try.ntmps11
    go_wp2_with fail
    refine (alive_yes _).mono ?_; rintro e w1 ⟨rfl, hb1⟩
    have B1 := Lib.hid hb1
    clear hb1
    go_wp2_with fail
    go_ret
    exact ⟨rfl, B1.out⟩
  · have d0 : 1 ≤ n := by omega
    by_cases c1 : 40 < n
    · have d1 : True := trivial
      go_enter Try.func11, Try.ntmps11
      go_wp2_with fail
      refine (alive_yes _).mono ?_; rintro e w1 ⟨rfl, hb1⟩
      have B1 := Lib.hid hb1
      clear hb1
      go_wp2_with fail
      go_ret
      exact ⟨rfl, B1.out⟩
    · have d1 : n ≤ 40 := by omega
      by_cases c2 : 64 < b.size
      · have d2 : True := trivial
        go_enter Try.func11, Try.ntmps11
        go_wp2_with fail
        refine (alive_yes _).mono ?_; rintro e w1 ⟨rfl, hb1⟩
        have B1 := Lib.hid hb1
        clear hb1
        go_wp2_with fail
        go_ret
        exact ⟨rfl, B1.out⟩
      · have d2 : b.size ≤ 64 := by omega
        obtain ⟨N, rfl⟩ : ∃ N : Nat, n = N := ⟨n.toNat, by omega⟩
        obtain ⟨q, hq, hq1, hq2⟩ : ∃ q : Int, at_.tmod N = q ∧ -(N : Int) < q ∧ q < N := ⟨_, rfl, tmod_lo _ _ (by omega), tmod_hi _ _ (by omega)⟩
        obtain ⟨K, hk, hk', hkN⟩ : ∃ K : Nat, (q + N) % N = K ∧ (q + N).tmod N = K ∧ K < N := place q N (by omega) hq1
        have hsum : IntKind.i64.wrap (q + N) = q + N := IntWalk.i64_in _ (by omega)
        have hpos : 0 ≤ q + N := by omega
        have hN0 : (N : Int) ≠ 0 := by omega
        have hNz : ((N : Int) == 0) = false := by rw [beq_eq_false_iff_ne]; omega
        go_enter Try.func11, Try.ntmps11
        go_wp2_with fail
        refine (alive_yes _).mono ?_; rintro e w1 ⟨rfl, hb1⟩
        have B1 := Lib.hid hb1
        clear hb1
        go_wp2_with fail
        refine (new_d N (by omega) (by omega) _).mono ?_; rintro e w2 ⟨rfl, h⟩
        obtain ⟨C, hC⟩ : ∃ C, C = w1.heap.size := ⟨_, rfl⟩
        rw [← hC] at h ⊢
        have H := Lib.hid h
        have HC := Lib.hid (show w.heap.size ≤ C by rw [hC]; exact B1.out.size)
        clear h hC
        have FB := Lib.hid (fill_ok b hb)
        have FE := Lib.hid fill_e
        obtain ⟨fbb, hfb⟩ : ∃ fbb, fbb = fill b.data.toList := ⟨_, rfl⟩
        rw [← hfb] at FB
        have HFB := Lib.hid hfb
        have hfl : fbb.length = 64 := by rw [hfb]; exact fill_length _
        have HFL := Lib.hid hfl
        clear hfb hfl
        go_wp2_with fail
        refine (FB.out _).mono ?_; rintro e w3 ⟨rfl, h⟩
        have H1 := Lib.hid (H.out.more h (Nat.le_refl _))
        clear h H
        go_wp2_with fail
        refine (write_d H1.out.1 K fbb rfl (by simp [blank]; omega) HFL.out (by simp [blank]) (by simp [blank])).mono ?_; rintro e w4 ⟨rfl, h⟩
        have H2 := Lib.hid (show After C (C + 1) ⟨List.replicate N zeroS, [(K, fbb)], true, -1⟩ w1 w4 from by have := H1.out.then h; simpa [blank, wrote] using this)
        clear h H1
        obtain ⟨B, hB⟩ : ∃ B, B = str fbb := ⟨_, rfl⟩
        rw [← hB] at FB ⊢
        have HB := Lib.hid hB
        obtain ⟨Z, hZ⟩ : ∃ Z, Z = str zeroS := ⟨_, rfl⟩
        rw [← hZ] at FE
        have HZ := Lib.hid hZ
        clear hB hZ hk hk' hsum hpos hN0 hNz hq
        go_wp2_with fail
        go_loopw [9] (fun x wr => ∃ i : Nat, i ≤ N ∧ x = .int .i64 i ∧ After C (C + 1) ⟨List.replicate N zeroS, [(K, fbb)], true, -1⟩ w1 wr) (fun x _ => N - (intOf x).toNat)
        case atStart => exact ⟨0, Nat.zero_le _, rfl, H2.out⟩
        case round =>
          clear H2
          obtain ⟨i, hi, rfl, hqq⟩ := hrel
          have HQ := Lib.hid hqq
          clear hqq
          by_cases hlt : i < N
          · have hii : (i : Int) < N := by omega
            have hrd : Calls Try.prog 15 #[ptr (C + 1), .int .i64 i] wr fun e w' => e = .returned (.tuple #[.string (if i = K then B else Z), .int .i64 0]) ∧ wr = w' := by
              have := read_d HQ.out.1 i rfl (by simp; omega)
              rw [show (⟨List.replicate N zeroS, [(K, fbb)], true, -1⟩ : St).last = List.replicate N zeroS from rfl, show (⟨List.replicate N zeroS, [(K, fbb)], true, -1⟩ : St).pend = [(K, fbb)] from rfl, alone_get N K i fbb hlt hkN] at this
              rw [HB.out, HZ.out]
              split
              · rename_i e; rw [if_pos e] at this; exact this
              · rename_i e; rw [if_neg e] at this; exact this
            by_cases hik : i = K
            · rw [if_pos hik] at hrd
              have HRD := Lib.hid hrd
              have e1 : ((i : Int) == (K : Int)) = true := by rw [hik]; simp
              have e2 : ((i : Int) != (K : Int)) = false := by rw [hik]; simp
              have HIK := Lib.hid hik
              clear hrd hik
              go_wp2_with fail
              refine HRD.out.mono ?_; rintro e X3 ⟨rfl, rfl⟩
              go_wp2_with fail
              refine (FB.out _).mono ?_; rintro e X1 ⟨rfl, h⟩
              have H3 := Lib.hid (HQ.out.more h (Nat.le_refl _))
              clear h
              go_wp2_with fail
              go_roundw
              case rel => exact ⟨i + 1, by omega, by go_num, H3.out⟩
              case measure => simp [intOf]; omega
            · rw [if_neg hik] at hrd
              have HRD := Lib.hid hrd
              have e1 : ((i : Int) == (K : Int)) = false := by rw [beq_eq_false_iff_ne]; omega
              have e2 : ((i : Int) != (K : Int)) = true := by rw [bne, e1]; rfl
              have HIK := Lib.hid hik
              clear hrd hik
              go_wp2_with fail
              refine HRD.out.mono ?_; rintro e X3 ⟨rfl, rfl⟩
              go_wp2_with fail
              refine (FE.out _).mono ?_; rintro e X1 ⟨rfl, h⟩
              have H3 := Lib.hid (HQ.out.more h (Nat.le_refl _))
              clear h
              go_wp2_with fail
              go_roundw
              case rel => exact ⟨i + 1, by omega, by go_num, H3.out⟩
              case measure => simp [intOf]; omega
          · obtain rfl : i = N := by omega
            go_wp2_with fail
            have hd : Calls Try.prog 22 #[ptr (C + 1)] wr fun e w' => e = .returned (.int .i64 1) ∧ wr = w' := pending_d HQ.out.1
            refine hd.mono ?_; rintro e X3 ⟨rfl, rfl⟩
            clear hd
            go_wp2_with fail
            have hd : Calls Try.prog 23 #[ptr (C + 1)] wr fun e w' => e = .returned (.int .i64 i) ∧ wr = w' := by have := sectors_d HQ.out.1; simpa using this
            refine hd.mono ?_; rintro e X3 ⟨rfl, rfl⟩
            clear hd
            go_wp2_with fail
            go_ret
            exact ⟨rfl, B1.out.trans (HQ.out.2.below.mono HC.out)⟩

/-! The row's step. -/
set_option maxRecDepth 100000 in
theorem lifted (os : Os) (started : os.Started) (H : Type) (enc : TypeId × Value → H) :
    ReturnsInHanded {} Try.checked os 11 .any (Rows.diskAloneSpec.pre6 enc Try.prog Try.f11 Rows.diskAloneRow.domain false) (Rows.diskAloneSpec.post enc Try.prog Try.f11 false true false false) := by
  refine returnsInHanded_of_change (C := Try.checked) own started (by kernel_rfl) Try.func11
    (ChangeSpec.witness6 (enc := enc) (C := Try.checked) false ⟨#[], #[.int .i64 0, .int .i64 0, .string ByteArray.empty], []⟩ 8 (by kernel_rfl) (by kernel_rfl) (by kernel_rfl) (by kernel_rfl)) ?_
  intro W base args ds gs before hval0 hW hcnd _
  have hval : ∀ (j : Nat) t v, Try.f11.params[j]? = some t → args[j]? = some v → Value.okWide Try.prog W .any base t v := hval0
  have hW' := hW
  obtain ⟨p, q, hA0, hV, rfl, hfz, hnd⟩ := hW
  have hA : DataW.TrodAll enc Try.prog W 0 (fun _ => true) true Try.f11.params.toList args.toList ds p := hA0
  rw [Try.params11] at hA hval
  obtain ⟨v0, vs0, d0, ds0, p0, q0, hargs, rfl, rfl, h0, r0⟩ := trodAll_cons hA
  obtain ⟨v1, vs1, d1, ds1, p1, q1, rfl, rfl, rfl, h1, r1⟩ := trodAll_cons r0
  obtain ⟨v2, vs2, d2, ds2, p2, q2, rfl, rfl, rfl, h2, r2⟩ := trodAll_cons r1
  obtain ⟨rfl, rfl, rfl⟩ := trodAll_nil r2
  obtain rfl : args = #[v0, v1, v2] := by cases args; simp_all
  obtain ⟨rfl, rfl⟩ := trodVars_none hV
  obtain ⟨a0, rfl, rfl, rfl, w0⟩ := open_int Try.underlying3 (hval 0 3 v0 rfl rfl) h0
  obtain ⟨a1, rfl, rfl, rfl, w1⟩ := open_int Try.underlying3 (hval 1 3 v1 rfl rfl) h1
  obtain ⟨a2, rfl, rfl, rfl, w2⟩ := Go.ChangeMaps.open_string Try.underlying9 (hval 2 9 v2 rfl rfl) h2
  clear hA0 hval0
  refine (walk a0 a1 a2 W w0 w1 w2).mono fun e W' ⟨he, bel⟩ => ?_
  subst he
  exact ⟨_, rfl, _, _, _, [], _, [], hW', trodAll_mk1 (shut_bool Try.underlying4 _), (trodAll_cons_mk (shut_int Try.underlying3 w0) (trodAll_cons_mk (shut_int Try.underlying3 w1) (trodAll_cons_mk (Go.ChangeMaps.shut_string Try.underlying9 w2) trodAll_mk0))), rfl, bel.frame _, fun h => by cases h⟩

theorem over : Rows.diskAloneRow.holds Try.pinned (OpenSpec.ofChange Rows.diskAloneSpec) :=
  OpenClaim.holds_of_wide 11 Try.f11 rfl rfl rfl rfl rfl rfl rfl ⟨rfl, rfl, rfl, rfl, rfl⟩ rfl rfl rfl rfl rfl (by kernel_rfl) Try.func11 (by kernel_rfl)
    (of_decide_eq_true (by kernel_rfl)) (by unfold Func.isWrapper; first | (rw [if_pos (by decide +kernel)]; kernel_rfl) | (rw [if_neg (by decide +kernel)]; exact ⟨rfl, rfl⟩))
    (fun os started H enc _ => lifted os started H enc)

/-- The statement. -/
theorem proved : Rows.DiskAloneSaid := over
end Go.Proofs.Ytbfboccjlplapaa.diskAlone
