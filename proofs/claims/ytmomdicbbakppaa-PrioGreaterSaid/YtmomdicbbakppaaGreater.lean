/- For every list of numbers and every number: with them pushed under their places, one more than the greatest comes first, whatever was pushed before it, and one less than the least comes last. No condition. -/
import Derived.Test.YtmomdicbbakppaaRows
import Derived.Test.YtmomdicbbakppaaLaws
import Derived.Lib.Hide
import Derived.WalkKit
import Derived.ProofKit
import Derived.OpenShut
import Derived.ChangeOld
import Derived.Below
import Derived.Carry
namespace Go.Proofs.Ytmomdicbbakppaa.prioGreater
open Go.ChangeShapes Go.WideShapes Go.ChangeAt Go.RowKit
set_option linter.unusedVariables false

theorem own : ownKnob Try.prog.godebug = none := by kernel_rfl
theorem laidOut : laidOutB Try.prog = true := by kernel_rfl


theorem own_alloc {C p : Nat} {l : List Pr} {w : World} (h : Own C p l w) (o : Obj) : Own C p l (w.alloc o) := h.below ((Below.refl _ _).alloc (Nat.le_refl _) o)
/-- The pairs that were pushed lie between o and t. -/
def Inv (C p : Nat) (w0 : World) (m : Nat) (t o : Int) (w : World) : Prop := ∃ l, l.length = m ∧ Own C p l w ∧ Below C w0 w ∧ (∀ y ∈ l, o ≤ y.1 ∧ y.1 ≤ t) ∧ -9223372036854775808 ≤ o ∧ o ≤ t ∧ t ≤ 9223372036854775807
theorem inv_next {L : List Pr} {a b x : Int} {k : Nat} (h : ∀ y ∈ L, b ≤ y.1 ∧ y.1 ≤ a) (hba : b ≤ a) : (∀ y ∈ L ++ [(x, (k : Int))], (if x < b then x else b) ≤ y.1 ∧ y.1 ≤ (if a < x then x else a)) ∧ (if x < b then x else b) ≤ (if a < x then x else a) := by
  refine ⟨fun y hy => ?_, by split <;> split <;> omega⟩
  rcases List.mem_append.1 hy with hy | hy
  · have := h y hy
    split <;> split <;> omega
  · simp at hy
    subst hy
    simp only
    split <;> split <;> omega
/-- So many are left, the least among them; last is what came last. -/
def Rest (C p : Nat) (w0 : World) (m : Nat) (o last : Int) (w : World) : Prop :=
  Below C w0 w ∧ ((∃ r : List Pr, r.length + 1 = m ∧ Own C p ((o, 2000) :: r) w ∧ ∀ y ∈ r, o < y.1) ∨ (m = 0 ∧ last = 2000 ∧ Own C p [] w))
theorem first_best {L : List Pr} {a b : Int} (h : ∀ y ∈ L, b ≤ y.1 ∧ y.1 ≤ a) (hba : b ≤ a) : Best (L ++ [(a + 1, 1000)] ++ [(b - 1, 2000)]) (a + 1, 1000) := by
  refine ⟨by simp, fun y hy => ?_⟩
  unfold le
  simp only [List.mem_append, List.mem_cons, List.not_mem_nil, or_false] at hy
  rcases hy with (hy | rfl) | rfl
  · have := h y hy
    simp only; omega
  · simp
  · simp only; omega
theorem first_perm (L : List Pr) (x z : Pr) : (x :: (L ++ [z])).Perm (L ++ [x] ++ [z]) := by
  rw [List.append_assoc]
  exact List.perm_middle.symm
theorem last_best {r : List Pr} {m : Pr} {o : Int} (h : ∀ y ∈ r, o < y.1) (hm : Best r m) : Best ((o, 2000) :: r) m := by
  refine ⟨List.mem_cons_of_mem _ hm.1, fun y hy => ?_⟩
  rcases List.mem_cons.1 hy with rfl | hy
  · have := h m hm.1
    unfold le; simp only; omega
  · exact hm.2 y hy
set_option maxRecDepth 100000 in
set_option maxHeartbeats 4000000 in
theorem walk (A : Option Addr) (n c : Nat) (l : List Int) (v : Int) (w : World) (hl : Ints w A n l) (hm : n ≤ maxLen) (hv : (Lit.int .i64 v).wf = true) :
    Calls Try.prog 8 #[.slice A n c, .int .i64 v] w fun e w' => e = .returned (.bool true) ∧ Below w.heap.size w w' := by
  unfold maxLen at hm
  have HL := Lib.hid hl
  have b1 : IntKind.i64.min = -9223372036854775808 := rfl
  have b2 : IntKind.i64.max = 9223372036854775807 := rfl
  simp only [Lit.wf, Bool.and_eq_true, decide_eq_true_eq, b1, b2] at hv
  have HV := Lib.hid hv
  clear hl hv b1 b2
  by_cases h1 : n ≤ 60
  · have n1 : ¬ 60 < n := by omega
    go_enter Try.func8, Try.ntmps8
    go_wp2_with fail
    refine (alive_yes _).mono ?_; rintro e w1 ⟨rfl, hb1⟩
    have B1 := Lib.hid hb1
    have HO := Lib.hid (Own.fresh w1)
    clear hb1
    go_wp2_with fail
    go_loopw [6, 7, 28] (fun t o x wr => ∃ (k : Nat) (a b : Int), k ≤ n ∧ x = .int .i64 k ∧ t = .int .i64 a ∧ o = .int .i64 b ∧ Inv w1.heap.size w1.heap.size w1 k a b wr) (fun _ _ x _ => n - (intOf x).toNat)
    case atStart => exact ⟨0, v, v, Nat.zero_le _, rfl, rfl, rfl, [], rfl, HO.out, (Below.refl _ _).alloc (Nat.le_refl _) _, by simp, HV.out.1, Int.le_refl _, HV.out.2⟩
    case round =>
      obtain ⟨k, a, b, hk, rfl, rfl, rfl, hq⟩ := hrel
      have HQ := Lib.hid hq
      clear hq
      by_cases hlt : k < n
      · obtain ⟨L, q1, q2, q3, q4, q5, q6, q7⟩ := HQ.out
        obtain ⟨bl, off, rfl, hbw, hc0, hx1, hx2⟩ := HL.out.2 k hlt
        have hd0 := ((B1.out.trans (q3.mono B1.out.size)).cell (p := ⟨bl, off + k, none⟩) hbw).trans hc0
        have HO1 := Lib.hid q2
        have HB1 := Lib.hid q3
        have H4 := Lib.hid q4
        have hL : L.length = k := q1
        clear hc0 q1 q2 q3 q4
        generalize l.getD k 0 = x at *
        by_cases e1 : x = 9223372036854775807
        · subst e1
          go_wp2_with fail
          go_ret
          exact ⟨rfl, B1.out.trans (HB1.out.mono B1.out.size)⟩
        · by_cases e2 : x = -9223372036854775808
          · subst e2
            go_wp2_with fail
            go_ret
            exact ⟨rfl, B1.out.trans (HB1.out.mono B1.out.size)⟩
          · have f1 : ((x : Int) == 9223372036854775807) = false := by simpa using e1
            have f2 : ((x : Int) == -9223372036854775808) = false := by simpa using e2
            have E1 := Lib.hid e1
            have E2 := Lib.hid e2
            clear e1 e2
            go_wp2_with fail
            refine (push_o _ _ L x k _ HO1.out (by omega)).mono ?_; rintro e X1 ⟨rfl, hx⟩
            have H1 := Lib.hid hx
            clear hx
            go_wp2_with fail
            go_roundw
            case rel => exact ⟨k + 1, _, _, by omega, by go_num, rfl, rfl, L ++ [(x, (k : Int))], by simp [hL], H1.out.1, HB1.out.trans H1.out.2.1, (inv_next H4.out q6).1, by split <;> omega, (inv_next (k := k) H4.out q6).2, by split <;> omega⟩
            case measure => simp [intOf]; omega
      · obtain rfl : k = n := by omega
        obtain ⟨L, q1, q2, q3, q4, q5, q6, q7⟩ := HQ.out
        have HO1 := Lib.hid q2
        have HB1 := Lib.hid q3
        have H4 := Lib.hid q4
        have hL : L.length = k := q1
        clear HQ q1 q2 q3 q4
        by_cases e1 : a = 9223372036854775807
        · subst e1
          go_wp2_with fail
          go_ret
          exact ⟨rfl, B1.out.trans (HB1.out.mono B1.out.size)⟩
        · by_cases e2 : b = -9223372036854775808
          · subst e2
            have f1 : ((a : Int) == 9223372036854775807) = false := by simpa using e1
            have E1 := Lib.hid e1
            clear e1
            go_wp2_with fail
            go_ret
            exact ⟨rfl, B1.out.trans (HB1.out.mono B1.out.size)⟩
          · have f1 : ((a : Int) == 9223372036854775807) = false := by simpa using e1
            have f2 : ((b : Int) == -9223372036854775808) = false := by simpa using e2
            have g1 : a + 1 ≤ 9223372036854775807 := by omega
            have g2 : -9223372036854775808 ≤ b - 1 := by omega
            have g3 : -9223372036854775808 ≤ a + 1 := by omega
            have g4 : b - 1 ≤ 9223372036854775807 := by omega
            have hb3 : (k : Int) ≤ 60 := by omega
            have E1 := Lib.hid e1
            have E2 := Lib.hid e2
            have HF := Lib.hid (first_best H4.out q6)
            clear e1 e2
            go_wp2_with fail
            refine (push_o _ _ L (a + 1) 1000 _ HO1.out (by omega)).mono ?_; rintro e X1 ⟨rfl, hx⟩
            have H1 := Lib.hid hx
            clear hx
            go_wp2_with fail
            refine (push_o _ _ _ (b - 1) 2000 _ H1.out.1 (by simp; omega)).mono ?_; rintro e X2 ⟨rfl, hx⟩
            have H2 := Lib.hid hx
            clear hx
            go_wp2_with fail
            refine (pop_o _ _ _ (L ++ [(b - 1, 2000)]) _ _ H2.out.1 HF.out (first_perm _ _ _)).mono ?_; rintro e X3 ⟨rfl, hx⟩
            have H3 := Lib.hid hx
            have HB3 := Lib.hid (HB1.out.trans (H1.out.2.1.trans (H2.out.2.1.trans hx.2.1)))
            clear hx
            go_wp2_with fail
            go_loopw [13, 79] (fun t x wr => ∃ (i : Nat) (z : Int), i ≤ k + 1 ∧ x = .int .i64 i ∧ t = .int .i64 z ∧ Rest w1.heap.size w1.heap.size w1 (k + 1 - i) (b - 1) z wr) (fun _ x _ => k + 1 - (intOf x).toNat)
            case atStart => exact ⟨0, 0, Nat.zero_le _, rfl, rfl, HB3.out, .inl ⟨L, by omega, H3.out.1.perm List.perm_append_comm, fun y hy => by have := H4.out y hy; omega⟩⟩
            case round =>
              obtain ⟨i, z, hi, rfl, rfl, hq⟩ := hrel
              have HQ := Lib.hid hq
              clear hq
              by_cases hit : i < k + 1
              · rcases HQ.out with ⟨r1, ⟨r, r2, r3, r4⟩ | ⟨r2, _⟩⟩
                · have HR1 := Lib.hid r1
                  have HR3 := Lib.hid r3
                  have HR4 := Lib.hid r4
                  clear r1 r3 r4
                  by_cases hr : r = []
                  · subst hr
                    have hik : i = k := by simp at r2; omega
                    have HK := Lib.hid hik
                    clear hik
                    go_wp2_with fail
                    refine (pop_o _ _ _ [] (b - 1, 2000) _ HR3.out ⟨by simp, fun y hy => by simp at hy; subst hy; exact le_refl _⟩ (List.Perm.refl _)).mono ?_; rintro e X4 ⟨rfl, hx⟩
                    have H5 := Lib.hid hx
                    clear hx
                    go_wp2_with fail
                    go_roundw
                    case rel => exact ⟨i + 1, 2000, by omega, by go_num, rfl, HR1.out.trans H5.out.2.1, .inr ⟨by have := HK.out; omega, rfl, H5.out.1⟩⟩
                    case measure => simp [intOf]; omega
                  · obtain ⟨m0, r', hbst, hprm, hln⟩ := best_split r hr
                    have HX := Lib.hid (last_best HR4.out hbst)
                    have HY := Lib.hid hprm
                    clear hbst hprm hr
                    go_wp2_with fail
                    refine (pop_o _ _ _ ((b - 1, 2000) :: r') m0 _ HR3.out HX.out ((List.Perm.swap _ _ _).trans (HY.out.cons _))).mono ?_; rintro e X4 ⟨rfl, hx⟩
                    have H5 := Lib.hid hx
                    clear hx
                    go_wp2_with fail
                    go_roundw
                    case rel => exact ⟨i + 1, m0.2, by omega, by go_num, rfl, HR1.out.trans H5.out.2.1, .inl ⟨r', by omega, H5.out.1, fun y hy => HR4.out y (HY.out.mem_iff.1 (List.mem_cons_of_mem _ hy))⟩⟩
                    case measure => simp [intOf]; omega
                · omega
              · obtain rfl : i = k + 1 := by omega
                rcases HQ.out with ⟨r1, ⟨r, r2, _⟩ | ⟨_, r3, r4⟩⟩
                · omega
                · subst r3
                  have HR1 := Lib.hid r1
                  have HR4 := Lib.hid r4
                  clear r1 r4
                  go_wp2_with fail
                  refine (len_o _ _ _ _ HR4.out).mono ?_; rintro e X1 ⟨rfl, rfl⟩
                  go_wp2_with fail
                  go_ret
                  exact ⟨rfl, B1.out.trans (HR1.out.mono B1.out.size)⟩
  · have n1 : 60 < n := by omega
    go_enter Try.func8, Try.ntmps8
    go_wp2_with fail
    refine (alive_yes _).mono ?_; rintro e w1 ⟨rfl, hb1⟩
    have B1 := Lib.hid hb1
    clear hb1
    go_wp2_with fail
    go_ret
    exact ⟨rfl, B1.out⟩

/-! The row's step. -/
set_option maxRecDepth 100000 in
theorem lifted (os : Os) (started : os.Started) (H : Type) (enc : TypeId × Value → H) :
    ReturnsInHanded {} Try.checked os 8 .any (Rows.prioGreaterSpec.pre6 enc Try.prog Try.f8 Rows.prioGreaterRow.domain false) (Rows.prioGreaterSpec.post enc Try.prog Try.f8 false true false false) := by
  refine returnsInHanded_of_change (C := Try.checked) own started (by kernel_rfl) Try.func8
    (ChangeSpec.witness6 (enc := enc) (C := Try.checked) false ⟨#[], #[.slice none 0 0, .int .i64 0], []⟩ 8 (by kernel_rfl) (by kernel_rfl) (by kernel_rfl) (by kernel_rfl)) ?_
  intro W base args ds gs before hval0 hW hcnd _
  have hval : ∀ (j : Nat) t v, Try.f8.params[j]? = some t → args[j]? = some v → Value.okWide Try.prog W .any base t v := hval0
  have hW' := hW
  obtain ⟨p, q, hA0, hV, rfl, hfz, hnd⟩ := hW
  have hA : DataW.TrodAll enc Try.prog W 0 (fun _ => true) true Try.f8.params.toList args.toList ds p := hA0
  rw [Try.params8] at hA hval
  obtain ⟨v0, vs0, d0, ds0, p0, q0, hargs, rfl, rfl, h0, r0⟩ := trodAll_cons hA
  obtain ⟨v1, vs1, d1, ds1, p1, q1, rfl, rfl, rfl, h1, r1⟩ := trodAll_cons r0
  obtain ⟨rfl, rfl, rfl⟩ := trodAll_nil r1
  obtain rfl : args = #[v0, v1] := by cases args; simp_all
  obtain ⟨rfl, rfl⟩ := trodVars_none hV
  obtain ⟨A0, n0, c0, rfl⟩ := okWide_slice Try.underlying22 (hval 0 22 v0 rfl rfl)
  have k0 := h0
  have lt0 : ∀ x ∈ p0, x.block < W.heap.size := by obtain ⟨m, hm⟩ := k0; exact DataW.trod_lt m _ _ _ hm
  obtain ⟨l0, w0, e0, f0⟩ := (by obtain ⟨fuel, hf⟩ := h0; exact ints_read hf (fun _ => rfl) : ∃ l, Ints W A0 n0 l ∧ n0 ≤ c0 ∧ c0 ≤ maxLen)
  obtain ⟨a1, rfl, rfl, rfl, w1⟩ := open_int Try.underlying3 (hval 1 3 v1 rfl rfl) h1
  clear hA0 hval0
  refine (walk A0 n0 c0 l0 a1 W w0 (Nat.le_trans e0 f0) w1).mono fun e W' ⟨he, bel⟩ => ?_
  subst he
  exact ⟨_, rfl, _, _, _, [], _, [], hW', trodAll_mk1 (shut_bool Try.underlying4 _), (trodAll_cons_mk (Below.trod laidOut (by kernel_rfl) (of_decide_eq_true (by kernel_rfl)) k0 bel lt0) (trodAll_cons_mk (shut_int Try.underlying3 w1) trodAll_mk0)), rfl, bel.frame _, fun h => by cases h⟩

theorem over : Rows.prioGreaterRow.holds Try.pinned (OpenSpec.ofChange Rows.prioGreaterSpec) :=
  OpenClaim.holds_of_wide 8 Try.f8 rfl rfl rfl rfl rfl rfl rfl ⟨rfl, rfl, rfl, rfl, rfl⟩ rfl rfl rfl rfl rfl (by kernel_rfl) Try.func8 (by kernel_rfl)
    (of_decide_eq_true (by kernel_rfl)) (by unfold Func.isWrapper; first | (rw [if_pos (by decide +kernel)]; kernel_rfl) | (rw [if_neg (by decide +kernel)]; exact ⟨rfl, rfl⟩))
    (fun os started H enc _ => lifted os started H enc)

/-- The statement. -/
theorem proved : Rows.PrioGreaterSaid := over
end Go.Proofs.Ytmomdicbbakppaa.prioGreater
