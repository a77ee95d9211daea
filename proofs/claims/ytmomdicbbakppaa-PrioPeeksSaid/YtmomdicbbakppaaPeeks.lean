/- For every list of pairs: behind each Push, two Peeks show the same; then as many times as were pushed a Pop hands out what a Peek showed just before; then the queue is empty. No condition. -/
import Derived.Test.YtmomdicbbakppaaRows
import Derived.Test.YtmomdicbbakppaaLaws
import Derived.Lib.Hide
import Derived.WalkKit
import Derived.ProofKit
import Derived.OpenShut
import Derived.ChangeOld
import Derived.Below
import Derived.Carry
namespace Go.Proofs.Ytmomdicbbakppaa.prioPeeks
open Go.ChangeShapes Go.WideShapes Go.ChangeAt Go.RowKit
set_option linter.unusedVariables false

theorem own : ownKnob Try.prog.godebug = none := by kernel_rfl
theorem laidOut : laidOutB Try.prog = true := by kernel_rfl


/-- What holds at the head of the first loop, of the second. -/
def Inv (C p : Nat) (w0 : World) (m : Nat) (w : World) : Prop := ∃ l, l.length = m ∧ Own C p l w ∧ Below C w0 w
theorem Inv.start {C p : Nat} {w0 w : World} (h : Own C p [] w) (hb : Below C w0 w) : Inv C p w0 0 w := ⟨[], rfl, h, hb⟩
theorem own_alloc {C p : Nat} {l : List Pr} {w : World} (h : Own C p l w) (o : Obj) : Own C p l (w.alloc o) := h.below ((Below.refl _ _).alloc (Nat.le_refl _) o)
set_option maxRecDepth 100000 in
set_option maxHeartbeats 4000000 in
theorem walk (A : Option Addr) (n c : Nat) (l : List O3) (w : World) (hl : Ops w A n l) (hm : n ≤ maxLen) :
    Calls Try.prog 7 #[.slice A n c] w fun e w' => e = .returned (.bool true) ∧ Below w.heap.size w w' := by
  unfold maxLen at hm
  have HL := Lib.hid hl
  clear hl
  by_cases h1 : n ≤ 60
  · have n1 : ¬ 60 < n := by omega
    go_enter Try.func7, Try.ntmps7
    go_wp2_with fail
    refine (alive_yes _).mono ?_; rintro e w1 ⟨rfl, hb1⟩
    have B1 := Lib.hid hb1
    have HO := Lib.hid (Own.fresh w1)
    clear hb1
    go_wp2_with fail
    go_loopw [33] (fun x wr => ∃ k : Nat, k ≤ n ∧ x = .int .i64 k ∧ Inv w1.heap.size w1.heap.size w1 k wr) (fun x _ => n - (intOf x).toNat)
    case atStart => exact ⟨0, Nat.zero_le _, rfl, Inv.start HO.out ((Below.refl _ _).alloc (Nat.le_refl _) _)⟩
    case round =>
      obtain ⟨k, hk, rfl, hq⟩ := hrel
      have HQ := Lib.hid hq
      clear hq
      by_cases hlt : k < n
      · obtain ⟨L, q1, q2, q3⟩ := HQ.out
        obtain ⟨b, off, rfl, hbw, hc0, hc1, hc2⟩ := HL.out.2 k hlt
        have hd0 := ((B1.out.trans (q3.mono B1.out.size)).cell (p := ⟨b, off + k * 3, none⟩) hbw).trans hc0
        have hd1 := ((B1.out.trans (q3.mono B1.out.size)).cell (p := ⟨b, off + k * 3 + 1, none⟩) hbw).trans hc1
        have hd2 := ((B1.out.trans (q3.mono B1.out.size)).cell (p := ⟨b, off + k * 3 + 2, none⟩) hbw).trans hc2
        have HO1 := Lib.hid q2
        have HB1 := Lib.hid q3
        have hL : L.length = k := q1
        obtain ⟨m, hm2⟩ := best_exists (L ++ [((l.getD k o0).2.1, (l.getD k o0).2.2)]) (by simp)
        have HM := Lib.hid hm2
        clear hc0 hc1 hc2 q1 q2 q3 hm2
        generalize l.getD k o0 = o at *
        obtain ⟨z, a, d⟩ := o
        go_wp2_with fail
        refine (push_o _ _ L a d _ (own_alloc HO1.out _) (by omega)).mono ?_; rintro e X1 ⟨rfl, hx⟩
        have H1 := Lib.hid hx
        clear hx
        go_wp2_with fail
        refine (peek_o _ _ _ m _ H1.out.1 HM.out).mono ?_; rintro e X2 ⟨rfl, hx⟩
        have H2 := Lib.hid hx
        clear hx
        go_wp2_with fail
        refine (peek_o _ _ _ m _ H2.out.1 HM.out).mono ?_; rintro e X3 ⟨rfl, hx⟩
        have H3 := Lib.hid hx
        clear hx
        go_wp2_with fail
        go_roundw
        case rel => exact ⟨k + 1, by omega, by go_num, L ++ [(a, d)], by simp [hL], H3.out.1, (HB1.out.alloc HB1.out.size _).trans (H1.out.2.1.trans (H2.out.2.1.trans H3.out.2.1))⟩
        case measure => simp [intOf]; omega
      · obtain rfl : k = n := by omega
        go_wp2_with fail
        go_loopw [74] (fun x wr => ∃ i : Nat, i ≤ k ∧ x = .int .i64 i ∧ Inv w1.heap.size w1.heap.size w1 (k - i) wr) (fun x _ => k - (intOf x).toNat)
        case atStart => exact ⟨0, Nat.zero_le _, rfl, HQ.out⟩
        case round =>
          clear HQ
          obtain ⟨i, hi, rfl, hq⟩ := hrel
          have HQ := Lib.hid hq
          clear hq
          by_cases hit : i < k
          · obtain ⟨L, q1, q2, q3⟩ := HQ.out
            have HO1 := Lib.hid q2
            have HB1 := Lib.hid q3
            have hL : L.length = k - i := q1
            obtain ⟨m, L2, hb, hp, hq⟩ := best_split L (by intro e; rw [e] at hL; simp at hL; omega)
            have HM := Lib.hid hb
            have HP := Lib.hid hp
            clear q1 q2 q3 hb hp
            go_wp2_with fail
            refine (peek_o _ _ _ m _ HO1.out HM.out).mono ?_; rintro e X1 ⟨rfl, hx⟩
            have H1 := Lib.hid hx
            clear hx
            go_wp2_with fail
            refine (pop_o _ _ _ L2 m _ H1.out.1 HM.out HP.out).mono ?_; rintro e X2 ⟨rfl, hx⟩
            have H2 := Lib.hid hx
            clear hx
            go_wp2_with fail
            go_roundw
            case rel => exact ⟨i + 1, by omega, by go_num, L2, by omega, H2.out.1, HB1.out.trans (H1.out.2.1.trans H2.out.2.1)⟩
            case measure => simp [intOf]; omega
          · obtain rfl : i = k := by omega
            obtain ⟨L, q1, q2, q3⟩ := HQ.out
            have hL : L = [] := List.eq_nil_of_length_eq_zero (by omega)
            subst hL
            have HO1 := Lib.hid q2
            have HB1 := Lib.hid q3
            clear q1 q2 q3
            go_wp2_with fail
            refine (peek_e _ _ _ HO1.out).mono ?_; rintro e X1 ⟨rfl, rfl⟩
            go_wp2_with fail
            refine (len_o _ _ _ _ HO1.out).mono ?_; rintro e X1 ⟨rfl, rfl⟩
            go_wp2_with fail
            go_ret
            exact ⟨rfl, B1.out.trans (HB1.out.mono B1.out.size)⟩
  · have n1 : 60 < n := by omega
    go_enter Try.func7, Try.ntmps7
    go_wp2_with fail
    refine (alive_yes _).mono ?_; rintro e w1 ⟨rfl, hb1⟩
    have B1 := Lib.hid hb1
    clear hb1
    go_wp2_with fail
    go_ret
    exact ⟨rfl, B1.out⟩

/-! The row's step. -/
set_option maxRecDepth 100000 in
theorem lifted (os : Os) (started : os.Started) (H : Type) (enc : TypeId × Value → H) :
    ReturnsInHanded {} Try.checked os 7 .any (Rows.prioPeeksSpec.pre6 enc Try.prog Try.f7 Rows.prioPeeksRow.domain false) (Rows.prioPeeksSpec.post enc Try.prog Try.f7 false true false false) := by
  refine returnsInHanded_of_change (C := Try.checked) own started (by kernel_rfl) Try.func7
    (ChangeSpec.witness6 (enc := enc) (C := Try.checked) false ⟨#[], #[.slice none 0 0], []⟩ 8 (by kernel_rfl) (by kernel_rfl) (by kernel_rfl) (by kernel_rfl)) ?_
  intro W base args ds gs before hval0 hW hcnd _
  have hval : ∀ (j : Nat) t v, Try.f7.params[j]? = some t → args[j]? = some v → Value.okWide Try.prog W .any base t v := hval0
  have hW' := hW
  obtain ⟨p, q, hA0, hV, rfl, hfz, hnd⟩ := hW
  have hA : DataW.TrodAll enc Try.prog W 0 (fun _ => true) true Try.f7.params.toList args.toList ds p := hA0
  rw [Try.params7] at hA hval
  obtain ⟨v0, vs0, d0, ds0, p0, q0, hargs, rfl, rfl, h0, r0⟩ := trodAll_cons hA
  obtain ⟨rfl, rfl, rfl⟩ := trodAll_nil r0
  obtain rfl : args = #[v0] := by cases args; simp_all
  obtain ⟨rfl, rfl⟩ := trodVars_none hV
  obtain ⟨A0, n0, c0, rfl⟩ := okWide_slice Try.underlying37 (hval 0 37 v0 rfl rfl)
  have k0 := h0
  have lt0 : ∀ x ∈ p0, x.block < W.heap.size := by obtain ⟨m, hm⟩ := k0; exact DataW.trod_lt m _ _ _ hm
  obtain ⟨l0, w0, e0, f0⟩ := (by obtain ⟨fuel, hf⟩ := h0; exact ops_read hf (fun _ => rfl) : ∃ l, Ops W A0 n0 l ∧ n0 ≤ c0 ∧ c0 ≤ maxLen)
  clear hA0 hval0
  refine (walk A0 n0 c0 l0 W w0 (Nat.le_trans e0 f0)).mono fun e W' ⟨he, bel⟩ => ?_
  subst he
  exact ⟨_, rfl, _, _, _, [], _, [], hW', trodAll_mk1 (shut_bool Try.underlying4 _), (trodAll_cons_mk (Below.trod laidOut (by kernel_rfl) (of_decide_eq_true (by kernel_rfl)) k0 bel lt0) trodAll_mk0), rfl, bel.frame _, fun h => by cases h⟩

theorem over : Rows.prioPeeksRow.holds Try.pinned (OpenSpec.ofChange Rows.prioPeeksSpec) :=
  OpenClaim.holds_of_wide 7 Try.f7 rfl rfl rfl rfl rfl rfl rfl ⟨rfl, rfl, rfl, rfl, rfl⟩ rfl rfl rfl rfl rfl (by kernel_rfl) Try.func7 (by kernel_rfl)
    (of_decide_eq_true (by kernel_rfl)) (by unfold Func.isWrapper; first | (rw [if_pos (by decide +kernel)]; kernel_rfl) | (rw [if_neg (by decide +kernel)]; exact ⟨rfl, rfl⟩))
    (fun os started H enc _ => lifted os started H enc)

/-- The statement. -/
theorem proved : Rows.PrioPeeksSaid := over
end Go.Proofs.Ytmomdicbbakppaa.prioPeeks
