/- For every place and every list of numbers: pushed at that one place they come rising, as Sorted tells them from its end. No condition. -/
import Derived.Test.YtfelhepdcnckhaaRows
import Derived.Test.YtfelhepdcnckhaaLaws
import Derived.Test.YtfelhepdcnckhaaNums
import Derived.Lib.Hide
import Derived.WalkKit
import Derived.ProofKit
import Derived.OpenShut
import Derived.ChangeOld
import Derived.Below
import Derived.Carry
namespace Go.Proofs.Ytfelhepdcnckhaa.prioTies
open Go.ChangeShapes Go.WideShapes Go.ChangeAt Go.RowKit
set_option linter.unusedVariables false

theorem own : ownKnob Try.prog.godebug = none := by kernel_rfl
theorem laidOut : laidOutB Try.prog = true := by kernel_rfl


abbrev at_ (a : Int) (l : List Int) : List Pr := l.map fun x => (a, x)
def Inv (C p : Nat) (w0 : World) (a : Int) (k : Nat) (l : List Int) (w : World) : Prop := Own C p (at_ a (l.take k)) w ∧ Below C w0 w
def Rest (C p : Nat) (w0 : World) (a : Int) (m : Nat) (s : List Int) (A : Option Addr) (n c : Nat) (w : World) : Prop := Own C p (at_ a (s.take m)) w ∧ Below C w0 w ∧ Row w A n c s
theorem take_snoc (l : List Int) (k : Nat) (h : k < l.length) : l.take (k + 1) = l.take k ++ [l.getD k 0] := by
  rw [List.take_succ_eq_append_getElem h]; simp [List.getD, h]
theorem ties_best (a : Int) (s : List Int) (hs : s.Pairwise fun x y => y ≤ x) (k : Nat) (h : k < s.length) : Best (at_ a (s.take (k + 1))) (a, s.getD k 0) := by
  rw [take_snoc s k h]
  refine ⟨by simp, fun y hy => ?_⟩
  obtain ⟨x, hx, rfl⟩ := List.mem_map.1 hy
  unfold le
  simp only [true_and]
  right
  rcases List.mem_append.1 hx with hx | hx
  · have h1 : (s.take k ++ [s.getD k 0]).Pairwise fun x y => y ≤ x := by rw [← take_snoc s k h]; exact hs.take
    exact (List.pairwise_append.1 h1).2.2 x hx _ (by simp)
  · simp at hx; subst hx; simp
theorem ties_perm (a : Int) (s : List Int) (k : Nat) (h : k < s.length) : ((a, s.getD k 0) :: at_ a (s.take k)).Perm (at_ a (s.take (k + 1))) := by
  rw [take_snoc s k h]
  simp only [at_, List.map_append, List.map_cons, List.map_nil]
  exact (List.perm_append_singleton _ _).symm
set_option maxRecDepth 100000 in
set_option maxHeartbeats 4000000 in
theorem walk (a : Int) (A : Option Addr) (n c : Nat) (l : List Int) (w : World) (ha : (Lit.int .i64 a).wf = true) (hl : Ints w A n l) (hm : n ≤ maxLen) :
    Calls Try.prog 4 #[.int .i64 a, .slice A n c] w fun e w' => e = .returned (.bool true) ∧ Below w.heap.size w w' := by
  unfold maxLen at hm
  have HL := Lib.hid hl
  have hlen : l.length = n := hl.1
  have HLen := Lib.hid hlen
  clear hl hlen
  by_cases h1 : n ≤ 60
  · have n1 : ¬ 60 < n := by omega
    go_enter Try.func4, Try.ntmps4
    go_wp2_with fail
    refine (alive_yes _).mono ?_; rintro e w1 ⟨rfl, hb1⟩
    have B1 := Lib.hid hb1
    have HO := Lib.hid (Own.fresh w1)
    clear hb1
    go_wp2_with fail
    go_loopw [25] (fun x wr => ∃ k : Nat, k ≤ n ∧ x = .int .i64 k ∧ Inv w1.heap.size w1.heap.size w1 a k l wr) (fun x _ => n - (intOf x).toNat)
    case atStart => exact ⟨0, Nat.zero_le _, rfl, HO.out, (Below.refl _ _).alloc (Nat.le_refl _) _⟩
    case round =>
      obtain ⟨k, hk, rfl, hq⟩ := hrel
      have HQ := Lib.hid hq
      clear hq
      by_cases hlt : k < n
      · obtain ⟨b, off, rfl, hbw, hc0, _, _⟩ := HL.out.2 k hlt
        have hd0 := ((B1.out.trans (HQ.out.2.mono B1.out.size)).cell (p := ⟨b, off + k, none⟩) hbw).trans hc0
        have HT : Hid (at_ a (l.take (k + 1)) = at_ a (l.take k) ++ [(a, l.getD k 0)]) := by
          rw [take_snoc l k (by rw [HLen.out]; exact hlt)]; simp [at_, Hid]
        have HK : Hid ((at_ a (l.take k)).length < 1000000) := by simp [at_, Hid]; omega
        clear hc0
        generalize l.getD k 0 = x at *
        go_wp2_with fail
        refine (push_o _ _ _ a x _ HQ.out.1 HK.out).mono ?_; rintro e X1 ⟨rfl, hx⟩
        have H1 := Lib.hid hx
        clear hx
        go_wp2_with fail
        go_roundw
        case rel => exact ⟨k + 1, by omega, by go_num, by rw [HT.out]; exact H1.out.1, HQ.out.2.trans H1.out.2.1⟩
        case measure => simp [intOf]; omega
      · obtain rfl : k = n := by omega
        have HS := Lib.hid (sorted_walk A k c l (by rw [HLen.out]; omega) wr ((HL.out.below (B1.out.trans (HQ.out.2.mono B1.out.size))).nums))
        go_wp2_with fail
        refine HS.out.mono ?_; rintro e w2 ⟨A2, n2, c2, rfl, g1, g2, g3, g4⟩
        have hn2 : n2 = k := by rw [g1, HLen.out]
        subst hn2
        have HR := Lib.hid (Gathered.row (by rw [desc_length]) g1 g2)
        have HB2 := Lib.hid g4
        have HO2 := Lib.hid (HQ.out.1.below g4)
        have HB3 := Lib.hid (HQ.out.2.trans (g4.mono HQ.out.2.size))
        have HDL : Hid ((desc l).length = n2) := by rw [Hid, desc_length]; exact HLen.out
        have HST : Hid (Own w1.heap.size w1.heap.size (at_ a ((desc l).take n2)) w2) := by
          rw [List.take_of_length_le (by rw [HDL.out]; exact Nat.le_refl _)]
          rw [List.take_of_length_le (by rw [HLen.out]; exact Nat.le_refl _)] at HO2
          exact HO2.out.perm ((desc_perm l).symm.map _)
        have HFA := Lib.hid (desc_falls l)
        clear g1 g2 g3 g4
        generalize desc l = s at *
        have b0 : (n2 : Int) ≤ 60 := by omega
        go_wp2_with fail
        go_loopw [43] (fun x wr => ∃ i : Nat, i ≤ n2 ∧ x = .int .i64 i ∧ Rest w1.heap.size w1.heap.size w1 a (n2 - i) s A2 n2 c2 wr) (fun x _ => n2 - (intOf x).toNat)
        case atStart => exact ⟨0, Nat.zero_le _, rfl, HST.out, HB3.out, HR.out⟩
        case round =>
          obtain ⟨i, hi, rfl, hq⟩ := hrel
          have HQ2 := Lib.hid hq
          clear hq
          by_cases hit : i < n2
          · obtain ⟨m, hmm⟩ : ∃ m, m = n2 - 1 - i := ⟨_, rfl⟩
            have e1 : n2 - i = m + 1 := by omega
            have HO4 : Hid (Own w1.heap.size w1.heap.size (at_ a (s.take (m + 1))) wr) := by rw [Hid, ← e1]; exact HQ2.out.1
            have HBB := Lib.hid HQ2.out.2.1
            have HRR := Lib.hid HQ2.out.2.2
            have hml : m < s.length := by rw [HDL.out]; omega
            have HM := Lib.hid (ties_best a s HFA.out m hml)
            have HP := Lib.hid (ties_perm a s m hml)
            have HE := Lib.hid hmm
            have HE1 := Lib.hid e1
            have hmn : m < n2 := by omega
            obtain ⟨g, rfl, hcell⟩ := HRR.out.at hmn
            have HCell := Lib.hid hcell
            have e2 : (n2 : Int) - 1 - (i : Int) = (m : Int) := by omega
            have b1 : (0 : Int) ≤ (m : Int) := by omega
            have b2 : (m : Int) < (n2 : Int) := by omega
            have b3 : (0 : Int) ≤ (i : Int) := by omega
            have b4 : (i : Int) < (n2 : Int) := by omega
            clear hmm e1 hml hcell
            go_wp2_with fail
            refine (pop_o _ _ _ _ _ _ HO4.out HM.out HP.out).mono ?_; rintro e X4 ⟨rfl, hx⟩
            have H5 := Lib.hid hx
            have HR4 := Lib.hid (HRR.out.kept HO4.out hx.2)
            obtain ⟨g', eg, hc4⟩ := HR4.out.at hmn
            simp only [Option.some.injEq, Addr.mk.injEq, and_true] at eg
            subst eg
            clear hx
            generalize s.getD m 0 = y at *
            go_wp2_with fail
            go_roundw
            case rel => exact ⟨i + 1, by omega, by go_num, by rw [show n2 - (i + 1) = m by have := HE.out; omega]; exact H5.out.1, HBB.out.trans H5.out.2.1, HR4.out⟩
            case measure => simp [intOf]; omega
          · obtain rfl : i = n2 := by omega
            have HO4 : Hid (Own w1.heap.size w1.heap.size [] wr) := by have := HQ2.out.1; rw [Nat.sub_self] at this; exact this
            have HBB := Lib.hid HQ2.out.2.1
            go_wp2_with fail
            refine (len_o _ _ _ _ HO4.out).mono ?_; rintro e X1 ⟨rfl, rfl⟩
            go_wp2_with fail
            go_ret
            exact ⟨rfl, B1.out.trans (HBB.out.mono B1.out.size)⟩
  · have n1 : 60 < n := by omega
    go_enter Try.func4, Try.ntmps4
    go_wp2_with fail
    refine (alive_yes _).mono ?_; rintro e w1 ⟨rfl, hb1⟩
    have B1 := Lib.hid hb1
    clear hb1
    go_wp2_with fail
    go_ret
    exact ⟨rfl, B1.out⟩

/-! The row's step. -/
set_option maxRecDepth 100000 in
theorem lifted (os : Os) (started : os.Started) (H : Type) (enc : TypeId × Value → H) :
    ReturnsInHanded {} Try.checked os 4 .any (Rows.prioTiesSpec.pre6 enc Try.prog Try.f4 Rows.prioTiesRow.domain false) (Rows.prioTiesSpec.post enc Try.prog Try.f4 false true false false) := by
  refine returnsInHanded_of_change (C := Try.checked) own started (by kernel_rfl) Try.func4
    (ChangeSpec.witness6 (enc := enc) (C := Try.checked) false ⟨#[], #[.int .i64 0, .slice none 0 0], []⟩ 8 (by kernel_rfl) (by kernel_rfl) (by kernel_rfl) (by kernel_rfl)) ?_
  intro W base args ds gs before hval0 hW hcnd _
  have hval : ∀ (j : Nat) t v, Try.f4.params[j]? = some t → args[j]? = some v → Value.okWide Try.prog W .any base t v := hval0
  have hW' := hW
  obtain ⟨p, q, hA0, hV, rfl, hfz, hnd⟩ := hW
  have hA : DataW.TrodAll enc Try.prog W 0 (fun _ => true) true Try.f4.params.toList args.toList ds p := hA0
  rw [Try.params4] at hA hval
  obtain ⟨v0, vs0, d0, ds0, p0, q0, hargs, rfl, rfl, h0, r0⟩ := trodAll_cons hA
  obtain ⟨v1, vs1, d1, ds1, p1, q1, rfl, rfl, rfl, h1, r1⟩ := trodAll_cons r0
  obtain ⟨rfl, rfl, rfl⟩ := trodAll_nil r1
  obtain rfl : args = #[v0, v1] := by cases args; simp_all
  obtain ⟨rfl, rfl⟩ := trodVars_none hV
  obtain ⟨a0, rfl, rfl, rfl, w0⟩ := open_int Try.underlying3 (hval 0 3 v0 rfl rfl) h0
  obtain ⟨A1, n1, c1, rfl⟩ := okWide_slice Try.underlying22 (hval 1 22 v1 rfl rfl)
  have k1 := h1
  have lt1 : ∀ x ∈ p1, x.block < W.heap.size := by obtain ⟨m, hm⟩ := k1; exact DataW.trod_lt m _ _ _ hm
  obtain ⟨l1, w1, e1, f1⟩ := (by obtain ⟨fuel, hf⟩ := h1; exact ints_read hf (fun _ => rfl) : ∃ l, Ints W A1 n1 l ∧ n1 ≤ c1 ∧ c1 ≤ maxLen)
  clear hA0 hval0
  refine (walk a0 A1 n1 c1 l1 W w0 w1 (Nat.le_trans e1 f1)).mono fun e W' ⟨he, bel⟩ => ?_
  subst he
  exact ⟨_, rfl, _, _, _, [], _, [], hW', trodAll_mk1 (shut_bool Try.underlying4 _), (trodAll_cons_mk (shut_int Try.underlying3 w0) (trodAll_cons_mk (Below.trod laidOut (by kernel_rfl) (of_decide_eq_true (by kernel_rfl)) k1 bel lt1) trodAll_mk0)), rfl, bel.frame _, fun h => by cases h⟩

theorem over : Rows.prioTiesRow.holds Try.pinned (OpenSpec.ofChange Rows.prioTiesSpec) :=
  OpenClaim.holds_of_wide 4 Try.f4 rfl rfl rfl rfl rfl rfl rfl ⟨rfl, rfl, rfl, rfl, rfl⟩ rfl rfl rfl rfl rfl (by kernel_rfl) Try.func4 (by kernel_rfl)
    (of_decide_eq_true (by kernel_rfl)) (by unfold Func.isWrapper; first | (rw [if_pos (by decide +kernel)]; kernel_rfl) | (rw [if_neg (by decide +kernel)]; exact ⟨rfl, rfl⟩))
    (fun os started H enc _ => lifted os started H enc)

/-- The statement. -/
theorem proved : Rows.PrioTiesSaid := over
end Go.Proofs.Ytfelhepdcnckhaa.prioTies
