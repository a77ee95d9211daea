/- A page that was asked for twice stays ahead of those that were asked for once, however many there are. -/
import Derived.Test.YtcecfageijkifaaRows
import Derived.Test.YtcecfageijkifaaTw
import Derived.Deep.RegionHeld3
import Derived.Deep.QuietTactic
import Derived.LoopTactic
import Derived.StillTailTactics
import Derived.BigQuiet
import Derived.Deep.DeepCutAuto
import Derived.Deep.RegionLaw
import Derived.Deep.CutBlock
import Derived.Lib.Hide
import Derived.WalkKit
import Derived.ProofKit
import Derived.OpenShut
import Derived.ChangeOld
import Derived.Below
import Derived.Carry
namespace Go.Proofs.Ytcecfageijkifaa.poolTwice
open Go.ChangeShapes Go.WideShapes Go.ChangeAt Go.RowKit
open Po
set_option linter.unusedVariables false

theorem own : ownKnob Try.prog.godebug = none := by kernel_rfl
theorem laidOut : laidOutB Try.prog = true := by kernel_rfl


set_option maxRecDepth 100000 in
set_option maxHeartbeats 100000000 in
theorem walk (a0 a1 : Int) (w : World) (w0i : (Lit.int .i64 a0).wf = true) (w1i : (Lit.int .i64 a1).wf = true) :
    Calls Try.prog 5 #[.int .i64 a0, .int .i64 a1] w fun e w' => e = .returned (.bool true) ∧ Below w.heap.size w w' := by
  have AL := Lib.hid alive_yes
  obtain ⟨h0, h1⟩ := wf_rng w0i
  obtain ⟨h2, h3⟩ := wf_rng w1i
  by_cases c1 : a0 < 2
  · as_aux_lemma =>
      go_enter Try.func5, Try.ntmps5
      go_wp2_with fail
      refine (AL.out _).mono ?_; rintro e w1 ⟨rfl, hb⟩
      go_wp2_with fail
      go_ret
      exact ⟨by trivial, hb⟩
  by_cases c2 : 16 < a0
  · as_aux_lemma =>
      go_enter Try.func5, Try.ntmps5
      go_wp2_with fail
      refine (AL.out _).mono ?_; rintro e w1 ⟨rfl, hb⟩
      go_wp2_with fail
      go_ret
      exact ⟨by trivial, hb⟩
  by_cases c3 : a1 < 1
  · as_aux_lemma =>
      go_enter Try.func5, Try.ntmps5
      go_wp2_with fail
      refine (AL.out _).mono ?_; rintro e w1 ⟨rfl, hb⟩
      go_wp2_with fail
      go_ret
      exact ⟨by trivial, hb⟩
  by_cases c4 : 60 < a1
  · as_aux_lemma =>
      go_enter Try.func5, Try.ntmps5
      go_wp2_with fail
      refine (AL.out _).mono ?_; rintro e w1 ⟨rfl, hb⟩
      go_wp2_with fail
      go_ret
      exact ⟨by trivial, hb⟩
  obtain ⟨f, rfl⟩ : ∃ f : Nat, a0 = (f : Int) := ⟨a0.toNat, by omega⟩
  obtain ⟨n, rfl⟩ : ∃ n : Nat, a1 = (n : Int) := ⟨a1.toNat, by omega⟩
  obtain ⟨hS, hhS⟩ : ∃ h, h = hostC 22 23 24 [112] := ⟨_, rfl⟩
  have HG := Lib.hid (show hS.Good from by rw [hhS]; exact twice_good)
  have HOK := Lib.hid (fun n : Nat => show hS.ok () n from by rw [hhS]; trivial)
  have G0 := Lib.hid (fun (u : World) => show Calls Try.prog 9 #[.int .i64 f, .func (.func 22) #[] #[], .func (.func 23) #[] #[], .func (.func 24) #[] #[]] u (fun e w' => ∃ p, e = .returned (ptr p) ∧ PW hS u.heap.size p (newP f) () w' ∧ Below u.heap.size u w') from by
    subst hhS
    exact pw_new (n := f) twice_good (SO := fun _ => False) (fun i hf => hf) (fun i hf => hf.elim) (Nat.le_refl _) (by omega) (by omega))
  obtain ⟨A1, x1, A2, x2, s1, s2, s3, s4⟩ := tw_start (gr := 22) (gw := 23) (gl := 24) (b := [112]) (f := f) (by omega)
  rw [← hhS] at s1 s2
  have ST := Lib.hid (fun (k : Nat) (A : Pl) (h : Tw f k A) => show ∃ A1 x1, getP hS A () ((k + 1 : Nat) : Int) = (x1, A1, ()) ∧ Tw f (k + 1) A1 from by rw [hhS]; exact tw_step (by omega) h)
  have K0 := Lib.hid (new_ok (n := f) (by omega) (by omega))
  clear hhS
  go_enter Try.func5, Try.ntmps5
  go_wp2_with fail
  refine (AL.out _).mono ?_; rintro e w1 ⟨rfl, hb⟩
  have HB1 := Lib.hid hb
  clear hb AL
  go_wp2_with fail
  refine (G0.out _).mono ?_; rintro e w2 ⟨p, rfl, hp, hb⟩
  obtain ⟨C, hC⟩ : ∃ C, w1.heap.size = C := ⟨_, rfl⟩
  rw [hC] at hp hb
  have HSZ := Lib.hid (show w.heap.size ≤ C from by rw [← hC]; exact HB1.out.size)
  have P2 := Lib.hid hp
  have B2 := Lib.hid hb
  clear hp hb G0
  have r0 : rng 0 := ⟨by omega, by omega⟩
  obtain ⟨SO, hm⟩ := P2.out.m
  obtain ⟨k1, _, _⟩ := get_ok HG.out K0.out hm r0
  rw [s1] at k1
  have K1 := Lib.hid k1
  have hac0 : (newP f).acc < 1000000 := by show 0 < 1000000; omega
  have hac1 : A1.acc < 1000000 := by rw [s4]; omega
  have G1 := Lib.hid (pw_get HG.out K0.out (n := 0) (HOK.out _) hac0 P2.out r0 s1)
  clear k1 hm
  go_wp2_with fail
  refine G1.out.mono ?_; rintro e w3 ⟨rfl, hp, hb⟩
  have P3 := Lib.hid hp
  have B3 := Lib.hid (B2.out.trans hb)
  clear hp hb G1 P2 B2
  obtain ⟨SO, hm⟩ := P3.out.m
  obtain ⟨k2, _, _⟩ := get_ok HG.out K1.out hm r0
  rw [s2] at k2
  have K2 := Lib.hid k2
  have G2 := Lib.hid (pw_get HG.out K1.out (n := 0) (HOK.out _) hac1 P3.out r0 s2)
  have S3 := Lib.hid s3
  clear k2 hm s1 s2 s3 s4 hac0 hac1
  go_wp2_with fail
  refine G2.out.mono ?_; rintro e w4 ⟨rfl, hp, hb⟩
  have P4 := Lib.hid hp
  have B4 := Lib.hid (B3.out.trans hb)
  clear hp hb G2 P3 B3
  go_wp2_with fail
  go_loopw [9] (fun x wr => ∃ (k : Nat) (A : Pl), k ≤ n ∧ x = .int .i64 ((k + 1 : Nat) : Int) ∧ Hid (Tw f k A) ∧ Hid (Ok A) ∧ Hid (PW hS C p A () wr) ∧ Hid (Below C w1 wr)) (fun x _ => n + 1 - (intOf x).toNat)
  case atStart => exact ⟨0, A2, Nat.zero_le _, rfl, S3, K2, P4, B4⟩
  case round =>
    obtain ⟨k, A, hk, rfl, htw, hok, hpw, hbl⟩ := hrel
    have TI := Lib.hid htw.out
    have OI := Lib.hid hok.out
    have PI := Lib.hid hpw.out
    have BI := Lib.hid hbl.out
    clear htw hok hpw hbl S3 K2 P4 B4
    by_cases hlt : k < n
    · have b1 : ((k + 1 : Nat) : Int) ≤ (n : Int) := by omega
      obtain ⟨A', x, g1, g2⟩ := ST.out k A TI.out
      have hrk : rng ((k + 1 : Nat) : Int) := ⟨by omega, by omega⟩
      obtain ⟨SO, hm⟩ := PI.out.m
      obtain ⟨k1, _, _⟩ := get_ok HG.out OI.out hm hrk
      rw [g1] at k1
      have O1 := Lib.hid k1
      have T1 := Lib.hid g2
      have hac : A.acc < 1000000 := by rw [TI.out.acc]; omega
      have GG := Lib.hid (pw_get HG.out OI.out (n := 0) (HOK.out _) hac PI.out hrk g1)
      clear k1 hm g1 g2
      obtain ⟨K, hK⟩ : ∃ K, k + 1 = K := ⟨_, rfl⟩
      rw [hK] at GG T1 b1 hrk ⊢
      go_wp2_with fail
      refine GG.out.mono ?_; rintro e w5 ⟨rfl, hp, hb⟩
      have P5 := Lib.hid hp
      have B5 := Lib.hid (BI.out.trans hb)
      clear hp hb GG
      go_wp2_with fail
      refine (pw_has HG.out O1.out P5.out (l := 0 :: rowF (K - min K (f - 1) + 1) (min K (f - 1))) T1.out.ks).mono ?_; rintro e w6 ⟨v6, rfl, ho, hp, hb⟩
      have P6 := Lib.hid hp
      have B6 := Lib.hid (B5.out.trans hb)
      have SH := ho.shape
      clear hp hb ho
      obtain ⟨m, hm⟩ : ∃ m, min K (f - 1) = m := ⟨_, rfl⟩
      have hm1 : 1 ≤ m := by omega
      have hmK : m ≤ K := by omega
      have hmf : m ≤ 15 := by omega
      have hmin : min ((K : Int) + 1) (f : Int) = (m : Int) + 1 := by omega
      rw [hm] at SH
      rcases SH with ⟨_, h9⟩ | ⟨g, c, rfl, _, _, _, hcell⟩
      · cases h9
      have q0 : w6.cell? ⟨g, 0, none⟩ = some (.int .i64 0) := hcell 0 (by simp)
      have q1 : w6.cell? ⟨g, m, none⟩ = some (.int .i64 (K : Int)) := by
        have := hcell m (by rw [List.length_cons, rowF_length]; omega)
        rw [this]
        obtain ⟨m', rfl⟩ : ∃ m', m = m' + 1 := ⟨m - 1, by omega⟩
        congr 2
        rw [List.getD_eq_getElem?_getD, List.getElem?_cons_succ, rowF_snoc, List.getElem?_append_right (by rw [rowF_length]; omega), rowF_length, Nat.sub_self]
        show ((K - (m' + 1) + 1 + m' : Nat) : Int) = K
        omega
      have hlen : (0 :: rowF (K - m + 1) m).length = m + 1 := by rw [List.length_cons, rowF_length]
      rw [hlen] at hcell ⊢
      clear hcell hlen hm
      have e1 : IntKind.i64.wrap ((K : Int) + 1) = (K : Int) + 1 := IntWalk.i64_in _ (by omega)
      have e2 : IntKind.i64.wrap ((m : Int) + 1 - 1) = (m : Int) := by rw [IntWalk.i64_in _ (by omega)]; omega
      go_wp2_with fail
      have HN2 := Lib.hid (show K ≤ n from by omega)
      have HTK := Lib.hid (show ∃ A, Hid (Tw f K A) ∧ Hid (Ok A) ∧ Hid (PW hS C p A () w6) ∧ Hid (Below C w1 w6) from ⟨A', T1, O1, P6, B6⟩)
      have ew : IntKind.i64.wrap ((K : Int) + 1) = ((K + 1 : Nat) : Int) := by rw [e1]; rfl
      go_roundw
      case rel => exact ⟨K, A', by omega, by go_num, T1, O1, P6, B6⟩
      case measure => simp [intOf]; omega
    · obtain rfl : k = n := by omega
      go_wp2_with fail
      go_ret
      exact ⟨by first | rfl | trivial, HB1.out.trans (BI.out.mono HSZ.out)⟩

/-! The row's step. -/
set_option maxRecDepth 100000 in
theorem lifted (os : Os) (started : os.Started) (H : Type) (enc : TypeId × Value → H) :
    ReturnsInHanded {} Try.checked os 5 .any (Rows.poolTwiceSpec.pre6 enc Try.prog Try.f5 Rows.poolTwiceRow.domain false) (Rows.poolTwiceSpec.post enc Try.prog Try.f5 false true false false) := by
  refine returnsInHanded_of_change (C := Try.checked) own started (by kernel_rfl) Try.func5
    (ChangeSpec.witness6 (enc := enc) (C := Try.checked) false ⟨#[], #[.int .i64 0, .int .i64 0], []⟩ 8 (by kernel_rfl) (by kernel_rfl) (by kernel_rfl) (by kernel_rfl)) ?_
  intro W base args ds gs before hval0 hW hcnd _
  have hval : ∀ (j : Nat) t v, Try.f5.params[j]? = some t → args[j]? = some v → Value.okWide Try.prog W .any base t v := hval0
  have hW' := hW
  obtain ⟨p, q, hA0, hV, rfl, hfz, hnd⟩ := hW
  have hA : DataW.TrodAll enc Try.prog W 0 (fun _ => true) true Try.f5.params.toList args.toList ds p := hA0
  rw [Try.params5] at hA hval
  obtain ⟨v0, vs0, d0, ds0, p0, q0, hargs, rfl, rfl, h0, r0⟩ := trodAll_cons hA
  obtain ⟨v1, vs1, d1, ds1, p1, q1, rfl, rfl, rfl, h1, r1⟩ := trodAll_cons r0
  obtain ⟨rfl, rfl, rfl⟩ := trodAll_nil r1
  obtain rfl : args = #[v0, v1] := by cases args; simp_all
  obtain ⟨rfl, rfl⟩ := trodVars_none hV
  obtain ⟨a0, rfl, rfl, rfl, w0⟩ := open_int Try.underlying3 (hval 0 3 v0 rfl rfl) h0
  obtain ⟨a1, rfl, rfl, rfl, w1⟩ := open_int Try.underlying3 (hval 1 3 v1 rfl rfl) h1
  clear hA0 hval0
  refine (walk a0 a1 W w0 w1).mono fun e W' ⟨he, bel⟩ => ?_
  subst he
  exact ⟨_, rfl, _, _, _, [], _, [], hW', trodAll_mk1 (shut_bool Try.underlying4 _), (trodAll_cons_mk (shut_int Try.underlying3 w0) (trodAll_cons_mk (shut_int Try.underlying3 w1) trodAll_mk0)), rfl, bel.frame _, fun h => by cases h⟩

theorem over : Rows.poolTwiceRow.holds Try.pinned (OpenSpec.ofChange Rows.poolTwiceSpec) :=
  OpenClaim.holds_of_wide 5 Try.f5 rfl rfl rfl rfl rfl rfl rfl ⟨rfl, rfl, rfl, rfl, rfl⟩ rfl rfl rfl rfl rfl (by kernel_rfl) Try.func5 (by kernel_rfl)
    (of_decide_eq_true (by kernel_rfl)) (by unfold Func.isWrapper; first | (rw [if_pos (by decide +kernel)]; kernel_rfl) | (rw [if_neg (by decide +kernel)]; exact ⟨rfl, rfl⟩))
    (fun os started H enc _ => lifted os started H enc)

/-- The statement. -/
theorem proved : Rows.PoolTwiceSaid := over
end Go.Proofs.Ytcecfageijkifaa.poolTwice
