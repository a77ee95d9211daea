/- A page is dirty since the first change behind its last write, however many there were. -/
import Derived.Test.YtcecfageijkifaaRows
import Derived.Test.YtcecfageijkifaaSi
import Derived.Deep.RegionHeld3
import Derived.Deep.QuietTactic
import Derived.LoopTactic
import Derived.StillTailTactics
import Derived.BigQuiet
import Derived.Deep.DeepCutAuto
import Derived.Deep.RegionLaw
import Derived.Deep.CutBlock
import Derived.Lib.Hide
import Derived.WalkKit
import Derived.ProofKit
import Derived.OpenShut
import Derived.ChangeOld
import Derived.Below
import Derived.Carry
namespace Go.Proofs.Ytcecfageijkifaa.poolSince
open Go.ChangeShapes Go.WideShapes Go.ChangeAt Go.RowKit
open Po
set_option linter.unusedVariables false

theorem own : ownKnob Try.prog.godebug = none := by kernel_rfl
theorem laidOut : laidOutB Try.prog = true := by kernel_rfl


set_option maxRecDepth 100000 in
set_option maxHeartbeats 100000000 in
theorem walk (A0 : Option Addr) (n0 c0 : Nat) (l0 : List Int) (a1 : Int) (w : World) (w0t : Ints w A0 n0 l0) (m0 : n0 ≤ maxLen) (w1i : (Lit.int .i64 a1).wf = true) :
    Calls Try.prog 6 #[.slice A0 n0 c0, .int .i64 a1] w fun e w' => e = .returned (.bool true) ∧ Below w.heap.size w w' := by
  have AL := Lib.hid alive_yes
  by_cases hl : n0 < 1
  · have hl1 : (n0 : Int) < 1 := by omega
    as_aux_lemma =>
      go_enter Try.func6, Try.ntmps6
      go_wp2_with fail
      refine (AL.out _).mono ?_; rintro e w1 ⟨rfl, hb⟩
      go_wp2_with fail
      go_ret
      exact ⟨by trivial, hb⟩
  by_cases hl2 : 30 < n0
  · have hl1 : ¬ (n0 : Int) < 1 := by omega
    have hl3 : (30 : Int) < (n0 : Int) := by omega
    as_aux_lemma =>
      go_enter Try.func6, Try.ntmps6
      go_wp2_with fail
      refine (AL.out _).mono ?_; rintro e w1 ⟨rfl, hb⟩
      go_wp2_with fail
      go_ret
      exact ⟨by trivial, hb⟩
  have hl1 : ¬ (n0 : Int) < 1 := by omega
  have hl3 : ¬ (30 : Int) < (n0 : Int) := by omega
  obtain ⟨hS, hhS⟩ : ∃ h, h = hostC 25 26 27 [] := ⟨_, rfl⟩
  obtain ⟨K, hK, hKn, ht1, ht2⟩ := since_k a1 (n0 : Int) (by omega) (by omega)
  have HG := Lib.hid (show hS.Good from by rw [hhS]; exact since_good)
  have FL := Lib.hid (fun (A : Pl) (x : Option Int) (h : Sd A x) => show ∃ A', flushP hS A () 3 = (0, A', ()) ∧ Sd A' none ∧ A'.acc = A.acc from by rw [hhS]; exact sd_flush h)
  have SE := Lib.hid (fun (A : Pl) (x : Option Int) (lsn : Int) (h : Sd A x) => show ∃ A', setP hS A () 3 [98] lsn = (0, A', ()) ∧ Sd A' (some (x.getD lsn)) ∧ A'.acc = A.acc + 1 from by rw [hhS]; exact sd_set h [98] lsn)
  have HOK := Lib.hid (fun n : Nat => show hS.ok () n from by rw [hhS]; trivial)
  have G0 := Lib.hid (fun (u : World) => show Calls Try.prog 9 #[.int .i64 4, .func (.func 25) #[] #[], .func (.func 26) #[] #[], .func (.func 27) #[] #[]] u (fun e w' => ∃ p, e = .returned (ptr p) ∧ PW hS u.heap.size p (newP 4) () w' ∧ Below u.heap.size u w') from by
    subst hhS
    exact pw_new (n := 4) since_good (SO := fun _ => False) (fun i hf => hf) (fun i hf => hf.elim) (Nat.le_refl _) (by omega) (by omega))
  clear hhS
  go_enter Try.func6, Try.ntmps6
  go_wp2_with fail
  refine (AL.out _).mono ?_; rintro e w1 ⟨rfl, hb⟩
  have HB1 := Lib.hid hb
  clear hb AL
  go_wp2_with fail
  refine (G0.out _).mono ?_; rintro e w2 ⟨p, rfl, hp, hb⟩
  obtain ⟨C, hC⟩ : ∃ C, w1.heap.size = C := ⟨_, rfl⟩
  rw [hC] at hp hb
  have HSZ := Lib.hid (show w.heap.size ≤ C from by rw [← hC]; exact HB1.out.size)
  have P2 := Lib.hid hp
  have B2 := Lib.hid hb
  clear hp hb G0
  have hz : ¬ ((n0 : Int) = 0) := by omega
  have e1 : IntKind.i64.wrap (a1.tmod (n0 : Int)) = a1.tmod (n0 : Int) := IntWalk.i64_in _ (by omega)
  have e2 : IntKind.i64.wrap (a1.tmod (n0 : Int) + (n0 : Int)) = a1.tmod (n0 : Int) + (n0 : Int) := IntWalk.i64_in _ (by omega)
  have e3 : IntKind.i64.wrap ((a1.tmod (n0 : Int) + (n0 : Int)).tmod (n0 : Int)) = (K : Int) := by rw [hK]; exact IntWalk.i64_in _ (by omega)
  have INV0 := Lib.hid sd_new
  have K0 := Lib.hid (new_ok (n := 4) (by omega) (by omega))
  have HI := Lib.hid w0t
  go_upto_region 10 with fail
  clear hK w0t ht1 ht2 e1 e2 e3 hz
  go_wp2_with fail
  go_loopw [44] (fun x wr => ∃ (i : Nat) (A : Pl), i ≤ n0 ∧ x = .int .i64 i ∧ Hid (Sd A (if i = 0 then none else some (l0.getD (if i ≤ K then 0 else K) 0))) ∧ Hid (Ok A) ∧ Hid (A.acc ≤ i) ∧ Hid (PW hS C p A () wr) ∧ Hid (Below C w1 wr)) (fun x _ => n0 - (intOf x).toNat)
  case atStart => exact ⟨0, newP 4, Nat.zero_le _, rfl, INV0, K0, Lib.hid (Nat.le_refl _), P2, B2⟩
  case round =>
    obtain ⟨i, A, hi, rfl, hsd, hok, hac, hpw, hbl⟩ := hrel
    have SI := Lib.hid hsd.out
    have OI := Lib.hid hok.out
    have AI := Lib.hid hac.out
    have PI := Lib.hid hpw.out
    have BI := Lib.hid hbl.out
    clear hsd hok hac hpw hbl INV0 K0 P2 B2
    have b0 : (0 : Int) ≤ (i : Int) := by omega
    by_cases hlt : i < n0
    · have b1 : (i : Int) < (n0 : Int) := by omega
      obtain ⟨bk, off, rfl, hbk, hci, hr1, hr2⟩ := HI.out.at hlt (HB1.out.trans (BI.out.mono HSZ.out))
      have hrg : rng (l0.getD i 0) := ⟨hr1, hr2⟩
      obtain ⟨x, hx⟩ : ∃ x, l0.getD i 0 = x := ⟨_, rfl⟩
      rw [hx] at hci hrg
      have HX := Lib.hid hx
      clear hx hr1 hr2
      have r3 : rng 3 := ⟨by omega, by omega⟩
      by_cases hiK : i = K
      · subst hiK
        obtain ⟨A1, f1, f2, f3⟩ := FL.out A _ SI.out
        have O1 := Lib.hid (show Ok A1 from (by have := flush_ok (h := hS) (o := ()) OI.out 3; rw [f1] at this; exact this))
        have S1 := Lib.hid f2
        have F1 := Lib.hid f1
        have F3 := Lib.hid f3
        clear f1 f2 f3
        go_wp2_with fail
        refine (show Calls Try.prog 15 #[ptr p, .int .i64 3] wr (fun e w' => e = .returned (.int .i64 0) ∧ PW hS C p A1 () w' ∧ Below C wr w') from pw_flush HG.out OI.out (n := 0) (HOK.out _) PI.out r3 F1.out).mono ?_; rintro e w4 ⟨rfl, hp, hb⟩
        have P4 := Lib.hid hp
        have B4 := Lib.hid (BI.out.trans hb)
        clear hp hb
        go_wp2_with fail
        refine (pw_clean P4.out r3 (sd_clean S1.out).1).mono ?_; rintro e w5 ⟨rfl, rfl⟩
        go_wp2_with fail
        refine (pw_dirty HG.out O1.out P4.out (sd_clean S1.out).2).mono ?_; rintro e w6 ⟨v6, rfl, ho, hp, hb⟩
        have P6 := Lib.hid hp
        have B6 := Lib.hid (B4.out.trans hb)
        obtain ⟨A6, c6, rfl⟩ := own_shape ho
        clear hp hb ho
        obtain ⟨A2, g1, g2, g3⟩ := SE.out A1 none x S1.out
        obtain ⟨o2, _, _⟩ := set_ok (h := hS) (o := ()) O1.out r3 (c := [98]) (lsn := x) (by decide) hrg
        rw [g1] at o2
        have O2 := Lib.hid o2
        have S2 := Lib.hid (show Sd A2 (if i + 1 = 0 then none else some (l0.getD (if i + 1 ≤ i then 0 else i) 0)) from by
          rw [if_neg (by omega), if_neg (by omega), HX.out]; exact g2)
        have AC2 := Lib.hid (show A2.acc ≤ i + 1 from by have := AI.out; have := F3.out; omega)
        have G1 := Lib.hid g1
        have hac1 : A1.acc < 1000000 := by have := AI.out; have := F3.out; omega
        clear g1 g2 g3 o2
        go_wp2_with fail
        refine (show Calls Try.prog 14 #[ptr p, .int .i64 3, .string ⟨#[98]⟩, .int .i64 x] w6 (fun e w' => e = .returned (.int .i64 0) ∧ PW hS C p A2 () w' ∧ Below C w6 w') from pw_set HG.out O1.out (n := 0) (HOK.out _) hac1 P6.out r3 (c := [98]) (by decide) G1.out).mono ?_; rintro e w7 ⟨rfl, hp, hb⟩
        have P7 := Lib.hid hp
        have B7 := Lib.hid (B6.out.trans hb)
        clear hp hb
        go_wp2_with fail
        go_roundw
        case rel => exact ⟨i + 1, A2, by omega, by go_num, S2, O2, AC2, P7, B7⟩
        case measure => simp [intOf]; omega
      · have HIK := Lib.hid hiK
        have hkk : ¬ (i : Int) = (K : Int) := by omega
        obtain ⟨A2, g1, g2, g3⟩ := SE.out A _ x SI.out
        obtain ⟨o2, _, _⟩ := set_ok (h := hS) (o := ()) OI.out r3 (c := [98]) (lsn := x) (by decide) hrg
        rw [g1] at o2
        have O2 := Lib.hid o2
        have S2 := Lib.hid (show Sd A2 (if i + 1 = 0 then none else some (l0.getD (if i + 1 ≤ K then 0 else K) 0)) from by
          rw [if_neg (by omega)]
          have h8 := HIK.out
          by_cases hi0 : i = 0
          · subst hi0
            rw [if_pos (by omega), HX.out]
            exact g2
          · rw [if_neg hi0] at g2
            by_cases hiK2 : i ≤ K
            · rw [if_pos hiK2] at g2
              rw [if_pos (by omega)]
              exact g2
            · rw [if_neg hiK2] at g2
              rw [if_neg (by omega)]
              exact g2)
        have AC2 := Lib.hid (show A2.acc ≤ i + 1 from by have := AI.out; omega)
        have G1 := Lib.hid g1
        have hac1 : A.acc < 1000000 := by have := AI.out; omega
        clear g1 g2 g3 o2 hiK
        go_wp2_with fail
        refine (show Calls Try.prog 14 #[ptr p, .int .i64 3, .string ⟨#[98]⟩, .int .i64 x] wr (fun e w' => e = .returned (.int .i64 0) ∧ PW hS C p A2 () w' ∧ Below C wr w') from pw_set HG.out OI.out (n := 0) (HOK.out _) hac1 PI.out r3 (c := [98]) (by decide) G1.out).mono ?_; rintro e w7 ⟨rfl, hp, hb⟩
        have P7 := Lib.hid hp
        have B7 := Lib.hid (BI.out.trans hb)
        clear hp hb
        go_wp2_with fail
        go_roundw
        case rel => exact ⟨i + 1, A2, by omega, by go_num, S2, O2, AC2, P7, B7⟩
        case measure => simp [intOf]; omega
    · obtain rfl : i = n0 := by omega
      have S1 := Lib.hid (show Sd A (some (l0.getD K 0)) from by
        have := SI.out
        rw [if_neg (by omega)] at this
        by_cases hk : i ≤ K
        · omega
        · rw [if_neg hk] at this
          exact this)
      go_wp2_with fail
      refine (pw_dirty HG.out OI.out PI.out (sd_dirty S1.out).2).mono ?_; rintro e w8 ⟨v8, rfl, ho8, hp, hb⟩
      have P8 := Lib.hid hp
      have B8 := Lib.hid (BI.out.trans hb)
      clear hp hb
      obtain ⟨Ad, cd, rfl⟩ := own_shape ho8
      obtain ⟨gd, rfl, d0, d1⟩ : ∃ gd, Ad = some ⟨gd, 0, none⟩ ∧ w8.cell? ⟨gd, 0, none⟩ = some (.int .i64 3) ∧ w8.cell? ⟨gd, 1, none⟩ = some (.int .i64 (l0.getD K 0)) := by
        rcases ho8.2 with ⟨e0, h0⟩ | ⟨gd, cap, cur, e0, _⟩
        · simp at h0
        · simp only [Value.slice.injEq] at e0
          obtain ⟨rfl, _, _⟩ := e0
          have q0 := World.ownsRow.cells ho8 (g := gd) rfl 0 (.int .i64 3) rfl
          have q1 := World.ownsRow.cells ho8 (g := gd) rfl 1 (.int .i64 (l0.getD K 0)) rfl
          rw [Po.add_plain] at q0 q1
          exact ⟨gd, rfl, q0, q1⟩
      obtain ⟨bk, off, rfl, hbk, hck, _, _⟩ := HI.out.at (i := K) (by omega) (HB1.out.trans (B8.out.mono HSZ.out))
      have r3 : rng 3 := ⟨by omega, by omega⟩
      have k0 : (0 : Int) ≤ (K : Int) := by omega
      have k1 : (K : Int) < (i : Int) := by omega
      have CLQ := Lib.hid (fun n : Nat => pw_clean (P8.out.keep HG.out (below_dN w8 n)) r3 (sd_dirty S1.out).1)
      generalize l0.getD K 0 = x at *
      clear ho8
      go_upto_region 19 with fail
      go_quiet ((go_at_call 28; exact Calls.quiet_of_same (CLQ.out _)))
      generalize hwq : World.drewN w8 _ = w9
      obtain ⟨nq, hnq⟩ : ∃ n, World.drewN w8 n = w9 := ⟨_, hwq⟩
      have hb9 := below_dN w8 nq
      rw [hnq] at hb9
      have HB9 := Lib.hid (B8.out.trans (hb9.mono (by rw [← hC]; exact B8.out.size)))
      clear hwq hnq hb9 d0 d1 hck CLQ
      go_wp2_with fail
      go_ret
      exact ⟨rfl, HB1.out.trans (HB9.out.mono HSZ.out)⟩

/-! The row's step. -/
set_option maxRecDepth 100000 in
theorem lifted (os : Os) (started : os.Started) (H : Type) (enc : TypeId × Value → H) :
    ReturnsInHanded {} Try.checked os 6 .any (Rows.poolSinceSpec.pre6 enc Try.prog Try.f6 Rows.poolSinceRow.domain false) (Rows.poolSinceSpec.post enc Try.prog Try.f6 false true false false) := by
  refine returnsInHanded_of_change (C := Try.checked) own started (by kernel_rfl) Try.func6
    (ChangeSpec.witness6 (enc := enc) (C := Try.checked) false ⟨#[], #[.slice none 0 0, .int .i64 0], []⟩ 8 (by kernel_rfl) (by kernel_rfl) (by kernel_rfl) (by kernel_rfl)) ?_
  intro W base args ds gs before hval0 hW hcnd _
  have hval : ∀ (j : Nat) t v, Try.f6.params[j]? = some t → args[j]? = some v → Value.okWide Try.prog W .any base t v := hval0
  have hW' := hW
  obtain ⟨p, q, hA0, hV, rfl, hfz, hnd⟩ := hW
  have hA : DataW.TrodAll enc Try.prog W 0 (fun _ => true) true Try.f6.params.toList args.toList ds p := hA0
  rw [Try.params6] at hA hval
  obtain ⟨v0, vs0, d0, ds0, p0, q0, hargs, rfl, rfl, h0, r0⟩ := trodAll_cons hA
  obtain ⟨v1, vs1, d1, ds1, p1, q1, rfl, rfl, rfl, h1, r1⟩ := trodAll_cons r0
  obtain ⟨rfl, rfl, rfl⟩ := trodAll_nil r1
  obtain rfl : args = #[v0, v1] := by cases args; simp_all
  obtain ⟨rfl, rfl⟩ := trodVars_none hV
  obtain ⟨A0, n0, c0, rfl⟩ := okWide_slice Try.underlying49 (hval 0 49 v0 rfl rfl)
  have k0 := h0
  have lt0 : ∀ x ∈ p0, x.block < W.heap.size := by obtain ⟨m, hm⟩ := k0; exact DataW.trod_lt m _ _ _ hm
  obtain ⟨l0, w0, e0, f0⟩ := (by obtain ⟨fuel, hf⟩ := h0; exact ints_read hf (fun _ => rfl) : ∃ l, Ints W A0 n0 l ∧ n0 ≤ c0 ∧ c0 ≤ maxLen)
  obtain ⟨a1, rfl, rfl, rfl, w1⟩ := open_int Try.underlying3 (hval 1 3 v1 rfl rfl) h1
  clear hA0 hval0
  refine (walk A0 n0 c0 l0 a1 W w0 (Nat.le_trans e0 f0) w1).mono fun e W' ⟨he, bel⟩ => ?_
  subst he
  exact ⟨_, rfl, _, _, _, [], _, [], hW', trodAll_mk1 (shut_bool Try.underlying4 _), (trodAll_cons_mk (Below.trod laidOut (by kernel_rfl) (of_decide_eq_true (by kernel_rfl)) k0 bel lt0) (trodAll_cons_mk (shut_int Try.underlying3 w1) trodAll_mk0)), rfl, bel.frame _, fun h => by cases h⟩

theorem over : Rows.poolSinceRow.holds Try.pinned (OpenSpec.ofChange Rows.poolSinceSpec) :=
  OpenClaim.holds_of_wide 6 Try.f6 rfl rfl rfl rfl rfl rfl rfl ⟨rfl, rfl, rfl, rfl, rfl⟩ rfl rfl rfl rfl rfl (by kernel_rfl) Try.func6 (by kernel_rfl)
    (of_decide_eq_true (by kernel_rfl)) (by unfold Func.isWrapper; first | (rw [if_pos (by decide +kernel)]; kernel_rfl) | (rw [if_neg (by decide +kernel)]; exact ⟨rfl, rfl⟩))
    (fun os started H enc _ => lifted os started H enc)

/-- The statement. -/
theorem proved : Rows.PoolSinceSaid := over
end Go.Proofs.Ytcecfageijkifaa.poolSince
