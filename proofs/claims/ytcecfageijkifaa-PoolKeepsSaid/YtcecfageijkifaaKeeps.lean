/- No more pages are there than frames; what was set is told, whether it was written in between, or not. -/
import Derived.Test.YtcecfageijkifaaRows
import Derived.Test.YtcecfageijkifaaKh
import Derived.Deep.RegionHeld3
import Derived.Deep.QuietTactic
import Derived.LoopTactic
import Derived.StillTailTactics
import Derived.BigQuiet
import Derived.Deep.DeepCutAuto
import Derived.Deep.RegionLaw
import Derived.Deep.CutBlock
import Derived.Lib.Hide
import Derived.WalkKit
import Derived.ProofKit
import Derived.OpenShut
import Derived.ChangeOld
import Derived.Below
import Derived.Carry
namespace Go.Proofs.Ytcecfageijkifaa.poolKeeps
open Go.ChangeShapes Go.WideShapes Go.ChangeAt Go.RowKit
open Po
set_option linter.unusedVariables false

theorem own : ownKnob Try.prog.godebug = none := by kernel_rfl
theorem laidOut : laidOutB Try.prog = true := by kernel_rfl


set_option maxRecDepth 100000 in
set_option maxHeartbeats 100000000 in
theorem walk (a0 : Int) (A1 : Option Addr) (n1 c1x : Nat) (l1 : List Ox) (w : World) (w0i : (Lit.int .i64 a0).wf = true) (w1l : OlM w.heap.size w A1 n1 l1) :
    Calls Try.prog 4 #[.int .i64 a0, .slice A1 n1 c1x] w fun e w' => e = .returned (.bool true) ∧ Below w.heap.size w w' := by
  have AL := Lib.hid alive_yes
  obtain ⟨h0, h1⟩ := wf_rng w0i
  by_cases c1 : a0 < 1
  · as_aux_lemma =>
      go_enter Try.func4, Try.ntmps4
      go_wp2_with fail
      refine (AL.out _).mono ?_; rintro e w1 ⟨rfl, hb⟩
      go_wp2_with fail
      go_ret
      exact ⟨by trivial, hb⟩
  by_cases c2 : 16 < a0
  · as_aux_lemma =>
      go_enter Try.func4, Try.ntmps4
      go_wp2_with fail
      refine (AL.out _).mono ?_; rintro e w1 ⟨rfl, hb⟩
      go_wp2_with fail
      go_ret
      exact ⟨by trivial, hb⟩
  by_cases c3 : (100 : Int) < (n1 : Int)
  · as_aux_lemma =>
      go_enter Try.func4, Try.ntmps4
      go_wp2_with fail
      refine (AL.out _).mono ?_; rintro e w1 ⟨rfl, hb⟩
      go_wp2_with fail
      go_ret
      exact ⟨by trivial, hb⟩
  obtain ⟨f, rfl⟩ : ∃ f : Nat, a0 = (f : Int) := ⟨a0.toNat, by omega⟩
  have K0 := Lib.hid (new_ok (n := f) (by omega) (by omega))
  have hmm := @run_makeMap Try.prog
  go_enter Try.func4, Try.ntmps4
  go_wp2_with fail
  refine (AL.out _).mono ?_; rintro e w1 ⟨rfl, hb⟩
  have HB1 := Lib.hid hb
  clear hb AL
  go_upto_region 7 with fail
  obtain ⟨C, hC⟩ : ∃ C, w1.heap.size = C := ⟨_, rfl⟩
  have BB := Lib.hid (show Below w1.heap.size w1 ((w1.alloc (.map #[] 0)).alloc (.cells #[.map (some w1.heap.size)] 48)) from (((Below.refl _ w1).alloc (Nat.le_refl _) _).alloc (by rw [World.size_alloc]; omega) _))
  have HM := Lib.hid (show (hostK (w1.heap.size + 1)).M (fun i => i = w1.heap.size + 1 ∨ i = w1.heap.size) ((w1.alloc (.map #[] 0)).alloc (.cells #[.map (some w1.heap.size)] 48)) (fun _ => none, 0) from by
    have x1 := Bx.new (w1.alloc (.map #[] 0)) #[.map (some w1.heap.size)] 48
    rw [World.size_alloc] at x1
    exact ⟨w1.heap.size, x1, (MapI.made w1).kept (Tn.alloc (fun _ => False) _ _) (fun hf => hf), .inl rfl, .inr rfl, fun i hi => hi, fun k => by show ([] : BA).length ≤ _; simp⟩)
  rw [hC] at BB HM ⊢
  have HSZ := Lib.hid (show w.heap.size ≤ C from by rw [← hC]; exact HB1.out.size)
  obtain ⟨B, hB⟩ : ∃ B, C + 1 = B := ⟨_, rfl⟩
  rw [hB] at HM ⊢
  have HG := Lib.hid (hostK_good B)
  have G0 := Lib.hid (show Calls Try.prog 9 #[.int .i64 f, .func (.func 18) #[] #[ptr B], .func (.func 19) #[] #[ptr B], .func (.func 20) #[] #[]] ((w1.alloc (.map #[] 0)).alloc (.cells #[.map (some C)] 48)) (fun e w' => ∃ p, e = .returned (ptr p) ∧ PK (hostK B) C p (fun _ => False) (newP f) (fun _ => none, 0) w' ∧ Below C ((w1.alloc (.map #[] 0)).alloc (.cells #[.map (some C)] 48)) w') from pk_new (n := f) (hostK_good B) HM.out (fun i hi => by rcases hi with hi | hi <;> omega) (by rw [World.size_alloc, World.size_alloc]; omega) (by omega) (by omega))
  clear HM hB
  generalize (w1.alloc (.map #[] 0)).alloc (.cells #[.map (some C)] 48) = w2 at *
  go_wp2_with fail
  refine G0.out.mono ?_; rintro e w3 ⟨p, rfl, hp, hb⟩
  have P3 := Lib.hid hp
  have B3 := Lib.hid (BB.out.trans hb)
  clear hp hb G0 BB
  go_upto_region 11 with fail
  have hCs : C ≤ w3.heap.size := by obtain ⟨_, _, _, _, _, _, _, _, h9, _⟩ := P3.out; exact h9
  have P4 := Lib.hid ((P3.out.alloc HG.out (.map #[] 0)).less (K' := fun i => i = w3.heap.size) (fun i hi => .inr hi))
  have B4 := Lib.hid (B3.out.alloc (by have := B3.out.size; omega) (.map #[] 0))
  have M4 := Lib.hid (show MapI Rs eS (w3.alloc (.map #[] 0)) w3.heap.size 0 (fun _ => none) from MapI.made w3)
  have HCN := Lib.hid hCs
  obtain ⟨Nb, hNb⟩ : ∃ b, w3.heap.size = b := ⟨_, rfl⟩
  rw [hNb] at P4 M4 HCN ⊢
  clear hNb hCs P3 B3
  generalize w3.alloc (.map #[] 0) = w4 at *
  have I4 := Lib.hid (k_new f)
  have HL := Lib.hid w1l
  have OK4 := Lib.hid (show (hostK B).ok ((fun _ => none, 0) : Dk) (40 * (101 - 0)) from by show 0 + 40 * 101 ≤ 1000000; omega)
  clear w1l hmm
  go_wp2_with fail
  go_loopw [46] (fun x wr => ∃ (i : Nat) (A : Pl) (o : Dk) (N : Int → Option BA), i ≤ n1 ∧ x = .int .i64 i ∧ Hid (KInv A o.1 N) ∧ Hid (Ok A) ∧ Hid (A.acc ≤ i ∧ A.most = f) ∧ Hid ((hostK B).ok o (40 * (101 - i))) ∧ Hid (PK (hostK B) C p (fun j => j = Nb) A o wr) ∧ Hid (MapI Rs eS wr Nb i N) ∧ Hid (Below C w1 wr)) (fun x _ => n1 - (intOf x).toNat)
  case atStart => exact ⟨0, newP f, (fun _ => none, 0), fun _ => none, Nat.zero_le _, rfl, I4, K0, Lib.hid ⟨Nat.le_refl _, rfl⟩, OK4, P4, M4, B4⟩
  case round =>
    obtain ⟨i, A, o, N, hi, rfl, hinv, hok, hac, hcn, hpk, hmp, hbl⟩ := hrel
    have II := Lib.hid hinv.out
    have OI := Lib.hid hok.out
    have AI := Lib.hid hac.out
    have NI := Lib.hid hcn.out
    have PI := Lib.hid hpk.out
    have MI := Lib.hid hmp.out
    have BI := Lib.hid hbl.out
    clear hinv hok hac hcn hpk hmp hbl I4 K0 OK4 P4 M4 B4
    have b0 : (0 : Int) ≤ (i : Int) := by omega
    by_cases hlt : i < n1
    · have b1 : (i : Int) < (n1 : Int) := by omega
      obtain ⟨ba, off, rfl, hba, hoc, hom⟩ := HL.out.2.2 i hlt
      obtain ⟨op, hop⟩ : ∃ op, l1.getD i nilO = op := ⟨_, rfl⟩
      rw [hop] at hoc hom
      clear hop
      obtain ⟨kd, pg, ls, bb⟩ := op
      have hbw := HB1.out.trans (BI.out.mono HSZ.out)
      have o0 : wr.cell? ⟨ba, off + i * 4, none⟩ = some (.int .i64 kd) := (hbw.cell (p := ⟨ba, off + i * 4, none⟩) hba).trans (hoc 0 _ rfl)
      have o1 : wr.cell? ⟨ba, off + i * 4 + 1, none⟩ = some (.int .i64 pg) := (hbw.cell (p := ⟨ba, off + i * 4 + 1, none⟩) hba).trans (hoc 1 _ rfl)
      have o2 : wr.cell? ⟨ba, off + i * 4 + 2, none⟩ = some (.int .i64 ls) := (hbw.cell (p := ⟨ba, off + i * 4 + 2, none⟩) hba).trans (hoc 2 _ rfl)
      have o3 : wr.cell? ⟨ba, off + i * 4 + 3, none⟩ = some (.string (str bb)) := (hbw.cell (p := ⟨ba, off + i * 4 + 3, none⟩) hba).trans (hoc 3 _ rfl)
      have HPG := Lib.hid hom.page
      clear hoc hom hbw
      go_upto_region 14 with fail
      obtain ⟨bo, hbo⟩ : ∃ b, wr.heap.size = b := ⟨_, rfl⟩
      have P5 := Lib.hid (PI.out.alloc HG.out (.cells #[.int .i64 kd, .int .i64 pg, .int .i64 ls, .string (str bb)] 36))
      have M5 := Lib.hid (MI.out.kept (Tn.alloc (fun _ => False) wr (.cells #[.int .i64 kd, .int .i64 pg, .int .i64 ls, .string (str bb)] 36)) (fun hf => hf))
      have X5 := Lib.hid (Bx.new wr #[.int .i64 kd, .int .i64 pg, .int .i64 ls, .string (str bb)] 36)
      have B5 := Lib.hid (BI.out.alloc (by have := BI.out.size; omega) (.cells #[.int .i64 kd, .int .i64 pg, .int .i64 ls, .string (str bb)] 36))
      rw [hbo] at P5 X5 ⊢
      clear hbo o0 o1 o2 o3 PI MI BI
      generalize wr.alloc (.cells #[.int .i64 kd, .int .i64 pg, .int .i64 ls, .string (str bb)] 36) = w5 at *
      have x0 : w5.cell? ⟨bo, 0, none⟩ = some (.int .i64 kd) := X5.out.cell 0
      have x1 : w5.cell? ⟨bo, 1, none⟩ = some (.int .i64 pg) := X5.out.cell 1
      have x2 : w5.cell? ⟨bo, 2, none⟩ = some (.int .i64 ls) := X5.out.cell 2
      have x3 : w5.cell? ⟨bo, 3, none⟩ = some (.string (str bb)) := X5.out.cell 3
      have hsb : (str bb).size = bb.length := rfl
      by_cases hbl : (40 : Int) < (((str bb).size : Nat) : Int)
      · go_wp2_with fail
        go_ret
        exact ⟨by first | rfl | trivial, HB1.out.trans (B5.out.mono HSZ.out)⟩
      have hbl2 : bb.length ≤ 40 := by rw [← hsb]; omega
      by_cases e1 : kd = 1
      · obtain ⟨A', o', g1, g2⟩ := k_get (hostK_2 B) OI.out II.out pg
        obtain ⟨SO, hm⟩ := P5.out.m
        obtain ⟨k1, k2, k3⟩ := get_ok HG.out OI.out hm HPG.out
        have hok3 : (hostK B).ok o (40 * (101 - (i + 1)) + 3) := ok_le HG.out NI.out (by omega)
        have NV := Lib.hid (show (hostK B).ok o' (40 * (101 - (i + 1))) from by have := get_okn (A := A) (k := pg) HG.out hok3; rw [g1] at this; exact this)
        rw [g1] at k1 k2 k3
        have OV := Lib.hid k1
        have AV := Lib.hid (show A'.acc ≤ i + 1 ∧ A'.most = f from ⟨by have := AI.out.1; have : A'.acc ≤ A.acc + 1 := k2; omega, by have : A'.most = A.most := k3; rw [this]; exact AI.out.2⟩)
        have IV := Lib.hid g2
        have hac : A.acc < 1000000 := by have := AI.out.1; omega
        have GC := Lib.hid (pk_get HG.out OI.out hok3 hac P5.out HPG.out g1)
        clear k1 k2 k3 hm g1 g2
        go_wp2_with fail
        refine GC.out.mono ?_; rintro e w6 ⟨rfl, hp, hb, hk⟩
        have PV := Lib.hid hp
        have BV := Lib.hid (B5.out.trans hb)
        have MV := Lib.hid (hk.map M5.out (.inl rfl))
        have x1' : w6.cell? ⟨bo, 1, none⟩ = some (.int .i64 pg) := (hk.bx X5.out (.inr rfl)).cell 1
        have lk := look_s MV.out HPG.out
        obtain ⟨s, hs⟩ : ∃ s, gD N pg = s := ⟨_, rfl⟩
        rw [hs] at lk ⊢
        clear hp hb hk GC P5 B5 M5 x0 x1 x2 x3 hs
        go_wp2_with fail
        refine (pk_has HG.out OV.out PV.out).mono ?_; rintro e w9 ⟨v9, rfl, ho, hp, hb, hk⟩
        have P9 := Lib.hid (hp.less (K' := fun j => j = Nb) (fun j hj => .inl hj))
        have B9 := Lib.hid (BV.out.trans hb)
        have M9 := Lib.hid ((hk.map MV.out (.inl rfl)).mono (m := i + 1) (by omega))
        obtain ⟨Ah, ch, rfl⟩ := own_shape ho
        have hnf : ¬ ((f : Int) < (A'.ks.length : Int)) := by have := OV.out.len; have := AV.out.2; omega
        obtain ⟨kl, hkl⟩ : ∃ q, A'.ks.length = q := ⟨_, rfl⟩
        rw [hkl] at hnf ⊢
        clear hp hb hk ho hkl
        go_wp2_with fail
        go_roundw
        case rel => exact ⟨i + 1, A', o', N, by omega, by go_num, IV, OV, AV, NV, P9, M9, B9⟩
        case measure => simp [intOf]; omega
      by_cases e2 : kd = 2
      · obtain ⟨A', o', g1, g2⟩ := k_set (hostK_2 B) OI.out II.out pg bb (i : Int)
        have hri : rng (i : Int) := ⟨by omega, by omega⟩
        obtain ⟨k1, k2, k3⟩ := set_ok (h := hostK B) (o := o) OI.out HPG.out (c := bb) (lsn := (i : Int)) (by omega) hri
        have hok3 : (hostK B).ok o (40 * (101 - (i + 1)) + 2) := ok_le HG.out NI.out (by omega)
        have NV := Lib.hid (show (hostK B).ok o' (40 * (101 - (i + 1))) from by have := set_okn (A := A) (k := pg) (c := bb) (lsn := (i : Int)) HG.out hok3; rw [g1] at this; exact this)
        rw [g1] at k1 k2 k3
        have OV := Lib.hid k1
        have AV := Lib.hid (show A'.acc ≤ i + 1 ∧ A'.most = f from ⟨by have := AI.out.1; have : A'.acc ≤ A.acc + 1 := k2; omega, by have : A'.most = A.most := k3; rw [this]; exact AI.out.2⟩)
        have IV := Lib.hid g2
        have hac : A.acc < 1000000 := by have := AI.out.1; omega
        have GC := Lib.hid (pk_set HG.out OI.out hok3 hac P5.out HPG.out (c := bb) (by omega) g1)
        clear k1 k2 k3 g1 g2
        go_wp2_with fail
        refine GC.out.mono ?_; rintro e w6 ⟨rfl, hp, hb, hk⟩
        have M6 := Lib.hid (hk.map M5.out (.inl rfl))
        have x1' : w6.cell? ⟨bo, 1, none⟩ = some (.int .i64 pg) := (hk.bx X5.out (.inr rfl)).cell 1
        have x3' : w6.cell? ⟨bo, 3, none⟩ = some (.string (str bb)) := (hk.bx X5.out (.inr rfl)).cell 3
        obtain ⟨w7, q1, q2, q3⟩ := M6.out.put Try.underlying48 (by unfold maxLen; omega) HPG.out (Rs_mk bb)
        have PV := Lib.hid (hp.turn HG.out (Tn.turn q3 (.inl rfl)))
        have BV := Lib.hid ((B5.out.trans hb).grown q3 (by have := (B5.out.trans hb).size; omega) (fun j hj => by cases hj; exact HCN.out))
        have MV := Lib.hid q2
        clear hp hb hk GC P5 B5 M5 M6 x0 x1 x2 x3 q2 q3
        go_wp2_with fail
        refine (pk_has HG.out OV.out PV.out).mono ?_; rintro e w9 ⟨v9, rfl, ho, hp, hb, hk⟩
        have P9 := Lib.hid (hp.less (K' := fun j => j = Nb) (fun j hj => .inl hj))
        have B9 := Lib.hid (BV.out.trans hb)
        have M9 := Lib.hid ((hk.map MV.out (.inl rfl)).mono (m := i + 1) (Nat.le_refl _))
        obtain ⟨Ah, ch, rfl⟩ := own_shape ho
        have hnf : ¬ ((f : Int) < (A'.ks.length : Int)) := by have := OV.out.len; have := AV.out.2; omega
        obtain ⟨kl, hkl⟩ : ∃ q, A'.ks.length = q := ⟨_, rfl⟩
        rw [hkl] at hnf ⊢
        clear hp hb hk ho hkl
        go_wp2_with fail
        go_roundw
        case rel => exact ⟨i + 1, A', o', updI N pg (some bb), by omega, by go_num, IV, OV, AV, NV, P9, M9, B9⟩
        case measure => simp [intOf]; omega
      by_cases e3 : kd = 3
      · obtain ⟨A', o', g1, g2, _, g4, _⟩ := k_flush (hostK_2 B) II.out pg
        have k1 := flush_ok (h := hostK B) (o := o) OI.out pg
        obtain ⟨_, k3, k2, _⟩ := flush_ks (h := hostK B) (A := A) (o := o) pg
        have hok3 : (hostK B).ok o (40 * (101 - (i + 1)) + 2) := ok_le HG.out NI.out (by omega)
        have NV := Lib.hid (show (hostK B).ok o' (40 * (101 - (i + 1))) from by have := flush_okn (A := A) (k := pg) HG.out hok3; rw [g1] at this; exact this)
        rw [g1] at k1 k2 k3
        have OV := Lib.hid k1
        have AV := Lib.hid (show A'.acc ≤ i + 1 ∧ A'.most = f from ⟨by have := AI.out.1; have : A'.acc = A.acc := k2; omega, by have : A'.most = A.most := k3; rw [this]; exact AI.out.2⟩)
        have IV := Lib.hid g2
        have GC := Lib.hid (pk_flush HG.out OI.out hok3 P5.out HPG.out g1)
        clear k1 k2 k3 g1 g2
        go_wp2_with fail
        refine GC.out.mono ?_; rintro e w6 ⟨rfl, hp, hb, hk⟩
        have PV := Lib.hid hp
        have BV := Lib.hid (B5.out.trans hb)
        have MV := Lib.hid (hk.map M5.out (.inl rfl))
        have x1' : w6.cell? ⟨bo, 1, none⟩ = some (.int .i64 pg) := (hk.bx X5.out (.inr rfl)).cell 1
        have lk := look_s MV.out HPG.out
        obtain ⟨md, d0, d1, _⟩ := pk_disk PV.out
        have ld := d1 pg HPG.out
        rw [g4] at ld
        obtain ⟨s, hs⟩ : ∃ s, gD N pg = s := ⟨_, rfl⟩
        rw [hs] at lk ld
        clear hp hb hk GC P5 B5 M5 x0 x1 x2 x3 hs g4 d1
        go_wp2_with fail
        refine (pk_has HG.out OV.out PV.out).mono ?_; rintro e w9 ⟨v9, rfl, ho, hp, hb, hk⟩
        have P9 := Lib.hid (hp.less (K' := fun j => j = Nb) (fun j hj => .inl hj))
        have B9 := Lib.hid (BV.out.trans hb)
        have M9 := Lib.hid ((hk.map MV.out (.inl rfl)).mono (m := i + 1) (by omega))
        obtain ⟨Ah, ch, rfl⟩ := own_shape ho
        have hnf : ¬ ((f : Int) < (A'.ks.length : Int)) := by have := OV.out.len; have := AV.out.2; omega
        obtain ⟨kl, hkl⟩ : ∃ q, A'.ks.length = q := ⟨_, rfl⟩
        rw [hkl] at hnf ⊢
        clear hp hb hk ho hkl
        go_wp2_with fail
        go_roundw
        case rel => exact ⟨i + 1, A', o', N, by omega, by go_num, IV, OV, AV, NV, P9, M9, B9⟩
        case measure => simp [intOf]; omega
      by_cases e4 : kd = 4
      · obtain ⟨A', o', g1, g2, g3, g4⟩ := k_allP (hostK_2 B) II.out
        obtain ⟨k1, k2, k3⟩ := all_ok (h := hostK B) (dirtyK A) A o OI.out
        have hdl := dirty_len OI.out
        have hok3 : (hostK B).ok o (40 * (101 - (i + 1)) + 32) := ok_le HG.out NI.out (by omega)
        have NV := Lib.hid (show (hostK B).ok o' (40 * (101 - (i + 1))) from by have := all_okn (n := 40 * (101 - (i + 1))) HG.out (dirtyK A) A o (ok_le HG.out hok3 (by omega)); rw [show allL (hostK B) A o (dirtyK A) = (0, A', o') from g1] at this; exact this)
        rw [show allL (hostK B) A o (dirtyK A) = (0, A', o') from g1] at k1 k2 k3
        have OV := Lib.hid k1
        have AV := Lib.hid (show A'.acc ≤ i + 1 ∧ A'.most = f from ⟨by have := AI.out.1; have : A'.acc = A.acc := k2; omega, by have : A'.most = A.most := k3; rw [this]; exact AI.out.2⟩)
        have IV := Lib.hid g2
        have G3 := Lib.hid g3
        have G4 := Lib.hid g4
        have GC := Lib.hid (pk_allc HG.out OI.out hok3 P5.out g1)
        clear k1 k2 k3 g1 g2 g3 g4 hdl
        go_wp2_with fail
        refine GC.out.mono ?_; rintro e w6 ⟨rfl, hp, hb, hk⟩
        have P6 := Lib.hid hp
        have B6 := Lib.hid (B5.out.trans hb)
        have M6 := Lib.hid (hk.map M5.out (.inl rfl))
        clear hp hb hk GC P5 B5 M5 x0 x1 x2 x3
        go_wp2_with fail
        refine (pk_dirty HG.out OV.out P6.out G3.out).mono ?_; rintro e w7 ⟨v7, rfl, ho, hp, hb, hk⟩
        have P7 := Lib.hid hp
        have B7 := Lib.hid (B6.out.trans hb)
        have M7 := Lib.hid (hk.map M6.out (.inl rfl))
        obtain ⟨A7, c7, rfl⟩ := own_shape ho
        clear hp hb hk ho P6 B6 M6
        obtain ⟨D, dd1, dd2, dd3⟩ := M7.out
        have DD1 := Lib.hid dd1
        have DD2 := Lib.hid dd2
        have DD3 := Lib.hid dd3
        clear dd1 dd2 dd3
        go_wp2_with (first
          | (at_range; refine wpList_range_own _ rfl _ 48 rfl 3 9 keyedI Try.underlying48 Rs Nb i D rfl DD1.out ?_; intro w0 hrg0 hg0 hs0)
          | fail)
        go_frame
        obtain ⟨r, hr⟩ : ∃ r, w7.heap.size = r := ⟨_, rfl⟩
        have hb0 := Below.grown_none hg0
        have P8 := Lib.hid (P7.out.new HG.out hb0 (by omega))
        have B8 := Lib.hid (B7.out.trans (hb0.mono P7.out.c))
        have HR0 := Lib.hid hrg0
        have HCR := Lib.hid P7.out.c
        rw [hr] at P8 HR0 HCR ⊢
        clear hb0 hrg0 hg0 hs0 hr P7 B7 M7 DD1
        go_loopw [16] (fun _ wr => ∃ (left : Lit → Bool) (cnt : Nat), Hid (wr.ranges Try.prog 3 Rs Nb r i D left cnt) ∧ Hid (PK (hostK B) C p (fun j => (j = Nb ∨ j = bo) ∨ j = r) A' o' wr) ∧ Hid (Below C w1 wr)) (fun _ wr => wr.rangeLeft Nb r)
        case atStart => exact ⟨_, _, HR0, P8, B8⟩
        case round =>
          rename_i w8 _
          obtain ⟨left, cnt, hrg, hp8, hb8⟩ := hrel
          have R8 := Lib.hid hrg.out
          have P9 := Lib.hid hp8.out
          have B9 := Lib.hid hb8.out
          clear hrg hp8 hb8 HR0 P8 B8
          go_wp2_with (first
            | (at_next; refine wpList_next_ranges _ rfl _ rfl 3 keyedI Rs (Value.int .i64) (fun b : BA => Value.string (str b)) key_val Rs_val Nb r i D left cnt rfl R8.out ?_ ?_)
            | fail)
          · intro hc0 hl0
            clear hc0 hl0
            have PV := Lib.hid (P9.out.less (K' := fun j => j = Nb ∨ j = bo) (fun j hj => .inl hj))
            have BV := B9
            have MV := Lib.hid (show MapI Rs eS wr Nb i N from ⟨D, R8.out.owns, DD2.out, DD3.out⟩)
            clear P9 B9 R8
            go_wp2_with fail
            refine (pk_has HG.out OV.out PV.out).mono ?_; rintro e w9 ⟨v9, rfl, ho, hp, hb, hk⟩
            have P9 := Lib.hid (hp.less (K' := fun j => j = Nb) (fun j hj => .inl hj))
            have B9 := Lib.hid (BV.out.trans hb)
            have M9 := Lib.hid ((hk.map MV.out (.inl rfl)).mono (m := i + 1) (by omega))
            obtain ⟨Ah, ch, rfl⟩ := own_shape ho
            have hnf : ¬ ((f : Int) < (A'.ks.length : Int)) := by have := OV.out.len; have := AV.out.2; omega
            obtain ⟨kl, hkl⟩ : ∃ q, A'.ks.length = q := ⟨_, rfl⟩
            rw [hkl] at hnf ⊢
            clear hp hb hk ho hkl
            go_wp2_with fail
            go_roundw
            case rel => exact ⟨i + 1, A', o', N, by omega, by go_num, IV, OV, AV, NV, P9, M9, B9⟩
            case measure => simp [intOf]; omega
          · intro x cv kl ya yb w9 cnt1 hkl hlx hy hat hrg1 hlt9 hg1 hs1 hen
            obtain ⟨y1, y2⟩ := entry_s DD2.out hkl hy hat
            have P10 := Lib.hid (P9.out.turn HG.out (Tn.turn hg1 (.inr rfl)))
            have B10 := Lib.hid (B9.out.grown hg1 (by have := B9.out.size; omega) (fun j hj => by cases hj; exact HCR.out))
            have R10 := Lib.hid hrg1
            obtain ⟨md, d0, d1, _⟩ := pk_disk P10.out
            have ld := d1 x y2
            rw [G4.out x, y1] at ld
            have HLT := Lib.hid hlt9
            clear hkl hlx hy hat hrg1 hlt9 hg1 hs1 y1 y2 d1
            go_wp2_with fail
            go_roundw
            case rel => exact ⟨_, cnt1, R10, P10, B10⟩
            case measure => rw [R10.out.left_eq, R8.out.left_eq]; exact HLT.out
      have PV := P5
      have BV := B5
      have MV := M5
      obtain ⟨A', hA'⟩ : ∃ q, q = A := ⟨_, rfl⟩
      obtain ⟨o', ho'⟩ : ∃ q, q = o := ⟨_, rfl⟩
      rw [← hA', ← ho'] at PV
      have IV := Lib.hid (show KInv A' o'.1 N from by rw [hA', ho']; exact II.out)
      have OV := Lib.hid (show Ok A' from by rw [hA']; exact OI.out)
      have AV := Lib.hid (show A'.acc ≤ i + 1 ∧ A'.most = f from by rw [hA']; exact ⟨by have := AI.out.1; omega, AI.out.2⟩)
      have NV := Lib.hid (show (hostK B).ok o' (40 * (101 - (i + 1))) from by rw [ho']; exact ok_le HG.out NI.out (by omega))
      clear P5 B5 M5 hA' ho'
      go_wp2_with fail
      refine (pk_has HG.out OV.out PV.out).mono ?_; rintro e w9 ⟨v9, rfl, ho, hp, hb, hk⟩
      have P9 := Lib.hid (hp.less (K' := fun j => j = Nb) (fun j hj => .inl hj))
      have B9 := Lib.hid (BV.out.trans hb)
      have M9 := Lib.hid ((hk.map MV.out (.inl rfl)).mono (m := i + 1) (by omega))
      obtain ⟨Ah, ch, rfl⟩ := own_shape ho
      have hnf : ¬ ((f : Int) < (A'.ks.length : Int)) := by have := OV.out.len; have := AV.out.2; omega
      obtain ⟨kl, hkl⟩ : ∃ q, A'.ks.length = q := ⟨_, rfl⟩
      rw [hkl] at hnf ⊢
      clear hp hb hk ho hkl
      go_wp2_with fail
      go_roundw
      case rel => exact ⟨i + 1, A', o', N, by omega, by go_num, IV, OV, AV, NV, P9, M9, B9⟩
      case measure => simp [intOf]; omega
    · obtain rfl : i = n1 := by omega
      go_wp2_with fail
      go_ret
      exact ⟨by first | rfl | trivial, HB1.out.trans (BI.out.mono HSZ.out)⟩

/-! The row's step. -/
set_option maxRecDepth 100000 in
theorem lifted (os : Os) (started : os.Started) (H : Type) (enc : TypeId × Value → H) :
    ReturnsInHanded {} Try.checked os 4 .any (Rows.poolKeepsSpec.pre6 enc Try.prog Try.f4 Rows.poolKeepsRow.domain false) (Rows.poolKeepsSpec.post enc Try.prog Try.f4 false true false false) := by
  refine returnsInHanded_of_change (C := Try.checked) own started (by kernel_rfl) Try.func4
    (ChangeSpec.witness6 (enc := enc) (C := Try.checked) false ⟨#[], #[.int .i64 0, .slice none 0 0], []⟩ 8 (by kernel_rfl) (by kernel_rfl) (by kernel_rfl) (by kernel_rfl)) ?_
  intro W base args ds gs before hval0 hW hcnd _
  have hval : ∀ (j : Nat) t v, Try.f4.params[j]? = some t → args[j]? = some v → Value.okWide Try.prog W .any base t v := hval0
  have hW' := hW
  obtain ⟨p, q, hA0, hV, rfl, hfz, hnd⟩ := hW
  have hA : DataW.TrodAll enc Try.prog W 0 (fun _ => true) true Try.f4.params.toList args.toList ds p := hA0
  rw [Try.params4] at hA hval
  obtain ⟨v0, vs0, d0, ds0, p0, q0, hargs, rfl, rfl, h0, r0⟩ := trodAll_cons hA
  obtain ⟨v1, vs1, d1, ds1, p1, q1, rfl, rfl, rfl, h1, r1⟩ := trodAll_cons r0
  obtain ⟨rfl, rfl, rfl⟩ := trodAll_nil r1
  obtain rfl : args = #[v0, v1] := by cases args; simp_all
  obtain ⟨rfl, rfl⟩ := trodVars_none hV
  obtain ⟨a0, rfl, rfl, rfl, w0⟩ := open_int Try.underlying3 (hval 0 3 v0 rfl rfl) h0
  have k1 := h1
  obtain ⟨A1, n1, c1, rfl⟩ := okWide_slice Try.underlying22 (hval 1 22 v1 rfl rfl)
  have lt1 : ∀ x ∈ p1, x.block < W.heap.size := by obtain ⟨m, hm⟩ := k1; exact DataW.trod_lt m _ _ _ hm
  obtain ⟨l1, w1⟩ := (by obtain ⟨fuel, hf⟩ := h1; obtain ⟨A9, n9, c9, l9, e9, hw9⟩ := ops_read hf (fun _ => rfl); simp only [Value.slice.injEq] at e9; obtain ⟨rfl, rfl, rfl⟩ := e9; exact ⟨l9, hw9⟩ : ∃ l, OlM W.heap.size W A1 n1 l)
  clear hA0 hval0
  refine (walk a0 A1 n1 c1 l1 W w0 w1).mono fun e W' ⟨he, bel⟩ => ?_
  subst he
  exact ⟨_, rfl, _, _, _, [], _, [], hW', trodAll_mk1 (shut_bool Try.underlying4 _), (trodAll_cons_mk (shut_int Try.underlying3 w0) (trodAll_cons_mk (Below.trod laidOut (by kernel_rfl) (of_decide_eq_true (by kernel_rfl)) k1 bel lt1) trodAll_mk0)), rfl, bel.frame _, fun h => by cases h⟩

theorem over : Rows.poolKeepsRow.holds Try.pinned (OpenSpec.ofChange Rows.poolKeepsSpec) :=
  OpenClaim.holds_of_wide 4 Try.f4 rfl rfl rfl rfl rfl rfl rfl ⟨rfl, rfl, rfl, rfl, rfl⟩ rfl rfl rfl rfl rfl (by kernel_rfl) Try.func4 (by kernel_rfl)
    (of_decide_eq_true (by kernel_rfl)) (by unfold Func.isWrapper; first | (rw [if_pos (by decide +kernel)]; kernel_rfl) | (rw [if_neg (by decide +kernel)]; exact ⟨rfl, rfl⟩))
    (fun os started H enc _ => lifted os started H enc)

/-- The statement. -/
theorem proved : Rows.PoolKeepsSaid := over
end Go.Proofs.Ytcecfageijkifaa.poolKeeps
