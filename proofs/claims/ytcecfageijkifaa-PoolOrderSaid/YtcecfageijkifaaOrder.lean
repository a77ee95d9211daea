/- No page is written ahead of the log up to the record that made it so. -/
import Derived.Test.YtcecfageijkifaaRows
import Derived.Test.YtcecfageijkifaaOh
import Derived.Deep.RegionHeld3
import Derived.Deep.QuietTactic
import Derived.LoopTactic
import Derived.StillTailTactics
import Derived.BigQuiet
import Derived.Deep.DeepCutAuto
import Derived.Deep.RegionLaw
import Derived.Deep.CutBlock
import Derived.Lib.Hide
import Derived.WalkKit
import Derived.ProofKit
import Derived.OpenShut
import Derived.ChangeOld
import Derived.Below
import Derived.Carry
namespace Go.Proofs.Ytcecfageijkifaa.poolOrder
open Go.ChangeShapes Go.WideShapes Go.ChangeAt Go.RowKit
open Po
set_option linter.unusedVariables false

theorem own : ownKnob Try.prog.godebug = none := by kernel_rfl
theorem laidOut : laidOutB Try.prog = true := by kernel_rfl


set_option maxRecDepth 100000 in
set_option maxHeartbeats 100000000 in
theorem walk (a0 : Int) (A1 : Option Addr) (n1 c1x : Nat) (l1 : List Ox) (w : World) (w0i : (Lit.int .i64 a0).wf = true) (w1l : OlM w.heap.size w A1 n1 l1) :
    Calls Try.prog 3 #[.int .i64 a0, .slice A1 n1 c1x] w fun e w' => e = .returned (.bool true) ∧ Below w.heap.size w w' := by
  have AL := Lib.hid alive_yes
  obtain ⟨h0, h1⟩ := wf_rng w0i
  by_cases c1 : a0 < 1
  · as_aux_lemma =>
      go_enter Try.func3, Try.ntmps3
      go_wp2_with fail
      refine (AL.out _).mono ?_; rintro e w1 ⟨rfl, hb⟩
      go_wp2_with fail
      go_ret
      exact ⟨by trivial, hb⟩
  by_cases c2 : 16 < a0
  · as_aux_lemma =>
      go_enter Try.func3, Try.ntmps3
      go_wp2_with fail
      refine (AL.out _).mono ?_; rintro e w1 ⟨rfl, hb⟩
      go_wp2_with fail
      go_ret
      exact ⟨by trivial, hb⟩
  by_cases c3 : (120 : Int) < (n1 : Int)
  · as_aux_lemma =>
      go_enter Try.func3, Try.ntmps3
      go_wp2_with fail
      refine (AL.out _).mono ?_; rintro e w1 ⟨rfl, hb⟩
      go_wp2_with fail
      go_ret
      exact ⟨by trivial, hb⟩
  obtain ⟨f, rfl⟩ : ∃ f : Nat, a0 = (f : Int) := ⟨a0.toNat, by omega⟩
  have K0 := Lib.hid (new_ok (n := f) (by omega) (by omega))
  have hmm := @run_makeMap Try.prog
  go_enter Try.func3, Try.ntmps3
  go_wp2_with fail
  refine (AL.out _).mono ?_; rintro e w1 ⟨rfl, hb⟩
  have HB1 := Lib.hid hb
  clear hb AL
  obtain ⟨w2, mk1, mk2, mk3, mk4⟩ := make_40 w1
  have HM := Lib.hid (rec_40 mk2 mk4)
  have BB := Lib.hid (show Below w1.heap.size w1 (w2.alloc (.cells #[.slice none 0 0, .slice (some ⟨w1.heap.size, 0, none⟩) 40 40, .int .i64 0] 28)) from mk3.alloc mk3.size _)
  clear mk2 mk3
  go_upto_region 4 with fail
  obtain ⟨g, hgg⟩ : ∃ g, w1.heap.size = g := ⟨_, rfl⟩
  rw [hgg] at mk4 HM BB ⊢
  obtain ⟨r, hr⟩ : ∃ r, g + 1 = r := ⟨_, rfl⟩
  have hrg : g ≤ r := by omega
  rw [hr] at HM ⊢
  have HSZ := Lib.hid (show w.heap.size ≤ g from by rw [← hgg]; exact HB1.out.size)
  have HG := Lib.hid (hostR_good r (some ⟨g, 0, none⟩) 40 40 p40)
  have G0 := Lib.hid (show Calls Try.prog 9 #[.int .i64 f, .func (.func 10) #[ptr r] #[], .func (.func 11) #[ptr r] #[], .func (.func 12) #[ptr r] #[]] (w2.alloc (.cells #[.slice none 0 0, .slice (some ⟨g, 0, none⟩) 40 40, .int .i64 0] 28)) (fun e w' => ∃ p, e = .returned (ptr p) ∧ PK (hO r g 40) g p (fun _ => False) (newP f) [] w' ∧ Below g (w2.alloc (.cells #[.slice none 0 0, .slice (some ⟨g, 0, none⟩) 40 40, .int .i64 0] 28)) w') from pk_new (n := f) HG.out HM.out (fun i hi => by rcases hi with hi | hi <;> omega) (by rw [World.size_alloc]; omega) (by omega) (by omega))
  clear HM hr mk1 mk4
  generalize w2.alloc (.cells #[.slice none 0 0, .slice (some ⟨g, 0, none⟩) 40 40, .int .i64 0] 28) = w2' at *
  go_wp2_with fail
  refine G0.out.mono ?_; rintro e w3 ⟨p, rfl, hp, hb⟩
  have P3 := Lib.hid hp
  have B3 := Lib.hid (BB.out.trans hb)
  clear hp hb G0 BB
  go_upto_region 8 with fail
  have hCs := P3.out.c
  have P4 := Lib.hid ((P3.out.alloc HG.out (.map #[] 0)).less (K' := fun i => i = w3.heap.size) (fun i hi => .inr hi))
  have B4 := Lib.hid (B3.out.alloc (by have := B3.out.size; omega) (.map #[] 0))
  have M4 := Lib.hid (show MapB (w3.alloc (.map #[] 0)) w3.heap.size 0 (fun _ => 0) from MapB.made w3)
  have HCN := Lib.hid hCs
  obtain ⟨Mb, hMb⟩ : ∃ b, w3.heap.size = b := ⟨_, rfl⟩
  rw [hMb] at P4 M4 HCN ⊢
  clear hMb hCs P3 B3
  generalize w3.alloc (.map #[] 0) = w4 at *
  have I4 := Lib.hid (o_new f)
  have HL := Lib.hid w1l
  have S4 := Lib.hid seen_zero
  have OK4 := Lib.hid (show (hO r g 40).ok ([] : St) (40 * (121 - 0) + 64) from by show 0 + (40 * 121 + 64) ≤ 1000000; omega)
  clear w1l hmm
  go_wp2_with fail
  go_loopw [46] (fun x wr => ∃ (i : Nat) (A : Pl) (o : St) (mk : BA → Nat), i ≤ n1 ∧ x = .int .i64 i ∧ Hid (OInv A o mk) ∧ Hid (Seen i mk) ∧ Hid (Ok A) ∧ Hid (A.acc ≤ i ∧ A.most = f) ∧ Hid ((hO r g 40).ok o (40 * (121 - i) + 64)) ∧ Hid (PK (hO r g 40) g p (fun j => j = Mb) A o wr) ∧ Hid (MapB wr Mb i mk) ∧ Hid (Below g w1 wr)) (fun x _ => n1 - (intOf x).toNat)
  case atStart => exact ⟨0, newP f, [], fun _ => 0, Nat.zero_le _, rfl, I4, S4, K0, Lib.hid ⟨Nat.le_refl _, rfl⟩, OK4, P4, M4, B4⟩
  case round =>
    obtain ⟨i, A, o, mk, hi, rfl, hinv, hseen, hok, hac, hcn, hpk, hmp, hbl⟩ := hrel
    have II := Lib.hid hinv.out
    have SI := Lib.hid hseen.out
    have OI := Lib.hid hok.out
    have AI := Lib.hid hac.out
    have NI := Lib.hid hcn.out
    have PI := Lib.hid hpk.out
    have MI := Lib.hid hmp.out
    have BI := Lib.hid hbl.out
    clear hinv hseen hok hac hcn hpk hmp hbl I4 S4 K0 OK4 P4 M4 B4
    have b0 : (0 : Int) ≤ (i : Int) := by omega
    by_cases hlt : i < n1
    · have b1 : (i : Int) < (n1 : Int) := by omega
      obtain ⟨ba, off, rfl, hba, hoc, hom⟩ := HL.out.2.2 i hlt
      obtain ⟨op, hop⟩ : ∃ op, l1.getD i nilO = op := ⟨_, rfl⟩
      rw [hop] at hoc hom
      clear hop
      obtain ⟨kd, pg, ls, bb⟩ := op
      have hbw := HB1.out.trans (BI.out.mono HSZ.out)
      have o0 : wr.cell? ⟨ba, off + i * 4, none⟩ = some (.int .i64 kd) := (hbw.cell (p := ⟨ba, off + i * 4, none⟩) hba).trans (hoc 0 _ rfl)
      have o1 : wr.cell? ⟨ba, off + i * 4 + 1, none⟩ = some (.int .i64 pg) := (hbw.cell (p := ⟨ba, off + i * 4 + 1, none⟩) hba).trans (hoc 1 _ rfl)
      have o2 : wr.cell? ⟨ba, off + i * 4 + 2, none⟩ = some (.int .i64 ls) := (hbw.cell (p := ⟨ba, off + i * 4 + 2, none⟩) hba).trans (hoc 2 _ rfl)
      have o3 : wr.cell? ⟨ba, off + i * 4 + 3, none⟩ = some (.string (str bb)) := (hbw.cell (p := ⟨ba, off + i * 4 + 3, none⟩) hba).trans (hoc 3 _ rfl)
      have HPG := Lib.hid hom.page
      clear hoc hom hbw
      go_upto_region 11 with fail
      obtain ⟨bo, hbo⟩ : ∃ b, wr.heap.size = b := ⟨_, rfl⟩
      have P5 := Lib.hid (PI.out.alloc HG.out (.cells #[.int .i64 kd, .int .i64 pg, .int .i64 ls, .string (str bb)] 36))
      have M5 := Lib.hid (MI.out.kept (Tn.alloc (fun _ => False) wr (.cells #[.int .i64 kd, .int .i64 pg, .int .i64 ls, .string (str bb)] 36)) (fun hf => hf))
      have X5 := Lib.hid (Bx.new wr #[.int .i64 kd, .int .i64 pg, .int .i64 ls, .string (str bb)] 36)
      have B5 := Lib.hid (BI.out.alloc (by have := BI.out.size; omega) (.cells #[.int .i64 kd, .int .i64 pg, .int .i64 ls, .string (str bb)] 36))
      rw [hbo] at P5 X5 ⊢
      clear hbo o0 o1 o2 o3 PI MI BI
      generalize wr.alloc (.cells #[.int .i64 kd, .int .i64 pg, .int .i64 ls, .string (str bb)] 36) = w5 at *
      have x0 : w5.cell? ⟨bo, 0, none⟩ = some (.int .i64 kd) := X5.out.cell 0
      have x1 : w5.cell? ⟨bo, 1, none⟩ = some (.int .i64 pg) := X5.out.cell 1
      by_cases hp0' : pg < 0
      · go_wp2_with fail
        go_ret
        exact ⟨by first | rfl | trivial, HB1.out.trans (B5.out.mono HSZ.out)⟩
      by_cases hp1' : 40 ≤ pg
      · go_wp2_with fail
        go_ret
        exact ⟨by first | rfl | trivial, HB1.out.trans (B5.out.mono HSZ.out)⟩
      have hp0 : 0 ≤ pg := by omega
      have hp1 : pg < 40 := by omega
      by_cases e1 : kd = 1
      · obtain ⟨x, A', o', g1, g2⟩ := o_get (hO_3 r g 40) OI.out II.out hp0 hp1
        obtain ⟨SO, hm⟩ := P5.out.m
        obtain ⟨k1, k2, k3⟩ := get_ok HG.out OI.out hm HPG.out
        have hok3 : (hO r g 40).ok o (40 * (121 - (i + 1)) + 64 + 3) := ok_le HG.out NI.out (by omega)
        have NV := Lib.hid (show (hO r g 40).ok o' (40 * (121 - (i + 1)) + 64) from by have := get_okn (A := A) (k := pg) HG.out hok3; rw [g1] at this; exact this)
        rw [g1] at k1 k2 k3
        have OV := Lib.hid k1
        have AV := Lib.hid (show A'.acc ≤ i + 1 ∧ A'.most = f from ⟨by have := AI.out.1; have : A'.acc ≤ A.acc + 1 := k2; omega, by have : A'.most = A.most := k3; rw [this]; exact AI.out.2⟩)
        have IV := Lib.hid g2
        have hac : A.acc < 1000000 := by have := AI.out.1; omega
        have GC := Lib.hid (pk_get HG.out OI.out hok3 hac P5.out HPG.out g1)
        clear k1 k2 k3 hm g1 g2
        go_wp2_with fail
        refine GC.out.mono ?_; rintro e w6 ⟨rfl, hp, hb, hk⟩
        have PV := Lib.hid hp
        have BV := Lib.hid (B5.out.trans hb)
        have M9 := Lib.hid ((M5.out.held hk (.inl rfl)).mono (m := i + 1) (by omega))
        clear hp hb hk GC P5 B5 M5 x0 x1
        have P9 := Lib.hid (PV.out.less (K' := fun j => j = Mb) (fun j hj => .inl hj))
        go_wp2_with fail
        go_roundw
        case rel => exact ⟨i + 1, A', o', mk, by omega, by go_num, IV, (Lib.hid (seen_up SI.out)), OV, AV, NV, P9, M9, BV⟩
        case measure => simp [intOf]; omega
      by_cases e2 : kd = 2
      · obtain ⟨pn, rfl⟩ : ∃ pn : Nat, pg = (pn : Int) := ⟨pg.toNat, by omega⟩
        have hnew : mk (mkB i pn) = 0 := seen_new (by omega) SI.out
        obtain ⟨A', o', g1, g2⟩ := o_set (hO_3 r g 40) OI.out (o_more II.out (v := i + 1) hnew) (pn : Int) (c := mkB i pn) (lsn := ((i + 1 : Nat) : Int)) ⟨by simp, by simp⟩
        have hri : rng ((i + 1 : Nat) : Int) := ⟨by omega, by omega⟩
        have hml : (mkB i pn).length ≤ 1099511627776 := by show 4 ≤ _; omega
        obtain ⟨k1, k2, k3⟩ := set_ok (h := hO r g 40) (o := o) OI.out HPG.out (c := mkB i pn) (lsn := ((i + 1 : Nat) : Int)) hml hri
        have hok3 : (hO r g 40).ok o (40 * (121 - (i + 1)) + 64 + 2) := ok_le HG.out NI.out (by omega)
        have NV := Lib.hid (show (hO r g 40).ok o' (40 * (121 - (i + 1)) + 64) from by have := set_okn (A := A) (k := (pn : Int)) (c := mkB i pn) (lsn := ((i + 1 : Nat) : Int)) HG.out hok3; rw [g1] at this; exact this)
        rw [g1] at k1 k2 k3
        have OV := Lib.hid k1
        have AV := Lib.hid (show A'.acc ≤ i + 1 ∧ A'.most = f from ⟨by have := AI.out.1; have : A'.acc ≤ A.acc + 1 := k2; omega, by have : A'.most = A.most := k3; rw [this]; exact AI.out.2⟩)
        have IV := Lib.hid g2
        have hac : A.acc < 1000000 := by have := AI.out.1; omega
        have cb := four_text w5 i pn (by omega) (by omega)
        have hdv : (i : Int) / 256 = 0 := by omega
        have ew : IntKind.i64.wrap ((i : Int) + 1) = (i : Int) + 1 := IntWalk.i64_in _ (by omega)
        clear k1 k2 k3 g2
        go_upto_region 18 with fail
        have hbl := (Below.refl w5.heap.size w5).alloc (Nat.le_refl _) (.cells #[.int .u8 i, .int .u8 0, .int .u8 pn, .int .u8 98] 5)
        have P6 := Lib.hid (P5.out.keep HG.out hbl)
        have M6 := Lib.hid (M5.out.kept (Tn.of_below (S := fun _ => False) hbl) (fun hf => hf))
        have X6 := Lib.hid (X5.out.alloc (.cells #[.int .u8 i, .int .u8 0, .int .u8 pn, .int .u8 98] 5))
        have B6 := Lib.hid (B5.out.trans (hbl.mono (by have := B5.out.size; omega)))
        clear cb hbl x0 x1 P5 M5 X5 B5
        generalize w5.alloc (.cells #[.int .u8 i, .int .u8 0, .int .u8 pn, .int .u8 98] 5) = w6 at *
        obtain ⟨w7, q1, q2, q3⟩ := M6.out.put (by unfold maxLen; omega) (s := mkB i pn) (by show 4 ≤ maxLen; unfold maxLen; omega) (v := i + 1) (by omega)
        have q1' : (Instr.mapUpdate 34 (.map (some Mb)) (.string (str (mkB i pn))) (.int .i64 ((i : Int) + 1))).run Try.prog w6 = .ok () w7 := by
          have e := q1
          rw [show ((i + 1 : Nat) : Int) = (i : Int) + 1 from rfl] at e
          exact e
        have P7 := Lib.hid (P6.out.turn HG.out (Tn.turn q3 (.inl rfl)))
        have M7 := Lib.hid q2
        have X7 := Lib.hid (X6.out.grown q3 (fun e => M6.out.block X6.out (by cases e; rfl)))
        have B7 := Lib.hid (B6.out.grown q3 (by have := B6.out.size; omega) (fun j hj => by cases hj; exact HCN.out))
        have x1' : w6.cell? ⟨bo, 1, none⟩ = some (.int .i64 (pn : Int)) := X6.out.cell 1
        have x1'' : w7.cell? ⟨bo, 1, none⟩ = some (.int .i64 (pn : Int)) := X7.out.cell 1
        have GC := Lib.hid (show Calls Try.prog 14 #[ptr p, .int .i64 (pn : Int), .string (str (mkB i pn)), .int .i64 ((i : Int) + 1)] w7 (fun e w' => e = .returned (.int .i64 0) ∧ PK (hO r g 40) g p (fun j => j = Mb ∨ j = bo) A' o' w' ∧ Below g w7 w' ∧ Kp (fun j => j = Mb ∨ j = bo) w7 w') from pk_set HG.out OI.out hok3 hac P7.out HPG.out hml g1)
        have SN := Lib.hid (seen_add (pg := pn) (v := i + 1) SI.out)
        clear q1 q2 q3 g1 P6 M6 X6 B6 X7
        obtain ⟨mb, hmb⟩ : ∃ b, mkB i pn = b := ⟨_, rfl⟩
        rw [hmb] at q1' GC SN IV M7 ⊢
        go_wp2_with fail
        refine GC.out.mono ?_; rintro e w8 ⟨rfl, hp, hb, hk⟩
        have PV := Lib.hid hp
        have BV := Lib.hid (B7.out.trans hb)
        have M9 := Lib.hid (M7.out.held hk (.inl rfl))
        clear hp hb hk GC P7 B7 M7 q1' x1' x1''
        have P9 := Lib.hid (PV.out.less (K' := fun j => j = Mb) (fun j hj => .inl hj))
        go_wp2_with fail
        go_roundw
        case rel => exact ⟨i + 1, A', o', (fun b => if b = mb then i + 1 else mk b), by omega, by go_num, IV, SN, OV, AV, NV, P9, M9, BV⟩
        case measure => simp [intOf]; omega
      by_cases e3 : kd = 3
      · obtain ⟨A', o', g1, g2, _, _, _⟩ := o_flush (hO_3 r g 40) II.out pg
        have k1 := flush_ok (h := hO r g 40) (o := o) OI.out pg
        obtain ⟨_, k3, k2, _⟩ := flush_ks (h := hO r g 40) (A := A) (o := o) pg
        have hok3 : (hO r g 40).ok o (40 * (121 - (i + 1)) + 64 + 2) := ok_le HG.out NI.out (by omega)
        have NV := Lib.hid (show (hO r g 40).ok o' (40 * (121 - (i + 1)) + 64) from by have := flush_okn (A := A) (k := pg) HG.out hok3; rw [g1] at this; exact this)
        rw [g1] at k1 k2 k3
        have OV := Lib.hid k1
        have AV := Lib.hid (show A'.acc ≤ i + 1 ∧ A'.most = f from ⟨by have := AI.out.1; have : A'.acc = A.acc := k2; omega, by have : A'.most = A.most := k3; rw [this]; exact AI.out.2⟩)
        have IV := Lib.hid g2
        have GC := Lib.hid (pk_flush HG.out OI.out hok3 P5.out HPG.out g1)
        clear k1 k2 k3 g1 g2
        go_wp2_with fail
        refine GC.out.mono ?_; rintro e w6 ⟨rfl, hp, hb, hk⟩
        have PV := Lib.hid hp
        have BV := Lib.hid (B5.out.trans hb)
        have M9 := Lib.hid ((M5.out.held hk (.inl rfl)).mono (m := i + 1) (by omega))
        clear hp hb hk GC P5 B5 M5 x0 x1
        have P9 := Lib.hid (PV.out.less (K' := fun j => j = Mb) (fun j hj => .inl hj))
        go_wp2_with fail
        go_roundw
        case rel => exact ⟨i + 1, A', o', mk, by omega, by go_num, IV, (Lib.hid (seen_up SI.out)), OV, AV, NV, P9, M9, BV⟩
        case measure => simp [intOf]; omega
      have PV := P5
      have BV := B5
      have M9 := Lib.hid (M5.out.mono (m := i + 1) (by omega))
      obtain ⟨A', hA'⟩ : ∃ q, q = A := ⟨_, rfl⟩
      obtain ⟨o', ho'⟩ : ∃ q, q = o := ⟨_, rfl⟩
      rw [← hA', ← ho'] at PV
      have IV := Lib.hid (show OInv A' o' mk from by rw [hA', ho']; exact II.out)
      have OV := Lib.hid (show Ok A' from by rw [hA']; exact OI.out)
      have AV := Lib.hid (show A'.acc ≤ i + 1 ∧ A'.most = f from by rw [hA']; exact ⟨by have := AI.out.1; omega, AI.out.2⟩)
      have NV := Lib.hid (show (hO r g 40).ok o' (40 * (121 - (i + 1)) + 64) from by rw [ho']; exact ok_le HG.out NI.out (by omega))
      clear P5 B5 M5 hA' ho'
      have P9 := Lib.hid (PV.out.less (K' := fun j => j = Mb) (fun j hj => .inl hj))
      go_wp2_with fail
      go_roundw
      case rel => exact ⟨i + 1, A', o', mk, by omega, by go_num, IV, (Lib.hid (seen_up SI.out)), OV, AV, NV, P9, M9, BV⟩
      case measure => simp [intOf]; omega
    · obtain rfl : i = n1 := by omega
      obtain ⟨A', o', g1, g2, g3⟩ := o_allP (hO_3 r g 40) II.out
      obtain ⟨k1, k2, k3⟩ := all_ok (h := hO r g 40) (dirtyK A) A o OI.out
      have hok3 : (hO r g 40).ok o (32 + 32) := ok_le HG.out NI.out (by omega)
      rw [show allL (hO r g 40) A o (dirtyK A) = (0, A', o') from g1] at k1
      have OV := Lib.hid k1
      have VS := Lib.hid g2.vs
      have HOKX := Lib.hid (show o'.length ≤ 1000000 from by have := all_okn (n := 0) HG.out (dirtyK A) A o (ok_le HG.out hok3 (by have := dirty_len OI.out; omega)); rw [show allL (hO r g 40) A o (dirtyK A) = (0, A', o') from g1] at this; have h9 : o'.length + 0 ≤ 1000000 := this; omega)
      have G3 := Lib.hid g3
      have GC := Lib.hid (pk_allc HG.out OI.out hok3 PI.out g1)
      clear k1 k2 k3 g1 g2 g3
      go_wp2_with fail
      refine GC.out.mono ?_; rintro e w6 ⟨rfl, hp, hb, hk⟩
      have P6 := Lib.hid hp
      have B6 := Lib.hid (BI.out.trans hb)
      have M6 := Lib.hid (MI.out.held hk rfl)
      obtain ⟨Av, cv, hc0, hst⟩ := steps_read hp
      have STP := Lib.hid hst
      clear hp hb hk hst GC PI BI MI
      obtain ⟨m, hm⟩ : ∃ m, o'.length = m := ⟨_, rfl⟩
      rw [hm] at hc0 STP
      have HMM := Lib.hid hm
      clear hm
      go_wp2_with fail
      go_loopw [11, 104] (fun d x wr => ∃ (j : Nat) (dd : Int), j ≤ m ∧ x = .int .i64 j ∧ d = .int .i64 dd ∧ Hid (vS mk dd (o'.drop j)) ∧ Hid (Below w6.heap.size w6 wr)) (fun _ x _ => m - (intOf x).toNat)
      case atStart => exact ⟨0, 0, Nat.zero_le _, rfl, rfl, VS, Lib.hid (Below.refl _ _)⟩
      case round =>
        rename_i wr2
        obtain ⟨j, dd, hj, rfl, rfl, hvs, hbl⟩ := hrel
        have VI := Lib.hid hvs.out
        have BI := Lib.hid hbl.out
        clear hvs hbl VS hc0
        have b0 : (0 : Int) ≤ (j : Int) := by omega
        by_cases hlt : j < m
        · have b1 : (j : Int) < (m : Int) := by omega
          obtain ⟨gs, rfl, s0, s1, s2⟩ := STP.out _ BI.out j hlt
          have hdr : o'.drop j = o'.getD j (0, 0, []) :: o'.drop (j + 1) := by
            rw [List.drop_eq_getElem_cons (by rw [HMM.out]; exact hlt)]
            simp [List.getD, HMM.out, hlt]
          have hv := VI.out
          rw [hdr] at hv
          obtain ⟨x, hx⟩ : ∃ x, o'.getD j (0, 0, []) = x := ⟨_, rfl⟩
          rw [hx] at s0 s1 s2 hv
          obtain ⟨kd, n, b⟩ := x
          simp only at s0 s1 s2
          have HV := Lib.hid hv
          clear hdr hv hx VI
          go_upto_region 28 with fail
          obtain ⟨bs, hbs⟩ : ∃ b, wr.heap.size = b := ⟨_, rfl⟩
          have HB7 := Lib.hid (BI.out.alloc BI.out.size (.cells #[.int .u8 kd, .int .i64 n, .string (str b)] 44))
          have X7 := Lib.hid (Bx.new wr #[.int .u8 kd, .int .i64 n, .string (str b)] 44)
          rw [hbs] at X7 ⊢
          clear hbs s0 s1 s2 BI
          generalize wr.alloc (.cells #[.int .u8 kd, .int .i64 n, .string (str b)] 44) = w7 at *
          have y0 : w7.cell? ⟨bs, 0, none⟩ = some (.int .u8 kd) := X7.out.cell 0
          have y1 : w7.cell? ⟨bs, 1, none⟩ = some (.int .i64 n) := X7.out.cell 1
          have y2 : w7.cell? ⟨bs, 2, none⟩ = some (.string (str b)) := X7.out.cell 2
          have hm6 : m ≤ 1000000 := by rw [← HMM.out]; exact HOKX.out
          have ej : IntKind.i64.wrap ((j : Int) + 1) = (j : Int) + 1 := IntWalk.i64_in _ (by omega)
          by_cases k1 : kd = 108
          · have k1' : (kd : Int) = 108 := by omega
            have VN := Lib.hid (show vS mk (max dd n) (o'.drop (j + 1)) from by have := HV.out.2; rwa [if_pos k1] at this)
            go_wp2_with fail
            go_roundw
            case rel => exact ⟨j + 1, max dd n, by omega, by go_num, by first | rfl | simp, VN, HB7⟩
            case measure => simp [intOf]; omega
          have VN := Lib.hid (show vS mk dd (o'.drop (j + 1)) from by have := HV.out.2; rwa [if_neg k1] at this)
          have k1' : ¬ (kd : Int) = 108 := by omega
          by_cases k2 : kd = 119
          · have k2' : (kd : Int) = 119 := by omega
            obtain ⟨v1, v2⟩ := HV.out.1 k2
            have hbl4 := (SI.out b v1).1
            have lk := (M6.out.kept (Tn.of_below (S := fun _ => False) HB7.out) (fun hf => hf)).look (s := b) (by rw [hbl4]; unfold maxLen; omega)
            obtain ⟨mv, hmv⟩ : ∃ v, mk b = v := ⟨_, rfl⟩
            rw [hmv] at lk v1 v2
            have z1 : ¬ ((mv : Int) = 0) := by omega
            have z2 : ¬ (dd < (mv : Int)) := by omega
            go_wp2_with fail
            go_roundw
            case rel => exact ⟨j + 1, dd, by omega, by go_num, by first | rfl | simp, VN, HB7⟩
            case measure => simp [intOf]; omega
          · have k2' : ¬ (kd : Int) = 119 := by omega
            go_wp2_with fail
            go_roundw
            case rel => exact ⟨j + 1, dd, by omega, by go_num, by first | rfl | simp, VN, HB7⟩
            case measure => simp [intOf]; omega
        · obtain rfl : j = m := by omega
          have PJ := Lib.hid (P6.out.keep HG.out BI.out)
          have BJ := Lib.hid (B6.out.trans (BI.out.mono P6.out.c))
          go_wp2_with fail
          refine (pk_dirty HG.out OV.out PJ.out G3.out).mono ?_; rintro e w9 ⟨v9, rfl, ho, _, hb, _⟩
          obtain ⟨A9, c9, rfl⟩ := own_shape ho
          have B9 := Lib.hid (BJ.out.trans hb)
          clear ho hb
          go_wp2_with fail
          go_ret
          exact ⟨by first | rfl | simp, HB1.out.trans (B9.out.mono HSZ.out)⟩

/-! The row's step. -/
set_option maxRecDepth 100000 in
theorem lifted (os : Os) (started : os.Started) (H : Type) (enc : TypeId × Value → H) :
    ReturnsInHanded {} Try.checked os 3 .any (Rows.poolOrderSpec.pre6 enc Try.prog Try.f3 Rows.poolOrderRow.domain false) (Rows.poolOrderSpec.post enc Try.prog Try.f3 false true false false) := by
  refine returnsInHanded_of_change (C := Try.checked) own started (by kernel_rfl) Try.func3
    (ChangeSpec.witness6 (enc := enc) (C := Try.checked) false ⟨#[], #[.int .i64 0, .slice none 0 0], []⟩ 8 (by kernel_rfl) (by kernel_rfl) (by kernel_rfl) (by kernel_rfl)) ?_
  intro W base args ds gs before hval0 hW hcnd _
  have hval : ∀ (j : Nat) t v, Try.f3.params[j]? = some t → args[j]? = some v → Value.okWide Try.prog W .any base t v := hval0
  have hW' := hW
  obtain ⟨p, q, hA0, hV, rfl, hfz, hnd⟩ := hW
  have hA : DataW.TrodAll enc Try.prog W 0 (fun _ => true) true Try.f3.params.toList args.toList ds p := hA0
  rw [Try.params3] at hA hval
  obtain ⟨v0, vs0, d0, ds0, p0, q0, hargs, rfl, rfl, h0, r0⟩ := trodAll_cons hA
  obtain ⟨v1, vs1, d1, ds1, p1, q1, rfl, rfl, rfl, h1, r1⟩ := trodAll_cons r0
  obtain ⟨rfl, rfl, rfl⟩ := trodAll_nil r1
  obtain rfl : args = #[v0, v1] := by cases args; simp_all
  obtain ⟨rfl, rfl⟩ := trodVars_none hV
  obtain ⟨a0, rfl, rfl, rfl, w0⟩ := open_int Try.underlying3 (hval 0 3 v0 rfl rfl) h0
  have k1 := h1
  obtain ⟨A1, n1, c1, rfl⟩ := okWide_slice Try.underlying22 (hval 1 22 v1 rfl rfl)
  have lt1 : ∀ x ∈ p1, x.block < W.heap.size := by obtain ⟨m, hm⟩ := k1; exact DataW.trod_lt m _ _ _ hm
  obtain ⟨l1, w1⟩ := (by obtain ⟨fuel, hf⟩ := h1; obtain ⟨A9, n9, c9, l9, e9, hw9⟩ := ops_read hf (fun _ => rfl); simp only [Value.slice.injEq] at e9; obtain ⟨rfl, rfl, rfl⟩ := e9; exact ⟨l9, hw9⟩ : ∃ l, OlM W.heap.size W A1 n1 l)
  clear hA0 hval0
  refine (walk a0 A1 n1 c1 l1 W w0 w1).mono fun e W' ⟨he, bel⟩ => ?_
  subst he
  exact ⟨_, rfl, _, _, _, [], _, [], hW', trodAll_mk1 (shut_bool Try.underlying4 _), (trodAll_cons_mk (shut_int Try.underlying3 w0) (trodAll_cons_mk (Below.trod laidOut (by kernel_rfl) (of_decide_eq_true (by kernel_rfl)) k1 bel lt1) trodAll_mk0)), rfl, bel.frame _, fun h => by cases h⟩

theorem over : Rows.poolOrderRow.holds Try.pinned (OpenSpec.ofChange Rows.poolOrderSpec) :=
  OpenClaim.holds_of_wide 3 Try.f3 rfl rfl rfl rfl rfl rfl rfl ⟨rfl, rfl, rfl, rfl, rfl⟩ rfl rfl rfl rfl rfl (by kernel_rfl) Try.func3 (by kernel_rfl)
    (of_decide_eq_true (by kernel_rfl)) (by unfold Func.isWrapper; first | (rw [if_pos (by decide +kernel)]; kernel_rfl) | (rw [if_neg (by decide +kernel)]; exact ⟨rfl, rfl⟩))
    (fun os started H enc _ => lifted os started H enc)

/-- The statement. -/
theorem proved : Rows.PoolOrderSaid := over
end Go.Proofs.Ytcecfageijkifaa.poolOrder
