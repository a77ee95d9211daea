/- The program's pool: access; Flush; empty. -/
import Derived.Test.YtcecfageijkifaaPa
namespace Go.Proofs.Ytcecfageijkifaa.Po
open Go.ChangeShapes Go.WideShapes Go.ChangeAt Go.RowKit
set_option linter.unusedVariables false
set_option linter.unusedSimpArgs false
set_option maxRecDepth 100000
theorem last_field (a b : Int) (w : World) : (Instr.field 79 (.agg #[.int .i64 a, .int .i64 b]) 1).run Try.prog w = .ok (.int .i64 b) w := rfl
section
variable {Ω : Type} {h : Host Ω} {S : Nat → Prop} {p F T : Nat} {bk : Int → Option Nat} {tf : Int → Option (Nat × Nat)} {A : Pl} {w : World}
/-- access. -/
theorem access_is (hp : PM S h.rv h.wv h.lv p F T bk tf A w) (ha : A.acc < 1000000) {k : Int} (hk : rng k) : Calls Try.prog 35 #[ptr p, .int .i64 k] w fun e w' => e = .returned (.tuple #[]) ∧ PM S h.rv h.wv h.lv p F T bk (updI tf k (some ((A.tm k).2, A.acc + 1))) (accP A k) w' ∧ Tn S w w' := by
  obtain ⟨h0, h1, h2, h3, h4, h5, h6⟩ := hp.cells
  have hfz := hp.box.free 6
  have ew : IntKind.i64.wrap ((A.acc : Int) + 1) = (A.acc : Int) + 1 := IntWalk.i64_in _ (by omega)
  have HP := Lib.hid hp
  clear hp
  go_enter Try.func35, Try.ntmps35
  go_upto_region 1 with fail
  have t1 := Lib.hid (Tn.setCell (S := S) w ⟨p, 6, none⟩ (.int .i64 ((A.acc : Int) + 1)) HP.out.sp)
  have t0 := Lib.hid (Tn.setCell (S := fun i => i = p) w ⟨p, 6, none⟩ (.int .i64 ((A.acc : Int) + 1)) rfl)
  have b1 := Lib.hid (show Bx (w.setCell ⟨p, 6, none⟩ (.int .i64 ((A.acc : Int) + 1))) p #[h.rv, h.wv, h.lv, .int .i64 A.most, .map (some F), .map (some T), .int .i64 ((A.acc : Int) + 1)] 63 from HP.out.box.set 6 _)
  clear h0 h1 h2 h3 h4 h5 h6 hfz
  generalize w.setCell ⟨p, 6, none⟩ (.int .i64 ((A.acc : Int) + 1)) = w1 at *
  have m1 := Lib.hid (HP.out.tms.kept t0.out (fun e => bx_map HP.out.box HP.out.tms e.symm))
  have m2 := Lib.hid (HP.out.frm.kept t0.out (fun e => bx_map HP.out.box HP.out.frm e.symm))
  have h5 : w1.cell? ⟨p, 5, none⟩ = some (.map (some T)) := b1.out.cell 5
  have h6 : w1.cell? ⟨p, 6, none⟩ = some (.int .i64 ((A.acc : Int) + 1)) := b1.out.cell 6
  have d5 : w1.drew.cell? ⟨p, 5, none⟩ = some (.map (some T)) := b1.out.cell 5
  have d6 : w1.drew.cell? ⟨p, 6, none⟩ = some (.int .i64 ((A.acc : Int) + 1)) := b1.out.cell 6
  have lk : (Instr.lookup 61 (.map (some T)) (.int .i64 k) false).run Try.prog w1.drew = .ok (.agg #[.int .i64 ((A.tm k).1 : Int), .int .i64 ((A.tm k).2 : Int)]) w1.drew := by
    obtain ⟨v, ps, q1, q2⟩ := (MapI.kept m1.out (Tn.drew (fun i => False) w1) (fun e => e)).look Try.underlying61 (z := vT (0, 0)) (Try.zeroValue79 _) rfl hk
    rw [q1, Rt_inv q2, HP.out.tmf]; rfl
  have lf := fun w => last_field ((A.tm k).1 : Int) ((A.tm k).2 : Int) w
  have m3 := Lib.hid (MapI.kept m1.out (Tn.drew (fun i => False) w1) (fun e => e))
  obtain ⟨w3, q1, q2, q3⟩ := MapI.put m3.out Try.underlying61 (by unfold maxLen; omega) hk (Rt_mk ((A.tm k).2, A.acc + 1))
  have t2 := Lib.hid (t1.out.trans ((Tn.drew S w1).trans (Tn.of_grown q3 (fun i hi => by cases hi; exact HP.out.sT))))
  have M1 := Lib.hid q2
  have M2 := Lib.hid (MapI.grown (MapI.kept m2.out (Tn.drew (fun i => False) w1) (fun e => e)) q3 (fun e => by cases e; exact HP.out.hFT rfl))
  have B1 := Lib.hid (show Bx w3 p _ _ from (Bx.drew b1.out).grown q3 (fun e => bx_map b1.out m1.out (by cases e; rfl)))
  have FR := Lib.hid (fun (j : Int) (b : Nat) (hb : bk j = some b) => show Bx w3 b (fcs (A.fr j)) 71 from
    (Bx.drew (t0.out.bx (HP.out.fr j b hb) (fun e => bx_type (HP.out.fr j b hb) HP.out.box (by decide) e))).grown q3 (fun e => bx_map (HP.out.fr j b hb) HP.out.tms (by cases e; rfl)))
  simp only [vT] at q1
  clear q2 q3 m1 m2 m3 t0 t1 b1
  go_still_tail 17, (by kernel_rfl)
  change wpList _ _ _ _ _ w1.drew
  have q4 : (Instr.mapUpdate 61 (.map (some T)) (.int .i64 k) (.agg #[.int .i64 ((A.tm k).2 : Int), .int .i64 ((A.acc : Int) + 1)])).run Try.prog w1.drew = .ok () w3 := q1
  clear q1
  generalize w1.drew = w2 at *
  go_wp2_with fail
  go_end0
  refine ⟨rfl, ⟨B1.out, M2.out, M1.out, fun j => ?_, FR.out, HP.out.iff, HP.out.inj, HP.out.hFT, HP.out.sp, HP.out.sF, HP.out.sT, HP.out.sb, fun i hi => Nat.lt_of_lt_of_le (HP.out.lt i hi) t2.out.size⟩, t2.out⟩
  by_cases hj : j = k
  · subst hj
    simp [updI, accP, upd, tz]
  · simp [updI, accP, upd, hj]
    exact HP.out.tmf j
end
end Go.Proofs.Ytcecfageijkifaa.Po
