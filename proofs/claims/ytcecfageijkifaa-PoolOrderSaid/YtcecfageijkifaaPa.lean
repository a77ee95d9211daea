/- The program's pool: the small calls. -/
import Derived.Test.YtcecfageijkifaaPm
namespace Go.Proofs.Ytcecfageijkifaa.Po
open Go.ChangeShapes Go.WideShapes Go.ChangeAt Go.RowKit
set_option linter.unusedVariables false
set_option linter.unusedSimpArgs false
set_option maxRecDepth 100000
theorem neq_r (g : Nat) (a b : Array Value) (w : World) : (binOp .neq 57 (.func (.func g) a b) .nilFunc).run Try.prog w = .ok (.bool true) w := rfl
theorem eq_r (g : Nat) (a b : Array Value) (w : World) : (binOp .eql 57 (.func (.func g) a b) .nilFunc).run Try.prog w = .ok (.bool false) w := rfl
theorem eq_w (g : Nat) (a b : Array Value) (w : World) : (binOp .eql 58 (.func (.func g) a b) .nilFunc).run Try.prog w = .ok (.bool false) w := rfl
theorem eq_l (g : Nat) (a b : Array Value) (w : World) : (binOp .eql 59 (.func (.func g) a b) .nilFunc).run Try.prog w = .ok (.bool false) w := rfl
section
variable {Ω : Type} {h : Host Ω} {S : Nat → Prop} {p F T : Nat} {bk : Int → Option Nat} {tf : Int → Option (Nat × Nat)} {A : Pl} {w : World}
theorem PM.cells (hp : PM S h.rv h.wv h.lv p F T bk tf A w) : w.cell? ⟨p, 0, none⟩ = some (.func (.func h.gr) h.rpre h.rcap) ∧ w.cell? ⟨p, 1, none⟩ = some (.func (.func h.gw) h.wpre h.wcap) ∧ w.cell? ⟨p, 2, none⟩ = some (.func (.func h.gl) h.lpre h.lcap) ∧ w.cell? ⟨p, 3, none⟩ = some (.int .i64 A.most) ∧ w.cell? ⟨p, 4, none⟩ = some (.map (some F)) ∧ w.cell? ⟨p, 5, none⟩ = some (.map (some T)) ∧ w.cell? ⟨p, 6, none⟩ = some (.int .i64 A.acc) :=
  ⟨hp.box.cell 0, hp.box.cell 1, hp.box.cell 2, hp.box.cell 3, hp.box.cell 4, hp.box.cell 5, hp.box.cell 6⟩
theorem made_yes (hp : PM S h.rv h.wv h.lv p F T bk tf A w) : Calls Try.prog 33 #[ptr p] w fun e w' => e = .returned (.bool true) ∧ w' = w := by
  obtain ⟨h0, h1, h2, h3, h4, h5, h6⟩ := hp.cells
  clear hp
  have n1 := fun w => neq_r h.gr h.rpre h.rcap w
  go_enter Try.func33, Try.ntmps33
  go_wp2_with fail
  go_ret
  exact ⟨rfl, rfl⟩
theorem made_nil (w : World) : Calls Try.prog 33 #[.pointer none] w fun e w' => e = .returned (.bool false) ∧ w' = w := by
  go_enter Try.func33, Try.ntmps33
  go_wp2_with fail
  go_ret
  exact ⟨rfl, rfl⟩
/-- The pool's answer to a look into its frames. -/
theorem PM.look (hp : PM S h.rv h.wv h.lv p F T bk tf A w) {k : Int} (hk : rng k) : (Instr.lookup 60 (.map (some F)) (.int .i64 k) false).run Try.prog w = .ok (vP (bk k)) w := by
  obtain ⟨v, ps, h1, h2⟩ := hp.frm.look Try.underlying60 (z := .pointer none) (Try.zeroValue65 w) rfl hk
  rw [h1, Rp_inv h2]
theorem PM.time (hp : PM S h.rv h.wv h.lv p F T bk tf A w) {k : Int} (hk : rng k) : (Instr.lookup 61 (.map (some T)) (.int .i64 k) false).run Try.prog w = .ok (vT (A.tm k)) w := by
  obtain ⟨v, ps, h1, h2⟩ := hp.tms.look Try.underlying61 (z := vT (0, 0)) (Try.zeroValue79 w) rfl hk
  rw [h1, Rt_inv h2, hp.tmf]
theorem PM.frame (hp : PM S h.rv h.wv h.lv p F T bk tf A w) {k : Int} {b : Nat} (hb : bk k = some b) : w.cell? ⟨b, 0, none⟩ = some (.string (str (A.fr k).b)) ∧ w.cell? ⟨b, 1, none⟩ = some (.bool (A.fr k).d) ∧ w.cell? ⟨b, 2, none⟩ = some (.int .i64 (A.fr k).since) ∧ w.cell? ⟨b, 3, none⟩ = some (.int .i64 (A.fr k).lsn) :=
  ⟨(hp.fr k b hb).cell 0, (hp.fr k b hb).cell 1, (hp.fr k b hb).cell 2, (hp.fr k b hb).cell 3⟩
/-- Clean. -/
theorem clean_is (hp : PM S h.rv h.wv h.lv p F T bk tf A w) {k : Int} (hk : rng k) : Calls Try.prog 28 #[ptr p, .int .i64 k] w fun e w' => e = .returned (.bool (isClean A k)) ∧ w' = w := by
  obtain ⟨h0, h1, h2, h3, h4, h5, h6⟩ := hp.cells
  have lk := hp.look hk
  cases hb : bk k with
  | none =>
    rw [hb] at lk
    have hn : k ∉ A.ks := fun h' => by have := (hp.iff k).2 h'; rw [hb] at this; cases this
    have e1 : isClean A k = true := by simp [isClean, hn]
    rw [e1]
    simp only [vP] at lk
    clear hp hb hn e1
    go_enter Try.func28, Try.ntmps28
    go_wp2_with fail
    go_ret
    exact ⟨rfl, rfl⟩
  | some b =>
    rw [hb] at lk
    have hn : k ∈ A.ks := (hp.iff k).1 (by rw [hb]; rfl)
    have e1 : isClean A k = !(A.fr k).d := by simp [isClean, hn]
    rw [e1]
    obtain ⟨f0, f1, f2, f3⟩ := hp.frame hb
    simp only [vP] at lk
    generalize (A.fr k).d = d at f1 ⊢
    clear hp hb hn e1
    go_enter Try.func28, Try.ntmps28
    go_wp2_with fail
    go_ret
    exact ⟨by first | rfl | simp, rfl⟩
theorem clean_nil (w : World) (k : Int) : Calls Try.prog 28 #[.pointer none, .int .i64 k] w fun e w' => e = .returned (.bool true) ∧ w' = w := by
  go_enter Try.func28, Try.ntmps28
  go_wp2_with fail
  go_ret
  exact ⟨rfl, rfl⟩
end
end Go.Proofs.Ytcecfageijkifaa.Po
