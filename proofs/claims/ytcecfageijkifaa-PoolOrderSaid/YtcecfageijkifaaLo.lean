/- What the small laws' pools read and write. -/
import Derived.Test.YtcecfageijkifaaAl
namespace Go.Proofs.Ytcecfageijkifaa.Po
open Go.ChangeShapes Go.WideShapes Go.ChangeAt Go.RowKit
set_option linter.unusedVariables false
set_option linter.unusedSimpArgs false
set_option maxRecDepth 100000
/-- Functions without a state. -/
def hostC (gr gw gl : Nat) (b : BA) : Host Unit where
  gr := gr
  gw := gw
  gl := gl
  rpre := #[]
  rcap := #[]
  wpre := #[]
  wcap := #[]
  lpre := #[]
  lcap := #[]
  rdF := fun o _ => ((b, 0), o)
  wrF := fun o _ _ => (0, o)
  lgF := fun o _ => (0, o)
  M := fun S _ _ => ∀ i, ¬ S i
  ok := fun _ _ => True
theorem hostC_good {gr gw gl : Nat} {b : BA} (hb : b.length ≤ 1000) (er : ∀ args w, (callFunc gr args).run Try.prog w = .ok (.enter gr args) w) (ew : ∀ args w, (callFunc gw args).run Try.prog w = .ok (.enter gw args) w) (el : ∀ args w, (callFunc gl args).run Try.prog w = .ok (.enter gl args) w)
    (R : ∀ w (k : Int), Calls Try.prog gr #[.int .i64 k] w fun e w' => e = .returned (.tuple #[.string (str b), .int .i64 0]) ∧ w' = w) (W : ∀ w (k : Int) (s : ByteArray), Calls Try.prog gw #[.int .i64 k, .string s] w fun e w' => e = .returned (.int .i64 0) ∧ w' = w) (L : ∀ w (k : Int), Calls Try.prog gl #[.int .i64 k] w fun e w' => e = .returned (.int .i64 0) ∧ w' = w) : (hostC gr gw gl b).Good where
  er := er
  ew := ew
  el := el
  keep := fun h _ _ => h
  lt := fun h i hi => absurd hi (h i)
  down := fun h => h
  rok := fun h => h
  wok := fun h => h
  lok := fun h => h
  rlen := fun {S w o k} h => by show b.length ≤ _; omega
  read := fun {S w o n k} h _ _ => by
    refine (show Calls Try.prog gr #[.int .i64 k] w _ from R w k).mono ?_
    rintro e w' ⟨rfl, rfl⟩
    exact ⟨rfl, S, h, Tn.refl _ _, fun i hi => .inl hi⟩
  write := fun {S w o n k c} h _ _ _ => by
    refine (show Calls Try.prog gw #[.int .i64 k, .string (str c)] w _ from W w k (str c)).mono ?_
    rintro e w' ⟨rfl, rfl⟩
    exact ⟨rfl, S, h, Tn.refl _ _, fun i hi => .inl hi⟩
  log := fun {S w o n k} h _ _ => by
    refine (show Calls Try.prog gl #[.int .i64 k] w _ from L w k).mono ?_
    rintro e w' ⟨rfl, rfl⟩
    exact ⟨rfl, S, h, Tn.refl _ _, fun i hi => .inl hi⟩
theorem twice_good : (hostC 22 23 24 [112]).Good :=
  hostC_good (by decide) (enters_of Try.func22 (by kernel_rfl) rfl) (enters_of Try.func23 (by kernel_rfl) rfl) (enters_of Try.func24 (by kernel_rfl) rfl)
    (fun w k => by
      go_enter Try.func22, Try.ntmps22
      go_wp2_with fail
      go_ret2
      exact ⟨rfl, rfl⟩)
    (fun w k s => by
      go_enter Try.func23, Try.ntmps23
      go_wp2_with fail
      go_ret
      exact ⟨rfl, rfl⟩)
    (fun w k => by
      go_enter Try.func24, Try.ntmps24
      go_wp2_with fail
      go_ret
      exact ⟨rfl, rfl⟩)
theorem since_good : (hostC 25 26 27 []).Good :=
  hostC_good (by decide) (enters_of Try.func25 (by kernel_rfl) rfl) (enters_of Try.func26 (by kernel_rfl) rfl) (enters_of Try.func27 (by kernel_rfl) rfl)
    (fun w k => by
      go_enter Try.func25, Try.ntmps25
      go_wp2_with fail
      go_ret2
      exact ⟨rfl, rfl⟩)
    (fun w k s => by
      go_enter Try.func26, Try.ntmps26
      go_wp2_with fail
      go_ret
      exact ⟨rfl, rfl⟩)
    (fun w k => by
      go_enter Try.func27, Try.ntmps27
      go_wp2_with fail
      go_ret
      exact ⟨rfl, rfl⟩)
/-- A page cannot be read; it cannot be written while a box says so. -/
def hostF (B : Nat) : Host Bool where
  gr := 29
  gw := 30
  gl := 31
  rpre := #[]
  rcap := #[]
  wpre := #[]
  wcap := #[ptr B]
  lpre := #[]
  lcap := #[]
  rdF := fun o _ => (([], 12), o)
  wrF := fun o _ _ => (if o = true then 10 else 0, o)
  lgF := fun o _ => (0, o)
  M := fun S w o => Bx w B #[.bool o] 4 ∧ ∀ i, S i ↔ i = B
  ok := fun _ _ => True
theorem fails_good (B : Nat) : (hostF B).Good where
  er := enters_of Try.func29 (by kernel_rfl) rfl
  ew := enters_of Try.func30 (by kernel_rfl) rfl
  el := enters_of Try.func31 (by kernel_rfl) rfl
  keep := fun h t hs => ⟨t.bx h.1 (hs _ ((h.2 _).2 rfl)), h.2⟩
  lt := fun h i hi => by rw [(h.2 i).1 hi]; exact h.1.lt
  down := fun h => h
  rok := fun h => h
  wok := fun h => h
  lok := fun h => h
  rlen := fun {S w o k} h => by show ([] : BA).length ≤ _; simp
  read := fun {S w o n k} h _ _ => by
    refine (show Calls Try.prog 29 #[.int .i64 k] w (fun e w' => e = .returned (.tuple #[.string ⟨#[]⟩, .int .i64 12]) ∧ w' = w) from by
      go_enter Try.func29, Try.ntmps29
      go_wp2_with fail
      go_ret2
      exact ⟨rfl, rfl⟩).mono ?_
    rintro e w' ⟨rfl, rfl⟩
    exact ⟨rfl, S, h, Tn.refl _ _, fun i hi => .inl hi⟩
  write := fun {S w o n k c} h _ _ _ => by
    have c0 : w.cell? ⟨B, 0, none⟩ = some (.bool o) := h.1.cell 0
    refine (show Calls Try.prog 30 #[.int .i64 k, .string (str c), ptr B] w (fun e w' => e = .returned (.int .i64 ((if o = true then 10 else 0 : Nat) : Int)) ∧ w' = w) from by
      cases o with
      | true =>
        go_enter Try.func30, Try.ntmps30
        go_wp2_with fail
        go_ret
        exact ⟨rfl, rfl⟩
      | false =>
        go_enter Try.func30, Try.ntmps30
        go_wp2_with fail
        go_ret
        exact ⟨rfl, rfl⟩).mono ?_
    rintro e w' ⟨rfl, rfl⟩
    exact ⟨rfl, S, h, Tn.refl _ _, fun i hi => .inl hi⟩
  log := fun {S w o n k} h _ _ => by
    refine (show Calls Try.prog 31 #[.int .i64 k] w (fun e w' => e = .returned (.int .i64 0) ∧ w' = w) from by
      go_enter Try.func31, Try.ntmps31
      go_wp2_with fail
      go_ret
      exact ⟨rfl, rfl⟩).mono ?_
    rintro e w' ⟨rfl, rfl⟩
    exact ⟨rfl, S, h, Tn.refl _ _, fun i hi => .inl hi⟩
/-! PoolFails, plainly. -/
section
variable (B : Nat) (k : Int) (b : BA)
def fA1 : Pl := accP (dirtP (insP (newP 1) k []) k b 1) k
theorem f_get : getP (hostF B) (newP 1) true k = (([], 12), newP 1, true) := by simp [getP, newP, hostF]
theorem f_set : setP (hostF B) (newP 1) true k b 1 = (0, fA1 k b, true) := by simp [setP, provP, newP, hostF, fA1]
theorem f_ks : (fA1 k b).ks = [k] := rfl
theorem f_d : ((fA1 k b).fr k).d = true := by simp [fA1, accP, dirtP, upd]
theorem f_b : ((fA1 k b).fr k).b = b := by simp [fA1, accP, dirtP, upd]
theorem f_flush : flushP (hostF B) (fA1 k b) true k = (10, fA1 k b, true) := by
  unfold flushP
  rw [if_pos ⟨by rw [f_ks]; simp, f_d k b⟩]
  simp [hostF]
theorem f_clean : isClean (fA1 k b) k = false := clean_false (by rw [f_ks]; simp) (f_d k b)
theorem f_set2 (c : BA) : setP (hostF B) (fA1 k b) true (k + 1) c 2 = (10, fA1 k b, true) := by
  have hv : victim (fA1 k b) = k := by unfold victim; rw [f_ks]; rfl
  have h1 : provP (hostF B) (fA1 k b) true (k + 1) [] = (10, fA1 k b, true) := by
    unfold provP
    rw [if_neg (by rw [f_ks]; simp; omega), if_neg (by rw [f_ks]; show ¬ ([k].length < 1); simp), hv]
    unfold emptyP
    rw [f_flush]
    simp
  unfold setP
  rw [h1]
  simp
theorem f_dirty : dirtyK (fA1 k b) = [k] := by unfold dirtyK; rw [f_ks]; simp [f_d]
theorem f_all : allP (hostF B) (fA1 k b) true = (10, fA1 k b, true) := by
  unfold allP
  rw [f_dirty]
  unfold allL
  rw [f_flush]
  simp
def fA2 : Pl := accP (fA1 k b) k
theorem f_get2 : getP (hostF B) (fA1 k b) true k = ((b, 0), fA2 k b, true) := by
  unfold getP
  rw [if_pos (by rw [f_ks]; simp), f_b]; rfl
theorem f2_ks : (fA2 k b).ks = [k] := rfl
theorem f2_d : ((fA2 k b).fr k).d = true := f_d k b
def fA3 : Pl := cleanP (fA2 k b) k
theorem f_flush2 : flushP (hostF B) (fA2 k b) false k = (0, fA3 k b, false) := by
  unfold flushP
  rw [if_pos ⟨by rw [f2_ks]; simp, f2_d k b⟩]
  simp [hostF, fA3]
theorem f_all2 : allP (hostF B) (fA2 k b) false = (0, fA3 k b, false) := by
  unfold allP
  rw [show dirtyK (fA2 k b) = [k] from f_dirty k b]
  unfold allL
  rw [f_flush2]
  simp [allL]
theorem f3_ks : (fA3 k b).ks = [k] := rfl
theorem f3_d : ((fA3 k b).fr k).d = false := by simp [fA3, cleanP, upd]
theorem f_clean3 : isClean (fA3 k b) k = true := by simp [isClean, f3_d]
theorem f_set3 (c : BA) : (setP (hostF B) (fA3 k b) false (k + 1) c 2).1 = 0 := by
  have hv : victim (fA3 k b) = k := by unfold victim; rw [f3_ks]; rfl
  have h0 : flushP (hostF B) (fA3 k b) false k = (0, fA3 k b, false) := by
    unfold flushP
    rw [if_neg (by rw [f3_d]; simp)]
  have h1 : (provP (hostF B) (fA3 k b) false (k + 1) []).1 = 0 := by
    unfold provP
    rw [if_neg (by rw [f3_ks]; simp; omega), if_neg (by rw [f3_ks]; show ¬ ([k].length < 1); simp), hv]
    unfold emptyP
    rw [h0]
    simp
  unfold setP
  rw [if_neg (by rw [h1]; simp)]
end
theorem f_box {B C p : Nat} {A : Pl} {o : Bool} {w : World} (hp : PW (hostF B) C p A o w) : w.cell? ⟨B, 0, none⟩ = some (.bool o) ∧ w.frozen? ⟨B, 0, none⟩ = false := by
  obtain ⟨S, SP, F, T, bk, tf, ⟨_, ⟨SO, h2, _⟩, _⟩, _⟩ := hp
  exact ⟨h2.1.cell 0, h2.1.free 0⟩
theorem f_store {B C p : Nat} {A : Pl} {o o' : Bool} {w : World} (hp : PW (hostF B) C p A o w) : PW (hostF B) C p A o' (w.setCell ⟨B, 0, none⟩ (.bool o')) ∧ Below C w (w.setCell ⟨B, 0, none⟩ (.bool o')) := by
  obtain ⟨S, SP, F, T, bk, tf, ⟨h1, ⟨SO, h2, h3, h4⟩, h5, h6⟩, h7, h8⟩ := hp
  obtain ⟨S', hb, hc⟩ := Bt.host (fails_good B) h1 h3 h4 h5 h6 (w' := w.setCell ⟨B, 0, none⟩ (.bool o')) (o' := o') (SO' := SO) ⟨h2.1.set 0 (.bool o'), h2.2⟩ (Tn.setCell w ⟨B, 0, none⟩ (.bool o') ((h2.2 B).2 rfl)) (fun i hi => .inl hi)
  exact PW.of h7 h8 hb hc
end Go.Proofs.Ytcecfageijkifaa.Po
