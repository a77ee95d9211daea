/- The program's pool: which page goes first. -/
import Derived.Test.YtcecfageijkifaaPd
import Derived.BigRegion
import Derived.LoopN
import Derived.StillTailTactics
namespace Go.Proofs.Ytcecfageijkifaa.Po
open Go.ChangeShapes Go.WideShapes Go.ChangeAt Go.RowKit
set_option linter.unusedVariables false
set_option linter.unusedSimpArgs false
set_option maxRecDepth 100000
def cmpI (x y : Int) : Int := if x < y then -1 else if y < x then 1 else 0
theorem cmp_is (x y : Int) (w : World) : Calls Try.prog 49 #[.int .i64 x, .int .i64 y] w fun e w' => e = .returned (.int .i64 (cmpI x y)) ∧ w' = w := by
  have nn : ∀ (x : Int) (w : World), Calls Try.prog 54 #[.int .i64 x] w fun e w' => e = .returned (.bool false) ∧ w' = w := by
    intro x w
    go_enter Try.func54, Try.ntmps54
    go_wp2_with fail
    go_ret
    exact ⟨by simp, rfl⟩
  go_enter Try.func49, Try.ntmps49
  go_wp2_with fail
  refine (nn _ _).mono ?_; rintro e w1 ⟨rfl, rfl⟩
  go_wp2_with fail
  refine (nn _ _).mono ?_; rintro e w1 ⟨rfl, rfl⟩
  by_cases h1 : x < y
  · go_wp2_with fail
    go_ret
    exact ⟨by simp [cmpI, h1], rfl⟩
  · by_cases h2 : y < x
    · go_wp2_with fail
      go_ret
      exact ⟨by simp [cmpI, h1, h2], rfl⟩
    · go_wp2_with fail
      go_ret
      have e0 : cmpI x y = 0 := by rw [cmpI, if_neg (by omega), if_neg (by omega)]
      exact ⟨by rw [e0]; rfl, rfl⟩
theorem or_is (x y : Int) (b : Nat) (c : Nat) (w : World) (h0 : w.cell? ⟨b, 0, none⟩ = some (.int .i64 x)) (h1 : w.cell? ⟨b, 1, none⟩ = some (.int .i64 y)) :
    Calls Try.prog 48 #[.slice (some ⟨b, 0, none⟩) 2 c] w fun e w' => e = .returned (.int .i64 (if x = 0 then y else x)) ∧ w' = w := by
  by_cases hx : x = 0
  · subst hx
    by_cases hy : y = 0
    · subst hy
      go_enter Try.func48, Try.ntmps48
      go_wp2_with fail
      refine wp_loop_rounds 4 ?_
      rw [rounds_succ]; go_wp2_with fail
      rw [rounds_succ]; go_wp2_with fail
      rw [rounds_succ]; go_wp2_with fail
      go_ret
      exact ⟨by simp, rfl⟩
    · go_enter Try.func48, Try.ntmps48
      go_wp2_with fail
      refine wp_loop_rounds 4 ?_
      rw [rounds_succ]; go_wp2_with fail
      rw [rounds_succ]; go_wp2_with fail
      go_ret
      exact ⟨by simp, rfl⟩
  · go_enter Try.func48, Try.ntmps48
    go_wp2_with fail
    refine wp_loop_rounds 4 ?_
    rw [rounds_succ]; go_wp2_with fail
    go_ret
    exact ⟨by simp [hx], rfl⟩
theorem cmp_before (A : Pl) (a b : Int) : (if cmpI ((A.tm a).1 : Int) ((A.tm b).1 : Int) = 0 then cmpI ((A.tm a).2 : Int) ((A.tm b).2 : Int) else cmpI ((A.tm a).1 : Int) ((A.tm b).1 : Int)) < 0 ↔ before A a b = true := by
  unfold before cmpI
  rw [decide_eq_true_eq]
  repeat split
  all_goals omega
section
variable {Ω : Type} {h : Host Ω} {S : Nat → Prop} {p F T : Nat} {bk : Int → Option Nat} {tf : Int → Option (Nat × Nat)} {A : Pl} {w : World}
def Held (w u : World) : Prop := Below w.heap.size w u
set_option maxHeartbeats 8000000 in
theorem compare_is (hp : PM S h.rv h.wv h.lv p F T bk tf A w) {a b : Int} (ha : rng a) (hb : rng b) : Calls Try.prog 42 #[ptr p, .int .i64 a, .int .i64 b] w fun e w' => ∃ c : Int, e = .returned (.int .i64 c) ∧ (c < 0 ↔ before A a b = true) ∧ Below w.heap.size w w' := by
  have hc5 : ∀ u, Held w u → u.cell? ⟨p, 5, none⟩ = some (.map (some T)) := fun u hu => (hp.box.held hu).cell 5
  have l1 : ∀ u, Held w u → (Instr.lookup 61 (.map (some T)) (.int .i64 a) false).run Try.prog u = .ok (.agg #[.int .i64 ((A.tm a).1 : Int), .int .i64 ((A.tm a).2 : Int)]) u := fun u hu => (hp.keep (Tn.of_below (S := fun _ => False) hu) (fun i hi hf => hf)).time ha
  have l2 : ∀ u, Held w u → (Instr.lookup 61 (.map (some T)) (.int .i64 b) false).run Try.prog u = .ok (.agg #[.int .i64 ((A.tm b).1 : Int), .int .i64 ((A.tm b).2 : Int)]) u := fun u hu => (hp.keep (Tn.of_below (S := fun _ => False) hu) (fun i hi hf => hf)).time hb
  have r0 : Held w w := Below.refl _ _
  have r1 : ∀ u, Held w u → Held w u.drew := fun u hu => Below.drew hu
  have r2 : ∀ u o, Held w u → Held w (u.alloc o) := fun u o hu => Below.alloc hu hu.size o
  have r3 : ∀ u i v, Held w u → Held w (u.setCell ⟨w.heap.size, i, none⟩ v) := fun u i v hu => Below.setCell (p := ⟨w.heap.size, i, none⟩) hu (Nat.le_refl _) v
  have r4 : ∀ u i v, Held w u → Held w (u.setCell ⟨w.heap.size + 1, i, none⟩ v) := fun u i v hu => Below.setCell (p := ⟨w.heap.size + 1, i, none⟩) hu (Nat.le_succ _) v
  have c0 := hc5 (w).drew (r1 _ r0)
  have a0 := l1 (w).drew (r1 _ r0)
  have b0 := l2 (w).drew (r1 _ r0)
  have c1 := hc5 ((w).alloc (.cells #[.int .i64 0, .int .i64 0] 79)).drew (r1 _ (r2 _ (.cells #[.int .i64 0, .int .i64 0] 79) r0))
  have a1 := l1 ((w).alloc (.cells #[.int .i64 0, .int .i64 0] 79)).drew (r1 _ (r2 _ (.cells #[.int .i64 0, .int .i64 0] 79) r0))
  have b1 := l2 ((w).alloc (.cells #[.int .i64 0, .int .i64 0] 79)).drew (r1 _ (r2 _ (.cells #[.int .i64 0, .int .i64 0] 79) r0))
  have c2 := hc5 (((w).alloc (.cells #[.int .i64 0, .int .i64 0] 79)).alloc (.cells #[.int .i64 0, .int .i64 0] 79)).drew (r1 _ (r2 _ (.cells #[.int .i64 0, .int .i64 0] 79) (r2 _ (.cells #[.int .i64 0, .int .i64 0] 79) r0)))
  have a2 := l1 (((w).alloc (.cells #[.int .i64 0, .int .i64 0] 79)).alloc (.cells #[.int .i64 0, .int .i64 0] 79)).drew (r1 _ (r2 _ (.cells #[.int .i64 0, .int .i64 0] 79) (r2 _ (.cells #[.int .i64 0, .int .i64 0] 79) r0)))
  have b2 := l2 (((w).alloc (.cells #[.int .i64 0, .int .i64 0] 79)).alloc (.cells #[.int .i64 0, .int .i64 0] 79)).drew (r1 _ (r2 _ (.cells #[.int .i64 0, .int .i64 0] 79) (r2 _ (.cells #[.int .i64 0, .int .i64 0] 79) r0)))
  have c3 := hc5 ((w).alloc (.cells #[.int .i64 ((A.tm a).1 : Int), .int .i64 ((A.tm a).2 : Int)] 79)).drew (r1 _ (r2 _ (.cells #[.int .i64 ((A.tm a).1 : Int), .int .i64 ((A.tm a).2 : Int)] 79) r0))
  have a3 := l1 ((w).alloc (.cells #[.int .i64 ((A.tm a).1 : Int), .int .i64 ((A.tm a).2 : Int)] 79)).drew (r1 _ (r2 _ (.cells #[.int .i64 ((A.tm a).1 : Int), .int .i64 ((A.tm a).2 : Int)] 79) r0))
  have b3 := l2 ((w).alloc (.cells #[.int .i64 ((A.tm a).1 : Int), .int .i64 ((A.tm a).2 : Int)] 79)).drew (r1 _ (r2 _ (.cells #[.int .i64 ((A.tm a).1 : Int), .int .i64 ((A.tm a).2 : Int)] 79) r0))
  have c4 := hc5 (((w).alloc (.cells #[.int .i64 ((A.tm a).1 : Int), .int .i64 ((A.tm a).2 : Int)] 79)).alloc (.cells #[.int .i64 0, .int .i64 0] 79)).drew (r1 _ (r2 _ (.cells #[.int .i64 0, .int .i64 0] 79) (r2 _ (.cells #[.int .i64 ((A.tm a).1 : Int), .int .i64 ((A.tm a).2 : Int)] 79) r0)))
  have a4 := l1 (((w).alloc (.cells #[.int .i64 ((A.tm a).1 : Int), .int .i64 ((A.tm a).2 : Int)] 79)).alloc (.cells #[.int .i64 0, .int .i64 0] 79)).drew (r1 _ (r2 _ (.cells #[.int .i64 0, .int .i64 0] 79) (r2 _ (.cells #[.int .i64 ((A.tm a).1 : Int), .int .i64 ((A.tm a).2 : Int)] 79) r0)))
  have b4 := l2 (((w).alloc (.cells #[.int .i64 ((A.tm a).1 : Int), .int .i64 ((A.tm a).2 : Int)] 79)).alloc (.cells #[.int .i64 0, .int .i64 0] 79)).drew (r1 _ (r2 _ (.cells #[.int .i64 0, .int .i64 0] 79) (r2 _ (.cells #[.int .i64 ((A.tm a).1 : Int), .int .i64 ((A.tm a).2 : Int)] 79) r0)))
  have c5 := hc5 (((w).alloc (.cells #[.int .i64 0, .int .i64 0] 79)).alloc (.cells #[.int .i64 ((A.tm a).1 : Int), .int .i64 ((A.tm a).2 : Int)] 79)).drew (r1 _ (r2 _ (.cells #[.int .i64 ((A.tm a).1 : Int), .int .i64 ((A.tm a).2 : Int)] 79) (r2 _ (.cells #[.int .i64 0, .int .i64 0] 79) r0)))
  have a5 := l1 (((w).alloc (.cells #[.int .i64 0, .int .i64 0] 79)).alloc (.cells #[.int .i64 ((A.tm a).1 : Int), .int .i64 ((A.tm a).2 : Int)] 79)).drew (r1 _ (r2 _ (.cells #[.int .i64 ((A.tm a).1 : Int), .int .i64 ((A.tm a).2 : Int)] 79) (r2 _ (.cells #[.int .i64 0, .int .i64 0] 79) r0)))
  have b5 := l2 (((w).alloc (.cells #[.int .i64 0, .int .i64 0] 79)).alloc (.cells #[.int .i64 ((A.tm a).1 : Int), .int .i64 ((A.tm a).2 : Int)] 79)).drew (r1 _ (r2 _ (.cells #[.int .i64 ((A.tm a).1 : Int), .int .i64 ((A.tm a).2 : Int)] 79) (r2 _ (.cells #[.int .i64 0, .int .i64 0] 79) r0)))
  clear hp hc5 l1 l2 r0 r1 r2 r3 r4
  go_enter Try.func42, Try.ntmps42
  go_upto_region 1 with fail
  go_region
  all_goals first
    | (clear c0 a0 b0 c1 a1 b1 c2 a2 b2 c3 a3 b3 c4 a4 b4 c5 a5 b5
       have r1 := Lib.hid (show Below w.heap.size w (((w.alloc (.cells #[.int .i64 ((A.tm a).1 : Int), .int .i64 ((A.tm a).2 : Int)] 79)).alloc (.cells #[.int .i64 ((A.tm b).1 : Int), .int .i64 ((A.tm b).2 : Int)] 79)).drew) from (((Below.refl w.heap.size w).alloc (Nat.le_refl _) _).alloc (by rw [World.size_alloc]; omega) _).drew)
       have x0 : (((w.alloc (.cells #[.int .i64 ((A.tm a).1 : Int), .int .i64 ((A.tm a).2 : Int)] 79)).alloc (.cells #[.int .i64 ((A.tm b).1 : Int), .int .i64 ((A.tm b).2 : Int)] 79)).drew).drew.cell? ⟨w.heap.size, 0, none⟩ = some (.int .i64 ((A.tm a).1 : Int)) := by simp
       have x1 : (((w.alloc (.cells #[.int .i64 ((A.tm a).1 : Int), .int .i64 ((A.tm a).2 : Int)] 79)).alloc (.cells #[.int .i64 ((A.tm b).1 : Int), .int .i64 ((A.tm b).2 : Int)] 79)).drew).drew.cell? ⟨w.heap.size, 1, none⟩ = some (.int .i64 ((A.tm a).2 : Int)) := by simp
       have y0 : (((w.alloc (.cells #[.int .i64 ((A.tm a).1 : Int), .int .i64 ((A.tm a).2 : Int)] 79)).alloc (.cells #[.int .i64 ((A.tm b).1 : Int), .int .i64 ((A.tm b).2 : Int)] 79)).drew).drew.cell? ⟨(w.heap.size + 1), 0, none⟩ = some (.int .i64 ((A.tm b).1 : Int)) := by simp
       have y1 : (((w.alloc (.cells #[.int .i64 ((A.tm a).1 : Int), .int .i64 ((A.tm a).2 : Int)] 79)).alloc (.cells #[.int .i64 ((A.tm b).1 : Int), .int .i64 ((A.tm b).2 : Int)] 79)).drew).drew.cell? ⟨(w.heap.size + 1), 1, none⟩ = some (.int .i64 ((A.tm b).2 : Int)) := by simp
       generalize ((w.alloc (.cells #[.int .i64 ((A.tm a).1 : Int), .int .i64 ((A.tm a).2 : Int)] 79)).alloc (.cells #[.int .i64 ((A.tm b).1 : Int), .int .i64 ((A.tm b).2 : Int)] 79)).drew = W at *
       go_upto_region 2 with fail
       go_still_tail 10, (by kernel_rfl)
       still_call (cmp_is _ _ _)
       repeat still_step
       still_call (cmp_is _ _ _)
       repeat still_step
       refine wpStill_nil ?_
       change wpList _ _ _ _ _ W.drew
       have R1 := Lib.hid (r1.out.drew)
       clear r1 x0 x1 y0 y1
       generalize W.drew = W1 at *
       go_wp2_with fail
       obtain ⟨C, hC⟩ : ∃ C, C = (if cmpI ((A.tm a).1 : Int) ((A.tm b).1 : Int) = 0 then cmpI ((A.tm a).2 : Int) ((A.tm b).2 : Int) else cmpI ((A.tm a).1 : Int) ((A.tm b).1 : Int)) := ⟨_, rfl⟩
       have CB := cmp_before A a b
       rw [← hC] at CB
       have OR := fun (u : World) (k0 : u.cell? ⟨W1.heap.size, 0, none⟩ = some (.int .i64 (cmpI ((A.tm a).1 : Int) ((A.tm b).1 : Int)))) (k1 : u.cell? ⟨W1.heap.size, 1, none⟩ = some (.int .i64 (cmpI ((A.tm a).2 : Int) ((A.tm b).2 : Int)))) => or_is _ _ W1.heap.size 2 u k0 k1
       rw [← hC] at OR
       clear hC
       refine (OR _ (by simp) (by simp)).mono ?_; rintro e w2 ⟨rfl, rfl⟩
       go_wp2_with fail
       go_ret
       exact ⟨_, rfl, CB, R1.out.alloc R1.out.size _⟩)
    | (clear c0 a0 b0 c1 a1 b1 c2 a2 b2 c3 a3 b3 c4 a4 b4 c5 a5 b5
       have r1 := Lib.hid (show Below w.heap.size w (((w.alloc (.cells #[.int .i64 ((A.tm b).1 : Int), .int .i64 ((A.tm b).2 : Int)] 79)).alloc (.cells #[.int .i64 ((A.tm a).1 : Int), .int .i64 ((A.tm a).2 : Int)] 79)).drew) from (((Below.refl w.heap.size w).alloc (Nat.le_refl _) _).alloc (by rw [World.size_alloc]; omega) _).drew)
       have x0 : (((w.alloc (.cells #[.int .i64 ((A.tm b).1 : Int), .int .i64 ((A.tm b).2 : Int)] 79)).alloc (.cells #[.int .i64 ((A.tm a).1 : Int), .int .i64 ((A.tm a).2 : Int)] 79)).drew).drew.cell? ⟨(w.heap.size + 1), 0, none⟩ = some (.int .i64 ((A.tm a).1 : Int)) := by simp
       have x1 : (((w.alloc (.cells #[.int .i64 ((A.tm b).1 : Int), .int .i64 ((A.tm b).2 : Int)] 79)).alloc (.cells #[.int .i64 ((A.tm a).1 : Int), .int .i64 ((A.tm a).2 : Int)] 79)).drew).drew.cell? ⟨(w.heap.size + 1), 1, none⟩ = some (.int .i64 ((A.tm a).2 : Int)) := by simp
       have y0 : (((w.alloc (.cells #[.int .i64 ((A.tm b).1 : Int), .int .i64 ((A.tm b).2 : Int)] 79)).alloc (.cells #[.int .i64 ((A.tm a).1 : Int), .int .i64 ((A.tm a).2 : Int)] 79)).drew).drew.cell? ⟨w.heap.size, 0, none⟩ = some (.int .i64 ((A.tm b).1 : Int)) := by simp
       have y1 : (((w.alloc (.cells #[.int .i64 ((A.tm b).1 : Int), .int .i64 ((A.tm b).2 : Int)] 79)).alloc (.cells #[.int .i64 ((A.tm a).1 : Int), .int .i64 ((A.tm a).2 : Int)] 79)).drew).drew.cell? ⟨w.heap.size, 1, none⟩ = some (.int .i64 ((A.tm b).2 : Int)) := by simp
       generalize ((w.alloc (.cells #[.int .i64 ((A.tm b).1 : Int), .int .i64 ((A.tm b).2 : Int)] 79)).alloc (.cells #[.int .i64 ((A.tm a).1 : Int), .int .i64 ((A.tm a).2 : Int)] 79)).drew = W at *
       go_upto_region 2 with fail
       go_still_tail 10, (by kernel_rfl)
       still_call (cmp_is _ _ _)
       repeat still_step
       still_call (cmp_is _ _ _)
       repeat still_step
       refine wpStill_nil ?_
       change wpList _ _ _ _ _ W.drew
       have R1 := Lib.hid (r1.out.drew)
       clear r1 x0 x1 y0 y1
       generalize W.drew = W1 at *
       go_wp2_with fail
       obtain ⟨C, hC⟩ : ∃ C, C = (if cmpI ((A.tm a).1 : Int) ((A.tm b).1 : Int) = 0 then cmpI ((A.tm a).2 : Int) ((A.tm b).2 : Int) else cmpI ((A.tm a).1 : Int) ((A.tm b).1 : Int)) := ⟨_, rfl⟩
       have CB := cmp_before A a b
       rw [← hC] at CB
       have OR := fun (u : World) (k0 : u.cell? ⟨W1.heap.size, 0, none⟩ = some (.int .i64 (cmpI ((A.tm a).1 : Int) ((A.tm b).1 : Int)))) (k1 : u.cell? ⟨W1.heap.size, 1, none⟩ = some (.int .i64 (cmpI ((A.tm a).2 : Int) ((A.tm b).2 : Int)))) => or_is _ _ W1.heap.size 2 u k0 k1
       rw [← hC] at OR
       clear hC
       refine (OR _ (by simp) (by simp)).mono ?_; rintro e w2 ⟨rfl, rfl⟩
       go_wp2_with fail
       go_ret
       exact ⟨_, rfl, CB, R1.out.alloc R1.out.size _⟩)
end
end Go.Proofs.Ytcecfageijkifaa.Po
