/- The contract of Cut. -/
import Derived.Test.YtljegjcajlkgiaaGreatSet
namespace Go.Proofs.YtljegjcajlkgiaaGreat
open Go.ChangeShapes Go.WideShapes Go.ChangeAt Go.RowKit
set_option linter.unusedVariables false
set_option linter.unusedSimpArgs false
set_option maxRecDepth 100000
set_option maxHeartbeats 4000000 in
theorem cut_any (k d x : Int) (b : BA) (q : ByteArray) (hb : b.length ≤ 100000) (w : World) : Calls Tryz.prog 11 #[pv k d x (str b), .string q] w fun e w' => e = .returned (resV (cutP ⟨k, d, x, b⟩ q)) ∧ Below w.heap.size w w' := by
  have RD := Lib.hid (fun w => read_any k d x b hb w)
  have HPS := Lib.hid (cellsP_ok k b)
  have V2 := Lib.hid (fun (h : goodP k b = false) => show resV (cutP ⟨k, d, x, b⟩ q) = .tuple #[.agg #[.int .i64 0, .int .i64 0, .int .i64 0, .string ⟨#[]⟩], .int .i64 2] from by unfold cutP; dsimp only; rw [h]; rfl)
  have V3 := Lib.hid (fun (h : goodP k b = true) (hp : (cutS (cellsP k b) q).length = (cellsP k b).length) => show resV (cutP ⟨k, d, x, b⟩ q) = .tuple #[.agg #[.int .i64 0, .int .i64 0, .int .i64 0, .string ⟨#[]⟩], .int .i64 3] from by unfold cutP; dsimp only; rw [h, if_pos rfl, if_pos hp]; rfl)
  have V0 := Lib.hid (fun (h : goodP k b = true) (hp : ¬ (cutS (cellsP k b) q).length = (cellsP k b).length) => show resV (cutP ⟨k, d, x, b⟩ q) = .tuple #[.agg #[.int .i64 k, .int .i64 d, .int .i64 x, .string (str (bodyOf (cutS (cellsP k b) q)))], .int .i64 0] from by unfold cutP; dsimp only; rw [h, if_pos rfl, if_neg hp]; rfl)
  generalize resV (cutP ⟨k, d, x, b⟩ q) = rv at *
  unfold pv ReadP at *
  generalize cellsP k b = l at *
  generalize goodP k b = g at *
  generalize str b = s at *
  have HL := Lib.hid (put_len HPS.out)
  obtain ⟨m, hm⟩ : ∃ m, l.length = m := ⟨_, rfl⟩
  have HM := Lib.hid hm
  rw [hm] at RD
  clear hm hb
  obtain ⟨W1, hW1⟩ : ∃ W1, W1 = w.alloc (.cells #[.int .i64 k, .int .i64 d, .int .i64 x, .string s] 23) := ⟨_, rfl⟩
  obtain ⟨W3, hW3⟩ : ∃ W3, W3 = W1.alloc (.cells #[.int .i64 0, .int .i64 0, .int .i64 0, .string ⟨#[]⟩] 23) := ⟨_, rfl⟩
  have s1 : W1.heap.size = w.heap.size + 1 := by rw [hW1, World.size_alloc]
  have HX := Lib.hid (show PBox W3 (w.heap.size) k d x s ∧ PBox W3 (w.heap.size + 1) 0 0 0 ⟨#[]⟩ ∧ Below w.heap.size w W3 from by
    have b1 : Below w.heap.size w W1 := by rw [hW1]; exact (Below.refl _ _).alloc (Nat.le_refl _) _
    have b3 : Below W1.heap.size W1 W3 := by rw [hW3]; exact (Below.refl _ _).alloc (Nat.le_refl _) _
    have p1 : PBox W1 w.heap.size k d x s := by rw [hW1]; exact PBox.new _ _ _ _ _
    have p3 : PBox W3 (w.heap.size + 1) 0 0 0 ⟨#[]⟩ := by rw [← s1, hW3]; exact PBox.new _ _ _ _ _
    exact ⟨p1.kept b3, p3, b1.trans (b3.mono (by omega))⟩)
  have HW := Lib.hid (show ((w.alloc (.cells #[.int .i64 k, .int .i64 d, .int .i64 x, .string s] 23)).alloc (.cells #[.int .i64 0, .int .i64 0, .int .i64 0, .string ⟨#[]⟩] 23)) = W3 by rw [hW3, hW1])
  clear hW1 hW3 s1
  go_enter Tryz.func11, Tryz.ntmps11
  go_wp2_with fail
  rw [HW.out]
  obtain ⟨Bp, hBp⟩ : ∃ B, B = w.heap.size := ⟨_, rfl⟩
  obtain ⟨Br, hBr⟩ : ∃ B, B = w.heap.size + 1 := ⟨_, rfl⟩
  have HLE := Lib.hid (show w.heap.size ≤ Bp ∧ w.heap.size ≤ Br ∧ Bp ≠ Br by omega)
  have HX0 := Lib.hid (show PBox W3 Bp k d x s ∧ PBox W3 Br 0 0 0 ⟨#[]⟩ ∧ Below w.heap.size w W3 by rw [hBp, hBr]; exact HX.out)
  rw [← hBr, ← hBp]
  clear HW HX hBp hBr
  have HK := Lib.hid (fun (wa wb : World) (h : PBox wa Bp k d x s ∧ PBox wa Br 0 0 0 ⟨#[]⟩ ∧ Below w.heap.size w wa) (hb : Below wa.heap.size wa wb) => show PBox wb Bp k d x s ∧ PBox wb Br 0 0 0 ⟨#[]⟩ ∧ Below w.heap.size w wb from ⟨h.1.kept hb, h.2.1.kept hb, h.2.2.trans (hb.mono h.2.2.size)⟩)
  refine (RD.out _).mono ?_; rintro e w1 ⟨A, cp, rfl, ho, hb⟩
  have HX1 := Lib.hid (HK.out _ _ HX0.out hb)
  have HC1 := Lib.hid (Own.ces (own_n ho HM.out) HM.out (put_sizes HPS.out) (max_small (by have := HM.out; have := HL.out; omega)))
  clear ho hb HX0 RD
  cases g with
  | false =>
    have HV := Lib.hid (V2.out rfl)
    obtain ⟨⟨r0, r1, r2, r3⟩, f0, f1, f2, f3⟩ := And.intro HX1.out.2.1.cells HX1.out.2.1.free
    go_wp2_with fail
    refine bodyPost_ret (v := .tuple #[.agg #[.int .i64 0, .int .i64 0, .int .i64 0, .string ⟨#[]⟩], .int .i64 2]) (by simp [results, Tryz.results11, go_sem, r0, r1, r2, r3]) rfl ⟨by rw [HV.out], ?_⟩
    exact below_set4 HX1.out.2.2 HLE.out.2.1
  | true =>
    have HV3 := Lib.hid (V3.out rfl)
    have HV0 := Lib.hid (V0.out rfl)
    have CA := Lib.hid (chosen_other (c := cp) q w1 HC1.out HM.out (by have := HM.out; have := HL.out; omega) (put_sizes2 HPS.out) (Nat.le_refl _))
    change Hid (Calls _ _ _ _ fun e w' => NewL (cutS l q) w1 e w') at CA
    unfold NewL at CA
    obtain ⟨n, hn⟩ : ∃ n, (cutS l q).length = n := ⟨_, rfl⟩
    have HN := Lib.hid hn
    rw [hn] at CA
    have hn47 : n ≤ 47 := by rw [← hn]; exact Nat.le_trans (List.length_filter_le _ _) HL.out
    clear hn
    go_wp2_with fail
    refine CA.out.mono ?_; rintro e w2 ⟨A2, c2, rfl, ho, hb⟩
    have HX2 := Lib.hid (HK.out _ _ HX1.out hb)
    have HC2 := Lib.hid (Own.ces (own_n ho HN.out) HN.out (put_sizes (putOk_cut HPS.out q)) (max_small (by omega)))
    clear ho hb HX1 CA HC1 V2 V3 V0
    by_cases hnm : n = m
    · have HV := Lib.hid (HV3.out (by rw [HN.out, HM.out]; exact hnm))
      have e1 : ((n : Int) == (m : Int)) = true := by rw [beq_iff_eq]; omega
      obtain ⟨⟨r0, r1, r2, r3⟩, f0, f1, f2, f3⟩ := And.intro HX2.out.2.1.cells HX2.out.2.1.free
      clear hnm
      go_wp2_with fail
      refine bodyPost_ret (v := .tuple #[.agg #[.int .i64 0, .int .i64 0, .int .i64 0, .string ⟨#[]⟩], .int .i64 3]) (by simp [results, Tryz.results11, go_sem, r0, r1, r2, r3]) rfl ⟨by rw [HV.out], ?_⟩
      exact below_set4 HX2.out.2.2 HLE.out.2.1
    · have HV := Lib.hid (HV0.out (by rw [HN.out, HM.out]; exact hnm))
      have e1 : ((n : Int) == (m : Int)) = false := by rw [beq_eq_false_iff_ne]; omega
      have PU := Lib.hid (put_any (c := c2) w2 HC2.out HN.out (by omega) (Nat.le_refl _))
      unfold putS at PU
      rw [putOk_cut HPS.out q, if_pos rfl] at PU
      generalize str (bodyOf (cutS l q)) = bs at *
      clear hnm HV3 HV0
      go_wp2_with fail
      refine PU.out.mono ?_; rintro e w4 ⟨rfl, hb⟩
      have HX4 := Lib.hid (HK.out _ _ HX2.out hb)
      clear hb PU HX2
      obtain ⟨⟨r0, r1, r2, r3⟩, f0, f1, f2, f3⟩ := And.intro HX4.out.2.1.cells HX4.out.2.1.free
      obtain ⟨⟨p0, p1, p2, p3⟩, pf0, pf1, pf2, pf3⟩ := And.intro HX4.out.1.cells HX4.out.1.free
      have hne : ¬ Bp = Br := HLE.out.2.2
      have hne' : ¬ Br = Bp := fun e => HLE.out.2.2 e.symm
      go_wp2_with fail
      refine bodyPost_ret (v := .tuple #[.agg #[.int .i64 k, .int .i64 d, .int .i64 x, .string bs], .int .i64 0]) (by simp [results, Tryz.results11, go_sem, r0, r1, r2, r3, hne, hne']) rfl ⟨by rw [HV.out], ?_⟩
      exact below_set4 (below_set1 HX4.out.2.2 HLE.out.1) HLE.out.2.1
end Go.Proofs.YtljegjcajlkgiaaGreat
