/- The program's log: At. -/
import Derived.Test.YtnjggoeahaglbaaGreatLwp
namespace Go.Proofs.YtnjggoeahaglbaaGreat.Wa
open Go.ChangeShapes Go.WideShapes Go.ChangeAt Go.RowKit
open Fr
set_option linter.unusedVariables false
set_option linter.unusedSimpArgs false
set_option maxRecDepth 100000
set_option maxHeartbeats 400000 in
theorem last_nil (w : World) : Calls Tryz.prog 28 #[.pointer none] w fun e w' => e = .returned (.int .i64 0) ∧ w = w' := by
  go_enter Tryz.func28, Tryz.ntmps28
  go_wp2_with fail
  go_ret
  exact ⟨rfl, rfl⟩
set_option maxHeartbeats 400000 in
theorem durable_nil (w : World) : Calls Tryz.prog 29 #[.pointer none] w fun e w' => e = .returned (.int .i64 0) ∧ w = w' := by
  go_enter Tryz.func29, Tryz.ntmps29
  go_wp2_with fail
  go_ret
  exact ⟨rfl, rfl⟩
set_option maxHeartbeats 400000 in
theorem left_nil (w : World) : Calls Tryz.prog 30 #[.pointer none] w fun e w' => e = .returned (.int .i64 0) ∧ w = w' := by
  go_enter Tryz.func30, Tryz.ntmps30
  go_wp2_with fail
  go_ret
  exact ⟨rfl, rfl⟩
set_option maxHeartbeats 400000 in
theorem epoch_nil (w : World) : Calls Tryz.prog 32 #[.pointer none] w fun e w' => e = .returned (.int .i64 0) ∧ w = w' := by
  go_enter Tryz.func32, Tryz.ntmps32
  go_wp2_with fail
  go_ret
  exact ⟨rfl, rfl⟩
set_option maxHeartbeats 4000000 in
theorem at_low (pv : Value) (n : Int) (hn : n < 1) (w : World) : Calls Tryz.prog 26 #[pv, .int .i64 n] w fun e w' => e = .returned (.tuple #[.agg #[.int .i64 0, .int .i64 0, .int .i64 0, .int .i64 0, .string ⟨#[]⟩, .bool false, .string ⟨#[]⟩, .string ⟨#[]⟩, .int .i64 0, .int .i64 0, .slice none 0 0, .slice none 0 0, .slice none 0 0, .slice none 0 0], .bool false]) ∧ Below w.heap.size w w' := by
  have HX := Lib.hid (Rc.Bx.new w #[.int .i64 0, .int .i64 0, .int .i64 0, .int .i64 0, .string ⟨#[]⟩, .bool false, .string ⟨#[]⟩, .string ⟨#[]⟩, .int .i64 0, .int .i64 0, .slice none 0 0, .slice none 0 0, .slice none 0 0, .slice none 0 0] 43)
  have HB := Lib.hid ((Below.refl w.heap.size w).alloc (Nat.le_refl _) (.cells #[.int .i64 0, .int .i64 0, .int .i64 0, .int .i64 0, .string ⟨#[]⟩, .bool false, .string ⟨#[]⟩, .string ⟨#[]⟩, .int .i64 0, .int .i64 0, .slice none 0 0, .slice none 0 0, .slice none 0 0, .slice none 0 0] 43))
  go_enter Tryz.func26, Tryz.ntmps26
  go_upto_region 1 with fail
  generalize w.alloc (.cells #[.int .i64 0, .int .i64 0, .int .i64 0, .int .i64 0, .string ⟨#[]⟩, .bool false, .string ⟨#[]⟩, .string ⟨#[]⟩, .int .i64 0, .int .i64 0, .slice none 0 0, .slice none 0 0, .slice none 0 0, .slice none 0 0] 43) = W at *
  have HN := Lib.hid (Rc.below_row (ds := #[.int .i64 0, .int .i64 0, .int .i64 0, .int .i64 0, .string ⟨#[]⟩, .bool false, .string ⟨#[]⟩, .string ⟨#[]⟩, .int .i64 0, .int .i64 0, .slice none 0 0, .slice none 0 0, .slice none 0 0, .slice none 0 0]) HB.out (Nat.le_refl _))
  have hz := HX.out
  clear HB HX
  go_wp2_with (refine wpList_store_row rfl 43 (.tmp 4) (.tmp 14) rfl w.heap.size #[.int .i64 0, .int .i64 0, .int .i64 0, .int .i64 0, .string ⟨#[]⟩, .bool false, .string ⟨#[]⟩, .string ⟨#[]⟩, .int .i64 0, .int .i64 0, .slice none 0 0, .slice none 0 0, .slice none 0 0, .slice none 0 0] rfl rfl 43 _ hz (by kernel_rfl) rfl (by simp [Value.oneCell']) ?_)
  have hy := hz.row #[.int .i64 0, .int .i64 0, .int .i64 0, .int .i64 0, .string ⟨#[]⟩, .bool false, .string ⟨#[]⟩, .string ⟨#[]⟩, .int .i64 0, .int .i64 0, .slice none 0 0, .slice none 0 0, .slice none 0 0, .slice none 0 0]
  generalize W.setRow _ _ = V at *
  have y0 : V.cell? ⟨w.heap.size, 0, none⟩ = some (.int .i64 0) := hy.cell 0
  have y1 : V.cell? ⟨w.heap.size, 1, none⟩ = some (.int .i64 0) := hy.cell 1
  have y2 : V.cell? ⟨w.heap.size, 2, none⟩ = some (.int .i64 0) := hy.cell 2
  have y3 : V.cell? ⟨w.heap.size, 3, none⟩ = some (.int .i64 0) := hy.cell 3
  have y4 : V.cell? ⟨w.heap.size, 4, none⟩ = some (.string ⟨#[]⟩) := hy.cell 4
  have y5 : V.cell? ⟨w.heap.size, 5, none⟩ = some (.bool false) := hy.cell 5
  have y6 : V.cell? ⟨w.heap.size, 6, none⟩ = some (.string ⟨#[]⟩) := hy.cell 6
  have y7 : V.cell? ⟨w.heap.size, 7, none⟩ = some (.string ⟨#[]⟩) := hy.cell 7
  have y8 : V.cell? ⟨w.heap.size, 8, none⟩ = some (.int .i64 0) := hy.cell 8
  have y9 : V.cell? ⟨w.heap.size, 9, none⟩ = some (.int .i64 0) := hy.cell 9
  have y10 : V.cell? ⟨w.heap.size, 10, none⟩ = some (.slice none 0 0) := hy.cell 10
  have y11 : V.cell? ⟨w.heap.size, 11, none⟩ = some (.slice none 0 0) := hy.cell 11
  have y12 : V.cell? ⟨w.heap.size, 12, none⟩ = some (.slice none 0 0) := hy.cell 12
  have y13 : V.cell? ⟨w.heap.size, 13, none⟩ = some (.slice none 0 0) := hy.cell 13
  refine bodyPost_ret (v := .tuple #[.agg #[.int .i64 0, .int .i64 0, .int .i64 0, .int .i64 0, .string ⟨#[]⟩, .bool false, .string ⟨#[]⟩, .string ⟨#[]⟩, .int .i64 0, .int .i64 0, .slice none 0 0, .slice none 0 0, .slice none 0 0, .slice none 0 0], .bool false]) (by simp [results, Tryz.results26, go_sem, y0, y1, y2, y3, y4, y5, y6, y7, y8, y9, y10, y11, y12, y13]) rfl ?_
  exact ⟨rfl, HN.out⟩
set_option maxHeartbeats 4000000 in
theorem at_nil (n : Int) (w : World) : Calls Tryz.prog 26 #[.pointer none, .int .i64 n] w fun e w' => e = .returned (.tuple #[.agg #[.int .i64 0, .int .i64 0, .int .i64 0, .int .i64 0, .string ⟨#[]⟩, .bool false, .string ⟨#[]⟩, .string ⟨#[]⟩, .int .i64 0, .int .i64 0, .slice none 0 0, .slice none 0 0, .slice none 0 0, .slice none 0 0], .bool false]) ∧ Below w.heap.size w w' := by
  by_cases h0 : n < 1
  · exact at_low _ n h0 w
  have LA := Lib.hid last_nil
  have h1 : 0 < n := by omega
  have HX := Lib.hid (Rc.Bx.new w #[.int .i64 0, .int .i64 0, .int .i64 0, .int .i64 0, .string ⟨#[]⟩, .bool false, .string ⟨#[]⟩, .string ⟨#[]⟩, .int .i64 0, .int .i64 0, .slice none 0 0, .slice none 0 0, .slice none 0 0, .slice none 0 0] 43)
  have HB := Lib.hid ((Below.refl w.heap.size w).alloc (Nat.le_refl _) (.cells #[.int .i64 0, .int .i64 0, .int .i64 0, .int .i64 0, .string ⟨#[]⟩, .bool false, .string ⟨#[]⟩, .string ⟨#[]⟩, .int .i64 0, .int .i64 0, .slice none 0 0, .slice none 0 0, .slice none 0 0, .slice none 0 0] 43))
  go_enter Tryz.func26, Tryz.ntmps26
  go_upto_region 1 with fail
  generalize w.alloc (.cells #[.int .i64 0, .int .i64 0, .int .i64 0, .int .i64 0, .string ⟨#[]⟩, .bool false, .string ⟨#[]⟩, .string ⟨#[]⟩, .int .i64 0, .int .i64 0, .slice none 0 0, .slice none 0 0, .slice none 0 0, .slice none 0 0] 43) = W at *
  go_wp2_with fail
  refine (LA.out _).mono ?_; rintro e w2 ⟨rfl, rfl⟩
  have HN := Lib.hid (Rc.below_row (ds := #[.int .i64 0, .int .i64 0, .int .i64 0, .int .i64 0, .string ⟨#[]⟩, .bool false, .string ⟨#[]⟩, .string ⟨#[]⟩, .int .i64 0, .int .i64 0, .slice none 0 0, .slice none 0 0, .slice none 0 0, .slice none 0 0]) HB.out (Nat.le_refl _))
  have hz := HX.out
  clear HB HX
  go_wp2_with (refine wpList_store_row rfl 43 (.tmp 4) (.tmp 14) rfl w.heap.size #[.int .i64 0, .int .i64 0, .int .i64 0, .int .i64 0, .string ⟨#[]⟩, .bool false, .string ⟨#[]⟩, .string ⟨#[]⟩, .int .i64 0, .int .i64 0, .slice none 0 0, .slice none 0 0, .slice none 0 0, .slice none 0 0] rfl rfl 43 _ hz (by kernel_rfl) rfl (by simp [Value.oneCell']) ?_)
  have hy := hz.row #[.int .i64 0, .int .i64 0, .int .i64 0, .int .i64 0, .string ⟨#[]⟩, .bool false, .string ⟨#[]⟩, .string ⟨#[]⟩, .int .i64 0, .int .i64 0, .slice none 0 0, .slice none 0 0, .slice none 0 0, .slice none 0 0]
  generalize W.setRow _ _ = V at *
  have y0 : V.cell? ⟨w.heap.size, 0, none⟩ = some (.int .i64 0) := hy.cell 0
  have y1 : V.cell? ⟨w.heap.size, 1, none⟩ = some (.int .i64 0) := hy.cell 1
  have y2 : V.cell? ⟨w.heap.size, 2, none⟩ = some (.int .i64 0) := hy.cell 2
  have y3 : V.cell? ⟨w.heap.size, 3, none⟩ = some (.int .i64 0) := hy.cell 3
  have y4 : V.cell? ⟨w.heap.size, 4, none⟩ = some (.string ⟨#[]⟩) := hy.cell 4
  have y5 : V.cell? ⟨w.heap.size, 5, none⟩ = some (.bool false) := hy.cell 5
  have y6 : V.cell? ⟨w.heap.size, 6, none⟩ = some (.string ⟨#[]⟩) := hy.cell 6
  have y7 : V.cell? ⟨w.heap.size, 7, none⟩ = some (.string ⟨#[]⟩) := hy.cell 7
  have y8 : V.cell? ⟨w.heap.size, 8, none⟩ = some (.int .i64 0) := hy.cell 8
  have y9 : V.cell? ⟨w.heap.size, 9, none⟩ = some (.int .i64 0) := hy.cell 9
  have y10 : V.cell? ⟨w.heap.size, 10, none⟩ = some (.slice none 0 0) := hy.cell 10
  have y11 : V.cell? ⟨w.heap.size, 11, none⟩ = some (.slice none 0 0) := hy.cell 11
  have y12 : V.cell? ⟨w.heap.size, 12, none⟩ = some (.slice none 0 0) := hy.cell 12
  have y13 : V.cell? ⟨w.heap.size, 13, none⟩ = some (.slice none 0 0) := hy.cell 13
  refine bodyPost_ret (v := .tuple #[.agg #[.int .i64 0, .int .i64 0, .int .i64 0, .int .i64 0, .string ⟨#[]⟩, .bool false, .string ⟨#[]⟩, .string ⟨#[]⟩, .int .i64 0, .int .i64 0, .slice none 0 0, .slice none 0 0, .slice none 0 0, .slice none 0 0], .bool false]) (by simp [results, Tryz.results26, go_sem, y0, y1, y2, y3, y4, y5, y6, y7, y8, y9, y10, y11, y12, y13]) rfl ?_
  exact ⟨rfl, HN.out⟩
set_option maxHeartbeats 4000000 in
theorem at_out {C q p : Nat} {v : Value} {A : Lg} (n : Int) (w : World) (h : LgM C q p v A w) (hn : n < 1 ∨ (A.recs.length : Int) < n) : Calls Tryz.prog 26 #[.pointer (some ⟨q, 0, none⟩), .int .i64 n] w fun e w' => e = .returned (.tuple #[.agg #[.int .i64 0, .int .i64 0, .int .i64 0, .int .i64 0, .string ⟨#[]⟩, .bool false, .string ⟨#[]⟩, .string ⟨#[]⟩, .int .i64 0, .int .i64 0, .slice none 0 0, .slice none 0 0, .slice none 0 0, .slice none 0 0], .bool false]) ∧ Below w.heap.size w w' := by
  by_cases h0 : n < 1
  · exact at_low _ n h0 w
  obtain ⟨vA, vc, rfl⟩ := h.2.1.shape
  have LA := Lib.hid (fun (u : World) (hb : Below w.heap.size w u) => last_is u ((h.kept hb).cells.2.2.2.2.2.2.1))
  have h1 : (A.recs.length : Int) < n := by omega
  clear h hn
  have HX := Lib.hid (Rc.Bx.new w #[.int .i64 0, .int .i64 0, .int .i64 0, .int .i64 0, .string ⟨#[]⟩, .bool false, .string ⟨#[]⟩, .string ⟨#[]⟩, .int .i64 0, .int .i64 0, .slice none 0 0, .slice none 0 0, .slice none 0 0, .slice none 0 0] 43)
  have HB := Lib.hid ((Below.refl w.heap.size w).alloc (Nat.le_refl _) (.cells #[.int .i64 0, .int .i64 0, .int .i64 0, .int .i64 0, .string ⟨#[]⟩, .bool false, .string ⟨#[]⟩, .string ⟨#[]⟩, .int .i64 0, .int .i64 0, .slice none 0 0, .slice none 0 0, .slice none 0 0, .slice none 0 0] 43))
  go_enter Tryz.func26, Tryz.ntmps26
  go_upto_region 1 with fail
  generalize w.alloc (.cells #[.int .i64 0, .int .i64 0, .int .i64 0, .int .i64 0, .string ⟨#[]⟩, .bool false, .string ⟨#[]⟩, .string ⟨#[]⟩, .int .i64 0, .int .i64 0, .slice none 0 0, .slice none 0 0, .slice none 0 0, .slice none 0 0] 43) = W at *
  have LA2 := Lib.hid (LA.out W HB.out)
  go_wp2_with fail
  refine LA2.out.mono ?_; rintro e w2 ⟨rfl, rfl⟩
  have HN := Lib.hid (Rc.below_row (ds := #[.int .i64 0, .int .i64 0, .int .i64 0, .int .i64 0, .string ⟨#[]⟩, .bool false, .string ⟨#[]⟩, .string ⟨#[]⟩, .int .i64 0, .int .i64 0, .slice none 0 0, .slice none 0 0, .slice none 0 0, .slice none 0 0]) HB.out (Nat.le_refl _))
  have hz := HX.out
  clear HB HX
  go_wp2_with (refine wpList_store_row rfl 43 (.tmp 4) (.tmp 14) rfl w.heap.size #[.int .i64 0, .int .i64 0, .int .i64 0, .int .i64 0, .string ⟨#[]⟩, .bool false, .string ⟨#[]⟩, .string ⟨#[]⟩, .int .i64 0, .int .i64 0, .slice none 0 0, .slice none 0 0, .slice none 0 0, .slice none 0 0] rfl rfl 43 _ hz (by kernel_rfl) rfl (by simp [Value.oneCell']) ?_)
  have hy := hz.row #[.int .i64 0, .int .i64 0, .int .i64 0, .int .i64 0, .string ⟨#[]⟩, .bool false, .string ⟨#[]⟩, .string ⟨#[]⟩, .int .i64 0, .int .i64 0, .slice none 0 0, .slice none 0 0, .slice none 0 0, .slice none 0 0]
  generalize W.setRow _ _ = V at *
  have y0 : V.cell? ⟨w.heap.size, 0, none⟩ = some (.int .i64 0) := hy.cell 0
  have y1 : V.cell? ⟨w.heap.size, 1, none⟩ = some (.int .i64 0) := hy.cell 1
  have y2 : V.cell? ⟨w.heap.size, 2, none⟩ = some (.int .i64 0) := hy.cell 2
  have y3 : V.cell? ⟨w.heap.size, 3, none⟩ = some (.int .i64 0) := hy.cell 3
  have y4 : V.cell? ⟨w.heap.size, 4, none⟩ = some (.string ⟨#[]⟩) := hy.cell 4
  have y5 : V.cell? ⟨w.heap.size, 5, none⟩ = some (.bool false) := hy.cell 5
  have y6 : V.cell? ⟨w.heap.size, 6, none⟩ = some (.string ⟨#[]⟩) := hy.cell 6
  have y7 : V.cell? ⟨w.heap.size, 7, none⟩ = some (.string ⟨#[]⟩) := hy.cell 7
  have y8 : V.cell? ⟨w.heap.size, 8, none⟩ = some (.int .i64 0) := hy.cell 8
  have y9 : V.cell? ⟨w.heap.size, 9, none⟩ = some (.int .i64 0) := hy.cell 9
  have y10 : V.cell? ⟨w.heap.size, 10, none⟩ = some (.slice none 0 0) := hy.cell 10
  have y11 : V.cell? ⟨w.heap.size, 11, none⟩ = some (.slice none 0 0) := hy.cell 11
  have y12 : V.cell? ⟨w.heap.size, 12, none⟩ = some (.slice none 0 0) := hy.cell 12
  have y13 : V.cell? ⟨w.heap.size, 13, none⟩ = some (.slice none 0 0) := hy.cell 13
  refine bodyPost_ret (v := .tuple #[.agg #[.int .i64 0, .int .i64 0, .int .i64 0, .int .i64 0, .string ⟨#[]⟩, .bool false, .string ⟨#[]⟩, .string ⟨#[]⟩, .int .i64 0, .int .i64 0, .slice none 0 0, .slice none 0 0, .slice none 0 0, .slice none 0 0], .bool false]) (by simp [results, Tryz.results26, go_sem, y0, y1, y2, y3, y4, y5, y6, y7, y8, y9, y10, y11, y12, y13]) rfl ?_
  exact ⟨rfl, HN.out⟩
set_option maxHeartbeats 4000000 in
theorem at_in {C q p : Nat} {v : Value} {A : Lg} (k : Nat) (w : World) (h : LgM C q p v A w) (hk : k < A.recs.length) (hb : A.recs.length ≤ 900000) (hs : (A.recs.getD k []).length ≤ 800000) (hg : Rc.getOk (A.recs.getD k []) = true) :
    Calls Tryz.prog 26 #[.pointer (some ⟨q, 0, none⟩), .int .i64 ((k : Int) + 1)] w fun e w' => ∃ hd, e = .returned (.tuple #[Rc.rcv (Rc.readR (A.recs.getD k [])) hd, .bool true]) ∧ Rc.RcO w.heap.size w' (Rc.readR (A.recs.getD k [])) hd ∧ Below w.heap.size w w' := by
  obtain ⟨vA, vc, rfl⟩ := h.2.1.shape
  have LA := Lib.hid (fun (u : World) (hb : Below w.heap.size w u) => last_is u ((h.kept hb).cells.2.2.2.2.2.2.1))
  obtain ⟨g, rfl, _, _, ck⟩ := h.2.1.at hk
  have X6 := Lib.hid (fun (u : World) (hb : Below w.heap.size w u) => (h.kept hb).cells.2.2.2.2.2.2.1)
  have XK := Lib.hid (show ∀ (u : World), Below w.heap.size w u → u.cell? ⟨g, k, none⟩ = some (.string (str (A.recs.getD k []))) from fun u hb => by
    obtain ⟨g', e, _, _, c⟩ := (h.kept hb).2.1.at hk
    simp only [Option.some.injEq, Addr.mk.injEq, and_true] at e
    subst e
    exact c)
  have GE := Lib.hid (fun (u : World) => show Calls Tryz.prog 62 #[.string (str (A.recs.getD k []))] u fun e w' => ∃ hd : Rc.Hd, e = .returned (.tuple #[Rc.rcv (Rc.readR (A.recs.getD k [])) hd, .bool true]) ∧ Rc.RcO u.heap.size w' (Rc.readR (A.recs.getD k [])) hd ∧ Below u.heap.size u w' from
    (Rc.get_any (A.recs.getD k []) hs u).mono fun e w' ⟨hb, h⟩ => by
      rcases h with ⟨_, hd, he, ho⟩ | ⟨h, _⟩
      · exact ⟨hd, he, ho, hb⟩
      · rw [hg] at h; cases h)
  obtain ⟨r, hr⟩ : ∃ r, Rc.readR (A.recs.getD k []) = r := ⟨_, rfl⟩
  rw [hr] at GE ⊢
  generalize str (A.recs.getD k []) = sb at *
  generalize A.recs.length = bl at *
  have h1 : ¬ ((k : Int) + 1 < 1) := by omega
  have h2 : ¬ ((bl : Int) < (k : Int) + 1) := by omega
  have e1 : IntKind.i64.wrap ((k : Int) + 1 - 1) = (k : Int) := by rw [IntWalk.i64_in _ (by omega)]; omega
  have k0 : (0 : Int) ≤ (k : Int) := by omega
  have k1 : (k : Int) < (bl : Int) := by omega
  clear h hg hs hr ck
  have HX := Lib.hid (Rc.Bx.new w #[.int .i64 0, .int .i64 0, .int .i64 0, .int .i64 0, .string ⟨#[]⟩, .bool false, .string ⟨#[]⟩, .string ⟨#[]⟩, .int .i64 0, .int .i64 0, .slice none 0 0, .slice none 0 0, .slice none 0 0, .slice none 0 0] 43)
  have HB := Lib.hid ((Below.refl w.heap.size w).alloc (Nat.le_refl _) (.cells #[.int .i64 0, .int .i64 0, .int .i64 0, .int .i64 0, .string ⟨#[]⟩, .bool false, .string ⟨#[]⟩, .string ⟨#[]⟩, .int .i64 0, .int .i64 0, .slice none 0 0, .slice none 0 0, .slice none 0 0, .slice none 0 0] 43))
  go_enter Tryz.func26, Tryz.ntmps26
  go_upto_region 1 with fail
  generalize w.alloc (.cells #[.int .i64 0, .int .i64 0, .int .i64 0, .int .i64 0, .string ⟨#[]⟩, .bool false, .string ⟨#[]⟩, .string ⟨#[]⟩, .int .i64 0, .int .i64 0, .slice none 0 0, .slice none 0 0, .slice none 0 0, .slice none 0 0] 43) = W at *
  have LA2 := Lib.hid (LA.out W HB.out)
  have x6 := X6.out W HB.out
  have xk := XK.out W HB.out
  go_wp2_with fail
  refine LA2.out.mono ?_; rintro e w2 ⟨rfl, rfl⟩
  go_wp2_with fail
  unfold Rc.rcv at GE
  refine (GE.out _).mono ?_; rintro e w5 ⟨hd, rfl, ho, hb⟩
  have HB5 := Lib.hid (HB.out.trans (hb.mono HB.out.size))
  have HX5 := Lib.hid (HX.out.held hb)
  have HO5 := Lib.hid (ho.base HB.out.size)
  have HN := Lib.hid (Rc.below_row (ds := #[.int .i64 r.kind, .int .i64 r.tx, .int .i64 r.prev, .int .i64 r.next, .string r.key, .bool r.had, .string r.old.k, .string r.old.v, .int .i64 r.old.b, .int .i64 r.old.z, .slice hd.g.A hd.g.n hd.g.c, .slice hd.p.A hd.p.n hd.p.c, .slice hd.t.A hd.t.n hd.t.c, .slice hd.d.A hd.d.n hd.d.c]) HB5.out (Nat.le_refl _))
  have HOZ := Lib.hid (show Rc.RcO w.heap.size (w5.setRow w.heap.size #[.int .i64 r.kind, .int .i64 r.tx, .int .i64 r.prev, .int .i64 r.next, .string r.key, .bool r.had, .string r.old.k, .string r.old.v, .int .i64 r.old.b, .int .i64 r.old.z, .slice hd.g.A hd.g.n hd.g.c, .slice hd.p.A hd.p.n hd.p.c, .slice hd.t.A hd.t.n hd.t.c, .slice hd.d.A hd.d.n hd.d.c]) r hd from HO5.out.aside (Rc.Aside.row _ _ _) HX5.out)
  have hz := HX5.out
  clear HB HX HB5 HX5 ho hb LA LA2 X6 XK x6 xk GE
  go_wp2_with (refine wpList_store_row rfl 43 (.tmp 4) (.tmp 24) rfl w.heap.size #[.int .i64 r.kind, .int .i64 r.tx, .int .i64 r.prev, .int .i64 r.next, .string r.key, .bool r.had, .string r.old.k, .string r.old.v, .int .i64 r.old.b, .int .i64 r.old.z, .slice hd.g.A hd.g.n hd.g.c, .slice hd.p.A hd.p.n hd.p.c, .slice hd.t.A hd.t.n hd.t.c, .slice hd.d.A hd.d.n hd.d.c] rfl rfl 43 _ hz (by kernel_rfl) rfl (by simp [Value.oneCell']) ?_)
  have hy := hz.row #[.int .i64 r.kind, .int .i64 r.tx, .int .i64 r.prev, .int .i64 r.next, .string r.key, .bool r.had, .string r.old.k, .string r.old.v, .int .i64 r.old.b, .int .i64 r.old.z, .slice hd.g.A hd.g.n hd.g.c, .slice hd.p.A hd.p.n hd.p.c, .slice hd.t.A hd.t.n hd.t.c, .slice hd.d.A hd.d.n hd.d.c]
  generalize w5.setRow _ _ = V at *
  have y0 : V.cell? ⟨w.heap.size, 0, none⟩ = some (.int .i64 r.kind) := hy.cell 0
  have y1 : V.cell? ⟨w.heap.size, 1, none⟩ = some (.int .i64 r.tx) := hy.cell 1
  have y2 : V.cell? ⟨w.heap.size, 2, none⟩ = some (.int .i64 r.prev) := hy.cell 2
  have y3 : V.cell? ⟨w.heap.size, 3, none⟩ = some (.int .i64 r.next) := hy.cell 3
  have y4 : V.cell? ⟨w.heap.size, 4, none⟩ = some (.string r.key) := hy.cell 4
  have y5 : V.cell? ⟨w.heap.size, 5, none⟩ = some (.bool r.had) := hy.cell 5
  have y6 : V.cell? ⟨w.heap.size, 6, none⟩ = some (.string r.old.k) := hy.cell 6
  have y7 : V.cell? ⟨w.heap.size, 7, none⟩ = some (.string r.old.v) := hy.cell 7
  have y8 : V.cell? ⟨w.heap.size, 8, none⟩ = some (.int .i64 r.old.b) := hy.cell 8
  have y9 : V.cell? ⟨w.heap.size, 9, none⟩ = some (.int .i64 r.old.z) := hy.cell 9
  have y10 : V.cell? ⟨w.heap.size, 10, none⟩ = some (.slice hd.g.A hd.g.n hd.g.c) := hy.cell 10
  have y11 : V.cell? ⟨w.heap.size, 11, none⟩ = some (.slice hd.p.A hd.p.n hd.p.c) := hy.cell 11
  have y12 : V.cell? ⟨w.heap.size, 12, none⟩ = some (.slice hd.t.A hd.t.n hd.t.c) := hy.cell 12
  have y13 : V.cell? ⟨w.heap.size, 13, none⟩ = some (.slice hd.d.A hd.d.n hd.d.c) := hy.cell 13
  refine bodyPost_ret (v := .tuple #[.agg #[.int .i64 r.kind, .int .i64 r.tx, .int .i64 r.prev, .int .i64 r.next, .string r.key, .bool r.had, .string r.old.k, .string r.old.v, .int .i64 r.old.b, .int .i64 r.old.z, .slice hd.g.A hd.g.n hd.g.c, .slice hd.p.A hd.p.n hd.p.c, .slice hd.t.A hd.t.n hd.t.c, .slice hd.d.A hd.d.n hd.d.c], .bool true]) (by simp [results, Tryz.results26, go_sem, y0, y1, y2, y3, y4, y5, y6, y7, y8, y9, y10, y11, y12, y13]) rfl ?_
  exact ⟨hd, rfl, HOZ.out, HN.out⟩
end Go.Proofs.YtnjggoeahaglbaaGreat.Wa
