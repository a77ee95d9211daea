/- The contract of Find. -/
import Derived.Test.YtljegjcajlkgiaaGreatPages
namespace Go.Proofs.YtljegjcajlkgiaaGreat
open Go.ChangeShapes Go.WideShapes Go.ChangeAt Go.RowKit
set_option linter.unusedVariables false
set_option linter.unusedSimpArgs false
set_option maxRecDepth 100000
def findV (o : Option Ce) : Value := .tuple #[cvC (o.getD nilC), .bool o.isSome]
set_option maxHeartbeats 2000000 in
theorem find_any (k d x : Int) (b : BA) (q : ByteArray) (hb : b.length ≤ 100000) (w : World) : Calls Tryz.prog 13 #[pv k d x (str b), .string q] w fun e w' => e = .returned (findV (findS (cellsP k b) q)) ∧ Below w.heap.size w w' := by
  have CE := Lib.hid (fun w => bcells_any k d x b hb w)
  have HPS := Lib.hid (cellsP_ok k b)
  unfold pv NewL at *
  generalize cellsP k b = l at *
  generalize str b = s at *
  have HB := Lib.hid ((Below.refl w.heap.size w).alloc (Nat.le_refl _) (.cells #[.int .i64 k, .int .i64 d, .int .i64 x, .string s] 23))
  have HL := Lib.hid (put_len HPS.out)
  obtain ⟨m, hm⟩ : ∃ m, l.length = m := ⟨_, rfl⟩
  have HM := Lib.hid hm
  rw [hm] at CE
  clear hm hb
  go_enter Tryz.func13, Tryz.ntmps13
  go_wp2_with fail
  have HX := Lib.hid (show Box ((w.alloc (.cells #[.int .i64 k, .int .i64 d, .int .i64 x, .string s] 23)).alloc (.cells #[.string ⟨#[]⟩, .string ⟨#[]⟩, .int .i64 0, .int .i64 0] 42)) (w.heap.size + 1) (.string ⟨#[]⟩) (.string ⟨#[]⟩) (.int .i64 0) (.int .i64 0) from by
    have := Box.new (w.alloc (.cells #[.int .i64 k, .int .i64 d, .int .i64 x, .string s] 23)) (.string ⟨#[]⟩) (.string ⟨#[]⟩) (.int .i64 0) (.int .i64 0)
    rw [World.size_alloc] at this
    exact this)
  have HB1 := Lib.hid (HB.out.alloc HB.out.size (.cells #[.string ⟨#[]⟩, .string ⟨#[]⟩, .int .i64 0, .int .i64 0] 42))
  clear HB
  generalize (w.alloc (.cells #[.int .i64 k, .int .i64 d, .int .i64 x, .string s] 23)).alloc (.cells #[.string ⟨#[]⟩, .string ⟨#[]⟩, .int .i64 0, .int .i64 0] 42) = W at *
  obtain ⟨B, hB⟩ : ∃ B, B = w.heap.size + 1 := ⟨_, rfl⟩
  have HLE := Lib.hid (show w.heap.size ≤ B by omega)
  rw [← hB] at HX ⊢
  clear hB
  refine (CE.out _).mono ?_; rintro e w1 ⟨A, c, rfl, ho, h2⟩
  have HX1 := Lib.hid (HX.out.kept h2)
  have HB2 := Lib.hid (HB1.out.trans (h2.mono HB1.out.size))
  have HC := Lib.hid (Own.ces (own_n ho HM.out) HM.out (put_sizes HPS.out) (max_small (by have := HM.out; have := HL.out; omega)))
  clear ho h2 HX HB1
  have IX := Lib.hid (index_walk (c := c) q w1 HC.out HM.out (Nat.le_refl _))
  go_wp2_with fail
  refine IX.out.mono ?_; rintro e w2 ⟨hr, h2⟩
  have HX2 := Lib.hid (HX1.out.kept h2)
  have HB3 := Lib.hid (HB2.out.trans (h2.mono HB2.out.size))
  have HC2 := Lib.hid (HC.out.kept h2)
  clear h2 HX1 HB2 HC
  obtain ⟨⟨x0, x1, x2, x3⟩, f0, f1, f2, f3⟩ := And.intro HX2.out.cells HX2.out.free
  have HST := Lib.hid (fun (w : World) B u0 u1 u2 u3 (w0 : World) (C : Nat) (h : Below C w0 w) (hC : C ≤ B) => show Below C w0 ((((w.setCell ⟨B, 0, none⟩ u0).setCell ⟨B, 1, none⟩ u1).setCell ⟨B, 2, none⟩ u2).setCell ⟨B, 3, none⟩ u3) from
    ⟨h.os, h.tape, h.output, by rw [World.size_setCell, World.size_setCell, World.size_setCell, World.size_setCell]; exact h.size, fun k hk => by
      have hne : k ≠ B := by omega
      rw [Below.heap_setCell _ _ _ _ hne, Below.heap_setCell _ _ _ _ hne, Below.heap_setCell _ _ _ _ hne, Below.heap_setCell _ _ _ _ hne]
      exact h.block k hk⟩)
  rcases hr with ⟨rfl, hf⟩ | ⟨i, hi, rfl, hf⟩
  · have HF := Lib.hid hf
    clear hf
    go_wp2_with fail
    refine bodyPost_ret (v := .tuple #[.agg #[.string ⟨#[]⟩, .string ⟨#[]⟩, .int .i64 0, .int .i64 0], .bool false]) (by simp [results, Tryz.results13, go_sem, x0, x1, x2, x3]) rfl ⟨by rw [HF.out]; rfl, ?_⟩
    exact HST.out _ _ _ _ _ _ _ _ HB3.out HLE.out
  · have HF := Lib.hid hf
    have hlt : i < m := by rw [← HM.out]; exact hi
    obtain ⟨bb, off, rfl, hbb, c0, c1, c2, c3⟩ := HC2.out.1 i hi
    generalize l.getD i nilC = y at *
    have b0 : (0 : Int) ≤ (i : Int) := by omega
    have b1 : (i : Int) < (m : Int) := by omega
    have b2 : ¬ (i : Int) < 0 := by omega
    clear hf hi hlt hbb
    go_wp2_with fail
    refine bodyPost_ret (v := .tuple #[.agg #[.string y.key, .string y.val, .int .i64 y.blob, .int .i64 y.size], .bool true]) (by simp [results, Tryz.results13, go_sem, x0, x1, x2, x3]) rfl ⟨by rw [HF.out]; rfl, ?_⟩
    exact HST.out _ _ _ _ _ _ _ _ HB3.out HLE.out
end Go.Proofs.YtljegjcajlkgiaaGreat
