/- The contracts of Used and with. -/
import Derived.Test.YtkbbpdpalfpchaaDoorMarks
import Derived.BigQuiet
namespace Go.Proofs.YtkbbpdpalfpchaaDoor
open Go.ChangeShapes Go.WideShapes Go.ChangeAt Go.RowKit
set_option linter.unusedVariables false
set_option linter.unusedSimpArgs false
set_option maxRecDepth 100000
theorem used_any (k d x n : Int) (b : BA) (hb : b.length ≤ 1000) (hn : n ≤ 9223372036854775807) (w : World) : Calls Tryd.prog 17 #[pv k d x b, .int .i64 n] w fun e w' => e = .returned (.bool (usedS (marksS k b) n)) ∧ Below w.heap.size w w' := by
  have MA := Lib.hid (marks_any k d x b hb)
  have HB := Lib.hid ((Below.refl w.heap.size w).alloc (Nat.le_refl _) (.cells #[.int .i64 k, .int .i64 d, .int .i64 x, .string (str b)] 23))
  have hm : (marksS k b).length ≤ 240 := by
    rcases marksS_cases k b with h | h
    · rw [h]; simp
    · have := h.2.1.1; omega
  unfold pv at *
  generalize marksS k b = m at *
  generalize str b = s at *
  have hl : ((str m).size : Int) = (m.length : Int) := by rw [str_size]
  by_cases c0 : 0 ≤ n
  · obtain ⟨i, rfl⟩ : ∃ i : Nat, n = (i : Int) := ⟨n.toNat, by omega⟩
    rw [usedS_nat]
    by_cases c1 : (i : Int) < (m.length : Int)
    · have hi : i < m.length := by omega
      have e1 : IntKind.i64.wrap ((i : Int) + 1) = (i : Int) + 1 := IntWalk.i64_in _ (by omega)
      have SL := Lib.hid (fun (w : World) => show (Instr.slice 9 (.string (str m)) (some (.int .i64 (i : Int))) (some (.int .i64 ((i : Int) + 1))) none).run Tryd.prog w = .ok (.string (str [m[i]])) w by
        rw [run_slice_string w 9 (str m) .i64 .i64 (i : Int) ((i : Int) + 1) Tryd.underlying9 (by omega) (by omega) (by omega), cut_str m _ _ 1 (by omega), Int.toNat_natCast, List.drop_eq_getElem_cons hi]
        rfl)
      have e2 : ((str [m[i]]).toList == ([1] : BA)) = decide (m[i]? = some 1) := by
        rw [str_list, List.getElem?_eq_getElem hi]
        by_cases h : m[i] = 1
        · rw [h]; rfl
        · simp [h]
      have e3 : (ByteArray.mk #[1]).toList = ([1] : BA) := str_list [1]
      generalize str [m[i]] = sx at *
      generalize decide (m[i]? = some 1) = r at *
      have HQ := Lib.hid e2
      clear e2
      have k0 : (0 : Int) ≤ (i : Int) := c0
      have s1 := SL.out
      go_enter Tryd.func17, Tryd.ntmps17
      go_wp2_with fail
      refine (MA.out _).mono ?_; rintro e w1 ⟨rfl, hb1⟩
      have HB1 := Lib.hid (HB.out.trans (hb1.mono HB.out.size))
      clear hb1
      go_wp2_with fail
      rw [HQ.out]
      go_ret
      exact ⟨rfl, HB1.out⟩
    · have hi : m[i]? = none := List.getElem?_eq_none (by omega)
      rw [hi, show decide ((none : Option UInt8) = some 1) = false from rfl]
      clear hi
      have k0 : (0 : Int) ≤ (i : Int) := c0
      generalize (m.length : Int) = L at *
      generalize (i : Int) = n at *
      generalize str m = sm at *
      clear hm
      go_enter Tryd.func17, Tryd.ntmps17
      go_wp2_with fail
      refine (MA.out _).mono ?_; rintro e w1 ⟨rfl, hb1⟩
      have HB1 := Lib.hid (HB.out.trans (hb1.mono HB.out.size))
      clear hb1
      go_wp2_with fail
      go_ret
      exact ⟨rfl, HB1.out⟩
  · rw [show usedS m n = false from decide_eq_false (fun h => c0 h.1)]
    clear hl hm
    generalize str m = sm at *
    go_enter Tryd.func17, Tryd.ntmps17
    go_wp2_with fail
    refine (MA.out _).mono ?_; rintro e w1 ⟨rfl, hb1⟩
    have HB1 := Lib.hid (HB.out.trans (hb1.mono HB.out.size))
    clear hb1
    go_wp2_with fail
    go_ret
    exact ⟨rfl, HB1.out⟩
set_option maxHeartbeats 1000000 in
theorem with_any (k d x : Int) (m : BA) (c : UInt8) (n : Nat) (hm : m.length ≤ 240) (hn : n < m.length) (w : World) : Calls Tryd.prog 24 #[pv k d x (mk m), .int .i64 n, .string ⟨#[c]⟩] w fun e w' => e = .returned (pv k d x (mk (m.set n c))) ∧ Below w.heap.size w w' := by
  have hml := mk_length hm
  have HE := Lib.hid (show (str ((mk m).take n) ++ ⟨#[c]⟩) ++ str ((mk m).drop (n + 1)) = str (mk (m.set n c)) by
    rw [show (ByteArray.mk #[c]) = str [c] from rfl, str_join, str_join, mk_set hn])
  have hs : ((str (mk m)).size : Int) = 240 := by rw [str_size, hml]; rfl
  have SL1 : ∀ w : World, (Instr.slice 9 (.string (str (mk m))) none (some (.int .i64 (n : Int))) none).run Tryd.prog w = .ok (.string (str ((mk m).take n))) w := fun w => by
    rw [run_slice_string_h (P := Tryd.prog) w 9 (str (mk m)) Tryd.underlying9 .i64 (n : Int) (by omega) (by omega), extract_str, str_toList]
    simp
  have SL2 : ∀ w : World, (Instr.slice 9 (.string (str (mk m))) (some (.int .i64 ((n : Int) + 1))) none none).run Tryd.prog w = .ok (.string (str ((mk m).drop (n + 1)))) w := fun w => by
    rw [run_slice_string_l (P := Tryd.prog) w 9 (str (mk m)) Tryd.underlying9 .i64 ((n : Int) + 1) (by omega) (by omega), extract_str, str_toList, show ((n : Int) + 1).toNat = n + 1 by omega, List.take_of_length_le (by rw [List.length_drop, hml, str_size, hml]; omega)]
  have e1 : IntKind.i64.wrap ((n : Int) + 1) = (n : Int) + 1 := IntWalk.i64_in _ (by omega)
  have s1 : (str ((mk m).take n)).size = n := by rw [str_size, List.length_take]; omega
  have s2 : (str ((mk m).drop (n + 1))).size = 239 - n := by rw [str_size, List.length_drop]; omega
  have s3 : (str ((mk m).take n) ++ (⟨#[c]⟩ : ByteArray)).size = n + 1 := by rw [ByteArray.size_append, s1]; rfl
  have sc : (⟨#[c]⟩ : ByteArray).size = 1 := rfl
  have HX := Lib.hid (PBox.new w k d x (str (mk m)))
  have HA := Lib.hid (((Below.refl w.heap.size w).alloc (Nat.le_refl _) (.cells #[.int .i64 k, .int .i64 d, .int .i64 x, .string (str (mk m))] 23)).alloc (by simp) (.cells #[.int .i64 0, .int .i64 0, .int .i64 0, .string ⟨#[]⟩] 23))
  unfold pv
  generalize str (mk m) = b at *
  generalize str (mk (m.set n c)) = b2 at *
  generalize str ((mk m).take n) = T1 at *
  generalize str ((mk m).drop (n + 1)) = T2 at *
  generalize (⟨#[c]⟩ : ByteArray) = cc at *
  have k0 : (0 : Int) ≤ (n : Int) := by omega
  clear hml
  have HX2 := Lib.hid (HX.out.kept ((Below.refl _ _).alloc (Nat.le_refl _) (.cells #[.int .i64 0, .int .i64 0, .int .i64 0, .string ⟨#[]⟩] 23)))
  obtain ⟨W, hW⟩ : ∃ W, W = (w.alloc (.cells #[.int .i64 k, .int .i64 d, .int .i64 x, .string b] 23)).alloc (.cells #[.int .i64 0, .int .i64 0, .int .i64 0, .string ⟨#[]⟩] 23) := ⟨_, rfl⟩
  have HY := Lib.hid (show PBox W (w.heap.size + 1) 0 0 0 ⟨#[]⟩ by
    rw [hW]
    have := PBox.new (w.alloc (.cells #[.int .i64 k, .int .i64 d, .int .i64 x, .string b] 23)) 0 0 0 ⟨#[]⟩
    rw [World.size_alloc] at this
    exact this)
  rw [← hW] at HX2 HA
  clear HX
  go_enter Tryd.func24, Tryd.ntmps24
  go_wp2_with fail
  rw [← hW]
  clear hW
  obtain ⟨⟨x0, x1, x2, x3⟩, f0, f1, f2, f3⟩ := And.intro HX2.out.cells HX2.out.free
  go_region
  have HX3 := Lib.hid ((HX2.out.set1 (T1 ++ cc ++ T2)).drew)
  have HY3 := Lib.hid (show PBox ((W.setCell ⟨w.heap.size, 3, none⟩ (.string (T1 ++ cc ++ T2))).drew) (w.heap.size + 1) 0 0 0 ⟨#[]⟩ from HY.out.heap (Below.heap_setCell _ _ _ _ (show w.heap.size + 1 ≠ w.heap.size by omega)))
  have HB3 := Lib.hid ((below_set1 (i := 3) (u := .string (T1 ++ cc ++ T2)) HA.out (Nat.le_refl _)).drew)
  rw [HE.out] at HX3 HY3 HB3 ⊢
  generalize (W.setCell ⟨w.heap.size, 3, none⟩ (.string b2)).drew = V at *
  clear x0 x1 x2 x3 f0 f1 f2 f3 HX2 HY HA
  obtain ⟨⟨x0, x1, x2, x3⟩, f0, f1, f2, f3⟩ := And.intro HX3.out.cells HX3.out.free
  obtain ⟨⟨y0, y1, y2, y3⟩, g0, g1, g2, g3⟩ := And.intro HY3.out.cells HY3.out.free
  go_wp2_with fail
  have HY4 := Lib.hid (HY3.out.set4 k d x b2)
  obtain ⟨z0, z1, z2, z3⟩ := HY4.out.cells
  refine bodyPost_ret (v := .agg #[.int .i64 k, .int .i64 d, .int .i64 x, .string b2]) (by simp [results, Tryd.results24, go_sem, z0, z1, z2, z3]) rfl ⟨rfl, ?_⟩
  exact below_set4 HB3.out (by omega)
end Go.Proofs.YtkbbpdpalfpchaaDoor
