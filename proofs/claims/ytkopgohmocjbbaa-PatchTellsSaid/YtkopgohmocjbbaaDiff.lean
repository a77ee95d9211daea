/- The contracts of Diff, the program's and the document's own, and of Whole. -/
import Derived.Test.YtkopgohmocjbbaaAll
import Derived.Shelf.LaysM
import Derived.Shelf.Strconv.Clone
import Derived.LoopTactic
import Derived.StillTailTactics
import Derived.BigQuiet
namespace Go.Proofs
open Go.Shelf
def Try.cloL_ren : Go.Shelf.Ren := ⟨fun | 316 => 31 | n => n, fun | 9 => 9 | 3 => 3 | 4 => 4 | 37 => 39 | 0 => 0 | 127 => 52 | 5 => 5 | n => n, fun | n => n⟩
theorem Try.cloL : Go.Proofs.LaysM.n316 Try.prog Try.cloL_ren := {
  mixed := by kernel_rfl
  f316 := Try.func31.trans (congrArg some (by kernel_rfl))
  t0 := Try.underlying0
  a0 := Try.isAgg0
  z0 := Try.sizeOf0
  v0 := Try.zeroValue0
  t3 := Try.underlying3
  a3 := Try.isAgg3
  z3 := Try.sizeOf3
  v3 := Try.zeroValue3
  t4 := Try.underlying4
  a4 := Try.isAgg4
  z4 := Try.sizeOf4
  v4 := Try.zeroValue4
  t9 := Try.underlying9
  a9 := Try.isAgg9
  z9 := Try.sizeOf9
  v9 := Try.zeroValue9
  t37 := Try.underlying39
  a37 := Try.isAgg39
  z37 := Try.sizeOf39
  v37 := Try.zeroValue39
  t127 := Try.underlying52
  a127 := Try.isAgg52
  z127 := Try.sizeOf52
  v127 := Try.zeroValue52
  t5 := Try.underlying5
  a5 := Try.isAgg5
  z5 := Try.sizeOf5
  v5 := Try.zeroValue5
  i0 := by kernel_rfl
  i3 := by kernel_rfl
  i4 := by kernel_rfl
  i5 := by kernel_rfl
  i9 := by kernel_rfl
  i37 := by kernel_rfl
  i127 := by kernel_rfl }
end Go.Proofs
namespace Go.Proofs.Ytkopgohmocjbbaa
open Go.ChangeShapes Go.WideShapes Go.ChangeAt Go.RowKit Go.Shelf
set_option linter.unusedVariables false
set_option linter.unusedSimpArgs false
theorem clone_any (s : ByteArray) (hs : s.size ≤ 281474976710656) (w : World) : Calls Try.prog 24 #[.string s] w fun e w' => e = .returned (.string s) ∧ Below w.heap.size w w' := by
  have R := Lib.hid (fun w => Any.stringslite_Clone Try.cloL s w hs)
  go_enter Try.func24, Try.ntmps24
  go_wp2_with fail
  refine (R.out _).mono ?_; rintro e w1 ⟨rfl, hb⟩
  have HB := Lib.hid hb
  clear hb
  go_wp2_with fail
  go_ret
  exact ⟨rfl, HB.out⟩
theorem run_ix (b : ByteArray) (i : Nat) (v : UInt8) (hi : b.data.toList[i]? = some v) (w : World) : (Instr.index 9 (.string b) (.int .i64 (i : Int))).run Try.prog w = .ok (.int .u8 (v.toNat : Int)) w := by
  have hlt : i < b.size := by rw [← size_data]; exact (List.getElem?_eq_some_iff.1 hi).1
  rw [run_index_string w 9 b .i64 (i : Int) Try.underlying9, dif_pos ⟨by omega, by omega⟩]
  have e : b[((i : Int)).toNat]'(by omega) = v := by
    have h2 := (List.getElem?_eq_some_iff.1 hi).2
    rw [← h2]
    rfl
  rw [e]
theorem byte_ne {v u : UInt8} (h : v ≠ u) : (((v.toNat : Int)) == (u.toNat : Int)) = false := by
  rw [beq_eq_false_iff_ne]
  intro e
  exact h (UInt8.toNat_inj.1 (by omega))
theorem str_ne {x y : ByteArray} (h : x.data.toList ≠ y.data.toList) : (x.toList == y.toList) = false := by
  rw [beq_eq_false_iff_ne, ByteArray.toList_eq, ByteArray.toList_eq]; exact h
theorem str_eq {x y : ByteArray} (h : x.data.toList = y.data.toList) : (x.toList == y.toList) = true := by
  rw [beq_iff_eq, ByteArray.toList_eq, ByteArray.toList_eq]; exact h
theorem Held.drewN {X w : World} (h : Held X w) (q : Nat) : Held X (w.drewN q) := h.step ⟨rfl, rfl, rfl, Nat.le_refl _, fun _ _ => rfl⟩
theorem below_three {w w' : World} {B b : Nat} (h : Below B w w') (hB : B ≤ b) (v0 v1 v2 : Value) : Below B w (((w'.setCell ⟨b, 0, none⟩ v0).setCell ⟨b, 1, none⟩ v1).setCell ⟨b, 2, none⟩ v2) :=
  ((h.setCell hB _).setCell hB _).setCell hB _
theorem run_sub (y : ByteArray) (a z : Nat) (h1 : a ≤ z) (h2 : z ≤ y.size) (w : World) : (Instr.slice 9 (.string y) (some (.int .i64 (a : Int))) (some (.int .i64 (z : Int))) none).run Try.prog w = .ok (.string (str ((y.data.toList.drop a).take (z - a)))) w := by
  rw [run_slice_string w 9 y .i64 .i64 (a : Int) (z : Int) Try.underlying9 (by omega) (by omega) (by omega), extract_str]
  rfl
theorem diff_no (k : Int) (x y : ByteArray) (hx : x.size ≤ maxLen) (hy : y.size ≤ maxLen) (h : okD k x.data.toList y.data.toList = false) (w : World) : Calls Try.prog 11 #[.int .i64 k, .string x, .string y] w fun e w' => e = .returned (.tuple #[pvP nilP, .bool false]) ∧ Below w.heap.size w w' := by
  unfold pvP pv nilP
  dsimp only
  unfold okD at h
  rw [decide_eq_false_iff_not, size_data, size_data] at h
  by_cases h0 : 0 ≤ k ∧ k ≤ 63
  · have W0 := Lib.hid (exists_any k)
    rw [decide_eq_true h0] at W0
    by_cases h1 : x.size = 256
    · have h1p : (x.size : Int) = 256 := by omega
      by_cases h2 : y.size = 256
      · have h2p : (y.size : Int) = 256 := by omega
        have hs : x.data.toList = y.data.toList := Classical.byContradiction fun hne => h ⟨h0, h1, h2, hne⟩
        have hs' := str_eq hs
        have hxy : x = y := by rw [← str_data x, hs, str_data]
        clear hs h
        subst hxy
        have HB := Lib.hid ((Below.refl w.heap.size w).alloc (Nat.le_refl _) (.cells #[.int .i64 0, .int .i64 0, .string ⟨#[]⟩] 26))
        obtain ⟨⟨x0, x1, x2⟩, f0, f1, f2⟩ := And.intro (Box.new w (.int .i64 0) (.int .i64 0) (.string ⟨#[]⟩)).cells (Box.new w (.int .i64 0) (.int .i64 0) (.string ⟨#[]⟩)).free
        go_enter Try.func11, Try.ntmps11
        go_wp2_with fail
        refine (W0.out _).mono ?_; rintro e w1 ⟨rfl, rfl⟩
        go_wp2_with fail
        refine bodyPost_ret (v := .tuple #[.agg #[.int .i64 0, .int .i64 0, .string ⟨#[]⟩], .bool false]) (by simp [results, Try.results11, go_sem, x0, x1, x2]) rfl ⟨rfl, ?_⟩
        first | exact below_three HB.out (Nat.le_refl _) _ _ _ | exact HB.out
      · have h2' : ((y.size : Int) == 256) = false := by rw [beq_eq_false_iff_ne]; omega
        have h2'' : ¬ (y.size : Int) = 256 := by omega
        clear h
        have HB := Lib.hid ((Below.refl w.heap.size w).alloc (Nat.le_refl _) (.cells #[.int .i64 0, .int .i64 0, .string ⟨#[]⟩] 26))
        obtain ⟨⟨x0, x1, x2⟩, f0, f1, f2⟩ := And.intro (Box.new w (.int .i64 0) (.int .i64 0) (.string ⟨#[]⟩)).cells (Box.new w (.int .i64 0) (.int .i64 0) (.string ⟨#[]⟩)).free
        go_enter Try.func11, Try.ntmps11
        go_wp2_with fail
        refine (W0.out _).mono ?_; rintro e w1 ⟨rfl, rfl⟩
        go_wp2_with fail
        refine bodyPost_ret (v := .tuple #[.agg #[.int .i64 0, .int .i64 0, .string ⟨#[]⟩], .bool false]) (by simp [results, Try.results11, go_sem, x0, x1, x2]) rfl ⟨rfl, ?_⟩
        first | exact below_three HB.out (Nat.le_refl _) _ _ _ | exact HB.out
    · have h1' : ((x.size : Int) == 256) = false := by rw [beq_eq_false_iff_ne]; omega
      have h1'' : ¬ (x.size : Int) = 256 := by omega
      clear h
      have HB := Lib.hid ((Below.refl w.heap.size w).alloc (Nat.le_refl _) (.cells #[.int .i64 0, .int .i64 0, .string ⟨#[]⟩] 26))
      obtain ⟨⟨x0, x1, x2⟩, f0, f1, f2⟩ := And.intro (Box.new w (.int .i64 0) (.int .i64 0) (.string ⟨#[]⟩)).cells (Box.new w (.int .i64 0) (.int .i64 0) (.string ⟨#[]⟩)).free
      go_enter Try.func11, Try.ntmps11
      go_wp2_with fail
      refine (W0.out _).mono ?_; rintro e w1 ⟨rfl, rfl⟩
      go_wp2_with fail
      refine bodyPost_ret (v := .tuple #[.agg #[.int .i64 0, .int .i64 0, .string ⟨#[]⟩], .bool false]) (by simp [results, Try.results11, go_sem, x0, x1, x2]) rfl ⟨rfl, ?_⟩
      first | exact below_three HB.out (Nat.le_refl _) _ _ _ | exact HB.out
  · have W0 := Lib.hid (exists_any k)
    rw [decide_eq_false h0] at W0
    clear h
    have HB := Lib.hid ((Below.refl w.heap.size w).alloc (Nat.le_refl _) (.cells #[.int .i64 0, .int .i64 0, .string ⟨#[]⟩] 26))
    obtain ⟨⟨x0, x1, x2⟩, f0, f1, f2⟩ := And.intro (Box.new w (.int .i64 0) (.int .i64 0) (.string ⟨#[]⟩)).cells (Box.new w (.int .i64 0) (.int .i64 0) (.string ⟨#[]⟩)).free
    go_enter Try.func11, Try.ntmps11
    go_wp2_with fail
    refine (W0.out _).mono ?_; rintro e w1 ⟨rfl, rfl⟩
    go_wp2_with fail
    refine bodyPost_ret (v := .tuple #[.agg #[.int .i64 0, .int .i64 0, .string ⟨#[]⟩], .bool false]) (by simp [results, Try.results11, go_sem, x0, x1, x2]) rfl ⟨rfl, ?_⟩
    first | exact below_three HB.out (Nat.le_refl _) _ _ _ | exact HB.out
theorem rdiff_no (k : Int) (x y : ByteArray) (hx : x.size ≤ maxLen) (hy : y.size ≤ maxLen) (h : okD k x.data.toList y.data.toList = false) (w : World) : Calls Try.prog 12 #[.int .i64 k, .string x, .string y] w fun e w' => e = .returned (.tuple #[pvP nilP, .bool false]) ∧ Below w.heap.size w w' := by
  unfold pvP pv nilP
  dsimp only
  unfold okD at h
  rw [decide_eq_false_iff_not, size_data, size_data] at h
  by_cases h0 : 0 ≤ k
  · by_cases h3 : k ≤ 63
    · have h3' : k < 64 := by omega
      by_cases h1 : x.size = 256
      · have h1p : (x.size : Int) = 256 := by omega
        by_cases h2 : y.size = 256
        · have h2p : (y.size : Int) = 256 := by omega
          have hs : x.data.toList = y.data.toList := Classical.byContradiction fun hne => h ⟨⟨h0, h3⟩, h1, h2, hne⟩
          have hs' := str_eq hs
          have hxy : x = y := by rw [← str_data x, hs, str_data]
          clear hs h
          subst hxy
          have HB := Lib.hid ((Below.refl w.heap.size w).alloc (Nat.le_refl _) (.cells #[.int .i64 0, .int .i64 0, .string ⟨#[]⟩] 26))
          obtain ⟨⟨x0, x1, x2⟩, f0, f1, f2⟩ := And.intro (Box.new w (.int .i64 0) (.int .i64 0) (.string ⟨#[]⟩)).cells (Box.new w (.int .i64 0) (.int .i64 0) (.string ⟨#[]⟩)).free
          go_enter Try.func12, Try.ntmps12
          go_wp2_with fail
          refine bodyPost_ret (v := .tuple #[.agg #[.int .i64 0, .int .i64 0, .string ⟨#[]⟩], .bool false]) (by simp [results, Try.results12, go_sem, x0, x1, x2]) rfl ⟨rfl, ?_⟩
          first | exact below_three HB.out (Nat.le_refl _) _ _ _ | exact HB.out
        · have h2' : ((y.size : Int) == 256) = false := by rw [beq_eq_false_iff_ne]; omega
          have h2'' : ¬ (y.size : Int) = 256 := by omega
          clear h
          have HB := Lib.hid ((Below.refl w.heap.size w).alloc (Nat.le_refl _) (.cells #[.int .i64 0, .int .i64 0, .string ⟨#[]⟩] 26))
          obtain ⟨⟨x0, x1, x2⟩, f0, f1, f2⟩ := And.intro (Box.new w (.int .i64 0) (.int .i64 0) (.string ⟨#[]⟩)).cells (Box.new w (.int .i64 0) (.int .i64 0) (.string ⟨#[]⟩)).free
          go_enter Try.func12, Try.ntmps12
          go_wp2_with fail
          refine bodyPost_ret (v := .tuple #[.agg #[.int .i64 0, .int .i64 0, .string ⟨#[]⟩], .bool false]) (by simp [results, Try.results12, go_sem, x0, x1, x2]) rfl ⟨rfl, ?_⟩
          first | exact below_three HB.out (Nat.le_refl _) _ _ _ | exact HB.out
      · have h1' : ((x.size : Int) == 256) = false := by rw [beq_eq_false_iff_ne]; omega
        have h1'' : ¬ (x.size : Int) = 256 := by omega
        clear h
        have HB := Lib.hid ((Below.refl w.heap.size w).alloc (Nat.le_refl _) (.cells #[.int .i64 0, .int .i64 0, .string ⟨#[]⟩] 26))
        obtain ⟨⟨x0, x1, x2⟩, f0, f1, f2⟩ := And.intro (Box.new w (.int .i64 0) (.int .i64 0) (.string ⟨#[]⟩)).cells (Box.new w (.int .i64 0) (.int .i64 0) (.string ⟨#[]⟩)).free
        go_enter Try.func12, Try.ntmps12
        go_wp2_with fail
        refine bodyPost_ret (v := .tuple #[.agg #[.int .i64 0, .int .i64 0, .string ⟨#[]⟩], .bool false]) (by simp [results, Try.results12, go_sem, x0, x1, x2]) rfl ⟨rfl, ?_⟩
        first | exact below_three HB.out (Nat.le_refl _) _ _ _ | exact HB.out
    · have h3' : ¬ k < 64 := by omega
      clear h
      have HB := Lib.hid ((Below.refl w.heap.size w).alloc (Nat.le_refl _) (.cells #[.int .i64 0, .int .i64 0, .string ⟨#[]⟩] 26))
      obtain ⟨⟨x0, x1, x2⟩, f0, f1, f2⟩ := And.intro (Box.new w (.int .i64 0) (.int .i64 0) (.string ⟨#[]⟩)).cells (Box.new w (.int .i64 0) (.int .i64 0) (.string ⟨#[]⟩)).free
      go_enter Try.func12, Try.ntmps12
      go_wp2_with fail
      refine bodyPost_ret (v := .tuple #[.agg #[.int .i64 0, .int .i64 0, .string ⟨#[]⟩], .bool false]) (by simp [results, Try.results12, go_sem, x0, x1, x2]) rfl ⟨rfl, ?_⟩
      first | exact below_three HB.out (Nat.le_refl _) _ _ _ | exact HB.out
  · clear h
    have HB := Lib.hid ((Below.refl w.heap.size w).alloc (Nat.le_refl _) (.cells #[.int .i64 0, .int .i64 0, .string ⟨#[]⟩] 26))
    obtain ⟨⟨x0, x1, x2⟩, f0, f1, f2⟩ := And.intro (Box.new w (.int .i64 0) (.int .i64 0) (.string ⟨#[]⟩)).cells (Box.new w (.int .i64 0) (.int .i64 0) (.string ⟨#[]⟩)).free
    go_enter Try.func12, Try.ntmps12
    go_wp2_with fail
    refine bodyPost_ret (v := .tuple #[.agg #[.int .i64 0, .int .i64 0, .string ⟨#[]⟩], .bool false]) (by simp [results, Try.results12, go_sem, x0, x1, x2]) rfl ⟨rfl, ?_⟩
    first | exact below_three HB.out (Nat.le_refl _) _ _ _ | exact HB.out
set_option maxHeartbeats 4000000 in
theorem diff_yes (k : Int) (x y : ByteArray) (hk : 0 ≤ k ∧ k ≤ 63) (hx : x.size = 256) (hy : y.size = 256) (a z : Nat) (hb : Between x.data.toList y.data.toList a z) (w : World) : Calls Try.prog 11 #[.int .i64 k, .string x, .string y] w fun e w' => e = .returned (.tuple #[.agg #[.int .i64 k, .int .i64 (a : Int), .string (str ((y.data.toList.drop a).take (z - a)))], .bool true]) ∧ Below w.heap.size w w' := by
  have hxp : (x.size : Int) = 256 := by omega
  have hyp : (y.size : Int) = 256 := by omega
  have hxl : x.data.toList.length = 256 := by rw [size_data]; exact hx
  have hyl : y.data.toList.length = 256 := by rw [size_data]; exact hy
  have hne := str_ne (show x.data.toList ≠ y.data.toList from fun e => hb.at1 (by rw [e]))
  have hne' : ¬ x.toList = y.toList := fun e => by rw [e] at hne; simp at hne
  have hxy : ¬ x = y := fun e => hne' (by rw [e])
  have hz1 := hb.lt
  have hz2 := hb.le
  rw [hxl] at hz2
  have SUB := run_sub y a z (by omega) (by omega)
  have W0 := Lib.hid (exists_any k)
  rw [decide_eq_true hk] at W0
  have CL := Lib.hid (clone_any (str ((y.data.toList.drop a).take (z - a))) (by rw [str_size, List.length_take]; omega))
  generalize str ((y.data.toList.drop a).take (z - a)) = sub at *
  have LOW := Lib.hid (show ∀ i, i < a → ∃ v : UInt8, x.data.toList[i]? = some v ∧ y.data.toList[i]? = some v from fun i hi => ⟨x.data.toList[i]'(by omega), List.getElem?_eq_getElem _, by rw [← hb.low i hi]; exact List.getElem?_eq_getElem _⟩)
  have HIGH := Lib.hid (show ∀ i, z ≤ i → i < 256 → ∃ v : UInt8, x.data.toList[i]? = some v ∧ y.data.toList[i]? = some v from fun i hi hi2 => ⟨x.data.toList[i]'(by omega), List.getElem?_eq_getElem _, by rw [← hb.high i hi]; exact List.getElem?_eq_getElem _⟩)
  have PART := Lib.hid (show ∀ i, x.data.toList[i]? ≠ y.data.toList[i]? → i < 256 → ∃ v u : UInt8, v ≠ u ∧ x.data.toList[i]? = some v ∧ y.data.toList[i]? = some u from fun i hi hi2 => ⟨x.data.toList[i]'(by omega), y.data.toList[i]'(by omega), fun e => hi (by rw [List.getElem?_eq_getElem (by omega), List.getElem?_eq_getElem (by omega), e]), List.getElem?_eq_getElem _, List.getElem?_eq_getElem _⟩)
  have P1 := Lib.hid (PART.out a hb.at1 (by omega))
  have P2 := Lib.hid (PART.out (z - 1) hb.at2 (by omega))
  clear PART hb hxl hyl
  have HX := Lib.hid (Box.new w (.int .i64 0) (.int .i64 0) (.string ⟨#[]⟩))
  have HB := Lib.hid ((Below.refl w.heap.size w).alloc (Nat.le_refl _) (.cells #[.int .i64 0, .int .i64 0, .string ⟨#[]⟩] 26))
  go_enter Try.func11, Try.ntmps11
  go_wp2_with fail
  refine (W0.out _).mono ?_; rintro e w1 ⟨rfl, rfl⟩
  go_wp2_with fail
  generalize w.alloc (.cells #[.int .i64 0, .int .i64 0, .string ⟨#[]⟩] 26) = X at *
  go_loopw [8] (fun v wr => ∃ i : Nat, i ≤ a ∧ v = .int .i64 i ∧ Hid (Held X wr)) (fun v _ => a - (intOf v).toNat)
  case atStart => exact ⟨0, Nat.zero_le _, rfl, Held.refl X⟩
  case round =>
    obtain ⟨i, hi, rfl, hq⟩ := hrel
    have HQ := Lib.hid hq.out
    clear hq
    by_cases hlt : i < a
    · obtain ⟨v, hv1, hv2⟩ := LOW.out i hlt
      have i1 := run_ix x i v hv1
      have i2 := run_ix y i v hv2
      have b1 : (i : Int) + 1 ≤ 256 := by omega
      clear hv1 hv2
      go_wp2_with fail
      go_quiet (fail)
      go_wp2_with fail
      go_roundw
      case rel => exact ⟨i + 1, by omega, by go_num, HQ.out.drewN _⟩
      case measure => simp [intOf]; omega
    · obtain rfl : a = i := by omega
      obtain ⟨v, u, hne3, hv1, hv2⟩ := P1.out
      have i1 := run_ix x a v hv1
      have i2 := run_ix y a u hv2
      have i3 := byte_ne hne3
      clear hv1 hv2
      go_wp2_with fail
      go_quiet (fail)
      go_wp2_with fail
      have HQ1 := Lib.hid (HQ.out.drewN nq)
      clear HQ LOW P1 i1 i2 i3 hne3
      generalize wr.drewN nq = wq at *
      go_loopw [9] (fun v wr => ∃ j : Nat, j + 1 ≤ 256 ∧ z ≤ j + 1 ∧ v = .int .i64 ((j : Int) + 1) ∧ Hid (Held X wr)) (fun v _ => (intOf v).toNat)
      case atStart => exact ⟨255, by omega, by omega, rfl, HQ1.out⟩
      case round =>
        clear HQ1
        obtain ⟨j, hj, hzj, rfl, hq⟩ := hrel
        have HQ := Lib.hid hq.out
        clear hq
        have w1 : IntKind.i64.wrap ((j : Int) + 1 - 1) = (j : Int) := by rw [Int.add_sub_cancel]; exact IntWalk.i64_in _ (by omega)
        have w2 : (j : Int) + 1 - 1 = (j : Int) := by omega
        by_cases hlt : z < j + 1
        · obtain ⟨v, hv1, hv2⟩ := HIGH.out j (by omega) (by omega)
          have i1 := run_ix x j v hv1
          have i2 := run_ix y j v hv2
          clear hv1 hv2
          go_wp2_with fail
          go_quiet (fail)
          go_wp2_with fail
          go_roundw
          case rel => exact ⟨j - 1, by omega, by omega, congrArg (Value.int .i64) (by omega), HQ.out.drewN _⟩
          case measure => first | (simp [intOf]; done) | (simp [intOf]; omega)
        · obtain rfl : z = j + 1 := by omega
          obtain ⟨v, u, hne3, hv1, hv2⟩ := P2.out
          rw [Nat.add_sub_cancel] at hv1 hv2
          have i1 := run_ix x j v hv1
          have i2 := run_ix y j u hv2
          have i3 := byte_ne hne3
          clear hv1 hv2
          go_wp2_with fail
          go_quiet (fail)
          have HB1 := Lib.hid (HB.out.trans (Below.mono (HQ.out.drewN nq) (Below.size HB.out)))
          have HX1 := Lib.hid (HX.out.kept (HQ.out.drewN nq))
          clear HQ HIGH P2 i1 i2 i3 hne3 HX HB
          generalize wr.drewN nq = wq2 at *
          obtain ⟨⟨x0, x1, x2⟩, f0, f1, f2⟩ := And.intro HX1.out.cells HX1.out.free
          rw [show ((j + 1 : Nat) : Int) = (j : Int) + 1 by omega] at SUB
          go_wp2_with fail
          refine (CL.out _).mono ?_; rintro e wc ⟨rfl, hbc⟩
          have HB2 := Lib.hid (HB1.out.trans (hbc.mono (Below.size HB1.out)))
          have HX2 := Lib.hid (HX1.out.kept hbc)
          clear hbc x0 x1 x2 f0 f1 f2 HB1 HX1
          obtain ⟨⟨x0, x1, x2⟩, f0, f1, f2⟩ := And.intro HX2.out.cells HX2.out.free
          go_wp2_with fail
          refine bodyPost_ret (v := .tuple #[.agg #[.int .i64 k, .int .i64 (a : Int), .string sub], .bool true]) (by simp [results, Try.results11, go_sem, x0, x1, x2]) rfl ⟨rfl, ?_⟩
          exact below_three HB2.out (Nat.le_refl _) _ _ _
set_option maxHeartbeats 4000000 in
theorem rdiff_yes (k : Int) (x y : ByteArray) (hk : 0 ≤ k ∧ k ≤ 63) (hx : x.size = 256) (hy : y.size = 256) (a z : Nat) (hb : Between x.data.toList y.data.toList a z) (w : World) : Calls Try.prog 12 #[.int .i64 k, .string x, .string y] w fun e w' => e = .returned (.tuple #[.agg #[.int .i64 k, .int .i64 (a : Int), .string (str ((y.data.toList.drop a).take (z - a)))], .bool true]) ∧ Below w.heap.size w w' := by
  have hxp : (x.size : Int) = 256 := by omega
  have hyp : (y.size : Int) = 256 := by omega
  have hxl : x.data.toList.length = 256 := by rw [size_data]; exact hx
  have hyl : y.data.toList.length = 256 := by rw [size_data]; exact hy
  have hne := str_ne (show x.data.toList ≠ y.data.toList from fun e => hb.at1 (by rw [e]))
  have hne' : ¬ x.toList = y.toList := fun e => by rw [e] at hne; simp at hne
  have hxy : ¬ x = y := fun e => hne' (by rw [e])
  have hz1 := hb.lt
  have hz2 := hb.le
  rw [hxl] at hz2
  have SUB := run_sub y a z (by omega) (by omega)
  obtain ⟨hk0, hk1⟩ := hk
  have hk2 : k < 64 := by omega
  generalize str ((y.data.toList.drop a).take (z - a)) = sub at *
  have LOW := Lib.hid (show ∀ i, i < a → ∃ v : UInt8, x.data.toList[i]? = some v ∧ y.data.toList[i]? = some v from fun i hi => ⟨x.data.toList[i]'(by omega), List.getElem?_eq_getElem _, by rw [← hb.low i hi]; exact List.getElem?_eq_getElem _⟩)
  have HIGH := Lib.hid (show ∀ i, z ≤ i → i < 256 → ∃ v : UInt8, x.data.toList[i]? = some v ∧ y.data.toList[i]? = some v from fun i hi hi2 => ⟨x.data.toList[i]'(by omega), List.getElem?_eq_getElem _, by rw [← hb.high i hi]; exact List.getElem?_eq_getElem _⟩)
  have PART := Lib.hid (show ∀ i, x.data.toList[i]? ≠ y.data.toList[i]? → i < 256 → ∃ v u : UInt8, v ≠ u ∧ x.data.toList[i]? = some v ∧ y.data.toList[i]? = some u from fun i hi hi2 => ⟨x.data.toList[i]'(by omega), y.data.toList[i]'(by omega), fun e => hi (by rw [List.getElem?_eq_getElem (by omega), List.getElem?_eq_getElem (by omega), e]), List.getElem?_eq_getElem _, List.getElem?_eq_getElem _⟩)
  have P1 := Lib.hid (PART.out a hb.at1 (by omega))
  have P2 := Lib.hid (PART.out (z - 1) hb.at2 (by omega))
  clear PART hb hxl hyl
  have HX := Lib.hid (Box.new w (.int .i64 0) (.int .i64 0) (.string ⟨#[]⟩))
  have HB := Lib.hid ((Below.refl w.heap.size w).alloc (Nat.le_refl _) (.cells #[.int .i64 0, .int .i64 0, .string ⟨#[]⟩] 26))
  go_enter Try.func12, Try.ntmps12
  go_wp2_with fail
  generalize w.alloc (.cells #[.int .i64 0, .int .i64 0, .string ⟨#[]⟩] 26) = X at *
  go_loopw [8] (fun v wr => ∃ i : Nat, i ≤ a ∧ v = .int .i64 i ∧ Hid (Held X wr)) (fun v _ => a - (intOf v).toNat)
  case atStart => exact ⟨0, Nat.zero_le _, rfl, Held.refl X⟩
  case round =>
    obtain ⟨i, hi, rfl, hq⟩ := hrel
    have HQ := Lib.hid hq.out
    clear hq
    by_cases hlt : i < a
    · obtain ⟨v, hv1, hv2⟩ := LOW.out i hlt
      have i1 := run_ix x i v hv1
      have i2 := run_ix y i v hv2
      have b1 : (i : Int) + 1 ≤ 256 := by omega
      clear hv1 hv2
      go_wp2_with fail
      go_quiet (fail)
      go_wp2_with fail
      go_roundw
      case rel => exact ⟨i + 1, by omega, by go_num, HQ.out.drewN _⟩
      case measure => simp [intOf]; omega
    · obtain rfl : a = i := by omega
      obtain ⟨v, u, hne3, hv1, hv2⟩ := P1.out
      have i1 := run_ix x a v hv1
      have i2 := run_ix y a u hv2
      have i3 := byte_ne hne3
      clear hv1 hv2
      go_wp2_with fail
      go_quiet (fail)
      go_wp2_with fail
      have HQ1 := Lib.hid (HQ.out.drewN nq)
      clear HQ LOW P1 i1 i2 i3 hne3
      generalize wr.drewN nq = wq at *
      go_loopw [9] (fun v wr => ∃ j : Nat, j + 1 ≤ 256 ∧ z ≤ j + 1 ∧ v = .int .i64 ((j : Int) + 1) ∧ Hid (Held X wr)) (fun v _ => (intOf v).toNat)
      case atStart => exact ⟨255, by omega, by omega, rfl, HQ1.out⟩
      case round =>
        clear HQ1
        obtain ⟨j, hj, hzj, rfl, hq⟩ := hrel
        have HQ := Lib.hid hq.out
        clear hq
        have w1 : IntKind.i64.wrap ((j : Int) + 1 - 1) = (j : Int) := by rw [Int.add_sub_cancel]; exact IntWalk.i64_in _ (by omega)
        have w2 : (j : Int) + 1 - 1 = (j : Int) := by omega
        by_cases hlt : z < j + 1
        · obtain ⟨v, hv1, hv2⟩ := HIGH.out j (by omega) (by omega)
          have i1 := run_ix x j v hv1
          have i2 := run_ix y j v hv2
          clear hv1 hv2
          go_wp2_with fail
          go_quiet (fail)
          go_wp2_with fail
          go_roundw
          case rel => exact ⟨j - 1, by omega, by omega, congrArg (Value.int .i64) (by omega), HQ.out.drewN _⟩
          case measure => first | (simp [intOf]; done) | (simp [intOf]; omega)
        · obtain rfl : z = j + 1 := by omega
          obtain ⟨v, u, hne3, hv1, hv2⟩ := P2.out
          rw [Nat.add_sub_cancel] at hv1 hv2
          have i1 := run_ix x j v hv1
          have i2 := run_ix y j u hv2
          have i3 := byte_ne hne3
          clear hv1 hv2
          go_wp2_with fail
          go_quiet (fail)
          have HB1 := Lib.hid (HB.out.trans (Below.mono (HQ.out.drewN nq) (Below.size HB.out)))
          have HX1 := Lib.hid (HX.out.kept (HQ.out.drewN nq))
          clear HQ HIGH P2 i1 i2 i3 hne3 HX HB
          generalize wr.drewN nq = wq2 at *
          obtain ⟨⟨x0, x1, x2⟩, f0, f1, f2⟩ := And.intro HX1.out.cells HX1.out.free
          rw [show ((j + 1 : Nat) : Int) = (j : Int) + 1 by omega] at SUB
          go_wp2_with fail
          refine bodyPost_ret (v := .tuple #[.agg #[.int .i64 k, .int .i64 (a : Int), .string sub], .bool true]) (by simp [results, Try.results12, go_sem, x0, x1, x2]) rfl ⟨rfl, ?_⟩
          exact below_three HB1.out (Nat.le_refl _) _ _ _
theorem diff_any (k : Int) (x y : ByteArray) (hx : x.size ≤ maxLen) (hy : y.size ≤ maxLen) (w : World) : Calls Try.prog 11 #[.int .i64 k, .string x, .string y] w fun e w' => e = .returned (.tuple #[pvP (difS k x.data.toList y.data.toList), .bool (okD k x.data.toList y.data.toList)]) ∧ Below w.heap.size w w' := by
  cases h : okD k x.data.toList y.data.toList with
  | false =>
    rw [show difS k x.data.toList y.data.toList = nilP by unfold difS; rw [h]; rfl]
    exact diff_no k x y hx hy h w
  | true =>
    rw [show difS k x.data.toList y.data.toList = dif k x.data.toList y.data.toList by unfold difS; rw [h]; rfl]
    unfold okD at h
    rw [decide_eq_true_iff, size_data, size_data] at h
    obtain ⟨h1, h2, h3, h4⟩ := h
    exact diff_yes k x y h1 h2 h3 _ _ (between (by rw [size_data, size_data, h2, h3]) h4) w
theorem rdiff_any (k : Int) (x y : ByteArray) (hx : x.size ≤ maxLen) (hy : y.size ≤ maxLen) (w : World) : Calls Try.prog 12 #[.int .i64 k, .string x, .string y] w fun e w' => e = .returned (.tuple #[pvP (difS k x.data.toList y.data.toList), .bool (okD k x.data.toList y.data.toList)]) ∧ Below w.heap.size w w' := by
  cases h : okD k x.data.toList y.data.toList with
  | false =>
    rw [show difS k x.data.toList y.data.toList = nilP by unfold difS; rw [h]; rfl]
    exact rdiff_no k x y hx hy h w
  | true =>
    rw [show difS k x.data.toList y.data.toList = dif k x.data.toList y.data.toList by unfold difS; rw [h]; rfl]
    unfold okD at h
    rw [decide_eq_true_iff, size_data, size_data] at h
    obtain ⟨h1, h2, h3, h4⟩ := h
    exact rdiff_yes k x y h1 h2 h3 _ _ (between (by rw [size_data, size_data, h2, h3]) h4) w
/-! The whole page. -/
def okW (k : Int) (y : ByteArray) : Bool := decide ((0 ≤ k ∧ k ≤ 63) ∧ y.size = 256)
def wholeS (k : Int) (y : ByteArray) : Pt := if okW k y then whole k y else nilP
theorem whole_any (k : Int) (y : ByteArray) (hy : y.size ≤ maxLen) (w : World) : Calls Try.prog 13 #[.int .i64 k, .string y] w fun e w' => e = .returned (.tuple #[pvP (wholeS k y), .bool (okW k y)]) ∧ Below w.heap.size w w' := by
  have HB := Lib.hid ((Below.refl w.heap.size w).alloc (Nat.le_refl _) (.cells #[.int .i64 0, .int .i64 0, .string ⟨#[]⟩] 26))
  have HX := Lib.hid (Box.new w (.int .i64 0) (.int .i64 0) (.string ⟨#[]⟩))
  by_cases h0 : 0 ≤ k ∧ k ≤ 63
  · have W0 := Lib.hid (exists_any k)
    rw [decide_eq_true h0] at W0
    by_cases h1 : y.size = 256
    · have h1p : (y.size : Int) = 256 := by omega
      have CL := Lib.hid (clone_any y (by omega))
      rw [show okW k y = true from decide_eq_true ⟨h0, h1⟩, show wholeS k y = whole k y by unfold wholeS; rw [show okW k y = true from decide_eq_true ⟨h0, h1⟩]; rfl]
      unfold pvP pv whole
      dsimp only
      clear h0
      go_enter Try.func13, Try.ntmps13
      go_wp2_with fail
      refine (W0.out _).mono ?_; rintro e w1 ⟨rfl, rfl⟩
      go_wp2_with fail
      refine (CL.out _).mono ?_; rintro e wc ⟨rfl, hbc⟩
      have HB2 := Lib.hid (HB.out.trans (hbc.mono (Below.size HB.out)))
      have HX2 := Lib.hid (HX.out.kept hbc)
      clear hbc HB HX
      obtain ⟨⟨x0, x1, x2⟩, f0, f1, f2⟩ := And.intro HX2.out.cells HX2.out.free
      go_wp2_with fail
      refine bodyPost_ret (v := .tuple #[.agg #[.int .i64 k, .int .i64 0, .string y], .bool true]) (by simp [results, Try.results13, go_sem, x0, x1, x2]) rfl ⟨rfl, ?_⟩
      exact below_three HB2.out (Nat.le_refl _) _ _ _
    · have h1' : ((y.size : Int) == 256) = false := by rw [beq_eq_false_iff_ne]; omega
      have h1'' : ¬ (y.size : Int) = 256 := by omega
      rw [show okW k y = false from decide_eq_false (fun h => h1 h.2), show wholeS k y = nilP by unfold wholeS; rw [show okW k y = false from decide_eq_false (fun h => h1 h.2)]; rfl]
      unfold pvP pv nilP
      dsimp only
      clear h0
      obtain ⟨⟨x0, x1, x2⟩, f0, f1, f2⟩ := And.intro HX.out.cells HX.out.free
      go_enter Try.func13, Try.ntmps13
      go_wp2_with fail
      refine (W0.out _).mono ?_; rintro e w1 ⟨rfl, rfl⟩
      go_wp2_with fail
      refine bodyPost_ret (v := .tuple #[.agg #[.int .i64 0, .int .i64 0, .string ⟨#[]⟩], .bool false]) (by simp [results, Try.results13, go_sem, x0, x1, x2]) rfl ⟨rfl, ?_⟩
      first | exact below_three HB.out (Nat.le_refl _) _ _ _ | exact HB.out
  · have W0 := Lib.hid (exists_any k)
    rw [decide_eq_false h0] at W0
    rw [show okW k y = false from decide_eq_false (fun h => h0 h.1), show wholeS k y = nilP by unfold wholeS; rw [show okW k y = false from decide_eq_false (fun h => h0 h.1)]; rfl]
    unfold pvP pv nilP
    dsimp only
    clear h0
    obtain ⟨⟨x0, x1, x2⟩, f0, f1, f2⟩ := And.intro HX.out.cells HX.out.free
    go_enter Try.func13, Try.ntmps13
    go_wp2_with fail
    refine (W0.out _).mono ?_; rintro e w1 ⟨rfl, rfl⟩
    go_wp2_with fail
    refine bodyPost_ret (v := .tuple #[.agg #[.int .i64 0, .int .i64 0, .string ⟨#[]⟩], .bool false]) (by simp [results, Try.results13, go_sem, x0, x1, x2]) rfl ⟨rfl, ?_⟩
    first | exact below_three HB.out (Nat.le_refl _) _ _ _ | exact HB.out
end Go.Proofs.Ytkopgohmocjbbaa
