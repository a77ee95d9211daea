/- The document's own Apply and All; a page that begins with bytes; the laws' first call. -/
import Derived.Test.YtkopgohmocjbbaaDiff
import Derived.Deep.RegionHeld3
namespace Go.Proofs.Ytkopgohmocjbbaa
open Go.ChangeShapes Go.WideShapes Go.ChangeAt Go.RowKit
set_option linter.unusedVariables false
set_option linter.unusedSimpArgs false
theorem strOfNums_bytes (b : BA) : strOfNums (b.map fun c => (c.toNat : Int)) = str b := by
  have h : ∀ c : UInt8, UInt8.ofNat ((c.toNat : Int)).toNat = c := fun c => by simp
  simp [strOfNums, str, List.map_map, Function.comp_def, h]
theorem getD_bytes (b : BA) (j : Nat) : (b.map fun c => (c.toNat : Int)).getD j 0 = ((b.getD j 0).toNat : Int) := by
  rw [List.getD_eq_getElem?_getD, List.getElem?_map, List.getD_eq_getElem?_getD]
  cases b[j]? <;> rfl
/-! Zeros. -/
abbrev zRow (n : Nat) : Obj := .cells (madeCells #[.int .u8 0] n) 5
theorem info_u8 : (Try.prog.info? 5).map (fun i => (i.zero, i.size, i.bytes)) = some (some (.int .u8 0), 1, 1) := by kernel_rfl
theorem zrow_get (n j : Nat) (h : j < n) : (madeCells #[Value.int .u8 0] n)[j]? = some (.int .u8 0) := by
  simp only [madeCells, Array.getElem?_map]
  rw [Array.getElem?_eq_getElem (by simpa using h)]
  simp [Nat.mod_one]
theorem convert_zeros (w : World) (n : Nat) : (convert 39 9 (.slice (some ⟨w.heap.size, 0, none⟩) n n)).run Try.prog (w.alloc (zRow n)) = .ok (.string (str (zs n))) (w.alloc (zRow n)) := by
  rw [← strOfNums_bytes]
  refine run_convert_bytes_arg (w.alloc (zRow n)) 39 5 Try.underlying39 Try.underlying5 w.heap.size 0 n n _ (by simp [zs]) (fun i hi => ?_) 9 Try.underlying9
  rw [getD_bytes, cell_of_row _ _ _ _ _ _ (heap_alloc_new w _), Nat.zero_add, zrow_get n i hi, zs, List.getD_eq_getElem?_getD, List.getElem?_replicate, if_pos hi]
  rfl
set_option maxHeartbeats 400000 in
theorem zeros_at (n : Nat) (hn : n ≤ 1000) (w : World) : Calls Try.prog 22 #[.int .i64 n] w fun e w' => e = .returned (.string (str (zs n))) ∧ w.alloc (zRow n) = w' := by
  obtain ⟨i0, hi, hz0, hz1, hz2⟩ := info_parts info_u8
  have hmk := fun w : World => run_make (P := Try.prog) w 39 5 i0 _ Try.underlying39 hi hz0 .i64 .i64 (n : Int) (n : Int) (by omega) (Int.le_refl _) (by rw [hz2]; omega) (by omega)
  rw [hz1] at hmk
  simp only [Int.toNat_natCast, Value.cells, Nat.mul_one] at hmk
  have hcv := convert_zeros w n
  unfold zRow at hcv ⊢
  obtain ⟨row, hrow⟩ : ∃ row, row = madeCells #[Value.int .u8 0] n := ⟨_, rfl⟩
  rw [← hrow] at hmk hcv ⊢
  obtain ⟨z, hz⟩ : ∃ z, z = str (zs n) := ⟨_, rfl⟩
  rw [← hz] at hcv ⊢
  clear hi hz0 hz1 hz2 hrow hz
  have k0 : (0 : Int) ≤ (n : Int) := by omega
  go_enter Try.func22, Try.ntmps22
  go_wp2_with fail
  go_ret
  exact ⟨rfl, rfl⟩
theorem zeros_ok (n : Nat) (hn : n ≤ 1000) (w : World) : Calls Try.prog 22 #[.int .i64 n] w fun e w' => e = .returned (.string (str (zs n))) ∧ Below w.heap.size w w' :=
  (zeros_at n hn w).mono fun e w' ⟨he, hw⟩ => ⟨he, hw ▸ (Below.refl _ _).alloc (Nat.le_refl _) _⟩

/-! A page that begins with bytes. -/
set_option maxHeartbeats 1000000 in
theorem page_any (s : ByteArray) (hs : s.size ≤ maxLen) (w : World) : Calls Try.prog 10 #[.string s] w fun e w' => e = .returned (.string (str (pageOf s.data.toList))) ∧ Below w.heap.size w w' := by
  unfold maxLen at hs
  by_cases h : 256 < s.size
  · have h' : (256 : Int) < (s.size : Int) := by omega
    have SL : ∀ w : World, (Instr.slice 9 (.string s) none (some (.int .i64 256)) none).run Try.prog w = .ok (.string (str (pageOf s.data.toList))) w := fun w => by
      have := run_slice_string_h (P := Try.prog) w 9 s Try.underlying9 .i64 256 (by omega) (by omega)
      rw [this, extract_str, pageOf_long (by rw [size_data]; exact h)]
      simp
    generalize str (pageOf s.data.toList) = r at *
    go_enter Try.func10, Try.ntmps10
    go_wp2_with fail
    go_ret
    exact ⟨rfl, Below.refl _ _⟩
  · have h' : ¬ (256 : Int) < (s.size : Int) := by omega
    obtain ⟨n, hn⟩ : ∃ n : Nat, n = 256 - s.size := ⟨_, rfl⟩
    have hn2 : (256 : Int) - (s.size : Int) = (n : Int) := by omega
    have e1 : IntKind.i64.wrap (256 - (s.size : Int)) = (n : Int) := by rw [hn2]; exact IntWalk.i64_in _ (by omega)
    have ZR := Lib.hid (fun w => zeros_ok n (by omega) w)
    have HE := Lib.hid (show s ++ str (zs n) = str (pageOf s.data.toList) by rw [str_append, pageOf_short (by rw [size_data]; omega), size_data, hn])
    have hz : (str (zs n)).size = n := by rw [str_size, zs_length]
    generalize str (pageOf s.data.toList) = r at *
    generalize str (zs n) = z at *
    have hnn : s.size + n = 256 := by omega
    clear hn hn2
    go_enter Try.func10, Try.ntmps10
    go_wp2_with fail
    refine (ZR.out _).mono ?_; rintro e w1 ⟨rfl, hb⟩
    have HB := Lib.hid hb
    clear hb
    go_wp2_with fail
    go_ret
    exact ⟨by rw [← HE.out]; rfl, HB.out⟩
/-! The document's own Apply. -/
set_option maxHeartbeats 2000000 in
theorem rapply_any (k a : Int) (s b : ByteArray) (hs : s.size ≤ maxLen) (hb : b.size ≤ maxLen) (w : World) :
    Calls Try.prog 15 #[.string b, pv k a s] w fun e w' => e = .returned (.tuple #[.string (str (applyS b.data.toList ⟨k, a, s⟩)), .bool (applyOk b.data.toList ⟨k, a, s⟩)]) ∧ Below w.heap.size w w' := by
  have HX := Lib.hid (Box.new w (.int .i64 k) (.int .i64 a) (.string s))
  have HA := Lib.hid ((Below.refl w.heap.size w).alloc (Nat.le_refl _) (.cells #[.int .i64 k, .int .i64 a, .string s] 26))
  have R := Lib.hid (rright_any k a s hs)
  by_cases h : b.size = 256
  · have h' : (b.size : Int) = 256 := by omega
    have hbl : b.data.toList.length = 256 := by rw [size_data]; exact h
    cases g : okP ⟨k, a, s⟩ with
    | true =>
      rw [g] at R
      rw [show applyS b.data.toList ⟨k, a, s⟩ = over b.data.toList ⟨k, a, s⟩ by unfold applyS applyOk; rw [g, decide_eq_true hbl]; rfl, show applyOk b.data.toList ⟨k, a, s⟩ = true by unfold applyOk; rw [g, decide_eq_true hbl]; rfl]
      obtain ⟨_, q1, q2, q3⟩ := okP_iff.1 g
      dsimp only at q1 q2 q3
      obtain ⟨n, rfl⟩ : ∃ n : Nat, a = (n : Int) := ⟨a.toNat, by omega⟩
      have SL1 : ∀ w : World, (Instr.slice 9 (.string b) none (some (.int .i64 (n : Int))) none).run Try.prog w = .ok (.string (str (b.data.toList.take n))) w := fun w => by
        rw [run_slice_string_h (P := Try.prog) w 9 b Try.underlying9 .i64 (n : Int) (by omega) (by omega), extract_str]
        simp
      have SL2 : ∀ w : World, (Instr.slice 9 (.string b) (some (.int .i64 ((n : Int) + (s.size : Int)))) none none).run Try.prog w = .ok (.string (str (b.data.toList.drop (n + s.size)))) w := fun w => by
        rw [run_slice_string_l (P := Try.prog) w 9 b Try.underlying9 .i64 ((n : Int) + (s.size : Int)) (by omega) (by omega), extract_str]
        rw [show ((n : Int) + (s.size : Int)).toNat = n + s.size by omega, List.take_of_length_le (by rw [List.length_drop, hbl, h]; omega)]
      have e1 : IntKind.i64.wrap ((n : Int) + (s.size : Int)) = (n : Int) + (s.size : Int) := IntWalk.i64_in _ (by omega)
      have HE := Lib.hid (show (str (b.data.toList.take n) ++ s) ++ str (b.data.toList.drop (n + s.size)) = str (over b.data.toList ⟨k, n, s⟩) by
        rw [append_str, append_str, str_toList, str_toList]
        rfl)
      have hs1 : (str (b.data.toList.take n)).size = n := by rw [str_size, List.length_take]; omega
      have hs2 : (str (b.data.toList.drop (n + s.size))).size = 256 - (n + s.size) := by rw [str_size, List.length_drop]; omega
      have hs3 : (str (b.data.toList.take n) ++ s).size = n + s.size := by rw [ByteArray.size_append, hs1]
      generalize str (over b.data.toList ⟨k, n, s⟩) = OV at *
      generalize str (b.data.toList.take n) = T1 at *
      generalize str (b.data.toList.drop (n + s.size)) = T2 at *
      unfold pv at *
      clear hb hbl g hs
      go_enter Try.func15, Try.ntmps15
      obtain ⟨x0, x1, x2⟩ := HX.out.cells
      go_wp2_with fail
      generalize w.alloc (.cells #[.int .i64 k, .int .i64 n, .string s] 26) = W at *
      refine (R.out _).mono ?_; rintro e w1 ⟨rfl, hb1⟩
      have HX1 := Lib.hid (HX.out.kept hb1)
      have HB1 := Lib.hid (HA.out.trans (hb1.mono HA.out.size))
      clear hb1 x0 x1 x2 HX HA
      obtain ⟨x0, x1, x2⟩ := HX1.out.cells
      go_wp2_with fail
      go_quiet (fail)
      go_wp2_with fail
      go_ret2
      exact ⟨by rw [← HE.out]; rfl, HB1.out.trans ⟨rfl, rfl, rfl, Nat.le_refl _, fun _ _ => rfl⟩⟩
    | false =>
      rw [g] at R
      rw [show applyS b.data.toList ⟨k, a, s⟩ = [] by unfold applyS applyOk; rw [g, Bool.and_false]; rfl, show applyOk b.data.toList ⟨k, a, s⟩ = false by unfold applyOk; rw [g, Bool.and_false], show str [] = ByteArray.mk #[] from rfl]
      unfold pv at *
      clear hb hbl g hs
      obtain ⟨x0, x1, x2⟩ := HX.out.cells
      go_enter Try.func15, Try.ntmps15
      go_wp2_with fail
      refine (R.out _).mono ?_; rintro e w1 ⟨rfl, hb1⟩
      have HB1 := Lib.hid (HA.out.trans (hb1.mono HA.out.size))
      clear hb1
      go_wp2_with fail
      go_ret2
      exact ⟨rfl, HB1.out⟩
  · have h' : ((b.size : Int) == 256) = false := by rw [beq_eq_false_iff_ne]; omega
    have h'' : ¬ (b.size : Int) = 256 := by omega
    have hbl : ¬ b.data.toList.length = 256 := by rw [size_data]; exact h
    rw [show applyS b.data.toList ⟨k, a, s⟩ = [] by unfold applyS applyOk; rw [decide_eq_false hbl]; rfl, show applyOk b.data.toList ⟨k, a, s⟩ = false by unfold applyOk; rw [decide_eq_false hbl]; rfl, show str [] = ByteArray.mk #[] from rfl]
    unfold pv
    clear hbl h hs hb
    go_enter Try.func15, Try.ntmps15
    go_wp2_with fail
    go_ret2
    exact ⟨rfl, HA.out⟩
/-! The document's own All. -/
set_option maxHeartbeats 2000000 in
theorem rall_walk {C n lc : Nat} {A : Option Addr} {b : ByteArray} {l : List Pt} {page : Int} (w : World) (hl : Pts C w A l) (hn : l.length = n) (hC : C ≤ w.heap.size) (hb : b.size ≤ maxLen) :
    Calls Try.prog 20 #[.string b, .int .i64 page, .slice A n lc] w fun e w' => e = .returned (.tuple #[.string (str (allS page b.data.toList l)), .bool (allOk b.data.toList l)]) ∧ Below w.heap.size w w' := by
  by_cases h : b.size = 256
  · have h' : (b.size : Int) = 256 := by omega
    have hbl : b.data.toList.length = 256 := by rw [size_data]; exact h
    have HP := Lib.hid hl
    have HN := Lib.hid hn
    have HC := Lib.hid hC
    have HBL := Lib.hid hbl
    have hm := hl.2.2
    unfold maxLen at hm
    have hN : (n : Int) ≤ 9223372036854775807 := by omega
    clear hl hn hC hbl hm hb
    go_enter Try.func20, Try.ntmps20
    go_wp2_with fail
    go_loopw [0, 8] (fun bv x wr => ∃ k : Nat, k ≤ n ∧ x = .int .i64 k ∧ bv = .string (str (folds page b.data.toList (l.take k))) ∧ Hid (Below w.heap.size w wr ∧ (l.take k).all okP = true)) (fun _ x _ => n - (intOf x).toNat)
    case atStart => exact ⟨0, Nat.zero_le _, rfl, by rw [List.take_zero, folds_nil, str_data], Below.refl _ _, rfl⟩
    case round =>
      obtain ⟨k, hk, rfl, rfl, hq⟩ := hrel
      have HQ := Lib.hid hq.out
      clear hq
      by_cases hlt : k < n
      · have hkl : k < l.length := by rw [HN.out]; exact hlt
        obtain ⟨bl, off, rfl, hbl, hp⟩ := HP.out.1 k hkl
        have HBL2 := Lib.hid (Nat.lt_of_lt_of_le hbl HC.out)
        obtain ⟨c0, c1, c2⟩ := hp.kept (w' := wr) HBL2.out HQ.out.1
        have HPA := Lib.hid (hp.kept (w' := wr) HBL2.out HQ.out.1)
        have HT := Lib.hid (show folds page b.data.toList (l.take (k + 1)) = stepP page (folds page b.data.toList (l.take k)) (l.getD k nilP) by rw [take_snoc l k hkl, folds_snoc])
        have HAT := Lib.hid (all_take l k hkl)
        have HAF := Lib.hid (all_no l k hkl)
        have HSZ := Lib.hid (HP.out.size k hkl)
        have HLE := Lib.hid (show (folds page b.data.toList (l.take k)).length = 256 from folds_length (fun p hp => okP_iff.1 (List.all_eq_true.1 HQ.out.2 p hp)) HBL.out)
        generalize (l.getD k nilP) = p at *
        obtain ⟨pk, po, pb⟩ := p
        have HW := Lib.hid (rright_any pk po pb HSZ.out wr)
        have HRA := Lib.hid (fun r => rapply_any pk po pb (str (folds page b.data.toList (l.take k))) HSZ.out (by rw [str_size, HLE.out]; unfold maxLen; omega) r)
        rw [str_toList] at HRA
        unfold pv at HW HRA
        dsimp only at c0 c1 c2
        clear hbl hp
        have b1 : (0 : Int) ≤ (k : Int) := by omega
        have b2 : (k : Int) < (n : Int) := by omega
        cases g : okP ⟨pk, po, pb⟩ with
        | true =>
          rw [g] at HW HAT
          rw [show applyS (folds page b.data.toList (l.take k)) ⟨pk, po, pb⟩ = over (folds page b.data.toList (l.take k)) ⟨pk, po, pb⟩ by unfold applyS applyOk; rw [g, decide_eq_true HLE.out]; rfl] at HRA
          obtain ⟨CS, hCS⟩ : ∃ CS, CS = str (folds page b.data.toList (l.take k)) := ⟨_, rfl⟩
          rw [← hCS] at HRA ⊢
          have HCS := Lib.hid hCS
          clear hCS
          clear HAF g
          by_cases hpg : pk = page
          · have e1 : (pk == page) = true := by simpa using hpg
            have HT2 := Lib.hid (show folds page b.data.toList (l.take (k + 1)) = over (folds page b.data.toList (l.take k)) ⟨pk, po, pb⟩ by rw [HT.out]; unfold stepP; rw [if_pos hpg])
            rw [← HT2.out] at HRA
            clear hpg HT
            go_wp2_with fail
            refine HW.out.mono ?_; rintro e w1 ⟨rfl, hb⟩
            have H1 := Lib.hid (HQ.out.1.trans (hb.mono HQ.out.1.size))
            obtain ⟨c0, c1, c2⟩ := HPA.out.kept (w' := w1) (Nat.lt_of_lt_of_le HBL2.out HQ.out.1.size) hb
            clear hb
            go_wp2_with fail
            refine (HRA.out _).mono ?_; rintro e w2 ⟨rfl, hb⟩
            have H2 := Lib.hid (H1.out.trans (hb.mono H1.out.size))
            clear hb c0 c1 c2
            go_wp2_with fail
            go_roundw
            case rel => exact ⟨k + 1, by omega, by go_num, rfl, H2.out, by rw [HAT.out, HQ.out.2]; rfl⟩
            case measure => simp [intOf]; omega
          · have e1 : (pk == page) = false := by simpa using hpg
            have HT2 := Lib.hid (show folds page b.data.toList (l.take (k + 1)) = folds page b.data.toList (l.take k) by rw [HT.out]; unfold stepP; rw [if_neg hpg])
            clear hpg HT
            go_wp2_with fail
            refine HW.out.mono ?_; rintro e w1 ⟨rfl, hb⟩
            have H1 := Lib.hid (HQ.out.1.trans (hb.mono HQ.out.1.size))
            obtain ⟨c0, c1, c2⟩ := HPA.out.kept (w' := w1) (Nat.lt_of_lt_of_le HBL2.out HQ.out.1.size) hb
            clear hb
            go_wp2_with fail
            go_roundw
            case rel => exact ⟨k + 1, by omega, by go_num, by rw [HT2.out, HCS.out], H1.out, by rw [HAT.out, HQ.out.2]; rfl⟩
            case measure => simp [intOf]; omega
        | false =>
          rw [g] at HW
          have HG := Lib.hid (HAF.out g)
          have HE1 := Lib.hid (show allS page b.data.toList l = [] by unfold allS allOk; rw [HG.out, Bool.and_false]; rfl)
          have HE2 := Lib.hid (show allOk b.data.toList l = false by unfold allOk; rw [HG.out, Bool.and_false])
          clear HAF HAT g HG HRA HT
          go_wp2_with fail
          refine HW.out.mono ?_; rintro e w1 ⟨rfl, hb⟩
          have H1 := Lib.hid (HQ.out.1.trans (hb.mono HQ.out.1.size))
          clear hb c0 c1 c2
          go_wp2_with fail
          go_ret2
          exact ⟨by rw [HE1.out, HE2.out]; rfl, H1.out⟩
      · obtain rfl : n = k := by omega
        have hall := HQ.out.2
        rw [List.take_of_length_le (by rw [HN.out]; omega)] at hall
        have HTK := Lib.hid (show l.take n = l from List.take_of_length_le (by rw [HN.out]; omega))
        have HE := Lib.hid (show allS page b.data.toList l = folds page b.data.toList l by unfold allS allOk; rw [hall, decide_eq_true HBL.out]; rfl)
        have HO := Lib.hid (show allOk b.data.toList l = true by unfold allOk; rw [hall, decide_eq_true HBL.out]; rfl)
        clear hall
        go_wp2_with fail
        go_ret2
        exact ⟨by rw [HE.out, HO.out, HTK.out]; rfl, HQ.out.1⟩
  · have h' : ((b.size : Int) == 256) = false := by rw [beq_eq_false_iff_ne]; omega
    have h'' : ¬ (b.size : Int) = 256 := by omega
    have hbl : ¬ b.data.toList.length = 256 := by rw [size_data]; exact h
    rw [show allS page b.data.toList l = [] by unfold allS allOk; rw [decide_eq_false hbl]; rfl, show allOk b.data.toList l = false by unfold allOk; rw [decide_eq_false hbl]; rfl, show str [] = ByteArray.mk #[] from rfl]
    clear hl hn hC hbl h
    go_enter Try.func20, Try.ntmps20
    go_wp2_with fail
    go_ret2
    exact ⟨rfl, Below.refl _ _⟩
end Go.Proofs.Ytkopgohmocjbbaa
