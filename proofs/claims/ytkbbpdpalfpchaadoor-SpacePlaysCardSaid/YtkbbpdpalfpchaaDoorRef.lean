/- The document's own Map and Mapped. -/
import Derived.Test.YtkbbpdpalfpchaaDoorTake
import Derived.LoopTactic
import Derived.BigQuiet
import Derived.Deep.RegionHeld3
import Derived.Deep.RegionWith
namespace Go.Proofs.YtkbbpdpalfpchaaDoor
open Go.ChangeShapes Go.WideShapes Go.ChangeAt Go.RowKit
set_option linter.unusedVariables false
set_option linter.unusedSimpArgs false
set_option maxRecDepth 100000
theorem strOfNums_bytes (b : BA) : strOfNums (b.map fun c => (c.toNat : Int)) = str b := by
  have h : ∀ c : UInt8, UInt8.ofNat ((c.toNat : Int)).toNat = c := fun c => by simp
  simp [strOfNums, str, List.map_map, Function.comp_def, h]
theorem getD_bytes (b : BA) (j : Nat) : (b.map fun c => (c.toNat : Int)).getD j 0 = ((b.getD j 0).toNat : Int) := by
  rw [List.getD_eq_getElem?_getD, List.getElem?_map, List.getD_eq_getElem?_getD]
  cases b[j]? <;> rfl
/-! Zeros. -/
abbrev zRow (n : Nat) : Obj := .cells (madeCells #[.int .u8 0] n) 5
theorem info_u8 : (Tryd.prog.info? 5).map (fun i => (i.zero, i.size, i.bytes)) = some (some (.int .u8 0), 1, 1) := by kernel_rfl
theorem zrow_get (n j : Nat) (h : j < n) : (madeCells #[Value.int .u8 0] n)[j]? = some (.int .u8 0) := by
  simp only [madeCells, Array.getElem?_map]
  rw [Array.getElem?_eq_getElem (by simpa using h)]
  simp [Nat.mod_one]
theorem convert_zeros (w : World) (n : Nat) : (convert 49 9 (.slice (some ⟨w.heap.size, 0, none⟩) n n)).run Tryd.prog (w.alloc (zRow n)) = .ok (.string (str (zs n))) (w.alloc (zRow n)) := by
  rw [← strOfNums_bytes]
  refine run_convert_bytes_arg (w.alloc (zRow n)) 49 5 Tryd.underlying49 Tryd.underlying5 w.heap.size 0 n n _ (by simp [zs]) (fun i hi => ?_) 9 Tryd.underlying9
  rw [getD_bytes, cell_of_row _ _ _ _ _ _ (heap_alloc_new w _), Nat.zero_add, zrow_get n i hi, zs, List.getD_eq_getElem?_getD, List.getElem?_replicate, if_pos hi]
  rfl
set_option maxHeartbeats 400000 in
theorem zeros_ok (n : Nat) (hn : n ≤ 1000) (w : World) : Calls Tryd.prog 21 #[.int .i64 n] w fun e w' => e = .returned (.string (str (zs n))) ∧ Below w.heap.size w w' := by
  obtain ⟨i0, hi, hz0, hz1, hz2⟩ := info_parts info_u8
  have hmk := fun w : World => run_make (P := Tryd.prog) w 49 5 i0 _ Tryd.underlying49 hi hz0 .i64 .i64 (n : Int) (n : Int) (by omega) (Int.le_refl _) (by rw [hz2]; omega) (by omega)
  rw [hz1] at hmk
  simp only [Int.toNat_natCast, Value.cells, Nat.mul_one] at hmk
  have hcv := convert_zeros w n
  unfold zRow at hcv
  obtain ⟨row, hrow⟩ : ∃ row, row = madeCells #[Value.int .u8 0] n := ⟨_, rfl⟩
  rw [← hrow] at hmk hcv
  obtain ⟨z, hz⟩ : ∃ z, z = str (zs n) := ⟨_, rfl⟩
  rw [← hz] at hcv ⊢
  clear hi hz0 hz1 hz2 hrow hz
  have k0 : (0 : Int) ≤ (n : Int) := by omega
  go_enter Tryd.func21, Tryd.ntmps21
  go_wp2_with fail
  go_ret
  exact ⟨rfl, (Below.refl _ _).alloc (Nat.le_refl _) _⟩
theorem run_ix (b : BA) (i : Nat) (hi : i < b.length) (w : World) : (Instr.index 9 (.string (str b)) (.int .i64 i)).run Tryd.prog w = .ok (.int .u8 ((b.getD i 0).toNat : Int)) w := by
  have hs : i < (str b).size := by rw [str_size]; exact hi
  rw [run_index_string w 9 (str b) .i64 (i : Int) Tryd.underlying9, dif_pos ⟨by omega, by omega⟩]
  have e : (str b)[((i : Int)).toNat]'(by omega) = b.getD i 0 := by
    rw [List.getD_eq_getElem?_getD, List.getElem?_eq_getElem hi]
    show ((str b).data[i]'_) = _
    simp [str]
  rw [e]
theorem pbox_start (w : World) (k d x : Int) (b : ByteArray) : PBox (w.alloc (.cells #[.int .i64 k, .int .i64 d, .int .i64 x, .string b] 23)) w.heap.size k d x b ∧ Below w.heap.size w (w.alloc (.cells #[.int .i64 k, .int .i64 d, .int .i64 x, .string b] 23)) := ⟨PBox.new _ _ _ _ _, (Below.refl _ _).alloc (Nat.le_refl _) _⟩
/-- Behind X: all that was there stands. -/
def Held (X w : World) : Prop := Below X.heap.size X w
theorem Held.start (X : World) : Held X X.drew := (Below.refl _ _).drew
theorem Held.step {X w w' : World} (h : Held X w) (hb : Below w.heap.size w w') : Held X w' := Below.trans h (hb.mono (Below.size h))
/-! A byte turned. -/
abbrev oneRow (c : UInt8) : Obj := .cells #[.int .u8 (c.toNat : Int)] 5
theorem convert_at (w : World) (B : Nat) (c : UInt8) (h : w.heap[B]? = some (.cells #[.int .u8 (c.toNat : Int)] 5 (0, 0))) : (convert 49 9 (.slice (some ⟨B, 0, none⟩) 1 1)).run Tryd.prog w = .ok (.string (str [c])) w := by
  rw [← strOfNums_bytes]
  refine run_convert_bytes_arg w 49 5 Tryd.underlying49 Tryd.underlying5 B 0 1 1 _ rfl (fun i hi => ?_) 9 Tryd.underlying9
  rw [getD_bytes, cell_of_row _ _ _ _ _ _ h, Nat.zero_add]
  obtain rfl : i = 0 := by omega
  rfl
set_option maxHeartbeats 1000000 in
theorem mapped_any (d x : Int) (m : BA) (c : UInt8) (n : Nat) (hm : m.length ≤ 240) (hn : n < m.length) (w : World) : Calls Tryd.prog 13 #[pv 2 d x (mk m), .int .i64 n, .int .u8 c.toNat] w fun e w' => e = .returned (pv 2 d x (mk (m.set n c))) ∧ Below w.heap.size w w' := by
  have hml := mk_length hm
  have HE := Lib.hid (show (str ((mk m).take n) ++ str [c]) ++ str ((mk m).drop (n + 1)) = str (mk (m.set n c)) by
    rw [str_join, str_join, mk_set hn])
  have hs : ((str (mk m)).size : Int) = 240 := by rw [str_size, hml]; rfl
  have SL1 : ∀ w : World, (Instr.slice 9 (.string (str (mk m))) none (some (.int .i64 (n : Int))) none).run Tryd.prog w = .ok (.string (str ((mk m).take n))) w := fun w => by
    rw [run_slice_string_h (P := Tryd.prog) w 9 (str (mk m)) Tryd.underlying9 .i64 (n : Int) (by omega) (by omega), extract_str, str_toList]
    simp
  have SL2 : ∀ w : World, (Instr.slice 9 (.string (str (mk m))) (some (.int .i64 ((n : Int) + 1))) none none).run Tryd.prog w = .ok (.string (str ((mk m).drop (n + 1)))) w := fun w => by
    rw [run_slice_string_l (P := Tryd.prog) w 9 (str (mk m)) Tryd.underlying9 .i64 ((n : Int) + 1) (by omega) (by omega), extract_str, str_toList, show ((n : Int) + 1).toNat = n + 1 by omega, List.take_of_length_le (by rw [List.length_drop, hml, str_size, hml]; omega)]
  have e1 : IntKind.i64.wrap ((n : Int) + 1) = (n : Int) + 1 := IntWalk.i64_in _ (by omega)
  have s1 : (str ((mk m).take n)).size = n := by rw [str_size, List.length_take]; omega
  have s2 : (str ((mk m).drop (n + 1))).size = 239 - n := by rw [str_size, List.length_drop]; omega
  have sc : (str [c]).size = 1 := rfl
  have s3 : (str ((mk m).take n) ++ str [c]).size = n + 1 := by rw [ByteArray.size_append, s1]; rfl
  have HCV := Lib.hid (fun w : World => convert_at (w.alloc (.cells #[.int .u8 (c.toNat : Int)] 5)).drew w.heap.size c (heap_alloc_new w _))
  have H0 := Lib.hid (two_start w 2 d x (str (mk m)))
  unfold pv
  generalize str (mk m) = b at *
  generalize str (mk (m.set n c)) = b2 at *
  generalize str ((mk m).take n) = T1 at *
  generalize str ((mk m).drop (n + 1)) = T2 at *
  generalize str [c] = cc at *
  generalize ((c.toNat : Nat) : Int) = ci at *
  have k0 : (0 : Int) ≤ (n : Int) := by omega
  clear hml
  obtain ⟨W, hW⟩ : ∃ W, W = (w.alloc (.cells #[.int .i64 2, .int .i64 d, .int .i64 x, .string b] 23)).alloc (.cells #[.int .i64 0, .int .i64 0, .int .i64 0, .string ⟨#[]⟩] 23) := ⟨_, rfl⟩
  rw [← hW] at H0
  have X0 := Lib.hid H0.out.1
  have Y0 := Lib.hid H0.out.2.1
  have HB0 := Lib.hid H0.out.2.2
  clear H0
  go_enter Tryd.func13, Tryd.ntmps13
  go_wp2_with fail
  rw [← hW]
  clear hW
  obtain ⟨⟨x0, x1, x2, x3⟩, f0, f1, f2, f3⟩ := And.intro X0.out.cells X0.out.free
  have hcv := HCV.out W
  have hbl := (Below.refl W.heap.size W).alloc (Nat.le_refl _) (.cells #[.int .u8 ci] 5)
  obtain ⟨⟨p0, p1, p2, p3⟩, q0, q1, q2, q3⟩ := And.intro (X0.out.kept hbl).cells (X0.out.kept hbl).free
  have n240 : n < 240 := by omega
  go_region
  have hne := X0.out.lt
  have X1 := Lib.hid ((X0.out.kept hbl).set1 (T1 ++ cc ++ T2)).drew
  have Y1 := Lib.hid (show PBox (((W.alloc (.cells #[.int .u8 ci] 5)).setCell ⟨w.heap.size, 3, none⟩ (.string (T1 ++ cc ++ T2))).drew) (w.heap.size + 1) 0 0 0 ⟨#[]⟩ from (Y0.out.kept hbl).heap (Below.heap_setCell _ _ _ _ (show w.heap.size + 1 ≠ w.heap.size by omega)))
  have HB1 := Lib.hid ((below_set1 (i := 3) (u := .string (T1 ++ cc ++ T2)) (HB0.out.trans (hbl.mono HB0.out.size)) (Nat.le_refl _)).drew)
  rw [HE.out] at X1 Y1 HB1 ⊢
  generalize ((W.alloc (.cells #[.int .u8 ci] 5)).setCell ⟨w.heap.size, 3, none⟩ (.string b2)).drew = V at *
  clear x0 x1 x2 x3 f0 f1 f2 f3 p0 p1 p2 p3 q0 q1 q2 q3 X0 Y0 HB0 hbl hne hcv
  obtain ⟨⟨x0, x1, x2, x3⟩, f0, f1, f2, f3⟩ := And.intro X1.out.cells X1.out.free
  obtain ⟨⟨y0, y1, y2, y3⟩, g0, g1, g2, g3⟩ := And.intro Y1.out.cells Y1.out.free
  go_wp2_with fail
  have Z := Lib.hid (Y1.out.set4 2 d x b2)
  obtain ⟨z0, z1, z2, z3⟩ := Z.out.cells
  refine bodyPost_ret (v := .agg #[.int .i64 2, .int .i64 d, .int .i64 x, .string b2]) (by simp [results, Tryd.results13, go_sem, z0, z1, z2, z3]) rfl ⟨rfl, ?_⟩
  exact below_set4 HB1.out (Nat.le_add_right _ 1)
/-! Map: where the marks end. -/
theorem getD_getElem? {b : BA} {i : Nat} {c : UInt8} (hc : c ≠ 0) : b.getD i 0 = c ↔ b[i]? = some c := by
  rw [List.getD_eq_getElem?_getD]
  cases b[i]? with
  | none => simp; exact fun h => hc h.symm
  | some a => simp
/-- How far the marks of pages go. -/
def Upto (b : BA) (n : Nat) : Prop := (∀ i, i < n → b.getD i 0 = 1 ∨ b.getD i 0 = 2) ∧ (b.getD n 0 ≠ 1 ∧ b.getD n 0 ≠ 2)
theorem mk_getD_past {m : BA} {i : Nat} (h : m.length ≤ i) : (mk m).getD i 0 = 0 := by
  unfold mk
  rw [List.getD_eq_getElem?_getD, List.getElem?_append_right h, zs, List.getElem?_replicate]
  split <;> rfl
theorem upto_mk {m : BA} (h : Good m) {n : Nat} (hu : Upto (mk m) n) : n = m.length := by
  rcases Nat.lt_trichotomy n m.length with h1 | h1 | h1
  · exfalso
    have hb : (mk m).getD n 0 ≠ 1 ∧ (mk m).getD n 0 ≠ 2 := hu.2
    rw [getD_mk h1] at hb
    rcases at_or h h1 with e | e
    · exact hb.1 ((getD_getElem? (by decide)).2 e)
    · exact hb.2 ((getD_getElem? (by decide)).2 e)
  · exact h1
  · exfalso
    rcases hu.1 _ h1 with e | e
    · rw [mk_getD_past (Nat.le_refl _)] at e; exact absurd e (by decide)
    · rw [mk_getD_past (Nat.le_refl _)] at e; exact absurd e (by decide)
theorem map_yes {b : BA} (hl : b.length = 240) {n : Nat} (hu : Upto b n) (h8 : 8 ≤ n) (h64 : n ≤ 64) (hz : b.drop n = zs (240 - n)) (h0 : b.getD 0 0 = 1) (h1 : b.getD 1 0 = 1) : (marksS 2 b).length = n := by
  have hg : Good (b.take n) := by
    have e : (b.take n).length = n := by rw [List.length_take]; omega
    refine ⟨by rw [e]; exact ⟨h8, h64⟩, ⟨?_, ?_⟩, fun i x hi => ?_⟩
    · rw [List.getElem?_take, if_pos (by omega)]; exact (getD_getElem? (by decide)).1 h0
    · rw [List.getElem?_take, if_pos (by omega)]; exact (getD_getElem? (by decide)).1 h1
    · rw [List.getElem?_take] at hi
      split at hi
      · next hlt =>
        have := hu.1 i hlt
        rw [List.getD_eq_getElem?_getD, hi] at this
        exact this
      · cases hi
  have hb : b = mk (b.take n) := by
    unfold mk
    rw [List.length_take, show min n b.length = n by omega, ← hz, List.take_append_drop]
  rw [hb, marksS_mk hg, List.length_take]
  omega
theorem map_no {b : BA} {n : Nat} (h : ∀ m, Good m → b = mk m → n ≠ m.length) (hu : Upto b n) : (marksS 2 b).length = 0 := by
  rcases marksS_cases 2 b with h' | ⟨_, hg, hb⟩
  · rw [h']; rfl
  · exfalso
    rw [hb] at hu
    exact h _ hg hb (upto_mk hg hu)
theorem map_past {b : BA} (hl : b.length = 240) (h : ∀ i, i < 240 → b.getD i 0 = 1 ∨ b.getD i 0 = 2) : (marksS 2 b).length = 0 := by
  rcases marksS_cases 2 b with h' | ⟨_, hg, hb⟩
  · rw [h']; rfl
  · exfalso
    have hm := hg.1
    have := h (marksS 2 b).length (by omega)
    rw [show b.getD (marksS 2 b).length 0 = (mk (marksS 2 b)).getD (marksS 2 b).length 0 by rw [← hb], mk_getD_past (Nat.le_refl _)] at this
    rcases this with e | e <;> exact absurd e (by decide)
theorem toNat_ne {c e : UInt8} (h : c ≠ e) : (((c.toNat : Nat) : Int) == ((e.toNat : Nat) : Int)) = false := by
  rw [beq_eq_false_iff_ne]
  intro hh
  exact h (UInt8.toNat_inj.1 (by omega))
theorem str_toList_ne {a b : BA} (h : a ≠ b) : ((str a).toList == (str b).toList) = false ∧ ((str a).toList != (str b).toList) = true := by
  rw [str_list, str_list]
  exact ⟨beq_eq_false_iff_ne.2 h, bne_iff_ne.2 h⟩
theorem rmap_none (k d x : Int) (b : BA) (h : k ≠ 2 ∨ b.length ≠ 240) (w : World) : Calls Tryd.prog 11 #[pv k d x b] w fun e w' => e = .returned (.int .i64 0) ∧ Below w.heap.size w w' := by
  have HB0 := Lib.hid (pbox_start w k d x (str b)).2
  have hs : ((str b).size : Int) = (b.length : Int) := by rw [str_size]
  unfold pv
  by_cases hk : k = 2
  · have hl : ((b.length : Int) == 240) = false := by rw [beq_eq_false_iff_ne]; omega
    subst hk
    generalize str b = s at *
    go_enter Tryd.func11, Tryd.ntmps11
    go_wp2_with fail
    go_ret
    exact ⟨rfl, HB0.out⟩
  · have hkb : (k == 2) = false := by simpa using hk
    generalize str b = s at *
    go_enter Tryd.func11, Tryd.ntmps11
    go_wp2_with fail
    go_ret
    exact ⟨rfl, HB0.out⟩
set_option maxHeartbeats 8000000 in
theorem rmap_main (d x : Int) (b : BA) (hl : b.length = 240) (w : World) : Calls Tryd.prog 11 #[pv 2 d x b] w fun e w' => e = .returned (.int .i64 ((marksS 2 b).length)) ∧ Below w.heap.size w w' := by
  have X0 := Lib.hid (PBox.new w 2 d x (str b))
  have HB0 := Lib.hid (pbox_start w 2 d x (str b)).2
  have hs : ((str b).size : Int) = 240 := by rw [str_size, hl]; rfl
  have IX := Lib.hid (fun i (hi : i < 240) w => run_ix b i (by omega) w)
  unfold pv
  obtain ⟨s, hsb⟩ : ∃ s, s = str b := ⟨_, rfl⟩
  have HSB := Lib.hid hsb
  rw [← hsb] at X0 HB0 hs IX ⊢
  clear hsb
  obtain ⟨B, hB⟩ : ∃ B, B = w.heap.size := ⟨_, rfl⟩
  have HBE := Lib.hid hB.symm
  rw [← hB] at X0
  clear hB
  obtain ⟨W0, hW⟩ : ∃ W0, W0 = w.alloc (.cells #[.int .i64 2, .int .i64 d, .int .i64 x, .string s] 23) := ⟨_, rfl⟩
  rw [← hW] at X0 HB0
  have HL := Lib.hid hl
  clear hl
  go_enter Tryd.func11, Tryd.ntmps11
  go_wp2_with fail
  rw [← hW, HBE.out]
  clear hW
  go_loopw [3] (fun v wr => ∃ j : Nat, j ≤ 240 ∧ v = .int .i64 j ∧ Hid ((∀ i, i < j → b.getD i 0 = 1 ∨ b.getD i 0 = 2) ∧ PBox wr B 2 d x s ∧ Below w.heap.size w wr)) (fun v _ => 240 - (intOf v).toNat)
  case atStart => exact ⟨0, Nat.zero_le _, rfl, fun i hi => by omega, X0.out, HB0.out⟩
  case round =>
    obtain ⟨j, hj, rfl, hq⟩ := hrel
    have HI := Lib.hid hq.out.1
    have X1 := Lib.hid hq.out.2.1
    have HB1 := Lib.hid hq.out.2.2
    clear hq X0 HB0
    have j0 : (0 : Int) ≤ (j : Int) := by omega
    by_cases hlt : j < 240
    · have j1 : (j : Int) < 240 := by omega
      have e1 : IntKind.i64.wrap ((j : Int) + 1) = (j : Int) + 1 := IntWalk.i64_in _ (by omega)
      have ix := IX.out j hlt
      obtain ⟨o0, o1, o2, o3⟩ := X1.out.cells
      by_cases h1 : b.getD j 0 = 1
      · as_aux_lemma =>
          rw [h1, show (((1 : UInt8).toNat : Nat) : Int) = 1 from rfl] at ix
          go_wp2_with fail
          go_roundw
          case rel => exact ⟨j + 1, by omega, by go_num, fun i hi => by rcases Nat.lt_succ_iff_lt_or_eq.1 hi with h | h; exact HI.out i h; exact .inl (h ▸ h1), X1.out, HB1.out⟩
          case measure => simp [intOf]; omega
      · by_cases h2 : b.getD j 0 = 2
        · as_aux_lemma =>
            rw [h2, show (((2 : UInt8).toNat : Nat) : Int) = 2 from rfl] at ix
            go_wp2_with fail
            go_roundw
            case rel => exact ⟨j + 1, by omega, by go_num, fun i hi => by rcases Nat.lt_succ_iff_lt_or_eq.1 hi with h | h; exact HI.out i h; exact .inr (h ▸ h2), X1.out, HB1.out⟩
            case measure => simp [intOf]; omega
        · have hu : Upto b j := ⟨HI.out, h1, h2⟩
          have v1 := toNat_ne h1
          have v2 := toNat_ne h2
          rw [show (((1 : UInt8).toNat : Nat) : Int) = 1 from rfl] at v1
          rw [show (((2 : UInt8).toNat : Nat) : Int) = 2 from rfl] at v2
          generalize (((b.getD j 0).toNat : Nat) : Int) = v at *
          clear h1 h2 HI
          by_cases c8 : j < 8
          · as_aux_lemma =>
              have hz9 := map_no (b := b) (n := j) (fun m hg _ he => by have := hg.1; omega) hu
              have k1 : (j : Int) < 8 := by omega
              have d1 : decide ((j : Int) < 8) = true := decide_eq_true k1
              obtain ⟨o0, o1, o2, o3⟩ := X1.out.cells
              go_upto_region 6 with fail
              go_quiet (fail)
              go_wp2_with fail
              go_ret
              exact ⟨by first | rfl | (rw [hz9]; rfl) | rw [hz9], HB1.out.trans ⟨rfl, rfl, rfl, Nat.le_refl _, fun _ _ => rfl⟩⟩
          · by_cases c64 : 64 < j
            · as_aux_lemma =>
                have hz9 := map_no (b := b) (n := j) (fun m hg _ he => by have := hg.1; omega) hu
                have k1 : ¬ (j : Int) < 8 := by omega
                have k2 : 64 < (j : Int) := by omega
                have d1 : decide ((j : Int) < 8) = false := decide_eq_false k1
                have d2 : decide (64 < (j : Int)) = true := decide_eq_true k2
                have d3 : decide ((j : Int) > 64) = true := decide_eq_true k2
                obtain ⟨o0, o1, o2, o3⟩ := X1.out.cells
                go_upto_region 6 with fail
                go_quiet (fail)
                go_wp2_with fail
                go_ret
                exact ⟨by first | rfl | (rw [hz9]; rfl) | rw [hz9], HB1.out.trans ⟨rfl, rfl, rfl, Nat.le_refl _, fun _ _ => rfl⟩⟩
            · have k1 : ¬ (j : Int) < 8 := by omega
              have k2 : ¬ 64 < (j : Int) := by omega
              have d1 : decide ((j : Int) < 8) = false := decide_eq_false k1
              have d2 : decide (64 < (j : Int)) = false := decide_eq_false k2
              have d3 : decide ((j : Int) > 64) = false := decide_eq_false k2
              have e2 : IntKind.i64.wrap (240 - (j : Int)) = 240 - (j : Int) := IntWalk.i64_in _ (by omega)
              have ZE := Lib.hid (fun w => zeros_ok (240 - j) (by omega) w)
              rw [show ((240 - j : Nat) : Int) = 240 - (j : Int) by omega] at ZE
              have SL : ∀ w : World, (Instr.slice 9 (.string s) (some (.int .i64 (j : Int))) none none).run Tryd.prog w = .ok (.string (str (b.drop j))) w := fun w => by
                have hl := HL.out
                rw [HSB.out, run_slice_string_l (P := Tryd.prog) w 9 (str b) Tryd.underlying9 .i64 (j : Int) (by omega) (by rw [str_size]; omega), extract_str, str_toList, Int.toNat_natCast, List.take_of_length_le (by rw [List.length_drop, str_size]; omega)]
              have HK := Lib.hid (fun w' (h : Below wr.heap.size wr w') => (show PBox w' B 2 d x s ∧ Below w.heap.size w w' from ⟨X1.out.kept h, HB1.out.trans (h.mono HB1.out.size)⟩))
              have i0 := IX.out 0 (by omega)
              have i1 := IX.out 1 (by omega)
              rw [show ((0 : Nat) : Int) = 0 from rfl] at i0
              rw [show ((1 : Nat) : Int) = 1 from rfl] at i1
              by_cases hz : b.drop j = zs (240 - j)
              · rw [hz] at SL
                by_cases z0 : b.getD 0 0 = 1
                · rw [z0, show (((1 : UInt8).toNat : Nat) : Int) = 1 from rfl] at i0
                  by_cases z1 : b.getD 1 0 = 1
                  · as_aux_lemma =>
                      rw [z1, show (((1 : UInt8).toNat : Nat) : Int) = 1 from rfl] at i1
                      have hz9 := map_yes HL.out hu (by omega) (by omega) hz z0 z1
                      generalize str (zs (240 - j)) = z at *
                      clear hz z0 z1 hu
                      go_upto_region 6 with fail
                      have C3 := fun r (h : Held wr r) => (X1.out.kept h).cells.2.2.2
                      refine wp_region_noPanic ?_
                      refine wp_region_held_drew (S := Held wr) (by kernel_rfl) ?_ (fun hHeld => ?_)
                      · exact Held.start _
                      refine wpAnyH_take (i := 0) (oi := { dst := some 31, op := Op.move (Operand.tmp 3), type := 3, pos := "base.go:397", after := #[], guard := none }) (v := .int .i64 (j : Int)) rfl (by kernel_rfl) (by kernel_rfl) (by kernel_rfl) (fun _ _ _ h => h) (Or.inl ⟨by rfl, fun w' hSw => by ((try dsimp only at hSw); go_simp)⟩) (by assumption) ?_
                      (try simp only [Act.put, List.setIfInBounds_toArray, List.set_cons_zero, List.set_cons_succ])
                      refine wpAnyH_take (i := 1) (oi := { dst := some 32, op := Op.binOp BinOp.lss 3 (Operand.tmp 31) (Operand.const (Value.int IntKind.i64 8)) 3, type := 4, pos := "base.go:397", after := #[{ on := 0, ground := Ground.data }], guard := none }) (v := .bool false) rfl (by kernel_rfl) (by kernel_rfl) (by kernel_rfl) (fun _ _ _ h => h) (Or.inl ⟨by rfl, fun w' hSw => by ((try dsimp only at hSw); go_simp)⟩) (by assumption) ?_
                      (try simp only [Act.put, List.setIfInBounds_toArray, List.set_cons_zero, List.set_cons_succ])
                      refine wpAnyH_take (i := 2) (oi := { dst := some 33, op := Op.move (Operand.tmp 32), type := 4, pos := "base.go:397", after := #[{ on := 1, ground := Ground.data }], guard := none }) (v := .bool false) rfl (by kernel_rfl) (by kernel_rfl) (by kernel_rfl) (fun _ _ _ h => h) (Or.inl ⟨by rfl, fun w' hSw => by ((try dsimp only at hSw); go_simp)⟩) (by assumption) ?_
                      (try simp only [Act.put, List.setIfInBounds_toArray, List.set_cons_zero, List.set_cons_succ])
                      refine wpAnyH_take (i := 3) (oi := { dst := some 34, op := Op.move (Operand.tmp 3), type := 3, pos := "base.go:397", after := #[{ on := 2, ground := Ground.guard }], guard := some (2, false) }) (v := .int .i64 (j : Int)) rfl (by kernel_rfl) (by kernel_rfl) (by kernel_rfl) (fun _ _ _ h => h) (Or.inl ⟨by rfl, fun w' hSw => by ((try dsimp only at hSw); go_simp)⟩) (by assumption) ?_
                      (try simp only [Act.put, List.setIfInBounds_toArray, List.set_cons_zero, List.set_cons_succ])
                      refine wpAnyH_take (i := 4) (oi := { dst := some 35, op := Op.binOp BinOp.gtr 3 (Operand.tmp 34) (Operand.const (Value.int IntKind.i64 64)) 3, type := 4, pos := "base.go:397", after := #[{ on := 3, ground := Ground.data }, { on := 2, ground := Ground.guard }], guard := some (2, false) }) (v := .bool false) rfl (by kernel_rfl) (by kernel_rfl) (by kernel_rfl) (fun _ _ _ h => h) (Or.inl ⟨by rfl, fun w' hSw => by ((try dsimp only at hSw); go_simp)⟩) (by assumption) ?_
                      (try simp only [Act.put, List.setIfInBounds_toArray, List.set_cons_zero, List.set_cons_succ])
                      refine wpAnyH_take (i := 5) (oi := { dst := some 36, op := Op.pick (Operand.tmp 33) (Operand.const (Value.bool true)) (Operand.tmp 35), type := 4, pos := "base.go:397", after := #[{ on := 2, ground := Ground.data }, { on := 4, ground := Ground.data }], guard := none }) (v := .bool false) rfl (by kernel_rfl) (by kernel_rfl) (by kernel_rfl) (fun _ _ _ h => h) (Or.inl ⟨by rfl, fun w' hSw => by ((try dsimp only at hSw); go_simp)⟩) (by assumption) ?_
                      (try simp only [Act.put, List.setIfInBounds_toArray, List.set_cons_zero, List.set_cons_succ])
                      refine wpAnyH_take (i := 6) (oi := { dst := some 37, op := Op.move (Operand.tmp 36), type := 4, pos := "base.go:397", after := #[{ on := 5, ground := Ground.data }, { on := 2, ground := Ground.chain }], guard := none }) (v := .bool false) rfl (by kernel_rfl) (by kernel_rfl) (by kernel_rfl) (fun _ _ _ h => h) (Or.inl ⟨by rfl, fun w' hSw => by ((try dsimp only at hSw); go_simp)⟩) (by assumption) ?_
                      (try simp only [Act.put, List.setIfInBounds_toArray, List.set_cons_zero, List.set_cons_succ])
                      refine wpAnyH_take (i := 7) (oi := { dst := some 38, op := Op.fieldAddr 23 (Operand.tmp 1) 3, type := 0, pos := "base.go:397", after := #[{ on := 6, ground := Ground.guard }], guard := some (6, false) }) (v := .pointer (some ⟨B, 3, none⟩)) rfl (by kernel_rfl) (by kernel_rfl) (by kernel_rfl) (fun _ _ _ h => h) (Or.inl ⟨by rfl, fun w' hSw => by ((try dsimp only at hSw); go_simp)⟩) (by assumption) ?_
                      (try simp only [Act.put, List.setIfInBounds_toArray, List.set_cons_zero, List.set_cons_succ])
                      refine wpAnyH_take (i := 8) (oi := { dst := some 39, op := Op.load 9 (Operand.tmp 38), type := 9, pos := "base.go:397", after := #[{ on := 7, ground := Ground.data }, { on := 6, ground := Ground.guard }], guard := some (6, false) }) (v := .string s) rfl (by kernel_rfl) (by kernel_rfl) (by kernel_rfl) (fun _ _ _ h => h) (Or.inl ⟨by rfl, fun w' hSw => by ((try dsimp only at hSw); have := C3 _ hSw; go_simp)⟩) (by assumption) ?_
                      (try simp only [Act.put, List.setIfInBounds_toArray, List.set_cons_zero, List.set_cons_succ])
                      refine wpAnyH_take (i := 9) (oi := { dst := some 40, op := Op.move (Operand.tmp 3), type := 3, pos := "base.go:397", after := #[{ on := 6, ground := Ground.guard }], guard := some (6, false) }) (v := .int .i64 (j : Int)) rfl (by kernel_rfl) (by kernel_rfl) (by kernel_rfl) (fun _ _ _ h => h) (Or.inl ⟨by rfl, fun w' hSw => by ((try dsimp only at hSw); go_simp)⟩) (by assumption) ?_
                      (try simp only [Act.put, List.setIfInBounds_toArray, List.set_cons_zero, List.set_cons_succ])
                      refine wpAnyH_take (i := 10) (oi := { dst := some 41, op := Op.slice 9 (Operand.tmp 39) (some (Operand.tmp 40)) none none, type := 9, pos := "base.go:397", after := #[{ on := 8, ground := Ground.data }, { on := 9, ground := Ground.data }, { on := 6, ground := Ground.guard }], guard := some (6, false) }) (v := .string z) rfl (by kernel_rfl) (by kernel_rfl) (by kernel_rfl) (fun _ _ _ h => h) (Or.inl ⟨by rfl, fun w' hSw => by ((try dsimp only at hSw); have := SL w'; go_simp)⟩) (by assumption) ?_
                      (try simp only [Act.put, List.setIfInBounds_toArray, List.set_cons_zero, List.set_cons_succ])
                      refine wpAnyH_take (i := 11) (oi := { dst := some 42, op := Op.move (Operand.tmp 3), type := 3, pos := "base.go:397", after := #[{ on := 6, ground := Ground.guard }], guard := some (6, false) }) (v := .int .i64 (j : Int)) rfl (by kernel_rfl) (by kernel_rfl) (by kernel_rfl) (fun _ _ _ h => h) (Or.inl ⟨by rfl, fun w' hSw => by ((try dsimp only at hSw); go_simp)⟩) (by assumption) ?_
                      (try simp only [Act.put, List.setIfInBounds_toArray, List.set_cons_zero, List.set_cons_succ])
                      refine wpAnyH_take (i := 12) (oi := { dst := some 43, op := Op.binOp BinOp.sub 3 (Operand.const (Value.int IntKind.i64 240)) (Operand.tmp 42) 3, type := 3, pos := "base.go:397", after := #[{ on := 11, ground := Ground.data }, { on := 6, ground := Ground.guard }], guard := some (6, false) }) (v := .int .i64 (240 - (j : Int))) rfl (by kernel_rfl) (by kernel_rfl) (by kernel_rfl) (fun _ _ _ h => h) (Or.inl ⟨by rfl, fun w' hSw => by ((try dsimp only at hSw); go_simp)⟩) (by assumption) ?_
                      (try simp only [Act.put, List.setIfInBounds_toArray, List.set_cons_zero, List.set_cons_succ])
                      refine wpAnyH_ready (rs := [13]) (by kernel_rfl) (by simp) ?_
                      refine AllReadyH.cons (o := { dst := some 44, op := Op.call { callee := Callee.value (Operand.func 21), args := #[Operand.tmp 43], argTypes := #[3] }, type := 9, pos := "base.go:397", after := #[{ on := 12, ground := Ground.data }, { on := 6, ground := Ground.chain }, { on := 6, ground := Ground.guard }], guard := some (6, false) }) rfl (fun K hK => ?_) ?_
                      · go_simp; go_at_call 21; refine (ZE.out _).mono ?_; rintro e u ⟨rfl, hb⟩
                        refine hK.out _ _ ?_ (fun hHeld => ?_)
                        · exact Held.step (by assumption) hb
                        clear hK K
                        (try simp only [Act.put, List.setIfInBounds_toArray, List.set_cons_zero, List.set_cons_succ])
                        refine wpAnyH_take (i := 14) (oi := { dst := some 45, op := Op.binOp BinOp.neq 9 (Operand.tmp 41) (Operand.tmp 44) 9, type := 4, pos := "base.go:397", after := #[{ on := 10, ground := Ground.data }, { on := 13, ground := Ground.data }, { on := 6, ground := Ground.guard }], guard := some (6, false) }) (v := .bool false) rfl (by kernel_rfl) (by kernel_rfl) (by kernel_rfl) (fun _ _ _ h => h) (Or.inl ⟨by rfl, fun w' hSw => by ((try dsimp only at hSw); go_simp)⟩) (by assumption) ?_
                        (try simp only [Act.put, List.setIfInBounds_toArray, List.set_cons_zero, List.set_cons_succ])
                        refine wpAnyH_take (i := 15) (oi := { dst := some 46, op := Op.pick (Operand.tmp 37) (Operand.const (Value.bool true)) (Operand.tmp 45), type := 4, pos := "base.go:397", after := #[{ on := 6, ground := Ground.data }, { on := 14, ground := Ground.data }], guard := none }) (v := .bool false) rfl (by kernel_rfl) (by kernel_rfl) (by kernel_rfl) (fun _ _ _ h => h) (Or.inl ⟨by rfl, fun w' hSw => by ((try dsimp only at hSw); go_simp)⟩) (by assumption) ?_
                        (try simp only [Act.put, List.setIfInBounds_toArray, List.set_cons_zero, List.set_cons_succ])
                        refine wpAnyH_take (i := 16) (oi := { dst := some 47, op := Op.move (Operand.tmp 46), type := 4, pos := "base.go:397", after := #[{ on := 15, ground := Ground.data }, { on := 13, ground := Ground.chain }], guard := none }) (v := .bool false) rfl (by kernel_rfl) (by kernel_rfl) (by kernel_rfl) (fun _ _ _ h => h) (Or.inl ⟨by rfl, fun w' hSw => by ((try dsimp only at hSw); go_simp)⟩) (by assumption) ?_
                        (try simp only [Act.put, List.setIfInBounds_toArray, List.set_cons_zero, List.set_cons_succ])
                        refine wpAnyH_take (i := 17) (oi := { dst := some 48, op := Op.fieldAddr 23 (Operand.tmp 1) 3, type := 0, pos := "base.go:397", after := #[{ on := 16, ground := Ground.guard }], guard := some (16, false) }) (v := .pointer (some ⟨B, 3, none⟩)) rfl (by kernel_rfl) (by kernel_rfl) (by kernel_rfl) (fun _ _ _ h => h) (Or.inl ⟨by rfl, fun w' hSw => by ((try dsimp only at hSw); go_simp)⟩) (by assumption) ?_
                        (try simp only [Act.put, List.setIfInBounds_toArray, List.set_cons_zero, List.set_cons_succ])
                        refine wpAnyH_take (i := 18) (oi := { dst := some 49, op := Op.load 9 (Operand.tmp 48), type := 9, pos := "base.go:397", after := #[{ on := 17, ground := Ground.data }, { on := 16, ground := Ground.guard }], guard := some (16, false) }) (v := .string s) rfl (by kernel_rfl) (by kernel_rfl) (by kernel_rfl) (fun _ _ _ h => h) (Or.inl ⟨by rfl, fun w' hSw => by ((try dsimp only at hSw); have := C3 _ hSw; go_simp)⟩) (by assumption) ?_
                        (try simp only [Act.put, List.setIfInBounds_toArray, List.set_cons_zero, List.set_cons_succ])
                        refine wpAnyH_take (i := 19) (oi := { dst := some 50, op := Op.index 9 (Operand.tmp 49) (Operand.const (Value.int IntKind.i64 0)), type := 5, pos := "base.go:397", after := #[{ on := 18, ground := Ground.data }, { on := 16, ground := Ground.guard }], guard := some (16, false) }) (v := .int .u8 1) rfl (by kernel_rfl) (by kernel_rfl) (by kernel_rfl) (fun _ _ _ h => h) (Or.inl ⟨by rfl, fun w' hSw => by ((try dsimp only at hSw); have := i0 w'; go_simp)⟩) (by assumption) ?_
                        (try simp only [Act.put, List.setIfInBounds_toArray, List.set_cons_zero, List.set_cons_succ])
                        refine wpAnyH_take (i := 20) (oi := { dst := some 51, op := Op.binOp BinOp.neq 5 (Operand.tmp 50) (Operand.const (Value.int IntKind.u8 1)) 5, type := 4, pos := "base.go:397", after := #[{ on := 19, ground := Ground.data }, { on := 16, ground := Ground.guard }], guard := some (16, false) }) (v := .bool false) rfl (by kernel_rfl) (by kernel_rfl) (by kernel_rfl) (fun _ _ _ h => h) (Or.inl ⟨by rfl, fun w' hSw => by ((try dsimp only at hSw); go_simp)⟩) (by assumption) ?_
                        (try simp only [Act.put, List.setIfInBounds_toArray, List.set_cons_zero, List.set_cons_succ])
                        refine wpAnyH_take (i := 21) (oi := { dst := some 52, op := Op.pick (Operand.tmp 47) (Operand.const (Value.bool true)) (Operand.tmp 51), type := 4, pos := "base.go:397", after := #[{ on := 16, ground := Ground.data }, { on := 20, ground := Ground.data }], guard := none }) (v := .bool false) rfl (by kernel_rfl) (by kernel_rfl) (by kernel_rfl) (fun _ _ _ h => h) (Or.inl ⟨by rfl, fun w' hSw => by ((try dsimp only at hSw); go_simp)⟩) (by assumption) ?_
                        (try simp only [Act.put, List.setIfInBounds_toArray, List.set_cons_zero, List.set_cons_succ])
                        refine wpAnyH_take (i := 22) (oi := { dst := some 53, op := Op.move (Operand.tmp 52), type := 4, pos := "base.go:397", after := #[{ on := 21, ground := Ground.data }, { on := 16, ground := Ground.chain }], guard := none }) (v := .bool false) rfl (by kernel_rfl) (by kernel_rfl) (by kernel_rfl) (fun _ _ _ h => h) (Or.inl ⟨by rfl, fun w' hSw => by ((try dsimp only at hSw); go_simp)⟩) (by assumption) ?_
                        (try simp only [Act.put, List.setIfInBounds_toArray, List.set_cons_zero, List.set_cons_succ])
                        refine wpAnyH_take (i := 23) (oi := { dst := some 54, op := Op.fieldAddr 23 (Operand.tmp 1) 3, type := 0, pos := "base.go:397", after := #[{ on := 22, ground := Ground.guard }], guard := some (22, false) }) (v := .pointer (some ⟨B, 3, none⟩)) rfl (by kernel_rfl) (by kernel_rfl) (by kernel_rfl) (fun _ _ _ h => h) (Or.inl ⟨by rfl, fun w' hSw => by ((try dsimp only at hSw); go_simp)⟩) (by assumption) ?_
                        (try simp only [Act.put, List.setIfInBounds_toArray, List.set_cons_zero, List.set_cons_succ])
                        refine wpAnyH_take (i := 24) (oi := { dst := some 55, op := Op.load 9 (Operand.tmp 54), type := 9, pos := "base.go:397", after := #[{ on := 23, ground := Ground.data }, { on := 22, ground := Ground.guard }], guard := some (22, false) }) (v := .string s) rfl (by kernel_rfl) (by kernel_rfl) (by kernel_rfl) (fun _ _ _ h => h) (Or.inl ⟨by rfl, fun w' hSw => by ((try dsimp only at hSw); have := C3 _ hSw; go_simp)⟩) (by assumption) ?_
                        (try simp only [Act.put, List.setIfInBounds_toArray, List.set_cons_zero, List.set_cons_succ])
                        refine wpAnyH_take (i := 25) (oi := { dst := some 56, op := Op.index 9 (Operand.tmp 55) (Operand.const (Value.int IntKind.i64 1)), type := 5, pos := "base.go:397", after := #[{ on := 24, ground := Ground.data }, { on := 22, ground := Ground.guard }], guard := some (22, false) }) (v := .int .u8 1) rfl (by kernel_rfl) (by kernel_rfl) (by kernel_rfl) (fun _ _ _ h => h) (Or.inl ⟨by rfl, fun w' hSw => by ((try dsimp only at hSw); have := i1 w'; go_simp)⟩) (by assumption) ?_
                        (try simp only [Act.put, List.setIfInBounds_toArray, List.set_cons_zero, List.set_cons_succ])
                        refine wpAnyH_take (i := 26) (oi := { dst := some 57, op := Op.binOp BinOp.neq 5 (Operand.tmp 56) (Operand.const (Value.int IntKind.u8 1)) 5, type := 4, pos := "base.go:397", after := #[{ on := 25, ground := Ground.data }, { on := 22, ground := Ground.guard }], guard := some (22, false) }) (v := .bool false) rfl (by kernel_rfl) (by kernel_rfl) (by kernel_rfl) (fun _ _ _ h => h) (Or.inl ⟨by rfl, fun w' hSw => by ((try dsimp only at hSw); go_simp)⟩) (by assumption) ?_
                        (try simp only [Act.put, List.setIfInBounds_toArray, List.set_cons_zero, List.set_cons_succ])
                        refine wpAnyH_take (i := 27) (oi := { dst := some 58, op := Op.pick (Operand.tmp 53) (Operand.const (Value.bool true)) (Operand.tmp 57), type := 4, pos := "base.go:397", after := #[{ on := 22, ground := Ground.data }, { on := 26, ground := Ground.data }], guard := none }) (v := .bool false) rfl (by kernel_rfl) (by kernel_rfl) (by kernel_rfl) (fun _ _ _ h => h) (Or.inl ⟨by rfl, fun w' hSw => by ((try dsimp only at hSw); go_simp)⟩) (by assumption) ?_
                        (try simp only [Act.put, List.setIfInBounds_toArray, List.set_cons_zero, List.set_cons_succ])
                        refine wpAnyH_done (by kernel_rfl) ?_ _
                        refine NoPanic.normal ?_
                        have HB2 := Lib.hid (HB1.out.trans (Below.mono hHeld HB1.out.size))
                        clear o0 o1 o2 o3
                        go_wp2_with fail
                        go_ret
                        exact ⟨by first | rfl | (rw [hz9]; rfl) | rw [hz9], HB2.out⟩
                      exact AllReadyH.nil
                  · as_aux_lemma =>
                      have u1 := toNat_ne z1
                      rw [show (((1 : UInt8).toNat : Nat) : Int) = 1 from rfl] at u1
                      generalize (((b.getD 1 0).toNat : Nat) : Int) = g1 at *
                      have u1' : ¬ g1 = 1 := by simpa using u1
                      have hz9 := map_no (b := b) (n := j) (fun m hg he _ => z1 (by rw [he, getD_mk (by have := hg.1; omega)]; exact (getD_getElem? (by decide)).2 hg.2.1.2)) hu
                      generalize str (zs (240 - j)) = z at *
                      clear hz z0 z1 hu
                      go_upto_region 6 with fail
                      have C3 := fun r (h : Held wr r) => (X1.out.kept h).cells.2.2.2
                      refine wp_region_noPanic ?_
                      refine wp_region_held_drew (S := Held wr) (by kernel_rfl) ?_ (fun hHeld => ?_)
                      · exact Held.start _
                      refine wpAnyH_take (i := 0) (oi := { dst := some 31, op := Op.move (Operand.tmp 3), type := 3, pos := "base.go:397", after := #[], guard := none }) (v := .int .i64 (j : Int)) rfl (by kernel_rfl) (by kernel_rfl) (by kernel_rfl) (fun _ _ _ h => h) (Or.inl ⟨by rfl, fun w' hSw => by ((try dsimp only at hSw); go_simp)⟩) (by assumption) ?_
                      (try simp only [Act.put, List.setIfInBounds_toArray, List.set_cons_zero, List.set_cons_succ])
                      refine wpAnyH_take (i := 1) (oi := { dst := some 32, op := Op.binOp BinOp.lss 3 (Operand.tmp 31) (Operand.const (Value.int IntKind.i64 8)) 3, type := 4, pos := "base.go:397", after := #[{ on := 0, ground := Ground.data }], guard := none }) (v := .bool false) rfl (by kernel_rfl) (by kernel_rfl) (by kernel_rfl) (fun _ _ _ h => h) (Or.inl ⟨by rfl, fun w' hSw => by ((try dsimp only at hSw); go_simp)⟩) (by assumption) ?_
                      (try simp only [Act.put, List.setIfInBounds_toArray, List.set_cons_zero, List.set_cons_succ])
                      refine wpAnyH_take (i := 2) (oi := { dst := some 33, op := Op.move (Operand.tmp 32), type := 4, pos := "base.go:397", after := #[{ on := 1, ground := Ground.data }], guard := none }) (v := .bool false) rfl (by kernel_rfl) (by kernel_rfl) (by kernel_rfl) (fun _ _ _ h => h) (Or.inl ⟨by rfl, fun w' hSw => by ((try dsimp only at hSw); go_simp)⟩) (by assumption) ?_
                      (try simp only [Act.put, List.setIfInBounds_toArray, List.set_cons_zero, List.set_cons_succ])
                      refine wpAnyH_take (i := 3) (oi := { dst := some 34, op := Op.move (Operand.tmp 3), type := 3, pos := "base.go:397", after := #[{ on := 2, ground := Ground.guard }], guard := some (2, false) }) (v := .int .i64 (j : Int)) rfl (by kernel_rfl) (by kernel_rfl) (by kernel_rfl) (fun _ _ _ h => h) (Or.inl ⟨by rfl, fun w' hSw => by ((try dsimp only at hSw); go_simp)⟩) (by assumption) ?_
                      (try simp only [Act.put, List.setIfInBounds_toArray, List.set_cons_zero, List.set_cons_succ])
                      refine wpAnyH_take (i := 4) (oi := { dst := some 35, op := Op.binOp BinOp.gtr 3 (Operand.tmp 34) (Operand.const (Value.int IntKind.i64 64)) 3, type := 4, pos := "base.go:397", after := #[{ on := 3, ground := Ground.data }, { on := 2, ground := Ground.guard }], guard := some (2, false) }) (v := .bool false) rfl (by kernel_rfl) (by kernel_rfl) (by kernel_rfl) (fun _ _ _ h => h) (Or.inl ⟨by rfl, fun w' hSw => by ((try dsimp only at hSw); go_simp)⟩) (by assumption) ?_
                      (try simp only [Act.put, List.setIfInBounds_toArray, List.set_cons_zero, List.set_cons_succ])
                      refine wpAnyH_take (i := 5) (oi := { dst := some 36, op := Op.pick (Operand.tmp 33) (Operand.const (Value.bool true)) (Operand.tmp 35), type := 4, pos := "base.go:397", after := #[{ on := 2, ground := Ground.data }, { on := 4, ground := Ground.data }], guard := none }) (v := .bool false) rfl (by kernel_rfl) (by kernel_rfl) (by kernel_rfl) (fun _ _ _ h => h) (Or.inl ⟨by rfl, fun w' hSw => by ((try dsimp only at hSw); go_simp)⟩) (by assumption) ?_
                      (try simp only [Act.put, List.setIfInBounds_toArray, List.set_cons_zero, List.set_cons_succ])
                      refine wpAnyH_take (i := 6) (oi := { dst := some 37, op := Op.move (Operand.tmp 36), type := 4, pos := "base.go:397", after := #[{ on := 5, ground := Ground.data }, { on := 2, ground := Ground.chain }], guard := none }) (v := .bool false) rfl (by kernel_rfl) (by kernel_rfl) (by kernel_rfl) (fun _ _ _ h => h) (Or.inl ⟨by rfl, fun w' hSw => by ((try dsimp only at hSw); go_simp)⟩) (by assumption) ?_
                      (try simp only [Act.put, List.setIfInBounds_toArray, List.set_cons_zero, List.set_cons_succ])
                      refine wpAnyH_take (i := 7) (oi := { dst := some 38, op := Op.fieldAddr 23 (Operand.tmp 1) 3, type := 0, pos := "base.go:397", after := #[{ on := 6, ground := Ground.guard }], guard := some (6, false) }) (v := .pointer (some ⟨B, 3, none⟩)) rfl (by kernel_rfl) (by kernel_rfl) (by kernel_rfl) (fun _ _ _ h => h) (Or.inl ⟨by rfl, fun w' hSw => by ((try dsimp only at hSw); go_simp)⟩) (by assumption) ?_
                      (try simp only [Act.put, List.setIfInBounds_toArray, List.set_cons_zero, List.set_cons_succ])
                      refine wpAnyH_take (i := 8) (oi := { dst := some 39, op := Op.load 9 (Operand.tmp 38), type := 9, pos := "base.go:397", after := #[{ on := 7, ground := Ground.data }, { on := 6, ground := Ground.guard }], guard := some (6, false) }) (v := .string s) rfl (by kernel_rfl) (by kernel_rfl) (by kernel_rfl) (fun _ _ _ h => h) (Or.inl ⟨by rfl, fun w' hSw => by ((try dsimp only at hSw); have := C3 _ hSw; go_simp)⟩) (by assumption) ?_
                      (try simp only [Act.put, List.setIfInBounds_toArray, List.set_cons_zero, List.set_cons_succ])
                      refine wpAnyH_take (i := 9) (oi := { dst := some 40, op := Op.move (Operand.tmp 3), type := 3, pos := "base.go:397", after := #[{ on := 6, ground := Ground.guard }], guard := some (6, false) }) (v := .int .i64 (j : Int)) rfl (by kernel_rfl) (by kernel_rfl) (by kernel_rfl) (fun _ _ _ h => h) (Or.inl ⟨by rfl, fun w' hSw => by ((try dsimp only at hSw); go_simp)⟩) (by assumption) ?_
                      (try simp only [Act.put, List.setIfInBounds_toArray, List.set_cons_zero, List.set_cons_succ])
                      refine wpAnyH_take (i := 10) (oi := { dst := some 41, op := Op.slice 9 (Operand.tmp 39) (some (Operand.tmp 40)) none none, type := 9, pos := "base.go:397", after := #[{ on := 8, ground := Ground.data }, { on := 9, ground := Ground.data }, { on := 6, ground := Ground.guard }], guard := some (6, false) }) (v := .string z) rfl (by kernel_rfl) (by kernel_rfl) (by kernel_rfl) (fun _ _ _ h => h) (Or.inl ⟨by rfl, fun w' hSw => by ((try dsimp only at hSw); have := SL w'; go_simp)⟩) (by assumption) ?_
                      (try simp only [Act.put, List.setIfInBounds_toArray, List.set_cons_zero, List.set_cons_succ])
                      refine wpAnyH_take (i := 11) (oi := { dst := some 42, op := Op.move (Operand.tmp 3), type := 3, pos := "base.go:397", after := #[{ on := 6, ground := Ground.guard }], guard := some (6, false) }) (v := .int .i64 (j : Int)) rfl (by kernel_rfl) (by kernel_rfl) (by kernel_rfl) (fun _ _ _ h => h) (Or.inl ⟨by rfl, fun w' hSw => by ((try dsimp only at hSw); go_simp)⟩) (by assumption) ?_
                      (try simp only [Act.put, List.setIfInBounds_toArray, List.set_cons_zero, List.set_cons_succ])
                      refine wpAnyH_take (i := 12) (oi := { dst := some 43, op := Op.binOp BinOp.sub 3 (Operand.const (Value.int IntKind.i64 240)) (Operand.tmp 42) 3, type := 3, pos := "base.go:397", after := #[{ on := 11, ground := Ground.data }, { on := 6, ground := Ground.guard }], guard := some (6, false) }) (v := .int .i64 (240 - (j : Int))) rfl (by kernel_rfl) (by kernel_rfl) (by kernel_rfl) (fun _ _ _ h => h) (Or.inl ⟨by rfl, fun w' hSw => by ((try dsimp only at hSw); go_simp)⟩) (by assumption) ?_
                      (try simp only [Act.put, List.setIfInBounds_toArray, List.set_cons_zero, List.set_cons_succ])
                      refine wpAnyH_ready (rs := [13]) (by kernel_rfl) (by simp) ?_
                      refine AllReadyH.cons (o := { dst := some 44, op := Op.call { callee := Callee.value (Operand.func 21), args := #[Operand.tmp 43], argTypes := #[3] }, type := 9, pos := "base.go:397", after := #[{ on := 12, ground := Ground.data }, { on := 6, ground := Ground.chain }, { on := 6, ground := Ground.guard }], guard := some (6, false) }) rfl (fun K hK => ?_) ?_
                      · go_simp; go_at_call 21; refine (ZE.out _).mono ?_; rintro e u ⟨rfl, hb⟩
                        refine hK.out _ _ ?_ (fun hHeld => ?_)
                        · exact Held.step (by assumption) hb
                        clear hK K
                        (try simp only [Act.put, List.setIfInBounds_toArray, List.set_cons_zero, List.set_cons_succ])
                        refine wpAnyH_take (i := 14) (oi := { dst := some 45, op := Op.binOp BinOp.neq 9 (Operand.tmp 41) (Operand.tmp 44) 9, type := 4, pos := "base.go:397", after := #[{ on := 10, ground := Ground.data }, { on := 13, ground := Ground.data }, { on := 6, ground := Ground.guard }], guard := some (6, false) }) (v := .bool false) rfl (by kernel_rfl) (by kernel_rfl) (by kernel_rfl) (fun _ _ _ h => h) (Or.inl ⟨by rfl, fun w' hSw => by ((try dsimp only at hSw); go_simp)⟩) (by assumption) ?_
                        (try simp only [Act.put, List.setIfInBounds_toArray, List.set_cons_zero, List.set_cons_succ])
                        refine wpAnyH_take (i := 15) (oi := { dst := some 46, op := Op.pick (Operand.tmp 37) (Operand.const (Value.bool true)) (Operand.tmp 45), type := 4, pos := "base.go:397", after := #[{ on := 6, ground := Ground.data }, { on := 14, ground := Ground.data }], guard := none }) (v := .bool false) rfl (by kernel_rfl) (by kernel_rfl) (by kernel_rfl) (fun _ _ _ h => h) (Or.inl ⟨by rfl, fun w' hSw => by ((try dsimp only at hSw); go_simp)⟩) (by assumption) ?_
                        (try simp only [Act.put, List.setIfInBounds_toArray, List.set_cons_zero, List.set_cons_succ])
                        refine wpAnyH_take (i := 16) (oi := { dst := some 47, op := Op.move (Operand.tmp 46), type := 4, pos := "base.go:397", after := #[{ on := 15, ground := Ground.data }, { on := 13, ground := Ground.chain }], guard := none }) (v := .bool false) rfl (by kernel_rfl) (by kernel_rfl) (by kernel_rfl) (fun _ _ _ h => h) (Or.inl ⟨by rfl, fun w' hSw => by ((try dsimp only at hSw); go_simp)⟩) (by assumption) ?_
                        (try simp only [Act.put, List.setIfInBounds_toArray, List.set_cons_zero, List.set_cons_succ])
                        refine wpAnyH_take (i := 17) (oi := { dst := some 48, op := Op.fieldAddr 23 (Operand.tmp 1) 3, type := 0, pos := "base.go:397", after := #[{ on := 16, ground := Ground.guard }], guard := some (16, false) }) (v := .pointer (some ⟨B, 3, none⟩)) rfl (by kernel_rfl) (by kernel_rfl) (by kernel_rfl) (fun _ _ _ h => h) (Or.inl ⟨by rfl, fun w' hSw => by ((try dsimp only at hSw); go_simp)⟩) (by assumption) ?_
                        (try simp only [Act.put, List.setIfInBounds_toArray, List.set_cons_zero, List.set_cons_succ])
                        refine wpAnyH_take (i := 18) (oi := { dst := some 49, op := Op.load 9 (Operand.tmp 48), type := 9, pos := "base.go:397", after := #[{ on := 17, ground := Ground.data }, { on := 16, ground := Ground.guard }], guard := some (16, false) }) (v := .string s) rfl (by kernel_rfl) (by kernel_rfl) (by kernel_rfl) (fun _ _ _ h => h) (Or.inl ⟨by rfl, fun w' hSw => by ((try dsimp only at hSw); have := C3 _ hSw; go_simp)⟩) (by assumption) ?_
                        (try simp only [Act.put, List.setIfInBounds_toArray, List.set_cons_zero, List.set_cons_succ])
                        refine wpAnyH_take (i := 19) (oi := { dst := some 50, op := Op.index 9 (Operand.tmp 49) (Operand.const (Value.int IntKind.i64 0)), type := 5, pos := "base.go:397", after := #[{ on := 18, ground := Ground.data }, { on := 16, ground := Ground.guard }], guard := some (16, false) }) (v := .int .u8 1) rfl (by kernel_rfl) (by kernel_rfl) (by kernel_rfl) (fun _ _ _ h => h) (Or.inl ⟨by rfl, fun w' hSw => by ((try dsimp only at hSw); have := i0 w'; go_simp)⟩) (by assumption) ?_
                        (try simp only [Act.put, List.setIfInBounds_toArray, List.set_cons_zero, List.set_cons_succ])
                        refine wpAnyH_take (i := 20) (oi := { dst := some 51, op := Op.binOp BinOp.neq 5 (Operand.tmp 50) (Operand.const (Value.int IntKind.u8 1)) 5, type := 4, pos := "base.go:397", after := #[{ on := 19, ground := Ground.data }, { on := 16, ground := Ground.guard }], guard := some (16, false) }) (v := .bool false) rfl (by kernel_rfl) (by kernel_rfl) (by kernel_rfl) (fun _ _ _ h => h) (Or.inl ⟨by rfl, fun w' hSw => by ((try dsimp only at hSw); go_simp)⟩) (by assumption) ?_
                        (try simp only [Act.put, List.setIfInBounds_toArray, List.set_cons_zero, List.set_cons_succ])
                        refine wpAnyH_take (i := 21) (oi := { dst := some 52, op := Op.pick (Operand.tmp 47) (Operand.const (Value.bool true)) (Operand.tmp 51), type := 4, pos := "base.go:397", after := #[{ on := 16, ground := Ground.data }, { on := 20, ground := Ground.data }], guard := none }) (v := .bool false) rfl (by kernel_rfl) (by kernel_rfl) (by kernel_rfl) (fun _ _ _ h => h) (Or.inl ⟨by rfl, fun w' hSw => by ((try dsimp only at hSw); go_simp)⟩) (by assumption) ?_
                        (try simp only [Act.put, List.setIfInBounds_toArray, List.set_cons_zero, List.set_cons_succ])
                        refine wpAnyH_take (i := 22) (oi := { dst := some 53, op := Op.move (Operand.tmp 52), type := 4, pos := "base.go:397", after := #[{ on := 21, ground := Ground.data }, { on := 16, ground := Ground.chain }], guard := none }) (v := .bool false) rfl (by kernel_rfl) (by kernel_rfl) (by kernel_rfl) (fun _ _ _ h => h) (Or.inl ⟨by rfl, fun w' hSw => by ((try dsimp only at hSw); go_simp)⟩) (by assumption) ?_
                        (try simp only [Act.put, List.setIfInBounds_toArray, List.set_cons_zero, List.set_cons_succ])
                        refine wpAnyH_take (i := 23) (oi := { dst := some 54, op := Op.fieldAddr 23 (Operand.tmp 1) 3, type := 0, pos := "base.go:397", after := #[{ on := 22, ground := Ground.guard }], guard := some (22, false) }) (v := .pointer (some ⟨B, 3, none⟩)) rfl (by kernel_rfl) (by kernel_rfl) (by kernel_rfl) (fun _ _ _ h => h) (Or.inl ⟨by rfl, fun w' hSw => by ((try dsimp only at hSw); go_simp)⟩) (by assumption) ?_
                        (try simp only [Act.put, List.setIfInBounds_toArray, List.set_cons_zero, List.set_cons_succ])
                        refine wpAnyH_take (i := 24) (oi := { dst := some 55, op := Op.load 9 (Operand.tmp 54), type := 9, pos := "base.go:397", after := #[{ on := 23, ground := Ground.data }, { on := 22, ground := Ground.guard }], guard := some (22, false) }) (v := .string s) rfl (by kernel_rfl) (by kernel_rfl) (by kernel_rfl) (fun _ _ _ h => h) (Or.inl ⟨by rfl, fun w' hSw => by ((try dsimp only at hSw); have := C3 _ hSw; go_simp)⟩) (by assumption) ?_
                        (try simp only [Act.put, List.setIfInBounds_toArray, List.set_cons_zero, List.set_cons_succ])
                        refine wpAnyH_take (i := 25) (oi := { dst := some 56, op := Op.index 9 (Operand.tmp 55) (Operand.const (Value.int IntKind.i64 1)), type := 5, pos := "base.go:397", after := #[{ on := 24, ground := Ground.data }, { on := 22, ground := Ground.guard }], guard := some (22, false) }) (v := .int .u8 g1) rfl (by kernel_rfl) (by kernel_rfl) (by kernel_rfl) (fun _ _ _ h => h) (Or.inl ⟨by rfl, fun w' hSw => by ((try dsimp only at hSw); have := i1 w'; go_simp)⟩) (by assumption) ?_
                        (try simp only [Act.put, List.setIfInBounds_toArray, List.set_cons_zero, List.set_cons_succ])
                        refine wpAnyH_take (i := 26) (oi := { dst := some 57, op := Op.binOp BinOp.neq 5 (Operand.tmp 56) (Operand.const (Value.int IntKind.u8 1)) 5, type := 4, pos := "base.go:397", after := #[{ on := 25, ground := Ground.data }, { on := 22, ground := Ground.guard }], guard := some (22, false) }) (v := .bool true) rfl (by kernel_rfl) (by kernel_rfl) (by kernel_rfl) (fun _ _ _ h => h) (Or.inl ⟨by rfl, fun w' hSw => by ((try dsimp only at hSw); go_simp)⟩) (by assumption) ?_
                        (try simp only [Act.put, List.setIfInBounds_toArray, List.set_cons_zero, List.set_cons_succ])
                        refine wpAnyH_take (i := 27) (oi := { dst := some 58, op := Op.pick (Operand.tmp 53) (Operand.const (Value.bool true)) (Operand.tmp 57), type := 4, pos := "base.go:397", after := #[{ on := 22, ground := Ground.data }, { on := 26, ground := Ground.data }], guard := none }) (v := .bool true) rfl (by kernel_rfl) (by kernel_rfl) (by kernel_rfl) (fun _ _ _ h => h) (Or.inl ⟨by rfl, fun w' hSw => by ((try dsimp only at hSw); go_simp)⟩) (by assumption) ?_
                        (try simp only [Act.put, List.setIfInBounds_toArray, List.set_cons_zero, List.set_cons_succ])
                        refine wpAnyH_done (by kernel_rfl) ?_ _
                        refine NoPanic.normal ?_
                        have HB2 := Lib.hid (HB1.out.trans (Below.mono hHeld HB1.out.size))
                        clear o0 o1 o2 o3
                        go_wp2_with fail
                        go_ret
                        exact ⟨by first | rfl | (rw [hz9]; rfl) | rw [hz9], HB2.out⟩
                      exact AllReadyH.nil
                · as_aux_lemma =>
                    have u0 := toNat_ne z0
                    rw [show (((1 : UInt8).toNat : Nat) : Int) = 1 from rfl] at u0
                    generalize (((b.getD 0 0).toNat : Nat) : Int) = g0 at *
                    have u0' : ¬ g0 = 1 := by simpa using u0
                    have hz9 := map_no (b := b) (n := j) (fun m hg he _ => z0 (by rw [he, getD_mk (by have := hg.1; omega)]; exact (getD_getElem? (by decide)).2 hg.2.1.1)) hu
                    generalize str (zs (240 - j)) = z at *
                    clear hz z0 hu
                    go_upto_region 6 with fail
                    have C3 := fun r (h : Held wr r) => (X1.out.kept h).cells.2.2.2
                    refine wp_region_noPanic ?_
                    refine wp_region_held_drew (S := Held wr) (by kernel_rfl) ?_ (fun hHeld => ?_)
                    · exact Held.start _
                    refine wpAnyH_take (i := 0) (oi := { dst := some 31, op := Op.move (Operand.tmp 3), type := 3, pos := "base.go:397", after := #[], guard := none }) (v := .int .i64 (j : Int)) rfl (by kernel_rfl) (by kernel_rfl) (by kernel_rfl) (fun _ _ _ h => h) (Or.inl ⟨by rfl, fun w' hSw => by ((try dsimp only at hSw); go_simp)⟩) (by assumption) ?_
                    (try simp only [Act.put, List.setIfInBounds_toArray, List.set_cons_zero, List.set_cons_succ])
                    refine wpAnyH_take (i := 1) (oi := { dst := some 32, op := Op.binOp BinOp.lss 3 (Operand.tmp 31) (Operand.const (Value.int IntKind.i64 8)) 3, type := 4, pos := "base.go:397", after := #[{ on := 0, ground := Ground.data }], guard := none }) (v := .bool false) rfl (by kernel_rfl) (by kernel_rfl) (by kernel_rfl) (fun _ _ _ h => h) (Or.inl ⟨by rfl, fun w' hSw => by ((try dsimp only at hSw); go_simp)⟩) (by assumption) ?_
                    (try simp only [Act.put, List.setIfInBounds_toArray, List.set_cons_zero, List.set_cons_succ])
                    refine wpAnyH_take (i := 2) (oi := { dst := some 33, op := Op.move (Operand.tmp 32), type := 4, pos := "base.go:397", after := #[{ on := 1, ground := Ground.data }], guard := none }) (v := .bool false) rfl (by kernel_rfl) (by kernel_rfl) (by kernel_rfl) (fun _ _ _ h => h) (Or.inl ⟨by rfl, fun w' hSw => by ((try dsimp only at hSw); go_simp)⟩) (by assumption) ?_
                    (try simp only [Act.put, List.setIfInBounds_toArray, List.set_cons_zero, List.set_cons_succ])
                    refine wpAnyH_take (i := 3) (oi := { dst := some 34, op := Op.move (Operand.tmp 3), type := 3, pos := "base.go:397", after := #[{ on := 2, ground := Ground.guard }], guard := some (2, false) }) (v := .int .i64 (j : Int)) rfl (by kernel_rfl) (by kernel_rfl) (by kernel_rfl) (fun _ _ _ h => h) (Or.inl ⟨by rfl, fun w' hSw => by ((try dsimp only at hSw); go_simp)⟩) (by assumption) ?_
                    (try simp only [Act.put, List.setIfInBounds_toArray, List.set_cons_zero, List.set_cons_succ])
                    refine wpAnyH_take (i := 4) (oi := { dst := some 35, op := Op.binOp BinOp.gtr 3 (Operand.tmp 34) (Operand.const (Value.int IntKind.i64 64)) 3, type := 4, pos := "base.go:397", after := #[{ on := 3, ground := Ground.data }, { on := 2, ground := Ground.guard }], guard := some (2, false) }) (v := .bool false) rfl (by kernel_rfl) (by kernel_rfl) (by kernel_rfl) (fun _ _ _ h => h) (Or.inl ⟨by rfl, fun w' hSw => by ((try dsimp only at hSw); go_simp)⟩) (by assumption) ?_
                    (try simp only [Act.put, List.setIfInBounds_toArray, List.set_cons_zero, List.set_cons_succ])
                    refine wpAnyH_take (i := 5) (oi := { dst := some 36, op := Op.pick (Operand.tmp 33) (Operand.const (Value.bool true)) (Operand.tmp 35), type := 4, pos := "base.go:397", after := #[{ on := 2, ground := Ground.data }, { on := 4, ground := Ground.data }], guard := none }) (v := .bool false) rfl (by kernel_rfl) (by kernel_rfl) (by kernel_rfl) (fun _ _ _ h => h) (Or.inl ⟨by rfl, fun w' hSw => by ((try dsimp only at hSw); go_simp)⟩) (by assumption) ?_
                    (try simp only [Act.put, List.setIfInBounds_toArray, List.set_cons_zero, List.set_cons_succ])
                    refine wpAnyH_take (i := 6) (oi := { dst := some 37, op := Op.move (Operand.tmp 36), type := 4, pos := "base.go:397", after := #[{ on := 5, ground := Ground.data }, { on := 2, ground := Ground.chain }], guard := none }) (v := .bool false) rfl (by kernel_rfl) (by kernel_rfl) (by kernel_rfl) (fun _ _ _ h => h) (Or.inl ⟨by rfl, fun w' hSw => by ((try dsimp only at hSw); go_simp)⟩) (by assumption) ?_
                    (try simp only [Act.put, List.setIfInBounds_toArray, List.set_cons_zero, List.set_cons_succ])
                    refine wpAnyH_take (i := 7) (oi := { dst := some 38, op := Op.fieldAddr 23 (Operand.tmp 1) 3, type := 0, pos := "base.go:397", after := #[{ on := 6, ground := Ground.guard }], guard := some (6, false) }) (v := .pointer (some ⟨B, 3, none⟩)) rfl (by kernel_rfl) (by kernel_rfl) (by kernel_rfl) (fun _ _ _ h => h) (Or.inl ⟨by rfl, fun w' hSw => by ((try dsimp only at hSw); go_simp)⟩) (by assumption) ?_
                    (try simp only [Act.put, List.setIfInBounds_toArray, List.set_cons_zero, List.set_cons_succ])
                    refine wpAnyH_take (i := 8) (oi := { dst := some 39, op := Op.load 9 (Operand.tmp 38), type := 9, pos := "base.go:397", after := #[{ on := 7, ground := Ground.data }, { on := 6, ground := Ground.guard }], guard := some (6, false) }) (v := .string s) rfl (by kernel_rfl) (by kernel_rfl) (by kernel_rfl) (fun _ _ _ h => h) (Or.inl ⟨by rfl, fun w' hSw => by ((try dsimp only at hSw); have := C3 _ hSw; go_simp)⟩) (by assumption) ?_
                    (try simp only [Act.put, List.setIfInBounds_toArray, List.set_cons_zero, List.set_cons_succ])
                    refine wpAnyH_take (i := 9) (oi := { dst := some 40, op := Op.move (Operand.tmp 3), type := 3, pos := "base.go:397", after := #[{ on := 6, ground := Ground.guard }], guard := some (6, false) }) (v := .int .i64 (j : Int)) rfl (by kernel_rfl) (by kernel_rfl) (by kernel_rfl) (fun _ _ _ h => h) (Or.inl ⟨by rfl, fun w' hSw => by ((try dsimp only at hSw); go_simp)⟩) (by assumption) ?_
                    (try simp only [Act.put, List.setIfInBounds_toArray, List.set_cons_zero, List.set_cons_succ])
                    refine wpAnyH_take (i := 10) (oi := { dst := some 41, op := Op.slice 9 (Operand.tmp 39) (some (Operand.tmp 40)) none none, type := 9, pos := "base.go:397", after := #[{ on := 8, ground := Ground.data }, { on := 9, ground := Ground.data }, { on := 6, ground := Ground.guard }], guard := some (6, false) }) (v := .string z) rfl (by kernel_rfl) (by kernel_rfl) (by kernel_rfl) (fun _ _ _ h => h) (Or.inl ⟨by rfl, fun w' hSw => by ((try dsimp only at hSw); have := SL w'; go_simp)⟩) (by assumption) ?_
                    (try simp only [Act.put, List.setIfInBounds_toArray, List.set_cons_zero, List.set_cons_succ])
                    refine wpAnyH_take (i := 11) (oi := { dst := some 42, op := Op.move (Operand.tmp 3), type := 3, pos := "base.go:397", after := #[{ on := 6, ground := Ground.guard }], guard := some (6, false) }) (v := .int .i64 (j : Int)) rfl (by kernel_rfl) (by kernel_rfl) (by kernel_rfl) (fun _ _ _ h => h) (Or.inl ⟨by rfl, fun w' hSw => by ((try dsimp only at hSw); go_simp)⟩) (by assumption) ?_
                    (try simp only [Act.put, List.setIfInBounds_toArray, List.set_cons_zero, List.set_cons_succ])
                    refine wpAnyH_take (i := 12) (oi := { dst := some 43, op := Op.binOp BinOp.sub 3 (Operand.const (Value.int IntKind.i64 240)) (Operand.tmp 42) 3, type := 3, pos := "base.go:397", after := #[{ on := 11, ground := Ground.data }, { on := 6, ground := Ground.guard }], guard := some (6, false) }) (v := .int .i64 (240 - (j : Int))) rfl (by kernel_rfl) (by kernel_rfl) (by kernel_rfl) (fun _ _ _ h => h) (Or.inl ⟨by rfl, fun w' hSw => by ((try dsimp only at hSw); go_simp)⟩) (by assumption) ?_
                    (try simp only [Act.put, List.setIfInBounds_toArray, List.set_cons_zero, List.set_cons_succ])
                    refine wpAnyH_ready (rs := [13]) (by kernel_rfl) (by simp) ?_
                    refine AllReadyH.cons (o := { dst := some 44, op := Op.call { callee := Callee.value (Operand.func 21), args := #[Operand.tmp 43], argTypes := #[3] }, type := 9, pos := "base.go:397", after := #[{ on := 12, ground := Ground.data }, { on := 6, ground := Ground.chain }, { on := 6, ground := Ground.guard }], guard := some (6, false) }) rfl (fun K hK => ?_) ?_
                    · go_simp; go_at_call 21; refine (ZE.out _).mono ?_; rintro e u ⟨rfl, hb⟩
                      refine hK.out _ _ ?_ (fun hHeld => ?_)
                      · exact Held.step (by assumption) hb
                      clear hK K
                      (try simp only [Act.put, List.setIfInBounds_toArray, List.set_cons_zero, List.set_cons_succ])
                      refine wpAnyH_take (i := 14) (oi := { dst := some 45, op := Op.binOp BinOp.neq 9 (Operand.tmp 41) (Operand.tmp 44) 9, type := 4, pos := "base.go:397", after := #[{ on := 10, ground := Ground.data }, { on := 13, ground := Ground.data }, { on := 6, ground := Ground.guard }], guard := some (6, false) }) (v := .bool false) rfl (by kernel_rfl) (by kernel_rfl) (by kernel_rfl) (fun _ _ _ h => h) (Or.inl ⟨by rfl, fun w' hSw => by ((try dsimp only at hSw); go_simp)⟩) (by assumption) ?_
                      (try simp only [Act.put, List.setIfInBounds_toArray, List.set_cons_zero, List.set_cons_succ])
                      refine wpAnyH_take (i := 15) (oi := { dst := some 46, op := Op.pick (Operand.tmp 37) (Operand.const (Value.bool true)) (Operand.tmp 45), type := 4, pos := "base.go:397", after := #[{ on := 6, ground := Ground.data }, { on := 14, ground := Ground.data }], guard := none }) (v := .bool false) rfl (by kernel_rfl) (by kernel_rfl) (by kernel_rfl) (fun _ _ _ h => h) (Or.inl ⟨by rfl, fun w' hSw => by ((try dsimp only at hSw); go_simp)⟩) (by assumption) ?_
                      (try simp only [Act.put, List.setIfInBounds_toArray, List.set_cons_zero, List.set_cons_succ])
                      refine wpAnyH_take (i := 16) (oi := { dst := some 47, op := Op.move (Operand.tmp 46), type := 4, pos := "base.go:397", after := #[{ on := 15, ground := Ground.data }, { on := 13, ground := Ground.chain }], guard := none }) (v := .bool false) rfl (by kernel_rfl) (by kernel_rfl) (by kernel_rfl) (fun _ _ _ h => h) (Or.inl ⟨by rfl, fun w' hSw => by ((try dsimp only at hSw); go_simp)⟩) (by assumption) ?_
                      (try simp only [Act.put, List.setIfInBounds_toArray, List.set_cons_zero, List.set_cons_succ])
                      refine wpAnyH_take (i := 17) (oi := { dst := some 48, op := Op.fieldAddr 23 (Operand.tmp 1) 3, type := 0, pos := "base.go:397", after := #[{ on := 16, ground := Ground.guard }], guard := some (16, false) }) (v := .pointer (some ⟨B, 3, none⟩)) rfl (by kernel_rfl) (by kernel_rfl) (by kernel_rfl) (fun _ _ _ h => h) (Or.inl ⟨by rfl, fun w' hSw => by ((try dsimp only at hSw); go_simp)⟩) (by assumption) ?_
                      (try simp only [Act.put, List.setIfInBounds_toArray, List.set_cons_zero, List.set_cons_succ])
                      refine wpAnyH_take (i := 18) (oi := { dst := some 49, op := Op.load 9 (Operand.tmp 48), type := 9, pos := "base.go:397", after := #[{ on := 17, ground := Ground.data }, { on := 16, ground := Ground.guard }], guard := some (16, false) }) (v := .string s) rfl (by kernel_rfl) (by kernel_rfl) (by kernel_rfl) (fun _ _ _ h => h) (Or.inl ⟨by rfl, fun w' hSw => by ((try dsimp only at hSw); have := C3 _ hSw; go_simp)⟩) (by assumption) ?_
                      (try simp only [Act.put, List.setIfInBounds_toArray, List.set_cons_zero, List.set_cons_succ])
                      refine wpAnyH_take (i := 19) (oi := { dst := some 50, op := Op.index 9 (Operand.tmp 49) (Operand.const (Value.int IntKind.i64 0)), type := 5, pos := "base.go:397", after := #[{ on := 18, ground := Ground.data }, { on := 16, ground := Ground.guard }], guard := some (16, false) }) (v := .int .u8 g0) rfl (by kernel_rfl) (by kernel_rfl) (by kernel_rfl) (fun _ _ _ h => h) (Or.inl ⟨by rfl, fun w' hSw => by ((try dsimp only at hSw); have := i0 w'; go_simp)⟩) (by assumption) ?_
                      (try simp only [Act.put, List.setIfInBounds_toArray, List.set_cons_zero, List.set_cons_succ])
                      refine wpAnyH_take (i := 20) (oi := { dst := some 51, op := Op.binOp BinOp.neq 5 (Operand.tmp 50) (Operand.const (Value.int IntKind.u8 1)) 5, type := 4, pos := "base.go:397", after := #[{ on := 19, ground := Ground.data }, { on := 16, ground := Ground.guard }], guard := some (16, false) }) (v := .bool true) rfl (by kernel_rfl) (by kernel_rfl) (by kernel_rfl) (fun _ _ _ h => h) (Or.inl ⟨by rfl, fun w' hSw => by ((try dsimp only at hSw); go_simp)⟩) (by assumption) ?_
                      (try simp only [Act.put, List.setIfInBounds_toArray, List.set_cons_zero, List.set_cons_succ])
                      refine wpAnyH_take (i := 21) (oi := { dst := some 52, op := Op.pick (Operand.tmp 47) (Operand.const (Value.bool true)) (Operand.tmp 51), type := 4, pos := "base.go:397", after := #[{ on := 16, ground := Ground.data }, { on := 20, ground := Ground.data }], guard := none }) (v := .bool true) rfl (by kernel_rfl) (by kernel_rfl) (by kernel_rfl) (fun _ _ _ h => h) (Or.inl ⟨by rfl, fun w' hSw => by ((try dsimp only at hSw); go_simp)⟩) (by assumption) ?_
                      (try simp only [Act.put, List.setIfInBounds_toArray, List.set_cons_zero, List.set_cons_succ])
                      refine wpAnyH_take (i := 22) (oi := { dst := some 53, op := Op.move (Operand.tmp 52), type := 4, pos := "base.go:397", after := #[{ on := 21, ground := Ground.data }, { on := 16, ground := Ground.chain }], guard := none }) (v := .bool true) rfl (by kernel_rfl) (by kernel_rfl) (by kernel_rfl) (fun _ _ _ h => h) (Or.inl ⟨by rfl, fun w' hSw => by ((try dsimp only at hSw); go_simp)⟩) (by assumption) ?_
                      (try simp only [Act.put, List.setIfInBounds_toArray, List.set_cons_zero, List.set_cons_succ])
                      refine wpAnyH_take (i := 23) (oi := { dst := some 54, op := Op.fieldAddr 23 (Operand.tmp 1) 3, type := 0, pos := "base.go:397", after := #[{ on := 22, ground := Ground.guard }], guard := some (22, false) }) (v := undef) rfl (by kernel_rfl) (by kernel_rfl) (by kernel_rfl) (fun _ _ _ h => h) (Or.inr ⟨by rfl, rfl⟩) (by assumption) ?_
                      (try simp only [Act.put, List.setIfInBounds_toArray, List.set_cons_zero, List.set_cons_succ])
                      refine wpAnyH_take (i := 24) (oi := { dst := some 55, op := Op.load 9 (Operand.tmp 54), type := 9, pos := "base.go:397", after := #[{ on := 23, ground := Ground.data }, { on := 22, ground := Ground.guard }], guard := some (22, false) }) (v := undef) rfl (by kernel_rfl) (by kernel_rfl) (by kernel_rfl) (fun _ _ _ h => h) (Or.inr ⟨by rfl, rfl⟩) (by assumption) ?_
                      (try simp only [Act.put, List.setIfInBounds_toArray, List.set_cons_zero, List.set_cons_succ])
                      refine wpAnyH_take (i := 25) (oi := { dst := some 56, op := Op.index 9 (Operand.tmp 55) (Operand.const (Value.int IntKind.i64 1)), type := 5, pos := "base.go:397", after := #[{ on := 24, ground := Ground.data }, { on := 22, ground := Ground.guard }], guard := some (22, false) }) (v := undef) rfl (by kernel_rfl) (by kernel_rfl) (by kernel_rfl) (fun _ _ _ h => h) (Or.inr ⟨by rfl, rfl⟩) (by assumption) ?_
                      (try simp only [Act.put, List.setIfInBounds_toArray, List.set_cons_zero, List.set_cons_succ])
                      refine wpAnyH_take (i := 26) (oi := { dst := some 57, op := Op.binOp BinOp.neq 5 (Operand.tmp 56) (Operand.const (Value.int IntKind.u8 1)) 5, type := 4, pos := "base.go:397", after := #[{ on := 25, ground := Ground.data }, { on := 22, ground := Ground.guard }], guard := some (22, false) }) (v := undef) rfl (by kernel_rfl) (by kernel_rfl) (by kernel_rfl) (fun _ _ _ h => h) (Or.inr ⟨by rfl, rfl⟩) (by assumption) ?_
                      (try simp only [Act.put, List.setIfInBounds_toArray, List.set_cons_zero, List.set_cons_succ])
                      refine wpAnyH_take (i := 27) (oi := { dst := some 58, op := Op.pick (Operand.tmp 53) (Operand.const (Value.bool true)) (Operand.tmp 57), type := 4, pos := "base.go:397", after := #[{ on := 22, ground := Ground.data }, { on := 26, ground := Ground.data }], guard := none }) (v := .bool true) rfl (by kernel_rfl) (by kernel_rfl) (by kernel_rfl) (fun _ _ _ h => h) (Or.inl ⟨by rfl, fun w' hSw => by ((try dsimp only at hSw); go_simp)⟩) (by assumption) ?_
                      (try simp only [Act.put, List.setIfInBounds_toArray, List.set_cons_zero, List.set_cons_succ])
                      refine wpAnyH_done (by kernel_rfl) ?_ _
                      refine NoPanic.normal ?_
                      have HB2 := Lib.hid (HB1.out.trans (Below.mono hHeld HB1.out.size))
                      clear o0 o1 o2 o3
                      go_wp2_with fail
                      go_ret
                      exact ⟨by first | rfl | (rw [hz9]; rfl) | rw [hz9], HB2.out⟩
                    exact AllReadyH.nil
              · as_aux_lemma =>
                  have hz9 := map_no (b := b) (n := j) (fun m hg he hn => hz (by rw [he]; unfold mk; rw [hn, List.drop_left']; rfl)) hu
                  obtain ⟨n1, n2⟩ := str_toList_ne hz
                  generalize str (zs (240 - j)) = z at *
                  generalize str (b.drop j) = z' at *
                  clear hz hu
                  go_upto_region 6 with fail
                  have C3 := fun r (h : Held wr r) => (X1.out.kept h).cells.2.2.2
                  refine wp_region_noPanic ?_
                  refine wp_region_held_drew (S := Held wr) (by kernel_rfl) ?_ (fun hHeld => ?_)
                  · exact Held.start _
                  refine wpAnyH_take (i := 0) (oi := { dst := some 31, op := Op.move (Operand.tmp 3), type := 3, pos := "base.go:397", after := #[], guard := none }) (v := .int .i64 (j : Int)) rfl (by kernel_rfl) (by kernel_rfl) (by kernel_rfl) (fun _ _ _ h => h) (Or.inl ⟨by rfl, fun w' hSw => by ((try dsimp only at hSw); go_simp)⟩) (by assumption) ?_
                  (try simp only [Act.put, List.setIfInBounds_toArray, List.set_cons_zero, List.set_cons_succ])
                  refine wpAnyH_take (i := 1) (oi := { dst := some 32, op := Op.binOp BinOp.lss 3 (Operand.tmp 31) (Operand.const (Value.int IntKind.i64 8)) 3, type := 4, pos := "base.go:397", after := #[{ on := 0, ground := Ground.data }], guard := none }) (v := .bool false) rfl (by kernel_rfl) (by kernel_rfl) (by kernel_rfl) (fun _ _ _ h => h) (Or.inl ⟨by rfl, fun w' hSw => by ((try dsimp only at hSw); go_simp)⟩) (by assumption) ?_
                  (try simp only [Act.put, List.setIfInBounds_toArray, List.set_cons_zero, List.set_cons_succ])
                  refine wpAnyH_take (i := 2) (oi := { dst := some 33, op := Op.move (Operand.tmp 32), type := 4, pos := "base.go:397", after := #[{ on := 1, ground := Ground.data }], guard := none }) (v := .bool false) rfl (by kernel_rfl) (by kernel_rfl) (by kernel_rfl) (fun _ _ _ h => h) (Or.inl ⟨by rfl, fun w' hSw => by ((try dsimp only at hSw); go_simp)⟩) (by assumption) ?_
                  (try simp only [Act.put, List.setIfInBounds_toArray, List.set_cons_zero, List.set_cons_succ])
                  refine wpAnyH_take (i := 3) (oi := { dst := some 34, op := Op.move (Operand.tmp 3), type := 3, pos := "base.go:397", after := #[{ on := 2, ground := Ground.guard }], guard := some (2, false) }) (v := .int .i64 (j : Int)) rfl (by kernel_rfl) (by kernel_rfl) (by kernel_rfl) (fun _ _ _ h => h) (Or.inl ⟨by rfl, fun w' hSw => by ((try dsimp only at hSw); go_simp)⟩) (by assumption) ?_
                  (try simp only [Act.put, List.setIfInBounds_toArray, List.set_cons_zero, List.set_cons_succ])
                  refine wpAnyH_take (i := 4) (oi := { dst := some 35, op := Op.binOp BinOp.gtr 3 (Operand.tmp 34) (Operand.const (Value.int IntKind.i64 64)) 3, type := 4, pos := "base.go:397", after := #[{ on := 3, ground := Ground.data }, { on := 2, ground := Ground.guard }], guard := some (2, false) }) (v := .bool false) rfl (by kernel_rfl) (by kernel_rfl) (by kernel_rfl) (fun _ _ _ h => h) (Or.inl ⟨by rfl, fun w' hSw => by ((try dsimp only at hSw); go_simp)⟩) (by assumption) ?_
                  (try simp only [Act.put, List.setIfInBounds_toArray, List.set_cons_zero, List.set_cons_succ])
                  refine wpAnyH_take (i := 5) (oi := { dst := some 36, op := Op.pick (Operand.tmp 33) (Operand.const (Value.bool true)) (Operand.tmp 35), type := 4, pos := "base.go:397", after := #[{ on := 2, ground := Ground.data }, { on := 4, ground := Ground.data }], guard := none }) (v := .bool false) rfl (by kernel_rfl) (by kernel_rfl) (by kernel_rfl) (fun _ _ _ h => h) (Or.inl ⟨by rfl, fun w' hSw => by ((try dsimp only at hSw); go_simp)⟩) (by assumption) ?_
                  (try simp only [Act.put, List.setIfInBounds_toArray, List.set_cons_zero, List.set_cons_succ])
                  refine wpAnyH_take (i := 6) (oi := { dst := some 37, op := Op.move (Operand.tmp 36), type := 4, pos := "base.go:397", after := #[{ on := 5, ground := Ground.data }, { on := 2, ground := Ground.chain }], guard := none }) (v := .bool false) rfl (by kernel_rfl) (by kernel_rfl) (by kernel_rfl) (fun _ _ _ h => h) (Or.inl ⟨by rfl, fun w' hSw => by ((try dsimp only at hSw); go_simp)⟩) (by assumption) ?_
                  (try simp only [Act.put, List.setIfInBounds_toArray, List.set_cons_zero, List.set_cons_succ])
                  refine wpAnyH_take (i := 7) (oi := { dst := some 38, op := Op.fieldAddr 23 (Operand.tmp 1) 3, type := 0, pos := "base.go:397", after := #[{ on := 6, ground := Ground.guard }], guard := some (6, false) }) (v := .pointer (some ⟨B, 3, none⟩)) rfl (by kernel_rfl) (by kernel_rfl) (by kernel_rfl) (fun _ _ _ h => h) (Or.inl ⟨by rfl, fun w' hSw => by ((try dsimp only at hSw); go_simp)⟩) (by assumption) ?_
                  (try simp only [Act.put, List.setIfInBounds_toArray, List.set_cons_zero, List.set_cons_succ])
                  refine wpAnyH_take (i := 8) (oi := { dst := some 39, op := Op.load 9 (Operand.tmp 38), type := 9, pos := "base.go:397", after := #[{ on := 7, ground := Ground.data }, { on := 6, ground := Ground.guard }], guard := some (6, false) }) (v := .string s) rfl (by kernel_rfl) (by kernel_rfl) (by kernel_rfl) (fun _ _ _ h => h) (Or.inl ⟨by rfl, fun w' hSw => by ((try dsimp only at hSw); have := C3 _ hSw; go_simp)⟩) (by assumption) ?_
                  (try simp only [Act.put, List.setIfInBounds_toArray, List.set_cons_zero, List.set_cons_succ])
                  refine wpAnyH_take (i := 9) (oi := { dst := some 40, op := Op.move (Operand.tmp 3), type := 3, pos := "base.go:397", after := #[{ on := 6, ground := Ground.guard }], guard := some (6, false) }) (v := .int .i64 (j : Int)) rfl (by kernel_rfl) (by kernel_rfl) (by kernel_rfl) (fun _ _ _ h => h) (Or.inl ⟨by rfl, fun w' hSw => by ((try dsimp only at hSw); go_simp)⟩) (by assumption) ?_
                  (try simp only [Act.put, List.setIfInBounds_toArray, List.set_cons_zero, List.set_cons_succ])
                  refine wpAnyH_take (i := 10) (oi := { dst := some 41, op := Op.slice 9 (Operand.tmp 39) (some (Operand.tmp 40)) none none, type := 9, pos := "base.go:397", after := #[{ on := 8, ground := Ground.data }, { on := 9, ground := Ground.data }, { on := 6, ground := Ground.guard }], guard := some (6, false) }) (v := .string z') rfl (by kernel_rfl) (by kernel_rfl) (by kernel_rfl) (fun _ _ _ h => h) (Or.inl ⟨by rfl, fun w' hSw => by ((try dsimp only at hSw); have := SL w'; go_simp)⟩) (by assumption) ?_
                  (try simp only [Act.put, List.setIfInBounds_toArray, List.set_cons_zero, List.set_cons_succ])
                  refine wpAnyH_take (i := 11) (oi := { dst := some 42, op := Op.move (Operand.tmp 3), type := 3, pos := "base.go:397", after := #[{ on := 6, ground := Ground.guard }], guard := some (6, false) }) (v := .int .i64 (j : Int)) rfl (by kernel_rfl) (by kernel_rfl) (by kernel_rfl) (fun _ _ _ h => h) (Or.inl ⟨by rfl, fun w' hSw => by ((try dsimp only at hSw); go_simp)⟩) (by assumption) ?_
                  (try simp only [Act.put, List.setIfInBounds_toArray, List.set_cons_zero, List.set_cons_succ])
                  refine wpAnyH_take (i := 12) (oi := { dst := some 43, op := Op.binOp BinOp.sub 3 (Operand.const (Value.int IntKind.i64 240)) (Operand.tmp 42) 3, type := 3, pos := "base.go:397", after := #[{ on := 11, ground := Ground.data }, { on := 6, ground := Ground.guard }], guard := some (6, false) }) (v := .int .i64 (240 - (j : Int))) rfl (by kernel_rfl) (by kernel_rfl) (by kernel_rfl) (fun _ _ _ h => h) (Or.inl ⟨by rfl, fun w' hSw => by ((try dsimp only at hSw); go_simp)⟩) (by assumption) ?_
                  (try simp only [Act.put, List.setIfInBounds_toArray, List.set_cons_zero, List.set_cons_succ])
                  refine wpAnyH_ready (rs := [13]) (by kernel_rfl) (by simp) ?_
                  refine AllReadyH.cons (o := { dst := some 44, op := Op.call { callee := Callee.value (Operand.func 21), args := #[Operand.tmp 43], argTypes := #[3] }, type := 9, pos := "base.go:397", after := #[{ on := 12, ground := Ground.data }, { on := 6, ground := Ground.chain }, { on := 6, ground := Ground.guard }], guard := some (6, false) }) rfl (fun K hK => ?_) ?_
                  · go_simp; go_at_call 21; refine (ZE.out _).mono ?_; rintro e u ⟨rfl, hb⟩
                    refine hK.out _ _ ?_ (fun hHeld => ?_)
                    · exact Held.step (by assumption) hb
                    clear hK K
                    (try simp only [Act.put, List.setIfInBounds_toArray, List.set_cons_zero, List.set_cons_succ])
                    refine wpAnyH_take (i := 14) (oi := { dst := some 45, op := Op.binOp BinOp.neq 9 (Operand.tmp 41) (Operand.tmp 44) 9, type := 4, pos := "base.go:397", after := #[{ on := 10, ground := Ground.data }, { on := 13, ground := Ground.data }, { on := 6, ground := Ground.guard }], guard := some (6, false) }) (v := .bool true) rfl (by kernel_rfl) (by kernel_rfl) (by kernel_rfl) (fun _ _ _ h => h) (Or.inl ⟨by rfl, fun w' hSw => by ((try dsimp only at hSw); go_simp)⟩) (by assumption) ?_
                    (try simp only [Act.put, List.setIfInBounds_toArray, List.set_cons_zero, List.set_cons_succ])
                    refine wpAnyH_take (i := 15) (oi := { dst := some 46, op := Op.pick (Operand.tmp 37) (Operand.const (Value.bool true)) (Operand.tmp 45), type := 4, pos := "base.go:397", after := #[{ on := 6, ground := Ground.data }, { on := 14, ground := Ground.data }], guard := none }) (v := .bool true) rfl (by kernel_rfl) (by kernel_rfl) (by kernel_rfl) (fun _ _ _ h => h) (Or.inl ⟨by rfl, fun w' hSw => by ((try dsimp only at hSw); go_simp)⟩) (by assumption) ?_
                    (try simp only [Act.put, List.setIfInBounds_toArray, List.set_cons_zero, List.set_cons_succ])
                    refine wpAnyH_take (i := 16) (oi := { dst := some 47, op := Op.move (Operand.tmp 46), type := 4, pos := "base.go:397", after := #[{ on := 15, ground := Ground.data }, { on := 13, ground := Ground.chain }], guard := none }) (v := .bool true) rfl (by kernel_rfl) (by kernel_rfl) (by kernel_rfl) (fun _ _ _ h => h) (Or.inl ⟨by rfl, fun w' hSw => by ((try dsimp only at hSw); go_simp)⟩) (by assumption) ?_
                    (try simp only [Act.put, List.setIfInBounds_toArray, List.set_cons_zero, List.set_cons_succ])
                    refine wpAnyH_take (i := 17) (oi := { dst := some 48, op := Op.fieldAddr 23 (Operand.tmp 1) 3, type := 0, pos := "base.go:397", after := #[{ on := 16, ground := Ground.guard }], guard := some (16, false) }) (v := undef) rfl (by kernel_rfl) (by kernel_rfl) (by kernel_rfl) (fun _ _ _ h => h) (Or.inr ⟨by rfl, rfl⟩) (by assumption) ?_
                    (try simp only [Act.put, List.setIfInBounds_toArray, List.set_cons_zero, List.set_cons_succ])
                    refine wpAnyH_take (i := 18) (oi := { dst := some 49, op := Op.load 9 (Operand.tmp 48), type := 9, pos := "base.go:397", after := #[{ on := 17, ground := Ground.data }, { on := 16, ground := Ground.guard }], guard := some (16, false) }) (v := undef) rfl (by kernel_rfl) (by kernel_rfl) (by kernel_rfl) (fun _ _ _ h => h) (Or.inr ⟨by rfl, rfl⟩) (by assumption) ?_
                    (try simp only [Act.put, List.setIfInBounds_toArray, List.set_cons_zero, List.set_cons_succ])
                    refine wpAnyH_take (i := 19) (oi := { dst := some 50, op := Op.index 9 (Operand.tmp 49) (Operand.const (Value.int IntKind.i64 0)), type := 5, pos := "base.go:397", after := #[{ on := 18, ground := Ground.data }, { on := 16, ground := Ground.guard }], guard := some (16, false) }) (v := undef) rfl (by kernel_rfl) (by kernel_rfl) (by kernel_rfl) (fun _ _ _ h => h) (Or.inr ⟨by rfl, rfl⟩) (by assumption) ?_
                    (try simp only [Act.put, List.setIfInBounds_toArray, List.set_cons_zero, List.set_cons_succ])
                    refine wpAnyH_take (i := 20) (oi := { dst := some 51, op := Op.binOp BinOp.neq 5 (Operand.tmp 50) (Operand.const (Value.int IntKind.u8 1)) 5, type := 4, pos := "base.go:397", after := #[{ on := 19, ground := Ground.data }, { on := 16, ground := Ground.guard }], guard := some (16, false) }) (v := undef) rfl (by kernel_rfl) (by kernel_rfl) (by kernel_rfl) (fun _ _ _ h => h) (Or.inr ⟨by rfl, rfl⟩) (by assumption) ?_
                    (try simp only [Act.put, List.setIfInBounds_toArray, List.set_cons_zero, List.set_cons_succ])
                    refine wpAnyH_take (i := 21) (oi := { dst := some 52, op := Op.pick (Operand.tmp 47) (Operand.const (Value.bool true)) (Operand.tmp 51), type := 4, pos := "base.go:397", after := #[{ on := 16, ground := Ground.data }, { on := 20, ground := Ground.data }], guard := none }) (v := .bool true) rfl (by kernel_rfl) (by kernel_rfl) (by kernel_rfl) (fun _ _ _ h => h) (Or.inl ⟨by rfl, fun w' hSw => by ((try dsimp only at hSw); go_simp)⟩) (by assumption) ?_
                    (try simp only [Act.put, List.setIfInBounds_toArray, List.set_cons_zero, List.set_cons_succ])
                    refine wpAnyH_take (i := 22) (oi := { dst := some 53, op := Op.move (Operand.tmp 52), type := 4, pos := "base.go:397", after := #[{ on := 21, ground := Ground.data }, { on := 16, ground := Ground.chain }], guard := none }) (v := .bool true) rfl (by kernel_rfl) (by kernel_rfl) (by kernel_rfl) (fun _ _ _ h => h) (Or.inl ⟨by rfl, fun w' hSw => by ((try dsimp only at hSw); go_simp)⟩) (by assumption) ?_
                    (try simp only [Act.put, List.setIfInBounds_toArray, List.set_cons_zero, List.set_cons_succ])
                    refine wpAnyH_take (i := 23) (oi := { dst := some 54, op := Op.fieldAddr 23 (Operand.tmp 1) 3, type := 0, pos := "base.go:397", after := #[{ on := 22, ground := Ground.guard }], guard := some (22, false) }) (v := undef) rfl (by kernel_rfl) (by kernel_rfl) (by kernel_rfl) (fun _ _ _ h => h) (Or.inr ⟨by rfl, rfl⟩) (by assumption) ?_
                    (try simp only [Act.put, List.setIfInBounds_toArray, List.set_cons_zero, List.set_cons_succ])
                    refine wpAnyH_take (i := 24) (oi := { dst := some 55, op := Op.load 9 (Operand.tmp 54), type := 9, pos := "base.go:397", after := #[{ on := 23, ground := Ground.data }, { on := 22, ground := Ground.guard }], guard := some (22, false) }) (v := undef) rfl (by kernel_rfl) (by kernel_rfl) (by kernel_rfl) (fun _ _ _ h => h) (Or.inr ⟨by rfl, rfl⟩) (by assumption) ?_
                    (try simp only [Act.put, List.setIfInBounds_toArray, List.set_cons_zero, List.set_cons_succ])
                    refine wpAnyH_take (i := 25) (oi := { dst := some 56, op := Op.index 9 (Operand.tmp 55) (Operand.const (Value.int IntKind.i64 1)), type := 5, pos := "base.go:397", after := #[{ on := 24, ground := Ground.data }, { on := 22, ground := Ground.guard }], guard := some (22, false) }) (v := undef) rfl (by kernel_rfl) (by kernel_rfl) (by kernel_rfl) (fun _ _ _ h => h) (Or.inr ⟨by rfl, rfl⟩) (by assumption) ?_
                    (try simp only [Act.put, List.setIfInBounds_toArray, List.set_cons_zero, List.set_cons_succ])
                    refine wpAnyH_take (i := 26) (oi := { dst := some 57, op := Op.binOp BinOp.neq 5 (Operand.tmp 56) (Operand.const (Value.int IntKind.u8 1)) 5, type := 4, pos := "base.go:397", after := #[{ on := 25, ground := Ground.data }, { on := 22, ground := Ground.guard }], guard := some (22, false) }) (v := undef) rfl (by kernel_rfl) (by kernel_rfl) (by kernel_rfl) (fun _ _ _ h => h) (Or.inr ⟨by rfl, rfl⟩) (by assumption) ?_
                    (try simp only [Act.put, List.setIfInBounds_toArray, List.set_cons_zero, List.set_cons_succ])
                    refine wpAnyH_take (i := 27) (oi := { dst := some 58, op := Op.pick (Operand.tmp 53) (Operand.const (Value.bool true)) (Operand.tmp 57), type := 4, pos := "base.go:397", after := #[{ on := 22, ground := Ground.data }, { on := 26, ground := Ground.data }], guard := none }) (v := .bool true) rfl (by kernel_rfl) (by kernel_rfl) (by kernel_rfl) (fun _ _ _ h => h) (Or.inl ⟨by rfl, fun w' hSw => by ((try dsimp only at hSw); go_simp)⟩) (by assumption) ?_
                    (try simp only [Act.put, List.setIfInBounds_toArray, List.set_cons_zero, List.set_cons_succ])
                    refine wpAnyH_done (by kernel_rfl) ?_ _
                    refine NoPanic.normal ?_
                    have HB2 := Lib.hid (HB1.out.trans (Below.mono hHeld HB1.out.size))
                    clear o0 o1 o2 o3
                    go_wp2_with fail
                    go_ret
                    exact ⟨by first | rfl | (rw [hz9]; rfl) | rw [hz9], HB2.out⟩
                  exact AllReadyH.nil
    · as_aux_lemma =>
        obtain rfl : j = 240 := by omega
        have hz9 := map_past HL.out HI.out
        have k1 : ¬ ((240 : Nat) : Int) < 240 := by omega
        obtain ⟨o0, o1, o2, o3⟩ := X1.out.cells
        go_upto_region 6 with fail
        go_quiet (fail)
        go_wp2_with fail
        go_ret
        exact ⟨by first | rfl | (rw [hz9]; rfl) | rw [hz9], HB1.out.trans ⟨rfl, rfl, rfl, Nat.le_refl _, fun _ _ => rfl⟩⟩
theorem rmap_any (k d x : Int) (b : BA) (w : World) : Calls Tryd.prog 11 #[pv k d x b] w fun e w' => e = .returned (.int .i64 ((marksS k b).length)) ∧ Below w.heap.size w w' := by
  by_cases h : k = 2 ∧ b.length = 240
  · obtain ⟨rfl, hl⟩ := h
    exact rmap_main d x b hl w
  · have e0 : marksS k b = [] := by unfold marksS; rw [if_neg h]
    rw [e0]
    exact rmap_none k d x b (by by_cases hk : k = 2; exact .inr (fun hl => h ⟨hk, hl⟩); exact .inl hk) w
end Go.Proofs.YtkbbpdpalfpchaaDoor
