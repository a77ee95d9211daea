/- The document's own Zeros, Big (of two bytes), Of, Entries, DirOf. -/
import Derived.Test.YtojfnafahlpjjaaCalls
import Derived.Test.YtojfnafahlpjjaaBook2
import Derived.Deep.DeepCutAuto
import Derived.Deep.RegionHeld3
import Derived.RangeFuncBox
import Derived.OwnWalk
import Derived.Laws.AppendOwn
namespace Go.Proofs.Ytojfnafahlpjjaa
open Go.ChangeShapes Go.WideShapes Go.ChangeAt Go.RowKit
set_option linter.unusedVariables false
set_option linter.unusedSimpArgs false
set_option maxRecDepth 100000
set_option maxHeartbeats 400000 in
theorem zeros_ok (n : Nat) (hn : n ≤ 1000) (w : World) : Calls Try.prog 25 #[.int .i64 n] w fun e w' => e = .returned (.string (str (zs n))) ∧ Below w.heap.size w w' := by
  obtain ⟨w2, hmk, hby, hb⟩ := make_byt n hn w
  have hcv := hby.string
  rw [zs_length] at hcv
  have HB := Lib.hid hb
  generalize str (zs n) = z at *
  clear hby hb
  have k0 : (0 : Int) ≤ (n : Int) := by omega
  generalize w.heap.size = g at *
  go_enter Try.func25, Try.ntmps25
  go_wp2_with fail
  go_ret
  exact ⟨rfl, HB.out⟩
theorem i64_mask8 (v : Int) (h0 : -9223372036854775808 ≤ v) (h1 : v ≤ 9223372036854775807) : bits .and .i64 v 255 = v % 256 := by
  have e : ∀ a : Int, (BitVec.ofInt 64 a).toNat = (a % 18446744073709551616).toNat := fun a => by
    rw [BitVec.toNat_ofInt]; rfl
  show IntKind.i64.wrap ((BitVec.ofInt 64 v &&& BitVec.ofInt 64 255).toNat : Int) = _
  rw [BitVec.toNat_and, e, e, show ((255 : Int) % 18446744073709551616).toNat = 2 ^ 8 - 1 from rfl, Nat.and_two_pow_sub_one_eq_mod, IntKind.wrap_i64]
  omega
theorem to_string2 (W : World) (v : Int) (h : 0 ≤ v ∧ v < 256) : (convert 93 9 (.slice (some ⟨W.heap.size, 0, none⟩) 2 2)).run Try.prog (W.alloc (.cells #[.int .u8 (v / 256 % 256), .int .u8 (v % 256)] 5)) = .ok (.string (str (two v))) (W.alloc (.cells #[.int .u8 (v / 256 % 256), .int .u8 (v % 256)] 5)) := by
  refine Byt.string (b := two v) ?_
  have hh := heap_alloc_new W (.cells #[.int .u8 (v / 256 % 256), .int .u8 (v % 256)] 5)
  unfold Byt two
  rw [hh]
  have e0 : v / 256 % 256 = 0 := by omega
  have e1 : v % 256 = v := by omega
  have e2 := byte_lit h
  simp only [List.map_cons, List.map_nil, e0, e1, e2]
  rfl
set_option maxHeartbeats 1000000 in
theorem big_two (v : Int) (w : World) (h : 0 ≤ v ∧ v < 256) :
    Calls Try.prog 24 #[.int .i64 v, .int .i64 2] w fun e w' => e = .returned (.tuple #[.string (str (two v)), .bool true]) ∧ Below w.heap.size w w' := by
  have m0 := i64_mask8 (v) (by omega) (by omega)
  have m1 := i64_mask8 (v / 256) (by omega) (by omega)
  have hz : (v / 256 / 256 == 0) = true := by rw [beq_iff_eq]; omega
  have h2 : 0 ≤ v := h.1
  have h3 : v < 256 := h.2
  have hcv := to_string2 w v h
  have hmk : ∀ w : World, (Instr.makeSlice 93 (.int .i64 2) (.int .i64 2)).run Try.prog w = .ok (.slice (some ⟨w.heap.size, 0, none⟩) 2 2) (w.alloc (.cells #[.int .u8 0, .int .u8 0] 5)) := fun _ => by kernel_rfl
  clear h
  generalize str (two v) = X at *
  clear h3
  go_enter Try.func24, Try.ntmps24
  go_wp2_with fail
  refine wp_loop_rounds 3 ?_
  rw [rounds_succ]
  go_wp2_with fail
  rw [rounds_succ]
  go_wp2_with fail
  rw [rounds_succ]
  go_wp2_with fail
  go_ret2
  exact ⟨rfl, (Below.refl _ _).alloc (Nat.le_refl _) _⟩
set_option maxHeartbeats 1000000 in
theorem of_two (x y : UInt8) (w : World) : Calls Try.prog 26 #[.string (str [x, y])] w fun e w' => e = .returned (.int .i64 ((x.toNat : Int) * 256 + (y.toNat : Int))) ∧ w = w' := by
  have hsz : (str [x, y]).size = 2 := by rw [str_size]; rfl
  have i0 : ∀ w : World, (Instr.index 9 (.string (str [x, y])) (.int .i64 0)).run Try.prog w = .ok (.int .u8 (x.toNat : Int)) w := fun w => run_ix [x, y] 0 (by simp) w
  have i1 : ∀ w : World, (Instr.index 9 (.string (str [x, y])) (.int .i64 1)).run Try.prog w = .ok (.int .u8 (y.toNat : Int)) w := fun w => run_ix [x, y] 1 (by simp) w
  have l0 := x.toNat_lt
  have l1 := y.toNat_lt
  generalize str [x, y] = s at *
  generalize x.toNat = a at *
  generalize y.toNat = c at *
  have e1 : IntKind.i64.wrap (a : Int) = (a : Int) := IntWalk.i64_in _ (by omega)
  have e2 : IntKind.i64.wrap (c : Int) = (c : Int) := IntWalk.i64_in _ (by omega)
  have e3 : IntKind.i64.wrap ((a : Int) * 256) = (a : Int) * 256 := IntWalk.i64_in _ (by omega)
  have e4 : IntKind.i64.wrap ((a : Int) * 256 + c) = (a : Int) * 256 + c := IntWalk.i64_in _ (by omega)
  go_enter Try.func26, Try.ntmps26
  go_wp2_with fail
  refine wp_loop_rounds 3 ?_
  rw [rounds_succ]
  go_wp2_with fail
  rw [rounds_succ]
  go_wp2_with fail
  rw [rounds_succ]
  go_wp2_with fail
  go_ret
  exact ⟨rfl, rfl⟩
/-- Behind X: all that was there stands. -/
def Held (X w : World) : Prop := Below X.heap.size X w
theorem Held.start (X : World) : Held X X.drew := (Below.refl _ _).drew
theorem Held.step {X w w' : World} (h : Held X w) (hb : Below w.heap.size w w') : Held X w' := Below.trans h (hb.mono (Below.size h))
/-- An answer of Entries. -/
def EntT (l : List Int) (w : World) (q : Ending) (w' : World) : Prop := Below w.heap.size w w' ∧ ((l = [] ∧ ∃ A n c, q = .returned (.tuple #[.slice A n c, .bool false])) ∨ (l ≠ [] ∧ ∃ A c, q = .returned (.tuple #[.slice A l.length c, .bool true]) ∧ w'.ownsRow w.heap.size 3 1 (.slice A l.length c) l.length (l.map (Value.int .i64))))
theorem entries_no (k d x : Int) (b : BA) (w : World) (h : ¬ (k = 1 ∧ 0 ≤ d ∧ d < 6 ∧ b.length = 240)) : Calls Try.prog 11 #[pv k d x b] w fun q w' => q = .returned (.tuple #[.slice none 0 0, .bool false]) ∧ Below w.heap.size w w' := by
  have HB := Lib.hid ((Below.refl w.heap.size w).alloc (Nat.le_refl _) (.cells #[.int .i64 k, .int .i64 d, .int .i64 x, .string (str b)] 23))
  have hs : ((str b).size : Int) = (b.length : Int) := by rw [str_size]
  unfold pv
  by_cases c0 : k = 1
  · subst c0
    by_cases c1 : 0 ≤ d
    · by_cases c4 : d < 6
      · have c2 : ((str b).size : Int) ≠ 240 := by
          intro e
          exact h ⟨rfl, c1, c4, by omega⟩
        have c3 : (((str b).size : Int) == 240) = false := by rw [beq_eq_false_iff_ne]; exact c2
        have c5 : decide (d < 0) = false := decide_eq_false (by omega)
        have c6 : decide (d > 5) = false := decide_eq_false (by omega)
        have c7 : decide (5 < d) = false := decide_eq_false (by omega)
        clear h hs
        generalize str b = s at *
        go_enter Try.func11, Try.ntmps11
        go_wp2_with fail
        go_ret2
        exact ⟨rfl, HB.out⟩
      · have c5 : decide (d < 0) = false := decide_eq_false (by omega)
        have c6 : decide (d > 5) = true := decide_eq_true (by omega)
        have c7 : decide (5 < d) = true := decide_eq_true (by omega)
        clear h hs
        generalize str b = s at *
        go_enter Try.func11, Try.ntmps11
        go_wp2_with fail
        go_ret2
        exact ⟨rfl, HB.out⟩
    · have c5 : decide (d < 0) = true := decide_eq_true (by omega)
      clear h hs
      generalize str b = s at *
      go_enter Try.func11, Try.ntmps11
      go_wp2_with fail
      go_ret2
      exact ⟨rfl, HB.out⟩
  · have c3 : (k == 1) = false := by rw [beq_eq_false_iff_ne]; exact c0
    clear h hs
    generalize str b = s at *
    go_enter Try.func11, Try.ntmps11
    go_wp2_with fail
    go_ret2
    exact ⟨rfl, HB.out⟩
theorem pair_at (b : BA) (i : Nat) (h : i * 2 + 1 < b.length) : (b.drop (2 * i)).take 2 = [b.getD (2 * i) 0, b.getD (2 * i + 1) 0] := by
  apply List.ext_getElem
  · simp; omega
  · intro j h1 h2
    have : j = 0 ∨ j = 1 := by simp at h2; omega
    rcases this with rfl | rfl
    · simp [List.getD_eq_getElem?_getD, List.getElem?_eq_getElem (show 2 * i < b.length by omega)]
    · simp [List.getD_eq_getElem?_getD, List.getElem?_eq_getElem (show 2 * i + 1 < b.length by omega)]
/-- What stands in Entries' rounds. -/
def ESt (w : World) (e x : Int) (b : BA) (s : ByteArray) (P i : Nat) (v : Value) (w' : World) : Prop := PBox w' P 1 e x s ∧ w'.ownsRow w.heap.size 3 1 v i ((entB b i).map (Value.int .i64)) ∧ Below w.heap.size w w' ∧ ∀ j, j < i → rightB (numAt b j) = true
set_option maxHeartbeats 2000000 in
theorem entries_yes (x : Int) (b : BA) (e : Nat) (he : e ≤ 5) (hbl : b.length = 240) (w : World) : Calls Try.prog 11 #[pv 1 e x b] w fun q w' => EntT (dirS 1 e b) w q w' := by
  obtain ⟨i0, hi0, hz0, hz1, hz2⟩ := info_parts infoI
  have hp := pow_le he
  have SH := shl_val e (by omega)
  have SH2 : wrap64 ((2 : Int) ^ e) = ((2 ^ e : Nat) : Int) := by rw [← SH, Int.toNat_natCast, Nat.min_eq_left (by omega)]
  clear SH
  have hs : ((str b).size : Int) = 240 := by rw [str_size, hbl]; rfl
  have HD := Lib.hid (show dirS 1 (e : Int) b = if (entB b (2 ^ e)).all rightB = true ∧ b.drop (2 * 2 ^ e) = zs (240 - 2 * 2 ^ e) then entB b (2 ^ e) else [] from by
    unfold dirS
    rw [if_pos ⟨rfl, by omega, by omega, hbl⟩, Int.toNat_natCast])
  obtain ⟨L, hL⟩ : ∃ L, L = dirS 1 (e : Int) b := ⟨_, rfl⟩
  rw [← hL] at HD ⊢
  clear hL
  have HPR := Lib.hid (fun (i : Nat) (hi : i * 2 + 1 < 240) (w : World) => (show (Instr.slice 9 (.string (str b)) (some (.int .i64 (2 * (i : Int)))) (some (.int .i64 (2 * (i : Int) + 2))) none).run Try.prog w = .ok (.string (str [b.getD (2 * i) 0, b.getD (2 * i + 1) 0])) w from by
    rw [run_slice_string w 9 (str b) .i64 .i64 (2 * (i : Int)) (2 * (i : Int) + 2) Try.underlying9 (by omega) (by omega) (by rw [hs]; omega), show (2 * (i : Int)).toNat = 2 * i by omega, show (2 * (i : Int) + 2).toNat = 2 * i + 2 by omega, cut_str b _ _ 2 rfl, pair_at b i (by rw [hbl]; exact hi)]))
  have HSL := Lib.hid (fun (n : Nat) (hn : n ≤ 240) (w : World) => (show (Instr.slice 9 (.string (str b)) (some (.int .i64 (n : Int))) none none).run Try.prog w = .ok (.string (str (b.drop n))) w from by
    rw [run_slice_string_l (P := Try.prog) w 9 (str b) Try.underlying9 .i64 (n : Int) (by omega) (by rw [hs]; omega), extract_str, str_toList, Int.toNat_natCast, List.take_of_length_le (by rw [List.length_drop, hbl, str_size, hbl]; omega)]))
  have HP0 := Lib.hid (PBox.new w 1 e x (str b))
  have HB0 := Lib.hid ((Below.refl w.heap.size w).alloc (Nat.le_refl _) (.cells #[.int .i64 1, .int .i64 e, .int .i64 x, .string (str b)] 23))
  unfold pv
  obtain ⟨s, hsb⟩ : ∃ s, s = str b := ⟨_, rfl⟩
  rw [← hsb] at HPR HSL HP0 HB0 hs ⊢
  clear hsb
  generalize 2 ^ e = N at *
  obtain ⟨W0, hW⟩ : ∃ W0, W0 = w.alloc (.cells #[.int .i64 1, .int .i64 e, .int .i64 x, .string s] 23) := ⟨_, rfl⟩
  rw [← hW] at HP0 HB0
  obtain ⟨P, hP⟩ : ∃ P, P = w.heap.size := ⟨_, rfl⟩
  rw [← hP] at HP0
  have HPE := Lib.hid hP.symm
  have HW := Lib.hid hW.symm
  have HST := Lib.hid (show ESt w e x b s P 0 (.slice none 0 0) W0 from ⟨HP0.out, World.ownsRow_nil _ _ _ _, HB0.out, fun j hj => absurd hj (Nat.not_lt_zero _)⟩)
  clear hP hW
  have hp1 := hp.1
  have hp2 := hp.2
  obtain ⟨x0, x1, x2, x3⟩ := HP0.out.cells
  clear hp HB0 HP0
  have n0 : (0 : Int) ≤ (N : Int) := by omega
  have d0 : decide ((e : Int) < 0) = false := decide_eq_false (by omega)
  have d1 : decide ((e : Int) > 5) = false := decide_eq_false (by omega)
  have d2 : decide (5 < (e : Int)) = false := decide_eq_false (by omega)
  have d3 : (e : Int) % 18446744073709551616 = (e : Int) := by omega
  have d4 : ¬ (5 < (e : Int)) := by omega
  have d5 : ¬ ((e : Int) < 0) := by omega
  go_enter Try.func11, Try.ntmps11
  go_upto_region 1 with fail
  rw [HW.out, HPE.out]
  go_wp2_with fail
  clear x0 x1 x2 x3 d0 d1 d2 d3 d4 d5
  go_loopw [5, 6] (fun v u wr => ∃ i : Nat, i ≤ N ∧ u = .int .i64 i ∧ Hid (ESt w e x b s P i v wr)) (fun _ u _ => N - (intOf u).toNat)
  case atStart => exact ⟨0, Nat.zero_le _, rfl, HST.out⟩
  case round =>
    obtain ⟨i, hi, rfl, hq⟩ := hrel
    have HQ := Lib.hid hq.out
    clear hq HST
    have b0 : (0 : Int) ≤ (i : Int) := by omega
    obtain ⟨x0, x1, x2, x3⟩ := HQ.out.1.cells
    by_cases hlt : i < N
    · have b1 : (i : Int) < (N : Int) := by omega
      have b2 : (i : Int) ≤ 1000 := by omega
      have pr := HPR.out i (by omega)
      have OF := Lib.hid (fun w => of_two (b.getD (2 * i) 0) (b.getD (2 * i + 1) 0) w)
      rw [show (((b.getD (2 * i) 0).toNat : Int) * 256 + ((b.getD (2 * i + 1) 0).toNat : Int)) = numAt b i from rfl] at OF
      have HNR := Lib.hid (numAt_range b i)
      have KR : (2 ≤ numAt b i ∧ numAt b i < 64) ∨ ¬ (2 ≤ numAt b i ∧ numAt b i < 64) := Decidable.em _
      have HES := Lib.hid (entB_succ b i)
      have HLN := Lib.hid (fun (hr : ¬ (2 ≤ numAt b i ∧ numAt b i < 64)) => (show L = [] from by
        rw [HD.out, if_neg]
        rintro ⟨h1, _⟩
        have := entB_all.1 h1 i hlt
        rw [rightB_no hr] at this
        cases this))
      have HRT := Lib.hid (fun (hr : 2 ≤ numAt b i ∧ numAt b i < 64) => (show ∀ j, j < i + 1 → rightB (numAt b j) = true from fun j hj => by
        by_cases ej : j = i
        · rw [ej]; exact rightB_iff.2 hr
        · exact HQ.out.2.2.2 j (by omega)))
      generalize numAt b i = na at *
      generalize str [b.getD (2 * i) 0, b.getD (2 * i + 1) 0] = s2 at *
      go_wp2_with fail
      refine (OF.out _).mono ?_; rintro q w3 ⟨rfl, rfl⟩
      clear pr OF x0 x1 x2 x3
      rcases KR with hr | hr
      · have HRS := Lib.hid (HRT.out hr)
        have r1 : ¬ na < 2 := by omega
        have r2 : ¬ 64 ≤ na := by omega
        have r3 : decide (na < 2) = false := decide_eq_false r1
        have r4 : decide (na ≥ 64) = false := decide_eq_false r2
        have r5 : decide (64 ≤ na) = false := decide_eq_false r2
        have hown := HQ.out.2.1
        clear hr HLN HRT HNR
        go_wp2_with (at_builtin; refine wpList_append_own _ rfl _ _ 29 rfl w.heap.size 3 i0 (.int .i64 0) 1 8 Try.underlying29 hi0 hz0 hz1 hz2 rfl (by decide) _ _ _ rfl (hown.alloc _) ⟨wr.heap.size, 0, none⟩ 1 1 [.int .i64 na] rfl rfl (cell_one_new _ _ _) (by simp [Value.oneCell']) (by unfold maxLen; omega) (by omega) (by have := Below.size HQ.out.2.2.1; simp; omega) ?_; intro v' w4 hown' hgrow _; obtain ⟨g', cap', rfl⟩ := ownsRow_succ hown')
        have HO := Lib.hid (show w4.ownsRow w.heap.size 3 1 (.slice (some ⟨g', 0, none⟩) (i + 1) cap') (i + 1) ((entB b (i + 1)).map (Value.int .i64)) from by
          rw [HES.out, List.map_append]
          exact hown')
        have HB := Lib.hid (show Below w.heap.size w w4 from (HQ.out.2.2.1.alloc (Below.size HQ.out.2.2.1) _).grown hgrow (by have := Below.size HQ.out.2.2.1; simp; omega) (fun g hg => (hown.lt g hg).1))
        have HPX := Lib.hid (show PBox w4 P 1 e x s from by
          have hP : PBox (wr.alloc (.cells #[.int .i64 na] 3)) P 1 e x s := HQ.out.1.kept ((Below.refl _ _).alloc (Nat.le_refl _) _)
          refine (hgrow.block P hP.lt ?_).trans hP
          intro e
          obtain ⟨cur, hc⟩ := owns_block hown e.symm
          have hh := HQ.out.1
          unfold PBox at hh
          rw [hh] at hc
          simp at hc)
        clear hown hown' hgrow
        go_wp2_with fail
        go_roundw
        case rel => exact ⟨i + 1, by omega, by go_num, HPX.out, HO.out, HB.out, HRS.out⟩
        case measure => simp [intOf]; omega
      · have HL := Lib.hid (HLN.out hr)
        have HBX := Lib.hid HQ.out.2.2.1
        clear HRT HLN
        have K2 : na < 2 ∨ ¬ na < 2 := Decidable.em _
        rcases K2 with r1 | r1
        · have r3 : decide (na < 2) = true := decide_eq_true r1
          clear hr HNR
          go_wp2_with fail
          go_ret2
          exact ⟨HBX.out, .inl ⟨HL.out, _, _, _, rfl⟩⟩
        · have r2 : 64 ≤ na := by omega
          have r3 : decide (na < 2) = false := decide_eq_false r1
          have r4 : decide (na ≥ 64) = true := decide_eq_true r2
          have r5 : decide (64 ≤ na) = true := decide_eq_true r2
          clear hr HNR
          go_wp2_with fail
          go_ret2
          exact ⟨HBX.out, .inl ⟨HL.out, _, _, _, rfl⟩⟩
    · obtain rfl : N = i := by omega
      have b1 : ¬ (N : Int) < (N : Int) := by omega
      have HALL := Lib.hid (entB_all.2 HQ.out.2.2.2)
      obtain ⟨r, hr⟩ : ∃ r, r = str (b.drop (2 * N)) := ⟨_, rfl⟩
      have SL := HSL.out (2 * N) (by omega)
      rw [← hr, show ((2 * N : Nat) : Int) = 2 * (N : Int) by omega] at SL
      obtain ⟨M, hM⟩ : ∃ M, M = 240 - 2 * N := ⟨_, rfl⟩
      have ZE := Lib.hid (zeros_ok M (by omega))
      obtain ⟨t, ht⟩ : ∃ t, t = decide (b.drop (2 * N) = zs M) := ⟨_, rfl⟩
      have heq : (r.toList == (str (zs M)).toList) = t := by rw [hr, ht]; exact str_beq _ _
      have hm1 : IntKind.i64.wrap (240 - 2 * (N : Int)) = (M : Int) := by rw [show (240 : Int) - 2 * (N : Int) = (M : Int) by omega]; exact IntWalk.i64_in _ (by omega)
      have hm2 : IntKind.i64.wrap (2 * (N : Int)) = 2 * (N : Int) := IntWalk.i64_in _ (by omega)
      have HM := Lib.hid hM
      have HT := Lib.hid ht
      clear hr hM ht
      generalize str (zs M) = z at *
      have C3 := Lib.hid (fun r (h : Held wr r) => (HQ.out.1.kept h).cells.2.2.2)
      have HPB := Lib.hid HQ.out.2.2.1
      have HOW := Lib.hid HQ.out.2.1

      clear x0 x1 x2 x3 HQ
      go_upto_region 12 with fail
      refine wp_region_noPanic ?_
      refine wp_region_held_drew (S := Held wr) (by kernel_rfl) ?_ (fun hHeld => ?_)
      · exact Held.start _
      refine wpAnyH_take (i := 0) (oi := { dst := some 55, op := Op.move (Operand.tmp 5), type := 29, pos := "base.go:423", after := #[], guard := none }) (v := u5) rfl (by kernel_rfl) (by kernel_rfl) (by kernel_rfl) (fun _ _ _ h => h) (Or.inl ⟨by rfl, fun w' hSw => by ((try dsimp only at hSw); go_simp)⟩) (by assumption) ?_
      (try simp only [Act.put, List.setIfInBounds_toArray, List.set_cons_zero, List.set_cons_succ])
      refine wpAnyH_take (i := 1) (oi := { dst := some 56, op := Op.fieldAddr 23 (Operand.tmp 1) 3, type := 0, pos := "base.go:423", after := #[], guard := none }) (v := .pointer (some ⟨P, 3, none⟩)) rfl (by kernel_rfl) (by kernel_rfl) (by kernel_rfl) (fun _ _ _ h => h) (Or.inl ⟨by rfl, fun w' hSw => by ((try dsimp only at hSw); go_simp)⟩) (by assumption) ?_
      (try simp only [Act.put, List.setIfInBounds_toArray, List.set_cons_zero, List.set_cons_succ])
      refine wpAnyH_take (i := 2) (oi := { dst := some 57, op := Op.load 9 (Operand.tmp 56), type := 9, pos := "base.go:423", after := #[{ on := 1, ground := Ground.data }], guard := none }) (v := .string s) rfl (by kernel_rfl) (by kernel_rfl) (by kernel_rfl) (fun _ _ _ h => h) (Or.inl ⟨by rfl, fun w' hSw => by ((try dsimp only at hSw); have := C3 _ hSw; go_simp)⟩) (by assumption) ?_
      (try simp only [Act.put, List.setIfInBounds_toArray, List.set_cons_zero, List.set_cons_succ])
      refine wpAnyH_take (i := 3) (oi := { dst := some 58, op := Op.move (Operand.tmp 4), type := 3, pos := "base.go:423", after := #[], guard := none }) (v := .int .i64 N) rfl (by kernel_rfl) (by kernel_rfl) (by kernel_rfl) (fun _ _ _ h => h) (Or.inl ⟨by rfl, fun w' hSw => by ((try dsimp only at hSw); go_simp)⟩) (by assumption) ?_
      (try simp only [Act.put, List.setIfInBounds_toArray, List.set_cons_zero, List.set_cons_succ])
      refine wpAnyH_take (i := 4) (oi := { dst := some 59, op := Op.binOp BinOp.mul 3 (Operand.const (Value.int IntKind.i64 2)) (Operand.tmp 58) 3, type := 3, pos := "base.go:423", after := #[{ on := 3, ground := Ground.data }], guard := none }) (v := .int .i64 (2 * (N : Int))) rfl (by kernel_rfl) (by kernel_rfl) (by kernel_rfl) (fun _ _ _ h => h) (Or.inl ⟨by rfl, fun w' hSw => by ((try dsimp only at hSw); go_simp)⟩) (by assumption) ?_
      (try simp only [Act.put, List.setIfInBounds_toArray, List.set_cons_zero, List.set_cons_succ])
      refine wpAnyH_take (i := 5) (oi := { dst := some 60, op := Op.slice 9 (Operand.tmp 57) (some (Operand.tmp 59)) none none, type := 9, pos := "base.go:423", after := #[{ on := 2, ground := Ground.data }, { on := 4, ground := Ground.data }], guard := none }) (v := .string r) rfl (by kernel_rfl) (by kernel_rfl) (by kernel_rfl) (fun _ _ _ h => h) (Or.inl ⟨by rfl, fun w' hSw => by ((try dsimp only at hSw); have := SL w'; go_simp)⟩) (by assumption) ?_
      (try simp only [Act.put, List.setIfInBounds_toArray, List.set_cons_zero, List.set_cons_succ])
      refine wpAnyH_take (i := 6) (oi := { dst := some 61, op := Op.move (Operand.tmp 4), type := 3, pos := "base.go:423", after := #[], guard := none }) (v := .int .i64 N) rfl (by kernel_rfl) (by kernel_rfl) (by kernel_rfl) (fun _ _ _ h => h) (Or.inl ⟨by rfl, fun w' hSw => by ((try dsimp only at hSw); go_simp)⟩) (by assumption) ?_
      (try simp only [Act.put, List.setIfInBounds_toArray, List.set_cons_zero, List.set_cons_succ])
      refine wpAnyH_take (i := 7) (oi := { dst := some 62, op := Op.binOp BinOp.mul 3 (Operand.const (Value.int IntKind.i64 2)) (Operand.tmp 61) 3, type := 3, pos := "base.go:423", after := #[{ on := 6, ground := Ground.data }], guard := none }) (v := .int .i64 (2 * (N : Int))) rfl (by kernel_rfl) (by kernel_rfl) (by kernel_rfl) (fun _ _ _ h => h) (Or.inl ⟨by rfl, fun w' hSw => by ((try dsimp only at hSw); go_simp)⟩) (by assumption) ?_
      (try simp only [Act.put, List.setIfInBounds_toArray, List.set_cons_zero, List.set_cons_succ])
      refine wpAnyH_take (i := 8) (oi := { dst := some 63, op := Op.binOp BinOp.sub 3 (Operand.const (Value.int IntKind.i64 240)) (Operand.tmp 62) 3, type := 3, pos := "base.go:423", after := #[{ on := 7, ground := Ground.data }], guard := none }) (v := .int .i64 M) rfl (by kernel_rfl) (by kernel_rfl) (by kernel_rfl) (fun _ _ _ h => h) (Or.inl ⟨by rfl, fun w' hSw => by ((try dsimp only at hSw); go_simp)⟩) (by assumption) ?_
      (try simp only [Act.put, List.setIfInBounds_toArray, List.set_cons_zero, List.set_cons_succ])
      refine wpAnyH_ready (rs := [9]) (by kernel_rfl) (by simp) ?_
      refine AllReadyH.cons (o := { dst := some 64, op := Op.call { callee := Callee.value (Operand.func 25), args := #[Operand.tmp 63], argTypes := #[3] }, type := 9, pos := "base.go:423", after := #[{ on := 8, ground := Ground.data }], guard := none }) rfl (fun K hK => ?_) ?_
      · go_simp; go_at_call 25; refine (ZE.out _).mono ?_; rintro e u ⟨rfl, hb⟩
        refine hK.out _ _ ?_ (fun hHeld => ?_)
        · exact Held.step (by assumption) hb
        clear hK K
        (try simp only [Act.put, List.setIfInBounds_toArray, List.set_cons_zero, List.set_cons_succ])
        refine wpAnyH_take (i := 10) (oi := { dst := some 65, op := Op.binOp BinOp.eql 9 (Operand.tmp 60) (Operand.tmp 64) 9, type := 4, pos := "base.go:423", after := #[{ on := 5, ground := Ground.data }, { on := 9, ground := Ground.data }, { on := 11, ground := Ground.gcOnly Go.Departure.lateStores }], guard := none }) (v := .bool t) rfl (by kernel_rfl) (by kernel_rfl) (by kernel_rfl) (fun _ _ _ h => h) (Or.inl ⟨by rfl, fun w' hSw => by ((try dsimp only at hSw); go_simp)⟩) (by assumption) ?_
        (try simp only [Act.put, List.setIfInBounds_toArray, List.set_cons_zero, List.set_cons_succ])
        refine wpAnyH_take (i := 11) (oi := { dst := some 2, op := Op.assign (Operand.tmp 55), type := 29, pos := "base.go:423", after := #[{ on := 0, ground := Ground.data }, { on := 9, ground := Ground.chain }, { on := 0, ground := Ground.phase }, { on := 1, ground := Ground.textOnly Go.Departure.lateStores }, { on := 2, ground := Ground.textOnly Go.Departure.lateStores }, { on := 3, ground := Ground.textOnly Go.Departure.lateStores }, { on := 4, ground := Ground.textOnly Go.Departure.lateStores }, { on := 5, ground := Ground.textOnly Go.Departure.lateStoresUnsure }, { on := 6, ground := Ground.textOnly Go.Departure.lateStores }, { on := 7, ground := Ground.textOnly Go.Departure.lateStores }, { on := 8, ground := Ground.textOnly Go.Departure.lateStores }, { on := 9, ground := Ground.textOnly Go.Departure.lateStoresUnsure }, { on := 10, ground := Ground.textOnly Go.Departure.lateStores }], guard := none }) (v := u5) rfl (by kernel_rfl) (by kernel_rfl) (by kernel_rfl) (fun _ _ _ h => h) (Or.inl ⟨by rfl, fun w' hSw => by ((try dsimp only at hSw); go_simp)⟩) (by assumption) ?_
        (try simp only [Act.put, List.setIfInBounds_toArray, List.set_cons_zero, List.set_cons_succ])
        refine wpAnyH_take (i := 12) (oi := { dst := some 3, op := Op.assign (Operand.tmp 65), type := 4, pos := "base.go:423", after := #[{ on := 10, ground := Ground.data }, { on := 11, ground := Ground.chain }, { on := 0, ground := Ground.phase }, { on := 1, ground := Ground.phase }, { on := 2, ground := Ground.phase }, { on := 3, ground := Ground.phase }, { on := 4, ground := Ground.phase }, { on := 5, ground := Ground.phase }, { on := 6, ground := Ground.phase }, { on := 7, ground := Ground.phase }, { on := 8, ground := Ground.phase }, { on := 9, ground := Ground.phase }, { on := 10, ground := Ground.phase }, { on := 11, ground := Ground.phase }], guard := none }) (v := .bool t) rfl (by kernel_rfl) (by kernel_rfl) (by kernel_rfl) (fun _ _ _ h => h) (Or.inl ⟨by rfl, fun w' hSw => by ((try dsimp only at hSw); go_simp)⟩) (by assumption) ?_
        (try simp only [Act.put, List.setIfInBounds_toArray, List.set_cons_zero, List.set_cons_succ])
        refine wpAnyH_done (by kernel_rfl) ?_ _
        refine NoPanic.normal ?_
        have HB2 := Lib.hid (HPB.out.trans (Below.mono hHeld (Below.size HPB.out)))
        have HOW2 := Lib.hid (owns_kept HOW.out fun g hg => Below.block hHeld g (HOW.out.lt g hg).2)
        obtain ⟨Av, cv, rfl⟩ := own_shape HOW.out
        clear hHeld
        go_wp2_with fail
        go_ret2
        refine ⟨HB2.out, ?_⟩
        cases t with
        | true =>
          have hL : L = entB b N := by rw [HD.out, if_pos ⟨HALL.out, by have := of_decide_eq_true HT.out.symm; rw [this, HM.out]⟩]
          refine .inr ⟨by rw [hL]; intro h; have := congrArg List.length h; rw [entB_length] at this; simp at this; omega, Av, cv, by rw [hL, entB_length]; rfl, ?_⟩
          rw [hL, entB_length]
          exact HOW2.out
        | false =>
          have hL : L = [] := by
            rw [HD.out, if_neg]
            rintro ⟨_, h2⟩
            have := of_decide_eq_false HT.out.symm
            exact this (by rw [h2, HM.out])
          exact .inl ⟨hL, _, _, _, rfl⟩
      exact AllReadyH.nil
theorem bdL_take {l : List Int} {i : Nat} (h : i < l.length) : bdL (l.take (i + 1)) = bdL (l.take i) ++ two (l.getD i 0) := by
  rw [List.take_succ_eq_append_getElem h, bdL_snoc]
  congr 2
  simp [List.getD, h]
/-- What stands in DirOf's rounds. -/
def DSt (w : World) (k d x : Int) (s : ByteArray) (P Z : Nat) (w' : World) : Prop := PBox w' P k d x s ∧ PBox w' Z 0 0 0 ⟨#[]⟩ ∧ Below w.heap.size w w'
theorem DSt.kept {w : World} {k d x : Int} {s : ByteArray} {P Z : Nat} {w1 w2 : World} (h : DSt w k d x s P Z w1) (hb : Below w1.heap.size w1 w2) : DSt w k d x s P Z w2 :=
  ⟨h.1.kept hb, h.2.1.kept hb, h.2.2.trans (hb.mono (Below.size h.2.2))⟩
set_option maxHeartbeats 2000000 in
theorem dirof_any (k d x dd : Int) (b : BA) (n₀ : Nat) (A : Option Addr) (n c : Nat) (l : List Int) (w : World) (h : Nums n₀ w (.slice A n c) l) (hw : n₀ ≤ w.heap.size) (hn : n ≤ 120) (hl : ∀ i, i < n → 0 ≤ l.getD i 0 ∧ l.getD i 0 < 256) :
    Calls Try.prog 10 #[pv k d x b, .int .i64 dd, .slice A n c] w fun q w' => q = .returned (pv k dd x (mkD l)) ∧ Below w.heap.size w w' := by
  have H0 := Lib.hid (two_start w k d x (str b))
  have hlen := h.len
  have HL := Lib.hid hl
  have HW := Lib.hid hw
  have HN := Lib.hid (fun (i : Nat) (hi : i < n) (w' : World) (hb : Below w.heap.size w w') => (h.below (hb.mono hw)).at hi)
  have HSZ := Lib.hid (fun i => (show ((str (bdL (l.take i))).size : Int) ≤ 240 from by rw [str_size, bdL_length, List.length_take]; omega))
  have HS0 := Lib.hid (show ByteArray.mk #[] = str (bdL (l.take 0)) from rfl)
  have HSE := Lib.hid (show l.take n = l from List.take_of_length_le (by omega))
  have HST := Lib.hid (fun (i : Nat) (hi : i < n) => (show str (bdL (l.take i)) ++ str (two (l.getD i 0)) = str (bdL (l.take (i + 1))) from by rw [str_join, bdL_take (by omega)]))
  have HZ := Lib.hid (zeros_ok (240 - 2 * n) (by omega))
  have HLE := Lib.hid hlen
  unfold pv
  generalize str b = s at *
  obtain ⟨s2, hs2⟩ : ∃ s2, s2 = str (mkD l) := ⟨_, rfl⟩
  rw [← hs2]
  have HS2 := Lib.hid hs2
  have HJ := Lib.hid (show str (bdL l) ++ str (zs (240 - 2 * n)) = s2 from by rw [str_join, hs2]; unfold mkD; rw [hlen])
  have hsl : ((str (bdL l)).size : Int) = 2 * (n : Int) := by rw [str_size, bdL_length]; omega
  have hsz : ((str (zs (240 - 2 * n))).size : Int) ≤ 240 := by rw [str_size, zs_length]; omega
  clear hs2 h hl hlen
  obtain ⟨W0, hW⟩ : ∃ W0, W0 = (w.alloc (.cells #[.int .i64 k, .int .i64 d, .int .i64 x, .string s] 23)).alloc (.cells #[.int .i64 0, .int .i64 0, .int .i64 0, .string ⟨#[]⟩] 23) := ⟨_, rfl⟩
  rw [← hW] at H0
  obtain ⟨P, hP⟩ : ∃ P, P = w.heap.size := ⟨_, rfl⟩
  obtain ⟨Z, hZ⟩ : ∃ Z, Z = w.heap.size + 1 := ⟨_, rfl⟩
  rw [← hZ, ← hP] at H0
  have HPE := Lib.hid hP.symm
  have HZE := Lib.hid hZ.symm
  have HLL := Lib.hid (show w.heap.size ≤ P ∧ w.heap.size ≤ Z from ⟨by omega, by omega⟩)
  have HPZ := Lib.hid (show P ≠ Z by omega)
  have HQ0 := Lib.hid (show DSt w k d x s P Z W0 from ⟨H0.out.1, H0.out.2.1, by have h := H0.out.2.2; rw [← HPE.out] at h; exact h⟩)
  clear hP hZ H0 hw
  go_enter Try.func10, Try.ntmps10
  go_upto_region 1 with fail
  rw [← hW]
  clear hW
  rw [HZE.out, HPE.out]
  go_wp2_with fail
  go_loopw [7, 8] (fun v u wr => ∃ i : Nat, i ≤ n ∧ u = .int .i64 i ∧ v = .string (str (bdL (l.take i))) ∧ Hid (DSt w k d x s P Z wr)) (fun _ u _ => n - (intOf u).toNat)
  case atStart => exact ⟨0, Nat.zero_le _, rfl, by rw [← HS0.out], HQ0.out⟩
  case round =>
    obtain ⟨i, hi, rfl, rfl, hq⟩ := hrel
    have HQ := Lib.hid hq.out
    clear hq HQ0
    have b0 : (0 : Int) ≤ (i : Int) := by omega
    by_cases hlt : i < n
    · have b1 : (i : Int) < (n : Int) := by omega
      have b2 : (i : Int) ≤ 1000 := by omega
      obtain ⟨ba, off, rfl, hbk, hc⟩ := HN.out i hlt wr HQ.out.2.2
      have BI := Lib.hid (fun w => big_two (l.getD i 0) w (HL.out i hlt))
      have HST1 := Lib.hid (HST.out i hlt)
      have hz1 := HSZ.out i
      have hz2 : ((str (two (l.getD i 0))).size : Int) = 2 := by rw [str_size]; rfl
      generalize l.getD i 0 = y at *
      generalize str (bdL (l.take i)) = S1 at *
      generalize str (two y) = S2 at *
      clear hbk
      go_wp2_with fail
      refine (BI.out _).mono ?_; rintro q w2 ⟨rfl, hb⟩
      have HQ2 := Lib.hid (HQ.out.kept hb)
      clear hb HQ BI hc
      go_wp2_with fail
      go_roundw
      case rel => exact ⟨i + 1, by omega, by go_num, by rw [HST1.out], HQ2.out⟩
      case measure => simp [intOf]; omega
    · obtain rfl : n = i := by omega
      have b1 : ¬ (n : Int) < (n : Int) := by omega
      rw [HSE.out]
      obtain ⟨M, hM⟩ : ∃ M, M = 240 - 2 * n := ⟨_, rfl⟩
      rw [← hM] at HZ HJ hsz
      have hm1 : IntKind.i64.wrap (240 - 2 * (n : Int)) = (M : Int) := by rw [show (240 : Int) - 2 * (n : Int) = (M : Int) by omega]; exact IntWalk.i64_in _ (by omega)
      have hm2 : 240 - 2 * (n : Int) = (M : Int) := by omega
      generalize str (bdL l) = S1 at *
      generalize str (zs M) = S2 at *
      clear hM
      go_wp2_with fail
      refine (HZ.out _).mono ?_; rintro q w2 ⟨rfl, hb⟩
      have HQ2 := Lib.hid (HQ.out.kept hb)
      clear hb HQ HZ
      obtain ⟨⟨x0, x1, x2, x3⟩, f0, f1, f2, f3⟩ := And.intro HQ2.out.1.cells HQ2.out.1.free
      go_upto_region 8 with fail
      rw [HJ.out]
      have HP3 := Lib.hid (HQ2.out.1.set2 dd s2)
      have HZ3 := Lib.hid (show PBox ((w2.setCell ⟨P, 1, none⟩ (.int .i64 dd)).setCell ⟨P, 3, none⟩ (.string s2)) Z 0 0 0 ⟨#[]⟩ from HQ2.out.2.1.heap (heap_set2 _ _ _ _ _ _ _ (Ne.symm HPZ.out)))
      have HB3 := Lib.hid (below_set2 (i1 := 1) (i2 := 3) (u1 := .int .i64 dd) (u2 := .string s2) HQ2.out.2.2 HLL.out.1)
      generalize (w2.setCell ⟨P, 1, none⟩ (.int .i64 dd)).setCell ⟨P, 3, none⟩ (.string s2) = V at *
      clear x0 x1 x2 x3 f0 f1 f2 f3 HQ2
      obtain ⟨⟨x0, x1, x2, x3⟩, f0, f1, f2, f3⟩ := And.intro HP3.out.cells HP3.out.free
      obtain ⟨⟨y0, y1, y2, y3⟩, g0, g1, g2, g3⟩ := And.intro HZ3.out.cells HZ3.out.free
      go_wp2_with fail
      have HZ4 := Lib.hid (HZ3.out.set4 k dd x s2)
      obtain ⟨z0, z1, z2, z3⟩ := HZ4.out.cells
      refine bodyPost_ret (v := .agg #[.int .i64 k, .int .i64 dd, .int .i64 x, .string s2]) (by simp [results, Try.results10, go_sem, z0, z1, z2, z3]) rfl ⟨rfl, ?_⟩
      exact below_set4 HB3.out HLL.out.2
theorem entries_any2 (k d x : Int) (b : BA) (w : World) : Calls Try.prog 11 #[pv k d x b] w fun q w' => EntT (dirS k d b) w q w' := by
  by_cases h : k = 1 ∧ 0 ≤ d ∧ d < 6 ∧ b.length = 240
  · obtain ⟨e, rfl⟩ : ∃ e : Nat, d = (e : Int) := ⟨d.toNat, by omega⟩
    obtain ⟨rfl, _⟩ := h
    exact entries_yes x b e (by omega) (by omega) w
  · refine (entries_no k d x b w h).mono ?_
    rintro q w' ⟨rfl, hb⟩
    exact ⟨hb, .inl ⟨dirS_no h, _, _, _, rfl⟩⟩
end Go.Proofs.Ytojfnafahlpjjaa
