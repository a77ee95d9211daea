/- The document's own Big (of two bytes), Of, CellsPut. -/
import Derived.Test.YtljegjcajlkgiaaGreatRef
import Derived.Deep.DeepCutAuto
namespace Go.Proofs.YtljegjcajlkgiaaGreat
open Go.ChangeShapes Go.WideShapes Go.ChangeAt Go.RowKit
set_option linter.unusedVariables false
set_option linter.unusedSimpArgs false
set_option maxRecDepth 100000
theorem i64_mask8 (v : Int) (h0 : -9223372036854775808 ≤ v) (h1 : v ≤ 9223372036854775807) : bits .and .i64 v 255 = v % 256 := by
  have e : ∀ a : Int, (BitVec.ofInt 64 a).toNat = (a % 18446744073709551616).toNat := fun a => by
    rw [BitVec.toNat_ofInt]; rfl
  show IntKind.i64.wrap ((BitVec.ofInt 64 v &&& BitVec.ofInt 64 255).toNat : Int) = _
  rw [BitVec.toNat_and, e, e, show ((255 : Int) % 18446744073709551616).toNat = 2 ^ 8 - 1 from rfl, Nat.and_two_pow_sub_one_eq_mod, IntKind.wrap_i64]
  omega
theorem to_string2 (W : World) (v : Int) (h0 : 0 ≤ v) (h1 : v ≤ 65535) : (convert 70 9 (.slice (some ⟨W.heap.size, 0, none⟩) 2 2)).run Tryz.prog (W.alloc (.cells #[.int .u8 (v / 256 % 256), .int .u8 (v % 256)] 5)) = .ok (.string (str (two v))) (W.alloc (.cells #[.int .u8 (v / 256 % 256), .int .u8 (v % 256)] 5)) :=
  run_convert_bytes_back (P := Tryz.prog) _ 70 9 5 ⟨W.heap.size, 0, none⟩ 2 (two v) Tryz.underlying70 Tryz.underlying5 Tryz.underlying9 fun j hj => by
    have hh := heap_alloc_new W (.cells #[.int .u8 (v / 256 % 256), .int .u8 (v % 256)] 5)
    have hb := two_bcs (n := v) h0 (by omega)
    simp only [bcs, two, List.map_cons, List.map_nil, List.cons.injEq, and_true, Value.int.injEq, true_and] at hb
    match j, hj with
    | 0, _ =>
      refine (cell_of_row _ W.heap.size 0 _ _ _ hh).trans ?_
      have : v / 256 % 256 = v / 256 := by omega
      simp [two, this, ← hb.1]
    | 1, _ =>
      refine (cell_of_row _ W.heap.size 1 _ _ _ hh).trans ?_
      simp [two, ← hb.2]
set_option maxHeartbeats 1000000 in
theorem big_two (v : Int) (w : World) (h2 : 0 ≤ v) (h3 : v ≤ 65535) :
    Calls Tryz.prog 30 #[.int .i64 v, .int .i64 2] w fun e w' => e = .returned (.tuple #[.string (str (two v)), .bool true]) ∧ Below w.heap.size w w' := by
  have m0 := i64_mask8 (v) (by omega) (by omega)
  have m1 := i64_mask8 (v / 256) (by omega) (by omega)
  have hz : (v / 256 / 256 == 0) = true := by rw [beq_iff_eq]; omega
  have hcv := to_string2 w v h2 h3
  clear h3
  have hmk : ∀ w : World, (Instr.makeSlice 70 (.int .i64 2) (.int .i64 2)).run Tryz.prog w = .ok (.slice (some ⟨w.heap.size, 0, none⟩) 2 2) (w.alloc (.cells #[.int .u8 0, .int .u8 0] 5)) := fun _ => by kernel_rfl
  generalize str (two v) = X at *
  go_enter Tryz.func30, Tryz.ntmps30
  go_wp2_with fail
  refine wp_loop_rounds 3 ?_
  rw [rounds_succ]
  go_wp2_with fail
  rw [rounds_succ]
  go_wp2_with fail
  rw [rounds_succ]
  go_wp2_with fail
  go_ret2
  exact ⟨rfl, (Below.refl _ _).alloc (Nat.le_refl _) _⟩
theorem to_string1 (n : Nat) (hn : n < 256) : ∀ W : World, (convert 70 9 (.slice (some ⟨W.heap.size, 0, none⟩) 1 1)).run Tryz.prog (W.alloc (.cells #[.int .u8 (n : Int)] 5)) = .ok (.string (str (kbyte n))) (W.alloc (.cells #[.int .u8 (n : Int)] 5)) := fun W =>
  run_convert_bytes_back (P := Tryz.prog) _ 70 9 5 ⟨W.heap.size, 0, none⟩ 1 (kbyte n) Tryz.underlying70 Tryz.underlying5 Tryz.underlying9 fun j hj => by
    have hj : j < 1 := hj
    obtain rfl : j = 0 := by omega
    refine (cell_of_row _ W.heap.size 0 _ _ _ (heap_alloc_new W _)).trans ?_
    simp only [kbyte, List.getElem_singleton, byte_nat hn]
    rfl
theorem keyLess_lt {x y : Ce} : Op.bytesLess x.key.toList y.key.toList = ltK x y := by
  rw [bytesLess_cb, ByteArray.toList_eq, ByteArray.toList_eq]
  rfl
theorem run_geq (a b : ByteArray) (v : Bool) (h : Op.bytesLess a.toList b.toList = v) : ∀ w, (binOp .geq 9 (.string a) (.string b)).run Tryz.prog w = .ok (.bool (!v)) w := fun w => by simp [binOp, Op.stringOp, h]
theorem put_join (l : List Ce) (k n : Nat) (hk : k < l.length) : str (kbyte n ++ encs (l.take (k + 1))) = str (kbyte n ++ encs (l.take k)) ++ str (encC (l.getD k nilC)) := by
  rw [encs_take l k hk, str_join, List.append_assoc]
theorem enc_in {x : Ce} (h : x.blob = 0) (S : ByteArray) : S ++ str (kbyte x.key.size) ++ x.key ++ ⟨#[0]⟩ ++ str (two x.val.size) ++ x.val = S ++ str (encC x) := by
  unfold encC tailC
  rw [if_pos h]
  apply data_inj
  simp [ByteArray.data_append, str_toList, kbyte]
theorem enc_out {x : Ce} (h : ¬ x.blob = 0) (S : ByteArray) : S ++ str (kbyte x.key.size) ++ x.key ++ ⟨#[1]⟩ ++ str (two x.size) ++ str (two x.blob) = S ++ str (encC x) := by
  unfold encC tailC
  rw [if_neg h]
  apply data_inj
  simp [ByteArray.data_append, str_toList, kbyte]
set_option maxHeartbeats 4000000 in
theorem rput_walk {C n c : Nat} {A : Option Addr} {l : List Ce} (w : World) (h : Ces C w A l) (hn : l.length = n) (hm : n ≤ 1000) (hC : C ≤ w.heap.size) :
    Calls Tryz.prog 10 #[.slice A n c] w fun e w' => e = .returned (.tuple #[.string (str (putS l)), .bool (putOk l)]) ∧ Below w.heap.size w w' := by
  have FI := Lib.hid (rfits_walk (c := c) w h hn hm hC)
  cases hf : fitsB l with
  | false =>
    have hp : putOk l = false := by unfold putOk; rw [hf]; rfl
    have HPS := Lib.hid (show str (putS l) = ⟨#[]⟩ by unfold putS; rw [hp]; rfl)
    rw [hf] at FI
    rw [hp]
    clear h hn hC hp hf
    go_enter Tryz.func10, Tryz.ntmps10
    go_wp2_with fail
    refine FI.out.mono ?_; rintro e w1 ⟨rfl, hb⟩
    have H1 := Lib.hid hb
    clear hb FI
    go_wp2_with fail
    go_ret2
    rw [HPS.out]
    exact ⟨rfl, H1.out⟩
  | true =>
    rw [hf] at FI
    have hm47 : n ≤ 47 := by have := fits_len hf; omega
    obtain ⟨hok, hsum, _⟩ := fits_iff.1 hf
    have HP := Lib.hid h
    have HN := Lib.hid hn
    have HC := Lib.hid hC
    have HOK := Lib.hid hok
    have HSUM := Lib.hid hsum
    have HPO := Lib.hid (show putOk l = risesB l by unfold putOk; rw [hf]; rfl)
    have T1 := to_string1 n (by omega)
    have n0 : (0 : Int) ≤ (n : Int) := by omega
    have n1 : (n : Int) < 256 := by omega
    have n2 : (n : Int) % 256 = (n : Int) := by omega
    have hs0 : (str (kbyte n)).size = 1 := by rw [str_size]; rfl
    have HS0 := Lib.hid (show str (kbyte n) = str (kbyte n ++ encs (l.take 0)) by rw [List.take_zero, encs_nil, List.append_nil])
    clear h hn hC hf hok hsum
    generalize str (kbyte n) = S0 at *
    go_enter Tryz.func10, Tryz.ntmps10
    go_wp2_with fail
    refine FI.out.mono ?_; rintro e w1 ⟨rfl, hb⟩
    have H1 := Lib.hid hb
    have HB0 := Lib.hid (H1.out.alloc H1.out.size (.cells #[.int .u8 (n : Int)] 5))
    clear hb FI
    go_wp2_with fail
    generalize w1.alloc (.cells #[.int .u8 (n : Int)] 5) = W0 at *
    clear T1 n2 H1
    go_loopw [4, 5] (fun v x wr => ∃ k : Nat, k ≤ n ∧ x = .int .i64 k ∧ ∃ S, v = .string S ∧ S.size ≤ 300 ∧ Hid (S = str (kbyte n ++ encs (l.take k)) ∧ Below w.heap.size w wr ∧ ∀ j, j + 1 < k → ltK (l.getD j nilC) (l.getD (j + 1) nilC) = true)) (fun _ x _ => n - (intOf x).toNat)
    case atStart => exact ⟨0, Nat.zero_le _, rfl, S0, rfl, by omega, HS0.out, HB0.out, fun j hj => by omega⟩
    case round =>
      obtain ⟨k, hk, rfl, S, rfl, hS, hq⟩ := hrel
      have HQ := Lib.hid hq
      clear hq
      have k0 : (0 : Int) ≤ (k : Int) := by omega
      by_cases hlt : k < n
      · have k1 : (k : Int) < (n : Int) := by omega
        obtain ⟨b, off, rfl, hb, hp⟩ := HP.out.1 k (by rw [HN.out]; exact hlt)
        obtain ⟨c0, c1, c2, c3⟩ := hp.kept (w' := wr) (Nat.lt_of_lt_of_le hb HC.out) HQ.out.out.2.1
        have HPV := Lib.hid (fun kk (hkk : k = kk + 1) w' (hb2 : Below w.heap.size w w') => show CeAt w' b (off + kk * 4) (l.getD kk nilC) from by
          obtain ⟨b', off', e1, h2, h3⟩ := HP.out.1 kk (by rw [HN.out]; omega)
          simp only [Option.some.injEq, Addr.mk.injEq, and_true] at e1
          obtain ⟨rfl, rfl⟩ := e1
          exact h3.kept h2 (hb2.mono HC.out))
        have hko := HOK.out _ (getD_mem (show k < l.length by rw [HN.out]; exact hlt))
        have HJ := Lib.hid (put_join l k n (by rw [HN.out]; exact hlt))
        have HSZ := Lib.hid (show (str (kbyte n ++ encs (l.take (k + 1)))).size ≤ 300 by
          have h1 := sums_le l (k + 1)
          have h2 := HSUM.out
          rw [str_size, List.length_append, encs_length]
          show 1 + _ ≤ _
          omega)
        obtain ⟨bad, hbad⟩ : ∃ bad, bad = (decide (0 < k) && !ltK (l.getD (k - 1) nilC) (l.getD k nilC)) := ⟨_, rfl⟩
        have HBAD := Lib.hid hbad
        clear hbad hb hp
        generalize hx : l.getD k nilC = x at *
        have HX := Lib.hid hx
        clear hx
        have HBX := Lib.hid (Box.new wr (.string x.key) (.string x.val) (.int .i64 x.blob) (.int .i64 x.size))
        have HBV := Lib.hid (HQ.out.out.2.1.alloc HQ.out.out.2.1.size (.cells #[.string x.key, .string x.val, .int .i64 x.blob, .int .i64 x.size] 42))
        go_upto_region 8 with fail
        obtain ⟨B, hB⟩ : ∃ B, B = wr.heap.size := ⟨_, rfl⟩
        rw [← hB] at HBX ⊢
        clear hB
        generalize wr.alloc (.cells #[.string x.key, .string x.val, .int .i64 x.blob, .int .i64 x.size] 42) = V at *
        clear c0 c1 c2 c3
        go_cut [43] (fun s43 wx => s43 = .bool bad ∧ Hid (∃ q, wx = V.drewN q))
        case first =>
          by_cases hk0 : k = 0
          · have hk0' : ¬ (0 : Int) < (k : Int) := by omega
            have hb2 : bad = false := by rw [HBAD.out, decide_eq_false (by omega)]; rfl
            clear HBAD hk0
            subst hb2
            have hkn : ¬ 0 < k := by omega
            have hkd : decide (0 < k) = false := decide_eq_false hkn
            go_quiet (fail)
            go_wp2_with fail
            go_meet
            exact ⟨rfl, _, rfl⟩
          · obtain ⟨kk, hkk⟩ : ∃ kk, k = kk + 1 := ⟨k - 1, by omega⟩
            obtain ⟨d0, _, _, _⟩ := HPV.out kk hkk V HBV.out
            obtain ⟨x0, x1, x2, x3⟩ := HBX.out.cells
            have hb2 : bad = !ltK (l.getD kk nilC) x := by rw [HBAD.out, decide_eq_true (by omega), hkk]; rfl
            have hk0' : (0 : Int) < (k : Int) := by omega
            have e1 : IntKind.i64.wrap ((k : Int) - 1) = (kk : Int) := by rw [IntWalk.i64_in _ (by omega)]; omega
            have e2 : (0 : Int) ≤ (kk : Int) := by omega
            have e3 : (kk : Int) < (n : Int) := by omega
            generalize l.getD kk nilC = y at *
            have HGE := run_geq y.key x.key _ keyLess_lt
            rw [← hb2] at HGE
            clear HBAD HPV hb2 hkk hk0
            have hkn : 0 < k := by omega
            have hkd : decide (0 < k) = true := decide_eq_true hkn
            cases bad with
            | true =>
              go_quiet (fail)
              go_wp2_with fail
              go_meet
              exact ⟨rfl, _, rfl⟩
            | false =>
              go_quiet (fail)
              go_wp2_with fail
              go_meet
              exact ⟨rfl, _, rfl⟩
        case rest =>
          obtain ⟨rfl, hq2⟩ := hcut
          have HV2 := Lib.hid (show Below w.heap.size w wc ∧ Box wc B (.string x.key) (.string x.val) (.int .i64 x.blob) (.int .i64 x.size) from by
            obtain ⟨q, hq3⟩ := hq2.out
            rw [hq3]
            exact ⟨⟨HBV.out.os, HBV.out.tape, HBV.out.output, HBV.out.size, HBV.out.block⟩, HBX.out⟩)
          clear hq2 HBV HBX HPV
          cases bad with
          | true =>
            have HR := Lib.hid (show risesB l = false from by
              have h1 := HBAD.out
              by_cases hk0 : k = 0
              · rw [decide_eq_false (by omega)] at h1; cases h1
              · rw [decide_eq_true (by omega), Bool.true_and] at h1
                refine rises_no (j := k - 1) (by rw [HN.out]; omega) ?_
                rw [show k - 1 + 1 = k by omega, HX.out]
                cases g : ltK (l.getD (k - 1) nilC) x with
                | false => rfl
                | true => rw [g] at h1; cases h1)
            have HPS := Lib.hid (show str (putS l) = ⟨#[]⟩ by unfold putS; rw [HPO.out, HR.out]; rfl)
            go_wp2_with fail
            go_ret2
            rw [HPS.out, HPO.out, HR.out]
            exact ⟨rfl, HV2.out.1⟩
          | false =>
            have HR := Lib.hid (show ∀ j, j + 1 < k + 1 → ltK (l.getD j nilC) (l.getD (j + 1) nilC) = true from fun j hj => by
              by_cases e : j + 1 < k
              · exact HQ.out.out.2.2 j e
              · obtain rfl : k = j + 1 := by omega
                have h1 := HBAD.out
                rw [decide_eq_true (by omega), Bool.true_and, show j + 1 - 1 = j by omega] at h1
                rw [HX.out]
                cases g : ltK (l.getD j nilC) x with
                | true => rfl
                | false => rw [g] at h1; cases h1)
            have hk1 := hko.1.2
            have T1 := to_string1 x.key.size (by omega)
            have hk2 : (x.key.size : Int) < 256 := by omega
            have hk3 : (0 : Int) ≤ (x.key.size : Int) := by omega
            have hk4 : (x.key.size : Int) % 256 = (x.key.size : Int) := by omega
            have hK1 : (str (kbyte x.key.size)).size = 1 := by rw [str_size]; rfl
            have hSQ : S = str (kbyte n ++ encs (l.take k)) := HQ.out.out.1
            rw [← hSQ] at HJ
            clear hSQ HBAD
            obtain ⟨x0, x1, x2, x3⟩ := HV2.out.2.cells
            have HBC := Lib.hid (HV2.out.1.alloc HV2.out.1.size (.cells #[.int .u8 (x.key.size : Int)] 5))
            have HXC := Lib.hid (HV2.out.2.kept ((Below.refl wc.heap.size wc).alloc (Nat.le_refl _) (.cells #[.int .u8 (x.key.size : Int)] 5)))
            obtain ⟨y0, y1, y2, y3⟩ := HXC.out.cells
            by_cases hbl : x.blob = 0
            · have hv : x.val.size ≤ 40 := by
                obtain ⟨_, h | h⟩ := hko
                · exact h.2.1
                · have := h.1.1; omega
              have hbl' : (x.blob == 0) = true := by rw [hbl]; rfl
              have HE := Lib.hid (enc_in hbl S)
              have HBL := Lib.hid hbl
              have BG := Lib.hid (fun w => big_two (x.val.size : Int) w (by omega) (by omega))
              have hT : (str (two x.val.size)).size = 2 := by rw [str_size]; rfl
              clear hko hbl
              generalize str (two x.val.size) = Z1 at *
              generalize str (kbyte x.key.size) = K1 at *
              go_wp2_with fail
              generalize wc.alloc (.cells #[.int .u8 (x.key.size : Int)] 5) = wd at *
              clear x0 x1 x2 x3 y0 y1 y2 y3 T1
              refine (BG.out _).mono ?_; rintro e w4 ⟨rfl, hb⟩
              have HB4 := Lib.hid (HBC.out.trans (hb.mono HBC.out.size))
              obtain ⟨x0, x1, x2, x3⟩ := (HXC.out.kept hb).cells
              clear hb
              go_wp2_with fail
              go_roundw
              case rel => exact ⟨k + 1, by omega, by go_num, _, rfl, by rw [HE.out, ← HJ.out]; exact HSZ.out, by rw [HE.out, ← HJ.out], HB4.out, HR.out⟩
              case measure => simp [intOf]; omega
            · have hv : (2 ≤ x.blob ∧ x.blob ≤ 63) ∧ 41 ≤ x.size ∧ x.size ≤ 400 := by
                obtain ⟨_, h | h⟩ := hko
                · exact absurd h.1 hbl
                · exact ⟨h.1, h.2.2⟩
              have hbl' : (x.blob == 0) = false := by rw [beq_eq_false_iff_ne]; exact hbl
              have HE := Lib.hid (enc_out hbl S)
              have BG := Lib.hid (fun w => big_two x.size w (by omega) (by omega))
              have BG2 := Lib.hid (fun w => big_two x.blob w (by omega) (by omega))
              have hT : (str (two x.size)).size = 2 := by rw [str_size]; rfl
              have hT2 : (str (two x.blob)).size = 2 := by rw [str_size]; rfl
              clear hko hv
              generalize str (two x.size) = Z1 at *
              generalize str (two x.blob) = Z2 at *
              generalize str (kbyte x.key.size) = K1 at *
              go_wp2_with fail
              generalize wc.alloc (.cells #[.int .u8 (x.key.size : Int)] 5) = wd at *
              clear x0 x1 x2 x3 y0 y1 y2 y3 T1
              refine (BG.out _).mono ?_; rintro e w4 ⟨rfl, hb⟩
              have HB4 := Lib.hid (HBC.out.trans (hb.mono HBC.out.size))
              have HX4 := Lib.hid (HXC.out.kept hb)
              obtain ⟨x0, x1, x2, x3⟩ := HX4.out.cells
              clear hb
              go_wp2_with fail
              refine (BG2.out _).mono ?_; rintro e w5 ⟨rfl, hb⟩
              have HB5 := Lib.hid (HB4.out.trans (hb.mono HB4.out.size))
              clear hb x0 x1 x2 x3
              go_wp2_with fail
              go_roundw
              case rel => exact ⟨k + 1, by omega, by go_num, _, rfl, by rw [HE.out, ← HJ.out]; exact HSZ.out, by rw [HE.out, ← HJ.out], HB5.out, HR.out⟩
              case measure => simp [intOf]; omega
      · obtain rfl : n = k := by omega
        have hall : l.take n = l := List.take_of_length_le (by rw [HN.out]; exact Nat.le_refl _)
        have hSQ : S = str (kbyte n ++ encs l) := by have := HQ.out.out.1; rwa [hall] at this
        have hris : risesB l = true := rises_iff.2 (fun j hj => HQ.out.out.2.2 j (by rw [HN.out] at hj; exact hj))
        have hpo : putOk l = true := by rw [HPO.out]; exact hris
        have hsz : S.size = 1 + sums l := by rw [hSQ, str_size, List.length_append, encs_length]; rfl
        have hsum := HSUM.out
        obtain ⟨z, hz⟩ : ∃ z : Nat, z = 239 - sums l := ⟨_, rfl⟩
        have ZR := Lib.hid (fun w => zeros_ok z (by omega) w)
        have HF := Lib.hid (show S ++ str (zs z) = str (putS l) by
          unfold putS
          rw [hpo, if_pos rfl, hSQ, str_join]
          exact congrArg str (put_parts l n z HN.out hz))
        have e1 : IntKind.i64.wrap (240 - (S.size : Int)) = (z : Int) := by rw [IntWalk.i64_in _ (by omega)]; omega
        have e2 : (240 : Int) - (S.size : Int) = (z : Int) := by omega
        have hzs : (str (zs z)).size = z := by rw [str_size, zs_length]
        have HPO2 := Lib.hid hpo
        have hz3 : z ≤ 240 := by omega
        clear hall hSQ hris hpo hsz hz hsum
        generalize str (zs z) = ZZ at *
        go_wp2_with fail
        refine (ZR.out _).mono ?_; rintro e w4 ⟨rfl, hb⟩
        have HB4 := Lib.hid (HQ.out.out.2.1.trans (hb.mono HQ.out.out.2.1.size))
        clear hb
        go_wp2_with fail
        rw [HF.out]
        go_ret2
        rw [HPO2.out]
        exact ⟨rfl, HB4.out⟩
end Go.Proofs.YtljegjcajlkgiaaGreat
