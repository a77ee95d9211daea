/- The document's own CellsGet. -/
import Derived.Test.YtljegjcajlkgiaaGreatRget
import Derived.Test.YtljegjcajlkgiaaGreatGet
namespace Go.Proofs.YtljegjcajlkgiaaGreat
open Go.ChangeShapes Go.WideShapes Go.ChangeAt Go.RowKit
set_option linter.unusedVariables false
set_option linter.unusedSimpArgs false
set_option maxRecDepth 100000
theorem cut_str (b : BA) (p q d : Nat) (h : q = p + d) : (str b).extract p q = str ((b.drop p).take d) := by
  subst h
  rw [extract_str, str_toList, Nat.add_sub_cancel_left]
theorem one_at (b : BA) (i : Nat) (h : i < b.length) : numB ((b.drop i).take 1) = (b.getD i 0).toNat := by
  rw [List.drop_eq_getElem_cons h, List.take_succ_cons, List.take_zero, numB_one, List.getD_eq_getElem?_getD, List.getElem?_eq_getElem h]
  rfl
/-- What a rest of the body reads as, by places. -/
theorem rest_at (b r : BA) (I K : Nat) (hr : r = b.drop I) (hK : K = numB (r.take 1)) : key1 r = (b.drop (I + 1)).take K ∧ mid1 r = b.drop (I + 1 + K) ∧ size1 r = numB ((b.drop (I + 2 + K)).take 2) ∧ tail1 r = b.drop (I + 4 + K) := by
  have h1 : mid1 r = b.drop (I + 1 + K) := by unfold mid1; rw [← hK, hr, List.drop_drop, List.drop_drop, Nat.add_assoc]
  refine ⟨by unfold key1; rw [← hK, hr, List.drop_drop], h1, ?_, ?_⟩
  · unfold size1; rw [h1, List.drop_drop]; congr 3; omega
  · unfold tail1; rw [h1, List.drop_drop, List.drop_drop]; congr 1; omega
theorem news_after (w : World) (o : Obj) (a b c d : Value) (t : TypeId) : ∀ j u, [a, b, c, d][j]? = some u → ((w.alloc o).alloc (.cells #[a, b, c, d] t)).cell? ((⟨w.heap.size + 1, 0, none⟩ : Addr).add j) = some u := by
  have h : (w.alloc o).heap.size = w.heap.size + 1 := by simp
  rw [← h]
  exact news_four _ _ _ _ _ _
theorem below_two {C k : Nat} {w wr w3 : World} {v : Value} {xs : List Value} {o o' : Obj} (hb : Below C w wr) (hC : C ≤ w.heap.size) (hown : wr.ownsRow C 42 4 v k xs) (hg : ((wr.alloc o).alloc o').grownBy w3 v.ownBlock) : Below C w w3 :=
  have hs := hb.size
  ((hb.alloc (by omega) o).alloc (by simp; omega) o').grown hg (by simp; omega) (fun g hgg => (hown.lt g hgg).1)
set_option maxHeartbeats 4000000 in
theorem rget_any (b : BA) (w : World) : Calls Tryz.prog 21 #[.string (str b)] w fun e w' => Got b w e w' := by
  have hsz : (str b).size = b.length := str_size b
  by_cases h : b.length = 240
  · have h1 : ((str b).size : Int) = 240 := by omega
    have hx : (str b).size = 240 := by omega
    obtain ⟨i0, hi, hz0, hz1, hz2⟩ := info_parts info_c
    have N8 : numB (b.take 1) < 256 := numB_lt1 _ (by rw [List.length_take]; omega)
    have IX := Lib.hid (fun i (hi : i < 240) w => run_ix b i (by omega) w)
    have OF := Lib.hid (fun p (hp : p + 2 ≤ 240) w => of_any ((b.drop p).take 2) (by rw [List.length_take]; omega) w)
    have X0 := Lib.hid (IX.out 0 (by omega))
    rw [show (b.getD 0 0).toNat = numB (b.take 1) from (one_at b 0 (by omega)).symm] at X0
    have GR := Lib.hid (fun k (hk : k < numB (b.take 1)) (I K : Nat) (hr : restN k (b.drop 1) = b.drop I) (hK : K = numB ((restN k (b.drop 1)).take 1)) (hn : getOk b = true) => good_rest hn hk)
    have SL := Lib.hid (fun (x y : Int) (p d : Nat) (hx2 : x = p) (hy : y = ((p + d : Nat) : Int)) (hq : p + d ≤ 240) (w : World) => show (Instr.slice 9 (.string (str b)) (some (.int .i64 x)) (some (.int .i64 y)) none).run Tryz.prog w = .ok (.string (str ((b.drop p).take d))) w by
      rw [run_slice_string w 9 (str b) .i64 .i64 x y Tryz.underlying9 (by omega) (by omega) (by omega), cut_str b _ _ d (by omega)]
      rw [hx2, Int.toNat_natCast])
    have IY := Lib.hid (fun (x : Int) (i : Nat) (hx2 : x = i) (hi : i < 240) w => show (Instr.index 9 (.string (str b)) (.int .i64 x)).run Tryz.prog w = .ok (.int .u8 ((b.getD i 0).toNat : Int)) w by
      rw [hx2]; exact run_ix b i (by omega) w)
    have HGET := Lib.hid (show ∀ e, getOk b = e → getOk b = e from fun e h => h)
    have HLN := Lib.hid (fun I (r : BA) (hr : r = b.drop I) => show r.length = 240 - I by rw [hr, List.length_drop, h])
    obtain ⟨n, hn⟩ : ∃ n, n = numB (b.take 1) := ⟨_, rfl⟩
    have HP := Lib.hid (show parse b = cellsN n (b.drop 1) by rw [hn]; rfl)
    have HN := Lib.hid hn
    rw [← hn] at N8 X0
    have x0 := X0.out
    simp only [Int.natCast_zero, Int.cast_ofNat_Int] at x0
    have HB := Lib.hid h
    have HPS := Lib.hid (parse_sizes b (by omega))
    clear hn hsz h X0
    have HL := Lib.hid (fun k => cellsN_length k (b.drop 1))
    generalize hX : str b = X at *
    have HX := Lib.hid hX
    clear hX
    go_enter Tryz.func21, Tryz.ntmps21
    go_wp2_with fail
    go_loopw [4, 5, 6] (fun v i x wr => ∃ k I : Nat, k ≤ n ∧ I ≤ 240 ∧ x = .int .i64 k ∧ i = .int .i64 I ∧ ∃ A c, v = .slice A k c ∧ Hid (restN k (b.drop 1) = b.drop I ∧ wr.ownsRow w.heap.size 42 4 (.slice A k c) k (ccs (cellsN k (b.drop 1))) ∧ Below w.heap.size w wr)) (fun _ _ x _ => n - (intOf x).toNat)
    case atStart => exact ⟨0, 1, Nat.zero_le _, by omega, rfl, rfl, none, 0, rfl, rfl, World.ownsRow_nil _ _ _ _, Below.refl _ _⟩
    case round =>
      obtain ⟨k, I, hk, hI, rfl, rfl, A, c, rfl, hq⟩ := hrel
      have HQ := Lib.hid hq
      clear hq
      have HNO := Lib.hid (fun (wx : World) (hb : Below w.heap.size w wx) (hg : getOk b = false) => show Got b w (.returned (.tuple #[.slice none 0 0, .bool false])) wx from by
        unfold Got; rw [getS_no hg, hg]; exact ⟨none, 0, rfl, Own.nil _ _, hb⟩)
      have HSW := HQ.out.out.2.2.size
      by_cases hlt : k < n
      · have b1 : (k : Int) < (n : Int) := by omega
        by_cases hI2 : I < 240
        · have b2 : ¬ (I : Int) ≥ 240 := by omega
          have b2' : (I : Int) < 240 := by omega
          have k8 : (b.getD I 0).toNat < 256 := (b.getD I 0).toNat_lt
          have ix := IX.out I hI2
          have HK := Lib.hid (show (b.getD I 0).toNat = numB ((restN k (b.drop 1)).take 1) by rw [HQ.out.out.1]; exact (one_at b I (by rw [HB.out]; exact hI2)).symm)
          generalize (b.getD I 0).toNat = K at *
          by_cases h3 : I + 1 + K + 3 ≤ 240
          · have b3 : (I : Int) + 1 + (K : Int) + 3 ≤ 240 := by omega
            have b3' : ¬ 240 < (I : Int) + 1 + (K : Int) + 3 := by omega
            have sl1 := SL.out ((I : Int) + 1) ((I : Int) + 1 + (K : Int)) (I + 1) K (by omega) (by omega) (by omega)
            have ix2 := IY.out ((I : Int) + 1 + (K : Int)) (I + 1 + K) (by omega) (by omega)
            have sl2 := SL.out ((I : Int) + 2 + (K : Int)) ((I : Int) + 4 + (K : Int)) (I + 2 + K) 2 (by omega) (by omega) (by omega)
            have of2 := Lib.hid (OF.out (I + 2 + K) (by omega))
            have hka := rest_at b _ I K HQ.out.out.1 HK.out
            have hkd : kind1 (restN k (b.drop 1)) = (b.getD (I + 1 + K) 0).toNat := by
              unfold kind1; rw [hka.2.1]; exact one_at b _ (by rw [HB.out]; omega)
            rw [← hka.2.2.1] at of2
            have hs16 : size1 (restN k (b.drop 1)) < 65536 := numB_lt _ (by rw [List.length_take]; omega)
            have HKD := Lib.hid hkd
            have HKA := Lib.hid hka
            clear hka hkd
            have kd8 : (b.getD (I + 1 + K) 0).toNat < 256 := (b.getD (I + 1 + K) 0).toNat_lt
            generalize (b.getD (I + 1 + K) 0).toNat = kd at *
            generalize hSZ : size1 (restN k (b.drop 1)) = sz at *
            have HSZ := Lib.hid hSZ
            generalize hKS : str ((b.drop (I + 1)).take K) = KS at *
            have HKS := Lib.hid hKS
            generalize str ((b.drop (I + 2 + K)).take 2) = S2 at *
            clear hSZ hKS
            by_cases k0 : kd = 0
            · subst k0
              by_cases h4 : I + 4 + K + sz ≤ 240
              · have b4 : ¬ 240 < (I : Int) + 4 + (K : Int) + (sz : Int) := by omega
                have b4' : (I : Int) + 4 + (K : Int) + (sz : Int) ≤ 240 := by omega
                have sl3 := SL.out ((I : Int) + 4 + (K : Int)) ((I : Int) + 4 + (K : Int) + (sz : Int)) (I + 4 + K) sz (by omega) (by omega) (by omega)
                generalize hVS : str ((b.drop (I + 4 + K)).take sz) = VS at *
                have HVS := Lib.hid hVS
                clear hVS
                have HC0 := Lib.hid (show cell1 (restN k (b.drop 1)) = ⟨KS, VS, 0, 0⟩ by unfold cell1; rw [if_pos HKD.out, HKA.out.1, HKA.out.2.2.2, HSZ.out, HKS.out, HVS.out])
                have HR0 := Lib.hid (show restN (k + 1) (b.drop 1) = b.drop (I + 4 + K + sz) by rw [restN]; unfold rest1; rw [if_pos HKD.out, HKA.out.2.2.2, HSZ.out, List.drop_drop])
                go_wp2_with fail
                refine (of2.out _).mono ?_; rintro e w2 ⟨rfl, rfl⟩
                go_wp2_with (at_builtin; refine wpList_append_own _ rfl _ _ 26 rfl w.heap.size 42 i0 (.agg #[.string ⟨#[]⟩, .string ⟨#[]⟩, .int .i64 0, .int .i64 0]) 4 48 Tryz.underlying26 hi hz0 hz1 hz2 rfl (by decide) _ _ _ rfl ((HQ.out.out.2.1.alloc _).alloc _) ⟨wr.heap.size + 1, 0, none⟩ 1 1 (ccell ⟨KS, VS, 0, 0⟩) rfl rfl (news_after _ _ _ _ _ _ _) (ccell_one ⟨KS, VS, 0, 0⟩) (by unfold maxLen; omega) (by omega) (by simp; omega) ?_; intro v' w3 hown hgrow _; obtain ⟨A', c', rfl⟩ := own_shape hown)
                have HN2 := Lib.hid (below_two HQ.out.out.2.2 (Nat.le_refl _) HQ.out.out.2.1 hgrow)
                have HO2 := Lib.hid hown
                clear hown hgrow
                go_wp2_with fail
                go_roundw
                case rel => exact ⟨k + 1, I + 4 + K + sz, by omega, by omega, by go_num, by go_num, A', c', rfl, HR0.out, by rw [cellsN, ccs_append, HC0.out, ccs_single]; exact HO2.out, HN2.out⟩
                case measure => simp [intOf]; omega
              · have b4 : 240 < (I : Int) + 4 + (K : Int) + (sz : Int) := by omega
                have hg : getOk b = false := by
                  cases g : getOk b with
                  | false => rfl
                  | true =>
                    have h9 := GR.out k (by rw [← HN.out]; exact hlt) I K HQ.out.out.1 HK.out g
                    rw [HLN.out I _ HQ.out.out.1, ← HK.out, HKD.out, HSZ.out] at h9
                    omega
                go_wp2_with fail
                refine (of2.out _).mono ?_; rintro e w2 ⟨rfl, rfl⟩
                go_wp2_with fail
                go_ret2
                exact HNO.out _ (HQ.out.out.2.2.alloc HSW _) hg
            · by_cases k1 : kd = 1
              · subst k1
                by_cases h4 : I + 4 + K + 2 ≤ 240
                · have b4 : ¬ 240 < (I : Int) + 4 + (K : Int) + 2 := by omega
                  have b4' : (I : Int) + 4 + (K : Int) + 2 ≤ 240 := by omega
                  have sl3 := SL.out ((I : Int) + 4 + (K : Int)) ((I : Int) + 4 + (K : Int) + 2) (I + 4 + K) 2 (by omega) (by omega) (by omega)
                  have of3 := Lib.hid (OF.out (I + 4 + K) (by omega))
                  generalize str ((b.drop (I + 4 + K)).take 2) = S3 at *
                  generalize hBL : numB ((b.drop (I + 4 + K)).take 2) = bl at *
                  have HBL := Lib.hid hBL
                  clear hBL
                  have HC0 := Lib.hid (show cell1 (restN k (b.drop 1)) = ⟨KS, ⟨#[]⟩, bl, sz⟩ by unfold cell1; rw [if_neg (by rw [HKD.out]; omega), HKA.out.1, HKA.out.2.2.2, HSZ.out, HKS.out, HBL.out])
                  have HR0 := Lib.hid (show restN (k + 1) (b.drop 1) = b.drop (I + 4 + K + 2) by rw [restN]; unfold rest1; rw [if_neg (by rw [HKD.out]; omega), HKA.out.2.2.2, List.drop_drop])
                  go_wp2_with fail
                  refine (of2.out _).mono ?_; rintro e w2 ⟨rfl, rfl⟩
                  go_wp2_with fail
                  refine (of3.out _).mono ?_; rintro e w2 ⟨rfl, rfl⟩
                  go_wp2_with (at_builtin; refine wpList_append_own _ rfl _ _ 26 rfl w.heap.size 42 i0 (.agg #[.string ⟨#[]⟩, .string ⟨#[]⟩, .int .i64 0, .int .i64 0]) 4 48 Tryz.underlying26 hi hz0 hz1 hz2 rfl (by decide) _ _ _ rfl ((HQ.out.out.2.1.alloc _).alloc _) ⟨wr.heap.size + 1, 0, none⟩ 1 1 (ccell ⟨KS, ⟨#[]⟩, bl, sz⟩) rfl rfl (news_after _ _ _ _ _ _ _) (ccell_one ⟨KS, ⟨#[]⟩, bl, sz⟩) (by unfold maxLen; omega) (by omega) (by simp; omega) ?_; intro v' w3 hown hgrow _; obtain ⟨A', c', rfl⟩ := own_shape hown)
                  have HN2 := Lib.hid (below_two HQ.out.out.2.2 (Nat.le_refl _) HQ.out.out.2.1 hgrow)
                  have HO2 := Lib.hid hown
                  clear hown hgrow
                  go_wp2_with fail
                  go_roundw
                  case rel => exact ⟨k + 1, I + 4 + K + 2, by omega, by omega, by go_num, by go_num, A', c', rfl, HR0.out, by rw [cellsN, ccs_append, HC0.out, ccs_single]; exact HO2.out, HN2.out⟩
                  case measure => simp [intOf]; omega
                · have b4 : 240 < (I : Int) + 4 + (K : Int) + 2 := by omega
                  have hg : getOk b = false := by
                    cases g : getOk b with
                    | false => rfl
                    | true =>
                      have h9 := GR.out k (by rw [← HN.out]; exact hlt) I K HQ.out.out.1 HK.out g
                      rw [HLN.out I _ HQ.out.out.1, ← HK.out, HKD.out, HSZ.out] at h9
                      omega
                  go_wp2_with fail
                  refine (of2.out _).mono ?_; rintro e w2 ⟨rfl, rfl⟩
                  go_wp2_with fail
                  go_ret2
                  exact HNO.out _ (HQ.out.out.2.2.alloc HSW _) hg
              · have b5 : ((kd : Int) == 0) = false := by rw [beq_eq_false_iff_ne]; omega
                have b6 : ((kd : Int) == 1) = false := by rw [beq_eq_false_iff_ne]; omega
                have hg : getOk b = false := by
                  cases g : getOk b with
                  | false => rfl
                  | true =>
                    have h9 := GR.out k (by rw [← HN.out]; exact hlt) I K HQ.out.out.1 HK.out g
                    rw [HLN.out I _ HQ.out.out.1, ← HK.out, HKD.out, HSZ.out] at h9
                    omega
                go_wp2_with fail
                refine (of2.out _).mono ?_; rintro e w2 ⟨rfl, rfl⟩
                go_wp2_with fail
                go_ret2
                exact HNO.out _ (HQ.out.out.2.2.alloc HSW _) hg
          · have b3 : 240 < (I : Int) + 1 + (K : Int) + 3 := by omega
            have hg : getOk b = false := by
              cases g : getOk b with
              | false => rfl
              | true =>
                have h9 := GR.out k (by rw [← HN.out]; exact hlt) I K HQ.out.out.1 HK.out g
                rw [HLN.out I _ HQ.out.out.1, ← HK.out] at h9
                omega
            go_wp2_with fail
            go_ret2
            exact HNO.out _ HQ.out.out.2.2 hg
        · have b2 : (I : Int) ≥ 240 := by omega
          have b2' : ¬ (I : Int) < 240 := by omega
          have hg : getOk b = false := by
            cases g : getOk b with
            | false => rfl
            | true =>
              have h9 := GR.out k (by rw [← HN.out]; exact hlt) I _ HQ.out.out.1 rfl g
              rw [HLN.out I _ HQ.out.out.1] at h9
              omega
          go_wp2_with fail
          go_ret2
          exact HNO.out _ HQ.out.out.2.2 hg
      · obtain rfl : n = k := by omega
        have b1 : ¬ (n : Int) < (n : Int) := by omega
        have hln : (parse b).length = n := by rw [HP.out]; exact HL.out n
        have HLN2 := Lib.hid hln
        have HO := Lib.hid (show wr.ownsRow w.heap.size 42 4 (.slice A n c) n (ccs (parse b)) by rw [HP.out]; exact HQ.out.out.2.1)
        have PU := Lib.hid (rput_walk (c := c) wr (Own.ces HO.out hln HPS.out.2 (by unfold maxLen; omega)) hln (by omega) (Nat.le_refl _))
        clear hln
        cases g : getOk b with
        | true =>
          obtain ⟨g1, g2, g3⟩ := getS_ok g
          have HS := Lib.hid g1
          rw [g1] at g2 g3
          have hpu : putS (parse b) = b := by unfold putS; rw [g2]; exact g3
          rw [hpu, g2, HX.out] at PU
          have hse : (X.toList == X.toList) = true := by simp
          have HG := Lib.hid g
          clear g g1 g2 g3 hpu
          go_wp2_with fail
          refine PU.out.mono ?_; rintro e w2 ⟨rfl, hb2⟩
          have HO2 := Lib.hid (owns_kept2 HO.out fun g hg => hb2.block g (HO.out.lt g hg).2)
          have HB2 := Lib.hid (HQ.out.out.2.2.trans (hb2.mono HSW))
          clear hb2
          go_wp2_with fail
          go_ret2
          refine ⟨A, c, by rw [HS.out, HLN2.out, HG.out]; rfl, ?_, HB2.out⟩
          unfold Own
          rw [HS.out, HLN2.out]
          exact HO2.out
        | false =>
          have HG := Lib.hid g
          cases gp : putOk (parse b) with
          | false =>
            rw [gp] at PU
            clear g gp
            generalize str (putS (parse b)) = Y at *
            go_wp2_with fail
            refine PU.out.mono ?_; rintro e w2 ⟨rfl, hb2⟩
            have HB2 := Lib.hid (HQ.out.out.2.2.trans (hb2.mono HSW))
            clear hb2
            go_wp2_with fail
            go_ret2
            exact HNO.out _ HB2.out HG.out
          | true =>
            have hne : bodyOf (parse b) ≠ b := fun e => by
              rw [getOk_iff.2 ⟨gp, e⟩] at g
              cases g
            have hse : ((str (putS (parse b))).toList == X.toList) = false := by
              rw [← HX.out, str_list, str_list, beq_eq_false_iff_ne]
              unfold putS
              rw [gp]
              exact hne
            have hse2 : ¬ (str (putS (parse b))).toList = X.toList := by simpa using hse
            rw [gp] at PU
            clear g gp hne
            generalize str (putS (parse b)) = Y at *
            go_wp2_with fail
            refine PU.out.mono ?_; rintro e w2 ⟨rfl, hb2⟩
            have HB2 := Lib.hid (HQ.out.out.2.2.trans (hb2.mono HSW))
            clear hb2
            go_wp2_with fail
            go_ret2
            exact HNO.out _ HB2.out HG.out
  · have h1 : ((str b).size : Int) ≠ 240 := by omega
    have h2 : (((str b).size : Int) == 240) = false := by rw [beq_eq_false_iff_ne]; omega
    have HG := Lib.hid (getOk_none h)
    have HS := Lib.hid (getS_no HG.out)
    generalize str b = X at *
    go_enter Tryz.func21, Tryz.ntmps21
    go_wp2_with fail
    go_ret2
    unfold Got
    rw [HS.out, HG.out]
    exact ⟨none, 0, rfl, Own.nil _ _, Below.refl _ _⟩
end Go.Proofs.YtljegjcajlkgiaaGreat
