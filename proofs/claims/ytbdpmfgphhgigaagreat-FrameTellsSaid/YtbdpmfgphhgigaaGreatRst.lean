/- The document's own stream, Count, Batch. -/
import Derived.Test.YtbdpmfgphhgigaaGreatRget
import Derived.Test.YtbdpmfgphhgigaaGreatBatch
import Derived.Test.YtbdpmfgphhgigaaGreatList
import Derived.StillTailTactics
namespace Go.Proofs.YtbdpmfgphhgigaaGreat
open Go.ChangeShapes Go.WideShapes Go.ChangeAt Go.RowKit
set_option linter.unusedVariables false
set_option linter.unusedSimpArgs false
set_option maxRecDepth 100000
/-- What stream hands back as bytes. -/
def rsB (l : List BA) : BA := if strmOk l then strmB l else []
theorem strm_snoc {l : List BA} {k : Nat} (h : k < l.length) : strmB (l.take (k + 1)) = strmB (l.take k) ++ recX (l.getD k []) := by
  rw [take_snoc l k [] h, strmB_append, strmB_cons]
  simp [strmB]
theorem strm_pre (l : List BA) (k : Nat) : (strmB (l.take k)).length ≤ (strmB l).length := by
  have := congrArg List.length (congrArg strmB (List.take_append_drop k l))
  rw [strmB_append, List.length_append] at this
  omega
theorem strm_no {l : List BA} {k : Nat} (h : k < l.length) (h0 : (l.getD k []).length = 0) : strmOk l = false := by
  cases hs : strmOk l with
  | false => rfl
  | true =>
    have := (strmOk_iff.1 hs).2 _ (getD_mem' [] h)
    omega
set_option maxHeartbeats 2000000 in
theorem rstream_is {C n c : Nat} {A : Option Addr} {l : List BA} (w : World) (h : Txt C w A n l) (hC : C ≤ w.heap.size) (hf : fewB l = true) :
    Calls Tryz.prog 35 #[.slice A n c] w fun e w' => e = .returned (.tuple #[.string (str (rsB l)), .bool (strmOk l)]) ∧ Below w.heap.size w w' := by
  have hs := few_strm hf
  have HSZ := Lib.hid (few_size hf)
  have hnn : n ≤ 20 := by rw [← h.1]; exact hs.1
  have hS := hs.2.2
  have H1 := Lib.hid h
  have HN := Lib.hid h.1
  have HP := Lib.hid (fun k => Nat.le_trans (strm_pre l k) hS)
  have hN : (n : Int) ≤ 20 := by omega
  have HC := Lib.hid hC
  have H0 := Lib.hid (show (⟨#[]⟩ : ByteArray) = str (strmB (l.take 0)) from rfl)
  clear h hs hf hC hS
  go_enter Tryz.func35, Tryz.ntmps35
  go_wp2_with fail
  go_loopw [4, 5] (fun v x wr => ∃ k : Nat, k ≤ n ∧ x = .int .i64 k ∧ ∃ S : ByteArray, v = .string S ∧ S.size ≤ 1540 ∧ Hid (S = str (strmB (l.take k)) ∧ Below w.heap.size w wr ∧ ∀ j, j < k → 1 ≤ (l.getD j []).length)) (fun _ x _ => n - (intOf x).toNat)
  case atStart => exact ⟨0, Nat.zero_le _, rfl, _, rfl, Nat.zero_le _, H0.out, Below.refl _ _, fun j hj => absurd hj (Nat.not_lt_zero _)⟩
  case round =>
    obtain ⟨k, hk, rfl, S, rfl, hS, hq⟩ := hrel
    have HS := Lib.hid hq.out.1
    have HB := Lib.hid hq.out.2.1
    have HA := Lib.hid hq.out.2.2
    clear hq
    have b0 : (0 : Int) ≤ (k : Int) := by omega
    by_cases hlt : k < n
    · obtain ⟨b, off, rfl, hbC, c00, _⟩ := H1.out.2.2 k hlt
      have c0 : wr.cell? ⟨b, off + k, none⟩ = _ := cell_kept HB.out (Nat.lt_of_lt_of_le hbC HC.out) c00
      clear c00 hbC
      have b1 : (k : Int) < (n : Int) := by omega
      have hkl : k < l.length := by rw [HN.out]; exact hlt
      have HT := Lib.hid (strm_snoc hkl)
      have hz : (l.getD k []).length ≤ 1500 := HSZ.out _ (getD_mem' [] hkl)
      have HNO := Lib.hid (fun h0 => strm_no hkl h0)
      have hsz : (str (l.getD k [])).size = (l.getD k []).length := rfl
      have he : (str (l.getD k [])).toList = l.getD k [] := by rw [Lib.toList_data, str_toList]
      have TX := Lib.hid (rtext_is (l.getD k []) (by omega))
      have hrx : (str (recX (l.getD k []))).size = 2 + (l.getD k []).length := by rw [str_size, recX_length]
      have HA2 := Lib.hid (fun (h1 : 1 ≤ (l.getD k []).length) => show ∀ j, j < k + 1 → 1 ≤ (l.getD j []).length from fun j hj => by
        by_cases e : j < k
        · exact HA.out j e
        · obtain rfl : j = k := by omega
          exact h1)
      have HP1 := HP.out (k + 1)
      rw [HT.out, List.length_append, recX_length] at HP1
      have HSS := Lib.hid (show S ++ str (recX (l.getD k [])) = str (strmB (l.take (k + 1))) from by rw [HS.out, HT.out, str_append])
      have hSl : S.size = (strmB (l.take k)).length := by rw [HS.out]; rfl
      have hsum : ¬ 9223372036854775807 < S.size + (2 + (l.getD k []).length) := by omega
      have hsum2 : (S ++ str (recX (l.getD k []))).size ≤ 1540 := by rw [ByteArray.size_append]; omega
      have hzz := congrArg List.length he
      generalize str (recX (l.getD k [])) = R at *
      generalize str (l.getD k []) = x at *
      generalize l.getD k [] = z0 at *
      generalize hzl : z0.length = z at *
      subst hsz
      clear HS HT HA
      by_cases h0 : x.size = 0
      · have HB0 := Lib.hid (HNO.out (by omega))
        have HR0 := Lib.hid (show (⟨#[]⟩ : ByteArray) = str (rsB l) from by unfold rsB; rw [HB0.out]; rfl)
        have hi : x.toList = [] := List.eq_nil_of_length_eq_zero (by omega)
        have hi2 : x.toList.isEmpty = true := by rw [hi]; rfl
        clear HNO HA2 he hzz hzl HP1
        go_wp2_with fail
        go_ret2
        exact ⟨by rw [HB0.out]; exact congrArg (fun z => Ending.returned (.tuple #[.string z, .bool false])) HR0.out, HB.out⟩
      · have hi : ¬ x.toList = [] := fun e => by rw [e] at hzz; simp at hzz; omega
        have hi2 : x.toList.isEmpty = false := by cases h : x.toList <;> simp_all
        have HA3 := Lib.hid (HA2.out (by omega))
        have h1' : ¬ (65535 : Int) < (x.size : Int) := by omega
        clear he hzz hzl HP1 HNO HA2
        go_wp2_with fail
        refine (TX.out _).mono ?_; rintro e w2 ⟨rfl, hb⟩
        have HB2 := Lib.hid (HB.out.trans (hb.mono HB.out.size))
        clear hb
        go_wp2_with fail
        go_roundw
        case rel => exact ⟨k + 1, by omega, by go_num, S ++ R, rfl, hsum2, HSS.out, HB2.out, HA3.out⟩
        case measure => simp [intOf] <;> omega
    · obtain rfl : k = n := by omega
      have b1 : ¬ (k : Int) < (k : Int) := by omega
      have hT : l.take k = l := List.take_of_length_le (by rw [HN.out]; exact Nat.le_refl _)
      have hSB := HS.out
      rw [hT] at hSB
      have hdec : strmOk l = decide (0 < k) := by
        by_cases h0 : k = 0
        · rw [List.eq_nil_of_length_eq_zero (by rw [HN.out]; exact h0 : l.length = 0), decide_eq_false (by omega)]; rfl
        · rw [decide_eq_true (by omega)]
          exact strmOk_iff.2 ⟨fun e => h0 (by rw [← HN.out, e]; rfl), fun x hx => by
            obtain ⟨j, hj, rfl⟩ := List.getElem_of_mem hx
            have h2 := HA.out j (by rw [← HN.out]; exact hj)
            rw [getD_at hj] at h2
            exact ⟨h2, Nat.le_trans (HSZ.out _ (List.getElem_mem hj)) (by omega)⟩⟩
      have hrs : rsB l = strmB l := by
        unfold rsB
        by_cases h0 : k = 0
        · rw [List.eq_nil_of_length_eq_zero (by rw [HN.out]; exact h0 : l.length = 0)]; rfl
        · rw [hdec, decide_eq_true (by omega), if_pos rfl]
      have HE := Lib.hid (show str (rsB l) = S ∧ strmOk l = decide (0 < k) from ⟨by rw [hrs, hSB], hdec⟩)
      clear hSB hT HS hdec hrs
      go_wp2_with fail
      go_ret2
      exact ⟨by rw [HE.out.2]; exact congrArg (fun z => Ending.returned (.tuple #[.string z, .bool (decide (0 < k))])) HE.out.1.symm, HB.out⟩
theorem rsB_len {l : List BA} (hf : fewB l = true) : (rsB l).length ≤ 1540 := by
  unfold rsB
  split
  · exact (few_strm hf).2.2
  · simp
set_option maxHeartbeats 2000000 in
theorem rcount_is {C n c : Nat} {A : Option Addr} {l : List BA} (w : World) (h : Txt C w A n l) (hC : C ≤ w.heap.size) (hf : fewB l = true) :
    Calls Tryz.prog 18 #[.slice A n c] w fun e w' => e = .returned (.int .i64 (cntB l : Nat)) ∧ Below w.heap.size w w' := by
  have ST := Lib.hid (rstream_is (c := c) w h hC hf)
  have hl := rsB_len hf
  have hsz : (str (rsB l)).size = (rsB l).length := rfl
  have HC := Lib.hid (show strmOk l = true → (cntB l : Int) = ((rsB l).length + 55) / 56 from fun e => by unfold cntB rsB; rw [if_pos e, if_pos e]; omega)
  have HC0 := Lib.hid (show strmOk l = false → (cntB l : Int) = 0 from fun e => by unfold cntB; rw [e]; rfl)
  generalize str (rsB l) = s at *
  generalize (rsB l).length = m at *
  subst hsz
  clear h hC hf
  cases hk : strmOk l with
  | true =>
    rw [hk] at ST
    have HE := Lib.hid (HC.out hk)
    have e1 : IntKind.i64.wrap ((s.size : Int) + 56) = (s.size : Int) + 56 := IntWalk.i64_in _ (by omega)
    have e2 : IntKind.i64.wrap ((s.size : Int) + 56 - 1) = (s.size : Int) + 56 - 1 := IntWalk.i64_in _ (by omega)
    have e3 : IntKind.i64.wrap (((s.size : Int) + 56 - 1).tdiv 56) = ((s.size : Int) + 55) / 56 := by
      rw [Int.tdiv_eq_ediv_of_nonneg (by omega), IntWalk.i64_in _ (by omega)]; omega
    clear hk HC HC0
    go_enter Tryz.func18, Tryz.ntmps18
    go_wp2_with fail
    refine ST.out.mono ?_; rintro e w1 ⟨rfl, hb⟩
    have HB := Lib.hid hb
    clear hb
    go_wp2_with fail
    go_ret
    exact ⟨by rw [HE.out]; rfl, HB.out⟩
  | false =>
    rw [hk] at ST
    have HE := Lib.hid (HC0.out hk)
    clear hk HC HC0
    go_enter Tryz.func18, Tryz.ntmps18
    go_wp2_with fail
    refine ST.out.mono ?_; rintro e w1 ⟨rfl, hb⟩
    have HB := Lib.hid hb
    clear hb
    go_wp2_with fail
    go_ret
    exact ⟨by rw [HE.out]; rfl, HB.out⟩
/-- The k-th piece, cut out of the bytes as they stand. -/
theorem cut_piece (m : BA) (t : Nat) (h : 56 * t < m.length) (hm : m.length ≤ 100000) (w : World) :
    (Instr.slice 9 (.string (str m)) (some (.int .i64 ((56 * t : Nat) : Int))) (some (.int .i64 (min (((56 * t : Nat) : Int) + 56) (m.length : Int)))) none).run Tryz.prog w = .ok (.string (str (pieceX m t))) w := by
  rw [run_slice_string w 9 (str m) .i64 .i64 _ _ Tryz.underlying9 (by omega) (by omega) (by rw [str_size]; omega), extract_str]
  congr 2
  unfold pieceX
  show str ((m.drop (56 * t)).take _) = _
  congr 1
  by_cases h2 : 56 * t + 56 ≤ m.length
  · rw [show (min (((56 * t : Nat) : Int) + 56) (m.length : Int)).toNat - (((56 * t : Nat) : Int)).toNat = 56 by omega]
  · rw [List.take_of_length_le (by rw [List.length_drop]; omega), List.take_of_length_le (by rw [List.length_drop]; omega)]
/-- The sectors that were made. -/
def madeB (e i : Int) (s : BA) (t : Nat) : List BA := (List.range t).map fun k => encX (secX e i s k)
theorem madeB_succ (e i : Int) (s : BA) (t : Nat) : madeB e i s (t + 1) = madeB e i s t ++ [encX (secX e i s t)] := by
  unfold madeB
  rw [List.range_succ, List.map_append]; rfl
theorem madeB_length (e i : Int) (s : BA) (t : Nat) : (madeB e i s t).length = t := by simp [madeB]
/-- Its index wrapped, a sector is good just when it is good with the index itself. -/
theorem okX_wrap (e i : Int) (hi : rng i) (t : Nat) (ht : t ≤ 1000) (f : Bool) (p : BA) : okX ⟨e, IntKind.i64.wrap (i + (t : Int)), f, p⟩ = okX ⟨e, i + (t : Int), f, p⟩ ∧ (okX ⟨e, i + (t : Int), f, p⟩ = true → IntKind.i64.wrap (i + (t : Int)) = i + (t : Int)) := by
  obtain ⟨h1, h2⟩ := hi
  by_cases hb : i + (t : Int) ≤ 9223372036854775807
  · have e1 : IntKind.i64.wrap (i + (t : Int)) = i + (t : Int) := IntWalk.i64_in _ (by omega)
    rw [e1]
    exact ⟨rfl, fun _ => rfl⟩
  · have e1 : IntKind.i64.wrap (i + (t : Int)) = i + (t : Int) - 18446744073709551616 := by rw [IntKind.wrap_i64]; omega
    have e2 : okX ⟨e, i + (t : Int), f, p⟩ = false := by unfold okX; exact decide_eq_false (by dsimp only; omega)
    have e3 : okX ⟨e, IntKind.i64.wrap (i + (t : Int)), f, p⟩ = false := by rw [e1]; unfold okX; exact decide_eq_false (by dsimp only; omega)
    rw [e2, e3]
    exact ⟨rfl, fun h => by cases h⟩
set_option maxHeartbeats 4000000 in
theorem rbatch_is {C n c : Nat} {A : Option Addr} {l : List BA} (e i : Int) (hi : rng i) (w : World) (h : Txt C w A n l) (hC : C ≤ w.heap.size) (hf : fewB l = true) :
    Calls Tryz.prog 12 #[.int .i64 e, .int .i64 i, .slice A n c] w fun r w' => BatP e i l w r w' := by
  have ST := Lib.hid (rstream_is (c := c) w h hC hf)
  have HNO := Lib.hid (fun w' (hn : batOk e i l = false) (hb : Below w.heap.size w w') => BatP.no hn hb)
  have hl := rsB_len hf
  clear h hC
  cases hk : strmOk l with
  | false =>
    rw [hk] at ST
    have HE := Lib.hid (show batOk e i l = false from by unfold batOk; rw [hk]; rfl)
    generalize str (rsB l) = s at *
    clear hk
    go_enter Tryz.func12, Tryz.ntmps12
    go_wp2_with fail
    refine ST.out.mono ?_; rintro q w1 ⟨rfl, hb⟩
    have HB := Lib.hid hb
    clear hb
    go_wp2_with fail
    go_ret2
    exact HNO.out _ HE.out HB.out
  | true =>
    rw [hk] at ST
    have hrs : rsB l = strmB l := by unfold rsB; rw [hk]; rfl
    rw [hrs] at ST hl
    have HK := Lib.hid hk
    obtain ⟨m, hm⟩ : ∃ m, m = strmB l := ⟨_, rfl⟩
    rw [← hm] at ST hl
    have HM := Lib.hid hm
    clear hrs hk hm hf
    have hsz : (str m).size = m.length := rfl
    have CUT := Lib.hid (fun t (ht : 56 * t < m.length) => cut_piece m t ht (by omega))
    obtain ⟨s, hs⟩ : ∃ s, s = str m := ⟨_, rfl⟩
    rw [← hs] at ST hsz CUT
    clear hs
    obtain ⟨i0, hi0, hz0, hz1, hz2⟩ := info_parts info_s
    go_enter Tryz.func12, Tryz.ntmps12
    go_wp2_with fail
    refine ST.out.mono ?_; rintro q w1 ⟨rfl, hb⟩
    have HB0 := Lib.hid hb
    clear hb
    go_wp2_with fail
    go_loopw [10, 11] (fun v x wr => ∃ t T : Nat, t ≤ npX m ∧ x = .int .i64 (T : Int) ∧ T = 56 * t ∧ Hid (OwnT w.heap.size wr v (madeB e i m t) ∧ Below w.heap.size w wr ∧ ∀ k, k < t → okX (secX e i m k) = true)) (fun _ x _ => 2000 - (intOf x).toNat)
    case atStart => exact ⟨0, 0, Nat.zero_le _, rfl, rfl, OwnT.nil _ _, HB0.out, fun k hk => absurd hk (Nat.not_lt_zero _)⟩
    case round =>
      obtain ⟨t, T, ht, rfl, hT, hq⟩ := hrel
      have HO := Lib.hid hq.out.1
      have HB := Lib.hid hq.out.2.1
      have HA := Lib.hid hq.out.2.2
      clear hq HB0
      have hnp : npX m ≤ 28 := by unfold npX; omega
      have b0 : (0 : Int) ≤ (T : Int) := by omega
      have HTT := Lib.hid hT
      by_cases hlt : T < m.length
      · have b1 : (T : Int) < (m.length : Int) := by omega
        have cut := CUT.out t (by omega)
        rw [← hT] at cut
        have q0 : ((T : Int)).tdiv 56 = (t : Int) := by rw [Int.tdiv_eq_ediv_of_nonneg (by omega)]; omega
        have q1 : IntKind.i64.wrap (t : Int) = (t : Int) := IntWalk.i64_in _ (by omega)
        have q2 : IntKind.i64.wrap ((T : Int) + 56) = (T : Int) + 56 := IntWalk.i64_in _ (by omega)
        have q3 : ((T : Int) == 0) = decide (t = 0) := by
          by_cases h0 : t = 0
          · rw [decide_eq_true h0, beq_iff_eq]; omega
          · rw [decide_eq_false h0, beq_eq_false_iff_ne]; omega
        have hpl : (pieceX m t).length ≤ 56 := by rw [piece_length]; omega
        have WR := Lib.hid (okX_wrap e i hi t (by omega) (decide (t = 0)) (pieceX m t))
        obtain ⟨ix, hix⟩ : ∃ ix, IntKind.i64.wrap (i + (t : Int)) = ix := ⟨_, rfl⟩
        rw [hix] at WR
        have PU := Lib.hid (rput_any ⟨e, ix, decide (t = 0), pieceX m t⟩ (by dsimp only; unfold maxLen; omega))
        unfold PutP sv at PU
        obtain ⟨pc, hpc⟩ : ∃ pc, pc = str (pieceX m t) := ⟨_, rfl⟩
        dsimp only at PU
        rw [← hpc] at cut PU
        clear hpc
        cases hok : okX (secX e i m t) with
        | true =>
          have hw := WR.out.2 hok
          have HIX := Lib.hid hw
          have hk2 : okX ⟨e, ix, decide (t = 0), pieceX m t⟩ = true := WR.out.1.trans hok
          have hpx : putX ⟨e, ix, decide (t = 0), pieceX m t⟩ = encX (secX e i m t) := by
            rw [putX_yes hk2, hw]; rfl
          rw [hk2, hpx] at PU
          have HM2 := Lib.hid (show madeB e i m (t + 1) = madeB e i m t ++ [encX (secX e i m t)] from madeB_succ e i m t)
          have HA2 := Lib.hid (show ∀ k, k < t + 1 → okX (secX e i m k) = true from fun k hk => by
            by_cases e9 : k < t
            · exact HA.out k e9
            · obtain rfl : k = t := by omega
              exact hok)
          have hml := madeB_length e i m t
          have ht2 : t + 1 ≤ npX m := by unfold npX; omega
          obtain ⟨Av, cv, rfl⟩ := HO.out.shape
          have hown := HO.out
          unfold OwnT at hown
          rw [hml] at hown ⊢
          have HQ9 := Lib.hid (show (T : Int) + 56 = ((T + 56 : Nat) : Int) from by omega)
          generalize encX (secX e i m t) = en at *
          generalize madeB e i m t = mb at *
          generalize decide (t = 0) = dz at *
          have HOW := Lib.hid hown
          clear hk2 hpx hok WR HA HO hown hw hT
          go_wp2_with fail
          refine (PU.out _).mono ?_; rintro q w2 ⟨rfl, hb⟩
          have hown := owns_kept2 HOW.out fun g hg => hb.block g (HOW.out.lt g hg).2
          have HB2 := Lib.hid (HB.out.trans (hb.mono HB.out.size))
          have HW2 := Lib.hid hown
          clear hb PU HB
          go_wp2_with (at_builtin; refine wpList_append_own _ rfl (.tmp 49) (.tmp 51) 24 rfl w.heap.size 9 i0 (.string ⟨#[]⟩) 1 16 Tryz.underlying24 hi0 hz0 hz1 hz2 rfl (by decide) _ _ _ rfl (hown.alloc _) ⟨w2.heap.size, 0, none⟩ 1 1 [.string (str en)] rfl rfl (cell_one_new _ _ _) (by simp [Value.oneCell']) (by unfold maxLen; omega) (by omega) (by rw [World.size_alloc]; have := HB2.out.size; omega) ?_; intro v' w3 hown' hgrow _)
          have HB3 := Lib.hid ((HB2.out.alloc HB2.out.size _).grown hgrow (by rw [World.size_alloc]; have := HB2.out.size; omega) (fun g hg => (HW2.out.lt g hg).1))
          have HO3 := Lib.hid (show OwnT w.heap.size w3 v' (madeB e i m (t + 1)) from by
            rw [HM2.out]
            unfold OwnT
            rw [List.length_append, hml, tcs_append]
            exact hown')
          clear hown hown' hgrow HW2 HOW HB2
          go_wp2_with fail
          go_roundw
          case rel => exact ⟨t + 1, T + 56, by omega, by rw [← HQ9.out], by have := HTT.out; omega, HO3.out, HB3.out, HA2.out⟩
          case measure => simp [intOf] <;> omega
        | false =>
          have hk2 : okX ⟨e, ix, decide (t = 0), pieceX m t⟩ = false := WR.out.1.trans hok
          have hpx : putX ⟨e, ix, decide (t = 0), pieceX m t⟩ = [] := by unfold putX; rw [hk2]; rfl
          rw [hk2, hpx] at PU
          have HE := Lib.hid (show batOk e i l = false from by
            cases hbk : batOk e i l with
            | false => rfl
            | true =>
              have := (batOk_iff.1 hbk).2 t (by rw [← HM.out]; unfold npX; omega)
              rw [← HM.out, hok] at this
              cases this)
          generalize decide (t = 0) = dz at *
          clear hk2 hpx hok WR HA HO hT
          go_wp2_with fail
          refine (PU.out _).mono ?_; rintro q w2 ⟨rfl, hb⟩
          have HB2 := Lib.hid (HB.out.trans (hb.mono HB.out.size))
          clear hb PU HB
          go_wp2_with fail
          go_ret2
          exact HNO.out _ HE.out HB2.out
      · have b1 : ¬ (T : Int) < (m.length : Int) := by omega
        obtain rfl : t = npX m := by unfold npX at ht ⊢; omega
        clear hT
        have hyes : batOk e i l = true := batOk_iff.2 ⟨HK.out, fun k hk => by rw [← HM.out] at hk ⊢; exact HA.out k hk⟩
        have HF := Lib.hid (show batB e i l = madeB e i m (npX m) from by unfold batB madeB; rw [if_pos hyes, ← HM.out])
        have HY := Lib.hid hyes
        clear hyes HA
        go_wp2_with fail
        go_ret2
        unfold BatP
        rw [HY.out, HF.out]
        exact ⟨_, rfl, HO.out, HB.out⟩
end Go.Proofs.YtbdpmfgphhgigaaGreat
