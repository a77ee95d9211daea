/- For every page and every number: the page's bytes, cut or lengthened to so many, are a page just if there are as many as a page has. The row speaks of the table of names as the program's text lays it; the card ties that to the text. -/
import Derived.Test.YtanhoiikjneeaaaDoorRows
import Derived.Test.YtanhoiikjneeaaaDoorCards
import Derived.Test.YtanhoiikjneeaaaDoorTie
import Derived.Test.YtanhoiikjneeaaaDoorTurn
import Derived.Lib.Hide
import Derived.WalkKit
import Derived.ProofKit
import Derived.OpenShut
import Derived.ChangeOld
import Derived.Below
import Derived.Carry
import Derived.LaidMore
import Derived.SevenTiedAt
namespace Go.Proofs.YtanhoiikjneeaaaDoor.pageSizes
open Go.ChangeShapes Go.WideShapes Go.ChangeAt Go.RowKit
set_option linter.unusedVariables false
set_option linter.unusedSimpArgs false

theorem sizes_ok {p : Pg} (hp : p.Ok) (n : Int) (h0 : 0 ≤ n) (h4 : n ≤ 400) : okB ((p.bytes ++ zs 200).take n.toNat) = decide (n = 256) := by
  have hl : p.bytes.length = 256 := by rw [Pg.bytes_length, hp.2.2.2]
  by_cases e : n = 256
  · rw [decide_eq_true e, e, show (256 : Int).toNat = 256 from rfl, ← hl, List.take_left]
    exact okB_some (getP_bytes hp)
  · rw [decide_eq_false e]
    refine okB_none (getP_len ?_)
    rw [List.length_take, List.length_append, hl, zs_length]
    omega
set_option maxRecDepth 100000 in
set_option maxHeartbeats 8000000 in
theorem walk (k d m : Int) (b : ByteArray) (n : Int) (w : World) (wk : (Lit.int .i64 k).wf = true) (wd : (Lit.int .i64 d).wf = true) (wm : (Lit.int .i64 m).wf = true) (wb : b.size ≤ maxLen) (wn : (Lit.int .i64 n).wf = true) (hn : NamesAt w) :
    Calls Tryd.prog 8 #[pv k d m b, .int .i64 n] w fun e w' => e = .returned (.bool true) ∧ Below w.heap.size w w' := by
  have HN := Lib.hid hn
  clear hn wk wd wm wn
  unfold maxLen at wb
  by_cases c0 : (300 : Int) < b.size
  · as_aux_lemma =>
      have HP := Lib.hid (Box.new w (.int .i64 k) (.int .i64 d) (.int .i64 m) (.string b))
      have HB0 := Lib.hid ((Below.refl w.heap.size w).alloc (Nat.le_refl _) (.cells #[.int .i64 k, .int .i64 d, .int .i64 m, .string b] 23))
      have AL := Lib.hid (fun r (h : Below w.heap.size w r) => alive_yes r (HN.out.kept h))
      unfold pv
      go_enter Tryd.func8, Tryd.ntmps8
      go_wp2_with fail
      refine (AL.out _ HB0.out).mono ?_; rintro e w1 ⟨rfl, hb⟩
      have HP1 := Lib.hid (HP.out.kept hb)
      have HB1 := Lib.hid (HB0.out.trans (hb.mono (Below.size HB0.out)))
      clear hb HP HB0
      go_wp2_with fail
      go_ret
      exact ⟨rfl, HB1.out⟩
  · by_cases c1 : n < 0
    · as_aux_lemma =>
        have HP := Lib.hid (Box.new w (.int .i64 k) (.int .i64 d) (.int .i64 m) (.string b))
        have HB0 := Lib.hid ((Below.refl w.heap.size w).alloc (Nat.le_refl _) (.cells #[.int .i64 k, .int .i64 d, .int .i64 m, .string b] 23))
        have AL := Lib.hid (fun r (h : Below w.heap.size w r) => alive_yes r (HN.out.kept h))
        unfold pv
        go_enter Tryd.func8, Tryd.ntmps8
        go_wp2_with fail
        refine (AL.out _ HB0.out).mono ?_; rintro e w1 ⟨rfl, hb⟩
        have HP1 := Lib.hid (HP.out.kept hb)
        have HB1 := Lib.hid (HB0.out.trans (hb.mono (Below.size HB0.out)))
        clear hb HP HB0
        go_wp2_with fail
        go_ret
        exact ⟨rfl, HB1.out⟩
    · by_cases c2 : 400 < n
      · as_aux_lemma =>
          have HP := Lib.hid (Box.new w (.int .i64 k) (.int .i64 d) (.int .i64 m) (.string b))
          have HB0 := Lib.hid ((Below.refl w.heap.size w).alloc (Nat.le_refl _) (.cells #[.int .i64 k, .int .i64 d, .int .i64 m, .string b] 23))
          have AL := Lib.hid (fun r (h : Below w.heap.size w r) => alive_yes r (HN.out.kept h))
          unfold pv
          go_enter Tryd.func8, Tryd.ntmps8
          go_wp2_with fail
          refine (AL.out _ HB0.out).mono ?_; rintro e w1 ⟨rfl, hb⟩
          have HP1 := Lib.hid (HP.out.kept hb)
          have HB1 := Lib.hid (HB0.out.trans (hb.mono (Below.size HB0.out)))
          clear hb HP HB0
          go_wp2_with fail
          go_ret
          exact ⟨rfl, HB1.out⟩
      · have hn0' : 0 ≤ n := by omega
        have hn4' : n ≤ 400 := by omega
        obtain ⟨j, rfl⟩ : ∃ j : Nat, n = j := ⟨n.toNat, by omega⟩
        have HDN := Lib.hid (show (decide ((j : Int) = 256) == ((j : Int) == 256)) = true by rw [beq_iff_eq]; by_cases h : (j : Int) = 256 <;> simp [h])
        have HP := Lib.hid (Box.new w (.int .i64 k) (.int .i64 d) (.int .i64 m) (.string b))
        have HB0 := Lib.hid ((Below.refl w.heap.size w).alloc (Nat.le_refl _) (.cells #[.int .i64 k, .int .i64 d, .int .i64 m, .string b] 23))
        have AL := Lib.hid (fun r (h : Below w.heap.size w r) => alive_yes r (HN.out.kept h))
        unfold pv
        go_enter Tryd.func8, Tryd.ntmps8
        go_wp2_with fail
        refine (AL.out _ HB0.out).mono ?_; rintro e w1 ⟨rfl, hb⟩
        have HP1 := Lib.hid (HP.out.kept hb)
        have HB1 := Lib.hid (HB0.out.trans (hb.mono (Below.size HB0.out)))
        clear hb HP HB0
        obtain ⟨x0, x1, x2, x3⟩ := HP1.out.cells
        cases hok : okV k d m b with
        | false =>
          have PU := Lib.hid (put_bad k d m b hok w1)
          unfold pv at PU
          clear hok
          go_wp2_with fail
          refine PU.out.mono ?_; rintro e w2 ⟨rfl, hb⟩
          have HB2 := Lib.hid (HB1.out.trans (hb.mono (Below.size HB1.out)))
          clear hb
          go_wp2_with fail
          go_ret
          exact ⟨rfl, HB2.out⟩
        | true =>
          have PU := Lib.hid (put_ok k d m b hok w1)
          unfold pv at PU
          have HOK := okV_ok.1 hok
          generalize hpg : Pg.mk k d m b.data.toList = pg at *
          have hlen : pg.bytes.length = 256 := by rw [Pg.bytes_length, HOK.2.2.2]
          have HS := Lib.hid (sizes_ok HOK j hn0' hn4')
          have HG := Lib.hid (fun w => get_any (str ((pg.bytes ++ zs 200).take j)) (by rw [str_size, List.length_take]; unfold maxLen; omega) w)
          rw [show ((j : Int)).toNat = j by omega] at HS
          rw [str_toList, HS.out] at HG
          obtain ⟨q0, q1, q2, q3, hq⟩ : ∃ q0 q1 q2 q3, pvP (valB ((pg.bytes ++ zs 200).take j)) = .agg #[.int .i64 q0, .int .i64 q1, .int .i64 q2, .string q3] := ⟨_, _, _, _, rfl⟩
          rw [hq] at HG
          have hex : (str pg.bytes ++ str (zs 200)).extract 0 j = str ((pg.bytes ++ zs 200).take j) := by rw [str_append, str_toList, extract_str]
          obtain ⟨bb, hbb⟩ : ∃ bb, bb = str pg.bytes := ⟨_, rfl⟩
          obtain ⟨zz, hzz⟩ : ∃ zz, zz = str (zs 200) := ⟨_, rfl⟩
          have hbs : bb.size = 256 := by rw [hbb, str_size, hlen]
          have hzs : zz.size = 200 := by rw [hzz, str_size, zs_length]
          rw [← hbb] at PU hex
          rw [← hzz] at hex
          rw [← hex] at HG
          have HZZ := Lib.hid hzz
          clear hok hpg HOK hlen hq hex hbb HS hzz
          have hsum : (bb ++ zz).size = 456 := by rw [ByteArray.size_append, hbs, hzs]
          go_wp2_with fail
          refine PU.out.mono ?_; rintro e w2 ⟨rfl, hb⟩
          have HB2 := Lib.hid (HB1.out.trans (hb.mono (Below.size HB1.out)))
          clear hb HB1 HP1 x0 x1 x2 x3 PU
          obtain ⟨i0, hi, hz0, hz1, hz2⟩ := info_parts info_u8
          have hmk := run_make (P := Tryd.prog) w2 33 5 i0 _ Tryd.underlying33 hi hz0 .i64 .i64 (200 : Int) (200 : Int) (by omega) (Int.le_refl _) (by rw [hz2]; omega) (by omega)
          rw [hz1, show ((200 : Int)).toNat = 200 from rfl] at hmk
          simp only [Value.cells, Nat.mul_one] at hmk
          have hcv := convert_zeros w2 200
          unfold zRow at hcv
          obtain ⟨row, hrow⟩ : ∃ row, row = madeCells #[Value.int .u8 0] 200 := ⟨_, rfl⟩
          rw [← hrow] at hmk hcv
          rw [← HZZ.out] at hcv
          have HB3 := Lib.hid (HB2.out.alloc (Below.size HB2.out) (.cells row 5))
          clear hi hz0 hz1 hz2 hrow HB2
          go_wp2_with fail
          refine (HG.out _).mono ?_; rintro e w3 ⟨rfl, hb⟩
          have HB4 := Lib.hid (HB3.out.trans (hb.mono (Below.size HB3.out)))
          clear hb HB3
          go_wp2_with fail
          rw [HDN.out]
          go_ret
          exact ⟨rfl, HB4.out.alloc (Below.size HB4.out) _⟩

/-! The row's step. -/
set_option maxRecDepth 100000 in
theorem lifted (os : Os) (started : os.Started) (H : Type) (enc : TypeId × Value → H) :
    ReturnsInHanded {} Tryd.checked os 8 .any (fun w args => (Rows.pageSizesSpec.pre enc Tryd.prog Tryd.f8 [] false w args ∧ laidMetH Tryd.prog laidL w) ∧ sizedMet enc Tryd.prog Tryd.f8 (OpenSpec.ofChange Rows.pageSizesSpec) false w args)
      (Rows.pageSizesSpec.post enc Tryd.prog Tryd.f8 false true false false) := by
  refine returnsInHanded_of_change_and (C := Tryd.checked) (X := fun w _ => laidMetH Tryd.prog laidL w) (fun _ _ _ hh h => h.of_heap hh) own started (by kernel_rfl) Tryd.func8
    (ChangeSpec.witness_shaped (enc := enc) (C := Tryd.checked) (os := os) (X := fun w _ => laidMetH Tryd.prog laidL w) false (World.doorLaid Tryd.prog 400 os) #[.agg #[.int .i64 0, .int .i64 0, .int .i64 0, .string ByteArray.empty], .int .i64 0] 8 rfl (World.shaped_of_RefB (by kernel_rfl) (by kernel_rfl)) (by kernel_rfl) (by kernel_rfl) (by kernel_rfl) (door_met os _)) ?_
  intro W base args ds gs before hval0 hW _ _ hL _
  have hval : ∀ (j : Nat) t v, Tryd.f8.params[j]? = some t → args[j]? = some v → Value.okWide Tryd.prog W .any base t v := hval0
  have hW' := hW
  obtain ⟨p, q, hA0, hV, rfl, hfz, hnd⟩ := hW
  have hA : DataW.TrodAll enc Tryd.prog W 0 (fun _ => true) true Tryd.f8.params.toList args.toList ds p := hA0
  rw [Tryd.params8] at hA hval
  obtain ⟨v0, vs0, d0, ds0, p0, q0, hargs, rfl, rfl, h0, r0⟩ := trodAll_cons hA
  obtain ⟨v1, vs1, d1, ds1, p1, q1, rfl, rfl, rfl, h1, r1⟩ := trodAll_cons r0
  obtain ⟨rfl, rfl, rfl⟩ := trodAll_nil r1
  obtain rfl : args = #[v0, v1] := by cases args; simp_all
  obtain ⟨rfl, rfl⟩ := trodVars_none hV
  obtain ⟨a0, b0, c0, s0, rfl, wa0, wb0, wc0, ws0, sh0⟩ := open_page (hval 0 23 v0 rfl rfl) h0
  obtain ⟨a1, rfl, rfl, rfl, w1⟩ := open_int Tryd.underlying3 (hval 1 3 v1 rfl rfl) h1
  clear hA0 hval0
  refine (walk a0 b0 c0 s0 a1 W wa0 wb0 wc0 ws0 w1 (of_laid hL)).mono fun e W' ⟨he, bel⟩ => ?_
  subst he
  exact ⟨_, rfl, _, _, _, [], _, [], hW', trodAll_mk1 (shut_bool Tryd.underlying4 _), (trodAll_cons_mk (sh0 _ _) (trodAll_cons_mk (shut_int Tryd.underlying3 w1) trodAll_mk0)), rfl, bel.frame _, fun h => by cases h⟩

/-- The row's statement. -/
theorem over : Rows.PageSizesSaid :=
  OpenClaim.holds_of_wide 8 Tryd.f8 rfl rfl rfl rfl rfl rfl rfl ⟨rfl, rfl, rfl, rfl, rfl⟩ rfl rfl rfl rfl rfl (by kernel_rfl) Tryd.func8 (by kernel_rfl)
    (of_decide_eq_true (by kernel_rfl)) (by unfold Func.isWrapper; first | (rw [if_pos (by decide +kernel)]; kernel_rfl) | (rw [if_neg (by decide +kernel)]; exact ⟨rfl, rfl⟩))
    (fun os started H enc _ => lifted os started H enc)

/-- The card. -/
theorem proved : Rows.PageSizesCardSaid :=
  Claim7.holds_tied_plain_at .later [] [.data] true Rows.pageSizesCard.stood.harness false
    over (fun _ h => by cases h) (by kernel_rfl) (fun _ h => by cases h) pageSizes_row_tie rfl ⟨rfl, rfl⟩ (by kernel_rfl) rfl
    (fun f fn hf hfn => by
      obtain rfl : f = 8 := Option.some.inj ((show Tryd.prog.funcNamed "honeycomb/honeycomblaw5.PageSizes" = some 8 by kernel_rfl).symm.trans hf) |>.symm
      obtain rfl : fn = Tryd.f8 := (Option.some.inj (Tryd.func8.symm.trans hfn)).symm
      exact ⟨by kernel_rfl, fun j t ht => by
        rw [Tryd.params8] at ht
        have hm : t ∈ [23, 3] := by simpa using Array.mem_of_getElem? ht
        have hall : ([23, 3].all fun u => !Tryd.prog.wantsStandIn u) = true := by kernel_rfl
        exact (show Tryd.prog.wantsStandIn t = false by simpa using List.all_eq_true.1 hall t hm)⟩)
    (by kernel_rfl)
end Go.Proofs.YtanhoiikjneeaaaDoor.pageSizes
