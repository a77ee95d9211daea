/- The document's own Scan. -/
import Derived.Test.YtbdpmfgphhgigaaGreatRst
import Derived.Test.YtbdpmfgphhgigaaGreatScan
import Derived.StillTailTactics
import Derived.Deep.QuietTactic
namespace Go.Proofs.YtbdpmfgphhgigaaGreat
open Go.ChangeShapes Go.WideShapes Go.ChangeAt Go.RowKit
set_option linter.unusedVariables false
set_option linter.unusedSimpArgs false
set_option maxRecDepth 100000
def szOf : Value → Nat
  | .string s => s.size
  | _ => 0
theorem cut_two (m : BA) (h : 2 ≤ m.length) (hm : m.length ≤ 100000) (w : World) :
    (Instr.slice 9 (.string (str m)) none (some (.int .i64 2)) none).run Tryz.prog w = .ok (.string (str (m.take 2))) w := by
  rw [run_slice_string_h (P := Tryz.prog) w 9 (str m) Tryz.underlying9 .i64 2 (by omega) (by rw [str_size]; omega), extract_str]; rfl
theorem cut_rec (m : BA) (n : Nat) (h : 2 + n ≤ m.length) (hm : m.length ≤ 100000) (w : World) :
    (Instr.slice 9 (.string (str m)) (some (.int .i64 2)) (some (.int .i64 (2 + (n : Int)))) none).run Tryz.prog w = .ok (.string (str ((m.drop 2).take n))) w := by
  rw [run_slice_string w 9 (str m) .i64 .i64 2 (2 + (n : Int)) Tryz.underlying9 (by omega) (by omega) (by rw [str_size]; omega), extract_str, show ((2 : Int)).toNat = 2 from rfl, show (2 + (n : Int)).toNat - 2 = n by omega]; rfl
theorem cut_rest (m : BA) (n : Nat) (h : 2 + n ≤ m.length) (hm : m.length ≤ 100000) (w : World) :
    (Instr.slice 9 (.string (str m)) (some (.int .i64 (2 + (n : Int)))) none none).run Tryz.prog w = .ok (.string (str (m.drop (2 + n)))) w := by
  rw [run_slice_string_l (P := Tryz.prog) w 9 (str m) Tryz.underlying9 .i64 (2 + (n : Int)) (by omega) (by rw [str_size]; omega), extract_str]
  rw [show (2 + (n : Int)).toNat = 2 + n by omega, show (str m).data.toList = m from rfl, List.take_of_length_le (by rw [List.length_drop]; exact Nat.le_refl _)]
theorem feed_is {i : Nat} {s : Sc} {x : Sx} {op0 op : BA} {d0 d : Bool} {out : List BA} {N1 : Nat} {E1 : Int} (h : drX s.out op0 d0 = (out, op, d)) (h0 : op0 = (if x.fr then [] else s.op) ++ x.pl) (hd : d0 = if x.fr then false else s.dead)
    (h1 : out = s.out → N1 = s.next ∧ E1 = s.ep) (h2 : out ≠ s.out → N1 = i + 1 ∧ E1 = x.ep) : feedX i s x = ⟨out, N1, E1, x.ep, op, d⟩ := by
  unfold feedX
  rw [← h0, ← hd, h]
  dsimp only
  by_cases e : out = s.out
  · obtain ⟨a, b⟩ := h1 e
    rw [if_pos e, if_pos e, a, b]
  · obtain ⟨a, b⟩ := h2 e
    rw [if_neg e, if_neg e, a, b]
def ScP (l : List BA) (w : World) (r : Ending) (w' : World) : Prop := ∃ v, r = .returned (.tuple #[v, .int .i64 ((scan l).next : Nat), .int .i64 (scan l).ep]) ∧ OwnT w.heap.size w' v (scan l).out ∧ Below w.heap.size w w'
theorem ScP.done {l : List BA} {s : Sc} {w w' : World} {v : Value} (h : scan l = s) (ho : OwnT w.heap.size w' v s.out) (hb : Below w.heap.size w w') : ScP l w (.returned (.tuple #[v, .int .i64 (s.next : Nat), .int .i64 s.ep])) w' := by
  subst h
  exact ⟨v, rfl, ho, hb⟩
set_option maxHeartbeats 8000000 in
theorem rscan_is {C n c : Nat} {A : Option Addr} {l : List BA} (w : World) (h : Txt C w A n l) (hC : C ≤ w.heap.size) (hn : n ≤ 100) :
    Calls Tryz.prog 15 #[.slice A n c] w fun r w' => ScP l w r w' := by
  have H1 := Lib.hid h
  have HN := Lib.hid h.1
  have HC := Lib.hid hC
  have HD := Lib.hid (fun (s : Sc) (w' : World) (v : Value) (h : scan l = s) (ho : OwnT w.heap.size w' v s.out) (hb : Below w.heap.size w w') => ScP.done h ho hb)
  have hN : (n : Int) ≤ 100 := by omega
  clear h hC
  obtain ⟨i0, hi0, hz0, hz1, hz2⟩ := info_parts info_s
  go_enter Tryz.func15, Tryz.ntmps15
  go_wp2_with fail
  go_loopw [5, 6, 7, 8, 9, 10, 11] (fun v5 v6 v7 v8 v9 v10 x wr => ∃ (i : Nat) (s : Sc), i ≤ n ∧ x = .int .i64 (i : Int) ∧ v6 = .int .i64 (s.next : Int) ∧ v7 = .int .i64 s.ep ∧ v8 = .int .i64 s.last ∧ v9 = .string (str s.op) ∧ v10 = .bool s.dead ∧ Hid (scan l = scanX i s (l.drop i) ∧ OwnT w.heap.size wr v5 s.out ∧ Below w.heap.size w wr ∧ s.out.length + s.op.length ≤ 56 * i)) (fun _ _ _ _ _ _ x _ => n - (intOf x).toNat)
  case atStart => exact ⟨0, sc0, Nat.zero_le _, rfl, rfl, rfl, rfl, rfl, rfl, Lib.hid ⟨rfl, OwnT.nil _ _, Below.refl _ _, Nat.le_refl _⟩⟩
  case round =>
    obtain ⟨i, s, hi, rfl, rfl, rfl, rfl, rfl, rfl, hq⟩ := hrel
    have HE := Lib.hid hq.out.1
    have HO := Lib.hid hq.out.2.1
    have HB := Lib.hid hq.out.2.2.1
    have hM := hq.out.2.2.2
    clear hq
    have b0 : (0 : Int) ≤ (i : Int) := by omega
    by_cases hlt : i < n
    · obtain ⟨b, off, rfl, hbC, c00, hmx⟩ := H1.out.2.2 i hlt
      have c0 : wr.cell? ⟨b, off + i, none⟩ = _ := cell_kept HB.out (Nat.lt_of_lt_of_le hbC HC.out) c00
      clear c00 hbC
      have b1 : (i : Int) < (n : Int) := by omega
      have hil : i < l.length := by rw [HN.out]; exact hlt
      have HX1 := Lib.hid (show l.drop i = l.getD i [] :: l.drop (i + 1) from by rw [getD_at hil]; exact List.drop_eq_getElem_cons hil)
      obtain ⟨y, hy⟩ : ∃ y, l.getD i [] = y := ⟨_, rfl⟩
      rw [hy] at c0 hmx HX1
      have GT := Lib.hid (rget_any y hmx)
      have HNO := Lib.hid (show accX i s.last y = false → scan l = s from fun e => by rw [HE.out, HX1.out]; unfold scanX; rw [if_neg (by rw [e]; simp)])
      have HYE := Lib.hid (show accX i s.last y = true → scan l = scanX (i + 1) (feedX i s (gotX y)) (l.drop (i + 1)) from fun e => by rw [HE.out, HX1.out]; show (if accX i s.last y then _ else _) = _; rw [if_pos e])
      have HOK := Lib.hid (show getOkX y = true → okX (gotX y) = true from ok_got)
      clear hy HX1 HE hmx hil
      unfold GetP sv at GT
      have HAC := Lib.hid (show accX i s.last y = (getOkX y && (decide ((gotX y).ix = i) && (decide (s.last ≤ (gotX y).ep) && (decide ((gotX y).ep = s.last) || (gotX y).fr)))) from rfl)
      generalize accX i s.last y = ac at *
      generalize getOkX y = gk at *
      generalize gotX y = x at *
      obtain ⟨py, hpy⟩ : ∃ py, str y = py := ⟨_, rfl⟩
      rw [hpy] at c0 GT
      clear hpy
      obtain ⟨px, hpx⟩ : ∃ px, str x.pl = px := ⟨_, rfl⟩
      rw [hpx] at GT
      have HPX := Lib.hid hpx
      clear hpx
      obtain ⟨so, hso⟩ : ∃ so, so = s.op := ⟨_, rfl⟩
      obtain ⟨po, hpo⟩ : ∃ po, str s.op = po := ⟨_, rfl⟩
      rw [hpo]
      have HPO := Lib.hid hpo
      clear hpo
      go_wp2_with fail
      refine (GT.out _).mono ?_; rintro e w2 ⟨rfl, hb⟩
      have HO2 := Lib.hid (HO.out.kept hb)
      have HB2 := Lib.hid (HB.out.trans (hb.mono HB.out.size))
      clear hb c0 GT HO HB
      go_upto_region 9 with fail
      have HX := Lib.hid (Bx.new w2 #[.int .i64 x.ep, .int .i64 x.ix, .bool x.fr, .string px] 30)
      have hb := (Below.refl w2.heap.size w2).alloc (Nat.le_refl _) (.cells #[.int .i64 x.ep, .int .i64 x.ix, .bool x.fr, .string px] 30)
      have HO3 := Lib.hid (HO2.out.kept hb)
      have HB3 := Lib.hid (HB2.out.trans (hb.mono HB2.out.size))
      have HG := Lib.hid HB2.out.size
      clear hb HO2 HB2
      generalize w2.alloc (.cells #[.int .i64 x.ep, .int .i64 x.ix, .bool x.fr, .string px] 30) = W at *
      generalize w2.heap.size = g at *
      have x0 := HX.out.cell 0
      have x1 := HX.out.cell 1
      have x2 := HX.out.cell 2
      have x3 := HX.out.cell 3
      simp only [List.getElem?_toArray, List.getElem?_cons_zero, List.getElem?_cons_succ] at x0 x1 x2 x3
      cases gk with
      | false =>
        have HF := Lib.hid (HNO.out (by rw [HAC.out]; rfl))
        clear HNO HYE HAC
        as_aux_lemma =>
          go_wp2_with fail
          go_ret3
          exact HD.out _ _ _ HF.out HO3.out HB3.out
      | true =>
        have hok := okX_iff.1 (HOK.out rfl)
        clear HOK
        by_cases hix : x.ix = (i : Int)
        · have k1 : (x.ix == (i : Int)) = true := by rw [beq_iff_eq]; exact hix
          by_cases hle : s.last ≤ x.ep
          · have k2 : ¬ x.ep < s.last := by omega
            by_cases heq : x.ep = s.last
            · have k3 : (x.ep != s.last) = false := by rw [bne_eq_false_iff_eq]; exact heq
              have HF := Lib.hid (HYE.out (by rw [HAC.out, decide_eq_true hix, decide_eq_true hle, decide_eq_true heq]; rfl))
              have k4 : IntKind.i64.wrap ((i : Int) + 1) = (i : Int) + 1 := IntWalk.i64_in _ (by omega)
              clear HNO HYE HAC heq
              cases hfr : x.fr with
              | true =>
                have hpl := hok.2.2.2.2.2
                have hpxs : px.size = x.pl.length := by rw [← HPX.out]; rfl
                have hpos : po.size = s.op.length := by rw [← HPO.out]; rfl
                obtain ⟨op0, hop0⟩ : ∃ op0, op0 = x.pl := ⟨_, rfl⟩
                have HOP0 := Lib.hid (show op0 = (if x.fr then [] else s.op) ++ x.pl from by rw [hfr, hop0]; rfl)
                have HD0 := Lib.hid (show false = (if x.fr then false else s.dead) from by rw [hfr]; rfl)
                have e9 : (⟨#[]⟩ : ByteArray) ++ px = px := by rw [← HPX.out]; exact (str_append [] x.pl).symm
                have HP9 := Lib.hid (show px = str op0 from by rw [hop0, HPX.out])
                have hol : op0.length ≤ s.op.length + 56 := by rw [hop0]; omega
                rw [hfr] at x2
                clear hop0
                clear hok
                go_wp2_with fail

                go_loopw [5, 6, 7, 9, 10] (fun v5 v6 v7 v9 v10 wr2 => ∃ (out : List BA) (op : BA) (d : Bool) (N1 : Nat) (E1 : Int), v6 = .int .i64 (N1 : Int) ∧ v7 = .int .i64 E1 ∧ v9 = .string (str op) ∧ v10 = .bool d ∧ Hid (OwnT w.heap.size wr2 v5 out ∧ Bx wr2 g #[.int .i64 x.ep, .int .i64 x.ix, .bool x.fr, .string px] 30 ∧ Below w.heap.size w wr2 ∧ drX s.out op0 false = drX out op d ∧ out.length + op.length ≤ 56 * (i + 1) ∧ (out = s.out → N1 = s.next ∧ E1 = s.ep) ∧ (out ≠ s.out → N1 = i + 1 ∧ E1 = x.ep) ∧ s.out.length ≤ out.length)) (fun _ _ _ v9 _ _ => szOf v9)
                case atStart => exact ⟨s.out, op0, false, s.next, s.ep, rfl, rfl, by rw [HP9.out], rfl, Lib.hid ⟨HO3.out, HX.out, HB3.out, rfl, by omega, fun _ => ⟨rfl, rfl⟩, fun h => absurd rfl h, Nat.le_refl _⟩⟩
                case round =>
                  obtain ⟨out, op, d, N1, E1, rfl, rfl, rfl, rfl, hq⟩ := hrel
                  have HOr := Lib.hid hq.out.1
                  have HXr := Lib.hid hq.out.2.1
                  have HBr := Lib.hid hq.out.2.2.1
                  have HDR := Lib.hid hq.out.2.2.2.1
                  have hM2 := hq.out.2.2.2.2.1
                  have HN1 := Lib.hid hq.out.2.2.2.2.2.1
                  have HN2 := Lib.hid hq.out.2.2.2.2.2.2.1
                  have hlo := hq.out.2.2.2.2.2.2.2
                  clear hq HO3 HX HB3 x0 x1 x2 x3
                  have hsz : (str op).size = op.length := rfl
                  have hop6 : op.length ≤ 5656 := by omega
                  cases d with
                  | true =>
                    have HFX := Lib.hid (show scan l = scanX (i + 1) ⟨out, N1, E1, x.ep, op, true⟩ (l.drop (i + 1)) from by
                      rw [HF.out, feed_is (HDR.out.trans (drX_stop (by simp))) HOP0.out HD0.out HN1.out HN2.out])
                    clear HDR HN1 HN2 HOP0 HD0 HF
                    as_aux_lemma =>
                      generalize hos : str op = os at *
                      have HOS := Lib.hid hos
                      clear hos
                      go_wp2_with fail
                      go_roundw
                      case rel => exact ⟨i + 1, ⟨out, N1, E1, x.ep, op, true⟩, by omega, by go_num, rfl, rfl, rfl, congrArg Value.string HOS.out.symm, rfl, Lib.hid ⟨HFX.out, HOr.out, HBr.out, hM2⟩⟩
                      case measure => simp [intOf] <;> omega
                  | false =>
                    by_cases h2 : 2 ≤ op.length
                    · have h2' : (2 : Int) ≤ (op.length : Int) := by omega
                      have c2 := cut_two op h2 (by omega)
                      have OF := Lib.hid (rof_is (op.take 2) (by simp; omega))
                      have hnl := num_lt (op.take 2) (by simp; omega)
                      have hn6 : num (op.take 2) < 65536 := Nat.lt_of_lt_of_le hnl (by
                        have : (op.take 2).length ≤ 2 := by simp; omega
                        exact Nat.le_trans (Nat.pow_le_pow_right (by omega) this) (by decide))
                      have hw2 : IntKind.i64.wrap (2 + (num (op.take 2) : Int)) = 2 + (num (op.take 2) : Int) := IntWalk.i64_in _ (by omega)
                      clear hnl
                      by_cases h3 : 2 + num (op.take 2) ≤ op.length
                      · have h3' : 2 + (num (op.take 2) : Int) ≤ (op.length : Int) := by omega
                        have hcan : canX op := ⟨h2, h3⟩
                        by_cases h0 : num (op.take 2) = 0
                        · have h0' : ((num (op.take 2) : Int) == 0) = true := by rw [beq_iff_eq]; omega
                          have HFX := Lib.hid (show scan l = scanX (i + 1) ⟨out, N1, E1, x.ep, op, true⟩ (l.drop (i + 1)) from by
                            rw [HF.out, feed_is (HDR.out.trans (drX_dead hcan h0)) HOP0.out HD0.out HN1.out HN2.out])
                          clear HDR HN1 HN2 HOP0 HD0 HF
                          as_aux_lemma =>
                            generalize str (op.take 2) = t2 at *
                            generalize num (op.take 2) = nn at *
                            generalize hos : str op = os at *
                            have HOS := Lib.hid hos
                            clear hos
                            go_wp2_with fail
                            refine (OF.out _).mono ?_; rintro e w1 ⟨rfl, hw⟩; have hw := hw.symm; subst hw
                            go_wp2_with fail
                            refine (OF.out _).mono ?_; rintro e w1 ⟨rfl, hw⟩; have hw := hw.symm; subst hw
                            go_wp2_with fail
                            go_roundw
                            case rel => exact ⟨i + 1, ⟨out, N1, E1, x.ep, op, true⟩, by omega, by go_num, rfl, rfl, rfl, congrArg Value.string HOS.out.symm, rfl, Lib.hid ⟨HFX.out, HOr.out, HBr.out, hM2⟩⟩
                            case measure => simp [intOf] <;> omega
                        · have h0' : ((num (op.take 2) : Int) == 0) = false := by rw [beq_eq_false_iff_ne]; omega
                          have HDR2 := Lib.hid (HDR.out.trans (drX_step hcan h0))
                          have cr := cut_rec op (num (op.take 2)) h3 (by omega)
                          have ct := cut_rest op (num (op.take 2)) h3 (by omega)
                          have hdl : (op.drop (2 + num (op.take 2))).length = op.length - (2 + num (op.take 2)) := by rw [List.length_drop]
                          obtain ⟨Av, cv, rfl⟩ := HOr.out.shape
                          have hown := HOr.out
                          unfold OwnT at hown
                          obtain ⟨mo, hmo⟩ : ∃ mo, mo = out.length := ⟨_, rfl⟩
                          rw [← hmo] at hown ⊢
                          generalize hR : (op.drop 2).take (num (op.take 2)) = R at *
                          generalize hT : op.drop (2 + num (op.take 2)) = T at *
                          generalize str (op.take 2) = t2 at *
                          generalize num (op.take 2) = nn at *
                          obtain ⟨oS, hoS⟩ : ∃ oS, str op = oS := ⟨_, rfl⟩
                          rw [hoS] at c2 cr ct hsz ⊢
                          have HTs := Lib.hid (show (str T).size = T.length from rfl)
                          obtain ⟨tS, htS⟩ : ∃ tS, str T = tS := ⟨_, rfl⟩
                          rw [htS] at ct HTs
                          have HTS := Lib.hid htS
                          have HOW := Lib.hid hown
                          have x0 := HXr.out.cell 0
                          simp only [List.getElem?_toArray, List.getElem?_cons_zero] at x0
                          have HMO := Lib.hid hmo
                          have hmob : mo ≤ 5656 := by omega
                          clear hoS htS HDR hcan h0 hR hT HN1 HN2 hmo
                          go_wp2_with fail
                          refine (OF.out _).mono ?_; rintro e w1 ⟨rfl, hw⟩; have hw := hw.symm; subst hw
                          go_wp2_with fail
                          refine (OF.out _).mono ?_; rintro e w1 ⟨rfl, hw⟩; have hw := hw.symm; subst hw
                          go_wp2_with (at_builtin; refine wpList_append_own _ rfl (.tmp 83) (.tmp 88) 24 rfl w.heap.size 9 i0 (.string ⟨#[]⟩) 1 16 Tryz.underlying24 hi0 hz0 hz1 hz2 rfl (by decide) _ _ _ rfl (hown.alloc _) ⟨wr.heap.size, 0, none⟩ 1 1 [.string (str R)] rfl rfl (cell_one_new _ _ _) (by simp [Value.oneCell']) (by unfold maxLen; omega) (by omega) (by rw [World.size_alloc]; have := HBr.out.size; omega) ?_; intro v' w3 hown' hgrow _)
                          have HB4 := Lib.hid ((HBr.out.alloc HBr.out.size _).grown hgrow (by rw [World.size_alloc]; have := HBr.out.size; omega) (fun g hg => (HOW.out.lt g hg).1))
                          have HX4 := Lib.hid (show Bx w3 g #[.int .i64 x.ep, .int .i64 x.ix, .bool x.fr, .string px] 30 from (hgrow.block g (by rw [World.size_alloc]; have := HXr.out.lt; omega) (fun e => row_other' HOW.out HXr.out (by decide) g e.symm rfl)).trans (HXr.out.alloc _))
                          have HO4 := Lib.hid (show OwnT w.heap.size w3 v' (out ++ [R]) from by
                            unfold OwnT
                            rw [List.length_append, ← HMO.out, tcs_append]
                            exact hown')
                          clear hown hown' hgrow HOW HXr HBr HOr x0
                          have x0 := HX4.out.cell 0
                          simp only [List.getElem?_toArray, List.getElem?_cons_zero] at x0
                          go_wp2_with fail
                          go_quiet (fail)
                          go_wp2_with fail
                          go_roundw
                          case rel => exact ⟨out ++ [R], T, false, i + 1, x.ep, by go_num, rfl, by rw [HTS.out], rfl, Lib.hid ⟨HO4.out.kept (below_drewN (Below.refl _ _) _), HX4.out.held (below_drewN (Below.refl _ _) _), below_drewN HB4.out _, HDR2.out, by rw [List.length_append, List.length_singleton]; omega, fun e => absurd (congrArg List.length e) (by rw [List.length_append, List.length_singleton]; omega), fun _ => ⟨rfl, rfl⟩, by rw [List.length_append]; omega⟩⟩
                          case measure => (have := HTs.out; simp [szOf]; omega)
                      · have h3' : ¬ 2 + (num (op.take 2) : Int) ≤ (op.length : Int) := by omega
                        have HFX := Lib.hid (show scan l = scanX (i + 1) ⟨out, N1, E1, x.ep, op, false⟩ (l.drop (i + 1)) from by
                          rw [HF.out, feed_is (HDR.out.trans (drX_stop (fun h => h3 h.2.2))) HOP0.out HD0.out HN1.out HN2.out])
                        clear HDR HN1 HN2 HOP0 HD0 HF
                        as_aux_lemma =>
                          generalize str (op.take 2) = t2 at *
                          generalize num (op.take 2) = nn at *
                          generalize hos : str op = os at *
                          have HOS := Lib.hid hos
                          clear hos
                          go_wp2_with fail
                          refine (OF.out _).mono ?_; rintro e w1 ⟨rfl, hw⟩; have hw := hw.symm; subst hw
                          go_wp2_with fail
                          go_roundw
                          case rel => exact ⟨i + 1, ⟨out, N1, E1, x.ep, op, false⟩, by omega, by go_num, rfl, rfl, rfl, congrArg Value.string HOS.out.symm, rfl, Lib.hid ⟨HFX.out, HOr.out, HBr.out, hM2⟩⟩
                          case measure => simp [intOf] <;> omega
                    · have h2' : ¬ (2 : Int) ≤ (op.length : Int) := by omega
                      have HFX := Lib.hid (show scan l = scanX (i + 1) ⟨out, N1, E1, x.ep, op, false⟩ (l.drop (i + 1)) from by
                        rw [HF.out, feed_is (HDR.out.trans (drX_stop (fun h => h2 h.2.1))) HOP0.out HD0.out HN1.out HN2.out])
                      clear HDR HN1 HN2 HOP0 HD0 HF
                      as_aux_lemma =>
                        generalize hos : str op = os at *
                        have HOS := Lib.hid hos
                        clear hos
                        go_wp2_with fail
                        go_roundw
                        case rel => exact ⟨i + 1, ⟨out, N1, E1, x.ep, op, false⟩, by omega, by go_num, rfl, rfl, rfl, congrArg Value.string HOS.out.symm, rfl, Lib.hid ⟨HFX.out, HOr.out, HBr.out, hM2⟩⟩
                        case measure => simp [intOf] <;> omega
              | false =>
                have hpl := hok.2.2.2.2.2
                have hpxs : px.size = x.pl.length := by rw [← HPX.out]; rfl
                have hpos : po.size = s.op.length := by rw [← HPO.out]; rfl
                obtain ⟨op0, hop0⟩ : ∃ op0, op0 = s.op ++ x.pl := ⟨_, rfl⟩
                have HOP0 := Lib.hid (show op0 = (if x.fr then [] else s.op) ++ x.pl from by rw [hfr, hop0]; rfl)
                obtain ⟨dd, hdd⟩ : ∃ dd, dd = s.dead := ⟨_, rfl⟩
                have HD0 := Lib.hid (show dd = (if x.fr then false else s.dead) from by rw [hfr, hdd]; rfl)
                have HP9 := Lib.hid (show po ++ px = str op0 from by rw [hop0, ← HPX.out, ← HPO.out, str_append])
                have hol : op0.length ≤ s.op.length + 56 := by rw [hop0, List.length_append]; omega
                have hcat : ¬ 9223372036854775807 < po.size + px.size := by omega
                rw [hfr] at x2
                rw [← hdd]
                clear hop0 hdd
                clear hok
                go_wp2_with fail

                go_loopw [5, 6, 7, 9, 10] (fun v5 v6 v7 v9 v10 wr2 => ∃ (out : List BA) (op : BA) (d : Bool) (N1 : Nat) (E1 : Int), v6 = .int .i64 (N1 : Int) ∧ v7 = .int .i64 E1 ∧ v9 = .string (str op) ∧ v10 = .bool d ∧ Hid (OwnT w.heap.size wr2 v5 out ∧ Bx wr2 g #[.int .i64 x.ep, .int .i64 x.ix, .bool x.fr, .string px] 30 ∧ Below w.heap.size w wr2 ∧ drX s.out op0 dd = drX out op d ∧ out.length + op.length ≤ 56 * (i + 1) ∧ (out = s.out → N1 = s.next ∧ E1 = s.ep) ∧ (out ≠ s.out → N1 = i + 1 ∧ E1 = x.ep) ∧ s.out.length ≤ out.length)) (fun _ _ _ v9 _ _ => szOf v9)
                case atStart => exact ⟨s.out, op0, dd, s.next, s.ep, rfl, rfl, by rw [HP9.out], rfl, Lib.hid ⟨HO3.out, HX.out, HB3.out, rfl, by omega, fun _ => ⟨rfl, rfl⟩, fun h => absurd rfl h, Nat.le_refl _⟩⟩
                case round =>
                  obtain ⟨out, op, d, N1, E1, rfl, rfl, rfl, rfl, hq⟩ := hrel
                  have HOr := Lib.hid hq.out.1
                  have HXr := Lib.hid hq.out.2.1
                  have HBr := Lib.hid hq.out.2.2.1
                  have HDR := Lib.hid hq.out.2.2.2.1
                  have hM2 := hq.out.2.2.2.2.1
                  have HN1 := Lib.hid hq.out.2.2.2.2.2.1
                  have HN2 := Lib.hid hq.out.2.2.2.2.2.2.1
                  have hlo := hq.out.2.2.2.2.2.2.2
                  clear hq HO3 HX HB3 x0 x1 x2 x3
                  have hsz : (str op).size = op.length := rfl
                  have hop6 : op.length ≤ 5656 := by omega
                  cases d with
                  | true =>
                    have HFX := Lib.hid (show scan l = scanX (i + 1) ⟨out, N1, E1, x.ep, op, true⟩ (l.drop (i + 1)) from by
                      rw [HF.out, feed_is (HDR.out.trans (drX_stop (by simp))) HOP0.out HD0.out HN1.out HN2.out])
                    clear HDR HN1 HN2 HOP0 HD0 HF
                    as_aux_lemma =>
                      generalize hos : str op = os at *
                      have HOS := Lib.hid hos
                      clear hos
                      go_wp2_with fail
                      go_roundw
                      case rel => exact ⟨i + 1, ⟨out, N1, E1, x.ep, op, true⟩, by omega, by go_num, rfl, rfl, rfl, congrArg Value.string HOS.out.symm, rfl, Lib.hid ⟨HFX.out, HOr.out, HBr.out, hM2⟩⟩
                      case measure => simp [intOf] <;> omega
                  | false =>
                    by_cases h2 : 2 ≤ op.length
                    · have h2' : (2 : Int) ≤ (op.length : Int) := by omega
                      have c2 := cut_two op h2 (by omega)
                      have OF := Lib.hid (rof_is (op.take 2) (by simp; omega))
                      have hnl := num_lt (op.take 2) (by simp; omega)
                      have hn6 : num (op.take 2) < 65536 := Nat.lt_of_lt_of_le hnl (by
                        have : (op.take 2).length ≤ 2 := by simp; omega
                        exact Nat.le_trans (Nat.pow_le_pow_right (by omega) this) (by decide))
                      have hw2 : IntKind.i64.wrap (2 + (num (op.take 2) : Int)) = 2 + (num (op.take 2) : Int) := IntWalk.i64_in _ (by omega)
                      clear hnl
                      by_cases h3 : 2 + num (op.take 2) ≤ op.length
                      · have h3' : 2 + (num (op.take 2) : Int) ≤ (op.length : Int) := by omega
                        have hcan : canX op := ⟨h2, h3⟩
                        by_cases h0 : num (op.take 2) = 0
                        · have h0' : ((num (op.take 2) : Int) == 0) = true := by rw [beq_iff_eq]; omega
                          have HFX := Lib.hid (show scan l = scanX (i + 1) ⟨out, N1, E1, x.ep, op, true⟩ (l.drop (i + 1)) from by
                            rw [HF.out, feed_is (HDR.out.trans (drX_dead hcan h0)) HOP0.out HD0.out HN1.out HN2.out])
                          clear HDR HN1 HN2 HOP0 HD0 HF
                          as_aux_lemma =>
                            generalize str (op.take 2) = t2 at *
                            generalize num (op.take 2) = nn at *
                            generalize hos : str op = os at *
                            have HOS := Lib.hid hos
                            clear hos
                            go_wp2_with fail
                            refine (OF.out _).mono ?_; rintro e w1 ⟨rfl, hw⟩; have hw := hw.symm; subst hw
                            go_wp2_with fail
                            refine (OF.out _).mono ?_; rintro e w1 ⟨rfl, hw⟩; have hw := hw.symm; subst hw
                            go_wp2_with fail
                            go_roundw
                            case rel => exact ⟨i + 1, ⟨out, N1, E1, x.ep, op, true⟩, by omega, by go_num, rfl, rfl, rfl, congrArg Value.string HOS.out.symm, rfl, Lib.hid ⟨HFX.out, HOr.out, HBr.out, hM2⟩⟩
                            case measure => simp [intOf] <;> omega
                        · have h0' : ((num (op.take 2) : Int) == 0) = false := by rw [beq_eq_false_iff_ne]; omega
                          have HDR2 := Lib.hid (HDR.out.trans (drX_step hcan h0))
                          have cr := cut_rec op (num (op.take 2)) h3 (by omega)
                          have ct := cut_rest op (num (op.take 2)) h3 (by omega)
                          have hdl : (op.drop (2 + num (op.take 2))).length = op.length - (2 + num (op.take 2)) := by rw [List.length_drop]
                          obtain ⟨Av, cv, rfl⟩ := HOr.out.shape
                          have hown := HOr.out
                          unfold OwnT at hown
                          obtain ⟨mo, hmo⟩ : ∃ mo, mo = out.length := ⟨_, rfl⟩
                          rw [← hmo] at hown ⊢
                          generalize hR : (op.drop 2).take (num (op.take 2)) = R at *
                          generalize hT : op.drop (2 + num (op.take 2)) = T at *
                          generalize str (op.take 2) = t2 at *
                          generalize num (op.take 2) = nn at *
                          obtain ⟨oS, hoS⟩ : ∃ oS, str op = oS := ⟨_, rfl⟩
                          rw [hoS] at c2 cr ct hsz ⊢
                          have HTs := Lib.hid (show (str T).size = T.length from rfl)
                          obtain ⟨tS, htS⟩ : ∃ tS, str T = tS := ⟨_, rfl⟩
                          rw [htS] at ct HTs
                          have HTS := Lib.hid htS
                          have HOW := Lib.hid hown
                          have x0 := HXr.out.cell 0
                          simp only [List.getElem?_toArray, List.getElem?_cons_zero] at x0
                          have HMO := Lib.hid hmo
                          have hmob : mo ≤ 5656 := by omega
                          clear hoS htS HDR hcan h0 hR hT HN1 HN2 hmo
                          go_wp2_with fail
                          refine (OF.out _).mono ?_; rintro e w1 ⟨rfl, hw⟩; have hw := hw.symm; subst hw
                          go_wp2_with fail
                          refine (OF.out _).mono ?_; rintro e w1 ⟨rfl, hw⟩; have hw := hw.symm; subst hw
                          go_wp2_with (at_builtin; refine wpList_append_own _ rfl (.tmp 83) (.tmp 88) 24 rfl w.heap.size 9 i0 (.string ⟨#[]⟩) 1 16 Tryz.underlying24 hi0 hz0 hz1 hz2 rfl (by decide) _ _ _ rfl (hown.alloc _) ⟨wr.heap.size, 0, none⟩ 1 1 [.string (str R)] rfl rfl (cell_one_new _ _ _) (by simp [Value.oneCell']) (by unfold maxLen; omega) (by omega) (by rw [World.size_alloc]; have := HBr.out.size; omega) ?_; intro v' w3 hown' hgrow _)
                          have HB4 := Lib.hid ((HBr.out.alloc HBr.out.size _).grown hgrow (by rw [World.size_alloc]; have := HBr.out.size; omega) (fun g hg => (HOW.out.lt g hg).1))
                          have HX4 := Lib.hid (show Bx w3 g #[.int .i64 x.ep, .int .i64 x.ix, .bool x.fr, .string px] 30 from (hgrow.block g (by rw [World.size_alloc]; have := HXr.out.lt; omega) (fun e => row_other' HOW.out HXr.out (by decide) g e.symm rfl)).trans (HXr.out.alloc _))
                          have HO4 := Lib.hid (show OwnT w.heap.size w3 v' (out ++ [R]) from by
                            unfold OwnT
                            rw [List.length_append, ← HMO.out, tcs_append]
                            exact hown')
                          clear hown hown' hgrow HOW HXr HBr HOr x0
                          have x0 := HX4.out.cell 0
                          simp only [List.getElem?_toArray, List.getElem?_cons_zero] at x0
                          go_wp2_with fail
                          go_quiet (fail)
                          go_wp2_with fail
                          go_roundw
                          case rel => exact ⟨out ++ [R], T, false, i + 1, x.ep, by go_num, rfl, by rw [HTS.out], rfl, Lib.hid ⟨HO4.out.kept (below_drewN (Below.refl _ _) _), HX4.out.held (below_drewN (Below.refl _ _) _), below_drewN HB4.out _, HDR2.out, by rw [List.length_append, List.length_singleton]; omega, fun e => absurd (congrArg List.length e) (by rw [List.length_append, List.length_singleton]; omega), fun _ => ⟨rfl, rfl⟩, by rw [List.length_append]; omega⟩⟩
                          case measure => (have := HTs.out; simp [szOf]; omega)
                      · have h3' : ¬ 2 + (num (op.take 2) : Int) ≤ (op.length : Int) := by omega
                        have HFX := Lib.hid (show scan l = scanX (i + 1) ⟨out, N1, E1, x.ep, op, false⟩ (l.drop (i + 1)) from by
                          rw [HF.out, feed_is (HDR.out.trans (drX_stop (fun h => h3 h.2.2))) HOP0.out HD0.out HN1.out HN2.out])
                        clear HDR HN1 HN2 HOP0 HD0 HF
                        as_aux_lemma =>
                          generalize str (op.take 2) = t2 at *
                          generalize num (op.take 2) = nn at *
                          generalize hos : str op = os at *
                          have HOS := Lib.hid hos
                          clear hos
                          go_wp2_with fail
                          refine (OF.out _).mono ?_; rintro e w1 ⟨rfl, hw⟩; have hw := hw.symm; subst hw
                          go_wp2_with fail
                          go_roundw
                          case rel => exact ⟨i + 1, ⟨out, N1, E1, x.ep, op, false⟩, by omega, by go_num, rfl, rfl, rfl, congrArg Value.string HOS.out.symm, rfl, Lib.hid ⟨HFX.out, HOr.out, HBr.out, hM2⟩⟩
                          case measure => simp [intOf] <;> omega
                    · have h2' : ¬ (2 : Int) ≤ (op.length : Int) := by omega
                      have HFX := Lib.hid (show scan l = scanX (i + 1) ⟨out, N1, E1, x.ep, op, false⟩ (l.drop (i + 1)) from by
                        rw [HF.out, feed_is (HDR.out.trans (drX_stop (fun h => h2 h.2.1))) HOP0.out HD0.out HN1.out HN2.out])
                      clear HDR HN1 HN2 HOP0 HD0 HF
                      as_aux_lemma =>
                        generalize hos : str op = os at *
                        have HOS := Lib.hid hos
                        clear hos
                        go_wp2_with fail
                        go_roundw
                        case rel => exact ⟨i + 1, ⟨out, N1, E1, x.ep, op, false⟩, by omega, by go_num, rfl, rfl, rfl, congrArg Value.string HOS.out.symm, rfl, Lib.hid ⟨HFX.out, HOr.out, HBr.out, hM2⟩⟩
                        case measure => simp [intOf] <;> omega
            · have k3 : (x.ep != s.last) = true := by rw [bne_iff_ne]; exact heq
              cases hfr : x.fr with
              | true =>
                have HF := Lib.hid (HYE.out (by rw [HAC.out, decide_eq_true hix, decide_eq_true hle, hfr]; simp))
                clear HNO HYE HAC heq
                have hpl := hok.2.2.2.2.2
                have hpxs : px.size = x.pl.length := by rw [← HPX.out]; rfl
                have hpos : po.size = s.op.length := by rw [← HPO.out]; rfl
                obtain ⟨op0, hop0⟩ : ∃ op0, op0 = x.pl := ⟨_, rfl⟩
                have HOP0 := Lib.hid (show op0 = (if x.fr then [] else s.op) ++ x.pl from by rw [hfr, hop0]; rfl)
                have HD0 := Lib.hid (show false = (if x.fr then false else s.dead) from by rw [hfr]; rfl)
                have e9 : (⟨#[]⟩ : ByteArray) ++ px = px := by rw [← HPX.out]; exact (str_append [] x.pl).symm
                have HP9 := Lib.hid (show px = str op0 from by rw [hop0, HPX.out])
                have hol : op0.length ≤ s.op.length + 56 := by rw [hop0]; omega
                rw [hfr] at x2
                clear hop0
                clear hok
                go_wp2_with fail

                go_loopw [5, 6, 7, 9, 10] (fun v5 v6 v7 v9 v10 wr2 => ∃ (out : List BA) (op : BA) (d : Bool) (N1 : Nat) (E1 : Int), v6 = .int .i64 (N1 : Int) ∧ v7 = .int .i64 E1 ∧ v9 = .string (str op) ∧ v10 = .bool d ∧ Hid (OwnT w.heap.size wr2 v5 out ∧ Bx wr2 g #[.int .i64 x.ep, .int .i64 x.ix, .bool x.fr, .string px] 30 ∧ Below w.heap.size w wr2 ∧ drX s.out op0 false = drX out op d ∧ out.length + op.length ≤ 56 * (i + 1) ∧ (out = s.out → N1 = s.next ∧ E1 = s.ep) ∧ (out ≠ s.out → N1 = i + 1 ∧ E1 = x.ep) ∧ s.out.length ≤ out.length)) (fun _ _ _ v9 _ _ => szOf v9)
                case atStart => exact ⟨s.out, op0, false, s.next, s.ep, rfl, rfl, by rw [HP9.out], rfl, Lib.hid ⟨HO3.out, HX.out, HB3.out, rfl, by omega, fun _ => ⟨rfl, rfl⟩, fun h => absurd rfl h, Nat.le_refl _⟩⟩
                case round =>
                  obtain ⟨out, op, d, N1, E1, rfl, rfl, rfl, rfl, hq⟩ := hrel
                  have HOr := Lib.hid hq.out.1
                  have HXr := Lib.hid hq.out.2.1
                  have HBr := Lib.hid hq.out.2.2.1
                  have HDR := Lib.hid hq.out.2.2.2.1
                  have hM2 := hq.out.2.2.2.2.1
                  have HN1 := Lib.hid hq.out.2.2.2.2.2.1
                  have HN2 := Lib.hid hq.out.2.2.2.2.2.2.1
                  have hlo := hq.out.2.2.2.2.2.2.2
                  clear hq HO3 HX HB3 x0 x1 x2 x3
                  have hsz : (str op).size = op.length := rfl
                  have hop6 : op.length ≤ 5656 := by omega
                  cases d with
                  | true =>
                    have HFX := Lib.hid (show scan l = scanX (i + 1) ⟨out, N1, E1, x.ep, op, true⟩ (l.drop (i + 1)) from by
                      rw [HF.out, feed_is (HDR.out.trans (drX_stop (by simp))) HOP0.out HD0.out HN1.out HN2.out])
                    clear HDR HN1 HN2 HOP0 HD0 HF
                    as_aux_lemma =>
                      generalize hos : str op = os at *
                      have HOS := Lib.hid hos
                      clear hos
                      go_wp2_with fail
                      go_roundw
                      case rel => exact ⟨i + 1, ⟨out, N1, E1, x.ep, op, true⟩, by omega, by go_num, rfl, rfl, rfl, congrArg Value.string HOS.out.symm, rfl, Lib.hid ⟨HFX.out, HOr.out, HBr.out, hM2⟩⟩
                      case measure => simp [intOf] <;> omega
                  | false =>
                    by_cases h2 : 2 ≤ op.length
                    · have h2' : (2 : Int) ≤ (op.length : Int) := by omega
                      have c2 := cut_two op h2 (by omega)
                      have OF := Lib.hid (rof_is (op.take 2) (by simp; omega))
                      have hnl := num_lt (op.take 2) (by simp; omega)
                      have hn6 : num (op.take 2) < 65536 := Nat.lt_of_lt_of_le hnl (by
                        have : (op.take 2).length ≤ 2 := by simp; omega
                        exact Nat.le_trans (Nat.pow_le_pow_right (by omega) this) (by decide))
                      have hw2 : IntKind.i64.wrap (2 + (num (op.take 2) : Int)) = 2 + (num (op.take 2) : Int) := IntWalk.i64_in _ (by omega)
                      clear hnl
                      by_cases h3 : 2 + num (op.take 2) ≤ op.length
                      · have h3' : 2 + (num (op.take 2) : Int) ≤ (op.length : Int) := by omega
                        have hcan : canX op := ⟨h2, h3⟩
                        by_cases h0 : num (op.take 2) = 0
                        · have h0' : ((num (op.take 2) : Int) == 0) = true := by rw [beq_iff_eq]; omega
                          have HFX := Lib.hid (show scan l = scanX (i + 1) ⟨out, N1, E1, x.ep, op, true⟩ (l.drop (i + 1)) from by
                            rw [HF.out, feed_is (HDR.out.trans (drX_dead hcan h0)) HOP0.out HD0.out HN1.out HN2.out])
                          clear HDR HN1 HN2 HOP0 HD0 HF
                          as_aux_lemma =>
                            generalize str (op.take 2) = t2 at *
                            generalize num (op.take 2) = nn at *
                            generalize hos : str op = os at *
                            have HOS := Lib.hid hos
                            clear hos
                            go_wp2_with fail
                            refine (OF.out _).mono ?_; rintro e w1 ⟨rfl, hw⟩; have hw := hw.symm; subst hw
                            go_wp2_with fail
                            refine (OF.out _).mono ?_; rintro e w1 ⟨rfl, hw⟩; have hw := hw.symm; subst hw
                            go_wp2_with fail
                            go_roundw
                            case rel => exact ⟨i + 1, ⟨out, N1, E1, x.ep, op, true⟩, by omega, by go_num, rfl, rfl, rfl, congrArg Value.string HOS.out.symm, rfl, Lib.hid ⟨HFX.out, HOr.out, HBr.out, hM2⟩⟩
                            case measure => simp [intOf] <;> omega
                        · have h0' : ((num (op.take 2) : Int) == 0) = false := by rw [beq_eq_false_iff_ne]; omega
                          have HDR2 := Lib.hid (HDR.out.trans (drX_step hcan h0))
                          have cr := cut_rec op (num (op.take 2)) h3 (by omega)
                          have ct := cut_rest op (num (op.take 2)) h3 (by omega)
                          have hdl : (op.drop (2 + num (op.take 2))).length = op.length - (2 + num (op.take 2)) := by rw [List.length_drop]
                          obtain ⟨Av, cv, rfl⟩ := HOr.out.shape
                          have hown := HOr.out
                          unfold OwnT at hown
                          obtain ⟨mo, hmo⟩ : ∃ mo, mo = out.length := ⟨_, rfl⟩
                          rw [← hmo] at hown ⊢
                          generalize hR : (op.drop 2).take (num (op.take 2)) = R at *
                          generalize hT : op.drop (2 + num (op.take 2)) = T at *
                          generalize str (op.take 2) = t2 at *
                          generalize num (op.take 2) = nn at *
                          obtain ⟨oS, hoS⟩ : ∃ oS, str op = oS := ⟨_, rfl⟩
                          rw [hoS] at c2 cr ct hsz ⊢
                          have HTs := Lib.hid (show (str T).size = T.length from rfl)
                          obtain ⟨tS, htS⟩ : ∃ tS, str T = tS := ⟨_, rfl⟩
                          rw [htS] at ct HTs
                          have HTS := Lib.hid htS
                          have HOW := Lib.hid hown
                          have x0 := HXr.out.cell 0
                          simp only [List.getElem?_toArray, List.getElem?_cons_zero] at x0
                          have HMO := Lib.hid hmo
                          have hmob : mo ≤ 5656 := by omega
                          clear hoS htS HDR hcan h0 hR hT HN1 HN2 hmo
                          go_wp2_with fail
                          refine (OF.out _).mono ?_; rintro e w1 ⟨rfl, hw⟩; have hw := hw.symm; subst hw
                          go_wp2_with fail
                          refine (OF.out _).mono ?_; rintro e w1 ⟨rfl, hw⟩; have hw := hw.symm; subst hw
                          go_wp2_with (at_builtin; refine wpList_append_own _ rfl (.tmp 83) (.tmp 88) 24 rfl w.heap.size 9 i0 (.string ⟨#[]⟩) 1 16 Tryz.underlying24 hi0 hz0 hz1 hz2 rfl (by decide) _ _ _ rfl (hown.alloc _) ⟨wr.heap.size, 0, none⟩ 1 1 [.string (str R)] rfl rfl (cell_one_new _ _ _) (by simp [Value.oneCell']) (by unfold maxLen; omega) (by omega) (by rw [World.size_alloc]; have := HBr.out.size; omega) ?_; intro v' w3 hown' hgrow _)
                          have HB4 := Lib.hid ((HBr.out.alloc HBr.out.size _).grown hgrow (by rw [World.size_alloc]; have := HBr.out.size; omega) (fun g hg => (HOW.out.lt g hg).1))
                          have HX4 := Lib.hid (show Bx w3 g #[.int .i64 x.ep, .int .i64 x.ix, .bool x.fr, .string px] 30 from (hgrow.block g (by rw [World.size_alloc]; have := HXr.out.lt; omega) (fun e => row_other' HOW.out HXr.out (by decide) g e.symm rfl)).trans (HXr.out.alloc _))
                          have HO4 := Lib.hid (show OwnT w.heap.size w3 v' (out ++ [R]) from by
                            unfold OwnT
                            rw [List.length_append, ← HMO.out, tcs_append]
                            exact hown')
                          clear hown hown' hgrow HOW HXr HBr HOr x0
                          have x0 := HX4.out.cell 0
                          simp only [List.getElem?_toArray, List.getElem?_cons_zero] at x0
                          go_wp2_with fail
                          go_quiet (fail)
                          go_wp2_with fail
                          go_roundw
                          case rel => exact ⟨out ++ [R], T, false, i + 1, x.ep, by go_num, rfl, by rw [HTS.out], rfl, Lib.hid ⟨HO4.out.kept (below_drewN (Below.refl _ _) _), HX4.out.held (below_drewN (Below.refl _ _) _), below_drewN HB4.out _, HDR2.out, by rw [List.length_append, List.length_singleton]; omega, fun e => absurd (congrArg List.length e) (by rw [List.length_append, List.length_singleton]; omega), fun _ => ⟨rfl, rfl⟩, by rw [List.length_append]; omega⟩⟩
                          case measure => (have := HTs.out; simp [szOf]; omega)
                      · have h3' : ¬ 2 + (num (op.take 2) : Int) ≤ (op.length : Int) := by omega
                        have HFX := Lib.hid (show scan l = scanX (i + 1) ⟨out, N1, E1, x.ep, op, false⟩ (l.drop (i + 1)) from by
                          rw [HF.out, feed_is (HDR.out.trans (drX_stop (fun h => h3 h.2.2))) HOP0.out HD0.out HN1.out HN2.out])
                        clear HDR HN1 HN2 HOP0 HD0 HF
                        as_aux_lemma =>
                          generalize str (op.take 2) = t2 at *
                          generalize num (op.take 2) = nn at *
                          generalize hos : str op = os at *
                          have HOS := Lib.hid hos
                          clear hos
                          go_wp2_with fail
                          refine (OF.out _).mono ?_; rintro e w1 ⟨rfl, hw⟩; have hw := hw.symm; subst hw
                          go_wp2_with fail
                          go_roundw
                          case rel => exact ⟨i + 1, ⟨out, N1, E1, x.ep, op, false⟩, by omega, by go_num, rfl, rfl, rfl, congrArg Value.string HOS.out.symm, rfl, Lib.hid ⟨HFX.out, HOr.out, HBr.out, hM2⟩⟩
                          case measure => simp [intOf] <;> omega
                    · have h2' : ¬ (2 : Int) ≤ (op.length : Int) := by omega
                      have HFX := Lib.hid (show scan l = scanX (i + 1) ⟨out, N1, E1, x.ep, op, false⟩ (l.drop (i + 1)) from by
                        rw [HF.out, feed_is (HDR.out.trans (drX_stop (fun h => h2 h.2.1))) HOP0.out HD0.out HN1.out HN2.out])
                      clear HDR HN1 HN2 HOP0 HD0 HF
                      as_aux_lemma =>
                        generalize hos : str op = os at *
                        have HOS := Lib.hid hos
                        clear hos
                        go_wp2_with fail
                        go_roundw
                        case rel => exact ⟨i + 1, ⟨out, N1, E1, x.ep, op, false⟩, by omega, by go_num, rfl, rfl, rfl, congrArg Value.string HOS.out.symm, rfl, Lib.hid ⟨HFX.out, HOr.out, HBr.out, hM2⟩⟩
                        case measure => simp [intOf] <;> omega
              | false =>
                rw [hfr] at x2
                have HF := Lib.hid (HNO.out (by rw [HAC.out]; rw [decide_eq_false heq, hfr]; simp))
                clear HNO HYE HAC
                as_aux_lemma =>
                  go_wp2_with fail
                  go_ret3
                  exact HD.out _ _ _ HF.out HO3.out HB3.out
          · have k2 : x.ep < s.last := by omega
            have HF := Lib.hid (HNO.out (by rw [HAC.out]; rw [decide_eq_false hle]; simp))
            clear HNO HYE HAC
            as_aux_lemma =>
              go_wp2_with fail
              go_ret3
              exact HD.out _ _ _ HF.out HO3.out HB3.out
        · have k1 : (x.ix == (i : Int)) = false := by rw [beq_eq_false_iff_ne]; exact hix
          have HF := Lib.hid (HNO.out (by rw [HAC.out]; rw [decide_eq_false hix]; simp))
          clear HNO HYE HAC
          as_aux_lemma =>
            go_wp2_with fail
            go_ret3
            exact HD.out _ _ _ HF.out HO3.out HB3.out
    · obtain rfl : i = n := by omega
      have b1 : ¬ (i : Int) < (i : Int) := by omega
      have HF := Lib.hid (show scan l = s from by rw [HE.out, List.drop_of_length_le (by rw [HN.out]; exact Nat.le_refl _)]; rfl)
      clear HE
      go_wp2_with fail
      go_ret3
      exact HD.out _ _ _ HF.out HO.out HB.out
end Go.Proofs.YtbdpmfgphhgigaaGreat
