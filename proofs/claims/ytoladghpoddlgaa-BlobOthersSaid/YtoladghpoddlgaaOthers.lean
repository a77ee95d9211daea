/- Of a value of two pages: its pages in the other order, one of them alone, are no such value; read at another size they are none, or another value of that size. -/
import Derived.Test.YtoladghpoddlgaaRows
import Derived.Test.YtoladghpoddlgaaAsk
import Derived.LoopTactic
import Derived.StillTailTactics
import Derived.BigQuiet
import Derived.Deep.DeepCutAuto
import Derived.Deep.RegionLaw
import Derived.Deep.CutBlock
import Derived.Lib.Hide
import Derived.WalkKit
import Derived.ProofKit
import Derived.OpenShut
import Derived.ChangeOld
import Derived.Below
import Derived.Carry
namespace Go.Proofs.Ytoladghpoddlgaa.blobOthers
open Go.ChangeShapes Go.WideShapes Go.ChangeAt Go.RowKit
set_option linter.unusedVariables false

theorem own : ownKnob Try.prog.godebug = none := by kernel_rfl
theorem laidOut : laidOutB Try.prog = true := by kernel_rfl


set_option maxRecDepth 100000 in
set_option maxHeartbeats 100000000 in
theorem walk (a0 : ByteArray) (a1 : Int) (w : World) (w0 : a0.size ≤ maxLen) (w1 : (Lit.int .i64 a1).wf = true) :
    Calls Try.prog 7 #[.string a0, .int .i64 a1] w fun e w' => e = .returned (.bool true) ∧ Below w.heap.size w w' := by
  have AL := Lib.hid alive_yes
  by_cases c0 : (a0.size : Int) ≤ 200
  · as_aux_lemma =>
      have g0 : decide ((a0.size : Int) ≤ 200) = true := decide_eq_true c0
      have HB0 := Lib.hid (Below.refl w.heap.size w)
      go_enter Try.func7, Try.ntmps7
      go_wp2_with fail
      refine (AL.out _).mono ?_; rintro e w1 ⟨rfl, hb⟩
      have HB1 := Lib.hid (HB0.out.trans (hb.mono (Below.size HB0.out)))
      clear hb HB0 
      go_wp2_with fail
      go_ret
      exact ⟨rfl, HB1.out⟩
  · by_cases c1 : (a0.size : Int) > 400
    · as_aux_lemma =>
        have g0 : decide ((a0.size : Int) ≤ 200) = false := decide_eq_false c0
        have g1 : decide ((a0.size : Int) > 400) = true := decide_eq_true c1
        have g2 : decide ((400 : Int) < a0.size) = true := decide_eq_true c1
        have HB0 := Lib.hid (Below.refl w.heap.size w)
        go_enter Try.func7, Try.ntmps7
        go_wp2_with fail
        refine (AL.out _).mono ?_; rintro e w1 ⟨rfl, hb⟩
        have HB1 := Lib.hid (HB0.out.trans (hb.mono (Below.size HB0.out)))
        clear hb HB0 
        go_wp2_with fail
        go_ret
        exact ⟨rfl, HB1.out⟩
    · obtain ⟨v, hv⟩ : ∃ v, a0 = str v := ⟨a0.data.toList, (str_data a0).symm⟩
      have HV := Lib.hid hv
      have l1 : 200 < v.length := by
        have h : ¬ (a0.size : Int) ≤ 200 := c0
        rw [hv, str_size] at h; omega
      have l2 : v.length ≤ 400 := by
        have h : ¬ (a0.size : Int) > 400 := c1
        rw [hv, str_size] at h; omega
      have hsz : a0.size = v.length := by rw [hv, str_size]
      have hok : putOk v [30, 31] = true := putOk_two l1 l2 (by omega) (by omega) (by omega)
      have PU := Lib.hid (fun w => put_two v 30 31 hok w)
      rw [← hv] at PU
      obtain ⟨gp1, gp2⟩ := get_put hok
      rw [putS_two hok] at gp1 gp2
      have t1 : (v.take 200).length ≤ 240 := by rw [List.length_take]; omega
      have t2 : (v.drop 200).length ≤ 240 := by rw [List.length_drop]; omega
      have HSZ := Lib.hid (two_sizes (x := 31) (y := 0) t1 t2)
      have hrg := int_range w1
      have hn : -9223372036854775808 ≤ ((v.length : Nat) : Int) ∧ ((v.length : Nat) : Int) ≤ 9223372036854775807 := by omega
      have GT := Lib.hid (fun w => get_newd v.length hn [pgOf 0 (v.drop 200), pgOf 31 (v.take 200)] 2 rfl (by omega) _ rfl (two_sizes (x := 0) (y := 31) t2 t1) w)
      have G1 := Lib.hid (fun w => get_new v.length hn [pgOf 31 (v.take 200)] 1 rfl (by omega) _ rfl (one_size (x := 31) t1) w)
      unfold GetP at GT G1
      have e1 : getOk v.length [pgOf 0 (v.drop 200), pgOf 31 (v.take 200)] = false := by rw [getOk_two (by omega) (by omega), pgOf_x]; rfl
      have e2 : getOk v.length [pgOf 31 (v.take 200)] = false := getOk_count (by rw [pagesN_two (by omega) (by omega)]; simp)
      rw [e1, getS_no e1, ← hsz] at GT
      rw [e2, getS_no e2, ← hsz] at G1
      rw [show str [] = ByteArray.mk #[] from rfl] at GT G1
      have HG := Lib.hid (fun g c (W W' : World) (ho : Own w.heap.size W (.slice (some ⟨g, 0, none⟩) 2 c) [pgOf 31 (v.take 200), pgOf 0 (v.drop 200)]) (hb : Below W.heap.size W W') => get_any (m := 2) (c := c) a1 W' ((own_pgs ho rfl (by omega) HSZ.out).kept hb) hb.size rfl (by omega) hrg)
      unfold GetP at HG
      have HEQ := Lib.hid (show a1 = ((a0.size : Nat) : Int) → getOk a1 [pgOf 31 (v.take 200), pgOf 0 (v.drop 200)] = true ∧ str (getS a1 [pgOf 31 (v.take 200), pgOf 0 (v.drop 200)]) = a0 from fun e => by
        rw [hsz] at e
        rw [e, gp2, ← hv]
        exact ⟨gp1, rfl⟩)
      have HNE := Lib.hid (show getOk a1 [pgOf 31 (v.take 200), pgOf 0 (v.drop 200)] = true → (((str (getS a1 [pgOf 31 (v.take 200), pgOf 0 (v.drop 200)])).size : Nat) : Int) = a1 from fun e => by
        rw [str_size, getS_length e]
        have := getOk_pos e
        omega)
      unfold pgOf at GT G1 PU
      unfold pcs pcell at GT G1
      simp only [List.flatMap_cons, List.flatMap_nil, List.cons_append, List.nil_append, List.append_nil] at GT G1
      obtain ⟨pb, hpb⟩ : ∃ pb, pb = str (v.take 200 ++ zs (240 - (v.take 200).length)) := ⟨_, rfl⟩
      obtain ⟨qb, hqb⟩ : ∃ qb, qb = str (v.drop 200 ++ zs (240 - (v.drop 200).length)) := ⟨_, rfl⟩
      rw [← hpb] at GT G1 PU
      rw [← hqb] at GT PU
      have hp : pgOf 31 (v.take 200) = ⟨5, 0, 31, pb⟩ := by unfold pgOf; rw [hpb]
      have hq : pgOf 0 (v.drop 200) = ⟨5, 0, 0, qb⟩ := by unfold pgOf; rw [hqb]
      rw [hp, hq] at HG HEQ HNE
      generalize getOk a1 [⟨5, 0, 31, pb⟩, ⟨5, 0, 0, qb⟩] = gk at *
      generalize str (getS a1 [⟨5, 0, 31, pb⟩, ⟨5, 0, 0, qb⟩]) = gs at *
      clear hv l1 l2 hok gp1 gp2 t1 t2 hrg hn e1 e2 hpb hqb hp hq hsz HSZ
      have g0 : decide ((a0.size : Int) ≤ 200) = false := decide_eq_false c0
      have g1 : decide ((a0.size : Int) > 400) = false := decide_eq_false c1
      clear c0 c1
      have HB0 := Lib.hid (Below.refl w.heap.size w)
      go_enter Try.func7, Try.ntmps7
      go_wp2_with fail
      refine (AL.out _).mono ?_; rintro e w1 ⟨rfl, hb⟩
      have HB1 := Lib.hid (HB0.out.trans (hb.mono (Below.size HB0.out)))
      clear hb HB0 
      go_wp2_with fail
      refine (PU.out _).mono ?_; rintro e w2 ⟨g, c, rfl, hg1, hg2, ⟨p0, p1, p2, p3⟩, ⟨q0, q1, q2, q3⟩, ho, hb⟩
      dsimp only at p0 p1 p2 p3 q0 q1 q2 q3
      have HB2 := Lib.hid (HB1.out.trans (hb.mono (Below.size HB1.out)))
      have HG2 := Lib.hid (fun W' (hb' : Below w2.heap.size w2 W') => HG.out g c w2 W' (own_base ho (Below.size HB1.out)) hb')
      have HGL := Lib.hid hg2
      clear hb HB1 ho hg1 hg2
      go_upto_region 6 with fail
      go_cut [8] (fun y wx => y = .bool false ∧ Hid (Below w2.heap.size w2 wx))
      case first =>
        go_region_law (first
          | (go_simp; go_at_call 13; refine (GT.out _).mono ?_; rintro e w3 ⟨rfl, hb⟩; have HBX := Lib.hid hb; clear hb))
        all_goals (go_wp2_with fail)
        all_goals (go_meet)
        all_goals exact ⟨by trivial, HBX.out⟩
      case rest =>
        obtain ⟨rfl, hcu⟩ := hcut
        have HC := Lib.hid hcu.out
        have HB3 := Lib.hid (HB2.out.trans (hcu.out.mono (Below.size HB2.out)))
        have r0 := hcu.out.cell (p := ⟨g, 0, none⟩) HGL.out
        have r1 := hcu.out.cell (p := ⟨g, 1, none⟩) HGL.out
        have r2 := hcu.out.cell (p := ⟨g, 2, none⟩) HGL.out
        have r3 := hcu.out.cell (p := ⟨g, 3, none⟩) HGL.out
        rw [p0] at r0
        rw [p1] at r1
        rw [p2] at r2
        rw [p3] at r3
        clear hcu p0 p1 p2 p3 q0 q1 q2 q3 HB2
        go_wp2_with fail
        refine (HG2.out _ HC.out).mono ?_; rintro e w4 ⟨rfl, hb⟩
        have HB4 := Lib.hid (HB3.out.trans (hb.mono (Below.size HB3.out)))
        have x0 := Held.cell (X := wc) (w := w4) hb r0
        have x1 := Held.cell (X := wc) (w := w4) hb r1
        have x2 := Held.cell (X := wc) (w := w4) hb r2
        have x3 := Held.cell (X := wc) (w := w4) hb r3
        clear hb r0 r1 r2 r3 HB3
        go_wp2_with fail
        refine (G1.out _).mono ?_; rintro e w5 ⟨rfl, hb⟩
        have HB5 := Lib.hid (HB4.out.trans (hb.mono (Below.size HB4.out)))
        clear hb x0 x1 x2 x3 HB4
        by_cases heq : a1 = ((a0.size : Nat) : Int)
        · obtain ⟨e1, e2⟩ := HEQ.out heq
          subst heq
          subst e1
          have HE2 := Lib.hid e2
          have e3 : (gs.toList == a0.toList) = true := by rw [HE2.out]; simp
          clear e2
          go_wp2_with fail
          go_ret
          exact ⟨rfl, HB5.out⟩
        · have heq2 : (a1 == ((a0.size : Nat) : Int)) = false := beq_eq_false_iff_ne.2 heq
          cases gk with
          | false =>
            go_wp2_with fail
            go_ret
            exact ⟨rfl, HB5.out⟩
          | true =>
            have e4 := HNE.out rfl
            have e5 : (((gs.size : Nat) : Int) == a1) = true := by rw [beq_iff_eq]; exact e4
            have e6 : (gs.toList == a0.toList) = false := by
              rw [beq_eq_false_iff_ne]
              intro h
              rw [ByteArray.toList_eq, ByteArray.toList_eq] at h
              rw [data_inj h] at e4
              exact heq e4.symm
            have e7 : (gs.toList != a0.toList) = true := by unfold bne; rw [e6]; rfl
            clear e4
            go_wp2_with fail
            go_ret
            exact ⟨rfl, HB5.out⟩

/-! The row's step. -/
set_option maxRecDepth 100000 in
theorem lifted (os : Os) (started : os.Started) (H : Type) (enc : TypeId × Value → H) :
    ReturnsInHanded {} Try.checked os 7 .any (Rows.blobOthersSpec.pre6 enc Try.prog Try.f7 Rows.blobOthersRow.domain false) (Rows.blobOthersSpec.post enc Try.prog Try.f7 false true false false) := by
  refine returnsInHanded_of_change (C := Try.checked) own started (by kernel_rfl) Try.func7
    (ChangeSpec.witness6 (enc := enc) (C := Try.checked) false ⟨#[], #[.string ByteArray.empty, .int .i64 0], []⟩ 8 (by kernel_rfl) (by kernel_rfl) (by kernel_rfl) (by kernel_rfl)) ?_
  intro W base args ds gs before hval0 hW hcnd _
  have hval : ∀ (j : Nat) t v, Try.f7.params[j]? = some t → args[j]? = some v → Value.okWide Try.prog W .any base t v := hval0
  have hW' := hW
  obtain ⟨p, q, hA0, hV, rfl, hfz, hnd⟩ := hW
  have hA : DataW.TrodAll enc Try.prog W 0 (fun _ => true) true Try.f7.params.toList args.toList ds p := hA0
  rw [Try.params7] at hA hval
  obtain ⟨v0, vs0, d0, ds0, p0, q0, hargs, rfl, rfl, h0, r0⟩ := trodAll_cons hA
  obtain ⟨v1, vs1, d1, ds1, p1, q1, rfl, rfl, rfl, h1, r1⟩ := trodAll_cons r0
  obtain ⟨rfl, rfl, rfl⟩ := trodAll_nil r1
  obtain rfl : args = #[v0, v1] := by cases args; simp_all
  obtain ⟨rfl, rfl⟩ := trodVars_none hV
  obtain ⟨a0, rfl, rfl, rfl, w0⟩ := Go.ChangeMaps.open_string Try.underlying9 (hval 0 9 v0 rfl rfl) h0
  obtain ⟨a1, rfl, rfl, rfl, w1⟩ := open_int Try.underlying3 (hval 1 3 v1 rfl rfl) h1
  clear hA0 hval0
  refine (walk a0 a1 W w0 w1).mono fun e W' ⟨he, bel⟩ => ?_
  subst he
  exact ⟨_, rfl, _, _, _, [], _, [], hW', trodAll_mk1 (shut_bool Try.underlying4 _), (trodAll_cons_mk (Go.ChangeMaps.shut_string Try.underlying9 w0) (trodAll_cons_mk (shut_int Try.underlying3 w1) trodAll_mk0)), rfl, bel.frame _, fun h => by cases h⟩

theorem over : Rows.blobOthersRow.holds Try.pinned (OpenSpec.ofChange Rows.blobOthersSpec) :=
  OpenClaim.holds_of_wide 7 Try.f7 rfl rfl rfl rfl rfl rfl rfl ⟨rfl, rfl, rfl, rfl, rfl⟩ rfl rfl rfl rfl rfl (by kernel_rfl) Try.func7 (by kernel_rfl)
    (of_decide_eq_true (by kernel_rfl)) (by unfold Func.isWrapper; first | (rw [if_pos (by decide +kernel)]; kernel_rfl) | (rw [if_neg (by decide +kernel)]; exact ⟨rfl, rfl⟩))
    (fun os started H enc _ => lifted os started H enc)

/-- The statement. -/
theorem proved : Rows.BlobOthersSaid := over
end Go.Proofs.Ytoladghpoddlgaa.blobOthers
