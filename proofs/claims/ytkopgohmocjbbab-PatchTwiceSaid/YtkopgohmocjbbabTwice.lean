/- For every text, list of patches and number: a patch that is laid twice is as laid once; with all that came behind a place laid anew the page is the same. -/
import Derived.Test.YtkopgohmocjbbabRows
import Derived.Test.YtkopgohmocjbbabBase
import Derived.Deep.RegionHeld3
import Derived.StillTailTactics
import Derived.BigQuiet
import Derived.Laws.MakeOwn
import Derived.Lib.Hide
import Derived.WalkKit
import Derived.ProofKit
import Derived.OpenShut
import Derived.ChangeOld
import Derived.Below
import Derived.Carry
namespace Go.Proofs.Ytkopgohmocjbbab.patchTwice
open Go.ChangeShapes Go.WideShapes Go.ChangeAt Go.RowKit
set_option linter.unusedVariables false

theorem own : ownKnob Try.prog.godebug = none := by kernel_rfl
theorem laidOut : laidOutB Try.prog = true := by kernel_rfl

/-- All patches of a list, whichever page they are of. -/
def overs (b : BA) (l : List Pt) : BA := l.foldl over b
theorem overs_snoc (b : BA) (l : List Pt) (p : Pt) : overs b (l ++ [p]) = over (overs b l) p := by simp [overs]
theorem overs_append (b : BA) (l m : List Pt) : overs b (l ++ m) = overs (overs b l) m := by simp [overs]
theorem overs_length {b : BA} {l : List Pt} (h : ∀ p ∈ l, p.Ok) (hb : b.length = 256) : (overs b l).length = 256 := by
  induction l generalizing b with
  | nil => exact hb
  | cons p l ih => exact ih (fun q hq => h q (List.mem_cons_of_mem _ hq)) (over_length (h p (List.mem_cons_self ..)) hb)
def Cov (l : List Pt) (j : Nat) : Prop := ∃ p ∈ l, p.ofs.toNat ≤ j ∧ j < p.ofs.toNat + p.bs.size
theorem overs_out {l : List Pt} {u : BA} (h : ∀ p ∈ l, p.Ok) (hu : u.length = 256) (j : Nat) (hj : j < 256) (hc : ¬ Cov l j) : (overs u l)[j]? = u[j]? := by
  induction l generalizing u with
  | nil => rfl
  | cons p l ih =>
    have hp := h p (List.mem_cons_self ..)
    have := ih (u := over u p) (fun q hq => h q (List.mem_cons_of_mem _ hq)) (over_length hp hu) (fun ⟨q, hq, h1⟩ => hc ⟨q, List.mem_cons_of_mem _ hq, h1⟩)
    rw [show overs u (p :: l) = overs (over u p) l from rfl, this, over_get hp hu j hj, if_neg (fun h1 => hc ⟨p, List.mem_cons_self .., h1⟩)]
theorem overs_in {l : List Pt} {u v : BA} (h : ∀ p ∈ l, p.Ok) (hu : u.length = 256) (hv : v.length = 256) (j : Nat) (hj : j < 256) (hc : Cov l j) : (overs u l)[j]? = (overs v l)[j]? := by
  induction l generalizing u v with
  | nil => obtain ⟨p, hp, _⟩ := hc; simp at hp
  | cons p l ih =>
    have hp := h p (List.mem_cons_self ..)
    have hl : ∀ q ∈ l, q.Ok := fun q hq => h q (List.mem_cons_of_mem _ hq)
    show (overs (over u p) l)[j]? = (overs (over v p) l)[j]?
    by_cases hcl : Cov l j
    · exact ih hl (over_length hp hu) (over_length hp hv) hcl
    · rw [overs_out hl (over_length hp hu) j hj hcl, overs_out hl (over_length hp hv) j hj hcl, over_get hp hu j hj, over_get hp hv j hj]
      obtain ⟨q, hq, h1⟩ := hc
      rcases List.mem_cons.1 hq with rfl | hq
      · rw [if_pos h1, if_pos h1]
      · exact absurd ⟨q, hq, h1⟩ hcl
theorem overs_twice {l : List Pt} {u : BA} (h : ∀ p ∈ l, p.Ok) (hu : u.length = 256) : overs (overs u l) l = overs u l := by
  have h1 := overs_length h hu
  apply List.ext_getElem?
  intro j
  by_cases hj : j < 256
  · by_cases hc : Cov l j
    · exact overs_in h h1 hu j hj hc
    · exact overs_out h h1 j hj hc
  · rw [List.getElem?_eq_none (by rw [overs_length h h1]; omega), List.getElem?_eq_none (by omega)]
theorem over_twice {p : Pt} {u : BA} (h : p.Ok) (hu : u.length = 256) : over (over u p) p = over u p := overs_twice (l := [p]) (fun q hq => by rw [List.mem_singleton.1 hq]; exact h) hu
theorem apply_ok {p : Pt} (h : p.Ok) (hs : p.bs.size ≤ maxLen) {b : BA} (hb : b.length = 256) (w : World) : Calls Try.prog 7 #[.string (str b), pv p.pg p.ofs p.bs] w fun e w' => e = .returned (.tuple #[.string (str (over b p)), .bool true]) ∧ Below w.heap.size w w' := by
  have hA := apply_any p.pg p.ofs p.bs (str b) hs (str_max _ hb) w
  rw [str_toList] at hA
  have ho : applyOk b p = true := by unfold applyOk; rw [decide_eq_true hb, okP_iff.2 h]; rfl
  change Calls _ _ _ _ (fun e w' => e = .returned (.tuple #[.string (str (applyS b p)), .bool (applyOk b p)]) ∧ _) at hA
  rw [ho, show applyS b p = over b p by unfold applyS; rw [ho]; rfl] at hA
  exact hA
theorem place_n (a : Int) (n : Nat) (hn : n ≤ 1000) : ∃ r : Int, a.tmod ((n : Int) + 1) = r ∧ (-(n : Int) ≤ r ∧ r ≤ n) ∧ ∃ j : Nat, j ≤ n ∧ (r + n + 1).tmod ((n : Int) + 1) = (j : Int) := by
  have e1 : a.tmod ((n : Int) + 1) < (n : Int) + 1 := Int.tmod_lt_of_pos a (by omega)
  have e2 : -((n : Int) + 1) < a.tmod ((n : Int) + 1) := by
    have := Int.tmod_lt_of_pos (-a) (b := (n : Int) + 1) (by omega)
    rw [Int.neg_tmod] at this
    omega
  generalize a.tmod ((n : Int) + 1) = x at *
  refine ⟨x, rfl, by omega, (x + n + 1).toNat % (n + 1), by have := Nat.mod_lt (x + n + 1).toNat (show 0 < n + 1 by omega); omega, ?_⟩
  rw [Int.tmod_eq_emod_of_nonneg (by omega)]
  rw [Int.natCast_emod, Int.toNat_of_nonneg (by omega)]
  rfl

set_option maxRecDepth 100000 in
set_option maxHeartbeats 16000000 in
theorem walk (s : ByteArray) (A : Option Addr) (n c : Nat) (l : List Pt) (fr : Int) (w : World) (ws : s.size ≤ maxLen) (hl0 : PtsL w A n l) (hm : n ≤ maxLen) (wf : (Lit.int .i64 fr).wf = true) :
    Calls Try.prog 3 #[.string s, .slice A n c, .int .i64 fr] w fun e w' => e = .returned (.bool true) ∧ Below w.heap.size w w' := by
  clear wf
  by_cases c0 : (200 : Int) < s.size
  · as_aux_lemma =>
      have HB0 := Lib.hid (Below.refl w.heap.size w)
      have AL := Lib.hid alive_yes
      go_enter Try.func3, Try.ntmps3
      go_wp2_with fail
      refine (AL.out _).mono ?_; rintro e w1 ⟨rfl, hb⟩
      have HB1 := Lib.hid (HB0.out.trans (hb.mono (Below.size HB0.out)))
      clear hb HB0 
      go_wp2_with fail
      go_ret
      exact ⟨rfl, HB1.out⟩
  · by_cases c3 : (12 : Int) < (n : Int)
    · as_aux_lemma =>
        have HB0 := Lib.hid (Below.refl w.heap.size w)
        have AL := Lib.hid alive_yes
        go_enter Try.func3, Try.ntmps3
        go_wp2_with fail
        refine (AL.out _).mono ?_; rintro e w1 ⟨rfl, hb⟩
        have HB1 := Lib.hid (HB0.out.trans (hb.mono (Below.size HB0.out)))
        clear hb HB0 
        go_wp2_with fail
        go_ret
        exact ⟨rfl, HB1.out⟩
    · obtain ⟨hn, hp⟩ := hl0
      have PG := Lib.hid (fun w => page_any s ws w)
      have hl := pageOf_length s.data.toList
      generalize pageOf s.data.toList = p at *
      clear ws
      have HN := Lib.hid hn
      have HP := Lib.hid hp
      have HL := Lib.hid hl
      have hN : (n : Int) ≤ 12 := by omega
      have hN0 : (0 : Int) ≤ (n : Int) := by omega
      obtain ⟨r, hr, hr1, j, hj, hrj⟩ := place_n fr n (by omega)
      have e1 : wrap64 ((n : Int) + 1) = (n : Int) + 1 := by unfold wrap64; omega
      have e2 : wrap64 (r + (n : Int)) = r + (n : Int) := by unfold wrap64; omega
      have e3 : wrap64 (r + (n : Int) + 1) = r + (n : Int) + 1 := by unfold wrap64; omega
      have e1' : IntKind.i64.wrap ((n : Int) + 1) = (n : Int) + 1 := IntWalk.i64_in _ (by omega)
      have e2' : IntKind.i64.wrap (r + (n : Int)) = r + (n : Int) := IntWalk.i64_in _ (by omega)
      have e3' : IntKind.i64.wrap (r + (n : Int) + 1) = r + (n : Int) + 1 := IntWalk.i64_in _ (by omega)
      have e4 : ¬ (n : Int) + 1 = 0 := by omega
      have e5 : ((n : Int) + 1 == 0) = false := by rw [beq_eq_false_iff_ne]; omega
      have HJ := Lib.hid hj
      clear hn hp hl hm hj hr1
      as_aux_lemma =>
        have HB0 := Lib.hid (Below.refl w.heap.size w)
        have AL := Lib.hid alive_yes
        go_enter Try.func3, Try.ntmps3
        go_wp2_with fail
        refine (AL.out _).mono ?_; rintro e w1 ⟨rfl, hb⟩
        have HB1 := Lib.hid (HB0.out.trans (hb.mono (Below.size HB0.out)))
        clear hb HB0 
        go_wp2_with fail
        refine (PG.out _).mono ?_; rintro e w2 ⟨rfl, hb⟩
        have HB2 := Lib.hid (HB1.out.trans (hb.mono (Below.size HB1.out)))
        clear hb HB1 
        go_wp2_with fail
        have HS1 := Lib.hid (Below.size HB2.out)
        go_loopw [7, 34] (fun xv x wr => ∃ k : Nat, k ≤ n ∧ x = .int .i64 k ∧ xv = .string (str (overs p (l.take k))) ∧ Hid (Below w.heap.size w wr ∧ ∀ q ∈ l.take k, q.Ok)) (fun _ x _ => n - (intOf x).toNat)
        case atStart => exact ⟨0, Nat.zero_le _, rfl, rfl, HB2.out, fun q hq => by simp at hq⟩
        case round =>
          obtain ⟨k, hk, rfl, rfl, hq⟩ := hrel
          have HQ := Lib.hid hq.out
          clear hq
          by_cases hlt : k < n
          · have hkl : k < l.length := by rw [HN.out]; exact hlt
            obtain ⟨bl, off, rfl, hbl, hpp⟩ := HP.out.1 k hkl
            obtain ⟨c0, c1, c2⟩ := hpp.kept (w' := wr) hbl HQ.out.1
            have HSZ := Lib.hid (HP.out.size k hkl)
            have HLE := Lib.hid (overs_length HQ.out.2 HL.out)
            have HT := Lib.hid (show overs p (l.take (k + 1)) = over (overs p (l.take k)) (l.getD k nilP) by rw [take_snoc l k hkl, overs_snoc])
            have HT2 := Lib.hid (show (l.getD k nilP).Ok → ∀ q ∈ l.take (k + 1), q.Ok from fun ho q hq => by
              rw [take_snoc l k hkl] at hq
              rcases List.mem_append.1 hq with h | h
              · exact HQ.out.2 q h
              · rw [List.mem_singleton.1 h]; exact ho)
            have HR := Lib.hid (fun r => right_any (l.getD k nilP).pg (l.getD k nilP).ofs (l.getD k nilP).bs HSZ.out r)
            have HAP := Lib.hid (fun (ho : (l.getD k nilP).Ok) r => apply_ok ho HSZ.out HLE.out r)
            have HAP2 := Lib.hid (fun (ho : (l.getD k nilP).Ok) r => apply_ok ho HSZ.out (over_length ho HLE.out) r)
            have HTW := Lib.hid (fun (ho : (l.getD k nilP).Ok) => over_twice ho HLE.out)
            have HOK := Lib.hid (okP_iff (p := l.getD k nilP))
            generalize (l.getD k nilP) = q at *
            generalize overs p (l.take k) = cur at *
            obtain ⟨qk, qo, qb⟩ := q
            unfold pv at HR HAP HAP2
            dsimp only at c0 c1 c2 HR HAP HAP2
            have HX := Lib.hid (Box.new wr (.int .i64 qk) (.int .i64 qo) (.string qb))
            have hA := (Below.refl wr.heap.size wr).alloc (Nat.le_refl _) (.cells #[.int .i64 qk, .int .i64 qo, .string qb] 26)
            have HBW := Lib.hid (HQ.out.1.trans (hA.mono HQ.out.1.size))
            clear hbl hpp hA
            have b1 : (0 : Int) ≤ (k : Int) := by omega
            have b2 : (k : Int) < (n : Int) := by omega
            obtain ⟨g, hg⟩ : ∃ g, g = okP ⟨qk, qo, qb⟩ := ⟨_, rfl⟩
            rw [← hg] at HR HOK
            clear hg
            go_wp2_with fail
            clear c0 c1 c2
            generalize wr.alloc (.cells #[.int .i64 qk, .int .i64 qo, .string qb] 26) = W at *
            refine (HR.out _).mono ?_; rintro e w3 ⟨rfl, hb⟩
            have HX1 := Lib.hid (HX.out.kept hb)
            have HB3 := Lib.hid (HBW.out.trans (hb.mono HBW.out.size))
            clear hb HX HBW HQ
            obtain ⟨x0, x1, x2⟩ := HX1.out.cells
            cases g with
            | false =>
              go_wp2_with fail
              go_ret
              exact ⟨rfl, HB3.out⟩
            | true =>
              have HO := Lib.hid (HOK.out.1 rfl)
              have A1 := Lib.hid (HAP.out HO.out)
              have A2 := Lib.hid (HAP2.out HO.out)
              rw [HTW.out HO.out] at A2
              rw [← HT.out] at A1 A2
              clear HAP HAP2 HTW HT HR HOK
              obtain ⟨NX, hNX⟩ : ∃ NX, NX = str (overs p (l.take (k + 1))) := ⟨_, rfl⟩
              rw [← hNX] at A1 A2
              have HNX := Lib.hid hNX
              clear hNX
              have hse : (NX.toList == NX.toList) = true := by simp
              go_wp2_with fail
              refine (A1.out _).mono ?_; rintro e w4 ⟨rfl, hb⟩
              have HX4 := Lib.hid (HX1.out.kept hb)
              have HB4 := Lib.hid (HB3.out.trans (hb.mono HB3.out.size))
              clear hb HX1 HB3 x0 x1 x2
              obtain ⟨x0, x1, x2⟩ := HX4.out.cells
              go_wp2_with fail
              refine (A2.out _).mono ?_; rintro e w5 ⟨rfl, hb⟩
              have HB5 := Lib.hid (HB4.out.trans (hb.mono HB4.out.size))
              clear hb HX4 HB4 x0 x1 x2
              go_wp2_with fail
              go_roundw
              case rel => exact ⟨k + 1, by omega, by go_num, by rw [HNX.out], HB5.out, HT2.out HO.out⟩
              case measure => simp [intOf]; omega
          · obtain rfl : n = k := by omega
            have HTK := Lib.hid (show l.take n = l from List.take_of_length_le (by rw [HN.out]; omega))
            have HALL := Lib.hid (show ∀ q ∈ l, q.Ok from by have := HQ.out.2; rwa [HTK.out] at this)
            have HB3 := Lib.hid HQ.out.1
            have HXL := Lib.hid (overs_length HALL.out HL.out)
            have HSTAY := Lib.hid (show overs (overs p l) (l.drop j) = overs p l from by
              have e : overs p l = overs (overs p (l.take j)) (l.drop j) := by rw [← overs_append, List.take_append_drop]
              rw [e]
              exact overs_twice (fun q hq => HALL.out q (List.mem_of_mem_drop hq)) (overs_length (fun q hq => HALL.out q (List.mem_of_mem_take hq)) HL.out))
            rw [HTK.out]
            clear HTK HQ
            have k0 : (0 : Int) ≤ (j : Int) := by omega
            go_wp2_with fail
            go_loopw [15, 16] (fun av x wx => ∃ i : Nat, j ≤ i ∧ i ≤ n ∧ x = .int .i64 i ∧ av = .string (str (overs (overs p l) ((l.take i).drop j))) ∧ Hid (Below w.heap.size w wx)) (fun _ x _ => n - (intOf x).toNat)
            case atStart => exact ⟨j, Nat.le_refl _, HJ.out, rfl, by rw [show (l.take j).drop j = [] from List.drop_of_length_le (by rw [List.length_take]; omega)]; rfl, HB3.out⟩
            case round =>
              obtain ⟨i, hi1, hi2, rfl, rfl, hq⟩ := hrel
              have HQ := Lib.hid hq.out
              clear hq
              by_cases hlt : i < n
              · have hkl : i < l.length := by rw [HN.out]; exact hlt
                obtain ⟨bl, off, rfl, hbl, hpp⟩ := HP.out.1 i hkl
                obtain ⟨c0, c1, c2⟩ := hpp.kept (w' := wr) hbl HQ.out
                have HSZ := Lib.hid (HP.out.size i hkl)
                have HO := Lib.hid (HALL.out (l.getD i nilP) (by rw [List.getD_eq_getElem?_getD, List.getElem?_eq_getElem hkl]; exact List.getElem_mem hkl))
                have HLE := Lib.hid (show (overs (overs p l) ((l.take i).drop j)).length = 256 from overs_length (fun q hq => HALL.out q (List.mem_of_mem_take (List.mem_of_mem_drop hq))) HXL.out)
                have HT := Lib.hid (show overs (overs p l) ((l.take (i + 1)).drop j) = over (overs (overs p l) ((l.take i).drop j)) (l.getD i nilP) by
                  rw [take_snoc l i hkl, List.drop_append_of_le_length (by rw [List.length_take]; omega), overs_snoc])
                have A1 := Lib.hid (apply_ok HO.out HSZ.out HLE.out)
                rw [← HT.out] at A1
                obtain ⟨NX, hNX⟩ : ∃ NX, NX = str (overs (overs p l) ((l.take (i + 1)).drop j)) := ⟨_, rfl⟩
                rw [← hNX] at A1
                have HNX := Lib.hid hNX
                clear hNX HT HLE HO
                generalize (l.getD i nilP) = q at *
                generalize str (overs (overs p l) ((l.take i).drop j)) = cur at *
                obtain ⟨qk, qo, qb⟩ := q
                unfold pv at A1
                dsimp only at c0 c1 c2 A1
                clear hbl hpp
                have b1 : (0 : Int) ≤ (i : Int) := by omega
                have b2 : (i : Int) < (n : Int) := by omega
                go_wp2_with fail
                refine (A1.out _).mono ?_; rintro e w4 ⟨rfl, hb⟩
                have HB4 := Lib.hid (HQ.out.trans (hb.mono HQ.out.size))
                clear hb c0 c1 c2
                go_wp2_with fail
                go_roundw
                case rel => exact ⟨i + 1, by omega, by omega, by go_num, by rw [HNX.out], HB4.out⟩
                case measure => simp [intOf]; omega
              · obtain rfl : n = i := by omega
                have HE := Lib.hid (show str (overs (overs p l) ((l.take n).drop j)) = str (overs p l) by rw [show l.take n = l from List.take_of_length_le (by rw [HN.out]; omega), HSTAY.out])
                rw [HE.out]
                generalize str (overs p l) = X at *
                have hse : (X.toList == X.toList) = true := by simp
                go_wp2_with fail
                go_ret
                exact ⟨rfl, HQ.out⟩

/-! The row's step. -/
set_option maxRecDepth 100000 in
theorem lifted (os : Os) (started : os.Started) (H : Type) (enc : TypeId × Value → H) :
    ReturnsInHanded {} Try.checked os 3 .any (Rows.patchTwiceSpec.pre6 enc Try.prog Try.f3 Rows.patchTwiceRow.domain false) (Rows.patchTwiceSpec.post enc Try.prog Try.f3 false true false false) := by
  refine returnsInHanded_of_change (C := Try.checked) own started (by kernel_rfl) Try.func3
    (ChangeSpec.witness6 (enc := enc) (C := Try.checked) false ⟨#[], #[.string ByteArray.empty, .slice none 0 0, .int .i64 0], []⟩ 8 (by kernel_rfl) (by kernel_rfl) (by kernel_rfl) (by kernel_rfl)) ?_
  intro W base args ds gs before hval0 hW hcnd _
  have hval : ∀ (j : Nat) t v, Try.f3.params[j]? = some t → args[j]? = some v → Value.okWide Try.prog W .any base t v := hval0
  have hW' := hW
  obtain ⟨p, q, hA0, hV, rfl, hfz, hnd⟩ := hW
  have hA : DataW.TrodAll enc Try.prog W 0 (fun _ => true) true Try.f3.params.toList args.toList ds p := hA0
  rw [Try.params3] at hA hval
  obtain ⟨v0, vs0, d0, ds0, p0, q0, hargs, rfl, rfl, h0, r0⟩ := trodAll_cons hA
  obtain ⟨v1, vs1, d1, ds1, p1, q1, rfl, rfl, rfl, h1, r1⟩ := trodAll_cons r0
  obtain ⟨v2, vs2, d2, ds2, p2, q2, rfl, rfl, rfl, h2, r2⟩ := trodAll_cons r1
  obtain ⟨rfl, rfl, rfl⟩ := trodAll_nil r2
  obtain rfl : args = #[v0, v1, v2] := by cases args; simp_all
  obtain ⟨rfl, rfl⟩ := trodVars_none hV
  obtain ⟨a0, rfl, rfl, rfl, w0⟩ := Go.ChangeMaps.open_string Try.underlying9 (hval 0 9 v0 rfl rfl) h0
  obtain ⟨A1, n1, c1, rfl⟩ := okWide_slice Try.underlying22 (hval 1 22 v1 rfl rfl)
  have k1 := h1
  have lt1 : ∀ x ∈ p1, x.block < W.heap.size := by obtain ⟨m, hm⟩ := k1; exact DataW.trod_lt m _ _ _ hm
  obtain ⟨l1, w1, e1, f1⟩ := (by obtain ⟨fuel, hf⟩ := h1; exact pts_read hf (fun _ => rfl) : ∃ l, PtsL W A1 n1 l ∧ n1 ≤ c1 ∧ c1 ≤ maxLen)
  obtain ⟨a2, rfl, rfl, rfl, w2⟩ := open_int Try.underlying3 (hval 2 3 v2 rfl rfl) h2
  clear hA0 hval0
  refine (walk a0 A1 n1 c1 l1 a2 W w0 w1 (Nat.le_trans e1 f1) w2).mono fun e W' ⟨he, bel⟩ => ?_
  subst he
  exact ⟨_, rfl, _, _, _, [], _, [], hW', trodAll_mk1 (shut_bool Try.underlying4 _), (trodAll_cons_mk (Go.ChangeMaps.shut_string Try.underlying9 w0) (trodAll_cons_mk (Below.trod laidOut (by kernel_rfl) (of_decide_eq_true (by kernel_rfl)) k1 bel lt1) (trodAll_cons_mk (shut_int Try.underlying3 w2) trodAll_mk0))), rfl, bel.frame _, fun h => by cases h⟩

theorem over : Rows.patchTwiceRow.holds Try.pinned (OpenSpec.ofChange Rows.patchTwiceSpec) :=
  OpenClaim.holds_of_wide 3 Try.f3 rfl rfl rfl rfl rfl rfl rfl ⟨rfl, rfl, rfl, rfl, rfl⟩ rfl rfl rfl rfl rfl (by kernel_rfl) Try.func3 (by kernel_rfl)
    (of_decide_eq_true (by kernel_rfl)) (by unfold Func.isWrapper; first | (rw [if_pos (by decide +kernel)]; kernel_rfl) | (rw [if_neg (by decide +kernel)]; exact ⟨rfl, rfl⟩))
    (fun os started H enc _ => lifted os started H enc)

/-- The statement. -/
theorem proved : Rows.PatchTwiceSaid := over
end Go.Proofs.Ytkopgohmocjbbab.patchTwice
