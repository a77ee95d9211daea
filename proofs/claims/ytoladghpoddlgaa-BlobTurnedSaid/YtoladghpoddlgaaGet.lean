/- The contract of Get. -/
import Derived.Test.YtoladghpoddlgaaSmall
import Derived.Deep.CutBlock
namespace Go.Proofs.Ytoladghpoddlgaa
open Go.ChangeShapes Go.WideShapes Go.ChangeAt Go.RowKit
set_option linter.unusedVariables false
set_option linter.unusedSimpArgs false
set_option maxRecDepth 100000
def GetP (n : Int) (l : List Pg) (w : World) (e : Ending) (w' : World) : Prop := e = .returned (.tuple #[.string (str (getS n l)), .bool (getOk n l)]) ∧ Below w.heap.size w w'
theorem GetP.no {n : Int} {l : List Pg} {w w' : World} (h : getOk n l = false) (hb : Below w.heap.size w w') : GetP n l w (.returned (.tuple #[.string ⟨#[]⟩, .bool false])) w' := by
  unfold GetP
  rw [getS_no h, h]
  exact ⟨rfl, hb⟩
theorem GetP.yes {n : Int} {l : List Pg} {w w' : World} {m : Nat} (hm : l.length = m) (hf : fitN n m = true) (h : ∀ j, j < m → okAt n l j = true) (hb : Below w.heap.size w w') : GetP n l w (.returned (.tuple #[.string (str (bytesL n l m)), .bool true])) w' := by
  subst hm
  have hg : getOk n l = true := getOk_iff.2 ⟨hf, h⟩
  unfold GetP
  rw [getS_yes hg, hg]
  exact ⟨rfl, hb⟩
/-- The state of Get's loop. -/
def GSt (n : Int) (l : List Pg) (w : World) (B i : Nat) (wr : World) : Prop := Bld wr B (bytesL n l i) ∧ Below w.heap.size w wr ∧ ∀ j, j < i → okAt n l j = true
theorem get_take (s : ByteArray) (m : Nat) (hm : m ≤ s.size) (w : World) : (Instr.slice 9 (.string s) none (some (.int .i64 (m : Int))) none).run Try.prog w = .ok (.string (str (s.data.toList.take m))) w := by
  rw [run_slice_string_h (P := Try.prog) w 9 s Try.underlying9 .i64 (m : Int) (by omega) (by omega), extract_str, Int.toNat_natCast]
  rfl
set_option maxHeartbeats 4000000 in
theorem get_any {C : Nat} {A : Option Addr} {m c : Nat} {l : List Pg} (n : Int) (w : World) (h : Pgs C w A l) (hC : C ≤ w.heap.size) (hm : l.length = m) (hm2 : m ≤ 1000) (hn : -9223372036854775808 ≤ n ∧ n ≤ 9223372036854775807) : Calls Try.prog 13 #[.int .i64 n, .slice A m c] w fun e w' => GetP n l w e w' := by
  have EN := Lib.hid (fun w => enough_any n m w)
  cases hf : fitN n m with
  | false =>
    rw [hf] at EN
    have HN := Lib.hid (fun w' (hb : Below w.heap.size w w') => GetP.no (getOk_fits (n := n) (l := l) (by rw [hm]; exact hf)) hb)
    clear h hf hm
    go_enter Try.func13, Try.ntmps13
    go_wp2_with fail
    refine (EN.out _).mono ?_; rintro q w1 ⟨rfl, rfl⟩
    go_wp2_with fail
    go_ret2
    exact HN.out _ (Below.refl _ _)
  | true =>
    rw [hf] at EN
    have HNO := Lib.hid (fun i (hi : i < m) (e : okAt n l i = false) w' (hb : Below w.heap.size w w') => GetP.no (getOk_not (n := n) (l := l) (i := i) (by rw [hm]; exact hi) e) hb)
    have HY := Lib.hid (fun w' (ho : ∀ j, j < m → okAt n l j = true) (hb : Below w.heap.size w w') => GetP.yes hm hf ho hb)
    have HP := Lib.hid (fun w' (hb : Below w.heap.size w w') => h.kept (hb.mono hC))
    have HBL := Lib.hid (fun i (hi : i ≤ m) (ho : ∀ j, j < i → okAt n l j = true) => bytesL_length (n := n) (l := l) (by rw [hm]; exact hf) i (by rw [hm]; exact hi) ho)
    have HM := Lib.hid hm
    have HFI := Lib.hid (fitN_is hf)
    clear h hf hm
    have HB0 := Lib.hid ((Below.refl w.heap.size w).alloc (Nat.le_refl _) (.cells #[.pointer none, .slice none 0 0] 63))
    have HD0 := Lib.hid (Bld.new w)
    go_enter Try.func13, Try.ntmps13
    go_wp2_with fail
    refine (EN.out _).mono ?_; rintro q w1 ⟨rfl, rfl⟩
    go_wp2_with fail
    generalize w.alloc (.cells #[.pointer none, .slice none 0 0] 63) = W0 at *
    obtain ⟨B, hB⟩ : ∃ B, B = w.heap.size := ⟨_, rfl⟩
    rw [← hB] at HD0 ⊢
    have HBB := Lib.hid hB
    clear hB
    go_loopw [18] (fun y wr => ∃ i : Nat, i ≤ m ∧ y = .int .i64 i ∧ Hid (GSt n l w B i wr)) (fun y _ => m - (intOf y).toNat)
    case atStart => exact ⟨0, Nat.zero_le _, rfl, HD0.out, HB0.out, fun j hj => absurd hj (Nat.not_lt_zero _)⟩
    case round =>
      obtain ⟨i, hi, rfl, hq⟩ := hrel
      have HQ := Lib.hid hq.out
      clear hq
      have b0 : (0 : Int) ≤ (i : Int) := by omega
      by_cases hlt : i < m
      · have b1 : (i : Int) < (m : Int) := by omega
        obtain ⟨b, off, rfl, hb, p0, p1, p2, p3⟩ := (HP.out wr HQ.out.2.1).1 i (by rw [HM.out]; exact hlt)
        have HOK := Lib.hid (show okAt n l i = (decide ((i + 1 = m) ↔ (l.getD i nilP).x = 0) && holdB (l.getD i nilP) (hereN n i)) from by unfold okAt; rw [HM.out])
        have HNO1 := Lib.hid (HNO.out i hlt)
        have HST := Lib.hid (fun (e : okAt n l i = true) j (hj : j < i + 1) => show okAt n l j = true from by
          by_cases h : j = i
          · rw [h]; exact e
          · exact HQ.out.2.2 j (by omega))
        have HSU := Lib.hid (bytesL_succ n l i)
        have hlen := HBL.out i hi HQ.out.2.2
        have hhe : hereN n i = min (n.toNat - 200 * i) 200 := rfl
        have hx := HFI.out
        have HLE := Lib.hid (show hereN n i ≤ 200 ∧ (bytesL n l i).length ≤ 400 from by omega)
        have e1 : IntKind.i64.wrap (n - (((bytesL n l i).length : Nat) : Int)) = n - (((bytesL n l i).length : Nat) : Int) := IntWalk.i64_in _ (by omega)
        have e2 : min (n - (((bytesL n l i).length : Nat) : Int)) 200 = ((hereN n i : Nat) : Int) := by omega
        have e3 : IntKind.i64.wrap ((m : Int) - 1) = (m : Int) - 1 := IntWalk.i64_in _ (by omega)
        clear HBL hx hlen hhe
        have BLN := Lib.hid (fun w' (hb : Below wr.heap.size wr w') => blen_any w' (HQ.out.1.kept hb))
        have BWR := Lib.hid (fun w' (e : BA) (hb : Below wr.heap.size wr w') (he : e.length ≤ 200) => bwrite_any e w' (HQ.out.1.kept hb) (by have := HLE.out; omega))
        have HHO := Lib.hid (fun w' => holds_any (l.getD i nilP).k (l.getD i nilP).d (l.getD i nilP).x (l.getD i nilP).b (hereN n i) (by have := HLE.out; omega) w')
        have HHB := Lib.hid (fun (e : holdB (l.getD i nilP) (hereN n i) = true) => (holdB_iff.1 e).2.1)
        have HTK := Lib.hid (fun (hs : (l.getD i nilP).b.size = 240) => get_take (l.getD i nilP).b (hereN n i) (by have := HLE.out; omega))
        have HTL := Lib.hid (show ((l.getD i nilP).b.data.toList.take (hereN n i)).length ≤ 200 from by rw [List.length_take]; have := HLE.out; omega)
        have HLA := Lib.hid (show ((i : Int) == (m : Int) - 1) = decide (i + 1 = m) from by
          by_cases h : i + 1 = m
          · rw [decide_eq_true h, beq_iff_eq]; omega
          · rw [decide_eq_false h, beq_eq_false_iff_ne]; omega)
        have HXA := Lib.hid (show ((l.getD i nilP).x == 0) = decide ((l.getD i nilP).x = 0) from rfl)
        have HOK2 := Lib.hid (show okAt n l i = ((decide (i + 1 = m) == decide ((l.getD i nilP).x = 0)) && holdB (l.getD i nilP) (hereN n i)) from by
          rw [HOK.out]
          congr 1
          by_cases h1 : i + 1 = m <;> by_cases h2 : (l.getD i nilP).x = 0 <;> simp [h1, h2])
        clear HOK
        obtain ⟨d1, hd1⟩ : ∃ d1, d1 = bytesL n l i := ⟨_, rfl⟩
        rw [← hd1] at HSU HLE e1 e2 BLN BWR
        have HD1 := Lib.hid hd1
        clear hd1
        generalize okAt n l i = ok at *
        obtain ⟨hh, hhh⟩ : ∃ hh, hh = holdB (l.getD i nilP) (hereN n i) := ⟨_, rfl⟩
        rw [← hhh] at HOK2 HHB
        have HHO2 := Lib.hid (fun w' => show Calls Try.prog 31 #[pv (l.getD i nilP).k (l.getD i nilP).d (l.getD i nilP).x (l.getD i nilP).b, .int .i64 (hereN n i : Nat)] w' fun e w'' => e = .returned (.bool hh) ∧ Below w'.heap.size w' w'' from by rw [hhh]; exact HHO.out w')
        clear HHO hhh
        unfold pv at HHO2
        generalize hereN n i = r at *
        generalize (l.getD i nilP).b.data.toList.take r = tk at *
        generalize (l.getD i nilP).k = pk at *
        generalize (l.getD i nilP).d = pd at *
        generalize (l.getD i nilP).x = px at *
        generalize (l.getD i nilP).b = pb at *
        obtain ⟨la, hla⟩ : ∃ la, la = decide (i + 1 = m) := ⟨_, rfl⟩
        rw [← hla] at HLA HOK2
        obtain ⟨xa, hxa⟩ : ∃ xa, xa = decide (px = 0) := ⟨_, rfl⟩
        rw [← hxa] at HXA HOK2
        clear hla hxa
        have hla := HLA.out
        have hxa := HXA.out
        have HA := (Below.refl wr.heap.size wr).alloc (Nat.le_refl _) (.cells #[.int .i64 pk, .int .i64 pd, .int .i64 px, .string pb] 26)
        have HBX := Lib.hid HA
        have HBA := Lib.hid (HQ.out.2.1.trans (HA.mono HQ.out.2.1.size))
        have HPB := Lib.hid (PBox.new wr pk pd px pb)
        clear HA hb
        go_upto_region 8 with fail
        generalize wr.alloc (.cells #[.int .i64 pk, .int .i64 pd, .int .i64 px, .string pb] 26) = W at *
        obtain ⟨P, hP⟩ : ∃ P, P = wr.heap.size := ⟨_, rfl⟩
        rw [← hP] at HPB ⊢
        clear hP p0 p1 p2 p3
        have bln := BLN.out W HBX.out
        go_wp2_with fail
        refine bln.mono ?_; rintro q w2 ⟨rfl, rfl⟩
        obtain ⟨x0, x1, x2, x3⟩ := HPB.out.cells
        by_cases hlx : la = xa
        · have HOK3 := Lib.hid (show ok = hh from by rw [HOK2.out, hlx]; simp)
          subst hlx
          clear HOK2
          go_wp2_with fail
          clear x0 x1 x2 x3
          cases hh with
          | false =>
            refine (HHO2.out _).mono ?_; rintro q w3 ⟨rfl, hb3⟩
            have HZ := Lib.hid (HNO1.out HOK3.out _ (HBA.out.trans (hb3.mono HBA.out.size)))
            clear hb3
            go_wp2_with fail
            go_ret2
            exact HZ.out
          | true =>
            refine (HHO2.out _).mono ?_; rintro q w3 ⟨rfl, hb3⟩
            have HB3 := Lib.hid (HBA.out.trans (hb3.mono HBA.out.size))
            have HX3 := Lib.hid (HBX.out.trans (hb3.mono HBX.out.size))
            obtain ⟨x0, x1, x2, x3⟩ := (HPB.out.kept hb3).cells
            have tk' := HTK.out (HHB.out rfl)
            have bwr := BWR.out w3 tk HX3.out HTL.out
            clear hb3 HPB
            go_wp2_with fail
            refine bwr.mono ?_; rintro q w4 ⟨rfl, hd4, hb4⟩
            have HN := Lib.hid (show GSt n l w B (i + 1) w4 from by
              refine ⟨?_, HB3.out.trans (by rw [← HBB.out]; exact hb4), HST.out HOK3.out⟩
              have e := HSU.out
              rw [← e] at hd4
              exact hd4)
            clear hd4 hb4 x0 x1 x2 x3
            go_wp2_with fail
            go_roundw
            case rel => exact ⟨i + 1, by omega, by go_num, HN.out⟩
            case measure => simp [intOf]; omega
        · have HOK3 := Lib.hid (show ok = false from by rw [HOK2.out, beq_eq_false_iff_ne.2 hlx]; rfl)
          have hlx2 : (la != xa) = true := bne_iff_ne.2 hlx
          clear HOK2
          have HZ := Lib.hid (HNO1.out HOK3.out _ HBA.out)
          go_wp2_with fail
          go_ret2
          exact HZ.out
      · obtain rfl : m = i := by omega
        have ST := Lib.hid (bstring_any wr HQ.out.1)
        have HX := Lib.hid (fun w' (hb : Below B wr w') => HY.out w' HQ.out.2.2 (HQ.out.2.1.trans (by rw [← HBB.out]; exact hb)))
        go_wp2_with fail
        refine ST.out.mono ?_; rintro q w2 ⟨rfl, hb2⟩
        have HZ := Lib.hid (HX.out _ hb2)
        clear hb2
        go_wp2_with fail
        go_ret2
        exact HZ.out
end Go.Proofs.Ytoladghpoddlgaa
