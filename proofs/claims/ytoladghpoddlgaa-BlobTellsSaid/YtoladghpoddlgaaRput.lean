/- The contract of the document's own Put. -/
import Derived.Test.YtoladghpoddlgaaPut
import Derived.Test.YtoladghpoddlgaaZeros
namespace Go.Proofs.Ytoladghpoddlgaa
open Go.ChangeShapes Go.WideShapes Go.ChangeAt Go.RowKit
set_option linter.unusedVariables false
set_option linter.unusedSimpArgs false
set_option maxRecDepth 100000
/-- What the document asks of the i-th number. -/
def okR (l : List Int) (i : Nat) : Bool := rightN (l.getD i 0) && !(decide (0 < i) && decide (l.getD 0 0 = l.getD 1 0))
theorem okR_all {l : List Int} {n : Nat} (hn : l.length = n) (h : n = 1 ∨ n = 2) : rightL l = true ↔ ∀ i, i < n → okR l i = true := by
  rcases h with rfl | rfl
  · obtain ⟨a, rfl⟩ := List.length_eq_one_iff.1 hn
    rw [rightL_one]
    constructor
    · intro h i hi
      obtain rfl : i = 0 := by omega
      simp [okR, h]
    · intro h
      have := h 0 (by omega)
      simpa [okR] using this
  · obtain ⟨a, b, rfl⟩ : ∃ a b, l = [a, b] := by
      rcases l with _ | ⟨a, _ | ⟨b, _ | ⟨c, l⟩⟩⟩ <;> simp at hn
      exact ⟨a, b, rfl⟩
    rw [rightL_pair]
    constructor
    · intro h i hi
      simp only [Bool.and_eq_true, decide_eq_true_iff] at h
      obtain ⟨h1, h2, h3⟩ := h
      have h4 : ¬ a = b := fun e => h3 e.symm
      rcases (show i = 0 ∨ i = 1 by omega) with rfl | rfl
      · simp [okR, h1]
      · simp [okR, h2, h4]
    · intro h
      have h0 := h 0 (by omega)
      have h1 := h 1 (by omega)
      simp only [okR, List.getD_cons_zero, List.getD_cons_succ, Bool.and_eq_true, Bool.not_eq_true', Bool.and_eq_false_iff, decide_eq_false_iff_not, decide_eq_true_iff] at h0 h1
      simp only [Bool.and_eq_true, decide_eq_true_iff]
      exact ⟨h0.1, h1.1, fun e => by rcases h1.2 with h | h; omega; exact h e.symm⟩
theorem PBox.setX {w : World} {B : Nat} {k d x : Int} {b : ByteArray} (h : PBox w B k d x b) (x' : Int) : PBox (w.setCell ⟨B, 2, none⟩ (.int .i64 x')) B k d x' b := by
  unfold PBox at *
  simp [World.setCell, Array.getElem?_modify, h]
def CutR (l : List Int) (i : Nat) (wr : World) (z : Value) (wx : World) : Prop := z = .bool (!(okR l i)) ∧ ∃ q, wx = wr.drewN q
theorem CutR.mk {l : List Int} {i : Nat} {wr : World} {t : Bool} (h : okR l i = !t) (q : Nat) : CutR l i wr (.bool t) (wr.drewN q) := ⟨by rw [h, Bool.not_not], q, rfl⟩
set_option maxHeartbeats 4000000 in
theorem rput_any {n₀ : Nat} {A : Option Addr} {n c : Nat} {l : List Int} (v : BA) (w : World) (h : I.Nums n₀ w (.slice A n c) l) (hn0 : n₀ ≤ w.heap.size) (hn : n ≤ 1000) : Calls Try.prog 11 #[.string (str v), .slice A n c] w fun e w' => PutP v l w e w' := by
  have EN := Lib.hid (fun w => (show Calls Try.prog 18 #[.int .i64 ((str v).size : Nat)] w fun e w' => e = .returned (.int .i64 (pagesN v.length : Nat)) ∧ w = w' from by
    rw [str_size]
    exact rpages_any v.length w))
  have hl := h.len
  cases hf : fitN v.length n with
  | false =>
    have HN := Lib.hid (fun w' (hb : Below w.heap.size w w') => PutP.no (putOk_fits (v := v) (l := l) (by rw [← hl]; exact hf)) hb)
    by_cases h0 : pagesN v.length = 0
    · rw [h0] at EN
      clear h hf hl h0
      generalize str v = s at *
      go_enter Try.func11, Try.ntmps11
      go_wp2_with fail
      refine (EN.out _).mono ?_; rintro q w1 ⟨rfl, rfl⟩
      go_wp2_with fail
      go_ret2
      exact HN.out _ (Below.refl _ _)
    · have h1 : pagesN v.length ≠ n := fun e => by
        rw [fitN_iff.2 ⟨by omega, e⟩] at hf
        cases hf
      have b1 : (((pagesN v.length : Nat) : Int) == 0) = false := by rw [beq_eq_false_iff_ne]; omega
      have b2 : (((pagesN v.length : Nat) : Int) != (n : Int)) = true := by rw [bne_iff_ne]; omega
      generalize ((pagesN v.length : Nat) : Int) = pn at *
      clear h hf hl h0 h1
      generalize str v = s at *
      go_enter Try.func11, Try.ntmps11
      go_wp2_with fail
      refine (EN.out _).mono ?_; rintro q w1 ⟨rfl, rfl⟩
      go_wp2_with fail
      refine (EN.out _).mono ?_; rintro q w1 ⟨rfl, rfl⟩
      go_wp2_with fail
      go_ret2
      exact HN.out _ (Below.refl _ _)
  | true =>
    have HN12 := Lib.hid (show n = 1 ∨ n = 2 from by rcases fitN_is hf with ⟨e, _⟩ | ⟨e, _⟩ <;> omega)
    have HR := Lib.hid (okR_all hl.symm HN12.out)
    have hr : putOk v l = rightL l := putOk_right (by rw [← hl]; exact hf)
    have HY := Lib.hid (fun (A : Option Addr) c w' (ho : w'.ownsRow w.heap.size 26 4 (.slice A n c) n (pcs (pagesL v l n))) (hb : Below w.heap.size w w') (hk : ∀ i, i < n → okR l i = true) => PutP.yes (by rw [hr]; exact HR.out.2 hk) hl ho hb)
    have HNO := Lib.hid (fun i w' (hi : i < n) (e : okR l i = false) (hb : Below w.heap.size w w') => PutP.no (v := v) (l := l) (by
      rw [hr]
      cases g : rightL l with
      | false => rfl
      | true => rw [HR.out.1 g i hi] at e; cases e) hb)
    have HNU := Lib.hid (fun w' (hb : Below w.heap.size w w') => h.below (hb.mono hn0))
    have HL := Lib.hid hl
    have HFI := Lib.hid (fitN_is hf)
    have hpg : pagesN v.length = n := (fitN_iff.1 hf).2
    rw [hpg] at EN
    have b3 : ((n : Int) == 0) = false := by rw [beq_eq_false_iff_ne]; have := HN12.out; omega
    clear h hf hr hl hpg
    obtain ⟨i0, hi0, hz0, hz1, hz2⟩ := info_parts info_p
    have HB0 := Lib.hid (Below.refl w.heap.size w)
    obtain ⟨s, hs⟩ : ∃ s, s = str v := ⟨_, rfl⟩
    rw [← hs] at EN ⊢
    have HS := Lib.hid hs
    clear hs
    go_enter Try.func11, Try.ntmps11
    go_wp2_with fail
    refine (EN.out _).mono ?_; rintro q w1 ⟨rfl, rfl⟩
    go_wp2_with fail
    refine (EN.out _).mono ?_; rintro q w1 ⟨rfl, rfl⟩
    go_wp2_with fail
    go_loopw [6, 7] (fun u y wr => ∃ i : Nat, i ≤ n ∧ y = .int .i64 i ∧ Hid (PSt v l w i u wr ∧ ∀ j, j < i → okR l j = true)) (fun _ y _ => n - (intOf y).toNat)
    case atStart => exact ⟨0, Nat.zero_le _, rfl, ⟨World.ownsRow_nil _ _ _ _, HB0.out⟩, fun j hj => absurd hj (Nat.not_lt_zero _)⟩
    case round =>
      obtain ⟨i, hi, rfl, hq⟩ := hrel
      have HQ := Lib.hid hq.out
      clear hq
      have b0 : (0 : Int) ≤ (i : Int) := by omega
      by_cases hlt : i < n
      · have b1 : (i : Int) < (n : Int) := by omega
        have HST := Lib.hid (fun (e : okR l i = true) j (hj : j < i + 1) => show okR l j = true from by
          by_cases h : j = i
          · rw [h]; exact e
          · exact HQ.out.2 j (by omega))
        have HNO1 := Lib.hid (fun w' => HNO.out i w' hlt)
        have HOK := Lib.hid (show okR l i = (rightN (l.getD i 0) && !(decide (0 < i) && decide (l.getD 0 0 = l.getD 1 0))) from rfl)
        obtain ⟨Av, cv, rfl⟩ := own_shape HQ.out.1.1
        go_upto_region 7 with fail
        go_cut [52] (fun z wx => CutR l i wr z wx)
        case first =>
          obtain ⟨b, off, rfl, hb, hcell⟩ := (HNU.out wr HQ.out.1.2).at hlt
          obtain ⟨b', off', e', hb', hcell0⟩ := (HNU.out wr HQ.out.1.2).at (i := 0) (by omega)
          simp only [Option.some.injEq, Addr.mk.injEq, and_true] at e'
          obtain ⟨rfl, rfl⟩ := e'
          rw [Nat.add_zero] at hcell0
          have HRN := Lib.hid (show rightN (l.getD i 0) = decide (2 ≤ l.getD i 0 ∧ l.getD i 0 < 64) from rfl)
          have HI1 := Lib.hid (show 0 < i → i = 1 ∧ n = 2 from fun h => by rcases HN12.out with e | e <;> omega)
          have HC1 := Lib.hid (fun (h : 1 < n) => (HNU.out wr HQ.out.1.2).at (i := 1) h)
          clear hb hb' HST HNO1 HNO HY HQ
          have HCU := Lib.hid (fun q => (show okR l i = false → CutR l i wr (.bool true) (wr.drewN q) from fun h => CutR.mk (t := true) h q))
          have HCV := Lib.hid (fun q => (show okR l i = true → CutR l i wr (.bool false) (wr.drewN q) from fun h => CutR.mk (t := false) h q))
          generalize okR l i = ok at *
          generalize rightN (l.getD i 0) = rn at *
          generalize l.getD i 0 = x at *
          generalize l.getD 0 0 = l0 at *
          generalize l.getD 1 0 = l1 at *
          by_cases h1 : x < 2
          · have HR1 := Lib.hid (show ok = false from by rw [HOK.out, HRN.out, decide_eq_false (by omega)]; rfl)
            go_quiet (fail)
            go_wp2_with fail
            go_meet
            exact HCU.out _ HR1.out
          · by_cases h2 : x ≥ 64
            · have HR1 := Lib.hid (show ok = false from by rw [HOK.out, HRN.out, decide_eq_false (by omega)]; rfl)
              go_quiet (fail)
              go_wp2_with fail
              go_meet
              exact HCU.out _ HR1.out
            · have HR0 := Lib.hid (show rn = true from by rw [HRN.out]; exact decide_eq_true (by omega))
              by_cases h3 : 0 < i
              · have b9 : (i : Int) > 0 := by omega
                have n1 : 1 < n := by have := HI1.out h3; omega
                have n0' : 0 < n := by omega
                obtain ⟨b', off', e', hb', hcell1⟩ := HC1.out n1
                simp only [Option.some.injEq, Addr.mk.injEq, and_true] at e'
                obtain ⟨rfl, rfl⟩ := e'
                clear hb'
                by_cases h4 : l0 = l1
                · have HR1 := Lib.hid (show ok = false from by rw [HOK.out, HR0.out, decide_eq_true h3, decide_eq_true h4]; rfl)
                  subst h4
                  clear HOK
                  go_quiet (fail)
                  go_wp2_with fail
                  go_meet
                  exact HCU.out _ HR1.out
                · have HR1 := Lib.hid (show ok = true from by rw [HOK.out, HR0.out, decide_eq_true h3, decide_eq_false h4]; rfl)
                  have h5 : (l0 == l1) = false := beq_eq_false_iff_ne.2 h4
                  clear HOK
                  go_quiet (fail)
                  go_wp2_with fail
                  go_meet
                  exact HCV.out _ HR1.out
              · have b9 : ¬ (i : Int) > 0 := by omega
                have HR1 := Lib.hid (show ok = true from by rw [HOK.out, HR0.out, decide_eq_false h3]; rfl)
                go_quiet (fail)
                go_wp2_with fail
                go_meet
                exact HCV.out _ HR1.out
        case rest =>
          obtain ⟨rfl, q, rfl⟩ := hcut
          have HB1 := Lib.hid (below_drewN HQ.out.1.2 q)
          have HP1 := Lib.hid (show PSt v l w i (.slice Av i cv) (wr.drewN q) from ⟨HQ.out.1.1, HB1.out⟩)
          generalize wr.drewN q = V at *
          cases hok : okR l i with
          | false =>
            have HZ := Lib.hid (HNO1.out V hok HB1.out)
            clear hok
            go_wp2_with fail
            go_ret2
            exact HZ.out
          | true =>
            have HS1 := Lib.hid (HST.out hok)
            clear hok HOK HNO1 HST
            obtain ⟨m, hm⟩ : ∃ m, m = min (v.length - 200 * i) 200 := ⟨_, rfl⟩
            have hsz : s.size = v.length := by rw [HS.out, str_size]
            have hfi := HFI.out
            have HDM := drop_min v i m hm
            obtain ⟨z, hz⟩ : ∃ z, z = 200 * i + m := ⟨_, rfl⟩
            have SH := Lib.hid (fun (w : World) => (show (Instr.slice 9 (.string s) (some (.int .i64 ((i : Int) * 200))) (some (.int .i64 (z : Int))) none).run Try.prog w = .ok (.string (str ((v.drop (200 * i)).take 200))) w from by
              rw [run_slice_string w 9 s .i64 .i64 ((i : Int) * 200) (z : Int) Try.underlying9 (by omega) (by omega) (by omega), HS.out, show ((i : Int) * 200).toNat = 200 * i by omega, Int.toNat_natCast, cut_str v _ _ m hz, HDM.2]))
            have e1 : IntKind.i64.wrap ((i : Int) * 200) = (i : Int) * 200 := IntWalk.i64_in _ (by omega)
            have e2 : IntKind.i64.wrap ((i : Int) + 1) = (i : Int) + 1 := IntWalk.i64_in _ (by omega)
            have e3 : IntKind.i64.wrap (((i : Int) + 1) * 200) = ((i : Int) + 1) * 200 := IntWalk.i64_in _ (by omega)
            have hmin : min (((i : Int) + 1) * 200) ((s.size : Nat) : Int) = (z : Int) := by omega
            have HPG := Lib.hid (show pagesL v l (i + 1) = pagesL v l i ++ [⟨5, 0, nextN l i, str ((v.drop (200 * i)).take 200) ++ str (zs (240 - m))⟩] from by
              rw [pagesL_succ, str_join]
              have e : ((v.drop (200 * i)).take 200).length = m := by rw [List.length_take, List.length_drop]; omega
              unfold pageAt pgOf
              rw [e])
            have hs1 : (str ((v.drop (200 * i)).take 200)).size = m := by rw [str_size, List.length_take, List.length_drop]; omega
            have hs2 : (str (zs (240 - m))).size ≤ 240 := by rw [str_size, zs_length]; omega
            have hss : ¬ 9223372036854775807 < (str ((v.drop (200 * i)).take 200)).size + (str (zs (240 - m))).size := by omega
            have e4 : IntKind.i64.wrap (240 - (((str ((v.drop (200 * i)).take 200)).size : Nat) : Int)) = ((240 - m : Nat) : Int) := by rw [IntWalk.i64_in _ (by omega)]; omega
            have ZE := Lib.hid (fun w => zeros_ok (240 - m) (by omega) w)
            have HNX := Lib.hid (show nextN l i = if i + 1 = n then 0 else l.getD (i + 1) 0 from by unfold nextN; rw [HL.out])
            have HIX := Lib.hid (fun w' (hb : Below w.heap.size w w') (h : i + 1 < n) => (HNU.out w' hb).at h)
            clear HDM hfi hm hsz hz
            generalize str ((v.drop (200 * i)).take 200) = sd at *
            generalize str (zs (240 - m)) = sz at *
            generalize nextN l i = nx at *
            have sh := SH.out
            clear hs1 hs2
            go_wp2_with fail
            refine (ZE.out _).mono ?_; rintro e w2 ⟨rfl, hb2⟩
            have hown := owns_kept2 HP1.out.1 (fun g hg => hb2.block g (HP1.out.1.lt g hg).2)
            have HB2 := Lib.hid (HB1.out.trans (hb2.mono HB1.out.size))
            have HPB := Lib.hid (PBox.new w2 5 0 0 (sd ++ sz))
            have HA := (Below.refl w2.heap.size w2).alloc (Nat.le_refl _) (.cells #[.int .i64 5, .int .i64 0, .int .i64 0, .string (sd ++ sz)] 26)
            have HB3' := Lib.hid (HB2.out.trans (HA.mono HB2.out.size))
            have hown3 := owns_kept2 hown (fun g hg => HA.block g (hown.lt g hg).2)
            have HO3 := Lib.hid hown3
            have HLE := Lib.hid HB2.out.size
            have HOL := Lib.hid (fun g (hg : (Value.slice Av i cv).ownBlock = some g) => (hown.lt g hg).2)
            clear hb2 HA hown hown3 ZE
            by_cases hlast : i + 1 < n
            · have HNX2 := Lib.hid (show nx = l.getD (i + 1) 0 from by rw [HNX.out]; exact if_neg (by omega))
              have c0 : (i : Int) + 1 < (n : Int) := by omega
              have c1 : (0 : Int) ≤ (i : Int) + 1 := by omega
              have c2 : ((i : Int) + 1).toNat = i + 1 := by omega
              go_upto_region 11 with fail
              generalize w2.alloc (.cells #[.int .i64 5, .int .i64 0, .int .i64 0, .string (sd ++ sz)] 26) = W2 at *
              obtain ⟨P, hP⟩ : ∃ P, P = w2.heap.size := ⟨_, rfl⟩
              rw [← hP] at HPB ⊢
              have HPP := Lib.hid hP
              clear hP
              obtain ⟨b, off, rfl, hb, hcell⟩ := HIX.out W2 HB3'.out hlast
              rw [← HNX2.out] at hcell
              obtain ⟨x0, x1, x2, x3⟩ := HPB.out.cells
              obtain ⟨f0, f1, f2, f3⟩ := HPB.out.free
              clear hb
              go_upto_region 13 with fail
              have HPB2 := Lib.hid (HPB.out.setX nx)
              have HB3 := Lib.hid (below_set1 (i := 2) (u := .int .i64 nx) HB3'.out (show w.heap.size ≤ P from by rw [HPP.out]; exact HLE.out))
              have hown := owns_kept2 HO3.out (fun g hg => Below.heap_setCell W2 ⟨P, 2, none⟩ (.int .i64 nx) g (fun (e : g = P) => by have := HOL.out g hg; have := HPP.out; omega))
              generalize W2.setCell ⟨P, 2, none⟩ (.int .i64 nx) = W3 at *
              clear x0 x1 x2 x3 f0 f1 f2 f3 hcell
              obtain ⟨x0, x1, x2, x3⟩ := HPB2.out.cells
              go_wp2_with (at_builtin; refine wpList_append_own _ rfl _ _ 23 rfl w.heap.size 26 i0 (.agg #[.int .i64 0, .int .i64 0, .int .i64 0, .string ⟨#[]⟩]) 4 40 Try.underlying23 hi0 hz0 hz1 hz2 rfl (by decide) _ _ _ rfl (hown.alloc _) ⟨W3.heap.size, 0, none⟩ 1 1 (pcell ⟨5, 0, nx, sd ++ sz⟩) rfl rfl (news_four _ _ _ _ _ _) (pcell_one _) (by unfold maxLen; omega) (by omega) (by have := HB3.out.size; simp; omega) ?_; intro v3 w3 hown' hgrow _; obtain ⟨A3, c3, rfl⟩ := own_shape hown')
              have HN := Lib.hid (show PSt v l w (i + 1) (.slice A3 (i + 1) c3) w3 from by
                refine ⟨?_, (HB3.out.alloc HB3.out.size _).grown hgrow (by have := HB3.out.size; simp; omega) (fun g hg => (hown.lt g hg).1)⟩
                rw [HPG.out, pcs_append, pcs_single]
                exact hown')
              clear hown hown' hgrow
              go_wp2_with fail
              go_roundw
              case rel => exact ⟨i + 1, by omega, by go_num, HN.out, HS1.out⟩
              case measure => simp [intOf]; omega
            · obtain rfl : nx = 0 := by rw [HNX.out]; exact if_pos (by omega)
              have c0 : ¬ (i : Int) + 1 < (n : Int) := by omega
              go_upto_region 11 with fail
              obtain ⟨W3, hW3⟩ : ∃ W3, W3 = w2.alloc (.cells #[.int .i64 5, .int .i64 0, .int .i64 0, .string (sd ++ sz)] 26) := ⟨_, rfl⟩
              rw [← hW3] at HPB HB3' HO3 ⊢
              clear hW3
              obtain ⟨P, hP⟩ : ∃ P, P = w2.heap.size := ⟨_, rfl⟩
              rw [← hP] at HPB ⊢
              clear hP
              have HB3 := HB3'
              have hown := HO3.out
              obtain ⟨x0, x1, x2, x3⟩ := HPB.out.cells
              go_wp2_with (at_builtin; refine wpList_append_own _ rfl _ _ 23 rfl w.heap.size 26 i0 (.agg #[.int .i64 0, .int .i64 0, .int .i64 0, .string ⟨#[]⟩]) 4 40 Try.underlying23 hi0 hz0 hz1 hz2 rfl (by decide) _ _ _ rfl (hown.alloc _) ⟨W3.heap.size, 0, none⟩ 1 1 (pcell ⟨5, 0, 0, sd ++ sz⟩) rfl rfl (news_four _ _ _ _ _ _) (pcell_one _) (by unfold maxLen; omega) (by omega) (by have := HB3.out.size; simp; omega) ?_; intro v3 w3 hown' hgrow _; obtain ⟨A3, c3, rfl⟩ := own_shape hown')
              have HN := Lib.hid (show PSt v l w (i + 1) (.slice A3 (i + 1) c3) w3 from by
                refine ⟨?_, (HB3.out.alloc HB3.out.size _).grown hgrow (by have := HB3.out.size; simp; omega) (fun g hg => (hown.lt g hg).1)⟩
                rw [HPG.out, pcs_append, pcs_single]
                exact hown')
              clear hown hown' hgrow
              go_wp2_with fail
              go_roundw
              case rel => exact ⟨i + 1, by omega, by go_num, HN.out, HS1.out⟩
              case measure => simp [intOf]; omega
      · obtain rfl : n = i := by omega
        obtain ⟨Av, cv, rfl⟩ := own_shape HQ.out.1.1
        have HX := Lib.hid (HY.out Av cv wr HQ.out.1.1 HQ.out.1.2 HQ.out.2)
        go_wp2_with fail
        go_ret2
        exact HX.out
end Go.Proofs.Ytoladghpoddlgaa
