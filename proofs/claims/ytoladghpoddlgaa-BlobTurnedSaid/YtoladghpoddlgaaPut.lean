/- The contract of Put. -/
import Derived.Test.YtoladghpoddlgaaSmall
import Derived.Test.YtoladghpoddlgaaBook
import Derived.Deep.CutBlock
namespace Go.Proofs.Ytoladghpoddlgaa
open Go.ChangeShapes Go.WideShapes Go.ChangeAt Go.RowKit
set_option linter.unusedVariables false
set_option linter.unusedSimpArgs false
set_option maxRecDepth 100000
/-- What putting a value into pages hands back. -/
def PutP (v : BA) (l : List Int) (w : World) (e : Ending) (w' : World) : Prop := ∃ A c, e = .returned (.tuple #[.slice A (putS v l).length c, .bool (putOk v l)]) ∧ Own w.heap.size w' (.slice A (putS v l).length c) (putS v l) ∧ Below w.heap.size w w'
theorem PutP.no {v : BA} {l : List Int} {w w' : World} (h : putOk v l = false) (hb : Below w.heap.size w w') : PutP v l w (.returned (.tuple #[.slice none 0 0, .bool false])) w' := by
  unfold PutP
  rw [putS_no h, h]
  exact ⟨none, 0, rfl, Own.nil _ _, hb⟩
theorem PutP.yes {v : BA} {l : List Int} {w w' : World} {n : Nat} {A : Option Addr} {c : Nat} (h : putOk v l = true) (hn : n = l.length) (ho : w'.ownsRow w.heap.size 26 4 (.slice A n c) n (pcs (pagesL v l n))) (hb : Below w.heap.size w w') : PutP v l w (.returned (.tuple #[.slice A n c, .bool true])) w' := by
  unfold PutP
  subst hn
  rw [putS_yes h, h, pagesL_length]
  refine ⟨A, c, rfl, ?_, hb⟩
  unfold Own
  rw [pagesL_length]
  exact ho
/-- The state of Put's loop. -/
def PSt (v : BA) (l : List Int) (w : World) (i : Nat) (u : Value) (wr : World) : Prop := wr.ownsRow w.heap.size 26 4 u i (pcs (pagesL v l i)) ∧ Below w.heap.size w wr
theorem run_slice_hi (s : ByteArray) (m : Nat) (hm : m ≤ s.size) (w : World) : (Instr.slice 9 (.string s) none (some (.int .i64 (m : Int))) none).run Try.prog w = .ok (.string (str (s.data.toList.take m))) w := by
  rw [run_slice_string_h (P := Try.prog) w 9 s Try.underlying9 .i64 (m : Int) (by omega) (by omega), extract_str, Int.toNat_natCast]
  rfl
theorem run_slice_lo (s : ByteArray) (m : Nat) (hm : m ≤ s.size) (w : World) : (Instr.slice 9 (.string s) (some (.int .i64 (m : Int))) none none).run Try.prog w = .ok (.string (str (s.data.toList.drop m))) w := by
  rw [run_slice_string_l (P := Try.prog) w 9 s Try.underlying9 .i64 (m : Int) (by omega) (by omega), extract_str, Int.toNat_natCast, List.take_of_length_le (by rw [List.length_drop, size_data]; omega)]
theorem drop_min (v : BA) (i m : Nat) (hm : m = min (v.length - 200 * i) 200) : (v.drop (200 * i)).drop m = v.drop (200 * (i + 1)) ∧ (v.drop (200 * i)).take m = (v.drop (200 * i)).take 200 := by
  subst hm
  by_cases h : 200 ≤ v.length - 200 * i
  · rw [Nat.min_eq_right h, List.drop_drop]
    exact ⟨by congr 1, rfl⟩
  · rw [Nat.min_eq_left (by omega)]
    refine ⟨?_, ?_⟩
    · rw [List.drop_drop, List.drop_eq_nil_of_le (by omega), List.drop_eq_nil_of_le (by omega)]
    · rw [List.take_of_length_le (by rw [List.length_drop]; omega), List.take_of_length_le (by rw [List.length_drop]; omega)]
set_option maxHeartbeats 4000000 in
theorem put_any {n₀ : Nat} {A : Option Addr} {n c : Nat} {l : List Int} (v : BA) (w : World) (h : I.Nums n₀ w (.slice A n c) l) (hn0 : n₀ ≤ w.heap.size) (hn : n ≤ 1000) (hC : n ≤ c) : Calls Try.prog 10 #[.string (str v), .slice A n c] w fun e w' => PutP v l w e w' := by
  have EN := Lib.hid (fun w => (show Calls Try.prog 25 #[.int .i64 ((str v).size : Nat), .int .i64 n] w fun e w' => e = .returned (.bool (fitN v.length n)) ∧ w = w' from by
    rw [str_size]
    exact enough_any v.length n w))
  have hl := h.len
  cases hf : fitN v.length n with
  | false =>
    rw [hf] at EN
    have HN := Lib.hid (fun w' (hb : Below w.heap.size w w') => PutP.no (putOk_fits (v := v) (l := l) (by rw [← hl]; exact hf)) hb)
    clear h hf hl
    generalize str v = s at *
    go_enter Try.func10, Try.ntmps10
    go_wp2_with fail
    refine (EN.out _).mono ?_; rintro q w1 ⟨rfl, rfl⟩
    go_wp2_with fail
    go_ret2
    exact HN.out _ (Below.refl _ _)
  | true =>
    have HF := Lib.hid hf
    rw [hf] at EN
    have RI := Lib.hid (right_any w h hn hC)
    have hr : putOk v l = rightL l := putOk_right (by rw [← hl]; exact hf)
    cases hrl : rightL l with
    | false =>
      rw [hrl] at hr RI
      have HN := Lib.hid (fun w' (hb : Below w.heap.size w w') => PutP.no hr hb)
      clear h hf hr hrl HF hl
      generalize str v = s at *
      go_enter Try.func10, Try.ntmps10
      go_wp2_with fail
      refine (EN.out _).mono ?_; rintro q w1 ⟨rfl, rfl⟩
      go_wp2_with fail
      refine RI.out.mono ?_; rintro q w1 ⟨rfl, k, rfl⟩
      go_wp2_with fail
      go_ret2
      exact HN.out _ (below_drewN (Below.refl _ _) k)
    | true =>
      rw [hrl] at hr RI
      have HY := Lib.hid (fun (A : Option Addr) c w' (ho : w'.ownsRow w.heap.size 26 4 (.slice A n c) n (pcs (pagesL v l n))) (hb : Below w.heap.size w w') => PutP.yes hr hl ho hb)
      have HNU := Lib.hid (fun w' (hb : Below w.heap.size w w') => h.below (hb.mono hn0))
      have HL := Lib.hid hl
      have hn2 : n ≤ 2 := by rcases fitN_is hf with ⟨e, _⟩ | ⟨e, _⟩ <;> omega
      have HFI := Lib.hid (fitN_is hf)
      clear h hf hr hrl HF hl
      obtain ⟨i0, hi0, hz0, hz1, hz2⟩ := info_parts info_p
      have HV0 := Lib.hid (show str v = str (v.drop (200 * 0)) from by rw [Nat.mul_zero, List.drop_zero])
      go_enter Try.func10, Try.ntmps10
      go_wp2_with fail
      refine (EN.out _).mono ?_; rintro q w1 ⟨rfl, rfl⟩
      go_wp2_with fail
      refine RI.out.mono ?_; rintro q w1 ⟨rfl, k, rfl⟩
      have HB0 := Lib.hid (below_drewN (Below.refl w.heap.size w) k)
      go_wp2_with fail
      go_loopw [0, 6, 22] (fun x u y wr => ∃ i : Nat, i ≤ n ∧ x = .string (str (v.drop (200 * i))) ∧ y = .int .i64 i ∧ Hid (PSt v l w i u wr)) (fun _ _ y _ => n - (intOf y).toNat)
      case atStart => exact ⟨0, Nat.zero_le _, by rw [← HV0.out], rfl, World.ownsRow_nil _ _ _ _, HB0.out⟩
      case round =>
        obtain ⟨i, hi, rfl, rfl, hq⟩ := hrel
        have HQ := Lib.hid hq.out
        clear hq
        have b0 : (0 : Int) ≤ (i : Int) := by omega
        by_cases hlt : i < n
        · have b1 : (i : Int) < (n : Int) := by omega
          obtain ⟨m, hm⟩ : ∃ m, m = min (v.length - 200 * i) 200 := ⟨_, rfl⟩
          have HDM := Lib.hid (drop_min v i m hm)
          have hsz : (str (v.drop (200 * i))).size = v.length - 200 * i := by rw [str_size, List.length_drop]
          have hm1 : m ≤ 200 := by omega
          have hml : m ≤ (str (v.drop (200 * i))).size := by omega
          have NX := Lib.hid (fun w' (hb : Below w.heap.size w w') => next_any i w' (HNU.out w' hb) hlt hn)
          have BL := Lib.hid (fun w => blank_any (240 - m) (by omega) w)
          have SH := Lib.hid (run_slice_hi (str (v.drop (200 * i))) m hml)
          have SL := Lib.hid (run_slice_lo (str (v.drop (200 * i))) m hml)
          rw [str_toList, HDM.out.2] at SH
          rw [str_toList, HDM.out.1] at SL
          have HPG := Lib.hid (show pagesL v l (i + 1) = pagesL v l i ++ [⟨5, 0, nextN l i, str ((v.drop (200 * i)).take 200) ++ str (zs (240 - m))⟩] from by
            rw [pagesL_succ, str_join]
            have e : ((v.drop (200 * i)).take 200).length = m := by rw [List.length_take, List.length_drop]; omega
            unfold pageAt pgOf
            rw [e])
          have hs1 : (str ((v.drop (200 * i)).take 200)).size ≤ 200 := by rw [str_size, List.length_take]; omega
          have hs2 : (str (zs (240 - m))).size ≤ 240 := by rw [str_size, zs_length]; omega
          have e1 : IntKind.i64.wrap (240 - (m : Int)) = ((240 - m : Nat) : Int) := by rw [IntWalk.i64_in _ (by omega)]; omega
          have hmin : min (((str (v.drop (200 * i))).size : Nat) : Int) 200 = (m : Int) := by omega
          generalize str ((v.drop (200 * i)).take 200) = sd at *
          generalize str (zs (240 - m)) = sz at *
          generalize nextN l i = nx at *
          obtain ⟨s2, hs2'⟩ : ∃ s2, s2 = str (v.drop (200 * (i + 1))) := ⟨_, rfl⟩
          rw [← hs2'] at SL
          have HS2 := Lib.hid hs2'
          generalize str (v.drop (200 * i)) = s1 at *
          clear hs2' hm hsz hml
          obtain ⟨Av, cv, rfl⟩ := own_shape HQ.out.1
          have sh := SH.out
          have sl := SL.out
          go_wp2_with fail
          have HD := Lib.hid (HQ.out.2.drew)
          have hss : ¬ 9223372036854775807 < sd.size + sz.size := by omega
          go_region_law (first
            | (refine step_append_src _ (by rfl) (.tmp 28) (.tmp 40) 23 (by rfl) 26 i0 (.agg #[.int .i64 0, .int .i64 0, .int .i64 0, .string ⟨#[]⟩]) 4 40 Try.underlying23 hi0 hz0 hz1 hz2 rfl (by decide) w.heap.size (.slice Av i cv) i (pcs (pagesL v l i)) (by rfl) (hO2.alloc _) (some ⟨w2.heap.size, 0, none⟩) 1 1 (pcell ⟨5, 0, nx, sd ++ sz⟩) (by rfl) ⟨rfl, fun _ => ⟨_, rfl, news_four _ _ _ _ _ _⟩⟩ (pcell_one _) (by unfold maxLen; omega) (by omega) (by have := HB2.out.size; simp; omega) ?_; intro v3 w3 hown hgrow hat; obtain ⟨A3, c3, rfl⟩ := own_shape hown)
            | (go_simp; go_at_call 27; refine (NX.out _ HD.out).mono ?_; rintro e u ⟨rfl, rfl⟩)
            | (go_simp; go_at_call 28; refine (BL.out _).mono ?_; rintro e w2 ⟨rfl, hb2⟩; have HB2 := Lib.hid (HD.out.trans (hb2.mono HD.out.size)); have hO2 : w2.ownsRow w.heap.size 26 4 (.slice Av i cv) i (pcs (pagesL v l i)) := owns_kept2 HQ.out.1 (fun g hg => hb2.block g (HQ.out.1.lt g hg).2)))
          have HN := Lib.hid (show PSt v l w (i + 1) (.slice A3 (i + 1) c3) w3 from by
            refine ⟨?_, (HB2.out.alloc HB2.out.size _).grown hgrow (by have := HB2.out.size; simp; omega) (fun g hg => (hO2.lt g hg).1)⟩
            rw [HPG.out, pcs_append, pcs_single]
            exact hown)
          clear hown hgrow hat hO2 hb2 HB2 HD HQ NX BL HPG hss
          go_wp2_with fail
          go_roundw
          case rel => exact ⟨i + 1, by omega, by rw [HS2.out], by go_num, HN.out⟩
          case measure => simp [intOf]; omega
        · obtain rfl : n = i := by omega
          obtain ⟨Av, cv, rfl⟩ := own_shape HQ.out.1
          have HX := Lib.hid (HY.out Av cv wr HQ.out.1 HQ.out.2)
          go_wp2_with fail
          go_ret2
          exact HX.out
end Go.Proofs.Ytoladghpoddlgaa
