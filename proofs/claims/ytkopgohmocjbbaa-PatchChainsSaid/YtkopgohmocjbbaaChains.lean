/- For every list of texts: what changed from page to page, one behind the other, makes of the first one the last one. -/
import Derived.Test.YtkopgohmocjbbaaRows
import Derived.Test.YtkopgohmocjbbaaStrs
import Derived.Deep.RegionHeld3
import Derived.StillTailTactics
import Derived.BigQuiet
import Derived.Laws.MakeOwn
import Derived.Deep.DeepCutAuto
import Derived.Deep.RegionLaw
import Derived.Lib.Hide
import Derived.WalkKit
import Derived.ProofKit
import Derived.OpenShut
import Derived.ChangeOld
import Derived.Below
import Derived.Carry
namespace Go.Proofs.Ytkopgohmocjbbaa.patchChains
open Go.ChangeShapes Go.WideShapes Go.ChangeAt Go.RowKit
set_option linter.unusedVariables false

theorem own : ownKnob Try.prog.godebug = none := by kernel_rfl
theorem laidOut : laidOutB Try.prog = true := by kernel_rfl

/-- What the text number i is as a page. -/
def pgAt (l : List ByteArray) (i : Nat) : BA := pageOf (l.getD i ByteArray.empty).data.toList
theorem pgAt_length (l : List ByteArray) (i : Nat) : (pgAt l i).length = 256 := pageOf_length _
/-- What changed so far makes of the first page the last one seen. -/
structure Chain (l : List ByteArray) (k : Nat) (ds : List Pt) : Prop where
  ok : ∀ q ∈ ds, q.Ok
  size : ∀ q ∈ ds, q.bs.size ≤ maxLen
  len : ds.length ≤ k
  none : k = 0 → ds = []
  fold : 0 < k → folds 7 (pgAt l 0) ds = pgAt l (k - 1)
theorem Chain.zero (l : List ByteArray) : Chain l 0 [] := ⟨fun q h => by simp at h, fun q h => by simp at h, Nat.le_refl _, fun _ => rfl, fun h => by omega⟩
theorem Chain.one {l : List ByteArray} {ds : List Pt} (h : Chain l 0 ds) : Chain l 1 ds := by
  have := h.none rfl
  subst this
  exact ⟨fun q h => by simp at h, fun q h => by simp at h, by simp, fun h => by omega, fun _ => rfl⟩
theorem Chain.same {l : List ByteArray} {k : Nat} {ds : List Pt} (h : Chain l k ds) (hk : 0 < k) (he : pgAt l (k - 1) = pgAt l k) : Chain l (k + 1) ds :=
  ⟨h.ok, h.size, Nat.le_succ_of_le h.len, fun h => by omega, fun _ => by rw [h.fold hk, he]; rfl⟩
theorem Chain.next {l : List ByteArray} {k : Nat} {ds : List Pt} (h : Chain l k ds) (hk : 0 < k) (he : pgAt l (k - 1) ≠ pgAt l k) : Chain l (k + 1) (ds ++ [dif 7 (pgAt l (k - 1)) (pgAt l k)]) := by
  have ho := dif_ok (page := 7) (by omega) (pgAt_length l (k - 1)) (pgAt_length l k) he
  have hv := over_dif (page := 7) (by omega) (pgAt_length l (k - 1)) (pgAt_length l k) he
  refine ⟨fun q hq => ?_, fun q hq => ?_, by have := h.len; simp; omega, fun h => by omega, fun _ => ?_⟩
  · rcases List.mem_append.1 hq with h1 | h1
    · exact h.ok q h1
    · rw [List.mem_singleton.1 h1]; exact ho
  · rcases List.mem_append.1 hq with h1 | h1
    · exact h.size q h1
    · rw [List.mem_singleton.1 h1]
      have := ho.2.2.2; have := ho.2.1
      unfold maxLen; omega
  · rw [folds_snoc, h.fold hk, Nat.add_sub_cancel]
    unfold stepP
    rw [if_pos (show (dif 7 (pgAt l (k - 1)) (pgAt l k)).pg = 7 from rfl), hv]
theorem Held.set3 {X w : World} {g : Nat} (h : Held X w) (hg : X.heap.size ≤ g) (v0 v1 v2 : Value) : Held X (((w.setCell ⟨g, 0, none⟩ v0).setCell ⟨g, 1, none⟩ v1).setCell ⟨g, 2, none⟩ v2) := below_three h hg _ _ _
theorem Box.set3 {w : World} {g : Nat} {a0 a1 a2 : Value} (h : Box w g a0 a1 a2) (v0 v1 v2 : Value) : Box (((w.setCell ⟨g, 0, none⟩ v0).setCell ⟨g, 1, none⟩ v1).setCell ⟨g, 2, none⟩ v2) g v0 v1 v2 := by
  have h0 := heap_setCell_same w g 0 _ _ v0 h
  have h1 := heap_setCell_same _ g 1 _ _ v1 h0
  exact heap_setCell_same _ g 2 _ _ v2 h1

set_option maxRecDepth 100000 in
set_option maxHeartbeats 16000000 in
theorem walk (A : Option Addr) (n c : Nat) (l : List ByteArray) (w : World) (hl0 : Strs w A n l) (hm : n ≤ maxLen) :
    Calls Try.prog 7 #[.slice A n c] w fun e w' => e = .returned (.bool true) ∧ Below w.heap.size w w' := by
  by_cases c0 : (n : Int) < 1
  · as_aux_lemma =>
      have HB0 := Lib.hid (Below.refl w.heap.size w)
      have AL := Lib.hid alive_yes
      go_enter Try.func7, Try.ntmps7
      go_wp2_with fail
      refine (AL.out _).mono ?_; rintro e w1 ⟨rfl, hb⟩
      have HB1 := Lib.hid (HB0.out.trans (hb.mono (Below.size HB0.out)))
      clear hb HB0 
      go_wp2_with fail
      go_ret
      exact ⟨rfl, HB1.out⟩
  · by_cases c3 : (12 : Int) < (n : Int)
    · as_aux_lemma =>
        have HB0 := Lib.hid (Below.refl w.heap.size w)
        have AL := Lib.hid alive_yes
        go_enter Try.func7, Try.ntmps7
        go_wp2_with fail
        refine (AL.out _).mono ?_; rintro e w1 ⟨rfl, hb⟩
        have HB1 := Lib.hid (HB0.out.trans (hb.mono (Below.size HB0.out)))
        clear hb HB0 
        go_wp2_with fail
        go_ret
        exact ⟨rfl, HB1.out⟩
    · have HL := Lib.hid hl0
      have hN : (n : Int) ≤ 12 := by omega
      have hN0 : (1 : Int) ≤ (n : Int) := by omega
      obtain ⟨i0, hi0, hz0, hz1, hz2⟩ := info_parts info_p
      clear hm hl0
      as_aux_lemma =>
        have HB0 := Lib.hid (Below.refl w.heap.size w)
        have AL := Lib.hid alive_yes
        go_enter Try.func7, Try.ntmps7
        go_wp2_with fail
        refine (AL.out _).mono ?_; rintro e w1 ⟨rfl, hb⟩
        have HB1 := Lib.hid (HB0.out.trans (hb.mono (Below.size HB0.out)))
        clear hb HB0 
        go_wp2_with fail
        have HS1 := Lib.hid (Below.size HB1.out)
        go_loopw [3, 24] (fun mv x wr => ∃ (k : Nat) (ds : List Pt), k ≤ n ∧ x = .int .i64 k ∧ Hid (Own w.heap.size wr mv ds ∧ Below w.heap.size w wr ∧ Chain l k ds)) (fun _ x _ => n - (intOf x).toNat)
        case atStart => exact ⟨0, [], Nat.zero_le _, rfl, Own.nil _ _, HB1.out, Chain.zero l⟩
        case round =>
          obtain ⟨k, ds, hk, rfl, hq⟩ := hrel
          have HQ := Lib.hid hq.out
          clear hq
          obtain ⟨mA, mc, hmv⟩ := own_shape HQ.out.1
          subst hmv
          by_cases hlt : k < n
          · obtain ⟨bl, off, rfl, hbl, c1⟩ := HL.out.at hlt HQ.out.2.1
            have HSB := Lib.hid (HL.out.size hlt)
            have b1 : (0 : Int) ≤ (k : Int) := by omega
            have b2 : (k : Int) < (n : Int) := by omega
            have HPGB := Lib.hid (fun w => page_any (l.getD k ByteArray.empty) HSB.out w)
            by_cases hk0 : k = 0
            · subst hk0
              generalize l.getD 0 ByteArray.empty = sb at *
              rw [Nat.add_zero] at c1
              by_cases hlong : (200 : Int) < (sb.size : Int)
              · go_wp2_with fail
                go_ret
                exact ⟨rfl, HQ.out.2.1⟩
              · go_wp2_with fail
                go_roundw
                case rel => exact ⟨1, ds, by omega, rfl, HQ.out.1, HQ.out.2.1, HQ.out.2.2.one⟩
                case measure => simp [intOf]; omega
            · obtain ⟨bl', off', e1, _, c0⟩ := HL.out.at (i := k - 1) (by omega) HQ.out.2.1
              simp only [Option.some.injEq, Addr.mk.injEq, and_true] at e1
              obtain ⟨rfl, rfl⟩ := e1
              have HSA := Lib.hid (HL.out.size (i := k - 1) (by omega))
              have HPGA := Lib.hid (fun w => page_any (l.getD (k - 1) ByteArray.empty) HSA.out w)
              have HK := Lib.hid (show 0 < k by omega)
              obtain ⟨j, hj⟩ : ∃ j, j = k - 1 := ⟨_, rfl⟩
              have b3 : wrap64 ((k : Int) - 1) = (j : Int) := by unfold wrap64; omega
              have b3' : IntKind.i64.wrap ((k : Int) - 1) = (j : Int) := by rw [show (k : Int) - 1 = (j : Int) by omega]; exact IntWalk.i64_in _ (by omega)
              have b4 : (0 : Int) ≤ (j : Int) := by omega
              have b5 : (j : Int) < (n : Int) := by omega
              have b6 : ¬ (k : Int) = 0 := by omega
              have b7 : ((k : Int) == 0) = false := by rw [beq_eq_false_iff_ne]; omega
              change Hid (∀ w, Calls _ _ _ w (fun e w' => e = .returned (.string (str (pgAt l k))) ∧ _)) at HPGB
              change Hid (∀ w, Calls _ _ _ w (fun e w' => e = .returned (.string (str (pgAt l (k - 1)))) ∧ _)) at HPGA
              have HCN := Lib.hid (fun (he : pgAt l (k - 1) ≠ pgAt l k) => HQ.out.2.2.next HK.out he)
              have HCS := Lib.hid (fun (he : pgAt l (k - 1) = pgAt l k) => HQ.out.2.2.same HK.out he)
              have HDI := Lib.hid (fun w => diff_any 7 (str (pgAt l (k - 1))) (str (pgAt l k)) (str_max _ (pgAt_length _ _)) (str_max _ (pgAt_length _ _)) w)
              rw [str_toList, str_toList] at HDI
              have hla := pgAt_length l (k - 1)
              have hlb := pgAt_length l k
              generalize pgAt l (k - 1) = pa at *
              generalize pgAt l k = pb at *
              rw [← hj] at c0 HPGA
              generalize l.getD k ByteArray.empty = sb at *
              generalize l.getD j ByteArray.empty = sa at *
              have HJ := Lib.hid hj
              clear hj hk0
              by_cases hlong : (200 : Int) < (sb.size : Int)
              · clear b3 b3' b4 b5 b6 b7
                go_wp2_with fail
                go_ret
                exact ⟨rfl, HQ.out.2.1⟩
              · have HX0 : ∀ r, Held wr r → r.cell? ⟨bl, off + k, none⟩ = some (.string sb) := fun r h => h.cell c1
                have HX1 : ∀ r, Held wr r → r.cell? ⟨bl, off + j, none⟩ = some (.string sa) := fun r h => h.cell c0
                have HZ := Lib.hid (show okD 7 pa pb = false → pa = pb from fun h => Classical.byContradiction fun hne => by
                  unfold okD at h
                  rw [decide_eq_false_iff_not] at h
                  exact h ⟨by omega, hla, hlb, hne⟩)
                have HY := Lib.hid (show okD 7 pa pb = true → pa ≠ pb from fun h => by
                  unfold okD at h
                  rw [decide_eq_true_iff] at h
                  exact h.2.2.2)
                have HY2 := Lib.hid (show okD 7 pa pb = true → difS 7 pa pb = dif 7 pa pb from fun h => by unfold difS; rw [h]; rfl)
                unfold pvP pv at HDI
                generalize difS 7 pa pb = dd at *
                obtain ⟨dk, da, dS⟩ := dd
                dsimp only at HDI
                generalize okD 7 pa pb = okb at *
                generalize hPA : str pa = PA at *
                generalize hPB : str pb = PB at *
                have HPA := Lib.hid hPA
                have HPB := Lib.hid hPB
                clear hPA hPB hla hlb
                go_upto_region 10 with fail
                go_cut [5, 6] (fun s5 s6 wx => ∃ g : Nat, s5 = .pointer (some ⟨g, 0, none⟩) ∧ s6 = .bool okb ∧ Hid (Held wr wx ∧ Box wx g (.int .i64 dk) (.int .i64 da) (.string dS)))
                case first =>
                  refine wp_region_noPanic ?_
                  refine wp_region_held_drew (S := Held wr) (by kernel_rfl) ?_ (fun hHeld => ?_)
                  · exact Held.start _
                  refine wpAnyH_take (i := 0) (oi := { dst := some 36, op := Op.move (Operand.tmp 0), type := 42, pos := "more.go:59", after := #[], guard := none }) (v := .slice (some ⟨bl, off, none⟩) n c) rfl (by kernel_rfl) (by kernel_rfl) (by kernel_rfl) (fun _ _ _ h => h) (Or.inl ⟨by rfl, fun w' hSw => by ((try dsimp only at hSw); go_simp)⟩) (by assumption) ?_
                  (try simp only [Act.put, List.setIfInBounds_toArray, List.set_cons_zero, List.set_cons_succ])
                  refine wpAnyH_take (i := 1) (oi := { dst := some 37, op := Op.move (Operand.tmp 4), type := 3, pos := "more.go:59", after := #[], guard := none }) (v := .int .i64 k) rfl (by kernel_rfl) (by kernel_rfl) (by kernel_rfl) (fun _ _ _ h => h) (Or.inl ⟨by rfl, fun w' hSw => by ((try dsimp only at hSw); go_simp)⟩) (by assumption) ?_
                  (try simp only [Act.put, List.setIfInBounds_toArray, List.set_cons_zero, List.set_cons_succ])
                  refine wpAnyH_take (i := 2) (oi := { dst := some 38, op := Op.binOp BinOp.sub 3 (Operand.tmp 37) (Operand.const (Value.int IntKind.i64 1)) 3, type := 3, pos := "more.go:59", after := #[{ on := 1, ground := Ground.data }], guard := none }) (v := .int .i64 j) rfl (by kernel_rfl) (by kernel_rfl) (by kernel_rfl) (fun _ _ _ h => h) (Or.inl ⟨by rfl, fun w' hSw => by ((try dsimp only at hSw); go_simp)⟩) (by assumption) ?_
                  (try simp only [Act.put, List.setIfInBounds_toArray, List.set_cons_zero, List.set_cons_succ])
                  refine wpAnyH_take (i := 3) (oi := { dst := some 39, op := Op.indexAddr 42 (Operand.tmp 36) (Operand.tmp 38), type := 0, pos := "more.go:59", after := #[{ on := 0, ground := Ground.data }, { on := 2, ground := Ground.data }], guard := none }) (v := .pointer (some ⟨bl, off + j, none⟩)) rfl (by kernel_rfl) (by kernel_rfl) (by kernel_rfl) (fun _ _ _ h => h) (Or.inl ⟨by rfl, fun w' hSw => by ((try dsimp only at hSw); go_simp)⟩) (by assumption) ?_
                  (try simp only [Act.put, List.setIfInBounds_toArray, List.set_cons_zero, List.set_cons_succ])
                  refine wpAnyH_take (i := 4) (oi := { dst := some 40, op := Op.load 9 (Operand.tmp 39), type := 9, pos := "more.go:59", after := #[{ on := 3, ground := Ground.data }], guard := none }) (v := .string sa) rfl (by kernel_rfl) (by kernel_rfl) (by kernel_rfl) (fun _ _ _ h => h) (Or.inl ⟨by rfl, fun w' hSw => by ((try dsimp only at hSw); have := HX1 _ hSw; go_simp)⟩) (by assumption) ?_
                  (try simp only [Act.put, List.setIfInBounds_toArray, List.set_cons_zero, List.set_cons_succ])
                  refine wpAnyH_take (i := 6) (oi := { dst := some 42, op := Op.move (Operand.tmp 0), type := 42, pos := "more.go:59", after := #[], guard := none }) (v := .slice (some ⟨bl, off, none⟩) n c) rfl (by kernel_rfl) (by kernel_rfl) (by kernel_rfl) (fun _ _ _ h => h) (Or.inl ⟨by rfl, fun w' hSw => by ((try dsimp only at hSw); go_simp)⟩) (by assumption) ?_
                  (try simp only [Act.put, List.setIfInBounds_toArray, List.set_cons_zero, List.set_cons_succ])
                  refine wpAnyH_take (i := 7) (oi := { dst := some 43, op := Op.move (Operand.tmp 4), type := 3, pos := "more.go:59", after := #[], guard := none }) (v := .int .i64 k) rfl (by kernel_rfl) (by kernel_rfl) (by kernel_rfl) (fun _ _ _ h => h) (Or.inl ⟨by rfl, fun w' hSw => by ((try dsimp only at hSw); go_simp)⟩) (by assumption) ?_
                  (try simp only [Act.put, List.setIfInBounds_toArray, List.set_cons_zero, List.set_cons_succ])
                  refine wpAnyH_take (i := 8) (oi := { dst := some 44, op := Op.indexAddr 42 (Operand.tmp 42) (Operand.tmp 43), type := 0, pos := "more.go:59", after := #[{ on := 6, ground := Ground.data }, { on := 7, ground := Ground.data }], guard := none }) (v := .pointer (some ⟨bl, off + k, none⟩)) rfl (by kernel_rfl) (by kernel_rfl) (by kernel_rfl) (fun _ _ _ h => h) (Or.inl ⟨by rfl, fun w' hSw => by ((try dsimp only at hSw); go_simp)⟩) (by assumption) ?_
                  (try simp only [Act.put, List.setIfInBounds_toArray, List.set_cons_zero, List.set_cons_succ])
                  refine wpAnyH_take (i := 9) (oi := { dst := some 45, op := Op.load 9 (Operand.tmp 44), type := 9, pos := "more.go:59", after := #[{ on := 8, ground := Ground.data }], guard := none }) (v := .string sb) rfl (by kernel_rfl) (by kernel_rfl) (by kernel_rfl) (fun _ _ _ h => h) (Or.inl ⟨by rfl, fun w' hSw => by ((try dsimp only at hSw); have := HX0 _ hSw; go_simp)⟩) (by assumption) ?_
                  (try simp only [Act.put, List.setIfInBounds_toArray, List.set_cons_zero, List.set_cons_succ])
                  have hPre := hHeld
                  refine wpAnyH_ready (rs := [5, 15]) (by kernel_rfl) (by simp) ?_
                  refine AllReadyH.cons (o := { dst := some 41, op := Op.call { callee := Callee.value (Operand.func 10), args := #[Operand.tmp 40], argTypes := #[9] }, type := 9, pos := "more.go:59", after := #[{ on := 4, ground := Ground.data }], guard := none }) rfl (fun K hK => ?_) ?_
                  · go_simp; go_at_call 10; refine (HPGA.out _).mono ?_; rintro e u5 ⟨rfl, hb5⟩
                    refine hK.out _ _ ?_ (fun hHeld => ?_)
                    · exact Held.step (by assumption) hb5
                    clear hK K
                    (try simp only [Act.put, List.setIfInBounds_toArray, List.set_cons_zero, List.set_cons_succ])
                    have hPre := hHeld
                    refine wpAnyH_ready (rs := [10, 15]) (by kernel_rfl) (by simp) ?_
                    refine AllReadyH.cons (o := { dst := some 46, op := Op.call { callee := Callee.value (Operand.func 10), args := #[Operand.tmp 45], argTypes := #[9] }, type := 9, pos := "more.go:59", after := #[{ on := 9, ground := Ground.data }, { on := 5, ground := Ground.chain }], guard := none }) rfl (fun K hK => ?_) ?_
                    · go_simp; go_at_call 10; refine (HPGB.out _).mono ?_; rintro e u10 ⟨rfl, hb10⟩
                      refine hK.out _ _ ?_ (fun hHeld => ?_)
                      · exact Held.step (by assumption) hb10
                      clear hK K
                      (try simp only [Act.put, List.setIfInBounds_toArray, List.set_cons_zero, List.set_cons_succ])
                      have hPre := hHeld
                      refine wpAnyH_ready (rs := [11, 15]) (by kernel_rfl) (by simp) ?_
                      refine AllReadyH.cons (o := { dst := some 47, op := Op.call { callee := Callee.value (Operand.func 11), args := #[Operand.const (Value.int IntKind.i64 7), Operand.tmp 41, Operand.tmp 46], argTypes := #[3, 9, 9] }, type := 27, pos := "more.go:59", after := #[{ on := 5, ground := Ground.data }, { on := 10, ground := Ground.data }, { on := 10, ground := Ground.chain }], guard := none }) rfl (fun K hK => ?_) ?_
                      · go_simp; go_at_call 11; refine (HDI.out _).mono ?_; rintro e u11 ⟨rfl, hb11⟩
                        refine hK.out _ _ ?_ (fun hHeld => ?_)
                        · exact Held.step (by assumption) hb11
                        clear hK K
                        (try simp only [Act.put, List.setIfInBounds_toArray, List.set_cons_zero, List.set_cons_succ])
                        refine wpAnyH_take (i := 12) (oi := { dst := some 35, op := Op.move (Operand.tmp 47), type := 27, pos := "more.go:59", after := #[{ on := 11, ground := Ground.data }], guard := none }) (v := .tuple #[.agg #[.int .i64 dk, .int .i64 da, .string dS], .bool okb]) rfl (by kernel_rfl) (by kernel_rfl) (by kernel_rfl) (fun _ _ _ h => h) (Or.inl ⟨by rfl, fun w' hSw => by ((try dsimp only at hSw); go_simp)⟩) (by assumption) ?_
                        (try simp only [Act.put, List.setIfInBounds_toArray, List.set_cons_zero, List.set_cons_succ])
                        refine wpAnyH_take (i := 13) (oi := { dst := some 48, op := Op.extract (Operand.tmp 35) 0, type := 26, pos := "more.go:59", after := #[{ on := 12, ground := Ground.data }], guard := none }) (v := .agg #[.int .i64 dk, .int .i64 da, .string dS]) rfl (by kernel_rfl) (by kernel_rfl) (by kernel_rfl) (fun _ _ _ h => h) (Or.inl ⟨by rfl, fun w' hSw => by ((try dsimp only at hSw); go_simp)⟩) (by assumption) ?_
                        (try simp only [Act.put, List.setIfInBounds_toArray, List.set_cons_zero, List.set_cons_succ])
                        refine wpAnyH_take (i := 14) (oi := { dst := some 49, op := Op.extract (Operand.tmp 35) 1, type := 4, pos := "more.go:59", after := #[{ on := 12, ground := Ground.data }, { on := 16, ground := Ground.gcOnly Go.Departure.lateStores }], guard := none }) (v := .bool okb) rfl (by kernel_rfl) (by kernel_rfl) (by kernel_rfl) (fun _ _ _ h => h) (Or.inl ⟨by rfl, fun w' hSw => by ((try dsimp only at hSw); go_simp)⟩) (by assumption) ?_
                        (try simp only [Act.put, List.setIfInBounds_toArray, List.set_cons_zero, List.set_cons_succ])
                        have hPre := hHeld
                        refine wpAnyH_ready (rs := [15]) (by kernel_rfl) (by simp) ?_
                        refine AllReadyH.cons (o := { dst := some 5, op := Op.alloc 26, type := 0, pos := "more.go:59", after := #[], guard := none }) rfl (fun K hK => ?_) ?_
                        · go_simp
                          refine hK.out _ _ ?_ (fun hHeld => ?_)
                          · exact Held.step (by assumption) ((Below.refl _ _).alloc (Nat.le_refl _) _)
                          clear hK K
                          (try simp only [Act.put, List.setIfInBounds_toArray, List.set_cons_zero, List.set_cons_succ])
                          refine wpAnyH_ready (rs := [16]) (by kernel_rfl) (by simp) ?_
                          refine AllReadyH.cons (o := { dst := none, op := Op.store 26 (Operand.tmp 5) (Operand.tmp 48), type := 0, pos := "more.go:59", after := #[{ on := 15, ground := Ground.data }, { on := 13, ground := Ground.data }, { on := 11, ground := Ground.chain }, { on := 0, ground := Ground.phase }, { on := 1, ground := Ground.phase }, { on := 2, ground := Ground.phase }, { on := 3, ground := Ground.phase }, { on := 4, ground := Ground.phase }, { on := 5, ground := Ground.phase }, { on := 6, ground := Ground.phase }, { on := 7, ground := Ground.phase }, { on := 8, ground := Ground.phase }, { on := 9, ground := Ground.phase }, { on := 10, ground := Ground.phase }, { on := 11, ground := Ground.phase }, { on := 12, ground := Ground.phase }, { on := 13, ground := Ground.phase }, { on := 14, ground := Ground.textOnly Go.Departure.lateStores }, { on := 15, ground := Ground.phase }], guard := none }) rfl (fun K hK => ?_) ?_
                          · go_simp
                            refine hK.out _ _ ?_ (fun hHeld => ?_)
                            · exact Held.step hPre ((Below.refl _ _).alloc (Nat.le_refl _) _)
                            clear hK K
                            (try simp only [Act.put, List.setIfInBounds_toArray, List.set_cons_zero, List.set_cons_succ])
                            refine wpAnyH_take (i := 17) (oi := { dst := some 6, op := Op.assign (Operand.tmp 49), type := 4, pos := "more.go:59", after := #[{ on := 14, ground := Ground.data }, { on := 16, ground := Ground.chain }, { on := 0, ground := Ground.phase }, { on := 1, ground := Ground.phase }, { on := 2, ground := Ground.phase }, { on := 3, ground := Ground.phase }, { on := 4, ground := Ground.phase }, { on := 5, ground := Ground.phase }, { on := 6, ground := Ground.phase }, { on := 7, ground := Ground.phase }, { on := 8, ground := Ground.phase }, { on := 9, ground := Ground.phase }, { on := 10, ground := Ground.phase }, { on := 11, ground := Ground.phase }, { on := 12, ground := Ground.phase }, { on := 13, ground := Ground.phase }, { on := 14, ground := Ground.phase }, { on := 15, ground := Ground.phase }, { on := 16, ground := Ground.phase }], guard := none }) (v := .bool okb) rfl (by kernel_rfl) (by kernel_rfl) (by kernel_rfl) (fun _ _ _ h => h) (Or.inl ⟨by rfl, fun w' hSw => by ((try dsimp only at hSw); go_simp)⟩) (by assumption) ?_
                            (try simp only [Act.put, List.setIfInBounds_toArray, List.set_cons_zero, List.set_cons_succ])
                            refine wpAnyH_done (by kernel_rfl) ?_ _
                            refine NoPanic.normal ?_
                            go_wp2_with fail
                            go_meet
                            exact ⟨u11.heap.size, rfl, rfl, hHeld, Box.new u11 _ _ _⟩
                          exact AllReadyH.nil
                        exact AllReadyH.nil
                      refine AllReadyH.cons (o := { dst := some 5, op := Op.alloc 26, type := 0, pos := "more.go:59", after := #[], guard := none }) rfl (fun K hK => ?_) ?_
                      · go_simp
                        refine hK.out _ _ ?_ (fun hHeld => ?_)
                        · exact Held.step (by assumption) ((Below.refl _ _).alloc (Nat.le_refl _) _)
                        clear hK K
                        (try simp only [Act.put, List.setIfInBounds_toArray, List.set_cons_zero, List.set_cons_succ])
                        have HBXa := Lib.hid (show Box (u10.alloc (.cells #[.int .i64 0, .int .i64 0, .string ⟨#[]⟩] 26)) u10.heap.size (.int .i64 0) (.int .i64 0) (.string ⟨#[]⟩) from Box.new u10 (.int .i64 0) (.int .i64 0) (.string ⟨#[]⟩))
                        have HGE := Lib.hid (show wr.heap.size ≤ u10.heap.size from hPre.size)
                        refine wpAnyH_ready (rs := [11]) (by kernel_rfl) (by simp) ?_
                        refine AllReadyH.cons (o := { dst := some 47, op := Op.call { callee := Callee.value (Operand.func 11), args := #[Operand.const (Value.int IntKind.i64 7), Operand.tmp 41, Operand.tmp 46], argTypes := #[3, 9, 9] }, type := 27, pos := "more.go:59", after := #[{ on := 5, ground := Ground.data }, { on := 10, ground := Ground.data }, { on := 10, ground := Ground.chain }], guard := none }) rfl (fun K hK => ?_) ?_
                        · go_simp; go_at_call 11; refine (HDI.out _).mono ?_; rintro e u11 ⟨rfl, hb11⟩
                          refine hK.out _ _ ?_ (fun hHeld => ?_)
                          · exact Held.step (by assumption) hb11
                          clear hK K
                          (try simp only [Act.put, List.setIfInBounds_toArray, List.set_cons_zero, List.set_cons_succ])
                          have HBX11 := Lib.hid (HBXa.out.kept hb11)
                          refine wpAnyH_take (i := 12) (oi := { dst := some 35, op := Op.move (Operand.tmp 47), type := 27, pos := "more.go:59", after := #[{ on := 11, ground := Ground.data }], guard := none }) (v := .tuple #[.agg #[.int .i64 dk, .int .i64 da, .string dS], .bool okb]) rfl (by kernel_rfl) (by kernel_rfl) (by kernel_rfl) (fun _ _ _ h => h) (Or.inl ⟨by rfl, fun w' hSw => by ((try dsimp only at hSw); go_simp)⟩) (by assumption) ?_
                          (try simp only [Act.put, List.setIfInBounds_toArray, List.set_cons_zero, List.set_cons_succ])
                          refine wpAnyH_take (i := 13) (oi := { dst := some 48, op := Op.extract (Operand.tmp 35) 0, type := 26, pos := "more.go:59", after := #[{ on := 12, ground := Ground.data }], guard := none }) (v := .agg #[.int .i64 dk, .int .i64 da, .string dS]) rfl (by kernel_rfl) (by kernel_rfl) (by kernel_rfl) (fun _ _ _ h => h) (Or.inl ⟨by rfl, fun w' hSw => by ((try dsimp only at hSw); go_simp)⟩) (by assumption) ?_
                          (try simp only [Act.put, List.setIfInBounds_toArray, List.set_cons_zero, List.set_cons_succ])
                          refine wpAnyH_take (i := 14) (oi := { dst := some 49, op := Op.extract (Operand.tmp 35) 1, type := 4, pos := "more.go:59", after := #[{ on := 12, ground := Ground.data }, { on := 16, ground := Ground.gcOnly Go.Departure.lateStores }], guard := none }) (v := .bool okb) rfl (by kernel_rfl) (by kernel_rfl) (by kernel_rfl) (fun _ _ _ h => h) (Or.inl ⟨by rfl, fun w' hSw => by ((try dsimp only at hSw); go_simp)⟩) (by assumption) ?_
                          (try simp only [Act.put, List.setIfInBounds_toArray, List.set_cons_zero, List.set_cons_succ])
                          obtain ⟨⟨z0, z1, z2⟩, g0, g1, g2⟩ := And.intro HBX11.out.cells HBX11.out.free
                          refine wpAnyH_ready (rs := [16]) (by kernel_rfl) (by simp) ?_
                          refine AllReadyH.cons (o := { dst := none, op := Op.store 26 (Operand.tmp 5) (Operand.tmp 48), type := 0, pos := "more.go:59", after := #[{ on := 15, ground := Ground.data }, { on := 13, ground := Ground.data }, { on := 11, ground := Ground.chain }, { on := 0, ground := Ground.phase }, { on := 1, ground := Ground.phase }, { on := 2, ground := Ground.phase }, { on := 3, ground := Ground.phase }, { on := 4, ground := Ground.phase }, { on := 5, ground := Ground.phase }, { on := 6, ground := Ground.phase }, { on := 7, ground := Ground.phase }, { on := 8, ground := Ground.phase }, { on := 9, ground := Ground.phase }, { on := 10, ground := Ground.phase }, { on := 11, ground := Ground.phase }, { on := 12, ground := Ground.phase }, { on := 13, ground := Ground.phase }, { on := 14, ground := Ground.textOnly Go.Departure.lateStores }, { on := 15, ground := Ground.phase }], guard := none }) rfl (fun K hK => ?_) ?_
                          · go_simp
                            refine hK.out _ _ ?_ (fun hHeld => ?_)
                            · exact Held.set3 (by assumption) HGE.out _ _ _
                            clear hK K
                            (try simp only [Act.put, List.setIfInBounds_toArray, List.set_cons_zero, List.set_cons_succ])
                            refine wpAnyH_take (i := 17) (oi := { dst := some 6, op := Op.assign (Operand.tmp 49), type := 4, pos := "more.go:59", after := #[{ on := 14, ground := Ground.data }, { on := 16, ground := Ground.chain }, { on := 0, ground := Ground.phase }, { on := 1, ground := Ground.phase }, { on := 2, ground := Ground.phase }, { on := 3, ground := Ground.phase }, { on := 4, ground := Ground.phase }, { on := 5, ground := Ground.phase }, { on := 6, ground := Ground.phase }, { on := 7, ground := Ground.phase }, { on := 8, ground := Ground.phase }, { on := 9, ground := Ground.phase }, { on := 10, ground := Ground.phase }, { on := 11, ground := Ground.phase }, { on := 12, ground := Ground.phase }, { on := 13, ground := Ground.phase }, { on := 14, ground := Ground.phase }, { on := 15, ground := Ground.phase }, { on := 16, ground := Ground.phase }], guard := none }) (v := .bool okb) rfl (by kernel_rfl) (by kernel_rfl) (by kernel_rfl) (fun _ _ _ h => h) (Or.inl ⟨by rfl, fun w' hSw => by ((try dsimp only at hSw); go_simp)⟩) (by assumption) ?_
                            (try simp only [Act.put, List.setIfInBounds_toArray, List.set_cons_zero, List.set_cons_succ])
                            refine wpAnyH_done (by kernel_rfl) ?_ _
                            refine NoPanic.normal ?_
                            go_wp2_with fail
                            go_meet
                            exact ⟨u10.heap.size, rfl, rfl, hHeld, Box.set3 HBX11.out _ _ _⟩
                          exact AllReadyH.nil
                        exact AllReadyH.nil
                      exact AllReadyH.nil
                    refine AllReadyH.cons (o := { dst := some 5, op := Op.alloc 26, type := 0, pos := "more.go:59", after := #[], guard := none }) rfl (fun K hK => ?_) ?_
                    · go_simp
                      refine hK.out _ _ ?_ (fun hHeld => ?_)
                      · exact Held.step (by assumption) ((Below.refl _ _).alloc (Nat.le_refl _) _)
                      clear hK K
                      (try simp only [Act.put, List.setIfInBounds_toArray, List.set_cons_zero, List.set_cons_succ])
                      have HBXa := Lib.hid (show Box (u5.alloc (.cells #[.int .i64 0, .int .i64 0, .string ⟨#[]⟩] 26)) u5.heap.size (.int .i64 0) (.int .i64 0) (.string ⟨#[]⟩) from Box.new u5 (.int .i64 0) (.int .i64 0) (.string ⟨#[]⟩))
                      have HGE := Lib.hid (show wr.heap.size ≤ u5.heap.size from hPre.size)
                      refine wpAnyH_ready (rs := [10]) (by kernel_rfl) (by simp) ?_
                      refine AllReadyH.cons (o := { dst := some 46, op := Op.call { callee := Callee.value (Operand.func 10), args := #[Operand.tmp 45], argTypes := #[9] }, type := 9, pos := "more.go:59", after := #[{ on := 9, ground := Ground.data }, { on := 5, ground := Ground.chain }], guard := none }) rfl (fun K hK => ?_) ?_
                      · go_simp; go_at_call 10; refine (HPGB.out _).mono ?_; rintro e u10 ⟨rfl, hb10⟩
                        refine hK.out _ _ ?_ (fun hHeld => ?_)
                        · exact Held.step (by assumption) hb10
                        clear hK K
                        (try simp only [Act.put, List.setIfInBounds_toArray, List.set_cons_zero, List.set_cons_succ])
                        have HBX10 := Lib.hid (HBXa.out.kept hb10)
                        refine wpAnyH_ready (rs := [11]) (by kernel_rfl) (by simp) ?_
                        refine AllReadyH.cons (o := { dst := some 47, op := Op.call { callee := Callee.value (Operand.func 11), args := #[Operand.const (Value.int IntKind.i64 7), Operand.tmp 41, Operand.tmp 46], argTypes := #[3, 9, 9] }, type := 27, pos := "more.go:59", after := #[{ on := 5, ground := Ground.data }, { on := 10, ground := Ground.data }, { on := 10, ground := Ground.chain }], guard := none }) rfl (fun K hK => ?_) ?_
                        · go_simp; go_at_call 11; refine (HDI.out _).mono ?_; rintro e u11 ⟨rfl, hb11⟩
                          refine hK.out _ _ ?_ (fun hHeld => ?_)
                          · exact Held.step (by assumption) hb11
                          clear hK K
                          (try simp only [Act.put, List.setIfInBounds_toArray, List.set_cons_zero, List.set_cons_succ])
                          have HBX11 := Lib.hid (HBX10.out.kept hb11)
                          refine wpAnyH_take (i := 12) (oi := { dst := some 35, op := Op.move (Operand.tmp 47), type := 27, pos := "more.go:59", after := #[{ on := 11, ground := Ground.data }], guard := none }) (v := .tuple #[.agg #[.int .i64 dk, .int .i64 da, .string dS], .bool okb]) rfl (by kernel_rfl) (by kernel_rfl) (by kernel_rfl) (fun _ _ _ h => h) (Or.inl ⟨by rfl, fun w' hSw => by ((try dsimp only at hSw); go_simp)⟩) (by assumption) ?_
                          (try simp only [Act.put, List.setIfInBounds_toArray, List.set_cons_zero, List.set_cons_succ])
                          refine wpAnyH_take (i := 13) (oi := { dst := some 48, op := Op.extract (Operand.tmp 35) 0, type := 26, pos := "more.go:59", after := #[{ on := 12, ground := Ground.data }], guard := none }) (v := .agg #[.int .i64 dk, .int .i64 da, .string dS]) rfl (by kernel_rfl) (by kernel_rfl) (by kernel_rfl) (fun _ _ _ h => h) (Or.inl ⟨by rfl, fun w' hSw => by ((try dsimp only at hSw); go_simp)⟩) (by assumption) ?_
                          (try simp only [Act.put, List.setIfInBounds_toArray, List.set_cons_zero, List.set_cons_succ])
                          refine wpAnyH_take (i := 14) (oi := { dst := some 49, op := Op.extract (Operand.tmp 35) 1, type := 4, pos := "more.go:59", after := #[{ on := 12, ground := Ground.data }, { on := 16, ground := Ground.gcOnly Go.Departure.lateStores }], guard := none }) (v := .bool okb) rfl (by kernel_rfl) (by kernel_rfl) (by kernel_rfl) (fun _ _ _ h => h) (Or.inl ⟨by rfl, fun w' hSw => by ((try dsimp only at hSw); go_simp)⟩) (by assumption) ?_
                          (try simp only [Act.put, List.setIfInBounds_toArray, List.set_cons_zero, List.set_cons_succ])
                          obtain ⟨⟨z0, z1, z2⟩, g0, g1, g2⟩ := And.intro HBX11.out.cells HBX11.out.free
                          refine wpAnyH_ready (rs := [16]) (by kernel_rfl) (by simp) ?_
                          refine AllReadyH.cons (o := { dst := none, op := Op.store 26 (Operand.tmp 5) (Operand.tmp 48), type := 0, pos := "more.go:59", after := #[{ on := 15, ground := Ground.data }, { on := 13, ground := Ground.data }, { on := 11, ground := Ground.chain }, { on := 0, ground := Ground.phase }, { on := 1, ground := Ground.phase }, { on := 2, ground := Ground.phase }, { on := 3, ground := Ground.phase }, { on := 4, ground := Ground.phase }, { on := 5, ground := Ground.phase }, { on := 6, ground := Ground.phase }, { on := 7, ground := Ground.phase }, { on := 8, ground := Ground.phase }, { on := 9, ground := Ground.phase }, { on := 10, ground := Ground.phase }, { on := 11, ground := Ground.phase }, { on := 12, ground := Ground.phase }, { on := 13, ground := Ground.phase }, { on := 14, ground := Ground.textOnly Go.Departure.lateStores }, { on := 15, ground := Ground.phase }], guard := none }) rfl (fun K hK => ?_) ?_
                          · go_simp
                            refine hK.out _ _ ?_ (fun hHeld => ?_)
                            · exact Held.set3 (by assumption) HGE.out _ _ _
                            clear hK K
                            (try simp only [Act.put, List.setIfInBounds_toArray, List.set_cons_zero, List.set_cons_succ])
                            refine wpAnyH_take (i := 17) (oi := { dst := some 6, op := Op.assign (Operand.tmp 49), type := 4, pos := "more.go:59", after := #[{ on := 14, ground := Ground.data }, { on := 16, ground := Ground.chain }, { on := 0, ground := Ground.phase }, { on := 1, ground := Ground.phase }, { on := 2, ground := Ground.phase }, { on := 3, ground := Ground.phase }, { on := 4, ground := Ground.phase }, { on := 5, ground := Ground.phase }, { on := 6, ground := Ground.phase }, { on := 7, ground := Ground.phase }, { on := 8, ground := Ground.phase }, { on := 9, ground := Ground.phase }, { on := 10, ground := Ground.phase }, { on := 11, ground := Ground.phase }, { on := 12, ground := Ground.phase }, { on := 13, ground := Ground.phase }, { on := 14, ground := Ground.phase }, { on := 15, ground := Ground.phase }, { on := 16, ground := Ground.phase }], guard := none }) (v := .bool okb) rfl (by kernel_rfl) (by kernel_rfl) (by kernel_rfl) (fun _ _ _ h => h) (Or.inl ⟨by rfl, fun w' hSw => by ((try dsimp only at hSw); go_simp)⟩) (by assumption) ?_
                            (try simp only [Act.put, List.setIfInBounds_toArray, List.set_cons_zero, List.set_cons_succ])
                            refine wpAnyH_done (by kernel_rfl) ?_ _
                            refine NoPanic.normal ?_
                            go_wp2_with fail
                            go_meet
                            exact ⟨u5.heap.size, rfl, rfl, hHeld, Box.set3 HBX11.out _ _ _⟩
                          exact AllReadyH.nil
                        exact AllReadyH.nil
                      exact AllReadyH.nil
                    exact AllReadyH.nil
                  refine AllReadyH.cons (o := { dst := some 5, op := Op.alloc 26, type := 0, pos := "more.go:59", after := #[], guard := none }) rfl (fun K hK => ?_) ?_
                  · go_simp
                    refine hK.out _ _ ?_ (fun hHeld => ?_)
                    · exact Held.step (by assumption) ((Below.refl _ _).alloc (Nat.le_refl _) _)
                    clear hK K
                    (try simp only [Act.put, List.setIfInBounds_toArray, List.set_cons_zero, List.set_cons_succ])
                    have HBXa := Lib.hid (show Box (wr.drew.alloc (.cells #[.int .i64 0, .int .i64 0, .string ⟨#[]⟩] 26)) wr.heap.size (.int .i64 0) (.int .i64 0) (.string ⟨#[]⟩) from Box.new wr.drew (.int .i64 0) (.int .i64 0) (.string ⟨#[]⟩))
                    have HGE := Lib.hid (show wr.heap.size ≤ wr.heap.size from Nat.le_refl _)
                    refine wpAnyH_ready (rs := [5]) (by kernel_rfl) (by simp) ?_
                    refine AllReadyH.cons (o := { dst := some 41, op := Op.call { callee := Callee.value (Operand.func 10), args := #[Operand.tmp 40], argTypes := #[9] }, type := 9, pos := "more.go:59", after := #[{ on := 4, ground := Ground.data }], guard := none }) rfl (fun K hK => ?_) ?_
                    · go_simp; go_at_call 10; refine (HPGA.out _).mono ?_; rintro e u5 ⟨rfl, hb5⟩
                      refine hK.out _ _ ?_ (fun hHeld => ?_)
                      · exact Held.step (by assumption) hb5
                      clear hK K
                      (try simp only [Act.put, List.setIfInBounds_toArray, List.set_cons_zero, List.set_cons_succ])
                      have HBX5 := Lib.hid (HBXa.out.kept hb5)
                      refine wpAnyH_ready (rs := [10]) (by kernel_rfl) (by simp) ?_
                      refine AllReadyH.cons (o := { dst := some 46, op := Op.call { callee := Callee.value (Operand.func 10), args := #[Operand.tmp 45], argTypes := #[9] }, type := 9, pos := "more.go:59", after := #[{ on := 9, ground := Ground.data }, { on := 5, ground := Ground.chain }], guard := none }) rfl (fun K hK => ?_) ?_
                      · go_simp; go_at_call 10; refine (HPGB.out _).mono ?_; rintro e u10 ⟨rfl, hb10⟩
                        refine hK.out _ _ ?_ (fun hHeld => ?_)
                        · exact Held.step (by assumption) hb10
                        clear hK K
                        (try simp only [Act.put, List.setIfInBounds_toArray, List.set_cons_zero, List.set_cons_succ])
                        have HBX10 := Lib.hid (HBX5.out.kept hb10)
                        refine wpAnyH_ready (rs := [11]) (by kernel_rfl) (by simp) ?_
                        refine AllReadyH.cons (o := { dst := some 47, op := Op.call { callee := Callee.value (Operand.func 11), args := #[Operand.const (Value.int IntKind.i64 7), Operand.tmp 41, Operand.tmp 46], argTypes := #[3, 9, 9] }, type := 27, pos := "more.go:59", after := #[{ on := 5, ground := Ground.data }, { on := 10, ground := Ground.data }, { on := 10, ground := Ground.chain }], guard := none }) rfl (fun K hK => ?_) ?_
                        · go_simp; go_at_call 11; refine (HDI.out _).mono ?_; rintro e u11 ⟨rfl, hb11⟩
                          refine hK.out _ _ ?_ (fun hHeld => ?_)
                          · exact Held.step (by assumption) hb11
                          clear hK K
                          (try simp only [Act.put, List.setIfInBounds_toArray, List.set_cons_zero, List.set_cons_succ])
                          have HBX11 := Lib.hid (HBX10.out.kept hb11)
                          refine wpAnyH_take (i := 12) (oi := { dst := some 35, op := Op.move (Operand.tmp 47), type := 27, pos := "more.go:59", after := #[{ on := 11, ground := Ground.data }], guard := none }) (v := .tuple #[.agg #[.int .i64 dk, .int .i64 da, .string dS], .bool okb]) rfl (by kernel_rfl) (by kernel_rfl) (by kernel_rfl) (fun _ _ _ h => h) (Or.inl ⟨by rfl, fun w' hSw => by ((try dsimp only at hSw); go_simp)⟩) (by assumption) ?_
                          (try simp only [Act.put, List.setIfInBounds_toArray, List.set_cons_zero, List.set_cons_succ])
                          refine wpAnyH_take (i := 13) (oi := { dst := some 48, op := Op.extract (Operand.tmp 35) 0, type := 26, pos := "more.go:59", after := #[{ on := 12, ground := Ground.data }], guard := none }) (v := .agg #[.int .i64 dk, .int .i64 da, .string dS]) rfl (by kernel_rfl) (by kernel_rfl) (by kernel_rfl) (fun _ _ _ h => h) (Or.inl ⟨by rfl, fun w' hSw => by ((try dsimp only at hSw); go_simp)⟩) (by assumption) ?_
                          (try simp only [Act.put, List.setIfInBounds_toArray, List.set_cons_zero, List.set_cons_succ])
                          refine wpAnyH_take (i := 14) (oi := { dst := some 49, op := Op.extract (Operand.tmp 35) 1, type := 4, pos := "more.go:59", after := #[{ on := 12, ground := Ground.data }, { on := 16, ground := Ground.gcOnly Go.Departure.lateStores }], guard := none }) (v := .bool okb) rfl (by kernel_rfl) (by kernel_rfl) (by kernel_rfl) (fun _ _ _ h => h) (Or.inl ⟨by rfl, fun w' hSw => by ((try dsimp only at hSw); go_simp)⟩) (by assumption) ?_
                          (try simp only [Act.put, List.setIfInBounds_toArray, List.set_cons_zero, List.set_cons_succ])
                          obtain ⟨⟨z0, z1, z2⟩, g0, g1, g2⟩ := And.intro HBX11.out.cells HBX11.out.free
                          refine wpAnyH_ready (rs := [16]) (by kernel_rfl) (by simp) ?_
                          refine AllReadyH.cons (o := { dst := none, op := Op.store 26 (Operand.tmp 5) (Operand.tmp 48), type := 0, pos := "more.go:59", after := #[{ on := 15, ground := Ground.data }, { on := 13, ground := Ground.data }, { on := 11, ground := Ground.chain }, { on := 0, ground := Ground.phase }, { on := 1, ground := Ground.phase }, { on := 2, ground := Ground.phase }, { on := 3, ground := Ground.phase }, { on := 4, ground := Ground.phase }, { on := 5, ground := Ground.phase }, { on := 6, ground := Ground.phase }, { on := 7, ground := Ground.phase }, { on := 8, ground := Ground.phase }, { on := 9, ground := Ground.phase }, { on := 10, ground := Ground.phase }, { on := 11, ground := Ground.phase }, { on := 12, ground := Ground.phase }, { on := 13, ground := Ground.phase }, { on := 14, ground := Ground.textOnly Go.Departure.lateStores }, { on := 15, ground := Ground.phase }], guard := none }) rfl (fun K hK => ?_) ?_
                          · go_simp
                            refine hK.out _ _ ?_ (fun hHeld => ?_)
                            · exact Held.set3 (by assumption) HGE.out _ _ _
                            clear hK K
                            (try simp only [Act.put, List.setIfInBounds_toArray, List.set_cons_zero, List.set_cons_succ])
                            refine wpAnyH_take (i := 17) (oi := { dst := some 6, op := Op.assign (Operand.tmp 49), type := 4, pos := "more.go:59", after := #[{ on := 14, ground := Ground.data }, { on := 16, ground := Ground.chain }, { on := 0, ground := Ground.phase }, { on := 1, ground := Ground.phase }, { on := 2, ground := Ground.phase }, { on := 3, ground := Ground.phase }, { on := 4, ground := Ground.phase }, { on := 5, ground := Ground.phase }, { on := 6, ground := Ground.phase }, { on := 7, ground := Ground.phase }, { on := 8, ground := Ground.phase }, { on := 9, ground := Ground.phase }, { on := 10, ground := Ground.phase }, { on := 11, ground := Ground.phase }, { on := 12, ground := Ground.phase }, { on := 13, ground := Ground.phase }, { on := 14, ground := Ground.phase }, { on := 15, ground := Ground.phase }, { on := 16, ground := Ground.phase }], guard := none }) (v := .bool okb) rfl (by kernel_rfl) (by kernel_rfl) (by kernel_rfl) (fun _ _ _ h => h) (Or.inl ⟨by rfl, fun w' hSw => by ((try dsimp only at hSw); go_simp)⟩) (by assumption) ?_
                            (try simp only [Act.put, List.setIfInBounds_toArray, List.set_cons_zero, List.set_cons_succ])
                            refine wpAnyH_done (by kernel_rfl) ?_ _
                            refine NoPanic.normal ?_
                            go_wp2_with fail
                            go_meet
                            exact ⟨wr.heap.size, rfl, rfl, hHeld, Box.set3 HBX11.out _ _ _⟩
                          exact AllReadyH.nil
                        exact AllReadyH.nil
                      exact AllReadyH.nil
                    exact AllReadyH.nil
                  exact AllReadyH.nil
                case rest =>
                  obtain ⟨g, rfl, rfl, hcut⟩ := hcut
                  have HC := Lib.hid hcut.out
                  clear hcut
                  cases okb with
                  | true =>
                    have HNX := Lib.hid (HCN.out (HY.out rfl))
                    rw [← HY2.out rfl] at HNX
                    have hown := HQ.out.1.kept (D := 0) HC.out.1
                    have HOW := Lib.hid hown
                    unfold Own at hown
                    have HBW := Lib.hid (HQ.out.2.1.trans (Below.mono HC.out.1 HQ.out.2.1.size))
                    have hlen := HQ.out.2.2.len
                    have hS := HBW.out.size
                    obtain ⟨x0, x1, x2⟩ := HC.out.2.cells
                    clear HCN HCS HZ HY HY2 HPA HPB HQ c0 c1 HX0 HX1
                    go_wp2_with (at_builtin; refine wpList_append_own _ rfl _ _ 22 rfl w.heap.size 26 i0 (.agg #[.int .i64 0, .int .i64 0, .string ⟨#[]⟩]) 3 32 Try.underlying22 hi0 hz0 hz1 hz2 rfl (by decide) _ _ _ rfl (World.ownsRow.alloc hown _) ⟨wc.heap.size, 0, none⟩ 1 1 [.int .i64 dk, .int .i64 da, .string dS] rfl rfl (news_three _ _ _ _ _) (by simp [Value.oneCell']) (by unfold maxLen; omega) (by omega) (by simp; omega) ?_; intro v' w2 hown2 hgrow _)
                    have HW2 := Lib.hid ((HBW.out.alloc hS (.cells #[.int .i64 dk, .int .i64 da, .string dS] 26)).grown hgrow (by simp; omega) (fun j hj => (HOW.out.lt j hj).1))
                    have HO2 := Lib.hid (show Own w.heap.size w2 v' (ds ++ [⟨dk, da, dS⟩]) from by unfold Own; rw [List.length_append, pcs_append]; exact hown2)
                    refine ⟨⟨k + 1, _, by omega, by go_num, HO2.out, HW2.out, HNX.out⟩, by simp [intOf]; omega⟩
                  | false =>
                    have HNX := Lib.hid (HCS.out (HZ.out rfl))
                    have hPP : PA = PB := by rw [← HPA.out, ← HPB.out, HZ.out rfl]
                    subst hPP
                    have HOW := Lib.hid (HQ.out.1.kept (D := 0) HC.out.1)
                    have HBW := Lib.hid (HQ.out.2.1.trans (Below.mono HC.out.1 HQ.out.2.1.size))
                    have hse : (PA.toList == PA.toList) = true := by simp
                    have X0 := fun r (h : Held wc r) => HX0 r (HC.out.1.trans h)
                    have X1 := fun r (h : Held wc r) => HX1 r (HC.out.1.trans h)
                    clear HCN HCS HZ HY HY2 HPA HPB HQ c0 c1 HX0 HX1
                    go_upto_region 13 with fail
                    refine wp_region_noPanic ?_
                    refine wp_region_held_drew (S := Held wc) (by kernel_rfl) ?_ (fun hHeld => ?_)
                    · exact Held.start _
                    refine wpAnyH_take (i := 0) (oi := { dst := some 55, op := Op.move (Operand.tmp 0), type := 42, pos := "more.go:61", after := #[], guard := none }) (v := .slice (some ⟨bl, off, none⟩) n c) rfl (by kernel_rfl) (by kernel_rfl) (by kernel_rfl) (fun _ _ _ h => h) (Or.inl ⟨by rfl, fun w' hSw => by ((try dsimp only at hSw); go_simp)⟩) (by assumption) ?_
                    (try simp only [Act.put, List.setIfInBounds_toArray, List.set_cons_zero, List.set_cons_succ])
                    refine wpAnyH_take (i := 1) (oi := { dst := some 56, op := Op.move (Operand.tmp 4), type := 3, pos := "more.go:61", after := #[], guard := none }) (v := .int .i64 k) rfl (by kernel_rfl) (by kernel_rfl) (by kernel_rfl) (fun _ _ _ h => h) (Or.inl ⟨by rfl, fun w' hSw => by ((try dsimp only at hSw); go_simp)⟩) (by assumption) ?_
                    (try simp only [Act.put, List.setIfInBounds_toArray, List.set_cons_zero, List.set_cons_succ])
                    refine wpAnyH_take (i := 2) (oi := { dst := some 57, op := Op.binOp BinOp.sub 3 (Operand.tmp 56) (Operand.const (Value.int IntKind.i64 1)) 3, type := 3, pos := "more.go:61", after := #[{ on := 1, ground := Ground.data }], guard := none }) (v := .int .i64 j) rfl (by kernel_rfl) (by kernel_rfl) (by kernel_rfl) (fun _ _ _ h => h) (Or.inl ⟨by rfl, fun w' hSw => by ((try dsimp only at hSw); go_simp)⟩) (by assumption) ?_
                    (try simp only [Act.put, List.setIfInBounds_toArray, List.set_cons_zero, List.set_cons_succ])
                    refine wpAnyH_take (i := 3) (oi := { dst := some 58, op := Op.indexAddr 42 (Operand.tmp 55) (Operand.tmp 57), type := 0, pos := "more.go:61", after := #[{ on := 0, ground := Ground.data }, { on := 2, ground := Ground.data }], guard := none }) (v := .pointer (some ⟨bl, off + j, none⟩)) rfl (by kernel_rfl) (by kernel_rfl) (by kernel_rfl) (fun _ _ _ h => h) (Or.inl ⟨by rfl, fun w' hSw => by ((try dsimp only at hSw); go_simp)⟩) (by assumption) ?_
                    (try simp only [Act.put, List.setIfInBounds_toArray, List.set_cons_zero, List.set_cons_succ])
                    refine wpAnyH_take (i := 4) (oi := { dst := some 59, op := Op.load 9 (Operand.tmp 58), type := 9, pos := "more.go:61", after := #[{ on := 3, ground := Ground.data }], guard := none }) (v := .string sa) rfl (by kernel_rfl) (by kernel_rfl) (by kernel_rfl) (fun _ _ _ h => h) (Or.inl ⟨by rfl, fun w' hSw => by ((try dsimp only at hSw); have := X1 _ hSw; go_simp)⟩) (by assumption) ?_
                    (try simp only [Act.put, List.setIfInBounds_toArray, List.set_cons_zero, List.set_cons_succ])
                    refine wpAnyH_take (i := 6) (oi := { dst := some 61, op := Op.move (Operand.tmp 0), type := 42, pos := "more.go:61", after := #[], guard := none }) (v := .slice (some ⟨bl, off, none⟩) n c) rfl (by kernel_rfl) (by kernel_rfl) (by kernel_rfl) (fun _ _ _ h => h) (Or.inl ⟨by rfl, fun w' hSw => by ((try dsimp only at hSw); go_simp)⟩) (by assumption) ?_
                    (try simp only [Act.put, List.setIfInBounds_toArray, List.set_cons_zero, List.set_cons_succ])
                    refine wpAnyH_take (i := 7) (oi := { dst := some 62, op := Op.move (Operand.tmp 4), type := 3, pos := "more.go:61", after := #[], guard := none }) (v := .int .i64 k) rfl (by kernel_rfl) (by kernel_rfl) (by kernel_rfl) (fun _ _ _ h => h) (Or.inl ⟨by rfl, fun w' hSw => by ((try dsimp only at hSw); go_simp)⟩) (by assumption) ?_
                    (try simp only [Act.put, List.setIfInBounds_toArray, List.set_cons_zero, List.set_cons_succ])
                    refine wpAnyH_take (i := 8) (oi := { dst := some 63, op := Op.indexAddr 42 (Operand.tmp 61) (Operand.tmp 62), type := 0, pos := "more.go:61", after := #[{ on := 6, ground := Ground.data }, { on := 7, ground := Ground.data }], guard := none }) (v := .pointer (some ⟨bl, off + k, none⟩)) rfl (by kernel_rfl) (by kernel_rfl) (by kernel_rfl) (fun _ _ _ h => h) (Or.inl ⟨by rfl, fun w' hSw => by ((try dsimp only at hSw); go_simp)⟩) (by assumption) ?_
                    (try simp only [Act.put, List.setIfInBounds_toArray, List.set_cons_zero, List.set_cons_succ])
                    refine wpAnyH_take (i := 9) (oi := { dst := some 64, op := Op.load 9 (Operand.tmp 63), type := 9, pos := "more.go:61", after := #[{ on := 8, ground := Ground.data }], guard := none }) (v := .string sb) rfl (by kernel_rfl) (by kernel_rfl) (by kernel_rfl) (fun _ _ _ h => h) (Or.inl ⟨by rfl, fun w' hSw => by ((try dsimp only at hSw); have := X0 _ hSw; go_simp)⟩) (by assumption) ?_
                    (try simp only [Act.put, List.setIfInBounds_toArray, List.set_cons_zero, List.set_cons_succ])
                    refine wpAnyH_ready (rs := [5]) (by kernel_rfl) (by simp) ?_
                    refine AllReadyH.cons (o := { dst := some 60, op := Op.call { callee := Callee.value (Operand.func 10), args := #[Operand.tmp 59], argTypes := #[9] }, type := 9, pos := "more.go:61", after := #[{ on := 4, ground := Ground.data }], guard := none }) rfl (fun K hK => ?_) ?_
                    · go_simp; go_at_call 10; refine (HPGA.out _).mono ?_; rintro e u5 ⟨rfl, hb5⟩
                      refine hK.out _ _ ?_ (fun hHeld => ?_)
                      · exact Held.step (by assumption) hb5
                      clear hK K
                      (try simp only [Act.put, List.setIfInBounds_toArray, List.set_cons_zero, List.set_cons_succ])
                      refine wpAnyH_ready (rs := [10]) (by kernel_rfl) (by simp) ?_
                      refine AllReadyH.cons (o := { dst := some 65, op := Op.call { callee := Callee.value (Operand.func 10), args := #[Operand.tmp 64], argTypes := #[9] }, type := 9, pos := "more.go:61", after := #[{ on := 9, ground := Ground.data }, { on := 5, ground := Ground.chain }], guard := none }) rfl (fun K hK => ?_) ?_
                      · go_simp; go_at_call 10; refine (HPGB.out _).mono ?_; rintro e u10 ⟨rfl, hb10⟩
                        refine hK.out _ _ ?_ (fun hHeld => ?_)
                        · exact Held.step (by assumption) hb10
                        clear hK K
                        (try simp only [Act.put, List.setIfInBounds_toArray, List.set_cons_zero, List.set_cons_succ])
                        refine wpAnyH_take (i := 11) (oi := { dst := some 66, op := Op.binOp BinOp.neq 9 (Operand.tmp 60) (Operand.tmp 65) 9, type := 4, pos := "more.go:61", after := #[{ on := 5, ground := Ground.data }, { on := 10, ground := Ground.data }], guard := none }) (v := .bool false) rfl (by kernel_rfl) (by kernel_rfl) (by kernel_rfl) (fun _ _ _ h => h) (Or.inl ⟨by rfl, fun w' hSw => by ((try dsimp only at hSw); go_simp)⟩) (by assumption) ?_
                        (try simp only [Act.put, List.setIfInBounds_toArray, List.set_cons_zero, List.set_cons_succ])
                        refine wpAnyH_done (by kernel_rfl) ?_ _
                        refine NoPanic.normal ?_
                        have HF := Lib.hid (HBW.out.trans (Below.mono hHeld HBW.out.size))
                        have HOF := Lib.hid (HOW.out.kept (D := 0) hHeld)
                        go_wp2_with fail
                        go_roundw
                        case rel => exact ⟨k + 1, _, by omega, by go_num, HOF.out, HF.out, HNX.out⟩
                        case measure => simp [intOf]; omega
                      exact AllReadyH.nil
                    exact AllReadyH.nil
          · obtain rfl : n = k := by omega
            have HB2 := Lib.hid HQ.out.2.1
            have HO2 := Lib.hid HQ.out.1
            have HPZ := Lib.hid (fun w => page_any (l.getD 0 ByteArray.empty) (HL.out.size (i := 0) (by omega)) w)
            have HPN := Lib.hid (fun w => page_any (l.getD (n - 1) ByteArray.empty) (HL.out.size (i := n - 1) (by omega)) w)
            change Hid (∀ w, Calls _ _ _ w (fun e w' => e = .returned (.string (str (pgAt l 0))) ∧ _)) at HPZ
            change Hid (∀ w, Calls _ _ _ w (fun e w' => e = .returned (.string (str (pgAt l (n - 1)))) ∧ _)) at HPN
            have hall : ds.all okP = true := List.all_eq_true.2 fun q hq => okP_iff.2 (HQ.out.2.2.ok q hq)
            have hfold := HQ.out.2.2.fold (by omega)
            have HSM := Lib.hid HQ.out.2.2.size
            have HLM := Lib.hid HQ.out.2.2.len
            have AM := Lib.hid (fun (r : World) (h : Own w.heap.size r (.slice mA ds.length mc) ds) => all_walk (lc := mc) (page := 7) (b := str (pgAt l 0)) r (Own.pts h rfl HSM.out (by have := HLM.out; unfold maxLen; omega)) rfl (Nat.le_refl _) (str_max _ (pgAt_length _ _)))
            rw [str_toList, show allS 7 (pgAt l 0) ds = pgAt l (n - 1) by unfold allS allOk; rw [hall, decide_eq_true (pgAt_length _ _)]; exact hfold, show allOk (pgAt l 0) ds = true by unfold allOk; rw [hall, decide_eq_true (pgAt_length _ _)]; rfl] at AM
            obtain ⟨j, hj⟩ : ∃ j, j = n - 1 := ⟨_, rfl⟩
            rw [← hj] at AM HPN
            generalize str (pgAt l 0) = PZ at *
            generalize str (pgAt l j) = PN at *
            have b3 : wrap64 ((n : Int) - 1) = (j : Int) := by unfold wrap64; omega
            have b3' : IntKind.i64.wrap ((n : Int) - 1) = (j : Int) := by rw [show (n : Int) - 1 = (j : Int) by omega]; exact IntWalk.i64_in _ (by omega)
            have b4 : (0 : Int) ≤ (j : Int) := by omega
            have b5 : (j : Int) < (n : Int) := by omega
            have b6 : (0 : Int) < (n : Int) := by omega
            obtain ⟨bl, off, rfl, hbl, c0⟩ := HL.out.at (i := 0) (by omega) HB2.out
            rw [Nat.add_zero] at c0
            have HCJ := Lib.hid (fun (r : World) (h : Below w.heap.size w r) => HL.out.at (i := j) (by omega) h)
            have hse : (PN.toList == PN.toList) = true := by simp
            clear HQ hall hfold hbl hj HL
            generalize l.getD 0 ByteArray.empty = sz at *
            generalize l.getD j ByteArray.empty = sn at *
            go_wp2_with fail
            refine (HPZ.out _).mono ?_; rintro e w3 ⟨rfl, hb⟩
            have HO3 := Lib.hid (HO2.out.kept (D := 0) hb)
            have HB3 := Lib.hid (HB2.out.trans (hb.mono HB2.out.size))
            clear hb HO2 HB2 c0
            go_wp2_with fail
            refine (AM.out _ HO3.out).mono ?_; rintro e w4 ⟨rfl, hb⟩
            have HB4 := Lib.hid (HB3.out.trans (hb.mono HB3.out.size))
            clear hb HO3 HB3
            obtain ⟨bl', off', e1, _, c1⟩ := HCJ.out _ HB4.out
            simp only [Option.some.injEq, Addr.mk.injEq, and_true] at e1
            obtain ⟨rfl, rfl⟩ := e1
            go_wp2_with fail
            refine (HPN.out _).mono ?_; rintro e w5 ⟨rfl, hb⟩
            have HB5 := Lib.hid (HB4.out.trans (hb.mono HB4.out.size))
            clear hb
            go_wp2_with fail
            go_ret
            exact ⟨rfl, HB5.out⟩

/-! The row's step. -/
set_option maxRecDepth 100000 in
theorem lifted (os : Os) (started : os.Started) (H : Type) (enc : TypeId × Value → H) :
    ReturnsInHanded {} Try.checked os 7 .any (Rows.patchChainsSpec.pre6 enc Try.prog Try.f7 Rows.patchChainsRow.domain false) (Rows.patchChainsSpec.post enc Try.prog Try.f7 false true false false) := by
  refine returnsInHanded_of_change (C := Try.checked) own started (by kernel_rfl) Try.func7
    (ChangeSpec.witness6 (enc := enc) (C := Try.checked) false ⟨#[], #[.slice none 0 0], []⟩ 8 (by kernel_rfl) (by kernel_rfl) (by kernel_rfl) (by kernel_rfl)) ?_
  intro W base args ds gs before hval0 hW hcnd _
  have hval : ∀ (j : Nat) t v, Try.f7.params[j]? = some t → args[j]? = some v → Value.okWide Try.prog W .any base t v := hval0
  have hW' := hW
  obtain ⟨p, q, hA0, hV, rfl, hfz, hnd⟩ := hW
  have hA : DataW.TrodAll enc Try.prog W 0 (fun _ => true) true Try.f7.params.toList args.toList ds p := hA0
  rw [Try.params7] at hA hval
  obtain ⟨v0, vs0, d0, ds0, p0, q0, hargs, rfl, rfl, h0, r0⟩ := trodAll_cons hA
  obtain ⟨rfl, rfl, rfl⟩ := trodAll_nil r0
  obtain rfl : args = #[v0] := by cases args; simp_all
  obtain ⟨rfl, rfl⟩ := trodVars_none hV
  obtain ⟨A0, n0, c0, rfl⟩ := okWide_slice Try.underlying42 (hval 0 42 v0 rfl rfl)
  have k0 := h0
  have lt0 : ∀ x ∈ p0, x.block < W.heap.size := by obtain ⟨m, hm⟩ := k0; exact DataW.trod_lt m _ _ _ hm
  obtain ⟨l0, w0, e0, f0⟩ := (by obtain ⟨fuel, hf⟩ := h0; exact strs_read hf (fun _ => rfl) : ∃ l, Strs W A0 n0 l ∧ n0 ≤ c0 ∧ c0 ≤ maxLen)
  clear hA0 hval0
  refine (walk A0 n0 c0 l0 W w0 (Nat.le_trans e0 f0)).mono fun e W' ⟨he, bel⟩ => ?_
  subst he
  exact ⟨_, rfl, _, _, _, [], _, [], hW', trodAll_mk1 (shut_bool Try.underlying4 _), (trodAll_cons_mk (Below.trod laidOut (by kernel_rfl) (of_decide_eq_true (by kernel_rfl)) k0 bel lt0) trodAll_mk0), rfl, bel.frame _, fun h => by cases h⟩

theorem over : Rows.patchChainsRow.holds Try.pinned (OpenSpec.ofChange Rows.patchChainsSpec) :=
  OpenClaim.holds_of_wide 7 Try.f7 rfl rfl rfl rfl rfl rfl rfl ⟨rfl, rfl, rfl, rfl, rfl⟩ rfl rfl rfl rfl rfl (by kernel_rfl) Try.func7 (by kernel_rfl)
    (of_decide_eq_true (by kernel_rfl)) (by unfold Func.isWrapper; first | (rw [if_pos (by decide +kernel)]; kernel_rfl) | (rw [if_neg (by decide +kernel)]; exact ⟨rfl, rfl⟩))
    (fun os started H enc _ => lifted os started H enc)

/-- The statement. -/
theorem proved : Rows.PatchChainsSaid := over
end Go.Proofs.Ytkopgohmocjbbaa.patchChains
