/- For every page that has bytes, every place and every byte that is not zero: the bytes with that place turned by it are no page, or another one. The row speaks of the table of names as the program's text lays it; the card ties that to the text. -/
import Derived.Test.YtanhoiikjneeaaaDoorRows
import Derived.Test.YtanhoiikjneeaaaDoorCards
import Derived.Test.YtanhoiikjneeaaaDoorTie
import Derived.Test.YtanhoiikjneeaaaDoorTurn
import Derived.Lib.Hide
import Derived.WalkKit
import Derived.ProofKit
import Derived.OpenShut
import Derived.ChangeOld
import Derived.Below
import Derived.Carry
import Derived.LaidMore
import Derived.SevenTiedAt
namespace Go.Proofs.YtanhoiikjneeaaaDoor.pageTurned
open Go.ChangeShapes Go.WideShapes Go.ChangeAt Go.RowKit
set_option linter.unusedVariables false
set_option linter.unusedSimpArgs false

theorem xor_u8 (x y : UInt8) : bits .xor .u8 (x.toNat : Int) (y.toNat : Int) = ((x ^^^ y).toNat : Int) := by
  show IntKind.u8.wrap ((BitVec.ofInt 8 (x.toNat : Int) ^^^ BitVec.ofInt 8 (y.toNat : Int)).toNat : Int) = _
  rw [BitVec.ofInt_natCast, BitVec.ofInt_natCast, BitVec.toNat_xor, BitVec.toNat_ofNat, BitVec.toNat_ofNat, Nat.mod_eq_of_lt x.toNat_lt, Nat.mod_eq_of_lt y.toNat_lt, UInt8.toNat_xor]
  have h : x.toNat ^^^ y.toNat < 256 := by rw [← UInt8.toNat_xor]; exact UInt8.toNat_lt _
  exact u8_in (by omega) (by omega)
theorem turned_ne {p : Pg} (hp : p.Ok) {k : Nat} (hk : k < 256) {y : UInt8} (hy : y ≠ 0) : okB (patch p.bytes k (p.bytes.getD k 0 ^^^ y)) = true → valB (patch p.bytes k (p.bytes.getD k 0 ^^^ y)) ≠ p := by
  have hlen : p.bytes.length = 256 := by rw [Pg.bytes_length, hp.2.2.2]
  have hat := patch_at (l := p.bytes) (k := k) (by omega) (p.bytes.getD k 0 ^^^ y)
  generalize patch p.bytes k (p.bytes.getD k 0 ^^^ y) = l at *
  intro hg
  cases hG : getP l with
  | none => rw [okB_none hG] at hg; cases hg
  | some q =>
    rw [valB_some hG]
    rintro rfl
    rcases (getP_some hG).2 with ⟨hz, -⟩ | ⟨-, hb⟩
    · have e0 := hat 0
      have e1 := hat 1
      have g : ∀ j, j < 256 → (zs 256).getD j 0 = 0 := fun j hj => by rw [zs, List.getD_eq_getElem?_getD, List.getElem?_replicate, if_pos hj]; rfl
      rw [hz, g 0 (by omega), (bytes_head q).1] at e0
      rw [hz, g 1 (by omega), (bytes_head q).2] at e1
      split at e0
      · split at e1
        · omega
        · exact absurd e1 (by decide)
      · exact absurd e0 (by decide)
    · have e := hat k
      rw [if_pos rfl, ← hb] at e
      apply hy
      have : q.bytes.getD k 0 ^^^ (q.bytes.getD k 0 ^^^ y) = q.bytes.getD k 0 ^^^ q.bytes.getD k 0 := by rw [← e]
      rw [← UInt8.xor_assoc, UInt8.xor_self, UInt8.zero_xor] at this
      exact this
set_option maxRecDepth 100000 in
set_option maxHeartbeats 8000000 in
theorem walk (k d m : Int) (b : ByteArray) (a z : Int) (w : World) (wk : (Lit.int .i64 k).wf = true) (wd : (Lit.int .i64 d).wf = true) (wm : (Lit.int .i64 m).wf = true) (wb : b.size ≤ maxLen) (wa : (Lit.int .i64 a).wf = true) (wz : (Lit.int .u8 z).wf = true) (hn : NamesAt w) :
    Calls Tryd.prog 7 #[pv k d m b, .int .i64 a, .int .u8 z] w fun e w' => e = .returned (.bool true) ∧ Below w.heap.size w w' := by
  obtain ⟨y, rfl⟩ := u8_of_int z wz
  have HN := Lib.hid hn
  clear hn wk wd wm wa wz
  unfold maxLen at wb
  by_cases c0 : (300 : Int) < b.size
  · as_aux_lemma =>
      have HP := Lib.hid (Box.new w (.int .i64 k) (.int .i64 d) (.int .i64 m) (.string b))
      have HB0 := Lib.hid ((Below.refl w.heap.size w).alloc (Nat.le_refl _) (.cells #[.int .i64 k, .int .i64 d, .int .i64 m, .string b] 23))
      have AL := Lib.hid (fun r (h : Below w.heap.size w r) => alive_yes r (HN.out.kept h))
      unfold pv
      go_enter Tryd.func7, Tryd.ntmps7
      go_wp2_with fail
      refine (AL.out _ HB0.out).mono ?_; rintro e w1 ⟨rfl, hb⟩
      have HP1 := Lib.hid (HP.out.kept hb)
      have HB1 := Lib.hid (HB0.out.trans (hb.mono (Below.size HB0.out)))
      clear hb HP HB0
      go_wp2_with fail
      go_ret
      exact ⟨rfl, HB1.out⟩
  · by_cases hy : y = 0
    · as_aux_lemma =>
        have hy' : ((y.toNat : Int) == 0) = true := by subst hy; rfl
        have HP := Lib.hid (Box.new w (.int .i64 k) (.int .i64 d) (.int .i64 m) (.string b))
        have HB0 := Lib.hid ((Below.refl w.heap.size w).alloc (Nat.le_refl _) (.cells #[.int .i64 k, .int .i64 d, .int .i64 m, .string b] 23))
        have AL := Lib.hid (fun r (h : Below w.heap.size w r) => alive_yes r (HN.out.kept h))
        unfold pv
        go_enter Tryd.func7, Tryd.ntmps7
        go_wp2_with fail
        refine (AL.out _ HB0.out).mono ?_; rintro e w1 ⟨rfl, hb⟩
        have HP1 := Lib.hid (HP.out.kept hb)
        have HB1 := Lib.hid (HB0.out.trans (hb.mono (Below.size HB0.out)))
        clear hb HP HB0
        go_wp2_with fail
        go_ret
        exact ⟨rfl, HB1.out⟩
    · have hy' : ((y.toNat : Int) == 0) = false := by
        rw [beq_eq_false_iff_ne]
        intro h
        apply hy
        apply UInt8.toNat_inj.1
        have : y.toNat = 0 := by omega
        rw [this]; rfl
      have HP := Lib.hid (Box.new w (.int .i64 k) (.int .i64 d) (.int .i64 m) (.string b))
      have HB0 := Lib.hid ((Below.refl w.heap.size w).alloc (Nat.le_refl _) (.cells #[.int .i64 k, .int .i64 d, .int .i64 m, .string b] 23))
      have AL := Lib.hid (fun r (h : Below w.heap.size w r) => alive_yes r (HN.out.kept h))
      unfold pv
      go_enter Tryd.func7, Tryd.ntmps7
      go_wp2_with fail
      refine (AL.out _ HB0.out).mono ?_; rintro e w1 ⟨rfl, hb⟩
      have HP1 := Lib.hid (HP.out.kept hb)
      have HB1 := Lib.hid (HB0.out.trans (hb.mono (Below.size HB0.out)))
      clear hb HP HB0
      obtain ⟨x0, x1, x2, x3⟩ := HP1.out.cells
      cases hok : okV k d m b with
      | false =>
        have PU := Lib.hid (put_bad k d m b hok w1)
        unfold pv at PU
        clear hok
        go_wp2_with fail
        refine PU.out.mono ?_; rintro e w2 ⟨rfl, hb⟩
        have HB2 := Lib.hid (HB1.out.trans (hb.mono (Below.size HB1.out)))
        clear hb
        go_wp2_with fail
        go_ret
        exact ⟨rfl, HB2.out⟩
      | true =>
        have PU := Lib.hid (put_ok k d m b hok w1)
        unfold pv at PU
        have HOK := okV_ok.1 hok
        obtain ⟨j, hj, hja⟩ := place a 256 (by omega) (by omega)
        have hja' : (wrap64 (a.tmod 256 + 256)).tmod 256 = (j : Int) := hja
        have HNE := turned_ne HOK (k := j) (by omega) (y := y) hy
        have hlen : (Pg.mk k d m b.data.toList).bytes.length = 256 := by rw [Pg.bytes_length, HOK.2.2.2]
        obtain ⟨c0, hc0⟩ : ∃ c0, c0 = (Pg.mk k d m b.data.toList).bytes.getD j 0 := ⟨_, rfl⟩
        rw [← hc0] at HNE
        obtain ⟨c, hc⟩ : ∃ c, c = c0 ^^^ y := ⟨_, rfl⟩
        rw [← hc] at HNE
        have HXO := Lib.hid (xor_u8 c0 y)
        rw [← hc] at HXO
        have HE := Lib.hid (patch_str (Pg.mk k d m b.data.toList).bytes j 256 (by omega) c)
        have GT := Lib.hid (fun w => get_any (str (patch (Pg.mk k d m b.data.toList).bytes j c)) (by rw [str_size, patch_length (by omega), hlen]; unfold maxLen; omega) w)
        rw [str_toList] at GT
        have HIX0 := fun w => run_ix (str (Pg.mk k d m b.data.toList).bytes) j (by rw [str_size, hlen]; exact hj) w
        rw [str_toList, ← hc0] at HIX0
        have HIX := Lib.hid HIX0
        obtain ⟨Q, hQ⟩ : ∃ Q, Q = valB (patch (Pg.mk k d m b.data.toList).bytes j c) := ⟨_, rfl⟩
        obtain ⟨g, hg⟩ : ∃ g, g = okB (patch (Pg.mk k d m b.data.toList).bytes j c) := ⟨_, rfl⟩
        rw [← hQ, ← hg] at GT HNE
        obtain ⟨q0, q1, q2, qb⟩ := Q
        have HQ := Lib.hid HNE
        unfold pvP pv at GT
        dsimp only at GT
        obtain ⟨q3, hq3⟩ : ∃ q3, q3 = str qb := ⟨_, rfl⟩
        rw [← hq3] at GT
        have HQ3 := Lib.hid hq3
        obtain ⟨bb, hbb⟩ : ∃ bb, bb = str (Pg.mk k d m b.data.toList).bytes := ⟨_, rfl⟩
        have hbs : bb.size = 256 := by rw [hbb, str_size, hlen]
        rw [← hbb] at PU HE HIX
        obtain ⟨sA, hA⟩ : ∃ sA, sA = bb.extract 0 j := ⟨_, rfl⟩
        obtain ⟨sB, hB⟩ : ∃ sB, sB = str [c] := ⟨_, rfl⟩
        obtain ⟨sC, hC⟩ : ∃ sC, sC = bb.extract (j + 1) 256 := ⟨_, rfl⟩
        rw [← hA, ← hB, ← hC] at HE
        have hAs : sA.size = j := by rw [hA, hbb, extract_str, str_size, List.length_take, hlen]; omega
        have hBs : sB.size = 1 := by rw [hB]; rfl
        have hCs : sC.size = 255 - j := by rw [hC, hbb, extract_str2 _ _ _ (by omega), str_size, List.length_drop, hlen]; omega
        rw [← HE.out] at GT
        have HA := Lib.hid hA.symm
        have HBB := Lib.hid hB
        have HCC := Lib.hid hC.symm
        clear hA hB hC hbb HE hq3 hQ hg HNE HIX0 hc hc0 hlen HOK hok hja
        have j0 : (0 : Int) ≤ (j : Int) := by omega
        have j1 : (j : Int) ≤ 256 := by omega
        have j2 : (j : Int) + 1 ≤ 256 := by omega
        have j3 : wrap64 ((j : Int) + 1) = (j : Int) + 1 := by unfold wrap64; omega
        have j3' : IntKind.i64.wrap ((j : Int) + 1) = (j : Int) + 1 := wrap_in _ (by omega) (by omega)
        have j4 : ((j : Int) + 1).toNat = j + 1 := by omega
        have j5 : (0 : Int) ≤ (j : Int) + 1 := by omega
        have j6 : j ≤ 9223372036854775806 := by omega
        have j7 : j + 1 + (255 - j) ≤ 9223372036854775807 := by omega
        go_wp2_with fail
        refine PU.out.mono ?_; rintro e U ⟨rfl, hb⟩
        have HB2 := Lib.hid (HB1.out.trans (hb.mono (Below.size HB1.out)))
        have HP2 := Lib.hid (HP1.out.kept hb)
        clear hb HB1 HP1 x0 x1 x2 x3 PU
        go_wp2_with fail
        refine wp_region_noPanic ?_
        refine wp_region_held_drew (S := Held U) (by kernel_rfl) ?_ (fun hHeld => ?_)
        · exact (Below.refl _ _).drew
        refine wpAnyH_take (i := 0) (oi := { dst := some 42, op := Op.move (Operand.tmp 7), type := 9, pos := "more2.go:23", after := #[], guard := none }) (v := .string bb) rfl (by kernel_rfl) (by kernel_rfl) (by kernel_rfl) (fun _ _ _ h => h) (Or.inl ⟨by rfl, fun w' hSw => by ((try dsimp only at hSw); go_simp)⟩) (by assumption) ?_
        (try simp only [Act.put, List.setIfInBounds_toArray, List.set_cons_zero, List.set_cons_succ])
        refine wpAnyH_take (i := 1) (oi := { dst := some 43, op := Op.move (Operand.tmp 9), type := 3, pos := "more2.go:23", after := #[], guard := none }) (v := .int .i64 j) rfl (by kernel_rfl) (by kernel_rfl) (by kernel_rfl) (fun _ _ _ h => h) (Or.inl ⟨by rfl, fun w' hSw => by ((try dsimp only at hSw); go_simp)⟩) (by assumption) ?_
        (try simp only [Act.put, List.setIfInBounds_toArray, List.set_cons_zero, List.set_cons_succ])
        refine wpAnyH_take (i := 2) (oi := { dst := some 44, op := Op.slice 9 (Operand.tmp 42) none (some (Operand.tmp 43)) none, type := 9, pos := "more2.go:23", after := #[{ on := 0, ground := Ground.data }, { on := 1, ground := Ground.data }], guard := none }) (v := .string sA) rfl (by kernel_rfl) (by kernel_rfl) (by kernel_rfl) (fun _ _ _ h => h) (Or.inl ⟨by rfl, fun w' hSw => by ((try dsimp only at hSw); have := HA.out; go_simp)⟩) (by assumption) ?_
        (try simp only [Act.put, List.setIfInBounds_toArray, List.set_cons_zero, List.set_cons_succ])
        refine wpAnyH_take (i := 3) (oi := { dst := some 45, op := Op.move (Operand.tmp 7), type := 9, pos := "more2.go:23", after := #[], guard := none }) (v := .string bb) rfl (by kernel_rfl) (by kernel_rfl) (by kernel_rfl) (fun _ _ _ h => h) (Or.inl ⟨by rfl, fun w' hSw => by ((try dsimp only at hSw); go_simp)⟩) (by assumption) ?_
        (try simp only [Act.put, List.setIfInBounds_toArray, List.set_cons_zero, List.set_cons_succ])
        refine wpAnyH_take (i := 4) (oi := { dst := some 46, op := Op.move (Operand.tmp 9), type := 3, pos := "more2.go:23", after := #[], guard := none }) (v := .int .i64 j) rfl (by kernel_rfl) (by kernel_rfl) (by kernel_rfl) (fun _ _ _ h => h) (Or.inl ⟨by rfl, fun w' hSw => by ((try dsimp only at hSw); go_simp)⟩) (by assumption) ?_
        (try simp only [Act.put, List.setIfInBounds_toArray, List.set_cons_zero, List.set_cons_succ])
        refine wpAnyH_take (i := 5) (oi := { dst := some 47, op := Op.index 9 (Operand.tmp 45) (Operand.tmp 46), type := 5, pos := "more2.go:23", after := #[{ on := 3, ground := Ground.data }, { on := 4, ground := Ground.data }], guard := none }) (v := .int .u8 (c0.toNat : Int)) rfl (by kernel_rfl) (by kernel_rfl) (by kernel_rfl) (fun _ _ _ h => h) (Or.inl ⟨by rfl, fun w' hSw => by ((try dsimp only at hSw); have := HIX.out w'; go_simp)⟩) (by assumption) ?_
        (try simp only [Act.put, List.setIfInBounds_toArray, List.set_cons_zero, List.set_cons_succ])
        refine wpAnyH_take (i := 6) (oi := { dst := some 48, op := Op.move (Operand.tmp 2), type := 5, pos := "more2.go:23", after := #[], guard := none }) (v := .int .u8 (y.toNat : Int)) rfl (by kernel_rfl) (by kernel_rfl) (by kernel_rfl) (fun _ _ _ h => h) (Or.inl ⟨by rfl, fun w' hSw => by ((try dsimp only at hSw); go_simp)⟩) (by assumption) ?_
        (try simp only [Act.put, List.setIfInBounds_toArray, List.set_cons_zero, List.set_cons_succ])
        refine wpAnyH_take (i := 7) (oi := { dst := some 49, op := Op.binOp BinOp.xor 5 (Operand.tmp 47) (Operand.tmp 48) 5, type := 5, pos := "more2.go:23", after := #[{ on := 5, ground := Ground.data }, { on := 6, ground := Ground.data }], guard := none }) (v := .int .u8 (c.toNat : Int)) rfl (by kernel_rfl) (by kernel_rfl) (by kernel_rfl) (fun _ _ _ h => h) (Or.inl ⟨by rfl, fun w' hSw => by ((try dsimp only at hSw); have := HXO.out; go_simp)⟩) (by assumption) ?_
        (try simp only [Act.put, List.setIfInBounds_toArray, List.set_cons_zero, List.set_cons_succ])
        refine wpAnyH_take (i := 11) (oi := { dst := some 53, op := Op.move (Operand.tmp 7), type := 9, pos := "more2.go:23", after := #[], guard := none }) (v := .string bb) rfl (by kernel_rfl) (by kernel_rfl) (by kernel_rfl) (fun _ _ _ h => h) (Or.inl ⟨by rfl, fun w' hSw => by ((try dsimp only at hSw); go_simp)⟩) (by assumption) ?_
        (try simp only [Act.put, List.setIfInBounds_toArray, List.set_cons_zero, List.set_cons_succ])
        refine wpAnyH_take (i := 12) (oi := { dst := some 54, op := Op.move (Operand.tmp 9), type := 3, pos := "more2.go:23", after := #[], guard := none }) (v := .int .i64 j) rfl (by kernel_rfl) (by kernel_rfl) (by kernel_rfl) (fun _ _ _ h => h) (Or.inl ⟨by rfl, fun w' hSw => by ((try dsimp only at hSw); go_simp)⟩) (by assumption) ?_
        (try simp only [Act.put, List.setIfInBounds_toArray, List.set_cons_zero, List.set_cons_succ])
        refine wpAnyH_take (i := 13) (oi := { dst := some 55, op := Op.binOp BinOp.add 3 (Operand.tmp 54) (Operand.const (Value.int IntKind.i64 1)) 3, type := 3, pos := "more2.go:23", after := #[{ on := 12, ground := Ground.data }], guard := none }) (v := .int .i64 ((j : Int) + 1)) rfl (by kernel_rfl) (by kernel_rfl) (by kernel_rfl) (fun _ _ _ h => h) (Or.inl ⟨by rfl, fun w' hSw => by ((try dsimp only at hSw); go_simp)⟩) (by assumption) ?_
        (try simp only [Act.put, List.setIfInBounds_toArray, List.set_cons_zero, List.set_cons_succ])
        refine wpAnyH_take (i := 14) (oi := { dst := some 56, op := Op.slice 9 (Operand.tmp 53) (some (Operand.tmp 55)) none none, type := 9, pos := "more2.go:23", after := #[{ on := 11, ground := Ground.data }, { on := 13, ground := Ground.data }], guard := none }) (v := .string sC) rfl (by kernel_rfl) (by kernel_rfl) (by kernel_rfl) (fun _ _ _ h => h) (Or.inl ⟨by rfl, fun w' hSw => by ((try dsimp only at hSw); have := HCC.out; go_simp)⟩) (by assumption) ?_
        (try simp only [Act.put, List.setIfInBounds_toArray, List.set_cons_zero, List.set_cons_succ])
        refine wpAnyH_ready (rs := [8, 20]) (by kernel_rfl) (by simp) ?_
        refine AllReadyH.cons (o := { dst := some 50, op := Op.buildSlice 33 1 #[(0, Operand.tmp 49)], type := 33, pos := "more2.go:23", after := #[{ on := 7, ground := Ground.data }], guard := none }) rfl (fun K hK => ?_) ?_
        · go_simp
          refine hK.out _ _ ?_ (fun hHeld => ?_)
          · exact Held.step (by assumption) ((Below.refl _ _).alloc (Nat.le_refl _) _)
          clear hK K
          (try simp only [Act.put, List.setIfInBounds_toArray, List.set_cons_zero, List.set_cons_succ])
          have hRow : HR U (U.heap.size) c _ := ⟨hHeld, heap_alloc_new U (.cells #[.int .u8 (c.toNat : Int)] 5)⟩
          refine wpAnyH_mono (S' := HR U (U.heap.size) c) (fun r h => h.1) ?_
          replace hHeld := hRow
          clear hRow
          refine wpAnyH_take (i := 9) (oi := { dst := some 51, op := Op.convert 33 9 (Operand.tmp 50), type := 9, pos := "more2.go:23", after := #[{ on := 8, ground := Ground.data }], guard := none }) (v := .string sB) rfl (by kernel_rfl) (by kernel_rfl) (by kernel_rfl) (fun _ _ _ h => h) (Or.inl ⟨by rfl, fun w' hSw => by ((try dsimp only at hSw); have := HR.convert hSw; rw [HBB.out]; go_simp)⟩) (by assumption) ?_
          (try simp only [Act.put, List.setIfInBounds_toArray, List.set_cons_zero, List.set_cons_succ])
          refine wpAnyH_take (i := 10) (oi := { dst := some 52, op := Op.binOp BinOp.add 9 (Operand.tmp 44) (Operand.tmp 51) 9, type := 9, pos := "more2.go:23", after := #[{ on := 2, ground := Ground.data }, { on := 9, ground := Ground.data }], guard := none }) (v := .string (sA ++ sB)) rfl (by kernel_rfl) (by kernel_rfl) (by kernel_rfl) (fun _ _ _ h => h) (Or.inl ⟨by rfl, fun w' hSw => by ((try dsimp only at hSw); go_simp)⟩) (by assumption) ?_
          (try simp only [Act.put, List.setIfInBounds_toArray, List.set_cons_zero, List.set_cons_succ])
          refine wpAnyH_take (i := 15) (oi := { dst := some 57, op := Op.binOp BinOp.add 9 (Operand.tmp 52) (Operand.tmp 56) 9, type := 9, pos := "more2.go:23", after := #[{ on := 10, ground := Ground.data }, { on := 14, ground := Ground.data }], guard := none }) (v := .string (sA ++ sB ++ sC)) rfl (by kernel_rfl) (by kernel_rfl) (by kernel_rfl) (fun _ _ _ h => h) (Or.inl ⟨by rfl, fun w' hSw => by ((try dsimp only at hSw); go_simp)⟩) (by assumption) ?_
          (try simp only [Act.put, List.setIfInBounds_toArray, List.set_cons_zero, List.set_cons_succ])
          refine wpAnyH_ready (rs := [16, 20]) (by kernel_rfl) (by simp) ?_
          refine AllReadyH.cons (o := { dst := some 58, op := Op.call { callee := Callee.value (Operand.func 12), args := #[Operand.tmp 57], argTypes := #[9] }, type := 27, pos := "more2.go:23", after := #[{ on := 15, ground := Ground.data }], guard := none }) rfl (fun K hK => ?_) ?_
          · go_simp; go_at_call 12; refine (GT.out _).mono ?_; rintro e w5 ⟨rfl, hb5⟩
            refine hK.out _ _ ?_ (fun hHeld => ?_)
            · exact HR.step (by assumption) hb5
            clear hK K
            (try simp only [Act.put, List.setIfInBounds_toArray, List.set_cons_zero, List.set_cons_succ])
            refine wpAnyH_take (i := 17) (oi := { dst := some 41, op := Op.move (Operand.tmp 58), type := 27, pos := "more2.go:23", after := #[{ on := 16, ground := Ground.data }], guard := none }) (v := .tuple #[.agg #[.int .i64 q0, .int .i64 q1, .int .i64 q2, .string q3], .bool g]) rfl (by kernel_rfl) (by kernel_rfl) (by kernel_rfl) (fun _ _ _ h => h) (Or.inl ⟨by rfl, fun w' hSw => by ((try dsimp only at hSw); go_simp)⟩) (by assumption) ?_
            (try simp only [Act.put, List.setIfInBounds_toArray, List.set_cons_zero, List.set_cons_succ])
            refine wpAnyH_take (i := 18) (oi := { dst := some 59, op := Op.extract (Operand.tmp 41) 0, type := 23, pos := "more2.go:23", after := #[{ on := 17, ground := Ground.data }], guard := none }) (v := .agg #[.int .i64 q0, .int .i64 q1, .int .i64 q2, .string q3]) rfl (by kernel_rfl) (by kernel_rfl) (by kernel_rfl) (fun _ _ _ h => h) (Or.inl ⟨by rfl, fun w' hSw => by ((try dsimp only at hSw); go_simp)⟩) (by assumption) ?_
            (try simp only [Act.put, List.setIfInBounds_toArray, List.set_cons_zero, List.set_cons_succ])
            refine wpAnyH_take (i := 19) (oi := { dst := some 60, op := Op.extract (Operand.tmp 41) 1, type := 4, pos := "more2.go:23", after := #[{ on := 17, ground := Ground.data }, { on := 21, ground := Ground.gcOnly Go.Departure.lateStores }], guard := none }) (v := .bool g) rfl (by kernel_rfl) (by kernel_rfl) (by kernel_rfl) (fun _ _ _ h => h) (Or.inl ⟨by rfl, fun w' hSw => by ((try dsimp only at hSw); go_simp)⟩) (by assumption) ?_
            (try simp only [Act.put, List.setIfInBounds_toArray, List.set_cons_zero, List.set_cons_succ])
            have hPre := hHeld
            refine wpAnyH_ready (rs := [20]) (by kernel_rfl) (by simp) ?_
            refine AllReadyH.cons (o := { dst := some 10, op := Op.alloc 23, type := 0, pos := "more2.go:23", after := #[], guard := none }) rfl (fun K hK => ?_) ?_
            · go_simp
              refine hK.out _ _ ?_ (fun hHeld => ?_)
              · exact HR.alloc (by assumption) _
              clear hK K
              (try simp only [Act.put, List.setIfInBounds_toArray, List.set_cons_zero, List.set_cons_succ])
              refine wpAnyH_ready (rs := [21]) (by kernel_rfl) (by simp) ?_
              refine AllReadyH.cons (o := { dst := none, op := Op.store 23 (Operand.tmp 10) (Operand.tmp 59), type := 0, pos := "more2.go:23", after := #[{ on := 20, ground := Ground.data }, { on := 18, ground := Ground.data }, { on := 16, ground := Ground.chain }, { on := 0, ground := Ground.phase }, { on := 1, ground := Ground.phase }, { on := 2, ground := Ground.phase }, { on := 3, ground := Ground.phase }, { on := 4, ground := Ground.phase }, { on := 5, ground := Ground.phase }, { on := 6, ground := Ground.phase }, { on := 7, ground := Ground.phase }, { on := 8, ground := Ground.phase }, { on := 9, ground := Ground.phase }, { on := 10, ground := Ground.phase }, { on := 11, ground := Ground.phase }, { on := 12, ground := Ground.phase }, { on := 13, ground := Ground.phase }, { on := 14, ground := Ground.phase }, { on := 15, ground := Ground.phase }, { on := 16, ground := Ground.phase }, { on := 17, ground := Ground.phase }, { on := 18, ground := Ground.phase }, { on := 19, ground := Ground.textOnly Go.Departure.lateStores }, { on := 20, ground := Ground.phase }], guard := none }) rfl (fun K hK => ?_) ?_
              · go_simp
                refine hK.out _ _ ?_ (fun hHeld => ?_)
                · exact HR.alloc hPre _
                clear hK K
                (try simp only [Act.put, List.setIfInBounds_toArray, List.set_cons_zero, List.set_cons_succ])
                refine wpAnyH_take (i := 22) (oi := { dst := some 11, op := Op.assign (Operand.tmp 60), type := 4, pos := "more2.go:23", after := #[{ on := 19, ground := Ground.data }, { on := 21, ground := Ground.chain }, { on := 0, ground := Ground.phase }, { on := 1, ground := Ground.phase }, { on := 2, ground := Ground.phase }, { on := 3, ground := Ground.phase }, { on := 4, ground := Ground.phase }, { on := 5, ground := Ground.phase }, { on := 6, ground := Ground.phase }, { on := 7, ground := Ground.phase }, { on := 8, ground := Ground.phase }, { on := 9, ground := Ground.phase }, { on := 10, ground := Ground.phase }, { on := 11, ground := Ground.phase }, { on := 12, ground := Ground.phase }, { on := 13, ground := Ground.phase }, { on := 14, ground := Ground.phase }, { on := 15, ground := Ground.phase }, { on := 16, ground := Ground.phase }, { on := 17, ground := Ground.phase }, { on := 18, ground := Ground.phase }, { on := 19, ground := Ground.phase }, { on := 20, ground := Ground.phase }, { on := 21, ground := Ground.phase }], guard := none }) (v := .bool g) rfl (by kernel_rfl) (by kernel_rfl) (by kernel_rfl) (fun _ _ _ h => h) (Or.inl ⟨by rfl, fun w' hSw => by ((try dsimp only at hSw); go_simp)⟩) (by assumption) ?_
                (try simp only [Act.put, List.setIfInBounds_toArray, List.set_cons_zero, List.set_cons_succ])
                refine wpAnyH_done (by kernel_rfl) ?_ _
                refine NoPanic.normal ?_
                have HF := Lib.hid (HB2.out.trans (Below.mono hHeld.1 (Below.size HB2.out)))
                have HPV := Lib.hid (HP2.out.below hHeld.1 (Nat.le_refl _))
                have HQV := Lib.hid (show Box (w5.alloc (.cells #[.int .i64 q0, .int .i64 q1, .int .i64 q2, .string q3] 23)) w5.heap.size (.int .i64 q0) (.int .i64 q1) (.int .i64 q2) (.string q3) from Box.new w5 _ _ _ _)
                clear hHeld HB2 HP2
                generalize (w5.alloc (.cells #[.int .i64 q0, .int .i64 q1, .int .i64 q2, .string q3] 23)) = V at *
                obtain ⟨x0, x1, x2, x3⟩ := HPV.out.cells
                obtain ⟨y0, y1, y2, y3⟩ := HQV.out.cells
                cases g with
                | false =>
                  go_wp2_with fail
                  go_ret
                  exact ⟨rfl, HF.out⟩
                | true =>
                  go_wp2_with fail
                  all_goals first
                    | (exfalso; refine HQ.out (by trivial) (Pg.same ‹q0 = k› ‹q1 = d› ‹q2 = m› ?_); have e := ‹q3.toList = b.toList›; rw [HQ3.out, str_list, ByteArray.toList_eq] at e; exact e)
                    | (go_ret; exact ⟨rfl, HF.out⟩)
              exact AllReadyH.nil
            exact AllReadyH.nil
          refine AllReadyH.cons (o := { dst := some 10, op := Op.alloc 23, type := 0, pos := "more2.go:23", after := #[], guard := none }) rfl (fun K hK => ?_) ?_
          · go_simp
            refine hK.out _ _ ?_ (fun hHeld => ?_)
            · exact HR.alloc (by assumption) _
            clear hK K
            (try simp only [Act.put, List.setIfInBounds_toArray, List.set_cons_zero, List.set_cons_succ])
            refine wpAnyH_ready (rs := [16]) (by kernel_rfl) (by simp) ?_
            refine AllReadyH.cons (o := { dst := some 58, op := Op.call { callee := Callee.value (Operand.func 12), args := #[Operand.tmp 57], argTypes := #[9] }, type := 27, pos := "more2.go:23", after := #[{ on := 15, ground := Ground.data }], guard := none }) rfl (fun K hK => ?_) ?_
            · go_simp; go_at_call 12; refine (GT.out _).mono ?_; rintro e w5 ⟨rfl, hb5⟩
              refine hK.out _ _ ?_ (fun hHeld => ?_)
              · exact HR.step (by assumption) hb5
              clear hK K
              (try simp only [Act.put, List.setIfInBounds_toArray, List.set_cons_zero, List.set_cons_succ])
              refine wpAnyH_take (i := 17) (oi := { dst := some 41, op := Op.move (Operand.tmp 58), type := 27, pos := "more2.go:23", after := #[{ on := 16, ground := Ground.data }], guard := none }) (v := .tuple #[.agg #[.int .i64 q0, .int .i64 q1, .int .i64 q2, .string q3], .bool g]) rfl (by kernel_rfl) (by kernel_rfl) (by kernel_rfl) (fun _ _ _ h => h) (Or.inl ⟨by rfl, fun w' hSw => by ((try dsimp only at hSw); go_simp)⟩) (by assumption) ?_
              (try simp only [Act.put, List.setIfInBounds_toArray, List.set_cons_zero, List.set_cons_succ])
              refine wpAnyH_take (i := 18) (oi := { dst := some 59, op := Op.extract (Operand.tmp 41) 0, type := 23, pos := "more2.go:23", after := #[{ on := 17, ground := Ground.data }], guard := none }) (v := .agg #[.int .i64 q0, .int .i64 q1, .int .i64 q2, .string q3]) rfl (by kernel_rfl) (by kernel_rfl) (by kernel_rfl) (fun _ _ _ h => h) (Or.inl ⟨by rfl, fun w' hSw => by ((try dsimp only at hSw); go_simp)⟩) (by assumption) ?_
              (try simp only [Act.put, List.setIfInBounds_toArray, List.set_cons_zero, List.set_cons_succ])
              refine wpAnyH_take (i := 19) (oi := { dst := some 60, op := Op.extract (Operand.tmp 41) 1, type := 4, pos := "more2.go:23", after := #[{ on := 17, ground := Ground.data }, { on := 21, ground := Ground.gcOnly Go.Departure.lateStores }], guard := none }) (v := .bool g) rfl (by kernel_rfl) (by kernel_rfl) (by kernel_rfl) (fun _ _ _ h => h) (Or.inl ⟨by rfl, fun w' hSw => by ((try dsimp only at hSw); go_simp)⟩) (by assumption) ?_
              (try simp only [Act.put, List.setIfInBounds_toArray, List.set_cons_zero, List.set_cons_succ])
              have HY := Lib.hid (show Box w5 (U.heap.size + 1) _ _ _ _ from (show Box (((U.alloc (.cells #[.int .u8 (c.toNat : Int)] 5)).alloc (.cells #[.int .i64 0, .int .i64 0, .int .i64 0, .string ⟨#[]⟩] 23)).drew) (U.heap.size + 1) _ _ _ _ from by rw [show U.heap.size + 1 = (U.alloc (.cells #[.int .u8 (c.toNat : Int)] 5)).heap.size by simp]; exact Box.new (U.alloc (.cells #[.int .u8 (c.toNat : Int)] 5)) (.int .i64 0) (.int .i64 0) (.int .i64 0) (.string ⟨#[]⟩)).kept hb5)
              obtain ⟨⟨z0, z1, z2, z3⟩, g0, g1, g2, g3⟩ := And.intro HY.out.cells HY.out.free
              refine wpAnyH_ready (rs := [21]) (by kernel_rfl) (by simp) ?_
              refine AllReadyH.cons (o := { dst := none, op := Op.store 23 (Operand.tmp 10) (Operand.tmp 59), type := 0, pos := "more2.go:23", after := #[{ on := 20, ground := Ground.data }, { on := 18, ground := Ground.data }, { on := 16, ground := Ground.chain }, { on := 0, ground := Ground.phase }, { on := 1, ground := Ground.phase }, { on := 2, ground := Ground.phase }, { on := 3, ground := Ground.phase }, { on := 4, ground := Ground.phase }, { on := 5, ground := Ground.phase }, { on := 6, ground := Ground.phase }, { on := 7, ground := Ground.phase }, { on := 8, ground := Ground.phase }, { on := 9, ground := Ground.phase }, { on := 10, ground := Ground.phase }, { on := 11, ground := Ground.phase }, { on := 12, ground := Ground.phase }, { on := 13, ground := Ground.phase }, { on := 14, ground := Ground.phase }, { on := 15, ground := Ground.phase }, { on := 16, ground := Ground.phase }, { on := 17, ground := Ground.phase }, { on := 18, ground := Ground.phase }, { on := 19, ground := Ground.textOnly Go.Departure.lateStores }, { on := 20, ground := Ground.phase }], guard := none }) rfl (fun K hK => ?_) ?_
              · go_simp
                refine hK.out _ _ ?_ (fun hHeld => ?_)
                · exact HR.set4 (by assumption) (by omega) (by omega) _ _ _ _
                clear hK K
                (try simp only [Act.put, List.setIfInBounds_toArray, List.set_cons_zero, List.set_cons_succ])
                clear z0 z1 z2 z3 g0 g1 g2 g3
                refine wpAnyH_take (i := 22) (oi := { dst := some 11, op := Op.assign (Operand.tmp 60), type := 4, pos := "more2.go:23", after := #[{ on := 19, ground := Ground.data }, { on := 21, ground := Ground.chain }, { on := 0, ground := Ground.phase }, { on := 1, ground := Ground.phase }, { on := 2, ground := Ground.phase }, { on := 3, ground := Ground.phase }, { on := 4, ground := Ground.phase }, { on := 5, ground := Ground.phase }, { on := 6, ground := Ground.phase }, { on := 7, ground := Ground.phase }, { on := 8, ground := Ground.phase }, { on := 9, ground := Ground.phase }, { on := 10, ground := Ground.phase }, { on := 11, ground := Ground.phase }, { on := 12, ground := Ground.phase }, { on := 13, ground := Ground.phase }, { on := 14, ground := Ground.phase }, { on := 15, ground := Ground.phase }, { on := 16, ground := Ground.phase }, { on := 17, ground := Ground.phase }, { on := 18, ground := Ground.phase }, { on := 19, ground := Ground.phase }, { on := 20, ground := Ground.phase }, { on := 21, ground := Ground.phase }], guard := none }) (v := .bool g) rfl (by kernel_rfl) (by kernel_rfl) (by kernel_rfl) (fun _ _ _ h => h) (Or.inl ⟨by rfl, fun w' hSw => by ((try dsimp only at hSw); go_simp)⟩) (by assumption) ?_
                (try simp only [Act.put, List.setIfInBounds_toArray, List.set_cons_zero, List.set_cons_succ])
                refine wpAnyH_done (by kernel_rfl) ?_ _
                refine NoPanic.normal ?_
                have HF := Lib.hid (HB2.out.trans (Below.mono hHeld.1 (Below.size HB2.out)))
                have HPV := Lib.hid (HP2.out.below hHeld.1 (Nat.le_refl _))
                have HQV := Lib.hid (show Box ((((w5.setCell ⟨U.heap.size + 1, 0, none⟩ (.int .i64 q0)).setCell ⟨U.heap.size + 1, 1, none⟩ (.int .i64 q1)).setCell ⟨U.heap.size + 1, 2, none⟩ (.int .i64 q2)).setCell ⟨U.heap.size + 1, 3, none⟩ (.string q3)) (U.heap.size + 1) (.int .i64 q0) (.int .i64 q1) (.int .i64 q2) (.string q3) from Box.set4 HY.out _ _ _ _)
                clear hHeld HB2 HP2
                generalize ((((w5.setCell ⟨U.heap.size + 1, 0, none⟩ (.int .i64 q0)).setCell ⟨U.heap.size + 1, 1, none⟩ (.int .i64 q1)).setCell ⟨U.heap.size + 1, 2, none⟩ (.int .i64 q2)).setCell ⟨U.heap.size + 1, 3, none⟩ (.string q3)) = V at *
                obtain ⟨x0, x1, x2, x3⟩ := HPV.out.cells
                obtain ⟨y0, y1, y2, y3⟩ := HQV.out.cells
                cases g with
                | false =>
                  go_wp2_with fail
                  go_ret
                  exact ⟨rfl, HF.out⟩
                | true =>
                  go_wp2_with fail
                  all_goals first
                    | (exfalso; refine HQ.out (by trivial) (Pg.same ‹q0 = k› ‹q1 = d› ‹q2 = m› ?_); have e := ‹q3.toList = b.toList›; rw [HQ3.out, str_list, ByteArray.toList_eq] at e; exact e)
                    | (go_ret; exact ⟨rfl, HF.out⟩)
              exact AllReadyH.nil
            exact AllReadyH.nil
          exact AllReadyH.nil
        refine AllReadyH.cons (o := { dst := some 10, op := Op.alloc 23, type := 0, pos := "more2.go:23", after := #[], guard := none }) rfl (fun K hK => ?_) ?_
        · go_simp
          refine hK.out _ _ ?_ (fun hHeld => ?_)
          · exact Held.step (by assumption) ((Below.refl _ _).alloc (Nat.le_refl _) _)
          clear hK K
          (try simp only [Act.put, List.setIfInBounds_toArray, List.set_cons_zero, List.set_cons_succ])
          refine wpAnyH_ready (rs := [8]) (by kernel_rfl) (by simp) ?_
          refine AllReadyH.cons (o := { dst := some 50, op := Op.buildSlice 33 1 #[(0, Operand.tmp 49)], type := 33, pos := "more2.go:23", after := #[{ on := 7, ground := Ground.data }], guard := none }) rfl (fun K hK => ?_) ?_
          · go_simp
            refine hK.out _ _ ?_ (fun hHeld => ?_)
            · exact Held.step (by assumption) ((Below.refl _ _).alloc (Nat.le_refl _) _)
            clear hK K
            (try simp only [Act.put, List.setIfInBounds_toArray, List.set_cons_zero, List.set_cons_succ])
            have hRow : HR U (U.heap.size + 1) c _ := ⟨hHeld, by rw [show U.heap.size + 1 = (U.alloc (.cells #[.int .i64 0, .int .i64 0, .int .i64 0, .string ⟨#[]⟩] 23)).heap.size by simp]; exact heap_alloc_new (U.alloc (.cells #[.int .i64 0, .int .i64 0, .int .i64 0, .string ⟨#[]⟩] 23)) (.cells #[.int .u8 (c.toNat : Int)] 5)⟩
            refine wpAnyH_mono (S' := HR U (U.heap.size + 1) c) (fun r h => h.1) ?_
            replace hHeld := hRow
            clear hRow
            refine wpAnyH_take (i := 9) (oi := { dst := some 51, op := Op.convert 33 9 (Operand.tmp 50), type := 9, pos := "more2.go:23", after := #[{ on := 8, ground := Ground.data }], guard := none }) (v := .string sB) rfl (by kernel_rfl) (by kernel_rfl) (by kernel_rfl) (fun _ _ _ h => h) (Or.inl ⟨by rfl, fun w' hSw => by ((try dsimp only at hSw); have := HR.convert hSw; rw [HBB.out]; go_simp)⟩) (by assumption) ?_
            (try simp only [Act.put, List.setIfInBounds_toArray, List.set_cons_zero, List.set_cons_succ])
            refine wpAnyH_take (i := 10) (oi := { dst := some 52, op := Op.binOp BinOp.add 9 (Operand.tmp 44) (Operand.tmp 51) 9, type := 9, pos := "more2.go:23", after := #[{ on := 2, ground := Ground.data }, { on := 9, ground := Ground.data }], guard := none }) (v := .string (sA ++ sB)) rfl (by kernel_rfl) (by kernel_rfl) (by kernel_rfl) (fun _ _ _ h => h) (Or.inl ⟨by rfl, fun w' hSw => by ((try dsimp only at hSw); go_simp)⟩) (by assumption) ?_
            (try simp only [Act.put, List.setIfInBounds_toArray, List.set_cons_zero, List.set_cons_succ])
            refine wpAnyH_take (i := 15) (oi := { dst := some 57, op := Op.binOp BinOp.add 9 (Operand.tmp 52) (Operand.tmp 56) 9, type := 9, pos := "more2.go:23", after := #[{ on := 10, ground := Ground.data }, { on := 14, ground := Ground.data }], guard := none }) (v := .string (sA ++ sB ++ sC)) rfl (by kernel_rfl) (by kernel_rfl) (by kernel_rfl) (fun _ _ _ h => h) (Or.inl ⟨by rfl, fun w' hSw => by ((try dsimp only at hSw); go_simp)⟩) (by assumption) ?_
            (try simp only [Act.put, List.setIfInBounds_toArray, List.set_cons_zero, List.set_cons_succ])
            refine wpAnyH_ready (rs := [16]) (by kernel_rfl) (by simp) ?_
            refine AllReadyH.cons (o := { dst := some 58, op := Op.call { callee := Callee.value (Operand.func 12), args := #[Operand.tmp 57], argTypes := #[9] }, type := 27, pos := "more2.go:23", after := #[{ on := 15, ground := Ground.data }], guard := none }) rfl (fun K hK => ?_) ?_
            · go_simp; go_at_call 12; refine (GT.out _).mono ?_; rintro e w5 ⟨rfl, hb5⟩
              refine hK.out _ _ ?_ (fun hHeld => ?_)
              · exact HR.step (by assumption) hb5
              clear hK K
              (try simp only [Act.put, List.setIfInBounds_toArray, List.set_cons_zero, List.set_cons_succ])
              refine wpAnyH_take (i := 17) (oi := { dst := some 41, op := Op.move (Operand.tmp 58), type := 27, pos := "more2.go:23", after := #[{ on := 16, ground := Ground.data }], guard := none }) (v := .tuple #[.agg #[.int .i64 q0, .int .i64 q1, .int .i64 q2, .string q3], .bool g]) rfl (by kernel_rfl) (by kernel_rfl) (by kernel_rfl) (fun _ _ _ h => h) (Or.inl ⟨by rfl, fun w' hSw => by ((try dsimp only at hSw); go_simp)⟩) (by assumption) ?_
              (try simp only [Act.put, List.setIfInBounds_toArray, List.set_cons_zero, List.set_cons_succ])
              refine wpAnyH_take (i := 18) (oi := { dst := some 59, op := Op.extract (Operand.tmp 41) 0, type := 23, pos := "more2.go:23", after := #[{ on := 17, ground := Ground.data }], guard := none }) (v := .agg #[.int .i64 q0, .int .i64 q1, .int .i64 q2, .string q3]) rfl (by kernel_rfl) (by kernel_rfl) (by kernel_rfl) (fun _ _ _ h => h) (Or.inl ⟨by rfl, fun w' hSw => by ((try dsimp only at hSw); go_simp)⟩) (by assumption) ?_
              (try simp only [Act.put, List.setIfInBounds_toArray, List.set_cons_zero, List.set_cons_succ])
              refine wpAnyH_take (i := 19) (oi := { dst := some 60, op := Op.extract (Operand.tmp 41) 1, type := 4, pos := "more2.go:23", after := #[{ on := 17, ground := Ground.data }, { on := 21, ground := Ground.gcOnly Go.Departure.lateStores }], guard := none }) (v := .bool g) rfl (by kernel_rfl) (by kernel_rfl) (by kernel_rfl) (fun _ _ _ h => h) (Or.inl ⟨by rfl, fun w' hSw => by ((try dsimp only at hSw); go_simp)⟩) (by assumption) ?_
              (try simp only [Act.put, List.setIfInBounds_toArray, List.set_cons_zero, List.set_cons_succ])
              have HY := Lib.hid (show Box w5 (U.heap.size) _ _ _ _ from (show Box (((U.alloc (.cells #[.int .i64 0, .int .i64 0, .int .i64 0, .string ⟨#[]⟩] 23)).alloc (.cells #[.int .u8 (c.toNat : Int)] 5)).drew) U.heap.size _ _ _ _ from (Box.new U (.int .i64 0) (.int .i64 0) (.int .i64 0) (.string ⟨#[]⟩)).kept (Below.drew ((Below.refl _ _).alloc (Nat.le_refl _) _))).kept hb5)
              obtain ⟨⟨z0, z1, z2, z3⟩, g0, g1, g2, g3⟩ := And.intro HY.out.cells HY.out.free
              refine wpAnyH_ready (rs := [21]) (by kernel_rfl) (by simp) ?_
              refine AllReadyH.cons (o := { dst := none, op := Op.store 23 (Operand.tmp 10) (Operand.tmp 59), type := 0, pos := "more2.go:23", after := #[{ on := 20, ground := Ground.data }, { on := 18, ground := Ground.data }, { on := 16, ground := Ground.chain }, { on := 0, ground := Ground.phase }, { on := 1, ground := Ground.phase }, { on := 2, ground := Ground.phase }, { on := 3, ground := Ground.phase }, { on := 4, ground := Ground.phase }, { on := 5, ground := Ground.phase }, { on := 6, ground := Ground.phase }, { on := 7, ground := Ground.phase }, { on := 8, ground := Ground.phase }, { on := 9, ground := Ground.phase }, { on := 10, ground := Ground.phase }, { on := 11, ground := Ground.phase }, { on := 12, ground := Ground.phase }, { on := 13, ground := Ground.phase }, { on := 14, ground := Ground.phase }, { on := 15, ground := Ground.phase }, { on := 16, ground := Ground.phase }, { on := 17, ground := Ground.phase }, { on := 18, ground := Ground.phase }, { on := 19, ground := Ground.textOnly Go.Departure.lateStores }, { on := 20, ground := Ground.phase }], guard := none }) rfl (fun K hK => ?_) ?_
              · go_simp
                refine hK.out _ _ ?_ (fun hHeld => ?_)
                · exact HR.set4 (by assumption) (Nat.le_refl _) (by omega) _ _ _ _
                clear hK K
                (try simp only [Act.put, List.setIfInBounds_toArray, List.set_cons_zero, List.set_cons_succ])
                clear z0 z1 z2 z3 g0 g1 g2 g3
                refine wpAnyH_take (i := 22) (oi := { dst := some 11, op := Op.assign (Operand.tmp 60), type := 4, pos := "more2.go:23", after := #[{ on := 19, ground := Ground.data }, { on := 21, ground := Ground.chain }, { on := 0, ground := Ground.phase }, { on := 1, ground := Ground.phase }, { on := 2, ground := Ground.phase }, { on := 3, ground := Ground.phase }, { on := 4, ground := Ground.phase }, { on := 5, ground := Ground.phase }, { on := 6, ground := Ground.phase }, { on := 7, ground := Ground.phase }, { on := 8, ground := Ground.phase }, { on := 9, ground := Ground.phase }, { on := 10, ground := Ground.phase }, { on := 11, ground := Ground.phase }, { on := 12, ground := Ground.phase }, { on := 13, ground := Ground.phase }, { on := 14, ground := Ground.phase }, { on := 15, ground := Ground.phase }, { on := 16, ground := Ground.phase }, { on := 17, ground := Ground.phase }, { on := 18, ground := Ground.phase }, { on := 19, ground := Ground.phase }, { on := 20, ground := Ground.phase }, { on := 21, ground := Ground.phase }], guard := none }) (v := .bool g) rfl (by kernel_rfl) (by kernel_rfl) (by kernel_rfl) (fun _ _ _ h => h) (Or.inl ⟨by rfl, fun w' hSw => by ((try dsimp only at hSw); go_simp)⟩) (by assumption) ?_
                (try simp only [Act.put, List.setIfInBounds_toArray, List.set_cons_zero, List.set_cons_succ])
                refine wpAnyH_done (by kernel_rfl) ?_ _
                refine NoPanic.normal ?_
                have HF := Lib.hid (HB2.out.trans (Below.mono hHeld.1 (Below.size HB2.out)))
                have HPV := Lib.hid (HP2.out.below hHeld.1 (Nat.le_refl _))
                have HQV := Lib.hid (show Box ((((w5.setCell ⟨U.heap.size, 0, none⟩ (.int .i64 q0)).setCell ⟨U.heap.size, 1, none⟩ (.int .i64 q1)).setCell ⟨U.heap.size, 2, none⟩ (.int .i64 q2)).setCell ⟨U.heap.size, 3, none⟩ (.string q3)) (U.heap.size) (.int .i64 q0) (.int .i64 q1) (.int .i64 q2) (.string q3) from Box.set4 HY.out _ _ _ _)
                clear hHeld HB2 HP2
                generalize ((((w5.setCell ⟨U.heap.size, 0, none⟩ (.int .i64 q0)).setCell ⟨U.heap.size, 1, none⟩ (.int .i64 q1)).setCell ⟨U.heap.size, 2, none⟩ (.int .i64 q2)).setCell ⟨U.heap.size, 3, none⟩ (.string q3)) = V at *
                obtain ⟨x0, x1, x2, x3⟩ := HPV.out.cells
                obtain ⟨y0, y1, y2, y3⟩ := HQV.out.cells
                cases g with
                | false =>
                  go_wp2_with fail
                  go_ret
                  exact ⟨rfl, HF.out⟩
                | true =>
                  go_wp2_with fail
                  all_goals first
                    | (exfalso; refine HQ.out (by trivial) (Pg.same ‹q0 = k› ‹q1 = d› ‹q2 = m› ?_); have e := ‹q3.toList = b.toList›; rw [HQ3.out, str_list, ByteArray.toList_eq] at e; exact e)
                    | (go_ret; exact ⟨rfl, HF.out⟩)
              exact AllReadyH.nil
            exact AllReadyH.nil
          exact AllReadyH.nil
        exact AllReadyH.nil

/-! The row's step. -/
set_option maxRecDepth 100000 in
theorem lifted (os : Os) (started : os.Started) (H : Type) (enc : TypeId × Value → H) :
    ReturnsInHanded {} Tryd.checked os 7 .any (fun w args => (Rows.pageTurnedSpec.pre enc Tryd.prog Tryd.f7 [] false w args ∧ laidMetH Tryd.prog laidL w) ∧ sizedMet enc Tryd.prog Tryd.f7 (OpenSpec.ofChange Rows.pageTurnedSpec) false w args)
      (Rows.pageTurnedSpec.post enc Tryd.prog Tryd.f7 false true false false) := by
  refine returnsInHanded_of_change_and (C := Tryd.checked) (X := fun w _ => laidMetH Tryd.prog laidL w) (fun _ _ _ hh h => h.of_heap hh) own started (by kernel_rfl) Tryd.func7
    (ChangeSpec.witness_shaped (enc := enc) (C := Tryd.checked) (os := os) (X := fun w _ => laidMetH Tryd.prog laidL w) false (World.doorLaid Tryd.prog 400 os) #[.agg #[.int .i64 0, .int .i64 0, .int .i64 0, .string ByteArray.empty], .int .i64 0, .int .u8 0] 8 rfl (World.shaped_of_RefB (by kernel_rfl) (by kernel_rfl)) (by kernel_rfl) (by kernel_rfl) (by kernel_rfl) (door_met os _)) ?_
  intro W base args ds gs before hval0 hW _ _ hL _
  have hval : ∀ (j : Nat) t v, Tryd.f7.params[j]? = some t → args[j]? = some v → Value.okWide Tryd.prog W .any base t v := hval0
  have hW' := hW
  obtain ⟨p, q, hA0, hV, rfl, hfz, hnd⟩ := hW
  have hA : DataW.TrodAll enc Tryd.prog W 0 (fun _ => true) true Tryd.f7.params.toList args.toList ds p := hA0
  rw [Tryd.params7] at hA hval
  obtain ⟨v0, vs0, d0, ds0, p0, q0, hargs, rfl, rfl, h0, r0⟩ := trodAll_cons hA
  obtain ⟨v1, vs1, d1, ds1, p1, q1, rfl, rfl, rfl, h1, r1⟩ := trodAll_cons r0
  obtain ⟨v2, vs2, d2, ds2, p2, q2, rfl, rfl, rfl, h2, r2⟩ := trodAll_cons r1
  obtain ⟨rfl, rfl, rfl⟩ := trodAll_nil r2
  obtain rfl : args = #[v0, v1, v2] := by cases args; simp_all
  obtain ⟨rfl, rfl⟩ := trodVars_none hV
  obtain ⟨a0, b0, c0, s0, rfl, wa0, wb0, wc0, ws0, sh0⟩ := open_page (hval 0 23 v0 rfl rfl) h0
  obtain ⟨a1, rfl, rfl, rfl, w1⟩ := open_int Tryd.underlying3 (hval 1 3 v1 rfl rfl) h1
  obtain ⟨a2, rfl, rfl, rfl, w2⟩ := open_int Tryd.underlying5 (hval 2 5 v2 rfl rfl) h2
  clear hA0 hval0
  refine (walk a0 b0 c0 s0 a1 a2 W wa0 wb0 wc0 ws0 w1 w2 (of_laid hL)).mono fun e W' ⟨he, bel⟩ => ?_
  subst he
  exact ⟨_, rfl, _, _, _, [], _, [], hW', trodAll_mk1 (shut_bool Tryd.underlying4 _), (trodAll_cons_mk (sh0 _ _) (trodAll_cons_mk (shut_int Tryd.underlying3 w1) (trodAll_cons_mk (shut_int Tryd.underlying5 w2) trodAll_mk0))), rfl, bel.frame _, fun h => by cases h⟩

/-- The row's statement. -/
theorem over : Rows.PageTurnedSaid :=
  OpenClaim.holds_of_wide 7 Tryd.f7 rfl rfl rfl rfl rfl rfl rfl ⟨rfl, rfl, rfl, rfl, rfl⟩ rfl rfl rfl rfl rfl (by kernel_rfl) Tryd.func7 (by kernel_rfl)
    (of_decide_eq_true (by kernel_rfl)) (by unfold Func.isWrapper; first | (rw [if_pos (by decide +kernel)]; kernel_rfl) | (rw [if_neg (by decide +kernel)]; exact ⟨rfl, rfl⟩))
    (fun os started H enc _ => lifted os started H enc)

/-- The card. -/
theorem proved : Rows.PageTurnedCardSaid :=
  Claim7.holds_tied_plain_at .later [] [.data] true Rows.pageTurnedCard.stood.harness false
    over (fun _ h => by cases h) (by kernel_rfl) (fun _ h => by cases h) pageTurned_row_tie rfl ⟨rfl, rfl⟩ (by kernel_rfl) rfl
    (fun f fn hf hfn => by
      obtain rfl : f = 7 := Option.some.inj ((show Tryd.prog.funcNamed "honeycomb/honeycomblaw5.PageTurned" = some 7 by kernel_rfl).symm.trans hf) |>.symm
      obtain rfl : fn = Tryd.f7 := (Option.some.inj (Tryd.func7.symm.trans hfn)).symm
      exact ⟨by kernel_rfl, fun j t ht => by
        rw [Tryd.params7] at ht
        have hm : t ∈ [23, 3, 5] := by simpa using Array.mem_of_getElem? ht
        have hall : ([23, 3, 5].all fun u => !Tryd.prog.wantsStandIn u) = true := by kernel_rfl
        exact (show Tryd.prog.wantsStandIn t = false by simpa using List.all_eq_true.1 hall t hm)⟩)
    (by kernel_rfl)
end Go.Proofs.YtanhoiikjneeaaaDoor.pageTurned
