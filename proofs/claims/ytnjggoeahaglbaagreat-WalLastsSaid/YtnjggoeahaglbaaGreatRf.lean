/- Light: is a record short enough? What it says of the patches. -/
import Derived.Test.YtnjggoeahaglbaaGreatRows
import Derived.Test.YtnjggoeahaglbaaGreatRe
import Derived.LoopTactic
import Derived.StillTailTactics
import Derived.Deep.DeepCutAuto
import Derived.Deep.CutBlock
import Derived.Deep.Slices
import Derived.Deep.Fields
import Derived.SliceStrings
import Derived.ChangeOld
import Derived.ChangeSame
import Derived.Below
import Derived.Carry
import Derived.LaidMore
import Derived.LaidLaws
import Derived.LaidHandle
import Derived.OpenShut
import Derived.Stop.Joined
import Derived.Lib.SmallJoins
namespace Go.Proofs.YtnjggoeahaglbaaGreat.Rc
open Go.ChangeShapes Go.WideShapes Go.ChangeAt Go.RowKit
set_option linter.unusedVariables false
set_option linter.unusedSimpArgs false
set_option maxRecDepth 100000
def LightP (m : Nat) (w : World) (e : Ending) (w' : World) : Prop := ∃ z, e = .returned (.bool z) ∧ (z = true → m ≤ 60) ∧ Below w.heap.size w w'
theorem LightP.no {m : Nat} {w w' : World} (h : Below w.heap.size w w') : LightP m w (.returned (.bool false)) w' := ⟨false, rfl, (fun h => by cases h), h⟩
theorem LightP.yes {m : Nat} {w w' : World} (hm : m ≤ 60) (h : Below w.heap.size w w') : LightP m w (.returned (.bool true)) w' := ⟨true, rfl, fun _ => hm, h⟩
set_option maxHeartbeats 8000000 in
theorem light_any {C : Nat} (r : Rc) (h : Hd) (w : World) (hr : RcM C w r h) (hC : C ≤ w.heap.size) :
    Calls Tryz.prog 33 #[rcv r h] w fun e w' => LightP r.pts.length w e w' := by
  obtain ⟨kind, tx, prev, next, key, had, ⟨ok, ov, ob, oz⟩, pages, pts, txs, dys⟩ := r
  obtain ⟨⟨A1, n1, c1⟩, ⟨A2, n2, c2⟩, ⟨A3, n3, c3⟩, ⟨A4, n4, c4⟩⟩ := h
  have HA := Lib.hid ((Below.refl w.heap.size w).alloc (Nat.le_refl _) (.cells #[.int .i64 kind, .int .i64 tx, .int .i64 prev, .int .i64 next, .string key, .bool had, .string ok, .string ov, .int .i64 ob, .int .i64 oz, .slice A1 n1 c1, .slice A2 n2 c2, .slice A3 n3 c3, .slice A4 n4 c4] 43))
  have HX := Lib.hid (Bx.new w #[.int .i64 kind, .int .i64 tx, .int .i64 prev, .int .i64 next, .string key, .bool had, .string ok, .string ov, .int .i64 ob, .int .i64 oz, .slice A1 n1 c1, .slice A2 n2 c2, .slice A3 n3 c3, .slice A4 n4 c4] 43)
  have HP := Lib.hid ((hr.p.more hC).kept HA.out)
  have HT := Lib.hid ((hr.t.more hC).kept HA.out)
  have hp1 := hr.p.1
  have hp2 := hr.p.2.1
  have ht2 := hr.t.2.1
  have ho := hr.old
  unfold maxLen at hp2 ht2
  dsimp only at hp1 hp2 ht2 HP HT
  have HL := Lib.hid hp1
  have hN2 : (n2 : Int) ≤ 9223372036854775807 := by omega
  have hN3 : (n3 : Int) ≤ 9223372036854775807 := by omega
  unfold rcv
  dsimp only
  clear hr hC hp1 hp2 ht2 ho
  go_enter Tryz.func33, Tryz.ntmps33
  go_upto_region 1 with fail
  generalize w.alloc (.cells #[.int .i64 kind, .int .i64 tx, .int .i64 prev, .int .i64 next, .string key, .bool had, .string ok, .string ov, .int .i64 ob, .int .i64 oz, .slice A1 n1 c1, .slice A2 n2 c2, .slice A3 n3 c3, .slice A4 n4 c4] 43) = W at *
  have x4 : W.cell? ⟨w.heap.size, 4, none⟩ = some (.string key) := HX.out.cell 4
  have x6 : W.cell? ⟨w.heap.size, 6, none⟩ = some (.string ok) := HX.out.cell 6
  have x7 : W.cell? ⟨w.heap.size, 7, none⟩ = some (.string ov) := HX.out.cell 7
  have x10 : W.cell? ⟨w.heap.size, 10, none⟩ = some (.slice A1 n1 c1) := HX.out.cell 10
  have x11 : W.cell? ⟨w.heap.size, 11, none⟩ = some (.slice A2 n2 c2) := HX.out.cell 11
  have x12 : W.cell? ⟨w.heap.size, 12, none⟩ = some (.slice A3 n3 c3) := HX.out.cell 12
  have x13 : W.cell? ⟨w.heap.size, 13, none⟩ = some (.slice A4 n4 c4) := HX.out.cell 13
  go_wp2_with fail
  go_loopw [3, 22] (fun u x wr => ∃ (k : Nat) (n : Int), k ≤ n2 ∧ u = .int .i64 n ∧ x = .int .i64 k ∧ wr = W) (fun _ x _ => n2 - (intOf x).toNat)
  case atStart => exact ⟨0, _, Nat.zero_le _, rfl, rfl, rfl⟩
  case round =>
    obtain ⟨k, n, hk, rfl, rfl, rfl⟩ := hrel
    have b0 : (0 : Int) ≤ (k : Int) := by omega
    by_cases hlt : k < n2
    · have b1 : (k : Int) < (n2 : Int) := by omega
      obtain ⟨b, off, rfl, hb, ⟨d0, d1, d2⟩, _⟩ := HP.out.2.2 k hlt
      generalize (pts.getD k nilP).bs = s at *
      clear hb d0 d1
      by_cases h3 : s.size > 300
      · have b3 : (s.size : Int) > 300 := by omega
        go_wp2_with fail
        go_ret
        exact LightP.no HA.out
      · have b3 : ¬ (s.size : Int) > 300 := by omega
        go_wp2_with fail
        go_roundw
        case rel => exact ⟨k + 1, _, by omega, rfl, by go_num, trivial⟩
        case measure => simp [intOf]; omega
    · obtain rfl : k = n2 := by omega
      go_wp2_with fail
      go_loopw [3, 46] (fun u x wz => ∃ (j : Nat) (n : Int), j ≤ n3 ∧ u = .int .i64 n ∧ x = .int .i64 j ∧ wz = wr) (fun _ x _ => n3 - (intOf x).toNat)
      case atStart => exact ⟨0, _, Nat.zero_le _, rfl, rfl, rfl⟩
      case round =>
        obtain ⟨j, n, hj, rfl, rfl, rfl⟩ := hrel
        have b0 : (0 : Int) ≤ (j : Int) := by omega
        by_cases hlt : j < n3
        · have b1 : (j : Int) < (n3 : Int) := by omega
          obtain ⟨b, off, rfl, hb, ⟨d0, d1, d2, A5, n5, c5, d3, _⟩, _⟩ := HT.out.2.2 j hlt
          clear hb d0 d1 d2
          go_wp2_with fail
          go_roundw
          case rel => exact ⟨j + 1, _, by omega, rfl, by go_num, trivial⟩
          case measure => simp [intOf]; omega
        · obtain rfl : j = n3 := by omega
          by_cases hn : n < 20000
          · by_cases hn1 : n1 ≤ 80
            · have bn1 : (n1 : Int) ≤ 80 := by omega
              by_cases hn2k : k ≤ 60
              · have bn2k : (k : Int) ≤ 60 := by omega
                have HK := Lib.hid hn2k
                by_cases hn3 : j ≤ 20
                · have bn3 : (j : Int) ≤ 20 := by omega
                  by_cases hn4 : n4 ≤ 80
                  · have bn4 : (n4 : Int) ≤ 80 := by omega
                    go_wp2_with fail
                    go_ret
                    exact LightP.yes (by have := HL.out; have := HK.out; omega) HA.out
                  · have bn4 : ¬ (n4 : Int) ≤ 80 := by omega
                    go_wp2_with fail
                    go_ret
                    exact LightP.no HA.out
                · have bn3 : ¬ (j : Int) ≤ 20 := by omega
                  go_wp2_with fail
                  go_ret
                  exact LightP.no HA.out
              · have bn2k : ¬ (k : Int) ≤ 60 := by omega
                go_wp2_with fail
                go_ret
                exact LightP.no HA.out
            · have bn1 : ¬ (n1 : Int) ≤ 80 := by omega
              go_wp2_with fail
              go_ret
              exact LightP.no HA.out
          · go_wp2_with fail
            go_ret
            exact LightP.no HA.out
end Go.Proofs.YtnjggoeahaglbaaGreat.Rc

/- Arguments read: a record. -/
namespace Go.Proofs.YtnjggoeahaglbaaGreat.Rc
open Go.ChangeShapes Go.WideShapes Go.ChangeAt Go.RowKit Go.Joins
set_option linter.unusedVariables false
set_option linter.unusedSimpArgs false
set_option maxRecDepth 100000
theorem int_range {n : Int} (h : (Lit.int .i64 n).wf = true) : rng n := by
  have b1 : IntKind.i64.min = -9223372036854775808 := rfl
  have b2 : IntKind.i64.max = 9223372036854775807 := rfl
  simpa only [rng, Lit.wf, Bool.and_eq_true, decide_eq_true_eq, b1, b2] using h
theorem aplain (b off i : Nat) : (⟨b, off, none⟩ : Addr).add i = ⟨b, off + i, none⟩ := by unfold Addr.add; split <;> simp_all
theorem choose_l {α : Type} {P : Nat → α → Prop} (d : α) : ∀ {n : Nat}, (∀ k, k < n → ∃ o, P k o) → ∃ l : List α, l.length = n ∧ ∀ k, k < n → P k (l.getD k d)
  | 0, _ => ⟨[], rfl, fun k hk => absurd hk (Nat.not_lt_zero _)⟩
  | n + 1, h => by
    obtain ⟨l, hl, hp⟩ := choose_l d (n := n) fun k hk => h k (by omega)
    obtain ⟨o, ho⟩ := h n (by omega)
    refine ⟨l ++ [o], by simp [hl], fun k hk => ?_⟩
    by_cases e : k < n
    · have : (l ++ [o]).getD k d = l.getD k d := by simp [List.getD, List.getElem?_append_left (show k < l.length by omega)]
      rw [this]
      exact hp k e
    · obtain rfl : k = n := by omega
      have : (l ++ [o]).getD k d = o := by simp [List.getD, hl]
      rw [this]
      exact ho
theorem ints_read {H : Type} {enc : TypeId × Value → H} {W : World} {v : Value} {base fuel : Nat} {sp : Nat → Bool} {hd : Bool} {x : DataW H × List MemPlace}
    (h : DataW.trod enc Tryz.prog W base sp hd fuel 38 [v] = some x) (hsp : ∀ b, sp b = true) : ∃ A n c l, v = .slice A n c ∧ IntsM W.heap.size W A n l := by
  rcases open_ints Tryz.underlying38 Tryz.underlying3 (by kernel_rfl) h with ⟨hcs, _⟩ | ⟨x, n, c, zs, hcs, _, hl, hm, hz, _, hcell, hwz⟩
  · simp at hcs
    subst hcs
    exact ⟨none, 0, 0, [], rfl, IntsM.nil _ _ _⟩
  · simp at hcs
    subst hcs
    rw [hsp] at hz
    have hz' : zs.length = c := by simpa using hz
    refine ⟨some x, n, c, zs.take n, rfl, by simp; omega, by omega, fun k hk => ?_⟩
    obtain ⟨b, off, spot⟩ := x
    have h0 := hcell k (by omega)
    have hspot : spot = none := by simpa [Addr.add] using World.cell?_spot (hcell 0 (by omega))
    subst hspot
    rw [aplain] at h0
    have hg : (zs.take n).getD k 0 = zs.getD k 0 := by simp [List.getD, hk]
    have hm : zs.getD k 0 ∈ zs := by
      rw [List.getD, List.getElem?_eq_getElem (by omega)]
      exact List.getElem_mem _
    rw [hg]
    exact ⟨b, off, rfl, World.block_lt_of_cell? W _ h0, h0, int_range (hwz _ hm)⟩
theorem pts_read {H : Type} {enc : TypeId × Value → H} {W : World} {v : Value} {base fuel : Nat} {sp : Nat → Bool} {hd : Bool} {x : DataW H × List MemPlace}
    (h : DataW.trod enc Tryz.prog W base sp hd fuel 39 [v] = some x) (hsp : ∀ b, sp b = true) : ∃ A n c l, v = .slice A n c ∧ PtsM W.heap.size W A n l := by
  have hce : Tryz.prog.cellsOf 110 = 3 := by kernel_rfl
  rcases Go.Deep.open_slice Tryz.underlying39 h with ⟨hcs, _⟩ | ⟨a, len, cap, m, n, D, Pl, hcs, _, hl, hm, hmm, _, hi⟩
  · simp at hcs
    subst hcs
    exact ⟨none, 0, 0, [], rfl, PtsM.nil _ _ _⟩
  · simp at hcs
    subst hcs
    have hmm' : m = cap := by rw [hmm, hsp a.block]; simp
    subst hmm'
    have hplain : ∀ k, k < len → a.spot = none := fun k hk => by
      obtain ⟨cs', hc, _⟩ := hi 0 (by omega)
      rw [hce] at hc
      obtain ⟨_, h5, hat⟩ := World.cells?_some hc
      have h0 := hat 0 (by omega)
      rw [List.getElem?_eq_getElem (by omega)] at h0
      have := World.cell?_spot h0
      simpa [Addr.add] using this
    have each : ∀ k, k < len → ∃ o : Pt, ∃ b off, (some a : Option Addr) = some ⟨b, off, none⟩ ∧ b < W.heap.size ∧ PtAt W b (off + k * 3) o ∧ PtW o := by
      intro k hk
      have hspot := hplain k hk
      obtain ⟨b, off, spot⟩ := a
      dsimp only at hspot
      subst hspot
      obtain ⟨cs', hc, ht⟩ := hi k (by omega)
      rw [hce] at hc
      obtain ⟨_, h5, hat⟩ := World.cells?_some hc
      obtain ⟨xs, n', _, _, _, hxl, hf⟩ := DataW.trod_struct Tryz.underlying110 ht
      obtain ⟨v0, v1, v2, rfl⟩ : ∃ v0 v1 v2, cs' = [v0, v1, v2] := by
        rcases cs' with _ | ⟨v0, _ | ⟨v1, _ | ⟨v2, _ | ⟨v3, r⟩⟩⟩⟩ <;> simp at h5
        exact ⟨_, _, _, rfl⟩
      have c0 : Tryz.prog.cellsOf 3 = 1 := by kernel_rfl
      have t0 : DataW.trod enc Tryz.prog W base sp hd n' 3 (List.take (Tryz.prog.cellsOf 3) (List.drop 0 [v0, v1, v2])) = xs[0]? := hf 0 _ rfl
      rw [c0] at t0
      have c1 : Tryz.prog.cellsOf 3 = 1 := by kernel_rfl
      have t1 : DataW.trod enc Tryz.prog W base sp hd n' 3 (List.take (Tryz.prog.cellsOf 3) (List.drop 1 [v0, v1, v2])) = xs[1]? := hf 1 _ rfl
      rw [c1] at t1
      have c2 : Tryz.prog.cellsOf 9 = 1 := by kernel_rfl
      have t2 : DataW.trod enc Tryz.prog W base sp hd n' 9 (List.take (Tryz.prog.cellsOf 9) (List.drop 2 [v0, v1, v2])) = xs[2]? := hf 2 _ rfl
      rw [c2] at t2
      have hx : ∀ j, j < 3 → ∃ y, xs[j]? = some y := fun j hj => ⟨xs[j]'(by rw [hxl]; exact hj), List.getElem?_eq_getElem _⟩
      obtain ⟨y0, z0⟩ := hx 0 (by omega)
      rw [z0] at t0
      have u0 : DataW.trod enc Tryz.prog W base sp hd n' 3 [v0] = some y0 := t0
      obtain ⟨i0, e0, _, w0⟩ := DataW.trod_int (P := Tryz.prog) Tryz.underlying3 u0
      simp only [List.cons.injEq, and_true] at e0
      obtain ⟨y1, z1⟩ := hx 1 (by omega)
      rw [z1] at t1
      have u1 : DataW.trod enc Tryz.prog W base sp hd n' 3 [v1] = some y1 := t1
      obtain ⟨i1, e1, _, w1⟩ := DataW.trod_int (P := Tryz.prog) Tryz.underlying3 u1
      simp only [List.cons.injEq, and_true] at e1
      obtain ⟨y2, z2⟩ := hx 2 (by omega)
      rw [z2] at t2
      have u2 : DataW.trod enc Tryz.prog W base sp hd n' 9 [v2] = some y2 := t2
      obtain ⟨i2, e2, _, w2⟩ := DataW.trod_string (P := Tryz.prog) Tryz.underlying9 u2
      simp only [List.cons.injEq, and_true] at e2
      subst e0 e1 e2
      have hc0 := hat 0 (by omega)
      have hc1 := hat 1 (by omega)
      have hc2 := hat 2 (by omega)
      rw [aplain, aplain] at hc0 hc1 hc2
      exact ⟨⟨i0, i1, i2⟩, b, off, rfl, World.block_lt_of_cell? W _ hc0, ⟨hc0, hc1, hc2⟩, int_range w0, int_range w1, w2⟩
    obtain ⟨l, hl1, hl2⟩ := choose_l nilP each
    refine ⟨some a, len, m, l, rfl, hl1, by omega, fun k hk => ?_⟩
    obtain ⟨b, off, h1, h2, h3⟩ := hl2 k (by omega)
    exact ⟨b, off, h1, h2, h3⟩
theorem dys_read {H : Type} {enc : TypeId × Value → H} {W : World} {v : Value} {base fuel : Nat} {sp : Nat → Bool} {hd : Bool} {x : DataW H × List MemPlace}
    (h : DataW.trod enc Tryz.prog W base sp hd fuel 41 [v] = some x) (hsp : ∀ b, sp b = true) : ∃ A n c l, v = .slice A n c ∧ DysM W.heap.size W A n l := by
  have hce : Tryz.prog.cellsOf 114 = 2 := by kernel_rfl
  rcases Go.Deep.open_slice Tryz.underlying41 h with ⟨hcs, _⟩ | ⟨a, len, cap, m, n, D, Pl, hcs, _, hl, hm, hmm, _, hi⟩
  · simp at hcs
    subst hcs
    exact ⟨none, 0, 0, [], rfl, DysM.nil _ _ _⟩
  · simp at hcs
    subst hcs
    have hmm' : m = cap := by rw [hmm, hsp a.block]; simp
    subst hmm'
    have hplain : ∀ k, k < len → a.spot = none := fun k hk => by
      obtain ⟨cs', hc, _⟩ := hi 0 (by omega)
      rw [hce] at hc
      obtain ⟨_, h5, hat⟩ := World.cells?_some hc
      have h0 := hat 0 (by omega)
      rw [List.getElem?_eq_getElem (by omega)] at h0
      have := World.cell?_spot h0
      simpa [Addr.add] using this
    have each : ∀ k, k < len → ∃ o : Dy, ∃ b off, (some a : Option Addr) = some ⟨b, off, none⟩ ∧ b < W.heap.size ∧ DyAt W b (off + k * 2) o ∧ DyW o := by
      intro k hk
      have hspot := hplain k hk
      obtain ⟨b, off, spot⟩ := a
      dsimp only at hspot
      subst hspot
      obtain ⟨cs', hc, ht⟩ := hi k (by omega)
      rw [hce] at hc
      obtain ⟨_, h5, hat⟩ := World.cells?_some hc
      obtain ⟨xs, n', _, _, _, hxl, hf⟩ := DataW.trod_struct Tryz.underlying114 ht
      obtain ⟨v0, v1, rfl⟩ : ∃ v0 v1, cs' = [v0, v1] := by
        rcases cs' with _ | ⟨v0, _ | ⟨v1, _ | ⟨v2, r⟩⟩⟩ <;> simp at h5
        exact ⟨_, _, rfl⟩
      have c0 : Tryz.prog.cellsOf 3 = 1 := by kernel_rfl
      have t0 : DataW.trod enc Tryz.prog W base sp hd n' 3 (List.take (Tryz.prog.cellsOf 3) (List.drop 0 [v0, v1])) = xs[0]? := hf 0 _ rfl
      rw [c0] at t0
      have c1 : Tryz.prog.cellsOf 3 = 1 := by kernel_rfl
      have t1 : DataW.trod enc Tryz.prog W base sp hd n' 3 (List.take (Tryz.prog.cellsOf 3) (List.drop 1 [v0, v1])) = xs[1]? := hf 1 _ rfl
      rw [c1] at t1
      have hx : ∀ j, j < 2 → ∃ y, xs[j]? = some y := fun j hj => ⟨xs[j]'(by rw [hxl]; exact hj), List.getElem?_eq_getElem _⟩
      obtain ⟨y0, z0⟩ := hx 0 (by omega)
      rw [z0] at t0
      have u0 : DataW.trod enc Tryz.prog W base sp hd n' 3 [v0] = some y0 := t0
      obtain ⟨i0, e0, _, w0⟩ := DataW.trod_int (P := Tryz.prog) Tryz.underlying3 u0
      simp only [List.cons.injEq, and_true] at e0
      obtain ⟨y1, z1⟩ := hx 1 (by omega)
      rw [z1] at t1
      have u1 : DataW.trod enc Tryz.prog W base sp hd n' 3 [v1] = some y1 := t1
      obtain ⟨i1, e1, _, w1⟩ := DataW.trod_int (P := Tryz.prog) Tryz.underlying3 u1
      simp only [List.cons.injEq, and_true] at e1
      subst e0 e1
      have hc0 := hat 0 (by omega)
      have hc1 := hat 1 (by omega)
      rw [aplain, aplain] at hc0 hc1
      exact ⟨⟨i0, i1⟩, b, off, rfl, World.block_lt_of_cell? W _ hc0, ⟨hc0, hc1⟩, int_range w0, int_range w1⟩
    obtain ⟨l, hl1, hl2⟩ := choose_l nilD each
    refine ⟨some a, len, m, l, rfl, hl1, by omega, fun k hk => ?_⟩
    obtain ⟨b, off, h1, h2, h3⟩ := hl2 k (by omega)
    exact ⟨b, off, h1, h2, h3⟩
theorem txs_read {H : Type} {enc : TypeId × Value → H} {W : World} {v : Value} {base fuel : Nat} {sp : Nat → Bool} {hd : Bool} {x : DataW H × List MemPlace}
    (h : DataW.trod enc Tryz.prog W base sp hd fuel 40 [v] = some x) (hsp : ∀ b, sp b = true) : ∃ A n c l, v = .slice A n c ∧ TxsM W.heap.size W A n l := by
  have hce : Tryz.prog.cellsOf 112 = 4 := by kernel_rfl
  rcases Go.Deep.open_slice Tryz.underlying40 h with ⟨hcs, _⟩ | ⟨a, len, cap, m, n, D, Pl, hcs, _, hl, hm, hmm, _, hi⟩
  · simp at hcs
    subst hcs
    exact ⟨none, 0, 0, [], rfl, TxsM.nil _ _ _⟩
  · simp at hcs
    subst hcs
    have hmm' : m = cap := by rw [hmm, hsp a.block]; simp
    subst hmm'
    have hplain : ∀ k, k < len → a.spot = none := fun k hk => by
      obtain ⟨cs', hc, _⟩ := hi 0 (by omega)
      rw [hce] at hc
      obtain ⟨_, h5, hat⟩ := World.cells?_some hc
      have h0 := hat 0 (by omega)
      rw [List.getElem?_eq_getElem (by omega)] at h0
      have := World.cell?_spot h0
      simpa [Addr.add] using this
    have each : ∀ k, k < len → ∃ o : Tx, ∃ b off, (some a : Option Addr) = some ⟨b, off, none⟩ ∧ b < W.heap.size ∧ TxAt W.heap.size W b (off + k * 4) o ∧ TxW o := by
      intro k hk
      have hspot := hplain k hk
      obtain ⟨b, off, spot⟩ := a
      dsimp only at hspot
      subst hspot
      obtain ⟨cs', hc, ht⟩ := hi k (by omega)
      rw [hce] at hc
      obtain ⟨_, h5, hat⟩ := World.cells?_some hc
      obtain ⟨xs, n', _, _, _, hxl, hf⟩ := DataW.trod_struct Tryz.underlying112 ht
      obtain ⟨v0, v1, v2, v3, rfl⟩ : ∃ v0 v1 v2 v3, cs' = [v0, v1, v2, v3] := by
        rcases cs' with _ | ⟨v0, _ | ⟨v1, _ | ⟨v2, _ | ⟨v3, _ | ⟨v4, r⟩⟩⟩⟩⟩ <;> simp at h5
        exact ⟨_, _, _, _, rfl⟩
      have c0 : Tryz.prog.cellsOf 3 = 1 := by kernel_rfl
      have t0 : DataW.trod enc Tryz.prog W base sp hd n' 3 (List.take (Tryz.prog.cellsOf 3) (List.drop 0 [v0, v1, v2, v3])) = xs[0]? := hf 0 _ rfl
      rw [c0] at t0
      have c1 : Tryz.prog.cellsOf 3 = 1 := by kernel_rfl
      have t1 : DataW.trod enc Tryz.prog W base sp hd n' 3 (List.take (Tryz.prog.cellsOf 3) (List.drop 1 [v0, v1, v2, v3])) = xs[1]? := hf 1 _ rfl
      rw [c1] at t1
      have c2 : Tryz.prog.cellsOf 4 = 1 := by kernel_rfl
      have t2 : DataW.trod enc Tryz.prog W base sp hd n' 4 (List.take (Tryz.prog.cellsOf 4) (List.drop 2 [v0, v1, v2, v3])) = xs[2]? := hf 2 _ rfl
      rw [c2] at t2
      have c3 : Tryz.prog.cellsOf 38 = 1 := by kernel_rfl
      have t3 : DataW.trod enc Tryz.prog W base sp hd n' 38 (List.take (Tryz.prog.cellsOf 38) (List.drop 3 [v0, v1, v2, v3])) = xs[3]? := hf 3 _ rfl
      rw [c3] at t3
      have hx : ∀ j, j < 4 → ∃ y, xs[j]? = some y := fun j hj => ⟨xs[j]'(by rw [hxl]; exact hj), List.getElem?_eq_getElem _⟩
      obtain ⟨y0, z0⟩ := hx 0 (by omega)
      rw [z0] at t0
      have u0 : DataW.trod enc Tryz.prog W base sp hd n' 3 [v0] = some y0 := t0
      obtain ⟨i0, e0, _, w0⟩ := DataW.trod_int (P := Tryz.prog) Tryz.underlying3 u0
      simp only [List.cons.injEq, and_true] at e0
      obtain ⟨y1, z1⟩ := hx 1 (by omega)
      rw [z1] at t1
      have u1 : DataW.trod enc Tryz.prog W base sp hd n' 3 [v1] = some y1 := t1
      obtain ⟨i1, e1, _, w1⟩ := DataW.trod_int (P := Tryz.prog) Tryz.underlying3 u1
      simp only [List.cons.injEq, and_true] at e1
      obtain ⟨y2, z2⟩ := hx 2 (by omega)
      rw [z2] at t2
      have u2 : DataW.trod enc Tryz.prog W base sp hd n' 4 [v2] = some y2 := t2
      obtain ⟨i2, e2, _⟩ := DataW.trod_bool (P := Tryz.prog) Tryz.underlying4 u2
      simp only [List.cons.injEq, and_true] at e2
      obtain ⟨y3, z3⟩ := hx 3 (by omega)
      rw [z3] at t3
      have u3 : DataW.trod enc Tryz.prog W base sp hd n' 38 [v3] = some y3 := t3
      obtain ⟨lA, ln, lc, i3, e3, w3⟩ := ints_read u3 hsp
      subst e0 e1 e2 e3
      have hc0 := hat 0 (by omega)
      have hc1 := hat 1 (by omega)
      have hc2 := hat 2 (by omega)
      have hc3 := hat 3 (by omega)
      rw [aplain, aplain] at hc0 hc1 hc2 hc3
      exact ⟨⟨i0, i1, i2, i3⟩, b, off, rfl, World.block_lt_of_cell? W _ hc0, ⟨hc0, hc1, hc2, lA, ln, lc, hc3, w3⟩, int_range w0, int_range w1⟩
    obtain ⟨l, hl1, hl2⟩ := choose_l nilT each
    refine ⟨some a, len, m, l, rfl, hl1, by omega, fun k hk => ?_⟩
    obtain ⟨b, off, h1, h2, h3⟩ := hl2 k (by omega)
    exact ⟨b, off, h1, h2, h3⟩
theorem array14 {α : Type} {cs : Array α} (h : cs.size = 14) : ∃ c0 c1 c2 c3 c4 c5 c6 c7 c8 c9 c10 c11 c12 c13, cs = #[c0, c1, c2, c3, c4, c5, c6, c7, c8, c9, c10, c11, c12, c13] := by
  obtain ⟨l⟩ := cs
  simp only [List.size_toArray] at h
  match l, h with
  | [c0, c1, c2, c3, c4, c5, c6, c7, c8, c9, c10, c11, c12, c13], _ => exact ⟨c0, c1, c2, c3, c4, c5, c6, c7, c8, c9, c10, c11, c12, c13, rfl⟩
theorem cell_read {H : Type} {enc : TypeId × Value → H} {W : World} {v0 v1 v2 v3 : Value} {base fuel : Nat} {sp : Nat → Bool} {hd : Bool} {x : DataW H × List MemPlace}
    (h : DataW.trod enc Tryz.prog W base sp hd fuel 37 [v0, v1, v2, v3] = some x) : ∃ (k v : ByteArray) (b z : Int), (v0 = .string k ∧ v1 = .string v ∧ v2 = .int .i64 b ∧ v3 = .int .i64 z) ∧ k.size ≤ maxLen ∧ v.size ≤ maxLen ∧ (Lit.int .i64 b).wf = true ∧ (Lit.int .i64 z).wf = true := by
  obtain ⟨xs, n', _, _, _, hxl, hf⟩ := DataW.trod_struct Tryz.underlying37 h
  have hx : ∀ j, j < 4 → ∃ y, xs[j]? = some y := fun j hj => ⟨xs[j]'(by rw [hxl]; exact hj), List.getElem?_eq_getElem _⟩
  have c0 : Tryz.prog.cellsOf 9 = 1 := by kernel_rfl
  have t0 : DataW.trod enc Tryz.prog W base sp hd n' 9 (List.take (Tryz.prog.cellsOf 9) (List.drop 0 [v0, v1, v2, v3])) = xs[0]? := hf 0 _ rfl
  rw [c0] at t0
  obtain ⟨y0, z0⟩ := hx 0 (by omega)
  rw [z0] at t0
  have u0 : DataW.trod enc Tryz.prog W base sp hd n' 9 [v0] = some y0 := t0
  obtain ⟨i0, e0, _, w0⟩ := DataW.trod_string (P := Tryz.prog) Tryz.underlying9 u0
  simp only [List.cons.injEq, and_true] at e0
  have c1 : Tryz.prog.cellsOf 9 = 1 := by kernel_rfl
  have t1 : DataW.trod enc Tryz.prog W base sp hd n' 9 (List.take (Tryz.prog.cellsOf 9) (List.drop 1 [v0, v1, v2, v3])) = xs[1]? := hf 1 _ rfl
  rw [c1] at t1
  obtain ⟨y1, z1⟩ := hx 1 (by omega)
  rw [z1] at t1
  have u1 : DataW.trod enc Tryz.prog W base sp hd n' 9 [v1] = some y1 := t1
  obtain ⟨i1, e1, _, w1⟩ := DataW.trod_string (P := Tryz.prog) Tryz.underlying9 u1
  simp only [List.cons.injEq, and_true] at e1
  have c2 : Tryz.prog.cellsOf 3 = 1 := by kernel_rfl
  have t2 : DataW.trod enc Tryz.prog W base sp hd n' 3 (List.take (Tryz.prog.cellsOf 3) (List.drop 2 [v0, v1, v2, v3])) = xs[2]? := hf 2 _ rfl
  rw [c2] at t2
  obtain ⟨y2, z2⟩ := hx 2 (by omega)
  rw [z2] at t2
  have u2 : DataW.trod enc Tryz.prog W base sp hd n' 3 [v2] = some y2 := t2
  obtain ⟨i2, e2, _, w2⟩ := DataW.trod_int (P := Tryz.prog) Tryz.underlying3 u2
  simp only [List.cons.injEq, and_true] at e2
  have c3 : Tryz.prog.cellsOf 3 = 1 := by kernel_rfl
  have t3 : DataW.trod enc Tryz.prog W base sp hd n' 3 (List.take (Tryz.prog.cellsOf 3) (List.drop 3 [v0, v1, v2, v3])) = xs[3]? := hf 3 _ rfl
  rw [c3] at t3
  obtain ⟨y3, z3⟩ := hx 3 (by omega)
  rw [z3] at t3
  have u3 : DataW.trod enc Tryz.prog W base sp hd n' 3 [v3] = some y3 := t3
  obtain ⟨i3, e3, _, w3⟩ := DataW.trod_int (P := Tryz.prog) Tryz.underlying3 u3
  simp only [List.cons.injEq, and_true] at e3
  exact ⟨i0, i1, i2, i3, ⟨e0, e1, e2, e3⟩, w0, w1, w2, w3⟩
set_option maxHeartbeats 1000000 in
theorem rec_read {H : Type} {enc : TypeId × Value → H} {W : World} {v : Value} {d : DataW H} {p : List MemPlace} {b0 : Nat} {sp : Nat → Bool} {hd : Bool}
    (hv : Value.okWide Tryz.prog W .any b0 43 v) (h : DataW.Trod enc Tryz.prog W 0 sp hd 43 v d p) (hsp : ∀ b, sp b = true) : ∃ r k, v = rcv r k ∧ RcM W.heap.size W r k := by
  obtain ⟨cs, rfl, hsz⟩ := okWide_struct Tryz.underlying43 hv
  obtain ⟨v0, v1, v2, v3, v4, v5, v6, v7, v8, v9, v10, v11, v12, v13, rfl⟩ := array14 (hsz.trans (show Tryz.prog.cellsOf 43 = 14 by kernel_rfl))
  obtain ⟨fuel, hf0⟩ := h
  have hf1 : DataW.trod enc Tryz.prog W 0 sp hd fuel 43 [v0, v1, v2, v3, v4, v5, v6, v7, v8, v9, v10, v11, v12, v13] = some (d, p) := hf0
  obtain ⟨xs, n', _, _, _, hxl, hf⟩ := DataW.trod_struct Tryz.underlying43 hf1
  clear hf0 hf1 hv hsz
  have hx : ∀ j, j < 11 → ∃ y, xs[j]? = some y := fun j hj => ⟨xs[j]'(by rw [hxl]; exact hj), List.getElem?_eq_getElem _⟩
  have c0 : Tryz.prog.cellsOf 3 = 1 := by kernel_rfl
  have t0 : DataW.trod enc Tryz.prog W 0 sp hd n' 3 (List.take (Tryz.prog.cellsOf 3) (List.drop 0 [v0, v1, v2, v3, v4, v5, v6, v7, v8, v9, v10, v11, v12, v13])) = xs[0]? := hf 0 _ rfl
  rw [c0] at t0
  obtain ⟨y0, z0⟩ := hx 0 (by omega)
  rw [z0] at t0
  have u0 : DataW.trod enc Tryz.prog W 0 sp hd n' 3 [v0] = some y0 := t0
  clear t0 z0 c0
  obtain ⟨i0, e0, _, w0⟩ := DataW.trod_int (P := Tryz.prog) Tryz.underlying3 u0
  simp only [List.cons.injEq, and_true] at e0
  have c1 : Tryz.prog.cellsOf 3 = 1 := by kernel_rfl
  have t1 : DataW.trod enc Tryz.prog W 0 sp hd n' 3 (List.take (Tryz.prog.cellsOf 3) (List.drop 1 [v0, v1, v2, v3, v4, v5, v6, v7, v8, v9, v10, v11, v12, v13])) = xs[1]? := hf 1 _ rfl
  rw [c1] at t1
  obtain ⟨y1, z1⟩ := hx 1 (by omega)
  rw [z1] at t1
  have u1 : DataW.trod enc Tryz.prog W 0 sp hd n' 3 [v1] = some y1 := t1
  clear t1 z1 c1
  obtain ⟨i1, e1, _, w1⟩ := DataW.trod_int (P := Tryz.prog) Tryz.underlying3 u1
  simp only [List.cons.injEq, and_true] at e1
  have c2 : Tryz.prog.cellsOf 3 = 1 := by kernel_rfl
  have t2 : DataW.trod enc Tryz.prog W 0 sp hd n' 3 (List.take (Tryz.prog.cellsOf 3) (List.drop 2 [v0, v1, v2, v3, v4, v5, v6, v7, v8, v9, v10, v11, v12, v13])) = xs[2]? := hf 2 _ rfl
  rw [c2] at t2
  obtain ⟨y2, z2⟩ := hx 2 (by omega)
  rw [z2] at t2
  have u2 : DataW.trod enc Tryz.prog W 0 sp hd n' 3 [v2] = some y2 := t2
  clear t2 z2 c2
  obtain ⟨i2, e2, _, w2⟩ := DataW.trod_int (P := Tryz.prog) Tryz.underlying3 u2
  simp only [List.cons.injEq, and_true] at e2
  have c3 : Tryz.prog.cellsOf 3 = 1 := by kernel_rfl
  have t3 : DataW.trod enc Tryz.prog W 0 sp hd n' 3 (List.take (Tryz.prog.cellsOf 3) (List.drop 3 [v0, v1, v2, v3, v4, v5, v6, v7, v8, v9, v10, v11, v12, v13])) = xs[3]? := hf 3 _ rfl
  rw [c3] at t3
  obtain ⟨y3, z3⟩ := hx 3 (by omega)
  rw [z3] at t3
  have u3 : DataW.trod enc Tryz.prog W 0 sp hd n' 3 [v3] = some y3 := t3
  clear t3 z3 c3
  obtain ⟨i3, e3, _, w3⟩ := DataW.trod_int (P := Tryz.prog) Tryz.underlying3 u3
  simp only [List.cons.injEq, and_true] at e3
  have c4 : Tryz.prog.cellsOf 9 = 1 := by kernel_rfl
  have t4 : DataW.trod enc Tryz.prog W 0 sp hd n' 9 (List.take (Tryz.prog.cellsOf 9) (List.drop 4 [v0, v1, v2, v3, v4, v5, v6, v7, v8, v9, v10, v11, v12, v13])) = xs[4]? := hf 4 _ rfl
  rw [c4] at t4
  obtain ⟨y4, z4⟩ := hx 4 (by omega)
  rw [z4] at t4
  have u4 : DataW.trod enc Tryz.prog W 0 sp hd n' 9 [v4] = some y4 := t4
  clear t4 z4 c4
  obtain ⟨i4, e4, _, w4⟩ := DataW.trod_string (P := Tryz.prog) Tryz.underlying9 u4
  simp only [List.cons.injEq, and_true] at e4
  have c5 : Tryz.prog.cellsOf 4 = 1 := by kernel_rfl
  have t5 : DataW.trod enc Tryz.prog W 0 sp hd n' 4 (List.take (Tryz.prog.cellsOf 4) (List.drop 5 [v0, v1, v2, v3, v4, v5, v6, v7, v8, v9, v10, v11, v12, v13])) = xs[5]? := hf 5 _ rfl
  rw [c5] at t5
  obtain ⟨y5, z5⟩ := hx 5 (by omega)
  rw [z5] at t5
  have u5 : DataW.trod enc Tryz.prog W 0 sp hd n' 4 [v5] = some y5 := t5
  clear t5 z5 c5
  obtain ⟨i5, e5, _⟩ := DataW.trod_bool (P := Tryz.prog) Tryz.underlying4 u5
  simp only [List.cons.injEq, and_true] at e5
  have c6 : Tryz.prog.cellsOf 37 = 4 := by kernel_rfl
  have t6 : DataW.trod enc Tryz.prog W 0 sp hd n' 37 (List.take (Tryz.prog.cellsOf 37) (List.drop 6 [v0, v1, v2, v3, v4, v5, v6, v7, v8, v9, v10, v11, v12, v13])) = xs[6]? := hf 6 _ rfl
  rw [c6] at t6
  obtain ⟨y6, z6⟩ := hx 6 (by omega)
  rw [z6] at t6
  have u6 : DataW.trod enc Tryz.prog W 0 sp hd n' 37 [v6, v7, v8, v9] = some y6 := t6
  clear t6 z6 c6
  obtain ⟨s6, s7, s8, s9, e6, q1, q2, q3, q4⟩ := cell_read u6
  have c7 : Tryz.prog.cellsOf 38 = 1 := by kernel_rfl
  have t7 : DataW.trod enc Tryz.prog W 0 sp hd n' 38 (List.take (Tryz.prog.cellsOf 38) (List.drop 10 [v0, v1, v2, v3, v4, v5, v6, v7, v8, v9, v10, v11, v12, v13])) = xs[7]? := hf 7 _ rfl
  rw [c7] at t7
  obtain ⟨y7, z7⟩ := hx 7 (by omega)
  rw [z7] at t7
  have u7 : DataW.trod enc Tryz.prog W 0 sp hd n' 38 [v10] = some y7 := t7
  clear t7 z7 c7
  obtain ⟨A7, n7, k7, l7, e7, w7⟩ := ints_read u7 hsp
  have c8 : Tryz.prog.cellsOf 39 = 1 := by kernel_rfl
  have t8 : DataW.trod enc Tryz.prog W 0 sp hd n' 39 (List.take (Tryz.prog.cellsOf 39) (List.drop 11 [v0, v1, v2, v3, v4, v5, v6, v7, v8, v9, v10, v11, v12, v13])) = xs[8]? := hf 8 _ rfl
  rw [c8] at t8
  obtain ⟨y8, z8⟩ := hx 8 (by omega)
  rw [z8] at t8
  have u8 : DataW.trod enc Tryz.prog W 0 sp hd n' 39 [v11] = some y8 := t8
  clear t8 z8 c8
  obtain ⟨A8, n8, k8, l8, e8, w8⟩ := pts_read u8 hsp
  have c9 : Tryz.prog.cellsOf 40 = 1 := by kernel_rfl
  have t9 : DataW.trod enc Tryz.prog W 0 sp hd n' 40 (List.take (Tryz.prog.cellsOf 40) (List.drop 12 [v0, v1, v2, v3, v4, v5, v6, v7, v8, v9, v10, v11, v12, v13])) = xs[9]? := hf 9 _ rfl
  rw [c9] at t9
  obtain ⟨y9, z9⟩ := hx 9 (by omega)
  rw [z9] at t9
  have u9 : DataW.trod enc Tryz.prog W 0 sp hd n' 40 [v12] = some y9 := t9
  clear t9 z9 c9
  obtain ⟨A9, n9, k9, l9, e9, w9⟩ := txs_read u9 hsp
  have c10 : Tryz.prog.cellsOf 41 = 1 := by kernel_rfl
  have t10 : DataW.trod enc Tryz.prog W 0 sp hd n' 41 (List.take (Tryz.prog.cellsOf 41) (List.drop 13 [v0, v1, v2, v3, v4, v5, v6, v7, v8, v9, v10, v11, v12, v13])) = xs[10]? := hf 10 _ rfl
  rw [c10] at t10
  obtain ⟨y10, z10⟩ := hx 10 (by omega)
  rw [z10] at t10
  have u10 : DataW.trod enc Tryz.prog W 0 sp hd n' 41 [v13] = some y10 := t10
  clear t10 z10 c10
  obtain ⟨A10, n10, k10, l10, e10, w10⟩ := dys_read u10 hsp
  obtain ⟨e6, e6b, e6c, e6d⟩ := e6
  subst e0 e1 e2 e3 e4 e5 e6 e7 e8 e9 e10 e6b e6c e6d
  exact ⟨⟨i0, i1, i2, i3, i4, i5, ⟨s6, s7, s8, s9⟩, l7, l8, l9, l10⟩, ⟨⟨A7, n7, k7⟩, ⟨A8, n8, k8⟩, ⟨A9, n9, k9⟩, ⟨A10, n10, k10⟩⟩, rfl, ⟨int_range w0, int_range w1, int_range w2, int_range w3, w4, ⟨int_range q3, int_range q4, q1, q2⟩, w7, w8, w9, w10⟩⟩
end Go.Proofs.YtnjggoeahaglbaaGreat.Rc
