/- Light: is a record short enough? What it says of the patches. -/
import Derived.Test.YtbmnagfjpenemaaGreatDoorEvery
import Derived.LoopTactic
import Derived.StillTailTactics
import Derived.Deep.DeepCutAuto
import Derived.Deep.CutBlock
namespace Go.Proofs.YtbmnagfjpenemaaGreatDoor
open Go.ChangeShapes Go.WideShapes Go.ChangeAt Go.RowKit
set_option linter.unusedVariables false
set_option linter.unusedSimpArgs false
set_option maxRecDepth 100000
def LightP (m : Nat) (w : World) (e : Ending) (w' : World) : Prop := ∃ z, e = .returned (.bool z) ∧ (z = true → m ≤ 60) ∧ Below w.heap.size w w'
theorem LightP.no {m : Nat} {w w' : World} (h : Below w.heap.size w w') : LightP m w (.returned (.bool false)) w' := ⟨false, rfl, (fun h => by cases h), h⟩
theorem LightP.yes {m : Nat} {w w' : World} (hm : m ≤ 60) (h : Below w.heap.size w w') : LightP m w (.returned (.bool true)) w' := ⟨true, rfl, fun _ => hm, h⟩
set_option maxHeartbeats 8000000 in
theorem light_any {C : Nat} (r : Rc) (h : Hd) (w : World) (hr : RcM C w r h) (hC : C ≤ w.heap.size) :
    Calls Tryz.prog 4 #[rcv r h] w fun e w' => LightP r.pts.length w e w' := by
  obtain ⟨kind, tx, prev, next, key, had, ⟨ok, ov, ob, oz⟩, pages, pts, txs, dys⟩ := r
  obtain ⟨⟨A1, n1, c1⟩, ⟨A2, n2, c2⟩, ⟨A3, n3, c3⟩, ⟨A4, n4, c4⟩⟩ := h
  have HA := Lib.hid ((Below.refl w.heap.size w).alloc (Nat.le_refl _) (.cells #[.int .i64 kind, .int .i64 tx, .int .i64 prev, .int .i64 next, .string key, .bool had, .string ok, .string ov, .int .i64 ob, .int .i64 oz, .slice A1 n1 c1, .slice A2 n2 c2, .slice A3 n3 c3, .slice A4 n4 c4] 29))
  have HX := Lib.hid (Bx.new w #[.int .i64 kind, .int .i64 tx, .int .i64 prev, .int .i64 next, .string key, .bool had, .string ok, .string ov, .int .i64 ob, .int .i64 oz, .slice A1 n1 c1, .slice A2 n2 c2, .slice A3 n3 c3, .slice A4 n4 c4] 29)
  have HP := Lib.hid ((hr.p.more hC).kept HA.out)
  have HT := Lib.hid ((hr.t.more hC).kept HA.out)
  have hp1 := hr.p.1
  have hp2 := hr.p.2.1
  have ht2 := hr.t.2.1
  have ho := hr.old
  unfold maxLen at hp2 ht2
  dsimp only at hp1 hp2 ht2 HP HT
  have HL := Lib.hid hp1
  have hN2 : (n2 : Int) ≤ 9223372036854775807 := by omega
  have hN3 : (n3 : Int) ≤ 9223372036854775807 := by omega
  unfold rcv
  dsimp only
  clear hr hC hp1 hp2 ht2 ho
  go_enter Tryz.func4, Tryz.ntmps4
  go_upto_region 1 with fail
  generalize w.alloc (.cells #[.int .i64 kind, .int .i64 tx, .int .i64 prev, .int .i64 next, .string key, .bool had, .string ok, .string ov, .int .i64 ob, .int .i64 oz, .slice A1 n1 c1, .slice A2 n2 c2, .slice A3 n3 c3, .slice A4 n4 c4] 29) = W at *
  have x4 : W.cell? ⟨w.heap.size, 4, none⟩ = some (.string key) := HX.out.cell 4
  have x6 : W.cell? ⟨w.heap.size, 6, none⟩ = some (.string ok) := HX.out.cell 6
  have x7 : W.cell? ⟨w.heap.size, 7, none⟩ = some (.string ov) := HX.out.cell 7
  have x10 : W.cell? ⟨w.heap.size, 10, none⟩ = some (.slice A1 n1 c1) := HX.out.cell 10
  have x11 : W.cell? ⟨w.heap.size, 11, none⟩ = some (.slice A2 n2 c2) := HX.out.cell 11
  have x12 : W.cell? ⟨w.heap.size, 12, none⟩ = some (.slice A3 n3 c3) := HX.out.cell 12
  have x13 : W.cell? ⟨w.heap.size, 13, none⟩ = some (.slice A4 n4 c4) := HX.out.cell 13
  go_wp2_with fail
  go_loopw [3, 22] (fun u x wr => ∃ (k : Nat) (n : Int), k ≤ n2 ∧ u = .int .i64 n ∧ x = .int .i64 k ∧ wr = W) (fun _ x _ => n2 - (intOf x).toNat)
  case atStart => exact ⟨0, _, Nat.zero_le _, rfl, rfl, rfl⟩
  case round =>
    obtain ⟨k, n, hk, rfl, rfl, rfl⟩ := hrel
    have b0 : (0 : Int) ≤ (k : Int) := by omega
    by_cases hlt : k < n2
    · have b1 : (k : Int) < (n2 : Int) := by omega
      obtain ⟨b, off, rfl, hb, ⟨d0, d1, d2⟩, _⟩ := HP.out.2.2 k hlt
      generalize (pts.getD k nilP).bs = s at *
      clear hb d0 d1
      by_cases h3 : s.size > 300
      · have b3 : (s.size : Int) > 300 := by omega
        go_wp2_with fail
        go_ret
        exact LightP.no HA.out
      · have b3 : ¬ (s.size : Int) > 300 := by omega
        go_wp2_with fail
        go_roundw
        case rel => exact ⟨k + 1, _, by omega, rfl, by go_num, trivial⟩
        case measure => simp [intOf]; omega
    · obtain rfl : k = n2 := by omega
      go_wp2_with fail
      go_loopw [3, 46] (fun u x wz => ∃ (j : Nat) (n : Int), j ≤ n3 ∧ u = .int .i64 n ∧ x = .int .i64 j ∧ wz = wr) (fun _ x _ => n3 - (intOf x).toNat)
      case atStart => exact ⟨0, _, Nat.zero_le _, rfl, rfl, rfl⟩
      case round =>
        obtain ⟨j, n, hj, rfl, rfl, rfl⟩ := hrel
        have b0 : (0 : Int) ≤ (j : Int) := by omega
        by_cases hlt : j < n3
        · have b1 : (j : Int) < (n3 : Int) := by omega
          obtain ⟨b, off, rfl, hb, ⟨d0, d1, d2, A5, n5, c5, d3, _⟩, _⟩ := HT.out.2.2 j hlt
          clear hb d0 d1 d2
          go_wp2_with fail
          go_roundw
          case rel => exact ⟨j + 1, _, by omega, rfl, by go_num, trivial⟩
          case measure => simp [intOf]; omega
        · obtain rfl : j = n3 := by omega
          by_cases hn : n < 20000
          · by_cases hn1 : n1 ≤ 80
            · have bn1 : (n1 : Int) ≤ 80 := by omega
              by_cases hn2k : k ≤ 60
              · have bn2k : (k : Int) ≤ 60 := by omega
                have HK := Lib.hid hn2k
                by_cases hn3 : j ≤ 20
                · have bn3 : (j : Int) ≤ 20 := by omega
                  by_cases hn4 : n4 ≤ 80
                  · have bn4 : (n4 : Int) ≤ 80 := by omega
                    go_wp2_with fail
                    go_ret
                    exact LightP.yes (by have := HL.out; have := HK.out; omega) HA.out
                  · have bn4 : ¬ (n4 : Int) ≤ 80 := by omega
                    go_wp2_with fail
                    go_ret
                    exact LightP.no HA.out
                · have bn3 : ¬ (j : Int) ≤ 20 := by omega
                  go_wp2_with fail
                  go_ret
                  exact LightP.no HA.out
              · have bn2k : ¬ (k : Int) ≤ 60 := by omega
                go_wp2_with fail
                go_ret
                exact LightP.no HA.out
            · have bn1 : ¬ (n1 : Int) ≤ 80 := by omega
              go_wp2_with fail
              go_ret
              exact LightP.no HA.out
          · go_wp2_with fail
            go_ret
            exact LightP.no HA.out
end Go.Proofs.YtbmnagfjpenemaaGreatDoor
