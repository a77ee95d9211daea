/- The document's own Of and CellsGet. -/
import Derived.Test.YtljegjcajlkgiaaGreatRput
namespace Go.Proofs.YtljegjcajlkgiaaGreat
open Go.ChangeShapes Go.WideShapes Go.ChangeAt Go.RowKit
set_option linter.unusedVariables false
set_option linter.unusedSimpArgs false
set_option maxRecDepth 100000
theorem run_ix (b : BA) (i : Nat) (hi : i < b.length) (w : World) : (Instr.index 9 (.string (str b)) (.int .i64 i)).run Tryz.prog w = .ok (.int .u8 ((b.getD i 0).toNat : Int)) w := by
  have hi' : i < (str b).size := by rw [str_size]; exact hi
  rw [run_index_string w 9 (str b) .i64 (i : Int) Tryz.underlying9, dif_pos ⟨by omega, by omega⟩]
  have e : (str b)[((i : Int)).toNat]'(by omega) = b.getD i 0 := by
    rw [List.getD_eq_getElem?_getD, List.getElem?_eq_getElem hi]
    rfl
  rw [e]
set_option maxHeartbeats 1000000 in
theorem of_any (b : BA) (hb : b.length ≤ 2) (w : World) : Calls Tryz.prog 74 #[.string (str b)] w fun e w' => e = .returned (.int .i64 (numB b : Nat)) ∧ w = w' := by
  have hs : (str b).size = b.length := str_size b
  have hb2 : (b.length : Int) ≤ 2 := by omega
  have IX := Lib.hid (fun i (hi : i < b.length) w => run_ix b i hi w)
  generalize str b = X at *
  go_enter Tryz.func74, Tryz.ntmps74
  go_wp2_with fail
  go_loop [3, 4] (fun v i => ∃ k : Nat, k ≤ b.length ∧ i = .int .i64 k ∧ v = .int .i64 (numB (b.take k) : Nat)) (fun _ i => b.length - (intOf i).toNat)
  case atStart => exact ⟨0, Nat.zero_le _, rfl, rfl⟩
  case round =>
    obtain ⟨k, hk, rfl, rfl⟩ := hrel
    have k0 : (0 : Int) ≤ (k : Int) := by omega
    by_cases hlt : k < b.length
    · have k1 : (k : Int) < (X.size : Int) := by omega
      have hix := IX.out k hlt
      have hgd : b.getD k 0 = b[k] := by rw [List.getD_eq_getElem?_getD, List.getElem?_eq_getElem hlt]; rfl
      rw [hgd] at hix
      have hb3 : numB (b.take k) < 256 := numB_lt1 _ (by rw [List.length_take]; omega)
      have hb8 : b[k].toNat < 256 := b[k].toNat_lt
      have Hn := Lib.hid (numB_take b k hlt)
      clear hgd
      generalize b[k].toNat = y at *
      generalize numB (b.take k) = a at *
      have e1 : IntKind.i64.wrap ((a : Int) * 256) = (a : Int) * 256 := IntWalk.i64_in _ (by omega)
      have e2 : IntKind.i64.wrap ((a : Int) * 256 + (y : Int)) = (a : Int) * 256 + (y : Int) := IntWalk.i64_in _ (by omega)
      have HE1 := Lib.hid (show wrap64 ((a : Int) * 256) = (a : Int) * 256 by unfold wrap64; omega)
      have e1' := HE1.out
      clear HE1
      go_wp2_with fail
      go_round
      case rel => exact ⟨k + 1, by omega, by go_num, by rw [Hn.out]; congr 1⟩
      case measure => simp [intOf]; omega
    · have k1 : ¬ (k : Int) < (X.size : Int) := by omega
      have Hn := Lib.hid (show b.take k = b from List.take_of_length_le (by omega))
      go_wp2_with fail
      go_ret
      exact ⟨by show Ending.returned (.int .i64 ((numB (b.take k) : Nat) : Int)) = _; rw [Hn.out], rfl⟩
/-- What a body of cells must look like, cell by cell. -/
theorem good_rest {b : BA} (hg : getOk b = true) {n : Nat} (hn : n < numB (b.take 1)) : 0 < (restN n (b.drop 1)).length ∧ numB ((restN n (b.drop 1)).take 1) + 4 ≤ (restN n (b.drop 1)).length ∧
    ((kind1 (restN n (b.drop 1)) = 0 ∧ 4 + numB ((restN n (b.drop 1)).take 1) + size1 (restN n (b.drop 1)) ≤ (restN n (b.drop 1)).length) ∨ (kind1 (restN n (b.drop 1)) = 1 ∧ 6 + numB ((restN n (b.drop 1)).take 1) ≤ (restN n (b.drop 1)).length)) := by
  obtain ⟨l, h1, h2, h3, h4⟩ := getOk_rest hg
  obtain ⟨r, hr⟩ := h4 n (by omega)
  have ho := h3 _ (getD_mem (show n < l.length by omega))
  rw [hr]
  generalize l.getD n nilC = c at *
  obtain ⟨p1, p2, p3, p4, p5⟩ := parts ho r
  have hk : numB ((encC c ++ r).take 1) = c.key.size := by
    have : (encC c ++ r).take 1 = [UInt8.ofNat c.key.size] := by simp [encC]
    rw [this, numB_one, byte_nat (by have := ho.1; omega)]
  have hl : (encC c ++ r).length = sizeC c + r.length := by rw [List.length_append, encC_length]
  rw [p3, p4, hk, hl]
  have h5 := size_ok ho
  unfold sizeC at *
  obtain ⟨_, h | h⟩ := ho
  · simp only [h.1, if_true] at *
    exact ⟨by omega, by omega, .inl ⟨trivial, by omega⟩⟩
  · have h0 : ¬ c.blob = 0 := by omega
    simp only [h0, if_false] at *
    exact ⟨by omega, by omega, .inr ⟨trivial, by omega⟩⟩
end Go.Proofs.YtljegjcajlkgiaaGreat
