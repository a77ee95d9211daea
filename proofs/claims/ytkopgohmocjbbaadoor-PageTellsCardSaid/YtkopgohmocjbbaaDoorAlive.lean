/- The laws' first call 'alive'. -/
import Derived.Test.YtkopgohmocjbbaaDoorRget
import Derived.Test.YtkopgohmocjbbaaDoorName
namespace Go.Proofs.YtkopgohmocjbbaaDoor
open Go.ChangeShapes Go.WideShapes Go.ChangeAt Go.RowKit
set_option linter.unusedVariables false
set_option linter.unusedSimpArgs false
def pa : Pg := ⟨3, 2, 0, zs 240⟩
theorem pa_body : pa.body.length = 240 := zs_length 240
theorem pa_ok : pa.Ok := ⟨by decide, by decide, by decide, pa_body⟩
theorem pa_len : pa.bytes.length = 256 := by rw [Pg.bytes_length, pa_body]
theorem okV_pa : okV 3 2 0 (str (zs 240)) = true := by
  unfold okV
  rw [decide_eq_true_iff, str_size, zs_length]
  decide
theorem extract_str (l : BA) (n : Nat) : (str l).extract 0 n = str (l.take n) := by
  apply ByteArray.ext
  apply Array.ext'
  simp [str, ByteArray.data_extract]
theorem put_pa (w : World) : Calls Tryd.prog 10 #[.agg #[.int .i64 3, .int .i64 2, .int .i64 0, .string (str (zs 240))]] w fun e w' => e = .returned (.tuple #[.string (str pa.bytes), .bool true]) ∧ Below w.heap.size w w' := by
  have h := put_ok 3 2 0 (str (zs 240)) okV_pa w
  rw [str_toList] at h
  exact h
theorem get_pa (w : World) : Calls Tryd.prog 12 #[.string (str pa.bytes)] w fun e w' => e = .returned (.tuple #[.agg #[.int .i64 3, .int .i64 2, .int .i64 0, .string (str (zs 240))], .bool true]) ∧ Below w.heap.size w w' := by
  have h := get_any (str pa.bytes) (by rw [str_size, pa_len]; unfold maxLen; omega) w
  rw [str_toList, valB_some (getP_bytes pa_ok), okB_some (getP_bytes pa_ok)] at h
  exact h
theorem pa_head : (str pa.bytes).extract 0 6 = ⟨#[80, 71, 3, 2, 0, 0]⟩ := by
  rw [extract_str, show pa.bytes = [80, 71, 3, 2, 0, 0] ++ (zs 10 ++ pa.body) by simp [Pg.bytes, Pg.nums, pa, u8], show (6 : Nat) = ([80, 71, 3, 2, 0, 0] : BA).length from rfl, List.take_left]
  rfl
set_option maxRecDepth 100000 in
set_option maxHeartbeats 2000000 in
theorem alive_yes (w : World) (hn : NamesAt w) : Calls Tryd.prog 9 #[] w fun e w' => e = .returned (.bool true) ∧ Below w.heap.size w w' := by
  have EM := Lib.hid (fun w => empty_any 3 2 w)
  have PU := Lib.hid put_pa
  have GE := Lib.hid get_pa
  have hd := pa_head
  have hsz : (str pa.bytes).size = 256 := by rw [str_size, pa_len]
  unfold pv at EM
  generalize str pa.bytes = s at *
  have hse : ((str (zs 240)).toList == (str (zs 240)).toList) = true := by simp
  generalize str (zs 240) = y at *
  have HN := Lib.hid hn
  clear hn
  go_enter Tryd.func9, Tryd.ntmps9
  go_wp2_with fail
  refine (EM.out _).mono ?_; rintro e w1 ⟨rfl, hb⟩
  have HB1 := Lib.hid hb
  clear hb
  go_wp2_with fail
  refine (PU.out _).mono ?_; rintro e w2 ⟨rfl, hb⟩
  have HX2 := Lib.hid ((Box.new w1 (.int .i64 3) (.int .i64 2) (.int .i64 0) (.string y)).kept hb)
  have HB2 := Lib.hid ((HB1.out.alloc (Below.size HB1.out) _).trans (hb.mono (Nat.le_trans (Below.size HB1.out) (by simp))))
  clear hb HB1 PU EM
  go_wp2_with fail
  refine (GE.out _).mono ?_; rintro e w3 ⟨rfl, hb⟩
  have HX3 := Lib.hid (HX2.out.kept hb)
  have HB3 := Lib.hid (HB2.out.trans (hb.mono (Below.size HB2.out)))
  clear hb HB2 HX2 GE
  obtain ⟨x0, x1, x2, x3⟩ := HX3.out.cells
  have NA := Lib.hid (fun r (h : Held w3 r) => name_any 5 r (HN.out.kept (HB3.out.trans (Below.mono h (Below.size HB3.out)))))
  rw [show str (nm 5) = ByteArray.mk #[98, 108, 111, 98] from rfl] at NA
  have hlt := HX3.out.lt
  go_wp2_with fail
  refine (NA.out _ ((Below.refl w3.heap.size w3).alloc (Nat.le_refl _) _)).mono ?_; rintro e w4 ⟨rfl, rfl⟩
  have HB4 := Lib.hid (HB3.out.alloc (Below.size HB3.out) (.cells #[.int .i64 3, .int .i64 2, .int .i64 0, .string y] 23))
  go_wp2_with fail
  go_ret
  exact ⟨rfl, HB4.out⟩
end Go.Proofs.YtkopgohmocjbbaaDoor
