/- For every number n the law FnvEdges returns true: the longest keys and values that may be, and none longer; nothing else is assumed. -/
import Derived.Test.YtfcchijkopgchaaRows
import Derived.Test.YtfcchijkopgchaaWalks
import Derived.Lib.Hide
import Derived.WalkLawsBesides
import Derived.WalkSpells
import Derived.Deep.QuietTactic
import Derived.BigQuiet
import Derived.Laws.IdiomStrings
import Derived.Laws.OwnMore
import Derived.Deep.OwnRows
import Derived.WalkKit
import Derived.ProofKit
import Derived.OpenShut
import Derived.ShutString
namespace Go.Proofs.Ytfcchijkopgchaa.fnvEdges
open Go.ChangeShapes Go.WideShapes Go.ChangeAt Go.RowKit
open Go.ChangeMaps (open_string shut_string)
set_option linter.unusedVariables false

theorem own : ownKnob Try.prog.godebug = none := by kernel_rfl

theorem info5 : (Try.prog.info? 5).map (fun i => (i.zero, i.size, i.bytes)) = some (some (.int .u8 0), 1, 1) := by kernel_rfl

def zeros (n : Nat) : ByteArray := ⟨(List.replicate n (0 : UInt8)).toArray⟩
theorem size_zeros (n : Nat) : (zeros n).size = n := by
  show (List.replicate n (0 : UInt8)).toArray.size = n
  simp

theorem run_mk (n : Nat) (h : n ≤ 500) (w : World) :
    (Instr.makeSlice 29 (.int .i64 (n : Int)) (.int .i64 (n : Int))).run Try.prog w = .ok (.slice (some ⟨w.heap.size, 0, none⟩) n n) (w.alloc (.cells (madeCells #[.int .u8 0] n) 5)) :=
  run_make_row' 29 5 (.int .u8 0) 1 Try.underlying29 info5 rfl .i64 .i64 n (by omega) (by omega) w

theorem run_cv (n : Nat) (w : World) :
    (convert 29 9 (.slice (some ⟨w.heap.size, 0, none⟩) n n)).run Try.prog (w.alloc (.cells (madeCells #[.int .u8 0] n) 5)) = .ok (.string (zeros n)) (w.alloc (.cells (madeCells #[.int .u8 0] n) 5)) := by
  have h := run_convert_bytes_back (P := Try.prog) (w.alloc (.cells (madeCells #[.int .u8 0] n) 5)) 29 9 5 ⟨w.heap.size, 0, none⟩ n (List.replicate n 0) Try.underlying29 Try.underlying5 Try.underlying9 (by
    intro j hj
    have hj' : j < n := by simpa using hj
    have e : (⟨w.heap.size, 0, none⟩ : Addr).add j = ⟨w.heap.size, j, none⟩ := by
      simp [Addr.add]
      exact fun h => h.symm
    rw [e, World.cell?_alloc_mark]
    have e2 := toList_madeCells_one (.int .u8 0) n
    rw [← Array.getElem?_toList, e2, List.getElem?_replicate]
    simp [hj'])
  simp only [List.length_replicate] at h
  exact h

theorem key_zeros (n : Nat) (b : Bool) (hb : keyB n = b) (w : World) : Calls Try.prog 14 #[.string (zeros n)] w fun e w' => e = .returned (.bool b) ∧ w = w' :=
  (fnv_key (zeros n) w).mono fun _ _ ⟨he, hw⟩ => ⟨by rw [he, size_zeros, hb], hw⟩
theorem val_zeros (n : Nat) (b : Bool) (hb : valB n = b) (w : World) : Calls Try.prog 16 #[.string (zeros n)] w fun e w' => e = .returned (.bool b) ∧ w = w' :=
  (fnv_val (zeros n) w).mono fun _ _ ⟨he, hw⟩ => ⟨by rw [he, size_zeros, hb], hw⟩

theorem grown_row {w w1 : World} (h : Drew w w1) (C : Array Value) (t : TypeId) : Grown w (w1.alloc (.cells C t)) := (grown_drew h).alloc C t

/-! The walk: the Go text returns true and leaves what was there as it was. -/
theorem walk (a0 : Int) (w0 : (Lit.int .i64 a0).wf = true) (w : World) :
    Calls Try.prog 8 #[.int .i64 a0] w fun e w' => e = .returned (.bool true) ∧ Grown w w' := by
  by_cases h1 : 0 ≤ a0
  · by_cases h2 : a0 ≤ 500
    · obtain ⟨n, rfl⟩ := Int.eq_ofNat_of_zero_le h1
      have hmk := run_mk n (by omega)
      have hcv := run_cv n
      by_cases k1 : 1 ≤ n
      · by_cases k2 : n ≤ 16
        · go_enter Try.func8, Try.ntmps8
          go_wp2_with fail
          refine (alive_yes _).mono ?_; rintro e w1 ⟨rfl, hd⟩
          go_wp2_with fail
          refine (key_zeros n true (by unfold keyB; simp; omega) _).mono ?_; rintro e w2 ⟨rfl, rfl⟩
          go_wp2_with fail
          refine (val_zeros n true (by unfold valB; simp; omega) _).mono ?_; rintro e w2 ⟨rfl, rfl⟩
          go_wp2_with fail
          go_ret
          exact ⟨ret_bool (by simp; omega), grown_row hd _ _⟩
        · by_cases k3 : n ≤ 400
          · go_enter Try.func8, Try.ntmps8
            go_wp2_with fail
            refine (alive_yes _).mono ?_; rintro e w1 ⟨rfl, hd⟩
            go_wp2_with fail
            refine (key_zeros n false (by unfold keyB; simp; omega) _).mono ?_; rintro e w2 ⟨rfl, rfl⟩
            go_wp2_with fail
            refine (val_zeros n true (by unfold valB; simp; omega) _).mono ?_; rintro e w2 ⟨rfl, rfl⟩
            go_wp2_with fail
            go_ret
            exact ⟨ret_bool (by simp; omega), grown_row hd _ _⟩
          · go_enter Try.func8, Try.ntmps8
            go_wp2_with fail
            refine (alive_yes _).mono ?_; rintro e w1 ⟨rfl, hd⟩
            go_wp2_with fail
            refine (key_zeros n false (by unfold keyB; simp; omega) _).mono ?_; rintro e w2 ⟨rfl, rfl⟩
            go_wp2_with fail
            refine (val_zeros n false (by unfold valB; simp; omega) _).mono ?_; rintro e w2 ⟨rfl, rfl⟩
            go_wp2_with fail
            go_ret
            exact ⟨ret_bool (by simp; omega), grown_row hd _ _⟩
      · go_enter Try.func8, Try.ntmps8
        go_wp2_with fail
        refine (alive_yes _).mono ?_; rintro e w1 ⟨rfl, hd⟩
        go_wp2_with fail
        refine (key_zeros n false (by unfold keyB; simp; omega) _).mono ?_; rintro e w2 ⟨rfl, rfl⟩
        go_wp2_with fail
        refine (val_zeros n true (by unfold valB; simp; omega) _).mono ?_; rintro e w2 ⟨rfl, rfl⟩
        go_wp2_with fail
        go_ret
        exact ⟨ret_bool (by simp; omega), grown_row hd _ _⟩
    · go_enter Try.func8, Try.ntmps8
      go_wp2_with fail
      refine (alive_yes _).mono ?_; rintro e w1 ⟨rfl, hd⟩
      go_wp2_with fail
      go_ret
      exact ⟨rfl, grown_drew hd⟩
  · go_enter Try.func8, Try.ntmps8
    go_wp2_with fail
    refine (alive_yes _).mono ?_; rintro e w1 ⟨rfl, hd⟩
    go_wp2_with fail
    go_ret
    exact ⟨rfl, grown_drew hd⟩

/-! The row's step. -/
set_option maxRecDepth 100000 in
theorem lifted (os : Os) (started : os.Started) (H : Type) (enc : TypeId × Value → H) :
    ReturnsInHanded {} Try.checked os 8 .any (Rows.fnvEdgesSpec.pre6 enc Try.prog Try.f8 Rows.fnvEdgesRow.domain false) (Rows.fnvEdgesSpec.post enc Try.prog Try.f8 false true false false) := by
  refine returnsInHanded_of_change (C := Try.checked) own started (by kernel_rfl) Try.func8
    (ChangeSpec.witness6 (enc := enc) (C := Try.checked) false ⟨#[], #[.int .i64 0], []⟩ 8 (by kernel_rfl) (by kernel_rfl) (by kernel_rfl) (by kernel_rfl)) ?_
  intro W base args ds gs before hval0 hW hcnd _
  have hval : ∀ (j : Nat) t v, Try.f8.params[j]? = some t → args[j]? = some v → Value.okWide Try.prog W .any base t v := hval0
  have hW' := hW
  obtain ⟨p, q, hA0, hV, rfl, hfz, hnd⟩ := hW
  have hA : DataW.TrodAll enc Try.prog W 0 (fun _ => true) true Try.f8.params.toList args.toList ds p := hA0
  rw [Try.params8] at hA hval
  obtain ⟨v0, vs0, d0, ds0, p0, q0, hargs, rfl, rfl, h0, r0⟩ := trodAll_cons hA
  obtain ⟨rfl, rfl, rfl⟩ := trodAll_nil r0
  obtain rfl : args = #[v0] := by cases args; simp_all
  obtain ⟨rfl, rfl⟩ := trodVars_none hV
  obtain ⟨a0, rfl, rfl, rfl, w0⟩ := open_int Try.underlying3 (hval 0 3 v0 rfl rfl) h0
  clear hA0 hval0
  simp only [List.append_nil] at hW'
  refine (walk a0 w0 W).mono fun e W' ⟨he, hg⟩ => ?_
  subst he
  exact ⟨_, rfl, post_of_same (pa := []) (pv := []) hW' (fun _ _ _ => (trodAll_cons_mk (shut_bool Try.underlying4 _) trodAll_mk0)) (fun sp _ => (trodAll_cons_mk (shut_int Try.underlying3 w0) trodAll_mk0)) (fun _ _ => rfl) rfl
    (hg.frame _) hg.2.1 (ok_one (by kernel_rfl) rfl (okWide_bool_mk Try.underlying4 _))⟩

theorem over : Rows.fnvEdgesRow.holds Try.pinned (OpenSpec.ofChange Rows.fnvEdgesSpec) :=
  OpenClaim.holds_of_wide 8 Try.f8 rfl rfl rfl rfl rfl rfl rfl ⟨rfl, rfl, rfl, rfl, rfl⟩ rfl rfl rfl rfl rfl (by kernel_rfl) Try.func8 (by kernel_rfl)
    (of_decide_eq_true (by kernel_rfl)) (by unfold Func.isWrapper; first | (rw [if_pos (by decide +kernel)]; kernel_rfl) | (rw [if_neg (by decide +kernel)]; exact ⟨rfl, rfl⟩))
    (fun os started H enc _ => lifted os started H enc)

/-- The statement. -/
theorem proved : Rows.FnvEdgesSaid :=
  over
end Go.Proofs.Ytfcchijkopgchaa.fnvEdges
