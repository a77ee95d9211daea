/- For every string s and every byte b the law FnvParts returns true: the hash of s and b is that of s, turned once more; nothing else is assumed. -/
import Derived.Test.YtfcchijkopgchaaRows
import Derived.Test.YtfcchijkopgchaaWalks
import Derived.Lib.Hide
import Derived.WalkLawsBesides
import Derived.WalkSpells
import Derived.Deep.QuietTactic
import Derived.BigQuiet
import Derived.Laws.IdiomStrings
import Derived.Laws.OwnMore
import Derived.Deep.OwnRows
import Derived.WalkKit
import Derived.ProofKit
import Derived.OpenShut
import Derived.ShutString
namespace Go.Proofs.Ytfcchijkopgchaa.fnvParts
open Go.ChangeShapes Go.WideShapes Go.ChangeAt Go.RowKit
open Go.ChangeMaps (open_string shut_string)
set_option linter.unusedVariables false

theorem own : ownKnob Try.prog.godebug = none := by kernel_rfl

theorem run_cv1 (c : UInt8) (w : World) :
    (convert 29 9 (.slice (some ⟨w.heap.size, 0, none⟩) 1 1)).run Try.prog (w.alloc (.cells #[.int .u8 (c.toNat : Int)] 5)) = .ok (.string ⟨#[c]⟩) (w.alloc (.cells #[.int .u8 (c.toNat : Int)] 5)) :=
  run_convert_bytes_back (P := Try.prog) (w.alloc (.cells #[.int .u8 (c.toNat : Int)] 5)) 29 9 5 ⟨w.heap.size, 0, none⟩ 1 [c] Try.underlying29 Try.underlying5 Try.underlying9 (by
    intro j hj
    obtain rfl : j = 0 := by simpa using hj
    rw [show (⟨w.heap.size, 0, none⟩ : Addr).add 0 = ⟨w.heap.size, 0, none⟩ from rfl, World.cell?_alloc_mark]
    simp)

theorem of_u8 (b : Int) (h : (Lit.int .u8 b).wf = true) : ∃ c : UInt8, b = (c.toNat : Int) := by
  simp [Lit.wf, IntKind.min, IntKind.max, IntKind.bits, IntKind.signed] at h
  refine ⟨UInt8.ofNat b.toNat, ?_⟩
  rw [UInt8.toNat_ofNat']
  omega

theorem hsum_of (l m : List UInt8) (c : UInt8) (e : m = l ++ [c]) : ((hsum m : Nat) : Int) = ((hstep (hsum l) c : Nat) : Int) := by
  rw [e, hsum_snoc]

theorem sum_of (l : List UInt8) (t : ByteArray) (c : UInt8) (w : World) (ht : t.size ≤ maxLen) (e : t.data.toList = l ++ [c]) :
    Calls Try.prog 10 #[.string t] w fun e w' => e = .returned (.int .u32 (hstep (hsum l) c)) ∧ w = w' :=
  (fnv_sum t w ht).mono fun _ _ ⟨he, hw⟩ => ⟨he.trans (ret_u32 (hsum_of l _ c e)), hw⟩

theorem size_more (s : ByteArray) (c : UInt8) (hs : s.size ≤ 100) : (s ++ { data := #[c] } : ByteArray).size ≤ maxLen := by
  have e1 : (s ++ { data := #[c] } : ByteArray).size = s.size + 1 := by rw [ByteArray.size_append]; rfl
  rw [e1]; unfold maxLen; omega

theorem list_more (s : ByteArray) (c : UInt8) : (s ++ { data := #[c] } : ByteArray).data.toList = s.data.toList ++ [c] := by simp

theorem sum_more (s : ByteArray) (c : UInt8) (w : World) (hs : s.size ≤ 100) :
    Calls Try.prog 10 #[.string (s ++ { data := #[c] })] w fun e w' => e = .returned (.int .u32 (hstep (hsum s.data.toList) c)) ∧ w = w' := by
  have h := sum_of s.data.toList (s ++ { data := #[c] }) c w (size_more s c hs) (list_more s c)
  with_reducible exact h

theorem once_more (l : List UInt8) (c : UInt8) :
    (((hstep (hsum l) c : Nat) : Int) == bits .xor .u32 ((hsum l : Nat) : Int) ((c.toNat : Int) % 4294967296) * 16777619 % 4294967296) = true := by
  rw [hstep_int _ _ (hsum_lt l), beq_iff_eq]

theorem key_yes (s : ByteArray) (h : 1 ≤ s.size) (w : World) : Calls Try.prog 14 #[.string s] w fun e w' => e = .returned (.bool (decide ((s.size : Int) ≤ 16))) ∧ w = w' :=
  (fnv_key s w).mono fun _ _ ⟨he, hw⟩ => ⟨by rw [he, keyB_yes _ h], hw⟩
theorem key_no (s : ByteArray) (h : ¬ 1 ≤ s.size) (w : World) : Calls Try.prog 14 #[.string s] w fun e w' => e = .returned (.bool false) ∧ w = w' :=
  (fnv_key s w).mono fun _ _ ⟨he, hw⟩ => ⟨by rw [he, keyB_no _ h], hw⟩
theorem val_yes (s : ByteArray) (h : s.size ≤ 100) (w : World) : Calls Try.prog 16 #[.string s] w fun e w' => e = .returned (.bool true) ∧ w = w' :=
  (fnv_val s w).mono fun _ _ ⟨he, hw⟩ => ⟨by rw [he]; exact ret_bool (by unfold valB; simp; omega), hw⟩

theorem grown_row {w w1 : World} (h : Drew w w1) (C : Array Value) (t : TypeId) : Grown w (w1.alloc (.cells C t)) := (grown_drew h).alloc C t

/-! The walk: the Go text returns true and leaves what was there as it was. -/
theorem walk (a0 : ByteArray) (a1 : Int) (w0 : a0.size ≤ maxLen) (w1 : (Lit.int .u8 a1).wf = true) (w : World) :
    Calls Try.prog 5 #[.string a0, .int .u8 a1] w fun e w' => e = .returned (.bool true) ∧ Grown w w' := by
  obtain ⟨c, rfl⟩ := of_u8 a1 w1
  by_cases h1 : a0.size ≤ 100
  · have hcv := run_cv1 c
    have q1 := once_more a0.data.toList c
    by_cases h2 : 1 ≤ a0.size
    · go_enter Try.func5, Try.ntmps5
      go_wp2_with fail
      refine (alive_yes _).mono ?_; rintro e w1 ⟨rfl, hd⟩
      go_wp2_with fail
      refine (sum_more _ _ _ h1).mono ?_; rintro e w2 ⟨rfl, rfl⟩
      go_wp2_with fail
      refine (fnv_sum _ _ w0).mono ?_; rintro e w2 ⟨rfl, rfl⟩
      go_wp2_with fail
      refine (key_yes _ h2 _).mono ?_; rintro e w2 ⟨rfl, rfl⟩
      go_wp2_with fail
      refine (val_yes _ h1 _).mono ?_; rintro e w2 ⟨rfl, rfl⟩
      go_wp2_with fail
      go_ret
      exact ⟨rfl, grown_row hd _ _⟩
    · go_enter Try.func5, Try.ntmps5
      go_wp2_with fail
      refine (alive_yes _).mono ?_; rintro e w1 ⟨rfl, hd⟩
      go_wp2_with fail
      refine (sum_more _ _ _ h1).mono ?_; rintro e w2 ⟨rfl, rfl⟩
      go_wp2_with fail
      refine (fnv_sum _ _ w0).mono ?_; rintro e w2 ⟨rfl, rfl⟩
      go_wp2_with fail
      refine (key_no _ h2 _).mono ?_; rintro e w2 ⟨rfl, rfl⟩
      go_wp2_with fail
      refine (val_yes _ h1 _).mono ?_; rintro e w2 ⟨rfl, rfl⟩
      go_wp2_with fail
      go_ret
      exact ⟨rfl, grown_row hd _ _⟩
  · go_enter Try.func5, Try.ntmps5
    go_wp2_with fail
    refine (alive_yes _).mono ?_; rintro e w1 ⟨rfl, hd⟩
    go_wp2_with fail
    go_ret
    exact ⟨rfl, grown_drew hd⟩

/-! The row's step. -/
set_option maxRecDepth 100000 in
theorem lifted (os : Os) (started : os.Started) (H : Type) (enc : TypeId × Value → H) :
    ReturnsInHanded {} Try.checked os 5 .any (Rows.fnvPartsSpec.pre6 enc Try.prog Try.f5 Rows.fnvPartsRow.domain false) (Rows.fnvPartsSpec.post enc Try.prog Try.f5 false true false false) := by
  refine returnsInHanded_of_change (C := Try.checked) own started (by kernel_rfl) Try.func5
    (ChangeSpec.witness6 (enc := enc) (C := Try.checked) false ⟨#[], #[.string ByteArray.empty, .int .u8 0], []⟩ 8 (by kernel_rfl) (by kernel_rfl) (by kernel_rfl) (by kernel_rfl)) ?_
  intro W base args ds gs before hval0 hW hcnd _
  have hval : ∀ (j : Nat) t v, Try.f5.params[j]? = some t → args[j]? = some v → Value.okWide Try.prog W .any base t v := hval0
  have hW' := hW
  obtain ⟨p, q, hA0, hV, rfl, hfz, hnd⟩ := hW
  have hA : DataW.TrodAll enc Try.prog W 0 (fun _ => true) true Try.f5.params.toList args.toList ds p := hA0
  rw [Try.params5] at hA hval
  obtain ⟨v0, vs0, d0, ds0, p0, q0, hargs, rfl, rfl, h0, r0⟩ := trodAll_cons hA
  obtain ⟨v1, vs1, d1, ds1, p1, q1, rfl, rfl, rfl, h1, r1⟩ := trodAll_cons r0
  obtain ⟨rfl, rfl, rfl⟩ := trodAll_nil r1
  obtain rfl : args = #[v0, v1] := by cases args; simp_all
  obtain ⟨rfl, rfl⟩ := trodVars_none hV
  obtain ⟨a0, rfl, rfl, rfl, w0⟩ := open_string Try.underlying9 (hval 0 9 v0 rfl rfl) h0
  obtain ⟨a1, rfl, rfl, rfl, w1⟩ := open_int Try.underlying5 (hval 1 5 v1 rfl rfl) h1
  clear hA0 hval0
  simp only [List.append_nil] at hW'
  refine (walk a0 a1 w0 w1 W).mono fun e W' ⟨he, hg⟩ => ?_
  subst he
  exact ⟨_, rfl, post_of_same (pa := []) (pv := []) hW' (fun _ _ _ => (trodAll_cons_mk (shut_bool Try.underlying4 _) trodAll_mk0)) (fun sp _ => (trodAll_cons_mk (shut_string Try.underlying9 w0) (trodAll_cons_mk (shut_int Try.underlying5 w1) trodAll_mk0))) (fun _ _ => rfl) rfl
    (hg.frame _) hg.2.1 (ok_one (by kernel_rfl) rfl (okWide_bool_mk Try.underlying4 _))⟩

theorem over : Rows.fnvPartsRow.holds Try.pinned (OpenSpec.ofChange Rows.fnvPartsSpec) :=
  OpenClaim.holds_of_wide 5 Try.f5 rfl rfl rfl rfl rfl rfl rfl ⟨rfl, rfl, rfl, rfl, rfl⟩ rfl rfl rfl rfl rfl (by kernel_rfl) Try.func5 (by kernel_rfl)
    (of_decide_eq_true (by kernel_rfl)) (by unfold Func.isWrapper; first | (rw [if_pos (by decide +kernel)]; kernel_rfl) | (rw [if_neg (by decide +kernel)]; exact ⟨rfl, rfl⟩))
    (fun os started H enc _ => lifted os started H enc)

/-- The statement. -/
theorem proved : Rows.FnvPartsSaid :=
  over
end Go.Proofs.Ytfcchijkopgchaa.fnvParts
