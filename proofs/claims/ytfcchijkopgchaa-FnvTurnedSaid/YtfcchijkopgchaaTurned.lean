/- For every string s, every place and every byte by the law FnvTurned returns true: two texts that differ in just one byte have two hashes; nothing else is assumed. -/
import Derived.Test.YtfcchijkopgchaaRows
import Derived.Test.YtfcchijkopgchaaWalks
import Derived.Lib.Hide
import Derived.WalkLawsBesides
import Derived.WalkSpells
import Derived.Deep.QuietTactic
import Derived.BigQuiet
import Derived.Laws.IdiomStrings
import Derived.Laws.OwnMore
import Derived.Deep.OwnRows
import Derived.Lib.Strings
import Derived.Deep.RegionWith
import Derived.Test.YtfcchijkopgchaaPlain2
import Derived.WalkKit
import Derived.ProofKit
import Derived.OpenShut
import Derived.ShutString
namespace Go.Proofs.Ytfcchijkopgchaa.fnvTurned
open Go.ChangeShapes Go.WideShapes Go.ChangeAt Go.RowKit
open Go.ChangeMaps (open_string shut_string)
set_option linter.unusedVariables false

theorem own : ownKnob Try.prog.godebug = none := by kernel_rfl

theorem place (x : Int) (n : Nat) (h1 : 1 ≤ n) (h2 : n ≤ 100) : ∃ k : Nat, k < n ∧ (wrap64 (x.tmod (n : Int) + (n : Int))).tmod (n : Int) = (k : Int) := by
  have a := Int.tmod_lt_of_pos x (show (0 : Int) < n by omega)
  have b := Int.lt_tmod_of_pos x (show (0 : Int) < n by omega)
  generalize x.tmod (n : Int) = y at *
  have e : wrap64 (y + (n : Int)) = y + n := by unfold wrap64; omega
  rw [e]
  have c := Int.tmod_lt_of_pos (y + n) (show (0 : Int) < n by omega)
  have d := Int.tmod_nonneg (n : Int) (show 0 ≤ y + n by omega)
  obtain ⟨k, hk⟩ := Int.eq_ofNat_of_zero_le d
  exact ⟨k, by omega, hk⟩

theorem of_u8 (b : Int) (h : (Lit.int .u8 b).wf = true) : ∃ c : UInt8, b = (c.toNat : Int) := by
  simp [Lit.wf, IntKind.min, IntKind.max, IntKind.bits, IntKind.signed] at h
  refine ⟨UInt8.ofNat b.toNat, ?_⟩
  rw [UInt8.toNat_ofNat']
  omega

theorem run_cvx (c d : UInt8) (w : World) :
    (convert 29 9 (.slice (some ⟨w.heap.size, 0, none⟩) 1 1)).run Try.prog (w.alloc (.cells #[.int .u8 (bits .xor .u8 (c.toNat : Int) (d.toNat : Int))] 5)).drew = .ok (.string ⟨#[c ^^^ d]⟩) (w.alloc (.cells #[.int .u8 (bits .xor .u8 (c.toNat : Int) (d.toNat : Int))] 5)).drew := by
  have e : bits .xor .u8 (c.toNat : Int) (d.toNat : Int) = (((c ^^^ d).toNat : Nat) : Int) := by
    rw [u8_xor_nat _ _ (u8_lt c) (u8_lt d), UInt8.toNat_xor]
  rw [e]
  exact run_convert_bytes_back (P := Try.prog) (w.alloc (.cells #[.int .u8 (((c ^^^ d).toNat : Nat) : Int)] 5)).drew 29 9 5 ⟨w.heap.size, 0, none⟩ 1 [c ^^^ d] Try.underlying29 Try.underlying5 Try.underlying9 (by
    intro j hj
    obtain rfl : j = 0 := by simpa using hj
    rw [show (⟨w.heap.size, 0, none⟩ : Addr).add 0 = ⟨w.heap.size, 0, none⟩ from rfl, World.cell?_drew, World.cell?_alloc_mark]
    simp)

def turnedSum (s : ByteArray) (k : Nat) (hk : k < s.size) (c : UInt8) : Nat := hsum (s.data.toList.take k ++ [s[k] ^^^ c] ++ s.data.toList.drop (k + 1))

theorem turned_list (s : ByteArray) (k : Nat) (hk : k < s.size) (c : UInt8) :
    (s.extract 0 k ++ { data := #[s[k] ^^^ c] } ++ s.extract (k + 1) s.size).data.toList = s.data.toList.take k ++ [s[k] ^^^ c] ++ s.data.toList.drop (k + 1) := by
  have e : s.size = s.data.toList.length := by simp
  rw [ByteArray.data_append, ByteArray.data_append, Array.toList_append, Array.toList_append, Lib.extract_data, Lib.extract_data]
  simp only [List.drop_zero, Nat.sub_zero]
  congr 1
  rw [e]
  exact List.take_of_length_le (by rw [List.length_drop]; omega)

theorem size_list (t : ByteArray) : t.size = t.data.toList.length := by simp

theorem turned_size (s : ByteArray) (k : Nat) (hk : k < s.size) (c : UInt8) (hs : s.size ≤ 100) :
    (s.extract 0 k ++ { data := #[s[k] ^^^ c] } ++ s.extract (k + 1) s.size).size ≤ maxLen := by
  have e : (s.extract 0 k ++ { data := #[s[k] ^^^ c] } ++ s.extract (k + 1) s.size).size = (s.extract 0 k ++ { data := #[s[k] ^^^ c] } ++ s.extract (k + 1) s.size).data.toList.length := size_list _
  rw [e, turned_list s k hk c]
  have l1 : (s.data.toList.take k).length ≤ k := List.length_take_le _ _
  have l2 : (s.data.toList.drop (k + 1)).length ≤ s.size := by rw [List.length_drop]; simp
  simp only [List.length_append, List.length_singleton]
  unfold maxLen; omega

theorem sum_list (t : ByteArray) (n : Nat) (w : World) (ht : t.size ≤ maxLen) (e : hsum t.data.toList = n) :
    Calls Try.prog 10 #[.string t] w fun e w' => e = .returned (.int .u32 (n : Int)) ∧ w = w' :=
  (fnv_sum t w ht).mono fun _ _ ⟨he, hw⟩ => ⟨he.trans (ret_u32 (by rw [e])), hw⟩

theorem sum_turned (s : ByteArray) (k : Nat) (hk : k < s.size) (c : UInt8) (hs : s.size ≤ 100) (w : World) :
    Calls Try.prog 10 #[.string (s.extract 0 k ++ { data := #[s[k] ^^^ c] } ++ s.extract (k + 1) s.size)] w fun e w' => e = .returned (.int .u32 (turnedSum s k hk c : Nat)) ∧ w = w' := by
  generalize ht : (s.extract 0 k ++ { data := #[s[k] ^^^ c] } ++ s.extract (k + 1) s.size) = t
  have z : t.size ≤ maxLen := by rw [← ht]; exact turned_size s k hk c hs
  have e : hsum t.data.toList = turnedSum s k hk c := by rw [← ht, turned_list s k hk c, turnedSum]
  exact sum_list t (turnedSum s k hk c) w z e

theorem split_at (s : ByteArray) (k : Nat) (hk : k < s.size) : s.data.toList = s.data.toList.take k ++ [s[k]] ++ s.data.toList.drop (k + 1) := by
  rw [← take_snoc s k hk, List.take_append_drop]

theorem turned_ne (s : ByteArray) (k : Nat) (hk : k < s.size) (c : UInt8) (h : ((c.toNat : Int) == 0) = false) :
    (((turnedSum s k hk c : Nat) : Int) != ((hsum s.data.toList : Nat) : Int)) = true := by
  rw [bne_iff_ne]
  intro e
  have e1 : turnedSum s k hk c = hsum s.data.toList := by exact_mod_cast e
  have e3 : hsum s.data.toList = hsum (s.data.toList.take k ++ [s[k]] ++ s.data.toList.drop (k + 1)) := congrArg hsum (split_at s k hk)
  rw [e3, turnedSum] at e1
  have e2 := turned _ _ _ _ e1
  refine xor_ne s[k] c ?_ e2
  intro z
  rw [z] at h
  simp at h

theorem wrap_one (k : Nat) (h : k ≤ 100) : IntKind.i64.wrap ((k : Int) + 1) = (k : Int) + 1 := IntWalk.i64_in _ (by omega)
theorem nat_one (k : Nat) : ((k : Int) + 1).toNat = k + 1 := by omega

theorem grown_row {w w1 : World} (h : Drew w w1) (C : Array Value) (t : TypeId) : Grown w (w1.alloc (.cells C t)).drew := ((grown_drew h).alloc C t).drew

/-! The walk: the Go text returns true and leaves what was there as it was. -/
set_option maxHeartbeats 1000000 in
theorem walk (a0 : ByteArray) (a1 : Int) (a2 : Int) (w0 : a0.size ≤ maxLen) (w1 : (Lit.int .i64 a1).wf = true) (w2 : (Lit.int .u8 a2).wf = true) (w : World) :
    Calls Try.prog 7 #[.string a0, .int .i64 a1, .int .u8 a2] w fun e w' => e = .returned (.bool true) ∧ Grown w w' := by
  obtain ⟨c, rfl⟩ := of_u8 a2 w2
  by_cases h1 : a0.size ≤ 100
  · by_cases h2 : 1 ≤ a0.size
    · by_cases h3 : ((c.toNat : Int) == 0) = true
      · go_enter Try.func7, Try.ntmps7
        go_wp2_with fail
        refine (alive_yes _).mono ?_; rintro e w1 ⟨rfl, hd⟩
        go_wp2_with fail
        go_ret
        exact ⟨rfl, grown_drew hd⟩
      · have h3' : ((c.toNat : Int) == 0) = false := by simpa using h3
        clear h3
        go_enter Try.func7, Try.ntmps7
        go_wp2_with fail
        refine (alive_yes _).mono ?_; rintro e w1 ⟨rfl, hd⟩
        go_wp2_with fail
        obtain ⟨k, hk, ek⟩ := place a1 a0.size h2 h1
        rw [ek]
        clear ek
        have hcv := run_cvx a0[k] c
        have hne := turned_ne a0 k hk c h3'
        have b1 : (0 : Int) ≤ (k : Int) := by omega
        have b2 : (k : Int) ≤ (a0.size : Int) := by omega
        have b3 : (0 : Int) ≤ (k : Int) + 1 := by omega
        have b4 : (k : Int) + 1 ≤ (a0.size : Int) := by omega
        have b5 := wrap_one k (by omega)
        have b6 := nat_one k
        go_region_with (first | (go_at_call_of 10 (a0.extract 0 k); (with_reducible refine (sum_turned a0 k hk c h1 _).mono ?_); rintro e w3 ⟨rfl, rfl⟩) | (go_at_call 10; (with_reducible refine (fnv_sum a0 _ w0).mono ?_); rintro e w3 ⟨rfl, rfl⟩))
        all_goals (go_wp2_with fail; go_ret; exact ⟨rfl, grown_row hd _ _⟩)
    · go_enter Try.func7, Try.ntmps7
      go_wp2_with fail
      refine (alive_yes _).mono ?_; rintro e w1 ⟨rfl, hd⟩
      go_wp2_with fail
      go_ret
      exact ⟨rfl, grown_drew hd⟩
  · go_enter Try.func7, Try.ntmps7
    go_wp2_with fail
    refine (alive_yes _).mono ?_; rintro e w1 ⟨rfl, hd⟩
    go_wp2_with fail
    go_ret
    exact ⟨rfl, grown_drew hd⟩

/-! The row's step. -/
set_option maxRecDepth 100000 in
theorem lifted (os : Os) (started : os.Started) (H : Type) (enc : TypeId × Value → H) :
    ReturnsInHanded {} Try.checked os 7 .any (Rows.fnvTurnedSpec.pre6 enc Try.prog Try.f7 Rows.fnvTurnedRow.domain false) (Rows.fnvTurnedSpec.post enc Try.prog Try.f7 false true false false) := by
  refine returnsInHanded_of_change (C := Try.checked) own started (by kernel_rfl) Try.func7
    (ChangeSpec.witness6 (enc := enc) (C := Try.checked) false ⟨#[], #[.string ByteArray.empty, .int .i64 0, .int .u8 0], []⟩ 8 (by kernel_rfl) (by kernel_rfl) (by kernel_rfl) (by kernel_rfl)) ?_
  intro W base args ds gs before hval0 hW hcnd _
  have hval : ∀ (j : Nat) t v, Try.f7.params[j]? = some t → args[j]? = some v → Value.okWide Try.prog W .any base t v := hval0
  have hW' := hW
  obtain ⟨p, q, hA0, hV, rfl, hfz, hnd⟩ := hW
  have hA : DataW.TrodAll enc Try.prog W 0 (fun _ => true) true Try.f7.params.toList args.toList ds p := hA0
  rw [Try.params7] at hA hval
  obtain ⟨v0, vs0, d0, ds0, p0, q0, hargs, rfl, rfl, h0, r0⟩ := trodAll_cons hA
  obtain ⟨v1, vs1, d1, ds1, p1, q1, rfl, rfl, rfl, h1, r1⟩ := trodAll_cons r0
  obtain ⟨v2, vs2, d2, ds2, p2, q2, rfl, rfl, rfl, h2, r2⟩ := trodAll_cons r1
  obtain ⟨rfl, rfl, rfl⟩ := trodAll_nil r2
  obtain rfl : args = #[v0, v1, v2] := by cases args; simp_all
  obtain ⟨rfl, rfl⟩ := trodVars_none hV
  obtain ⟨a0, rfl, rfl, rfl, w0⟩ := open_string Try.underlying9 (hval 0 9 v0 rfl rfl) h0
  obtain ⟨a1, rfl, rfl, rfl, w1⟩ := open_int Try.underlying3 (hval 1 3 v1 rfl rfl) h1
  obtain ⟨a2, rfl, rfl, rfl, w2⟩ := open_int Try.underlying5 (hval 2 5 v2 rfl rfl) h2
  clear hA0 hval0
  simp only [List.append_nil] at hW'
  refine (walk a0 a1 a2 w0 w1 w2 W).mono fun e W' ⟨he, hg⟩ => ?_
  subst he
  exact ⟨_, rfl, post_of_same (pa := []) (pv := []) hW' (fun _ _ _ => (trodAll_cons_mk (shut_bool Try.underlying4 _) trodAll_mk0)) (fun sp _ => (trodAll_cons_mk (shut_string Try.underlying9 w0) (trodAll_cons_mk (shut_int Try.underlying3 w1) (trodAll_cons_mk (shut_int Try.underlying5 w2) trodAll_mk0)))) (fun _ _ => rfl) rfl
    (hg.frame _) hg.2.1 (ok_one (by kernel_rfl) rfl (okWide_bool_mk Try.underlying4 _))⟩

theorem over : Rows.fnvTurnedRow.holds Try.pinned (OpenSpec.ofChange Rows.fnvTurnedSpec) :=
  OpenClaim.holds_of_wide 7 Try.f7 rfl rfl rfl rfl rfl rfl rfl ⟨rfl, rfl, rfl, rfl, rfl⟩ rfl rfl rfl rfl rfl (by kernel_rfl) Try.func7 (by kernel_rfl)
    (of_decide_eq_true (by kernel_rfl)) (by unfold Func.isWrapper; first | (rw [if_pos (by decide +kernel)]; kernel_rfl) | (rw [if_neg (by decide +kernel)]; exact ⟨rfl, rfl⟩))
    (fun os started H enc _ => lifted os started H enc)

/-- The statement. -/
theorem proved : Rows.FnvTurnedSaid :=
  over
end Go.Proofs.Ytfcchijkopgchaa.fnvTurned
