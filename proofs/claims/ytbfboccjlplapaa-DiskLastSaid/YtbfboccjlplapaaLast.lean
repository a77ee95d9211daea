/- For every list of at most thirty bools: of as many writes to one sector a crash leaves the last one that it keeps, or zeros; for longer lists the statement asks nothing. No condition. -/
import Derived.Test.YtbfboccjlplapaaRows
import Derived.Test.YtbfboccjlplapaaBase
import Derived.Lib.Hide
import Derived.WalkKit
import Derived.ProofKit
import Derived.OpenShut
import Derived.ChangeOld
import Derived.Below
import Derived.Carry
namespace Go.Proofs.Ytbfboccjlplapaa.diskLast
open Go.ChangeShapes Go.WideShapes Go.ChangeAt Go.RowKit
set_option linter.unusedVariables false

theorem own : ownKnob Try.prog.godebug = none := by kernel_rfl
theorem laidOut : laidOutB Try.prog = true := by kernel_rfl


theorem fill_e (w : World) : Calls Try.prog 18 #[.string ⟨#[]⟩] w fun e w' => e = .returned (.string (str zeroS)) ∧ Below w.heap.size w w' := by
  have := fill_ok ⟨#[]⟩ (by decide) w
  rw [show fill (ByteArray.mk #[]).data.toList = zeroS from fill_nil] at this
  exact this
def mark (k : Nat) : BA := fill [UInt8.ofNat (k + 1)]
theorem fill_mark (k : Nat) (w : World) : Calls Try.prog 18 #[.string ⟨#[UInt8.ofNat k + 1]⟩] w fun e w' => e = .returned (.string (str (mark k))) ∧ Below w.heap.size w w' := by
  rw [show UInt8.ofNat k + 1 = UInt8.ofNat (k + 1) by simp]
  exact fill_ok ⟨#[UInt8.ofNat (k + 1)]⟩ (by simp [ByteArray.size, maxLen]) w
theorem Keeps_of {w w1 wr : World} {A : Option Addr} {n C : Nat} {l : List Bool} (h : Bools w A n l) (hb : Below w.heap.size w w1) (hb2 : Below C w1 wr) (hC : w.heap.size ≤ C) : Keeps C A l wr := fun i hi => by
  obtain ⟨b, o, h1, h2, h3⟩ := h.2 i (by rw [← h.1]; exact hi)
  refine ⟨b, o, h1, ?_, .inl (by omega)⟩
  rw [hb2.cell (p := ⟨b, o + i, none⟩) (show b < C by omega), hb.cell (p := ⟨b, o + i, none⟩) h2]
  exact h3
def marks (k : Nat) : List PW := (List.range k).map fun j => (1, mark j)
theorem marks_succ (k : Nat) : marks (k + 1) = marks k ++ [(1, mark k)] := by simp [marks, List.range_succ]
theorem marks_length (k : Nat) : (marks k).length = k := by simp [marks]
/-- What the last kept write left. -/
def want (l : List Bool) (k : Nat) : BA := (appl [zeroS, zeroS] (kept (marks k) l)).getD 1 []
theorem want_succ (l : List Bool) (k : Nat) : want l (k + 1) = if l.getD k false then mark k else want l k := by
  unfold want
  rw [marks_succ, kept_snoc, marks_length]
  split
  · have hl : (appl [zeroS, zeroS] (kept (marks k) l)).length = 2 := appl_length _ _
    rw [appl_snoc, List.getD_eq_getElem?_getD, List.getElem?_set_self (by omega)]; rfl
  · rw [List.append_nil]
theorem now_mark (k : Nat) : (appl [zeroS, zeroS] (marks (k + 1))).getD 1 [] = mark k := by
  have hl : (appl [zeroS, zeroS] (marks k)).length = 2 := appl_length _ _
  rw [marks_succ, appl_snoc, List.getD_eq_getElem?_getD, List.getElem?_set_self (by omega)]; rfl
theorem convert_u8 (w : World) (k : Nat) (hk : k ≤ 100) : (convert 3 5 (.int .i64 ((k : Int) + 1))).run Try.prog w = .ok (.int .u8 ((k : Int) + 1)) w := by
  have e : IntKind.u8.wrap ((k : Int) + 1) = (k : Int) + 1 := by
    unfold IntKind.wrap
    simp [IntKind.bits, IntKind.signed]
    omega
  simp [convert, run_underlying Try.underlying3, run_underlying Try.underlying5, Conv.intToInt, e]
theorem convert_one (w : World) (k : Nat) : (convert 49 9 (.slice (some ⟨w.heap.size, 0, none⟩) 1 1)).run Try.prog (w.alloc (.cells #[.int .u8 ((k : Int) + 1)] 5)) = .ok (.string ⟨#[UInt8.ofNat (k + 1)]⟩) (w.alloc (.cells #[.int .u8 ((k : Int) + 1)] 5)) := by
  have := run_convert_bytes_arg (P := Try.prog) (w.alloc (.cells #[.int .u8 ((k : Int) + 1)] 5)) 49 5 Try.underlying49 Try.underlying5 w.heap.size 0 1 1 [(k : Int) + 1] rfl (fun i hi => by
    obtain rfl : i = 0 := by omega
    exact cell_of_row _ _ 0 _ _ _ (heap_alloc_new w _)) 9 Try.underlying9
  rw [this]
  rfl
set_option maxRecDepth 100000 in
set_option maxHeartbeats 8000000 in
theorem walk (A : Option Addr) (n c : Nat) (l : List Bool) (w : World) (hl : Bools w A n l) (hm : n ≤ maxLen) :
    Calls Try.prog 6 #[.slice A n c] w fun e w' => e = .returned (.bool true) ∧ Below w.heap.size w w' := by
  unfold maxLen at hm
  have HL := Lib.hid hl
  clear hl
  by_cases c0 : 30 < n
  · have d0 : True := trivial
    go_enter Try.func6, Try.ntmps6
    go_wp2_with fail
    refine (alive_yes _).mono ?_; rintro e w1 ⟨rfl, hb1⟩
    have B1 := Lib.hid hb1
    clear hb1
    go_wp2_with fail
    go_ret
    exact ⟨rfl, B1.out⟩
  · have d0 : n ≤ 30 := by omega
    go_enter Try.func6, Try.ntmps6
    go_wp2_with fail
    refine (alive_yes _).mono ?_; rintro e w1 ⟨rfl, hb1⟩
    have B1 := Lib.hid hb1
    clear hb1
    go_wp2_with fail
    refine (new_d 2 (by omega) (by omega) _).mono ?_; rintro e w2 ⟨rfl, h⟩
    obtain ⟨C, hC⟩ : ∃ C, C = w1.heap.size := ⟨_, rfl⟩
    rw [← hC] at h ⊢
    have H := Lib.hid h
    have HC := Lib.hid (show w.heap.size ≤ C by rw [hC]; exact B1.out.size)
    clear h hC
    have FE := Lib.hid fill_e
    obtain ⟨Z, hZ⟩ : ∃ Z, Z = zeroS := ⟨_, rfl⟩
    rw [← hZ] at FE
    have HZZ := Lib.hid hZ
    clear hZ
    go_wp2_with fail
    refine (FE.out _).mono ?_; rintro e w3 ⟨rfl, h⟩
    have H1 := Lib.hid (H.out.more h (Nat.le_refl _))
    clear h H
    go_wp2_with fail
    go_loopw [4, 25] (fun nv kv wr => ∃ k : Nat, k ≤ n ∧ kv = .int .i64 k ∧ nv = .string (str (want l k)) ∧ After C (C + 1) ⟨[zeroS, zeroS], marks k, true, -1⟩ w1 wr) (fun _ kv _ => n - (intOf kv).toNat)
    case atStart => exact ⟨0, Nat.zero_le _, rfl, by rw [HZZ.out]; rfl, H1.out⟩
    case round =>
      clear H1
      obtain ⟨k, hk, rfl, rfl, hq⟩ := hrel
      have HQ := Lib.hid hq
      clear hq
      by_cases hlt : k < n
      · have hkk : (k : Int) < n := by omega
        obtain ⟨kb, ko, rfl, hbw, hcell⟩ := HL.out.2 k hlt
        have HWS := Lib.hid (want_succ l k)
        obtain ⟨v, hv⟩ : ∃ v, v = l.getD k false := ⟨_, rfl⟩
        rw [← hv] at hcell
        have HV := Lib.hid hv
        clear hv
        obtain ⟨wk, hwk⟩ : ∃ wk, wk = str (want l k) := ⟨_, rfl⟩
        rw [← hwk]
        have HWK := Lib.hid hwk
        have hcv := fun W : World => convert_one W k
        have hc8 := fun W : World => convert_u8 W k (by omega)
        have hsum : IntKind.i64.wrap ((k : Int) + 1) = k + 1 := IntWalk.i64_in _ (by omega)
        clear hwk
        have FM := Lib.hid (fill_mark k)
        have HNM := Lib.hid (now_mark k)
        obtain ⟨bm, hbm⟩ : ∃ bm, bm = mark k := ⟨_, rfl⟩
        have HBM := Lib.hid hbm
        rw [← hbm] at FM HNM
        have hbl : bm.length = 64 := by rw [hbm]; exact fill_length _
        have HBL := Lib.hid hbl
        clear hbm hbl
        go_wp2_with fail
        refine (FM.out _).mono ?_; rintro e X1 ⟨rfl, h⟩
        have H1 := Lib.hid ((HQ.out.more ((Below.refl _ wr).alloc (Nat.le_refl _) (.cells #[.int .u8 ((k : Int) + 1)] 5)) (Nat.le_refl _)).more h (Nat.le_refl _))
        clear h hcv hc8 hsum
        go_wp2_with fail
        refine (write_d H1.out.1 1 bm rfl (by simp) HBL.out (by simp) (by show (marks k).length ≤ _; rw [marks_length]; omega)).mono ?_; rintro e X2 ⟨rfl, h⟩
        have H2 := Lib.hid (show After C (C + 1) ⟨[zeroS, zeroS], marks (k + 1), true, -1⟩ w1 X2 from by have := H1.out.then h; rw [marks_succ, ← HBM.out]; simpa [wrote] using this)
        clear h H1
        have hc2 : X2.cell? ⟨kb, ko + k, none⟩ = some (.bool v) := by
          rw [H2.out.2.below.cell (p := ⟨kb, ko + k, none⟩) (show kb < C by have := HC.out; omega), B1.out.cell (p := ⟨kb, ko + k, none⟩) hbw]; exact hcell
        have hrd : Calls Try.prog 15 #[ptr (C + 1), .int .i64 1] X2 fun e w' => e = .returned (.tuple #[.string (str bm), .int .i64 0]) ∧ X2 = w' := by
          have := read_d H2.out.1 1 rfl (by simp)
          rw [show (⟨[zeroS, zeroS], marks (k + 1), true, -1⟩ : St).last = [zeroS, zeroS] from rfl, show (⟨[zeroS, zeroS], marks (k + 1), true, -1⟩ : St).pend = marks (k + 1) from rfl, HNM.out] at this
          exact this
        obtain ⟨B, hB⟩ : ∃ B, B = str bm := ⟨_, rfl⟩
        rw [← hB] at hrd ⊢
        have HRD := Lib.hid hrd
        have HB := Lib.hid hB
        clear hrd hB hcell
        cases v with
        | true =>
          go_wp2_with fail
          refine HRD.out.mono ?_; rintro e X3 ⟨rfl, rfl⟩
          go_wp2_with fail
          go_roundw
          case rel => exact ⟨k + 1, by omega, by go_num, by rw [HWS.out, ← HV.out, if_pos rfl, ← HBM.out, HB.out], H2.out⟩
          case measure => simp [intOf]; omega
        | false =>
          go_wp2_with fail
          refine HRD.out.mono ?_; rintro e X3 ⟨rfl, rfl⟩
          go_wp2_with fail
          go_roundw
          case rel => exact ⟨k + 1, by omega, by go_num, by rw [HWS.out, ← HV.out, if_neg (by simp), HWK.out], H2.out⟩
          case measure => simp [intOf]; omega
      · obtain rfl : k = n := by omega
        have hcr : Calls Try.prog 21 #[ptr (C + 1), .slice A k c] wr fun e w' => (∃ v, e = .returned v) ∧ After C (C + 1) ⟨appl [zeroS, zeroS] (kept (marks k) l), [], true, -1⟩ wr w' := by
          have := crash_d HQ.out.1 l A c (by show (marks k).length ≤ _; rw [marks_length]; omega) (by rw [HL.out.1]; simp [maxLen]; omega) (Keeps_of HL.out B1.out HQ.out.2.below HC.out)
          rw [HL.out.1] at this
          exact this.mono fun e w' ⟨he, h⟩ => ⟨⟨_, he⟩, h⟩
        have HCR := Lib.hid hcr
        obtain ⟨wk, hwk⟩ : ∃ wk, wk = str (want l k) := ⟨_, rfl⟩
        rw [← hwk]
        have HWK := Lib.hid hwk
        clear hcr hwk
        go_wp2_with fail
        refine HCR.out.mono ?_; rintro e X1 ⟨⟨v, rfl⟩, h⟩
        have H1 := Lib.hid (HQ.out.then h)
        clear h
        have hrd : Calls Try.prog 15 #[ptr (C + 1), .int .i64 1] X1 fun e w' => e = .returned (.tuple #[.string wk, .int .i64 0]) ∧ X1 = w' := by
          have := read_d H1.out.1 1 rfl (by show 1 < (appl [zeroS, zeroS] (kept (marks k) l)).length; rw [appl_length]; simp)
          rw [show (⟨appl [zeroS, zeroS] (kept (marks k) l), [], true, -1⟩ : St).last = appl [zeroS, zeroS] (kept (marks k) l) from rfl, show (⟨appl [zeroS, zeroS] (kept (marks k) l), [], true, -1⟩ : St).pend = [] from rfl, appl_nil] at this
          rw [HWK.out]
          exact this
        have HRD := Lib.hid hrd
        clear hrd
        go_wp2_with fail
        refine HRD.out.mono ?_; rintro e X3 ⟨rfl, rfl⟩
        go_wp2_with fail
        go_ret
        exact ⟨rfl, B1.out.trans (H1.out.2.below.mono HC.out)⟩

/-! The row's step. -/
set_option maxRecDepth 100000 in
theorem lifted (os : Os) (started : os.Started) (H : Type) (enc : TypeId × Value → H) :
    ReturnsInHanded {} Try.checked os 6 .any (Rows.diskLastSpec.pre6 enc Try.prog Try.f6 Rows.diskLastRow.domain false) (Rows.diskLastSpec.post enc Try.prog Try.f6 false true false false) := by
  refine returnsInHanded_of_change (C := Try.checked) own started (by kernel_rfl) Try.func6
    (ChangeSpec.witness6 (enc := enc) (C := Try.checked) false ⟨#[], #[.slice none 0 0], []⟩ 8 (by kernel_rfl) (by kernel_rfl) (by kernel_rfl) (by kernel_rfl)) ?_
  intro W base args ds gs before hval0 hW hcnd _
  have hval : ∀ (j : Nat) t v, Try.f6.params[j]? = some t → args[j]? = some v → Value.okWide Try.prog W .any base t v := hval0
  have hW' := hW
  obtain ⟨p, q, hA0, hV, rfl, hfz, hnd⟩ := hW
  have hA : DataW.TrodAll enc Try.prog W 0 (fun _ => true) true Try.f6.params.toList args.toList ds p := hA0
  rw [Try.params6] at hA hval
  obtain ⟨v0, vs0, d0, ds0, p0, q0, hargs, rfl, rfl, h0, r0⟩ := trodAll_cons hA
  obtain ⟨rfl, rfl, rfl⟩ := trodAll_nil r0
  obtain rfl : args = #[v0] := by cases args; simp_all
  obtain ⟨rfl, rfl⟩ := trodVars_none hV
  obtain ⟨A0, n0, c0, rfl⟩ := okWide_slice Try.underlying38 (hval 0 38 v0 rfl rfl)
  have k0 := h0
  have lt0 : ∀ x ∈ p0, x.block < W.heap.size := by obtain ⟨m, hm⟩ := k0; exact DataW.trod_lt m _ _ _ hm
  obtain ⟨l0, w0, e0, f0⟩ := (by obtain ⟨fuel, hf⟩ := h0; exact bools_read hf (fun _ => rfl) : ∃ l, Bools W A0 n0 l ∧ n0 ≤ c0 ∧ c0 ≤ maxLen)
  clear hA0 hval0
  refine (walk A0 n0 c0 l0 W w0 (Nat.le_trans e0 f0)).mono fun e W' ⟨he, bel⟩ => ?_
  subst he
  exact ⟨_, rfl, _, _, _, [], _, [], hW', trodAll_mk1 (shut_bool Try.underlying4 _), (trodAll_cons_mk (Below.trod laidOut (by kernel_rfl) (of_decide_eq_true (by kernel_rfl)) k0 bel lt0) trodAll_mk0), rfl, bel.frame _, fun h => by cases h⟩

theorem over : Rows.diskLastRow.holds Try.pinned (OpenSpec.ofChange Rows.diskLastSpec) :=
  OpenClaim.holds_of_wide 6 Try.f6 rfl rfl rfl rfl rfl rfl rfl ⟨rfl, rfl, rfl, rfl, rfl⟩ rfl rfl rfl rfl rfl (by kernel_rfl) Try.func6 (by kernel_rfl)
    (of_decide_eq_true (by kernel_rfl)) (by unfold Func.isWrapper; first | (rw [if_pos (by decide +kernel)]; kernel_rfl) | (rw [if_neg (by decide +kernel)]; exact ⟨rfl, rfl⟩))
    (fun os started H enc _ => lifted os started H enc)

/-- The statement. -/
theorem proved : Rows.DiskLastSaid := over
end Go.Proofs.Ytbfboccjlplapaa.diskLast
