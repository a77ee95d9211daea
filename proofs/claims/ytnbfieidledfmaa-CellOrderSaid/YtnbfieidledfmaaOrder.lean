/- Two cells that do not rise by their keys are not written, but would have room in another order, for every two cells. -/
import Derived.Test.YtnbfieidledfmaaRows
import Derived.Test.YtnbfieidledfmaaBase
import Derived.Deep.RegionHeld3
import Derived.StillTailTactics
import Derived.BigQuiet
import Derived.Laws.MakeOwn
import Derived.Deep.DeepCutAuto
import Derived.Deep.RegionLaw
import Derived.Lib.Hide
import Derived.WalkKit
import Derived.ProofKit
import Derived.OpenShut
import Derived.ChangeOld
import Derived.Below
import Derived.Carry
namespace Go.Proofs.Ytnbfieidledfmaa.cellOrder
open Go.ChangeShapes Go.WideShapes Go.ChangeAt Go.RowKit
set_option linter.unusedVariables false

theorem own : ownKnob Try.prog.godebug = none := by kernel_rfl
theorem laidOut : laidOutB Try.prog = true := by kernel_rfl


theorem run_bs2 (a0 a1 b0 b1 : ByteArray) (a2 a3 b2 b3 : Int) : ∀ w : World, (Instr.buildSlice 22 2 #[(0, .agg #[.string a0, .string a1, .int .i64 a2, .int .i64 a3]), (1, .agg #[.string b0, .string b1, .int .i64 b2, .int .i64 b3])]).run Try.prog w = .ok (.slice (some ⟨w.heap.size, 0, none⟩) 2 2) (w.alloc (.cells #[.string a0, .string a1, .int .i64 a2, .int .i64 a3, .string b0, .string b1, .int .i64 b2, .int .i64 b3] 29)) := by
  intro w
  kernel_rfl
theorem Box.set4 {w : World} {g : Nat} {a0 a1 a2 a3 : Value} (h : Box w g a0 a1 a2 a3) (v0 v1 v2 v3 : Value) : Box ((((w.setCell ⟨g, 0, none⟩ v0).setCell ⟨g, 1, none⟩ v1).setCell ⟨g, 2, none⟩ v2).setCell ⟨g, 3, none⟩ v3) g v0 v1 v2 v3 := by
  unfold Box at *
  simp [World.setCell, Array.getElem?_modify, h]
theorem Box.other4 {w : World} {g b : Nat} {a0 a1 a2 a3 : Value} (h : Box w g a0 a1 a2 a3) (hne : g ≠ b) (v0 v1 v2 v3 : Value) : Box ((((w.setCell ⟨b, 0, none⟩ v0).setCell ⟨b, 1, none⟩ v1).setCell ⟨b, 2, none⟩ v2).setCell ⟨b, 3, none⟩ v3) g a0 a1 a2 a3 := by
  unfold Box at *
  rw [Below.heap_setCell _ _ _ _ hne, Below.heap_setCell _ _ _ _ hne, Below.heap_setCell _ _ _ _ hne, Below.heap_setCell _ _ _ _ hne]
  exact h
theorem below_four {B b : Nat} {a w : World} (h : Below B a w) (hB : B ≤ b) (v0 v1 v2 v3 : Value) : Below B a ((((w.setCell ⟨b, 0, none⟩ v0).setCell ⟨b, 1, none⟩ v1).setCell ⟨b, 2, none⟩ v2).setCell ⟨b, 3, none⟩ v3) := (((h.setCell hB _).setCell hB _).setCell hB _).setCell hB _
def swapW (w : World) (P : Nat) (a0 a1 a2 a3 b0 b1 b2 b3 : Value) : World := (((((((w.setCell ⟨P, 0, none⟩ b0).setCell ⟨P, 1, none⟩ b1).setCell ⟨P, 2, none⟩ b2).setCell ⟨P, 3, none⟩ b3).setCell ⟨P + 1, 0, none⟩ a0).setCell ⟨P + 1, 1, none⟩ a1).setCell ⟨P + 1, 2, none⟩ a2).setCell ⟨P + 1, 3, none⟩ a3
theorem swap_size (w : World) (P : Nat) (a0 a1 a2 a3 b0 b1 b2 b3 : Value) : (swapW w P a0 a1 a2 a3 b0 b1 b2 b3).heap.size = w.heap.size := by simp [swapW, World.setCell]
theorem swap_boxes {B P : Nat} {w w1 : World} {a0 a1 a2 a3 b0 b1 b2 b3 : Value} (h : Box w P a0 a1 a2 a3) (k : Box w (P + 1) b0 b1 b2 b3) (hb : Below B w1 w) (hB : B ≤ P) :
    Box (swapW w P a0 a1 a2 a3 b0 b1 b2 b3) P b0 b1 b2 b3 ∧ Box (swapW w P a0 a1 a2 a3 b0 b1 b2 b3) (P + 1) a0 a1 a2 a3 ∧ Below B w1 (swapW w P a0 a1 a2 a3 b0 b1 b2 b3) :=
  ⟨Box.other4 (Box.set4 h b0 b1 b2 b3) (by omega) a0 a1 a2 a3, Box.set4 (Box.other4 k (by omega) b0 b1 b2 b3) a0 a1 a2 a3, below_four (below_four hb hB _ _ _ _) (by omega) _ _ _ _⟩
theorem two_fits {x y : Ce} (hx : x.Ok) (hy : y.Ok) (h : ltK x y = true) : fitsB [y, x] = true := by
  have h1 := size_ok hx
  have h2 := size_ok hy
  refine fits_iff.2 ⟨fun c hc => ?_, ?_, ?_⟩
  · simp only [List.mem_cons, List.not_mem_nil, or_false] at hc
    rcases hc with rfl | rfl
    · exact hy
    · exact hx
  · rw [sums_cons, sums_cons, sums_nil]; omega
  · have := ltK_key h
    simp only [keysOf, List.map_cons, List.map_nil, List.nodup_cons, List.mem_cons, List.not_mem_nil, or_false, not_false_eq_true, List.nodup_nil, and_true]
    exact fun e => this e.symm
theorem two_ok {x y : Ce} (hx : x.Ok) (hy : y.Ok) (h : ltK x y = true) : putOk [x, y] = true := by
  have h1 := size_ok hx
  have h2 := size_ok hy
  refine putOk_iff.2 ⟨fun c hc => ?_, ?_, ?_⟩
  · simp only [List.mem_cons, List.not_mem_nil, or_false] at hc
    rcases hc with rfl | rfl
    · exact hx
    · exact hy
  · rw [sums_cons, sums_cons, sums_nil]; omega
  · exact pair_rises (by simpa using h)
theorem two_no {x y : Ce} (h : ltK x y = true) : putOk [y, x] = false := by
  have : risesB [y, x] = false := rises_no (j := 0) (by simp) (ltK_asym h)
  unfold putOk
  rw [this, Bool.and_false]
theorem two_self {x : Ce} : putOk [x, x] = false := by
  have : risesB [x, x] = false := rises_no (j := 0) (by simp) (ltK_irrefl x)
  unfold putOk
  rw [this, Bool.and_false]
theorem fits_self {x : Ce} : fitsB [x, x] = false := fits_no fun h => by
  have := h.2.2
  simp [keysOf] at this
theorem less_lt {x y : Ce} (h : Op.bytesLess x.key.toList y.key.toList = true) : ltK x y = true := by
  rw [bytesLess_cb, ByteArray.toList_eq, ByteArray.toList_eq] at h
  exact h
theorem less_gt {x y : Ce} (h : Op.bytesLess x.key.toList y.key.toList = false) (hk : ¬ x.key.toList = y.key.toList) : ltK y x = true := by
  rw [bytesLess_cb, ByteArray.toList_eq, ByteArray.toList_eq] at h
  rw [ByteArray.toList_eq, ByteArray.toList_eq] at hk
  exact ltK_or h (fun e => hk e.symm)
theorem ces_two (x y : Ce) (hx : x.Ok) (hy : y.Ok) (w : World) : Ces (w.heap.size + 1) (w.alloc (.cells #[.string x.key, .string x.val, .int .i64 x.blob, .int .i64 x.size, .string y.key, .string y.val, .int .i64 y.blob, .int .i64 y.size] 29)) (some ⟨w.heap.size, 0, none⟩) [x, y] := by
  have h := fun j => cell_of_row _ _ j _ _ _ (heap_alloc_new w (.cells #[.string x.key, .string x.val, .int .i64 x.blob, .int .i64 x.size, .string y.key, .string y.val, .int .i64 y.blob, .int .i64 y.size] 29))
  have hs : ∀ c : Ce, c.Ok → c.key.size ≤ maxLen ∧ c.val.size ≤ maxLen := fun c hc => by
    refine ⟨max_small (by have := hc.1; omega), ?_⟩
    obtain ⟨_, h | h⟩ := hc
    · exact max_small (by omega)
    · exact max_small (by omega)
  refine ⟨fun k hk => ⟨w.heap.size, 0, rfl, by omega, ?_⟩, fun p hp => ?_, max_small (by simp)⟩
  · have hk : k < 2 := hk
    rcases k with _ | _ | k
    · exact ⟨h 0, h 1, h 2, h 3⟩
    · exact ⟨h 4, h 5, h 6, h 7⟩
    · omega
  · simp only [List.mem_cons, List.not_mem_nil, or_false] at hp
    rcases hp with rfl | rfl
    · exact hs _ hx
    · exact hs _ hy
theorem put_two (x y : Ce) (hx : x.Ok) (hy : y.Ok) (w : World) : Calls Try.prog 10 #[.slice (some ⟨w.heap.size, 0, none⟩) 2 2] (w.alloc (.cells #[.string x.key, .string x.val, .int .i64 x.blob, .int .i64 x.size, .string y.key, .string y.val, .int .i64 y.blob, .int .i64 y.size] 29)) fun e w' => e = .returned (.tuple #[.string (str (putS [x, y])), .bool (putOk [x, y])]) ∧ Below (w.alloc (.cells #[.string x.key, .string x.val, .int .i64 x.blob, .int .i64 x.size, .string y.key, .string y.val, .int .i64 y.blob, .int .i64 y.size] 29)).heap.size (w.alloc (.cells #[.string x.key, .string x.val, .int .i64 x.blob, .int .i64 x.size, .string y.key, .string y.val, .int .i64 y.blob, .int .i64 y.size] 29)) w' :=
  put_any (c := 2) (n := 2) _ (ces_two x y hx hy w) rfl (by omega) (by simp)
theorem fits_two (x y : Ce) (hx : x.Ok) (hy : y.Ok) (w : World) : Calls Try.prog 14 #[.slice (some ⟨w.heap.size, 0, none⟩) 2 2] (w.alloc (.cells #[.string x.key, .string x.val, .int .i64 x.blob, .int .i64 x.size, .string y.key, .string y.val, .int .i64 y.blob, .int .i64 y.size] 29)) fun e w' => e = .returned (.bool (fitsB [x, y])) ∧ Below (w.alloc (.cells #[.string x.key, .string x.val, .int .i64 x.blob, .int .i64 x.size, .string y.key, .string y.val, .int .i64 y.blob, .int .i64 y.size] 29)).heap.size (w.alloc (.cells #[.string x.key, .string x.val, .int .i64 x.blob, .int .i64 x.size, .string y.key, .string y.val, .int .i64 y.blob, .int .i64 y.size] 29)) w' :=
  fits_walk (c := 2) (n := 2) _ (ces_two x y hx hy w) rfl (by omega) (by simp)
set_option maxRecDepth 100000 in
set_option maxHeartbeats 16000000 in
theorem walk (ak av : ByteArray) (ap az : Int) (bk bv : ByteArray) (bp bz : Int) (w : World) (h0 : ak.size ≤ maxLen) (h1 : av.size ≤ maxLen) (h2 : (Lit.int .i64 ap).wf = true) (h3 : (Lit.int .i64 az).wf = true) (h4 : bk.size ≤ maxLen) (h5 : bv.size ≤ maxLen) (h6 : (Lit.int .i64 bp).wf = true) (h7 : (Lit.int .i64 bz).wf = true) :
    Calls Try.prog 5 #[cv ak av ap az, cv bk bv bp bz] w fun e w' => e = .returned (.bool true) ∧ Below w.heap.size w w' := by
  clear h0 h1 h2 h3 h4 h5 h6 h7
  have HA0 := Lib.hid (Box.kept (Box.new w (.string ak) (.string av) (.int .i64 ap) (.int .i64 az)) (Below.alloc (Below.refl _ _) (Nat.le_refl _) (.cells #[.string bk, .string bv, .int .i64 bp, .int .i64 bz] 29)))
  have HB'0 := Lib.hid (Box.new (w.alloc (.cells #[.string ak, .string av, .int .i64 ap, .int .i64 az] 29)) (.string bk) (.string bv) (.int .i64 bp) (.int .i64 bz))
  have HB0 := Lib.hid (((Below.refl w.heap.size w).alloc (Nat.le_refl _) (.cells #[.string ak, .string av, .int .i64 ap, .int .i64 az] 29)).alloc (by simp) (.cells #[.string bk, .string bv, .int .i64 bp, .int .i64 bz] 29))
  rw [show (w.alloc (.cells #[.string ak, .string av, .int .i64 ap, .int .i64 az] 29)).heap.size = w.heap.size + 1 by simp] at HB'0
  have AL := Lib.hid alive_yes
  have RA := Lib.hid (right_any ak av ap az)
  have RB := Lib.hid (right_any bk bv bp bz)
  unfold cv at RA RB ⊢
  cases ha : okC ⟨ak, av, ap, az⟩ with
  | false =>
    rw [ha] at RA
    go_enter Try.func5, Try.ntmps5
    go_wp2_with fail
    obtain ⟨P, hP⟩ : ∃ P, P = w.heap.size := ⟨_, rfl⟩
    have hPle : w.heap.size ≤ P := by omega
    rw [← hP] at HA0 HB'0 ⊢
    clear hP
    generalize (w.alloc (.cells #[.string ak, .string av, .int .i64 ap, .int .i64 az] 29)).alloc (.cells #[.string bk, .string bv, .int .i64 bp, .int .i64 bz] 29) = w0 at *
    refine (RA.out _).mono ?_; rintro e w1 ⟨rfl, hb⟩
    have HA1 := Lib.hid (HA0.out.kept hb)
    have HB'1 := Lib.hid (HB'0.out.kept hb)
    have HB1 := Lib.hid (HB0.out.trans (hb.mono (Below.size HB0.out)))
    clear hb HB0 HA0 HB'0
    obtain ⟨x0, x1, x2, x3⟩ := HA1.out.cells
    obtain ⟨y0, y1, y2, y3⟩ := HB'1.out.cells
    go_wp2_with fail
    clear x0 x1 x2 x3 y0 y1 y2 y3
    refine (AL.out _).mono ?_; rintro e w2 ⟨rfl, hb⟩
    have HA2 := Lib.hid (HA1.out.kept hb)
    have HB'2 := Lib.hid (HB'1.out.kept hb)
    have HB2 := Lib.hid (HB1.out.trans (hb.mono (Below.size HB1.out)))
    clear hb HB1 HA1 HB'1
    go_wp2_with fail
    go_ret
    exact ⟨rfl, HB2.out⟩
  | true =>
    rw [ha] at RA
    cases hb : okC ⟨bk, bv, bp, bz⟩ with
    | false =>
      rw [hb] at RB
      go_enter Try.func5, Try.ntmps5
      go_wp2_with fail
      obtain ⟨P, hP⟩ : ∃ P, P = w.heap.size := ⟨_, rfl⟩
      have hPle : w.heap.size ≤ P := by omega
      rw [← hP] at HA0 HB'0 ⊢
      clear hP
      generalize (w.alloc (.cells #[.string ak, .string av, .int .i64 ap, .int .i64 az] 29)).alloc (.cells #[.string bk, .string bv, .int .i64 bp, .int .i64 bz] 29) = w0 at *
      refine (RA.out _).mono ?_; rintro e w1 ⟨rfl, hb⟩
      have HA1 := Lib.hid (HA0.out.kept hb)
      have HB'1 := Lib.hid (HB'0.out.kept hb)
      have HB1 := Lib.hid (HB0.out.trans (hb.mono (Below.size HB0.out)))
      clear hb HB0 HA0 HB'0
      obtain ⟨x0, x1, x2, x3⟩ := HA1.out.cells
      obtain ⟨y0, y1, y2, y3⟩ := HB'1.out.cells
      go_wp2_with fail
      clear x0 x1 x2 x3 y0 y1 y2 y3
      refine (RB.out _).mono ?_; rintro e w2 ⟨rfl, hb⟩
      have HA2 := Lib.hid (HA1.out.kept hb)
      have HB'2 := Lib.hid (HB'1.out.kept hb)
      have HB2 := Lib.hid (HB1.out.trans (hb.mono (Below.size HB1.out)))
      clear hb HB1 HA1 HB'1
      obtain ⟨x0, x1, x2, x3⟩ := HA2.out.cells
      obtain ⟨y0, y1, y2, y3⟩ := HB'2.out.cells
      go_wp2_with fail
      clear x0 x1 x2 x3 y0 y1 y2 y3
      refine (AL.out _).mono ?_; rintro e w3 ⟨rfl, hb⟩
      have HA3 := Lib.hid (HA2.out.kept hb)
      have HB'3 := Lib.hid (HB'2.out.kept hb)
      have HB3 := Lib.hid (HB2.out.trans (hb.mono (Below.size HB2.out)))
      clear hb HB2 HA2 HB'2
      go_wp2_with fail
      go_ret
      exact ⟨rfl, HB3.out⟩
    | true =>
      rw [hb] at RB
      have hoa := okC_iff.1 ha
      have hob := okC_iff.1 hb
      clear ha hb
      by_cases hk : ak.toList = bk.toList
      · have hk' : (ak.toList == bk.toList) = true := by simp [hk]
        clear hoa hob
        go_enter Try.func5, Try.ntmps5
        go_wp2_with fail
        obtain ⟨P, hP⟩ : ∃ P, P = w.heap.size := ⟨_, rfl⟩
        have hPle : w.heap.size ≤ P := by omega
        rw [← hP] at HA0 HB'0 ⊢
        clear hP
        generalize (w.alloc (.cells #[.string ak, .string av, .int .i64 ap, .int .i64 az] 29)).alloc (.cells #[.string bk, .string bv, .int .i64 bp, .int .i64 bz] 29) = w0 at *
        refine (RA.out _).mono ?_; rintro e w1 ⟨rfl, hb⟩
        have HA1 := Lib.hid (HA0.out.kept hb)
        have HB'1 := Lib.hid (HB'0.out.kept hb)
        have HB1 := Lib.hid (HB0.out.trans (hb.mono (Below.size HB0.out)))
        clear hb HB0 HA0 HB'0
        obtain ⟨x0, x1, x2, x3⟩ := HA1.out.cells
        obtain ⟨y0, y1, y2, y3⟩ := HB'1.out.cells
        go_wp2_with fail
        clear x0 x1 x2 x3 y0 y1 y2 y3
        refine (RB.out _).mono ?_; rintro e w2 ⟨rfl, hb⟩
        have HA2 := Lib.hid (HA1.out.kept hb)
        have HB'2 := Lib.hid (HB'1.out.kept hb)
        have HB2 := Lib.hid (HB1.out.trans (hb.mono (Below.size HB1.out)))
        clear hb HB1 HA1 HB'1
        obtain ⟨x0, x1, x2, x3⟩ := HA2.out.cells
        obtain ⟨y0, y1, y2, y3⟩ := HB'2.out.cells
        go_wp2_with fail
        clear x0 x1 x2 x3 y0 y1 y2 y3
        refine (AL.out _).mono ?_; rintro e w3 ⟨rfl, hb⟩
        have HA3 := Lib.hid (HA2.out.kept hb)
        have HB'3 := Lib.hid (HB'2.out.kept hb)
        have HB3 := Lib.hid (HB2.out.trans (hb.mono (Below.size HB2.out)))
        clear hb HB2 HA2 HB'2
        go_wp2_with fail
        go_ret
        exact ⟨rfl, HB3.out⟩
      · have hk' : (ak.toList == bk.toList) = false := by simpa using hk
        cases hl : Op.bytesLess ak.toList bk.toList with
        | true =>
          have hlt : ltK ⟨ak, av, ap, az⟩ ⟨bk, bv, bp, bz⟩ = true := less_lt hl
          focus
            have HGT : ∀ w, (binOp .gtr 9 (.string ak) (.string bk)).run Try.prog w = .ok (.bool false) w := fun w => by simp [binOp, Op.stringOp, hl, hk]
            clear hl
            have NB1 := run_bs2 ak av bk bv ap az bp bz
            have NB2 := run_bs2 bk bv ak av bp bz ap az
            have NB3 := run_bs2 ak av ak av ap az ap az
            have P1 := Lib.hid (put_two ⟨ak, av, ap, az⟩ ⟨bk, bv, bp, bz⟩ hoa hob)
            have P2 := Lib.hid (put_two ⟨bk, bv, bp, bz⟩ ⟨ak, av, ap, az⟩ hob hoa)
            have P3 := Lib.hid (put_two ⟨ak, av, ap, az⟩ ⟨ak, av, ap, az⟩ hoa hoa)
            have F1 := Lib.hid (fits_two ⟨bk, bv, bp, bz⟩ ⟨ak, av, ap, az⟩ hob hoa)
            have F2 := Lib.hid (fits_two ⟨ak, av, ap, az⟩ ⟨ak, av, ap, az⟩ hoa hoa)
            rw [two_ok hoa hob hlt] at P1
            rw [two_no hlt] at P2
            rw [two_self] at P3
            rw [two_fits hoa hob hlt] at F1
            rw [fits_self] at F2
            dsimp only at P1 P2 P3 F1 F2
            generalize str (putS [⟨ak, av, ap, az⟩, ⟨bk, bv, bp, bz⟩]) = X1 at P1
            generalize str (putS [⟨bk, bv, bp, bz⟩, ⟨ak, av, ap, az⟩]) = X2 at P2
            generalize str (putS [⟨ak, av, ap, az⟩, ⟨ak, av, ap, az⟩]) = X3 at P3
            clear hoa hob hlt
            go_enter Try.func5, Try.ntmps5
            go_wp2_with fail
            obtain ⟨P, hP⟩ : ∃ P, P = w.heap.size := ⟨_, rfl⟩
            have hPle : w.heap.size ≤ P := by omega
            rw [← hP] at HA0 HB'0 ⊢
            clear hP
            generalize (w.alloc (.cells #[.string ak, .string av, .int .i64 ap, .int .i64 az] 29)).alloc (.cells #[.string bk, .string bv, .int .i64 bp, .int .i64 bz] 29) = w0 at *
            refine (RA.out _).mono ?_; rintro e w1 ⟨rfl, hb⟩
            have HA1 := Lib.hid (HA0.out.kept hb)
            have HB'1 := Lib.hid (HB'0.out.kept hb)
            have HB1 := Lib.hid (HB0.out.trans (hb.mono (Below.size HB0.out)))
            clear hb HB0 HA0 HB'0
            obtain ⟨x0, x1, x2, x3⟩ := HA1.out.cells
            obtain ⟨y0, y1, y2, y3⟩ := HB'1.out.cells
            go_wp2_with fail
            clear x0 x1 x2 x3 y0 y1 y2 y3
            refine (RB.out _).mono ?_; rintro e w2 ⟨rfl, hb⟩
            have HA2 := Lib.hid (HA1.out.kept hb)
            have HB'2 := Lib.hid (HB'1.out.kept hb)
            have HB2 := Lib.hid (HB1.out.trans (hb.mono (Below.size HB1.out)))
            clear hb HB1 HA1 HB'1
            obtain ⟨x0, x1, x2, x3⟩ := HA2.out.cells
            obtain ⟨y0, y1, y2, y3⟩ := HB'2.out.cells
            go_wp2_with fail
            clear x0 x1 x2 x3 y0 y1 y2 y3
            refine (AL.out _).mono ?_; rintro e w3 ⟨rfl, hb⟩
            have HA3 := Lib.hid (HA2.out.kept hb)
            have HB'3 := Lib.hid (HB'2.out.kept hb)
            have HB3 := Lib.hid (HB2.out.trans (hb.mono (Below.size HB2.out)))
            clear hb HB2 HA2 HB'2
            obtain ⟨x0, x1, x2, x3⟩ := HA3.out.cells
            obtain ⟨y0, y1, y2, y3⟩ := HB'3.out.cells
            have hal := (Below.refl w3.heap.size w3).alloc (Nat.le_refl _) (.cells #[.string ak, .string av, .int .i64 ap, .int .i64 az, .string bk, .string bv, .int .i64 bp, .int .i64 bz] 29)
            have HPU := Lib.hid (P1.out w3)
            replace HB3 := Lib.hid (HB3.out.trans (hal.mono (Below.size HB3.out)))
            replace HA3 := Lib.hid (HA3.out.kept hal)
            replace HB'3 := Lib.hid (HB'3.out.kept hal)
            clear hal
            go_wp2_with fail
            generalize w3.alloc (.cells #[.string ak, .string av, .int .i64 ap, .int .i64 az, .string bk, .string bv, .int .i64 bp, .int .i64 bz] 29) = v3 at *
            clear x0 x1 x2 x3 y0 y1 y2 y3
            refine (HPU.out).mono ?_; rintro e w4 ⟨rfl, hb⟩
            have HA4 := Lib.hid (HA3.out.kept hb)
            have HB'4 := Lib.hid (HB'3.out.kept hb)
            have HB4 := Lib.hid (HB3.out.trans (hb.mono (Below.size HB3.out)))
            clear hb HB3 HA3 HB'3
            clear HPU
            obtain ⟨x0, x1, x2, x3⟩ := HA4.out.cells
            obtain ⟨y0, y1, y2, y3⟩ := HB'4.out.cells
            have hal := (Below.refl w4.heap.size w4).alloc (Nat.le_refl _) (.cells #[.string bk, .string bv, .int .i64 bp, .int .i64 bz, .string ak, .string av, .int .i64 ap, .int .i64 az] 29)
            have HPU := Lib.hid (P2.out w4)
            replace HB4 := Lib.hid (HB4.out.trans (hal.mono (Below.size HB4.out)))
            replace HA4 := Lib.hid (HA4.out.kept hal)
            replace HB'4 := Lib.hid (HB'4.out.kept hal)
            clear hal
            go_wp2_with fail
            generalize w4.alloc (.cells #[.string bk, .string bv, .int .i64 bp, .int .i64 bz, .string ak, .string av, .int .i64 ap, .int .i64 az] 29) = v4 at *
            clear x0 x1 x2 x3 y0 y1 y2 y3
            refine (HPU.out).mono ?_; rintro e w5 ⟨rfl, hb⟩
            have HA5 := Lib.hid (HA4.out.kept hb)
            have HB'5 := Lib.hid (HB'4.out.kept hb)
            have HB5 := Lib.hid (HB4.out.trans (hb.mono (Below.size HB4.out)))
            clear hb HB4 HA4 HB'4
            clear HPU
            obtain ⟨x0, x1, x2, x3⟩ := HA5.out.cells
            obtain ⟨y0, y1, y2, y3⟩ := HB'5.out.cells
            have hal := (Below.refl w5.heap.size w5).alloc (Nat.le_refl _) (.cells #[.string ak, .string av, .int .i64 ap, .int .i64 az, .string ak, .string av, .int .i64 ap, .int .i64 az] 29)
            have HPU := Lib.hid (P3.out w5)
            replace HB5 := Lib.hid (HB5.out.trans (hal.mono (Below.size HB5.out)))
            replace HA5 := Lib.hid (HA5.out.kept hal)
            replace HB'5 := Lib.hid (HB'5.out.kept hal)
            clear hal
            go_wp2_with fail
            generalize w5.alloc (.cells #[.string ak, .string av, .int .i64 ap, .int .i64 az, .string ak, .string av, .int .i64 ap, .int .i64 az] 29) = v5 at *
            clear x0 x1 x2 x3 y0 y1 y2 y3
            refine (HPU.out).mono ?_; rintro e w6 ⟨rfl, hb⟩
            have HA6 := Lib.hid (HA5.out.kept hb)
            have HB'6 := Lib.hid (HB'5.out.kept hb)
            have HB6 := Lib.hid (HB5.out.trans (hb.mono (Below.size HB5.out)))
            clear hb HB5 HA5 HB'5
            clear HPU
            obtain ⟨x0, x1, x2, x3⟩ := HA6.out.cells
            obtain ⟨y0, y1, y2, y3⟩ := HB'6.out.cells
            have hal := (Below.refl w6.heap.size w6).alloc (Nat.le_refl _) (.cells #[.string bk, .string bv, .int .i64 bp, .int .i64 bz, .string ak, .string av, .int .i64 ap, .int .i64 az] 29)
            have HPU := Lib.hid (F1.out w6)
            replace HB6 := Lib.hid (HB6.out.trans (hal.mono (Below.size HB6.out)))
            replace HA6 := Lib.hid (HA6.out.kept hal)
            replace HB'6 := Lib.hid (HB'6.out.kept hal)
            clear hal
            go_wp2_with fail
            generalize w6.alloc (.cells #[.string bk, .string bv, .int .i64 bp, .int .i64 bz, .string ak, .string av, .int .i64 ap, .int .i64 az] 29) = v6 at *
            clear x0 x1 x2 x3 y0 y1 y2 y3
            refine (HPU.out).mono ?_; rintro e w7 ⟨rfl, hb⟩
            have HA7 := Lib.hid (HA6.out.kept hb)
            have HB'7 := Lib.hid (HB'6.out.kept hb)
            have HB7 := Lib.hid (HB6.out.trans (hb.mono (Below.size HB6.out)))
            clear hb HB6 HA6 HB'6
            clear HPU
            obtain ⟨x0, x1, x2, x3⟩ := HA7.out.cells
            obtain ⟨y0, y1, y2, y3⟩ := HB'7.out.cells
            have hal := (Below.refl w7.heap.size w7).alloc (Nat.le_refl _) (.cells #[.string ak, .string av, .int .i64 ap, .int .i64 az, .string ak, .string av, .int .i64 ap, .int .i64 az] 29)
            have HPU := Lib.hid (F2.out w7)
            replace HB7 := Lib.hid (HB7.out.trans (hal.mono (Below.size HB7.out)))
            replace HA7 := Lib.hid (HA7.out.kept hal)
            replace HB'7 := Lib.hid (HB'7.out.kept hal)
            clear hal
            go_wp2_with fail
            generalize w7.alloc (.cells #[.string ak, .string av, .int .i64 ap, .int .i64 az, .string ak, .string av, .int .i64 ap, .int .i64 az] 29) = v7 at *
            clear x0 x1 x2 x3 y0 y1 y2 y3
            refine (HPU.out).mono ?_; rintro e w8 ⟨rfl, hb⟩
            have HA8 := Lib.hid (HA7.out.kept hb)
            have HB'8 := Lib.hid (HB'7.out.kept hb)
            have HB8 := Lib.hid (HB7.out.trans (hb.mono (Below.size HB7.out)))
            clear hb HB7 HA7 HB'7
            clear HPU
            go_wp2_with fail
            go_ret
            exact ⟨rfl, HB8.out⟩
        | false =>
          have hgt : ltK ⟨bk, bv, bp, bz⟩ ⟨ak, av, ap, az⟩ = true := less_gt hl hk
          focus
            have HGT : ∀ w, (binOp .gtr 9 (.string ak) (.string bk)).run Try.prog w = .ok (.bool true) w := fun w => by simp [binOp, Op.stringOp, hl, hk]
            clear hl
            have NB1 := run_bs2 bk bv ak av bp bz ap az
            have NB2 := run_bs2 ak av bk bv ap az bp bz
            have NB3 := run_bs2 bk bv bk bv bp bz bp bz
            have P1 := Lib.hid (put_two ⟨bk, bv, bp, bz⟩ ⟨ak, av, ap, az⟩ hob hoa)
            have P2 := Lib.hid (put_two ⟨ak, av, ap, az⟩ ⟨bk, bv, bp, bz⟩ hoa hob)
            have P3 := Lib.hid (put_two ⟨bk, bv, bp, bz⟩ ⟨bk, bv, bp, bz⟩ hob hob)
            have F1 := Lib.hid (fits_two ⟨ak, av, ap, az⟩ ⟨bk, bv, bp, bz⟩ hoa hob)
            have F2 := Lib.hid (fits_two ⟨bk, bv, bp, bz⟩ ⟨bk, bv, bp, bz⟩ hob hob)
            rw [two_ok hob hoa hgt] at P1
            rw [two_no hgt] at P2
            rw [two_self] at P3
            rw [two_fits hob hoa hgt] at F1
            rw [fits_self] at F2
            dsimp only at P1 P2 P3 F1 F2
            generalize str (putS [⟨bk, bv, bp, bz⟩, ⟨ak, av, ap, az⟩]) = X1 at P1
            generalize str (putS [⟨ak, av, ap, az⟩, ⟨bk, bv, bp, bz⟩]) = X2 at P2
            generalize str (putS [⟨bk, bv, bp, bz⟩, ⟨bk, bv, bp, bz⟩]) = X3 at P3
            clear hoa hob hgt
            go_enter Try.func5, Try.ntmps5
            go_wp2_with fail
            obtain ⟨P, hP⟩ : ∃ P, P = w.heap.size := ⟨_, rfl⟩
            have hPle : w.heap.size ≤ P := by omega
            rw [← hP] at HA0 HB'0 ⊢
            clear hP
            generalize (w.alloc (.cells #[.string ak, .string av, .int .i64 ap, .int .i64 az] 29)).alloc (.cells #[.string bk, .string bv, .int .i64 bp, .int .i64 bz] 29) = w0 at *
            refine (RA.out _).mono ?_; rintro e w1 ⟨rfl, hb⟩
            have HA1 := Lib.hid (HA0.out.kept hb)
            have HB'1 := Lib.hid (HB'0.out.kept hb)
            have HB1 := Lib.hid (HB0.out.trans (hb.mono (Below.size HB0.out)))
            clear hb HB0 HA0 HB'0
            obtain ⟨x0, x1, x2, x3⟩ := HA1.out.cells
            obtain ⟨y0, y1, y2, y3⟩ := HB'1.out.cells
            go_wp2_with fail
            clear x0 x1 x2 x3 y0 y1 y2 y3
            refine (RB.out _).mono ?_; rintro e w2 ⟨rfl, hb⟩
            have HA2 := Lib.hid (HA1.out.kept hb)
            have HB'2 := Lib.hid (HB'1.out.kept hb)
            have HB2 := Lib.hid (HB1.out.trans (hb.mono (Below.size HB1.out)))
            clear hb HB1 HA1 HB'1
            obtain ⟨x0, x1, x2, x3⟩ := HA2.out.cells
            obtain ⟨y0, y1, y2, y3⟩ := HB'2.out.cells
            go_wp2_with fail
            clear x0 x1 x2 x3 y0 y1 y2 y3
            refine (AL.out _).mono ?_; rintro e w3 ⟨rfl, hb⟩
            have HA3 := Lib.hid (HA2.out.kept hb)
            have HB'3 := Lib.hid (HB'2.out.kept hb)
            have HB3 := Lib.hid (HB2.out.trans (hb.mono (Below.size HB2.out)))
            clear hb HB2 HA2 HB'2
            obtain ⟨x0, x1, x2, x3⟩ := HA3.out.cells
            obtain ⟨y0, y1, y2, y3⟩ := HB'3.out.cells
            obtain ⟨f0, f1, f2, f3⟩ := HA3.out.free
            obtain ⟨g0, g1, g2, g3⟩ := HB'3.out.free
            go_wp2_with fail
            have HSW := Lib.hid (swap_boxes HA3.out HB'3.out HB3.out hPle)
            have hsz : (swapW w3 P (.string ak) (.string av) (.int .i64 ap) (.int .i64 az) (.string bk) (.string bv) (.int .i64 bp) (.int .i64 bz)).heap.size = w3.heap.size := swap_size _ _ _ _ _ _ _ _ _ _
            change Calls _ _ _ ((swapW w3 P (.string ak) (.string av) (.int .i64 ap) (.int .i64 az) (.string bk) (.string bv) (.int .i64 bp) (.int .i64 bz)).alloc _) _
            rw [← hsz]
            clear HA3 HB'3 HB3 x0 x1 x2 x3 y0 y1 y2 y3 f0 f1 f2 f3 g0 g1 g2 g3 hsz
            generalize swapW w3 P (.string ak) (.string av) (.int .i64 ap) (.int .i64 az) (.string bk) (.string bv) (.int .i64 bp) (.int .i64 bz) = S at *
            have HA3 := Lib.hid HSW.out.1
            have HB'3 := Lib.hid HSW.out.2.1
            have HB3 := Lib.hid HSW.out.2.2
            clear HSW
            have hal := (Below.refl S.heap.size S).alloc (Nat.le_refl _) (.cells #[.string bk, .string bv, .int .i64 bp, .int .i64 bz, .string ak, .string av, .int .i64 ap, .int .i64 az] 29)
            have HPU := Lib.hid (P1.out S)
            replace HB3 := Lib.hid (HB3.out.trans (hal.mono (Below.size HB3.out)))
            replace HA3 := Lib.hid (HA3.out.kept hal)
            replace HB'3 := Lib.hid (HB'3.out.kept hal)
            clear hal
            generalize S.alloc (.cells #[.string bk, .string bv, .int .i64 bp, .int .i64 bz, .string ak, .string av, .int .i64 ap, .int .i64 az] 29) = v3 at *
            refine (HPU.out).mono ?_; rintro e w4 ⟨rfl, hb⟩
            have HA4 := Lib.hid (HA3.out.kept hb)
            have HB'4 := Lib.hid (HB'3.out.kept hb)
            have HB4 := Lib.hid (HB3.out.trans (hb.mono (Below.size HB3.out)))
            clear hb HB3 HA3 HB'3
            clear HPU
            obtain ⟨x0, x1, x2, x3⟩ := HA4.out.cells
            obtain ⟨y0, y1, y2, y3⟩ := HB'4.out.cells
            have hal := (Below.refl w4.heap.size w4).alloc (Nat.le_refl _) (.cells #[.string ak, .string av, .int .i64 ap, .int .i64 az, .string bk, .string bv, .int .i64 bp, .int .i64 bz] 29)
            have HPU := Lib.hid (P2.out w4)
            replace HB4 := Lib.hid (HB4.out.trans (hal.mono (Below.size HB4.out)))
            replace HA4 := Lib.hid (HA4.out.kept hal)
            replace HB'4 := Lib.hid (HB'4.out.kept hal)
            clear hal
            go_wp2_with fail
            generalize w4.alloc (.cells #[.string ak, .string av, .int .i64 ap, .int .i64 az, .string bk, .string bv, .int .i64 bp, .int .i64 bz] 29) = v4 at *
            clear x0 x1 x2 x3 y0 y1 y2 y3
            refine (HPU.out).mono ?_; rintro e w5 ⟨rfl, hb⟩
            have HA5 := Lib.hid (HA4.out.kept hb)
            have HB'5 := Lib.hid (HB'4.out.kept hb)
            have HB5 := Lib.hid (HB4.out.trans (hb.mono (Below.size HB4.out)))
            clear hb HB4 HA4 HB'4
            clear HPU
            obtain ⟨x0, x1, x2, x3⟩ := HA5.out.cells
            obtain ⟨y0, y1, y2, y3⟩ := HB'5.out.cells
            have hal := (Below.refl w5.heap.size w5).alloc (Nat.le_refl _) (.cells #[.string bk, .string bv, .int .i64 bp, .int .i64 bz, .string bk, .string bv, .int .i64 bp, .int .i64 bz] 29)
            have HPU := Lib.hid (P3.out w5)
            replace HB5 := Lib.hid (HB5.out.trans (hal.mono (Below.size HB5.out)))
            replace HA5 := Lib.hid (HA5.out.kept hal)
            replace HB'5 := Lib.hid (HB'5.out.kept hal)
            clear hal
            go_wp2_with fail
            generalize w5.alloc (.cells #[.string bk, .string bv, .int .i64 bp, .int .i64 bz, .string bk, .string bv, .int .i64 bp, .int .i64 bz] 29) = v5 at *
            clear x0 x1 x2 x3 y0 y1 y2 y3
            refine (HPU.out).mono ?_; rintro e w6 ⟨rfl, hb⟩
            have HA6 := Lib.hid (HA5.out.kept hb)
            have HB'6 := Lib.hid (HB'5.out.kept hb)
            have HB6 := Lib.hid (HB5.out.trans (hb.mono (Below.size HB5.out)))
            clear hb HB5 HA5 HB'5
            clear HPU
            obtain ⟨x0, x1, x2, x3⟩ := HA6.out.cells
            obtain ⟨y0, y1, y2, y3⟩ := HB'6.out.cells
            have hal := (Below.refl w6.heap.size w6).alloc (Nat.le_refl _) (.cells #[.string ak, .string av, .int .i64 ap, .int .i64 az, .string bk, .string bv, .int .i64 bp, .int .i64 bz] 29)
            have HPU := Lib.hid (F1.out w6)
            replace HB6 := Lib.hid (HB6.out.trans (hal.mono (Below.size HB6.out)))
            replace HA6 := Lib.hid (HA6.out.kept hal)
            replace HB'6 := Lib.hid (HB'6.out.kept hal)
            clear hal
            go_wp2_with fail
            generalize w6.alloc (.cells #[.string ak, .string av, .int .i64 ap, .int .i64 az, .string bk, .string bv, .int .i64 bp, .int .i64 bz] 29) = v6 at *
            clear x0 x1 x2 x3 y0 y1 y2 y3
            refine (HPU.out).mono ?_; rintro e w7 ⟨rfl, hb⟩
            have HA7 := Lib.hid (HA6.out.kept hb)
            have HB'7 := Lib.hid (HB'6.out.kept hb)
            have HB7 := Lib.hid (HB6.out.trans (hb.mono (Below.size HB6.out)))
            clear hb HB6 HA6 HB'6
            clear HPU
            obtain ⟨x0, x1, x2, x3⟩ := HA7.out.cells
            obtain ⟨y0, y1, y2, y3⟩ := HB'7.out.cells
            have hal := (Below.refl w7.heap.size w7).alloc (Nat.le_refl _) (.cells #[.string bk, .string bv, .int .i64 bp, .int .i64 bz, .string bk, .string bv, .int .i64 bp, .int .i64 bz] 29)
            have HPU := Lib.hid (F2.out w7)
            replace HB7 := Lib.hid (HB7.out.trans (hal.mono (Below.size HB7.out)))
            replace HA7 := Lib.hid (HA7.out.kept hal)
            replace HB'7 := Lib.hid (HB'7.out.kept hal)
            clear hal
            go_wp2_with fail
            generalize w7.alloc (.cells #[.string bk, .string bv, .int .i64 bp, .int .i64 bz, .string bk, .string bv, .int .i64 bp, .int .i64 bz] 29) = v7 at *
            clear x0 x1 x2 x3 y0 y1 y2 y3
            refine (HPU.out).mono ?_; rintro e w8 ⟨rfl, hb⟩
            have HA8 := Lib.hid (HA7.out.kept hb)
            have HB'8 := Lib.hid (HB'7.out.kept hb)
            have HB8 := Lib.hid (HB7.out.trans (hb.mono (Below.size HB7.out)))
            clear hb HB7 HA7 HB'7
            clear HPU
            go_wp2_with fail
            go_ret
            exact ⟨rfl, HB8.out⟩

/-! The row's step. -/
set_option maxRecDepth 100000 in
theorem lifted (os : Os) (started : os.Started) (H : Type) (enc : TypeId × Value → H) :
    ReturnsInHanded {} Try.checked os 5 .any (Rows.cellOrderSpec.pre6 enc Try.prog Try.f5 Rows.cellOrderRow.domain false) (Rows.cellOrderSpec.post enc Try.prog Try.f5 false true false false) := by
  refine returnsInHanded_of_change (C := Try.checked) own started (by kernel_rfl) Try.func5
    (ChangeSpec.witness6 (enc := enc) (C := Try.checked) false ⟨#[], #[.agg #[.string ByteArray.empty, .string ByteArray.empty, .int .i64 0, .int .i64 0], .agg #[.string ByteArray.empty, .string ByteArray.empty, .int .i64 0, .int .i64 0]], []⟩ 8 (by kernel_rfl) (by kernel_rfl) (by kernel_rfl) (by kernel_rfl)) ?_
  intro W base args ds gs before hval0 hW hcnd _
  have hval : ∀ (j : Nat) t v, Try.f5.params[j]? = some t → args[j]? = some v → Value.okWide Try.prog W .any base t v := hval0
  have hW' := hW
  obtain ⟨p, q, hA0, hV, rfl, hfz, hnd⟩ := hW
  have hA : DataW.TrodAll enc Try.prog W 0 (fun _ => true) true Try.f5.params.toList args.toList ds p := hA0
  rw [Try.params5] at hA hval
  obtain ⟨v0, vs0, d0, ds0, p0, q0, hargs, rfl, rfl, h0, r0⟩ := trodAll_cons hA
  obtain ⟨v1, vs1, d1, ds1, p1, q1, rfl, rfl, rfl, h1, r1⟩ := trodAll_cons r0
  obtain ⟨rfl, rfl, rfl⟩ := trodAll_nil r1
  obtain rfl : args = #[v0, v1] := by cases args; simp_all
  obtain ⟨rfl, rfl⟩ := trodVars_none hV
  obtain ⟨k0, s0, b0, z0, rfl, wk0, ws0, wb0, wz0, sh0⟩ := open_cell (hval 0 29 v0 rfl rfl) h0
  obtain ⟨k1, s1, b1, z1, rfl, wk1, ws1, wb1, wz1, sh1⟩ := open_cell (hval 1 29 v1 rfl rfl) h1
  clear hA0 hval0
  refine (walk k0 s0 b0 z0 k1 s1 b1 z1 W wk0 ws0 wb0 wz0 wk1 ws1 wb1 wz1).mono fun e W' ⟨he, bel⟩ => ?_
  subst he
  exact ⟨_, rfl, _, _, _, [], _, [], hW', trodAll_mk1 (shut_bool Try.underlying4 _), (trodAll_cons_mk (sh0 _ _) (trodAll_cons_mk (sh1 _ _) trodAll_mk0)), rfl, bel.frame _, fun h => by cases h⟩

theorem over : Rows.cellOrderRow.holds Try.pinned (OpenSpec.ofChange Rows.cellOrderSpec) :=
  OpenClaim.holds_of_wide 5 Try.f5 rfl rfl rfl rfl rfl rfl rfl ⟨rfl, rfl, rfl, rfl, rfl⟩ rfl rfl rfl rfl rfl (by kernel_rfl) Try.func5 (by kernel_rfl)
    (of_decide_eq_true (by kernel_rfl)) (by unfold Func.isWrapper; first | (rw [if_pos (by decide +kernel)]; kernel_rfl) | (rw [if_neg (by decide +kernel)]; exact ⟨rfl, rfl⟩))
    (fun os started H enc _ => lifted os started H enc)

/-- The statement. -/
theorem proved : Rows.CellOrderSaid := over
end Go.Proofs.Ytnbfieidledfmaa.cellOrder
