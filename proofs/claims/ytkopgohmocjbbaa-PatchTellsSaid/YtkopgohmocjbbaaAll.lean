/- The contracts of All and of Apply. -/
import Derived.Test.YtkopgohmocjbbaaImg
import Derived.Lib.ConvBytes
import Derived.Laws.IdiomStrings
import Derived.Deep.MidRow
namespace Go.Proofs.Ytkopgohmocjbbaa
open Go.ChangeShapes Go.WideShapes Go.ChangeAt Go.RowKit
set_option linter.unusedVariables false
set_option linter.unusedSimpArgs false
theorem below_conv (w : World) (e : TypeId) (s : ByteArray) : Below w.heap.size w (Lib.bytesWorld w e s) :=
  ⟨rfl, rfl, rfl, by rw [Lib.bytesWorld_size]; omega, fun k hk => Lib.bytesWorld_at_old w e s k hk⟩
theorem img_conv (w : World) (e : TypeId) (s : ByteArray) : Img (Lib.bytesWorld w e s) w.heap.size s.data.toList := by
  refine ⟨by rw [Lib.bytesWorld_size]; omega, fun j x hx => ?_, fun j hj => ?_⟩
  · have hj := (List.getElem?_eq_some_iff.1 hx).1
    rw [Lib.bytesWorld_cell w e s j (by rw [← size_data]; exact hj), List.getD_eq_getElem?_getD, hx]
    rfl
  · have hs : s.size ≤ (Lib.bytesCells w e s).size := by
      unfold Lib.bytesCells
      rw [Array.size_append, Array.size_map]
      exact Nat.le_add_right _ _
    rw [size_data] at hj
    unfold World.frozen?
    simp [Lib.bytesWorld_at_new]
    omega
theorem cap_conv (w : World) (n : Nat) (e : TypeId) : n ≤ grownCap w n 0 e :=
  grownCap_ge w n 0 e
theorem run_conv (w : World) (s : ByteArray) : (convert 9 48 (.string s)).run Try.prog w = .ok (.slice (some ⟨w.heap.size, 0, none⟩) s.size (grownCap w s.size 0 5)) (Lib.bytesWorld w 5 s) :=
  Lib.run_convert_string_bytes w 9 48 5 s Try.underlying9 Try.underlying48 Try.underlying5
theorem run_back {w : World} {B : Nat} {b : BA} (h : Img w B b) (n c : Nat) (hn : b.length = n) : (convert 48 9 (.slice (some ⟨B, 0, none⟩) n c)).run Try.prog w = .ok (.string (str b)) w := by
  subst hn
  refine run_convert_bytes_back w 48 9 5 ⟨B, 0, none⟩ c b Try.underlying48 Try.underlying5 Try.underlying9 (fun j hj => ?_)
  have := h.2.1 j b[j] (List.getElem?_eq_getElem hj)
  rw [show (⟨B, 0, none⟩ : Addr).add j = ⟨B, 0 + j, none⟩ from Addr.add_mid B 0 j, Nat.zero_add]
  exact this
set_option maxHeartbeats 2000000 in
theorem all_walk {C n lc : Nat} {A : Option Addr} {b : ByteArray} {l : List Pt} {page : Int} (w : World) (hl : Pts C w A l) (hn : l.length = n) (hC : C ≤ w.heap.size) (hb : b.size ≤ maxLen) :
    Calls Try.prog 19 #[.string b, .int .i64 page, .slice A n lc] w fun e w' => e = .returned (.tuple #[.string (str (allS page b.data.toList l)), .bool (allOk b.data.toList l)]) ∧ Below w.heap.size w w' := by
  by_cases h : b.size = 256
  · have h' : (b.size : Int) = 256 := by omega
    have HCT := Lib.hid (contains_walk (c := lc) w hl hn hC)
    have hbl : b.data.toList.length = 256 := by rw [size_data]; exact h
    cases g : l.all okP with
    | true =>
      rw [g] at HCT
      rw [show allS page b.data.toList l = folds page b.data.toList l by unfold allS allOk; rw [g, decide_eq_true hbl]; rfl, show allOk b.data.toList l = true by unfold allOk; rw [g, decide_eq_true hbl]; rfl]
      have HOK := Lib.hid (show ∀ p ∈ l, p.Ok from fun p hp => okP_iff.1 (List.all_eq_true.1 g p hp))
      have HP := Lib.hid hl
      have HN := Lib.hid hn
      have HC := Lib.hid hC
      have HBL := Lib.hid hbl
      have HZ := Lib.hid h
      clear hl hn hC hbl g hb
      go_enter Try.func19, Try.ntmps19
      go_wp2_with fail
      refine HCT.out.mono ?_; rintro e w1 ⟨rfl, hb1⟩
      have H1 := Lib.hid hb1
      clear hb1
      have hcv := run_conv w1 b
      have HI := Lib.hid (img_conv w1 5 b)
      have H2 := Lib.hid (below_conv w1 5 b)
      have HCP := Lib.hid (cap_conv w1 b.size 5)
      rw [h] at hcv HCP
      generalize Lib.bytesWorld w1 5 b = X at *
      generalize grownCap w1 256 0 5 = cp at *
      have H3 := Lib.hid (H1.out.trans (H2.out.mono H1.out.size))
      have HEA := Lib.hid (each_walk (page := page) (lc := lc) X (b := b.data.toList) (B := w1.heap.size) (C := w.heap.size) (c := cp) HI.out HBL.out ((HP.out.more HC.out).kept H3.out) HN.out HOK.out H1.out.size HCP.out)
      go_wp2_with fail
      refine HEA.out.mono ?_; rintro e w3 ⟨rfl, hi, hb3⟩
      have H4 := Lib.hid (H3.out.trans hb3)
      have hcv2 := run_back hi 256 cp (folds_length HOK.out HBL.out)
      clear hi hb3
      go_wp2_with fail
      go_ret2
      exact ⟨rfl, H4.out⟩
    | false =>
      rw [g] at HCT
      rw [show allS page b.data.toList l = [] by unfold allS allOk; rw [g, Bool.and_false]; rfl, show allOk b.data.toList l = false by unfold allOk; rw [g, Bool.and_false], show str [] = ByteArray.mk #[] from rfl]
      clear hl hn hC hbl g hb
      go_enter Try.func19, Try.ntmps19
      go_wp2_with fail
      refine HCT.out.mono ?_; rintro e w1 ⟨rfl, hb1⟩
      have H1 := Lib.hid hb1
      clear hb1
      go_wp2_with fail
      go_ret2
      exact ⟨rfl, H1.out⟩
  · have h' : ((b.size : Int) == 256) = false := by rw [beq_eq_false_iff_ne]; omega
    have h'' : ¬ (b.size : Int) = 256 := by omega
    have hbl : ¬ b.data.toList.length = 256 := by rw [size_data]; exact h
    rw [show allS page b.data.toList l = [] by unfold allS allOk; rw [decide_eq_false hbl]; rfl, show allOk b.data.toList l = false by unfold allOk; rw [decide_eq_false hbl]; rfl, show str [] = ByteArray.mk #[] from rfl]
    clear hl hn hC hbl h
    go_enter Try.func19, Try.ntmps19
    go_wp2_with fail

    go_ret2
    exact ⟨rfl, Below.refl _ _⟩
def applyOk (b : BA) (p : Pt) : Bool := decide (b.length = 256) && okP p
def applyS (b : BA) (p : Pt) : BA := if applyOk b p then over b p else []
theorem allOk_one (b : BA) (p : Pt) : allOk b [p] = applyOk b p := by unfold allOk applyOk; simp
theorem allS_one (b : BA) (p : Pt) : allS p.pg b [p] = applyS b p := by unfold allS applyS; rw [allOk_one, folds_one]
theorem Pts.one {w : World} {B : Nat} {p : Pt} (h : Box w B (.int .i64 p.pg) (.int .i64 p.ofs) (.string p.bs)) (hs : p.bs.size ≤ maxLen) : Pts w.heap.size w (some ⟨B, 0, none⟩) [p] :=
  ⟨fun k hk => by
    obtain rfl : k = 0 := by simpa using hk
    exact ⟨B, 0, rfl, h.lt, h.cells.1, h.cells.2.1, h.cells.2.2⟩, fun q hq => by rw [List.mem_singleton.1 hq]; exact hs, by unfold maxLen; simp⟩
set_option maxHeartbeats 2000000 in
theorem apply_any (k a : Int) (s b : ByteArray) (hs : s.size ≤ maxLen) (hb : b.size ≤ maxLen) (w : World) :
    Calls Try.prog 14 #[.string b, pv k a s] w fun e w' => e = .returned (.tuple #[.string (str (applyS b.data.toList ⟨k, a, s⟩)), .bool (applyOk b.data.toList ⟨k, a, s⟩)]) ∧ Below w.heap.size w w' := by
  have HX := Lib.hid (Box.new w (.int .i64 k) (.int .i64 a) (.string s))
  have HA := Lib.hid ((Below.refl w.heap.size w).alloc (Nat.le_refl _) (.cells #[.int .i64 k, .int .i64 a, .string s] 26))
  rw [← allS_one, ← allOk_one]
  unfold pv
  have HAL := Lib.hid (fun (r : World) (B : Nat) (h : Box r B (.int .i64 k) (.int .i64 a) (.string s)) => all_walk (page := k) (lc := 1) (n := 1) (b := b) r (Pts.one (p := ⟨k, a, s⟩) h hs) rfl (Nat.le_refl _) hb)
  dsimp only at HAL ⊢
  obtain ⟨x0, x1, x2⟩ := HX.out.cells
  have hsz : (w.alloc (.cells #[.int .i64 k, .int .i64 a, .string s] 26)).heap.size = w.heap.size + 1 := by simp
  clear hs hb
  go_enter Try.func14, Try.ntmps14
  go_wp2_with fail
  generalize w.alloc (.cells #[.int .i64 k, .int .i64 a, .string s] 26) = W at *
  rw [← hsz]
  refine (HAL.out _ _ (Box.new W (.int .i64 k) (.int .i64 a) (.string s))).mono ?_; rintro e w1 ⟨rfl, hb1⟩
  have H1 := Lib.hid ((HA.out.alloc HA.out.size (.cells #[.int .i64 k, .int .i64 a, .string s] 26)).trans (hb1.mono (Nat.le_trans HA.out.size (by simp))))
  clear hb1
  go_wp2_with fail
  go_ret2
  exact ⟨rfl, H1.out⟩
end Go.Proofs.Ytkopgohmocjbbaa
