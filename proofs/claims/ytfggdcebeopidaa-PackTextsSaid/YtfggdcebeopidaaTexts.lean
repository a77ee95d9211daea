/- For every list of strings the law PackTexts returns true: a text's bytes are its length in two, and it, and a list of them is read in its order; nothing else is assumed. -/
import Derived.Test.YtfggdcebeopidaaRows
import Derived.Test.YtfggdcebeopidaaAlive
import Derived.Lib.Hide
import Derived.WalkLawsBesides
import Derived.WalkSpells
import Derived.WalkKit
import Derived.ProofKit
import Derived.OpenShut
import Derived.ShutString
import Derived.SliceStrings
import Derived.SizedLaws
import Derived.Carry
namespace Go.Proofs.Ytfggdcebeopidaa.packTexts
open Go.ChangeShapes Go.WideShapes Go.ChangeAt Go.RowKit
open Go.ChangeMaps (open_string shut_string)
set_option linter.unusedVariables false

theorem own : ownKnob Try.prog.godebug = none := by kernel_rfl
theorem laidOut : laidOutB Try.prog = true := by kernel_rfl

/-- The argument: a slice of strings that lies in the caller's memory. -/
def Strs (w : World) (A : Option Addr) (len : Nat) (ss : List ByteArray) : Prop :=
  ss.length = len ∧ (∀ k, k < len → ∃ b off, A = some ⟨b, off, none⟩ ∧ b < w.heap.size ∧ w.cell? ⟨b, off + k, none⟩ = some (.string (ss.getD k ByteArray.empty))) ∧ ∀ s ∈ ss, s.size ≤ maxLen
/-- The bytes of texts, one behind the other. -/
def tx (ss : List ByteArray) : List UInt8 := ss.flatMap fun s => w2 s.size ++ s.data.toList

theorem getD_mem (ss : List ByteArray) (k : Nat) (h : k < ss.length) : ss.getD k ByteArray.empty ∈ ss := by
  rw [List.getD_eq_getElem?_getD, List.getElem?_eq_getElem h]; exact List.getElem_mem h
theorem take_getD (ss : List ByteArray) (k : Nat) (h : k < ss.length) : ss.take (k + 1) = ss.take k ++ [ss.getD k ByteArray.empty] := by
  rw [List.take_succ_eq_append_getElem h, List.getD_eq_getElem?_getD, List.getElem?_eq_getElem h]; rfl
theorem drop_getD (ss : List ByteArray) (k : Nat) (h : k < ss.length) : ss.drop k = ss.getD k ByteArray.empty :: ss.drop (k + 1) := by
  rw [List.drop_eq_getElem_cons h, List.getD_eq_getElem?_getD, List.getElem?_eq_getElem h]; rfl
theorem tx_take (ss : List ByteArray) (k : Nat) (h : k < ss.length) : tx (ss.take (k + 1)) = tx (ss.take k) ++ (w2 (ss.getD k ByteArray.empty).size ++ (ss.getD k ByteArray.empty).data.toList) := by
  rw [take_getD ss k h]; simp [tx]
theorem tx_drop (ss : List ByteArray) (k : Nat) (h : k < ss.length) : tx (ss.drop k) = w2 (ss.getD k ByteArray.empty).size ++ ((ss.getD k ByteArray.empty).data.toList ++ tx (ss.drop (k + 1))) := by
  rw [drop_getD ss k h]; simp [tx]
theorem tx_le : ∀ (ss : List ByteArray), (∀ s ∈ ss, s.size ≤ 250) → (tx ss).length ≤ ss.length * 252
  | [], _ => by simp [tx]
  | s :: ss, h => by
    have := tx_le ss fun x hx => h x (by simp [hx])
    have h1 := h s (by simp)
    have e : tx (s :: ss) = (w2 s.size ++ s.data.toList) ++ tx ss := rfl
    have e2 : s.data.toList.length = s.size := by simp
    rw [e, List.length_append, List.length_append, List.length_cons, w2_length, e2]; omega
/-- The first of the loops, k rounds on: all so far are short, and stand in the Writer. -/
def Wrote1 (ss : List ByteArray) (k p : Nat) (w w1 wr : World) : Prop :=
  (∀ s ∈ ss.take k, s.size ≤ 250) ∧ Wr w.heap.size wr p (tx (ss.take k)) false ∧ Below w.heap.size w wr ∧ w1.heap.size ≤ wr.heap.size
theorem to_string1 (W : World) (x : Int) : (convert 25 9 (.slice (some ⟨W.heap.size, 0, none⟩) 1 1)).run Try.prog (W.alloc (.cells #[.int .u8 ((byte x).toNat : Int)] 5)) = .ok (.string (str [byte x])) (W.alloc (.cells #[.int .u8 ((byte x).toNat : Int)] 5)) :=
  run_convert_bytes_back (P := Try.prog) _ 25 9 5 ⟨W.heap.size, 0, none⟩ 1 [byte x] Try.underlying25 Try.underlying5 Try.underlying9 fun j hj => by
    have h0 : j = 0 := by simpa using hj
    subst h0
    exact cell_of_row _ W.heap.size 0 _ _ _ (heap_alloc_new W _)
theorem text_step (l : List UInt8) (s : ByteArray) (h : s.size ≤ 250) : str l ++ (⟨#[0]⟩ ++ str [byte (s.size : Int)] ++ s) = str (l ++ (w2 s.size ++ s.data.toList)) := by
  have h0 : byte ((s.size : Int) / 256) = 0 := by rw [Int.ediv_eq_zero_of_lt (by omega) (by omega)]; rfl
  apply ByteArray.ext; apply Array.ext'; simp [str, w2, h0]
theorem Wr_more {C p : Nat} {w : World} {l : List UInt8} {b : Bool} (h : Wr C w p l b) (o : Obj) : Wr C (w.alloc o) p l b :=
  ⟨by have := h.1; simp; omega, by obtain ⟨_, v, hh, hown⟩ := h; exact ⟨v, (Below.heap_alloc w o p (block_of_heap hh)).trans hh, hown.alloc o⟩⟩
/-- The second of the loops: what is left to be read. -/
def Left (ss : List ByteArray) (k q : Nat) (w wr : World) : Prop := Rd wr q (tx (ss.drop k)) true ∧ Below w.heap.size w wr

set_option maxHeartbeats 1000000 in
theorem walk (A : Option Addr) (len cap : Nat) (ss : List ByteArray) (w : World) (hs : Strs w A len ss) (hm : len ≤ maxLen) :
    Calls Try.prog 7 #[.slice A len cap] w fun e w' => e = .returned (.bool true) ∧ Below w.heap.size w w' := by
  unfold maxLen at hm
  have Hs := Lib.hid hs
  clear hs
  by_cases h1 : len ≤ 30
  · have n1 : ¬ 30 < len := by omega
    go_enter Try.func7, Try.ntmps7
    go_wp2_with fail
    refine (alive_yes _).mono ?_; rintro e w1 ⟨rfl, hb1⟩
    have B1 := Lib.hid hb1
    clear hb1
    go_wp2_with fail
    have hg1 : w.heap.size ≤ w1.heap.size := B1.out.size
    go_loopw [4, 6, 24] (fun t _ i wr => ∃ k : Nat, k ≤ len ∧ i = .int .i64 k ∧ t = .string (str (tx (ss.take k))) ∧ Wrote1 ss k w1.heap.size w w1 wr) (fun _ _ i _ => len - (intOf i).toNat)
    case atStart => exact ⟨0, Nat.zero_le _, rfl, rfl, by simp, Wr.new _ w1 (by omega), B1.out.alloc B1.out.size _, by simp⟩
    case round =>
      obtain ⟨k, hk, rfl, rfl, hq⟩ := hrel
      have Hq := Lib.hid hq
      clear hq
      by_cases hlt : k < len
      · obtain ⟨b, off, rfl, hbw, hcell⟩ := Hs.out.2.1 k hlt
        have hsz := Hs.out.2.2 _ (getD_mem ss k (by rw [Hs.out.1]; exact hlt))
        have Hg := Lib.hid (take_getD ss k (by rw [Hs.out.1]; exact hlt))
        have Ht := Lib.hid (tx_take ss k (by rw [Hs.out.1]; exact hlt))
        generalize ss.getD k ByteArray.empty = s at *
        unfold maxLen at hsz
        have hc := (Hq.out.2.2.1.cell (p := ⟨b, off + k, none⟩) hbw).trans hcell
        clear hcell
        by_cases h2 : s.size ≤ 250
        · have n2 : ¬ 250 < s.size := by omega
          have hxl := tx_le (ss.take k) Hq.out.1
          have hxk : (ss.take k).length ≤ 30 := by simp; omega
          go_wp2_with fail
          refine (text_ok w.heap.size _ s _ _ (by omega) (by omega) Hq.out.2.1).mono ?_; rintro e X1 ⟨rfl, hx1⟩
          have H1 := Lib.hid hx1
          clear hx1
          have hcv := to_string1 X1 s.size
          rw [byte_toNat _ (by omega), Int.emod_eq_of_lt (by omega) (by omega)] at hcv
          have hz1 : (str [byte (s.size : Int)]).size = 1 := rfl
          have hz2 : (str (tx (ss.take k))).size ≤ 10000 := by rw [str_size]; omega
          generalize hy : str [byte (s.size : Int)] = y at *
          have Hy := Lib.hid hy
          clear hy
          go_wp2_with fail
          go_roundw
          case rel =>
            refine ⟨k + 1, by omega, by go_num, by rw [Ht.out, ← Hy.out, text_step _ s h2], ?_, ?_, ?_, ?_⟩
            · rw [Hg.out]
              intro x hx
              rcases List.mem_append.1 hx with hx | hx
              · exact Hq.out.1 x hx
              · have : x = s := by simpa using hx
                rw [this]; exact h2
            · rw [Ht.out]; exact Wr_more H1.out.1 _
            · exact (Hq.out.2.2.1.trans (H1.out.2.below hg1)).alloc (Nat.le_trans Hq.out.2.2.1.size H1.out.2.size) _
            · have h3 := H1.out.2.size
              have h4 := Hq.out.2.2.2
              simp; omega
          case measure => simp [intOf]; omega
        · have n2 : 250 < s.size := by omega
          go_wp2_with fail
          go_ret
          exact ⟨rfl, Hq.out.2.2.1⟩
      · have Hk := Lib.hid (show ss.take k = ss from List.take_of_length_le (by rw [Hs.out.1]; omega))
        have hall := Hq.out.1
        have HW := Lib.hid Hq.out.2.1
        rw [Hk.out] at hall HW
        have B2 := Lib.hid Hq.out.2.2.1
        have Hall := Lib.hid hall
        have hxl := tx_le ss hall
        have hxn : ss.length ≤ 30 := by rw [Hs.out.1]; exact h1
        clear hall
        go_wp2_with fail
        refine (done_good _ _ _ _ HW.out).mono ?_; rintro e X1 ⟨rfl, rfl⟩
        rw [Hk.out]
        go_wp2_with fail
        refine (from_any _ _).mono ?_; rintro e X2 ⟨rfl, hx2⟩
        have B3 := Lib.hid (show Below w.heap.size w X2 by rw [← hx2]; exact B2.out.alloc B2.out.size _)
        have R3 := Lib.hid (show Rd X2 wr.heap.size (tx ss) true by rw [← hx2]; exact Rd.new _ _)
        have Hz := Lib.hid B2.out.size
        have hgq : w.heap.size ≤ wr.heap.size := B2.out.size
        generalize wr.heap.size = q at *
        clear hx2
        go_wp2_with fail
        go_loopw [11, 65] (fun _ i wr => ∃ k : Nat, k ≤ len ∧ i = .int .i64 k ∧ Left ss k q w wr) (fun _ i _ => len - (intOf i).toNat)
        case atStart => exact ⟨0, Nat.zero_le _, rfl, R3.out, B3.out⟩
        case round =>
          obtain ⟨j, hj, rfl, hq2⟩ := hrel
          have Hr := Lib.hid hq2
          clear hq2
          by_cases hlt2 : j < len
          · obtain ⟨b, off, rfl, hbw, hcell⟩ := Hs.out.2.1 j hlt2
            have hjl : j < ss.length := by rw [Hs.out.1]; exact hlt2
            have h2 := Hall.out _ (getD_mem ss j hjl)
            have Ht := Lib.hid (tx_drop ss j hjl)
            have Hd := Lib.hid (tx_le (ss.drop (j + 1)) (fun x hx => Hall.out x (List.mem_of_mem_drop hx)))
            generalize ss.getD j ByteArray.empty = s at *
            rename_i wr2
            have hc := (Hr.out.2.cell (p := ⟨b, off + j, none⟩) hbw).trans hcell
            clear hcell
            have HR := Lib.hid (by have := Hr.out.1; rw [Ht.out] at this; exact this)
            have HB := Lib.hid Hr.out.2
            have hzw := Hr.out.2.size
            have hjl2 : (ss.drop (j + 1)).length ≤ 30 := by simp; omega
            go_wp2_with fail
            refine (end_no q _ _ (by simp [w2]) HR.out).mono ?_; rintro e Y1 ⟨rfl, rfl⟩
            go_wp2_with fail
            refine (rtext_ok w.heap.size q s _ _ (by omega) (by have := Hd.out; omega) hzw HR.out).mono ?_; rintro e Y2 ⟨rfl, hy2⟩
            have H2 := Lib.hid hy2
            clear hy2
            go_wp2_with fail
            go_roundw
            case rel => exact ⟨j + 1, by omega, by go_num, H2.out.1, HB.out.trans (H2.out.2.below hgq)⟩
            case measure => simp [intOf]; omega
          · have HR := Lib.hid (by have := Hr.out.1; rw [show ss.drop j = [] from List.drop_of_length_le (by rw [Hs.out.1]; omega)] at this; exact this)
            go_wp2_with fail
            refine (end_yes q _ HR.out).mono ?_; rintro e Y1 ⟨rfl, rfl⟩
            go_wp2_with fail
            refine (bad_no q [] _ HR.out).mono ?_; rintro e Y2 ⟨rfl, rfl⟩
            go_wp2_with fail
            go_ret
            exact ⟨rfl, Hr.out.2⟩
  · have n1 : 30 < len := by omega
    go_enter Try.func7, Try.ntmps7
    go_wp2_with fail
    refine (alive_yes _).mono ?_; rintro e w1 ⟨rfl, hb1⟩
    have B1 := Lib.hid hb1
    clear hb1
    go_wp2_with fail
    go_ret
    exact ⟨rfl, B1.out⟩

/-! The row's step. -/
set_option maxRecDepth 100000 in
theorem lifted (os : Os) (started : os.Started) (H : Type) (enc : TypeId × Value → H) :
    ReturnsInHanded {} Try.checked os 7 .any (Rows.packTextsSpec.pre6 enc Try.prog Try.f7 Rows.packTextsRow.domain false) (Rows.packTextsSpec.post enc Try.prog Try.f7 false true false false) := by
  refine returnsInHanded_of_change (C := Try.checked) own started (by kernel_rfl) Try.func7
    (ChangeSpec.witness6 (enc := enc) (C := Try.checked) false ⟨#[], #[.slice none 0 0], []⟩ 8 (by kernel_rfl) (by kernel_rfl) (by kernel_rfl) (by kernel_rfl)) ?_
  intro W base args ds gs before hval0 hW hcnd _
  have hval : ∀ (j : Nat) t v, Try.f7.params[j]? = some t → args[j]? = some v → Value.okWide Try.prog W .any base t v := hval0
  have hW' := hW
  obtain ⟨p, q, hA0, hV, rfl, hfz, hnd⟩ := hW
  have hA : DataW.TrodAll enc Try.prog W 0 (fun _ => true) true Try.f7.params.toList args.toList ds p := hA0
  rw [Try.params7] at hA hval
  obtain ⟨v0, d0, rfl, rfl, h0⟩ := trodAll_one hA
  obtain ⟨rfl, rfl⟩ := trodVars_none hV
  obtain ⟨A, len, cap, rfl⟩ := okWide_slice Try.underlying44 (hval 0 44 v0 rfl rfl)
  have h0k := h0
  obtain ⟨fuel, hf⟩ := h0
  clear hA0 hval0
  simp only [List.append_nil] at hW'
  have hlt : ∀ x ∈ p, x.block < W.heap.size := fun x hx => by simpa using hW'.lt x hx
  have fin : ∀ W', Below W.heap.size W W' → Rows.packTextsSpec.post enc Try.checked.prog Try.f7 false true false false W #[.slice A len cap] (.bool true) W' := by
    intro W' hnx
    refine ⟨_, _, _, [] ++ [], p, [], hW', ?_, ?_, rfl, hnx.frame _, fun h => by cases h⟩
    · exact trodAll_mk1 (shut_bool Try.underlying4 true)
    · exact trodAll_mk1 (Below.trod laidOut (by kernel_rfl) (of_decide_eq_true (by kernel_rfl)) h0k hnx hlt)
  have go : ∀ ss, Strs W A len ss → len ≤ maxLen → Calls Try.checked.prog 7 #[.slice A len cap] W fun e W' => ∃ v, e = Ending.returned v ∧ Rows.packTextsSpec.post enc Try.checked.prog Try.f7 false true false false W #[.slice A len cap] v W' :=
    fun ss hs hm => (walk A len cap ss W hs hm).mono fun e W' ⟨he, hg⟩ => ⟨_, he, fin W' hg⟩
  rcases open_strings Try.underlying44 Try.underlying9 (by kernel_rfl) hf with ⟨hcs, hx⟩ | ⟨a, len', cap', ss, hcs, _, hl, hm, hz, hx, hcell, hws⟩
  · simp [Value.cells] at hcs
    obtain ⟨rfl, rfl, rfl⟩ := hcs
    exact go [] ⟨rfl, fun k hk => by omega, fun s hs => by simp at hs⟩ (by unfold maxLen; omega)
  · simp [Value.cells] at hcs
    obtain ⟨rfl, rfl, rfl⟩ := hcs
    simp only [Prod.mk.injEq] at hx
    obtain ⟨rfl, rfl⟩ := hx
    simp only [if_true] at hz
    refine go (ss.take len) ⟨by simp; omega, fun k hk => ?_, fun s hs => hws s (List.mem_of_mem_take hs)⟩ (by omega)
    have hk' : k < ss.length := by omega
    obtain ⟨b, off, spot⟩ := a
    have hspot : spot = none := by simpa [Addr.add] using World.cell?_spot (hcell 0 (by omega))
    subst hspot
    refine ⟨b, off, rfl, hlt (.cell b off) (MemPlace.mem_row.2 ⟨0, by omega, by simp⟩), ?_⟩
    rw [← add_plain, hcell k hk']
    simp [List.getD, hk]

theorem over : Rows.packTextsRow.holds Try.pinned (OpenSpec.ofChange Rows.packTextsSpec) :=
  OpenClaim.holds_of_wide 7 Try.f7 rfl rfl rfl rfl rfl rfl rfl ⟨rfl, rfl, rfl, rfl, rfl⟩ rfl rfl rfl rfl rfl (by kernel_rfl) Try.func7 (by kernel_rfl)
    (of_decide_eq_true (by kernel_rfl)) (by unfold Func.isWrapper; first | (rw [if_pos (by decide +kernel)]; kernel_rfl) | (rw [if_neg (by decide +kernel)]; exact ⟨rfl, rfl⟩))
    (fun os started H enc _ => lifted os started H enc)

/-- The statement. -/
theorem proved : Rows.PackTextsSaid :=
  over
end Go.Proofs.Ytfggdcebeopidaa.packTexts
