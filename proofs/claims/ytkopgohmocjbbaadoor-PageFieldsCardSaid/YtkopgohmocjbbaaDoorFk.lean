/- What PageFields leans on: the world behind the body's store, the fields' places in a page's bytes. -/
import Derived.Test.YtkopgohmocjbbaaDoorNbs
import Derived.Lib.Hide
namespace Go.Proofs.YtkopgohmocjbbaaDoor
open Go.ChangeShapes Go.WideShapes Go.ChangeAt Go.RowKit
set_option linter.unusedVariables false
set_option linter.unusedSimpArgs false
theorem fields_keep {w2 U : World} {g : Nat} {c : UInt8} (h : Held w2 U) (hg : w2.heap.size ≤ g) (v : Value) : HR w2 U.heap.size c (((U.setCell ⟨g, 3, none⟩ v).alloc (.cells #[.int .u8 (c.toNat : Int)] 5)).drew) := by
  have hs : (U.setCell ⟨g, 3, none⟩ v).heap.size = U.heap.size := by simp [World.setCell]
  refine ⟨Below.drew ((Below.setCell h hg v).alloc (by rw [hs]; exact Below.size h) _), ?_⟩
  rw [← hs]
  exact heap_alloc_new _ _
theorem fields_box {U : World} {g : Nat} {v0 v1 v2 v3 : Value} (h : Box U g v0 v1 v2 v3) (v : Value) (o : Obj) : Box (((U.setCell ⟨g, 3, none⟩ v).alloc o).drew) g v0 v1 v2 v := by
  have h1 : Box (U.setCell ⟨g, 3, none⟩ v) g v0 v1 v2 v := heap_setCell_same U g 3 _ _ v h
  exact h1.kept (Below.drew ((Below.refl _ _).alloc (Nat.le_refl _) o))
theorem fields_of (k d m : Int) (j : Nat) (c : UInt8) (hk : 0 ≤ k ∧ k ≤ 5) (hd : 0 ≤ d ∧ d ≤ 5) (hm : 0 ≤ m ∧ m < 64) (hj : j < 240) :
    (str (Pg.mk k d m (patch (zs 240) j c)).bytes).size = 256 ∧ (str (Pg.mk k d m (patch (zs 240) j c)).bytes).extract 0 2 = ⟨#[80, 71]⟩ ∧
    (∀ w : World, (Instr.index 9 (.string (str (Pg.mk k d m (patch (zs 240) j c)).bytes)) (.int .i64 2)).run Tryd.prog w = .ok (.int .u8 k) w) ∧
    (∀ w : World, (Instr.index 9 (.string (str (Pg.mk k d m (patch (zs 240) j c)).bytes)) (.int .i64 3)).run Tryd.prog w = .ok (.int .u8 d) w) ∧
    (∀ w : World, (Instr.index 9 (.string (str (Pg.mk k d m (patch (zs 240) j c)).bytes)) (.int .i64 5)).run Tryd.prog w = .ok (.int .u8 m) w) ∧
    (∀ w : World, (Instr.index 9 (.string (str (Pg.mk k d m (patch (zs 240) j c)).bytes)) (.int .i64 (16 + (j : Int)))).run Tryd.prog w = .ok (.int .u8 (c.toNat : Int)) w) ∧ True := by
  have hl : (Pg.mk k d m (patch (zs 240) j c)).bytes.length = 256 := by rw [Pg.bytes_length]; show 16 + (patch (zs 240) j c).length = 256; rw [patch_length (by rw [zs_length]; omega), zs_length]
  have hb : (Pg.mk k d m (patch (zs 240) j c)).bytes = [80, 71, u8 k, u8 d, 0, u8 m, 0, 0, 0, 0, 0, 0, 0, 0, 0, 0] ++ patch (zs 240) j c := rfl
  have hix := fun (i : Nat) (hi : i < 256) (w : World) => run_ix (str (Pg.mk k d m (patch (zs 240) j c)).bytes) i (by rw [str_size, hl]; exact hi) w
  rw [str_toList] at hix
  have e2 : (Pg.mk k d m (patch (zs 240) j c)).bytes.getD 2 0 = u8 k := by rw [hb]; rfl
  have e3 : (Pg.mk k d m (patch (zs 240) j c)).bytes.getD 3 0 = u8 d := by rw [hb]; rfl
  have e5 : (Pg.mk k d m (patch (zs 240) j c)).bytes.getD 5 0 = u8 m := by rw [hb]; rfl
  have e16 : (Pg.mk k d m (patch (zs 240) j c)).bytes.getD (16 + j) 0 = c := by
    have := patch_at (l := zs 240) (k := j) (by rw [zs_length]; omega) c j
    rw [if_pos rfl] at this
    rw [hb, List.getD_eq_getElem?_getD, List.getElem?_append_right (by simp), show 16 + j - ([80, 71, u8 k, u8 d, 0, u8 m, 0, 0, 0, 0, 0, 0, 0, 0, 0, 0] : BA).length = j by simp, ← List.getD_eq_getElem?_getD]
    exact this
  refine ⟨by rw [str_size, hl], ?_, fun w => ?_, fun w => ?_, fun w => ?_, fun w => ?_, trivial⟩
  · rw [extract_str, hb]; rfl
  · have := hix 2 (by omega) w
    rw [e2, u8_toNat hk.1 (by omega)] at this
    exact this
  · have := hix 3 (by omega) w
    rw [e3, u8_toNat hd.1 (by omega)] at this
    exact this
  · have := hix 5 (by omega) w
    rw [e5, u8_toNat hm.1 (by omega)] at this
    exact this
  · have := hix (16 + j) (by omega) w
    rw [e16, show ((16 + j : Nat) : Int) = 16 + (j : Int) by omega] at this
    exact this
end Go.Proofs.YtkopgohmocjbbaaDoor
