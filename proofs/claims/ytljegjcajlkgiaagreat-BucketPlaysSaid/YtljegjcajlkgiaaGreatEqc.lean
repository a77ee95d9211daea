/- Cells compared. -/
import Derived.Test.YtljegjcajlkgiaaGreatMem
import Derived.StillTailTactics
import Derived.BigQuiet
import Derived.Laws.StructEq
namespace Go.Proofs.YtljegjcajlkgiaaGreat
open Go.ChangeShapes Go.WideShapes Go.ChangeAt Go.RowKit
set_option linter.unusedVariables false
set_option linter.unusedSimpArgs false
set_option maxRecDepth 100000
def eqC (a b : Ce) : Bool := (a.key.toList == b.key.toList) && ((a.val.toList == b.val.toList) && ((a.blob == b.blob) && (a.size == b.size)))
theorem eqC_iff {a b : Ce} : eqC a b = true ↔ a = b := by
  unfold eqC
  simp only [Bool.and_eq_true, beq_iff_eq, ByteArray.toList_eq]
  constructor
  · rintro ⟨h1, h2, h3, h4⟩; exact Ce.same (data_inj h1) (data_inj h2) h3 h4
  · rintro rfl; exact ⟨rfl, rfl, rfl, rfl⟩
theorem eq_cells (a0 a1 : ByteArray) (a2 a3 : Int) (b0 b1 : ByteArray) (b2 b3 : Int) (w : World) : (binOp .eql 42 (.agg #[.string a0, .string a1, .int .i64 a2, .int .i64 a3]) (.agg #[.string b0, .string b1, .int .i64 b2, .int .i64 b3])).run Tryz.prog w = .ok (.bool (eqC ⟨a0, a1, a2, a3⟩ ⟨b0, b1, b2, b3⟩)) w := by
  have u3 := Tryz.underlying3
  have a3' := Tryz.isAgg3
  have z3' := Tryz.sizeOf3
  have u9 := Tryz.underlying9
  have a9 := Tryz.isAgg9
  have z9 := Tryz.sizeOf9
  have hS : Tryz.prog.underlying 42 = some (.struct (Tryz.prog.fieldsOf 42)) := by kernel_rfl
  have hp : Tryz.prog.stoodInHeld 42 = false := by kernel_rfl
  rw [run_eql_struct, show (10000 : Nat) = 9999 + 1 from rfl, run_equalIn_agg w 9999 42 _ _ hS hp]
  simp only [Program.fieldsOf, Tryz.underlying42]
  unfold eqC
  dsimp only
  go_simp
  by_cases g0 : a0.toList = b0.toList <;> by_cases g1 : a1.toList = b1.toList <;> by_cases g2 : a2 = b2 <;> by_cases g3 : a3 = b3 <;> simp [g0, g1, g2, g3]
end Go.Proofs.YtljegjcajlkgiaaGreat
