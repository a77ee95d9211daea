/- The six names as a slice. -/
import Derived.Test.YtkopgohmocjbbaaDoorTurn
namespace Go.Proofs.YtkopgohmocjbbaaDoor
open Go.ChangeShapes Go.WideShapes Go.ChangeAt Go.RowKit
set_option linter.unusedVariables false
def nRow : List Value := [.string ⟨#[102, 114, 101, 101]⟩, .string ⟨#[100, 105, 114]⟩, .string ⟨#[109, 97, 112]⟩, .string ⟨#[98, 117, 99, 107, 101, 116]⟩, .string ⟨#[111, 118, 101, 114, 102, 108, 111, 119]⟩, .string ⟨#[98, 108, 111, 98]⟩]
theorem run_nbs (w : World) : (Instr.buildSlice 30 6 #[(0, .string ⟨#[102, 114, 101, 101]⟩), (1, .string ⟨#[100, 105, 114]⟩), (2, .string ⟨#[109, 97, 112]⟩), (3, .string ⟨#[98, 117, 99, 107, 101, 116]⟩), (4, .string ⟨#[111, 118, 101, 114, 102, 108, 111, 119]⟩), (5, .string ⟨#[98, 108, 111, 98]⟩)]).run Tryd.prog w = .ok (.slice (some ⟨w.heap.size, 0, none⟩) 6 6) (w.alloc (.cells nRow.toArray 9)) := by
  kernel_rfl
/-- A slice of literals is laid: its run known by an equation. -/
theorem wpList_bs {P : Program} {w : World} {ops : Array Oper} {rest : List Oper} {o : Oper} {a : Act} {Q : Exit → Act → World → Prop} (hgd : o.guard = none) (t : TypeId) (n : Nat) (xs : Array (Nat × Operand)) (ho : o.op = .buildSlice t n xs)
    (vs : Array (Nat × Value)) (hv : (xs.map fun (i, x) => (i, a.eval x)) = vs) {v : Value} {w' : World} (hr : (Instr.buildSlice t n vs).run P w = .ok v w') (h : wpList P ops Q rest (a.put o.dst v) w') : wpList P ops Q (o :: rest) a w :=
  wpList_plain hgd fun _ hK => by
    unfold Oper.wp execOp
    simp only [ho, hv, Sem.run_bind, Sem.run_pure, Result.andThen_ok, hr]
    exact hK _ _ h
end Go.Proofs.YtkopgohmocjbbaaDoor
