/-
  NARROWER THAN 'FOR EVERY INPUT', by the rows' own cells (each row's printed sentence says how): PageTells: laid · PageZero: laid · PageFields: laid · PageNames: laid · PageTurned: laid · PageSizes: laid.
  DERIVED. THE GIVEN ROWS OF THIS SEAT. 6 by the template 'for every input the law returns true; each argument reads behind the call as it read before'; 0 by the template 'total and deterministic' (their statements: YtkopgohmocjbbaaDoorTotals.lean).
  GIVEN WITH THE SEED: the statements are not yours to turn. If you find one false, say at which input.
  Laid BY PROGRAM, IN A SANDBOX (cutbox-rows.mjs): the forced cells as the released guide's own fill.sh prints them over the translation 2553ed192613eab8… (all of the seat's roots in one cut). By AI agents, Wed Nov 11 2026. No macro, syntax, notation, axiom, sorry.
-/
import Derived.Test.YtkopgohmocjbbaaDoorChecked
import GoSem.Claim
import GoSem.ClaimJoined
import GoSem.ClaimMapViews
import Derived.JoinedTies
import Derived.KernelRfl
namespace Go.Proofs.YtkopgohmocjbbaaDoor
/- THE CELL 'sum', in the pinned program and in every row, IS THE sha256 OF THE DUMP (.gsa) THAT YtkopgohmocjbbaaDoorProg.lean LOADS. Nothing in Lean hashes anything: it is a label: what it is worth is what the hold of that sum in a sandbox is worth. -/
noncomputable def Tryd.pinned : Pinned := { name := "ytkopgohmocjbbaadoor", sum := "2553ed192613eab8b5404cd759bab789518961d819e229ee2e4af67120aa7f48", checked := Tryd.checked }
namespace Rows
def none {H : Type} : Left H := { results := [], args := [] }

/- WHAT THE LISTED PACKAGE-LEVEL VARIABLES READ AS WHEN THE CALL BEGINS. Each datum BY PROGRAM (the guide's laid-datum.mjs) off the statement by which the dump's own 'gosem.cut.vars' lays the variable. In a bare row this is a premise. The card (YtkopgohmocjbbaaDoorCards.lean) ties it to the program's text. -/
def laid_honeycomb_page_names {H : Type} : DataW H := .agg [.lit (.string [102, 114, 101, 101]), .lit (.string [100, 105, 114]), .lit (.string [109, 97, 112]), .lit (.string [98, 117, 99, 107, 101, 116]), .lit (.string [111, 118, 101, 114, 102, 108, 111, 119]), .lit (.string [98, 108, 111, 98])]

/-- 'honeycomblaw5.PageTells': WHATEVER THE INPUT: true; the input reads as it did. -/
def pageTellsSpec : ChangeSpec := { name := "pageTells", fn := fun _ => fun
  | [d1, d2, d3, d4] => { results := [.lit (.bool true)], args := [d1, d2, d3, d4] }
  | _ => none }
def pageTellsRow : OpenClaim := { program := "ytkopgohmocjbbaadoor", sum := "2553ed192613eab8b5404cd759bab789518961d819e229ee2e4af67120aa7f48", func := "honeycomb/honeycomblaw5.PageTells", spec := "pageTells", inPlace := ["internal/abi.NoEscape", "internal/bytealg.MakeNoZero"], named := ["honeycomb/page.names"], apart := false, laid := [("honeycomb/page.names", laid_honeycomb_page_names)] }
def PageTellsSaid : Prop := pageTellsRow.holds Tryd.pinned (OpenSpec.ofChange pageTellsSpec)

/-- ITS FALSE NEIGHBOUR: 'it returns false'. Refute it at one input. -/
def pageTellsWrong : ChangeSpec := { name := "pageTells", fn := fun _ => fun
  | [d1, d2, d3, d4] => { results := [.lit (.bool false)], args := [d1, d2, d3, d4] }
  | _ => none }
def PageTellsWrongFalsely : Prop := pageTellsRow.holds Tryd.pinned (OpenSpec.ofChange pageTellsWrong)

/-- 'honeycomblaw5.PageZero': WHATEVER THE INPUT: true; the input reads as it did. -/
def pageZeroSpec : ChangeSpec := { name := "pageZero", fn := fun _ => fun
  | [d1, d2] => { results := [.lit (.bool true)], args := [d1, d2] }
  | _ => none }
def pageZeroRow : OpenClaim := { program := "ytkopgohmocjbbaadoor", sum := "2553ed192613eab8b5404cd759bab789518961d819e229ee2e4af67120aa7f48", func := "honeycomb/honeycomblaw5.PageZero", spec := "pageZero", inPlace := ["internal/abi.NoEscape", "internal/bytealg.MakeNoZero"], named := ["honeycomb/page.names"], apart := false, laid := [("honeycomb/page.names", laid_honeycomb_page_names)] }
def PageZeroSaid : Prop := pageZeroRow.holds Tryd.pinned (OpenSpec.ofChange pageZeroSpec)

/-- ITS FALSE NEIGHBOUR: 'it returns false'. Refute it at one input. -/
def pageZeroWrong : ChangeSpec := { name := "pageZero", fn := fun _ => fun
  | [d1, d2] => { results := [.lit (.bool false)], args := [d1, d2] }
  | _ => none }
def PageZeroWrongFalsely : Prop := pageZeroRow.holds Tryd.pinned (OpenSpec.ofChange pageZeroWrong)

/-- 'honeycomblaw5.PageFields': WHATEVER THE INPUT: true; the input reads as it did. -/
def pageFieldsSpec : ChangeSpec := { name := "pageFields", fn := fun _ => fun
  | [d1, d2, d3, d4, d5] => { results := [.lit (.bool true)], args := [d1, d2, d3, d4, d5] }
  | _ => none }
def pageFieldsRow : OpenClaim := { program := "ytkopgohmocjbbaadoor", sum := "2553ed192613eab8b5404cd759bab789518961d819e229ee2e4af67120aa7f48", func := "honeycomb/honeycomblaw5.PageFields", spec := "pageFields", inPlace := ["internal/abi.NoEscape", "internal/bytealg.MakeNoZero"], named := ["honeycomb/page.names"], apart := false, laid := [("honeycomb/page.names", laid_honeycomb_page_names)] }
def PageFieldsSaid : Prop := pageFieldsRow.holds Tryd.pinned (OpenSpec.ofChange pageFieldsSpec)

/-- ITS FALSE NEIGHBOUR: 'it returns false'. Refute it at one input. -/
def pageFieldsWrong : ChangeSpec := { name := "pageFields", fn := fun _ => fun
  | [d1, d2, d3, d4, d5] => { results := [.lit (.bool false)], args := [d1, d2, d3, d4, d5] }
  | _ => none }
def PageFieldsWrongFalsely : Prop := pageFieldsRow.holds Tryd.pinned (OpenSpec.ofChange pageFieldsWrong)

/-- 'honeycomblaw5.PageNames': WHATEVER THE INPUT: true; the input reads as it did. -/
def pageNamesSpec : ChangeSpec := { name := "pageNames", fn := fun _ => fun
  | [d1, d2] => { results := [.lit (.bool true)], args := [d1, d2] }
  | _ => none }
def pageNamesRow : OpenClaim := { program := "ytkopgohmocjbbaadoor", sum := "2553ed192613eab8b5404cd759bab789518961d819e229ee2e4af67120aa7f48", func := "honeycomb/honeycomblaw5.PageNames", spec := "pageNames", inPlace := ["internal/abi.NoEscape", "internal/bytealg.MakeNoZero"], named := ["honeycomb/page.names"], apart := false, laid := [("honeycomb/page.names", laid_honeycomb_page_names)] }
def PageNamesSaid : Prop := pageNamesRow.holds Tryd.pinned (OpenSpec.ofChange pageNamesSpec)

/-- ITS FALSE NEIGHBOUR: 'it returns false'. Refute it at one input. -/
def pageNamesWrong : ChangeSpec := { name := "pageNames", fn := fun _ => fun
  | [d1, d2] => { results := [.lit (.bool false)], args := [d1, d2] }
  | _ => none }
def PageNamesWrongFalsely : Prop := pageNamesRow.holds Tryd.pinned (OpenSpec.ofChange pageNamesWrong)

/-- 'honeycomblaw5.PageTurned': WHATEVER THE INPUT: true; the input reads as it did. -/
def pageTurnedSpec : ChangeSpec := { name := "pageTurned", fn := fun _ => fun
  | [d1, d2, d3] => { results := [.lit (.bool true)], args := [d1, d2, d3] }
  | _ => none }
def pageTurnedRow : OpenClaim := { program := "ytkopgohmocjbbaadoor", sum := "2553ed192613eab8b5404cd759bab789518961d819e229ee2e4af67120aa7f48", func := "honeycomb/honeycomblaw5.PageTurned", spec := "pageTurned", inPlace := ["internal/abi.NoEscape", "internal/bytealg.MakeNoZero"], named := ["honeycomb/page.names"], apart := false, laid := [("honeycomb/page.names", laid_honeycomb_page_names)] }
def PageTurnedSaid : Prop := pageTurnedRow.holds Tryd.pinned (OpenSpec.ofChange pageTurnedSpec)

/-- ITS FALSE NEIGHBOUR: 'it returns false'. Refute it at one input. -/
def pageTurnedWrong : ChangeSpec := { name := "pageTurned", fn := fun _ => fun
  | [d1, d2, d3] => { results := [.lit (.bool false)], args := [d1, d2, d3] }
  | _ => none }
def PageTurnedWrongFalsely : Prop := pageTurnedRow.holds Tryd.pinned (OpenSpec.ofChange pageTurnedWrong)

/-- 'honeycomblaw5.PageSizes': WHATEVER THE INPUT: true; the input reads as it did. -/
def pageSizesSpec : ChangeSpec := { name := "pageSizes", fn := fun _ => fun
  | [d1, d2] => { results := [.lit (.bool true)], args := [d1, d2] }
  | _ => none }
def pageSizesRow : OpenClaim := { program := "ytkopgohmocjbbaadoor", sum := "2553ed192613eab8b5404cd759bab789518961d819e229ee2e4af67120aa7f48", func := "honeycomb/honeycomblaw5.PageSizes", spec := "pageSizes", inPlace := ["internal/abi.NoEscape", "internal/bytealg.MakeNoZero"], named := ["honeycomb/page.names"], apart := false, laid := [("honeycomb/page.names", laid_honeycomb_page_names)] }
def PageSizesSaid : Prop := pageSizesRow.holds Tryd.pinned (OpenSpec.ofChange pageSizesSpec)

/-- ITS FALSE NEIGHBOUR: 'it returns false'. Refute it at one input. -/
def pageSizesWrong : ChangeSpec := { name := "pageSizes", fn := fun _ => fun
  | [d1, d2] => { results := [.lit (.bool false)], args := [d1, d2] }
  | _ => none }
def PageSizesWrongFalsely : Prop := pageSizesRow.holds Tryd.pinned (OpenSpec.ofChange pageSizesWrong)

/- THE SECOND FORM. 'bulk': how many values and letters a reading holds, each counted each time it is reached (what is shared counts as often as it is met; a slice's spare places count too). A statement '..UptoSaid' is the law's where the arguments, and the package variables that the reading takes, are together of bulk at most 1048576: NARROWER than '..Said'. Prove '..Said' where nothing that the law and all that it calls make is longer than what came in: it says more and counts as full. Else prove '..UptoSaid'. A law counts once. -/
mutual
def uptoBulk {H : Type} : DataW H → Nat
  | .lit (.string bytes) => bytes.length + 1
  | .lit _ => 1
  | .nil => 1
  | .ptr d => uptoBulk d + 1
  | .slice elems spare => uptoBulkAll elems + uptoBulkAll spare + 1
  | .agg parts => uptoBulkAll parts + 1
  | .iface _ d => uptoBulk d + 1
  | .map entries => uptoBulkEntries entries + 1
  | .held _ => 1
def uptoBulkAll {H : Type} : List (DataW H) → Nat
  | [] => 0
  | d :: r => uptoBulk d + uptoBulkAll r
def uptoBulkEntries {H : Type} : List (Lit × DataW H) → Nat
  | [] => 0
  | x :: r => uptoBulkEntry x + uptoBulkEntries r
def uptoBulkEntry {H : Type} : Lit × DataW H → Nat
  | (.string bytes, d) => bytes.length + uptoBulk d + 1
  | (_, d) => uptoBulk d + 1
 end
def uptoSmall : (H : Type) → List (DataW H) → Bool := fun _ ds => decide (uptoBulkAll ds ≤ 1048576)
def OpenSpec.upto (s : _root_.Go.ChangeSpec) : _root_.Go.OpenSpec := { _root_.Go.OpenSpec.ofChange s with cond := some uptoSmall }

/-- 'honeycomblaw5.PageTells', WHERE WHAT IT READS IS OF BULK AT MOST 1048576: true; the input reads as it did. -/
def pageTellsUptoRow : OpenClaim := { program := "ytkopgohmocjbbaadoor", sum := "2553ed192613eab8b5404cd759bab789518961d819e229ee2e4af67120aa7f48", func := "honeycomb/honeycomblaw5.PageTells", spec := "pageTells", inPlace := ["internal/abi.NoEscape", "internal/bytealg.MakeNoZero"], named := ["honeycomb/page.names"], apart := false, laid := [("honeycomb/page.names", laid_honeycomb_page_names)], narrowed := true }
def PageTellsUptoSaid : Prop := pageTellsUptoRow.holds Tryd.pinned (OpenSpec.upto pageTellsSpec)

/-- 'honeycomblaw5.PageZero', WHERE WHAT IT READS IS OF BULK AT MOST 1048576: true; the input reads as it did. -/
def pageZeroUptoRow : OpenClaim := { program := "ytkopgohmocjbbaadoor", sum := "2553ed192613eab8b5404cd759bab789518961d819e229ee2e4af67120aa7f48", func := "honeycomb/honeycomblaw5.PageZero", spec := "pageZero", inPlace := ["internal/abi.NoEscape", "internal/bytealg.MakeNoZero"], named := ["honeycomb/page.names"], apart := false, laid := [("honeycomb/page.names", laid_honeycomb_page_names)], narrowed := true }
def PageZeroUptoSaid : Prop := pageZeroUptoRow.holds Tryd.pinned (OpenSpec.upto pageZeroSpec)

/-- 'honeycomblaw5.PageFields', WHERE WHAT IT READS IS OF BULK AT MOST 1048576: true; the input reads as it did. -/
def pageFieldsUptoRow : OpenClaim := { program := "ytkopgohmocjbbaadoor", sum := "2553ed192613eab8b5404cd759bab789518961d819e229ee2e4af67120aa7f48", func := "honeycomb/honeycomblaw5.PageFields", spec := "pageFields", inPlace := ["internal/abi.NoEscape", "internal/bytealg.MakeNoZero"], named := ["honeycomb/page.names"], apart := false, laid := [("honeycomb/page.names", laid_honeycomb_page_names)], narrowed := true }
def PageFieldsUptoSaid : Prop := pageFieldsUptoRow.holds Tryd.pinned (OpenSpec.upto pageFieldsSpec)

/-- 'honeycomblaw5.PageNames', WHERE WHAT IT READS IS OF BULK AT MOST 1048576: true; the input reads as it did. -/
def pageNamesUptoRow : OpenClaim := { program := "ytkopgohmocjbbaadoor", sum := "2553ed192613eab8b5404cd759bab789518961d819e229ee2e4af67120aa7f48", func := "honeycomb/honeycomblaw5.PageNames", spec := "pageNames", inPlace := ["internal/abi.NoEscape", "internal/bytealg.MakeNoZero"], named := ["honeycomb/page.names"], apart := false, laid := [("honeycomb/page.names", laid_honeycomb_page_names)], narrowed := true }
def PageNamesUptoSaid : Prop := pageNamesUptoRow.holds Tryd.pinned (OpenSpec.upto pageNamesSpec)

/-- 'honeycomblaw5.PageTurned', WHERE WHAT IT READS IS OF BULK AT MOST 1048576: true; the input reads as it did. -/
def pageTurnedUptoRow : OpenClaim := { program := "ytkopgohmocjbbaadoor", sum := "2553ed192613eab8b5404cd759bab789518961d819e229ee2e4af67120aa7f48", func := "honeycomb/honeycomblaw5.PageTurned", spec := "pageTurned", inPlace := ["internal/abi.NoEscape", "internal/bytealg.MakeNoZero"], named := ["honeycomb/page.names"], apart := false, laid := [("honeycomb/page.names", laid_honeycomb_page_names)], narrowed := true }
def PageTurnedUptoSaid : Prop := pageTurnedUptoRow.holds Tryd.pinned (OpenSpec.upto pageTurnedSpec)

/-- 'honeycomblaw5.PageSizes', WHERE WHAT IT READS IS OF BULK AT MOST 1048576: true; the input reads as it did. -/
def pageSizesUptoRow : OpenClaim := { program := "ytkopgohmocjbbaadoor", sum := "2553ed192613eab8b5404cd759bab789518961d819e229ee2e4af67120aa7f48", func := "honeycomb/honeycomblaw5.PageSizes", spec := "pageSizes", inPlace := ["internal/abi.NoEscape", "internal/bytealg.MakeNoZero"], named := ["honeycomb/page.names"], apart := false, laid := [("honeycomb/page.names", laid_honeycomb_page_names)], narrowed := true }
def PageSizesUptoSaid : Prop := pageSizesUptoRow.holds Tryd.pinned (OpenSpec.upto pageSizesSpec)

end Rows
end Go.Proofs.YtkopgohmocjbbaaDoor
