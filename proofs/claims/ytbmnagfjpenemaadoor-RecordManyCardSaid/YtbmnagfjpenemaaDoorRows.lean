/-
  NARROWER THAN 'FOR EVERY INPUT', by the rows' own cells (each row's printed sentence says how): RecordBytes: laid · RecordSizes: laid · RecordNames: laid · RecordTurned: laid · RecordEdges: laid · RecordMany: laid.
  DERIVED. THE GIVEN ROWS OF THIS SEAT. 6 by the template 'for every input the law returns true; each argument reads behind the call as it read before'; 0 by the template 'total and deterministic' (their statements: YtbmnagfjpenemaaDoorTotals.lean).
  GIVEN WITH THE SEED: the statements are not yours to turn. If you find one false, say at which input.
  Laid BY PROGRAM, IN A SANDBOX (cutbox-rows.mjs): the forced cells as the released guide's own fill.sh prints them over the translation 23889187e000beb9… (all of the seat's roots in one cut). By AI agents, Wed Nov 11 2026. No macro, syntax, notation, axiom, sorry.
-/
import Derived.Test.YtbmnagfjpenemaaDoorChecked
import GoSem.Claim
import GoSem.ClaimJoined
import GoSem.ClaimMapViews
import Derived.JoinedTies
import Derived.KernelRfl
namespace Go.Proofs.YtbmnagfjpenemaaDoor
/- THE CELL 'sum', in the pinned program and in every row, IS THE sha256 OF THE DUMP (.gsa) THAT YtbmnagfjpenemaaDoorProg.lean LOADS. Nothing in Lean hashes anything: it is a label: what it is worth is what the hold of that sum in a sandbox is worth. -/
noncomputable def Tryd.pinned : Pinned := { name := "ytbmnagfjpenemaadoor", sum := "23889187e000beb91932aaa2999675696b210aa390584820b146448d2b61df81", checked := Tryd.checked }
namespace Rows
def none {H : Type} : Left H := { results := [], args := [] }

/- WHAT THE LISTED PACKAGE-LEVEL VARIABLES READ AS WHEN THE CALL BEGINS. Each datum BY PROGRAM (the guide's laid-datum.mjs) off the statement by which the dump's own 'gosem.cut.vars' lays the variable. In a bare row this is a premise. The card (YtbmnagfjpenemaaDoorCards.lean) ties it to the program's text. -/
def laid_honeycomb_record_names {H : Type} : DataW H := .agg [.lit (.string []), .lit (.string [117, 112, 100, 97, 116, 101]), .lit (.string [117, 110, 100, 111, 110, 101]), .lit (.string [115, 116, 114, 117, 99, 116]), .lit (.string [99, 111, 109, 109, 105, 116]), .lit (.string [101, 110, 100]), .lit (.string [97, 98, 111, 114, 116]), .lit (.string [99, 104, 101, 99, 107])]

/-- 'honeycomblaw12.RecordBytes': WHATEVER THE INPUT: true; the input reads as it did. -/
def recordBytesSpec : ChangeSpec := { name := "recordBytes", fn := fun _ => fun
  | [d1, d2, d3, d4] => { results := [.lit (.bool true)], args := [d1, d2, d3, d4] }
  | _ => none }
def recordBytesRow : OpenClaim := { program := "ytbmnagfjpenemaadoor", sum := "23889187e000beb91932aaa2999675696b210aa390584820b146448d2b61df81", func := "honeycomb/honeycomblaw12.RecordBytes", spec := "recordBytes", unfollowed := true, recurses := true, named := ["honeycomb/record.names"], apart := false, laid := [("honeycomb/record.names", laid_honeycomb_record_names)] }
def RecordBytesSaid : Prop := recordBytesRow.holds Tryd.pinned (OpenSpec.ofChange recordBytesSpec)

/-- ITS FALSE NEIGHBOUR: 'it returns false'. Refute it at one input. -/
def recordBytesWrong : ChangeSpec := { name := "recordBytes", fn := fun _ => fun
  | [d1, d2, d3, d4] => { results := [.lit (.bool false)], args := [d1, d2, d3, d4] }
  | _ => none }
def RecordBytesWrongFalsely : Prop := recordBytesRow.holds Tryd.pinned (OpenSpec.ofChange recordBytesWrong)

/-- 'honeycomblaw12.RecordSizes': WHATEVER THE INPUT: true; the input reads as it did. -/
def recordSizesSpec : ChangeSpec := { name := "recordSizes", fn := fun _ => fun
  | [d] => { results := [.lit (.bool true)], args := [d] }
  | _ => none }
def recordSizesRow : OpenClaim := { program := "ytbmnagfjpenemaadoor", sum := "23889187e000beb91932aaa2999675696b210aa390584820b146448d2b61df81", func := "honeycomb/honeycomblaw12.RecordSizes", spec := "recordSizes", unfollowed := true, recurses := true, named := ["honeycomb/record.names"], apart := false, laid := [("honeycomb/record.names", laid_honeycomb_record_names)] }
def RecordSizesSaid : Prop := recordSizesRow.holds Tryd.pinned (OpenSpec.ofChange recordSizesSpec)

/-- ITS FALSE NEIGHBOUR: 'it returns false'. Refute it at one input. -/
def recordSizesWrong : ChangeSpec := { name := "recordSizes", fn := fun _ => fun
  | [d] => { results := [.lit (.bool false)], args := [d] }
  | _ => none }
def RecordSizesWrongFalsely : Prop := recordSizesRow.holds Tryd.pinned (OpenSpec.ofChange recordSizesWrong)

/-- 'honeycomblaw12.RecordNames': WHATEVER THE INPUT: true; the input reads as it did. -/
def recordNamesSpec : ChangeSpec := { name := "recordNames", fn := fun _ => fun
  | [d1, d2] => { results := [.lit (.bool true)], args := [d1, d2] }
  | _ => none }
def recordNamesRow : OpenClaim := { program := "ytbmnagfjpenemaadoor", sum := "23889187e000beb91932aaa2999675696b210aa390584820b146448d2b61df81", func := "honeycomb/honeycomblaw12.RecordNames", spec := "recordNames", unfollowed := true, recurses := true, named := ["honeycomb/record.names"], apart := false, laid := [("honeycomb/record.names", laid_honeycomb_record_names)] }
def RecordNamesSaid : Prop := recordNamesRow.holds Tryd.pinned (OpenSpec.ofChange recordNamesSpec)

/-- ITS FALSE NEIGHBOUR: 'it returns false'. Refute it at one input. -/
def recordNamesWrong : ChangeSpec := { name := "recordNames", fn := fun _ => fun
  | [d1, d2] => { results := [.lit (.bool false)], args := [d1, d2] }
  | _ => none }
def RecordNamesWrongFalsely : Prop := recordNamesRow.holds Tryd.pinned (OpenSpec.ofChange recordNamesWrong)

/-- 'honeycomblaw12.RecordTurned': WHATEVER THE INPUT: true; the input reads as it did. -/
def recordTurnedSpec : ChangeSpec := { name := "recordTurned", fn := fun _ => fun
  | [d1, d2, d3] => { results := [.lit (.bool true)], args := [d1, d2, d3] }
  | _ => none }
def recordTurnedRow : OpenClaim := { program := "ytbmnagfjpenemaadoor", sum := "23889187e000beb91932aaa2999675696b210aa390584820b146448d2b61df81", func := "honeycomb/honeycomblaw12.RecordTurned", spec := "recordTurned", unfollowed := true, recurses := true, named := ["honeycomb/record.names"], apart := false, laid := [("honeycomb/record.names", laid_honeycomb_record_names)] }
def RecordTurnedSaid : Prop := recordTurnedRow.holds Tryd.pinned (OpenSpec.ofChange recordTurnedSpec)

/-- ITS FALSE NEIGHBOUR: 'it returns false'. Refute it at one input. -/
def recordTurnedWrong : ChangeSpec := { name := "recordTurned", fn := fun _ => fun
  | [d1, d2, d3] => { results := [.lit (.bool false)], args := [d1, d2, d3] }
  | _ => none }
def RecordTurnedWrongFalsely : Prop := recordTurnedRow.holds Tryd.pinned (OpenSpec.ofChange recordTurnedWrong)

/-- 'honeycomblaw12.RecordEdges': WHATEVER THE INPUT: true; the input reads as it did. -/
def recordEdgesSpec : ChangeSpec := { name := "recordEdges", fn := fun _ => fun
  | [d1, d2] => { results := [.lit (.bool true)], args := [d1, d2] }
  | _ => none }
def recordEdgesRow : OpenClaim := { program := "ytbmnagfjpenemaadoor", sum := "23889187e000beb91932aaa2999675696b210aa390584820b146448d2b61df81", func := "honeycomb/honeycomblaw12.RecordEdges", spec := "recordEdges", unfollowed := true, recurses := true, named := ["honeycomb/record.names"], apart := false, laid := [("honeycomb/record.names", laid_honeycomb_record_names)] }
def RecordEdgesSaid : Prop := recordEdgesRow.holds Tryd.pinned (OpenSpec.ofChange recordEdgesSpec)

/-- ITS FALSE NEIGHBOUR: 'it returns false'. Refute it at one input. -/
def recordEdgesWrong : ChangeSpec := { name := "recordEdges", fn := fun _ => fun
  | [d1, d2] => { results := [.lit (.bool false)], args := [d1, d2] }
  | _ => none }
def RecordEdgesWrongFalsely : Prop := recordEdgesRow.holds Tryd.pinned (OpenSpec.ofChange recordEdgesWrong)

/-- 'honeycomblaw12.RecordMany': WHATEVER THE INPUT: true; the input reads as it did. -/
def recordManySpec : ChangeSpec := { name := "recordMany", fn := fun _ => fun
  | [d1, d2, d3, d4] => { results := [.lit (.bool true)], args := [d1, d2, d3, d4] }
  | _ => none }
def recordManyRow : OpenClaim := { program := "ytbmnagfjpenemaadoor", sum := "23889187e000beb91932aaa2999675696b210aa390584820b146448d2b61df81", func := "honeycomb/honeycomblaw12.RecordMany", spec := "recordMany", unfollowed := true, recurses := true, named := ["honeycomb/record.names"], apart := false, laid := [("honeycomb/record.names", laid_honeycomb_record_names)] }
def RecordManySaid : Prop := recordManyRow.holds Tryd.pinned (OpenSpec.ofChange recordManySpec)

/-- ITS FALSE NEIGHBOUR: 'it returns false'. Refute it at one input. -/
def recordManyWrong : ChangeSpec := { name := "recordMany", fn := fun _ => fun
  | [d1, d2, d3, d4] => { results := [.lit (.bool false)], args := [d1, d2, d3, d4] }
  | _ => none }
def RecordManyWrongFalsely : Prop := recordManyRow.holds Tryd.pinned (OpenSpec.ofChange recordManyWrong)

/- THE SECOND FORM. 'bulk': how many values and letters a reading holds, each counted each time it is reached (what is shared counts as often as it is met; a slice's spare places count too). A statement '..UptoSaid' is the law's where the arguments, and the package variables that the reading takes, are together of bulk at most 1048576: NARROWER than '..Said'. Prove '..Said' where nothing that the law and all that it calls make is longer than what came in: it says more and counts as full. Else prove '..UptoSaid'. A law counts once. -/
mutual
def uptoBulk {H : Type} : DataW H → Nat
  | .lit (.string bytes) => bytes.length + 1
  | .lit _ => 1
  | .nil => 1
  | .ptr d => uptoBulk d + 1
  | .slice elems spare => uptoBulkAll elems + uptoBulkAll spare + 1
  | .agg parts => uptoBulkAll parts + 1
  | .iface _ d => uptoBulk d + 1
  | .map entries => uptoBulkEntries entries + 1
  | .held _ => 1
def uptoBulkAll {H : Type} : List (DataW H) → Nat
  | [] => 0
  | d :: r => uptoBulk d + uptoBulkAll r
def uptoBulkEntries {H : Type} : List (Lit × DataW H) → Nat
  | [] => 0
  | x :: r => uptoBulkEntry x + uptoBulkEntries r
def uptoBulkEntry {H : Type} : Lit × DataW H → Nat
  | (.string bytes, d) => bytes.length + uptoBulk d + 1
  | (_, d) => uptoBulk d + 1
 end
def uptoSmall : (H : Type) → List (DataW H) → Bool := fun _ ds => decide (uptoBulkAll ds ≤ 1048576)
def OpenSpec.upto (s : _root_.Go.ChangeSpec) : _root_.Go.OpenSpec := { _root_.Go.OpenSpec.ofChange s with cond := some uptoSmall }

/-- 'honeycomblaw12.RecordBytes', WHERE WHAT IT READS IS OF BULK AT MOST 1048576: true; the input reads as it did. -/
def recordBytesUptoRow : OpenClaim := { program := "ytbmnagfjpenemaadoor", sum := "23889187e000beb91932aaa2999675696b210aa390584820b146448d2b61df81", func := "honeycomb/honeycomblaw12.RecordBytes", spec := "recordBytes", unfollowed := true, recurses := true, named := ["honeycomb/record.names"], apart := false, laid := [("honeycomb/record.names", laid_honeycomb_record_names)], narrowed := true }
def RecordBytesUptoSaid : Prop := recordBytesUptoRow.holds Tryd.pinned (OpenSpec.upto recordBytesSpec)

/-- 'honeycomblaw12.RecordSizes', WHERE WHAT IT READS IS OF BULK AT MOST 1048576: true; the input reads as it did. -/
def recordSizesUptoRow : OpenClaim := { program := "ytbmnagfjpenemaadoor", sum := "23889187e000beb91932aaa2999675696b210aa390584820b146448d2b61df81", func := "honeycomb/honeycomblaw12.RecordSizes", spec := "recordSizes", unfollowed := true, recurses := true, named := ["honeycomb/record.names"], apart := false, laid := [("honeycomb/record.names", laid_honeycomb_record_names)], narrowed := true }
def RecordSizesUptoSaid : Prop := recordSizesUptoRow.holds Tryd.pinned (OpenSpec.upto recordSizesSpec)

/-- 'honeycomblaw12.RecordNames', WHERE WHAT IT READS IS OF BULK AT MOST 1048576: true; the input reads as it did. -/
def recordNamesUptoRow : OpenClaim := { program := "ytbmnagfjpenemaadoor", sum := "23889187e000beb91932aaa2999675696b210aa390584820b146448d2b61df81", func := "honeycomb/honeycomblaw12.RecordNames", spec := "recordNames", unfollowed := true, recurses := true, named := ["honeycomb/record.names"], apart := false, laid := [("honeycomb/record.names", laid_honeycomb_record_names)], narrowed := true }
def RecordNamesUptoSaid : Prop := recordNamesUptoRow.holds Tryd.pinned (OpenSpec.upto recordNamesSpec)

/-- 'honeycomblaw12.RecordTurned', WHERE WHAT IT READS IS OF BULK AT MOST 1048576: true; the input reads as it did. -/
def recordTurnedUptoRow : OpenClaim := { program := "ytbmnagfjpenemaadoor", sum := "23889187e000beb91932aaa2999675696b210aa390584820b146448d2b61df81", func := "honeycomb/honeycomblaw12.RecordTurned", spec := "recordTurned", unfollowed := true, recurses := true, named := ["honeycomb/record.names"], apart := false, laid := [("honeycomb/record.names", laid_honeycomb_record_names)], narrowed := true }
def RecordTurnedUptoSaid : Prop := recordTurnedUptoRow.holds Tryd.pinned (OpenSpec.upto recordTurnedSpec)

/-- 'honeycomblaw12.RecordEdges', WHERE WHAT IT READS IS OF BULK AT MOST 1048576: true; the input reads as it did. -/
def recordEdgesUptoRow : OpenClaim := { program := "ytbmnagfjpenemaadoor", sum := "23889187e000beb91932aaa2999675696b210aa390584820b146448d2b61df81", func := "honeycomb/honeycomblaw12.RecordEdges", spec := "recordEdges", unfollowed := true, recurses := true, named := ["honeycomb/record.names"], apart := false, laid := [("honeycomb/record.names", laid_honeycomb_record_names)], narrowed := true }
def RecordEdgesUptoSaid : Prop := recordEdgesUptoRow.holds Tryd.pinned (OpenSpec.upto recordEdgesSpec)

/-- 'honeycomblaw12.RecordMany', WHERE WHAT IT READS IS OF BULK AT MOST 1048576: true; the input reads as it did. -/
def recordManyUptoRow : OpenClaim := { program := "ytbmnagfjpenemaadoor", sum := "23889187e000beb91932aaa2999675696b210aa390584820b146448d2b61df81", func := "honeycomb/honeycomblaw12.RecordMany", spec := "recordMany", unfollowed := true, recurses := true, named := ["honeycomb/record.names"], apart := false, laid := [("honeycomb/record.names", laid_honeycomb_record_names)], narrowed := true }
def RecordManyUptoSaid : Prop := recordManyUptoRow.holds Tryd.pinned (OpenSpec.upto recordManySpec)

end Rows
end Go.Proofs.YtbmnagfjpenemaaDoor
