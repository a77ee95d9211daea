/-
  No cell of these rows narrows 'for every input' (looked for: loops, veiled, ifaces, maps, wideKeys, modest, calm, conditions, laid).
  DERIVED. THE GIVEN ROWS OF THIS SEAT. 5 by the template 'for every input the law returns true; each argument reads behind the call as it read before'; 0 by the template 'total and deterministic' (their statements: YtojfnafahlpjjaaTotals.lean).
  GIVEN WITH THE SEED: the statements are not yours to turn. If you find one false, say at which input.
  Laid BY PROGRAM, IN A SANDBOX (cutbox-rows.mjs): the forced cells as the released guide's own fill.sh prints them over the translation 5a52ff18d4fdabb1… (all of the seat's roots in one cut). By AI agents, Wed Nov 11 2026. No macro, syntax, notation, axiom, sorry.
-/
import Derived.Test.YtojfnafahlpjjaaChecked
import GoSem.Claim
import GoSem.ClaimJoined
import GoSem.ClaimMapViews
import Derived.JoinedTies
import Derived.KernelRfl
namespace Go.Proofs.Ytojfnafahlpjjaa
/- THE CELL 'sum', in the pinned program and in every row, IS THE sha256 OF THE DUMP (.gsa) THAT YtojfnafahlpjjaaProg.lean LOADS. Nothing in Lean hashes anything: it is a label: what it is worth is what the hold of that sum in a sandbox is worth. -/
noncomputable def Try.pinned : Pinned := { name := "ytojfnafahlpjjaa", sum := "5a52ff18d4fdabb1ffbcafc5638453e52b6b24e443595c2f9f2f4f5aec98c780", checked := Try.checked }
namespace Rows
def none {H : Type} : Left H := { results := [], args := [] }

/-- 'honeycomblaw10.DirPlays': WHATEVER THE INPUT: true; the input reads as it did. -/
def dirPlaysSpec : ChangeSpec := { name := "dirPlays", fn := fun _ => fun
  | [d1, d2, d3, d4] => { results := [.lit (.bool true)], args := [d1, d2, d3, d4] }
  | _ => none }
def dirPlaysRow : OpenClaim := { program := "ytojfnafahlpjjaa", sum := "5a52ff18d4fdabb1ffbcafc5638453e52b6b24e443595c2f9f2f4f5aec98c780", func := "honeycomb/honeycomblaw10.DirPlays", spec := "dirPlays", inPlace := ["internal/abi.NoEscape", "internal/bytealg.MakeNoZero"], unfollowed := true, recurses := true, apart := false }
def DirPlaysSaid : Prop := dirPlaysRow.holds Try.pinned (OpenSpec.ofChange dirPlaysSpec)

/-- ITS FALSE NEIGHBOUR: 'it returns false'. Refute it at one input. -/
def dirPlaysWrong : ChangeSpec := { name := "dirPlays", fn := fun _ => fun
  | [d1, d2, d3, d4] => { results := [.lit (.bool false)], args := [d1, d2, d3, d4] }
  | _ => none }
def DirPlaysWrongFalsely : Prop := dirPlaysRow.holds Try.pinned (OpenSpec.ofChange dirPlaysWrong)

/-- 'honeycomblaw10.DirTurns': WHATEVER THE INPUT: true; the input reads as it did. -/
def dirTurnsSpec : ChangeSpec := { name := "dirTurns", fn := fun _ => fun
  | [d1, d2, d3, d4] => { results := [.lit (.bool true)], args := [d1, d2, d3, d4] }
  | _ => none }
def dirTurnsRow : OpenClaim := { program := "ytojfnafahlpjjaa", sum := "5a52ff18d4fdabb1ffbcafc5638453e52b6b24e443595c2f9f2f4f5aec98c780", func := "honeycomb/honeycomblaw10.DirTurns", spec := "dirTurns", inPlace := ["internal/abi.NoEscape", "internal/bytealg.MakeNoZero"], unfollowed := true, recurses := true, apart := false }
def DirTurnsSaid : Prop := dirTurnsRow.holds Try.pinned (OpenSpec.ofChange dirTurnsSpec)

/-- ITS FALSE NEIGHBOUR: 'it returns false'. Refute it at one input. -/
def dirTurnsWrong : ChangeSpec := { name := "dirTurns", fn := fun _ => fun
  | [d1, d2, d3, d4] => { results := [.lit (.bool false)], args := [d1, d2, d3, d4] }
  | _ => none }
def DirTurnsWrongFalsely : Prop := dirTurnsRow.holds Try.pinned (OpenSpec.ofChange dirTurnsWrong)

/-- 'honeycomblaw10.DirSets': WHATEVER THE INPUT: true; the input reads as it did. -/
def dirSetsSpec : ChangeSpec := { name := "dirSets", fn := fun _ => fun
  | [d1, d2, d3] => { results := [.lit (.bool true)], args := [d1, d2, d3] }
  | _ => none }
def dirSetsRow : OpenClaim := { program := "ytojfnafahlpjjaa", sum := "5a52ff18d4fdabb1ffbcafc5638453e52b6b24e443595c2f9f2f4f5aec98c780", func := "honeycomb/honeycomblaw10.DirSets", spec := "dirSets", inPlace := ["internal/abi.NoEscape", "internal/bytealg.MakeNoZero"], unfollowed := true, recurses := true, apart := false }
def DirSetsSaid : Prop := dirSetsRow.holds Try.pinned (OpenSpec.ofChange dirSetsSpec)

/-- ITS FALSE NEIGHBOUR: 'it returns false'. Refute it at one input. -/
def dirSetsWrong : ChangeSpec := { name := "dirSets", fn := fun _ => fun
  | [d1, d2, d3] => { results := [.lit (.bool false)], args := [d1, d2, d3] }
  | _ => none }
def DirSetsWrongFalsely : Prop := dirSetsRow.holds Try.pinned (OpenSpec.ofChange dirSetsWrong)

/-- 'honeycomblaw10.DirDoubles': WHATEVER THE INPUT: true; the input reads as it did. -/
def dirDoublesSpec : ChangeSpec := { name := "dirDoubles", fn := fun _ => fun
  | [d1, d2] => { results := [.lit (.bool true)], args := [d1, d2] }
  | _ => none }
def dirDoublesRow : OpenClaim := { program := "ytojfnafahlpjjaa", sum := "5a52ff18d4fdabb1ffbcafc5638453e52b6b24e443595c2f9f2f4f5aec98c780", func := "honeycomb/honeycomblaw10.DirDoubles", spec := "dirDoubles", inPlace := ["internal/abi.NoEscape", "internal/bytealg.MakeNoZero"], unfollowed := true, recurses := true, apart := false }
def DirDoublesSaid : Prop := dirDoublesRow.holds Try.pinned (OpenSpec.ofChange dirDoublesSpec)

/-- ITS FALSE NEIGHBOUR: 'it returns false'. Refute it at one input. -/
def dirDoublesWrong : ChangeSpec := { name := "dirDoubles", fn := fun _ => fun
  | [d1, d2] => { results := [.lit (.bool false)], args := [d1, d2] }
  | _ => none }
def DirDoublesWrongFalsely : Prop := dirDoublesRow.holds Try.pinned (OpenSpec.ofChange dirDoublesWrong)

/-- 'honeycomblaw10.DirEdges': WHATEVER THE INPUT: true; the input reads as it did. -/
def dirEdgesSpec : ChangeSpec := { name := "dirEdges", fn := fun _ => fun
  | [d] => { results := [.lit (.bool true)], args := [d] }
  | _ => none }
def dirEdgesRow : OpenClaim := { program := "ytojfnafahlpjjaa", sum := "5a52ff18d4fdabb1ffbcafc5638453e52b6b24e443595c2f9f2f4f5aec98c780", func := "honeycomb/honeycomblaw10.DirEdges", spec := "dirEdges", inPlace := ["internal/abi.NoEscape", "internal/bytealg.MakeNoZero"], unfollowed := true, recurses := true, apart := false }
def DirEdgesSaid : Prop := dirEdgesRow.holds Try.pinned (OpenSpec.ofChange dirEdgesSpec)

/-- ITS FALSE NEIGHBOUR: 'it returns false'. Refute it at one input. -/
def dirEdgesWrong : ChangeSpec := { name := "dirEdges", fn := fun _ => fun
  | [d] => { results := [.lit (.bool false)], args := [d] }
  | _ => none }
def DirEdgesWrongFalsely : Prop := dirEdgesRow.holds Try.pinned (OpenSpec.ofChange dirEdgesWrong)

/- THE SECOND FORM. 'bulk': how many values and letters a reading holds, each counted each time it is reached (what is shared counts as often as it is met; a slice's spare places count too). A statement '..UptoSaid' is the law's where the arguments, and the package variables that the reading takes, are together of bulk at most 1048576: NARROWER than '..Said'. Prove '..Said' where nothing that the law and all that it calls make is longer than what came in: it says more and counts as full. Else prove '..UptoSaid'. A law counts once. -/
mutual
def uptoBulk {H : Type} : DataW H → Nat
  | .lit (.string bytes) => bytes.length + 1
  | .lit _ => 1
  | .nil => 1
  | .ptr d => uptoBulk d + 1
  | .slice elems spare => uptoBulkAll elems + uptoBulkAll spare + 1
  | .agg parts => uptoBulkAll parts + 1
  | .iface _ d => uptoBulk d + 1
  | .map entries => uptoBulkEntries entries + 1
  | .held _ => 1
def uptoBulkAll {H : Type} : List (DataW H) → Nat
  | [] => 0
  | d :: r => uptoBulk d + uptoBulkAll r
def uptoBulkEntries {H : Type} : List (Lit × DataW H) → Nat
  | [] => 0
  | x :: r => uptoBulkEntry x + uptoBulkEntries r
def uptoBulkEntry {H : Type} : Lit × DataW H → Nat
  | (.string bytes, d) => bytes.length + uptoBulk d + 1
  | (_, d) => uptoBulk d + 1
 end
def uptoSmall : (H : Type) → List (DataW H) → Bool := fun _ ds => decide (uptoBulkAll ds ≤ 1048576)
def OpenSpec.upto (s : _root_.Go.ChangeSpec) : _root_.Go.OpenSpec := { _root_.Go.OpenSpec.ofChange s with cond := some uptoSmall }

/-- 'honeycomblaw10.DirPlays', WHERE WHAT IT READS IS OF BULK AT MOST 1048576: true; the input reads as it did. -/
def dirPlaysUptoRow : OpenClaim := { program := "ytojfnafahlpjjaa", sum := "5a52ff18d4fdabb1ffbcafc5638453e52b6b24e443595c2f9f2f4f5aec98c780", func := "honeycomb/honeycomblaw10.DirPlays", spec := "dirPlays", inPlace := ["internal/abi.NoEscape", "internal/bytealg.MakeNoZero"], unfollowed := true, recurses := true, apart := false, narrowed := true }
def DirPlaysUptoSaid : Prop := dirPlaysUptoRow.holds Try.pinned (OpenSpec.upto dirPlaysSpec)

/-- 'honeycomblaw10.DirTurns', WHERE WHAT IT READS IS OF BULK AT MOST 1048576: true; the input reads as it did. -/
def dirTurnsUptoRow : OpenClaim := { program := "ytojfnafahlpjjaa", sum := "5a52ff18d4fdabb1ffbcafc5638453e52b6b24e443595c2f9f2f4f5aec98c780", func := "honeycomb/honeycomblaw10.DirTurns", spec := "dirTurns", inPlace := ["internal/abi.NoEscape", "internal/bytealg.MakeNoZero"], unfollowed := true, recurses := true, apart := false, narrowed := true }
def DirTurnsUptoSaid : Prop := dirTurnsUptoRow.holds Try.pinned (OpenSpec.upto dirTurnsSpec)

/-- 'honeycomblaw10.DirSets', WHERE WHAT IT READS IS OF BULK AT MOST 1048576: true; the input reads as it did. -/
def dirSetsUptoRow : OpenClaim := { program := "ytojfnafahlpjjaa", sum := "5a52ff18d4fdabb1ffbcafc5638453e52b6b24e443595c2f9f2f4f5aec98c780", func := "honeycomb/honeycomblaw10.DirSets", spec := "dirSets", inPlace := ["internal/abi.NoEscape", "internal/bytealg.MakeNoZero"], unfollowed := true, recurses := true, apart := false, narrowed := true }
def DirSetsUptoSaid : Prop := dirSetsUptoRow.holds Try.pinned (OpenSpec.upto dirSetsSpec)

/-- 'honeycomblaw10.DirDoubles', WHERE WHAT IT READS IS OF BULK AT MOST 1048576: true; the input reads as it did. -/
def dirDoublesUptoRow : OpenClaim := { program := "ytojfnafahlpjjaa", sum := "5a52ff18d4fdabb1ffbcafc5638453e52b6b24e443595c2f9f2f4f5aec98c780", func := "honeycomb/honeycomblaw10.DirDoubles", spec := "dirDoubles", inPlace := ["internal/abi.NoEscape", "internal/bytealg.MakeNoZero"], unfollowed := true, recurses := true, apart := false, narrowed := true }
def DirDoublesUptoSaid : Prop := dirDoublesUptoRow.holds Try.pinned (OpenSpec.upto dirDoublesSpec)

/-- 'honeycomblaw10.DirEdges', WHERE WHAT IT READS IS OF BULK AT MOST 1048576: true; the input reads as it did. -/
def dirEdgesUptoRow : OpenClaim := { program := "ytojfnafahlpjjaa", sum := "5a52ff18d4fdabb1ffbcafc5638453e52b6b24e443595c2f9f2f4f5aec98c780", func := "honeycomb/honeycomblaw10.DirEdges", spec := "dirEdges", inPlace := ["internal/abi.NoEscape", "internal/bytealg.MakeNoZero"], unfollowed := true, recurses := true, apart := false, narrowed := true }
def DirEdgesUptoSaid : Prop := dirEdgesUptoRow.holds Try.pinned (OpenSpec.upto dirEdgesSpec)

end Rows
end Go.Proofs.Ytojfnafahlpjjaa
