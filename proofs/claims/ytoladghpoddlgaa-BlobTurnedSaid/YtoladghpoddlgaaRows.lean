/-
  No cell of these rows narrows 'for every input' (looked for: loops, veiled, ifaces, maps, wideKeys, modest, calm, conditions, laid).
  DERIVED. THE GIVEN ROWS OF THIS SEAT. 5 by the template 'for every input the law returns true; each argument reads behind the call as it read before'; 0 by the template 'total and deterministic' (their statements: YtoladghpoddlgaaTotals.lean).
  GIVEN WITH THE SEED: the statements are not yours to turn. If you find one false, say at which input.
  Laid BY PROGRAM, IN A SANDBOX (cutbox-rows.mjs): the forced cells as the released guide's own fill.sh prints them over the translation e387dabd8c553a5c… (all of the seat's roots in one cut). By AI agents, Wed Nov 11 2026. No macro, syntax, notation, axiom, sorry.
-/
import Derived.Test.YtoladghpoddlgaaChecked
import GoSem.Claim
import GoSem.ClaimJoined
import GoSem.ClaimMapViews
import Derived.JoinedTies
import Derived.KernelRfl
namespace Go.Proofs.Ytoladghpoddlgaa
/- THE CELL 'sum', in the pinned program and in every row, IS THE sha256 OF THE DUMP (.gsa) THAT YtoladghpoddlgaaProg.lean LOADS. Nothing in Lean hashes anything: it is a label: what it is worth is what the hold of that sum in a sandbox is worth. -/
noncomputable def Try.pinned : Pinned := { name := "ytoladghpoddlgaa", sum := "e387dabd8c553a5c89a1398075c3596e678fcfd8fb1156a27f5ea40029b9d810", checked := Try.checked }
namespace Rows
def none {H : Type} : Left H := { results := [], args := [] }

/-- 'honeycomblaw11.BlobTells': WHATEVER THE INPUT: true; the input reads as it did. -/
def blobTellsSpec : ChangeSpec := { name := "blobTells", fn := fun _ => fun
  | [d1, d2, d3, d4] => { results := [.lit (.bool true)], args := [d1, d2, d3, d4] }
  | _ => none }
def blobTellsRow : OpenClaim := { program := "ytoladghpoddlgaa", sum := "e387dabd8c553a5c89a1398075c3596e678fcfd8fb1156a27f5ea40029b9d810", func := "honeycomb/honeycomblaw11.BlobTells", spec := "blobTells", inPlace := ["internal/abi.NoEscape", "internal/bytealg.MakeNoZero"], apart := false }
def BlobTellsSaid : Prop := blobTellsRow.holds Try.pinned (OpenSpec.ofChange blobTellsSpec)

/-- ITS FALSE NEIGHBOUR: 'it returns false'. Refute it at one input. -/
def blobTellsWrong : ChangeSpec := { name := "blobTells", fn := fun _ => fun
  | [d1, d2, d3, d4] => { results := [.lit (.bool false)], args := [d1, d2, d3, d4] }
  | _ => none }
def BlobTellsWrongFalsely : Prop := blobTellsRow.holds Try.pinned (OpenSpec.ofChange blobTellsWrong)

/-- 'honeycomblaw11.BlobSizes': WHATEVER THE INPUT: true; the input reads as it did. -/
def blobSizesSpec : ChangeSpec := { name := "blobSizes", fn := fun _ => fun
  | [d] => { results := [.lit (.bool true)], args := [d] }
  | _ => none }
def blobSizesRow : OpenClaim := { program := "ytoladghpoddlgaa", sum := "e387dabd8c553a5c89a1398075c3596e678fcfd8fb1156a27f5ea40029b9d810", func := "honeycomb/honeycomblaw11.BlobSizes", spec := "blobSizes", inPlace := ["internal/abi.NoEscape", "internal/bytealg.MakeNoZero"], apart := false }
def BlobSizesSaid : Prop := blobSizesRow.holds Try.pinned (OpenSpec.ofChange blobSizesSpec)

/-- ITS FALSE NEIGHBOUR: 'it returns false'. Refute it at one input. -/
def blobSizesWrong : ChangeSpec := { name := "blobSizes", fn := fun _ => fun
  | [d] => { results := [.lit (.bool false)], args := [d] }
  | _ => none }
def BlobSizesWrongFalsely : Prop := blobSizesRow.holds Try.pinned (OpenSpec.ofChange blobSizesWrong)

/-- 'honeycomblaw11.BlobTurned': WHATEVER THE INPUT: true; the input reads as it did. -/
def blobTurnedSpec : ChangeSpec := { name := "blobTurned", fn := fun _ => fun
  | [d1, d2, d3] => { results := [.lit (.bool true)], args := [d1, d2, d3] }
  | _ => none }
def blobTurnedRow : OpenClaim := { program := "ytoladghpoddlgaa", sum := "e387dabd8c553a5c89a1398075c3596e678fcfd8fb1156a27f5ea40029b9d810", func := "honeycomb/honeycomblaw11.BlobTurned", spec := "blobTurned", inPlace := ["internal/abi.NoEscape", "internal/bytealg.MakeNoZero"], apart := false }
def BlobTurnedSaid : Prop := blobTurnedRow.holds Try.pinned (OpenSpec.ofChange blobTurnedSpec)

/-- ITS FALSE NEIGHBOUR: 'it returns false'. Refute it at one input. -/
def blobTurnedWrong : ChangeSpec := { name := "blobTurned", fn := fun _ => fun
  | [d1, d2, d3] => { results := [.lit (.bool false)], args := [d1, d2, d3] }
  | _ => none }
def BlobTurnedWrongFalsely : Prop := blobTurnedRow.holds Try.pinned (OpenSpec.ofChange blobTurnedWrong)

/-- 'honeycomblaw11.BlobPlaces': WHATEVER THE INPUT: true; the input reads as it did. -/
def blobPlacesSpec : ChangeSpec := { name := "blobPlaces", fn := fun _ => fun
  | [d1, d2, d3] => { results := [.lit (.bool true)], args := [d1, d2, d3] }
  | _ => none }
def blobPlacesRow : OpenClaim := { program := "ytoladghpoddlgaa", sum := "e387dabd8c553a5c89a1398075c3596e678fcfd8fb1156a27f5ea40029b9d810", func := "honeycomb/honeycomblaw11.BlobPlaces", spec := "blobPlaces", inPlace := ["internal/abi.NoEscape", "internal/bytealg.MakeNoZero"], unfollowed := true, recurses := true, apart := false }
def BlobPlacesSaid : Prop := blobPlacesRow.holds Try.pinned (OpenSpec.ofChange blobPlacesSpec)

/-- ITS FALSE NEIGHBOUR: 'it returns false'. Refute it at one input. -/
def blobPlacesWrong : ChangeSpec := { name := "blobPlaces", fn := fun _ => fun
  | [d1, d2, d3] => { results := [.lit (.bool false)], args := [d1, d2, d3] }
  | _ => none }
def BlobPlacesWrongFalsely : Prop := blobPlacesRow.holds Try.pinned (OpenSpec.ofChange blobPlacesWrong)

/-- 'honeycomblaw11.BlobOthers': WHATEVER THE INPUT: true; the input reads as it did. -/
def blobOthersSpec : ChangeSpec := { name := "blobOthers", fn := fun _ => fun
  | [d1, d2] => { results := [.lit (.bool true)], args := [d1, d2] }
  | _ => none }
def blobOthersRow : OpenClaim := { program := "ytoladghpoddlgaa", sum := "e387dabd8c553a5c89a1398075c3596e678fcfd8fb1156a27f5ea40029b9d810", func := "honeycomb/honeycomblaw11.BlobOthers", spec := "blobOthers", inPlace := ["internal/abi.NoEscape", "internal/bytealg.MakeNoZero"], apart := false }
def BlobOthersSaid : Prop := blobOthersRow.holds Try.pinned (OpenSpec.ofChange blobOthersSpec)

/-- ITS FALSE NEIGHBOUR: 'it returns false'. Refute it at one input. -/
def blobOthersWrong : ChangeSpec := { name := "blobOthers", fn := fun _ => fun
  | [d1, d2] => { results := [.lit (.bool false)], args := [d1, d2] }
  | _ => none }
def BlobOthersWrongFalsely : Prop := blobOthersRow.holds Try.pinned (OpenSpec.ofChange blobOthersWrong)

/- THE SECOND FORM. 'bulk': how many values and letters a reading holds, each counted each time it is reached (what is shared counts as often as it is met; a slice's spare places count too). A statement '..UptoSaid' is the law's where the arguments, and the package variables that the reading takes, are together of bulk at most 1048576: NARROWER than '..Said'. Prove '..Said' where nothing that the law and all that it calls make is longer than what came in: it says more and counts as full. Else prove '..UptoSaid'. A law counts once. -/
mutual
def uptoBulk {H : Type} : DataW H → Nat
  | .lit (.string bytes) => bytes.length + 1
  | .lit _ => 1
  | .nil => 1
  | .ptr d => uptoBulk d + 1
  | .slice elems spare => uptoBulkAll elems + uptoBulkAll spare + 1
  | .agg parts => uptoBulkAll parts + 1
  | .iface _ d => uptoBulk d + 1
  | .map entries => uptoBulkEntries entries + 1
  | .held _ => 1
def uptoBulkAll {H : Type} : List (DataW H) → Nat
  | [] => 0
  | d :: r => uptoBulk d + uptoBulkAll r
def uptoBulkEntries {H : Type} : List (Lit × DataW H) → Nat
  | [] => 0
  | x :: r => uptoBulkEntry x + uptoBulkEntries r
def uptoBulkEntry {H : Type} : Lit × DataW H → Nat
  | (.string bytes, d) => bytes.length + uptoBulk d + 1
  | (_, d) => uptoBulk d + 1
 end
def uptoSmall : (H : Type) → List (DataW H) → Bool := fun _ ds => decide (uptoBulkAll ds ≤ 1048576)
def OpenSpec.upto (s : _root_.Go.ChangeSpec) : _root_.Go.OpenSpec := { _root_.Go.OpenSpec.ofChange s with cond := some uptoSmall }

/-- 'honeycomblaw11.BlobTells', WHERE WHAT IT READS IS OF BULK AT MOST 1048576: true; the input reads as it did. -/
def blobTellsUptoRow : OpenClaim := { program := "ytoladghpoddlgaa", sum := "e387dabd8c553a5c89a1398075c3596e678fcfd8fb1156a27f5ea40029b9d810", func := "honeycomb/honeycomblaw11.BlobTells", spec := "blobTells", inPlace := ["internal/abi.NoEscape", "internal/bytealg.MakeNoZero"], apart := false, narrowed := true }
def BlobTellsUptoSaid : Prop := blobTellsUptoRow.holds Try.pinned (OpenSpec.upto blobTellsSpec)

/-- 'honeycomblaw11.BlobSizes', WHERE WHAT IT READS IS OF BULK AT MOST 1048576: true; the input reads as it did. -/
def blobSizesUptoRow : OpenClaim := { program := "ytoladghpoddlgaa", sum := "e387dabd8c553a5c89a1398075c3596e678fcfd8fb1156a27f5ea40029b9d810", func := "honeycomb/honeycomblaw11.BlobSizes", spec := "blobSizes", inPlace := ["internal/abi.NoEscape", "internal/bytealg.MakeNoZero"], apart := false, narrowed := true }
def BlobSizesUptoSaid : Prop := blobSizesUptoRow.holds Try.pinned (OpenSpec.upto blobSizesSpec)

/-- 'honeycomblaw11.BlobTurned', WHERE WHAT IT READS IS OF BULK AT MOST 1048576: true; the input reads as it did. -/
def blobTurnedUptoRow : OpenClaim := { program := "ytoladghpoddlgaa", sum := "e387dabd8c553a5c89a1398075c3596e678fcfd8fb1156a27f5ea40029b9d810", func := "honeycomb/honeycomblaw11.BlobTurned", spec := "blobTurned", inPlace := ["internal/abi.NoEscape", "internal/bytealg.MakeNoZero"], apart := false, narrowed := true }
def BlobTurnedUptoSaid : Prop := blobTurnedUptoRow.holds Try.pinned (OpenSpec.upto blobTurnedSpec)

/-- 'honeycomblaw11.BlobPlaces', WHERE WHAT IT READS IS OF BULK AT MOST 1048576: true; the input reads as it did. -/
def blobPlacesUptoRow : OpenClaim := { program := "ytoladghpoddlgaa", sum := "e387dabd8c553a5c89a1398075c3596e678fcfd8fb1156a27f5ea40029b9d810", func := "honeycomb/honeycomblaw11.BlobPlaces", spec := "blobPlaces", inPlace := ["internal/abi.NoEscape", "internal/bytealg.MakeNoZero"], unfollowed := true, recurses := true, apart := false, narrowed := true }
def BlobPlacesUptoSaid : Prop := blobPlacesUptoRow.holds Try.pinned (OpenSpec.upto blobPlacesSpec)

/-- 'honeycomblaw11.BlobOthers', WHERE WHAT IT READS IS OF BULK AT MOST 1048576: true; the input reads as it did. -/
def blobOthersUptoRow : OpenClaim := { program := "ytoladghpoddlgaa", sum := "e387dabd8c553a5c89a1398075c3596e678fcfd8fb1156a27f5ea40029b9d810", func := "honeycomb/honeycomblaw11.BlobOthers", spec := "blobOthers", inPlace := ["internal/abi.NoEscape", "internal/bytealg.MakeNoZero"], apart := false, narrowed := true }
def BlobOthersUptoSaid : Prop := blobOthersUptoRow.holds Try.pinned (OpenSpec.upto blobOthersSpec)

end Rows
end Go.Proofs.Ytoladghpoddlgaa
