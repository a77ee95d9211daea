/-
  No cell of these rows narrows 'for every input' (looked for: loops, veiled, ifaces, maps, wideKeys, modest, calm, conditions, laid).
  DERIVED. THE GIVEN ROWS OF THIS SEAT. 7 by the template 'for every input the law returns true; each argument reads behind the call as it read before'; 0 by the template 'total and deterministic' (their statements: YtnjggoeahaglbaaGreatTotals.lean).
  GIVEN WITH THE SEED: the statements are not yours to turn. If you find one false, say at which input.
  Laid BY PROGRAM, IN A SANDBOX (cutbox-rows.mjs): the forced cells as the released guide's own fill.sh prints them over the translation 000e329a97a6ccc3… (all of the seat's roots in one cut). By AI agents, Wed Nov 11 2026. No macro, syntax, notation, axiom, sorry.
-/
import Derived.Test.YtnjggoeahaglbaaGreatChecked
import GoSem.Claim
import GoSem.ClaimJoined
import GoSem.ClaimMapViews
import Derived.JoinedTies
import Derived.KernelRfl
namespace Go.Proofs.YtnjggoeahaglbaaGreat
/- THE CELL 'sum', in the pinned program and in every row, IS THE sha256 OF THE DUMP (.gsa) THAT YtnjggoeahaglbaaGreatProg.lean LOADS. Nothing in Lean hashes anything: it is a label: what it is worth is what the hold of that sum in a sandbox is worth. -/
noncomputable def Tryz.pinned : Pinned := { name := "ytnjggoeahaglbaagreat", sum := "000e329a97a6ccc3988956485b058720d5d8690f65ad79be0fc8fd43f7a01d71", checked := Tryz.checked }
namespace Rows
def none {H : Type} : Left H := { results := [], args := [] }

/-- 'honeycomblaw14.WalPlays': WHATEVER THE INPUT: true; the input reads as it did. -/
def walPlaysSpec : ChangeSpec := { name := "walPlays", fn := fun _ => fun
  | [d1, d2, d3] => { results := [.lit (.bool true)], args := [d1, d2, d3] }
  | _ => none }
def walPlaysRow : OpenClaim := { program := "ytnjggoeahaglbaagreat", sum := "000e329a97a6ccc3988956485b058720d5d8690f65ad79be0fc8fd43f7a01d71", func := "honeycomb/honeycomblaw14.WalPlays", spec := "walPlays", inPlace := ["internal/abi.NoEscape", "internal/bytealg.MakeNoZero"], unfollowed := true, recurses := true, apart := false }
def WalPlaysSaid : Prop := walPlaysRow.holds Tryz.pinned (OpenSpec.ofChange walPlaysSpec)

/-- ITS FALSE NEIGHBOUR: 'it returns false'. Refute it at one input. -/
def walPlaysWrong : ChangeSpec := { name := "walPlays", fn := fun _ => fun
  | [d1, d2, d3] => { results := [.lit (.bool false)], args := [d1, d2, d3] }
  | _ => none }
def WalPlaysWrongFalsely : Prop := walPlaysRow.holds Tryz.pinned (OpenSpec.ofChange walPlaysWrong)

/-- 'honeycomblaw14.WalLasts': WHATEVER THE INPUT: true; the input reads as it did. -/
def walLastsSpec : ChangeSpec := { name := "walLasts", fn := fun _ => fun
  | [d1, d2, d3, d4] => { results := [.lit (.bool true)], args := [d1, d2, d3, d4] }
  | _ => none }
def walLastsRow : OpenClaim := { program := "ytnjggoeahaglbaagreat", sum := "000e329a97a6ccc3988956485b058720d5d8690f65ad79be0fc8fd43f7a01d71", func := "honeycomb/honeycomblaw14.WalLasts", spec := "walLasts", inPlace := ["internal/abi.NoEscape", "internal/bytealg.MakeNoZero"], unfollowed := true, recurses := true, apart := false }
def WalLastsSaid : Prop := walLastsRow.holds Tryz.pinned (OpenSpec.ofChange walLastsSpec)

/-- ITS FALSE NEIGHBOUR: 'it returns false'. Refute it at one input. -/
def walLastsWrong : ChangeSpec := { name := "walLasts", fn := fun _ => fun
  | [d1, d2, d3, d4] => { results := [.lit (.bool false)], args := [d1, d2, d3, d4] }
  | _ => none }
def WalLastsWrongFalsely : Prop := walLastsRow.holds Tryz.pinned (OpenSpec.ofChange walLastsWrong)

/-- 'honeycomblaw14.WalFull': WHATEVER THE INPUT: true; the input reads as it did. -/
def walFullSpec : ChangeSpec := { name := "walFull", fn := fun _ => fun
  | [d1, d2] => { results := [.lit (.bool true)], args := [d1, d2] }
  | _ => none }
def walFullRow : OpenClaim := { program := "ytnjggoeahaglbaagreat", sum := "000e329a97a6ccc3988956485b058720d5d8690f65ad79be0fc8fd43f7a01d71", func := "honeycomb/honeycomblaw14.WalFull", spec := "walFull", inPlace := ["internal/abi.NoEscape", "internal/bytealg.MakeNoZero"], unfollowed := true, recurses := true, apart := false }
def WalFullSaid : Prop := walFullRow.holds Tryz.pinned (OpenSpec.ofChange walFullSpec)

/-- ITS FALSE NEIGHBOUR: 'it returns false'. Refute it at one input. -/
def walFullWrong : ChangeSpec := { name := "walFull", fn := fun _ => fun
  | [d1, d2] => { results := [.lit (.bool false)], args := [d1, d2] }
  | _ => none }
def WalFullWrongFalsely : Prop := walFullRow.holds Tryz.pinned (OpenSpec.ofChange walFullWrong)

/-- 'honeycomblaw14.WalEpochs': WHATEVER THE INPUT: true; the input reads as it did. -/
def walEpochsSpec : ChangeSpec := { name := "walEpochs", fn := fun _ => fun
  | [d1, d2] => { results := [.lit (.bool true)], args := [d1, d2] }
  | _ => none }
def walEpochsRow : OpenClaim := { program := "ytnjggoeahaglbaagreat", sum := "000e329a97a6ccc3988956485b058720d5d8690f65ad79be0fc8fd43f7a01d71", func := "honeycomb/honeycomblaw14.WalEpochs", spec := "walEpochs", inPlace := ["internal/abi.NoEscape", "internal/bytealg.MakeNoZero"], unfollowed := true, recurses := true, apart := false }
def WalEpochsSaid : Prop := walEpochsRow.holds Tryz.pinned (OpenSpec.ofChange walEpochsSpec)

/-- ITS FALSE NEIGHBOUR: 'it returns false'. Refute it at one input. -/
def walEpochsWrong : ChangeSpec := { name := "walEpochs", fn := fun _ => fun
  | [d1, d2] => { results := [.lit (.bool false)], args := [d1, d2] }
  | _ => none }
def WalEpochsWrongFalsely : Prop := walEpochsRow.holds Tryz.pinned (OpenSpec.ofChange walEpochsWrong)

/-- 'honeycomblaw14.WalTo': WHATEVER THE INPUT: true; the input reads as it did. -/
def walToSpec : ChangeSpec := { name := "walTo", fn := fun _ => fun
  | [d1, d2] => { results := [.lit (.bool true)], args := [d1, d2] }
  | _ => none }
def walToRow : OpenClaim := { program := "ytnjggoeahaglbaagreat", sum := "000e329a97a6ccc3988956485b058720d5d8690f65ad79be0fc8fd43f7a01d71", func := "honeycomb/honeycomblaw14.WalTo", spec := "walTo", inPlace := ["internal/abi.NoEscape", "internal/bytealg.MakeNoZero"], unfollowed := true, recurses := true, apart := false }
def WalToSaid : Prop := walToRow.holds Tryz.pinned (OpenSpec.ofChange walToSpec)

/-- ITS FALSE NEIGHBOUR: 'it returns false'. Refute it at one input. -/
def walToWrong : ChangeSpec := { name := "walTo", fn := fun _ => fun
  | [d1, d2] => { results := [.lit (.bool false)], args := [d1, d2] }
  | _ => none }
def WalToWrongFalsely : Prop := walToRow.holds Tryz.pinned (OpenSpec.ofChange walToWrong)

/-- 'honeycomblaw14.WalErrors': WHATEVER THE INPUT: true; the input reads as it did. -/
def walErrorsSpec : ChangeSpec := { name := "walErrors", fn := fun _ => fun
  | [d1, d2, d3] => { results := [.lit (.bool true)], args := [d1, d2, d3] }
  | _ => none }
def walErrorsRow : OpenClaim := { program := "ytnjggoeahaglbaagreat", sum := "000e329a97a6ccc3988956485b058720d5d8690f65ad79be0fc8fd43f7a01d71", func := "honeycomb/honeycomblaw14.WalErrors", spec := "walErrors", inPlace := ["internal/abi.NoEscape", "internal/bytealg.MakeNoZero"], unfollowed := true, recurses := true, apart := false }
def WalErrorsSaid : Prop := walErrorsRow.holds Tryz.pinned (OpenSpec.ofChange walErrorsSpec)

/-- ITS FALSE NEIGHBOUR: 'it returns false'. Refute it at one input. -/
def walErrorsWrong : ChangeSpec := { name := "walErrors", fn := fun _ => fun
  | [d1, d2, d3] => { results := [.lit (.bool false)], args := [d1, d2, d3] }
  | _ => none }
def WalErrorsWrongFalsely : Prop := walErrorsRow.holds Tryz.pinned (OpenSpec.ofChange walErrorsWrong)

/-- 'honeycomblaw14.WalLeft': WHATEVER THE INPUT: true; the input reads as it did. -/
def walLeftSpec : ChangeSpec := { name := "walLeft", fn := fun _ => fun
  | [d] => { results := [.lit (.bool true)], args := [d] }
  | _ => none }
def walLeftRow : OpenClaim := { program := "ytnjggoeahaglbaagreat", sum := "000e329a97a6ccc3988956485b058720d5d8690f65ad79be0fc8fd43f7a01d71", func := "honeycomb/honeycomblaw14.WalLeft", spec := "walLeft", inPlace := ["internal/abi.NoEscape", "internal/bytealg.MakeNoZero"], unfollowed := true, recurses := true, apart := false }
def WalLeftSaid : Prop := walLeftRow.holds Tryz.pinned (OpenSpec.ofChange walLeftSpec)

/-- ITS FALSE NEIGHBOUR: 'it returns false'. Refute it at one input. -/
def walLeftWrong : ChangeSpec := { name := "walLeft", fn := fun _ => fun
  | [d] => { results := [.lit (.bool false)], args := [d] }
  | _ => none }
def WalLeftWrongFalsely : Prop := walLeftRow.holds Tryz.pinned (OpenSpec.ofChange walLeftWrong)

/- THE SECOND FORM. 'bulk': how many values and letters a reading holds, each counted each time it is reached (what is shared counts as often as it is met; a slice's spare places count too). A statement '..UptoSaid' is the law's where the arguments, and the package variables that the reading takes, are together of bulk at most 1048576: NARROWER than '..Said'. Prove '..Said' where nothing that the law and all that it calls make is longer than what came in: it says more and counts as full. Else prove '..UptoSaid'. A law counts once. -/
mutual
def uptoBulk {H : Type} : DataW H → Nat
  | .lit (.string bytes) => bytes.length + 1
  | .lit _ => 1
  | .nil => 1
  | .ptr d => uptoBulk d + 1
  | .slice elems spare => uptoBulkAll elems + uptoBulkAll spare + 1
  | .agg parts => uptoBulkAll parts + 1
  | .iface _ d => uptoBulk d + 1
  | .map entries => uptoBulkEntries entries + 1
  | .held _ => 1
def uptoBulkAll {H : Type} : List (DataW H) → Nat
  | [] => 0
  | d :: r => uptoBulk d + uptoBulkAll r
def uptoBulkEntries {H : Type} : List (Lit × DataW H) → Nat
  | [] => 0
  | x :: r => uptoBulkEntry x + uptoBulkEntries r
def uptoBulkEntry {H : Type} : Lit × DataW H → Nat
  | (.string bytes, d) => bytes.length + uptoBulk d + 1
  | (_, d) => uptoBulk d + 1
 end
def uptoSmall : (H : Type) → List (DataW H) → Bool := fun _ ds => decide (uptoBulkAll ds ≤ 1048576)
def OpenSpec.upto (s : _root_.Go.ChangeSpec) : _root_.Go.OpenSpec := { _root_.Go.OpenSpec.ofChange s with cond := some uptoSmall }

/-- 'honeycomblaw14.WalPlays', WHERE WHAT IT READS IS OF BULK AT MOST 1048576: true; the input reads as it did. -/
def walPlaysUptoRow : OpenClaim := { program := "ytnjggoeahaglbaagreat", sum := "000e329a97a6ccc3988956485b058720d5d8690f65ad79be0fc8fd43f7a01d71", func := "honeycomb/honeycomblaw14.WalPlays", spec := "walPlays", inPlace := ["internal/abi.NoEscape", "internal/bytealg.MakeNoZero"], unfollowed := true, recurses := true, apart := false, narrowed := true }
def WalPlaysUptoSaid : Prop := walPlaysUptoRow.holds Tryz.pinned (OpenSpec.upto walPlaysSpec)

/-- 'honeycomblaw14.WalLasts', WHERE WHAT IT READS IS OF BULK AT MOST 1048576: true; the input reads as it did. -/
def walLastsUptoRow : OpenClaim := { program := "ytnjggoeahaglbaagreat", sum := "000e329a97a6ccc3988956485b058720d5d8690f65ad79be0fc8fd43f7a01d71", func := "honeycomb/honeycomblaw14.WalLasts", spec := "walLasts", inPlace := ["internal/abi.NoEscape", "internal/bytealg.MakeNoZero"], unfollowed := true, recurses := true, apart := false, narrowed := true }
def WalLastsUptoSaid : Prop := walLastsUptoRow.holds Tryz.pinned (OpenSpec.upto walLastsSpec)

/-- 'honeycomblaw14.WalFull', WHERE WHAT IT READS IS OF BULK AT MOST 1048576: true; the input reads as it did. -/
def walFullUptoRow : OpenClaim := { program := "ytnjggoeahaglbaagreat", sum := "000e329a97a6ccc3988956485b058720d5d8690f65ad79be0fc8fd43f7a01d71", func := "honeycomb/honeycomblaw14.WalFull", spec := "walFull", inPlace := ["internal/abi.NoEscape", "internal/bytealg.MakeNoZero"], unfollowed := true, recurses := true, apart := false, narrowed := true }
def WalFullUptoSaid : Prop := walFullUptoRow.holds Tryz.pinned (OpenSpec.upto walFullSpec)

/-- 'honeycomblaw14.WalEpochs', WHERE WHAT IT READS IS OF BULK AT MOST 1048576: true; the input reads as it did. -/
def walEpochsUptoRow : OpenClaim := { program := "ytnjggoeahaglbaagreat", sum := "000e329a97a6ccc3988956485b058720d5d8690f65ad79be0fc8fd43f7a01d71", func := "honeycomb/honeycomblaw14.WalEpochs", spec := "walEpochs", inPlace := ["internal/abi.NoEscape", "internal/bytealg.MakeNoZero"], unfollowed := true, recurses := true, apart := false, narrowed := true }
def WalEpochsUptoSaid : Prop := walEpochsUptoRow.holds Tryz.pinned (OpenSpec.upto walEpochsSpec)

/-- 'honeycomblaw14.WalTo', WHERE WHAT IT READS IS OF BULK AT MOST 1048576: true; the input reads as it did. -/
def walToUptoRow : OpenClaim := { program := "ytnjggoeahaglbaagreat", sum := "000e329a97a6ccc3988956485b058720d5d8690f65ad79be0fc8fd43f7a01d71", func := "honeycomb/honeycomblaw14.WalTo", spec := "walTo", inPlace := ["internal/abi.NoEscape", "internal/bytealg.MakeNoZero"], unfollowed := true, recurses := true, apart := false, narrowed := true }
def WalToUptoSaid : Prop := walToUptoRow.holds Tryz.pinned (OpenSpec.upto walToSpec)

/-- 'honeycomblaw14.WalErrors', WHERE WHAT IT READS IS OF BULK AT MOST 1048576: true; the input reads as it did. -/
def walErrorsUptoRow : OpenClaim := { program := "ytnjggoeahaglbaagreat", sum := "000e329a97a6ccc3988956485b058720d5d8690f65ad79be0fc8fd43f7a01d71", func := "honeycomb/honeycomblaw14.WalErrors", spec := "walErrors", inPlace := ["internal/abi.NoEscape", "internal/bytealg.MakeNoZero"], unfollowed := true, recurses := true, apart := false, narrowed := true }
def WalErrorsUptoSaid : Prop := walErrorsUptoRow.holds Tryz.pinned (OpenSpec.upto walErrorsSpec)

/-- 'honeycomblaw14.WalLeft', WHERE WHAT IT READS IS OF BULK AT MOST 1048576: true; the input reads as it did. -/
def walLeftUptoRow : OpenClaim := { program := "ytnjggoeahaglbaagreat", sum := "000e329a97a6ccc3988956485b058720d5d8690f65ad79be0fc8fd43f7a01d71", func := "honeycomb/honeycomblaw14.WalLeft", spec := "walLeft", inPlace := ["internal/abi.NoEscape", "internal/bytealg.MakeNoZero"], unfollowed := true, recurses := true, apart := false, narrowed := true }
def WalLeftUptoSaid : Prop := walLeftUptoRow.holds Tryz.pinned (OpenSpec.upto walLeftSpec)

end Rows
end Go.Proofs.YtnjggoeahaglbaaGreat
