/-
  No cell of these rows narrows 'for every input' (looked for: loops, veiled, ifaces, maps, wideKeys, modest, calm, conditions, laid).
  DERIVED. THE GIVEN ROWS OF THIS SEAT. 5 by the template 'for every input the law returns true; each argument reads behind the call as it read before'; 0 by the template 'total and deterministic' (their statements: YtcecfageijkifaaTotals.lean).
  GIVEN WITH THE SEED: the statements are not yours to turn. If you find one false, say at which input.
  Laid BY PROGRAM, IN A SANDBOX (cutbox-rows.mjs): the forced cells as the released guide's own fill.sh prints them over the translation 328884f37e2ad2b8… (all of the seat's roots in one cut). By AI agents, Wed Nov 11 2026. No macro, syntax, notation, axiom, sorry.
-/
import Derived.Test.YtcecfageijkifaaChecked
import GoSem.Claim
import GoSem.ClaimJoined
import GoSem.ClaimMapViews
import Derived.JoinedTies
import Derived.KernelRfl
namespace Go.Proofs.Ytcecfageijkifaa
/- THE CELL 'sum', in the pinned program and in every row, IS THE sha256 OF THE DUMP (.gsa) THAT YtcecfageijkifaaProg.lean LOADS. Nothing in Lean hashes anything: it is a label: what it is worth is what the hold of that sum in a sandbox is worth. -/
noncomputable def Try.pinned : Pinned := { name := "ytcecfageijkifaa", sum := "328884f37e2ad2b853172e70c588a2a766c5f8a97afc5a23975cb480e97ef370", checked := Try.checked }
namespace Rows
def none {H : Type} : Left H := { results := [], args := [] }

/-- 'honeycomblaw15.PoolOrder': WHATEVER THE INPUT: true; the input reads as it did. -/
def poolOrderSpec : ChangeSpec := { name := "poolOrder", fn := fun _ => fun
  | [d1, d2] => { results := [.lit (.bool true)], args := [d1, d2] }
  | _ => none }
def poolOrderRow : OpenClaim := { program := "ytcecfageijkifaa", sum := "328884f37e2ad2b853172e70c588a2a766c5f8a97afc5a23975cb480e97ef370", func := "honeycomb/honeycomblaw15.PoolOrder", spec := "poolOrder", unfollowed := true, recurses := true, apart := false }
def PoolOrderSaid : Prop := poolOrderRow.holds Try.pinned (OpenSpec.ofChange poolOrderSpec)

/-- ITS FALSE NEIGHBOUR: 'it returns false'. Refute it at one input. -/
def poolOrderWrong : ChangeSpec := { name := "poolOrder", fn := fun _ => fun
  | [d1, d2] => { results := [.lit (.bool false)], args := [d1, d2] }
  | _ => none }
def PoolOrderWrongFalsely : Prop := poolOrderRow.holds Try.pinned (OpenSpec.ofChange poolOrderWrong)

/-- 'honeycomblaw15.PoolKeeps': WHATEVER THE INPUT: true; the input reads as it did. -/
def poolKeepsSpec : ChangeSpec := { name := "poolKeeps", fn := fun _ => fun
  | [d1, d2] => { results := [.lit (.bool true)], args := [d1, d2] }
  | _ => none }
def poolKeepsRow : OpenClaim := { program := "ytcecfageijkifaa", sum := "328884f37e2ad2b853172e70c588a2a766c5f8a97afc5a23975cb480e97ef370", func := "honeycomb/honeycomblaw15.PoolKeeps", spec := "poolKeeps", unfollowed := true, recurses := true, apart := false }
def PoolKeepsSaid : Prop := poolKeepsRow.holds Try.pinned (OpenSpec.ofChange poolKeepsSpec)

/-- ITS FALSE NEIGHBOUR: 'it returns false'. Refute it at one input. -/
def poolKeepsWrong : ChangeSpec := { name := "poolKeeps", fn := fun _ => fun
  | [d1, d2] => { results := [.lit (.bool false)], args := [d1, d2] }
  | _ => none }
def PoolKeepsWrongFalsely : Prop := poolKeepsRow.holds Try.pinned (OpenSpec.ofChange poolKeepsWrong)

/-- 'honeycomblaw15.PoolTwice': WHATEVER THE INPUT: true; the input reads as it did. -/
def poolTwiceSpec : ChangeSpec := { name := "poolTwice", fn := fun _ => fun
  | [d1, d2] => { results := [.lit (.bool true)], args := [d1, d2] }
  | _ => none }
def poolTwiceRow : OpenClaim := { program := "ytcecfageijkifaa", sum := "328884f37e2ad2b853172e70c588a2a766c5f8a97afc5a23975cb480e97ef370", func := "honeycomb/honeycomblaw15.PoolTwice", spec := "poolTwice", unfollowed := true, recurses := true, apart := false }
def PoolTwiceSaid : Prop := poolTwiceRow.holds Try.pinned (OpenSpec.ofChange poolTwiceSpec)

/-- ITS FALSE NEIGHBOUR: 'it returns false'. Refute it at one input. -/
def poolTwiceWrong : ChangeSpec := { name := "poolTwice", fn := fun _ => fun
  | [d1, d2] => { results := [.lit (.bool false)], args := [d1, d2] }
  | _ => none }
def PoolTwiceWrongFalsely : Prop := poolTwiceRow.holds Try.pinned (OpenSpec.ofChange poolTwiceWrong)

/-- 'honeycomblaw15.PoolSince': WHATEVER THE INPUT: true; the input reads as it did. -/
def poolSinceSpec : ChangeSpec := { name := "poolSince", fn := fun _ => fun
  | [d1, d2] => { results := [.lit (.bool true)], args := [d1, d2] }
  | _ => none }
def poolSinceRow : OpenClaim := { program := "ytcecfageijkifaa", sum := "328884f37e2ad2b853172e70c588a2a766c5f8a97afc5a23975cb480e97ef370", func := "honeycomb/honeycomblaw15.PoolSince", spec := "poolSince", unfollowed := true, recurses := true, apart := false }
def PoolSinceSaid : Prop := poolSinceRow.holds Try.pinned (OpenSpec.ofChange poolSinceSpec)

/-- ITS FALSE NEIGHBOUR: 'it returns false'. Refute it at one input. -/
def poolSinceWrong : ChangeSpec := { name := "poolSince", fn := fun _ => fun
  | [d1, d2] => { results := [.lit (.bool false)], args := [d1, d2] }
  | _ => none }
def PoolSinceWrongFalsely : Prop := poolSinceRow.holds Try.pinned (OpenSpec.ofChange poolSinceWrong)

/-- 'honeycomblaw15.PoolFails': WHATEVER THE INPUT: true; the input reads as it did. -/
def poolFailsSpec : ChangeSpec := { name := "poolFails", fn := fun _ => fun
  | [d1, d2] => { results := [.lit (.bool true)], args := [d1, d2] }
  | _ => none }
def poolFailsRow : OpenClaim := { program := "ytcecfageijkifaa", sum := "328884f37e2ad2b853172e70c588a2a766c5f8a97afc5a23975cb480e97ef370", func := "honeycomb/honeycomblaw15.PoolFails", spec := "poolFails", unfollowed := true, recurses := true, apart := false }
def PoolFailsSaid : Prop := poolFailsRow.holds Try.pinned (OpenSpec.ofChange poolFailsSpec)

/-- ITS FALSE NEIGHBOUR: 'it returns false'. Refute it at one input. -/
def poolFailsWrong : ChangeSpec := { name := "poolFails", fn := fun _ => fun
  | [d1, d2] => { results := [.lit (.bool false)], args := [d1, d2] }
  | _ => none }
def PoolFailsWrongFalsely : Prop := poolFailsRow.holds Try.pinned (OpenSpec.ofChange poolFailsWrong)

/- THE SECOND FORM. 'bulk': how many values and letters a reading holds, each counted each time it is reached (what is shared counts as often as it is met; a slice's spare places count too). A statement '..UptoSaid' is the law's where the arguments, and the package variables that the reading takes, are together of bulk at most 1048576: NARROWER than '..Said'. Prove '..Said' where nothing that the law and all that it calls make is longer than what came in: it says more and counts as full. Else prove '..UptoSaid'. A law counts once. -/
mutual
def uptoBulk {H : Type} : DataW H → Nat
  | .lit (.string bytes) => bytes.length + 1
  | .lit _ => 1
  | .nil => 1
  | .ptr d => uptoBulk d + 1
  | .slice elems spare => uptoBulkAll elems + uptoBulkAll spare + 1
  | .agg parts => uptoBulkAll parts + 1
  | .iface _ d => uptoBulk d + 1
  | .map entries => uptoBulkEntries entries + 1
  | .held _ => 1
def uptoBulkAll {H : Type} : List (DataW H) → Nat
  | [] => 0
  | d :: r => uptoBulk d + uptoBulkAll r
def uptoBulkEntries {H : Type} : List (Lit × DataW H) → Nat
  | [] => 0
  | x :: r => uptoBulkEntry x + uptoBulkEntries r
def uptoBulkEntry {H : Type} : Lit × DataW H → Nat
  | (.string bytes, d) => bytes.length + uptoBulk d + 1
  | (_, d) => uptoBulk d + 1
 end
def uptoSmall : (H : Type) → List (DataW H) → Bool := fun _ ds => decide (uptoBulkAll ds ≤ 1048576)
def OpenSpec.upto (s : _root_.Go.ChangeSpec) : _root_.Go.OpenSpec := { _root_.Go.OpenSpec.ofChange s with cond := some uptoSmall }

/-- 'honeycomblaw15.PoolOrder', WHERE WHAT IT READS IS OF BULK AT MOST 1048576: true; the input reads as it did. -/
def poolOrderUptoRow : OpenClaim := { program := "ytcecfageijkifaa", sum := "328884f37e2ad2b853172e70c588a2a766c5f8a97afc5a23975cb480e97ef370", func := "honeycomb/honeycomblaw15.PoolOrder", spec := "poolOrder", unfollowed := true, recurses := true, apart := false, narrowed := true }
def PoolOrderUptoSaid : Prop := poolOrderUptoRow.holds Try.pinned (OpenSpec.upto poolOrderSpec)

/-- 'honeycomblaw15.PoolKeeps', WHERE WHAT IT READS IS OF BULK AT MOST 1048576: true; the input reads as it did. -/
def poolKeepsUptoRow : OpenClaim := { program := "ytcecfageijkifaa", sum := "328884f37e2ad2b853172e70c588a2a766c5f8a97afc5a23975cb480e97ef370", func := "honeycomb/honeycomblaw15.PoolKeeps", spec := "poolKeeps", unfollowed := true, recurses := true, apart := false, narrowed := true }
def PoolKeepsUptoSaid : Prop := poolKeepsUptoRow.holds Try.pinned (OpenSpec.upto poolKeepsSpec)

/-- 'honeycomblaw15.PoolTwice', WHERE WHAT IT READS IS OF BULK AT MOST 1048576: true; the input reads as it did. -/
def poolTwiceUptoRow : OpenClaim := { program := "ytcecfageijkifaa", sum := "328884f37e2ad2b853172e70c588a2a766c5f8a97afc5a23975cb480e97ef370", func := "honeycomb/honeycomblaw15.PoolTwice", spec := "poolTwice", unfollowed := true, recurses := true, apart := false, narrowed := true }
def PoolTwiceUptoSaid : Prop := poolTwiceUptoRow.holds Try.pinned (OpenSpec.upto poolTwiceSpec)

/-- 'honeycomblaw15.PoolSince', WHERE WHAT IT READS IS OF BULK AT MOST 1048576: true; the input reads as it did. -/
def poolSinceUptoRow : OpenClaim := { program := "ytcecfageijkifaa", sum := "328884f37e2ad2b853172e70c588a2a766c5f8a97afc5a23975cb480e97ef370", func := "honeycomb/honeycomblaw15.PoolSince", spec := "poolSince", unfollowed := true, recurses := true, apart := false, narrowed := true }
def PoolSinceUptoSaid : Prop := poolSinceUptoRow.holds Try.pinned (OpenSpec.upto poolSinceSpec)

/-- 'honeycomblaw15.PoolFails', WHERE WHAT IT READS IS OF BULK AT MOST 1048576: true; the input reads as it did. -/
def poolFailsUptoRow : OpenClaim := { program := "ytcecfageijkifaa", sum := "328884f37e2ad2b853172e70c588a2a766c5f8a97afc5a23975cb480e97ef370", func := "honeycomb/honeycomblaw15.PoolFails", spec := "poolFails", unfollowed := true, recurses := true, apart := false, narrowed := true }
def PoolFailsUptoSaid : Prop := poolFailsUptoRow.holds Try.pinned (OpenSpec.upto poolFailsSpec)

end Rows
end Go.Proofs.Ytcecfageijkifaa
