/- A block's address. -/
import Derived.Test.YtbdpmfgphhgigaaGreatBkg
namespace Go.Proofs.YtbdpmfgphhgigaaGreat.Bk
open Go.RowKit
abbrev ptr (b : Nat) : Value := .pointer (some ⟨b, 0, none⟩)
end Go.Proofs.YtbdpmfgphhgigaaGreat.Bk
