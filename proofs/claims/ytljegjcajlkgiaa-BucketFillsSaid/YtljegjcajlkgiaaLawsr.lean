/- What the laws share, and the document's own Key, CellRight, CellSize, Fits. -/
import Derived.Test.YtljegjcajlkgiaaLaws
import Derived.Test.YtljegjcajlkgiaaRef
