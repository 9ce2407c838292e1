/-
  MapWrites: the statement.
-/
import Derived.Test.YtbgpkkbejbidlacWp
import Derived.Test.YtbgpkkbejbidlacWse
namespace Go.Proofs.Ytbgpkkbejbidlac.mapWrites
/-- THE STATEMENT. -/
theorem proved : Rows.MapWritesSaid := over WriteMap_all
end Go.Proofs.Ytbgpkkbejbidlac.mapWrites
