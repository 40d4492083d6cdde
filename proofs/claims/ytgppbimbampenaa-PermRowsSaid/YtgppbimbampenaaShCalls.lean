/- shape: Transpose, At, Same. -/
import Derived.Test.YtgppbimbampenaaShMake
namespace Go.Proofs.Ytgppbimbampenaa
open Go.RowKit Go.Shelf
end Go.Proofs.Ytgppbimbampenaa
