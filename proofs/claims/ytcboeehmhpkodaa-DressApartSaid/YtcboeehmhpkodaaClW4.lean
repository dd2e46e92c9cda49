/- Contracts of layer 3: the document's Drop and Mine; the steps that add each. -/
import Derived.Test.YtcboeehmhpkodaaClW3
namespace Go.Proofs.Ytcboeehmhpkodaa
open Go.RowKit M
end Go.Proofs.Ytcboeehmhpkodaa
