/- stands for the text of the same name, whose function this seat lacks. -/
import Derived.Test.YtibcfmfihcgijaaDoorPrS4
import Derived.Test.YtibcfmfihcgijaaDoorPrW4
namespace Go.Proofs.YtibcfmfihcgijaaDoor
end Go.Proofs.YtibcfmfihcgijaaDoor
