/- be's Reader: is it bad? -/
import Derived.Test.YtlfcjfmfkmcmiabBeRdr
namespace Go.Proofs.Ytlfcjfmfkmcmiab.bec
open Go.RowKit
open Go.Proofs.Ytlfcjfmfkmcmiab.kit
set_option linter.unusedVariables false

end Go.Proofs.Ytlfcjfmfkmcmiab.bec
