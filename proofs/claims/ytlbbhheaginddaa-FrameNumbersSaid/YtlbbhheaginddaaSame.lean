/-
  The frames' laws: same.
-/
import Derived.Test.YtlbbhheaginddaaOwn
namespace Go.Proofs.Ytlbbhheaginddaa.fr
open Go.RowKit Go.Proofs.Ytlbbhheaginddaa.mem Go.Proofs.Ytlbbhheaginddaa.kit Go.Proofs.Ytlbbhheaginddaa.wire Go.Proofs.Ytlbbhheaginddaa.crc
set_option linter.unusedVariables false

end Go.Proofs.Ytlbbhheaginddaa.fr
