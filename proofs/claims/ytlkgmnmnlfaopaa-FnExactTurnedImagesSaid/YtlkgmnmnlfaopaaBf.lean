import Derived.Test.YtlkgmnmnlfaopaaZj
namespace Go.Proofs.Ytlkgmnmnlfaopaa
open Go.RowKit
set_option maxRecDepth 4000
end Go.Proofs.Ytlkgmnmnlfaopaa
