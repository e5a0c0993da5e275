import Derived.Test.YtgblcohgnagpcaaZj
namespace Go.Proofs.Ytgblcohgnagpcaa
open Go.RowKit
set_option maxRecDepth 4000
end Go.Proofs.Ytgblcohgnagpcaa
