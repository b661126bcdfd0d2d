/- What the walks of draws lean on. -/
import Derived.Test.YtahkneghmgmnbaaYm
import Derived.Test.YtahkneghmgmnbaaLsz
namespace Go.Proofs.Ytahkneghmgmnbaa
end Go.Proofs.Ytahkneghmgmnbaa
