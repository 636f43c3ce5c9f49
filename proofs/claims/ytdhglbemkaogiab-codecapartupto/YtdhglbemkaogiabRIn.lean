/- The walks of the reference's reader: Num, Count, Take, Text, Digest, Done. -/
import Derived.Test.YtdhglbemkaogiabRdLs
import Derived.BigQuiet
namespace Go.Proofs.Ytdhglbemkaogiab
open Go.RowKit
end Go.Proofs.Ytdhglbemkaogiab
