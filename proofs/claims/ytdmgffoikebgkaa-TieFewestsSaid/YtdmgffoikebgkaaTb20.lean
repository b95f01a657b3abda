/- The program's make, as the rows say it (a text of its own: it takes 8 GB). -/
import Derived.Test.YtdmgffoikebgkaaChecked
import Derived.Test.YtdmgffoikebgkaaRows
import Derived.ProofKit
namespace Go.Proofs.Ytdmgffoikebgkaa
theorem Try.made' : Try.prog.make = some Rows.topPunchedRow.make := by kernel_rfl
end Go.Proofs.Ytdmgffoikebgkaa
