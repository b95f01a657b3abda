/- The program's head says that it may be entered (a text of its own: it takes 8 GB). -/
import Derived.Test.YtdmgffoikebgkaaChecked
import Derived.ProofKit
namespace Go.Proofs.Ytdmgffoikebgkaa
theorem Try.enters' : Try.prog.mayEnter = true := by kernel_rfl
end Go.Proofs.Ytdmgffoikebgkaa
