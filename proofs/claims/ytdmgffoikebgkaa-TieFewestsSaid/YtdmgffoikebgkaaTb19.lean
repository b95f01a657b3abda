/- The program's head lifts no finals (a text of its own: it takes 8 GB). -/
import Derived.Test.YtdmgffoikebgkaaChecked
import Derived.ProofKit
namespace Go.Proofs.Ytdmgffoikebgkaa
theorem Try.lifts' : Try.prog.liftsFinal = false := by kernel_rfl
end Go.Proofs.Ytdmgffoikebgkaa
