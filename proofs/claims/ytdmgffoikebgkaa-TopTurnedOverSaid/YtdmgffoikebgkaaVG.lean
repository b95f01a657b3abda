/- Designs in boxes. -/
import Derived.Test.YtdmgffoikebgkaaWO
import Derived.Test.YtdmgffoikebgkaaWV
import Derived.Test.YtdmgffoikebgkaaWX
import Derived.KernelRfl
namespace Go.Proofs.Ytdmgffoikebgkaa
open Go.RowKit Go.Shelf

def dObj (n b off c : Nat) (xs : List Nat) : Obj := .cells #[.int .i64 (n : Int), .slice (some ⟨b, off, none⟩) xs.length c] 37
def rObj : Obj := .cells #[.int .i64 0, .slice none 0 0] 37
theorem DBox.new (w : World) (n b off c : Nat) (xs : List Nat) : DBox (w.alloc (dObj n b off c xs)) w.heap.size n b off c xs := by
  unfold dObj; exact ⟨by simp, by simp⟩
end Go.Proofs.Ytdmgffoikebgkaa
