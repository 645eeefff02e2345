import Derived.Test.YtjgafakfpcgpjabDoorComp
import Derived.Test.YtjgafakfpcgpjabDoorLots
namespace Go.Proofs.YtjgafakfpcgpjabDoor

theorem lots_ok : lots.all (fun x => (parseT x.1).1 == x.2.1 && (parseT x.1).2.1 == x.2.2) = true := by kernel_rfl
theorem lots_len : lots.length = 63 := by rfl
end Go.Proofs.YtjgafakfpcgpjabDoor
