import Derived.Test.YtldiemjlpnachabDoorPn
/- Parted. -/
namespace Go.Proofs.YtldiemjlpnachabDoor
open Go.RowKit

/-- PARTED, at every pattern and every text. -/
theorem parted_any (w : World) (p t : ByteArray) (hn : NamesIn w) (ht : Tb w) (hp : p.size ≤ maxLen) (hts : t.size ≤ maxLen) :
    Calls Tryd.prog 4 #[.string p, .string t] w fun e w' => e = .returned (.bool true) ∧ Below w.heap.size w w' := by
  by_cases h4 : 4000 < t.size
  · exact parted_bad w p t hn ht hp hts (.inl h4)
  · by_cases hok : (parseT p.data.toList).1 = 0
    · exact parted_good w p t hn ht hp h4 hok
    · exact parted_bad w p t hn ht hp hts (.inr hok)
end Go.Proofs.YtldiemjlpnachabDoor
