/- Walks over DecodeHex of the model. -/
import Derived.Test.YtfcbpegpgmcjhaaDoorEhWalks
import Derived.Test.YtfcbpegpgmcjhaaDoorDhPlain
namespace Go.Proofs.YtfcbpegpgmcjhaaDoor
open Go.RowKit

def DHpost (R : List UInt8 → Bool → Prop) (w : World) (e : Ending) (w' : World) : Prop := ∃ r b, R r b ∧ e = .returned (.tuple #[.string ⟨r.toArray⟩, .bool b]) ∧ Below w.heap.size w w'

theorem DHpost.mk {R : List UInt8 → Bool → Prop} {w w' : World} (r : List UInt8) (b : Bool) (h : R r b) (hb : Below w.heap.size w w') : DHpost R w (.returned (.tuple #[.string ⟨r.toArray⟩, .bool b])) w' := ⟨r, b, h, rfl, hb⟩

end Go.Proofs.YtfcbpegpgmcjhaaDoor
