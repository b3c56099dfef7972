/- Walks over EncodeFixed. -/
import Derived.Test.YtcpchdnhhjhpaacDoorEvWalks
import Derived.Test.YtcpchdnhhjhpaacDoorEfPlain
namespace Go.Proofs.YtcpchdnhhjhpaacDoor
set_option linter.unusedVariables false
set_option linter.unusedSimpArgs false
open Go.RowKit

theorem low_step (n i m : Nat) (hm : m = n / 256 ^ i) : Value.string (({ data := #[UInt8.ofNat (m % 256)] } : ByteArray) ++ { data := (lowB n i).toArray }) = Value.string { data := (lowB n (i + 1)).toArray } := by
  subst hm
  have h : (({ data := #[UInt8.ofNat (n / 256 ^ i % 256)] } : ByteArray) ++ { data := (lowB n i).toArray }) = { data := (lowB n (i + 1)).toArray } := by
    apply ByteArray.ext
    simp [lowB]
  rw [h]

theorem one_string (W : World) (c : Int) (h0 : 0 ≤ c) (h1 : c < 256) :
    (convert 59 9 (.slice (some ⟨W.heap.size, 0, none⟩) 1 1)).run Tryd.prog (W.alloc (.cells #[.int .u8 c] 5)) = .ok (.string ⟨#[UInt8.ofNat c.toNat]⟩) (W.alloc (.cells #[.int .u8 c] 5)) := by
  refine run_convert_bytes_back (W.alloc (.cells #[.int .u8 c] 5)) 59 9 5 ⟨W.heap.size, 0, none⟩ 1 [UInt8.ofNat c.toNat] Tryd.underlying59 Tryd.underlying5 Tryd.underlying9 ?_
  intro j hj
  obtain rfl : j = 0 := by simp at hj; exact hj
  obtain ⟨n, rfl⟩ := Int.eq_ofNat_of_zero_le h0
  have hn : n < 256 := by omega
  simp [Addr.add, Nat.mod_eq_of_lt hn]

end Go.Proofs.YtcpchdnhhjhpaacDoor
