/- Plain facts on hexadecimal digits. -/
import Derived.Lib.UnsafeStr
import Derived.RowKit
import Derived.Laws.BitsLemmas
namespace Go.Proofs.YtfcbpegpgmcjhaaDoor
def hexD (k : Nat) : UInt8 := if k < 10 then UInt8.ofNat (48 + k) else UInt8.ofNat (87 + k)
def hexL (l : List UInt8) : List UInt8 := l.flatMap fun c => [hexD (c.toNat / 16), hexD (c.toNat % 16)]
theorem hexL_nil : hexL [] = [] := rfl
theorem hexL_snoc (l : List UInt8) (c : UInt8) : hexL (l ++ [c]) = hexL l ++ [hexD (c.toNat / 16)] ++ [hexD (c.toNat % 16)] := by simp [hexL]
theorem hexL_length (l : List UInt8) : (hexL l).length = 2 * l.length := by induction l with
  | nil => rfl
  | cons c l ih => simp [hexL] at ih ⊢; omega
def hexTab : ByteArray := { data := #[48, 49, 50, 51, 52, 53, 54, 55, 56, 57, 97, 98, 99, 100, 101, 102] }
theorem hexTab_get (k : Nat) (h : k < 16) (h' : k < hexTab.size) : hexTab[k] = hexD k := by
  have : ∀ k : Fin 16, hexTab[k.val]'(by have := k.isLt; exact this) = hexD k.val := by decide
  exact this ⟨k, h⟩
theorem u8_and15' (c : UInt8) : bits .and .u8 (c.toNat : Int) 15 = (c.toNat : Int) % 16 := u8_and15 _ (by omega) (by have := c.toNat_lt; omega)
theorem byte_lt (c : UInt8) : (c.toNat : Int) < 256 := by have := c.toNat_lt; omega
end Go.Proofs.YtfcbpegpgmcjhaaDoor
