/-
  The document's own sums: remainder, Join, Sum, by contract.
-/
import Derived.Test.YtgkbhdecohlpmaaBits
namespace Go.Proofs.Ytgkbhdecohlpmaa
set_option maxRecDepth 100000
open Go.RowKit

theorem neg_bits (x : Nat) (hx : x < 4294967296) : bits .xor .u32 IntKind.u32.max (x : Int) = (Crc.neg x : Nat) := by
  have h := u32_xor_nat 4294967295 x (by omega) hx
  rw [Crc.neg_def, ← h]; rfl

end Go.Proofs.Ytgkbhdecohlpmaa
