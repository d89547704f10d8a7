/- The contract of the document's Decode (layer 10), over the loaded program: what it answers is what the program's does; no memory that was there has turned. Conditions: texts of bounded length. -/
import Derived.Test.YtefenejeppmfiaaRd10
namespace Go.Proofs.Ytefenejeppmfiaa
open Go.RowKit

theorem i64_and_nat' (x y : Nat) (hx : x < 65536) (hy : y < 65536) : bits .and .i64 (x : Int) (y : Int) = ((x &&& y : Nat) : Int) := by
  have hlt : x &&& y < 65536 := Nat.lt_of_le_of_lt Nat.and_le_left hx
  show IntKind.i64.wrap ((BitVec.ofInt 64 (x : Int) &&& BitVec.ofInt 64 (y : Int)).toNat : Int) = _
  rw [BitVec.toNat_and, ofInt_u64 x (by omega), ofInt_u64 y (by omega), IntKind.wrap_i64]
  omega

end Go.Proofs.Ytefenejeppmfiaa
