/- The contracts of an operand's put and of deed's Put. -/
import Derived.Test.YtbdimfcdpkldpaaDoorD7
import Derived.Test.YtbdimfcdpkldpaaDoorLD3
import Derived.Test.YtbdimfcdpkldpaaDoorLM1
import Derived.Test.YtbdimfcdpkldpaaDoorLW1
namespace Go.Proofs.YtbdimfcdpkldpaaDoor
open Go.RowKit
open Wire (wAdd)

theorem byte_wrap (x : Nat) : ((x : Int) % 256) = ((UInt8.ofNat x).toNat : Int) := by
  rw [UInt8.toNat_ofNat']
  simp

theorem drop_len {L pre suf : List UInt8} (h : pre ++ suf = L) : pre.length + suf.length = L.length := by rw [← h, List.length_append]
end Go.Proofs.YtbdimfcdpkldpaaDoor
