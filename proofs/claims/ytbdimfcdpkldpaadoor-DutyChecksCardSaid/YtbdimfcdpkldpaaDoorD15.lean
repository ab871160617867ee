/- The contract of the reference's Line. -/
import Derived.Test.YtbdimfcdpkldpaaDoorLD2
import Derived.Test.YtbdimfcdpkldpaaDoorLD3
namespace Go.Proofs.YtbdimfcdpkldpaaDoor
open Go.RowKit

theorem data_append (a b : ByteArray) : (a ++ b).data.toList = a.data.toList ++ b.data.toList := by
  have e : ∀ x : ByteArray, x = ⟨x.data.toList.toArray⟩ := fun x => by simp
  rw [e a, e b, mk_append]
theorem app3 (S Z : ByteArray) : (S ++ ByteArray.mk #[32] ++ Z).data.toList = S.data.toList ++ 32 :: Z.data.toList := by
  rw [data_append, data_append, List.append_assoc]; rfl
theorem app3_size (S Z : ByteArray) : (S ++ ByteArray.mk #[32] ++ Z).size = S.size + 1 + Z.size := by
  rw [ByteArray.size_append, ByteArray.size_append]; rfl
theorem app_loose (S : ByteArray) : (S ++ ByteArray.mk #[32, 108, 111, 111, 115, 101]).data.toList = S.data.toList ++ 32 :: looseL := by
  rw [data_append]; rfl

end Go.Proofs.YtbdimfcdpkldpaaDoor
