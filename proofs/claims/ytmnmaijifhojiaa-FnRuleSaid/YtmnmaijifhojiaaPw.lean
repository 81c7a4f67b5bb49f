/- Walks of ProgRead: the model's and the program's. -/
import Derived.Test.YtmnmaijifhojiaaPr
import Derived.Test.YtmnmaijifhojiaaGb
import Derived.Lib.Strings
import Derived.WalkSpells
set_option maxRecDepth 100000
namespace Go.Proofs.Ytmnmaijifhojiaa
open Go.RowKit

/-- The word of the eight bytes at a place. -/
def insAtB (s : ByteArray) (i : Nat) : Ins := ⟨leV (bytesAt s i 2), leV (bytesAt s (i + 2) 1), leV (bytesAt s (i + 3) 1), leV (bytesAt s (i + 4) 4)⟩
theorem bytesAt_extract {s : ByteArray} {a b c k : Nat} (h : a + c + k ≤ b) : bytesAt (s.extract a b) c k = bytesAt s (a + c) k := by
  unfold bytesAt
  rw [Lib.extract_data, List.drop_take, List.drop_drop, List.take_take]
  congr 1
  omega
theorem insAtB_extract {s : ByteArray} {a b : Nat} (h : a + 8 ≤ b) : insAtB (s.extract a b) 0 = insAtB s a := by
  unfold insAtB
  rw [bytesAt_extract (by omega), bytesAt_extract (by omega), bytesAt_extract (by omega), bytesAt_extract (by omega)]
  simp only [Nat.zero_add, Nat.add_zero]
theorem extract_size {s : ByteArray} {a b : Nat} (h0 : a ≤ b) (h : b ≤ s.size) : (s.extract a b).size = b - a := by
  rw [ByteArray.size_extract]; omega
theorem leV_one {s : ByteArray} {i : Nat} (h : i < s.size) : leV (bytesAt s i 1) = s[i].toNat := by
  have e : bytesAt s i 1 = [s[i]] := by
    have := bytesAt_next (s := s) (a := i) (k := 0) (by omega)
    simpa [bytesAt] using this
  rw [e]; simp [leV]

end Go.Proofs.Ytmnmaijifhojiaa
