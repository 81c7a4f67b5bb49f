/- Numbers out of bytes, the lowest first: plain facts; the model's l02Get and l02Put walked. -/
import Derived.Test.YtmnmaijifhojiaaBs
import Derived.Test.YtmnmaijifhojiaaBi
set_option maxRecDepth 100000
namespace Go.Proofs.Ytmnmaijifhojiaa
open Go.RowKit

/-- A number's bytes, the lowest first. -/
def leB : Nat → Int → List UInt8
  | 0, _ => []
  | m + 1, n => UInt8.ofNat (n % 256).toNat :: leB m (n / 256)
theorem leB_length : ∀ (m : Nat) (n : Int), (leB m n).length = m
  | 0, _ => rfl
  | m + 1, n => by simp [leB, leB_length m]

/-- The number of these bytes, the lowest first. -/
def leV : List UInt8 → Int
  | [] => 0
  | b :: r => b.toNat + 256 * leV r
theorem leV_append : ∀ a b : List UInt8, leV (a ++ b) = leV a + 256 ^ a.length * leV b
  | [], b => by simp [leV]
  | x :: a, b => by
    simp only [List.cons_append, leV, leV_append a b, List.length_cons, Int.pow_succ]
    rw [Int.mul_add, ← Int.mul_assoc, Int.mul_comm 256 (256 ^ a.length)]
    omega
theorem leV_bd : ∀ l : List UInt8, 0 ≤ leV l ∧ leV l < 256 ^ l.length
  | [] => by simp [leV]
  | x :: l => by
    have h := leV_bd l
    have hx := UInt8.toNat_lt x
    simp only [leV, List.length_cons, Int.pow_succ]
    omega
theorem leV_nat (l : List UInt8) : ∃ n : Nat, leV l = (n : Int) ∧ n < 256 ^ l.length := by
  have h := leV_bd l
  obtain ⟨n, hn⟩ := Int.eq_ofNat_of_zero_le h.1
  refine ⟨n, hn, ?_⟩
  have h2 := h.2
  rw [hn] at h2
  exact_mod_cast h2
/-- Bytes of a string from a place on. -/
def bytesAt (s : ByteArray) (a k : Nat) : List UInt8 := (s.data.toList.drop a).take k
theorem toList_len (s : ByteArray) : s.data.toList.length = s.size := by rw [Array.length_toList]; rfl
theorem bytesAt_length {s : ByteArray} {a k : Nat} (h : a + k ≤ s.size) : (bytesAt s a k).length = k := by
  have := toList_len s
  unfold bytesAt
  rw [List.length_take, List.length_drop]
  omega
theorem bytesAt_next {s : ByteArray} {a k : Nat} (h : a + k < s.size) : bytesAt s a (k + 1) = bytesAt s a k ++ [s[a + k]] := by
  have hl := toList_len s
  unfold bytesAt
  rw [List.take_succ_eq_append_getElem (by rw [List.length_drop]; omega)]
  congr 1
  simp [List.getElem_drop]
  rfl
theorem leV_next {s : ByteArray} {a k : Nat} (h : a + k < s.size) : leV (bytesAt s a (k + 1)) = leV (bytesAt s a k) + 256 ^ k * s[a + k].toNat := by
  rw [bytesAt_next h, leV_append, bytesAt_length (by omega)]
  simp [leV]

theorem or_byte_i64 (n c k : Nat) (hk : k ≤ 3) (hn : n < 256 ^ k) (hc : c < 256) : bits .or .i64 (n : Int) ((c : Int) * (256 ^ k : Nat)) = (n : Int) + 256 ^ k * (c : Int) := by
  have h3 : (256 : Nat) ^ k ≤ 256 ^ 3 := Nat.pow_le_pow_right (by omega) hk
  have hm : c * 256 ^ k ≤ 255 * 256 ^ 3 := Nat.mul_le_mul (by omega) h3
  rw [show ((c : Int) * (256 ^ k : Nat)) = ((c * 256 ^ k : Nat) : Int) by simp, or_i64_nat _ _ (by omega) (by omega), or_low k n c hn]
  rw [Nat.mul_comm]
  simp
theorem or_byte_u32 (n c k : Nat) (hk : k ≤ 3) (hn : n < 256 ^ k) (hc : c < 256) : bits .or .u32 (n : Int) ((c : Int) * (256 ^ k : Nat)) = (n : Int) + 256 ^ k * (c : Int) := by
  have h3 : (256 : Nat) ^ k ≤ 256 ^ 3 := Nat.pow_le_pow_right (by omega) hk
  have hm : c * 256 ^ k ≤ 255 * 256 ^ 3 := Nat.mul_le_mul (by omega) h3
  rw [show ((c : Int) * (256 ^ k : Nat)) = ((c * 256 ^ k : Nat) : Int) by simp, or_u32_nat _ _ (by omega) (by omega), or_low k n c hn]
  rw [Nat.mul_comm]
  simp

end Go.Proofs.Ytmnmaijifhojiaa
