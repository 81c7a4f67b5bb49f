/- Numbers out of bytes, the lowest first: plain facts; the model's l02Get and l02Put walked. -/
import Derived.Test.YtekmnopgaopmlaaGreatDoorBs
import Derived.Test.YtekmnopgaopmlaaGreatDoorBi
set_option maxRecDepth 100000
namespace Go.Proofs.YtekmnopgaopmlaaGreatDoor
open Go.RowKit

/-- A number's bytes, the lowest first. -/
def leB : Nat → Int → List UInt8
  | 0, _ => []
  | m + 1, n => UInt8.ofNat (n % 256).toNat :: leB m (n / 256)
theorem leB_length : ∀ (m : Nat) (n : Int), (leB m n).length = m
  | 0, _ => rfl
  | m + 1, n => by simp [leB, leB_length m]

set_option maxHeartbeats 800000 in
theorem l02Put_any (n : Int) (m : Nat) (w : World) (h0 : 0 ≤ n) (h1 : n ≤ 9223372036854775807) (hm : m ≤ 4) :
    Calls Tryz.prog 93 #[.int .i64 n, .int .i64 m] w fun e w' => e = .returned (.string ⟨(leB m n).toArray⟩) ∧ Below w.heap.size w w' := by
  go_enter Tryz.func93, Tryz.ntmps93
  go_wp2
  go_loopw [5, 6] (fun v i wr => ∃ (k : Nat) (pre : List UInt8) (x : Int), k ≤ m ∧ i = .int .i64 k ∧ pre.length = k ∧ 0 ≤ x ∧ x = n / 256 ^ k ∧ pre ++ leB (m - k) x = leB m n ∧ OwnB w.heap.size wr v pre ∧ Below w.heap.size w wr) (fun _ i _ => m - (intOf i).toNat)
  case atStart => exact ⟨0, [], n, by omega, rfl, rfl, h0, by simp, by simp, World.ownsRow_lit _ _ _ (Nat.le_refl _) (by unfold maxLen; omega) (by simp), (Below.refl _ _).alloc (Nat.le_refl _) _⟩
  case round =>
    obtain ⟨k, pre, x, hk, rfl, hl, hx0, hx, he, hown, hbw⟩ := hrel
    have HE := Lib.hid he
    have HL := Lib.hid hl
    have HX := Lib.hid hx
    clear he hl hx
    have hsz := hbw.size
    by_cases hlt : k < m
    · have hnext : (pre ++ [UInt8.ofNat (x % 256).toNat]) ++ leB (m - (k + 1)) (x / 256) = leB m n := by
        have := HE.out
        rw [show m - k = (m - (k + 1)) + 1 by omega] at this
        rw [List.append_assoc]
        exact this
      have hnx : x / 256 = n / 256 ^ (k + 1) := by
        rw [HX.out, Int.pow_succ, Int.ediv_ediv_of_nonneg (Int.pow_nonneg (by omega))]
      have hpl : pre.length ≤ 3 := by have := HL.out; omega
      have HN := Lib.hid hnext
      have HX1 := Lib.hid hnx
      clear hnext hnx
      rcases (by omega : k = 0 ∨ k = 1 ∨ k = 2 ∨ k = 3) with rfl | rfl | rfl | rfl
      · have hb8 : bits .and .i64 n 255 % 256 = x % 256 := by
          have := HX.out
          rw [and_255_i64 _ (by omega) (by omega), this]
          omega
        go_wp2_with (at_builtin; refine wpList_push_u8 rfl _ _ rfl _ _ _ _ rfl hown _ (by omega) (by omega) rfl (by omega) hsz ?_; intro v1 w1 hown1 hg1)
        go_roundw
        case rel => exact ⟨1, _, x / 256, by omega, rfl, by simp [HL.out], by omega, HX1.out, HN.out, hown1, hbw.grown hg1 hsz (fun k hk => (hown.lt k hk).1)⟩
        case measure => simp [intOf]; omega
      · have hb8 : bits .and .i64 (n / 256) 255 % 256 = x % 256 := by
          have := HX.out
          rw [and_255_i64 _ (by omega) (by omega), this]
          omega
        go_wp2_with (at_builtin; refine wpList_push_u8 rfl _ _ rfl _ _ _ _ rfl hown _ (by omega) (by omega) rfl (by omega) hsz ?_; intro v1 w1 hown1 hg1)
        go_roundw
        case rel => exact ⟨2, _, x / 256, by omega, rfl, by simp [HL.out], by omega, HX1.out, HN.out, hown1, hbw.grown hg1 hsz (fun k hk => (hown.lt k hk).1)⟩
        case measure => simp [intOf]; omega
      · have hb8 : bits .and .i64 (n / 65536) 255 % 256 = x % 256 := by
          have := HX.out
          rw [and_255_i64 _ (by omega) (by omega), this]
          omega
        go_wp2_with (at_builtin; refine wpList_push_u8 rfl _ _ rfl _ _ _ _ rfl hown _ (by omega) (by omega) rfl (by omega) hsz ?_; intro v1 w1 hown1 hg1)
        go_roundw
        case rel => exact ⟨3, _, x / 256, by omega, rfl, by simp [HL.out], by omega, HX1.out, HN.out, hown1, hbw.grown hg1 hsz (fun k hk => (hown.lt k hk).1)⟩
        case measure => simp [intOf]; omega
      · have hb8 : bits .and .i64 (n / 16777216) 255 % 256 = x % 256 := by
          have := HX.out
          rw [and_255_i64 _ (by omega) (by omega), this]
          omega
        go_wp2_with (at_builtin; refine wpList_push_u8 rfl _ _ rfl _ _ _ _ rfl hown _ (by omega) (by omega) rfl (by omega) hsz ?_; intro v1 w1 hown1 hg1)
        go_roundw
        case rel => exact ⟨4, _, x / 256, by omega, rfl, by simp [HL.out], by omega, HX1.out, HN.out, hown1, hbw.grown hg1 hsz (fun k hk => (hown.lt k hk).1)⟩
        case measure => simp [intOf]; omega
    · have hst := hown.string
      have hfin : pre = leB m n := by
        have := HE.out
        rw [show m - k = 0 by omega] at this
        simpa [leB] using this
      have HF := Lib.hid hfin
      clear hfin
      go_wp2_with fail
      go_ret
      exact ⟨ret_str (by rw [HF.out]), hbw⟩

/-- The number of these bytes, the lowest first. -/
def leV : List UInt8 → Int
  | [] => 0
  | b :: r => b.toNat + 256 * leV r
theorem leV_append : ∀ a b : List UInt8, leV (a ++ b) = leV a + 256 ^ a.length * leV b
  | [], b => by simp [leV]
  | x :: a, b => by
    simp only [List.cons_append, leV, leV_append a b, List.length_cons, Int.pow_succ]
    rw [Int.mul_add, ← Int.mul_assoc, Int.mul_comm 256 (256 ^ a.length)]
    omega
theorem leV_bd : ∀ l : List UInt8, 0 ≤ leV l ∧ leV l < 256 ^ l.length
  | [] => by simp [leV]
  | x :: l => by
    have h := leV_bd l
    have hx := UInt8.toNat_lt x
    simp only [leV, List.length_cons, Int.pow_succ]
    omega
theorem leV_nat (l : List UInt8) : ∃ n : Nat, leV l = (n : Int) ∧ n < 256 ^ l.length := by
  have h := leV_bd l
  obtain ⟨n, hn⟩ := Int.eq_ofNat_of_zero_le h.1
  refine ⟨n, hn, ?_⟩
  have h2 := h.2
  rw [hn] at h2
  exact_mod_cast h2
/-- Bytes of a string from a place on. -/
def bytesAt (s : ByteArray) (a k : Nat) : List UInt8 := (s.data.toList.drop a).take k
theorem toList_len (s : ByteArray) : s.data.toList.length = s.size := by rw [Array.length_toList]; rfl
theorem bytesAt_length {s : ByteArray} {a k : Nat} (h : a + k ≤ s.size) : (bytesAt s a k).length = k := by
  have := toList_len s
  unfold bytesAt
  rw [List.length_take, List.length_drop]
  omega
theorem bytesAt_next {s : ByteArray} {a k : Nat} (h : a + k < s.size) : bytesAt s a (k + 1) = bytesAt s a k ++ [s[a + k]] := by
  have hl := toList_len s
  unfold bytesAt
  rw [List.take_succ_eq_append_getElem (by rw [List.length_drop]; omega)]
  congr 1
  simp [List.getElem_drop]
  rfl
theorem leV_next {s : ByteArray} {a k : Nat} (h : a + k < s.size) : leV (bytesAt s a (k + 1)) = leV (bytesAt s a k) + 256 ^ k * s[a + k].toNat := by
  rw [bytesAt_next h, leV_append, bytesAt_length (by omega)]
  simp [leV]

theorem or_byte_i64 (n c k : Nat) (hk : k ≤ 3) (hn : n < 256 ^ k) (hc : c < 256) : bits .or .i64 (n : Int) ((c : Int) * (256 ^ k : Nat)) = (n : Int) + 256 ^ k * (c : Int) := by
  have h3 : (256 : Nat) ^ k ≤ 256 ^ 3 := Nat.pow_le_pow_right (by omega) hk
  have hm : c * 256 ^ k ≤ 255 * 256 ^ 3 := Nat.mul_le_mul (by omega) h3
  rw [show ((c : Int) * (256 ^ k : Nat)) = ((c * 256 ^ k : Nat) : Int) by simp, or_i64_nat _ _ (by omega) (by omega), or_low k n c hn]
  rw [Nat.mul_comm]
  simp
theorem or_byte_u32 (n c k : Nat) (hk : k ≤ 3) (hn : n < 256 ^ k) (hc : c < 256) : bits .or .u32 (n : Int) ((c : Int) * (256 ^ k : Nat)) = (n : Int) + 256 ^ k * (c : Int) := by
  have h3 : (256 : Nat) ^ k ≤ 256 ^ 3 := Nat.pow_le_pow_right (by omega) hk
  have hm : c * 256 ^ k ≤ 255 * 256 ^ 3 := Nat.mul_le_mul (by omega) h3
  rw [show ((c : Int) * (256 ^ k : Nat)) = ((c * 256 ^ k : Nat) : Int) by simp, or_u32_nat _ _ (by omega) (by omega), or_low k n c hn]
  rw [Nat.mul_comm]
  simp

set_option maxHeartbeats 800000 in
theorem l02Get_any (s : ByteArray) (a m : Nat) (w : World) (hs : s.size ≤ maxLen) (ham : a + m ≤ s.size) (hm : m ≤ 4) :
    Calls Tryz.prog 139 #[.string s, .int .i64 a, .int .i64 m] w fun e w' => e = .returned (.int .i64 (leV (bytesAt s a m))) ∧ w = w' := by
  unfold maxLen at hs
  go_enter Tryz.func139, Tryz.ntmps139
  go_wp2
  go_loop [7, 8] (fun n i => ∃ k : Nat, k ≤ m ∧ i = .int .i64 k ∧ n = .int .i64 (leV (bytesAt s a k))) (fun _ i => m - (intOf i).toNat)
  case atStart => exact ⟨0, by omega, rfl, by simp [bytesAt, leV]⟩
  case round =>
    obtain ⟨k, hk, rfl, rfl⟩ := hrel
    by_cases hlt : k < m
    · obtain ⟨n, hn, hnl⟩ := leV_nat (bytesAt s a k)
      rw [bytesAt_length (by omega)] at hnl
      have hnext := leV_next (s := s) (a := a) (k := k) (by omega)
      rw [hn] at hnext ⊢
      have hbyte := UInt8.toNat_lt (s[a + k]'(by omega))
      have hor := or_byte_i64 n (s[a + k]'(by omega)).toNat k (by omega) hnl hbyte
      rw [← hnext] at hor
      have HOR := Lib.hid hor
      clear hn hnext hor
      rcases (by omega : k = 0 ∨ k = 1 ∨ k = 2 ∨ k = 3) with rfl | rfl | rfl | rfl
      · have hb0 : (s[a]'(by omega)).toNat < 256 := UInt8.toNat_lt _
        go_wp2_with fail
        go_round
        case rel => exact ⟨1, by omega, rfl, congrArg (Value.int .i64) (by have h := HOR.out; simpa using h)⟩
        case measure => simp [intOf]; omega
      · go_wp2_with fail
        go_round
        case rel => exact ⟨2, by omega, rfl, congrArg (Value.int .i64) (by have h := HOR.out; simpa using h)⟩
        case measure => simp [intOf]; omega
      · go_wp2_with fail
        go_round
        case rel => exact ⟨3, by omega, rfl, congrArg (Value.int .i64) (by have h := HOR.out; simpa using h)⟩
        case measure => simp [intOf]; omega
      · go_wp2_with fail
        go_round
        case rel => exact ⟨4, by omega, rfl, congrArg (Value.int .i64) (by have h := HOR.out; simpa using h)⟩
        case measure => simp [intOf]; omega
    · have hkm : k = m := by omega
      subst hkm
      go_wp2_with fail
      go_ret
      exact ⟨rfl, rfl⟩

theorem l02Get_int (s : ByteArray) (z mz : Int) (a m : Nat) (w : World) (hs : s.size ≤ maxLen) (hz : z = a) (hmz : mz = m) (ham : a + m ≤ s.size) (hm : m ≤ 4) :
    Calls Tryz.prog 139 #[.string s, .int .i64 z, .int .i64 mz] w fun e w' => e = .returned (.int .i64 (leV (bytesAt s a m))) ∧ w = w' := by
  subst hz hmz
  exact l02Get_any s a m w hs ham hm

end Go.Proofs.YtekmnopgaopmlaaGreatDoor
