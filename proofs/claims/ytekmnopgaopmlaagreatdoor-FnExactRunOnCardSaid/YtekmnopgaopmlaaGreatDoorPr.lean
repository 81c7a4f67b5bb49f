/- Walks of ProgRead's parts: numbers out of bytes, the lowest first. -/
import Derived.Test.YtekmnopgaopmlaaGreatDoorPb
import Derived.StillTailTactics
import Derived.Deep.Draws
set_option maxRecDepth 100000
namespace Go.Proofs.YtekmnopgaopmlaaGreatDoor
open Go.RowKit

set_option maxHeartbeats 800000 in
theorem lowNum_any (s : ByteArray) (w : World) (hs : s.size ≤ 4) :
    Calls Tryz.prog 141 #[.string s] w fun e w' => e = .returned (.int .i64 (leV s.data.toList)) ∧ w = w' := by
  have hfin : bytesAt s 0 s.size = s.data.toList := by unfold bytesAt; rw [List.drop_zero, List.take_of_length_le (by rw [toList_len]; exact Nat.le_refl _)]
  rw [← hfin]
  have HF := Lib.hid hfin
  clear hfin
  go_enter Tryz.func141, Tryz.ntmps141
  go_wp2
  go_loop [3, 4, 7] (fun n _ i => ∃ k : Nat, k ≤ s.size ∧ i = .int .i64 k ∧ n = .int .u32 (leV (bytesAt s 0 k))) (fun _ _ i => s.size - (intOf i).toNat)
  case atStart => exact ⟨0, by omega, rfl, by simp [bytesAt, leV]⟩
  case round =>
    obtain ⟨k, hk, rfl, rfl⟩ := hrel
    by_cases hlt : k < s.size
    · obtain ⟨n, hn, hnl⟩ := leV_nat (bytesAt s 0 k)
      rw [bytesAt_length (by omega)] at hnl
      have hnext := leV_next (s := s) (a := 0) (k := k) (by omega)
      rw [hn] at hnext ⊢
      have hbyte := UInt8.toNat_lt (s[0 + k]'(by omega))
      have hor := or_byte_u32 n (s[0 + k]'(by omega)).toNat k (by omega) hnl hbyte
      rw [← hnext] at hor
      simp only [Nat.zero_add] at hor hbyte
      have HOR := Lib.hid hor
      clear hn hnext hor
      rcases (by omega : k = 0 ∨ k = 1 ∨ k = 2 ∨ k = 3) with rfl | rfl | rfl | rfl
      · go_wp2_with fail
        go_round
        case rel => exact ⟨1, by omega, rfl, congrArg (Value.int .u32) (by have h := HOR.out; simpa using h)⟩
        case measure => simp [intOf]; omega
      · go_wp2_with fail
        go_round
        case rel => exact ⟨2, by omega, rfl, congrArg (Value.int .u32) (by have h := HOR.out; simpa using h)⟩
        case measure => simp [intOf]; omega
      · go_wp2_with fail
        go_round
        case rel => exact ⟨3, by omega, rfl, congrArg (Value.int .u32) (by have h := HOR.out; simpa using h)⟩
        case measure => simp [intOf]; omega
      · go_wp2_with fail
        go_round
        case rel => exact ⟨4, by omega, rfl, congrArg (Value.int .u32) (by have h := HOR.out; simpa using h)⟩
        case measure => simp [intOf]; omega
    · have hkm : k = s.size := by omega
      subst hkm
      have hb := leV_bd (bytesAt s 0 s.size)
      rw [bytesAt_length (by omega)] at hb
      have hb2 : (256 : Int) ^ s.size ≤ 4294967296 := by
        rcases (by omega : s.size = 0 ∨ s.size = 1 ∨ s.size = 2 ∨ s.size = 3 ∨ s.size = 4) with h | h | h | h | h <;> rw [h] <;> decide
      obtain ⟨hb0, hb1⟩ : 0 ≤ leV (bytesAt s 0 s.size) ∧ leV (bytesAt s 0 s.size) ≤ 4294967295 := ⟨hb.1, by have := hb.2; omega⟩
      clear hb hb2
      obtain ⟨x, hx⟩ : ∃ x, x = leV (bytesAt s 0 s.size) := ⟨_, rfl⟩
      rw [← hx] at hb0 hb1 ⊢
      have HX := Lib.hid hx
      clear hx
      go_wp2_with fail
      go_ret
      exact ⟨ret_int HX.out, rfl⟩

end Go.Proofs.YtekmnopgaopmlaaGreatDoor
