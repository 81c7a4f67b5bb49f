/- Walks of ProgRead: the model's and the program's. -/
import Derived.Test.YtlocglafocnghaaPr
import Derived.Test.YtlocglafocnghaaGb
import Derived.Lib.Strings
import Derived.WalkSpells
set_option maxRecDepth 100000
namespace Go.Proofs.Ytlocglafocnghaa
open Go.RowKit

/-- The word of the eight bytes at a place. -/
def insAtB (s : ByteArray) (i : Nat) : Ins := ⟨leV (bytesAt s i 2), leV (bytesAt s (i + 2) 1), leV (bytesAt s (i + 3) 1), leV (bytesAt s (i + 4) 4)⟩
theorem bytesAt_extract {s : ByteArray} {a b c k : Nat} (h : a + c + k ≤ b) : bytesAt (s.extract a b) c k = bytesAt s (a + c) k := by
  unfold bytesAt
  rw [Lib.extract_data, List.drop_take, List.drop_drop, List.take_take]
  congr 1
  omega
theorem insAtB_extract {s : ByteArray} {a b : Nat} (h : a + 8 ≤ b) : insAtB (s.extract a b) 0 = insAtB s a := by
  unfold insAtB
  rw [bytesAt_extract (by omega), bytesAt_extract (by omega), bytesAt_extract (by omega), bytesAt_extract (by omega)]
  simp only [Nat.zero_add, Nat.add_zero]
theorem extract_size {s : ByteArray} {a b : Nat} (h0 : a ≤ b) (h : b ≤ s.size) : (s.extract a b).size = b - a := by
  rw [ByteArray.size_extract]; omega
theorem leV_one {s : ByteArray} {i : Nat} (h : i < s.size) : leV (bytesAt s i 1) = s[i].toNat := by
  have e : bytesAt s i 1 = [s[i]] := by
    have := bytesAt_next (s := s) (a := i) (k := 0) (by omega)
    simpa [bytesAt] using this
  rw [e]; simp [leV]

set_option maxHeartbeats 400000 in
theorem insnOf_any (s : ByteArray) (w : World) (hs : s.size = 8) : Calls Try.prog 27 #[.string s] w fun e w' =>
    e = .returned (.agg #[.int .i64 (insAtB s 0).c, .int .i64 (insAtB s 0).y, .int .i64 (insAtB s 0).n, .int .i64 (insAtB s 0).k]) ∧ Below w.heap.size w w' := by
  have h0 : 8 ≤ s.size := by omega
  have h1 : s.size ≤ 8 := by omega
  have q1 := fun w => lowNum_any (s.extract 0 2) w (by rw [extract_size (by omega) (by omega)]; omega)
  have q2 := fun w => lowNum_any (s.extract 4 s.size) w (by rw [extract_size (by omega) (by omega)]; omega)
  have e1 : leV (s.extract 0 2).data.toList = (insAtB s 0).c := by rw [Lib.extract_data]; rfl
  have e2 : leV (s.extract 4 s.size).data.toList = (insAtB s 0).k := by rw [Lib.extract_data, hs]; rfl
  have e3 : (s[2]'(by exact Nat.lt_of_lt_of_le (by decide) h0)).toNat = (insAtB s 0).y := (leV_one (s := s) (i := 2) (by omega)).symm
  have e4 : (s[3]'(by exact Nat.lt_of_lt_of_le (by decide) h0)).toNat = (insAtB s 0).n := (leV_one (s := s) (i := 3) (by omega)).symm
  obtain ⟨y0, y1, n0, n1⟩ : 0 ≤ (insAtB s 0).y ∧ (insAtB s 0).y ≤ 255 ∧ 0 ≤ (insAtB s 0).n ∧ (insAtB s 0).n ≤ 255 := by
    rw [← e3, ← e4]
    have a := UInt8.toNat_lt (s[2]'(by exact Nat.lt_of_lt_of_le (by decide) h0))
    have b := UInt8.toNat_lt (s[3]'(by exact Nat.lt_of_lt_of_le (by decide) h0))
    omega
  rw [e1] at q1
  rw [e2] at q2
  have Q1 := Lib.hid q1
  have Q2 := Lib.hid q2
  have HS := Lib.hid hs
  clear q1 q2 e1 e2 hs
  generalize insAtB s 0 = x at *
  obtain ⟨xc, xy, xn, xk⟩ := x
  simp only at e3 e4 y0 y1 n0 n1 Q1 Q2 ⊢
  have b2 : (2 : Int) ≤ (s.size : Int) := by omega
  have b4 : (4 : Int) ≤ (s.size : Int) := by omega
  have i2 : (2 : Int) < (s.size : Int) := by omega
  have i3 : (3 : Int) < (s.size : Int) := by omega
  go_enter Try.func27, Try.ntmps27
  go_wp2
  refine wp_region_still_tail 13 (by kernel_rfl) (by kernel_rfl) ?_
  simp only [List.take_succ_cons, List.take_zero, List.drop_succ_cons, List.drop_zero, World.drew_eq]
  repeat still_step
  still_call ((Q1.out _).mono fun _ _ h => ⟨h.1, h.2.symm⟩)
  repeat still_step
  still_call ((Q2.out _).mono fun _ _ h => ⟨h.1, h.2.symm⟩)
  repeat still_step
  refine wpStill_nil ?_
  go_wp2
  exact bodyPost_ret (v := .agg #[.int .i64 xc, .int .i64 xy, .int .i64 xn, .int .i64 xk]) (by simp [results, Try.results27, go_sem]) rfl ⟨rfl, ((Below.refl _ _).alloc (Nat.le_refl _) _).drew⟩

end Go.Proofs.Ytlocglafocnghaa
