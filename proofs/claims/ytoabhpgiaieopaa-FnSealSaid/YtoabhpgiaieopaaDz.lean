/- Walks: a text of noughts made by the call; a number out of a code. -/
import Derived.Test.YtoabhpgiaieopaaDr
import Derived.Test.YtoabhpgiaieopaaJo
set_option maxRecDepth 100000
namespace Go.Proofs.Ytoabhpgiaieopaa
open Go.RowKit

/-- string(make([]byte, n)): the two operations. -/
theorem make_zeros (w : World) (n : Nat) (x : Int) (hx : x = (n : Int)) (hn : n ≤ 1000000) : ∃ (w1 : World) (X : ByteArray),
    (Instr.makeSlice 22 (.int .i64 x) (.int .i64 x)).run Try.prog w = .ok (.slice (some ⟨w.heap.size, 0, none⟩) n n) w1 ∧
    (convert 22 9 (.slice (some ⟨w.heap.size, 0, none⟩) n n)).run Try.prog w1 = .ok (.string X) w1 ∧ X.size = n ∧ Below w.heap.size w w1 := by
  subst hx
  obtain ⟨i0, hi, hz0, hz1, hz2⟩ := info_parts info_u8
  have h := run_make (P := Try.prog) w 22 5 i0 (.int .u8 0) Try.underlying22 hi hz0 .i64 .i64 (n : Int) (n : Int) (by omega) (by omega) (by rw [hz2]; omega) (by omega)
  have hM : (madeCells (Value.int .u8 0).cells (((n : Nat) : Int).toNat * i0.size)).toList = byteCells (List.replicate n 0) := by
    rw [hz1]
    simp only [madeCells, byteCells, List.map_replicate, Array.toList_map, Int.toNat_natCast, Nat.mul_one]
    apply List.ext_getElem
    · simp
    · intro j h1 h2
      simp [Value.cells, Nat.mod_one]
  refine ⟨_, ⟨(List.replicate n (0 : UInt8)).toArray⟩, by simpa using h, ?_, by rw [size_mk]; simp, (Below.refl _ w).alloc (Nat.le_refl _) _⟩
  have h2 := string_row (w.alloc (.cells (madeCells (Value.int .u8 0).cells (((n : Nat) : Int).toNat * i0.size)) 5)) w.heap.size (List.replicate n 0) n _ hM (heap_alloc_new w _)
  rw [List.length_replicate] at h2
  exact h2

set_option maxHeartbeats 400000 in
/-- A number out of a code. -/
theorem lwAt_any (a : Option Addr) (len cap : Nat) (at_ most : Int) (w : World) (hc : CodeAt w w.heap.size a len cap) (h0 : 0 ≤ at_) (h1 : at_ ≤ 1000000) (hm : most ≤ 9223372036854775807) :
    Calls Try.prog 14 #[.slice a len cap, .int .i64 at_, .int .i64 most] w fun e w' => ∃ v : Int, e = .returned (.int .i64 v) ∧ 0 ≤ v ∧ (1 < most → v < most) ∧ (most ≤ 1 → v = 0) ∧ w = w' := by
  have hlen := hc.1
  have hcap := hc.2.1
  unfold maxLen at hcap
  by_cases hm1 : most ≤ 1
  · have hd : decide (most ≤ 1) = true := by simpa using hm1
    go_enter Try.func14, Try.ntmps14
    go_wp2
    go_ret
    exact ⟨0, rfl, by omega, by omega, fun _ => rfl, rfl⟩
  have hd : decide (most ≤ 1) = false := by simpa using hm1
  by_cases hl : len = 0
  · have hd2 : ((len : Int) == 0) = true := by rw [hl]; rfl
    go_enter Try.func14, Try.ntmps14
    go_wp2
    go_ret
    exact ⟨0, rfl, by omega, by omega, fun _ => rfl, rfl⟩
  · have hd2 : ((len : Int) == 0) = false := by simp; omega
    obtain ⟨n, rfl⟩ := Int.eq_ofNat_of_zero_le h0
    obtain ⟨b, o, rfl, hb, hcell⟩ := hc.2.2 (by omega)
    have hlt : n % len < len := Nat.mod_lt _ (by omega)
    obtain ⟨c, hc0, hc1, hcc⟩ := hcell (n % len) hlt
    have hlp : (1 : Int) ≤ (len : Int) := by omega
    have hml : 0 ≤ (n : Int) % (len : Int) ∧ (n : Int) % (len : Int) < (len : Int) := ⟨Int.emod_nonneg _ (by omega), Int.emod_lt_of_pos _ (by omega)⟩
    have hc255 : 0 ≤ c % most ∧ c % most < most := ⟨Int.emod_nonneg _ (by omega), Int.emod_lt_of_pos _ (by omega)⟩
    clear hc hcell
    go_enter Try.func14, Try.ntmps14
    go_wp2
    go_ret
    exact ⟨c % most, rfl, hc255.1, by first | exact hc255.2 | exact fun _ => hc255.2, fun h => by omega, rfl⟩

end Go.Proofs.Ytoabhpgiaieopaa
