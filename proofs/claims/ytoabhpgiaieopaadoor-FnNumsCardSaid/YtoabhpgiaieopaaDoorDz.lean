/- Walks: a text of noughts made by the call. -/
import Derived.Test.YtoabhpgiaieopaaDoorDr
import Derived.Test.YtoabhpgiaieopaaDoorJo
set_option maxRecDepth 100000
namespace Go.Proofs.YtoabhpgiaieopaaDoor
open Go.RowKit

/-- string(make([]byte, n)): the two operations. -/
theorem make_zeros (w : World) (n : Nat) (x : Int) (hx : x = (n : Int)) (hn : n ≤ 1000000) : ∃ (w1 : World) (X : ByteArray),
    (Instr.makeSlice 22 (.int .i64 x) (.int .i64 x)).run Tryd.prog w = .ok (.slice (some ⟨w.heap.size, 0, none⟩) n n) w1 ∧
    (convert 22 9 (.slice (some ⟨w.heap.size, 0, none⟩) n n)).run Tryd.prog w1 = .ok (.string X) w1 ∧ X.size = n ∧ Below w.heap.size w w1 := by
  subst hx
  obtain ⟨i0, hi, hz0, hz1, hz2⟩ := info_parts info_u8
  have h := run_make (P := Tryd.prog) w 22 5 i0 (.int .u8 0) Tryd.underlying22 hi hz0 .i64 .i64 (n : Int) (n : Int) (by omega) (by omega) (by rw [hz2]; omega) (by omega)
  have hM : (madeCells (Value.int .u8 0).cells (((n : Nat) : Int).toNat * i0.size)).toList = byteCells (List.replicate n 0) := by
    rw [hz1]
    simp only [madeCells, byteCells, List.map_replicate, Array.toList_map, Int.toNat_natCast, Nat.mul_one]
    apply List.ext_getElem
    · simp
    · intro j h1 h2
      simp [Value.cells, Nat.mod_one]
  refine ⟨_, ⟨(List.replicate n (0 : UInt8)).toArray⟩, by simpa using h, ?_, by rw [size_mk]; simp, (Below.refl _ w).alloc (Nat.le_refl _) _⟩
  have h2 := string_row (w.alloc (.cells (madeCells (Value.int .u8 0).cells (((n : Nat) : Int).toNat * i0.size)) 5)) w.heap.size (List.replicate n 0) n _ hM (heap_alloc_new w _)
  rw [List.length_replicate] at h2
  exact h2

end Go.Proofs.YtoabhpgiaieopaaDoor
