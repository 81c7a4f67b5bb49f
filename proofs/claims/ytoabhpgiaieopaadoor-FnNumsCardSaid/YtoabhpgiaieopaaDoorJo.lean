/- Walks: 'joined' (two texts put together by copy) and the library's strings.Clone. -/
import Derived.Test.YtoabhpgiaieopaaDoorBs
import Derived.Lib.BufferWrite
import Derived.Lib.UnsafeStr
import Derived.Lib.Strings
set_option maxRecDepth 100000
namespace Go.Proofs.YtoabhpgiaieopaaDoor
open Go.RowKit

theorem info_u8_size : (Tryd.prog.info? 5).map (·.size) = some 1 := by kernel_rfl

/-- make([]byte, n): a new row of n cells. -/
theorem make_u8 (w : World) (n : Nat) (x : Int) (hx : x = (n : Int)) (hn : n ≤ 281474976710656) : ∃ (M : Array Value) (w1 : World),
    (Instr.makeSlice 22 (.int .i64 x) (.int .i64 x)).run Tryd.prog w = .ok (.slice (some ⟨w.heap.size, 0, none⟩) n n) w1 ∧
      M.size = n ∧ w1.heap[w.heap.size]? = some (.cells M 5 (0, 0)) ∧ Below w.heap.size w w1 := by
  subst hx
  obtain ⟨i0, hi, hz0, hz1, hz2⟩ := info_parts info_u8
  have h := run_make (P := Tryd.prog) w 22 5 i0 (.int .u8 0) Tryd.underlying22 hi hz0 .i64 .i64 (n : Int) (n : Int) (by omega) (by omega) (by rw [hz2]; omega) (by omega)
  refine ⟨madeCells (Value.int .u8 0).cells (((n : Nat) : Int).toNat * i0.size), w.alloc (.cells (madeCells (Value.int .u8 0).cells (((n : Nat) : Int).toNat * i0.size)) 5), ?_, ?_, heap_alloc_new w _, (Below.refl _ w).alloc (Nat.le_refl _) _⟩
  · simpa using h
  · rw [size_madeCells, hz1]; simp

/-- copy(dst, s), a text that fits, behind the first o cells of a row. -/
theorem copy_str (w0 w : World) (g o dLen dCap : Nat) (s : ByteArray) (cur : Array Value) (ty : TypeId)
    (hg : w.heap[g]? = some (.cells cur 5 (0, 0))) (hg0 : w0.heap.size ≤ g) (hle : s.size ≤ dLen) (hfit : o + s.size ≤ cur.size) (hb : Below w0.heap.size w0 w) : ∃ w1 : World,
    (Builtin.copy_ #[22, 9] ty #[.slice (some ⟨g, o, none⟩) dLen dCap, .string s]).run Tryd.prog w = .ok (.int .i64 (s.size : Int)) w1 ∧
      w1.heap[g]? = some (.cells (cur.toList.take o ++ byteCells s.data.toList ++ cur.toList.drop (o + s.size)).toArray 5 (0, 0)) ∧ Below w0.heap.size w0 w1 := by
  refine ⟨_, Lib.run_copy_row_string w 22 9 ty 5 g o dLen dCap s cur 5 Tryd.underlying22 info_u8_size hg hle hfit, setRow_heap _ _ cur _ 5 (0, 0) hg, ?_⟩
  exact ⟨hb.os, hb.tape, hb.output, by simpa using hb.size, fun k hk => (setRow_other _ _ _ _ (by omega)).trans (hb.block k hk)⟩

theorem string_row (w : World) (g : Nat) (bs : List UInt8) (cap : Nat) (c : Array Value) (hc : c.toList = byteCells bs) (hg : w.heap[g]? = some (.cells c 5 (0, 0))) :
    (convert 22 9 (.slice (some ⟨g, 0, none⟩) bs.length cap)).run Tryd.prog w = .ok (.string ⟨bs.toArray⟩) w := by
  rw [run_convert_bytes_arg _ _ _ Tryd.underlying22 Tryd.underlying5 g 0 bs.length cap (bs.map fun b => (b.toNat : Int)) (by simp) (fun i hi => ?_) _ Tryd.underlying9, strOfNums_bytes]
  rw [Nat.zero_add, cell_of_row w g i c 5 (0, 0) hg, ← byteCells_get bs i hi, ← hc]
  simp

theorem bytes_join (a b : ByteArray) : a ++ b = ⟨(a.data.toList ++ b.data.toList).toArray⟩ := by
  apply ByteArray.ext
  simp

/-- The second copy: of what stands behind the first one's bytes. -/
theorem copy_second (w0 w : World) (g n m : Nat) (s : ByteArray) (cur : Array Value) (hg : w.heap[g]? = some (.cells cur 5 (0, 0))) (hg0 : w0.heap.size ≤ g) (hm : m = s.size) (hn : cur.size = n + m) (hb : Below w0.heap.size w0 w) : ∃ (ad : Addr) (w1 : World),
    (Instr.slice 22 (.slice (some ⟨g, 0, none⟩) (n + m) (n + m)) (some (.int .i64 (n : Int))) none none).run Tryd.prog w = .ok (.slice (some ad) m m) w ∧
    (Builtin.copy_ #[22, 9] 3 #[.slice (some ad) m m, .string s]).run Tryd.prog w = .ok (.int .i64 (m : Int)) w1 ∧
      w1.heap[g]? = some (.cells (cur.toList.take n ++ byteCells s.data.toList).toArray 5 (0, 0)) ∧ Below w0.heap.size w0 w1 := by
  have hel : Tryd.prog.elem 22 = 5 := by kernel_rfl
  have hs1 : ∀ W, (sizeOf 5).run Tryd.prog W = .ok 1 W := fun W => by kernel_rfl
  have hsl := run_slice_l (P := Tryd.prog) w 22 (some ⟨g, 0, none⟩) (n + m) (n + m) Tryd.underlying22 .i64 (n : Int) (by omega) (by omega)
  by_cases h0 : m = 0
  · have hz : s.size = 0 := by omega
    have hl : byteCells s.data.toList = [] := List.eq_nil_of_length_eq_zero (by rw [byteCells_length]; simpa using hz)
    refine ⟨⟨g, 0, none⟩, w, ?_, ?_, ?_, hb⟩
    · rw [hsl, hel, hs1]
      subst h0
      simp [Result.andThen, sliced]
    · have := Lib.run_copy_empty_string w 22 9 3 5 (some ⟨g, 0, none⟩) m m s Tryd.underlying22 (by rw [info_u8_size]; rfl) hz
      rw [this, h0]
      rfl
    · rw [hl, List.append_nil, List.take_of_length_le (by rw [Array.length_toList]; omega)]
      exact hg
  · obtain ⟨w1, hc, hg1, hb1⟩ := copy_str w0 w g n m m s cur 3 hg hg0 (by omega) (by omega) hb
    refine ⟨⟨g, n, none⟩, w1, ?_, ?_, ?_, hb1⟩
    · rw [hsl, hel, hs1]
      have e1 : n + m ≠ n := by omega
      have e2 : n + m - n = m := by omega
      have e3 : (⟨g, 0, none⟩ : Addr).add n = ⟨g, n, none⟩ := by unfold Addr.add; split <;> simp_all
      simp [Result.andThen, sliced, h0, e3]
    · rw [hc, hm]
    · rw [hg1, List.drop_of_length_le (by rw [Array.length_toList]; omega), List.append_nil]

set_option maxHeartbeats 1000000 in
theorem joined_any (a b : ByteArray) (w : World) (ha : a.size ≤ 140737488355328) (hb : b.size ≤ 140737488355328) :
    Calls Tryd.prog 27 #[.string a, .string b] w fun e w' => e = .returned (.string (a ++ b)) ∧ Below w.heap.size w w' := by
  have hla : (byteCells a.data.toList).length = a.size := by simp [byteCells_length]
  obtain ⟨M, w1, hmk, hM, hg1, hb1⟩ := make_u8 w (a.size + b.size) ((a.size : Int) + (b.size : Int)) (by omega) (by omega)
  obtain ⟨w2, hcp, hg2, hb2⟩ := copy_str w w1 w.heap.size 0 (a.size + b.size) (a.size + b.size) a M 3 hg1 (Nat.le_refl _) (by omega) (by omega) hb1
  have hsz : (List.take 0 M.toList ++ byteCells a.data.toList ++ List.drop (0 + a.size) M.toList).toArray.size = a.size + b.size := by
    simp [hla, hM]
  obtain ⟨ad, w3, hsl, hcp2, hg3, hb3⟩ := copy_second w w2 w.heap.size a.size b.size b _ hg2 (Nat.le_refl _) rfl hsz hb2
  have hst := string_row w3 w.heap.size (a.data.toList ++ b.data.toList) (a.size + b.size) _ (by
    rw [byteCells_append]
    simp [hla]) hg3
  have hl2 : (a.data.toList ++ b.data.toList).length = a.size + b.size := by simp
  rw [hl2, ← bytes_join] at hst
  have HB := Lib.hid hb3
  clear hg1 hg2 hg3 hb1 hb2 hb3 hsz hla hM hl2
  go_enter Tryd.func27, Tryd.ntmps27
  go_wp2
  go_ret
  exact ⟨rfl, HB.out⟩

set_option maxHeartbeats 1000000 in
theorem cloneLite_any (s : ByteArray) (w : World) (hlim : s.size ≤ 140737488355328) :
    Calls Tryd.prog 38 #[.string s] w fun e w' => e = .returned (.string s) ∧ Below w.heap.size w w' := by
  by_cases h0 : s.size = 0
  · obtain rfl : s = ⟨#[]⟩ := by
      apply ByteArray.ext
      exact Array.eq_empty_of_size_eq_zero h0
    go_enter Tryd.func38, Tryd.ntmps38
    go_wp2
    go_ret
    exact ⟨rfl, Below.refl _ _⟩
  obtain ⟨M, w1, hmk, hM, hg1, hb1⟩ := make_u8 w s.size (s.size : Int) rfl (by omega)
  obtain ⟨w2, hcp, hg2, hb2⟩ := copy_str w w1 w.heap.size 0 s.size s.size s M 3 hg1 (Nat.le_refl _) (Nat.le_refl _) (by omega) hb1
  have hYl : (List.take 0 M.toList ++ byteCells s.data.toList ++ List.drop (0 + s.size) M.toList) = byteCells s.data.toList := by
    rw [List.drop_of_length_le (by rw [Array.length_toList]; omega)]; simp
  rw [hYl] at hg2
  have hsl : s.data.toList.length = s.size := by simp
  have hne : s.data.toList ≠ [] := fun e => h0 (by rw [← hsl, e]; rfl)
  have hUS := Lib.run_unsafeString_row (P := Tryd.prog) w2 90 3 9 5 Tryd.underlying90 (by kernel_rfl) w.heap.size s.size (by
    unfold World.shape?
    rw [hg2]
    simp [byteCells_length]) s.data.toList hne (by omega) (by omega) (fun j x hx => by
      have e : (⟨w.heap.size, 0, none⟩ : Addr).add j = ⟨w.heap.size, j, none⟩ := by unfold Addr.add; split <;> simp_all
      rw [e, cell_of_row w2 w.heap.size j _ 5 (0, 0) hg2]
      simp [byteCells, hx])
  rw [hsl] at hUS
  have HB := Lib.hid (Lib.below_freeze hb2 (p := ⟨w.heap.size, 0, none⟩) (Nat.le_refl _) s.size)
  clear hg1 hg2 hb1 hb2 hYl hsl hM hne
  go_enter Tryd.func38, Tryd.ntmps38
  go_wp2
  go_ret
  exact ⟨rfl, HB.out⟩

set_option maxHeartbeats 400000 in
theorem clone_any (s : ByteArray) (w : World) (hlim : s.size ≤ 140737488355328) :
    Calls Tryd.prog 33 #[.string s] w fun e w' => e = .returned (.string s) ∧ Below w.heap.size w w' := by
  go_enter Tryd.func33, Tryd.ntmps33
  go_wp2_with (go_at_call 38; refine (cloneLite_any _ _ hlim).mono ?_; rintro e w1 ⟨rfl, hb1⟩)
  go_ret
  exact ⟨rfl, hb1⟩

end Go.Proofs.YtoabhpgiaieopaaDoor
