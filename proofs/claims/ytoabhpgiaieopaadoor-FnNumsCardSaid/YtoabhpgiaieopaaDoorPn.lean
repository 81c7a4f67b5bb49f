/- Walks: PutNum in the model and in the program, both against one plain function. -/
import Derived.Test.YtoabhpgiaieopaaDoorBs
import Derived.Test.YtoabhpgiaieopaaDoorBt
set_option maxRecDepth 100000
namespace Go.Proofs.YtoabhpgiaieopaaDoor
open Go.RowKit

/-- The number without its sign. -/
def foldN (n : Int) : Int := if n < 0 then -2 * n - 1 else 2 * n
theorem foldN_bd (n : Int) (h0 : -9223372036854775808 ≤ n) (h1 : n ≤ 9223372036854775807) : 0 ≤ foldN n ∧ foldN n ≤ 18446744073709551615 := by
  unfold foldN; split <;> omega
theorem foldN_neg {n : Int} (h : n < 0) : foldN n = -2 * n - 1 := by unfold foldN; rw [if_pos h]
theorem foldN_pos {n : Int} (h : ¬ n < 0) : foldN n = 2 * n := by unfold foldN; rw [if_neg h]

/-- Its bytes, of at most 'f' and one more. -/
def numB : Nat → Int → List UInt8
  | 0, u => [UInt8.ofNat u.toNat]
  | f + 1, u => if u < 128 then [UInt8.ofNat u.toNat] else UInt8.ofNat (u % 128 + 128).toNat :: numB f (u / 128)
def putN (n : Int) : List UInt8 := numB 9 (foldN n)
theorem numB_last (f : Nat) {u : Int} (h : u < 128) : numB f u = [UInt8.ofNat u.toNat] := by cases f <;> simp [numB, h]
theorem numB_more {f : Nat} {u : Int} (h : ¬ u < 128) : numB (f + 1) u = UInt8.ofNat (u % 128 + 128).toNat :: numB f (u / 128) := by simp [numB, h]
theorem numB_length : ∀ (f : Nat) (u : Int), (numB f u).length ≤ f + 1
  | 0, _ => by simp [numB]
  | f + 1, u => by
    unfold numB
    split
    · simp
    · have := numB_length f (u / 128); simp; omega
/-- How large a number may be yet, behind k of its bytes. -/
def fits (k : Nat) (u : Int) : Prop := 0 ≤ u ∧ u * 128 ^ k ≤ 18446744073709551615
theorem fits_step {k : Nat} {u : Int} (h : fits k u) (hu : ¬ u < 128) : fits (k + 1) (u / 128) ∧ k < 9 := by
  obtain ⟨h0, h1⟩ := h
  have e : (128 : Int) ^ (k + 1) = 128 ^ k * 128 := Int.pow_succ _ _
  have hp : (0 : Int) < 128 ^ k := Int.pow_pos (by omega)
  have hm : u / 128 * 128 ≤ u := by omega
  have h2 : u / 128 * 128 * 128 ^ k ≤ u * 128 ^ k := Int.mul_le_mul_of_nonneg_right hm (by omega)
  refine ⟨⟨by omega, ?_⟩, ?_⟩
  · rw [e, show u / 128 * (128 ^ k * 128) = u / 128 * 128 * 128 ^ k by rw [Int.mul_assoc, Int.mul_comm (128 ^ k) 128]]
    omega
  · rcases Nat.lt_or_ge k 9 with h | h
    · exact h
    · exfalso
      have h3 : (128 : Int) ^ 9 ≤ 128 ^ k := by
        have : (128 : Nat) ^ 9 ≤ 128 ^ k := Nat.pow_le_pow_right (by omega) h
        exact_mod_cast this
      have h4 : 128 * (128 : Int) ^ k ≤ u * 128 ^ k := Int.mul_le_mul_of_nonneg_right (by omega) (by omega)
      have h5 : (128 : Int) ^ 9 = 9223372036854775808 := by decide
      omega

set_option maxHeartbeats 400000 in
theorem specFold_any (n : Int) (w : World) (h0 : -9223372036854775808 ≤ n) (h1 : n ≤ 9223372036854775807) :
    Calls Tryd.prog 21 #[.int .i64 n] w fun e w' => e = .returned (.int .u64 (foldN n)) ∧ w = w' := by
  by_cases hn : n < 0
  · go_enter Tryd.func21, Tryd.ntmps21
    go_wp2
    go_ret
    exact ⟨ret_int (by have := foldN_neg (n := n) (by omega); omega), rfl⟩
  · go_enter Tryd.func21, Tryd.ntmps21
    go_wp2
    go_ret
    exact ⟨ret_int (by have := foldN_pos (n := n) (by omega); omega), rfl⟩

set_option maxHeartbeats 400000 in
theorem implFold_any (n : Int) (w : World) (h0 : -9223372036854775808 ≤ n) (h1 : n ≤ 9223372036854775807) :
    Calls Tryd.prog 20 #[.int .i64 n] w fun e w' => e = .returned (.int .u64 (foldN n)) ∧ w = w' := by
  by_cases hn : n < 0
  · go_enter Tryd.func20, Tryd.ntmps20
    go_wp2
    go_ret
    exact ⟨ret_int (by have := foldN_neg (n := n) (by omega); rw [IntKind.wrap_u64, IntKind.wrap_u64, xor_max_u64 _ (by omega) (by omega)]; omega), rfl⟩
  · go_enter Tryd.func20, Tryd.ntmps20
    go_wp2
    go_ret
    exact ⟨ret_int (by have := foldN_pos (n := n) (by omega); omega), rfl⟩

set_option maxHeartbeats 1000000 in
theorem specPutNum_any (n : Int) (w : World) (h0 : -9223372036854775808 ≤ n) (h1 : n ≤ 9223372036854775807) :
    Calls Tryd.prog 8 #[.int .i64 n] w fun e w' => e = .returned (.string ⟨(putN n).toArray⟩) ∧ Below w.heap.size w w' := by
  have hb := foldN_bd n h0 h1
  go_enter Tryd.func8, Tryd.ntmps8
  go_wp2_with (go_at_call 21; refine (specFold_any _ _ h0 h1).mono ?_; rintro e w' ⟨rfl, rfl⟩)
  go_loopw [3, 4] (fun u v wr => ∃ (x : Int) (k : Nat) (pre : List UInt8), u = .int .u64 x ∧ fits k x ∧ k ≤ 9 ∧ pre.length = k ∧ pre ++ numB (9 - k) x = numB 9 (foldN n) ∧
      OwnB w.heap.size wr v pre ∧ Below w.heap.size w wr) (fun u _ _ => (intOf u).toNat)
  case atStart =>
    refine ⟨foldN n, 0, [], rfl, ⟨hb.1, by simpa using hb.2⟩, by omega, rfl, rfl, ?_, (Below.refl _ _).alloc (Nat.le_refl _) _⟩
    exact World.ownsRow_lit _ _ _ (Nat.le_refl _) (by unfold maxLen; omega) (by simp)
  case round =>
    obtain ⟨x, k, pre, rfl, hf, hk, hl, he, hown, hbw⟩ := hrel
    have HE := Lib.hid he; clear he
    have HL := Lib.hid hl; clear hl
    have hx0 : 0 ≤ x := hf.1
    have hx1 : x ≤ 18446744073709551615 := by
      have hp : (1 : Int) ≤ 128 ^ k := by
        have h : 0 < (128 : Int) ^ k := Int.pow_pos (by omega)
        omega
      have := Int.mul_le_mul_of_nonneg_left hp hx0
      have := hf.2
      omega
    have hsz := hbw.size
    have hbase : w.heap.size ≤ wr.heap.size := hsz
    have hpl : pre.length ≤ 9 := by have := HL.out; omega
    by_cases hlt : x < 128
    · have hfin : pre ++ [UInt8.ofNat x.toNat] = putN n := by
        have := HE.out
        rw [numB_last _ hlt] at this
        exact this
      have HP := Lib.hid hfin; clear hfin
      go_wp2_with (at_builtin; refine wpList_push_u8 rfl _ _ rfl _ _ _ _ rfl hown _ (by omega) (by omega) rfl (by omega) hbase ?_; intro v1 w1 hown1 hg1; have hcv := hown1.string)
      go_ret
      exact ⟨ret_str (by rw [HP.out]), hbw.grown hg1 hsz (fun k hk => (hown.lt k hk).1)⟩
    · have hf2 := fits_step hf hlt
      have hge : 128 ≤ x := by omega
      have hnext : (pre ++ [UInt8.ofNat (x % 128 + 128).toNat]) ++ numB (9 - (k + 1)) (x / 128) = numB 9 (foldN n) := by
        have := HE.out
        rw [show 9 - k = (9 - (k + 1)) + 1 by omega, numB_more hlt] at this
        rw [List.append_assoc]
        exact this
      have HN := Lib.hid hnext; clear hnext
      go_wp2_with (at_builtin; refine wpList_push_u8 rfl _ _ rfl _ _ _ _ rfl hown _ (by omega) (by omega) rfl (by omega) hbase ?_; intro v1 w1 hown1 hg1)
      go_roundw
      case rel => exact ⟨x / 128, k + 1, _, rfl, hf2.1, by omega, by simp [HL.out], HN.out, hown1, hbw.grown hg1 hsz (fun k hk => (hown.lt k hk).1)⟩
      case measure => simp [intOf]; omega

/-- The ten cells of the program's array behind some bytes. -/
def cells10 (pre : List UInt8) : Array Value := (byteCells pre ++ List.replicate (10 - pre.length) (Value.int .u8 0)).toArray
theorem cells10_nil : cells10 [] = #[.int .u8 0, .int .u8 0, .int .u8 0, .int .u8 0, .int .u8 0, .int .u8 0, .int .u8 0, .int .u8 0, .int .u8 0, .int .u8 0] := rfl
theorem cells10_size {pre : List UInt8} (h : pre.length ≤ 10) : (cells10 pre).size = 10 := by simp [cells10, byteCells_length]; omega
theorem cells10_push {pre : List UInt8} (h : pre.length < 10) (n : Int) (h0 : 0 ≤ n) (h1 : n ≤ 255) :
    (cells10 pre).setIfInBounds pre.length (.int .u8 n) = cells10 (pre ++ [UInt8.ofNat n.toNat]) := by
  apply Array.toList_inj.1
  have e : byteCells [UInt8.ofNat n.toNat] = [.int .u8 n] := by simp only [byteCells, List.map_cons, List.map_nil, byte_of_int n h0 h1]
  simp only [cells10, Array.toList_setIfInBounds, List.length_append, List.length_cons, List.length_nil, byteCells_append, e]
  rw [List.set_append, if_neg (by simp [byteCells_length]), byteCells_length, Nat.sub_self, List.append_assoc]
  rw [show 10 - pre.length = (10 - (pre.length + (0 + 1))) + 1 by omega, List.replicate_succ]
  rfl

theorem cells10_get {pre : List UInt8} {j : Nat} (h : j < pre.length) : (cells10 pre)[j]? = some (.int .u8 ((pre.map fun b => (b.toNat : Int)).getD j 0)) := by
  have e : (cells10 pre)[j]? = (byteCells pre)[j]? := by
    simp only [cells10, List.getElem?_toArray]
    exact List.getElem?_append_left (by rw [byteCells_length]; exact h)
  rw [e, byteCells_get pre j h]

theorem slice10 (W : World) (b k : Nat) (hk : k ≤ 9) : (Instr.sliceAt 42 (.pointer (some ⟨b, 0, none⟩)) none (some (.int .i64 ((k : Int) + 1))) none).run Tryd.prog W = .ok (.slice (some ⟨b, 0, none⟩) (k + 1) 10) W := by
  have hal : Tryd.prog.arrayLen 42 = 10 := by kernel_rfl
  have hel : Tryd.prog.elem 42 = 5 := by kernel_rfl
  have hs : (sizeOf 5).run Tryd.prog W = .ok 1 W := by kernel_rfl
  rw [run_sliceAt_array_h W 42 ⟨b, 0, none⟩ Tryd.underlying42 .i64 ((k : Int) + 1) (by omega) (by rw [hal]; omega), hel, hs, hal]
  have e : ((k : Int) + 1).toNat = k + 1 := by omega
  simp [slicedAt, e, Addr.add, Result.andThen]

theorem string10 (w : World) (pre : List UInt8) : (convert 22 9 (.slice (some ⟨w.heap.size, 0, none⟩) pre.length 10)).run Tryd.prog (w.alloc (.cells (cells10 pre) 42)) = .ok (.string ⟨pre.toArray⟩) (w.alloc (.cells (cells10 pre) 42)) := by
  rw [run_convert_bytes_arg _ _ _ Tryd.underlying22 Tryd.underlying5 w.heap.size 0 pre.length 10 (pre.map fun b => (b.toNat : Int)) (by simp) (fun i hi => ?_) _ Tryd.underlying9, strOfNums_bytes]
  rw [World.cell?_alloc_at _ _ _ _ rfl, Nat.zero_add]
  exact cells10_get hi

set_option maxHeartbeats 1000000 in
theorem implPutNum_any (n : Int) (w : World) (h0 : -9223372036854775808 ≤ n) (h1 : n ≤ 9223372036854775807) :
    Calls Tryd.prog 7 #[.int .i64 n] w fun e w' => e = .returned (.string ⟨(putN n).toArray⟩) ∧ Below w.heap.size w w' := by
  have hb := foldN_bd n h0 h1
  go_enter Tryd.func7, Tryd.ntmps7
  go_wp2_with (go_at_call 20; refine (implFold_any _ _ h0 h1).mono ?_; rintro e w' ⟨rfl, rfl⟩)
  go_loopw [3, 5] (fun u l wr => ∃ (x : Int) (k : Nat) (pre : List UInt8), u = .int .u64 x ∧ l = .int .i64 k ∧ fits k x ∧ k ≤ 9 ∧ pre.length = k ∧ pre ++ numB (9 - k) x = numB 9 (foldN n) ∧
      wr = w.alloc (.cells (cells10 pre) 42)) (fun u _ _ => (intOf u).toNat)
  case atStart => exact ⟨foldN n, 0, [], rfl, rfl, ⟨hb.1, by simpa using hb.2⟩, by omega, rfl, rfl, by rw [cells10_nil]⟩
  case round =>
    obtain ⟨x, k, pre, rfl, rfl, hf, hk, hl, he, rfl⟩ := hrel
    have HE := Lib.hid he; clear he
    have HL := Lib.hid hl; clear hl
    have hx0 : 0 ≤ x := hf.1
    have hx1 : x ≤ 18446744073709551615 := by
      have hp : (1 : Int) ≤ 128 ^ k := by
        have h : 0 < (128 : Int) ^ k := Int.pow_pos (by omega)
        omega
      have := Int.mul_le_mul_of_nonneg_left hp hx0
      have := hf.2
      omega
    have hpl : pre.length ≤ 9 := by have := HL.out; omega
    obtain ⟨c0, hc0⟩ : ∃ c, (cells10 pre)[k]? = some c := by
      have hsz := cells10_size (pre := pre) (by omega)
      exact ⟨_, Array.getElem?_eq_getElem (by omega)⟩
    by_cases hlt : x < 128
    · have hset : (cells10 pre).setIfInBounds k (.int .u8 x) = cells10 (pre ++ [UInt8.ofNat x.toNat]) := by
        have := cells10_push (pre := pre) (by omega) x (by omega) (by omega)
        rw [HL.out] at this
        exact this
      have hfin : pre ++ [UInt8.ofNat x.toNat] = putN n := by
        have := HE.out
        rw [numB_last _ hlt] at this
        exact this
      have hstr := string10 w (pre ++ [UInt8.ofNat x.toNat])
      rw [List.length_append, List.length_singleton, HL.out] at hstr
      have hsl := slice10 (w.alloc (.cells (cells10 (pre ++ [UInt8.ofNat x.toNat])) 42)) w.heap.size k hk
      have HP := Lib.hid hfin; clear hfin
      go_wp2
      go_ret
      exact ⟨ret_str (by rw [HP.out]), (Below.refl _ _).alloc (Nat.le_refl _) _⟩
    · have hf2 := fits_step hf hlt
      have hge : 128 ≤ x := by omega
      have hor : bits .or .u8 (x % 256) 128 = x % 128 + 128 := by rw [or_128_u8 _ (by omega) (by omega)]; omega
      have hset : (cells10 pre).setIfInBounds k (.int .u8 (x % 128 + 128)) = cells10 (pre ++ [UInt8.ofNat (x % 128 + 128).toNat]) := by
        have := cells10_push (pre := pre) (by omega) (x % 128 + 128) (by omega) (by omega)
        rw [HL.out] at this
        exact this
      have hnext : (pre ++ [UInt8.ofNat (x % 128 + 128).toNat]) ++ numB (9 - (k + 1)) (x / 128) = numB 9 (foldN n) := by
        have := HE.out
        rw [show 9 - k = (9 - (k + 1)) + 1 by omega, numB_more hlt] at this
        rw [List.append_assoc]
        exact this
      have HN := Lib.hid hnext; clear hnext
      go_wp2
      go_roundw
      case rel => exact ⟨x / 128, k + 1, _, rfl, by go_num, hf2.1, by omega, by simp [HL.out], HN.out, rfl⟩
      case measure => simp [intOf]; omega

end Go.Proofs.YtoabhpgiaieopaaDoor
