/- Walks: PutText, the four bytes of a number, Seal, Unseal: the model and the program against one plain function each. -/
import Derived.Test.YtoabhpgiaieopaaPn
import Derived.Test.YtoabhpgiaieopaaCr
import Derived.Test.YtoabhpgiaieopaaJo
namespace Go.Proofs.Ytoabhpgiaieopaa
open Go.RowKit

/-- What PutText answers. -/
def putT (t : ByteArray) : ByteArray := if 8000 < t.size then ⟨#[]⟩ else ⟨(putN (t.size : Int)).toArray⟩ ++ t
theorem putT_no {t : ByteArray} (h : 8000 < t.size) : putT t = ⟨#[]⟩ := by unfold putT; rw [if_pos h]
theorem putT_yes {t : ByteArray} (h : ¬ 8000 < t.size) : putT t = ⟨(putN (t.size : Int)).toArray⟩ ++ t := by unfold putT; rw [if_neg h]
theorem putN_size (n : Int) : (⟨(putN n).toArray⟩ : ByteArray).size ≤ 10 := by rw [size_mk]; exact numB_length 9 _

set_option maxHeartbeats 400000 in
theorem specPutText_any (t : ByteArray) (w : World) (hs : t.size ≤ maxLen) :
    Calls Try.prog 22 #[.string t] w fun e w' => e = .returned (.string (putT t)) ∧ Below w.heap.size w w' := by
  unfold maxLen at hs
  by_cases h1 : 8000 < t.size
  · have HA := Lib.hid (putT_no h1)
    go_enter Try.func22, Try.ntmps22
    go_wp2
    go_ret
    exact ⟨ret_str HA.out.symm, Below.refl _ _⟩
  have hcall := fun w => specPutNum_any (t.size : Int) w (by omega) (by omega)
  have hyes := putT_yes h1
  have hsz := putN_size (t.size : Int)
  generalize (⟨(putN (t.size : Int)).toArray⟩ : ByteArray) = A at hcall hyes hsz
  have HA := Lib.hid hyes
  have HC := Lib.hid hcall
  clear hyes hcall
  go_enter Try.func22, Try.ntmps22
  go_wp2_with (go_at_call 20; refine (HC.out _).mono ?_; rintro e w1 ⟨rfl, hb1⟩)
  go_ret
  exact ⟨ret_str HA.out.symm, hb1⟩

set_option maxHeartbeats 400000 in
theorem implPutText_any (t : ByteArray) (w : World) (hs : t.size ≤ maxLen) :
    Calls Try.prog 23 #[.string t] w fun e w' => e = .returned (.string (putT t)) ∧ Below w.heap.size w w' := by
  unfold maxLen at hs
  by_cases h1 : 8000 < t.size
  · have HA := Lib.hid (putT_no h1)
    go_enter Try.func23, Try.ntmps23
    go_wp2
    go_ret
    exact ⟨ret_str HA.out.symm, Below.refl _ _⟩
  have hcall := fun w => implPutNum_any (t.size : Int) w (by omega) (by omega)
  have hyes := putT_yes h1
  have hsz := putN_size (t.size : Int)
  generalize (⟨(putN (t.size : Int)).toArray⟩ : ByteArray) = A at hcall hyes hsz
  have HA := Lib.hid hyes
  have HC := Lib.hid hcall
  clear hyes hcall
  go_enter Try.func23, Try.ntmps23
  go_wp2_with (first | (go_at_call 21; refine (HC.out _).mono ?_; rintro e w1 ⟨rfl, hb1⟩) | (go_at_call 33; refine (joined_any _ _ _ (by omega) (by omega)).mono ?_; rintro e w2 ⟨rfl, hb2⟩))
  go_ret
  exact ⟨ret_str HA.out.symm, hb1.trans (hb2.mono hb1.size)⟩

/-- The four bytes of a number, the lowest first. -/
def fourL (c : Nat) : List UInt8 := [UInt8.ofNat (c % 256), UInt8.ofNat (c / 256 % 256), UInt8.ofNat (c / 65536 % 256), UInt8.ofNat (c / 16777216 % 256)]

theorem fourCells (c : Nat) (hc : c < 4294967296) : byteCells (fourL c) = [.int .u8 ((c : Int) % 256), .int .u8 ((c : Int) / 256 % 256), .int .u8 ((c : Int) / 65536 % 256), .int .u8 ((c : Int) / 16777216)] := by
  simp only [fourL, byteCells, List.map_cons, List.map_nil, UInt8.toNat_ofNat']
  rw [show ((c % 256 % 2 ^ 8 : Nat) : Int) = (c : Int) % 256 by omega, show ((c / 256 % 256 % 2 ^ 8 : Nat) : Int) = (c : Int) / 256 % 256 by omega,
    show ((c / 65536 % 256 % 2 ^ 8 : Nat) : Int) = (c : Int) / 65536 % 256 by omega, show ((c / 16777216 % 256 % 2 ^ 8 : Nat) : Int) = (c : Int) / 16777216 by omega]

/-- A block of bytes just laid, read as a text. -/
theorem string_new (w : World) (bs : List UInt8) (cap T : Nat) (c : Array Value) (hc : c.toList = byteCells bs) :
    (convert 22 9 (.slice (some ⟨w.heap.size, 0, none⟩) bs.length cap)).run Try.prog (w.alloc (.cells c T)) = .ok (.string ⟨bs.toArray⟩) (w.alloc (.cells c T)) := by
  rw [run_convert_bytes_arg _ _ _ Try.underlying22 Try.underlying5 w.heap.size 0 bs.length cap (bs.map fun b => (b.toNat : Int)) (by simp) (fun i hi => ?_) _ Try.underlying9, strOfNums_bytes]
  rw [Nat.zero_add, World.cell?_alloc_at _ _ _ _ rfl, ← byteCells_get bs i hi, ← hc]
  simp

theorem four_string (c : Nat) (hc : c < 4294967296) (w : World) (T : Nat) : (convert 22 9 (.slice (some ⟨w.heap.size, 0, none⟩) 4 4)).run Try.prog
    (w.alloc (.cells #[.int .u8 ((c : Int) % 256), .int .u8 ((c : Int) / 256 % 256), .int .u8 ((c : Int) / 65536 % 256), .int .u8 ((c : Int) / 16777216)] T)) = .ok (.string ⟨(fourL c).toArray⟩)
    (w.alloc (.cells #[.int .u8 ((c : Int) % 256), .int .u8 ((c : Int) / 256 % 256), .int .u8 ((c : Int) / 65536 % 256), .int .u8 ((c : Int) / 16777216)] T)) := by
  have := string_new w (fourL c) 4 T #[.int .u8 ((c : Int) % 256), .int .u8 ((c : Int) / 256 % 256), .int .u8 ((c : Int) / 65536 % 256), .int .u8 ((c : Int) / 16777216)] (by rw [fourCells c hc])
  exact this

set_option maxHeartbeats 400000 in
theorem specFour_any (c : Nat) (w : World) (hc : c < 4294967296) :
    Calls Try.prog 34 #[.int .i64 (c : Int)] w fun e w' => e = .returned (.string ⟨(fourL c).toArray⟩) ∧ Below w.heap.size w w' := by
  have hst := four_string c hc w 5
  generalize (⟨(fourL c).toArray⟩ : ByteArray) = A at hst ⊢
  go_enter Try.func34, Try.ntmps34
  go_wp2
  go_ret
  exact ⟨rfl, (Below.refl _ _).alloc (Nat.le_refl _) _⟩

/-- What Seal answers. -/
def fourS (t : ByteArray) : ByteArray := ⟨(fourL (crcMore 0 t.data.toList)).toArray⟩
theorem fourS_size (t : ByteArray) : (fourS t).size = 4 := by unfold fourS; rw [size_mk]; rfl
def sealOf (t : ByteArray) : ByteArray := if 7996 < t.size then ⟨#[]⟩ else t ++ fourS t
theorem sealOf_no {t : ByteArray} (h : 7996 < t.size) : sealOf t = ⟨#[]⟩ := by unfold sealOf; rw [if_pos h]
theorem sealOf_yes {t : ByteArray} (h : ¬ 7996 < t.size) : sealOf t = t ++ fourS t := by unfold sealOf; rw [if_neg h]

set_option maxHeartbeats 400000 in
theorem specSeal_any (t : ByteArray) (w : World) (hs : t.size ≤ maxLen) :
    Calls Try.prog 13 #[.string t] w fun e w' => e = .returned (.string (sealOf t)) ∧ Below w.heap.size w w' := by
  unfold maxLen at hs
  by_cases h1 : 7996 < t.size
  · have HA := Lib.hid (sealOf_no h1)
    go_enter Try.func13, Try.ntmps13
    go_wp2
    go_ret
    exact ⟨ret_str HA.out.symm, Below.refl _ _⟩
  have hcrc := fun w => specL01Crc_any 0 t w (by omega) (by omega)
  have hfour := fun w => specFour_any (crcMore 0 t.data.toList) w (crcMore_lt _ _)
  have hyes := sealOf_yes h1
  have hsz := fourS_size t
  unfold fourS at hyes hsz
  generalize crcMore 0 t.data.toList = c at hcrc hfour hyes hsz
  generalize (⟨(fourL c).toArray⟩ : ByteArray) = A at hfour hyes hsz
  have hsz4 : A.size ≤ 4 := by omega
  clear hsz
  have HA := Lib.hid hyes
  have HC := Lib.hid hcrc
  have HF := Lib.hid hfour
  clear hyes hcrc hfour
  go_enter Try.func13, Try.ntmps13
  go_wp2_with (first | (go_at_call 35; refine (HC.out _).mono ?_; rintro e w1 ⟨rfl, rfl⟩) | (go_at_call 34; refine (HF.out _).mono ?_; rintro e w2 ⟨rfl, hb2⟩))
  go_ret
  exact ⟨ret_str HA.out.symm, hb2⟩

/-- The program's four cells, behind k of them. -/
def cells4 (c : Int) : Nat → Array Value
  | 0 => #[.int .u8 0, .int .u8 0, .int .u8 0, .int .u8 0]
  | 1 => #[.int .u8 (c % 256), .int .u8 0, .int .u8 0, .int .u8 0]
  | 2 => #[.int .u8 (c % 256), .int .u8 (c / 256 % 256), .int .u8 0, .int .u8 0]
  | 3 => #[.int .u8 (c % 256), .int .u8 (c / 256 % 256), .int .u8 (c / 65536 % 256), .int .u8 0]
  | _ => #[.int .u8 (c % 256), .int .u8 (c / 256 % 256), .int .u8 (c / 65536 % 256), .int .u8 (c / 16777216)]

theorem slice4 (W : World) (b : Nat) : (Instr.sliceAt 42 (.pointer (some ⟨b, 0, none⟩)) none none none).run Try.prog W = .ok (.slice (some ⟨b, 0, none⟩) 4 4) W := by
  have hal : Try.prog.arrayLen 42 = 4 := by kernel_rfl
  have hel : Try.prog.elem 42 = 5 := by kernel_rfl
  have hs : (sizeOf 5).run Try.prog W = .ok 1 W := by kernel_rfl
  rw [run_sliceAt_array_all W 42 ⟨b, 0, none⟩ Try.underlying42, hel, hs, hal]
  simp [slicedAt, Addr.add, Result.andThen]

set_option maxHeartbeats 1000000 in
theorem implSeal_any (t : ByteArray) (w : World) (hs : t.size ≤ maxLen) :
    Calls Try.prog 12 #[.string t] w fun e w' => e = .returned (.string (sealOf t)) ∧ Below w.heap.size w w' := by
  have hs0 := hs
  unfold maxLen at hs
  by_cases h1 : 7996 < t.size
  · have HA := Lib.hid (sealOf_no h1)
    go_enter Try.func12, Try.ntmps12
    go_wp2
    go_ret
    exact ⟨ret_str HA.out.symm, Below.refl _ _⟩
  have hcrc := fun w => implCrc_all t w hs0
  have hans := crcAns_nat (c := 0) (s := t) (by omega) (by omega)
  simp only [Int.natCast_zero] at hans
  simp only [hans] at hcrc
  clear hans
  have hst := four_string (crcMore 0 t.data.toList) (crcMore_lt _ _) w 42
  have hlt := crcMore_lt 0 t.data.toList
  have hyes := sealOf_yes h1
  have hsz := fourS_size t
  unfold fourS at hyes hsz
  generalize crcMore 0 t.data.toList = c at hcrc hst hyes hsz hlt
  generalize (⟨(fourL c).toArray⟩ : ByteArray) = A at hst hyes hsz
  have hsz4 : A.size ≤ 4 := by omega
  clear hsz
  have HA := Lib.hid hyes
  have HC := Lib.hid hcrc
  have HS := Lib.hid hst
  clear hyes hcrc hst
  go_enter Try.func12, Try.ntmps12
  go_wp2_with (go_at_call 19; refine (HC.out _).mono ?_; rintro e w1 ⟨rfl, rfl⟩)
  go_loopw [11] (fun i wr => ∃ k : Nat, k ≤ 4 ∧ i = .int .i64 k ∧ wr = w.alloc (.cells (cells4 c k) 42)) (fun i _ => 4 - (intOf i).toNat)
  case atStart => exact ⟨0, by omega, rfl, rfl⟩
  case round =>
    obtain ⟨k, hk, rfl, rfl⟩ := hrel
    rcases (by omega : k = 0 ∨ k = 1 ∨ k = 2 ∨ k = 3 ∨ k = 4) with rfl | rfl | rfl | rfl | rfl
    all_goals simp only [cells4]
    · go_wp2
      go_roundw
      case rel => exact ⟨1, by omega, rfl, rfl⟩
      case measure => simp [intOf]
    · go_wp2
      go_roundw
      case rel => exact ⟨2, by omega, rfl, rfl⟩
      case measure => simp [intOf]
    · go_wp2
      go_roundw
      case rel => exact ⟨3, by omega, rfl, rfl⟩
      case measure => simp [intOf]
    · go_wp2
      go_roundw
      case rel => exact ⟨4, by omega, rfl, rfl⟩
      case measure => simp [intOf]
    · have hst := HS.out
      have hsl := fun W => slice4 W w.heap.size
      go_wp2_with (go_at_call 33; refine (joined_any _ _ _ (by omega) (by omega)).mono ?_; rintro e w2 ⟨rfl, hb2⟩)
      go_ret
      exact ⟨ret_str HA.out.symm, ((Below.refl _ _).alloc (Nat.le_refl _) _).trans (hb2.mono (by simp))⟩

end Go.Proofs.Ytoabhpgiaieopaa
