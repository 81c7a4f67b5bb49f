/- Walks: PutText (of a seat that has no CRC): the model and the program against one plain function each. -/
import Derived.Test.YtoabhpgiaieopaaDoorPn
import Derived.Test.YtoabhpgiaieopaaDoorJo
namespace Go.Proofs.YtoabhpgiaieopaaDoor
open Go.RowKit

/-- What PutText answers. -/
def putT (t : ByteArray) : ByteArray := if 8000 < t.size then ⟨#[]⟩ else ⟨(putN (t.size : Int)).toArray⟩ ++ t
theorem putT_no {t : ByteArray} (h : 8000 < t.size) : putT t = ⟨#[]⟩ := by unfold putT; rw [if_pos h]
theorem putT_yes {t : ByteArray} (h : ¬ 8000 < t.size) : putT t = ⟨(putN (t.size : Int)).toArray⟩ ++ t := by unfold putT; rw [if_neg h]
theorem putN_size (n : Int) : (⟨(putN n).toArray⟩ : ByteArray).size ≤ 10 := by rw [size_mk]; exact numB_length 9 _

set_option maxHeartbeats 400000 in
theorem specPutText_any (t : ByteArray) (w : World) (hs : t.size ≤ maxLen) :
    Calls Tryd.prog 12 #[.string t] w fun e w' => e = .returned (.string (putT t)) ∧ Below w.heap.size w w' := by
  unfold maxLen at hs
  by_cases h1 : 8000 < t.size
  · have HA := Lib.hid (putT_no h1)
    go_enter Tryd.func12, Tryd.ntmps12
    go_wp2
    go_ret
    exact ⟨ret_str HA.out.symm, Below.refl _ _⟩
  have hcall := fun w => specPutNum_any (t.size : Int) w (by omega) (by omega)
  have hyes := putT_yes h1
  have hsz := putN_size (t.size : Int)
  generalize (⟨(putN (t.size : Int)).toArray⟩ : ByteArray) = A at hcall hyes hsz
  have HA := Lib.hid hyes
  have HC := Lib.hid hcall
  clear hyes hcall
  go_enter Tryd.func12, Tryd.ntmps12
  go_wp2_with (go_at_call 8; refine (HC.out _).mono ?_; rintro e w1 ⟨rfl, hb1⟩)
  go_ret
  exact ⟨ret_str HA.out.symm, hb1⟩

set_option maxHeartbeats 400000 in
theorem implPutText_any (t : ByteArray) (w : World) (hs : t.size ≤ maxLen) :
    Calls Tryd.prog 11 #[.string t] w fun e w' => e = .returned (.string (putT t)) ∧ Below w.heap.size w w' := by
  unfold maxLen at hs
  by_cases h1 : 8000 < t.size
  · have HA := Lib.hid (putT_no h1)
    go_enter Tryd.func11, Tryd.ntmps11
    go_wp2
    go_ret
    exact ⟨ret_str HA.out.symm, Below.refl _ _⟩
  have hcall := fun w => implPutNum_any (t.size : Int) w (by omega) (by omega)
  have hyes := putT_yes h1
  have hsz := putN_size (t.size : Int)
  generalize (⟨(putN (t.size : Int)).toArray⟩ : ByteArray) = A at hcall hyes hsz
  have HA := Lib.hid hyes
  have HC := Lib.hid hcall
  clear hyes hcall
  go_enter Tryd.func11, Tryd.ntmps11
  go_wp2_with (first | (go_at_call 7; refine (HC.out _).mono ?_; rintro e w1 ⟨rfl, hb1⟩) | (go_at_call 27; refine (joined_any _ _ _ (by omega) (by omega)).mono ?_; rintro e w2 ⟨rfl, hb2⟩))
  go_ret
  exact ⟨ret_str HA.out.symm, hb1.trans (hb2.mono hb1.size)⟩

end Go.Proofs.YtoabhpgiaieopaaDoor
