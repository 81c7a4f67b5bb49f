/- What the numbers' law asks of its texts. -/
import Derived.Test.YtoabhpgiaieopaaDoorNu
import Derived.Test.YtoabhpgiaieopaaDoorNd
import Derived.Test.YtoabhpgiaieopaaDoorCa
set_option maxRecDepth 100000
namespace Go.Proofs.YtoabhpgiaieopaaDoor
open Go.RowKit

theorem num_field (w : World) (a b c : Value) : (Instr.field 26 (.agg #[a, b, c]) 2).run Tryd.prog w = .ok c w := by
  simp [Instr.field, part, asAgg, go_sem]
theorem text_field (w : World) (a b c : Value) : (Instr.field 31 (.agg #[a, b, c]) 2).run Tryd.prog w = .ok c w := by
  simp [Instr.field, part, asAgg, go_sem]

theorem cut_list {T : ByteArray} {l : List UInt8} (h : T.data.toList = l) : (T.extract 0 (T.size - 1)).data.toList = l.dropLast := by
  have hl : T.size = l.length := by rw [Lib.size_eq, h]
  rw [Lib.extract_data, h, hl]
  simp [List.dropLast_eq_take]

/-- The number between other bytes. -/
theorem num_back {T : ByteArray} {n : Int} (h0 : -9223372036854775808 ≤ n) (h1 : n ≤ 9223372036854775807) (hT : T.data.toList = putN n) (hs : T.size ≤ 10) :
    numOutOf (getN (⟨#[120, 121]⟩ ++ T ++ ⟨#[122]⟩) 2) = .agg #[.int .i64 n, .int .i64 ((T.size : Int) + 2), .int .i64 0] := by
  have hl : T.size = (putN n).length := by rw [Lib.size_eq, hT]
  have h := getN_put (x := ⟨#[120, 121]⟩ ++ T ++ ⟨#[122]⟩) (n := n) (pre := [120, 121]) (rest := [122]) h0 h1 (by simp only [ByteArray.size_append]; show 2 + T.size + 1 ≤ 8000; omega) (by simp [hT])
  have h2 : getN (⟨#[120, 121]⟩ ++ T ++ ⟨#[122]⟩) 2 = (n, 2 + ((putN n).length : Int), 0) := h
  unfold numOutOf
  rw [h2, hl]
  simp only
  rw [Int.add_comm]
theorem num_cut {T : ByteArray} {n : Int} (h0 : -9223372036854775808 ≤ n) (h1 : n ≤ 9223372036854775807) (hT : T.data.toList = putN n) (hs : T.size ≤ 10) :
    numOutOf (getN (T.extract 0 (T.size - 1)) 0) = .agg #[.int .i64 0, .int .i64 0, .int .i64 4] := by
  have h := getN_cut (x := T.extract 0 (T.size - 1)) h0 h1 (by rw [ByteArray.size_extract]; omega) (cut_list hT)
  unfold numOutOf
  rw [h]
theorem text_back {u : ByteArray} (hu : ¬ 8000 < u.size) (hp : (putT u).size + 1 ≤ 8000) :
    textOutOf (getT (⟨#[120]⟩ ++ putT u) 1) = .agg #[.string u, .int .i64 (((putT u).size : Int) + 1), .int .i64 0] := by
  have h := getT_put (x := ⟨#[120]⟩ ++ putT u) (t := u) (pre := [120]) (by rw [ByteArray.size_append]; show 1 + (putT u).size ≤ 8000; omega) (by rw [putT_yes hu]; simp)
  have h2 : getT (⟨#[120]⟩ ++ putT u) 1 = (u, ((⟨#[120]⟩ ++ putT u : ByteArray).size : Int), 0) := h
  unfold textOutOf
  rw [h2, ByteArray.size_append]
  show Value.agg #[.string u, .int .i64 ((1 + (putT u).size : Nat) : Int), .int .i64 0] = _
  rw [show ((1 + (putT u).size : Nat) : Int) = ((putT u).size : Int) + 1 by omega]
theorem text_cut {u : ByteArray} (hu : ¬ 8000 < u.size) (hp : (putT u).size + 1 ≤ 8000) : ∃ (y : ByteArray) (z : Int),
    textOutOf (getT ((putT u).extract 0 ((putT u).size - 1)) 0) = .agg #[.string y, .int .i64 z, .int .i64 4] := by
  have h := getT_cut (x := (putT u).extract 0 ((putT u).size - 1)) (t := u) (by rw [ByteArray.size_extract]; omega) (cut_list (by rw [putT_yes hu]; simp))
  refine ⟨(getT ((putT u).extract 0 ((putT u).size - 1)) 0).1, (getT ((putT u).extract 0 ((putT u).size - 1)) 0).2.1, ?_⟩
  unfold textOutOf
  rw [h]

end Go.Proofs.YtoabhpgiaieopaaDoor
