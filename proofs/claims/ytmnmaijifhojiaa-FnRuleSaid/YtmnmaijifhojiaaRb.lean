/- Records as bytes: l03Word, l03Bytes, RecordBytes of the model walked. -/
import Derived.Test.YtmnmaijifhojiaaRc
import Derived.Deep.RegionHeld3
import Derived.Deep.DrawnRows
set_option maxRecDepth 100000
namespace Go.Proofs.Ytmnmaijifhojiaa
open Go.RowKit
attribute [local go_sem ↓] Go.wp_at_zero Go.wp_at_succ

def wdB (x : Wd) : List UInt8 := leB 4 x.l ++ leB 4 x.h
def rcB (r : Rc) : List UInt8 := leB 4 r.nr ++ leB 4 r.ar ++ wdB r.ip ++ r.args.flatMap wdB
theorem wdB_length (x : Wd) : (wdB x).length = 8 := by simp [wdB, leB_length]
def rbOf (r : Rc) : ByteArray := if rcRight r then ⟨(rcB r).toArray⟩ else ⟨#[]⟩
theorem wd_bounds {x : Wd} (h : wdRight x = true) : (0 ≤ x.h ∧ x.h ≤ 4294967295) ∧ (0 ≤ x.l ∧ x.l ≤ 4294967295) := by
  unfold wdRight isB at h
  simpa [and_assoc] using h

theorem rcRight_parts {r : Rc} (h : rcRight r = true) : (0 ≤ r.nr ∧ r.nr ≤ 4294967295) ∧ (0 ≤ r.ar ∧ r.ar ≤ 4294967295) ∧ wdRight r.ip = true ∧ r.args.length = 6 ∧ ∀ i (hi : i < r.args.length), wdRight r.args[i] = true := by
  unfold rcRight isB at h
  simp only [Bool.and_eq_true, decide_eq_true_eq, List.all_eq_true] at h
  exact ⟨h.1.1.1.1, h.1.1.1.2, h.1.1.2, h.1.2, fun i hi => h.2 _ (List.getElem_mem hi)⟩
theorem wdBs_next {l : List Wd} {k : Nat} (hk : k < l.length) : (l.take (k + 1)).flatMap wdB = (l.take k).flatMap wdB ++ wdB l[k] := by
  rw [List.take_succ_eq_append_getElem hk, List.flatMap_append]; simp
theorem wdBs_length (l : List Wd) : (l.flatMap wdB).length = 8 * l.length := by
  induction l with
  | nil => rfl
  | cons x l ih => rw [List.flatMap_cons, List.length_append, wdB_length, ih, List.length_cons]; omega
theorem str_app (a b : List UInt8) : (⟨a.toArray⟩ : ByteArray) ++ ⟨b.toArray⟩ = ⟨(a ++ b).toArray⟩ := by apply ByteArray.ext; simp [ByteArray.data_append]

theorem rbOf_no {r : Rc} (h : rcRight r = false) : rbOf r = ⟨#[]⟩ := by unfold rbOf; rw [if_neg (by simp [h])]
theorem rbOf_yes {r : Rc} (h : rcRight r = true) : rbOf r = ⟨(rcB r).toArray⟩ := by unfold rbOf; rw [if_pos h]

end Go.Proofs.Ytmnmaijifhojiaa
