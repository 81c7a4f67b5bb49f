/- Walks of ProgBytes: the model's and the program's, against one plain function. -/
import Derived.Test.YtmnmaijifhojiaaTs
import Derived.Test.YtmnmaijifhojiaaLv
set_option maxRecDepth 100000
namespace Go.Proofs.Ytmnmaijifhojiaa
open Go.RowKit

def insB (x : Ins) : List UInt8 := leB 2 x.c ++ leB 1 x.y ++ leB 1 x.n ++ leB 4 x.k
def progB (l : List Ins) : List UInt8 := l.flatMap insB
def allOk (l : List Ins) : Bool := decide (l.length ≤ 400) && l.all insRight
def pbOf (l : List Ins) : ByteArray := if allOk l then ⟨(progB l).toArray⟩ else ⟨#[]⟩

theorem all_take {l : List Ins} {k : Nat} (h : (l.take k).all insRight = true) (hk : k < l.length) (hx : insRight l[k] = true) : (l.take (k + 1)).all insRight = true := by
  rw [List.take_succ_eq_append_getElem hk, List.all_append, h]
  simp [hx]
theorem allOk_bad {l : List Ins} {k : Nat} (hk : k < l.length) (hx : insRight l[k] = false) : allOk l = false := by
  unfold allOk
  rw [Bool.and_eq_false_iff]
  right
  rw [List.all_eq_false]
  exact ⟨l[k], List.getElem_mem hk, by simp [hx]⟩
theorem allOk_long {l : List Ins} (h : 400 < l.length) : allOk l = false := by
  unfold allOk
  rw [decide_eq_false (by omega)]
  rfl
theorem allOk_end {l : List Ins} {k : Nat} (h : (l.take k).all insRight = true) (hk : l.length ≤ k) (hl : l.length ≤ 400) : allOk l = true := by
  unfold allOk
  rw [List.take_of_length_le hk] at h
  simp [h, hl]

end Go.Proofs.Ytmnmaijifhojiaa
