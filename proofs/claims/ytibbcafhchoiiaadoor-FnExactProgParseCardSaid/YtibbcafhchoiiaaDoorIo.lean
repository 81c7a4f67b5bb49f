/- The program's table of codes and words walked: opWords, nameOfOp, codeOfOp. -/
import Derived.Test.YtibbcafhchoiiaaDoorOn
import Derived.Laws.Tables
import Derived.Laws.Rows
set_option maxRecDepth 100000
set_option linter.unusedSimpArgs false
namespace Go.Proofs.YtibbcafhchoiiaaDoor
open Go.RowKit

/-- The table's cells: each code, and its word. -/
def opCells : List Value := (opCodesL.zip opNamesL).flatMap fun p => [.int .i64 p.1, .string ⟨p.2.toArray⟩]
def opArr : Array Value := opCells.toArray
/-- The same cells, of nothing yet. -/
def zeroOps : Array Value := ((List.range 34).flatMap fun _ => [.int .i64 0, .string ⟨#[]⟩]).toArray
theorem zeroOps_size : zeroOps.size = 68 := by kernel_rfl
theorem opArr_size : opArr.size = 68 := by kernel_rfl
theorem zero_ops (w : World) : (zeroValue 72).run Tryd.prog w = .ok (.agg zeroOps) w := by kernel_rfl
theorem wpList_build_to {P : Program} {ops : Array Oper} {rest : List Oper} {o : Oper} {a : Act} {w : World} {Q : Exit → Act → World → Prop} (hg : o.guard = none) (t : TypeId) (parts : Array (Nat × Operand)) (cells : Array Value) (ho : o.op = .build t parts)
    (hf : P.built t (parts.map fun (i, x) => (i, a.eval x)).toList = some cells)
    (h : wpList P ops Q rest (a.put o.dst (.agg cells)) w) : wpList P ops Q (o :: rest) a w :=
  wpList_build hg t parts ho (by rw [hf]; rfl) (by rw [hf]; exact h)

theorem below_setRow {B g : Nat} {a w : World} (h : Below B a w) (hg : B ≤ g) (cs : Array Value) : Below B a (w.setRow g cs) :=
  ⟨h.os, h.tape, h.output, by rw [setRow_size]; exact h.size, fun k hk => (setRow_other w g k cs (by omega)).trans (h.block k hk)⟩

set_option maxHeartbeats 1600000 in
theorem opWords_any (w : World) : Calls Tryd.prog 38 #[] w fun e w' => e = .returned (.agg opArr) ∧ Below w.heap.size w w' := by
  have hz := zero_ops
  have hrow : (w.alloc (.cells zeroOps 72)).heap[w.heap.size]? = some (.cells zeroOps 72 (0, 0)) := by simp only [World.alloc, Array.getElem?_push_size]
  have hnew := setRow_heap _ w.heap.size zeroOps opArr 72 (0, 0) hrow
  have hld := fun (_ : Unit) => run_loadVar_row (P := Tryd.prog) _ w.heap.size 72 72 opArr (0, 0) _ hnew Tryd.underlying72 rfl (by kernel_rfl)
  have HL := Lib.hid (hld ())
  have HR := Lib.hid hrow
  clear hrow hnew hld
  go_enter Tryd.func38, Tryd.ntmps38
  go_wp2_with (first
    | (refine wpList_build_to rfl 72 _ opArr rfl (by kernel_rfl) ?_)
    | (refine wpList_store_row rfl 72 _ _ rfl w.heap.size opArr rfl rfl 72 zeroOps HR.out (by kernel_rfl) (by kernel_rfl) (by kernel_rfl) ?_))
  have hl := HL.out
  exact bodyPost_ret (v := .agg opArr) (by simp [results, Tryd.results38, Act.put, asAddr, hl]) rfl ⟨rfl, below_setRow ((Below.refl _ _).alloc (Nat.le_refl _) _) (Nat.le_refl _) _⟩

theorem idx_op : ∀ (k : Nat) (hk : k < 34) (w : World), (Instr.index 72 (.agg opArr) (.int .i64 k)).run Tryd.prog w = .ok (.agg #[.int .i64 (opCodesL[k]'(by exact hk)), .string ⟨(opNamesL[k]'(by exact hk)).toArray⟩]) w
  | 0, _, _ => by kernel_rfl
  | 1, _, _ => by kernel_rfl
  | 2, _, _ => by kernel_rfl
  | 3, _, _ => by kernel_rfl
  | 4, _, _ => by kernel_rfl
  | 5, _, _ => by kernel_rfl
  | 6, _, _ => by kernel_rfl
  | 7, _, _ => by kernel_rfl
  | 8, _, _ => by kernel_rfl
  | 9, _, _ => by kernel_rfl
  | 10, _, _ => by kernel_rfl
  | 11, _, _ => by kernel_rfl
  | 12, _, _ => by kernel_rfl
  | 13, _, _ => by kernel_rfl
  | 14, _, _ => by kernel_rfl
  | 15, _, _ => by kernel_rfl
  | 16, _, _ => by kernel_rfl
  | 17, _, _ => by kernel_rfl
  | 18, _, _ => by kernel_rfl
  | 19, _, _ => by kernel_rfl
  | 20, _, _ => by kernel_rfl
  | 21, _, _ => by kernel_rfl
  | 22, _, _ => by kernel_rfl
  | 23, _, _ => by kernel_rfl
  | 24, _, _ => by kernel_rfl
  | 25, _, _ => by kernel_rfl
  | 26, _, _ => by kernel_rfl
  | 27, _, _ => by kernel_rfl
  | 28, _, _ => by kernel_rfl
  | 29, _, _ => by kernel_rfl
  | 30, _, _ => by kernel_rfl
  | 31, _, _ => by kernel_rfl
  | 32, _, _ => by kernel_rfl
  | 33, _, _ => by kernel_rfl
  | n + 34, h, _ => absurd h (by omega)

set_option maxHeartbeats 1600000 in
theorem nameOfOp_any (c : Int) (w : World) : Calls Tryd.prog 20 #[.int .i64 c] w fun e w' => e = .returned (.string (opNameOf c)) ∧ Below w.heap.size w w' := by
  go_enter Tryd.func20, Tryd.ntmps20
  go_wp2_with fail
  refine (opWords_any _).mono ?_
  rintro e w1 ⟨rfl, hb⟩
  have HB := Lib.hid hb
  clear hb
  go_wp2_with fail
  go_loopw [6] (fun i wr => ∃ k : Nat, k ≤ 34 ∧ i = .int .i64 k ∧ (∀ j (hj : j < 34), j < k → opCodesL[j]'(by exact hj) ≠ c) ∧ Below w.heap.size w wr) (fun i _ => 34 - (intOf i).toNat)
  case atStart => exact ⟨0, by omega, rfl, fun j hj h => by omega, HB.out⟩
  case round =>
    obtain ⟨k, hk, rfl, hne, hbw⟩ := hrel
    have HNE := Lib.hid hne
    have HW := Lib.hid hbw
    clear hne hbw
    by_cases hlt : k < 34
    · have hix := fun W => idx_op k hlt W
      have HA := Lib.hid (fun o => HW.out.alloc HW.out.size o)
      by_cases he : opCodesL[k]'(by exact hlt) = c
      · have hq : (opCodesL[k]'(by exact hlt) == c) = true := by simpa using he
        have hr := Lib.hid (opName_hit hlt (fun j hj => HNE.out j (by omega) hj) he)
        clear he
        generalize opNamesL[k]'(by exact hlt) = nm at *
        generalize opCodesL[k]'(by exact hlt) = cd at *
        go_wp2_with fail
        go_ret
        exact ⟨ret_str (by unfold opNameOf; rw [hr.out]), HA.out _⟩
      · have hq : (opCodesL[k]'(by exact hlt) == c) = false := by simpa using he
        have HE := Lib.hid (show ∀ j (hj : j < 34), j < k + 1 → opCodesL[j]'(by exact hj) ≠ c from fun j hj h => by
          rcases Nat.lt_or_ge j k with h' | h'
          · exact HNE.out j hj h'
          · obtain rfl : j = k := by omega
            exact he)
        clear he
        generalize opNamesL[k]'(by exact hlt) = nm at *
        generalize opCodesL[k]'(by exact hlt) = cd at *
        go_wp2_with fail
        go_roundw
        case rel => exact ⟨k + 1, by omega, by go_num, HE.out, HA.out _⟩
        case measure => simp [intOf]; omega
    · have hr := Lib.hid (opName_miss (c := c) fun j hj => HNE.out j hj (by omega))
      go_wp2_with fail
      go_ret
      exact ⟨ret_str (by unfold opNameOf; rw [hr.out]), HW.out⟩

end Go.Proofs.YtibbcafhchoiiaaDoor
