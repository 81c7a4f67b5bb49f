/- The program's machine: where it lies; what a word takes. -/
import Derived.Test.YtekmnopgaopmlaaGreatDoorRv
import Derived.Test.YtekmnopgaopmlaaGreatDoorBt
import Derived.Lib.EndianBits
import Derived.Deep.RegionLaw
set_option maxRecDepth 100000
set_option linter.unusedSimpArgs false
set_option linter.unusedVariables false
namespace Go.Proofs.YtekmnopgaopmlaaGreatDoor
open Go.RowKit

/-- The program's machine. -/
structure Mx where
  a : Int
  x : Int
  held : List Int
  msk : Int
  pc : Int
  st : Int
  ret : Int
  done : Bool
def mxCells (b : ByteArray) (z : Mx) : List Value := .string b :: .int .u32 z.a :: .int .u32 z.x :: (z.held.map (Value.int .u32) ++ [.int .u16 z.msk, .int .i64 z.pc, .int .i64 z.st, .int .u32 z.ret, .bool z.done])
structure PAt (w : World) (M : Nat) (b : ByteArray) (z : Mx) : Prop where
  row : w.heap[M]? = some (.cells (mxCells b z).toArray 90 (0, 0))
  len : z.held.length = 16
section
variable {w w' : World} {M : Nat} {b : ByteArray} {z : Mx}
theorem PAt.below (h : PAt w M b z) (hb : Below w.heap.size w w') : PAt w' M b z := ⟨(hb.block _ (row_here h.row)).trans h.row, h.len⟩
theorem PAt.alloc (h : PAt w M b z) (o : Obj) : PAt (w.alloc o) M b z := ⟨row_alloc h.row o, h.len⟩
theorem PAt.drew (h : PAt w M b z) : PAt w.drew M b z := ⟨h.row, h.len⟩
theorem PAt.drewN (h : PAt w M b z) : ∀ n, PAt (w.drewN n) M b z
  | 0 => h
  | n + 1 => (PAt.drewN h n).drew
theorem PAt.free (h : PAt w M b z) (i : Nat) : w.frozen? ⟨M, i, none⟩ = false := frozen_row h.row i
theorem PAt.bytes (h : PAt w M b z) : w.cell? ⟨M, 0, none⟩ = some (.string b) := by rw [row_cell h.row]; rfl
theorem PAt.ca (h : PAt w M b z) : w.cell? ⟨M, 1, none⟩ = some (.int .u32 z.a) := by rw [row_cell h.row]; rfl
theorem PAt.cx (h : PAt w M b z) : w.cell? ⟨M, 2, none⟩ = some (.int .u32 z.x) := by rw [row_cell h.row]; rfl
theorem PAt.cheld (h : PAt w M b z) {j : Nat} (hj : j < 16) : w.cell? ⟨M, 3 + j, none⟩ = some (.int .u32 (z.held.getD j 0)) := by
  rw [row_cell h.row, show 3 + j = j + 1 + 1 + 1 by omega]
  have hl := h.len
  simp only [mxCells, List.getElem?_toArray, List.getElem?_cons_succ]
  rw [List.getElem?_append_left (by simp; omega), List.getD_eq_getElem?_getD, List.getElem?_map, List.getElem?_eq_getElem (by omega)]
  rfl
theorem PAt.tail (h : PAt w M b z) (i : Nat) : w.cell? ⟨M, 19 + i, none⟩ = [Value.int .u16 z.msk, .int .i64 z.pc, .int .i64 z.st, .int .u32 z.ret, .bool z.done][i]? := by
  rw [row_cell h.row, show 19 + i = (16 + i) + 1 + 1 + 1 by omega]
  have hl := h.len
  simp only [mxCells, List.getElem?_toArray, List.getElem?_cons_succ]
  rw [List.getElem?_append_right (by simp; omega)]
  simp [hl]
theorem PAt.cmsk (h : PAt w M b z) : w.cell? ⟨M, 19, none⟩ = some (.int .u16 z.msk) := h.tail 0
theorem PAt.cpc (h : PAt w M b z) : w.cell? ⟨M, 20, none⟩ = some (.int .i64 z.pc) := h.tail 1
theorem PAt.cst (h : PAt w M b z) : w.cell? ⟨M, 21, none⟩ = some (.int .i64 z.st) := h.tail 2
theorem PAt.cret (h : PAt w M b z) : w.cell? ⟨M, 22, none⟩ = some (.int .u32 z.ret) := h.tail 3
theorem PAt.cdone (h : PAt w M b z) : w.cell? ⟨M, 23, none⟩ = some (.bool z.done) := h.tail 4
theorem PAt.put (h : PAt w M b z) (i : Nat) (v : Value) {z' : Mx} (hz : z'.held.length = 16) (e : (mxCells b z).set i v = mxCells b z') : PAt (w.setCell ⟨M, i, none⟩ v) M b z' := by
  have hr := row_put h.row i v
  rw [List.setIfInBounds_toArray, e] at hr
  exact ⟨hr, hz⟩
theorem PAt.setA (h : PAt w M b z) (v : Int) : PAt (w.setCell ⟨M, 1, none⟩ (.int .u32 v)) M b { z with a := v } := h.put 1 _ h.len rfl
theorem PAt.setX (h : PAt w M b z) (v : Int) : PAt (w.setCell ⟨M, 2, none⟩ (.int .u32 v)) M b { z with x := v } := h.put 2 _ h.len rfl
theorem PAt.setHeld (h : PAt w M b z) {j : Nat} (hj : j < 16) (v : Int) : PAt (w.setCell ⟨M, 3 + j, none⟩ (.int .u32 v)) M b { z with held := z.held.set j v } := by
  have hl := h.len
  refine h.put _ _ (by simpa using hl) ?_
  rw [show 3 + j = j + 1 + 1 + 1 by omega]
  simp only [mxCells, List.set_cons_succ, List.map_set]
  rw [List.set_append_left _ _ (by simp; omega)]
theorem set_tail {z : Mx} {b : ByteArray} (hl : z.held.length = 16) (i : Nat) (v : Value) : (mxCells b z).set (19 + i) v = .string b :: .int .u32 z.a :: .int .u32 z.x :: (z.held.map (Value.int .u32) ++ [Value.int .u16 z.msk, .int .i64 z.pc, .int .i64 z.st, .int .u32 z.ret, .bool z.done].set i v) := by
  rw [show 19 + i = (16 + i) + 1 + 1 + 1 by omega]
  simp only [mxCells, List.set_cons_succ]
  rw [List.set_append_right _ _ (by simp; omega)]
  simp [hl]
theorem PAt.setMsk (h : PAt w M b z) (v : Int) : PAt (w.setCell ⟨M, 19, none⟩ (.int .u16 v)) M b { z with msk := v } := h.put 19 _ h.len (set_tail h.len 0 _)
theorem PAt.setPc (h : PAt w M b z) (v : Int) : PAt (w.setCell ⟨M, 20, none⟩ (.int .i64 v)) M b { z with pc := v } := h.put 20 _ h.len (set_tail h.len 1 _)
theorem PAt.setSt (h : PAt w M b z) (v : Int) : PAt (w.setCell ⟨M, 21, none⟩ (.int .i64 v)) M b { z with st := v } := h.put 21 _ h.len (set_tail h.len 2 _)
theorem PAt.setRet (h : PAt w M b z) (v : Int) : PAt (w.setCell ⟨M, 22, none⟩ (.int .u32 v)) M b { z with ret := v } := h.put 22 _ h.len (set_tail h.len 3 _)
theorem PAt.setDone (h : PAt w M b z) (v : Bool) : PAt (w.setCell ⟨M, 23, none⟩ (.bool v)) M b { z with done := v } := h.put 23 _ h.len (set_tail h.len 4 _)
end
/-- An error, or none. -/
def errV (c : Int) : Value := if c = 0 then .nilIface else .iface 124 (.agg #[.int .i64 c])
/-- A word was done (code 0), or could not be. -/
def PPost (b : ByteArray) (z' : Mx) (c : Int) (M : Nat) (w : World) (e : Ending) (w' : World) : Prop := e = .returned (errV c) ∧ PAt w' M b z' ∧ KeepM M M M w w'

/-- Does a word take X? -/
def takesX (c : Int) : Bool := bits .and .i64 c 8 != 0
def operV (z : Mx) (c k : Int) : Int := if takesX c then z.x else k
theorem operand_any (b : ByteArray) (z : Mx) (c y n k : Int) (M : Nat) (w : World) (h : PAt w M b z) (hk : In32 k) :
    Calls Tryz.prog 133 #[.pointer (some ⟨M, 0, none⟩), .agg #[.int .i64 c, .int .i64 y, .int .i64 n, .int .i64 k]] w fun e w' => e = .returned (.int .u32 (operV z c k)) ∧ Below w.heap.size w w' := by
  have hb0 := (Below.refl w.heap.size w).alloc (Nat.le_refl _) (.cells #[.int .i64 c, .int .i64 y, .int .i64 n, .int .i64 k] 66)
  have c2 := (h.below hb0).cx
  have HB := Lib.hid hb0
  unfold In32 at hk
  have hkw : IntKind.u32.wrap k = k := wraps_u32 k (by omega) (by omega)
  cases ht : takesX c
  · have HR := Lib.hid (show operV z c k = k by unfold operV; rw [ht]; rfl)
    unfold takesX at ht
    clear h hb0
    go_enter Tryz.func133, Tryz.ntmps133
    go_wp2_with fail
    go_ret
    exact ⟨ret_int HR.out.symm, HB.out⟩
  · have HR := Lib.hid (show operV z c k = z.x by unfold operV; rw [ht]; rfl)
    unfold takesX at ht
    clear h hb0
    go_enter Tryz.func133, Tryz.ntmps133
    go_wp2_with fail
    go_ret
    exact ⟨ret_int HR.out.symm, HB.out⟩

theorem KeepM.setM {M : Nat} {w wa : World} (h : Below w.heap.size w wa) (i : Nat) (v : Value) : KeepM M M M w (wa.setCell ⟨M, i, none⟩ v) := (KeepM.of h).set (p := ⟨M, i, none⟩) (.inl rfl) v
theorem p_fin {b : ByteArray} {z' : Mx} {M : Nat} {w wa : World} (h : PAt wa M b z') (hk : KeepM M M M w wa) : PPost b z' 0 M w (.returned .nilIface) wa := ⟨rfl, h, hk⟩
theorem p_err {b : ByteArray} {z' : Mx} {c : Int} {M : Nat} {w wa : World} (hc : c ≠ 0) (h : PAt wa M b z') (hk : KeepM M M M w wa) : PPost b z' c M w (.returned (.iface 124 (.agg #[.int .i64 c]))) wa := ⟨by unfold errV; rw [if_neg hc], h, hk⟩

end Go.Proofs.YtekmnopgaopmlaaGreatDoor
