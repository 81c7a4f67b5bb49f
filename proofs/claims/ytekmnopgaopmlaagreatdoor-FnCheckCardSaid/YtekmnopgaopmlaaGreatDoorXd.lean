/- Texts of one proof, put together: Pa Vb Vc Va Pc Vd Ve Vf Vg Vh Vk Vi Vj. -/
import Derived.Test.YtekmnopgaopmlaaGreatDoorXa
import Derived.Test.YtekmnopgaopmlaaGreatDoorXb
import Derived.Test.YtekmnopgaopmlaaGreatDoorXc
import Derived.Test.YtekmnopgaopmlaaGreatDoorXe
import Derived.Test.YtekmnopgaopmlaaGreatDoorXf
import Derived.Lib.EndianBits
import Derived.Deep.RegionLaw
import Derived.IntWalk
import Derived.Laws.Tables
import Derived.Laws.Rows
import Derived.Laws.EntriesVeiled
import Derived.Deep.LoopGhost

/- The program's machine: where it lies; what a word takes. -/
set_option maxRecDepth 100000
set_option linter.unusedSimpArgs false
set_option linter.unusedVariables false
namespace Go.Proofs.YtekmnopgaopmlaaGreatDoor
open Go.RowKit

/-- The program's machine. -/
structure Mx where
  a : Int
  x : Int
  held : List Int
  msk : Int
  pc : Int
  st : Int
  ret : Int
  done : Bool
def mxCells (b : ByteArray) (z : Mx) : List Value := .string b :: .int .u32 z.a :: .int .u32 z.x :: (z.held.map (Value.int .u32) ++ [.int .u16 z.msk, .int .i64 z.pc, .int .i64 z.st, .int .u32 z.ret, .bool z.done])
structure PAt (w : World) (M : Nat) (b : ByteArray) (z : Mx) : Prop where
  row : w.heap[M]? = some (.cells (mxCells b z).toArray 90 (0, 0))
  len : z.held.length = 16
section
variable {w w' : World} {M : Nat} {b : ByteArray} {z : Mx}
theorem PAt.below (h : PAt w M b z) (hb : Below w.heap.size w w') : PAt w' M b z := ⟨(hb.block _ (row_here h.row)).trans h.row, h.len⟩
theorem PAt.alloc (h : PAt w M b z) (o : Obj) : PAt (w.alloc o) M b z := ⟨row_alloc h.row o, h.len⟩
theorem PAt.drew (h : PAt w M b z) : PAt w.drew M b z := ⟨h.row, h.len⟩
theorem PAt.drewN (h : PAt w M b z) : ∀ n, PAt (w.drewN n) M b z
  | 0 => h
  | n + 1 => (PAt.drewN h n).drew
theorem PAt.free (h : PAt w M b z) (i : Nat) : w.frozen? ⟨M, i, none⟩ = false := frozen_row h.row i
theorem PAt.bytes (h : PAt w M b z) : w.cell? ⟨M, 0, none⟩ = some (.string b) := by rw [row_cell h.row]; rfl
theorem PAt.ca (h : PAt w M b z) : w.cell? ⟨M, 1, none⟩ = some (.int .u32 z.a) := by rw [row_cell h.row]; rfl
theorem PAt.cx (h : PAt w M b z) : w.cell? ⟨M, 2, none⟩ = some (.int .u32 z.x) := by rw [row_cell h.row]; rfl
theorem PAt.cheld (h : PAt w M b z) {j : Nat} (hj : j < 16) : w.cell? ⟨M, 3 + j, none⟩ = some (.int .u32 (z.held.getD j 0)) := by
  rw [row_cell h.row, show 3 + j = j + 1 + 1 + 1 by omega]
  have hl := h.len
  simp only [mxCells, List.getElem?_toArray, List.getElem?_cons_succ]
  rw [List.getElem?_append_left (by simp; omega), List.getD_eq_getElem?_getD, List.getElem?_map, List.getElem?_eq_getElem (by omega)]
  rfl
theorem PAt.tail (h : PAt w M b z) (i : Nat) : w.cell? ⟨M, 19 + i, none⟩ = [Value.int .u16 z.msk, .int .i64 z.pc, .int .i64 z.st, .int .u32 z.ret, .bool z.done][i]? := by
  rw [row_cell h.row, show 19 + i = (16 + i) + 1 + 1 + 1 by omega]
  have hl := h.len
  simp only [mxCells, List.getElem?_toArray, List.getElem?_cons_succ]
  rw [List.getElem?_append_right (by simp; omega)]
  simp [hl]
theorem PAt.cmsk (h : PAt w M b z) : w.cell? ⟨M, 19, none⟩ = some (.int .u16 z.msk) := h.tail 0
theorem PAt.cpc (h : PAt w M b z) : w.cell? ⟨M, 20, none⟩ = some (.int .i64 z.pc) := h.tail 1
theorem PAt.cst (h : PAt w M b z) : w.cell? ⟨M, 21, none⟩ = some (.int .i64 z.st) := h.tail 2
theorem PAt.cret (h : PAt w M b z) : w.cell? ⟨M, 22, none⟩ = some (.int .u32 z.ret) := h.tail 3
theorem PAt.cdone (h : PAt w M b z) : w.cell? ⟨M, 23, none⟩ = some (.bool z.done) := h.tail 4
theorem PAt.put (h : PAt w M b z) (i : Nat) (v : Value) {z' : Mx} (hz : z'.held.length = 16) (e : (mxCells b z).set i v = mxCells b z') : PAt (w.setCell ⟨M, i, none⟩ v) M b z' := by
  have hr := row_put h.row i v
  rw [List.setIfInBounds_toArray, e] at hr
  exact ⟨hr, hz⟩
theorem PAt.setA (h : PAt w M b z) (v : Int) : PAt (w.setCell ⟨M, 1, none⟩ (.int .u32 v)) M b { z with a := v } := h.put 1 _ h.len rfl
theorem PAt.setX (h : PAt w M b z) (v : Int) : PAt (w.setCell ⟨M, 2, none⟩ (.int .u32 v)) M b { z with x := v } := h.put 2 _ h.len rfl
theorem PAt.setHeld (h : PAt w M b z) {j : Nat} (hj : j < 16) (v : Int) : PAt (w.setCell ⟨M, 3 + j, none⟩ (.int .u32 v)) M b { z with held := z.held.set j v } := by
  have hl := h.len
  refine h.put _ _ (by simpa using hl) ?_
  rw [show 3 + j = j + 1 + 1 + 1 by omega]
  simp only [mxCells, List.set_cons_succ, List.map_set]
  rw [List.set_append_left _ _ (by simp; omega)]
theorem set_tail {z : Mx} {b : ByteArray} (hl : z.held.length = 16) (i : Nat) (v : Value) : (mxCells b z).set (19 + i) v = .string b :: .int .u32 z.a :: .int .u32 z.x :: (z.held.map (Value.int .u32) ++ [Value.int .u16 z.msk, .int .i64 z.pc, .int .i64 z.st, .int .u32 z.ret, .bool z.done].set i v) := by
  rw [show 19 + i = (16 + i) + 1 + 1 + 1 by omega]
  simp only [mxCells, List.set_cons_succ]
  rw [List.set_append_right _ _ (by simp; omega)]
  simp [hl]
theorem PAt.setMsk (h : PAt w M b z) (v : Int) : PAt (w.setCell ⟨M, 19, none⟩ (.int .u16 v)) M b { z with msk := v } := h.put 19 _ h.len (set_tail h.len 0 _)
theorem PAt.setPc (h : PAt w M b z) (v : Int) : PAt (w.setCell ⟨M, 20, none⟩ (.int .i64 v)) M b { z with pc := v } := h.put 20 _ h.len (set_tail h.len 1 _)
theorem PAt.setSt (h : PAt w M b z) (v : Int) : PAt (w.setCell ⟨M, 21, none⟩ (.int .i64 v)) M b { z with st := v } := h.put 21 _ h.len (set_tail h.len 2 _)
theorem PAt.setRet (h : PAt w M b z) (v : Int) : PAt (w.setCell ⟨M, 22, none⟩ (.int .u32 v)) M b { z with ret := v } := h.put 22 _ h.len (set_tail h.len 3 _)
theorem PAt.setDone (h : PAt w M b z) (v : Bool) : PAt (w.setCell ⟨M, 23, none⟩ (.bool v)) M b { z with done := v } := h.put 23 _ h.len (set_tail h.len 4 _)
end
/-- An error, or none. -/
def errV (c : Int) : Value := if c = 0 then .nilIface else .iface 124 (.agg #[.int .i64 c])
/-- A word was done (code 0), or could not be. -/
def PPost (b : ByteArray) (z' : Mx) (c : Int) (M : Nat) (w : World) (e : Ending) (w' : World) : Prop := e = .returned (errV c) ∧ PAt w' M b z' ∧ KeepM M M M w w'

/-- Does a word take X? -/
def takesX (c : Int) : Bool := bits .and .i64 c 8 != 0
def operV (z : Mx) (c k : Int) : Int := if takesX c then z.x else k
theorem operand_any (b : ByteArray) (z : Mx) (c y n k : Int) (M : Nat) (w : World) (h : PAt w M b z) (hk : In32 k) :
    Calls Tryz.prog 133 #[.pointer (some ⟨M, 0, none⟩), .agg #[.int .i64 c, .int .i64 y, .int .i64 n, .int .i64 k]] w fun e w' => e = .returned (.int .u32 (operV z c k)) ∧ Below w.heap.size w w' := by
  have hb0 := (Below.refl w.heap.size w).alloc (Nat.le_refl _) (.cells #[.int .i64 c, .int .i64 y, .int .i64 n, .int .i64 k] 66)
  have c2 := (h.below hb0).cx
  have HB := Lib.hid hb0
  unfold In32 at hk
  have hkw : IntKind.u32.wrap k = k := wraps_u32 k (by omega) (by omega)
  cases ht : takesX c
  · have HR := Lib.hid (show operV z c k = k by unfold operV; rw [ht]; rfl)
    unfold takesX at ht
    clear h hb0
    go_enter Tryz.func133, Tryz.ntmps133
    go_wp2_with fail
    go_ret
    exact ⟨ret_int HR.out.symm, HB.out⟩
  · have HR := Lib.hid (show operV z c k = z.x by unfold operV; rw [ht]; rfl)
    unfold takesX at ht
    clear h hb0
    go_enter Tryz.func133, Tryz.ntmps133
    go_wp2_with fail
    go_ret
    exact ⟨ret_int HR.out.symm, HB.out⟩

theorem KeepM.setM {M : Nat} {w wa : World} (h : Below w.heap.size w wa) (i : Nat) (v : Value) : KeepM M M M w (wa.setCell ⟨M, i, none⟩ v) := (KeepM.of h).set (p := ⟨M, i, none⟩) (.inl rfl) v
theorem p_fin {b : ByteArray} {z' : Mx} {M : Nat} {w wa : World} (h : PAt wa M b z') (hk : KeepM M M M w wa) : PPost b z' 0 M w (.returned .nilIface) wa := ⟨rfl, h, hk⟩
theorem p_err {b : ByteArray} {z' : Mx} {c : Int} {M : Nat} {w wa : World} (hc : c ≠ 0) (h : PAt wa M b z') (hk : KeepM M M M w wa) : PPost b z' c M w (.returned (.iface 124 (.agg #[.int .i64 c]))) wa := ⟨by unfold errV; rw [if_neg hc], h, hk⟩

end Go.Proofs.YtekmnopgaopmlaaGreatDoor

/- The program's words at a cell. -/
set_option maxRecDepth 100000
set_option linter.unusedSimpArgs false
set_option linter.unusedVariables false
namespace Go.Proofs.YtekmnopgaopmlaaGreatDoor
open Go.RowKit

/-- Is a cell written, by the mask? -/
def mskBit (msk k : Int) : Int := bits .and .u16 (msk / 2 ^ k.toNat) 1
theorem cell_far (b : ByteArray) (z : Mx) (k : Int) (M : Nat) (w : World) (h : PAt w M b z) (hk : 15 < k) :
    Calls Tryz.prog 131 #[.pointer (some ⟨M, 0, none⟩), .int .i64 k] w fun e w' => e = .returned (.tuple #[.int .u32 0, errV 8]) ∧ w = w' := by
  have hz : decide (16 ≤ k) = true := decide_eq_true (by omega)
  clear h
  go_enter Tryz.func131, Tryz.ntmps131
  go_wp2_with fail
  go_ret2
  exact ⟨rfl, rfl⟩
theorem cell_un (b : ByteArray) (z : Mx) (k : Int) (M : Nat) (w : World) (h : PAt w M b z) (h0 : 0 ≤ k) (hk : k ≤ 15) (hm : 0 ≤ z.msk ∧ z.msk ≤ 65535) (hq : mskBit z.msk k = 0) :
    Calls Tryz.prog 131 #[.pointer (some ⟨M, 0, none⟩), .int .i64 k] w fun e w' => e = .returned (.tuple #[.int .u32 0, errV 6]) ∧ w = w' := by
  have hz : decide (16 ≤ k) = false := decide_eq_false (by omega)
  have c := h.cmsk
  unfold mskBit at hq
  clear h
  go_enter Tryz.func131, Tryz.ntmps131
  go_wp2_with fail
  go_ret2
  exact ⟨rfl, rfl⟩
theorem cell_ok (b : ByteArray) (z : Mx) (k : Int) (M : Nat) (w : World) (h : PAt w M b z) (h0 : 0 ≤ k) (hk : k ≤ 15) (hm : 0 ≤ z.msk ∧ z.msk ≤ 65535) (hq : mskBit z.msk k = 1) :
    Calls Tryz.prog 131 #[.pointer (some ⟨M, 0, none⟩), .int .i64 k] w fun e w' => e = .returned (.tuple #[.int .u32 (z.held.getD k.toNat 0), errV 0]) ∧ w = w' := by
  have hz : decide (16 ≤ k) = false := decide_eq_false (by omega)
  have c := h.cmsk
  unfold mskBit at hq
  obtain ⟨j, rfl⟩ := Int.eq_ofNat_of_zero_le h0
  have hj : j < 16 := by omega
  have d := h.cheld hj
  simp only [Int.toNat_natCast] at hq ⊢
  generalize z.held.getD j 0 = hv at *
  clear h h0
  go_enter Tryz.func131, Tryz.ntmps131
  go_wp2_with fail
  go_ret2
  exact ⟨rfl, rfl⟩

set_option maxHeartbeats 1600000 in
theorem setCell_far (b : ByteArray) (z : Mx) (k v : Int) (M : Nat) (w : World) (h : PAt w M b z) (hk : 15 < k) :
    Calls Tryz.prog 132 #[.pointer (some ⟨M, 0, none⟩), .int .i64 k, .int .u32 v] w (PPost b z 8 M w) := by
  have hz : decide (16 ≤ k) = true := decide_eq_true (by omega)
  have HF := Lib.hid (p_err (c := 8) (by decide) h (KeepM.refl M M M w))
  clear h
  go_enter Tryz.func132, Tryz.ntmps132
  go_wp2_with fail
  go_ret
  exact HF.out
set_option maxHeartbeats 1600000 in
theorem setCell_ok (b : ByteArray) (z : Mx) (k v r : Int) (M : Nat) (w : World) (h : PAt w M b z) (h0 : 0 ≤ k) (hk : k ≤ 15) (hr : bits .or .u16 z.msk (IntKind.u16.wrap (2 ^ k.toNat)) = r) :
    Calls Tryz.prog 132 #[.pointer (some ⟨M, 0, none⟩), .int .i64 k, .int .u32 v] w (PPost b { z with held := z.held.set k.toNat v, msk := r } 0 M w) := by
  have hz : decide (16 ≤ k) = false := decide_eq_false (by omega)
  obtain ⟨j, rfl⟩ := Int.eq_ofNat_of_zero_le h0
  have hj : j < 16 := by omega
  simp only [Int.toNat_natCast] at hr ⊢
  have d := h.cheld hj
  have f := h.free (3 + j)
  have hs := h.setHeld hj v
  have c := hs.cmsk
  have fm := hs.free 19
  have HF := Lib.hid (p_fin (hs.setMsk r) (((KeepM.refl M M M w).set (p := ⟨M, 3 + j, none⟩) (.inl rfl) (.int .u32 v)).set (p := ⟨M, 19, none⟩) (.inl rfl) (.int .u16 r)))
  have HFD := Lib.hid (p_fin (hs.drew.setMsk r) (((KeepM.refl M M M w).set (p := ⟨M, 3 + j, none⟩) (.inl rfl) (.int .u32 v)).drew.set (p := ⟨M, 19, none⟩) (.inl rfl) (.int .u16 r)))
  clear h h0 hs
  go_enter Tryz.func132, Tryz.ntmps132
  go_wp2_with fail
  go_region_law ((fail))
  all_goals
    go_wp2_with fail
    go_ret
    first | exact HF.out | exact HFD.out

end Go.Proofs.YtekmnopgaopmlaaGreatDoor

/- The program's words at a cell, those that look, leap and end (made by tools/mk_vc.py). -/
set_option maxRecDepth 100000
set_option linter.unusedSimpArgs false
set_option linter.unusedVariables false
namespace Go.Proofs.YtekmnopgaopmlaaGreatDoor
open Go.RowKit

set_option maxHeartbeats 1600000 in
theorem p_Mem (b : ByteArray) (z : Mx) (c y n k : Int) (M : Nat) (w : World) (h : PAt w M b z) (hk : In32 k) (v ec : Int) (hc : ∀ W, PAt W M b z → Calls Tryz.prog 131 #[.pointer (some ⟨M, 0, none⟩), .int .i64 k] W fun e w' => e = .returned (.tuple #[.int .u32 v, errV ec]) ∧ W = w') :
    Calls Tryz.prog 98 #[.pointer (some ⟨M, 0, none⟩), .agg #[.int .i64 c, .int .i64 y, .int .i64 n, .int .i64 k]] w (PPost b { z with a := v } ec M w) := by
  have hb0 := (Below.refl w.heap.size w).alloc (Nat.le_refl _) (.cells #[.int .i64 c, .int .i64 y, .int .i64 n, .int .i64 k] 66)
  have hp0 := h.below hb0
  have HP := Lib.hid hp0
  have HB := Lib.hid hb0
  have HC := Lib.hid (hc _ hp0)
  have fm := hp0.free 1
  have c1 := hp0.ca
  have c2 := hp0.cx
  have HF := Lib.hid (show ∀ ev, ev = errV ec → PPost b { z with a := v } ec M w (.returned ev) ((w.alloc (.cells #[.int .i64 c, .int .i64 y, .int .i64 n, .int .i64 k] 66)).setCell ⟨M, 1, none⟩ (.int .u32 v)) from fun ev he => ⟨by rw [he], hp0.setA v, KeepM.setM hb0 1 _⟩)
  obtain ⟨ev, hev⟩ : ∃ ev, ev = errV ec := ⟨_, rfl⟩
  rw [← hev] at HC
  have HE := Lib.hid hev
  clear h hb0 hp0 hc hev
  go_enter Tryz.func98, Tryz.ntmps98
  go_wp2_with fail
  refine HC.out.mono ?_
  rintro e w1 ⟨rfl, rfl⟩
  go_wp2_with fail
  go_ret
  exact HF.out _ HE.out

set_option maxHeartbeats 1600000 in
theorem p_MemX (b : ByteArray) (z : Mx) (c y n k : Int) (M : Nat) (w : World) (h : PAt w M b z) (hk : In32 k) (v ec : Int) (hc : ∀ W, PAt W M b z → Calls Tryz.prog 131 #[.pointer (some ⟨M, 0, none⟩), .int .i64 k] W fun e w' => e = .returned (.tuple #[.int .u32 v, errV ec]) ∧ W = w') :
    Calls Tryz.prog 99 #[.pointer (some ⟨M, 0, none⟩), .agg #[.int .i64 c, .int .i64 y, .int .i64 n, .int .i64 k]] w (PPost b { z with x := v } ec M w) := by
  have hb0 := (Below.refl w.heap.size w).alloc (Nat.le_refl _) (.cells #[.int .i64 c, .int .i64 y, .int .i64 n, .int .i64 k] 66)
  have hp0 := h.below hb0
  have HP := Lib.hid hp0
  have HB := Lib.hid hb0
  have HC := Lib.hid (hc _ hp0)
  have fm := hp0.free 2
  have c1 := hp0.ca
  have c2 := hp0.cx
  have HF := Lib.hid (show ∀ ev, ev = errV ec → PPost b { z with x := v } ec M w (.returned ev) ((w.alloc (.cells #[.int .i64 c, .int .i64 y, .int .i64 n, .int .i64 k] 66)).setCell ⟨M, 2, none⟩ (.int .u32 v)) from fun ev he => ⟨by rw [he], hp0.setX v, KeepM.setM hb0 2 _⟩)
  obtain ⟨ev, hev⟩ : ∃ ev, ev = errV ec := ⟨_, rfl⟩
  rw [← hev] at HC
  have HE := Lib.hid hev
  clear h hb0 hp0 hc hev
  go_enter Tryz.func99, Tryz.ntmps99
  go_wp2_with fail
  refine HC.out.mono ?_
  rintro e w1 ⟨rfl, rfl⟩
  go_wp2_with fail
  go_ret
  exact HF.out _ HE.out

set_option maxHeartbeats 1600000 in
theorem p_Store (b : ByteArray) (z : Mx) (c y n k : Int) (M : Nat) (w : World) (h : PAt w M b z) (hk : In32 k) (z' : Mx) (ec : Int) (hc : ∀ W, PAt W M b z → Calls Tryz.prog 132 #[.pointer (some ⟨M, 0, none⟩), .int .i64 k, .int .u32 z.a] W (PPost b z' ec M W)) :
    Calls Tryz.prog 100 #[.pointer (some ⟨M, 0, none⟩), .agg #[.int .i64 c, .int .i64 y, .int .i64 n, .int .i64 k]] w (PPost b z' ec M w) := by
  have hb0 := (Below.refl w.heap.size w).alloc (Nat.le_refl _) (.cells #[.int .i64 c, .int .i64 y, .int .i64 n, .int .i64 k] 66)
  have hp0 := h.below hb0
  have HP := Lib.hid hp0
  have HB := Lib.hid hb0
  have HC := Lib.hid (hc _ hp0.drew)
  have c1 := hp0.ca
  clear h hp0 hb0 hc
  go_enter Tryz.func100, Tryz.ntmps100
  go_wp2_with fail
  go_region_law ((go_simp; go_at_call 132; (with_reducible refine HC.out.mono ?_); rintro e w3 ⟨rfl, hp3, hk3⟩; obtain ⟨ev, hev⟩ : ∃ ev, ev = errV ec := ⟨_, rfl⟩; rw [← hev]; have HEV := Lib.hid hev; have HP3 := Lib.hid hp3; have HK3 := Lib.hid hk3; clear hev hp3 hk3; dsimp only))
  all_goals
    go_wp2_with fail
    go_ret
    exact ⟨by rw [HEV.out]; rfl, HP3.out, (KeepM.of HB.out.drew).trans HK3.out⟩

set_option maxHeartbeats 1600000 in
theorem p_StoreX (b : ByteArray) (z : Mx) (c y n k : Int) (M : Nat) (w : World) (h : PAt w M b z) (hk : In32 k) (z' : Mx) (ec : Int) (hc : ∀ W, PAt W M b z → Calls Tryz.prog 132 #[.pointer (some ⟨M, 0, none⟩), .int .i64 k, .int .u32 z.x] W (PPost b z' ec M W)) :
    Calls Tryz.prog 101 #[.pointer (some ⟨M, 0, none⟩), .agg #[.int .i64 c, .int .i64 y, .int .i64 n, .int .i64 k]] w (PPost b z' ec M w) := by
  have hb0 := (Below.refl w.heap.size w).alloc (Nat.le_refl _) (.cells #[.int .i64 c, .int .i64 y, .int .i64 n, .int .i64 k] 66)
  have hp0 := h.below hb0
  have HP := Lib.hid hp0
  have HB := Lib.hid hb0
  have HC := Lib.hid (hc _ hp0.drew)
  have c1 := hp0.cx
  clear h hp0 hb0 hc
  go_enter Tryz.func101, Tryz.ntmps101
  go_wp2_with fail
  go_region_law ((go_simp; go_at_call 132; (with_reducible refine HC.out.mono ?_); rintro e w3 ⟨rfl, hp3, hk3⟩; obtain ⟨ev, hev⟩ : ∃ ev, ev = errV ec := ⟨_, rfl⟩; rw [← hev]; have HEV := Lib.hid hev; have HP3 := Lib.hid hp3; have HK3 := Lib.hid hk3; clear hev hp3 hk3; dsimp only))
  all_goals
    go_wp2_with fail
    go_ret
    exact ⟨by rw [HEV.out]; rfl, HP3.out, (KeepM.of HB.out.drew).trans HK3.out⟩

set_option maxHeartbeats 1600000 in
theorem p_end (b : ByteArray) (z : Mx) (v : Int) (M : Nat) (w : World) (h : PAt w M b z) :
    Calls Tryz.prog 135 #[.pointer (some ⟨M, 0, none⟩), .int .u32 v] w (PPost b { z with ret := v, done := true } 0 M w) := by
  have c0 := h.cret
  have f0 := h.free 22
  have hs := h.setRet v
  have c1 := hs.cdone
  have f1 := hs.free 23
  have HF := Lib.hid (p_fin (hs.setDone true) (((KeepM.refl M M M w).set (p := ⟨M, 22, none⟩) (.inl rfl) (.int .u32 v)).set (p := ⟨M, 23, none⟩) (.inl rfl) (.bool true)))
  clear h hs
  go_enter Tryz.func135, Tryz.ntmps135
  go_wp2_with fail
  go_ret
  exact HF.out

set_option maxHeartbeats 1600000 in
theorem p_EndK (b : ByteArray) (z : Mx) (c y n k : Int) (M : Nat) (w : World) (h : PAt w M b z) (hk : In32 k) :
    Calls Tryz.prog 117 #[.pointer (some ⟨M, 0, none⟩), .agg #[.int .i64 c, .int .i64 y, .int .i64 n, .int .i64 k]] w (PPost b { z with ret := k, done := true } 0 M w) := by
  have hb0 := (Below.refl w.heap.size w).alloc (Nat.le_refl _) (.cells #[.int .i64 c, .int .i64 y, .int .i64 n, .int .i64 k] 66)
  have hp0 := h.below hb0
  have HP := Lib.hid hp0
  have HB := Lib.hid hb0
  have HC := Lib.hid (p_end b z k M _ hp0)
  have HC2 := Lib.hid (p_end b z k M _ hp0.drew)
  have c1 := hp0.ca
  unfold In32 at hk
  have hkw : IntKind.u32.wrap k = k := wraps_u32 k (by omega) (by omega)
  clear h hp0 hb0
  go_enter Tryz.func117, Tryz.ntmps117
  go_wp2_with fail
  refine HC.out.mono ?_
  rintro e w3 ⟨rfl, hp3, hk3⟩
  have HP3 := Lib.hid hp3
  have HK3 := Lib.hid hk3
  clear hp3 hk3
  go_wp2_with fail
  go_ret
  exact ⟨rfl, HP3.out, (KeepM.of HB.out).trans HK3.out⟩

set_option maxHeartbeats 1600000 in
theorem p_EndA (b : ByteArray) (z : Mx) (c y n k : Int) (M : Nat) (w : World) (h : PAt w M b z) (hk : In32 k) :
    Calls Tryz.prog 118 #[.pointer (some ⟨M, 0, none⟩), .agg #[.int .i64 c, .int .i64 y, .int .i64 n, .int .i64 k]] w (PPost b { z with ret := z.a, done := true } 0 M w) := by
  have hb0 := (Below.refl w.heap.size w).alloc (Nat.le_refl _) (.cells #[.int .i64 c, .int .i64 y, .int .i64 n, .int .i64 k] 66)
  have hp0 := h.below hb0
  have HP := Lib.hid hp0
  have HB := Lib.hid hb0
  have HC := Lib.hid (p_end b z z.a M _ hp0)
  have HC2 := Lib.hid (p_end b z z.a M _ hp0.drew)
  have c1 := hp0.ca
  unfold In32 at hk
  have hkw : IntKind.u32.wrap k = k := wraps_u32 k (by omega) (by omega)
  clear h hp0 hb0
  go_enter Tryz.func118, Tryz.ntmps118
  go_wp2_with fail
  refine HC.out.mono ?_
  rintro e w3 ⟨rfl, hp3, hk3⟩
  have HP3 := Lib.hid hp3
  have HK3 := Lib.hid hk3
  clear hp3 hk3
  go_wp2_with fail
  go_ret
  exact ⟨rfl, HP3.out, (KeepM.of HB.out).trans HK3.out⟩

set_option maxHeartbeats 1600000 in
theorem p_Jump (b : ByteArray) (z : Mx) (c y n k : Int) (M : Nat) (w : World) (h : PAt w M b z) (hk : In32 k) (hp : 0 ≤ z.pc ∧ z.pc ≤ 4294967296) :
    Calls Tryz.prog 112 #[.pointer (some ⟨M, 0, none⟩), .agg #[.int .i64 c, .int .i64 y, .int .i64 n, .int .i64 k]] w (PPost b { z with pc := z.pc + k } 0 M w) := by
  have hb0 := (Below.refl w.heap.size w).alloc (Nat.le_refl _) (.cells #[.int .i64 c, .int .i64 y, .int .i64 n, .int .i64 k] 66)
  have hp0 := h.below hb0
  have HP := Lib.hid hp0
  have HB := Lib.hid hb0
  have c1 := hp0.cpc
  have fm := hp0.free 20
  unfold In32 at hk
  have e1 : IntKind.i64.wrap (z.pc + k) = z.pc + k := IntWalk.i64_in _ (by omega)
  have HF := Lib.hid (p_fin (hp0.setPc (z.pc + k)) (KeepM.setM hb0 20 (.int .i64 (z.pc + k))))
  have HFD := Lib.hid (p_fin (hp0.drew.setPc (z.pc + k)) (KeepM.setM hb0.drew 20 (.int .i64 (z.pc + k))))
  clear h hp0 hb0
  go_enter Tryz.func112, Tryz.ntmps112
  go_wp2_with fail
  go_region_law ((fail))
  all_goals
    go_wp2_with fail
    go_ret
    first | exact HF.out | exact HFD.out

set_option maxHeartbeats 1600000 in
theorem p_goOn_yes (b : ByteArray) (z : Mx) (c y n k : Int) (M : Nat) (w : World) (h : PAt w M b z) (hy : 0 ≤ y ∧ y ≤ 255) (hp : 0 ≤ z.pc ∧ z.pc ≤ 4294967296) :
    Calls Tryz.prog 134 #[.pointer (some ⟨M, 0, none⟩), .agg #[.int .i64 c, .int .i64 y, .int .i64 n, .int .i64 k], .bool true] w (PPost b { z with pc := z.pc + y } 0 M w) := by
  have hb0 := (Below.refl w.heap.size w).alloc (Nat.le_refl _) (.cells #[.int .i64 c, .int .i64 y, .int .i64 n, .int .i64 k] 66)
  have hp0 := h.below hb0
  have c1 := hp0.cpc
  have fm := hp0.free 20
  have e1 : IntKind.i64.wrap (z.pc + y) = z.pc + y := IntWalk.i64_in _ (by omega)
  have HF := Lib.hid (p_fin (hp0.setPc (z.pc + y)) (KeepM.setM hb0 20 (.int .i64 (z.pc + y))))
  have HFD := Lib.hid (p_fin (hp0.drew.setPc (z.pc + y)) (KeepM.setM hb0.drew 20 (.int .i64 (z.pc + y))))
  clear h hp0 hb0
  go_enter Tryz.func134, Tryz.ntmps134
  go_wp2_with fail
  go_region_law ((fail))
  all_goals
    go_wp2_with fail
    go_ret
    first | exact HF.out | exact HFD.out

set_option maxHeartbeats 1600000 in
theorem p_goOn_no (b : ByteArray) (z : Mx) (c y n k : Int) (M : Nat) (w : World) (h : PAt w M b z) (hy : 0 ≤ n ∧ n ≤ 255) (hp : 0 ≤ z.pc ∧ z.pc ≤ 4294967296) :
    Calls Tryz.prog 134 #[.pointer (some ⟨M, 0, none⟩), .agg #[.int .i64 c, .int .i64 y, .int .i64 n, .int .i64 k], .bool false] w (PPost b { z with pc := z.pc + n } 0 M w) := by
  have hb0 := (Below.refl w.heap.size w).alloc (Nat.le_refl _) (.cells #[.int .i64 c, .int .i64 y, .int .i64 n, .int .i64 k] 66)
  have hp0 := h.below hb0
  have c1 := hp0.cpc
  have fm := hp0.free 20
  have e1 : IntKind.i64.wrap (z.pc + n) = z.pc + n := IntWalk.i64_in _ (by omega)
  have HF := Lib.hid (p_fin (hp0.setPc (z.pc + n)) (KeepM.setM hb0 20 (.int .i64 (z.pc + n))))
  have HFD := Lib.hid (p_fin (hp0.drew.setPc (z.pc + n)) (KeepM.setM hb0.drew 20 (.int .i64 (z.pc + n))))
  clear h hp0 hb0
  go_enter Tryz.func134, Tryz.ntmps134
  go_wp2_with fail
  go_region_law ((fail))
  all_goals
    go_wp2_with fail
    go_ret
    first | exact HF.out | exact HFD.out

theorem p_goOn (b : ByteArray) (z : Mx) (c y n k : Int) (t : Bool) (M : Nat) (w : World) (h : PAt w M b z) (hy : 0 ≤ y ∧ y ≤ 255) (hn : 0 ≤ n ∧ n ≤ 255) (hp : 0 ≤ z.pc ∧ z.pc ≤ 4294967296) :
    Calls Tryz.prog 134 #[.pointer (some ⟨M, 0, none⟩), .agg #[.int .i64 c, .int .i64 y, .int .i64 n, .int .i64 k], .bool t] w (PPost b { z with pc := z.pc + if t then y else n } 0 M w) := by
  cases t
  · exact p_goOn_no b z c y n k M w h hn hp
  · exact p_goOn_yes b z c y n k M w h hy hp

set_option maxHeartbeats 1600000 in
theorem p_Eq (b : ByteArray) (z : Mx) (c y n k : Int) (M : Nat) (w : World) (h : PAt w M b z) (hk : In32 k) (hy : 0 ≤ y ∧ y ≤ 255) (hn : 0 ≤ n ∧ n ≤ 255) (hp : 0 ≤ z.pc ∧ z.pc ≤ 4294967296) (t : Bool) (ht : (z.a == operV z c k) = t) :
    Calls Tryz.prog 113 #[.pointer (some ⟨M, 0, none⟩), .agg #[.int .i64 c, .int .i64 y, .int .i64 n, .int .i64 k]] w (PPost b { z with pc := z.pc + if t then y else n } 0 M w) := by
  have hb0 := (Below.refl w.heap.size w).alloc (Nat.le_refl _) (.cells #[.int .i64 c, .int .i64 y, .int .i64 n, .int .i64 k] 66)
  have hp0 := h.below hb0
  have HP := Lib.hid hp0
  have HB := Lib.hid hb0
  have c1 := hp0.ca
  have QO := Lib.hid (operand_any b z c y n k M (w.alloc (.cells #[.int .i64 c, .int .i64 y, .int .i64 n, .int .i64 k] 66)).drew hp0.drew hk)
  have QG := Lib.hid (fun W (hW : PAt W M b z) => p_goOn b z c y n k t M W hW hy hn hp)
  have HX0 : Hid ((w.alloc (.cells #[.int .i64 c, .int .i64 y, .int .i64 n, .int .i64 k] 66)).drew.heap[w.heap.size]? = some (.cells #[.int .i64 c, .int .i64 y, .int .i64 n, .int .i64 k] 66 (0, 0))) := Lib.hid (alloc_new_at w _ _ rfl)
  have HZ := Lib.hid (rfl : { z with pc := z.pc + if t then y else n } = { z with pc := z.pc + if t then y else n })
  generalize { z with pc := z.pc + if t then y else n } = z' at *
  generalize operV z c k = v at *
  clear h hp0 hb0 HZ
  go_enter Tryz.func113, Tryz.ntmps113
  go_wp2_with fail
  go_region_law (first
    | ((go_simp; go_at_call 133; (with_reducible refine QO.out.mono ?_); rintro e w3 ⟨rfl, hb3⟩; have HP3 := Lib.hid (HP.out.drew.below hb3); have HB3 := Lib.hid (HB.out.drew.trans (hb3.mono HB.out.drew.size)); have c1 := HP3.out.ca; have hX3 := (hb3.block _ (row_here HX0.out)).trans HX0.out; have d0 := row_cell hX3 0; have d1 := row_cell hX3 1; have d2 := row_cell hX3 2; have d3 := row_cell hX3 3; simp only [List.getElem?_toArray, List.getElem?_cons_zero, List.getElem?_cons_succ] at d0 d1 d2 d3; clear hb3 hX3; dsimp only))
    | ((go_simp; go_at_call 134; (with_reducible refine (QG.out _ HP3.out).mono ?_); rintro e w4 ⟨rfl, hp4, hk4⟩; have HP4 := Lib.hid hp4; have HK4 := Lib.hid hk4; clear hp4 hk4; dsimp only)))
  all_goals
    go_wp2_with fail
    go_ret
    exact ⟨rfl, HP4.out, (KeepM.of HB3.out).trans HK4.out⟩

set_option maxHeartbeats 1600000 in
theorem p_Gt (b : ByteArray) (z : Mx) (c y n k : Int) (M : Nat) (w : World) (h : PAt w M b z) (hk : In32 k) (hy : 0 ≤ y ∧ y ≤ 255) (hn : 0 ≤ n ∧ n ≤ 255) (hp : 0 ≤ z.pc ∧ z.pc ≤ 4294967296) (t : Bool) (ht : decide (operV z c k < z.a) = t) :
    Calls Tryz.prog 114 #[.pointer (some ⟨M, 0, none⟩), .agg #[.int .i64 c, .int .i64 y, .int .i64 n, .int .i64 k]] w (PPost b { z with pc := z.pc + if t then y else n } 0 M w) := by
  have hb0 := (Below.refl w.heap.size w).alloc (Nat.le_refl _) (.cells #[.int .i64 c, .int .i64 y, .int .i64 n, .int .i64 k] 66)
  have hp0 := h.below hb0
  have HP := Lib.hid hp0
  have HB := Lib.hid hb0
  have c1 := hp0.ca
  have QO := Lib.hid (operand_any b z c y n k M (w.alloc (.cells #[.int .i64 c, .int .i64 y, .int .i64 n, .int .i64 k] 66)).drew hp0.drew hk)
  have QG := Lib.hid (fun W (hW : PAt W M b z) => p_goOn b z c y n k t M W hW hy hn hp)
  have HX0 : Hid ((w.alloc (.cells #[.int .i64 c, .int .i64 y, .int .i64 n, .int .i64 k] 66)).drew.heap[w.heap.size]? = some (.cells #[.int .i64 c, .int .i64 y, .int .i64 n, .int .i64 k] 66 (0, 0))) := Lib.hid (alloc_new_at w _ _ rfl)
  have HZ := Lib.hid (rfl : { z with pc := z.pc + if t then y else n } = { z with pc := z.pc + if t then y else n })
  generalize { z with pc := z.pc + if t then y else n } = z' at *
  generalize operV z c k = v at *
  clear h hp0 hb0 HZ
  go_enter Tryz.func114, Tryz.ntmps114
  go_wp2_with fail
  go_region_law (first
    | ((go_simp; go_at_call 133; (with_reducible refine QO.out.mono ?_); rintro e w3 ⟨rfl, hb3⟩; have HP3 := Lib.hid (HP.out.drew.below hb3); have HB3 := Lib.hid (HB.out.drew.trans (hb3.mono HB.out.drew.size)); have c1 := HP3.out.ca; have hX3 := (hb3.block _ (row_here HX0.out)).trans HX0.out; have d0 := row_cell hX3 0; have d1 := row_cell hX3 1; have d2 := row_cell hX3 2; have d3 := row_cell hX3 3; simp only [List.getElem?_toArray, List.getElem?_cons_zero, List.getElem?_cons_succ] at d0 d1 d2 d3; clear hb3 hX3; dsimp only))
    | ((go_simp; go_at_call 134; (with_reducible refine (QG.out _ HP3.out).mono ?_); rintro e w4 ⟨rfl, hp4, hk4⟩; have HP4 := Lib.hid hp4; have HK4 := Lib.hid hk4; clear hp4 hk4; dsimp only)))
  all_goals
    go_wp2_with fail
    go_ret
    exact ⟨rfl, HP4.out, (KeepM.of HB3.out).trans HK4.out⟩

set_option maxHeartbeats 1600000 in
theorem p_Ge (b : ByteArray) (z : Mx) (c y n k : Int) (M : Nat) (w : World) (h : PAt w M b z) (hk : In32 k) (hy : 0 ≤ y ∧ y ≤ 255) (hn : 0 ≤ n ∧ n ≤ 255) (hp : 0 ≤ z.pc ∧ z.pc ≤ 4294967296) (t : Bool) (ht : decide (operV z c k ≤ z.a) = t) :
    Calls Tryz.prog 115 #[.pointer (some ⟨M, 0, none⟩), .agg #[.int .i64 c, .int .i64 y, .int .i64 n, .int .i64 k]] w (PPost b { z with pc := z.pc + if t then y else n } 0 M w) := by
  have hb0 := (Below.refl w.heap.size w).alloc (Nat.le_refl _) (.cells #[.int .i64 c, .int .i64 y, .int .i64 n, .int .i64 k] 66)
  have hp0 := h.below hb0
  have HP := Lib.hid hp0
  have HB := Lib.hid hb0
  have c1 := hp0.ca
  have QO := Lib.hid (operand_any b z c y n k M (w.alloc (.cells #[.int .i64 c, .int .i64 y, .int .i64 n, .int .i64 k] 66)).drew hp0.drew hk)
  have QG := Lib.hid (fun W (hW : PAt W M b z) => p_goOn b z c y n k t M W hW hy hn hp)
  have HX0 : Hid ((w.alloc (.cells #[.int .i64 c, .int .i64 y, .int .i64 n, .int .i64 k] 66)).drew.heap[w.heap.size]? = some (.cells #[.int .i64 c, .int .i64 y, .int .i64 n, .int .i64 k] 66 (0, 0))) := Lib.hid (alloc_new_at w _ _ rfl)
  have HZ := Lib.hid (rfl : { z with pc := z.pc + if t then y else n } = { z with pc := z.pc + if t then y else n })
  generalize { z with pc := z.pc + if t then y else n } = z' at *
  generalize operV z c k = v at *
  clear h hp0 hb0 HZ
  go_enter Tryz.func115, Tryz.ntmps115
  go_wp2_with fail
  go_region_law (first
    | ((go_simp; go_at_call 133; (with_reducible refine QO.out.mono ?_); rintro e w3 ⟨rfl, hb3⟩; have HP3 := Lib.hid (HP.out.drew.below hb3); have HB3 := Lib.hid (HB.out.drew.trans (hb3.mono HB.out.drew.size)); have c1 := HP3.out.ca; have hX3 := (hb3.block _ (row_here HX0.out)).trans HX0.out; have d0 := row_cell hX3 0; have d1 := row_cell hX3 1; have d2 := row_cell hX3 2; have d3 := row_cell hX3 3; simp only [List.getElem?_toArray, List.getElem?_cons_zero, List.getElem?_cons_succ] at d0 d1 d2 d3; clear hb3 hX3; dsimp only))
    | ((go_simp; go_at_call 134; (with_reducible refine (QG.out _ HP3.out).mono ?_); rintro e w4 ⟨rfl, hp4, hk4⟩; have HP4 := Lib.hid hp4; have HK4 := Lib.hid hk4; clear hp4 hk4; dsimp only)))
  all_goals
    go_wp2_with fail
    go_ret
    exact ⟨rfl, HP4.out, (KeepM.of HB3.out).trans HK4.out⟩

set_option maxHeartbeats 1600000 in
theorem p_Set (b : ByteArray) (z : Mx) (c y n k : Int) (M : Nat) (w : World) (h : PAt w M b z) (hk : In32 k) (hy : 0 ≤ y ∧ y ≤ 255) (hn : 0 ≤ n ∧ n ≤ 255) (hp : 0 ≤ z.pc ∧ z.pc ≤ 4294967296) (t : Bool) (ht : (bits .and .u32 z.a (operV z c k) != 0) = t) :
    Calls Tryz.prog 116 #[.pointer (some ⟨M, 0, none⟩), .agg #[.int .i64 c, .int .i64 y, .int .i64 n, .int .i64 k]] w (PPost b { z with pc := z.pc + if t then y else n } 0 M w) := by
  have hb0 := (Below.refl w.heap.size w).alloc (Nat.le_refl _) (.cells #[.int .i64 c, .int .i64 y, .int .i64 n, .int .i64 k] 66)
  have hp0 := h.below hb0
  have HP := Lib.hid hp0
  have HB := Lib.hid hb0
  have c1 := hp0.ca
  have QO := Lib.hid (operand_any b z c y n k M (w.alloc (.cells #[.int .i64 c, .int .i64 y, .int .i64 n, .int .i64 k] 66)).drew hp0.drew hk)
  have QG := Lib.hid (fun W (hW : PAt W M b z) => p_goOn b z c y n k t M W hW hy hn hp)
  have HX0 : Hid ((w.alloc (.cells #[.int .i64 c, .int .i64 y, .int .i64 n, .int .i64 k] 66)).drew.heap[w.heap.size]? = some (.cells #[.int .i64 c, .int .i64 y, .int .i64 n, .int .i64 k] 66 (0, 0))) := Lib.hid (alloc_new_at w _ _ rfl)
  have HZ := Lib.hid (rfl : { z with pc := z.pc + if t then y else n } = { z with pc := z.pc + if t then y else n })
  generalize { z with pc := z.pc + if t then y else n } = z' at *
  generalize operV z c k = v at *
  clear h hp0 hb0 HZ
  go_enter Tryz.func116, Tryz.ntmps116
  go_wp2_with fail
  go_region_law (first
    | ((go_simp; go_at_call 133; (with_reducible refine QO.out.mono ?_); rintro e w3 ⟨rfl, hb3⟩; have HP3 := Lib.hid (HP.out.drew.below hb3); have HB3 := Lib.hid (HB.out.drew.trans (hb3.mono HB.out.drew.size)); have c1 := HP3.out.ca; have hX3 := (hb3.block _ (row_here HX0.out)).trans HX0.out; have d0 := row_cell hX3 0; have d1 := row_cell hX3 1; have d2 := row_cell hX3 2; have d3 := row_cell hX3 3; simp only [List.getElem?_toArray, List.getElem?_cons_zero, List.getElem?_cons_succ] at d0 d1 d2 d3; clear hb3 hX3; dsimp only))
    | ((go_simp; go_at_call 134; (with_reducible refine (QG.out _ HP3.out).mono ?_); rintro e w4 ⟨rfl, hp4, hk4⟩; have HP4 := Lib.hid hp4; have HK4 := Lib.hid hk4; clear hp4 hk4; dsimp only)))
  all_goals
    go_wp2_with fail
    go_ret
    exact ⟨rfl, HP4.out, (KeepM.of HB3.out).trans HK4.out⟩

end Go.Proofs.YtekmnopgaopmlaaGreatDoor

/- The program's words that change A or X without a cell (made by tools/mk_va.py). -/
set_option maxRecDepth 100000
set_option linter.unusedSimpArgs false
set_option linter.unusedVariables false
namespace Go.Proofs.YtekmnopgaopmlaaGreatDoor
open Go.RowKit

set_option maxHeartbeats 1600000 in
theorem p_Imm (b : ByteArray) (z : Mx) (c y n k : Int) (M : Nat) (w : World) (h : PAt w M b z) (hk : In32 k) :
    Calls Tryz.prog 96 #[.pointer (some ⟨M, 0, none⟩), .agg #[.int .i64 c, .int .i64 y, .int .i64 n, .int .i64 k]] w (PPost b { z with a := k } 0 M w) := by
  have hb0 := (Below.refl w.heap.size w).alloc (Nat.le_refl _) (.cells #[.int .i64 c, .int .i64 y, .int .i64 n, .int .i64 k] 66)
  have hp0 := h.below hb0
  have HP := Lib.hid hp0
  have HB := Lib.hid hb0
  unfold In32 at hk
  have hkw : IntKind.u32.wrap k = k := wraps_u32 k (by omega) (by omega)
  have fm := hp0.free 1
  have c1 := hp0.ca
  have HF := Lib.hid (p_fin (hp0.setA k) (KeepM.setM hb0 1 (.int .u32 k)))
  have HFD := Lib.hid (p_fin (hp0.drew.setA k) (KeepM.setM hb0.drew 1 (.int .u32 k)))
  clear h hb0 hp0
  go_enter Tryz.func96, Tryz.ntmps96
  first
    | (go_wp2_with fail
       go_ret
       exact HF.out)
    | (go_wp2_with fail
       go_region_law ((fail))
       all_goals
         go_wp2_with fail
         go_ret
         first | exact HF.out | exact HFD.out)

set_option maxHeartbeats 1600000 in
theorem p_ImmX (b : ByteArray) (z : Mx) (c y n k : Int) (M : Nat) (w : World) (h : PAt w M b z) (hk : In32 k) :
    Calls Tryz.prog 97 #[.pointer (some ⟨M, 0, none⟩), .agg #[.int .i64 c, .int .i64 y, .int .i64 n, .int .i64 k]] w (PPost b { z with x := k } 0 M w) := by
  have hb0 := (Below.refl w.heap.size w).alloc (Nat.le_refl _) (.cells #[.int .i64 c, .int .i64 y, .int .i64 n, .int .i64 k] 66)
  have hp0 := h.below hb0
  have HP := Lib.hid hp0
  have HB := Lib.hid hb0
  unfold In32 at hk
  have hkw : IntKind.u32.wrap k = k := wraps_u32 k (by omega) (by omega)
  have fm := hp0.free 2
  have c1 := hp0.cx
  have HF := Lib.hid (p_fin (hp0.setX k) (KeepM.setM hb0 2 (.int .u32 k)))
  have HFD := Lib.hid (p_fin (hp0.drew.setX k) (KeepM.setM hb0.drew 2 (.int .u32 k)))
  clear h hb0 hp0
  go_enter Tryz.func97, Tryz.ntmps97
  first
    | (go_wp2_with fail
       go_ret
       exact HF.out)
    | (go_wp2_with fail
       go_region_law ((fail))
       all_goals
         go_wp2_with fail
         go_ret
         first | exact HF.out | exact HFD.out)

set_option maxHeartbeats 1600000 in
theorem p_Tax (b : ByteArray) (z : Mx) (c y n k : Int) (M : Nat) (w : World) (h : PAt w M b z) (hk : In32 k) :
    Calls Tryz.prog 119 #[.pointer (some ⟨M, 0, none⟩), .agg #[.int .i64 c, .int .i64 y, .int .i64 n, .int .i64 k]] w (PPost b { z with x := z.a } 0 M w) := by
  have hb0 := (Below.refl w.heap.size w).alloc (Nat.le_refl _) (.cells #[.int .i64 c, .int .i64 y, .int .i64 n, .int .i64 k] 66)
  have hp0 := h.below hb0
  have HP := Lib.hid hp0
  have HB := Lib.hid hb0
  have fm := hp0.free 2
  have c1 := hp0.ca
  have c2 := hp0.cx
  have HF := Lib.hid (p_fin (hp0.setX z.a) (KeepM.setM hb0 2 (.int .u32 z.a)))
  have HFD := Lib.hid (p_fin (hp0.drew.setX z.a) (KeepM.setM hb0.drew 2 (.int .u32 z.a)))
  clear h hb0 hp0
  go_enter Tryz.func119, Tryz.ntmps119
  first
    | (go_wp2_with fail
       go_ret
       exact HF.out)
    | (go_wp2_with fail
       go_region_law ((fail))
       all_goals
         go_wp2_with fail
         go_ret
         first | exact HF.out | exact HFD.out)

set_option maxHeartbeats 1600000 in
theorem p_Txa (b : ByteArray) (z : Mx) (c y n k : Int) (M : Nat) (w : World) (h : PAt w M b z) (hk : In32 k) :
    Calls Tryz.prog 120 #[.pointer (some ⟨M, 0, none⟩), .agg #[.int .i64 c, .int .i64 y, .int .i64 n, .int .i64 k]] w (PPost b { z with a := z.x } 0 M w) := by
  have hb0 := (Below.refl w.heap.size w).alloc (Nat.le_refl _) (.cells #[.int .i64 c, .int .i64 y, .int .i64 n, .int .i64 k] 66)
  have hp0 := h.below hb0
  have HP := Lib.hid hp0
  have HB := Lib.hid hb0
  have fm := hp0.free 1
  have c1 := hp0.ca
  have c2 := hp0.cx
  have HF := Lib.hid (p_fin (hp0.setA z.x) (KeepM.setM hb0 1 (.int .u32 z.x)))
  have HFD := Lib.hid (p_fin (hp0.drew.setA z.x) (KeepM.setM hb0.drew 1 (.int .u32 z.x)))
  clear h hb0 hp0
  go_enter Tryz.func120, Tryz.ntmps120
  first
    | (go_wp2_with fail
       go_ret
       exact HF.out)
    | (go_wp2_with fail
       go_region_law ((fail))
       all_goals
         go_wp2_with fail
         go_ret
         first | exact HF.out | exact HFD.out)

set_option maxHeartbeats 1600000 in
theorem p_Neg (b : ByteArray) (z : Mx) (c y n k : Int) (M : Nat) (w : World) (h : PAt w M b z) (hk : In32 k) (r : Int) (hr : IntKind.u32.wrap (-z.a) = r) :
    Calls Tryz.prog 110 #[.pointer (some ⟨M, 0, none⟩), .agg #[.int .i64 c, .int .i64 y, .int .i64 n, .int .i64 k]] w (PPost b { z with a := r } 0 M w) := by
  have hb0 := (Below.refl w.heap.size w).alloc (Nat.le_refl _) (.cells #[.int .i64 c, .int .i64 y, .int .i64 n, .int .i64 k] 66)
  have hp0 := h.below hb0
  have HP := Lib.hid hp0
  have HB := Lib.hid hb0
  have fm := hp0.free 1
  have c1 := hp0.ca
  have HF := Lib.hid (p_fin (hp0.setA r) (KeepM.setM hb0 1 (.int .u32 r)))
  have HFD := Lib.hid (p_fin (hp0.drew.setA r) (KeepM.setM hb0.drew 1 (.int .u32 r)))
  clear h hb0 hp0
  go_enter Tryz.func110, Tryz.ntmps110
  first
    | (go_wp2_with fail
       go_ret
       exact HF.out)
    | (go_wp2_with fail
       go_region_law ((fail))
       all_goals
         go_wp2_with fail
         go_ret
         first | exact HF.out | exact HFD.out)

set_option maxHeartbeats 1600000 in
theorem p_Left (b : ByteArray) (z : Mx) (c y n k : Int) (M : Nat) (w : World) (h : PAt w M b z) (hk : In32 k) (h31 : k ≤ 31) (r : Int) (ha : In32 z.a) (hr : IntKind.u32.wrap (z.a * 2 ^ k.toNat) = r) :
    Calls Tryz.prog 108 #[.pointer (some ⟨M, 0, none⟩), .agg #[.int .i64 c, .int .i64 y, .int .i64 n, .int .i64 k]] w (PPost b { z with a := r } 0 M w) := by
  have hb0 := (Below.refl w.heap.size w).alloc (Nat.le_refl _) (.cells #[.int .i64 c, .int .i64 y, .int .i64 n, .int .i64 k] 66)
  have hp0 := h.below hb0
  have HP := Lib.hid hp0
  have HB := Lib.hid hb0
  have fm := hp0.free 1
  have c1 := hp0.ca
  unfold In32 at hk ha
  have hz : decide (31 < k) = false := decide_eq_false (by omega)
  have HF := Lib.hid (p_fin (hp0.setA r) (KeepM.setM hb0 1 (.int .u32 r)))
  have HFD := Lib.hid (p_fin (hp0.drew.setA r) (KeepM.setM hb0.drew 1 (.int .u32 r)))
  clear h hb0 hp0
  go_enter Tryz.func108, Tryz.ntmps108
  first
    | (go_wp2_with fail
       go_ret
       exact HF.out)
    | (go_wp2_with fail
       go_region_law ((fail))
       all_goals
         go_wp2_with fail
         go_ret
         first | exact HF.out | exact HFD.out)

set_option maxHeartbeats 1600000 in
theorem p_Left_no (b : ByteArray) (z : Mx) (c y n k : Int) (M : Nat) (w : World) (h : PAt w M b z) (hk : In32 k) (h31 : 31 < k) :
    Calls Tryz.prog 108 #[.pointer (some ⟨M, 0, none⟩), .agg #[.int .i64 c, .int .i64 y, .int .i64 n, .int .i64 k]] w (PPost b z 8 M w) := by
  have hb0 := (Below.refl w.heap.size w).alloc (Nat.le_refl _) (.cells #[.int .i64 c, .int .i64 y, .int .i64 n, .int .i64 k] 66)
  have hp0 := h.below hb0
  have HP := Lib.hid hp0
  have HB := Lib.hid hb0
  have HF := Lib.hid (p_err (c := 8) (by decide) hp0 (KeepM.of (M := M) (C := M) (H := M) hb0))
  unfold In32 at hk
  have hz : decide (31 < k) = true := decide_eq_true (by omega)
  clear h hb0 hp0
  go_enter Tryz.func108, Tryz.ntmps108
  go_wp2_with fail
  go_ret
  exact HF.out

set_option maxHeartbeats 1600000 in
theorem p_Right (b : ByteArray) (z : Mx) (c y n k : Int) (M : Nat) (w : World) (h : PAt w M b z) (hk : In32 k) (h31 : k ≤ 31) (r : Int) (ha : In32 z.a) (hr : z.a / 2 ^ k.toNat = r) :
    Calls Tryz.prog 109 #[.pointer (some ⟨M, 0, none⟩), .agg #[.int .i64 c, .int .i64 y, .int .i64 n, .int .i64 k]] w (PPost b { z with a := r } 0 M w) := by
  have hb0 := (Below.refl w.heap.size w).alloc (Nat.le_refl _) (.cells #[.int .i64 c, .int .i64 y, .int .i64 n, .int .i64 k] 66)
  have hp0 := h.below hb0
  have HP := Lib.hid hp0
  have HB := Lib.hid hb0
  have fm := hp0.free 1
  have c1 := hp0.ca
  unfold In32 at hk ha
  have hz : decide (31 < k) = false := decide_eq_false (by omega)
  have HF := Lib.hid (p_fin (hp0.setA r) (KeepM.setM hb0 1 (.int .u32 r)))
  have HFD := Lib.hid (p_fin (hp0.drew.setA r) (KeepM.setM hb0.drew 1 (.int .u32 r)))
  clear h hb0 hp0
  go_enter Tryz.func109, Tryz.ntmps109
  first
    | (go_wp2_with fail
       go_ret
       exact HF.out)
    | (go_wp2_with fail
       go_region_law ((fail))
       all_goals
         go_wp2_with fail
         go_ret
         first | exact HF.out | exact HFD.out)

set_option maxHeartbeats 1600000 in
theorem p_Right_no (b : ByteArray) (z : Mx) (c y n k : Int) (M : Nat) (w : World) (h : PAt w M b z) (hk : In32 k) (h31 : 31 < k) :
    Calls Tryz.prog 109 #[.pointer (some ⟨M, 0, none⟩), .agg #[.int .i64 c, .int .i64 y, .int .i64 n, .int .i64 k]] w (PPost b z 8 M w) := by
  have hb0 := (Below.refl w.heap.size w).alloc (Nat.le_refl _) (.cells #[.int .i64 c, .int .i64 y, .int .i64 n, .int .i64 k] 66)
  have hp0 := h.below hb0
  have HP := Lib.hid hp0
  have HB := Lib.hid hb0
  have HF := Lib.hid (p_err (c := 8) (by decide) hp0 (KeepM.of (M := M) (C := M) (H := M) hb0))
  unfold In32 at hk
  have hz : decide (31 < k) = true := decide_eq_true (by omega)
  clear h hb0 hp0
  go_enter Tryz.func109, Tryz.ntmps109
  go_wp2_with fail
  go_ret
  exact HF.out

set_option maxHeartbeats 1600000 in
theorem p_Div (b : ByteArray) (z : Mx) (c y n k : Int) (M : Nat) (w : World) (h : PAt w M b z) (hk : In32 k) (r : Int) (hv : operV z c k ≠ 0) (hv0 : 0 ≤ operV z c k) (ha : 0 ≤ z.a) (hr : z.a.tdiv (operV z c k) % 4294967296 = r) :
    Calls Tryz.prog 105 #[.pointer (some ⟨M, 0, none⟩), .agg #[.int .i64 c, .int .i64 y, .int .i64 n, .int .i64 k]] w (PPost b { z with a := r } 0 M w) := by
  have hb0 := (Below.refl w.heap.size w).alloc (Nat.le_refl _) (.cells #[.int .i64 c, .int .i64 y, .int .i64 n, .int .i64 k] 66)
  have hp0 := h.below hb0
  have HP := Lib.hid hp0
  have HB := Lib.hid hb0
  have c1 := hp0.ca
  have QO := Lib.hid (operand_any b z c y n k M (w.alloc (.cells #[.int .i64 c, .int .i64 y, .int .i64 n, .int .i64 k] 66)) hp0 hk)
  generalize operV z c k = v at *
  have hz : (v == 0) = false := by simpa using hv
  clear h hb0 hp0
  go_enter Tryz.func105, Tryz.ntmps105
  go_wp2_with fail
  refine QO.out.mono ?_
  rintro e w3 ⟨rfl, hb3⟩
  have c1 := (HP.out.below hb3).ca
  have fm := (HP.out.below hb3).free 1
  have HF := Lib.hid (p_fin ((HP.out.below hb3).setA r) (KeepM.setM (HB.out.trans (hb3.mono HB.out.size)) 1 (.int .u32 r)))
  clear hb3
  go_wp2_with fail
  go_ret
  exact HF.out

set_option maxHeartbeats 1600000 in
theorem p_Div_no (b : ByteArray) (z : Mx) (c y n k : Int) (M : Nat) (w : World) (h : PAt w M b z) (hk : In32 k) (hv : operV z c k = 0) :
    Calls Tryz.prog 105 #[.pointer (some ⟨M, 0, none⟩), .agg #[.int .i64 c, .int .i64 y, .int .i64 n, .int .i64 k]] w (PPost b z 8 M w) := by
  have hb0 := (Below.refl w.heap.size w).alloc (Nat.le_refl _) (.cells #[.int .i64 c, .int .i64 y, .int .i64 n, .int .i64 k] 66)
  have hp0 := h.below hb0
  have HP := Lib.hid hp0
  have HB := Lib.hid hb0
  have QO := Lib.hid (operand_any b z c y n k M (w.alloc (.cells #[.int .i64 c, .int .i64 y, .int .i64 n, .int .i64 k] 66)) hp0 hk)
  rw [hv] at QO
  clear h hb0 hp0 hv
  go_enter Tryz.func105, Tryz.ntmps105
  go_wp2_with fail
  refine QO.out.mono ?_
  rintro e w3 ⟨rfl, hb3⟩
  have HF := Lib.hid (p_err (c := 8) (by decide) (HP.out.below hb3) (KeepM.of (M := M) (C := M) (H := M) (HB.out.trans (hb3.mono HB.out.size))))
  clear hb3
  go_wp2_with fail
  go_ret
  exact HF.out

set_option maxHeartbeats 1600000 in
theorem p_Load (b : ByteArray) (z : Mx) (c y n k : Int) (M : Nat) (w : World) (h : PAt w M b z) (hk : In32 k) (hb : b.size ≤ maxLen) (hl : ¬ loadB b k < 0) :
    Calls Tryz.prog 95 #[.pointer (some ⟨M, 0, none⟩), .agg #[.int .i64 c, .int .i64 y, .int .i64 n, .int .i64 k]] w (PPost b { z with a := loadB b k } 0 M w) := by
  have hb0 := (Below.refl w.heap.size w).alloc (Nat.le_refl _) (.cells #[.int .i64 c, .int .i64 y, .int .i64 n, .int .i64 k] 66)
  have hp0 := h.below hb0
  have HP := Lib.hid hp0
  have HB := Lib.hid hb0
  have c0 := hp0.bytes
  have c1 := hp0.ca
  have fm := hp0.free 1
  unfold In32 at hk
  have QL := Lib.hid (fun W => implLoad_any b k W hb (by omega) (by omega))
  have hv := loadB_in hl
  unfold In32 at hv
  generalize loadB b k = v at *
  have hw : IntKind.u32.wrap v = v := wraps_u32 v (by omega) (by omega)
  have hz : decide (v < 0) = false := decide_eq_false hl
  have HF := Lib.hid (p_fin (hp0.setA v) (KeepM.setM hb0 1 (.int .u32 v)))
  have HFD := Lib.hid (fun q => p_fin ((hp0.drewN q).setA v) (KeepM.setM (below_drawn hb0 q) 1 (.int .u32 v)))
  clear h hb0 hp0
  go_enter Tryz.func95, Tryz.ntmps95
  go_wp2_with fail
  go_quiet ((go_at_call 130; exact Calls.quiet_of_same (((QL.out _).mono (fun _ _ h => ⟨h.1, h.2.symm⟩)))))
  go_wp2_with fail
  go_ret
  first | exact HF.out | exact HFD.out _

set_option maxHeartbeats 1600000 in
theorem p_Load_no (b : ByteArray) (z : Mx) (c y n k : Int) (M : Nat) (w : World) (h : PAt w M b z) (hk : In32 k) (hb : b.size ≤ maxLen) (hl : loadB b k < 0) :
    Calls Tryz.prog 95 #[.pointer (some ⟨M, 0, none⟩), .agg #[.int .i64 c, .int .i64 y, .int .i64 n, .int .i64 k]] w (PPost b z 8 M w) := by
  have hb0 := (Below.refl w.heap.size w).alloc (Nat.le_refl _) (.cells #[.int .i64 c, .int .i64 y, .int .i64 n, .int .i64 k] 66)
  have hp0 := h.below hb0
  have HP := Lib.hid hp0
  have HB := Lib.hid hb0
  have c0 := hp0.bytes
  have c1 := hp0.ca
  have fm := hp0.free 1
  unfold In32 at hk
  have QL := Lib.hid (fun W => implLoad_any b k W hb (by omega) (by omega))
  generalize loadB b k = v at *
  have hz : decide (v < 0) = true := decide_eq_true hl
  have HFD := Lib.hid (fun q => p_err (c := 8) (by decide) (hp0.drewN q) (KeepM.of (M := M) (C := M) (H := M) (below_drawn hb0 q)))
  clear h hb0 hp0
  go_enter Tryz.func95, Tryz.ntmps95
  go_wp2_with fail
  go_quiet ((go_at_call 130; exact Calls.quiet_of_same (((QL.out _).mono (fun _ _ h => ⟨h.1, h.2.symm⟩)))))
  go_wp2_with fail
  go_ret
  exact HFD.out _

end Go.Proofs.YtekmnopgaopmlaaGreatDoor

/- The program's words that put A and an operand together (made by tools/mk_pc.py). -/
set_option maxRecDepth 100000
set_option linter.unusedSimpArgs false
set_option linter.unusedVariables false
namespace Go.Proofs.YtekmnopgaopmlaaGreatDoor
open Go.RowKit

set_option maxHeartbeats 1600000 in
theorem p_Add (b : ByteArray) (z : Mx) (c y n k r : Int) (M : Nat) (w : World) (h : PAt w M b z) (hk : In32 k) (hr : IntKind.u32.wrap (z.a + operV z c k) = r) :
    Calls Tryz.prog 102 #[.pointer (some ⟨M, 0, none⟩), .agg #[.int .i64 c, .int .i64 y, .int .i64 n, .int .i64 k]] w (PPost b { z with a := r } 0 M w) := by
  have hb0 := (Below.refl w.heap.size w).alloc (Nat.le_refl _) (.cells #[.int .i64 c, .int .i64 y, .int .i64 n, .int .i64 k] 66)
  have hp0 := h.below hb0
  have c1 := hp0.ca
  have HP := Lib.hid hp0
  have QO := Lib.hid (operand_any b z c y n k M (w.alloc (.cells #[.int .i64 c, .int .i64 y, .int .i64 n, .int .i64 k] 66)).drew hp0.drew hk)
  have HB := Lib.hid hb0
  generalize operV z c k = v at *
  clear h hb0 hp0
  go_enter Tryz.func102, Tryz.ntmps102
  go_wp2_with fail
  go_region_law ((go_simp; go_at_call 133; (with_reducible refine QO.out.mono ?_); rintro e w3 ⟨rfl, hb3⟩; have c1 := (HP.out.drew.below hb3).ca; have fm := (HP.out.drew.below hb3).free 1; dsimp only))
  all_goals
    have HF := Lib.hid (p_fin ((HP.out.drew.below hb3).setA r) (KeepM.setM (HB.out.drew.trans (hb3.mono HB.out.drew.size)) 1 (.int .u32 r)))
    clear hb3 c1 fm
    go_wp2_with fail
    go_ret
    exact HF.out

set_option maxHeartbeats 1600000 in
theorem p_Sub (b : ByteArray) (z : Mx) (c y n k r : Int) (M : Nat) (w : World) (h : PAt w M b z) (hk : In32 k) (hr : IntKind.u32.wrap (z.a - operV z c k) = r) :
    Calls Tryz.prog 103 #[.pointer (some ⟨M, 0, none⟩), .agg #[.int .i64 c, .int .i64 y, .int .i64 n, .int .i64 k]] w (PPost b { z with a := r } 0 M w) := by
  have hb0 := (Below.refl w.heap.size w).alloc (Nat.le_refl _) (.cells #[.int .i64 c, .int .i64 y, .int .i64 n, .int .i64 k] 66)
  have hp0 := h.below hb0
  have c1 := hp0.ca
  have HP := Lib.hid hp0
  have QO := Lib.hid (operand_any b z c y n k M (w.alloc (.cells #[.int .i64 c, .int .i64 y, .int .i64 n, .int .i64 k] 66)).drew hp0.drew hk)
  have HB := Lib.hid hb0
  generalize operV z c k = v at *
  clear h hb0 hp0
  go_enter Tryz.func103, Tryz.ntmps103
  go_wp2_with fail
  go_region_law ((go_simp; go_at_call 133; (with_reducible refine QO.out.mono ?_); rintro e w3 ⟨rfl, hb3⟩; have c1 := (HP.out.drew.below hb3).ca; have fm := (HP.out.drew.below hb3).free 1; dsimp only))
  all_goals
    have HF := Lib.hid (p_fin ((HP.out.drew.below hb3).setA r) (KeepM.setM (HB.out.drew.trans (hb3.mono HB.out.drew.size)) 1 (.int .u32 r)))
    clear hb3 c1 fm
    go_wp2_with fail
    go_ret
    exact HF.out

set_option maxHeartbeats 1600000 in
theorem p_Mul (b : ByteArray) (z : Mx) (c y n k r : Int) (M : Nat) (w : World) (h : PAt w M b z) (hk : In32 k) (hr : IntKind.u32.wrap (z.a * operV z c k) = r) :
    Calls Tryz.prog 104 #[.pointer (some ⟨M, 0, none⟩), .agg #[.int .i64 c, .int .i64 y, .int .i64 n, .int .i64 k]] w (PPost b { z with a := r } 0 M w) := by
  have hb0 := (Below.refl w.heap.size w).alloc (Nat.le_refl _) (.cells #[.int .i64 c, .int .i64 y, .int .i64 n, .int .i64 k] 66)
  have hp0 := h.below hb0
  have c1 := hp0.ca
  have HP := Lib.hid hp0
  have QO := Lib.hid (operand_any b z c y n k M (w.alloc (.cells #[.int .i64 c, .int .i64 y, .int .i64 n, .int .i64 k] 66)).drew hp0.drew hk)
  have HB := Lib.hid hb0
  generalize operV z c k = v at *
  clear h hb0 hp0
  go_enter Tryz.func104, Tryz.ntmps104
  go_wp2_with fail
  go_region_law ((go_simp; go_at_call 133; (with_reducible refine QO.out.mono ?_); rintro e w3 ⟨rfl, hb3⟩; have c1 := (HP.out.drew.below hb3).ca; have fm := (HP.out.drew.below hb3).free 1; dsimp only))
  all_goals
    have HF := Lib.hid (p_fin ((HP.out.drew.below hb3).setA r) (KeepM.setM (HB.out.drew.trans (hb3.mono HB.out.drew.size)) 1 (.int .u32 r)))
    clear hb3 c1 fm
    go_wp2_with fail
    go_ret
    exact HF.out

set_option maxHeartbeats 1600000 in
theorem p_Or (b : ByteArray) (z : Mx) (c y n k r : Int) (M : Nat) (w : World) (h : PAt w M b z) (hk : In32 k) (hr : bits .or .u32 z.a (operV z c k) = r) :
    Calls Tryz.prog 106 #[.pointer (some ⟨M, 0, none⟩), .agg #[.int .i64 c, .int .i64 y, .int .i64 n, .int .i64 k]] w (PPost b { z with a := r } 0 M w) := by
  have hb0 := (Below.refl w.heap.size w).alloc (Nat.le_refl _) (.cells #[.int .i64 c, .int .i64 y, .int .i64 n, .int .i64 k] 66)
  have hp0 := h.below hb0
  have c1 := hp0.ca
  have HP := Lib.hid hp0
  have QO := Lib.hid (operand_any b z c y n k M (w.alloc (.cells #[.int .i64 c, .int .i64 y, .int .i64 n, .int .i64 k] 66)).drew hp0.drew hk)
  have HB := Lib.hid hb0
  generalize operV z c k = v at *
  clear h hb0 hp0
  go_enter Tryz.func106, Tryz.ntmps106
  go_wp2_with fail
  go_region_law ((go_simp; go_at_call 133; (with_reducible refine QO.out.mono ?_); rintro e w3 ⟨rfl, hb3⟩; have c1 := (HP.out.drew.below hb3).ca; have fm := (HP.out.drew.below hb3).free 1; dsimp only))
  all_goals
    have HF := Lib.hid (p_fin ((HP.out.drew.below hb3).setA r) (KeepM.setM (HB.out.drew.trans (hb3.mono HB.out.drew.size)) 1 (.int .u32 r)))
    clear hb3 c1 fm
    go_wp2_with fail
    go_ret
    exact HF.out

set_option maxHeartbeats 1600000 in
theorem p_And (b : ByteArray) (z : Mx) (c y n k r : Int) (M : Nat) (w : World) (h : PAt w M b z) (hk : In32 k) (hr : bits .and .u32 z.a (operV z c k) = r) :
    Calls Tryz.prog 107 #[.pointer (some ⟨M, 0, none⟩), .agg #[.int .i64 c, .int .i64 y, .int .i64 n, .int .i64 k]] w (PPost b { z with a := r } 0 M w) := by
  have hb0 := (Below.refl w.heap.size w).alloc (Nat.le_refl _) (.cells #[.int .i64 c, .int .i64 y, .int .i64 n, .int .i64 k] 66)
  have hp0 := h.below hb0
  have c1 := hp0.ca
  have HP := Lib.hid hp0
  have QO := Lib.hid (operand_any b z c y n k M (w.alloc (.cells #[.int .i64 c, .int .i64 y, .int .i64 n, .int .i64 k] 66)).drew hp0.drew hk)
  have HB := Lib.hid hb0
  generalize operV z c k = v at *
  clear h hb0 hp0
  go_enter Tryz.func107, Tryz.ntmps107
  go_wp2_with fail
  go_region_law ((go_simp; go_at_call 133; (with_reducible refine QO.out.mono ?_); rintro e w3 ⟨rfl, hb3⟩; have c1 := (HP.out.drew.below hb3).ca; have fm := (HP.out.drew.below hb3).free 1; dsimp only))
  all_goals
    have HF := Lib.hid (p_fin ((HP.out.drew.below hb3).setA r) (KeepM.setM (HB.out.drew.trans (hb3.mono HB.out.drew.size)) 1 (.int .u32 r)))
    clear hb3 c1 fm
    go_wp2_with fail
    go_ret
    exact HF.out

set_option maxHeartbeats 1600000 in
theorem p_Xor (b : ByteArray) (z : Mx) (c y n k r : Int) (M : Nat) (w : World) (h : PAt w M b z) (hk : In32 k) (hr : bits .xor .u32 z.a (operV z c k) = r) :
    Calls Tryz.prog 111 #[.pointer (some ⟨M, 0, none⟩), .agg #[.int .i64 c, .int .i64 y, .int .i64 n, .int .i64 k]] w (PPost b { z with a := r } 0 M w) := by
  have hb0 := (Below.refl w.heap.size w).alloc (Nat.le_refl _) (.cells #[.int .i64 c, .int .i64 y, .int .i64 n, .int .i64 k] 66)
  have hp0 := h.below hb0
  have c1 := hp0.ca
  have HP := Lib.hid hp0
  have QO := Lib.hid (operand_any b z c y n k M (w.alloc (.cells #[.int .i64 c, .int .i64 y, .int .i64 n, .int .i64 k] 66)).drew hp0.drew hk)
  have HB := Lib.hid hb0
  generalize operV z c k = v at *
  clear h hb0 hp0
  go_enter Tryz.func111, Tryz.ntmps111
  go_wp2_with fail
  go_region_law ((go_simp; go_at_call 133; (with_reducible refine QO.out.mono ?_); rintro e w3 ⟨rfl, hb3⟩; have c1 := (HP.out.drew.below hb3).ca; have fm := (HP.out.drew.below hb3).free 1; dsimp only))
  all_goals
    have HF := Lib.hid (p_fin ((HP.out.drew.below hb3).setA r) (KeepM.setM (HB.out.drew.trans (hb3.mono HB.out.drew.size)) 1 (.int .u32 r)))
    clear hb3 c1 fm
    go_wp2_with fail
    go_ret
    exact HF.out

end Go.Proofs.YtekmnopgaopmlaaGreatDoor

/- Each word of the program's machine does what the model's does. -/
set_option maxRecDepth 100000
set_option linter.unusedSimpArgs false
set_option linter.unusedVariables false
namespace Go.Proofs.YtekmnopgaopmlaaGreatDoor
open Go.RowKit

/-! The mask of the cells. -/
theorem v_and_u16 (a b : Nat) (ha : a < 65536) (hb : b < 65536) : bits .and .u16 (a : Int) (b : Int) = ((a &&& b : Nat) : Int) := by
  have hx : a &&& b < 2 ^ 16 := Nat.and_lt_two_pow _ (by omega)
  show IntKind.u16.wrap ((BitVec.ofInt 16 (a : Int) &&& BitVec.ofInt 16 (b : Int)).toNat : Int) = _
  rw [BitVec.toNat_and, ofInt_toNat 16 a (by omega), ofInt_toNat 16 b (by omega)]
  exact wraps_u16 _ (by omega) (by omega)
theorem v_or_u16 (a b : Nat) (ha : a < 65536) (hb : b < 65536) : bits .or .u16 (a : Int) (b : Int) = ((a ||| b : Nat) : Int) := by
  have hx : a ||| b < 2 ^ 16 := Nat.or_lt_two_pow (by omega) (by omega)
  show IntKind.u16.wrap ((BitVec.ofInt 16 (a : Int) ||| BitVec.ofInt 16 (b : Int)).toNat : Int) = _
  rw [BitVec.toNat_or, ofInt_toNat 16 a (by omega), ofInt_toNat 16 b (by omega)]
  exact wraps_u16 _ (by omega) (by omega)
theorem mskBit_nat (m j : Nat) (hm : m < 65536) : mskBit (m : Int) (j : Int) = if m.testBit j then 1 else 0 := by
  unfold mskBit
  have e : (m : Int) / 2 ^ (j : Int).toNat = ((m / 2 ^ j : Nat) : Int) := by simp
  have hlt : m / 2 ^ j < 65536 := Nat.lt_of_le_of_lt (Nat.div_le_self _ _) hm
  rw [e, show (1 : Int) = ((1 : Nat) : Int) from rfl, v_and_u16 _ _ hlt (by omega), Nat.and_one_is_mod, Nat.testBit_eq_decide_div_mod_eq]
  have := Nat.mod_two_eq_zero_or_one (m / 2 ^ j)
  rcases this with h | h <;> simp [h]
/-- The mask says which cells were written. -/
def MaskOf (msk : Int) (has : List Bool) : Prop := (0 ≤ msk ∧ msk ≤ 65535) ∧ ∀ j : Nat, j < 16 → mskBit msk j = if has.getD j false then 1 else 0
theorem mask0 : MaskOf 0 (List.replicate 16 false) := by
  refine ⟨by omega, fun j hj => ?_⟩
  have h := mskBit_nat 0 j (by omega)
  rw [show ((0 : Nat) : Int) = 0 from rfl] at h
  rw [h, List.getD_eq_getElem?_getD, List.getElem?_replicate, if_pos hj]
  simp
theorem MaskOf.set {msk : Int} {has : List Bool} (h : MaskOf msk has) (hl : has.length = 16) {j : Nat} (hj : j < 16) : MaskOf (bits .or .u16 msk (IntKind.u16.wrap (2 ^ (j : Int).toNat))) (has.set j true) := by
  obtain ⟨⟨h0, h1⟩, hb⟩ := h
  obtain ⟨m, rfl⟩ := Int.eq_ofNat_of_zero_le h0
  have hp : 2 ^ j < 65536 := by
    have : 2 ^ j ≤ 2 ^ 15 := Nat.pow_le_pow_right (by omega) (by omega)
    omega
  have e : IntKind.u16.wrap (2 ^ (j : Int).toNat) = ((2 ^ j : Nat) : Int) := by
    have e2 : (2 : Int) ^ (j : Int).toNat = ((2 ^ j : Nat) : Int) := by simp
    rw [e2]
    generalize 2 ^ j = p at hp
    exact wraps_u16 _ (by omega) (by omega)
  have hx : m ||| 2 ^ j < 2 ^ 16 := Nat.or_lt_two_pow (by omega) (by omega)
  rw [e, v_or_u16 m _ (by omega) hp]
  refine ⟨by omega, fun i hi => ?_⟩
  have hbi := hb i hi
  rw [mskBit_nat _ _ (by omega)] at hbi ⊢
  rw [Nat.testBit_or, Nat.testBit_two_pow]
  simp only [List.getD_eq_getElem?_getD, List.getElem?_set] at hbi ⊢
  by_cases hij : j = i
  · subst hij; simp [hl, hj]
  · simp only [hij, decide_false, Bool.or_false, if_false]; exact hbi

/-! Bits of 32. -/
theorem w_bits {op : BinOp} (a b : Int) (ha : In32 a) (hb : In32 b) :
    (bits .and .u32 a b = w32 (bits .and .i64 a b)) ∧ (bits .or .u32 a b = w32 (bits .or .i64 a b)) ∧ (bits .xor .u32 a b = w32 (bits .xor .i64 a b)) ∧ bits .and .u32 a b = bits .and .i64 a b := by
  obtain ⟨m, rfl⟩ := Int.eq_ofNat_of_zero_le ha.1
  obtain ⟨n, rfl⟩ := Int.eq_ofNat_of_zero_le hb.1
  have h1 := ha.2
  have h2 := hb.2
  have x1 : m &&& n < 2 ^ 32 := Nat.and_lt_two_pow _ (by omega)
  have x2 : m ||| n < 2 ^ 32 := Nat.or_lt_two_pow (by omega) (by omega)
  have x3 : m ^^^ n < 2 ^ 32 := Nat.xor_lt_two_pow (by omega) (by omega)
  rw [and_u32_nat _ _ (by omega) (by omega), or_u32_nat _ _ (by omega) (by omega), xor_u32_nat _ _ (by omega) (by omega), and_i64_nat _ _ (by omega) (by omega), or_i64_nat _ _ (by omega) (by omega), xor_i64_nat _ _ (by omega) (by omega)]
  refine ⟨(w32_of ?_).symm, (w32_of ?_).symm, (w32_of ?_).symm, rfl⟩ <;> (unfold In32; omega)
theorem u32_w (n : Int) : IntKind.u32.wrap n = w32 n := IntKind.wrap_u32 n

/-- The program's machine is the model's. -/
structure Rel (z : Mx) (m : Mc) : Prop where
  a : z.a = m.a
  x : z.x = m.x
  held : z.held = m.cells
  msk : MaskOf z.msk m.has
/-- A word that neither looks nor leaps nor ends was done. -/
def DoStep (b : ByteArray) (z : Mx) (m : Mc) (i : Ins) (M : Nat) (w : World) (e : Ending) (w' : World) : Prop :=
  ∃ z', PPost b z' (doM b m i).2 M w e w' ∧ ((doM b m i).2 = 0 → Rel z' (doM b m i).1) ∧ z'.pc = z.pc ∧ z'.st = z.st ∧ z'.ret = z.ret ∧ z'.done = z.done
/-- The function of a code. -/
def fnOf (c : Int) : Option Nat :=
  if c = 32 then some 95 else if c = 0 then some 96 else if c = 1 then some 97
  else if c = 96 then some 98 else if c = 97 then some 99 else if c = 2 then some 100 else if c = 3 then some 101
  else if c = 4 ∨ c = 12 then some 102 else if c = 20 ∨ c = 28 then some 103 else if c = 36 then some 104 else if c = 52 then some 105
  else if c = 68 ∨ c = 76 then some 106 else if c = 84 ∨ c = 92 then some 107 else if c = 100 then some 108 else if c = 116 then some 109
  else if c = 132 then some 110 else if c = 164 then some 111 else if c = 5 then some 112
  else if c = 21 ∨ c = 29 then some 113 else if c = 37 ∨ c = 45 then some 114 else if c = 53 ∨ c = 61 then some 115 else if c = 69 ∨ c = 77 then some 116
  else if c = 6 then some 117 else if c = 22 then some 118 else if c = 7 then some 119 else if c = 135 then some 120 else none

section
variable {b : ByteArray} {z : Mx} {m : Mc} {c y n k : Int} {M K : Nat} {w : World} {args : Array Value}
theorem sum_step {v : Int} (r : Rel z m) (hd : doM b m ⟨c, y, n, k⟩ = sumM m ⟨c, y, n, k⟩) (hs : sumA c m.a m.x k = w32 v) (H : Calls Tryz.prog K args w (PPost b { z with a := w32 v } 0 M w)) : Calls Tryz.prog K args w (DoStep b z m ⟨c, y, n, k⟩ M w) := by
  refine H.mono fun e w' hp => ?_
  unfold DoStep
  rw [hd, sumM_yes hs]
  exact ⟨_, hp, fun _ => ⟨rfl, r.x, r.held, r.msk⟩, rfl, rfl, rfl, rfl⟩
theorem sum_step_no (hd : doM b m ⟨c, y, n, k⟩ = sumM m ⟨c, y, n, k⟩) (hs : sumA c m.a m.x k = -1) (H : Calls Tryz.prog K args w (PPost b z 8 M w)) : Calls Tryz.prog K args w (DoStep b z m ⟨c, y, n, k⟩ M w) := by
  refine H.mono fun e w' hp => ?_
  unfold DoStep
  rw [hd, sumM_no hs]
  exact ⟨z, hp, fun h => by simp at h, rfl, rfl, rfl, rfl⟩
end

theorem do_step (b : ByteArray) (z : Mx) (m : Mc) (c y n k : Int) (M K : Nat) (w : World) (h : PAt w M b z) (r : Rel z m) (hok : m.ok) (hk : In32 k) (hb : b.size ≤ maxLen)
    (hop : isOp c = true) (h5 : c ≠ 5) (h6 : c ≠ 6) (h22 : c ≠ 22) (hl : looksC c = false) (hf : fnOf c = some K) :
    Calls Tryz.prog K #[.pointer (some ⟨M, 0, none⟩), .agg #[.int .i64 c, .int .i64 y, .int .i64 n, .int .i64 k]] w (DoStep b z m ⟨c, y, n, k⟩ M w) := by
  obtain ⟨ha, hx, hcl, hhl, hcs⟩ := hok
  have hza : In32 z.a := by rw [r.a]; exact ha
  have hzx : In32 z.x := by rw [r.x]; exact hx
  have hbits := w_bits (op := .and) z.a k hza hk
  have hbitx := w_bits (op := .and) z.a z.x hza hzx
  have ra := r.a
  have rx := r.x
  rcases sum_codes hop h5 h6 h22 hl with hc | hc | hc | hc
  · rcases hc with rfl | rfl | rfl | rfl
    · obtain rfl : 96 = K := by simpa [fnOf] using hf
      refine (p_Imm b z 0 y n k M w h hk).mono fun e w' hp => ⟨_, hp, fun _ => ⟨rfl, r.x, r.held, r.msk⟩, rfl, rfl, rfl, rfl⟩
    · obtain rfl : 97 = K := by simpa [fnOf] using hf
      refine (p_ImmX b z 1 y n k M w h hk).mono fun e w' hp => ⟨_, hp, fun _ => ⟨r.a, rfl, r.held, r.msk⟩, rfl, rfl, rfl, rfl⟩
    · obtain rfl : 119 = K := by simpa [fnOf] using hf
      refine (p_Tax b z 7 y n k M w h hk).mono fun e w' hp => ⟨_, hp, fun _ => ⟨r.a, r.a, r.held, r.msk⟩, rfl, rfl, rfl, rfl⟩
    · obtain rfl : 120 = K := by simpa [fnOf] using hf
      refine (p_Txa b z 135 y n k M w h hk).mono fun e w' hp => ⟨_, hp, fun _ => ⟨r.x, r.x, r.held, r.msk⟩, rfl, rfl, rfl, rfl⟩
  · have hd : doM b m ⟨c, y, n, k⟩ = cellM m ⟨c, y, n, k⟩ := by rcases hc with rfl | rfl | rfl | rfl <;> rfl
    by_cases hfar : 15 < k
    · have hcm : cellM m ⟨c, y, n, k⟩ = (m, 8) := by simp [cellM, hfar]
      rcases hc with rfl | rfl | rfl | rfl
      · obtain rfl : 98 = K := by simpa [fnOf] using hf
        refine (p_Mem b z 96 y n k M w h hk 0 8 fun W hW => cell_far b z k M W hW hfar).mono fun e w' hp => ?_
        unfold DoStep; rw [hd, hcm]
        exact ⟨_, hp, fun h => by simp at h, rfl, rfl, rfl, rfl⟩
      · obtain rfl : 99 = K := by simpa [fnOf] using hf
        refine (p_MemX b z 97 y n k M w h hk 0 8 fun W hW => cell_far b z k M W hW hfar).mono fun e w' hp => ?_
        unfold DoStep; rw [hd, hcm]
        exact ⟨_, hp, fun h => by simp at h, rfl, rfl, rfl, rfl⟩
      · obtain rfl : 100 = K := by simpa [fnOf] using hf
        refine (p_Store b z 2 y n k M w h hk z 8 fun W hW => setCell_far b z k z.a M W hW hfar).mono fun e w' hp => ?_
        unfold DoStep; rw [hd, hcm]
        exact ⟨_, hp, fun h => by simp at h, rfl, rfl, rfl, rfl⟩
      · obtain rfl : 101 = K := by simpa [fnOf] using hf
        refine (p_StoreX b z 3 y n k M w h hk z 8 fun W hW => setCell_far b z k z.x M W hW hfar).mono fun e w' hp => ?_
        unfold DoStep; rw [hd, hcm]
        exact ⟨_, hp, fun h => by simp at h, rfl, rfl, rfl, rfl⟩
    · obtain ⟨j, rfl⟩ : ∃ j : Nat, k = j := ⟨k.toNat, by have := hk.1; omega⟩
      have hj : j < 16 := by omega
      have hbit := r.msk.2 j hj
      have hmr := r.msk.1
      rcases hc with rfl | rfl | rfl | rfl
      · obtain rfl : 98 = K := by simpa [fnOf] using hf
        cases hh : m.has.getD j false
        · rw [hh] at hbit
          rw [List.getD_eq_getElem?_getD] at hh
          refine (p_Mem b z 96 y n j M w h hk 0 6 fun W hW => cell_un b z j M W hW (by omega) (by omega) hmr hbit).mono fun e w' hp => ?_
          unfold DoStep; rw [hd, show cellM m ⟨96, y, n, j⟩ = (m, 6) by simp [cellM, hfar, hh]]
          exact ⟨_, hp, fun h => by simp at h, rfl, rfl, rfl, rfl⟩
        · rw [hh] at hbit
          rw [List.getD_eq_getElem?_getD] at hh
          refine (p_Mem b z 96 y n j M w h hk _ 0 fun W hW => cell_ok b z j M W hW (by omega) (by omega) hmr hbit).mono fun e w' hp => ?_
          unfold DoStep; rw [hd, show cellM m ⟨96, y, n, j⟩ = (⟨m.cells.getD j 0, m.x, m.cells, m.has⟩, 0) by simp [cellM, hfar, hh]]
          exact ⟨_, hp, fun _ => ⟨by simp [r.held], r.x, r.held, r.msk⟩, rfl, rfl, rfl, rfl⟩
      · obtain rfl : 99 = K := by simpa [fnOf] using hf
        cases hh : m.has.getD j false
        · rw [hh] at hbit
          rw [List.getD_eq_getElem?_getD] at hh
          refine (p_MemX b z 97 y n j M w h hk 0 6 fun W hW => cell_un b z j M W hW (by omega) (by omega) hmr hbit).mono fun e w' hp => ?_
          unfold DoStep; rw [hd, show cellM m ⟨97, y, n, j⟩ = (m, 6) by simp [cellM, hfar, hh]]
          exact ⟨_, hp, fun h => by simp at h, rfl, rfl, rfl, rfl⟩
        · rw [hh] at hbit
          rw [List.getD_eq_getElem?_getD] at hh
          refine (p_MemX b z 97 y n j M w h hk _ 0 fun W hW => cell_ok b z j M W hW (by omega) (by omega) hmr hbit).mono fun e w' hp => ?_
          unfold DoStep; rw [hd, show cellM m ⟨97, y, n, j⟩ = (⟨m.a, m.cells.getD j 0, m.cells, m.has⟩, 0) by simp [cellM, hfar, hh]]
          exact ⟨_, hp, fun _ => ⟨r.a, by simp [r.held], r.held, r.msk⟩, rfl, rfl, rfl, rfl⟩
      · obtain rfl : 100 = K := by simpa [fnOf] using hf
        refine (p_Store b z 2 y n j M w h hk _ 0 fun W hW => setCell_ok b z j z.a _ M W hW (by omega) (by omega) rfl).mono fun e w' hp => ?_
        unfold DoStep; rw [hd, show cellM m ⟨2, y, n, j⟩ = (⟨m.a, m.x, m.cells.set j m.a, m.has.set j true⟩, 0) by simp [cellM, hfar]]
        exact ⟨_, hp, fun _ => ⟨r.a, r.x, by simp [r.held, r.a], r.msk.set hhl hj⟩, rfl, rfl, rfl, rfl⟩
      · obtain rfl : 101 = K := by simpa [fnOf] using hf
        refine (p_StoreX b z 3 y n j M w h hk _ 0 fun W hW => setCell_ok b z j z.x _ M W hW (by omega) (by omega) rfl).mono fun e w' hp => ?_
        unfold DoStep; rw [hd, show cellM m ⟨3, y, n, j⟩ = (⟨m.a, m.x, m.cells.set j m.x, m.has.set j true⟩, 0) by simp [cellM, hfar]]
        exact ⟨_, hp, fun _ => ⟨r.a, r.x, by simp [r.held, r.x], r.msk.set hhl hj⟩, rfl, rfl, rfl, rfl⟩
  · subst hc
    obtain rfl : 95 = K := by simpa [fnOf] using hf
    by_cases hlv : loadB b k < 0
    · refine (p_Load_no b z 32 y n k M w h hk hb hlv).mono fun e w' hp => ?_
      unfold DoStep; rw [show doM b m ⟨32, y, n, k⟩ = (m, 8) by simp [doM, hlv]]
      exact ⟨_, hp, fun h => by simp at h, rfl, rfl, rfl, rfl⟩
    · refine (p_Load b z 32 y n k M w h hk hb hlv).mono fun e w' hp => ?_
      unfold DoStep; rw [show doM b m ⟨32, y, n, k⟩ = (⟨loadB b k, m.x, m.cells, m.has⟩, 0) by simp [doM, hlv]]
      exact ⟨_, hp, fun _ => ⟨rfl, r.x, r.held, r.msk⟩, rfl, rfl, rfl, rfl⟩
  · have hd : doM b m ⟨c, y, n, k⟩ = sumM m ⟨c, y, n, k⟩ := by
      rcases hc with rfl | rfl | rfl | rfl | rfl | rfl | rfl | rfl | rfl | rfl | rfl | rfl | rfl | rfl <;> rfl
    rcases hc with rfl | rfl | rfl | rfl | rfl | rfl | rfl | rfl | rfl | rfl | rfl | rfl | rfl | rfl
    · obtain rfl : 102 = K := by simpa [fnOf] using hf
      exact sum_step (v := m.a + k) r hd rfl (p_Add b z 4 y n k _ M w h hk (by rw [show operV z 4 k = k from rfl, ra, u32_w]))
    · obtain rfl : 103 = K := by simpa [fnOf] using hf
      exact sum_step (v := m.a - k) r hd rfl (p_Sub b z 20 y n k _ M w h hk (by rw [show operV z 20 k = k from rfl, ra, u32_w]))
    · obtain rfl : 104 = K := by simpa [fnOf] using hf
      exact sum_step (v := m.a * k) r hd rfl (p_Mul b z 36 y n k _ M w h hk (by rw [show operV z 36 k = k from rfl, ra, u32_w]))
    · obtain rfl : 105 = K := by simpa [fnOf] using hf
      by_cases hk0 : k = 0
      · exact sum_step_no hd (by subst hk0; rfl) (p_Div_no b z 52 y n k M w h hk hk0)
      · exact sum_step (v := m.a / k) r hd (by simp [sumA, hk0]) (p_Div b z 52 y n k M w h hk _ hk0 hk.1 hza.1 (by rw [show operV z 52 k = k from rfl, Int.tdiv_eq_ediv_of_nonneg hza.1, ra]; rfl))
    · obtain rfl : 106 = K := by simpa [fnOf] using hf
      exact sum_step r hd rfl (p_Or b z 68 y n k _ M w h hk (by rw [show operV z 68 k = k from rfl, hbits.2.1, ra]))
    · obtain rfl : 107 = K := by simpa [fnOf] using hf
      exact sum_step r hd rfl (p_And b z 84 y n k _ M w h hk (by rw [show operV z 84 k = k from rfl, hbits.1, ra]))
    · obtain rfl : 111 = K := by simpa [fnOf] using hf
      exact sum_step r hd rfl (p_Xor b z 164 y n k _ M w h hk (by rw [show operV z 164 k = k from rfl, hbits.2.2.1, ra]))
    · obtain rfl : 102 = K := by simpa [fnOf] using hf
      exact sum_step (v := m.a + m.x) r hd rfl (p_Add b z 12 y n k _ M w h hk (by rw [show operV z 12 k = z.x from rfl, ra, rx, u32_w]))
    · obtain rfl : 103 = K := by simpa [fnOf] using hf
      exact sum_step (v := m.a - m.x) r hd rfl (p_Sub b z 28 y n k _ M w h hk (by rw [show operV z 28 k = z.x from rfl, ra, rx, u32_w]))
    · obtain rfl : 107 = K := by simpa [fnOf] using hf
      exact sum_step r hd rfl (p_And b z 92 y n k _ M w h hk (by rw [show operV z 92 k = z.x from rfl, hbitx.1, ra, rx]))
    · obtain rfl : 106 = K := by simpa [fnOf] using hf
      exact sum_step r hd rfl (p_Or b z 76 y n k _ M w h hk (by rw [show operV z 76 k = z.x from rfl, hbitx.2.1, ra, rx]))
    · obtain rfl : 110 = K := by simpa [fnOf] using hf
      exact sum_step (v := -m.a) r hd rfl (p_Neg b z 132 y n k M w h hk _ (by rw [ra, u32_w]))
    · obtain rfl : 108 = K := by simpa [fnOf] using hf
      by_cases h31 : 31 < k
      · exact sum_step_no hd (by simp [sumA, h31]) (p_Left_no b z 100 y n k M w h hk h31)
      · exact sum_step (v := m.a * 2 ^ k.toNat) r hd (by simp [sumA, h31]) (p_Left b z 100 y n k M w h hk (by omega) _ hza (by rw [ra, u32_w]))
    · obtain rfl : 109 = K := by simpa [fnOf] using hf
      by_cases h31 : 31 < k
      · exact sum_step_no hd (by simp [sumA, h31]) (p_Right_no b z 116 y n k M w h hk h31)
      · have hq : In32 (m.a / 2 ^ k.toNat) := by
          obtain ⟨p, hp⟩ := Int.eq_ofNat_of_zero_le ha.1
          have e2 : (2 : Int) ^ k.toNat = ((2 ^ k.toNat : Nat) : Int) := by simp
          have h2 := ha.2
          rw [hp] at h2 ⊢
          rw [e2, ← Int.natCast_ediv]
          have := Nat.div_le_self p (2 ^ k.toNat)
          generalize p / 2 ^ k.toNat = q at *
          unfold In32; omega
        exact sum_step (v := m.a / 2 ^ k.toNat) r hd (by simp [sumA, h31]) (p_Right b z 116 y n k M w h hk (by omega) _ hza (by rw [ra, w32_of hq]))

end Go.Proofs.YtekmnopgaopmlaaGreatDoor

/- The program's table of what words do: doingsByCode; words that look, leap and end. -/
set_option maxRecDepth 100000
set_option linter.unusedSimpArgs false
set_option linter.unusedVariables false
namespace Go.Proofs.YtekmnopgaopmlaaGreatDoor
open Go.RowKit

/-- The table's cell of a code. -/
def doCell (c : Int) : Value := match fnOf c with
  | some K => .func (.func K) #[] #[]
  | none => .nilFunc
def doArr : Array Value := ((List.range 165).map fun c : Nat => doCell (c : Int)).toArray
def zeroDo : Array Value := ((List.range 165).map fun _ => Value.nilFunc).toArray
theorem zero_do (w : World) : (zeroValue 121).run Tryz.prog w = .ok (.agg zeroDo) w := by kernel_rfl
theorem v_build_to {P : Program} {ops : Array Oper} {rest : List Oper} {o : Oper} {a : Act} {w : World} {Q : Exit → Act → World → Prop} (hg : o.guard = none) (t : TypeId) (parts : Array (Nat × Operand)) (cells : Array Value) (ho : o.op = .build t parts)
    (hf : P.built t (parts.map fun (i, x) => (i, a.eval x)).toList = some cells)
    (h : wpList P ops Q rest (a.put o.dst (.agg cells)) w) : wpList P ops Q (o :: rest) a w :=
  wpList_build hg t parts ho (by rw [hf]; rfl) (by rw [hf]; exact h)
theorem v_below_setRow {B g : Nat} {a w : World} (h : Below B a w) (hg : B ≤ g) (cs : Array Value) : Below B a (w.setRow g cs) :=
  ⟨h.os, h.tape, h.output, by rw [setRow_size]; exact h.size, fun k hk => (setRow_other w g k cs (by omega)).trans (h.block k hk)⟩

set_option maxHeartbeats 1600000 in
theorem doings_any (w : World) : Calls Tryz.prog 83 #[] w fun e w' => e = .returned (.agg doArr) ∧ Below w.heap.size w w' := by
  have hz := zero_do
  have hrow : (w.alloc (.cells zeroDo 121)).heap[w.heap.size]? = some (.cells zeroDo 121 (0, 0)) := by simp only [World.alloc, Array.getElem?_push_size]
  have hnew := setRow_heap _ w.heap.size zeroDo doArr 121 (0, 0) hrow
  have hld := fun (_ : Unit) => run_loadVar_row (P := Tryz.prog) _ w.heap.size 121 121 doArr (0, 0) _ hnew Tryz.underlying121 rfl (by kernel_rfl)
  have HL := Lib.hid (hld ())
  have HR := Lib.hid hrow
  clear hrow hnew hld
  go_enter Tryz.func83, Tryz.ntmps83
  go_wp2_with (first
    | (refine v_build_to rfl 121 _ doArr rfl (by kernel_rfl) ?_)
    | (refine wpList_store_row rfl 121 _ _ rfl w.heap.size doArr rfl rfl 121 zeroDo HR.out (by kernel_rfl) (by kernel_rfl) (by kernel_rfl) ?_))
  have hl := HL.out
  exact bodyPost_ret (v := .agg doArr) (by simp [results, Tryz.results83, Act.put, asAddr, hl]) rfl ⟨rfl, v_below_setRow ((Below.refl _ _).alloc (Nat.le_refl _) _) (Nat.le_refl _) _⟩

/-- A code has a word just if the table has a function for it. -/
theorem fnOf_op : ∀ c : Fin 165, (fnOf (c.val : Int)).isSome = isOp (c.val : Int) := by decide +kernel
theorem isOp_far {c : Int} (h : 165 ≤ c) : isOp c = false := by
  cases ho : isOp c with
  | false => rfl
  | true =>
    have key : ∀ c ∈ opCodesL, c < 165 := by decide
    have := key c (by simpa [isOp] using ho)
    omega
theorem doArr_cell {c : Nat} (h : c < 165) : doArr[c]? = some (doCell (c : Int)) := by
  unfold doArr
  rw [List.getElem?_toArray, List.getElem?_map, List.getElem?_range h]
  rfl
theorem fnOf_none {c : Int} (h : c < 0 ∨ 165 ≤ c) : fnOf c = none := by
  unfold fnOf
  repeat rw [if_neg (by omega)]
theorem enter_of {c : Int} {K : Nat} (hf : fnOf c = some K) (args : Array Value) (W : World) : (callFunc K args).run Tryz.prog W = .ok (.enter K args) W := by
  have key : ∀ c : Fin 165, ∀ K, fnOf (c.val : Int) = some K → K ∈ [95, 96, 97, 98, 99, 100, 101, 102, 103, 104, 105, 106, 107, 108, 109, 110, 111, 112, 113, 114, 115, 116, 117, 118, 119, 120] := by
    intro c K h
    have : ∀ c : Fin 165, ∀ K ∈ fnOf (c.val : Int), K ∈ [95, 96, 97, 98, 99, 100, 101, 102, 103, 104, 105, 106, 107, 108, 109, 110, 111, 112, 113, 114, 115, 116, 117, 118, 119, 120] := by decide +kernel
    exact this c K h
  have hc : 0 ≤ c ∧ c < 165 := by
    rcases Int.lt_or_le c 0 with h | h
    · rw [fnOf_none (.inl h)] at hf; simp at hf
    · rcases Int.lt_or_le c 165 with h' | h'
      · exact ⟨h, h'⟩
      · rw [fnOf_none (.inr h')] at hf; simp at hf
  have hm := key ⟨c.toNat, by omega⟩ K (by rw [show (((⟨c.toNat, by omega⟩ : Fin 165).val : Nat) : Int) = c by simp; omega]; exact hf)
  simp only [List.mem_cons, List.not_mem_nil, or_false] at hm
  rcases hm with rfl | rfl | rfl | rfl | rfl | rfl | rfl | rfl | rfl | rfl | rfl | rfl | rfl | rfl | rfl | rfl | rfl | rfl | rfl | rfl | rfl | rfl | rfl | rfl | rfl | rfl
  · exact Tryz.call95 args W
  · exact Tryz.call96 args W
  · exact Tryz.call97 args W
  · exact Tryz.call98 args W
  · exact Tryz.call99 args W
  · exact Tryz.call100 args W
  · exact Tryz.call101 args W
  · exact Tryz.call102 args W
  · exact Tryz.call103 args W
  · exact Tryz.call104 args W
  · exact Tryz.call105 args W
  · exact Tryz.call106 args W
  · exact Tryz.call107 args W
  · exact Tryz.call108 args W
  · exact Tryz.call109 args W
  · exact Tryz.call110 args W
  · exact Tryz.call111 args W
  · exact Tryz.call112 args W
  · exact Tryz.call113 args W
  · exact Tryz.call114 args W
  · exact Tryz.call115 args W
  · exact Tryz.call116 args W
  · exact Tryz.call117 args W
  · exact Tryz.call118 args W
  · exact Tryz.call119 args W
  · exact Tryz.call120 args W

theorem look_step (b : ByteArray) (z : Mx) (m : Mc) (c y n k : Int) (M K : Nat) (w : World) (h : PAt w M b z) (r : Rel z m) (hok : m.ok) (hk : In32 k) (hy : 0 ≤ y ∧ y ≤ 255) (hn : 0 ≤ n ∧ n ≤ 255) (hp : 0 ≤ z.pc ∧ z.pc ≤ 4294967296)
    (hl : looksC c = true) (hf : fnOf c = some K) :
    Calls Tryz.prog K #[.pointer (some ⟨M, 0, none⟩), .agg #[.int .i64 c, .int .i64 y, .int .i64 n, .int .i64 k]] w (PPost b { z with pc := z.pc + if lookM m ⟨c, y, n, k⟩ then y else n } 0 M w) := by
  obtain ⟨ha, hx, -⟩ := hok
  have hza : In32 z.a := by rw [r.a]; exact ha
  have hzx : In32 z.x := by rw [r.x]; exact hx
  have hbits := (w_bits (op := .and) z.a k hza hk).2.2.2
  have hbitx := (w_bits (op := .and) z.a z.x hza hzx).2.2.2
  have ra := r.a
  have rx := r.x
  have hc : c = 21 ∨ c = 37 ∨ c = 53 ∨ c = 69 ∨ c = 29 ∨ c = 45 ∨ c = 61 ∨ c = 77 := by
    unfold looksC at hl
    simpa using hl
  rcases hc with rfl | rfl | rfl | rfl | rfl | rfl | rfl | rfl
  · obtain rfl : 113 = K := by simpa [fnOf] using hf
    exact p_Eq b z 21 y n k M w h hk hy hn hp _ (by rw [show operV z 21 k = k from rfl, ra]; rfl)
  · obtain rfl : 114 = K := by simpa [fnOf] using hf
    exact p_Gt b z 37 y n k M w h hk hy hn hp _ (by rw [show operV z 37 k = k from rfl, ra]; rfl)
  · obtain rfl : 115 = K := by simpa [fnOf] using hf
    exact p_Ge b z 53 y n k M w h hk hy hn hp _ (by rw [show operV z 53 k = k from rfl, ra]; rfl)
  · obtain rfl : 116 = K := by simpa [fnOf] using hf
    exact p_Set b z 69 y n k M w h hk hy hn hp _ (by rw [show operV z 69 k = k from rfl, hbits, ra]; rfl)
  · obtain rfl : 113 = K := by simpa [fnOf] using hf
    exact p_Eq b z 29 y n k M w h hk hy hn hp _ (by rw [show operV z 29 k = z.x from rfl, ra, rx]; rfl)
  · obtain rfl : 114 = K := by simpa [fnOf] using hf
    exact p_Gt b z 45 y n k M w h hk hy hn hp _ (by rw [show operV z 45 k = z.x from rfl, ra, rx]; rfl)
  · obtain rfl : 115 = K := by simpa [fnOf] using hf
    exact p_Ge b z 61 y n k M w h hk hy hn hp _ (by rw [show operV z 61 k = z.x from rfl, ra, rx]; rfl)
  · obtain rfl : 116 = K := by simpa [fnOf] using hf
    exact p_Set b z 77 y n k M w h hk hy hn hp _ (by rw [show operV z 77 k = z.x from rfl, hbitx, ra, rx]; rfl)

end Go.Proofs.YtekmnopgaopmlaaGreatDoor

/- The program's run: word by word. -/
set_option maxRecDepth 100000
set_option linter.unusedSimpArgs false
set_option linter.unusedVariables false
namespace Go.Proofs.YtekmnopgaopmlaaGreatDoor
open Go.RowKit

/-- What holds at the head of the run's loop. -/
def Head (l : List Ins) (b : ByteArray) (ans : Ans) (g : Nat) (z : Mx) : Prop :=
  (z.done = false ∧ ∃ (k st : Nat) (m : Mc), z.pc = k ∧ z.st = st ∧ z.ret = 0 ∧ k ≤ 5000000000 ∧ l.length ≤ k + g ∧ st + g = l.length ∧ m.ok ∧ Rel z m ∧ ans = runM l b (g + 1) k m st) ∨
  (z.done = true ∧ ans.code = 0 ∧ z.ret = ans.ret ∧ z.st = ans.steps)
/-- What holds behind a word. -/
def After (l : List Ins) (b : ByteArray) (ans : Ans) (g : Nat) (z : Mx) (cd : Int) : Prop :=
  (cd ≠ 0 ∧ ans.code = cd ∧ z.ret = ans.ret ∧ z.st = ans.steps) ∨ (cd = 0 ∧ Head l b ans g z)
def StepPost (l : List Ins) (b : ByteArray) (ans : Ans) (g : Nat) (M : Nat) (w : World) (e : Ending) (w' : World) : Prop := ∃ z' cd, PPost b z' cd M w e w' ∧ After l b ans g z' cd

theorem step_all (l : List Ins) (b : ByteArray) (ans : Ans) (g k st : Nat) (m : Mc) (z : Mx) (x : Ins) (M K : Nat) (w : World) (hb : b.size ≤ maxLen) (hlen : l.length ≤ 400) (hx : l[k]? = some x) (hr : insRight x = true)
    (hd : z.done = false) (hpc : z.pc = k) (hst : z.st = st) (hret : z.ret = 0) (hkg : l.length ≤ k + (g + 1)) (hsg : st + (g + 1) = l.length) (hok : m.ok) (r : Rel z m) (ha : ans = runM l b (g + 1 + 1) k m st)
    (ho : isOp x.c = true) (hf : fnOf x.c = some K) (h : PAt w M b { z with pc := z.pc + 1, st := z.st + 1 }) :
    Calls Tryz.prog K #[.pointer (some ⟨M, 0, none⟩), .agg #[.int .i64 x.c, .int .i64 x.y, .int .i64 x.n, .int .i64 x.k]] w (StepPost l b ans g M w) := by
  have hlt : k < l.length := (List.getElem?_eq_some_iff.1 hx).1
  obtain ⟨hk, hy, hn⟩ := ins_bd32 hr
  have r' : Rel { z with pc := z.pc + 1, st := z.st + 1 } m := ⟨r.a, r.x, r.held, r.msk⟩
  obtain ⟨c, y, n, kk⟩ := x
  simp only at hk hy hn ho hf ⊢
  have hk' := hk
  unfold In32 at hk'
  by_cases h6 : c = 6
  · subst h6
    obtain rfl : 117 = K := by simpa [fnOf] using hf
    refine (p_EndK b _ 6 y n kk M w h hk).mono fun e w' hp => ⟨_, 0, hp, .inr ⟨rfl, .inr ?_⟩⟩
    rw [ha, runM_ret hx rfl]
    exact ⟨rfl, rfl, rfl, by simp [hst]⟩
  by_cases h22 : c = 22
  · subst h22
    obtain rfl : 118 = K := by simpa [fnOf] using hf
    refine (p_EndA b _ 22 y n kk M w h hk).mono fun e w' hp => ⟨_, 0, hp, .inr ⟨rfl, .inr ?_⟩⟩
    rw [ha, runM_retA hx rfl]
    exact ⟨rfl, rfl, r.a, by simp [hst]⟩
  by_cases h5 : c = 5
  · subst h5
    obtain rfl : 112 = K := by simpa [fnOf] using hf
    refine (p_Jump b _ 5 y n kk M w h hk (by simp only [hpc]; omega)).mono fun e w' hp => ⟨_, 0, hp, .inr ⟨rfl, .inl ⟨hd, k + kk.toNat + 1, st + 1, m, ?_, ?_, hret, by omega, by omega, by omega, hok, ⟨r.a, r.x, r.held, r.msk⟩, ?_⟩⟩⟩
    · simp only [hpc]; omega
    · simp [hst]
    · rw [ha, runM_jump hx rfl]
  cases hl : looksC c
  · refine (do_step b _ m c y n kk M K w h r' hok hk hb ho h5 h6 h22 hl hf).mono fun e w' hp => ?_
    obtain ⟨z', hp, hrel, e1, e2, e3, e4⟩ := hp
    refine ⟨z', _, hp, ?_⟩
    by_cases hz : (doM b m ⟨c, y, n, kk⟩).2 = 0
    · refine .inr ⟨hz, .inl ⟨e4.trans hd, k + 1, st + 1, _, ?_, ?_, e3.trans hret, by omega, by omega, by omega, doM_ok hok hk, hrel hz, ?_⟩⟩
      · rw [e1]; simp [hpc]
      · rw [e2]; simp [hst]
      · rw [ha, runM_do hx ho h5 h6 h22 hl hz]
    · refine .inl ⟨hz, ?_, ?_, ?_⟩ <;> rw [ha, runM_err hx ho h5 h6 h22 hl hz]
      · rw [e3]; exact hret
      · rw [e2]; simp [hst]
  · refine (look_step b _ m c y n kk M K w h r' hok hk hy hn (by simp only [hpc]; omega) hl hf).mono fun e w' hp => ⟨_, 0, hp, .inr ⟨rfl, .inl ⟨hd, k + (if lookM m ⟨c, y, n, kk⟩ then y else n).toNat + 1, st + 1, m, ?_, ?_, hret, ?_, ?_, by omega, hok, ⟨r.a, r.x, r.held, r.msk⟩, ?_⟩⟩⟩
    · simp only [hpc]; split <;> omega
    · simp [hst]
    · split <;> omega
    · omega
    · rw [ha, runM_look hx ho h5 h6 h22 hl]

end Go.Proofs.YtekmnopgaopmlaaGreatDoor

/- The program's run, walked. -/
set_option maxRecDepth 100000
set_option linter.unusedSimpArgs false
set_option linter.unusedVariables false
namespace Go.Proofs.YtekmnopgaopmlaaGreatDoor
open Go.RowKit

def mx0 : Mx := ⟨0, 0, List.replicate 16 0, 0, 0, 0, 0, false⟩
theorem rel0 : Rel mx0 mc0 := ⟨rfl, rfl, rfl, mask0⟩
theorem head0 (l : List Ins) (b : ByteArray) : Head l b (runM l b (l.length + 1) 0 mc0 0) l.length mx0 := .inl ⟨rfl, 0, 0, mc0, rfl, rfl, rfl, by omega, by omega, by omega, mc0_ok, rel0, rfl⟩
/-- The run's end. -/
def RunPost (b : ByteArray) (ans : Ans) (M : Nat) (w : World) (e : Ending) (w' : World) : Prop := ∃ z', PPost b z' ans.code M w e w' ∧ z'.ret = ans.ret ∧ z'.st = ans.steps
/-- What the run's loop keeps of memory. -/
structure RunP (w : World) (M D : Nat) (b : ByteArray) (z : Mx) (x : World) : Prop where
  mac : PAt x M b z
  tab : x.heap[D]? = some (.cells doArr 121 (0, 0))
  keep : KeepM M M M w x
  dm : M ≠ D
section
variable {w x x' : World} {M D : Nat} {b : ByteArray} {z z' : Mx}
theorem RunP.below (h : RunP w M D b z x) (hb : Below x.heap.size x x') : RunP w M D b z x' := ⟨h.mac.below hb, (hb.block _ (row_here h.tab)).trans h.tab, h.keep.trans (KeepM.of hb), h.dm⟩
theorem RunP.alloc (h : RunP w M D b z x) (o : Obj) : RunP w M D b z (x.alloc o) := h.below ((Below.refl _ _).alloc (Nat.le_refl _) o)
theorem RunP.step (h : RunP w M D b z x) (hp : PAt x' M b z') (hk : KeepM M M M x x') : RunP w M D b z' x' := ⟨hp, (hk.block _ (row_here h.tab) (Ne.symm h.dm) (Ne.symm h.dm) (Ne.symm h.dm)).trans h.tab, h.keep.trans hk, h.dm⟩
theorem RunP.setPc (h : RunP w M D b z x) (v : Int) : RunP w M D b { z with pc := v } (x.setCell ⟨M, 20, none⟩ (.int .i64 v)) := h.step (h.mac.setPc v) ((KeepM.refl M M M x).set (p := ⟨M, 20, none⟩) (.inl rfl) _)
theorem RunP.setSt (h : RunP w M D b z x) (v : Int) : RunP w M D b { z with st := v } (x.setCell ⟨M, 21, none⟩ (.int .i64 v)) := h.step (h.mac.setSt v) ((KeepM.refl M M M x).set (p := ⟨M, 21, none⟩) (.inl rfl) _)
theorem RunP.cell (h : RunP w M D b z x) {c : Nat} (hc : c < 165) : x.cell? ⟨D, c, none⟩ = some (doCell (c : Int)) := by rw [row_cell h.tab, doArr_cell hc]
theorem RunP.word (h : RunP w M D b z x) {bb : Nat} (hb : bb < M) (hM : M < w.heap.size) (i : Nat) : x.cell? ⟨bb, i, none⟩ = w.cell? ⟨bb, i, none⟩ :=
  World.cell?_of_block (w := w) (h.keep.block bb (by omega) (by omega) (by omega) (by omega))
end

theorem nil_func (W : World) : Sem.run Tryz.prog (binOp BinOp.eql 120 Value.nilFunc Value.nilFunc) W = .ok (.bool true) W := by kernel_rfl
theorem some_func (K : Nat) (W : World) : Sem.run Tryz.prog (binOp BinOp.eql 120 (Value.func (.func K) #[] #[]) Value.nilFunc) W = .ok (.bool false) W := by kernel_rfl

set_option maxHeartbeats 6400000 in
theorem run_any (v : Value) (l : List Ins) (b : ByteArray) (M : Nat) (w : World) (h : InsAt w M v l) (hM : PAt w M b mx0) (hl : allOk l = true) (hb : b.size ≤ maxLen) :
    Calls Tryz.prog 52 #[.pointer (some ⟨M, 0, none⟩), v] w (RunPost b (runM l b (l.length + 1) 0 mc0 0) M w) := by
  have hlen : l.length ≤ 400 := by unfold allOk at hl; simp at hl; exact hl.1
  have hri : ∀ x ∈ l, insRight x = true := by unfold allOk at hl; simp at hl; exact hl.2
  obtain ⟨a, cap, rfl, hlc, hcm⟩ := h.len
  unfold maxLen at hcm
  have hMlt : M < w.heap.size := row_here hM.row
  have HH := Lib.hid h
  have HM := Lib.hid hM
  have HRI := Lib.hid hri
  have HBS := Lib.hid hb
  have HD0 := Lib.hid (head0 l b)
  have hz := zero_do
  obtain ⟨ans, hans⟩ : ∃ ans, ans = runM l b (l.length + 1) 0 mc0 0 := ⟨_, rfl⟩
  rw [← hans] at HD0 ⊢
  clear h hM hl hri hb hans
  go_enter Tryz.func52, Tryz.ntmps52
  go_wp2_with fail
  refine (doings_any _).mono ?_
  rintro e w1 ⟨rfl, hb1⟩
  have HB1 := Lib.hid hb1
  have HR := Lib.hid (alloc_new_at w1 zeroDo 121 (n := w1.heap.size) rfl)
  clear hb1
  go_wp2_with (first
    | (refine wpList_store_row rfl 121 _ _ rfl w1.heap.size doArr rfl rfl 121 zeroDo HR.out (by kernel_rfl) (by kernel_rfl) (by kernel_rfl) ?_))
  simp only [Act.put, List.getElem_toArray, List.getElem_cons_zero, List.getElem_cons_succ, List.setIfInBounds_toArray, List.set_cons_zero, List.set_cons_succ]
  have hrow := setRow_heap _ w1.heap.size zeroDo doArr 121 (0, 0) HR.out
  have hb2 := v_below_setRow (HB1.out.alloc HB1.out.size (.cells zeroDo 121)) HB1.out.size doArr
  generalize (w1.alloc (.cells zeroDo 121)).setRow w1.heap.size doArr = w2 at *
  obtain ⟨D, hD⟩ : ∃ D, D = w1.heap.size := ⟨_, rfl⟩
  rw [← hD] at hrow ⊢
  have HP2 := Lib.hid (show RunP w M D b mx0 w2 from ⟨HM.out.below hb2, hrow, KeepM.of hb2, by have := HB1.out.size; omega⟩)
  clear hrow hb2 HR hz hD HB1
  go_loopg [7] l.length (fun g s wx => Aside (∃ z, Head l b ans g z ∧ RunP w M D b z wx))
  case atStart => exact ⟨mx0, HD0.out, HP2.out⟩
  case round =>
    have HREL := Lib.hid hrel
    clear hrel
    obtain ⟨z, hh, hp⟩ := HREL.out
    clear HREL
    rcases hh with ⟨hd, k, st, m, hpc, hst, hret, hk5, hkg, hsg, hok, hr, ha⟩ | ⟨hd, hc, hret, hst⟩
    · have c23 := hp.mac.cdone
      have c20 := hp.mac.cpc
      have c21 := hp.mac.cst
      rw [hd] at c23
      rw [hpc] at c20
      rw [hst] at c21
      by_cases hlt : k < l.length
      · cases gk with
        | zero => omega
        | succ g =>
        obtain ⟨x, hx⟩ : ∃ x, l[k]? = some x := ⟨l[k], List.getElem?_eq_getElem hlt⟩
        have hrx := HRI.out x (List.mem_of_getElem? hx)
        obtain ⟨bb, oo, e, hbb, d0', d1', d2', d3', _⟩ := HH.out.at_ hx
        subst e
        have d0 := (hp.word hbb hMlt (oo + k * 4)).trans d0'
        have d1 := (hp.word hbb hMlt (oo + k * 4 + 1)).trans d1'
        have d2 := (hp.word hbb hMlt (oo + k * 4 + 2)).trans d2'
        have d3 := (hp.word hbb hMlt (oo + k * 4 + 3)).trans d3'
        clear d0' d1' d2' d3'
        have hcb : 0 ≤ x.c ∧ x.c ≤ 65535 := by unfold insRight isB at hrx; simp only [Bool.and_eq_true, decide_eq_true_eq] at hrx; omega
        obtain ⟨xc, xy, xn, xk⟩ := x
        simp only at d0 d1 d2 d3 hcb
        obtain ⟨cn, rfl⟩ : ∃ cn : Nat, xc = cn := ⟨xc.toNat, by omega⟩
        have hdec : decide (l.length ≤ k) = false := decide_eq_false (by omega)
        have hk4 : (k : Int) < 400 := by omega
        have hst4 : (st : Int) < 400 := by omega
        have hltX : M < wr.heap.size ∧ D < wr.heap.size := ⟨row_here hp.mac.row, row_here hp.tab⟩
        obtain ⟨hltM, hltD⟩ := hltX
        have hMD := hp.dm
        have hDM := Ne.symm hMD
        have f20 := hp.mac.free 20
        have f21 := hp.mac.free 21
        have hp7 := ((hp.setPc ((k : Int) + 1)).setSt ((st : Int) + 1)).alloc (.cells #[.int .i64 cn, .int .i64 xy, .int .i64 xn, .int .i64 xk] 66)
        have HP7 := Lib.hid hp7
        cases ho : isOp (cn : Int) with
        | false =>
          rw [runM_noop hx ho] at ha
          have HF := Lib.hid (show RunPost b ans M w (.returned (.iface 124 (.agg #[.int .i64 3]))) _ from by
            subst ha
            exact ⟨_, p_err (c := 3) (by decide) hp7.mac hp7.keep, hret, by simp⟩)
          by_cases hfar : cn < 165
          · have hfn : fnOf (cn : Int) = none := by
              have := fnOf_op ⟨cn, hfar⟩
              simp only at this
              rw [ho] at this
              simpa using this
            have c7 := hp.cell hfar
            simp only [doCell, hfn] at c7
            have hdec2 : decide ((165 : Int) ≤ cn) = false := decide_eq_false (by omega)
            have hcl : (cn : Int) < 165 := by omega
            have hnf := nil_func
            clear hp hp7 hr hok ha hd hpc hst hret ho hfn hx hrx hcb
            go_wp2_with fail
            go_ret
            exact HF.out
          · have hdec2 : decide ((165 : Int) ≤ cn) = true := decide_eq_true (by omega)
            clear hp hp7 hr hok ha hd hpc hst hret ho hx hrx hcb
            go_wp2_with fail
            go_ret
            exact HF.out
        | true =>
          have hfar : cn < 165 := by
            rcases Nat.lt_or_ge cn 165 with h | h
            · exact h
            · rw [isOp_far (by omega)] at ho; cases ho
          obtain ⟨K, hK⟩ : ∃ K, fnOf (cn : Int) = some K := by
            have := fnOf_op ⟨cn, hfar⟩
            simp only at this
            rw [ho] at this
            exact Option.isSome_iff_exists.1 this
          have c7 := hp.cell hfar
          simp only [doCell, hK] at c7
          have ke := enter_of hK
          have HS := Lib.hid (fun W hW => step_all l b ans g k st m z ⟨cn, xy, xn, xk⟩ M K W HBS.out hlen hx hrx hd hpc hst hret hkg hsg hok hr ha ho hK hW)
          simp only [hpc, hst] at HS
          have hdec2 : decide ((165 : Int) ≤ cn) = false := decide_eq_false (by omega)
          have hcl : (cn : Int) < 165 := by omega
          have hnf := some_func
          clear hp hp7 hr hok ha hd hpc hst hret ho hx hrx hcb hK
          go_wp2_with fail
          go_region_law ((go_simp; (with_reducible refine (HS.out _ HP7.out.mac.drew).mono ?_); rintro e w3 ⟨z', cd, ⟨he, hp3, hk3⟩, haf⟩; subst he; have HP3 := Lib.hid ((HP7.out.below (Below.refl _ _).drew).step hp3 hk3); have HAF := Lib.hid haf; clear hp3 hk3 haf; dsimp only))
          all_goals
            rcases HAF.out with ⟨hc, hcode, hret, hst⟩ | ⟨hc, hh⟩
            · have hev : errV cd = .iface 124 (.agg #[.int .i64 cd]) := if_neg hc
              have HF := Lib.hid (show RunPost b ans M w (.returned (.iface 124 (.agg #[.int .i64 cd]))) w3 from ⟨z', by rw [hcode]; exact p_err hc HP3.out.mac HP3.out.keep, hret, hst⟩)
              simp only [hev]
              clear hc hcode hret hst hev
              go_wp2_with fail
              go_ret
              exact HF.out
            · subst hc
              have HX := Lib.hid hh
              clear hh
              simp only [show errV 0 = .nilIface from rfl]
              go_wp2_with fail
              go_roundg g
              case measure => omega
              case rel => exact ⟨z', HX.out, HP3.out⟩
      · have hE := runM_end (b := b) (f := gk) (m := m) (st := st) (show l.length ≤ k by omega)
        rw [hE] at ha
        have hz : decide (l.length ≤ k) = true := decide_eq_true (by omega)
        have HF := Lib.hid (show RunPost b ans M w (.returned (.iface 124 (.agg #[.int .i64 4]))) wr from by
          subst ha
          exact ⟨z, p_err (c := 4) (by decide) hp.mac hp.keep, hret, hst⟩)
        clear hp hr hok ha hE hd hpc hst hret
        go_wp2_with fail
        go_ret
        exact HF.out
    · have c23 := hp.mac.cdone
      rw [hd] at c23
      have HF := Lib.hid (show RunPost b ans M w (.returned .nilIface) wr from ⟨z, by rw [hc]; exact p_fin hp.mac hp.keep, hret, hst⟩)
      clear hp hc hret hst hd
      go_wp2_with fail
      go_ret
      exact HF.out

end Go.Proofs.YtekmnopgaopmlaaGreatDoor

/- Run of the program, walked. -/
set_option maxRecDepth 100000
set_option linter.unusedSimpArgs false
set_option linter.unusedVariables false
namespace Go.Proofs.YtekmnopgaopmlaaGreatDoor
open Go.RowKit

theorem as_nil (t : Nat) (w : World) : Calls Tryz.prog 84 #[.nilIface, .iface 126 (.pointer (some ⟨t, 0, none⟩))] w fun ev w' => ev = .returned (.bool false) ∧ w = w' := by
  go_enter Tryz.func84, Tryz.ntmps84
  go_wp2
  go_ret
  exact ⟨rfl, rfl⟩
theorem codeOf_nil (w : World) : Calls Tryz.prog 53 #[.nilIface] w fun e w' => e = .returned (.int .i64 0) ∧ Below w.heap.size w w' := by
  have HH := Lib.hid (as_nil w.heap.size (w.alloc (.cells #[.int .i64 0] 124)))
  go_enter Tryz.func53, Tryz.ntmps53
  go_wp2_with (go_at_call 84; refine (HH.out).mono ?_; rintro e w2 ⟨rfl, rfl⟩)
  go_ret
  exact ⟨rfl, (Below.refl _ w).alloc (Nat.le_refl _) _⟩
theorem codeOf_errV (c : Int) (w : World) (hg : w.cell? ⟨0, 0, none⟩ = some handleV) : Calls Tryz.prog 53 #[errV c] w fun e w' => e = .returned (.int .i64 c) ∧ Below w.heap.size w w' := by
  by_cases hc : c = 0
  · subst hc; exact codeOf_nil w
  · rw [show errV c = .iface 124 (.agg #[.int .i64 c]) from if_neg hc]; exact codeOf_any c w hg

/-- What a run answers is a number of 32 bits. -/
theorem runM_in {l : List Ins} {b : ByteArray} (hl : ∀ x ∈ l, insRight x = true) : ∀ (f k : Nat) (m : Mc) (st : Nat), m.ok → In32 (runM l b f k m st).ret := by
  intro f
  induction f with
  | zero => intro k m st _; exact ⟨by show (0 : Int) ≤ 0; omega, by show (0 : Int) ≤ 4294967295; omega⟩
  | succ f ih =>
    intro k m st hm
    have z32 : In32 0 := by unfold In32; omega
    unfold runM
    cases hx : l[k]? with
    | none => exact z32
    | some i =>
      have hk := (ins_bd32 (hl i (List.mem_of_getElem? hx))).1
      simp only
      split
      · exact z32
      split
      · exact hk
      split
      · exact hm.1
      split
      · exact ih _ _ _ hm
      split
      · exact ih _ _ _ hm
      split
      · exact ih _ _ _ (doM_ok hm hk)
      · exact z32

/-- The machine's cells when it begins. -/
def mach0 (b : ByteArray) : Array Value := (mxCells b mx0).toArray
def zeroMach : Array Value := (mxCells ⟨#[]⟩ mx0).toArray
theorem zero_mach (w : World) : (zeroValue 90).run Tryz.prog w = .ok (.agg zeroMach) w := by kernel_rfl
theorem mach0_size (b : ByteArray) : (mach0 b).size = 24 := by kernel_rfl
theorem zeroMach_size : zeroMach.size = 24 := by kernel_rfl
theorem built_mach (b : ByteArray) : Tryz.prog.built 90 [(0, Value.string b)] = some (mach0 b) := by kernel_rfl
set_option maxHeartbeats 6400000 in
theorem implRun_ok (a : Option Addr) (cap : Nat) (l : List Ins) (b : ByteArray) (w : World) (h : InsAt w w.heap.size (.slice a l.length cap) l) (hlc : l.length ≤ cap) (hcm : cap ≤ 2 ^ 63 - 1) (hb : b.size ≤ maxLen) (h64 : b.size = 64) (hal : allOk l = true) (hg : w.cell? ⟨0, 0, none⟩ = some handleV) :
    Calls Tryz.prog 17 #[.slice a l.length cap, .string b] w fun e w' => e = .returned (ansV (runL l b)) ∧ Below w.heap.size w w' := by
  have hlen : l.length ≤ 400 := by unfold allOk at hal; simp at hal; exact hal.1
  have hglt : 0 < w.heap.size := by
    rcases Nat.lt_or_ge 0 w.heap.size with h | h
    · exact h
    · simp [World.cell?, Array.getElem?_eq_none h] at hg
  have HH := Lib.hid h
  have HG := Lib.hid hg
  have HB0 := Lib.hid ((Below.refl w.heap.size w).alloc (Nat.le_refl _) (.cells #[.int .i64 0, .int .i64 0, .int .i64 0] 44))
  have z1 : decide ((400 : Int) < (l.length : Int)) = false := decide_eq_false (by omega)
  have z2 : decide ((8000 : Int) < (b.size : Int)) = false := decide_eq_false (by omega)
  have z3 : ((b.size : Int) != 64) = false := by simp [h64]
  have HP := Lib.hid (allRight_any _ l _ (h.below HB0.out |>.up HB0.out.size))
  rw [hal] at HP
  have HR := Lib.hid (runL_ok (l := l) (b := b) (by omega) h64 hal)
  have QR := Lib.hid (fun M W (h : InsAt W M (.slice a l.length cap) l) hM => run_any _ l b M W h hM hal hb)
  have hin := runM_in (l := l) (b := b) (by unfold allOk at hal; simp at hal; exact hal.2) (l.length + 1) 0 mc0 0 mc0_ok
  generalize runM l b (l.length + 1) 0 mc0 0 = ans at *
  unfold In32 at hin
  have hb3 : b.size ≤ 1000 := by omega
  have HBM := Lib.hid (built_mach b)
  clear hal h hg h64 hb
  go_enter Tryz.func17, Tryz.ntmps17
  go_wp2_with fail
  refine HP.out.mono ?_
  rintro e w1 ⟨rfl, hb1⟩
  have HB := Lib.hid hb1
  clear hb1
  have hz := zero_mach
  have HRW := Lib.hid (alloc_new_at w1 zeroMach 90 (n := w1.heap.size) rfl)
  go_upto_region 5 with fail
  go_wp2_with (first
    | (refine v_build_to rfl 90 _ (mach0 b) rfl HBM.out ?_)
    | (refine wpList_store_row rfl 90 _ _ rfl w1.heap.size (mach0 b) rfl rfl 90 zeroMach HRW.out (by kernel_rfl) (by kernel_rfl) (by kernel_rfl) ?_))
  have hrow := setRow_heap _ w1.heap.size zeroMach (mach0 b) 90 (0, 0) HRW.out
  have hb5 := v_below_setRow (((Below.refl w1.heap.size w1).alloc (Nat.le_refl _) (.cells zeroMach 90))) (Nat.le_refl _) (mach0 b)
  generalize (w1.alloc (.cells zeroMach 90)).setRow w1.heap.size (mach0 b) = w5 at *
  have hsz1 : w.heap.size < w1.heap.size := by have := HB.out.size; simp at this; omega
  have hbw1 := box_below HB.out
  have hbw5 := hbw1.trans (hb5.mono hbw1.size)
  have hres5 := (hb5.block _ hsz1).trans ((HB.out.block w.heap.size (by simp)).trans (alloc_new_at w #[.int .i64 0, .int .i64 0, .int .i64 0] 44 rfl))
  have HQ := Lib.hid (QR.out w1.heap.size w5 ((HH.out.below hbw5).up (by omega)) ⟨hrow, rfl⟩)
  have HB5 := Lib.hid hbw5
  have HRES := Lib.hid hres5
  clear hrow hb5 hbw1 hbw5 hres5 hz HRW HB QR
  refine HQ.out.mono ?_
  rintro e w6 ⟨z', ⟨rfl, hp6, hk6⟩, hret, hst⟩
  have c22 := hp6.cret
  have c21 := hp6.cst
  rw [hret] at c22
  rw [hst] at c21
  have hres6 := (hk6.block w.heap.size (row_here HRES.out) (by omega) (by omega) (by omega)).trans HRES.out
  have hb6 := KeepM.below HB5.out hk6 (by omega) (by omega) (by omega) HB5.out.size
  have hg6 := (hb6.cell (p := ⟨0, 0, none⟩) hglt).trans HG.out
  have HC := Lib.hid (codeOf_errV ans.code w6.drew hg6)
  have HR6 := Lib.hid hres6
  have HB6 := Lib.hid hb6
  have hlt6 : w1.heap.size < w6.heap.size := row_here hp6.row
  have HP6 := Lib.hid hp6
  generalize errV ans.code = ev at *
  clear hp6 hk6 hret hst hres6 hb6 hg6
  go_wp2_with fail
  go_region_law ((go_simp; go_at_call 53; (with_reducible refine HC.out.mono ?_); rintro e w7 ⟨rfl, hb7⟩; have c22 := (hb7.cell (p := ⟨w1.heap.size, 22, none⟩) hlt6).trans c22; have c21 := (hb7.cell (p := ⟨w1.heap.size, 21, none⟩) hlt6).trans c21; have hres7 := (hb7.block w.heap.size (row_here HR6.out)).trans HR6.out; have q0 := row_cell hres7 0; have q1 := row_cell hres7 1; have q2 := row_cell hres7 2; have f0 := frozen_row hres7 0; have f1 := frozen_row hres7 1; have f2 := frozen_row hres7 2; simp only [List.getElem?_toArray, List.getElem?_cons_zero, List.getElem?_cons_succ] at q0 q1 q2; have HB7 := Lib.hid (HB6.out.drew.trans (hb7.mono HB6.out.drew.size)); clear hb7 hres7; dsimp only))
  all_goals
    have e1 : IntKind.i64.wrap ans.ret = ans.ret := IntWalk.i64_in _ (by omega)
    go_wp2_with fail
    exact bodyPost_ret (v := .agg #[.int .i64 ans.ret, .int .i64 ans.steps, .int .i64 ans.code]) (by simp [results, Tryz.results17, go_sem, e1, q0, q1, q2, f0, f1, f2]) rfl ⟨by rw [HR.out]; rfl, ((HB7.out.setCell (Nat.le_refl _) _).setCell (Nat.le_refl _) _).setCell (Nat.le_refl _) _⟩

set_option maxHeartbeats 6400000 in
theorem implRun_any (v : Value) (l : List Ins) (b : ByteArray) (w : World) (h : InsAt w w.heap.size v l) (hb : b.size ≤ maxLen) (hll : l.length ≤ 1048576) (hg : w.cell? ⟨0, 0, none⟩ = some handleV) :
    Calls Tryz.prog 17 #[v, .string b] w fun e w' => e = .returned (ansV (runL l b)) ∧ Below w.heap.size w w' := by
  obtain ⟨a, cap, rfl, hlc, hcm⟩ := h.len
  unfold maxLen at hcm
  have HBS := Lib.hid hb
  unfold maxLen at hb
  have HH := Lib.hid h
  have HG := Lib.hid hg
  have hglt : 0 < w.heap.size := by
    rcases Nat.lt_or_ge 0 w.heap.size with h | h
    · exact h
    · simp [World.cell?, Array.getElem?_eq_none h] at hg
  have hr0 := alloc_new_at w #[.int .i64 0, .int .i64 0, .int .i64 0] 44 rfl
  have f0 := frozen_row hr0 0
  have f1 := frozen_row hr0 1
  have f2 := frozen_row hr0 2
  have HB0 := Lib.hid ((Below.refl w.heap.size w).alloc (Nat.le_refl _) (.cells #[.int .i64 0, .int .i64 0, .int .i64 0] 44))
  clear h hr0 hg
  by_cases h4 : 400 < l.length
  · have HR := Lib.hid (runL_size (b := b) (.inl h4))
    have z1 : decide ((400 : Int) < (l.length : Int)) = true := decide_eq_true (by omega)
    go_enter Tryz.func17, Tryz.ntmps17
    go_wp2_with fail
    exact bodyPost_ret (v := .agg #[.int .i64 0, .int .i64 0, .int .i64 2]) (by simp [results, Tryz.results17, go_sem]) rfl ⟨by rw [HR.out]; rfl, (Below.refl _ _).alloc (Nat.le_refl _) _⟩
  have z1 : decide ((400 : Int) < (l.length : Int)) = false := decide_eq_false (by omega)
  by_cases h8 : 8000 < b.size
  · have HR := Lib.hid (runL_size (l := l) (.inr h8))
    have z2 : decide ((8000 : Int) < (b.size : Int)) = true := decide_eq_true (by omega)
    go_enter Tryz.func17, Tryz.ntmps17
    go_wp2_with fail
    exact bodyPost_ret (v := .agg #[.int .i64 0, .int .i64 0, .int .i64 2]) (by simp [results, Tryz.results17, go_sem]) rfl ⟨by rw [HR.out]; rfl, (Below.refl _ _).alloc (Nat.le_refl _) _⟩
  have z2 : decide ((8000 : Int) < (b.size : Int)) = false := decide_eq_false (by omega)
  by_cases h64 : b.size = 64
  · have z3 : ((b.size : Int) != 64) = false := by simp [h64]
    have HP := Lib.hid (allRight_any _ l _ (HH.out.below HB0.out |>.up HB0.out.size))
    have HS := Lib.hid h64
    clear h64
    cases hal : allOk l <;> rw [hal] at HP
    · have HR := Lib.hid (runL_form (l := l) (b := b) (by omega) (by omega) (.inr hal))
      clear hal
      go_enter Tryz.func17, Tryz.ntmps17
      go_wp2_with fail
      refine HP.out.mono ?_
      rintro e w1 ⟨rfl, hb1⟩
      have d0 := box_cell hb1 0
      have d1 := box_cell hb1 1
      have d2 := box_cell hb1 2
      have f0 := box_free hb1 0
      have f1 := box_free hb1 1
      have f2 := box_free hb1 2
      simp only [List.getElem?_toArray, List.getElem?_cons_zero, List.getElem?_cons_succ] at d0 d1 d2
      have HB := Lib.hid (box_below hb1)
      clear hb1
      go_wp2_with fail
      exact bodyPost_ret (v := .agg #[.int .i64 0, .int .i64 0, .int .i64 1]) (by simp [results, Tryz.results17, go_sem, d0, d1, d2, f0, f1, f2]) rfl ⟨by rw [HR.out]; rfl, ((HB.out.setCell (Nat.le_refl _) _).setCell (Nat.le_refl _) _).setCell (Nat.le_refl _) _⟩
    · exact implRun_ok a cap l b w HH.out hlc hcm HBS.out HS.out hal HG.out
  · have z3 : ((b.size : Int) != 64) = true := by simpa using (show ¬ (b.size : Int) = 64 by omega)
    have HR := Lib.hid (runL_form (l := l) (b := b) (by omega) (by omega) (.inl h64))
    clear h64
    go_enter Tryz.func17, Tryz.ntmps17
    go_wp2_with fail
    exact bodyPost_ret (v := .agg #[.int .i64 0, .int .i64 0, .int .i64 1]) (by simp [results, Tryz.results17, go_sem]) rfl ⟨by rw [HR.out]; rfl, (Below.refl _ _).alloc (Nat.le_refl _) _⟩

end Go.Proofs.YtekmnopgaopmlaaGreatDoor

/- A program that Check lets by comes to its end, in plain words. No program is read here. -/
set_option maxRecDepth 100000
set_option linter.unusedSimpArgs false
set_option linter.unusedVariables false
namespace Go.Proofs.YtekmnopgaopmlaaGreatDoor
open Go.RowKit

/-- Each cell of the one mask is one of the other. -/
def SubM (a b : Int) : Prop := ∀ j : Nat, a.toNat.testBit j = true → b.toNat.testBit j = true
theorem SubM.refl (a : Int) : SubM a a := fun _ h => h
theorem SubM.trans {a b c : Int} (h : SubM a b) (k : SubM b c) : SubM a c := fun j hj => k j (h j hj)
theorem sub_and {a b : Int} (ha : M16 a) (hb : M16 b) : SubM (bits .and .i64 a b) a ∧ SubM (bits .and .i64 a b) b := by
  obtain ⟨m, rfl⟩ := Int.eq_ofNat_of_zero_le ha.1
  obtain ⟨n, rfl⟩ := Int.eq_ofNat_of_zero_le hb.1
  have h1 := ha.2
  have h2 := hb.2
  rw [and_i64_nat m n (by omega) (by omega)]
  refine ⟨fun j h => ?_, fun j h => ?_⟩ <;> (simp only [Int.toNat_natCast, Nat.testBit_and, Bool.and_eq_true] at h ⊢)
  · exact h.1
  · exact h.2
theorem passM_getD (m : Int) (ms : List Int) (t : Int) (i : Nat) : (passM m ms t).getD i 0 = if t.toNat = i ∧ i < ms.length then bits .and .i64 (ms.getD t.toNat 0) m else ms.getD i 0 := by
  unfold passM
  simp only [List.getD_eq_getElem?_getD, List.getElem?_set]
  by_cases h : t.toNat = i
  · subst h
    by_cases hl : t.toNat < ms.length
    · simp [hl]
    · simp [hl]
  · simp [h]
theorem fold_sub {m : Int} (hm : M16 m) : ∀ (ts ms : List Int), (∀ a ∈ ms, M16 a) → (∀ t ∈ ts, t.toNat < ms.length) →
    (∀ i, SubM ((ts.foldl (passM m) ms).getD i 0) (ms.getD i 0)) ∧ ∀ t ∈ ts, SubM ((ts.foldl (passM m) ms).getD t.toNat 0) m
  | [], ms, _, _ => ⟨fun i => SubM.refl _, fun t h => by cases h⟩
  | t :: ts, ms, h16, hlt => by
    have ih := fold_sub hm ts (passM m ms t) (passM_m16 hm h16 t) (fun u hu => by rw [passM_length]; exact hlt u (List.mem_cons_of_mem _ hu))
    have hand := sub_and (getD_m16 h16 t.toNat) hm
    have one : ∀ i, SubM ((passM m ms t).getD i 0) (ms.getD i 0) := fun i => by
      rw [passM_getD]
      split
      · rename_i h
        rw [h.1] at hand ⊢
        exact hand.1
      · exact SubM.refl _
    refine ⟨fun i => (ih.1 i).trans (one i), fun u hu => ?_⟩
    rcases List.mem_cons.1 hu with rfl | hu
    · refine (ih.1 _).trans ?_
      rw [passM_getD, if_pos ⟨rfl, hlt u List.mem_cons_self⟩]
      exact hand.2
    · exact ih.2 u hu
theorem fold_other {m : Int} {i : Nat} : ∀ (ts ms : List Int), (∀ t ∈ ts, t.toNat ≠ i) → (ts.foldl (passM m) ms).getD i 0 = ms.getD i 0
  | [], _, _ => rfl
  | t :: ts, ms, h => by
    rw [List.foldl_cons, fold_other ts _ (fun u hu => h u (List.mem_cons_of_mem _ hu)), passM_getD, if_neg (fun e => h t List.mem_cons_self e.1)]

/-- What Check's letting by brings. -/
structure Fine (l : List Ins) : Prop where
  len : l.length ≤ 400
  pos : 0 < l.length
  bad : ∀ i x, l[i]? = some x → badI l.length i x = 0
  un : ∀ i x, l[i]? = some x → unI l i x = false
theorem check_fine {l : List Ins} (h : (checkL l).2 = 0) : Fine l := by
  unfold checkL at h
  split at h
  · exact absurd h (by decide)
  split at h
  · exact absurd h (by decide)
  split at h
  · exact absurd h (by show ¬ (1 : Int) = 0; decide)
  rename_i h4 h0 _
  split at h
  · rename_i i hf
    have hp := List.find?_some hf
    unfold badP at hp
    unfold badAt at h
    cases hx : l[i]? with
    | none => rw [hx] at hp; simp at hp
    | some x => rw [hx] at hp h; simp only [bne_iff_ne, ne_eq] at hp; exact absurd h hp
  · rename_i hb
    split at h
    · exact absurd h (by show ¬ (6 : Int) = 0; decide)
    · rename_i hu
      rw [List.find?_range_eq_none] at hb hu
      refine ⟨by omega, by omega, fun i x hx => ?_, fun i x hx => ?_⟩
      · have hi : i < l.length := (List.getElem?_eq_some_iff.1 hx).1
        have := hb i hi
        unfold badP at this
        rw [hx] at this
        simpa using this
      · have hi : i < l.length := (List.getElem?_eq_some_iff.1 hx).1
        have := hu i hi
        unfold unP at this
        rw [hx] at this
        simpa using this
theorem next_gt {x : Ins} {k : Nat} (hr : insRight x = true) : ∀ t ∈ nextI x k, (k : Int) + 1 ≤ t := by
  obtain ⟨_, ⟨hy, _⟩, ⟨hn, _⟩, ⟨hk, _⟩⟩ := ins_bd hr
  intro t ht
  unfold nextI at ht
  split at ht
  · simp at ht
  split at ht
  · simp at ht; omega
  split at ht
  · split at ht
    · simp at ht; omega
    · simp only [List.mem_cons, List.not_mem_nil, or_false] at ht
      rcases ht with rfl | rfl <;> split <;> omega
  · simp at ht; omega

section
variable {l : List Ins} (hf : Fine l)
include hf
theorem Fine.right {k : Nat} {x : Ins} (hx : l[k]? = some x) : insRight x = true ∧ (cellC x.c = true → x.k ≤ 15) ∧ ∀ t ∈ nextI x k, 0 ≤ t ∧ t < l.length := bad_zero (hf.bad k x hx)
theorem Fine.m16 (k : Nat) : ∀ a ∈ wrK l k, M16 a := wrK_m16 (fun x hx hc => by
  obtain ⟨i, hi, rfl⟩ := List.getElem_of_mem hx
  have h := hf.right (List.getElem?_eq_getElem hi)
  refine h.2.1 ?_
  rcases hc with e | e <;> (rw [e]; decide)) k
theorem Fine.step {k : Nat} {x : Ins} (hx : l[k]? = some x) : (∀ i, SubM ((wrK l (k + 1)).getD i 0) ((wrK l k).getD i 0)) ∧ ∀ t ∈ nextI x k, SubM ((wrK l (k + 1)).getD t.toNat 0) (outM x ((wrK l k).getD k 0)) := by
  have h := hf.right hx
  have e : wrK l (k + 1) = stepM (wrK l k) k x := by rw [wrK, hx]
  rw [e, stepM]
  exact fold_sub (outM_m16 (getD_m16 (hf.m16 k) _) (fun hc => h.2.1 (by rcases hc with e | e <;> (rw [e]; decide)))) _ _ (hf.m16 k) (fun t ht => by rw [wrK_length]; have := h.2.2 t ht; omega)
theorem Fine.anti (i : Nat) : ∀ d k, SubM ((wrK l (k + d)).getD i 0) ((wrK l k).getD i 0)
  | 0, k => SubM.refl _
  | d + 1, k => by
    refine SubM.trans ?_ (Fine.anti i d k)
    rw [show k + (d + 1) = (k + d) + 1 by omega]
    cases hx : l[k + d]? with
    | none => rw [wrK, hx]; exact SubM.refl _
    | some x => exact (hf.step hx).1 i
theorem Fine.stay (i : Nat) : ∀ d k, i ≤ k → (wrK l (k + d)).getD i 0 = (wrK l k).getD i 0
  | 0, _, _ => rfl
  | d + 1, k, h => by
    rw [show k + (d + 1) = (k + d) + 1 by omega, ← Fine.stay i d k h]
    cases hx : l[k + d]? with
    | none => rw [wrK, hx]
    | some x =>
      have hg := next_gt (k := k + d) (hf.right hx).1
      rw [wrK, hx]
      exact fold_other _ _ fun t ht => by have := hg t ht; omega
theorem Fine.edge {k : Nat} {x : Ins} (hx : l[k]? = some x) {t : Int} (ht : t ∈ nextI x k) : SubM ((wrL l).getD t.toNat 0) (outM x ((wrL l).getD k 0)) := by
  have hk : k < l.length := (List.getElem?_eq_some_iff.1 hx).1
  have h1 := (hf.step hx).2 t ht
  have h2 := hf.anti t.toNat (l.length - (k + 1)) (k + 1)
  have h3 := hf.stay k (l.length - k) k (Nat.le_refl _)
  rw [show k + 1 + (l.length - (k + 1)) = l.length by omega] at h2
  rw [show k + (l.length - k) = l.length by omega] at h3
  unfold wrL
  rw [h3]
  exact h2.trans h1
end

/-- What the mask says is written was. -/
def HasM (m : Mc) (v : Int) : Prop := ∀ j : Nat, j < 16 → v.toNat.testBit j = true → m.has.getD j false = true
theorem HasM.sub {m : Mc} {u v : Int} (h : HasM m v) (hs : SubM u v) : HasM m u := fun j hj hb => h j hj (hs j hb)
theorem has0 (l : List Ins) (h : 0 < l.length) (hf : Fine l) : HasM mc0 ((wrL l).getD 0 0) := by
  intro j hj hb
  have h3 := hf.stay 0 l.length 0 (Nat.le_refl _)
  rw [Nat.zero_add] at h3
  unfold wrL at hb
  rw [h3] at hb
  have e : (wrK l 0).getD 0 0 = 0 := by
    rw [wrK, preM, List.getD_eq_getElem?_getD, List.getElem?_map, List.getElem?_range h]
    rfl
  rw [e] at hb
  simp at hb
theorem outM_other {x : Ins} {v : Int} (h2 : x.c ≠ 2) (h3 : x.c ≠ 3) : outM x v = v := by
  unfold outM
  rw [if_neg (by omega)]
theorem outM_bit {x : Ins} {v : Int} {j : Nat} (hv : M16 v) (hk0 : 0 ≤ x.k) (hk : x.k ≤ 15) (h : (outM x v).toNat.testBit j = true) : v.toNat.testBit j = true ∨ j = x.k.toNat := by
  unfold outM at h
  split at h
  · obtain ⟨m, rfl⟩ := Int.eq_ofNat_of_zero_le hv.1
    have h1 := hv.2
    have hp := pow_m16 hk
    rw [hp.2.1] at h
    have e : (2 : Int) ^ x.k.toNat = ((2 ^ x.k.toNat : Nat) : Int) := by norm_cast
    have hlt : 2 ^ x.k.toNat < 65536 := by
      have : 2 ^ x.k.toNat ≤ 2 ^ 15 := Nat.pow_le_pow_right (by omega) (by omega)
      omega
    rw [e] at h
    rw [or_i64_nat m _ (by omega) (by omega)] at h
    simp only [Int.toNat_natCast, Nat.testBit_or, Bool.or_eq_true, Nat.testBit_two_pow, decide_eq_true_eq] at h ⊢
    rcases h with h | h
    · exact .inl h
    · exact .inr h.symm
  · exact .inl h
theorem un_bit {l : List Ins} {i : Nat} {x : Ins} (hun : unI l i x = false) (hr : readsC x.c = true) (hk0 : 0 ≤ x.k) (hv : M16 ((wrL l).getD i 0)) : ((wrL l).getD i 0).toNat.testBit x.k.toNat = true := by
  unfold unI at hun
  rw [hr, Bool.true_and] at hun
  generalize (wrL l).getD i 0 = v at *
  obtain ⟨m, rfl⟩ := Int.eq_ofNat_of_zero_le hv.1
  have h1 := hv.2
  have e : (m : Int) / 2 ^ x.k.toNat = ((m / 2 ^ x.k.toNat : Nat) : Int) := by simp
  have hlt : m / 2 ^ x.k.toNat ≤ m := Nat.div_le_self _ _
  rw [e, show (1 : Int) = ((1 : Nat) : Int) from rfl, and_i64_nat _ _ (by generalize m / 2 ^ x.k.toNat = q at *; omega) (by omega), Nat.and_one_is_mod] at hun
  rw [Int.toNat_natCast, Nat.testBit_eq_decide_div_mod_eq]
  have h2 := Nat.mod_two_eq_zero_or_one (m / 2 ^ x.k.toNat)
  rcases h2 with h | h
  · rw [h] at hun; simp at hun
  · simp [h]

theorem sum_fine {m : Mc} {i : Ins} {v : Int} (h : sumA i.c m.a m.x i.k = w32 v) : (sumM m i).2 = 0 ∧ (sumM m i).1.has = m.has := by
  rw [sumM_yes h]
  exact ⟨rfl, rfl⟩
theorem do_fine {b : ByteArray} {m : Mc} {x : Ins} {v : Int} (hb : b.size = 64) (hr : insRight x = true) (ho : isOp x.c = true) (h5 : x.c ≠ 5) (h6 : x.c ≠ 6) (h22 : x.c ≠ 22) (hl : looksC x.c = false) (hbad : rangeBad x = false)
    (hrd : readsC x.c = true → v.toNat.testBit x.k.toNat = true) (hv : M16 v) (hok : m.ok) (hm : HasM m v) : (doM b m x).2 = 0 ∧ HasM (doM b m x).1 (outM x v) := by
  obtain ⟨_, ⟨hy, _⟩, ⟨hn, _⟩, ⟨hk0, hk1⟩⟩ := ins_bd hr
  obtain ⟨ha, hx, hcl, hhl, hcs⟩ := hok
  obtain ⟨c, y, n, k⟩ := x
  simp only at *
  rcases sum_codes ho h5 h6 h22 hl with hc | hc | hc | hc
  · have e : outM ⟨c, y, n, k⟩ v = v := outM_other (by simp only; omega) (by simp only; omega)
    rw [e]
    rcases hc with rfl | rfl | rfl | rfl <;> exact ⟨rfl, hm⟩
  · have hcell : cellC c = true := by rcases hc with rfl | rfl | rfl | rfl <;> decide
    have hk15 : k ≤ 15 := by
      unfold rangeBad at hbad
      simp only [hcell, Bool.true_and, Bool.or_eq_false_iff, decide_eq_false_iff_not] at hbad
      omega
    obtain ⟨j, rfl⟩ := Int.eq_ofNat_of_zero_le hk0
    have hnf : ¬ (15 : Int) < (j : Int) := by omega
    have hj : j < 16 := by omega
    rcases hc with rfl | rfl | rfl | rfl
    · have hh := hm j hj (hrd (by decide))
      rw [List.getD_eq_getElem?_getD] at hh
      rw [outM_other (by simp only; omega) (by simp only; omega), show doM b m ⟨96, y, n, j⟩ = cellM m ⟨96, y, n, j⟩ from rfl, show cellM m ⟨96, y, n, j⟩ = (⟨m.cells.getD j 0, m.x, m.cells, m.has⟩, 0) by simp [cellM, hnf, hh]]
      exact ⟨rfl, hm⟩
    · have hh := hm j hj (hrd (by decide))
      rw [List.getD_eq_getElem?_getD] at hh
      rw [outM_other (by simp only; omega) (by simp only; omega), show doM b m ⟨97, y, n, j⟩ = cellM m ⟨97, y, n, j⟩ from rfl, show cellM m ⟨97, y, n, j⟩ = (⟨m.a, m.cells.getD j 0, m.cells, m.has⟩, 0) by simp [cellM, hnf, hh]]
      exact ⟨rfl, hm⟩
    · rw [show doM b m ⟨2, y, n, j⟩ = cellM m ⟨2, y, n, j⟩ from rfl, show cellM m ⟨2, y, n, j⟩ = (⟨m.a, m.x, m.cells.set j m.a, m.has.set j true⟩, 0) by simp [cellM, hnf]]
      refine ⟨rfl, fun i hi hbit => ?_⟩
      simp only [List.getD_eq_getElem?_getD, List.getElem?_set]
      rcases outM_bit hv hk0 hk15 hbit with h | h
      · have := hm i hi h
        rw [List.getD_eq_getElem?_getD] at this
        split
        · simp [hhl, hj]
        · exact this
      · simp only [Int.toNat_natCast] at h
        simp [h, hhl, hj]
    · rw [show doM b m ⟨3, y, n, j⟩ = cellM m ⟨3, y, n, j⟩ from rfl, show cellM m ⟨3, y, n, j⟩ = (⟨m.a, m.x, m.cells.set j m.x, m.has.set j true⟩, 0) by simp [cellM, hnf]]
      refine ⟨rfl, fun i hi hbit => ?_⟩
      simp only [List.getD_eq_getElem?_getD, List.getElem?_set]
      rcases outM_bit hv hk0 hk15 hbit with h | h
      · have := hm i hi h
        rw [List.getD_eq_getElem?_getD] at this
        split
        · simp [hhl, hj]
        · exact this
      · simp only [Int.toNat_natCast] at h
        simp [h, hhl, hj]
  · subst hc
    rw [outM_other (by simp only; omega) (by simp only; omega)]
    have hk4 : k % 4 = 0 ∧ k ≤ 60 := by
      unfold rangeBad at hbad
      simp at hbad
      omega
    have hld : ¬ loadB b k < 0 := by
      rw [loadB_yes ⟨hb, hk0, hk4.2, hk4.1⟩]
      have := (leV_in (bytesAt_length (s := b) (a := k.toNat) (k := 4) (by omega))).1
      omega
    rw [show doM b m ⟨32, y, n, k⟩ = (⟨loadB b k, m.x, m.cells, m.has⟩, 0) by simp [doM, hld]]
    exact ⟨rfl, hm⟩
  · have hd : doM b m ⟨c, y, n, k⟩ = sumM m ⟨c, y, n, k⟩ := by
      rcases hc with rfl | rfl | rfl | rfl | rfl | rfl | rfl | rfl | rfl | rfl | rfl | rfl | rfl | rfl <;> rfl
    rw [hd, outM_other (by simp only; omega) (by simp only; omega)]
    have hs : ∃ u, sumA c m.a m.x k = w32 u := by
      rcases hc with rfl | rfl | rfl | rfl | rfl | rfl | rfl | rfl | rfl | rfl | rfl | rfl | rfl | rfl
      · exact ⟨_, rfl⟩
      · exact ⟨_, rfl⟩
      · exact ⟨_, rfl⟩
      · have hk : ¬ k = 0 := by
          intro e; subst e; simp [rangeBad] at hbad
        exact ⟨m.a / k, by simp [sumA, hk]⟩
      · exact ⟨_, rfl⟩
      · exact ⟨_, rfl⟩
      · exact ⟨_, rfl⟩
      · exact ⟨_, rfl⟩
      · exact ⟨_, rfl⟩
      · exact ⟨_, rfl⟩
      · exact ⟨_, rfl⟩
      · exact ⟨_, rfl⟩
      · have hk : ¬ 31 < k := by
          unfold rangeBad at hbad
          simpa [cellC] using hbad
        exact ⟨m.a * 2 ^ k.toNat, by simp [sumA, hk]⟩
      · have hk : ¬ 31 < k := by
          unfold rangeBad at hbad
          simpa [cellC] using hbad
        exact ⟨m.a / 2 ^ k.toNat, by simp [sumA, hk]⟩
    obtain ⟨u, hu⟩ := hs
    have := sum_fine (m := m) (i := ⟨c, y, n, k⟩) hu
    refine ⟨this.1, fun j hj hbit => ?_⟩
    rw [this.2]
    exact hm j hj hbit

theorem run_fine {l : List Ins} {b : ByteArray} (hf : Fine l) (hb : b.size = 64) : ∀ (f k : Nat) (m : Mc) (st : Nat), k < l.length → st ≤ k → l.length ≤ k + f → m.ok → HasM m ((wrL l).getD k 0) →
    (runM l b f k m st).code = 0 ∧ 1 ≤ (runM l b f k m st).steps ∧ (runM l b f k m st).steps ≤ l.length := by
  intro f
  induction f with
  | zero => intro k m st hk _ hkf; omega
  | succ f ih =>
    intro k m st hk hst hkf hok hm
    obtain ⟨x, hx⟩ : ∃ x, l[k]? = some x := ⟨l[k], List.getElem?_eq_getElem hk⟩
    have hbadx := hf.bad k x hx
    have hunx := hf.un k x hx
    have hrt := hf.right hx
    have hv : M16 ((wrL l).getD k 0) := getD_m16 (hf.m16 l.length) k
    have hbd := ins_bd hrt.1
    have hsplit : isOp x.c = true ∧ rangeBad x = false := by
      unfold badI at hbadx
      rw [if_neg (by simp [hrt.1])] at hbadx
      split at hbadx
      · omega
      split at hbadx
      · omega
      rename_i h1 h2
      exact ⟨by simpa using h1, by simpa using h2⟩
    by_cases h6 : x.c = 6
    · rw [runM_ret hx h6]; exact ⟨rfl, by simp only; omega, by simp only; omega⟩
    by_cases h22 : x.c = 22
    · rw [runM_retA hx h22]; exact ⟨rfl, by simp only; omega, by simp only; omega⟩
    have go : ∀ (t : Nat) (m' : Mc), ((t : Int) ∈ nextI x k) → m'.ok → HasM m' (outM x ((wrL l).getD k 0)) → (runM l b f t m' (st + 1)).code = 0 ∧ 1 ≤ (runM l b f t m' (st + 1)).steps ∧ (runM l b f t m' (st + 1)).steps ≤ l.length := by
      intro t m' ht hok' hm'
      have h1 := hrt.2.2 _ ht
      have h2 := next_gt hrt.1 _ ht
      have h3 := hf.edge hx ht
      rw [Int.toNat_natCast] at h3
      exact ih t m' (st + 1) (by omega) (by omega) (by omega) hok' (hm'.sub h3)
    by_cases h5 : x.c = 5
    · rw [runM_jump hx h5]
      refine go _ m ?_ hok ?_
      · unfold nextI
        rw [if_neg (by omega), if_pos h5]
        simp; omega
      · rw [outM_other (by omega) (by omega)]; exact hm
    cases hl : looksC x.c
    · have hd := do_fine (b := b) (m := m) (v := (wrL l).getD k 0) hb hrt.1 hsplit.1 h5 h6 h22 hl hsplit.2 (fun hr => un_bit hunx hr hbd.2.2.2.1 hv) hv hok hm
      rw [runM_do hx hsplit.1 h5 h6 h22 hl hd.1]
      refine go _ _ ?_ (doM_ok hok hbd.2.2.2) hd.2
      unfold nextI
      rw [if_neg (by omega), if_neg h5, if_neg (by simp [hl])]
      simp
    · rw [runM_look hx hsplit.1 h5 h6 h22 hl]
      refine go _ m ?_ hok ?_
      · unfold nextI
        rw [if_neg (by omega), if_neg h5, if_pos hl]
        obtain ⟨_, ⟨hy0, _⟩, ⟨hn0, _⟩, _⟩ := hbd
        split
        · split <;> simp <;> omega
        · simp only [List.mem_cons, List.not_mem_nil, or_false]
          split <;> (split <;> split <;> omega)
      · have h2 : x.c ≠ 2 := by intro e; rw [e] at hl; revert hl; decide
        have h3 : x.c ≠ 3 := by intro e; rw [e] at hl; revert hl; decide
        rw [outM_other h2 h3]; exact hm

/-- What is promised of a program that Check lets by. -/
theorem check_runs {l : List Ins} {b : ByteArray} (h : (checkL l).2 = 0) (hb : b.size = 64) : (runL l b).code = 0 ∧ 1 ≤ (runL l b).steps ∧ (runL l b).steps ≤ l.length ∧ In32 (runL l b).ret := by
  have hf := check_fine h
  have hlen := hf.len
  have hall : ∀ x ∈ l, insRight x = true := fun x hx => by
    obtain ⟨i, hi, rfl⟩ := List.getElem_of_mem hx
    exact (hf.right (List.getElem?_eq_getElem hi)).1
  have hal : allOk l = true := by
    unfold allOk
    simp only [Bool.and_eq_true, decide_eq_true_eq, List.all_eq_true]
    exact ⟨hlen, hall⟩
  rw [runL_ok hlen hb hal]
  have h1 := run_fine hf hb (l.length + 1) 0 mc0 0 hf.pos (Nat.le_refl _) (by omega) mc0_ok (has0 l hf.pos hf)
  exact ⟨h1.1, h1.2.1, h1.2.2, runM_in hall _ _ _ _ mc0_ok⟩

end Go.Proofs.YtekmnopgaopmlaaGreatDoor

/- What the laws of chapter 6 ask beside: RunOuts compared; one kept in memory. -/
set_option maxRecDepth 100000
set_option linter.unusedSimpArgs false
set_option linter.unusedVariables false
namespace Go.Proofs.YtekmnopgaopmlaaGreatDoor
open Go.RowKit

theorem eqRunOut_same (a b c : Int) (w : World) : Calls Tryz.prog 25 #[.agg #[.int .i64 a, .int .i64 b, .int .i64 c], .agg #[.int .i64 a, .int .i64 b, .int .i64 c]] w fun e w' => e = .returned (.bool true) ∧ Below w.heap.size w w' := by
  have h1 := nn_int (rfl : a = a)
  have h2 := nn_int (rfl : b = b)
  have h3 := nn_int (rfl : c = c)
  go_enter Tryz.func25, Tryz.ntmps25
  go_wp2_with fail
  go_ret
  exact ⟨rfl, ((Below.refl _ _).alloc (Nat.le_refl _) _).alloc (by simp) _⟩

/-- A row of three numbers. -/
def RoAt (W : World) (b : Nat) (p q r : Int) : Prop := W.cell? ⟨b, 0, none⟩ = some (.int .i64 p) ∧ W.cell? ⟨b, 1, none⟩ = some (.int .i64 q) ∧ W.cell? ⟨b, 2, none⟩ = some (.int .i64 r) ∧ b < W.heap.size
theorem RoAt.new (w : World) (p q r : Int) (T : TypeId) : RoAt (w.alloc (.cells #[.int .i64 p, .int .i64 q, .int .i64 r] T)) w.heap.size p q r :=
  ⟨World.cell?_alloc_at _ _ _ _ rfl, World.cell?_alloc_at _ _ _ _ rfl, World.cell?_alloc_at _ _ _ _ rfl, by simp⟩
theorem RoAt.below {W W' : World} {b : Nat} {p q r : Int} (h : RoAt W b p q r) (hb : Below W.heap.size W W') : RoAt W' b p q r :=
  ⟨(hb.cell (p := ⟨b, 0, none⟩) h.2.2.2).trans h.1, (hb.cell (p := ⟨b, 1, none⟩) h.2.2.2).trans h.2.1, (hb.cell (p := ⟨b, 2, none⟩) h.2.2.2).trans h.2.2.1, Nat.lt_of_lt_of_le h.2.2.2 hb.size⟩

end Go.Proofs.YtekmnopgaopmlaaGreatDoor

/- RunOn of the model and of the program, walked. -/
set_option maxRecDepth 100000
set_option linter.unusedSimpArgs false
set_option linter.unusedVariables false
namespace Go.Proofs.YtekmnopgaopmlaaGreatDoor
open Go.RowKit

theorem wdB_all : ∀ l : List Wd, (l.flatMap wdB).length = l.length * 8
  | [] => rfl
  | x :: l => by simp only [List.flatMap_cons, List.length_append, wdB_length, wdB_all l, List.length_cons]; omega
theorem rbOf_le (r : Rc) : (rbOf r).size ≤ maxLen := by
  unfold rbOf maxLen
  split
  · rename_i h
    have h6 : r.args.length = 6 := by unfold rcRight at h; simp only [Bool.and_eq_true, decide_eq_true_eq] at h; exact h.1.2
    rw [size_mk]
    simp only [rcB, List.length_append, leB_length, wdB_length, wdB_all, h6]
    omega
  · rw [show ((⟨#[]⟩ : ByteArray).size) = 0 from rfl]; omega
theorem below_al {a x : World} (h : Below a.heap.size a x) (o : Obj) : Below a.heap.size a (x.alloc o) := h.alloc h.size o
theorem below_chain {a x y : World} (h : Below a.heap.size a x) (k : Below x.heap.size x y) : Below a.heap.size a y := h.trans (k.mono h.size)
theorem box_row {w w' : World} {cs : Array Value} {T : TypeId} (h : Below (w.alloc (.cells cs T)).heap.size (w.alloc (.cells cs T)) w') : w'.heap[w.heap.size]? = some (.cells cs T (0, 0)) := (h.block _ (by simp)).trans (alloc_new_at w cs T rfl)
theorem box_rowd {w w' : World} {cs : Array Value} {T : TypeId} (h : Below (w.alloc (.cells cs T)).drew.heap.size (w.alloc (.cells cs T)).drew w') : w'.heap[w.heap.size]? = some (.cells cs T (0, 0)) := box_row (w := w) (cs := cs) (T := T) ⟨h.os, h.tape, h.output, h.size, h.block⟩
theorem row2_at {w w' : World} {A B : Array Value} {T U : TypeId} (h : Below ((w.alloc (.cells A T)).alloc (.cells B U)).heap.size ((w.alloc (.cells A T)).alloc (.cells B U)) w') :
    w'.heap[w.heap.size]? = some (.cells A T (0, 0)) ∧ w'.heap[w.heap.size + 1]? = some (.cells B U (0, 0)) :=
  ⟨(h.block _ (by simp; omega)).trans (row_alloc (alloc_new_at w A T rfl) _), (h.block _ (by simp)).trans (alloc_new_at _ B U (by simp))⟩

theorem ins_al {W : World} {v : Value} {l : List Ins} (h : InsAt W W.heap.size v l) (o : Obj) : InsAt (W.alloc o) (W.alloc o).heap.size v l := (h.below (below_al (Below.refl _ _) o)).up (below_al (Below.refl W.heap.size W) o).size
theorem wd_al {W : World} {v : Value} {l : List Wd} (h : WdAt W W.heap.size v l) (o : Obj) : WdAt (W.alloc o) (W.alloc o).heap.size v l := LAt.up (LAt.below h (below_al (Below.refl _ _) o)) (below_al (Below.refl W.heap.size W) o).size

set_option maxHeartbeats 1600000 in
theorem specRunOn_any (v : Value) (l : List Ins) (r : Rc) (u : Value) (w : World) (h : InsAt w w.heap.size v l) (hu : WdAt w w.heap.size u r.args) (hll : l.length ≤ 1048576) :
    Calls Tryz.prog 20 #[v, rcV r u] w fun e w' => e = .returned (ansV (runL l (rbOf r))) ∧ Below w.heap.size w w' := by
  obtain ⟨a, cap, rfl, hlc, hcm⟩ := h.len
  obtain ⟨a2, cap2, rfl, hlc2, hcm2⟩ := hu.len
  have hb0 := below_al (below_al (Below.refl w.heap.size w) (.cells #[.int .i64 r.nr, .int .i64 r.ar, .int .i64 r.ip.h, .int .i64 r.ip.l, .slice a2 r.args.length cap2] 36)) (.cells #[.int .i64 0, .int .i64 0, .int .i64 0] 44)
  have HB0 := Lib.hid hb0
  have QB := Lib.hid (specRecordBytes_any r _ _ ((LAt.below hu hb0).up hb0.size))
  have QR := Lib.hid (fun W (hW : Below w.heap.size w W) => specRun_any _ l (rbOf r) W ((h.below hW).up hW.size) (rbOf_le r) hll)
  generalize rbOf r = bs at *
  generalize runL l bs = ans at *
  obtain ⟨nr, ar, ⟨ih, il⟩, args⟩ := r
  obtain ⟨rp, rq, rr⟩ := ans
  simp only [ansV] at QB QR HB0 ⊢
  clear h hu hb0
  go_enter Tryz.func20, Tryz.ntmps20
  go_wp2_with fail
  refine QB.out.mono ?_
  rintro e w1 ⟨rfl, hb1⟩
  have HB1 := Lib.hid hb1
  clear hb1
  go_wp2_with fail
  refine (QR.out _ (below_chain HB0.out HB1.out)).mono ?_
  rintro e w2 ⟨rfl, hb2⟩
  have hr := row2_at (below_chain HB1.out hb2)
  have d0 := row_cell hr.2 0
  have d1 := row_cell hr.2 1
  have d2 := row_cell hr.2 2
  have f0 := frozen_row hr.2 0
  have f1 := frozen_row hr.2 1
  have f2 := frozen_row hr.2 2
  simp only [List.getElem?_toArray, List.getElem?_cons_zero, List.getElem?_cons_succ] at d0 d1 d2
  have HB2 := Lib.hid (below_chain HB0.out (below_chain HB1.out hb2))
  clear hb2 hr
  go_wp2_with fail
  exact bodyPost_ret (v := .agg #[.int .i64 rp, .int .i64 rq, .int .i64 rr]) (by simp [results, Tryz.results20, go_sem, d0, d1, d2, f0, f1, f2]) rfl ⟨rfl, ((HB2.out.setCell (by simp) _).setCell (by simp) _).setCell (by simp) _⟩

set_option maxHeartbeats 1600000 in
theorem implRunOn_any (v : Value) (l : List Ins) (r : Rc) (u : Value) (w : World) (h : InsAt w w.heap.size v l) (hu : WdAt w w.heap.size u r.args) (hll : l.length ≤ 1048576) (hg : w.cell? ⟨0, 0, none⟩ = some handleV) :
    Calls Tryz.prog 19 #[v, rcV r u] w fun e w' => e = .returned (ansV (runL l (rbOf r))) ∧ Below w.heap.size w w' := by
  obtain ⟨a, cap, rfl, hlc, hcm⟩ := h.len
  obtain ⟨a2, cap2, rfl, hlc2, hcm2⟩ := hu.len
  have hglt : 0 < w.heap.size := by
    rcases Nat.lt_or_ge 0 w.heap.size with h | h
    · exact h
    · simp [World.cell?, Array.getElem?_eq_none h] at hg
  have hb0 := below_al (below_al (Below.refl w.heap.size w) (.cells #[.int .i64 r.nr, .int .i64 r.ar, .int .i64 r.ip.h, .int .i64 r.ip.l, .slice a2 r.args.length cap2] 36)) (.cells #[.int .i64 0, .int .i64 0, .int .i64 0] 44)
  have HB0 := Lib.hid hb0
  have QB := Lib.hid (implRecordBytes_any r _ _ ((LAt.below hu hb0).up hb0.size))
  have QR := Lib.hid (fun W (hW : Below w.heap.size w W) => implRun_any _ l (rbOf r) W ((h.below hW).up hW.size) (rbOf_le r) hll ((hW.cell (p := ⟨0, 0, none⟩) hglt).trans hg))
  generalize rbOf r = bs at *
  generalize runL l bs = ans at *
  obtain ⟨nr, ar, ⟨ih, il⟩, args⟩ := r
  obtain ⟨rp, rq, rr⟩ := ans
  simp only [ansV] at QB QR HB0 ⊢
  clear h hu hb0 hg
  go_enter Tryz.func19, Tryz.ntmps19
  go_wp2_with fail
  refine QB.out.mono ?_
  rintro e w1 ⟨rfl, hb1⟩
  have HB1 := Lib.hid hb1
  clear hb1
  go_wp2_with fail
  refine (QR.out _ (below_chain HB0.out HB1.out)).mono ?_
  rintro e w2 ⟨rfl, hb2⟩
  have hr := row2_at (below_chain HB1.out hb2)
  have d0 := row_cell hr.2 0
  have d1 := row_cell hr.2 1
  have d2 := row_cell hr.2 2
  have f0 := frozen_row hr.2 0
  have f1 := frozen_row hr.2 1
  have f2 := frozen_row hr.2 2
  simp only [List.getElem?_toArray, List.getElem?_cons_zero, List.getElem?_cons_succ] at d0 d1 d2
  have HB2 := Lib.hid (below_chain HB0.out (below_chain HB1.out hb2))
  clear hb2 hr
  go_wp2_with fail
  exact bodyPost_ret (v := .agg #[.int .i64 rp, .int .i64 rq, .int .i64 rr]) (by simp [results, Tryz.results19, go_sem, d0, d1, d2, f0, f1, f2]) rfl ⟨rfl, ((HB2.out.setCell (by simp) _).setCell (by simp) _).setCell (by simp) _⟩

end Go.Proofs.YtekmnopgaopmlaaGreatDoor

