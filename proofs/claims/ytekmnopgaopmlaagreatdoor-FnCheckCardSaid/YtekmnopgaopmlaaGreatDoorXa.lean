/- Texts of one proof, put together: Bs Ia Lk Sq Ts Gb Fl On Bt Bi Lv Wd Pb Pr Pw Iw Gc Mk Mp. -/
import Derived.Test.YtekmnopgaopmlaaGreatDoorRows
import Derived.WalkKit
import Derived.WalkSpells
import Derived.WalkLawsBesides
import Derived.Lib.Hide
import Derived.Deep.Light
import Derived.Lib.Strings
import Derived.Deep.Slices
import Derived.Lib.SmallJoins
import Derived.OwnWalk
import Derived.Laws.OwnMore
import Derived.StillTailTactics
import Derived.Deep.Draws
import Derived.Maps.AppendAt
import Derived.Deep.RegionHeld3
import Derived.Deep.DrawnRows

/- Words for byte rows that a call made itself: one append of a byte, the row as a string; numbers as bytes (plain part). -/
namespace Go.Proofs.YtekmnopgaopmlaaGreatDoor
open Go.RowKit

theorem ret_str {a b : ByteArray} (h : a = b) : Ending.returned (.string a) = .returned (.string b) := by rw [h]
theorem ret_int {k : IntKind} {a b : Int} (h : a = b) : Ending.returned (.int k a) = .returned (.int k b) := by rw [h]

theorem size_mk (l : List UInt8) : (⟨l.toArray⟩ : ByteArray).size = l.length := by simp [ByteArray.size]
/-- The walk's comparison of two texts. -/
theorem str_beq_true {a b : ByteArray} (h : a = b) : (a.toList == b.toList) = true := by subst h; simp
theorem str_beq_false {a b : ByteArray} (h : ¬ a = b) : (a.toList == b.toList) = false := by
  rw [beq_eq_false_iff_ne]
  intro e
  apply h
  rw [Lib.toList_data, Lib.toList_data] at e
  apply ByteArray.ext
  exact Array.toList_inj.1 e

/-- A block that a callee let be. -/
theorem below_row {W w2 : World} {g : Nat} {cs : Array Value} {T : TypeId} (hb : Below W.heap.size W w2) (h : W.heap[g]? = some (.cells cs T (0, 0))) : w2.heap[g]? = some (.cells cs T (0, 0)) := by
  have hlt : g < W.heap.size := by
    rcases Nat.lt_or_ge g W.heap.size with hl | hl
    · exact hl
    · rw [Array.getElem?_eq_none hl] at h; cases h
  exact (hb.block _ hlt).trans h
theorem frozen_row {w : World} {g : Nat} {cs : Array Value} {T : TypeId} (h : w.heap[g]? = some (.cells cs T (0, 0))) (i : Nat) : w.frozen? ⟨g, i, none⟩ = false := by simp [World.frozen?, h]

/-- A result of three cells, laid ahead of a callee: its cells behind the callee, and what the store of a result leaves. -/
theorem box3 {w W w2 : World} {v0 v1 v2 : Value} {T : TypeId} (hW : W.heap = (w.alloc (.cells #[v0, v1, v2] T)).heap) (hw : Below w.heap.size w W) (hb : Below W.heap.size W w2) :
    w2.cell? ⟨w.heap.size, 0, none⟩ = some v0 ∧ w2.cell? ⟨w.heap.size, 1, none⟩ = some v1 ∧ w2.cell? ⟨w.heap.size, 2, none⟩ = some v2 ∧
    w2.frozen? ⟨w.heap.size, 0, none⟩ = false ∧ w2.frozen? ⟨w.heap.size, 1, none⟩ = false ∧ w2.frozen? ⟨w.heap.size, 2, none⟩ = false ∧ w.heap.size < w2.heap.size ∧ Below w.heap.size w w2 ∧
    ∀ a b c : Value, Below w.heap.size w (((w2.setCell ⟨w.heap.size, 0, none⟩ a).setCell ⟨w.heap.size, 1, none⟩ b).setCell ⟨w.heap.size, 2, none⟩ c) := by
  have hrow : w2.heap[w.heap.size]? = some (.cells #[v0, v1, v2] T (0, 0)) := below_row hb (by rw [hW]; exact heap_alloc_new w _)
  have hWs : W.heap.size = w.heap.size + 1 := by rw [hW]; simp
  have h2 := hb.size
  have hbb : Below w.heap.size w w2 := hw.trans (hb.mono (by omega))
  refine ⟨by rw [cell_of_row _ _ _ _ _ _ hrow]; rfl, by rw [cell_of_row _ _ _ _ _ _ hrow]; rfl, by rw [cell_of_row _ _ _ _ _ _ hrow]; rfl, frozen_row hrow 0, frozen_row hrow 1, frozen_row hrow 2, by omega, hbb, fun a b c => ?_⟩
  exact (((hbb.setCell (p := ⟨w.heap.size, 0, none⟩) (Nat.le_refl _) a).setCell (p := ⟨w.heap.size, 1, none⟩) (Nat.le_refl _) b).setCell (p := ⟨w.heap.size, 2, none⟩) (Nat.le_refl _) c)

theorem info_u8 : (Tryz.prog.info? 5).map (fun i => (i.zero, i.size, i.bytes)) = some (some (.int .u8 0), 1, 1) := by kernel_rfl

/-- The cells that a list of bytes has. -/
def byteCells (bs : List UInt8) : List Value := bs.map fun b => Value.int .u8 (b.toNat : Int)
theorem byteCells_append (a b : List UInt8) : byteCells (a ++ b) = byteCells a ++ byteCells b := by simp [byteCells]
theorem byteCells_length (a : List UInt8) : (byteCells a).length = a.length := by simp [byteCells]

/-- A byte slice that the call made: it owns just these bytes. -/
def OwnB (base : Nat) (w : World) (v : Value) (bs : List UInt8) : Prop := w.ownsRow base 5 1 v bs.length (byteCells bs)

theorem OwnB.nil (base : Nat) (w : World) : OwnB base w (.slice none 0 0) [] := World.ownsRow_nil _ _ _ _
theorem OwnB.lt {base : Nat} {w : World} {v : Value} {bs : List UInt8} (h : OwnB base w v bs) : ∀ k, v.ownBlock = some k → base ≤ k ∧ k < w.heap.size := World.ownsRow.lt h

theorem byte_of_int (n : Int) (h0 : 0 ≤ n) (h1 : n ≤ 255) : ((UInt8.ofNat n.toNat).toNat : Int) = n := by
  have h : n.toNat < 256 := by omega
  rw [UInt8.toNat_ofNat', Nat.mod_eq_of_lt (by omega)]
  omega

theorem wpList_push_u8 {ops : Array Oper} {rest : List Oper} {o : Oper} {a : Act} {Q : Exit → Act → World → Prop} (hgd : o.guard = none) (s x : Operand)
    (ho : o.op = .call { callee := .builtin .append, args := #[s, x], argTypes := #[22, 22] }) (wr : World)
    (base : Nat) (v : Value) (bs : List UInt8) (hs : a.eval s = v) (hown : OwnB base wr v bs) (n : Int) (h0 : 0 ≤ n) (h1 : n ≤ 255)
    (hx : a.eval x = .slice (some ⟨wr.heap.size, 0, none⟩) 1 1) (hlen : bs.length + 1 ≤ 140737488355328) (hbase : base ≤ wr.heap.size)
    (h : ∀ v' w', OwnB base w' v' (bs ++ [UInt8.ofNat n.toNat]) → wr.grownBy w' v.ownBlock → wpList Tryz.prog ops Q rest (a.put o.dst v') w') :
    wpList Tryz.prog ops Q (o :: rest) a (wr.alloc (.cells #[.int .u8 n] 5)) := by
  obtain ⟨i0, hi, hz0, hz1, hz2⟩ := info_parts info_u8
  refine wpList_append_own _ hgd s x 22 ho base 5 i0 (.int .u8 0) 1 1 Tryz.underlying22 hi hz0 hz1 hz2 rfl (by decide) v bs.length (byteCells bs) hs
    (World.ownsRow.alloc hown _) ⟨wr.heap.size, 0, none⟩ 1 1 [.int .u8 n] hx rfl (cell_one_new _ _ _) (by intro u hu; simp at hu; subst hu; rfl) (by unfold maxLen; omega) (by omega) (by simp; omega) ?_
  intro v' w' hown' hg _
  refine h v' w' ?_ ?_
  · unfold OwnB
    rw [byteCells_append]
    have e : byteCells [UInt8.ofNat n.toNat] = [.int .u8 n] := by simp only [byteCells, List.map_cons, List.map_nil, byte_of_int n h0 h1]
    rw [e]
    simpa using hown'
  · exact ⟨hg.os, hg.tape, hg.output, Nat.le_trans (by simp) hg.size, fun k hk hne => (hg.block k (by simp; omega) hne).trans (Below.heap_alloc wr _ k hk)⟩

theorem byteCells_get (bs : List UInt8) (i : Nat) (hi : i < bs.length) : (byteCells bs)[i]? = some (.int .u8 ((bs.map fun b => (b.toNat : Int)).getD i 0)) := by
  unfold byteCells
  rw [List.getD_eq_getElem?_getD, List.getElem?_map, List.getElem?_map, List.getElem?_eq_getElem hi]
  rfl

theorem strOfNums_bytes (bs : List UInt8) : strOfNums (bs.map fun b => (b.toNat : Int)) = ⟨bs.toArray⟩ := by
  apply ByteArray.ext
  apply Array.toList_inj.1
  rw [strOfNums_data, List.map_map]
  conv => rhs; rw [← List.map_id bs]
  apply List.map_congr_left
  intro x _
  simp

theorem OwnB.string {base : Nat} {w : World} {v : Value} {bs : List UInt8} (h : OwnB base w v bs) :
    (convert 22 9 v).run Tryz.prog w = .ok (.string ⟨bs.toArray⟩) w := by
  have hc : ∀ g, v.ownBlock = some g → ∀ j u, (byteCells bs)[j]? = some u → w.cell? ((⟨g, 0, none⟩ : Addr).add j) = some u := fun g hg => World.ownsRow.cells h hg
  rcases h.2 with ⟨rfl, hn⟩ | ⟨g, cap, cur, rfl, _, _, _, _, _, _⟩
  · rw [run_convert_bytes_nil w _ _ Tryz.underlying22 Tryz.underlying5 _ _ _ Tryz.underlying9]
    have : bs = [] := List.eq_nil_of_length_eq_zero hn
    subst this
    rfl
  · have hc := hc g rfl
    rw [run_convert_bytes_arg w _ _ Tryz.underlying22 Tryz.underlying5 g 0 bs.length cap (bs.map fun b => (b.toNat : Int)) (by simp) (fun i hi => ?_) _ Tryz.underlying9, strOfNums_bytes]
    have h1 := hc i _ (byteCells_get bs i hi)
    have e : (⟨g, 0, none⟩ : Addr).add i = ⟨g, 0 + i, none⟩ := by unfold Addr.add; split <;> simp_all
    rw [← e]
    exact h1

end Go.Proofs.YtekmnopgaopmlaaGreatDoor

/- The machine's words as plain data; the walks of toInsn, eqInsn and InsnRight. -/
set_option maxRecDepth 100000
namespace Go.Proofs.YtekmnopgaopmlaaGreatDoor
open Go.RowKit

theorem row_put {w : World} {g : Nat} {cs : Array Value} {T : TypeId} (h : w.heap[g]? = some (.cells cs T (0, 0))) (i : Nat) (v : Value) : (w.setCell ⟨g, i, none⟩ v).heap[g]? = some (.cells (cs.setIfInBounds i v) T (0, 0)) := by
  simp [World.setCell, Array.getElem?_modify, h]

/-- A parameter's box: what it holds behind calls, and what they let be. -/
theorem box_cell {w w' : World} {cs : Array Value} {T : TypeId} (h : Below (w.alloc (.cells cs T)).heap.size (w.alloc (.cells cs T)) w') (i : Nat) : w'.cell? ⟨w.heap.size, i, none⟩ = cs[i]? := by
  rw [h.cell (p := ⟨w.heap.size, i, none⟩) (by simp)]
  exact World.cell?_alloc_at _ _ _ _ rfl
theorem box_free {w w' : World} {cs : Array Value} {T : TypeId} (h : Below (w.alloc (.cells cs T)).heap.size (w.alloc (.cells cs T)) w') (i : Nat) : w'.frozen? ⟨w.heap.size, i, none⟩ = false := by
  rw [h.frozen (p := ⟨w.heap.size, i, none⟩) (by simp)]
  exact frozen_row (heap_alloc_new w _) i
theorem box_below {w w' : World} {cs : Array Value} {T : TypeId} (h : Below (w.alloc (.cells cs T)).heap.size (w.alloc (.cells cs T)) w') : Below w.heap.size w w' :=
  ((Below.refl _ _).alloc (Nat.le_refl _) _).trans (h.mono (by simp))

theorem box2 {w w' : World} {A B : Array Value} {T U : TypeId} (h : Below ((w.alloc (.cells A T)).alloc (.cells B U)).heap.size ((w.alloc (.cells A T)).alloc (.cells B U)) w') :
    (∀ i, w'.cell? ⟨w.heap.size, i, none⟩ = A[i]?) ∧ (∀ i, w'.cell? ⟨w.heap.size + 1, i, none⟩ = B[i]?) ∧ Below w.heap.size w w' := by
  refine ⟨fun i => ?_, fun i => ?_, (((Below.refl _ _).alloc (Nat.le_refl _) _).alloc (by simp) _).trans (h.mono (by simp; omega))⟩
  · rw [h.cell (p := ⟨w.heap.size, i, none⟩) (by simp; omega), World.cell?_alloc_past _ _ _ (by simp), World.cell?_alloc_at _ _ _ _ rfl]
  · rw [h.cell (p := ⟨w.heap.size + 1, i, none⟩) (by simp), World.cell?_alloc_at _ _ _ _ (by simp)]

theorem boxes3 {w w' : World} {A B C : Array Value} {T U V : TypeId} (h : Below (((w.alloc (.cells A T)).alloc (.cells B U)).alloc (.cells C V)).heap.size (((w.alloc (.cells A T)).alloc (.cells B U)).alloc (.cells C V)) w') :
    (∀ i, w'.cell? ⟨w.heap.size, i, none⟩ = A[i]?) ∧ (∀ i, w'.cell? ⟨w.heap.size + 1, i, none⟩ = B[i]?) ∧ (∀ i, w'.cell? ⟨w.heap.size + 1 + 1, i, none⟩ = C[i]?) ∧ (∀ i, w'.frozen? ⟨w.heap.size + 1 + 1, i, none⟩ = false) ∧ Below w.heap.size w w' := by
  have h2 := box2 (w' := w') (w := w) (A := A) (B := B) (T := T) (U := U) (((Below.refl _ _).alloc (Nat.le_refl _) _).trans (h.mono (by simp)))
  refine ⟨h2.1, h2.2.1, fun i => ?_, fun i => ?_, h2.2.2⟩
  · have := box_cell (w := (w.alloc (.cells A T)).alloc (.cells B U)) h i
    simpa using this
  · have := box_free (w := (w.alloc (.cells A T)).alloc (.cells B U)) h i
    simpa using this

theorem rows2 {w w' : World} {A B : Array Value} {T U : TypeId} (h : Below ((w.alloc (.cells A T)).alloc (.cells B U)).heap.size ((w.alloc (.cells A T)).alloc (.cells B U)) w') :
    w'.heap[w.heap.size]? = some (.cells A T (0, 0)) ∧ w'.heap[w.heap.size + 1]? = some (.cells B U (0, 0)) ∧ Below w.heap.size w w' ∧ w.heap.size + 2 ≤ w'.heap.size := by
  refine ⟨?_, ?_, (box2 h).2.2, by have := h.size; simp at this; omega⟩
  · exact (h.block _ (by simp; omega)).trans ((Below.heap_alloc (w.alloc (.cells A T)) _ _ (by simp)).trans (heap_alloc_new w _))
  · exact (h.block (w.heap.size + 1) (by simp)).trans (by have e := heap_alloc_new (w.alloc (.cells A T)) (.cells B U); rw [World.size_alloc] at e; exact e)
theorem rows3 {w w' : World} {A B C : Array Value} {T U V : TypeId} (h : Below (((w.alloc (.cells A T)).alloc (.cells B U)).alloc (.cells C V)).heap.size (((w.alloc (.cells A T)).alloc (.cells B U)).alloc (.cells C V)) w') :
    w'.heap[w.heap.size]? = some (.cells A T (0, 0)) ∧ w'.heap[w.heap.size + 1]? = some (.cells B U (0, 0)) ∧ w'.heap[w.heap.size + 1 + 1]? = some (.cells C V (0, 0)) ∧ Below w.heap.size w w' ∧ w.heap.size + 3 ≤ w'.heap.size := by
  have h2 := rows2 (w' := w') (w := w) (A := A) (B := B) (T := T) (U := U) (((Below.refl _ _).alloc (Nat.le_refl _) _).trans (h.mono (by simp)))
  refine ⟨h2.1, h2.2.1, ?_, h2.2.2.1, by have := h.size; simp at this; omega⟩
  exact (h.block (w.heap.size + 1 + 1) (by simp)).trans (by have e := heap_alloc_new ((w.alloc (.cells A T)).alloc (.cells B U)) (.cells C V); rw [World.size_alloc, World.size_alloc] at e; exact e)
/-- A row, cell by cell; where another row is written. -/
theorem row_other {w : World} {g h : Nat} {o : Obj} (hr : w.heap[g]? = some o) (i : Nat) (v : Value) (hne : g ≠ h) : (w.setCell ⟨h, i, none⟩ v).heap[g]? = some o :=
  (Below.heap_setCell w ⟨h, i, none⟩ v g hne).trans hr
theorem row_cell {w : World} {g : Nat} {cs : Array Value} {T : TypeId} (h : w.heap[g]? = some (.cells cs T (0, 0))) (i : Nat) : w.cell? ⟨g, i, none⟩ = cs[i]? := cell_of_row _ _ _ _ _ _ h

theorem row_grown {w w' : World} {b : Nat} {o : Obj} {row : Option Nat} (h : w.heap[b]? = some o) (hg : w.grownBy w' row) (hne : row ≠ some b) : w'.heap[b]? = some o := by
  have hlt : b < w.heap.size := by
    rcases Nat.lt_or_ge b w.heap.size with hl | hl
    · exact hl
    · rw [Array.getElem?_eq_none hl] at h; cases h
  exact (hg.block b hlt fun e => hne e.symm).trans h
theorem row_alloc {w : World} {b : Nat} {o : Obj} (h : w.heap[b]? = some o) (o' : Obj) : (w.alloc o').heap[b]? = some o := by
  have hlt : b < w.heap.size := by
    rcases Nat.lt_or_ge b w.heap.size with hl | hl
    · exact hl
    · rw [Array.getElem?_eq_none hl] at h; cases h
  exact (Below.heap_alloc w o' b hlt).trans h
theorem row_here {w : World} {b : Nat} {o : Obj} (h : w.heap[b]? = some o) : b < w.heap.size := by
  rcases Nat.lt_or_ge b w.heap.size with hl | hl
  · exact hl
  · rw [Array.getElem?_eq_none hl] at h; cases h

/-- A word of the machine. -/
structure Ins where
  c : Int
  y : Int
  n : Int
  k : Int
def In64 (n : Int) : Prop := -9223372036854775808 ≤ n ∧ n ≤ 9223372036854775807
def Ins.wf (x : Ins) : Prop := In64 x.c ∧ In64 x.y ∧ In64 x.n ∧ In64 x.k
theorem Ins.ext' {a b : Ins} (h0 : a.c = b.c) (h1 : a.y = b.y) (h2 : a.n = b.n) (h3 : a.k = b.k) : a = b := by cases a; cases b; simp_all
instance : DecidableEq Ins := fun a b => decidable_of_iff (a.c = b.c ∧ a.y = b.y ∧ a.n = b.n ∧ a.k = b.k) ⟨fun h => Ins.ext' h.1 h.2.1 h.2.2.1 h.2.2.2, fun h => by rw [h]; exact ⟨rfl, rfl, rfl, rfl⟩⟩

def isB (n lo hi : Int) : Bool := decide (lo ≤ n ∧ n ≤ hi)
theorem ret_bool {a b : Bool} (h : a = b) : Ending.returned (.bool a) = .returned (.bool b) := by rw [h]
theorem isB_yes {n lo hi : Int} (h0 : lo ≤ n) (h1 : n ≤ hi) : isB n lo hi = true := by unfold isB; simp [h0, h1]
theorem isB_no {n lo hi : Int} (h : ¬ (lo ≤ n ∧ n ≤ hi)) : isB n lo hi = false := by unfold isB; simpa using h
/-- Is a word right? -/
def insRight (x : Ins) : Bool := isB x.c 0 65535 && isB x.y 0 255 && isB x.n 0 255 && isB x.k 0 4294967295

theorem l02Is_any (n lo hi : Int) (w : World) : Calls Tryz.prog 81 #[.int .i64 n, .int .i64 lo, .int .i64 hi] w fun e w' => e = .returned (.bool (isB n lo hi)) ∧ w = w' := by
  by_cases h0 : lo ≤ n
  · by_cases h1 : n ≤ hi
    · have hb := Lib.hid (isB_yes h0 h1)
      go_enter Tryz.func81, Tryz.ntmps81
      go_wp2
      go_ret
      exact ⟨ret_bool hb.out.symm, rfl⟩
    · have hb := Lib.hid (isB_no (n := n) (lo := lo) (hi := hi) (by omega))
      have h1' : decide (n ≤ hi) = false := by simpa using h1
      go_enter Tryz.func81, Tryz.ntmps81
      go_wp2
      go_ret
      exact ⟨ret_bool hb.out.symm, rfl⟩
  · have hb := Lib.hid (isB_no (n := n) (lo := lo) (hi := hi) (by omega))
    have h0' : decide (lo ≤ n) = false := by simpa using h0
    go_enter Tryz.func81, Tryz.ntmps81
    go_wp2
    go_ret
    exact ⟨ret_bool hb.out.symm, rfl⟩

theorem within_any (n hi : Int) (w : World) : Calls Tryz.prog 79 #[.int .i64 n, .int .i64 hi] w fun e w' => e = .returned (.bool (isB n 0 hi)) ∧ w = w' := by
  by_cases h0 : 0 ≤ n
  · by_cases h1 : n ≤ hi
    · have hb := Lib.hid (isB_yes h0 h1)
      go_enter Tryz.func79, Tryz.ntmps79
      go_wp2
      go_ret
      exact ⟨ret_bool hb.out.symm, rfl⟩
    · have hb := Lib.hid (isB_no (n := n) (lo := 0) (hi := hi) (by omega))
      have h1' : decide (n ≤ hi) = false := by simpa using h1
      go_enter Tryz.func79, Tryz.ntmps79
      go_wp2
      go_ret
      exact ⟨ret_bool hb.out.symm, rfl⟩
  · have hb := Lib.hid (isB_no (n := n) (lo := 0) (hi := hi) (by omega))
    have h0' : decide (0 ≤ n) = false := by simpa using h0
    go_enter Tryz.func79, Tryz.ntmps79
    go_wp2
    go_ret
    exact ⟨ret_bool hb.out.symm, rfl⟩

theorem toInsn_any (c y n k : Int) (w : World) : Calls Tryz.prog 58 #[.agg #[.int .i64 c, .int .i64 y, .int .i64 n, .int .i64 k]] w fun e w' =>
    e = .returned (.agg #[.int .i64 c, .int .i64 y, .int .i64 n, .int .i64 k]) ∧ Below w.heap.size w w' := by
  go_enter Tryz.func58, Tryz.ntmps58
  go_wp2
  exact bodyPost_ret (v := .agg #[.int .i64 c, .int .i64 y, .int .i64 n, .int .i64 k]) (by simp [results, Tryz.results58, go_sem]) rfl ⟨rfl, (((Below.refl _ _).alloc (Nat.le_refl _) _).alloc (by simp) _).alloc (by simp; omega) _⟩

theorem isRight_spec (c y n k : Int) (w : World) : Calls Tryz.prog 76 #[.agg #[.int .i64 c, .int .i64 y, .int .i64 n, .int .i64 k]] w fun e w' =>
    e = .returned (.bool (insRight ⟨c, y, n, k⟩)) ∧ Below w.heap.size w w' := by
  by_cases h0 : isB c 0 65535 = true <;> by_cases h1 : isB y 0 255 = true <;> by_cases h2 : isB n 0 255 = true
  all_goals
    go_enter Tryz.func76, Tryz.ntmps76
    go_wp2_with (go_at_call 81; refine (l02Is_any _ _ _ _).mono ?_; rintro e w' ⟨rfl, rfl⟩)
    go_ret
    exact ⟨ret_bool (by simp [insRight, *]), (Below.refl _ _).alloc (Nat.le_refl _) _⟩

theorem isRight_impl (c y n k : Int) (w : World) : Calls Tryz.prog 69 #[.agg #[.int .i64 c, .int .i64 y, .int .i64 n, .int .i64 k]] w fun e w' =>
    e = .returned (.bool (insRight ⟨c, y, n, k⟩)) ∧ Below w.heap.size w w' := by
  by_cases h0 : isB c 0 65535 = true <;> by_cases h1 : isB y 0 255 = true <;> by_cases h2 : isB n 0 255 = true
  all_goals
    go_enter Tryz.func69, Tryz.ntmps69
    go_wp2_with (go_at_call 79; refine (within_any _ _ _).mono ?_; rintro e w' ⟨rfl, rfl⟩)
    go_ret
    exact ⟨ret_bool (by simp [insRight, *]), (Below.refl _ _).alloc (Nat.le_refl _) _⟩

theorem ne_int {a b : Int} (h : ¬ a = b) : (a != b) = true := by simpa using h
theorem nn_int {a b : Int} (h : a = b) : (a != b) = false := by simpa using h

theorem eqInsn_any (a b : Ins) (w : World) : Calls Tryz.prog 61 #[.agg #[.int .i64 a.c, .int .i64 a.y, .int .i64 a.n, .int .i64 a.k], .agg #[.int .i64 b.c, .int .i64 b.y, .int .i64 b.n, .int .i64 b.k]] w fun e w' =>
    e = .returned (.bool (decide (a = b))) ∧ Below w.heap.size w w' := by
  obtain ⟨c, y, n, k⟩ := a
  obtain ⟨c', y', n', k'⟩ := b
  by_cases h0 : c = c'
  · by_cases h1 : y = y'
    · by_cases h2 : n = n'
      · by_cases h3 : k = k'
        · have hd : decide ((⟨c, y, n, k⟩ : Ins) = ⟨c', y', n', k'⟩) = true := by simp [h0, h1, h2, h3]
          have HD := Lib.hid hd
          subst h0 h1 h2 h3
          clear hd
          go_enter Tryz.func61, Tryz.ntmps61
          go_wp2
          go_ret
          exact ⟨ret_bool HD.out.symm, ((Below.refl _ _).alloc (Nat.le_refl _) _).alloc (by simp) _⟩
        · have HD := Lib.hid (show decide ((⟨c, y, n, k⟩ : Ins) = ⟨c', y', n', k'⟩) = false by simp [h3])
          have h := ne_int h3
          clear h3
          subst h0 h1 h2
          go_enter Tryz.func61, Tryz.ntmps61
          go_wp2
          go_ret
          exact ⟨ret_bool HD.out.symm, ((Below.refl _ _).alloc (Nat.le_refl _) _).alloc (by simp) _⟩
      · have HD := Lib.hid (show decide ((⟨c, y, n, k⟩ : Ins) = ⟨c', y', n', k'⟩) = false by simp [h2])
        have h := ne_int h2
        clear h2
        subst h0 h1
        go_enter Tryz.func61, Tryz.ntmps61
        go_wp2
        go_ret
        exact ⟨ret_bool HD.out.symm, ((Below.refl _ _).alloc (Nat.le_refl _) _).alloc (by simp) _⟩
    · have HD := Lib.hid (show decide ((⟨c, y, n, k⟩ : Ins) = ⟨c', y', n', k'⟩) = false by simp [h1])
      have h := ne_int h1
      clear h1
      subst h0
      go_enter Tryz.func61, Tryz.ntmps61
      go_wp2
      go_ret
      exact ⟨ret_bool HD.out.symm, ((Below.refl _ _).alloc (Nat.le_refl _) _).alloc (by simp) _⟩
  · have HD := Lib.hid (show decide ((⟨c, y, n, k⟩ : Ins) = ⟨c', y', n', k'⟩) = false by simp [h0])
    have h := ne_int h0
    clear h0
    go_enter Tryz.func61, Tryz.ntmps61
    go_wp2
    go_ret
    exact ⟨ret_bool HD.out.symm, ((Below.refl _ _).alloc (Nat.le_refl _) _).alloc (by simp) _⟩

end Go.Proofs.YtekmnopgaopmlaaGreatDoor

/- Small questions on codes: l02Looks, l02HasK, l04Cell, l04Reads, l01Min, l01Max of the model walked. -/
set_option maxRecDepth 100000
namespace Go.Proofs.YtekmnopgaopmlaaGreatDoor
open Go.RowKit

def looksC (c : Int) : Bool := [21, 37, 53, 69, 29, 45, 61, 77].contains c
def noKC (c : Int) : Bool := [7, 135, 22, 132, 12, 28, 92, 76, 29, 45, 61, 77].contains c
def cellC (c : Int) : Bool := [96, 97, 2, 3].contains c
def readsC (c : Int) : Bool := [96, 97].contains c
theorem eq_false_of {a b : Int} (h : ¬ a = b) : (a == b) = false := by simpa using h

set_option maxHeartbeats 800000 in
theorem l02Looks_any (c : Int) (w : World) : Calls Tryz.prog 67 #[.int .i64 c] w fun e w' => e = .returned (.bool (looksC c)) ∧ w = w' := by
  by_cases h : c = 21 ∨ c = 37 ∨ c = 53 ∨ c = 69 ∨ c = 29 ∨ c = 45 ∨ c = 61 ∨ c = 77
  · rcases h with rfl | rfl | rfl | rfl | rfl | rfl | rfl | rfl
    all_goals
      go_enter Tryz.func67, Tryz.ntmps67
      go_wp2
      go_ret
      exact ⟨ret_bool (by decide), rfl⟩
  · simp only [not_or] at h
    obtain ⟨h0, h1, h2, h3, h4, h5, h6, h7⟩ := h
    have HL := Lib.hid (show looksC c = false by simp [looksC, *])
    have e0 := eq_false_of h0
    have e1 := eq_false_of h1
    have e2 := eq_false_of h2
    have e3 := eq_false_of h3
    have e4 := eq_false_of h4
    have e5 := eq_false_of h5
    have e6 := eq_false_of h6
    have e7 := eq_false_of h7
    clear h0 h1 h2 h3 h4 h5 h6 h7
    go_enter Tryz.func67, Tryz.ntmps67
    go_wp2
    go_ret
    exact ⟨ret_bool HL.out.symm, rfl⟩

set_option maxHeartbeats 800000 in
theorem l02HasK_any (c : Int) (w : World) : Calls Tryz.prog 66 #[.int .i64 c] w fun e w' => e = .returned (.bool (!noKC c)) ∧ w = w' := by
  by_cases h : c = 7 ∨ c = 135 ∨ c = 22 ∨ c = 132 ∨ c = 12 ∨ c = 28 ∨ c = 92 ∨ c = 76 ∨ c = 29 ∨ c = 45 ∨ c = 61 ∨ c = 77
  · rcases h with rfl | rfl | rfl | rfl | rfl | rfl | rfl | rfl | rfl | rfl | rfl | rfl
    all_goals
      go_enter Tryz.func66, Tryz.ntmps66
      go_wp2
      go_ret
      exact ⟨ret_bool (by decide), rfl⟩
  · simp only [not_or] at h
    obtain ⟨h0, h1, h2, h3, h4, h5, h6, h7, h8, h9, h10, h11⟩ := h
    have HL := Lib.hid (show (!noKC c) = true by simp [noKC, *])
    have e0 := eq_false_of h0
    have e1 := eq_false_of h1
    have e2 := eq_false_of h2
    have e3 := eq_false_of h3
    have e4 := eq_false_of h4
    have e5 := eq_false_of h5
    have e6 := eq_false_of h6
    have e7 := eq_false_of h7
    have e8 := eq_false_of h8
    have e9 := eq_false_of h9
    have e10 := eq_false_of h10
    have e11 := eq_false_of h11
    clear h0 h1 h2 h3 h4 h5 h6 h7 h8 h9 h10 h11
    go_enter Tryz.func66, Tryz.ntmps66
    go_wp2
    go_ret
    exact ⟨ret_bool HL.out.symm, rfl⟩

set_option maxHeartbeats 800000 in
theorem l04Cell_any (c : Int) (w : World) : Calls Tryz.prog 78 #[.int .i64 c] w fun e w' => e = .returned (.bool (cellC c)) ∧ w = w' := by
  by_cases h : c = 96 ∨ c = 97 ∨ c = 2 ∨ c = 3
  · rcases h with rfl | rfl | rfl | rfl
    all_goals
      go_enter Tryz.func78, Tryz.ntmps78
      go_wp2
      go_ret
      exact ⟨ret_bool (by decide), rfl⟩
  · simp only [not_or] at h
    obtain ⟨h0, h1, h2, h3⟩ := h
    have HL := Lib.hid (show cellC c = false by simp [cellC, *])
    have e0 := eq_false_of h0
    have e1 := eq_false_of h1
    have e2 := eq_false_of h2
    have e3 := eq_false_of h3
    clear h0 h1 h2 h3
    go_enter Tryz.func78, Tryz.ntmps78
    go_wp2
    go_ret
    exact ⟨ret_bool HL.out.symm, rfl⟩

theorem l04Reads_any (c : Int) (w : World) : Calls Tryz.prog 46 #[.int .i64 c] w fun e w' => e = .returned (.bool (readsC c)) ∧ w = w' := by
  by_cases h : c = 96 ∨ c = 97
  · rcases h with rfl | rfl
    all_goals
      go_enter Tryz.func46, Tryz.ntmps46
      go_wp2
      go_ret
      exact ⟨ret_bool (by decide), rfl⟩
  · simp only [not_or] at h
    obtain ⟨h0, h1⟩ := h
    have HL := Lib.hid (show readsC c = false by simp [readsC, *])
    have e0 := eq_false_of h0
    have e1 := eq_false_of h1
    clear h0 h1
    go_enter Tryz.func46, Tryz.ntmps46
    go_wp2
    go_ret
    exact ⟨ret_bool HL.out.symm, rfl⟩

theorem l01Min_any (a b : Int) (w : World) : Calls Tryz.prog 68 #[.int .i64 a, .int .i64 b] w fun e w' => e = .returned (.int .i64 (if a < b then a else b)) ∧ w = w' := by
  by_cases h : a < b
  · have hd : decide (a < b) = true := by simpa using h
    go_enter Tryz.func68, Tryz.ntmps68
    go_wp2
    go_ret
    exact ⟨by first | rfl | rw [if_pos h], rfl⟩
  · have hd : decide (a < b) = false := by simpa using h
    go_enter Tryz.func68, Tryz.ntmps68
    go_wp2
    go_ret
    exact ⟨by first | rfl | rw [if_neg h], rfl⟩

theorem l01Max_any (a b : Int) (w : World) : Calls Tryz.prog 82 #[.int .i64 a, .int .i64 b] w fun e w' => e = .returned (.int .i64 (if b < a then a else b)) ∧ w = w' := by
  by_cases h : b < a
  · have hd : decide (b < a) = true := by simpa using h
    go_enter Tryz.func82, Tryz.ntmps82
    go_wp2
    go_ret
    exact ⟨by first | rfl | rw [if_pos h], rfl⟩
  · have hd : decide (b < a) = false := by simpa using h
    go_enter Tryz.func82, Tryz.ntmps82
    go_wp2
    go_ret
    exact ⟨by first | rfl | rw [if_neg h], rfl⟩

end Go.Proofs.YtekmnopgaopmlaaGreatDoor

/- Slices that came in or were made, read as lists of cells; the machine's words in one. -/
set_option maxRecDepth 100000
namespace Go.Proofs.YtekmnopgaopmlaaGreatDoor
open Go.RowKit Go.ChangeShapes Go.WideShapes

/-- A slice that reads as these cells; its block lies below B. -/
def SlAt (w : World) (B : Nat) (v : Value) (n : Nat) (cs : List Value) : Prop :=
  ∃ a cap, v = .slice a n cap ∧ n ≤ cap ∧ cap ≤ maxLen ∧ (0 < n → ∃ b o, a = some ⟨b, o, none⟩ ∧ b < B ∧ ∀ i c, cs[i]? = some c → w.cell? ⟨b, o + i, none⟩ = some c)

theorem SlAt.keep {w w' : World} {B : Nat} {v : Value} {n : Nat} {cs : List Value} (h : SlAt w B v n cs) (hk : ∀ p : Addr, p.block < B → w'.cell? p = w.cell? p) : SlAt w' B v n cs := by
  obtain ⟨a, cap, hv, h1, h2, h3⟩ := h
  refine ⟨a, cap, hv, h1, h2, fun h0 => ?_⟩
  obtain ⟨b, o, e, hb, hc⟩ := h3 h0
  exact ⟨b, o, e, hb, fun i c hi => (hk _ hb).trans (hc i c hi)⟩
theorem SlAt.below {w w' : World} {B : Nat} {v : Value} {n : Nat} {cs : List Value} (h : SlAt w B v n cs) (hb : Below B w w') : SlAt w' B v n cs := h.keep fun _ hp => hb.cell hp
theorem SlAt.up {w : World} {B B' : Nat} {v : Value} {n : Nat} {cs : List Value} (h : SlAt w B v n cs) (hB : B ≤ B') : SlAt w B' v n cs := by
  obtain ⟨a, cap, hv, h1, h2, h3⟩ := h
  refine ⟨a, cap, hv, h1, h2, fun h0 => ?_⟩
  obtain ⟨b, o, e, hb, hc⟩ := h3 h0
  exact ⟨b, o, e, by omega, hc⟩
theorem add_at (b o i : Nat) : (⟨b, o, none⟩ : Addr).add i = ⟨b, o + i, none⟩ := by unfold Addr.add; split <;> simp_all
theorem SlAt.of_own {w : World} {base : Nat} {e : TypeId} {size : Nat} {v : Value} {n : Nat} {cs : List Value} (h : w.ownsRow base e size v n cs) : SlAt w w.heap.size v n cs := by
  have hc := fun g hg => World.ownsRow.cells h (g := g) hg
  have hl := World.ownsRow.lt h
  rcases h.2 with ⟨rfl, rfl⟩ | ⟨g, cap, cur, rfl, _, _, h1, h2, _, _⟩
  · exact ⟨none, 0, rfl, by omega, by unfold maxLen; omega, fun h0 => by omega⟩
  · exact ⟨_, cap, rfl, h1, h2, fun _ => ⟨g, 0, rfl, (hl g rfl).2, fun i c hi => by rw [← add_at]; exact hc g rfl i c hi⟩⟩

/-- The cells of words. -/
def insCells (x : Ins) : List Value := [.int .i64 x.c, .int .i64 x.y, .int .i64 x.n, .int .i64 x.k]
def progCells : List Ins → List Value
  | [] => []
  | x :: l => .int .i64 x.c :: .int .i64 x.y :: .int .i64 x.n :: .int .i64 x.k :: progCells l
theorem progCells_length : ∀ l : List Ins, (progCells l).length = l.length * 4
  | [] => rfl
  | x :: l => by simp only [progCells, List.length_cons, progCells_length l]; omega
theorem progCells_append : ∀ a b : List Ins, progCells (a ++ b) = progCells a ++ progCells b
  | [], _ => rfl
  | x :: a, b => by simp only [progCells, List.cons_append, progCells_append a b]
theorem progCells_at : ∀ (l : List Ins) (i : Nat) (x : Ins), l[i]? = some x →
    (progCells l)[i * 4]? = some (.int .i64 x.c) ∧ (progCells l)[i * 4 + 1]? = some (.int .i64 x.y) ∧ (progCells l)[i * 4 + 2]? = some (.int .i64 x.n) ∧ (progCells l)[i * 4 + 3]? = some (.int .i64 x.k)
  | [], _, _, h => by simp at h
  | a :: l, 0, x, h => by
    obtain rfl : a = x := by simpa using h
    exact ⟨rfl, rfl, rfl, rfl⟩
  | a :: l, i + 1, x, h => by
    have h' := progCells_at l i x (by simpa using h)
    have e : (i + 1) * 4 = i * 4 + 1 + 1 + 1 + 1 := by omega
    rw [e]
    simpa only [progCells, List.getElem?_cons_succ, Nat.add_right_comm _ _ 1] using h'

/-- A slice of words, of numbers that fit. -/
def InsAt (w : World) (B : Nat) (v : Value) (l : List Ins) : Prop := SlAt w B v l.length (progCells l) ∧ ∀ x ∈ l, x.wf
theorem InsAt.below {w w' : World} {B : Nat} {v : Value} {l : List Ins} (h : InsAt w B v l) (hb : Below B w w') : InsAt w' B v l := ⟨h.1.below hb, h.2⟩
theorem InsAt.up {w : World} {B B' : Nat} {v : Value} {l : List Ins} (h : InsAt w B v l) (hB : B ≤ B') : InsAt w B' v l := ⟨h.1.up hB, h.2⟩
/-- What a walk needs of it. -/
theorem InsAt.parts {w : World} {B : Nat} {v : Value} {l : List Ins} (h : InsAt w B v l) : ∃ a cap, v = .slice a l.length cap ∧ l.length ≤ cap ∧ cap ≤ maxLen ∧
    ∀ i x, l[i]? = some x → ∃ b o, a = some ⟨b, o, none⟩ ∧ b < B ∧ w.cell? ⟨b, o + i * 4, none⟩ = some (.int .i64 x.c) ∧ w.cell? ⟨b, o + i * 4 + 1, none⟩ = some (.int .i64 x.y) ∧
      w.cell? ⟨b, o + i * 4 + 2, none⟩ = some (.int .i64 x.n) ∧ w.cell? ⟨b, o + i * 4 + 3, none⟩ = some (.int .i64 x.k) ∧ x.wf := by
  obtain ⟨⟨a, cap, hv, h1, h2, h3⟩, hwf⟩ := h
  refine ⟨a, cap, hv, h1, h2, fun i x hi => ?_⟩
  have hlt : i < l.length := (List.getElem?_eq_some_iff.1 hi).1
  obtain ⟨b, o, e, hb, hc⟩ := h3 (by omega)
  obtain ⟨k0, k1, k2, k3⟩ := progCells_at l i x hi
  exact ⟨b, o, e, hb, hc _ _ k0, by have := hc _ _ k1; rwa [← Nat.add_assoc] at this, by have := hc _ _ k2; rwa [← Nat.add_assoc] at this, by have := hc _ _ k3; rwa [← Nat.add_assoc] at this, hwf x (List.mem_of_getElem? hi)⟩

theorem InsAt.at_ {w : World} {B : Nat} {a : Option Addr} {n cap : Nat} {l : List Ins} (h : InsAt w B (.slice a n cap) l) {i : Nat} {x : Ins} (hi : l[i]? = some x) : ∃ b o, a = some ⟨b, o, none⟩ ∧ b < B ∧
      w.cell? ⟨b, o + i * 4, none⟩ = some (.int .i64 x.c) ∧ w.cell? ⟨b, o + i * 4 + 1, none⟩ = some (.int .i64 x.y) ∧
      w.cell? ⟨b, o + i * 4 + 2, none⟩ = some (.int .i64 x.n) ∧ w.cell? ⟨b, o + i * 4 + 3, none⟩ = some (.int .i64 x.k) ∧ x.wf := by
  obtain ⟨a', cap', e, _, _, hat⟩ := h.parts
  simp only [Value.slice.injEq] at e
  obtain ⟨rfl, rfl, rfl⟩ := e
  exact hat i x hi
theorem InsAt.len {w : World} {B : Nat} {v : Value} {l : List Ins} (h : InsAt w B v l) : ∃ a cap, v = .slice a l.length cap ∧ l.length ≤ cap ∧ cap ≤ maxLen := by
  obtain ⟨a, cap, e, h1, h2, _⟩ := h.parts
  exact ⟨a, cap, e, h1, h2⟩

def IsInsn (_ : World) (v : Value) : Prop := ∃ x : Ins, v = .agg #[.int .i64 x.c, .int .i64 x.y, .int .i64 x.n, .int .i64 x.k] ∧ x.wf
def IsInsns (w : World) (v : Value) : Prop := ∃ l : List Ins, InsAt w w.heap.size v l

theorem in64_of {n : Int} (h : (Lit.int .i64 n).wf = true) : In64 n := by
  simp [Lit.wf, IntKind.min, IntKind.max, IntKind.bits, IntKind.signed] at h
  unfold In64; omega

section
variable {H : Type} {enc : TypeId × Value → H} {W : World} {base : Nat} {v : Value} {d : DataW H} {p : List MemPlace}
theorem open_isInsn (hv : Value.okWide Tryz.prog W .any base 97 v) (h : DataW.Trod enc Tryz.prog W 0 (fun _ => true) true 97 v d p) : IsInsn W v := by
  obtain ⟨v0, v1, v2, v3, y0, y1, y2, y3, n, rfl, _, _, h0, h1, h2, h3⟩ := Joins.open_agg4 Tryz.underlying97 (by kernel_rfl) (by kernel_rfl) hv h
  obtain ⟨c0, e0, _, w0⟩ := DataW.trod_int Tryz.underlying2 h0
  obtain ⟨c1, e1, _, w1⟩ := DataW.trod_int Tryz.underlying2 h1
  obtain ⟨c2, e2, _, w2⟩ := DataW.trod_int Tryz.underlying2 h2
  obtain ⟨c3, e3, _, w3⟩ := DataW.trod_int Tryz.underlying2 h3
  obtain ⟨rfl⟩ : v0 = .int .i64 c0 := by simpa using e0
  obtain ⟨rfl⟩ : v1 = .int .i64 c1 := by simpa using e1
  obtain ⟨rfl⟩ : v2 = .int .i64 c2 := by simpa using e2
  obtain ⟨rfl⟩ : v3 = .int .i64 c3 := by simpa using e3
  exact ⟨⟨c0, c1, c2, c3⟩, rfl, in64_of w0, in64_of w1, in64_of w2, in64_of w3⟩

theorem pick_list {α : Type} {P : Nat → α → Prop} : ∀ n : Nat, (∀ i, i < n → ∃ x, P i x) → ∃ l : List α, l.length = n ∧ ∀ i x, l[i]? = some x → P i x
  | 0, _ => ⟨[], rfl, fun i x h => by simp at h⟩
  | n + 1, h => by
    obtain ⟨l, hl, hp⟩ := pick_list n fun i hi => h i (by omega)
    obtain ⟨x, hx⟩ := h n (by omega)
    refine ⟨l ++ [x], by simp [hl], fun i y hy => ?_⟩
    rcases Nat.lt_or_ge i l.length with hi | hi
    · rw [List.getElem?_append_left hi] at hy; exact hp i y hy
    · have hlt := (List.getElem?_eq_some_iff.1 hy).1
      simp at hlt
      obtain rfl : i = n := by omega
      rw [List.getElem?_append_right hi, hl] at hy
      simp at hy
      exact hy ▸ hx

/-- A cell that is there says where it is. -/
theorem at_cell {w : World} {a : Addr} {i : Nat} {c : Value} (h : w.cell? (a.add i) = some c) (h0 : w.cell? a ≠ none) : ∃ b o, a = ⟨b, o, none⟩ ∧ b < w.heap.size := by
  obtain ⟨b, o, s⟩ := a
  cases s with
  | some s => exfalso; apply h0; simp [World.cell?]; split <;> simp
  | none =>
    refine ⟨b, o, rfl, ?_⟩
    rcases Nat.lt_or_ge b w.heap.size with hlt | hge
    · exact hlt
    · exfalso; apply h0; simp [World.cell?, Array.getElem?_eq_none hge]

theorem open_isInsns (hv : Value.okWide Tryz.prog W .any base 48 v) (h : DataW.Trod enc Tryz.prog W 0 (fun _ => true) true 48 v d p) : IsInsns W v := by
  obtain ⟨a0, len0, cap0, rfl⟩ := okWide_slice Tryz.underlying48 hv
  obtain ⟨fuel, hf⟩ := h
  have hC : Tryz.prog.cellsOf 97 = 4 := by kernel_rfl
  have hC1 : Tryz.prog.cellsOf 2 = 1 := by kernel_rfl
  rcases Deep.open_slice Tryz.underlying48 hf with ⟨hcs, _⟩ | ⟨a, len, cap, m, n, D, Pl, hcs, _, hl, hm, hmm, _, hi⟩
  · simp [Value.cells] at hcs
    obtain ⟨rfl, rfl, rfl⟩ := hcs
    exact ⟨[], ⟨none, 0, rfl, by simp, by unfold maxLen; omega, fun h0 => by simp at h0⟩, fun x hx => by simp at hx⟩
  · simp [Value.cells] at hcs
    obtain ⟨rfl, rfl, rfl⟩ := hcs
    simp only [if_true] at hmm
    subst hmm
    rw [hC] at hi
    have hone : ∀ i, i < len0 → ∃ x : Ins, W.cell? (a.add (i * 4)) = some (.int .i64 x.c) ∧ W.cell? ((a.add (i * 4)).add 1) = some (.int .i64 x.y) ∧ W.cell? ((a.add (i * 4)).add 2) = some (.int .i64 x.n) ∧ W.cell? ((a.add (i * 4)).add 3) = some (.int .i64 x.k) ∧ x.wf := by
      intro i hlt
      obtain ⟨cs', hc, ht'⟩ := hi i (by omega)
      obtain ⟨_, hcl, hat⟩ := World.cells?_some hc
      obtain ⟨xs, n', _, _, _, hxl, hfs⟩ := DataW.trod_struct Tryz.underlying97 ht'
      match cs', hcl with
      | [k0, k1, k2, k3], _ =>
        match xs, hxl with
        | [y0, y1, y2, y3], _ =>
          have f0 : DataW.trod enc Tryz.prog W 0 (fun _ => true) true n' 2 (([k0, k1, k2, k3].drop 0).take (Tryz.prog.cellsOf 2)) = some y0 := hfs 0 _ rfl
          have f1 : DataW.trod enc Tryz.prog W 0 (fun _ => true) true n' 2 (([k0, k1, k2, k3].drop 1).take (Tryz.prog.cellsOf 2)) = some y1 := hfs 1 _ rfl
          have f2 : DataW.trod enc Tryz.prog W 0 (fun _ => true) true n' 2 (([k0, k1, k2, k3].drop 2).take (Tryz.prog.cellsOf 2)) = some y2 := hfs 2 _ rfl
          have f3 : DataW.trod enc Tryz.prog W 0 (fun _ => true) true n' 2 (([k0, k1, k2, k3].drop 3).take (Tryz.prog.cellsOf 2)) = some y3 := hfs 3 _ rfl
          rw [hC1] at f0 f1 f2 f3
          obtain ⟨c0, e0, _, w0⟩ := DataW.trod_int Tryz.underlying2 f0
          obtain ⟨c1, e1, _, w1⟩ := DataW.trod_int Tryz.underlying2 f1
          obtain ⟨c2, e2, _, w2⟩ := DataW.trod_int Tryz.underlying2 f2
          obtain ⟨c3, e3, _, w3⟩ := DataW.trod_int Tryz.underlying2 f3
          have g0 := hat 0 (by omega)
          have g1 := hat 1 (by omega)
          have g2 := hat 2 (by omega)
          have g3 := hat 3 (by omega)
          simp at e0 e1 e2 e3 g0 g1 g2 g3
          subst e0 e1 e2 e3
          refine ⟨⟨c0, c1, c2, c3⟩, ?_, g1, g2, g3, in64_of w0, in64_of w1, in64_of w2, in64_of w3⟩
          simpa [Addr.add] using g0
    obtain ⟨l, hl', hp⟩ := pick_list len0 hone
    refine ⟨l, ⟨some a, m, by rw [hl'], by omega, hm, fun h0 => ?_⟩, fun x hx => ?_⟩
    · have h00 := hp 0 (l[0]'h0) (List.getElem?_eq_getElem h0)
      obtain ⟨b, o, rfl, hb⟩ := at_cell (i := 1) (by simpa [Addr.add] using h00.2.1) (by have := h00.1; simp [Addr.add] at this; simp [this])
      refine ⟨b, o, rfl, hb, fun i c hi => ?_⟩
      have hlen := (List.getElem?_eq_some_iff.1 hi).1
      rw [progCells_length] at hlen
      have hx := hp (i / 4) (l[i / 4]'(by omega)) (List.getElem?_eq_getElem (by omega))
      have hg := progCells_at l (i / 4) (l[i / 4]'(by omega)) (List.getElem?_eq_getElem (by omega))
      simp only [add_at] at hx
      generalize l[i / 4]'(by omega) = x at hx hg
      obtain ⟨q, r, hr, e⟩ : ∃ q r, r < 4 ∧ i = q * 4 + r := ⟨i / 4, i % 4, by omega, by omega⟩
      have hq : i / 4 = q := by omega
      rw [hq] at hx hg
      subst e
      rcases (by omega : r = 0 ∨ r = 1 ∨ r = 2 ∨ r = 3) with rfl | rfl | rfl | rfl
      · rw [Nat.add_zero] at hi ⊢; rw [hg.1] at hi; rw [← Option.some.inj hi]; exact hx.1
      · rw [hg.2.1] at hi; rw [← Option.some.inj hi]; simpa [Nat.add_assoc] using hx.2.1
      · rw [hg.2.2.1] at hi; rw [← Option.some.inj hi]; simpa [Nat.add_assoc] using hx.2.2.1
      · rw [hg.2.2.2] at hi; rw [← Option.some.inj hi]; simpa [Nat.add_assoc] using hx.2.2.2.1
    · obtain ⟨i, hi, rfl⟩ := List.getElem_of_mem hx
      exact (hp i _ (List.getElem?_eq_getElem hi)).2.2.2.2
end

end Go.Proofs.YtekmnopgaopmlaaGreatDoor

/- Walks of the laws' own helpers on lists of words: toInsnS, szInsnS, eqInsnS. -/
set_option maxRecDepth 100000
namespace Go.Proofs.YtekmnopgaopmlaaGreatDoor
open Go.RowKit

theorem info_insn : (Tryz.prog.info? 66).map (fun i => (i.zero, i.size, i.bytes)) = some (some (.agg #[.int .i64 0, .int .i64 0, .int .i64 0, .int .i64 0]), 4, 32) := by kernel_rfl

/-- A list of words that the call made. -/
def InsOwn (base : Nat) (w : World) (v : Value) (l : List Ins) : Prop := w.ownsRow base 66 4 v l.length (progCells l)
def ins0 : Ins := ⟨0, 0, 0, 0⟩
theorem InsOwn.insAt {base : Nat} {w : World} {v : Value} {l : List Ins} (h : InsOwn base w v l) (hw : ∀ x ∈ l, x.wf) : InsAt w w.heap.size v l := ⟨SlAt.of_own h, hw⟩

theorem grown_of_below {w w' : World} (h : Below w.heap.size w w') (row : Option Nat) : w.grownBy w' row := ⟨h.os, h.tape, h.output, h.size, fun k hk _ => h.block k hk⟩
theorem own_below {w w' : World} {base : Nat} {e : TypeId} {size : Nat} {v : Value} {n : Nat} {cs : List Value} (h : w.ownsRow base e size v n cs) (hb : Below w.heap.size w w') : w'.ownsRow base e size v n cs := by
  rcases h.2 with ⟨rfl, hn⟩ | ⟨g, cap, cur, rfl, hg, hr, h1, h2, h3, h4⟩
  · exact ⟨h.1, .inl ⟨rfl, hn⟩⟩
  · exact ⟨h.1, .inr ⟨g, cap, cur, rfl, hg, below_row hb hr, h1, h2, h3, h4⟩⟩

theorem szInsnS_any (a : Option Addr) (len cap : Nat) (left : Int) (w : World) (hl : len ≤ 9223372036854775807) (h0 : 0 ≤ left) (h1 : left ≤ 1048576) :
    Calls Tryz.prog 21 #[.slice a len cap, .int .i64 left] w fun e w' => e = .returned (.int .i64 (if left - (len : Int) < 0 then -1 else left - (len : Int))) ∧ w = w' := by
  by_cases h : left - (len : Int) < 0
  · go_enter Tryz.func21, Tryz.ntmps21
    go_wp2
    go_ret
    exact ⟨rfl, rfl⟩
  · go_enter Tryz.func21, Tryz.ntmps21
    go_wp2
    go_ret
    exact ⟨rfl, rfl⟩

theorem progCells_zero : ∀ n : Nat, progCells (List.replicate n ins0) = List.replicate (n * 4) (.int .i64 0)
  | 0 => rfl
  | n + 1 => by
    rw [List.replicate_succ, show (n + 1) * 4 = n * 4 + 1 + 1 + 1 + 1 by omega]
    have h := progCells_zero n
    simp only [ins0] at h
    simp only [List.replicate_succ, progCells, ins0, h]
theorem made_ins (n : Nat) : (madeCells (.agg #[.int .i64 0, .int .i64 0, .int .i64 0, .int .i64 0] : Value).cells (n * 4)).toList = progCells (List.replicate n ins0) := by
  rw [progCells_zero, List.eq_replicate_iff]
  refine ⟨by simp [madeCells], fun b hb => ?_⟩
  simp only [madeCells, Array.toList_map, List.mem_map] at hb
  obtain ⟨j, _, rfl⟩ := hb
  have key : ∀ r : Fin 4, (Value.cells (.agg #[.int .i64 0, .int .i64 0, .int .i64 0, .int .i64 0]))[r.val]! = .int .i64 0 := by
    intro r
    match r with
    | 0 => rfl
    | 1 => rfl
    | 2 => rfl
    | 3 => rfl
  exact key ⟨j % 4, by omega⟩

/-- One word's four cells in a list's. -/
theorem progCells_set : ∀ (l : List Ins) (i : Nat) (x : Ins), i < l.length →
    ((((progCells l).set (i * 4) (.int .i64 x.c)).set (i * 4 + 1) (.int .i64 x.y)).set (i * 4 + 2) (.int .i64 x.n)).set (i * 4 + 3) (.int .i64 x.k) = progCells (l.set i x)
  | [], _, _, h => by simp at h
  | a :: l, 0, x, _ => rfl
  | a :: l, i + 1, x, h => by
    have h' := progCells_set l i x (by simpa using h)
    have e : (i + 1) * 4 = i * 4 + 1 + 1 + 1 + 1 := by omega
    rw [e]
    simp only [progCells, List.set_cons_succ, Nat.add_right_comm _ _ 1]
    rw [← h']

/-- A word's place in a row that the call owns: what it holds, and what a store of a word does. -/
theorem own_ins_at {w : World} {base : Nat} {e : TypeId} {g n cap : Nat} {l : List Ins} (h : w.ownsRow base e 4 (.slice (some ⟨g, 0, none⟩) n cap) n (progCells l)) {k : Nat} {x : Ins} (hx : l[k]? = some x) :
    w.cell? ⟨g, k * 4, none⟩ = some (.int .i64 x.c) ∧ w.cell? ⟨g, k * 4 + 1, none⟩ = some (.int .i64 x.y) ∧ w.cell? ⟨g, k * 4 + 2, none⟩ = some (.int .i64 x.n) ∧ w.cell? ⟨g, k * 4 + 3, none⟩ = some (.int .i64 x.k) ∧
    w.frozen? ⟨g, k * 4, none⟩ = false ∧ w.frozen? ⟨g, k * 4 + 1, none⟩ = false ∧ w.frozen? ⟨g, k * 4 + 2, none⟩ = false ∧ w.frozen? ⟨g, k * 4 + 3, none⟩ = false := by
  have hl := h.1
  rw [progCells_length] at hl
  have hlt := (List.getElem?_eq_some_iff.1 hx).1
  obtain ⟨p0, p1, p2, p3⟩ := progCells_at l k x hx
  exact ⟨(h.cellAt _ (by omega)).trans p0, (h.cellAt _ (by omega)).trans p1, (h.cellAt _ (by omega)).trans p2, (h.cellAt _ (by omega)).trans p3, h.frozenAt _, h.frozenAt _, h.frozenAt _, h.frozenAt _⟩
theorem own_ins_set {w : World} {base : Nat} {e : TypeId} {g n cap : Nat} {l : List Ins} (h : w.ownsRow base e 4 (.slice (some ⟨g, 0, none⟩) n cap) n (progCells l)) {k : Nat} (hk : k < l.length) (x : Ins) :
    ((((w.setCell ⟨g, k * 4, none⟩ (.int .i64 x.c)).setCell ⟨g, k * 4 + 1, none⟩ (.int .i64 x.y)).setCell ⟨g, k * 4 + 2, none⟩ (.int .i64 x.n)).setCell ⟨g, k * 4 + 3, none⟩ (.int .i64 x.k)).ownsRow base e 4 (.slice (some ⟨g, 0, none⟩) n cap) n (progCells (l.set k x)) := by
  rw [← progCells_set l k x hk]
  exact ((((h.stored _ _).1.stored _ _).1.stored _ _).1.stored _ _).1
theorem ins_fill (l : List Ins) (k : Nat) (hk : k < l.length) : (l.take k ++ List.replicate (l.length - k) ins0)[k]? = some ins0 ∧
    (l.take k ++ List.replicate (l.length - k) ins0).set k l[k] = l.take (k + 1) ++ List.replicate (l.length - (k + 1)) ins0 := by
  have ht : (l.take k).length = k := by rw [List.length_take]; omega
  obtain ⟨m, hm⟩ : ∃ m, l.length - k = m + 1 := ⟨l.length - k - 1, by omega⟩
  have hm' : l.length - (k + 1) = m := by omega
  constructor
  · rw [List.getElem?_append_right (by omega), ht, hm]; simp
  · rw [List.set_append_right _ _ (by omega), ht, hm, hm', List.take_succ_eq_append_getElem hk, List.append_assoc]
    simp [List.replicate_succ]

set_option maxHeartbeats 400000 in
theorem toInsnS_any (v : Value) (l : List Ins) (w : World) (h : InsAt w w.heap.size v l) (hn : l.length ≤ 1048576) :
    Calls Tryz.prog 23 #[v] w fun e w' => ∃ u, e = .returned u ∧ InsOwn w.heap.size w' u l ∧ Below w.heap.size w w' := by
  obtain ⟨i0, hi, hz0, hz1, hz2⟩ := info_parts info_insn
  obtain ⟨a, cap, rfl, hlc, hcm⟩ := h.len
  unfold maxLen at hcm
  go_enter Tryz.func23, Tryz.ntmps23
  go_wp2_with (refine wpList_make_full _ rfl _ _ _ rfl w.heap.size 66 i0 _ 4 Tryz.underlying23 hi hz0 hz1 .i64 .i64 _ _ l.length rfl rfl rfl rfl (by rw [hz2]; omega) (by unfold maxLen; omega) (Nat.le_refl _) ?_; intro w1 hown1 hg1)
  rw [made_ins] at hown1
  have hlt1 := hown1.lt w.heap.size rfl
  have hb1 : Below w.heap.size w w1 := (Below.refl _ _).grown hg1 (Nat.le_refl _) (fun k hk => by cases hk)
  have HO := Lib.hid hown1
  clear hown1 hg1
  have HH := Lib.hid h
  clear h
  go_loopw [4] (fun i wr => ∃ k : Nat, k ≤ l.length ∧ i = .int .i64 k ∧ wr.ownsRow w.heap.size 66 4 (.slice (some ⟨w.heap.size, 0, none⟩) l.length l.length) l.length (progCells (l.take k ++ List.replicate (l.length - k) ins0)) ∧ Below w.heap.size w wr)
    (fun i _ => l.length - (intOf i).toNat)
  case atStart => exact ⟨0, by omega, rfl, by simpa using HO.out, hb1⟩
  case round =>
    obtain ⟨k, hk, rfl, hown, hbw⟩ := hrel
    by_cases hlt : k < l.length
    · obtain ⟨b, o, e, hb, c0, c1, c2, c3, hwf⟩ := (HH.out.below hbw).at_ (List.getElem?_eq_getElem hlt)
      subst e
      have hsz := hbw.size
      go_wp2_with fail
      refine (toInsn_any _ _ _ _ _).mono ?_
      rintro e w2 ⟨rfl, hb2⟩
      have hown2 := own_below hown hb2
      have hfill := ins_fill l k hlt
      have hset := own_ins_set hown2 (k := k) (by simp; omega) l[k]
      rw [hfill.2] at hset
      obtain ⟨d0, d1, d2, d3, f0, f1, f2, f3⟩ := own_ins_at hown2 hfill.1
      have hbX : ∀ u0 u1 u2 u3 : Value, Below w.heap.size w ((((w2.setCell ⟨w.heap.size, k * 4, none⟩ u0).setCell ⟨w.heap.size, k * 4 + 1, none⟩ u1).setCell ⟨w.heap.size, k * 4 + 2, none⟩ u2).setCell ⟨w.heap.size, k * 4 + 3, none⟩ u3) :=
        fun u0 u1 u2 u3 => ((((hbw.trans (hb2.mono hsz)).setCell (p := ⟨w.heap.size, k * 4, none⟩) (Nat.le_refl _) _).setCell (p := ⟨w.heap.size, k * 4 + 1, none⟩) (Nat.le_refl _) _).setCell (p := ⟨w.heap.size, k * 4 + 2, none⟩) (Nat.le_refl _) _).setCell (p := ⟨w.heap.size, k * 4 + 3, none⟩) (Nat.le_refl _) _
      have HS := Lib.hid hset
      have HB := Lib.hid hbX
      clear hset hbX hfill hown2 hown hbw hb2
      go_wp2_with fail
      go_roundw
      case rel => exact ⟨k + 1, by omega, by go_num, HS.out, HB.out _ _ _ _⟩
      case measure => simp [intOf]; omega
    · go_wp2_with fail
      go_ret
      exact ⟨_, rfl, by unfold InsOwn; rw [List.take_of_length_le (by omega), show l.length - k = 0 by omega] at hown; simpa using hown, hbw⟩

theorem take_ext {α : Type} {a b : List α} {k : Nat} (h : a.take k = b.take k) (ha : k < a.length) (hb : k < b.length) (e : a[k] = b[k]) : a.take (k + 1) = b.take (k + 1) := by
  rw [List.take_succ_eq_append_getElem ha, List.take_succ_eq_append_getElem hb, h, e]

set_option maxHeartbeats 800000 in
theorem eqInsnS_any (v1 v2 : Value) (l1 l2 : List Ins) (w : World) (h1 : InsAt w w.heap.size v1 l1) (h2 : InsAt w w.heap.size v2 l2) :
    Calls Tryz.prog 26 #[v1, v2] w fun e w' => e = .returned (.bool (decide (l1 = l2))) ∧ Below w.heap.size w w' := by
  obtain ⟨a1, cap1, rfl, hc1, hm1⟩ := h1.len
  obtain ⟨a2, cap2, rfl, hc2, hm2⟩ := h2.len
  unfold maxLen at hm1 hm2
  by_cases hl : l1.length = l2.length
  · have HL := Lib.hid hl
    have hq : ((l1.length : Int) != (l2.length : Int)) = false := by rw [hl]; simp
    clear hl
    have H1 := Lib.hid h1
    have H2 := Lib.hid h2
    clear h1 h2
    go_enter Tryz.func26, Tryz.ntmps26
    go_wp2
    go_loopw [5] (fun i wr => ∃ k : Nat, k ≤ l1.length ∧ i = .int .i64 k ∧ l1.take k = l2.take k ∧ Below w.heap.size w wr) (fun i _ => l1.length - (intOf i).toNat)
    case atStart => exact ⟨0, by omega, rfl, by simp, Below.refl _ _⟩
    case round =>
      obtain ⟨k, hk, rfl, heq, hbw⟩ := hrel
      have HE := Lib.hid heq
      clear heq
      by_cases hlt : k < l1.length
      · have hlt2 : k < l2.length := by have := HL.out; omega
        obtain ⟨b, o, e, hb, c0, c1, c2, c3, hwf⟩ := (H1.out.below hbw).at_ (List.getElem?_eq_getElem hlt)
        obtain ⟨b', o', e', hb', d0, d1, d2, d3, hwf'⟩ := (H2.out.below hbw).at_ (List.getElem?_eq_getElem hlt2)
        subst e e'
        have hsz := hbw.size
        go_wp2_with fail
        refine wp_region_still_tail 8 (by kernel_rfl) (by kernel_rfl) ?_
        simp only [List.take_succ_cons, List.take_zero, List.drop_succ_cons, List.drop_zero, World.drew_eq]
        repeat still_step
        refine wpStill_nil ?_
        go_wp2_with fail
        refine (eqInsn_any l1[k] l2[k] _).mono ?_
        rintro e w2 ⟨rfl, hb2⟩
        have hbX : Below w.heap.size w w2 := hbw.drew.trans (hb2.mono hsz)
        have HB := Lib.hid hbX
        clear hbX hb2 hbw
        by_cases hx : l1[k] = l2[k]
        · have HT := Lib.hid (take_ext HE.out hlt hlt2 hx)
          have hd : decide (l1[k] = l2[k]) = true := by simpa using hx
          clear hx
          go_wp2_with fail
          go_roundw
          case rel => exact ⟨k + 1, by omega, by go_num, HT.out, HB.out⟩
          case measure => simp [intOf]; omega
        · have hd : decide (l1[k] = l2[k]) = false := by simpa using hx
          have HD := Lib.hid (show decide (l1 = l2) = false by simp; intro e; apply hx; simp [e])
          clear hx
          go_wp2_with fail
          go_ret
          exact ⟨ret_bool HD.out.symm, HB.out⟩
      · have hl12 : l1 = l2 := by
          have := HE.out
          rwa [List.take_of_length_le (by omega), List.take_of_length_le (by have := HL.out; omega)] at this
        have HD := Lib.hid (show decide (l1 = l2) = true by simpa using hl12)
        clear hl12
        go_wp2_with fail
        go_ret
        exact ⟨ret_bool HD.out.symm, hbw⟩
  · have HD := Lib.hid (show decide (l1 = l2) = false by simp; intro e; exact hl (by rw [e]))
    have hq : ((l1.length : Int) != (l2.length : Int)) = true := by simp; omega
    go_enter Tryz.func26, Tryz.ntmps26
    go_wp2
    go_ret
    exact ⟨ret_bool HD.out.symm, Below.refl _ _⟩

end Go.Proofs.YtekmnopgaopmlaaGreatDoor

/- Byte rows that grow: what an append lets be (blocks but the row's own), one byte and two at a time. -/
set_option maxRecDepth 100000
namespace Go.Proofs.YtekmnopgaopmlaaGreatDoor
open Go.RowKit

/-- From w and the row v to w' and the row v': only v's block has turned; v' lies there or in a new block. -/
def GrB (w w' : World) (v v' : Value) : Prop := w.grownBy w' v.ownBlock ∧ (v'.ownBlock = v.ownBlock ∨ ∀ g, v'.ownBlock = some g → w.heap.size ≤ g)
theorem GrB.refl (w : World) (v : Value) : GrB w w v v := ⟨World.grownBy.refl _ _, .inl rfl⟩
theorem GrB.trans {w w1 w2 : World} {v v1 v2 : Value} (h : GrB w w1 v v1) (k : GrB w1 w2 v1 v2) : GrB w w2 v v2 := by
  refine ⟨⟨k.1.os.trans h.1.os, k.1.tape.trans h.1.tape, k.1.output.trans h.1.output, Nat.le_trans h.1.size k.1.size, fun b hb hne => ?_⟩, ?_⟩
  · refine (k.1.block b (Nat.lt_of_lt_of_le hb h.1.size) fun e => ?_).trans (h.1.block b hb hne)
    rcases h.2 with h2 | h2
    · exact hne (e.trans h2)
    · have := h2 b e.symm; omega
  · rcases k.2 with k2 | k2
    · rcases h.2 with h2 | h2
      · exact .inl (k2.trans h2)
      · exact .inr fun g hg => h2 g (k2.symm.trans hg)
    · exact .inr fun g hg => Nat.le_trans h.1.size (k2 g hg)
theorem GrB.below {base : Nat} {w0 w w' : World} {v v' : Value} (hb : Below base w0 w) (h : GrB w w' v v') (hB : base ≤ w.heap.size) (hv : ∀ k, v.ownBlock = some k → base ≤ k) : Below base w0 w' := hb.grown h.1 hB hv
theorem GrB.alloc {w w' : World} {v v' : Value} {o : Obj} (h : GrB (w.alloc o) w' v v') : GrB w w' v v' := by
  refine ⟨⟨h.1.os, h.1.tape, h.1.output, Nat.le_trans (by simp) h.1.size, fun k hk hne => (h.1.block k (by simp; omega) hne).trans (Below.heap_alloc w o k hk)⟩, ?_⟩
  rcases h.2 with h2 | h2
  · exact .inl h2
  · exact .inr fun g hg => Nat.le_trans (by simp) (h2 g hg)
theorem GrB.cell {w w' : World} {v v' : Value} (h : GrB w w' v v') {p : Addr} (hp : p.block < w.heap.size) (hne : v.ownBlock ≠ some p.block) : w'.cell? p = w.cell? p :=
  World.cell?_of_block (h.1.block p.block hp fun e => hne e.symm)

theorem own_only {w W : World} {g : Nat} (h : w.grownBy W (some g)) (i : Nat) (v : Value) : w.grownBy (W.setCell ⟨g, i, none⟩ v) (some g) :=
  ⟨h.os, h.tape, h.output, by simpa [World.setCell] using h.size, fun k hk hne => (Below.heap_setCell W ⟨g, i, none⟩ v k (fun e => hne (by rw [e]))).trans (h.block k hk hne)⟩

theorem grown_alloc {w w' : World} {o : Obj} {row : Option Nat} (h : (w.alloc o).grownBy w' row) : w.grownBy w' row :=
  ⟨h.os, h.tape, h.output, Nat.le_trans (by simp) h.size, fun k hk hne => (h.block k (by simp; omega) hne).trans (Below.heap_alloc w o k hk)⟩

theorem byteInts (ns : List Int) (h : ∀ n ∈ ns, 0 ≤ n ∧ n ≤ 255) : byteCells (ns.map fun n => UInt8.ofNat n.toNat) = ns.map (Value.int .u8) := by
  induction ns with
  | nil => rfl
  | cons n ns ih =>
    have hn := h n (by simp)
    have := ih fun m hm => h m (by simp [hm])
    simp only [byteCells, List.map_cons, byte_of_int n hn.1 hn.2] at this ⊢
    rw [this]

/-- 'append(row, b0, b1 ..)': the bytes lie in a block of their own. -/
theorem wpList_push_u8s {ops : Array Oper} {rest : List Oper} {o : Oper} {a : Act} {Q : Exit → Act → World → Prop} (hgd : o.guard = none) (s x : Operand)
    (ho : o.op = .call { callee := .builtin .append, args := #[s, x], argTypes := #[22, 22] }) (wr : World) (cs : Array Value) (ns : List Int) (hcs : cs.toList = ns.map (Value.int .u8)) (m : Nat) (hm : ns.length = m)
    (base : Nat) (v : Value) (bs : List UInt8) (hs : a.eval s = v) (hown : OwnB base wr v bs) (hn : ∀ n ∈ ns, 0 ≤ n ∧ n ≤ 255)
    (hx : a.eval x = .slice (some ⟨wr.heap.size, 0, none⟩) m m) (hlen : bs.length + m ≤ 140737488355328) (hbase : base ≤ wr.heap.size)
    (h : ∀ v' w', OwnB base w' v' (bs ++ ns.map fun n => UInt8.ofNat n.toNat) → GrB wr w' v v' → wpList Tryz.prog ops Q rest (a.put o.dst v') w') :
    wpList Tryz.prog ops Q (o :: rest) a (wr.alloc (.cells cs 5)) := by
  obtain ⟨i0, hi, hz0, hz1, hz2⟩ := info_parts info_u8
  refine wpList_append_own_at _ hgd s x 22 ho base 5 i0 (.int .u8 0) 1 1 Tryz.underlying22 hi hz0 hz1 hz2 rfl (by decide) v bs.length (byteCells bs) hs
    (World.ownsRow.alloc hown _) ⟨wr.heap.size, 0, none⟩ m m (ns.map (Value.int .u8)) hx (by simp [hm]) (fun j u hj => ?_) (by intro u hu; simp at hu; obtain ⟨n, _, rfl⟩ := hu; rfl) (by unfold maxLen; omega) (by omega) (by simp; omega) ?_
  · rw [add_at, Nat.zero_add, World.cell?_alloc_at _ _ _ _ rfl, ← hj, ← hcs]; simp
  intro v' w' hown' hg _ hat
  refine h v' w' ?_ (GrB.alloc ⟨hg, ?_⟩)
  · unfold OwnB
    rw [byteCells_append, byteInts ns hn, List.length_append, List.length_map, hm]
    exact hown'
  · rcases hat with e | e
    · exact .inl e
    · exact .inr fun g hg' => by rw [e] at hg'; injection hg' with hg'; omega

end Go.Proofs.YtekmnopgaopmlaaGreatDoor

/- Lists of things of several cells, in slices: whatever the thing. -/
set_option maxRecDepth 100000
namespace Go.Proofs.YtekmnopgaopmlaaGreatDoor
open Go.RowKit

section
variable {α : Type} {f : α → List Value} {S : Nat}

theorem flat_length (hS : ∀ x, (f x).length = S) : ∀ l : List α, (l.flatMap f).length = l.length * S
  | [] => by simp
  | x :: l => by rw [List.flatMap_cons, List.length_append, hS, flat_length hS l, List.length_cons, Nat.succ_mul]; omega
theorem flat_at (hS : ∀ x, (f x).length = S) : ∀ {l : List α} {i : Nat} {x : α} {j : Nat}, l[i]? = some x → j < S → (l.flatMap f)[i * S + j]? = (f x)[j]?
  | [], _, _, _, h, _ => by simp at h
  | a :: l, 0, x, j, h, hj => by
    obtain rfl : a = x := by simpa using h
    rw [List.flatMap_cons, Nat.zero_mul, Nat.zero_add, List.getElem?_append_left (by rw [hS]; exact hj)]
  | a :: l, i + 1, x, j, h, hj => by
    have h' := flat_at hS (l := l) (i := i) (x := x) (j := j) (by simpa using h) hj
    rw [List.flatMap_cons, List.getElem?_append_right (by rw [hS, Nat.succ_mul]; omega), hS, ← h']
    congr 1
    rw [Nat.succ_mul]; omega

/-- The cells of one thing set anew, one after the other. -/
def setFrom (cs : List Value) (o : Nat) : List Value → List Value
  | [] => cs
  | v :: vs => setFrom (cs.set o v) (o + 1) vs
theorem setFrom_length : ∀ (vs cs : List Value) (o : Nat), (setFrom cs o vs).length = cs.length
  | [], _, _ => rfl
  | v :: vs, cs, o => by rw [setFrom, setFrom_length vs]; simp
theorem setFrom_get : ∀ (vs cs : List Value) (o p : Nat), o + vs.length ≤ cs.length → (setFrom cs o vs)[p]? = if o ≤ p ∧ p < o + vs.length then vs[p - o]? else cs[p]?
  | [], cs, o, p, _ => by rw [setFrom, if_neg (by simp)]
  | v :: vs, cs, o, p, h => by
    simp only [List.length_cons] at h ⊢
    rw [setFrom, setFrom_get vs _ _ _ (by simp; omega)]
    by_cases h1 : o + 1 ≤ p ∧ p < o + 1 + vs.length
    · rw [if_pos h1, if_pos (by omega), show p - o = (p - (o + 1)) + 1 by omega, List.getElem?_cons_succ]
    · rw [if_neg h1]
      by_cases h2 : p = o
      · subst h2
        rw [if_pos (by omega), Nat.sub_self, List.getElem?_set_self (by omega), List.getElem?_cons_zero]
      · rw [if_neg (by omega), List.getElem?_set_ne (by omega)]
theorem flat_set (hS : ∀ x, (f x).length = S) (h0 : 0 < S) {l : List α} {i : Nat} (x : α) (hi : i < l.length) : setFrom (l.flatMap f) (i * S) (f x) = (l.set i x).flatMap f := by
  have hm : i * S + S ≤ l.length * S := by
    rw [← Nat.succ_mul]
    exact Nat.mul_le_mul_right S hi
  apply List.ext_getElem?
  intro p
  rw [setFrom_get _ _ _ _ (by rw [hS, flat_length hS]; exact hm), hS]
  obtain ⟨q, r, hr, rfl⟩ : ∃ q r, r < S ∧ p = q * S + r := ⟨p / S, p % S, Nat.mod_lt _ h0, by rw [Nat.mul_comm]; exact (Nat.div_add_mod p S).symm⟩
  by_cases hq : q = i
  · subst hq
    rw [if_pos (by omega), flat_at hS (x := x) (by simp [hi]) hr]
    congr 1
    omega
  · have hno : ¬ (i * S ≤ q * S + r ∧ q * S + r < i * S + S) := by
      rintro ⟨a, b⟩
      rcases Nat.lt_or_gt_of_ne hq with h | h
      · have : q * S + S ≤ i * S := by rw [← Nat.succ_mul]; exact Nat.mul_le_mul_right S h
        omega
      · have : i * S + S ≤ q * S := by rw [← Nat.succ_mul]; exact Nat.mul_le_mul_right S h
        omega
    rw [if_neg hno]
    by_cases hql : q < l.length
    · rw [flat_at hS (x := l[q]) (List.getElem?_eq_getElem hql) hr, flat_at hS (x := l[q]) (by rw [List.getElem?_set_ne (by omega)]; exact List.getElem?_eq_getElem hql) hr]
    · have : l.length * S ≤ q * S := Nat.mul_le_mul_right S (by omega)
      rw [List.getElem?_eq_none (by rw [flat_length hS]; omega), List.getElem?_eq_none (by rw [flat_length hS, List.length_set]; omega)]

/-- A slice of such things, each of which is as 'wf' says. -/
def LAt (f : α → List Value) (S : Nat) (wf : α → Prop) (w : World) (B : Nat) (v : Value) (l : List α) : Prop := (∀ x, (f x).length = S) ∧ SlAt w B v l.length (l.flatMap f) ∧ ∀ x ∈ l, wf x
variable {wf : α → Prop}
theorem LAt.below {w w' : World} {B : Nat} {v : Value} {l : List α} (h : LAt f S wf w B v l) (hb : Below B w w') : LAt f S wf w' B v l := ⟨h.1, h.2.1.below hb, h.2.2⟩
theorem LAt.up {w : World} {B B' : Nat} {v : Value} {l : List α} (h : LAt f S wf w B v l) (hB : B ≤ B') : LAt f S wf w B' v l := ⟨h.1, h.2.1.up hB, h.2.2⟩
theorem LAt.len {w : World} {B : Nat} {v : Value} {l : List α} (h : LAt f S wf w B v l) : ∃ a cap, v = .slice a l.length cap ∧ l.length ≤ cap ∧ cap ≤ maxLen := by
  obtain ⟨a, cap, e, h1, h2, _⟩ := h.2.1
  exact ⟨a, cap, e, h1, h2⟩
theorem LAt.at_ {w : World} {B : Nat} {a : Option Addr} {n cap : Nat} {l : List α} (h : LAt f S wf w B (.slice a n cap) l) {i : Nat} {x : α} (hi : l[i]? = some x) :
    ∃ b o, a = some ⟨b, o, none⟩ ∧ b < B ∧ (∀ j v, (f x)[j]? = some v → w.cell? ⟨b, o + i * S + j, none⟩ = some v) ∧ wf x := by
  obtain ⟨hS, ⟨a', cap', e, _, _, h3⟩, hwf⟩ := h
  simp only [Value.slice.injEq] at e
  obtain ⟨rfl, rfl, rfl⟩ := e
  have hlt : i < l.length := (List.getElem?_eq_some_iff.1 hi).1
  obtain ⟨b, o, e, hb, hc⟩ := h3 (by omega)
  refine ⟨b, o, e, hb, fun j v hv => ?_, hwf x (List.mem_of_getElem? hi)⟩
  have hj : j < S := by rw [← hS x]; exact (List.getElem?_eq_some_iff.1 hv).1
  have := hc (i * S + j) v (by rw [flat_at hS hi hj]; exact hv)
  rwa [← Nat.add_assoc] at this

/-- A list of such things that the call made. -/
def OwnL (E : TypeId) (S : Nat) (f : α → List Value) (base : Nat) (w : World) (v : Value) (l : List α) : Prop := w.ownsRow base E S v l.length (l.flatMap f)
variable {E : TypeId}
theorem OwnL.nil (base : Nat) (w : World) : OwnL E S f base w (.slice none 0 0) [] := World.ownsRow_nil _ _ _ _
theorem OwnL.lt {base : Nat} {w : World} {v : Value} {l : List α} (h : OwnL E S f base w v l) : ∀ k, v.ownBlock = some k → base ≤ k ∧ k < w.heap.size := World.ownsRow.lt h
theorem OwnL.alloc {base : Nat} {w : World} {v : Value} {l : List α} (h : OwnL E S f base w v l) (o : Obj) : OwnL E S f base (w.alloc o) v l := World.ownsRow.alloc h o
theorem OwnL.below {base : Nat} {w w' : World} {v : Value} {l : List α} (h : OwnL E S f base w v l) (hb : Below w.heap.size w w') : OwnL E S f base w' v l := own_below h hb
theorem OwnL.setBelow {base : Nat} {w : World} {v : Value} {l : List α} (h : OwnL E S f base w v l) {a : Addr} (ha : a.block < base) (u : Value) : OwnL E S f base (w.setCell a u) v l := ownsRow_setCell_below h ha u
theorem OwnL.base {b b' : Nat} {w : World} {v : Value} {l : List α} (h : OwnL E S f b w v l) (hb : b' ≤ b) : OwnL E S f b' w v l := by
  rcases h.2 with ⟨e, hn⟩ | ⟨g, cap, cur, e, hg, r⟩
  · exact ⟨h.1, .inl ⟨e, hn⟩⟩
  · exact ⟨h.1, .inr ⟨g, cap, cur, e, by omega, r⟩⟩
theorem OwnL.slice {base : Nat} {w : World} {v : Value} {l : List α} (h : OwnL E S f base w v l) : ∃ a cap, v = .slice a l.length cap := by
  rcases h.2 with ⟨e, hn⟩ | ⟨g, cap, _, e, _⟩
  · exact ⟨none, 0, by rw [e, hn]⟩
  · exact ⟨_, cap, e⟩
theorem OwnL.more {base : Nat} {w : World} {v : Value} {l : List α} (h : OwnL E S f base w v l) (hl : 0 < l.length) : ∃ g cap, v = .slice (some ⟨g, 0, none⟩) l.length cap ∧ base ≤ g ∧ g < w.heap.size ∧ l.length ≤ cap := by
  have hlt := h.lt
  rcases h.2 with ⟨e, hn⟩ | ⟨g, cap, _, e, hg, _, hc, _⟩
  · omega
  · subst e
    exact ⟨g, cap, rfl, hg, (hlt g rfl).2, hc⟩
theorem OwnL.lAt {base : Nat} {w : World} {v : Value} {l : List α} (hS : ∀ x, (f x).length = S) (h : OwnL E S f base w v l) (hw : ∀ x ∈ l, wf x) : LAt f S wf w w.heap.size v l := ⟨hS, SlAt.of_own h, hw⟩
theorem OwnL.lit {base : Nat} {w : World} {H : Nat} (hb : base ≤ w.heap.size) (hH : H = w.heap.size) : OwnL E S f base (w.alloc (.cells #[] E)) (.slice (some ⟨H, 0, none⟩) 0 0) [] := by
  subst hH
  exact World.ownsRow_lit w #[] 0 hb (by unfold maxLen; omega) (by simp)
/-- One thing's place in such a row: what its cells hold; none is frozen. -/
theorem OwnL.at_ {base : Nat} {w : World} {g n cap : Nat} {l : List α} (hS : ∀ x, (f x).length = S) (h : w.ownsRow base E S (.slice (some ⟨g, 0, none⟩) n cap) n (l.flatMap f)) {i : Nat} {x : α} (hi : l[i]? = some x) :
    (∀ j v, (f x)[j]? = some v → w.cell? ⟨g, i * S + j, none⟩ = some v) ∧ ∀ j, w.frozen? ⟨g, j, none⟩ = false := by
  refine ⟨fun j v hv => ?_, fun j => h.frozenAt j⟩
  have hj : j < S := by rw [← hS x]; exact (List.getElem?_eq_some_iff.1 hv).1
  have hlt : i < l.length := (List.getElem?_eq_some_iff.1 hi).1
  have hl := h.1
  rw [flat_length hS] at hl
  have hm : i * S + S ≤ l.length * S := by rw [← Nat.succ_mul]; exact Nat.mul_le_mul_right S hlt
  rw [h.cellAt _ (by omega), flat_at hS hi hj, hv]

/-- The stores of several values one behind the other. -/
def setRow (w : World) (g o : Nat) : List Value → World
  | [] => w
  | v :: vs => setRow (w.setCell ⟨g, o, none⟩ v) g (o + 1) vs
theorem ownsRow_setRow {base g n cap : Nat} : ∀ (vs : List Value) {w : World} {cs : List Value} (o : Nat), w.ownsRow base E S (.slice (some ⟨g, 0, none⟩) n cap) n cs → (setRow w g o vs).ownsRow base E S (.slice (some ⟨g, 0, none⟩) n cap) n (setFrom cs o vs)
  | [], _, _, _, h => h
  | v :: vs, _, _, o, h => ownsRow_setRow vs (o + 1) (h.stored o v).1
theorem OwnL.set {base : Nat} {w : World} {g n cap : Nat} {l : List α} (hS : ∀ x, (f x).length = S) (h0 : 0 < S) (h : w.ownsRow base E S (.slice (some ⟨g, 0, none⟩) n cap) n (l.flatMap f)) {i : Nat} (hi : i < l.length) (x : α) :
    (setRow w g (i * S) (f x)).ownsRow base E S (.slice (some ⟨g, 0, none⟩) n cap) n ((l.set i x).flatMap f) := by
  rw [← flat_set hS h0 x hi]
  exact ownsRow_setRow _ _ h
theorem setRow_below {B g : Nat} (hg : B ≤ g) : ∀ (vs : List Value) {a w : World} (o : Nat), Below B a w → Below B a (setRow w g o vs)
  | [], _, _, _, h => h
  | v :: vs, _, _, o, h => setRow_below hg vs (o + 1) (h.setCell (p := ⟨g, o, none⟩) hg v)
theorem setRow_only {g : Nat} : ∀ (vs : List Value) {a w : World} (o : Nat), a.grownBy w (some g) → a.grownBy (setRow w g o vs) (some g)
  | [], _, _, _, h => h
  | v :: vs, _, _, o, h => setRow_only vs (o + 1) (own_only h o v)
end

/-- A list filled up from its beginning. -/
theorem fillL {α : Type} {pre : List α} {d : α} {k m : Nat} (hk : pre.length = k) (hm : k < m) (x : α) : (pre ++ List.replicate (m - k) d)[k]? = some d ∧
    (pre ++ List.replicate (m - k) d).set k x = (pre ++ [x]) ++ List.replicate (m - (k + 1)) d := by
  obtain ⟨r, hr⟩ : ∃ r, m - k = r + 1 := ⟨m - k - 1, by omega⟩
  have hr' : m - (k + 1) = r := by omega
  constructor
  · rw [List.getElem?_append_right (by omega), hk, Nat.sub_self, hr]; simp
  · rw [List.set_append_right _ _ (by omega), hk, hr, hr', List.append_assoc]
    simp [List.replicate_succ]
/-- A list turned from its beginning. -/
theorem turnL {α : Type} {pre : List α} {l : List α} {j : Nat} (hl : pre.length = j) (h : j < l.length) (x : α) : (pre ++ l.drop j)[j]? = some l[j] ∧ (pre ++ l.drop j).set j x = (pre ++ [x]) ++ l.drop (j + 1) := by
  constructor
  · rw [List.getElem?_append_right (by omega), hl, Nat.sub_self, List.getElem?_drop]; simp [h]
  · rw [List.set_append_right _ _ (by omega), hl, Nat.sub_self, List.append_assoc, List.drop_eq_getElem_cons h]
    rfl

end Go.Proofs.YtekmnopgaopmlaaGreatDoor

/- The machine's codes and their words: the model's tables walked. -/
set_option maxRecDepth 100000
namespace Go.Proofs.YtekmnopgaopmlaaGreatDoor
open Go.RowKit

/-- The codes, and their words. -/
def opCodesL : List Int := [32, 0, 1, 96, 97, 2, 3, 4, 20, 36, 52, 68, 84, 100, 116, 132, 164, 12, 28, 92, 76, 5, 21, 37, 53, 69, 29, 45, 61, 77, 6, 22, 7, 135]
def opNamesL : List (List UInt8) := [[108, 111, 97, 100], [105, 109, 109], [105, 109, 109, 120], [109, 101, 109], [109, 101, 109, 120], [115, 116, 111, 114, 101], [115, 116, 111, 114, 101, 120], [97, 100, 100], [115, 117, 98], [109, 117, 108], [100, 105, 118], [111, 114], [97, 110, 100], [108, 101, 102, 116], [114, 105, 103, 104, 116], [110, 101, 103], [120, 111, 114], [97, 100, 100, 120], [115, 117, 98, 120], [97, 110, 100, 120], [111, 114, 120], [106, 117, 109, 112], [101, 113], [103, 116], [103, 101], [115, 101, 116], [101, 113, 120], [103, 116, 120], [103, 101, 120], [115, 101, 116, 120], [114, 101, 116], [114, 101, 116, 97], [116, 97, 120], [116, 120, 97]]
def opFind : List (Int × List UInt8) → Int → List UInt8
  | [], _ => []
  | p :: l, c => if p.1 = c then p.2 else opFind l c
def opNameL (c : Int) : List UInt8 := opFind (opCodesL.zip opNamesL) c
def opNameOf (c : Int) : ByteArray := ⟨(opNameL c).toArray⟩
/-- Is it a code? -/
def isOp (c : Int) : Bool := opCodesL.contains c

theorem opFind_hit : ∀ (cs : List Int) (ns : List (List UInt8)) (c : Int) (k : Nat) (hk : k < cs.length) (hn : k < ns.length), (∀ j (hj : j < k), cs[j]'(by omega) ≠ c) → cs[k] = c → opFind (cs.zip ns) c = ns[k]
  | [], _, _, _, hk, _, _, _ => by simp at hk
  | _ :: _, [], _, _, _, hn, _, _ => by simp at hn
  | a :: cs, n :: ns, c, 0, _, _, _, he => by
    simp only [List.getElem_cons_zero] at he
    simp [opFind, he]
  | a :: cs, n :: ns, c, k + 1, hk, hn, hne, he => by
    have h0 := hne 0 (by omega)
    simp only [List.getElem_cons_zero] at h0
    simp only [List.zip_cons_cons, opFind, if_neg h0, List.getElem_cons_succ]
    simp only [List.getElem_cons_succ] at he
    exact opFind_hit cs ns c k (by simpa using hk) (by simpa using hn) (fun j hj => by have := hne (j + 1) (by omega); simpa using this) he
theorem opFind_miss : ∀ (l : List (Int × List UInt8)) (c : Int), (∀ p ∈ l, p.1 ≠ c) → opFind l c = []
  | [], _, _ => rfl
  | p :: l, c, h => by simp only [opFind, if_neg (h p (by simp))]; exact opFind_miss l c fun q hq => h q (by simp [hq])
theorem opName_hit {c : Int} {k : Nat} (hk : k < 34) (hne : ∀ j (hj : j < k), opCodesL[j]'(by show j < 34; omega) ≠ c) (he : opCodesL[k]'(by exact hk) = c) : opNameL c = opNamesL[k]'(by exact hk) :=
  opFind_hit opCodesL opNamesL c k hk hk hne he
theorem opName_miss {c : Int} (h : ∀ j (hj : j < 34), opCodesL[j]'(by exact hj) ≠ c) : opNameL c = [] :=
  opFind_miss _ c fun p hp => by
    obtain ⟨a, b⟩ := p
    have := List.of_mem_zip hp
    obtain ⟨i, hi, e⟩ := List.getElem_of_mem this.1
    rw [← e]
    exact h i hi

theorem isOp_empty (c : Int) : (opNameOf c).toList.isEmpty = !isOp c := by
  have key : ∀ (cs : List Int) (ns : List (List UInt8)), cs.length = ns.length → (∀ n ∈ ns, n ≠ []) → ((opFind (cs.zip ns) c).isEmpty = !cs.contains c) := by
    intro cs
    induction cs with
    | nil => intro ns _ _; simp [opFind]
    | cons a cs ih =>
      intro ns hl hn
      cases ns with
      | nil => simp at hl
      | cons m ns =>
        simp only [List.zip_cons_cons, opFind]
        by_cases h : a = c
        · rw [if_pos h]
          have := hn m (by simp)
          cases m with
          | nil => exact absurd rfl this
          | cons b m => simp [h]
        · rw [if_neg h, ih ns (by simpa using hl) (fun n hn' => hn n (by simp [hn']))]
          have h' : ¬ c = a := fun e => h e.symm
          simp [h']
  have := key opCodesL opNamesL rfl (by decide)
  rw [Lib.toList_data]
  unfold opNameOf opNameL isOp
  simpa using this

theorem l02Ops_any (w : World) : Calls Tryz.prog 65 #[] w fun e w' => ∃ b1 b2, e = .returned (.tuple #[.slice (some ⟨b1, 0, none⟩) 34 34, .slice (some ⟨b2, 0, none⟩) 34 34]) ∧
    (∀ j (hj : j < 34), w'.cell? ⟨b1, j, none⟩ = some (.string ⟨(opNamesL[j]'(by exact hj)).toArray⟩)) ∧ (∀ j (hj : j < 34), w'.cell? ⟨b2, j, none⟩ = some (.int .i64 (opCodesL[j]'(by exact hj)))) ∧ Below w.heap.size w w' := by
  go_enter Tryz.func65, Tryz.ntmps65
  go_wp2
  go_ret2
  refine ⟨_, _, rfl, ?_, ?_, ?_⟩
  · intro j hj
    rw [World.cell?_alloc_past _ _ _ (by simp), World.cell?_alloc_at _ _ _ _ rfl]
    show ((opNamesL.map fun n => Value.string ⟨n.toArray⟩).toArray)[j]? = _
    have h : j < opNamesL.length := hj
    simp [h]
    rfl
  · intro j hj
    rw [World.cell?_alloc_at _ _ _ _ (by simp)]
    show ((opCodesL.map fun n => Value.int .i64 n).toArray)[j]? = _
    have h : j < opCodesL.length := hj
    simp [h]
    rfl
  · exact ((Below.refl _ _).alloc (Nat.le_refl _) _).alloc (by simp) _

set_option maxHeartbeats 400000 in
theorem specOpName_any (c : Int) (w : World) : Calls Tryz.prog 77 #[.int .i64 c] w fun e w' => e = .returned (.string (opNameOf c)) ∧ Below w.heap.size w w' := by
  go_enter Tryz.func77, Tryz.ntmps77
  go_wp2_with fail
  refine (l02Ops_any _).mono ?_
  rintro e w1 ⟨b1, b2, rfl, hn, hc, hb⟩
  have HN := Lib.hid hn
  have HC := Lib.hid hc
  have HB := Lib.hid hb
  clear hn hc hb
  go_wp2_with fail
  go_loop [5] (fun i => ∃ k : Nat, k ≤ 34 ∧ i = .int .i64 k ∧ ∀ j (hj : j < 34), j < k → opCodesL[j]'(by exact hj) ≠ c) (fun i => 34 - (intOf i).toNat)
  case atStart => exact ⟨0, by omega, rfl, fun j hj h => by omega⟩
  case round =>
    obtain ⟨k, hk, rfl, hne⟩ := hrel
    have HNE := Lib.hid hne
    clear hne
    by_cases hlt : k < 34
    · have c1 := HN.out k hlt
      have c2 := HC.out k hlt
      by_cases he : opCodesL[k]'(by exact hlt) = c
      · have hq : (opCodesL[k]'(by exact hlt) == c) = true := by simpa using he
        have hr := Lib.hid (opName_hit hlt (fun j hj => HNE.out j (by omega) hj) he)
        go_wp2_with fail
        go_ret
        exact ⟨ret_str (by unfold opNameOf; rw [hr.out]), HB.out⟩
      · have hq : (opCodesL[k]'(by exact hlt) == c) = false := by simpa using he
        go_wp2_with fail
        go_round
        case rel => exact ⟨k + 1, by omega, by go_num, fun j hj h => by
          rcases Nat.lt_or_ge j k with h' | h'
          · exact HNE.out j hj h'
          · obtain rfl : j = k := by omega
            exact he⟩
        case measure => simp [intOf]; omega
    · have hr := Lib.hid (opName_miss (c := c) fun j hj => HNE.out j hj (by omega))
      go_wp2_with fail
      go_ret
      exact ⟨ret_str (by unfold opNameOf; rw [hr.out]), HB.out⟩

/-- The code of a word, -1 without one. -/
def ofFind : List (List UInt8 × Int) → List UInt8 → Int
  | [], _ => -1
  | p :: l, n => if p.1 = n then p.2 else ofFind l n
def opOf (t : ByteArray) : Int := ofFind (opNamesL.zip opCodesL) t.data.toList

theorem ofFind_hit : ∀ (ns : List (List UInt8)) (cs : List Int) (n : List UInt8) (k : Nat) (hk : k < ns.length) (hn : k < cs.length), (∀ j (hj : j < k), ns[j]'(by omega) ≠ n) → ns[k] = n → ofFind (ns.zip cs) n = cs[k]
  | [], _, _, _, hk, _, _, _ => by simp at hk
  | _ :: _, [], _, _, _, hn, _, _ => by simp at hn
  | a :: ns, c :: cs, n, 0, _, _, _, he => by
    simp only [List.getElem_cons_zero] at he
    simp [ofFind, he]
  | a :: ns, c :: cs, n, k + 1, hk, hn, hne, he => by
    have h0 := hne 0 (by omega)
    simp only [List.getElem_cons_zero] at h0
    simp only [List.zip_cons_cons, ofFind, if_neg h0, List.getElem_cons_succ]
    simp only [List.getElem_cons_succ] at he
    exact ofFind_hit ns cs n k (by simpa using hk) (by simpa using hn) (fun j hj => by have := hne (j + 1) (by omega); simpa using this) he
theorem ofFind_miss : ∀ (l : List (List UInt8 × Int)) (n : List UInt8), (∀ p ∈ l, p.1 ≠ n) → ofFind l n = -1
  | [], _, _ => rfl
  | p :: l, n, h => by simp only [ofFind, if_neg (h p (by simp))]; exact ofFind_miss l n fun q hq => h q (by simp [hq])
theorem opOf_hit {t : ByteArray} {k : Nat} (hk : k < 34) (hne : ∀ j (hj : j < k), opNamesL[j]'(by show j < 34; omega) ≠ t.data.toList) (he : opNamesL[k]'(by exact hk) = t.data.toList) : opOf t = opCodesL[k]'(by exact hk) :=
  ofFind_hit opNamesL opCodesL _ k hk hk hne he
theorem opOf_miss {t : ByteArray} (h : ∀ j (hj : j < 34), opNamesL[j]'(by exact hj) ≠ t.data.toList) : opOf t = -1 :=
  ofFind_miss _ _ fun p hp => by
    obtain ⟨a, b⟩ := p
    have := List.of_mem_zip hp
    obtain ⟨i, hi, e⟩ := List.getElem_of_mem this.1
    rw [← e]
    exact h i hi
theorem name_eq {l : List UInt8} {t : ByteArray} : (⟨l.toArray⟩ : ByteArray) = t ↔ l = t.data.toList := by
  constructor
  · rintro rfl; simp
  · rintro rfl; simp

end Go.Proofs.YtekmnopgaopmlaaGreatDoor

/- Plain facts on bits of unsigned numbers. No program is read here. -/
namespace Go.Proofs.YtekmnopgaopmlaaGreatDoor

theorem ofInt_toNat (k : Nat) (a : Nat) (h : a < 2 ^ k) : (BitVec.ofInt k (a : Int)).toNat = a := by
  rw [BitVec.ofInt_natCast, BitVec.toNat_ofNat]; exact Nat.mod_eq_of_lt h

theorem xor_max_u64 (x : Int) (h0 : 0 ≤ x) (h1 : x ≤ 18446744073709551615) : bits .xor .u64 IntKind.u64.max x = 18446744073709551615 - x := by
  obtain ⟨a, rfl⟩ := Int.eq_ofNat_of_zero_le h0
  have e : IntKind.u64.max = ((18446744073709551615 : Nat) : Int) := by decide
  rw [e, bits_xor_u64_nat _ _ (by omega) (by omega)]
  have h2 : (18446744073709551615 : Nat) ^^^ a = 18446744073709551615 - a := by
    have h3 : (BitVec.allOnes 64 ^^^ BitVec.ofNat 64 a).toNat = (~~~ (BitVec.ofNat 64 a)).toNat := by rw [BitVec.allOnes_xor]
    rw [BitVec.toNat_xor, BitVec.toNat_not, BitVec.toNat_allOnes, BitVec.toNat_ofNat, Nat.mod_eq_of_lt (by omega)] at h3
    simpa using h3
  rw [h2]
  omega

theorem or_128_u8 (x : Int) (h0 : 0 ≤ x) (h1 : x ≤ 255) : bits .or .u8 x 128 = x % 128 + 128 := by
  have key : ∀ n : Fin 256, bits .or .u8 ((n.val : Nat) : Int) 128 = ((n.val : Nat) : Int) % 128 + 128 := by decide +kernel
  have := key ⟨x.toNat, by omega⟩
  rw [show (((⟨x.toNat, by omega⟩ : Fin 256).val : Nat) : Int) = x from by simp; omega] at this
  exact this

end Go.Proofs.YtekmnopgaopmlaaGreatDoor

/- Plain facts on bits of whole numbers of i64 and u32 as natural numbers. No program is read here. -/
namespace Go.Proofs.YtekmnopgaopmlaaGreatDoor

theorem and_i64_nat (a b : Nat) (ha : a < 9223372036854775808) (hb : b < 9223372036854775808) : bits .and .i64 (a : Int) (b : Int) = ((a &&& b : Nat) : Int) := by
  have hx : a &&& b < 2 ^ 63 := Nat.and_lt_two_pow _ (by omega)
  show IntKind.i64.wrap ((BitVec.ofInt 64 (a : Int) &&& BitVec.ofInt 64 (b : Int)).toNat : Int) = _
  rw [BitVec.toNat_and, ofInt_toNat 64 a (by omega), ofInt_toNat 64 b (by omega), IntKind.wrap_i64]
  omega
theorem or_i64_nat (a b : Nat) (ha : a < 9223372036854775808) (hb : b < 9223372036854775808) : bits .or .i64 (a : Int) (b : Int) = ((a ||| b : Nat) : Int) := by
  have hx : a ||| b < 2 ^ 63 := Nat.or_lt_two_pow (by omega) (by omega)
  show IntKind.i64.wrap ((BitVec.ofInt 64 (a : Int) ||| BitVec.ofInt 64 (b : Int)).toNat : Int) = _
  rw [BitVec.toNat_or, ofInt_toNat 64 a (by omega), ofInt_toNat 64 b (by omega), IntKind.wrap_i64]
  omega
theorem xor_i64_nat (a b : Nat) (ha : a < 9223372036854775808) (hb : b < 9223372036854775808) : bits .xor .i64 (a : Int) (b : Int) = ((a ^^^ b : Nat) : Int) := by
  have hx : a ^^^ b < 2 ^ 63 := Nat.xor_lt_two_pow (by omega) (by omega)
  show IntKind.i64.wrap ((BitVec.ofInt 64 (a : Int) ^^^ BitVec.ofInt 64 (b : Int)).toNat : Int) = _
  rw [BitVec.toNat_xor, ofInt_toNat 64 a (by omega), ofInt_toNat 64 b (by omega), IntKind.wrap_i64]
  omega
theorem and_u32_nat (a b : Nat) (ha : a < 4294967296) (hb : b < 4294967296) : bits .and .u32 (a : Int) (b : Int) = ((a &&& b : Nat) : Int) := by
  have hx : a &&& b < 2 ^ 32 := Nat.and_lt_two_pow _ (by omega)
  show IntKind.u32.wrap ((BitVec.ofInt 32 (a : Int) &&& BitVec.ofInt 32 (b : Int)).toNat : Int) = _
  rw [BitVec.toNat_and, ofInt_toNat 32 a (by omega), ofInt_toNat 32 b (by omega), IntKind.wrap_u32]
  omega
theorem or_u32_nat (a b : Nat) (ha : a < 4294967296) (hb : b < 4294967296) : bits .or .u32 (a : Int) (b : Int) = ((a ||| b : Nat) : Int) := by
  have hx : a ||| b < 2 ^ 32 := Nat.or_lt_two_pow (by omega) (by omega)
  show IntKind.u32.wrap ((BitVec.ofInt 32 (a : Int) ||| BitVec.ofInt 32 (b : Int)).toNat : Int) = _
  rw [BitVec.toNat_or, ofInt_toNat 32 a (by omega), ofInt_toNat 32 b (by omega), IntKind.wrap_u32]
  omega
theorem xor_u32_nat (a b : Nat) (ha : a < 4294967296) (hb : b < 4294967296) : bits .xor .u32 (a : Int) (b : Int) = ((a ^^^ b : Nat) : Int) := by
  have hx : a ^^^ b < 2 ^ 32 := Nat.xor_lt_two_pow (by omega) (by omega)
  show IntKind.u32.wrap ((BitVec.ofInt 32 (a : Int) ^^^ BitVec.ofInt 32 (b : Int)).toNat : Int) = _
  rw [BitVec.toNat_xor, ofInt_toNat 32 a (by omega), ofInt_toNat 32 b (by omega), IntKind.wrap_u32]
  omega
theorem and_255_i64 (x : Int) (h0 : 0 ≤ x) (h1 : x ≤ 9223372036854775807) : bits .and .i64 x 255 = x % 256 := by
  obtain ⟨n, rfl⟩ := Int.eq_ofNat_of_zero_le h0
  rw [show (255 : Int) = ((255 : Nat) : Int) from rfl, and_i64_nat _ _ (by omega) (by omega), show 255 = 2 ^ 8 - 1 from rfl, Nat.and_two_pow_sub_one_eq_mod]
  omega
/-- A number below 256^k, and bytes that begin there, put together. -/
theorem or_low (k u c : Nat) (hu : u < 256 ^ k) : u ||| c * 256 ^ k = u + c * 256 ^ k := by
  have e : 256 ^ k = 2 ^ (8 * k) := by rw [Nat.pow_mul]
  rw [e] at hu ⊢
  rw [Nat.or_comm, Nat.mul_comm c, ← Nat.two_pow_add_eq_or_of_lt hu c]
  omega

end Go.Proofs.YtekmnopgaopmlaaGreatDoor

/- Numbers out of bytes, the lowest first: plain facts; the model's l02Get and l02Put walked. -/
set_option maxRecDepth 100000
namespace Go.Proofs.YtekmnopgaopmlaaGreatDoor
open Go.RowKit

/-- A number's bytes, the lowest first. -/
def leB : Nat → Int → List UInt8
  | 0, _ => []
  | m + 1, n => UInt8.ofNat (n % 256).toNat :: leB m (n / 256)
theorem leB_length : ∀ (m : Nat) (n : Int), (leB m n).length = m
  | 0, _ => rfl
  | m + 1, n => by simp [leB, leB_length m]

set_option maxHeartbeats 800000 in
theorem l02Put_any (n : Int) (m : Nat) (w : World) (h0 : 0 ≤ n) (h1 : n ≤ 9223372036854775807) (hm : m ≤ 4) :
    Calls Tryz.prog 93 #[.int .i64 n, .int .i64 m] w fun e w' => e = .returned (.string ⟨(leB m n).toArray⟩) ∧ Below w.heap.size w w' := by
  go_enter Tryz.func93, Tryz.ntmps93
  go_wp2
  go_loopw [5, 6] (fun v i wr => ∃ (k : Nat) (pre : List UInt8) (x : Int), k ≤ m ∧ i = .int .i64 k ∧ pre.length = k ∧ 0 ≤ x ∧ x = n / 256 ^ k ∧ pre ++ leB (m - k) x = leB m n ∧ OwnB w.heap.size wr v pre ∧ Below w.heap.size w wr) (fun _ i _ => m - (intOf i).toNat)
  case atStart => exact ⟨0, [], n, by omega, rfl, rfl, h0, by simp, by simp, World.ownsRow_lit _ _ _ (Nat.le_refl _) (by unfold maxLen; omega) (by simp), (Below.refl _ _).alloc (Nat.le_refl _) _⟩
  case round =>
    obtain ⟨k, pre, x, hk, rfl, hl, hx0, hx, he, hown, hbw⟩ := hrel
    have HE := Lib.hid he
    have HL := Lib.hid hl
    have HX := Lib.hid hx
    clear he hl hx
    have hsz := hbw.size
    by_cases hlt : k < m
    · have hnext : (pre ++ [UInt8.ofNat (x % 256).toNat]) ++ leB (m - (k + 1)) (x / 256) = leB m n := by
        have := HE.out
        rw [show m - k = (m - (k + 1)) + 1 by omega] at this
        rw [List.append_assoc]
        exact this
      have hnx : x / 256 = n / 256 ^ (k + 1) := by
        rw [HX.out, Int.pow_succ, Int.ediv_ediv_of_nonneg (Int.pow_nonneg (by omega))]
      have hpl : pre.length ≤ 3 := by have := HL.out; omega
      have HN := Lib.hid hnext
      have HX1 := Lib.hid hnx
      clear hnext hnx
      rcases (by omega : k = 0 ∨ k = 1 ∨ k = 2 ∨ k = 3) with rfl | rfl | rfl | rfl
      · have hb8 : bits .and .i64 n 255 % 256 = x % 256 := by
          have := HX.out
          rw [and_255_i64 _ (by omega) (by omega), this]
          omega
        go_wp2_with (at_builtin; refine wpList_push_u8 rfl _ _ rfl _ _ _ _ rfl hown _ (by omega) (by omega) rfl (by omega) hsz ?_; intro v1 w1 hown1 hg1)
        go_roundw
        case rel => exact ⟨1, _, x / 256, by omega, rfl, by simp [HL.out], by omega, HX1.out, HN.out, hown1, hbw.grown hg1 hsz (fun k hk => (hown.lt k hk).1)⟩
        case measure => simp [intOf]; omega
      · have hb8 : bits .and .i64 (n / 256) 255 % 256 = x % 256 := by
          have := HX.out
          rw [and_255_i64 _ (by omega) (by omega), this]
          omega
        go_wp2_with (at_builtin; refine wpList_push_u8 rfl _ _ rfl _ _ _ _ rfl hown _ (by omega) (by omega) rfl (by omega) hsz ?_; intro v1 w1 hown1 hg1)
        go_roundw
        case rel => exact ⟨2, _, x / 256, by omega, rfl, by simp [HL.out], by omega, HX1.out, HN.out, hown1, hbw.grown hg1 hsz (fun k hk => (hown.lt k hk).1)⟩
        case measure => simp [intOf]; omega
      · have hb8 : bits .and .i64 (n / 65536) 255 % 256 = x % 256 := by
          have := HX.out
          rw [and_255_i64 _ (by omega) (by omega), this]
          omega
        go_wp2_with (at_builtin; refine wpList_push_u8 rfl _ _ rfl _ _ _ _ rfl hown _ (by omega) (by omega) rfl (by omega) hsz ?_; intro v1 w1 hown1 hg1)
        go_roundw
        case rel => exact ⟨3, _, x / 256, by omega, rfl, by simp [HL.out], by omega, HX1.out, HN.out, hown1, hbw.grown hg1 hsz (fun k hk => (hown.lt k hk).1)⟩
        case measure => simp [intOf]; omega
      · have hb8 : bits .and .i64 (n / 16777216) 255 % 256 = x % 256 := by
          have := HX.out
          rw [and_255_i64 _ (by omega) (by omega), this]
          omega
        go_wp2_with (at_builtin; refine wpList_push_u8 rfl _ _ rfl _ _ _ _ rfl hown _ (by omega) (by omega) rfl (by omega) hsz ?_; intro v1 w1 hown1 hg1)
        go_roundw
        case rel => exact ⟨4, _, x / 256, by omega, rfl, by simp [HL.out], by omega, HX1.out, HN.out, hown1, hbw.grown hg1 hsz (fun k hk => (hown.lt k hk).1)⟩
        case measure => simp [intOf]; omega
    · have hst := hown.string
      have hfin : pre = leB m n := by
        have := HE.out
        rw [show m - k = 0 by omega] at this
        simpa [leB] using this
      have HF := Lib.hid hfin
      clear hfin
      go_wp2_with fail
      go_ret
      exact ⟨ret_str (by rw [HF.out]), hbw⟩

/-- The number of these bytes, the lowest first. -/
def leV : List UInt8 → Int
  | [] => 0
  | b :: r => b.toNat + 256 * leV r
theorem leV_append : ∀ a b : List UInt8, leV (a ++ b) = leV a + 256 ^ a.length * leV b
  | [], b => by simp [leV]
  | x :: a, b => by
    simp only [List.cons_append, leV, leV_append a b, List.length_cons, Int.pow_succ]
    rw [Int.mul_add, ← Int.mul_assoc, Int.mul_comm 256 (256 ^ a.length)]
    omega
theorem leV_bd : ∀ l : List UInt8, 0 ≤ leV l ∧ leV l < 256 ^ l.length
  | [] => by simp [leV]
  | x :: l => by
    have h := leV_bd l
    have hx := UInt8.toNat_lt x
    simp only [leV, List.length_cons, Int.pow_succ]
    omega
theorem leV_nat (l : List UInt8) : ∃ n : Nat, leV l = (n : Int) ∧ n < 256 ^ l.length := by
  have h := leV_bd l
  obtain ⟨n, hn⟩ := Int.eq_ofNat_of_zero_le h.1
  refine ⟨n, hn, ?_⟩
  have h2 := h.2
  rw [hn] at h2
  exact_mod_cast h2
/-- Bytes of a string from a place on. -/
def bytesAt (s : ByteArray) (a k : Nat) : List UInt8 := (s.data.toList.drop a).take k
theorem toList_len (s : ByteArray) : s.data.toList.length = s.size := by rw [Array.length_toList]; rfl
theorem bytesAt_length {s : ByteArray} {a k : Nat} (h : a + k ≤ s.size) : (bytesAt s a k).length = k := by
  have := toList_len s
  unfold bytesAt
  rw [List.length_take, List.length_drop]
  omega
theorem bytesAt_next {s : ByteArray} {a k : Nat} (h : a + k < s.size) : bytesAt s a (k + 1) = bytesAt s a k ++ [s[a + k]] := by
  have hl := toList_len s
  unfold bytesAt
  rw [List.take_succ_eq_append_getElem (by rw [List.length_drop]; omega)]
  congr 1
  simp [List.getElem_drop]
  rfl
theorem leV_next {s : ByteArray} {a k : Nat} (h : a + k < s.size) : leV (bytesAt s a (k + 1)) = leV (bytesAt s a k) + 256 ^ k * s[a + k].toNat := by
  rw [bytesAt_next h, leV_append, bytesAt_length (by omega)]
  simp [leV]

theorem or_byte_i64 (n c k : Nat) (hk : k ≤ 3) (hn : n < 256 ^ k) (hc : c < 256) : bits .or .i64 (n : Int) ((c : Int) * (256 ^ k : Nat)) = (n : Int) + 256 ^ k * (c : Int) := by
  have h3 : (256 : Nat) ^ k ≤ 256 ^ 3 := Nat.pow_le_pow_right (by omega) hk
  have hm : c * 256 ^ k ≤ 255 * 256 ^ 3 := Nat.mul_le_mul (by omega) h3
  rw [show ((c : Int) * (256 ^ k : Nat)) = ((c * 256 ^ k : Nat) : Int) by simp, or_i64_nat _ _ (by omega) (by omega), or_low k n c hn]
  rw [Nat.mul_comm]
  simp
theorem or_byte_u32 (n c k : Nat) (hk : k ≤ 3) (hn : n < 256 ^ k) (hc : c < 256) : bits .or .u32 (n : Int) ((c : Int) * (256 ^ k : Nat)) = (n : Int) + 256 ^ k * (c : Int) := by
  have h3 : (256 : Nat) ^ k ≤ 256 ^ 3 := Nat.pow_le_pow_right (by omega) hk
  have hm : c * 256 ^ k ≤ 255 * 256 ^ 3 := Nat.mul_le_mul (by omega) h3
  rw [show ((c : Int) * (256 ^ k : Nat)) = ((c * 256 ^ k : Nat) : Int) by simp, or_u32_nat _ _ (by omega) (by omega), or_low k n c hn]
  rw [Nat.mul_comm]
  simp

set_option maxHeartbeats 800000 in
theorem l02Get_any (s : ByteArray) (a m : Nat) (w : World) (hs : s.size ≤ maxLen) (ham : a + m ≤ s.size) (hm : m ≤ 4) :
    Calls Tryz.prog 139 #[.string s, .int .i64 a, .int .i64 m] w fun e w' => e = .returned (.int .i64 (leV (bytesAt s a m))) ∧ w = w' := by
  unfold maxLen at hs
  go_enter Tryz.func139, Tryz.ntmps139
  go_wp2
  go_loop [7, 8] (fun n i => ∃ k : Nat, k ≤ m ∧ i = .int .i64 k ∧ n = .int .i64 (leV (bytesAt s a k))) (fun _ i => m - (intOf i).toNat)
  case atStart => exact ⟨0, by omega, rfl, by simp [bytesAt, leV]⟩
  case round =>
    obtain ⟨k, hk, rfl, rfl⟩ := hrel
    by_cases hlt : k < m
    · obtain ⟨n, hn, hnl⟩ := leV_nat (bytesAt s a k)
      rw [bytesAt_length (by omega)] at hnl
      have hnext := leV_next (s := s) (a := a) (k := k) (by omega)
      rw [hn] at hnext ⊢
      have hbyte := UInt8.toNat_lt (s[a + k]'(by omega))
      have hor := or_byte_i64 n (s[a + k]'(by omega)).toNat k (by omega) hnl hbyte
      rw [← hnext] at hor
      have HOR := Lib.hid hor
      clear hn hnext hor
      rcases (by omega : k = 0 ∨ k = 1 ∨ k = 2 ∨ k = 3) with rfl | rfl | rfl | rfl
      · have hb0 : (s[a]'(by omega)).toNat < 256 := UInt8.toNat_lt _
        go_wp2_with fail
        go_round
        case rel => exact ⟨1, by omega, rfl, congrArg (Value.int .i64) (by have h := HOR.out; simpa using h)⟩
        case measure => simp [intOf]; omega
      · go_wp2_with fail
        go_round
        case rel => exact ⟨2, by omega, rfl, congrArg (Value.int .i64) (by have h := HOR.out; simpa using h)⟩
        case measure => simp [intOf]; omega
      · go_wp2_with fail
        go_round
        case rel => exact ⟨3, by omega, rfl, congrArg (Value.int .i64) (by have h := HOR.out; simpa using h)⟩
        case measure => simp [intOf]; omega
      · go_wp2_with fail
        go_round
        case rel => exact ⟨4, by omega, rfl, congrArg (Value.int .i64) (by have h := HOR.out; simpa using h)⟩
        case measure => simp [intOf]; omega
    · have hkm : k = m := by omega
      subst hkm
      go_wp2_with fail
      go_ret
      exact ⟨rfl, rfl⟩

theorem l02Get_int (s : ByteArray) (z mz : Int) (a m : Nat) (w : World) (hs : s.size ≤ maxLen) (hz : z = a) (hmz : mz = m) (ham : a + m ≤ s.size) (hm : m ≤ 4) :
    Calls Tryz.prog 139 #[.string s, .int .i64 z, .int .i64 mz] w fun e w' => e = .returned (.int .i64 (leV (bytesAt s a m))) ∧ w = w' := by
  subst hz hmz
  exact l02Get_any s a m w hs ham hm

end Go.Proofs.YtekmnopgaopmlaaGreatDoor

/- Words of two halves: WordRight, WordLess, WordAnd, Load of the model walked. -/
set_option maxRecDepth 100000
namespace Go.Proofs.YtekmnopgaopmlaaGreatDoor
open Go.RowKit

/-- A word of two halves. -/
structure Wd where
  h : Int
  l : Int
theorem Wd.ext' {a b : Wd} (h0 : a.h = b.h) (h1 : a.l = b.l) : a = b := by cases a; cases b; simp_all
instance : DecidableEq Wd := fun a b => decidable_of_iff (a.h = b.h ∧ a.l = b.l) ⟨fun h => Wd.ext' h.1 h.2, fun h => by rw [h]; exact ⟨rfl, rfl⟩⟩
def Wd.wf (x : Wd) : Prop := In64 x.h ∧ In64 x.l
def wdRight (x : Wd) : Bool := isB x.h 0 4294967295 && isB x.l 0 4294967295
def wdLess0 (a b : Wd) : Bool := decide (a.h < b.h) || (a.h == b.h && decide (a.l < b.l))
def wdLess (a b : Wd) : Bool := wdRight a && wdRight b && wdLess0 a b
def andI (a b : Int) : Int := bits .and .i64 a b
def wdAnd (a b : Wd) : Wd := if wdRight a && wdRight b then ⟨andI a.h b.h, andI a.l b.l⟩ else ⟨0, 0⟩

theorem specWordRight_any (h l : Int) (w : World) : Calls Tryz.prog 92 #[.agg #[.int .i64 h, .int .i64 l]] w fun e w' =>
    e = .returned (.bool (wdRight ⟨h, l⟩)) ∧ Below w.heap.size w w' := by
  by_cases h0 : isB h 0 4294967295 = true
  all_goals
    go_enter Tryz.func92, Tryz.ntmps92
    go_wp2_with (go_at_call 81; refine (l02Is_any _ _ _ _).mono ?_; rintro e w' ⟨rfl, rfl⟩)
    go_ret
    exact ⟨ret_bool (by simp [wdRight, *]), (Below.refl _ _).alloc (Nat.le_refl _) _⟩

/-- The number of four bytes of what is asked. -/
def loadB (s : ByteArray) (z : Int) : Int := if s.size = 64 ∧ 0 ≤ z ∧ z ≤ 60 ∧ z % 4 = 0 then leV (bytesAt s z.toNat 4) else -1
theorem loadB_yes {s : ByteArray} {z : Int} (h : s.size = 64 ∧ 0 ≤ z ∧ z ≤ 60 ∧ z % 4 = 0) : loadB s z = leV (bytesAt s z.toNat 4) := by unfold loadB; rw [if_pos h]
theorem loadB_no {s : ByteArray} {z : Int} (h : ¬ (s.size = 64 ∧ 0 ≤ z ∧ z ≤ 60 ∧ z % 4 = 0)) : loadB s z = -1 := by unfold loadB; rw [if_neg h]

theorem specLoad_any (s : ByteArray) (z : Int) (w : World) (hs : s.size ≤ maxLen) (hz0 : -9223372036854775808 ≤ z) (hz1 : z ≤ 9223372036854775807) : Calls Tryz.prog 125 #[.string s, .int .i64 z] w fun e w' =>
    e = .returned (.int .i64 (loadB s z)) ∧ w = w' := by
  have hs' := hs
  unfold maxLen at hs
  by_cases h1 : s.size = 64
  · have q : ((s.size : Int) != 64) = false := by rw [h1]; rfl
    have H1 := Lib.hid h1
    by_cases h2 : 0 ≤ z ∧ z ≤ 60
    · have hi := isB_yes h2.1 h2.2
      obtain ⟨n, rfl⟩ := Int.eq_ofNat_of_zero_le h2.1
      have hn : n ≤ 60 := by omega
      by_cases h3 : n % 4 = 0
      · have HL := Lib.hid (loadB_yes (s := s) (z := (n : Int)) ⟨h1, by omega, by omega, by omega⟩)
        have q3 : ((n : Int) % 4 != 0) = false := by simp; omega
        have qq := fun W => l02Get_int s (n : Int) 4 n 4 W hs' rfl rfl (by omega) (by omega)
        have QQ := Lib.hid qq
        clear h1 h2 qq
        go_enter Tryz.func125, Tryz.ntmps125
        go_wp2_with (first | (go_at_call 81; refine (l02Is_any _ _ _ _).mono ?_; rintro e w' ⟨rfl, rfl⟩) | (go_at_call 139; refine (QQ.out _).mono ?_; rintro e w' ⟨rfl, rfl⟩))
        go_ret
        exact ⟨ret_int (by rw [HL.out]; rfl), rfl⟩
      · have HL := Lib.hid (loadB_no (s := s) (z := (n : Int)) (by omega))
        have q3 : ((n : Int) % 4 != 0) = true := by simp; omega
        clear h1 h2
        go_enter Tryz.func125, Tryz.ntmps125
        go_wp2_with (first | (go_at_call 81; refine (l02Is_any _ _ _ _).mono ?_; rintro e w' ⟨rfl, rfl⟩))
        go_ret
        exact ⟨ret_int HL.out.symm, rfl⟩
    · have hi := isB_no (n := z) (lo := 0) (hi := 60) h2
      have HL := Lib.hid (loadB_no (s := s) (z := z) (by omega))
      clear h1
      go_enter Tryz.func125, Tryz.ntmps125
      go_wp2_with (first | (go_at_call 81; refine (l02Is_any _ _ _ _).mono ?_; rintro e w' ⟨rfl, rfl⟩))
      go_ret
      exact ⟨ret_int HL.out.symm, rfl⟩
  · have q : ((s.size : Int) != 64) = true := by simp; omega
    have HL := Lib.hid (loadB_no (s := s) (z := z) (by omega))
    go_enter Tryz.func125, Tryz.ntmps125
    go_wp2
    go_ret
    exact ⟨ret_int HL.out.symm, rfl⟩

end Go.Proofs.YtekmnopgaopmlaaGreatDoor

/- Walks of ProgBytes: the model's and the program's, against one plain function. -/
set_option maxRecDepth 100000
namespace Go.Proofs.YtekmnopgaopmlaaGreatDoor
open Go.RowKit

def insB (x : Ins) : List UInt8 := leB 2 x.c ++ leB 1 x.y ++ leB 1 x.n ++ leB 4 x.k
def progB (l : List Ins) : List UInt8 := l.flatMap insB
def allOk (l : List Ins) : Bool := decide (l.length ≤ 400) && l.all insRight
def pbOf (l : List Ins) : ByteArray := if allOk l then ⟨(progB l).toArray⟩ else ⟨#[]⟩

theorem all_take {l : List Ins} {k : Nat} (h : (l.take k).all insRight = true) (hk : k < l.length) (hx : insRight l[k] = true) : (l.take (k + 1)).all insRight = true := by
  rw [List.take_succ_eq_append_getElem hk, List.all_append, h]
  simp [hx]
theorem allOk_bad {l : List Ins} {k : Nat} (hk : k < l.length) (hx : insRight l[k] = false) : allOk l = false := by
  unfold allOk
  rw [Bool.and_eq_false_iff]
  right
  rw [List.all_eq_false]
  exact ⟨l[k], List.getElem_mem hk, by simp [hx]⟩
theorem allOk_long {l : List Ins} (h : 400 < l.length) : allOk l = false := by
  unfold allOk
  rw [decide_eq_false (by omega)]
  rfl
theorem allOk_end {l : List Ins} {k : Nat} (h : (l.take k).all insRight = true) (hk : l.length ≤ k) (hl : l.length ≤ 400) : allOk l = true := by
  unfold allOk
  rw [List.take_of_length_le hk] at h
  simp [h, hl]

set_option maxHeartbeats 800000 in
theorem l02Prog_any (v : Value) (l : List Ins) (w : World) (h : InsAt w w.heap.size v l) :
    Calls Tryz.prog 54 #[v] w fun e w' => e = .returned (.bool (allOk l)) ∧ Below w.heap.size w w' := by
  obtain ⟨a, cap, rfl, hlc, hcm⟩ := h.len
  unfold maxLen at hcm
  have HH := Lib.hid h
  clear h
  go_enter Tryz.func54, Tryz.ntmps54
  go_wp2
  go_loopw [3] (fun i wr => ∃ k : Nat, k ≤ l.length ∧ k ≤ 401 ∧ i = .int .i64 k ∧ (l.take k).all insRight = true ∧ Below w.heap.size w wr) (fun i _ => l.length - (intOf i).toNat)
  case atStart => exact ⟨0, by omega, by omega, rfl, by simp, Below.refl _ _⟩
  case round =>
    obtain ⟨k, hk, hk1, rfl, hall, hbw⟩ := hrel
    have HA := Lib.hid hall
    have HB := Lib.hid hbw
    have hsz := hbw.size
    clear hall hbw
    by_cases hlt : k < l.length
    · by_cases h4 : k ≤ 400
      · obtain ⟨b, o, e, hb, c0, c1, c2, c3, hwf⟩ := (HH.out.below HB.out).at_ (List.getElem?_eq_getElem hlt)
        subst e
        go_wp2_with fail
        refine (isRight_spec _ _ _ _ _).mono ?_
        rintro e w2 ⟨rfl, hb2⟩
        have HB2 := Lib.hid (HB.out.trans (hb2.mono hsz))
        clear hb2
        cases hx : insRight l[k] with
        | true =>
          have HN := Lib.hid (all_take HA.out hlt hx)
          have hx' : insRight ⟨l[k].c, l[k].y, l[k].n, l[k].k⟩ = true := hx
          clear hx
          go_wp2_with fail
          go_roundw
          case rel => exact ⟨k + 1, by omega, by omega, by go_num, HN.out, HB2.out⟩
          case measure => simp [intOf]; omega
        | false =>
          have HN := Lib.hid (allOk_bad hlt hx)
          have hx' : insRight ⟨l[k].c, l[k].y, l[k].n, l[k].k⟩ = false := hx
          clear hx
          go_wp2_with fail
          go_ret
          exact ⟨ret_bool HN.out.symm, HB2.out⟩
      · have h4' : decide ((k : Int) ≤ 400) = false := by simp; omega
        have HN := Lib.hid (allOk_long (l := l) (by omega))
        have h5 : decide ((l.length : Int) ≤ 400) = false := by simp; omega
        go_wp2_with fail
        go_ret
        exact ⟨ret_bool HN.out.symm, HB.out⟩
    · have hlt' : decide (k < l.length) = false := by simpa using hlt
      by_cases h4 : l.length ≤ 400
      · have HN := Lib.hid (allOk_end HA.out (by omega) h4)
        have h5 : decide ((l.length : Int) ≤ 400) = true := by simp; omega
        go_wp2_with fail
        go_ret
        exact ⟨ret_bool HN.out.symm, HB.out⟩
      · have HN := Lib.hid (allOk_long (l := l) (by omega))
        have h5 : decide ((l.length : Int) ≤ 400) = false := by simp; omega
        go_wp2_with fail
        go_ret
        exact ⟨ret_bool HN.out.symm, HB.out⟩

set_option maxHeartbeats 800000 in
theorem allRight_any (v : Value) (l : List Ins) (w : World) (h : InsAt w w.heap.size v l) :
    Calls Tryz.prog 51 #[v] w fun e w' => e = .returned (.bool (allOk l)) ∧ Below w.heap.size w w' := by
  obtain ⟨a, cap, rfl, hlc, hcm⟩ := h.len
  unfold maxLen at hcm
  have HH := Lib.hid h
  clear h
  by_cases h4 : 400 < l.length
  · have HN := Lib.hid (allOk_long h4)
    have h5 : decide (400 < (l.length : Int)) = true := by simp; omega
    go_enter Tryz.func51, Tryz.ntmps51
    go_wp2
    go_ret
    exact ⟨ret_bool HN.out.symm, Below.refl _ _⟩
  have h5 : decide (400 < (l.length : Int)) = false := by simp; omega
  go_enter Tryz.func51, Tryz.ntmps51
  go_wp2
  go_loopw [10] (fun i wr => ∃ k : Nat, k ≤ l.length ∧ i = .int .i64 k ∧ (l.take k).all insRight = true ∧ Below w.heap.size w wr) (fun i _ => l.length - (intOf i).toNat)
  case atStart => exact ⟨0, by omega, rfl, by simp, Below.refl _ _⟩
  case round =>
    obtain ⟨k, hk, rfl, hall, hbw⟩ := hrel
    have HA := Lib.hid hall
    have HB := Lib.hid hbw
    have hsz := hbw.size
    clear hall hbw
    by_cases hlt : k < l.length
    · obtain ⟨b, o, e, hb, c0, c1, c2, c3, hwf⟩ := (HH.out.below HB.out).at_ (List.getElem?_eq_getElem hlt)
      subst e
      go_wp2_with fail
      refine (isRight_impl _ _ _ _ _).mono ?_
      rintro e w2 ⟨rfl, hb2⟩
      have HB2 := Lib.hid (HB.out.trans ((box_below hb2).mono hsz))
      clear hb2
      cases hx : insRight l[k] with
      | true =>
        have HN := Lib.hid (all_take HA.out hlt hx)
        have hx' : insRight ⟨l[k].c, l[k].y, l[k].n, l[k].k⟩ = true := hx
        clear hx
        go_wp2_with fail
        go_roundw
        case rel => exact ⟨k + 1, by omega, by go_num, HN.out, HB2.out⟩
        case measure => simp [intOf]; omega
      | false =>
        have HN := Lib.hid (allOk_bad hlt hx)
        have hx' : insRight ⟨l[k].c, l[k].y, l[k].n, l[k].k⟩ = false := hx
        clear hx
        go_wp2_with fail
        go_ret
        exact ⟨ret_bool HN.out.symm, HB2.out⟩
    · have HN := Lib.hid (allOk_end HA.out (by omega) (by omega))
      go_wp2_with fail
      go_ret
      exact ⟨ret_bool HN.out.symm, HB.out⟩

end Go.Proofs.YtekmnopgaopmlaaGreatDoor

/- Walks of ProgRead's parts: numbers out of bytes, the lowest first. -/
set_option maxRecDepth 100000
namespace Go.Proofs.YtekmnopgaopmlaaGreatDoor
open Go.RowKit

set_option maxHeartbeats 800000 in
theorem lowNum_any (s : ByteArray) (w : World) (hs : s.size ≤ 4) :
    Calls Tryz.prog 141 #[.string s] w fun e w' => e = .returned (.int .i64 (leV s.data.toList)) ∧ w = w' := by
  have hfin : bytesAt s 0 s.size = s.data.toList := by unfold bytesAt; rw [List.drop_zero, List.take_of_length_le (by rw [toList_len]; exact Nat.le_refl _)]
  rw [← hfin]
  have HF := Lib.hid hfin
  clear hfin
  go_enter Tryz.func141, Tryz.ntmps141
  go_wp2
  go_loop [3, 4, 7] (fun n _ i => ∃ k : Nat, k ≤ s.size ∧ i = .int .i64 k ∧ n = .int .u32 (leV (bytesAt s 0 k))) (fun _ _ i => s.size - (intOf i).toNat)
  case atStart => exact ⟨0, by omega, rfl, by simp [bytesAt, leV]⟩
  case round =>
    obtain ⟨k, hk, rfl, rfl⟩ := hrel
    by_cases hlt : k < s.size
    · obtain ⟨n, hn, hnl⟩ := leV_nat (bytesAt s 0 k)
      rw [bytesAt_length (by omega)] at hnl
      have hnext := leV_next (s := s) (a := 0) (k := k) (by omega)
      rw [hn] at hnext ⊢
      have hbyte := UInt8.toNat_lt (s[0 + k]'(by omega))
      have hor := or_byte_u32 n (s[0 + k]'(by omega)).toNat k (by omega) hnl hbyte
      rw [← hnext] at hor
      simp only [Nat.zero_add] at hor hbyte
      have HOR := Lib.hid hor
      clear hn hnext hor
      rcases (by omega : k = 0 ∨ k = 1 ∨ k = 2 ∨ k = 3) with rfl | rfl | rfl | rfl
      · go_wp2_with fail
        go_round
        case rel => exact ⟨1, by omega, rfl, congrArg (Value.int .u32) (by have h := HOR.out; simpa using h)⟩
        case measure => simp [intOf]; omega
      · go_wp2_with fail
        go_round
        case rel => exact ⟨2, by omega, rfl, congrArg (Value.int .u32) (by have h := HOR.out; simpa using h)⟩
        case measure => simp [intOf]; omega
      · go_wp2_with fail
        go_round
        case rel => exact ⟨3, by omega, rfl, congrArg (Value.int .u32) (by have h := HOR.out; simpa using h)⟩
        case measure => simp [intOf]; omega
      · go_wp2_with fail
        go_round
        case rel => exact ⟨4, by omega, rfl, congrArg (Value.int .u32) (by have h := HOR.out; simpa using h)⟩
        case measure => simp [intOf]; omega
    · have hkm : k = s.size := by omega
      subst hkm
      have hb := leV_bd (bytesAt s 0 s.size)
      rw [bytesAt_length (by omega)] at hb
      have hb2 : (256 : Int) ^ s.size ≤ 4294967296 := by
        rcases (by omega : s.size = 0 ∨ s.size = 1 ∨ s.size = 2 ∨ s.size = 3 ∨ s.size = 4) with h | h | h | h | h <;> rw [h] <;> decide
      obtain ⟨hb0, hb1⟩ : 0 ≤ leV (bytesAt s 0 s.size) ∧ leV (bytesAt s 0 s.size) ≤ 4294967295 := ⟨hb.1, by have := hb.2; omega⟩
      clear hb hb2
      obtain ⟨x, hx⟩ : ∃ x, x = leV (bytesAt s 0 s.size) := ⟨_, rfl⟩
      rw [← hx] at hb0 hb1 ⊢
      have HX := Lib.hid hx
      clear hx
      go_wp2_with fail
      go_ret
      exact ⟨ret_int HX.out, rfl⟩

end Go.Proofs.YtekmnopgaopmlaaGreatDoor

/- Walks of ProgRead: the model's and the program's. -/
set_option maxRecDepth 100000
namespace Go.Proofs.YtekmnopgaopmlaaGreatDoor
open Go.RowKit

/-- The word of the eight bytes at a place. -/
def insAtB (s : ByteArray) (i : Nat) : Ins := ⟨leV (bytesAt s i 2), leV (bytesAt s (i + 2) 1), leV (bytesAt s (i + 3) 1), leV (bytesAt s (i + 4) 4)⟩
theorem bytesAt_extract {s : ByteArray} {a b c k : Nat} (h : a + c + k ≤ b) : bytesAt (s.extract a b) c k = bytesAt s (a + c) k := by
  unfold bytesAt
  rw [Lib.extract_data, List.drop_take, List.drop_drop, List.take_take]
  congr 1
  omega
theorem insAtB_extract {s : ByteArray} {a b : Nat} (h : a + 8 ≤ b) : insAtB (s.extract a b) 0 = insAtB s a := by
  unfold insAtB
  rw [bytesAt_extract (by omega), bytesAt_extract (by omega), bytesAt_extract (by omega), bytesAt_extract (by omega)]
  simp only [Nat.zero_add, Nat.add_zero]
theorem extract_size {s : ByteArray} {a b : Nat} (h0 : a ≤ b) (h : b ≤ s.size) : (s.extract a b).size = b - a := by
  rw [ByteArray.size_extract]; omega
theorem leV_one {s : ByteArray} {i : Nat} (h : i < s.size) : leV (bytesAt s i 1) = s[i].toNat := by
  have e : bytesAt s i 1 = [s[i]] := by
    have := bytesAt_next (s := s) (a := i) (k := 0) (by omega)
    simpa [bytesAt] using this
  rw [e]; simp [leV]

end Go.Proofs.YtekmnopgaopmlaaGreatDoor

/- Walks of the program's words of two halves: WordRight, bitsOf, wordOf, WordLess, WordAnd, Load. -/
set_option maxRecDepth 100000
namespace Go.Proofs.YtekmnopgaopmlaaGreatDoor
open Go.RowKit
attribute [local go_sem ↓] Go.wp_at_zero Go.wp_at_succ

/-- The number of 64 bits of two halves, each cut to 32. -/
def bitsW (x : Wd) : Int := (x.h % 4294967296) * 4294967296 + x.l % 4294967296
def halves (u : Int) : Wd := ⟨u / 4294967296, u % 4294967296⟩
theorem bitsW_bd (x : Wd) : 0 ≤ bitsW x ∧ bitsW x ≤ 18446744073709551615 := by unfold bitsW; omega
theorem halves_right (u : Int) (h0 : 0 ≤ u) (h1 : u ≤ 18446744073709551615) : wdRight (halves u) = true := by
  unfold wdRight halves isB
  simp only [Bool.and_eq_true, decide_eq_true_eq]
  omega
theorem wdRight_bd {x : Wd} (h : wdRight x = true) : (0 ≤ x.h ∧ x.h ≤ 4294967295) ∧ (0 ≤ x.l ∧ x.l ≤ 4294967295) := by
  unfold wdRight isB at h
  simpa [and_assoc] using h
theorem bitsW_right {x : Wd} (h : wdRight x = true) : bitsW x = x.h * 4294967296 + x.l := by
  have := wdRight_bd h
  unfold bitsW
  omega
/-- A word is right just if it is what its bits are taken apart to. -/
theorem halves_bitsW (x : Wd) : halves (bitsW x) = x ↔ wdRight x = true := by
  constructor
  · intro h
    rw [← h]
    exact halves_right _ (bitsW_bd x).1 (bitsW_bd x).2
  · intro h
    have := wdRight_bd h
    rw [bitsW_right h]
    apply Wd.ext' <;> simp only [halves] <;> omega
theorem or_u64_nat (a b : Nat) (ha : a < 18446744073709551616) (hb : b < 18446744073709551616) : bits .or .u64 (a : Int) (b : Int) = ((a ||| b : Nat) : Int) := by
  have hx : a ||| b < 2 ^ 64 := Nat.or_lt_two_pow (by omega) (by omega)
  show IntKind.u64.wrap ((BitVec.ofInt 64 (a : Int) ||| BitVec.ofInt 64 (b : Int)).toNat : Int) = _
  rw [BitVec.toNat_or, ofInt_toNat 64 a (by omega), ofInt_toNat 64 b (by omega), IntKind.wrap_u64]
  omega
theorem and_u64_nat (a b : Nat) (ha : a < 18446744073709551616) (hb : b < 18446744073709551616) : bits .and .u64 (a : Int) (b : Int) = ((a &&& b : Nat) : Int) := by
  have hx : a &&& b < 2 ^ 64 := Nat.and_lt_two_pow _ (by omega)
  show IntKind.u64.wrap ((BitVec.ofInt 64 (a : Int) &&& BitVec.ofInt 64 (b : Int)).toNat : Int) = _
  rw [BitVec.toNat_and, ofInt_toNat 64 a (by omega), ofInt_toNat 64 b (by omega), IntKind.wrap_u64]
  omega
theorem or_halves (h l : Int) : bits .or .u64 ((h % 4294967296) * 4294967296) (l % 4294967296) = bitsW ⟨h, l⟩ := by
  obtain ⟨a, ha⟩ := Int.eq_ofNat_of_zero_le (show 0 ≤ h % 4294967296 by omega)
  obtain ⟨b, hb⟩ := Int.eq_ofNat_of_zero_le (show 0 ≤ l % 4294967296 by omega)
  have h1 : a < 4294967296 := by omega
  have h2 : b < 4294967296 := by omega
  have ho := or_low 4 b a (by simpa using h2)
  unfold bitsW
  simp only [ha, hb]
  rw [show (a : Int) * 4294967296 = ((a * 4294967296 : Nat) : Int) by simp, or_u64_nat _ _ (by omega) (by omega), Nat.or_comm]
  rw [show a * 4294967296 = a * 256 ^ 4 from rfl, ho]
  show ((b + a * 4294967296 : Nat) : Int) = _
  omega
theorem and_halves {x y : Wd} (hx : wdRight x = true) (hy : wdRight y = true) : halves (bits .and .u64 (bitsW x) (bitsW y)) = ⟨andI x.h y.h, andI x.l y.l⟩ := by
  obtain ⟨⟨a0, a1⟩, ⟨b0, b1⟩⟩ := wdRight_bd hx
  obtain ⟨⟨c0, c1⟩, ⟨d0, d1⟩⟩ := wdRight_bd hy
  rw [bitsW_right hx, bitsW_right hy]
  obtain ⟨h, l⟩ := x
  obtain ⟨h', l'⟩ := y
  simp only at a0 a1 b0 b1 c0 c1 d0 d1 ⊢
  obtain ⟨a, rfl⟩ := Int.eq_ofNat_of_zero_le a0
  obtain ⟨b, rfl⟩ := Int.eq_ofNat_of_zero_le b0
  obtain ⟨c, rfl⟩ := Int.eq_ofNat_of_zero_le c0
  obtain ⟨d, rfl⟩ := Int.eq_ofNat_of_zero_le d0
  rw [show (a : Int) * 4294967296 + (b : Int) = ((a * 4294967296 + b : Nat) : Int) by omega, show (c : Int) * 4294967296 + (d : Int) = ((c * 4294967296 + d : Nat) : Int) by omega, and_u64_nat _ _ (by omega) (by omega)]
  unfold andI halves
  rw [and_i64_nat _ _ (by omega) (by omega), and_i64_nat _ _ (by omega) (by omega)]
  have e1 : (((a * 4294967296 + b) &&& (c * 4294967296 + d)) / 4294967296 : Nat) = ((a * 4294967296 + b) / 4294967296) &&& ((c * 4294967296 + d) / 4294967296) := Nat.and_div_two_pow (n := 32)
  have e2 : (((a * 4294967296 + b) &&& (c * 4294967296 + d)) % 4294967296 : Nat) = ((a * 4294967296 + b) % 4294967296) &&& ((c * 4294967296 + d) % 4294967296) := Nat.and_mod_two_pow (n := 32)
  rw [show (a * 4294967296 + b) / 4294967296 = a by omega, show (c * 4294967296 + d) / 4294967296 = c by omega] at e1
  rw [show (a * 4294967296 + b) % 4294967296 = b by omega, show (c * 4294967296 + d) % 4294967296 = d by omega] at e2
  apply Wd.ext'
  · simp only
    rw [← e1]
    omega
  · simp only
    rw [← e2]
    omega
theorem less_bits {x y : Wd} (hx : wdRight x = true) (hy : wdRight y = true) : decide (bitsW x < bitsW y) = wdLess0 x y := by
  obtain ⟨⟨a0, a1⟩, ⟨b0, b1⟩⟩ := wdRight_bd hx
  obtain ⟨⟨c0, c1⟩, ⟨d0, d1⟩⟩ := wdRight_bd hy
  rw [bitsW_right hx, bitsW_right hy, Bool.eq_iff_iff]
  unfold wdLess0
  simp only [decide_eq_true_eq, Bool.or_eq_true, Bool.and_eq_true, beq_iff_eq]
  omega

theorem bitsOf_any (h l : Int) (w : World) : Calls Tryz.prog 129 #[.agg #[.int .i64 h, .int .i64 l]] w fun e w' =>
    e = .returned (.int .u64 (bitsW ⟨h, l⟩)) ∧ Below w.heap.size w w' := by
  have HO := Lib.hid (or_halves h l)
  go_enter Tryz.func129, Tryz.ntmps129
  go_wp2
  go_ret
  exact ⟨ret_int HO.out, (Below.refl _ _).alloc (Nat.le_refl _) _⟩

theorem wordOf_any (u : Int) (w : World) (h0 : 0 ≤ u) (h1 : u ≤ 18446744073709551615) : Calls Tryz.prog 140 #[.int .u64 u] w fun e w' =>
    e = .returned (.agg #[.int .i64 (halves u).h, .int .i64 (halves u).l]) ∧ Below w.heap.size w w' := by
  go_enter Tryz.func140, Tryz.ntmps140
  go_wp2
  exact bodyPost_ret (v := .agg #[.int .i64 (u / 4294967296), .int .i64 (u % 4294967296)]) (by simp [results, Tryz.results140, go_sem]) rfl ⟨rfl, (Below.refl _ _).alloc (Nat.le_refl _) _⟩

theorem implLoad_any (s : ByteArray) (z : Int) (w : World) (hs : s.size ≤ maxLen) (hz0 : -9223372036854775808 ≤ z) (hz1 : z ≤ 9223372036854775807) : Calls Tryz.prog 130 #[.string s, .int .i64 z] w fun e w' =>
    e = .returned (.int .i64 (loadB s z)) ∧ w = w' := by
  have hs' := hs
  unfold maxLen at hs
  by_cases h1 : s.size = 64
  · have q : ((s.size : Int) != 64) = false := by rw [h1]; rfl
    have H1 := Lib.hid h1
    by_cases h2 : 0 ≤ z ∧ z ≤ 60
    · have hi := isB_yes h2.1 h2.2
      obtain ⟨n, rfl⟩ := Int.eq_ofNat_of_zero_le h2.1
      have hn : n ≤ 60 := by omega
      by_cases h3 : n % 4 = 0
      · have HL := Lib.hid (loadB_yes (s := s) (z := (n : Int)) ⟨h1, by omega, by omega, by omega⟩)
        have q3 : ((n : Int) % 4 != 0) = false := by simp; omega
        have hsz : (s.extract n s.size).size = s.size - n := by rw [ByteArray.size_extract]; omega
        have qq := fun W => lowNum_any ((s.extract n s.size).extract 0 4) W (by rw [ByteArray.size_extract]; omega)
        have he : ((s.extract n s.size).extract 0 4).data.toList = bytesAt s n 4 := by
          rw [Lib.extract_data, Lib.extract_data]
          unfold bytesAt
          simp only [List.drop_zero, Nat.sub_zero]
          rw [List.take_take, Nat.min_eq_left (by omega)]
        rw [he] at qq
        have QQ := Lib.hid qq
        have hb : (n : Int) ≤ (s.size : Int) := by omega
        have hb2 : (4 : Int) ≤ ((s.size - n : Nat) : Int) := by omega
        clear h1 h2 qq he
        go_enter Tryz.func130, Tryz.ntmps130
        go_wp2_with (first | (go_at_call 79; refine (within_any _ _ _).mono ?_; rintro e w' ⟨rfl, rfl⟩) | (go_at_call 141; refine (QQ.out _).mono ?_; rintro e w' ⟨rfl, rfl⟩))
        go_ret
        exact ⟨ret_int (by rw [HL.out]; rfl), rfl⟩
      · have HL := Lib.hid (loadB_no (s := s) (z := (n : Int)) (by omega))
        have q3 : ((n : Int) % 4 != 0) = true := by simp; omega
        clear h1 h2
        go_enter Tryz.func130, Tryz.ntmps130
        go_wp2_with (first | (go_at_call 79; refine (within_any _ _ _).mono ?_; rintro e w' ⟨rfl, rfl⟩))
        go_ret
        exact ⟨ret_int HL.out.symm, rfl⟩
    · have hi := isB_no (n := z) (lo := 0) (hi := 60) h2
      have HL := Lib.hid (loadB_no (s := s) (z := z) (by omega))
      clear h1
      go_enter Tryz.func130, Tryz.ntmps130
      go_wp2_with (first | (go_at_call 79; refine (within_any _ _ _).mono ?_; rintro e w' ⟨rfl, rfl⟩))
      go_ret
      exact ⟨ret_int HL.out.symm, rfl⟩
  · have q : ((s.size : Int) != 64) = true := by simp; omega
    have HL := Lib.hid (loadB_no (s := s) (z := z) (by omega))
    go_enter Tryz.func130, Tryz.ntmps130
    go_wp2
    go_ret
    exact ⟨ret_int HL.out.symm, rfl⟩

end Go.Proofs.YtekmnopgaopmlaaGreatDoor

/- A word put behind a list of words that the call made. -/
set_option maxRecDepth 100000
namespace Go.Proofs.YtekmnopgaopmlaaGreatDoor
open Go.RowKit

theorem InsOwn.nil (base : Nat) (w : World) : InsOwn base w (.slice none 0 0) [] := World.ownsRow_nil _ _ _ _
theorem InsOwn.lt {base : Nat} {w : World} {v : Value} {l : List Ins} (h : InsOwn base w v l) : ∀ k, v.ownBlock = some k → base ≤ k ∧ k < w.heap.size := World.ownsRow.lt h
theorem InsOwn.alloc {base : Nat} {w : World} {v : Value} {l : List Ins} (h : InsOwn base w v l) (o : Obj) : InsOwn base (w.alloc o) v l := World.ownsRow.alloc h o
theorem InsOwn.below {base : Nat} {w w' : World} {v : Value} {l : List Ins} (h : InsOwn base w v l) (hb : Below w.heap.size w w') : InsOwn base w' v l := own_below h hb

theorem InsOwn.slice {base : Nat} {w : World} {v : Value} {l : List Ins} (h : InsOwn base w v l) : ∃ a cap, v = .slice a l.length cap := by
  rcases h.2 with ⟨e, hn⟩ | ⟨g, cap, _, e, _⟩
  · exact ⟨none, 0, by rw [e, hn]⟩
  · exact ⟨_, cap, e⟩
theorem InsOwn.setBelow {base : Nat} {w : World} {v : Value} {l : List Ins} (h : InsOwn base w v l) {a : Addr} (ha : a.block < base) (u : Value) : InsOwn base (w.setCell a u) v l := ownsRow_setCell_below h ha u
theorem InsOwn.base {b b' : Nat} {w : World} {v : Value} {l : List Ins} (h : InsOwn b w v l) (hb : b' ≤ b) : InsOwn b' w v l := by
  rcases h.2 with ⟨e, hn⟩ | ⟨g, cap, cur, e, hg, r⟩
  · exact ⟨h.1, .inl ⟨e, hn⟩⟩
  · exact ⟨h.1, .inr ⟨g, cap, cur, e, by omega, r⟩⟩
theorem fill_at {pre : List Ins} {k m : Nat} (hk : pre.length = k) (hm : k < m) (x : Ins) : (pre ++ List.replicate (m - k) ins0)[k]? = some ins0 ∧
    (pre ++ List.replicate (m - k) ins0).set k x = (pre ++ [x]) ++ List.replicate (m - (k + 1)) ins0 := by
  obtain ⟨r, hr⟩ : ∃ r, m - k = r + 1 := ⟨m - k - 1, by omega⟩
  have hr' : m - (k + 1) = r := by omega
  constructor
  · rw [List.getElem?_append_right (by omega), hk, Nat.sub_self, hr]; simp
  · rw [List.set_append_right _ _ (by omega), hk, hr, hr', List.append_assoc]
    simp [List.replicate_succ]
theorem insOwn_lit {base : Nat} {w : World} {H : Nat} (hb : base ≤ w.heap.size) (hH : H = w.heap.size) : InsOwn base (w.alloc (.cells #[] 66)) (.slice (some ⟨H, 0, none⟩) 0 0) [] := by
  subst hH
  exact World.ownsRow_lit w #[] 0 hb (by unfold maxLen; omega) (by simp)

/-- 'append(l, Insn{..})': the word lies in a block of its own. -/
theorem wpList_push_ins {ops : Array Oper} {rest : List Oper} {o : Oper} {a : Act} {Q : Exit → Act → World → Prop} (hgd : o.guard = none) (s x : Operand)
    (ho : o.op = .call { callee := .builtin .append, args := #[s, x], argTypes := #[23, 23] }) (wr : World) (c y n k : Int)
    (base : Nat) (v : Value) (l : List Ins) (hs : a.eval s = v) (hown : InsOwn base wr v l)
    (hx : a.eval x = .slice (some ⟨wr.heap.size, 0, none⟩) 1 1) (hlen : l.length ≤ 1000000000) (hbase : base ≤ wr.heap.size)
    (h : ∀ v' w', InsOwn base w' v' (l ++ [⟨c, y, n, k⟩]) → GrB wr w' v v' → wpList Tryz.prog ops Q rest (a.put o.dst v') w') :
    wpList Tryz.prog ops Q (o :: rest) a (wr.alloc (.cells #[.int .i64 c, .int .i64 y, .int .i64 n, .int .i64 k] 66)) := by
  obtain ⟨i0, hi, hz0, hz1, hz2⟩ := info_parts info_insn
  refine wpList_append_own_at _ hgd s x 23 ho base 66 i0 _ 4 32 Tryz.underlying23 hi hz0 hz1 hz2 rfl (by decide) v l.length (progCells l) hs
    (World.ownsRow.alloc hown _) ⟨wr.heap.size, 0, none⟩ 1 1 [.int .i64 c, .int .i64 y, .int .i64 n, .int .i64 k] hx rfl (fun j u hj => ?_) (by intro u hu; simp at hu; rcases hu with rfl | rfl | rfl | rfl <;> rfl) (by unfold maxLen; omega) (by omega) (by simp; omega) ?_
  · rw [add_at, Nat.zero_add, World.cell?_alloc_at _ _ _ _ rfl, ← hj]; simp
  intro v' w' hown' hg _ hat
  refine h v' w' ?_ (GrB.alloc ⟨hg, ?_⟩)
  · unfold InsOwn
    rw [progCells_append, List.length_append]
    exact hown'
  · rcases hat with e | e
    · exact .inl e
    · exact .inr fun g hg' => by rw [e] at hg'; injection hg' with hg'; omega

end Go.Proofs.YtekmnopgaopmlaaGreatDoor

/- Walks of the laws' own marks on lists of words: markInsnS, heldInsnS, and on a program out. -/
set_option maxRecDepth 100000
namespace Go.Proofs.YtekmnopgaopmlaaGreatDoor
open Go.RowKit

/-- The words that the marks leave. -/
def markI (k : Int) (i : Nat) : Ins := ⟨k + 4 * i, k + 4 * i + 1, k + 4 * i + 1 + 1, k + 4 * i + 1 + 1 + 1⟩
def markL (k : Int) (n : Nat) : List Ins := (List.range n).map (markI k)
theorem markL_length (k : Int) (n : Nat) : (markL k n).length = n := by simp [markL]
theorem markL_next (k : Int) (n : Nat) : markL k (n + 1) = markL k n ++ [markI k n] := by simp [markL, List.range_succ]
theorem markL_get {k : Int} {n i : Nat} (h : i < n) : (markL k n)[i]? = some (markI k i) := by simp [markL, h]
theorem markL_wf {k : Int} {n : Nat} (h0 : 0 ≤ k) (h1 : k ≤ 1000000000) (hn : n ≤ 1000000000) : ∀ x ∈ markL k n, x.wf := by
  intro x hx
  simp only [markL, List.mem_map, List.mem_range] at hx
  obtain ⟨i, hi, rfl⟩ := hx
  simp only [Ins.wf, In64, markI]
  omega
theorem mark_fill {k : Int} {l : List Ins} {j : Nat} (h : j < l.length) : (markL k j ++ l.drop j)[j]? = some l[j] ∧ (markL k j ++ l.drop j).set j (markI k j) = markL k (j + 1) ++ l.drop (j + 1) := by
  have hl := markL_length k j
  constructor
  · rw [List.getElem?_append_right (by omega), hl, Nat.sub_self, List.getElem?_drop]; simp [h]
  · rw [List.set_append_right _ _ (by omega), hl, Nat.sub_self, markL_next, List.append_assoc, List.drop_eq_getElem_cons h]
    rfl
theorem InsOwn.more {base : Nat} {w : World} {v : Value} {l : List Ins} (h : InsOwn base w v l) (hl : 0 < l.length) : ∃ g cap, v = .slice (some ⟨g, 0, none⟩) l.length cap ∧ base ≤ g ∧ g < w.heap.size ∧ l.length ≤ cap := by
  have hlt := h.lt
  rcases h.2 with ⟨e, hn⟩ | ⟨g, cap, _, e, hg, _, hc, _⟩
  · omega
  · subst e
    exact ⟨g, cap, rfl, hg, (hlt g rfl).2, hc⟩

end Go.Proofs.YtekmnopgaopmlaaGreatDoor

/- Walks of the laws' own helpers on a program out: eqProgOut, markProgOut, heldProgOut. -/
set_option maxRecDepth 100000
namespace Go.Proofs.YtekmnopgaopmlaaGreatDoor
open Go.RowKit

/-- A variable of the law's own that holds a program out. -/
def PoAt (W : World) (b : Nat) (u : Value) (c : Int) : Prop := W.cell? ⟨b, 0, none⟩ = some u ∧ W.cell? ⟨b, 1, none⟩ = some (.int .i64 c) ∧ W.cell? ⟨b, 2, none⟩ = some (.int .i64 0) ∧ b < W.heap.size
theorem PoAt.new (w : World) (u : Value) (c : Int) (T : TypeId) : PoAt (w.alloc (.cells #[u, .int .i64 c, .int .i64 0] T)) w.heap.size u c :=
  ⟨World.cell?_alloc_at _ _ _ _ rfl, World.cell?_alloc_at _ _ _ _ rfl, World.cell?_alloc_at _ _ _ _ rfl, by simp⟩
theorem PoAt.below {W W' : World} {b : Nat} {u : Value} {c : Int} (h : PoAt W b u c) (hb : Below W.heap.size W W') : PoAt W' b u c :=
  ⟨(hb.cell h.2.2.2).trans h.1, (hb.cell h.2.2.2).trans h.2.1, (hb.cell h.2.2.2).trans h.2.2.1, Nat.lt_of_lt_of_le h.2.2.2 hb.size⟩
theorem PoAt.alloc {W : World} {b : Nat} {u : Value} {c : Int} (h : PoAt W b u c) (o : Obj) : PoAt (W.alloc o) b u c := h.below ((Below.refl _ _).alloc (Nat.le_refl _) _)
theorem PoAt.grown {W W' : World} {b : Nat} {u : Value} {c : Int} {row : Option Nat} (h : PoAt W b u c) (hg : W.grownBy W' row) (hne : row ≠ some b) : PoAt W' b u c := by
  have e : ∀ i, W'.cell? ⟨b, i, none⟩ = W.cell? ⟨b, i, none⟩ := fun i => World.cell?_of_block (hg.block b h.2.2.2 fun e => hne e.symm)
  exact ⟨(e _).trans h.1, (e _).trans h.2.1, (e _).trans h.2.2.1, Nat.lt_of_lt_of_le h.2.2.2 hg.size⟩

end Go.Proofs.YtekmnopgaopmlaaGreatDoor

