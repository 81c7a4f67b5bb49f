/- The program's table of what words do: doingsByCode; words that look, leap and end. -/
import Derived.Test.YtekmnopgaopmlaaGreatDoorVd
import Derived.Laws.Tables
import Derived.Laws.Rows
import Derived.Laws.EntriesVeiled
set_option maxRecDepth 100000
set_option linter.unusedSimpArgs false
set_option linter.unusedVariables false
namespace Go.Proofs.YtekmnopgaopmlaaGreatDoor
open Go.RowKit

/-- The table's cell of a code. -/
def doCell (c : Int) : Value := match fnOf c with
  | some K => .func (.func K) #[] #[]
  | none => .nilFunc
def doArr : Array Value := ((List.range 165).map fun c : Nat => doCell (c : Int)).toArray
def zeroDo : Array Value := ((List.range 165).map fun _ => Value.nilFunc).toArray
theorem zero_do (w : World) : (zeroValue 121).run Tryz.prog w = .ok (.agg zeroDo) w := by kernel_rfl
theorem v_build_to {P : Program} {ops : Array Oper} {rest : List Oper} {o : Oper} {a : Act} {w : World} {Q : Exit → Act → World → Prop} (hg : o.guard = none) (t : TypeId) (parts : Array (Nat × Operand)) (cells : Array Value) (ho : o.op = .build t parts)
    (hf : P.built t (parts.map fun (i, x) => (i, a.eval x)).toList = some cells)
    (h : wpList P ops Q rest (a.put o.dst (.agg cells)) w) : wpList P ops Q (o :: rest) a w :=
  wpList_build hg t parts ho (by rw [hf]; rfl) (by rw [hf]; exact h)
theorem v_below_setRow {B g : Nat} {a w : World} (h : Below B a w) (hg : B ≤ g) (cs : Array Value) : Below B a (w.setRow g cs) :=
  ⟨h.os, h.tape, h.output, by rw [setRow_size]; exact h.size, fun k hk => (setRow_other w g k cs (by omega)).trans (h.block k hk)⟩

set_option maxHeartbeats 1600000 in
theorem doings_any (w : World) : Calls Tryz.prog 83 #[] w fun e w' => e = .returned (.agg doArr) ∧ Below w.heap.size w w' := by
  have hz := zero_do
  have hrow : (w.alloc (.cells zeroDo 121)).heap[w.heap.size]? = some (.cells zeroDo 121 (0, 0)) := by simp only [World.alloc, Array.getElem?_push_size]
  have hnew := setRow_heap _ w.heap.size zeroDo doArr 121 (0, 0) hrow
  have hld := fun (_ : Unit) => run_loadVar_row (P := Tryz.prog) _ w.heap.size 121 121 doArr (0, 0) _ hnew Tryz.underlying121 rfl (by kernel_rfl)
  have HL := Lib.hid (hld ())
  have HR := Lib.hid hrow
  clear hrow hnew hld
  go_enter Tryz.func83, Tryz.ntmps83
  go_wp2_with (first
    | (refine v_build_to rfl 121 _ doArr rfl (by kernel_rfl) ?_)
    | (refine wpList_store_row rfl 121 _ _ rfl w.heap.size doArr rfl rfl 121 zeroDo HR.out (by kernel_rfl) (by kernel_rfl) (by kernel_rfl) ?_))
  have hl := HL.out
  exact bodyPost_ret (v := .agg doArr) (by simp [results, Tryz.results83, Act.put, asAddr, hl]) rfl ⟨rfl, v_below_setRow ((Below.refl _ _).alloc (Nat.le_refl _) _) (Nat.le_refl _) _⟩

/-- A code has a word just if the table has a function for it. -/
theorem fnOf_op : ∀ c : Fin 165, (fnOf (c.val : Int)).isSome = isOp (c.val : Int) := by decide +kernel
theorem isOp_far {c : Int} (h : 165 ≤ c) : isOp c = false := by
  cases ho : isOp c with
  | false => rfl
  | true =>
    have key : ∀ c ∈ opCodesL, c < 165 := by decide
    have := key c (by simpa [isOp] using ho)
    omega
theorem doArr_cell {c : Nat} (h : c < 165) : doArr[c]? = some (doCell (c : Int)) := by
  unfold doArr
  rw [List.getElem?_toArray, List.getElem?_map, List.getElem?_range h]
  rfl
theorem fnOf_none {c : Int} (h : c < 0 ∨ 165 ≤ c) : fnOf c = none := by
  unfold fnOf
  repeat rw [if_neg (by omega)]
theorem enter_of {c : Int} {K : Nat} (hf : fnOf c = some K) (args : Array Value) (W : World) : (callFunc K args).run Tryz.prog W = .ok (.enter K args) W := by
  have key : ∀ c : Fin 165, ∀ K, fnOf (c.val : Int) = some K → K ∈ [95, 96, 97, 98, 99, 100, 101, 102, 103, 104, 105, 106, 107, 108, 109, 110, 111, 112, 113, 114, 115, 116, 117, 118, 119, 120] := by
    intro c K h
    have : ∀ c : Fin 165, ∀ K ∈ fnOf (c.val : Int), K ∈ [95, 96, 97, 98, 99, 100, 101, 102, 103, 104, 105, 106, 107, 108, 109, 110, 111, 112, 113, 114, 115, 116, 117, 118, 119, 120] := by decide +kernel
    exact this c K h
  have hc : 0 ≤ c ∧ c < 165 := by
    rcases Int.lt_or_le c 0 with h | h
    · rw [fnOf_none (.inl h)] at hf; simp at hf
    · rcases Int.lt_or_le c 165 with h' | h'
      · exact ⟨h, h'⟩
      · rw [fnOf_none (.inr h')] at hf; simp at hf
  have hm := key ⟨c.toNat, by omega⟩ K (by rw [show (((⟨c.toNat, by omega⟩ : Fin 165).val : Nat) : Int) = c by simp; omega]; exact hf)
  simp only [List.mem_cons, List.not_mem_nil, or_false] at hm
  rcases hm with rfl | rfl | rfl | rfl | rfl | rfl | rfl | rfl | rfl | rfl | rfl | rfl | rfl | rfl | rfl | rfl | rfl | rfl | rfl | rfl | rfl | rfl | rfl | rfl | rfl | rfl
  · exact Tryz.call95 args W
  · exact Tryz.call96 args W
  · exact Tryz.call97 args W
  · exact Tryz.call98 args W
  · exact Tryz.call99 args W
  · exact Tryz.call100 args W
  · exact Tryz.call101 args W
  · exact Tryz.call102 args W
  · exact Tryz.call103 args W
  · exact Tryz.call104 args W
  · exact Tryz.call105 args W
  · exact Tryz.call106 args W
  · exact Tryz.call107 args W
  · exact Tryz.call108 args W
  · exact Tryz.call109 args W
  · exact Tryz.call110 args W
  · exact Tryz.call111 args W
  · exact Tryz.call112 args W
  · exact Tryz.call113 args W
  · exact Tryz.call114 args W
  · exact Tryz.call115 args W
  · exact Tryz.call116 args W
  · exact Tryz.call117 args W
  · exact Tryz.call118 args W
  · exact Tryz.call119 args W
  · exact Tryz.call120 args W

theorem look_step (b : ByteArray) (z : Mx) (m : Mc) (c y n k : Int) (M K : Nat) (w : World) (h : PAt w M b z) (r : Rel z m) (hok : m.ok) (hk : In32 k) (hy : 0 ≤ y ∧ y ≤ 255) (hn : 0 ≤ n ∧ n ≤ 255) (hp : 0 ≤ z.pc ∧ z.pc ≤ 4294967296)
    (hl : looksC c = true) (hf : fnOf c = some K) :
    Calls Tryz.prog K #[.pointer (some ⟨M, 0, none⟩), .agg #[.int .i64 c, .int .i64 y, .int .i64 n, .int .i64 k]] w (PPost b { z with pc := z.pc + if lookM m ⟨c, y, n, k⟩ then y else n } 0 M w) := by
  obtain ⟨ha, hx, -⟩ := hok
  have hza : In32 z.a := by rw [r.a]; exact ha
  have hzx : In32 z.x := by rw [r.x]; exact hx
  have hbits := (w_bits (op := .and) z.a k hza hk).2.2.2
  have hbitx := (w_bits (op := .and) z.a z.x hza hzx).2.2.2
  have ra := r.a
  have rx := r.x
  have hc : c = 21 ∨ c = 37 ∨ c = 53 ∨ c = 69 ∨ c = 29 ∨ c = 45 ∨ c = 61 ∨ c = 77 := by
    unfold looksC at hl
    simpa using hl
  rcases hc with rfl | rfl | rfl | rfl | rfl | rfl | rfl | rfl
  · obtain rfl : 113 = K := by simpa [fnOf] using hf
    exact p_Eq b z 21 y n k M w h hk hy hn hp _ (by rw [show operV z 21 k = k from rfl, ra]; rfl)
  · obtain rfl : 114 = K := by simpa [fnOf] using hf
    exact p_Gt b z 37 y n k M w h hk hy hn hp _ (by rw [show operV z 37 k = k from rfl, ra]; rfl)
  · obtain rfl : 115 = K := by simpa [fnOf] using hf
    exact p_Ge b z 53 y n k M w h hk hy hn hp _ (by rw [show operV z 53 k = k from rfl, ra]; rfl)
  · obtain rfl : 116 = K := by simpa [fnOf] using hf
    exact p_Set b z 69 y n k M w h hk hy hn hp _ (by rw [show operV z 69 k = k from rfl, hbits, ra]; rfl)
  · obtain rfl : 113 = K := by simpa [fnOf] using hf
    exact p_Eq b z 29 y n k M w h hk hy hn hp _ (by rw [show operV z 29 k = z.x from rfl, ra, rx]; rfl)
  · obtain rfl : 114 = K := by simpa [fnOf] using hf
    exact p_Gt b z 45 y n k M w h hk hy hn hp _ (by rw [show operV z 45 k = z.x from rfl, ra, rx]; rfl)
  · obtain rfl : 115 = K := by simpa [fnOf] using hf
    exact p_Ge b z 61 y n k M w h hk hy hn hp _ (by rw [show operV z 61 k = z.x from rfl, ra, rx]; rfl)
  · obtain rfl : 116 = K := by simpa [fnOf] using hf
    exact p_Set b z 77 y n k M w h hk hy hn hp _ (by rw [show operV z 77 k = z.x from rfl, hbitx, ra, rx]; rfl)

end Go.Proofs.YtekmnopgaopmlaaGreatDoor
