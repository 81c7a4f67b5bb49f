/- What the laws of chapter 5 ask beside: CheckOuts compared; lists of numbers compared, marked, held. -/
import Derived.Test.YtibbcafhchoiiaaCi
import Derived.Test.YtibbcafhchoiiaaMp
set_option maxRecDepth 100000
set_option linter.unusedSimpArgs false
set_option linter.unusedVariables false
namespace Go.Proofs.Ytibbcafhchoiiaa
open Go.RowKit

theorem eqCheckOut_same (a b : Int) (w : World) : Calls Try.prog 10 #[.agg #[.int .i64 a, .int .i64 b], .agg #[.int .i64 a, .int .i64 b]] w fun e w' => e = .returned (.bool true) ∧ Below w.heap.size w w' := by
  have h1 := nn_int (rfl : a = a)
  have h2 := nn_int (rfl : b = b)
  go_enter Try.func10, Try.ntmps10
  go_wp2_with fail
  go_ret
  exact ⟨rfl, ((Below.refl _ _).alloc (Nat.le_refl _) _).alloc (by simp) _⟩

/-- A row of two numbers. -/
def CoAt (W : World) (b : Nat) (p q : Int) : Prop := W.cell? ⟨b, 0, none⟩ = some (.int .i64 p) ∧ W.cell? ⟨b, 1, none⟩ = some (.int .i64 q) ∧ b < W.heap.size
theorem CoAt.new (w : World) (p q : Int) (T : TypeId) : CoAt (w.alloc (.cells #[.int .i64 p, .int .i64 q] T)) w.heap.size p q :=
  ⟨World.cell?_alloc_at _ _ _ _ rfl, World.cell?_alloc_at _ _ _ _ rfl, by simp⟩
theorem CoAt.below {W W' : World} {b : Nat} {p q : Int} (h : CoAt W b p q) (hb : Below W.heap.size W W') : CoAt W' b p q :=
  ⟨(hb.cell (p := ⟨b, 0, none⟩) h.2.2).trans h.1, (hb.cell (p := ⟨b, 1, none⟩) h.2.2).trans h.2.1, Nat.lt_of_lt_of_le h.2.2 hb.size⟩

end Go.Proofs.Ytibbcafhchoiiaa
