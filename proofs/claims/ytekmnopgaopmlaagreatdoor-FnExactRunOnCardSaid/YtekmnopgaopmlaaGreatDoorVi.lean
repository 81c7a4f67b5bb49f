/- What the laws of chapter 6 ask beside: RunOuts compared; one kept in memory. -/
import Derived.Test.YtekmnopgaopmlaaGreatDoorVh
import Derived.Test.YtekmnopgaopmlaaGreatDoorTs
set_option maxRecDepth 100000
set_option linter.unusedSimpArgs false
set_option linter.unusedVariables false
namespace Go.Proofs.YtekmnopgaopmlaaGreatDoor
open Go.RowKit

theorem eqRunOut_same (a b c : Int) (w : World) : Calls Tryz.prog 25 #[.agg #[.int .i64 a, .int .i64 b, .int .i64 c], .agg #[.int .i64 a, .int .i64 b, .int .i64 c]] w fun e w' => e = .returned (.bool true) ∧ Below w.heap.size w w' := by
  have h1 := nn_int (rfl : a = a)
  have h2 := nn_int (rfl : b = b)
  have h3 := nn_int (rfl : c = c)
  go_enter Tryz.func25, Tryz.ntmps25
  go_wp2_with fail
  go_ret
  exact ⟨rfl, ((Below.refl _ _).alloc (Nat.le_refl _) _).alloc (by simp) _⟩

/-- A row of three numbers. -/
def RoAt (W : World) (b : Nat) (p q r : Int) : Prop := W.cell? ⟨b, 0, none⟩ = some (.int .i64 p) ∧ W.cell? ⟨b, 1, none⟩ = some (.int .i64 q) ∧ W.cell? ⟨b, 2, none⟩ = some (.int .i64 r) ∧ b < W.heap.size
theorem RoAt.new (w : World) (p q r : Int) (T : TypeId) : RoAt (w.alloc (.cells #[.int .i64 p, .int .i64 q, .int .i64 r] T)) w.heap.size p q r :=
  ⟨World.cell?_alloc_at _ _ _ _ rfl, World.cell?_alloc_at _ _ _ _ rfl, World.cell?_alloc_at _ _ _ _ rfl, by simp⟩
theorem RoAt.below {W W' : World} {b : Nat} {p q r : Int} (h : RoAt W b p q r) (hb : Below W.heap.size W W') : RoAt W' b p q r :=
  ⟨(hb.cell (p := ⟨b, 0, none⟩) h.2.2.2).trans h.1, (hb.cell (p := ⟨b, 1, none⟩) h.2.2.2).trans h.2.1, (hb.cell (p := ⟨b, 2, none⟩) h.2.2.2).trans h.2.2.1, Nat.lt_of_lt_of_le h.2.2.2 hb.size⟩

end Go.Proofs.YtekmnopgaopmlaaGreatDoor
