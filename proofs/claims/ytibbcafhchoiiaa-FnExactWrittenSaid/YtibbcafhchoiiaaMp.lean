/- Walks of the laws' own helpers on a program out: eqProgOut, markProgOut, heldProgOut. -/
import Derived.Test.YtibbcafhchoiiaaMk
set_option maxRecDepth 100000
namespace Go.Proofs.Ytibbcafhchoiiaa
open Go.RowKit

/-- A variable of the law's own that holds a program out. -/
def PoAt (W : World) (b : Nat) (u : Value) (c : Int) : Prop := W.cell? ⟨b, 0, none⟩ = some u ∧ W.cell? ⟨b, 1, none⟩ = some (.int .i64 c) ∧ W.cell? ⟨b, 2, none⟩ = some (.int .i64 0) ∧ b < W.heap.size
theorem PoAt.new (w : World) (u : Value) (c : Int) (T : TypeId) : PoAt (w.alloc (.cells #[u, .int .i64 c, .int .i64 0] T)) w.heap.size u c :=
  ⟨World.cell?_alloc_at _ _ _ _ rfl, World.cell?_alloc_at _ _ _ _ rfl, World.cell?_alloc_at _ _ _ _ rfl, by simp⟩
theorem PoAt.below {W W' : World} {b : Nat} {u : Value} {c : Int} (h : PoAt W b u c) (hb : Below W.heap.size W W') : PoAt W' b u c :=
  ⟨(hb.cell h.2.2.2).trans h.1, (hb.cell h.2.2.2).trans h.2.1, (hb.cell h.2.2.2).trans h.2.2.1, Nat.lt_of_lt_of_le h.2.2.2 hb.size⟩
theorem PoAt.alloc {W : World} {b : Nat} {u : Value} {c : Int} (h : PoAt W b u c) (o : Obj) : PoAt (W.alloc o) b u c := h.below ((Below.refl _ _).alloc (Nat.le_refl _) _)
theorem PoAt.grown {W W' : World} {b : Nat} {u : Value} {c : Int} {row : Option Nat} (h : PoAt W b u c) (hg : W.grownBy W' row) (hne : row ≠ some b) : PoAt W' b u c := by
  have e : ∀ i, W'.cell? ⟨b, i, none⟩ = W.cell? ⟨b, i, none⟩ := fun i => World.cell?_of_block (hg.block b h.2.2.2 fun e => hne e.symm)
  exact ⟨(e _).trans h.1, (e _).trans h.2.1, (e _).trans h.2.2.1, Nat.lt_of_lt_of_le h.2.2.2 hg.size⟩

end Go.Proofs.Ytibbcafhchoiiaa
