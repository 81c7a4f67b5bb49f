/- Walks of the laws' own helpers on a program out: eqProgOut, markProgOut, heldProgOut. -/
import Derived.Test.YtibbcafhchoiiaaDoorMk
set_option maxRecDepth 100000
namespace Go.Proofs.YtibbcafhchoiiaaDoor
open Go.RowKit

theorem eqInsnS_same (v1 v2 : Value) (l : List Ins) (w : World) (h1 : InsAt w w.heap.size v1 l) (h2 : InsAt w w.heap.size v2 l) :
    Calls Tryd.prog 9 #[v1, v2] w fun e w' => e = .returned (.bool true) ∧ Below w.heap.size w w' :=
  (eqInsnS_any v1 v2 l l w h1 h2).mono fun _ _ h => ⟨h.1.trans (ret_bool (by simp)), h.2⟩
/-- Of two outs that are alike. -/
theorem eqProgOut_same (v1 v2 : Value) (l : List Ins) (c t : Int) (w : World) (h1 : InsAt w w.heap.size v1 l) (h2 : InsAt w w.heap.size v2 l) :
    Calls Tryd.prog 12 #[.agg #[v1, .int .i64 c, .int .i64 t], .agg #[v2, .int .i64 c, .int .i64 t]] w fun e w' => e = .returned (.bool true) ∧ Below w.heap.size w w' := by
  obtain ⟨a1, cap1, rfl, hc1, hm1⟩ := h1.len
  obtain ⟨a2, cap2, rfl, hc2, hm2⟩ := h2.len
  have hb0 : ∀ o o', Below w.heap.size w ((w.alloc o).alloc o') := fun o o' => ((Below.refl _ _).alloc (Nat.le_refl _) _).alloc (by simp) _
  have q := fun o o' => eqInsnS_same _ _ l ((w.alloc o).alloc o') ((h1.below (hb0 o o')).up (hb0 o o').size) ((h2.below (hb0 o o')).up (hb0 o o').size)
  have Q := Lib.hid q
  have HB := Lib.hid hb0
  clear q h1 h2 hb0
  have hc : (c != c) = false := by simp
  have ht : (t != t) = false := by simp
  go_enter Tryd.func12, Tryd.ntmps12
  go_wp2_with fail
  refine (Q.out _ _).mono ?_
  rintro e w1 ⟨rfl, hb1⟩
  have e0 := fun i => hb1.cell (p := ⟨w.heap.size, i, none⟩) (by simp; omega)
  have e1 := fun i => hb1.cell (p := ⟨w.heap.size + 1, i, none⟩) (by simp)
  have c1 := e0 1
  have c2 := e0 2
  have d1 := e1 1
  have d2 := e1 2
  rw [World.cell?_alloc_past _ _ _ (by simp), World.cell?_alloc_at _ _ _ _ rfl] at c1 c2
  rw [World.cell?_alloc_at _ _ _ _ (by simp)] at d1 d2
  simp only [List.getElem?_toArray, List.getElem?_cons_zero, List.getElem?_cons_succ] at c1 c2 d1 d2
  have HX := Lib.hid ((HB.out _ _).trans (hb1.mono (HB.out _ _).size))
  clear e0 e1 hb1
  go_wp2_with fail
  go_ret
  exact ⟨rfl, HX.out⟩

theorem markProgOut_any (base : Nat) (v : Value) (l : List Ins) (c t k : Int) (w : World) (h : InsOwn base w v l) (hn : l.length ≤ 1000000000) (hk0 : 0 ≤ k) (hk1 : k ≤ 1000000000) :
    Calls Tryd.prog 13 #[.agg #[v, .int .i64 c, .int .i64 t], .int .i64 k] w fun e w' => e = .returned (.int .i64 (k + 4 * l.length)) ∧ InsOwn base w' v (markL k l.length) ∧ w.grownBy w' v.ownBlock := by
  obtain ⟨a, cap, rfl⟩ := h.slice
  have q := fun o => markInsnS_any base _ l k (w.alloc o) (h.alloc o) hn hk0 hk1
  have Q := Lib.hid q
  clear q h
  go_enter Tryd.func13, Tryd.ntmps13
  go_wp2_with fail
  refine (Q.out _).mono ?_
  rintro e w1 ⟨rfl, ho1, hg1⟩
  have HO := Lib.hid ho1
  have HG := Lib.hid (grown_alloc hg1)
  clear ho1 hg1
  go_wp2_with fail
  go_ret
  exact ⟨rfl, HO.out, HG.out⟩

theorem heldProgOut_any (v : Value) (n : Nat) (c t k : Int) (w : World) (h : InsAt w w.heap.size v (markL k n)) (hn : n ≤ 1000000000) (hk0 : 0 ≤ k) (hk1 : k ≤ 1000000000) :
    Calls Tryd.prog 14 #[.agg #[v, .int .i64 c, .int .i64 t], .int .i64 k] w fun e w' => e = .returned (.int .i64 (k + 4 * n)) ∧ Below w.heap.size w w' := by
  obtain ⟨a, cap, rfl, _, _⟩ := h.len
  have hb0 : ∀ o, Below w.heap.size w (w.alloc o) := fun o => (Below.refl _ _).alloc (Nat.le_refl _) _
  have q := fun o => heldInsnS_any _ n k (w.alloc o) ((h.below (hb0 o)).up (hb0 o).size) hn hk0 hk1
  have Q := Lib.hid q
  have HB := Lib.hid hb0
  clear q h hb0
  go_enter Tryd.func14, Tryd.ntmps14
  go_wp2_with fail
  refine (Q.out _).mono ?_
  rintro e w1 ⟨rfl, rfl⟩
  go_wp2_with fail
  go_ret
  exact ⟨rfl, HB.out _⟩

/-- A variable of the law's own that holds a program out. -/
def PoAt (W : World) (b : Nat) (u : Value) (c : Int) : Prop := W.cell? ⟨b, 0, none⟩ = some u ∧ W.cell? ⟨b, 1, none⟩ = some (.int .i64 c) ∧ W.cell? ⟨b, 2, none⟩ = some (.int .i64 0) ∧ b < W.heap.size
theorem PoAt.new (w : World) (u : Value) (c : Int) (T : TypeId) : PoAt (w.alloc (.cells #[u, .int .i64 c, .int .i64 0] T)) w.heap.size u c :=
  ⟨World.cell?_alloc_at _ _ _ _ rfl, World.cell?_alloc_at _ _ _ _ rfl, World.cell?_alloc_at _ _ _ _ rfl, by simp⟩
theorem PoAt.below {W W' : World} {b : Nat} {u : Value} {c : Int} (h : PoAt W b u c) (hb : Below W.heap.size W W') : PoAt W' b u c :=
  ⟨(hb.cell h.2.2.2).trans h.1, (hb.cell h.2.2.2).trans h.2.1, (hb.cell h.2.2.2).trans h.2.2.1, Nat.lt_of_lt_of_le h.2.2.2 hb.size⟩
theorem PoAt.alloc {W : World} {b : Nat} {u : Value} {c : Int} (h : PoAt W b u c) (o : Obj) : PoAt (W.alloc o) b u c := h.below ((Below.refl _ _).alloc (Nat.le_refl _) _)
theorem PoAt.grown {W W' : World} {b : Nat} {u : Value} {c : Int} {row : Option Nat} (h : PoAt W b u c) (hg : W.grownBy W' row) (hne : row ≠ some b) : PoAt W' b u c := by
  have e : ∀ i, W'.cell? ⟨b, i, none⟩ = W.cell? ⟨b, i, none⟩ := fun i => World.cell?_of_block (hg.block b h.2.2.2 fun e => hne e.symm)
  exact ⟨(e _).trans h.1, (e _).trans h.2.1, (e _).trans h.2.2.1, Nat.lt_of_lt_of_le h.2.2.2 hg.size⟩

end Go.Proofs.YtibbcafhchoiiaaDoor
