/- Byte rows that grow: what an append lets be (blocks but the row's own), one byte and two at a time. -/
import Derived.Test.YtmnmaijifhojiaaTs
import Derived.Maps.AppendAt
set_option maxRecDepth 100000
namespace Go.Proofs.Ytmnmaijifhojiaa
open Go.RowKit

/-- From w and the row v to w' and the row v': only v's block has turned; v' lies there or in a new block. -/
def GrB (w w' : World) (v v' : Value) : Prop := w.grownBy w' v.ownBlock ∧ (v'.ownBlock = v.ownBlock ∨ ∀ g, v'.ownBlock = some g → w.heap.size ≤ g)
theorem GrB.refl (w : World) (v : Value) : GrB w w v v := ⟨World.grownBy.refl _ _, .inl rfl⟩
theorem GrB.trans {w w1 w2 : World} {v v1 v2 : Value} (h : GrB w w1 v v1) (k : GrB w1 w2 v1 v2) : GrB w w2 v v2 := by
  refine ⟨⟨k.1.os.trans h.1.os, k.1.tape.trans h.1.tape, k.1.output.trans h.1.output, Nat.le_trans h.1.size k.1.size, fun b hb hne => ?_⟩, ?_⟩
  · refine (k.1.block b (Nat.lt_of_lt_of_le hb h.1.size) fun e => ?_).trans (h.1.block b hb hne)
    rcases h.2 with h2 | h2
    · exact hne (e.trans h2)
    · have := h2 b e.symm; omega
  · rcases k.2 with k2 | k2
    · rcases h.2 with h2 | h2
      · exact .inl (k2.trans h2)
      · exact .inr fun g hg => h2 g (k2.symm.trans hg)
    · exact .inr fun g hg => Nat.le_trans h.1.size (k2 g hg)
theorem GrB.below {base : Nat} {w0 w w' : World} {v v' : Value} (hb : Below base w0 w) (h : GrB w w' v v') (hB : base ≤ w.heap.size) (hv : ∀ k, v.ownBlock = some k → base ≤ k) : Below base w0 w' := hb.grown h.1 hB hv
theorem GrB.alloc {w w' : World} {v v' : Value} {o : Obj} (h : GrB (w.alloc o) w' v v') : GrB w w' v v' := by
  refine ⟨⟨h.1.os, h.1.tape, h.1.output, Nat.le_trans (by simp) h.1.size, fun k hk hne => (h.1.block k (by simp; omega) hne).trans (Below.heap_alloc w o k hk)⟩, ?_⟩
  rcases h.2 with h2 | h2
  · exact .inl h2
  · exact .inr fun g hg => Nat.le_trans (by simp) (h2 g hg)
theorem GrB.cell {w w' : World} {v v' : Value} (h : GrB w w' v v') {p : Addr} (hp : p.block < w.heap.size) (hne : v.ownBlock ≠ some p.block) : w'.cell? p = w.cell? p :=
  World.cell?_of_block (h.1.block p.block hp fun e => hne e.symm)

theorem own_only {w W : World} {g : Nat} (h : w.grownBy W (some g)) (i : Nat) (v : Value) : w.grownBy (W.setCell ⟨g, i, none⟩ v) (some g) :=
  ⟨h.os, h.tape, h.output, by simpa [World.setCell] using h.size, fun k hk hne => (Below.heap_setCell W ⟨g, i, none⟩ v k (fun e => hne (by rw [e]))).trans (h.block k hk hne)⟩

theorem grown_alloc {w w' : World} {o : Obj} {row : Option Nat} (h : (w.alloc o).grownBy w' row) : w.grownBy w' row :=
  ⟨h.os, h.tape, h.output, Nat.le_trans (by simp) h.size, fun k hk hne => (h.block k (by simp; omega) hne).trans (Below.heap_alloc w o k hk)⟩

theorem byteInts (ns : List Int) (h : ∀ n ∈ ns, 0 ≤ n ∧ n ≤ 255) : byteCells (ns.map fun n => UInt8.ofNat n.toNat) = ns.map (Value.int .u8) := by
  induction ns with
  | nil => rfl
  | cons n ns ih =>
    have hn := h n (by simp)
    have := ih fun m hm => h m (by simp [hm])
    simp only [byteCells, List.map_cons, byte_of_int n hn.1 hn.2] at this ⊢
    rw [this]

/-- 'append(row, b0, b1 ..)': the bytes lie in a block of their own. -/
theorem wpList_push_u8s {ops : Array Oper} {rest : List Oper} {o : Oper} {a : Act} {Q : Exit → Act → World → Prop} (hgd : o.guard = none) (s x : Operand)
    (ho : o.op = .call { callee := .builtin .append, args := #[s, x], argTypes := #[22, 22] }) (wr : World) (cs : Array Value) (ns : List Int) (hcs : cs.toList = ns.map (Value.int .u8)) (m : Nat) (hm : ns.length = m)
    (base : Nat) (v : Value) (bs : List UInt8) (hs : a.eval s = v) (hown : OwnB base wr v bs) (hn : ∀ n ∈ ns, 0 ≤ n ∧ n ≤ 255)
    (hx : a.eval x = .slice (some ⟨wr.heap.size, 0, none⟩) m m) (hlen : bs.length + m ≤ 140737488355328) (hbase : base ≤ wr.heap.size)
    (h : ∀ v' w', OwnB base w' v' (bs ++ ns.map fun n => UInt8.ofNat n.toNat) → GrB wr w' v v' → wpList Try.prog ops Q rest (a.put o.dst v') w') :
    wpList Try.prog ops Q (o :: rest) a (wr.alloc (.cells cs 5)) := by
  obtain ⟨i0, hi, hz0, hz1, hz2⟩ := info_parts info_u8
  refine wpList_append_own_at _ hgd s x 22 ho base 5 i0 (.int .u8 0) 1 1 Try.underlying22 hi hz0 hz1 hz2 rfl (by decide) v bs.length (byteCells bs) hs
    (World.ownsRow.alloc hown _) ⟨wr.heap.size, 0, none⟩ m m (ns.map (Value.int .u8)) hx (by simp [hm]) (fun j u hj => ?_) (by intro u hu; simp at hu; obtain ⟨n, _, rfl⟩ := hu; rfl) (by unfold maxLen; omega) (by omega) (by simp; omega) ?_
  · rw [add_at, Nat.zero_add, World.cell?_alloc_at _ _ _ _ rfl, ← hj, ← hcs]; simp
  intro v' w' hown' hg _ hat
  refine h v' w' ?_ (GrB.alloc ⟨hg, ?_⟩)
  · unfold OwnB
    rw [byteCells_append, byteInts ns hn, List.length_append, List.length_map, hm]
    exact hown'
  · rcases hat with e | e
    · exact .inl e
    · exact .inr fun g hg' => by rw [e] at hg'; injection hg' with hg'; omega

end Go.Proofs.Ytmnmaijifhojiaa
