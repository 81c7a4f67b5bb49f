/- Slices that came in or were made, read as lists of cells; the machine's words in one. -/
import Derived.Test.YtmnmaijifhojiaaIa
import Derived.Deep.Slices
import Derived.Lib.SmallJoins
set_option maxRecDepth 100000
namespace Go.Proofs.Ytmnmaijifhojiaa
open Go.RowKit Go.ChangeShapes Go.WideShapes

/-- A slice that reads as these cells; its block lies below B. -/
def SlAt (w : World) (B : Nat) (v : Value) (n : Nat) (cs : List Value) : Prop :=
  ∃ a cap, v = .slice a n cap ∧ n ≤ cap ∧ cap ≤ maxLen ∧ (0 < n → ∃ b o, a = some ⟨b, o, none⟩ ∧ b < B ∧ ∀ i c, cs[i]? = some c → w.cell? ⟨b, o + i, none⟩ = some c)

theorem SlAt.keep {w w' : World} {B : Nat} {v : Value} {n : Nat} {cs : List Value} (h : SlAt w B v n cs) (hk : ∀ p : Addr, p.block < B → w'.cell? p = w.cell? p) : SlAt w' B v n cs := by
  obtain ⟨a, cap, hv, h1, h2, h3⟩ := h
  refine ⟨a, cap, hv, h1, h2, fun h0 => ?_⟩
  obtain ⟨b, o, e, hb, hc⟩ := h3 h0
  exact ⟨b, o, e, hb, fun i c hi => (hk _ hb).trans (hc i c hi)⟩
theorem SlAt.below {w w' : World} {B : Nat} {v : Value} {n : Nat} {cs : List Value} (h : SlAt w B v n cs) (hb : Below B w w') : SlAt w' B v n cs := h.keep fun _ hp => hb.cell hp
theorem SlAt.up {w : World} {B B' : Nat} {v : Value} {n : Nat} {cs : List Value} (h : SlAt w B v n cs) (hB : B ≤ B') : SlAt w B' v n cs := by
  obtain ⟨a, cap, hv, h1, h2, h3⟩ := h
  refine ⟨a, cap, hv, h1, h2, fun h0 => ?_⟩
  obtain ⟨b, o, e, hb, hc⟩ := h3 h0
  exact ⟨b, o, e, by omega, hc⟩
theorem add_at (b o i : Nat) : (⟨b, o, none⟩ : Addr).add i = ⟨b, o + i, none⟩ := by unfold Addr.add; split <;> simp_all
theorem SlAt.of_own {w : World} {base : Nat} {e : TypeId} {size : Nat} {v : Value} {n : Nat} {cs : List Value} (h : w.ownsRow base e size v n cs) : SlAt w w.heap.size v n cs := by
  have hc := fun g hg => World.ownsRow.cells h (g := g) hg
  have hl := World.ownsRow.lt h
  rcases h.2 with ⟨rfl, rfl⟩ | ⟨g, cap, cur, rfl, _, _, h1, h2, _, _⟩
  · exact ⟨none, 0, rfl, by omega, by unfold maxLen; omega, fun h0 => by omega⟩
  · exact ⟨_, cap, rfl, h1, h2, fun _ => ⟨g, 0, rfl, (hl g rfl).2, fun i c hi => by rw [← add_at]; exact hc g rfl i c hi⟩⟩

/-- The cells of words. -/
def insCells (x : Ins) : List Value := [.int .i64 x.c, .int .i64 x.y, .int .i64 x.n, .int .i64 x.k]
def progCells : List Ins → List Value
  | [] => []
  | x :: l => .int .i64 x.c :: .int .i64 x.y :: .int .i64 x.n :: .int .i64 x.k :: progCells l
theorem progCells_length : ∀ l : List Ins, (progCells l).length = l.length * 4
  | [] => rfl
  | x :: l => by simp only [progCells, List.length_cons, progCells_length l]; omega
theorem progCells_append : ∀ a b : List Ins, progCells (a ++ b) = progCells a ++ progCells b
  | [], _ => rfl
  | x :: a, b => by simp only [progCells, List.cons_append, progCells_append a b]
theorem progCells_at : ∀ (l : List Ins) (i : Nat) (x : Ins), l[i]? = some x →
    (progCells l)[i * 4]? = some (.int .i64 x.c) ∧ (progCells l)[i * 4 + 1]? = some (.int .i64 x.y) ∧ (progCells l)[i * 4 + 2]? = some (.int .i64 x.n) ∧ (progCells l)[i * 4 + 3]? = some (.int .i64 x.k)
  | [], _, _, h => by simp at h
  | a :: l, 0, x, h => by
    obtain rfl : a = x := by simpa using h
    exact ⟨rfl, rfl, rfl, rfl⟩
  | a :: l, i + 1, x, h => by
    have h' := progCells_at l i x (by simpa using h)
    have e : (i + 1) * 4 = i * 4 + 1 + 1 + 1 + 1 := by omega
    rw [e]
    simpa only [progCells, List.getElem?_cons_succ, Nat.add_right_comm _ _ 1] using h'

/-- A slice of words, of numbers that fit. -/
def InsAt (w : World) (B : Nat) (v : Value) (l : List Ins) : Prop := SlAt w B v l.length (progCells l) ∧ ∀ x ∈ l, x.wf
theorem InsAt.below {w w' : World} {B : Nat} {v : Value} {l : List Ins} (h : InsAt w B v l) (hb : Below B w w') : InsAt w' B v l := ⟨h.1.below hb, h.2⟩
theorem InsAt.up {w : World} {B B' : Nat} {v : Value} {l : List Ins} (h : InsAt w B v l) (hB : B ≤ B') : InsAt w B' v l := ⟨h.1.up hB, h.2⟩
/-- What a walk needs of it. -/
theorem InsAt.parts {w : World} {B : Nat} {v : Value} {l : List Ins} (h : InsAt w B v l) : ∃ a cap, v = .slice a l.length cap ∧ l.length ≤ cap ∧ cap ≤ maxLen ∧
    ∀ i x, l[i]? = some x → ∃ b o, a = some ⟨b, o, none⟩ ∧ b < B ∧ w.cell? ⟨b, o + i * 4, none⟩ = some (.int .i64 x.c) ∧ w.cell? ⟨b, o + i * 4 + 1, none⟩ = some (.int .i64 x.y) ∧
      w.cell? ⟨b, o + i * 4 + 2, none⟩ = some (.int .i64 x.n) ∧ w.cell? ⟨b, o + i * 4 + 3, none⟩ = some (.int .i64 x.k) ∧ x.wf := by
  obtain ⟨⟨a, cap, hv, h1, h2, h3⟩, hwf⟩ := h
  refine ⟨a, cap, hv, h1, h2, fun i x hi => ?_⟩
  have hlt : i < l.length := (List.getElem?_eq_some_iff.1 hi).1
  obtain ⟨b, o, e, hb, hc⟩ := h3 (by omega)
  obtain ⟨k0, k1, k2, k3⟩ := progCells_at l i x hi
  exact ⟨b, o, e, hb, hc _ _ k0, by have := hc _ _ k1; rwa [← Nat.add_assoc] at this, by have := hc _ _ k2; rwa [← Nat.add_assoc] at this, by have := hc _ _ k3; rwa [← Nat.add_assoc] at this, hwf x (List.mem_of_getElem? hi)⟩

theorem InsAt.at_ {w : World} {B : Nat} {a : Option Addr} {n cap : Nat} {l : List Ins} (h : InsAt w B (.slice a n cap) l) {i : Nat} {x : Ins} (hi : l[i]? = some x) : ∃ b o, a = some ⟨b, o, none⟩ ∧ b < B ∧
      w.cell? ⟨b, o + i * 4, none⟩ = some (.int .i64 x.c) ∧ w.cell? ⟨b, o + i * 4 + 1, none⟩ = some (.int .i64 x.y) ∧
      w.cell? ⟨b, o + i * 4 + 2, none⟩ = some (.int .i64 x.n) ∧ w.cell? ⟨b, o + i * 4 + 3, none⟩ = some (.int .i64 x.k) ∧ x.wf := by
  obtain ⟨a', cap', e, _, _, hat⟩ := h.parts
  simp only [Value.slice.injEq] at e
  obtain ⟨rfl, rfl, rfl⟩ := e
  exact hat i x hi
theorem InsAt.len {w : World} {B : Nat} {v : Value} {l : List Ins} (h : InsAt w B v l) : ∃ a cap, v = .slice a l.length cap ∧ l.length ≤ cap ∧ cap ≤ maxLen := by
  obtain ⟨a, cap, e, h1, h2, _⟩ := h.parts
  exact ⟨a, cap, e, h1, h2⟩

def IsInsn (_ : World) (v : Value) : Prop := ∃ x : Ins, v = .agg #[.int .i64 x.c, .int .i64 x.y, .int .i64 x.n, .int .i64 x.k] ∧ x.wf
def IsInsns (w : World) (v : Value) : Prop := ∃ l : List Ins, InsAt w w.heap.size v l

theorem in64_of {n : Int} (h : (Lit.int .i64 n).wf = true) : In64 n := by
  simp [Lit.wf, IntKind.min, IntKind.max, IntKind.bits, IntKind.signed] at h
  unfold In64; omega

theorem pick_list {α : Type} {P : Nat → α → Prop} : ∀ n : Nat, (∀ i, i < n → ∃ x, P i x) → ∃ l : List α, l.length = n ∧ ∀ i x, l[i]? = some x → P i x
  | 0, _ => ⟨[], rfl, fun i x h => by simp at h⟩
  | n + 1, h => by
    obtain ⟨l, hl, hp⟩ := pick_list n fun i hi => h i (by omega)
    obtain ⟨x, hx⟩ := h n (by omega)
    refine ⟨l ++ [x], by simp [hl], fun i y hy => ?_⟩
    rcases Nat.lt_or_ge i l.length with hi | hi
    · rw [List.getElem?_append_left hi] at hy; exact hp i y hy
    · have hlt := (List.getElem?_eq_some_iff.1 hy).1
      simp at hlt
      obtain rfl : i = n := by omega
      rw [List.getElem?_append_right hi, hl] at hy
      simp at hy
      exact hy ▸ hx

/-- A cell that is there says where it is. -/
theorem at_cell {w : World} {a : Addr} {i : Nat} {c : Value} (h : w.cell? (a.add i) = some c) (h0 : w.cell? a ≠ none) : ∃ b o, a = ⟨b, o, none⟩ ∧ b < w.heap.size := by
  obtain ⟨b, o, s⟩ := a
  cases s with
  | some s => exfalso; apply h0; simp [World.cell?]; split <;> simp
  | none =>
    refine ⟨b, o, rfl, ?_⟩
    rcases Nat.lt_or_ge b w.heap.size with hlt | hge
    · exact hlt
    · exfalso; apply h0; simp [World.cell?, Array.getElem?_eq_none hge]

end Go.Proofs.Ytmnmaijifhojiaa
