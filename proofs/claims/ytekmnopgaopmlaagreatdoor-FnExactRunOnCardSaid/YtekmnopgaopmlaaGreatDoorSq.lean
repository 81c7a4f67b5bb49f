/- Slices that came in or were made, read as lists of cells; the machine's words in one. -/
import Derived.Test.YtekmnopgaopmlaaGreatDoorIa
import Derived.Deep.Slices
import Derived.Lib.SmallJoins
set_option maxRecDepth 100000
namespace Go.Proofs.YtekmnopgaopmlaaGreatDoor
open Go.RowKit Go.ChangeShapes Go.WideShapes

/-- A slice that reads as these cells; its block lies below B. -/
def SlAt (w : World) (B : Nat) (v : Value) (n : Nat) (cs : List Value) : Prop :=
  ∃ a cap, v = .slice a n cap ∧ n ≤ cap ∧ cap ≤ maxLen ∧ (0 < n → ∃ b o, a = some ⟨b, o, none⟩ ∧ b < B ∧ ∀ i c, cs[i]? = some c → w.cell? ⟨b, o + i, none⟩ = some c)

theorem SlAt.keep {w w' : World} {B : Nat} {v : Value} {n : Nat} {cs : List Value} (h : SlAt w B v n cs) (hk : ∀ p : Addr, p.block < B → w'.cell? p = w.cell? p) : SlAt w' B v n cs := by
  obtain ⟨a, cap, hv, h1, h2, h3⟩ := h
  refine ⟨a, cap, hv, h1, h2, fun h0 => ?_⟩
  obtain ⟨b, o, e, hb, hc⟩ := h3 h0
  exact ⟨b, o, e, hb, fun i c hi => (hk _ hb).trans (hc i c hi)⟩
theorem SlAt.below {w w' : World} {B : Nat} {v : Value} {n : Nat} {cs : List Value} (h : SlAt w B v n cs) (hb : Below B w w') : SlAt w' B v n cs := h.keep fun _ hp => hb.cell hp
theorem SlAt.up {w : World} {B B' : Nat} {v : Value} {n : Nat} {cs : List Value} (h : SlAt w B v n cs) (hB : B ≤ B') : SlAt w B' v n cs := by
  obtain ⟨a, cap, hv, h1, h2, h3⟩ := h
  refine ⟨a, cap, hv, h1, h2, fun h0 => ?_⟩
  obtain ⟨b, o, e, hb, hc⟩ := h3 h0
  exact ⟨b, o, e, by omega, hc⟩
theorem add_at (b o i : Nat) : (⟨b, o, none⟩ : Addr).add i = ⟨b, o + i, none⟩ := by unfold Addr.add; split <;> simp_all
theorem SlAt.of_own {w : World} {base : Nat} {e : TypeId} {size : Nat} {v : Value} {n : Nat} {cs : List Value} (h : w.ownsRow base e size v n cs) : SlAt w w.heap.size v n cs := by
  have hc := fun g hg => World.ownsRow.cells h (g := g) hg
  have hl := World.ownsRow.lt h
  rcases h.2 with ⟨rfl, rfl⟩ | ⟨g, cap, cur, rfl, _, _, h1, h2, _, _⟩
  · exact ⟨none, 0, rfl, by omega, by unfold maxLen; omega, fun h0 => by omega⟩
  · exact ⟨_, cap, rfl, h1, h2, fun _ => ⟨g, 0, rfl, (hl g rfl).2, fun i c hi => by rw [← add_at]; exact hc g rfl i c hi⟩⟩

/-- The cells of words. -/
def insCells (x : Ins) : List Value := [.int .i64 x.c, .int .i64 x.y, .int .i64 x.n, .int .i64 x.k]
def progCells : List Ins → List Value
  | [] => []
  | x :: l => .int .i64 x.c :: .int .i64 x.y :: .int .i64 x.n :: .int .i64 x.k :: progCells l
theorem progCells_length : ∀ l : List Ins, (progCells l).length = l.length * 4
  | [] => rfl
  | x :: l => by simp only [progCells, List.length_cons, progCells_length l]; omega
theorem progCells_append : ∀ a b : List Ins, progCells (a ++ b) = progCells a ++ progCells b
  | [], _ => rfl
  | x :: a, b => by simp only [progCells, List.cons_append, progCells_append a b]
theorem progCells_at : ∀ (l : List Ins) (i : Nat) (x : Ins), l[i]? = some x →
    (progCells l)[i * 4]? = some (.int .i64 x.c) ∧ (progCells l)[i * 4 + 1]? = some (.int .i64 x.y) ∧ (progCells l)[i * 4 + 2]? = some (.int .i64 x.n) ∧ (progCells l)[i * 4 + 3]? = some (.int .i64 x.k)
  | [], _, _, h => by simp at h
  | a :: l, 0, x, h => by
    obtain rfl : a = x := by simpa using h
    exact ⟨rfl, rfl, rfl, rfl⟩
  | a :: l, i + 1, x, h => by
    have h' := progCells_at l i x (by simpa using h)
    have e : (i + 1) * 4 = i * 4 + 1 + 1 + 1 + 1 := by omega
    rw [e]
    simpa only [progCells, List.getElem?_cons_succ, Nat.add_right_comm _ _ 1] using h'

/-- A slice of words, of numbers that fit. -/
def InsAt (w : World) (B : Nat) (v : Value) (l : List Ins) : Prop := SlAt w B v l.length (progCells l) ∧ ∀ x ∈ l, x.wf
theorem InsAt.below {w w' : World} {B : Nat} {v : Value} {l : List Ins} (h : InsAt w B v l) (hb : Below B w w') : InsAt w' B v l := ⟨h.1.below hb, h.2⟩
theorem InsAt.up {w : World} {B B' : Nat} {v : Value} {l : List Ins} (h : InsAt w B v l) (hB : B ≤ B') : InsAt w B' v l := ⟨h.1.up hB, h.2⟩
/-- What a walk needs of it. -/
theorem InsAt.parts {w : World} {B : Nat} {v : Value} {l : List Ins} (h : InsAt w B v l) : ∃ a cap, v = .slice a l.length cap ∧ l.length ≤ cap ∧ cap ≤ maxLen ∧
    ∀ i x, l[i]? = some x → ∃ b o, a = some ⟨b, o, none⟩ ∧ b < B ∧ w.cell? ⟨b, o + i * 4, none⟩ = some (.int .i64 x.c) ∧ w.cell? ⟨b, o + i * 4 + 1, none⟩ = some (.int .i64 x.y) ∧
      w.cell? ⟨b, o + i * 4 + 2, none⟩ = some (.int .i64 x.n) ∧ w.cell? ⟨b, o + i * 4 + 3, none⟩ = some (.int .i64 x.k) ∧ x.wf := by
  obtain ⟨⟨a, cap, hv, h1, h2, h3⟩, hwf⟩ := h
  refine ⟨a, cap, hv, h1, h2, fun i x hi => ?_⟩
  have hlt : i < l.length := (List.getElem?_eq_some_iff.1 hi).1
  obtain ⟨b, o, e, hb, hc⟩ := h3 (by omega)
  obtain ⟨k0, k1, k2, k3⟩ := progCells_at l i x hi
  exact ⟨b, o, e, hb, hc _ _ k0, by have := hc _ _ k1; rwa [← Nat.add_assoc] at this, by have := hc _ _ k2; rwa [← Nat.add_assoc] at this, by have := hc _ _ k3; rwa [← Nat.add_assoc] at this, hwf x (List.mem_of_getElem? hi)⟩

theorem InsAt.at_ {w : World} {B : Nat} {a : Option Addr} {n cap : Nat} {l : List Ins} (h : InsAt w B (.slice a n cap) l) {i : Nat} {x : Ins} (hi : l[i]? = some x) : ∃ b o, a = some ⟨b, o, none⟩ ∧ b < B ∧
      w.cell? ⟨b, o + i * 4, none⟩ = some (.int .i64 x.c) ∧ w.cell? ⟨b, o + i * 4 + 1, none⟩ = some (.int .i64 x.y) ∧
      w.cell? ⟨b, o + i * 4 + 2, none⟩ = some (.int .i64 x.n) ∧ w.cell? ⟨b, o + i * 4 + 3, none⟩ = some (.int .i64 x.k) ∧ x.wf := by
  obtain ⟨a', cap', e, _, _, hat⟩ := h.parts
  simp only [Value.slice.injEq] at e
  obtain ⟨rfl, rfl, rfl⟩ := e
  exact hat i x hi
theorem InsAt.len {w : World} {B : Nat} {v : Value} {l : List Ins} (h : InsAt w B v l) : ∃ a cap, v = .slice a l.length cap ∧ l.length ≤ cap ∧ cap ≤ maxLen := by
  obtain ⟨a, cap, e, h1, h2, _⟩ := h.parts
  exact ⟨a, cap, e, h1, h2⟩

def IsInsn (_ : World) (v : Value) : Prop := ∃ x : Ins, v = .agg #[.int .i64 x.c, .int .i64 x.y, .int .i64 x.n, .int .i64 x.k] ∧ x.wf
def IsInsns (w : World) (v : Value) : Prop := ∃ l : List Ins, InsAt w w.heap.size v l

theorem in64_of {n : Int} (h : (Lit.int .i64 n).wf = true) : In64 n := by
  simp [Lit.wf, IntKind.min, IntKind.max, IntKind.bits, IntKind.signed] at h
  unfold In64; omega

section
variable {H : Type} {enc : TypeId × Value → H} {W : World} {base : Nat} {v : Value} {d : DataW H} {p : List MemPlace}
theorem open_isInsn (hv : Value.okWide Tryz.prog W .any base 97 v) (h : DataW.Trod enc Tryz.prog W 0 (fun _ => true) true 97 v d p) : IsInsn W v := by
  obtain ⟨v0, v1, v2, v3, y0, y1, y2, y3, n, rfl, _, _, h0, h1, h2, h3⟩ := Joins.open_agg4 Tryz.underlying97 (by kernel_rfl) (by kernel_rfl) hv h
  obtain ⟨c0, e0, _, w0⟩ := DataW.trod_int Tryz.underlying2 h0
  obtain ⟨c1, e1, _, w1⟩ := DataW.trod_int Tryz.underlying2 h1
  obtain ⟨c2, e2, _, w2⟩ := DataW.trod_int Tryz.underlying2 h2
  obtain ⟨c3, e3, _, w3⟩ := DataW.trod_int Tryz.underlying2 h3
  obtain ⟨rfl⟩ : v0 = .int .i64 c0 := by simpa using e0
  obtain ⟨rfl⟩ : v1 = .int .i64 c1 := by simpa using e1
  obtain ⟨rfl⟩ : v2 = .int .i64 c2 := by simpa using e2
  obtain ⟨rfl⟩ : v3 = .int .i64 c3 := by simpa using e3
  exact ⟨⟨c0, c1, c2, c3⟩, rfl, in64_of w0, in64_of w1, in64_of w2, in64_of w3⟩

theorem pick_list {α : Type} {P : Nat → α → Prop} : ∀ n : Nat, (∀ i, i < n → ∃ x, P i x) → ∃ l : List α, l.length = n ∧ ∀ i x, l[i]? = some x → P i x
  | 0, _ => ⟨[], rfl, fun i x h => by simp at h⟩
  | n + 1, h => by
    obtain ⟨l, hl, hp⟩ := pick_list n fun i hi => h i (by omega)
    obtain ⟨x, hx⟩ := h n (by omega)
    refine ⟨l ++ [x], by simp [hl], fun i y hy => ?_⟩
    rcases Nat.lt_or_ge i l.length with hi | hi
    · rw [List.getElem?_append_left hi] at hy; exact hp i y hy
    · have hlt := (List.getElem?_eq_some_iff.1 hy).1
      simp at hlt
      obtain rfl : i = n := by omega
      rw [List.getElem?_append_right hi, hl] at hy
      simp at hy
      exact hy ▸ hx

/-- A cell that is there says where it is. -/
theorem at_cell {w : World} {a : Addr} {i : Nat} {c : Value} (h : w.cell? (a.add i) = some c) (h0 : w.cell? a ≠ none) : ∃ b o, a = ⟨b, o, none⟩ ∧ b < w.heap.size := by
  obtain ⟨b, o, s⟩ := a
  cases s with
  | some s => exfalso; apply h0; simp [World.cell?]; split <;> simp
  | none =>
    refine ⟨b, o, rfl, ?_⟩
    rcases Nat.lt_or_ge b w.heap.size with hlt | hge
    · exact hlt
    · exfalso; apply h0; simp [World.cell?, Array.getElem?_eq_none hge]

theorem open_isInsns (hv : Value.okWide Tryz.prog W .any base 48 v) (h : DataW.Trod enc Tryz.prog W 0 (fun _ => true) true 48 v d p) : IsInsns W v := by
  obtain ⟨a0, len0, cap0, rfl⟩ := okWide_slice Tryz.underlying48 hv
  obtain ⟨fuel, hf⟩ := h
  have hC : Tryz.prog.cellsOf 97 = 4 := by kernel_rfl
  have hC1 : Tryz.prog.cellsOf 2 = 1 := by kernel_rfl
  rcases Deep.open_slice Tryz.underlying48 hf with ⟨hcs, _⟩ | ⟨a, len, cap, m, n, D, Pl, hcs, _, hl, hm, hmm, _, hi⟩
  · simp [Value.cells] at hcs
    obtain ⟨rfl, rfl, rfl⟩ := hcs
    exact ⟨[], ⟨none, 0, rfl, by simp, by unfold maxLen; omega, fun h0 => by simp at h0⟩, fun x hx => by simp at hx⟩
  · simp [Value.cells] at hcs
    obtain ⟨rfl, rfl, rfl⟩ := hcs
    simp only [if_true] at hmm
    subst hmm
    rw [hC] at hi
    have hone : ∀ i, i < len0 → ∃ x : Ins, W.cell? (a.add (i * 4)) = some (.int .i64 x.c) ∧ W.cell? ((a.add (i * 4)).add 1) = some (.int .i64 x.y) ∧ W.cell? ((a.add (i * 4)).add 2) = some (.int .i64 x.n) ∧ W.cell? ((a.add (i * 4)).add 3) = some (.int .i64 x.k) ∧ x.wf := by
      intro i hlt
      obtain ⟨cs', hc, ht'⟩ := hi i (by omega)
      obtain ⟨_, hcl, hat⟩ := World.cells?_some hc
      obtain ⟨xs, n', _, _, _, hxl, hfs⟩ := DataW.trod_struct Tryz.underlying97 ht'
      match cs', hcl with
      | [k0, k1, k2, k3], _ =>
        match xs, hxl with
        | [y0, y1, y2, y3], _ =>
          have f0 : DataW.trod enc Tryz.prog W 0 (fun _ => true) true n' 2 (([k0, k1, k2, k3].drop 0).take (Tryz.prog.cellsOf 2)) = some y0 := hfs 0 _ rfl
          have f1 : DataW.trod enc Tryz.prog W 0 (fun _ => true) true n' 2 (([k0, k1, k2, k3].drop 1).take (Tryz.prog.cellsOf 2)) = some y1 := hfs 1 _ rfl
          have f2 : DataW.trod enc Tryz.prog W 0 (fun _ => true) true n' 2 (([k0, k1, k2, k3].drop 2).take (Tryz.prog.cellsOf 2)) = some y2 := hfs 2 _ rfl
          have f3 : DataW.trod enc Tryz.prog W 0 (fun _ => true) true n' 2 (([k0, k1, k2, k3].drop 3).take (Tryz.prog.cellsOf 2)) = some y3 := hfs 3 _ rfl
          rw [hC1] at f0 f1 f2 f3
          obtain ⟨c0, e0, _, w0⟩ := DataW.trod_int Tryz.underlying2 f0
          obtain ⟨c1, e1, _, w1⟩ := DataW.trod_int Tryz.underlying2 f1
          obtain ⟨c2, e2, _, w2⟩ := DataW.trod_int Tryz.underlying2 f2
          obtain ⟨c3, e3, _, w3⟩ := DataW.trod_int Tryz.underlying2 f3
          have g0 := hat 0 (by omega)
          have g1 := hat 1 (by omega)
          have g2 := hat 2 (by omega)
          have g3 := hat 3 (by omega)
          simp at e0 e1 e2 e3 g0 g1 g2 g3
          subst e0 e1 e2 e3
          refine ⟨⟨c0, c1, c2, c3⟩, ?_, g1, g2, g3, in64_of w0, in64_of w1, in64_of w2, in64_of w3⟩
          simpa [Addr.add] using g0
    obtain ⟨l, hl', hp⟩ := pick_list len0 hone
    refine ⟨l, ⟨some a, m, by rw [hl'], by omega, hm, fun h0 => ?_⟩, fun x hx => ?_⟩
    · have h00 := hp 0 (l[0]'h0) (List.getElem?_eq_getElem h0)
      obtain ⟨b, o, rfl, hb⟩ := at_cell (i := 1) (by simpa [Addr.add] using h00.2.1) (by have := h00.1; simp [Addr.add] at this; simp [this])
      refine ⟨b, o, rfl, hb, fun i c hi => ?_⟩
      have hlen := (List.getElem?_eq_some_iff.1 hi).1
      rw [progCells_length] at hlen
      have hx := hp (i / 4) (l[i / 4]'(by omega)) (List.getElem?_eq_getElem (by omega))
      have hg := progCells_at l (i / 4) (l[i / 4]'(by omega)) (List.getElem?_eq_getElem (by omega))
      simp only [add_at] at hx
      generalize l[i / 4]'(by omega) = x at hx hg
      obtain ⟨q, r, hr, e⟩ : ∃ q r, r < 4 ∧ i = q * 4 + r := ⟨i / 4, i % 4, by omega, by omega⟩
      have hq : i / 4 = q := by omega
      rw [hq] at hx hg
      subst e
      rcases (by omega : r = 0 ∨ r = 1 ∨ r = 2 ∨ r = 3) with rfl | rfl | rfl | rfl
      · rw [Nat.add_zero] at hi ⊢; rw [hg.1] at hi; rw [← Option.some.inj hi]; exact hx.1
      · rw [hg.2.1] at hi; rw [← Option.some.inj hi]; simpa [Nat.add_assoc] using hx.2.1
      · rw [hg.2.2.1] at hi; rw [← Option.some.inj hi]; simpa [Nat.add_assoc] using hx.2.2.1
      · rw [hg.2.2.2] at hi; rw [← Option.some.inj hi]; simpa [Nat.add_assoc] using hx.2.2.2.1
    · obtain ⟨i, hi, rfl⟩ := List.getElem_of_mem hx
      exact (hp i _ (List.getElem?_eq_getElem hi)).2.2.2.2
end

end Go.Proofs.YtekmnopgaopmlaaGreatDoor
