/- Lists of things of several cells, in slices: whatever the thing. -/
import Derived.Test.YtmnmaijifhojiaaSq
import Derived.Test.YtmnmaijifhojiaaGb
set_option maxRecDepth 100000
namespace Go.Proofs.Ytmnmaijifhojiaa
open Go.RowKit

section
variable {α : Type} {f : α → List Value} {S : Nat}

theorem flat_length (hS : ∀ x, (f x).length = S) : ∀ l : List α, (l.flatMap f).length = l.length * S
  | [] => by simp
  | x :: l => by rw [List.flatMap_cons, List.length_append, hS, flat_length hS l, List.length_cons, Nat.succ_mul]; omega
theorem flat_at (hS : ∀ x, (f x).length = S) : ∀ {l : List α} {i : Nat} {x : α} {j : Nat}, l[i]? = some x → j < S → (l.flatMap f)[i * S + j]? = (f x)[j]?
  | [], _, _, _, h, _ => by simp at h
  | a :: l, 0, x, j, h, hj => by
    obtain rfl : a = x := by simpa using h
    rw [List.flatMap_cons, Nat.zero_mul, Nat.zero_add, List.getElem?_append_left (by rw [hS]; exact hj)]
  | a :: l, i + 1, x, j, h, hj => by
    have h' := flat_at hS (l := l) (i := i) (x := x) (j := j) (by simpa using h) hj
    rw [List.flatMap_cons, List.getElem?_append_right (by rw [hS, Nat.succ_mul]; omega), hS, ← h']
    congr 1
    rw [Nat.succ_mul]; omega

/-- The cells of one thing set anew, one after the other. -/
def setFrom (cs : List Value) (o : Nat) : List Value → List Value
  | [] => cs
  | v :: vs => setFrom (cs.set o v) (o + 1) vs
theorem setFrom_length : ∀ (vs cs : List Value) (o : Nat), (setFrom cs o vs).length = cs.length
  | [], _, _ => rfl
  | v :: vs, cs, o => by rw [setFrom, setFrom_length vs]; simp
theorem setFrom_get : ∀ (vs cs : List Value) (o p : Nat), o + vs.length ≤ cs.length → (setFrom cs o vs)[p]? = if o ≤ p ∧ p < o + vs.length then vs[p - o]? else cs[p]?
  | [], cs, o, p, _ => by rw [setFrom, if_neg (by simp)]
  | v :: vs, cs, o, p, h => by
    simp only [List.length_cons] at h ⊢
    rw [setFrom, setFrom_get vs _ _ _ (by simp; omega)]
    by_cases h1 : o + 1 ≤ p ∧ p < o + 1 + vs.length
    · rw [if_pos h1, if_pos (by omega), show p - o = (p - (o + 1)) + 1 by omega, List.getElem?_cons_succ]
    · rw [if_neg h1]
      by_cases h2 : p = o
      · subst h2
        rw [if_pos (by omega), Nat.sub_self, List.getElem?_set_self (by omega), List.getElem?_cons_zero]
      · rw [if_neg (by omega), List.getElem?_set_ne (by omega)]
theorem flat_set (hS : ∀ x, (f x).length = S) (h0 : 0 < S) {l : List α} {i : Nat} (x : α) (hi : i < l.length) : setFrom (l.flatMap f) (i * S) (f x) = (l.set i x).flatMap f := by
  have hm : i * S + S ≤ l.length * S := by
    rw [← Nat.succ_mul]
    exact Nat.mul_le_mul_right S hi
  apply List.ext_getElem?
  intro p
  rw [setFrom_get _ _ _ _ (by rw [hS, flat_length hS]; exact hm), hS]
  obtain ⟨q, r, hr, rfl⟩ : ∃ q r, r < S ∧ p = q * S + r := ⟨p / S, p % S, Nat.mod_lt _ h0, by rw [Nat.mul_comm]; exact (Nat.div_add_mod p S).symm⟩
  by_cases hq : q = i
  · subst hq
    rw [if_pos (by omega), flat_at hS (x := x) (by simp [hi]) hr]
    congr 1
    omega
  · have hno : ¬ (i * S ≤ q * S + r ∧ q * S + r < i * S + S) := by
      rintro ⟨a, b⟩
      rcases Nat.lt_or_gt_of_ne hq with h | h
      · have : q * S + S ≤ i * S := by rw [← Nat.succ_mul]; exact Nat.mul_le_mul_right S h
        omega
      · have : i * S + S ≤ q * S := by rw [← Nat.succ_mul]; exact Nat.mul_le_mul_right S h
        omega
    rw [if_neg hno]
    by_cases hql : q < l.length
    · rw [flat_at hS (x := l[q]) (List.getElem?_eq_getElem hql) hr, flat_at hS (x := l[q]) (by rw [List.getElem?_set_ne (by omega)]; exact List.getElem?_eq_getElem hql) hr]
    · have : l.length * S ≤ q * S := Nat.mul_le_mul_right S (by omega)
      rw [List.getElem?_eq_none (by rw [flat_length hS]; omega), List.getElem?_eq_none (by rw [flat_length hS, List.length_set]; omega)]

/-- A slice of such things, each of which is as 'wf' says. -/
def LAt (f : α → List Value) (S : Nat) (wf : α → Prop) (w : World) (B : Nat) (v : Value) (l : List α) : Prop := (∀ x, (f x).length = S) ∧ SlAt w B v l.length (l.flatMap f) ∧ ∀ x ∈ l, wf x
variable {wf : α → Prop}
theorem LAt.below {w w' : World} {B : Nat} {v : Value} {l : List α} (h : LAt f S wf w B v l) (hb : Below B w w') : LAt f S wf w' B v l := ⟨h.1, h.2.1.below hb, h.2.2⟩
theorem LAt.up {w : World} {B B' : Nat} {v : Value} {l : List α} (h : LAt f S wf w B v l) (hB : B ≤ B') : LAt f S wf w B' v l := ⟨h.1, h.2.1.up hB, h.2.2⟩
theorem LAt.len {w : World} {B : Nat} {v : Value} {l : List α} (h : LAt f S wf w B v l) : ∃ a cap, v = .slice a l.length cap ∧ l.length ≤ cap ∧ cap ≤ maxLen := by
  obtain ⟨a, cap, e, h1, h2, _⟩ := h.2.1
  exact ⟨a, cap, e, h1, h2⟩
theorem LAt.at_ {w : World} {B : Nat} {a : Option Addr} {n cap : Nat} {l : List α} (h : LAt f S wf w B (.slice a n cap) l) {i : Nat} {x : α} (hi : l[i]? = some x) :
    ∃ b o, a = some ⟨b, o, none⟩ ∧ b < B ∧ (∀ j v, (f x)[j]? = some v → w.cell? ⟨b, o + i * S + j, none⟩ = some v) ∧ wf x := by
  obtain ⟨hS, ⟨a', cap', e, _, _, h3⟩, hwf⟩ := h
  simp only [Value.slice.injEq] at e
  obtain ⟨rfl, rfl, rfl⟩ := e
  have hlt : i < l.length := (List.getElem?_eq_some_iff.1 hi).1
  obtain ⟨b, o, e, hb, hc⟩ := h3 (by omega)
  refine ⟨b, o, e, hb, fun j v hv => ?_, hwf x (List.mem_of_getElem? hi)⟩
  have hj : j < S := by rw [← hS x]; exact (List.getElem?_eq_some_iff.1 hv).1
  have := hc (i * S + j) v (by rw [flat_at hS hi hj]; exact hv)
  rwa [← Nat.add_assoc] at this

/-- A list of such things that the call made. -/
def OwnL (E : TypeId) (S : Nat) (f : α → List Value) (base : Nat) (w : World) (v : Value) (l : List α) : Prop := w.ownsRow base E S v l.length (l.flatMap f)
variable {E : TypeId}
theorem OwnL.nil (base : Nat) (w : World) : OwnL E S f base w (.slice none 0 0) [] := World.ownsRow_nil _ _ _ _
theorem OwnL.lt {base : Nat} {w : World} {v : Value} {l : List α} (h : OwnL E S f base w v l) : ∀ k, v.ownBlock = some k → base ≤ k ∧ k < w.heap.size := World.ownsRow.lt h
theorem OwnL.alloc {base : Nat} {w : World} {v : Value} {l : List α} (h : OwnL E S f base w v l) (o : Obj) : OwnL E S f base (w.alloc o) v l := World.ownsRow.alloc h o
theorem OwnL.below {base : Nat} {w w' : World} {v : Value} {l : List α} (h : OwnL E S f base w v l) (hb : Below w.heap.size w w') : OwnL E S f base w' v l := own_below h hb
theorem OwnL.setBelow {base : Nat} {w : World} {v : Value} {l : List α} (h : OwnL E S f base w v l) {a : Addr} (ha : a.block < base) (u : Value) : OwnL E S f base (w.setCell a u) v l := ownsRow_setCell_below h ha u
theorem OwnL.base {b b' : Nat} {w : World} {v : Value} {l : List α} (h : OwnL E S f b w v l) (hb : b' ≤ b) : OwnL E S f b' w v l := by
  rcases h.2 with ⟨e, hn⟩ | ⟨g, cap, cur, e, hg, r⟩
  · exact ⟨h.1, .inl ⟨e, hn⟩⟩
  · exact ⟨h.1, .inr ⟨g, cap, cur, e, by omega, r⟩⟩
theorem OwnL.slice {base : Nat} {w : World} {v : Value} {l : List α} (h : OwnL E S f base w v l) : ∃ a cap, v = .slice a l.length cap := by
  rcases h.2 with ⟨e, hn⟩ | ⟨g, cap, _, e, _⟩
  · exact ⟨none, 0, by rw [e, hn]⟩
  · exact ⟨_, cap, e⟩
theorem OwnL.more {base : Nat} {w : World} {v : Value} {l : List α} (h : OwnL E S f base w v l) (hl : 0 < l.length) : ∃ g cap, v = .slice (some ⟨g, 0, none⟩) l.length cap ∧ base ≤ g ∧ g < w.heap.size ∧ l.length ≤ cap := by
  have hlt := h.lt
  rcases h.2 with ⟨e, hn⟩ | ⟨g, cap, _, e, hg, _, hc, _⟩
  · omega
  · subst e
    exact ⟨g, cap, rfl, hg, (hlt g rfl).2, hc⟩
theorem OwnL.lAt {base : Nat} {w : World} {v : Value} {l : List α} (hS : ∀ x, (f x).length = S) (h : OwnL E S f base w v l) (hw : ∀ x ∈ l, wf x) : LAt f S wf w w.heap.size v l := ⟨hS, SlAt.of_own h, hw⟩
theorem OwnL.lit {base : Nat} {w : World} {H : Nat} (hb : base ≤ w.heap.size) (hH : H = w.heap.size) : OwnL E S f base (w.alloc (.cells #[] E)) (.slice (some ⟨H, 0, none⟩) 0 0) [] := by
  subst hH
  exact World.ownsRow_lit w #[] 0 hb (by unfold maxLen; omega) (by simp)
/-- One thing's place in such a row: what its cells hold; none is frozen. -/
theorem OwnL.at_ {base : Nat} {w : World} {g n cap : Nat} {l : List α} (hS : ∀ x, (f x).length = S) (h : w.ownsRow base E S (.slice (some ⟨g, 0, none⟩) n cap) n (l.flatMap f)) {i : Nat} {x : α} (hi : l[i]? = some x) :
    (∀ j v, (f x)[j]? = some v → w.cell? ⟨g, i * S + j, none⟩ = some v) ∧ ∀ j, w.frozen? ⟨g, j, none⟩ = false := by
  refine ⟨fun j v hv => ?_, fun j => h.frozenAt j⟩
  have hj : j < S := by rw [← hS x]; exact (List.getElem?_eq_some_iff.1 hv).1
  have hlt : i < l.length := (List.getElem?_eq_some_iff.1 hi).1
  have hl := h.1
  rw [flat_length hS] at hl
  have hm : i * S + S ≤ l.length * S := by rw [← Nat.succ_mul]; exact Nat.mul_le_mul_right S hlt
  rw [h.cellAt _ (by omega), flat_at hS hi hj, hv]

/-- The stores of several values one behind the other. -/
def setRow (w : World) (g o : Nat) : List Value → World
  | [] => w
  | v :: vs => setRow (w.setCell ⟨g, o, none⟩ v) g (o + 1) vs
theorem ownsRow_setRow {base g n cap : Nat} : ∀ (vs : List Value) {w : World} {cs : List Value} (o : Nat), w.ownsRow base E S (.slice (some ⟨g, 0, none⟩) n cap) n cs → (setRow w g o vs).ownsRow base E S (.slice (some ⟨g, 0, none⟩) n cap) n (setFrom cs o vs)
  | [], _, _, _, h => h
  | v :: vs, _, _, o, h => ownsRow_setRow vs (o + 1) (h.stored o v).1
theorem OwnL.set {base : Nat} {w : World} {g n cap : Nat} {l : List α} (hS : ∀ x, (f x).length = S) (h0 : 0 < S) (h : w.ownsRow base E S (.slice (some ⟨g, 0, none⟩) n cap) n (l.flatMap f)) {i : Nat} (hi : i < l.length) (x : α) :
    (setRow w g (i * S) (f x)).ownsRow base E S (.slice (some ⟨g, 0, none⟩) n cap) n ((l.set i x).flatMap f) := by
  rw [← flat_set hS h0 x hi]
  exact ownsRow_setRow _ _ h
theorem setRow_below {B g : Nat} (hg : B ≤ g) : ∀ (vs : List Value) {a w : World} (o : Nat), Below B a w → Below B a (setRow w g o vs)
  | [], _, _, _, h => h
  | v :: vs, _, _, o, h => setRow_below hg vs (o + 1) (h.setCell (p := ⟨g, o, none⟩) hg v)
theorem setRow_only {g : Nat} : ∀ (vs : List Value) {a w : World} (o : Nat), a.grownBy w (some g) → a.grownBy (setRow w g o vs) (some g)
  | [], _, _, _, h => h
  | v :: vs, _, _, o, h => setRow_only vs (o + 1) (own_only h o v)
end

/-- A list filled up from its beginning. -/
theorem fillL {α : Type} {pre : List α} {d : α} {k m : Nat} (hk : pre.length = k) (hm : k < m) (x : α) : (pre ++ List.replicate (m - k) d)[k]? = some d ∧
    (pre ++ List.replicate (m - k) d).set k x = (pre ++ [x]) ++ List.replicate (m - (k + 1)) d := by
  obtain ⟨r, hr⟩ : ∃ r, m - k = r + 1 := ⟨m - k - 1, by omega⟩
  have hr' : m - (k + 1) = r := by omega
  constructor
  · rw [List.getElem?_append_right (by omega), hk, Nat.sub_self, hr]; simp
  · rw [List.set_append_right _ _ (by omega), hk, hr, hr', List.append_assoc]
    simp [List.replicate_succ]
/-- A list turned from its beginning. -/
theorem turnL {α : Type} {pre : List α} {l : List α} {j : Nat} (hl : pre.length = j) (h : j < l.length) (x : α) : (pre ++ l.drop j)[j]? = some l[j] ∧ (pre ++ l.drop j).set j x = (pre ++ [x]) ++ l.drop (j + 1) := by
  constructor
  · rw [List.getElem?_append_right (by omega), hl, Nat.sub_self, List.getElem?_drop]; simp [h]
  · rw [List.set_append_right _ _ (by omega), hl, Nat.sub_self, List.append_assoc, List.drop_eq_getElem_cons h]
    rfl

end Go.Proofs.Ytmnmaijifhojiaa
