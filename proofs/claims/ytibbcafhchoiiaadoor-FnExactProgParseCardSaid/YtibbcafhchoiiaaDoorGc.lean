/- A word put behind a list of words that the call made. -/
import Derived.Test.YtibbcafhchoiiaaDoorGb
set_option maxRecDepth 100000
namespace Go.Proofs.YtibbcafhchoiiaaDoor
open Go.RowKit

theorem InsOwn.nil (base : Nat) (w : World) : InsOwn base w (.slice none 0 0) [] := World.ownsRow_nil _ _ _ _
theorem InsOwn.lt {base : Nat} {w : World} {v : Value} {l : List Ins} (h : InsOwn base w v l) : ∀ k, v.ownBlock = some k → base ≤ k ∧ k < w.heap.size := World.ownsRow.lt h
theorem InsOwn.alloc {base : Nat} {w : World} {v : Value} {l : List Ins} (h : InsOwn base w v l) (o : Obj) : InsOwn base (w.alloc o) v l := World.ownsRow.alloc h o
theorem InsOwn.below {base : Nat} {w w' : World} {v : Value} {l : List Ins} (h : InsOwn base w v l) (hb : Below w.heap.size w w') : InsOwn base w' v l := own_below h hb

theorem InsOwn.slice {base : Nat} {w : World} {v : Value} {l : List Ins} (h : InsOwn base w v l) : ∃ a cap, v = .slice a l.length cap := by
  rcases h.2 with ⟨e, hn⟩ | ⟨g, cap, _, e, _⟩
  · exact ⟨none, 0, by rw [e, hn]⟩
  · exact ⟨_, cap, e⟩
theorem InsOwn.setBelow {base : Nat} {w : World} {v : Value} {l : List Ins} (h : InsOwn base w v l) {a : Addr} (ha : a.block < base) (u : Value) : InsOwn base (w.setCell a u) v l := ownsRow_setCell_below h ha u
theorem InsOwn.base {b b' : Nat} {w : World} {v : Value} {l : List Ins} (h : InsOwn b w v l) (hb : b' ≤ b) : InsOwn b' w v l := by
  rcases h.2 with ⟨e, hn⟩ | ⟨g, cap, cur, e, hg, r⟩
  · exact ⟨h.1, .inl ⟨e, hn⟩⟩
  · exact ⟨h.1, .inr ⟨g, cap, cur, e, by omega, r⟩⟩
theorem fill_at {pre : List Ins} {k m : Nat} (hk : pre.length = k) (hm : k < m) (x : Ins) : (pre ++ List.replicate (m - k) ins0)[k]? = some ins0 ∧
    (pre ++ List.replicate (m - k) ins0).set k x = (pre ++ [x]) ++ List.replicate (m - (k + 1)) ins0 := by
  obtain ⟨r, hr⟩ : ∃ r, m - k = r + 1 := ⟨m - k - 1, by omega⟩
  have hr' : m - (k + 1) = r := by omega
  constructor
  · rw [List.getElem?_append_right (by omega), hk, Nat.sub_self, hr]; simp
  · rw [List.set_append_right _ _ (by omega), hk, hr, hr', List.append_assoc]
    simp [List.replicate_succ]
theorem insOwn_lit {base : Nat} {w : World} {H : Nat} (hb : base ≤ w.heap.size) (hH : H = w.heap.size) : InsOwn base (w.alloc (.cells #[] 39)) (.slice (some ⟨H, 0, none⟩) 0 0) [] := by
  subst hH
  exact World.ownsRow_lit w #[] 0 hb (by unfold maxLen; omega) (by simp)

/-- 'append(l, Insn{..})': the word lies in a block of its own. -/
theorem wpList_push_ins {ops : Array Oper} {rest : List Oper} {o : Oper} {a : Act} {Q : Exit → Act → World → Prop} (hgd : o.guard = none) (s x : Operand)
    (ho : o.op = .call { callee := .builtin .append, args := #[s, x], argTypes := #[25, 25] }) (wr : World) (c y n k : Int)
    (base : Nat) (v : Value) (l : List Ins) (hs : a.eval s = v) (hown : InsOwn base wr v l)
    (hx : a.eval x = .slice (some ⟨wr.heap.size, 0, none⟩) 1 1) (hlen : l.length ≤ 1000000000) (hbase : base ≤ wr.heap.size)
    (h : ∀ v' w', InsOwn base w' v' (l ++ [⟨c, y, n, k⟩]) → GrB wr w' v v' → wpList Tryd.prog ops Q rest (a.put o.dst v') w') :
    wpList Tryd.prog ops Q (o :: rest) a (wr.alloc (.cells #[.int .i64 c, .int .i64 y, .int .i64 n, .int .i64 k] 39)) := by
  obtain ⟨i0, hi, hz0, hz1, hz2⟩ := info_parts info_insn
  refine wpList_append_own_at _ hgd s x 25 ho base 39 i0 _ 4 32 Tryd.underlying25 hi hz0 hz1 hz2 rfl (by decide) v l.length (progCells l) hs
    (World.ownsRow.alloc hown _) ⟨wr.heap.size, 0, none⟩ 1 1 [.int .i64 c, .int .i64 y, .int .i64 n, .int .i64 k] hx rfl (fun j u hj => ?_) (by intro u hu; simp at hu; rcases hu with rfl | rfl | rfl | rfl <;> rfl) (by unfold maxLen; omega) (by omega) (by simp; omega) ?_
  · rw [add_at, Nat.zero_add, World.cell?_alloc_at _ _ _ _ rfl, ← hj]; simp
  intro v' w' hown' hg _ hat
  refine h v' w' ?_ (GrB.alloc ⟨hg, ?_⟩)
  · unfold InsOwn
    rw [progCells_append, List.length_append]
    exact hown'
  · rcases hat with e | e
    · exact .inl e
    · exact .inr fun g hg' => by rw [e] at hg'; injection hg' with hg'; omega

end Go.Proofs.YtibbcafhchoiiaaDoor
