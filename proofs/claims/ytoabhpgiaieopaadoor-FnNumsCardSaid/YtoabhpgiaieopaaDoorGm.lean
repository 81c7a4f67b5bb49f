/- Plain mathematics of reading a number's bytes; a scope with several labels. No program is read here. -/
import Derived.Test.YtoabhpgiaieopaaDoorBt
import Derived.Lib.Strings
import Derived.ScopeJumps
namespace Go.Proofs.YtoabhpgiaieopaaDoor

/-- As Q; by a goto to label l: J l. -/
def Exit.jumps (J : Nat → Act → World → Prop) (Q : Exit → Act → World → Prop) : Exit → Act → World → Prop
  | .goto l, a, w => J l a w
  | e, a, w => Q e a w
theorem Exit.jumps_goto {J : Nat → Act → World → Prop} {Q : Exit → Act → World → Prop} {l : Nat} {a : Act} {w : World} : Exit.jumps J Q (.goto l) a w = J l a w := rfl
theorem Exit.jumps_normal {J : Nat → Act → World → Prop} {Q : Exit → Act → World → Prop} {a : Act} {w : World} : Exit.jumps J Q .normal a w = Q .normal a w := rfl
theorem Exit.jumps_ret {J : Nat → Act → World → Prop} {Q : Exit → Act → World → Prop} {a : Act} {w : World} : Exit.jumps J Q .ret a w = Q .ret a w := rfl

/-- A scope with several labels: what holds at each jump, and a measure that each pass lowers. -/
theorem wp_scope_labels {P : Program} {a : Act} {w : World} {Q : Exit → Act → World → Prop} {c : Code} (J : Nat → Act → World → Prop) (μ : Nat → Act → World → Nat)
    (first : c.wp P (Exit.jumps J Q) a w)
    (pass : ∀ l a w, J l a w → ∃ rest, findLabel c l = some rest ∧ rest.wp P (Exit.jumps (fun l' a' w' => J l' a' w' ∧ μ l' a' w' < μ l a w) Q) a w) : (Code.scope c).wp P Q a w := by
  intro b k cs
  have key : ∀ n l a w rest, μ l a w = n → J l a w → findLabel c l = some rest →
      ∃ e a' w', Q e a' w' ∧ Arrives P (lone (b.at a (.code rest :: .inScope c :: k)) cs w) b k cs e a' w' := by
    intro n
    induction n using Nat.strongRecOn with
    | _ n ih =>
      intro l a w rest hn hJ hf
      obtain ⟨rest', hf', hp⟩ := pass l a w hJ
      obtain rfl := Option.some.inj (hf.symm.trans hf')
      obtain ⟨e, a₁, w₁, hq, harr⟩ := hp b (.inScope c :: k) cs
      cases e with
      | normal => exact ⟨.normal, a₁, w₁, hq, Steps.trans harr (.one step_inScope)⟩
      | exit id => exact ⟨.exit id, a₁, w₁, hq, fun k' hk => harr k' (by simp [exitTo, hk])⟩
      | goto l' =>
        obtain ⟨hJ', hlt⟩ := hq
        obtain ⟨rest₂, hf₂, _⟩ := pass l' a₁ w₁ hJ'
        obtain ⟨e₂, a₂, w₂, hq₂, harr₂⟩ := ih _ (by omega) l' a₁ w₁ rest₂ rfl hJ' hf₂
        exact ⟨e₂, a₂, w₂, hq₂, .of_steps (harr _ (by simp [gotoIn, hf₂])) harr₂⟩
      | ret => exact ⟨_, a₁, w₁, hq, harr⟩
      | panic ch => exact ⟨_, a₁, w₁, hq, harr⟩
      | outgrown => exact ⟨_, a₁, w₁, hq, harr⟩
  obtain ⟨e, a₁, w₁, hq, harr⟩ := first b (.inScope c :: k) cs
  cases e with
  | normal => exact ⟨.normal, a₁, w₁, hq, .head step_scope (Steps.trans harr (.one step_inScope))⟩
  | exit id => exact ⟨.exit id, a₁, w₁, hq, fun k' hk => .head step_scope (harr k' (by simp [exitTo, hk]))⟩
  | goto l' =>
    obtain ⟨rest₂, hf₂, _⟩ := pass l' a₁ w₁ hq
    obtain ⟨e₂, a₂, w₂, hq₂, harr₂⟩ := key _ l' a₁ w₁ rest₂ rfl hq hf₂
    exact ⟨e₂, a₂, w₂, hq₂, .of_steps (.head step_scope (harr _ (by simp [gotoIn, hf₂]))) harr₂⟩
  | ret => exact ⟨_, a₁, w₁, hq, .of_steps (.one step_scope) harr⟩
  | panic ch => exact ⟨_, a₁, w₁, hq, .of_steps (.one step_scope) harr⟩
  | outgrown => exact ⟨_, a₁, w₁, hq, .of_steps (.one step_scope) harr⟩

/-- Reading on from byte i: the number so far, the bytes that are left: the number, how many bytes it has, the code. -/
def getB : Nat → Nat → Int → List UInt8 → Int × Nat × Int
  | 0, _, _, _ => (0, 0, 3)
  | _ + 1, _, _, [] => (0, 0, 4)
  | f + 1, i, u, c :: l =>
    if i = 9 ∧ 1 < c.toNat then (0, 0, 3)
    else if c.toNat < 128 then (if c.toNat = 0 ∧ 0 < i then (0, 0, 3) else (u + (c.toNat : Int) % 128 * 128 ^ i, i + 1, 0))
    else getB f (i + 1) (u + (c.toNat : Int) % 128 * 128 ^ i) l
theorem getB_end (f i : Nat) (u : Int) : getB (f + 1) i u [] = (0, 0, 4) := rfl
theorem getB_tenth {f i : Nat} {u : Int} {c : UInt8} {l : List UInt8} (h : i = 9) (h1 : 1 < c.toNat) : getB (f + 1) i u (c :: l) = (0, 0, 3) := by
  unfold getB; rw [if_pos ⟨h, h1⟩]
theorem getB_nought {f i : Nat} {u : Int} {c : UInt8} {l : List UInt8} (h : ¬ (i = 9 ∧ 1 < c.toNat)) (h1 : c.toNat = 0) (h2 : 0 < i) : getB (f + 1) i u (c :: l) = (0, 0, 3) := by
  unfold getB; rw [if_neg h, if_pos (by omega), if_pos ⟨h1, h2⟩]
theorem getB_last {f i : Nat} {u : Int} {c : UInt8} {l : List UInt8} (h : ¬ (i = 9 ∧ 1 < c.toNat)) (h1 : c.toNat < 128) (h2 : ¬ (c.toNat = 0 ∧ 0 < i)) :
    getB (f + 1) i u (c :: l) = (u + (c.toNat : Int) % 128 * 128 ^ i, i + 1, 0) := by
  unfold getB; rw [if_neg h, if_pos h1, if_neg h2]
theorem getB_more {f i : Nat} {u : Int} {c : UInt8} {l : List UInt8} (h : ¬ (i = 9 ∧ 1 < c.toNat)) (h1 : ¬ c.toNat < 128) :
    getB (f + 1) i u (c :: l) = getB f (i + 1) (u + (c.toNat : Int) % 128 * 128 ^ i) l := by
  conv => lhs; unfold getB
  rw [if_neg h, if_neg h1]

/-- The number that folds to u. -/
def unfoldN (u : Int) : Int := if u % 2 = 1 then - (u / 2) - 1 else u / 2

/-- What GetNum answers: the number, the place behind it, the code. -/
def getN (s : ByteArray) (at_ : Int) : Int × Int × Int :=
  if 8000 < s.size then (0, 0, 2) else if at_ < 0 then (0, 0, 1)
  else if (getB 10 0 0 (s.data.toList.drop at_.toNat)).2.2 = 0 then (unfoldN (getB 10 0 0 (s.data.toList.drop at_.toNat)).1, at_ + ((getB 10 0 0 (s.data.toList.drop at_.toNat)).2.1 : Int), 0)
  else (0, 0, (getB 10 0 0 (s.data.toList.drop at_.toNat)).2.2)
theorem getN_long {s : ByteArray} {a : Int} (h : 8000 < s.size) : getN s a = (0, 0, 2) := by unfold getN; rw [if_pos h]
theorem getN_neg {s : ByteArray} {a : Int} (h : ¬ 8000 < s.size) (h1 : a < 0) : getN s a = (0, 0, 1) := by unfold getN; rw [if_neg h, if_pos h1]
theorem getN_ok {s : ByteArray} {a : Nat} {u : Int} {k : Nat} (h : ¬ 8000 < s.size) (hg : getB 10 0 0 (s.data.toList.drop a) = (u, k, 0)) : getN s (a : Int) = (unfoldN u, (a : Int) + (k : Int), 0) := by
  unfold getN; rw [if_neg h, if_neg (by omega), Int.toNat_natCast, hg, if_pos rfl]
theorem getN_bad {s : ByteArray} {a : Nat} {u : Int} {k : Nat} {c : Int} (h : ¬ 8000 < s.size) (hg : getB 10 0 0 (s.data.toList.drop a) = (u, k, c)) (hc : c ≠ 0) : getN s (a : Int) = (0, 0, c) := by
  unfold getN; rw [if_neg h, if_neg (by omega), Int.toNat_natCast, hg, if_neg hc]

theorem pow128_le {k : Nat} (h : k ≤ 9) : (128 : Int) ^ k ≤ 9223372036854775808 ∧ (0 : Int) < 128 ^ k := by
  refine ⟨?_, Int.pow_pos (by omega)⟩
  have h1 : (128 : Nat) ^ k ≤ 128 ^ 9 := Nat.pow_le_pow_right (by omega) h
  have h2 : (128 : Int) ^ k ≤ 128 ^ 9 := by exact_mod_cast h1
  have h3 : (128 : Int) ^ 9 = 9223372036854775808 := by decide
  omega
theorem shl7 (k : Nat) (x : Int) : x * 2 ^ (7 * k) = x * 128 ^ k := by
  rw [Int.pow_mul]
  rfl

end Go.Proofs.YtoabhpgiaieopaaDoor
