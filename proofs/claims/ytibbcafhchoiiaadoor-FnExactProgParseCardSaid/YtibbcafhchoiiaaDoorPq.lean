/- Plain facts on texts cut at a byte, numbers in digits, and lines of words read. No program is read here. -/
import Derived.Test.YtibbcafhchoiiaaDoorTx
import Derived.Test.YtibbcafhchoiiaaDoorTi
import Derived.Lib.Split
set_option maxRecDepth 100000
set_option linter.unusedSimpArgs false
set_option linter.unusedVariables false
namespace Go.Proofs.YtibbcafhchoiiaaDoor
open Go.RowKit

/-- A text cut at each c. -/
def cutAt (c : UInt8) : List UInt8 → List (List UInt8)
  | [] => [[]]
  | b :: t => if b = c then [] :: cutAt c t else match cutAt c t with
    | p :: ps => (b :: p) :: ps
    | [] => [[b]]
theorem cutAt_ne (c : UInt8) : ∀ t, cutAt c t ≠ []
  | [] => by simp [cutAt]
  | b :: t => by
    unfold cutAt
    split
    · simp
    · split <;> simp
theorem cutAt_miss {c : UInt8} : ∀ {t : List UInt8}, c ∉ t → cutAt c t = [t]
  | [], _ => rfl
  | b :: t, h => by
    simp only [List.mem_cons, not_or] at h
    unfold cutAt
    rw [if_neg (fun e => h.1 e.symm), cutAt_miss h.2]
theorem cutAt_hit {c : UInt8} : ∀ {a r : List UInt8}, c ∉ a → cutAt c (a ++ c :: r) = a :: cutAt c r
  | [], r, _ => by rw [List.nil_append, cutAt, if_pos rfl]
  | b :: a, r, h => by
    simp only [List.mem_cons, not_or] at h
    rw [List.cons_append, cutAt, if_neg (fun e => h.1 e.symm), cutAt_hit h.2]
theorem cut_cases (c : UInt8) (t : List UInt8) : c ∉ t ∨ ∃ a r, t = a ++ c :: r ∧ c ∉ a := by
  induction t with
  | nil => exact .inl (by simp)
  | cons b t ih =>
    by_cases hb : b = c
    · exact .inr ⟨[], t, by rw [hb]; rfl, by simp⟩
    · rcases ih with h | ⟨a, r, rfl, h⟩
      · exact .inl (by simp only [List.mem_cons, not_or]; exact ⟨fun e => hb e.symm, h⟩)
      · exact .inr ⟨b :: a, r, rfl, by simp only [List.mem_cons, not_or]; exact ⟨fun e => hb e.symm, h⟩⟩
theorem index_miss {c : UInt8} : ∀ {t : List UInt8}, c ∉ t → Lib.index t [c] = -1
  | [], _ => rfl
  | b :: t, h => by
    simp only [List.mem_cons, not_or] at h
    unfold Lib.index
    rw [if_neg (by simp [h.1]), index_miss h.2]
    rfl
theorem index_at {c : UInt8} : ∀ {a r : List UInt8}, c ∉ a → Lib.index (a ++ c :: r) [c] = a.length
  | [], r, _ => by simp [Lib.index]
  | b :: a, r, h => by
    simp only [List.mem_cons, not_or] at h
    rw [List.cons_append, Lib.index, if_neg (by simp [h.1]), index_at h.2, if_neg (by simp <;> omega)]
    simp
theorem splitK_cut (c : UInt8) : ∀ (n : Nat) (t : List UInt8), t.length ≤ n → Lib.splitK [c] 0 (Lib.count t [c]) t = cutAt c t := by
  intro n
  induction n with
  | zero =>
    intro t ht
    obtain rfl : t = [] := List.eq_nil_of_length_eq_zero (by omega)
    rfl
  | succ n ih =>
    intro t ht
    rcases cut_cases c t with h | ⟨a, r, rfl, h⟩
    · rw [Lib.count_miss (index_miss h), cutAt_miss h]
      rfl
    · have hi := index_at (r := r) h
      have hd : (a ++ c :: r).drop (a.length + 1) = r := by simp
      have hc : Lib.count (a ++ c :: r) [c] = Lib.count r [c] + 1 := by
        have := Lib.count_hit (s := a ++ c :: r) (sub := [c]) (i := a.length) (by simp) hi
        rw [show [c].length = 1 from rfl, hd] at this
        omega
      rw [hc, Lib.splitK, if_neg (by rw [hi]; simp <;> omega), hi, cutAt_hit h]
      simp only [Int.toNat_natCast, Nat.add_zero, List.length_singleton, hd]
      rw [ih r (by simp at ht; omega)]
      simp
theorem cut_at {c : UInt8} {a r : List UInt8} (h : c ∉ a) : Lib.cut (a ++ c :: r) [c] = (a, r, true) := by
  unfold Lib.cut
  rw [if_pos (by rw [index_at h]; omega), index_at h]
  simp
theorem cut_miss {c : UInt8} {t : List UInt8} (h : c ∉ t) : Lib.cut t [c] = (t, [], false) := by
  unfold Lib.cut
  rw [if_neg (by rw [index_miss h]; decide)]

/-! Numbers. -/
def digit (c : UInt8) : Bool := decide (48 ≤ c.toNat ∧ c.toNat ≤ 57)
def valL (t : List UInt8) : Nat := t.foldl (fun n c => 10 * n + (c.toNat - 48)) 0
def numOk (t : List UInt8) : Bool := decide (1 ≤ t.length ∧ t.length ≤ 10) && !(decide (1 < t.length) && t.head? == some 48) && t.all digit
def numL (t : List UInt8) : Option Nat := if numOk t then some (valL t) else none
theorem valL_snoc (t : List UInt8) (c : UInt8) : valL (t ++ [c]) = 10 * valL t + (c.toNat - 48) := by simp [valL]
theorem valL_bound : ∀ (n : Nat) (t : List UInt8), t.length = n → t.all digit = true → valL t < 10 ^ n := by
  intro n
  induction n with
  | zero =>
    intro t ht _
    obtain rfl : t = [] := List.eq_nil_of_length_eq_zero ht
    decide
  | succ n ih =>
    intro t ht hd
    obtain ⟨s, c, rfl⟩ : ∃ s c, t = s ++ [c] := ⟨t.dropLast, t.getLast (by intro e; simp [e] at ht), (List.dropLast_concat_getLast _).symm⟩
    rw [List.all_append] at hd
    simp only [Bool.and_eq_true, List.all_cons, List.all_nil, Bool.and_true] at hd
    have := ih s (by simpa using ht) hd.1
    have hc : c.toNat ≤ 57 := by
      have := hd.2
      simp [digit] at this
      exact this.2
    rw [valL_snoc, Nat.pow_succ]
    omega
theorem decDigits_snoc {m d : Nat} (hm : 1 ≤ m) (hd : d < 10) : Lib.decDigits (10 * m + d) = Lib.decDigits m ++ [UInt8.ofNat (48 + d)] := by
  rw [Lib.decDigits, dif_neg (by omega), show (10 * m + d) / 10 = m by omega, show (10 * m + d) % 10 = d by omega]
theorem digit_back {c : UInt8} (h : digit c = true) : UInt8.ofNat (48 + (c.toNat - 48)) = c := by
  simp [digit] at h
  apply UInt8.toNat_inj.1
  simp
  omega
theorem valL_pos : ∀ (n : Nat) (t : List UInt8), t.length = n → 1 ≤ n → t.all digit = true → t.head? ≠ some 48 → 1 ≤ valL t := by
  intro n
  induction n with
  | zero => intro t _ h; omega
  | succ n ih =>
    intro t ht _ hd hh
    obtain ⟨s, c, rfl⟩ : ∃ s c, t = s ++ [c] := ⟨t.dropLast, t.getLast (by intro e; simp [e] at ht), (List.dropLast_concat_getLast _).symm⟩
    rw [List.all_append] at hd
    simp only [Bool.and_eq_true, List.all_cons, List.all_nil, Bool.and_true] at hd
    rw [valL_snoc]
    cases s with
    | nil =>
      simp only [List.nil_append, List.head?_cons, ne_eq, Option.some.injEq] at hh
      have h1 := hd.2
      simp [digit] at h1
      have : c.toNat ≠ 48 := fun e => hh (UInt8.toNat_inj.1 e)
      omega
    | cons b s =>
      have := ih (b :: s) (by simpa using ht) (by simp at ht; omega) hd.1 (by simpa using hh)
      omega
theorem dec_val : ∀ (n : Nat) (t : List UInt8), t.length = n → 1 ≤ n → t.all digit = true → ¬ (1 < t.length ∧ t.head? = some 48) → Lib.decDigits (valL t) = t := by
  intro n
  induction n with
  | zero => intro t _ h; omega
  | succ n ih =>
    intro t ht _ hd hh
    obtain ⟨s, c, rfl⟩ : ∃ s c, t = s ++ [c] := ⟨t.dropLast, t.getLast (by intro e; simp [e] at ht), (List.dropLast_concat_getLast _).symm⟩
    rw [List.all_append] at hd
    simp only [Bool.and_eq_true, List.all_cons, List.all_nil, Bool.and_true] at hd
    have hc := hd.2
    have hcb := digit_back hc
    simp [digit] at hc
    rw [valL_snoc]
    cases s with
    | nil =>
      rw [show valL [] = 0 from rfl, Nat.mul_zero, Nat.zero_add, Lib.decDigits, dif_pos (by omega), hcb]
      rfl
    | cons b s =>
      have h0 : (b :: s).head? ≠ some 48 := fun e => hh ⟨by simp, by simpa using e⟩
      have h1 : 1 ≤ (b :: s).length := by simp
      rw [decDigits_snoc (valL_pos _ (b :: s) rfl h1 hd.1 h0) (by omega), hcb, ih (b :: s) (by simpa using ht) (by simp at ht; omega) hd.1 (fun e => h0 e.2)]
theorem numL_dec {t : List UInt8} {n : Nat} (h : numL t = some n) : t = Lib.decDigits n := by
  unfold numL at h
  split at h
  · rename_i hk
    simp only [Option.some.injEq] at h
    subst h
    unfold numOk at hk
    simp only [Bool.and_eq_true, decide_eq_true_eq, Bool.not_eq_true', Bool.and_eq_false_iff, decide_eq_false_iff_not] at hk
    obtain ⟨⟨⟨h1, h2⟩, h3⟩, h4⟩ := hk
    exact (dec_val _ t rfl h1 h4 (fun e => by
      rcases h3 with h3 | h3
      · exact h3 e.1
      · rw [e.2] at h3; simp at h3)).symm
  · cases h
theorem decDigits_props : ∀ (n u : Nat), u ≤ n → (Lib.decDigits u).all digit = true ∧ valL (Lib.decDigits u) = u ∧ (1 ≤ u → (Lib.decDigits u).head? ≠ some 48) := by
  intro n
  induction n with
  | zero =>
    intro u hu
    obtain rfl : u = 0 := by omega
    rw [Lib.decDigits]
    exact ⟨by decide, by decide, fun h => by omega⟩
  | succ n ih =>
    intro u hu
    by_cases h10 : u < 10
    · rw [Lib.decDigits, dif_pos h10]
      rcases (by omega : u = 0 ∨ u = 1 ∨ u = 2 ∨ u = 3 ∨ u = 4 ∨ u = 5 ∨ u = 6 ∨ u = 7 ∨ u = 8 ∨ u = 9) with rfl | rfl | rfl | rfl | rfl | rfl | rfl | rfl | rfl | rfl <;> exact ⟨by decide, by decide, by decide⟩
    · obtain ⟨h1, h2, h3⟩ := ih (u / 10) (by omega)
      have e : u = 10 * (u / 10) + u % 10 := by omega
      have hd : UInt8.toNat (UInt8.ofNat (48 + u % 10)) = 48 + u % 10 := by
        rw [UInt8.toNat_ofNat']; omega
      rw [e, decDigits_snoc (by omega) (by omega)]
      refine ⟨?_, ?_, fun _ => ?_⟩
      · rw [List.all_append, h1]
        simp only [List.all_cons, List.all_nil, Bool.and_true, Bool.true_and, digit, hd]
        simp
        omega
      · rw [valL_snoc, h2, hd]
        omega
      · have := h3 (by omega)
        cases hq : Lib.decDigits (u / 10) with
        | nil =>
          have := Lib.decDigits_length (u / 10)
          rw [hq] at this
          have := Lib.nDigits_pos (u / 10)
          simp at *
          omega
        | cons a l => rw [hq] at this; simpa using this
theorem nDigits_ten {u : Nat} (h : u < 10000000000) : Lib.nDigits u ≤ 10 := by
  have key : ∀ (k u : Nat), 1 ≤ k → u < 10 ^ k → Lib.nDigits u ≤ k := by
    intro k
    induction k with
    | zero => intro u h; omega
    | succ k ih =>
      intro u _ hu
      by_cases h10 : u < 10
      · rw [Lib.nDigits_small h10]; omega
      · rw [Lib.nDigits_big h10]
        rw [Nat.pow_succ] at hu
        rcases Nat.eq_zero_or_pos k with rfl | hk
        · simp at hu; omega
        · have := ih (u / 10) hk (by omega)
          omega
  exact key 10 u (by omega) (by simpa using h)
theorem dec_numL {n : Nat} (h : n ≤ 4294967295) : numL (Lib.decDigits n) = some n := by
  obtain ⟨h1, h2, h3⟩ := decDigits_props n n (Nat.le_refl _)
  have h4 := Lib.decDigits_length n
  have h5 := Lib.nDigits_pos n
  have h6 := nDigits_ten (u := n) (by omega)
  unfold numL
  rw [if_pos, h2]
  unfold numOk
  simp only [Bool.and_eq_true, decide_eq_true_eq, Bool.not_eq_true', Bool.and_eq_false_iff, decide_eq_false_iff_not]
  refine ⟨⟨⟨by omega, by omega⟩, ?_⟩, h1⟩
  rcases Nat.eq_zero_or_pos n with rfl | hn
  · left
    rw [h4, Lib.nDigits_small (by omega)]
    omega
  · right
    have := h3 hn
    simpa using this
theorem numL_bound {t : List UInt8} {n : Nat} (h : numL t = some n) : n < 10000000000 := by
  unfold numL at h
  split at h
  · rename_i hk
    simp only [Option.some.injEq] at h
    subst h
    unfold numOk at hk
    simp only [Bool.and_eq_true, decide_eq_true_eq] at hk
    have := valL_bound _ t rfl hk.2
    have h10 : 10 ^ t.length ≤ 10 ^ 10 := Nat.pow_le_pow_right (by omega) hk.1.1.2
    omega
  · cases h

end Go.Proofs.YtibbcafhchoiiaaDoor
