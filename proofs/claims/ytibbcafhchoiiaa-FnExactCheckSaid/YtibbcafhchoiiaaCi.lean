/- Check of the program. -/
import Derived.Test.YtibbcafhchoiiaaFf
import Derived.Test.YtibbcafhchoiiaaKc
set_option maxRecDepth 100000
set_option linter.unusedSimpArgs false
set_option linter.unusedVariables false
namespace Go.Proofs.Ytibbcafhchoiiaa
open Go.RowKit

/-- The three faults, and their codes, functions. -/
def p3 (l : List Ins) (j i : Nat) : Bool := match l[i]? with
  | some x => if j = 0 then !insRight x else if j = 1 then !isOp x.c else strayI l.length i x
  | none => false
def code3 (j : Nat) : Int := if j = 0 then 1 else if j = 1 then 3 else 8
def fun3 (j : Nat) : Nat := if j = 0 then 26 else if j = 1 then 27 else 28
def p1 (l : List Ins) (_ i : Nat) : Bool := match l[i]? with
  | some x => unU ((wrL l).getD i 0) x
  | none => false

theorem last_next {n i : Nat} {x : Ins} (hi : i + 1 < n) (h6 : x.c ≠ 6) (h22 : x.c ≠ 22) (h5 : x.c ≠ 5) (hl : looksC x.c = false) : farBad n (nextI x i) = false := by
  have : nextI x i = [(i : Int) + 1] := by simp [nextI, h6, h22, h5, hl]
  rw [this]
  simp [farBad]
  omega
theorem stray_eq {l : List Ins} {i : Nat} {x : Ins} (hle : lastEnds l = true) (hi : l[i]? = some x) (hr : insRight x = true) : strayI l.length i x = (rangeBad x || farBad l.length (nextI x i)) := by
  have hlt : i < l.length := (List.getElem?_eq_some_iff.1 hi).1
  have hend : i + 1 = l.length → endC x.c = true := by
    intro e
    unfold lastEnds at hle
    rw [show l.length - 1 = i by omega, hi] at hle
    exact hle
  have hk := (ins_bd hr).2.2.2
  have far : ∀ c, c = x.c → endC c = false → c ≠ 5 → looksC c = false → farBad l.length (nextI x i) = false := by
    rintro c rfl he h5 hl
    have hi1 : i + 1 < l.length := by
      rcases Nat.lt_or_ge (i + 1) l.length with h | h
      · exact h
      · have := hend (by omega)
        rw [he] at this
        cases this
    simp only [endC, Bool.or_eq_false_iff, beq_eq_false_iff_ne, ne_eq] at he
    exact last_next hi1 he.1 he.2 h5 hl
  unfold strayI rangeBad
  by_cases h32 : x.c = 32
  · rw [if_pos h32, far 32 h32.symm (by decide) (by decide) (by decide), h32]
    simp [cellC]
  rw [if_neg h32]
  by_cases hc : cellC x.c = true
  · rw [if_pos hc]
    have hcc := hc
    simp only [cellC, List.contains_eq_mem, List.mem_cons, List.not_mem_nil, or_false, decide_eq_true_eq] at hcc
    have hf : farBad l.length (nextI x i) = false := by
      rcases hcc with h | h | h | h <;> exact far _ h.symm (by decide) (by decide) (by decide)
    rw [hf, hc]
    have n52 := (cell_not hc)
    simp only [beq_eq_false_iff_ne.2 h32, beq_eq_false_iff_ne.2 n52.1, beq_eq_false_iff_ne.2 n52.2.1, beq_eq_false_iff_ne.2 n52.2.2, Bool.false_and, Bool.true_and, Bool.false_or, Bool.or_false]
    by_cases h : 16 ≤ x.k
    · rw [decide_eq_true h, decide_eq_true (by omega)]
    · rw [decide_eq_false h, decide_eq_false (by omega)]
  rw [if_neg hc]
  have hc' : cellC x.c = false := by simpa using hc
  by_cases h52 : x.c = 52
  · rw [if_pos h52, far 52 h52.symm (by decide) (by decide) (by decide), h52]
    simp [cellC]
  rw [if_neg h52]
  by_cases hs : x.c = 100 ∨ x.c = 116
  · rw [if_pos hs]
    have hf : farBad l.length (nextI x i) = false := by
      rcases hs with h | h <;> exact far _ h.symm (by decide) (by decide) (by decide)
    rw [hf, hc']
    rcases hs with h | h <;> simp [h]
  · rw [if_neg hs]
    have h1 : x.c ≠ 100 := fun h => hs (.inl h)
    have h2 : x.c ≠ 116 := fun h => hs (.inr h)
    simp [h32, hc', h52, h1, h2]

theorem faultJ3 {l : List Ins} {i : Nat} {x : Ins} (hle : lastEnds l = true) (hi : l[i]? = some x) :
    (badI l.length i x = 0 ∧ faultJ (p3 l) 3 i = none) ∨ (badI l.length i x ≠ 0 ∧ ∃ j, faultJ (p3 l) 3 i = some j ∧ code3 j = badI l.length i x) := by
  have q0 : p3 l 0 i = !insRight x := by unfold p3; rw [hi]; rfl
  have q1 : p3 l 1 i = !isOp x.c := by unfold p3; rw [hi]; rfl
  have q2 : p3 l 2 i = strayI l.length i x := by unfold p3; rw [hi]; rfl
  cases hr : insRight x with
  | false =>
    have hb : badI l.length i x = 1 := by unfold badI; rw [if_pos hr]
    exact .inr ⟨by rw [hb]; decide, 0, range_hit (fun j hj => by omega) (by omega) (by rw [q0, hr]; rfl), hb.symm⟩
  | true =>
    cases ho : isOp x.c with
    | false =>
      have hb : badI l.length i x = 3 := by unfold badI; rw [if_neg (by simp [hr]), if_pos ho]
      exact .inr ⟨by rw [hb]; decide, 1, range_hit (fun j hj => by obtain rfl : j = 0 := (by omega); rw [q0, hr]; rfl) (by omega) (by rw [q1, ho]; rfl), hb.symm⟩
    | true =>
      rw [stray_eq hle hi hr] at q2
      have hb : badI l.length i x = if rangeBad x = true then 8 else if farBad l.length (nextI x i) = true then 8 else 0 := by
        unfold badI; rw [if_neg (by simp [hr]), if_neg (by simp [ho])]
      have h01 : ∀ j, j < 2 → p3 l j i = false := fun j hj => by
        rcases (by omega : j = 0 ∨ j = 1) with rfl | rfl
        · rw [q0, hr]; rfl
        · rw [q1, ho]; rfl
      cases hs : (rangeBad x || farBad l.length (nextI x i)) with
      | false =>
        rw [hs] at q2
        simp only [Bool.or_eq_false_iff] at hs
        rw [if_neg (by simp [hs.1]), if_neg (by simp [hs.2])] at hb
        exact .inl ⟨hb, range_none fun j hj => by
          rcases (by omega : j < 2 ∨ j = 2) with h | rfl
          · exact h01 j h
          · exact q2⟩
      | true =>
        rw [hs] at q2
        have hb8 : badI l.length i x = 8 := by
          rw [hb]
          cases h1 : rangeBad x
          · rw [h1] at hs
            rw [if_neg (by simp), if_pos (by simpa using hs)]
          · rw [if_pos rfl]
        exact .inr ⟨by rw [hb8]; decide, 2, range_hit h01 (by omega) q2, hb8.symm⟩
theorem find_congr {p q : Nat → Bool} {n : Nat} (h : ∀ i, i < n → p i = q i) : (List.range n).find? p = (List.range n).find? q := by
  have : ∀ (l : List Nat), (∀ i ∈ l, p i = q i) → l.find? p = l.find? q := by
    intro l
    induction l with
    | nil => intro _; rfl
    | cons a l ih =>
      intro h
      simp only [List.find?_cons]
      rw [h a (by simp), ih fun i hi => h i (by simp [hi])]
  exact this _ fun i hi => h i (List.mem_range.1 hi)
theorem fault3 {l : List Ins} (hle : lastEnds l = true) : faultAt (p3 l) code3 3 l.length = match (List.range l.length).find? (badP l) with
    | some i => ((i : Int), badAt l i)
    | none => (0, 0) := by
  have hI : faultI (p3 l) 3 l.length = (List.range l.length).find? (badP l) := find_congr fun i hi => by
    have hx := List.getElem?_eq_getElem hi
    have hb : badP l i = (badI l.length i l[i] != 0) := by unfold badP; rw [hx]
    rw [hb]
    rcases faultJ3 hle hx with ⟨h0, h1⟩ | ⟨h0, j, h1, _⟩
    · rw [h0, h1]; rfl
    · rw [h1]; simpa using h0
  unfold faultAt
  rw [hI]
  cases hf : (List.range l.length).find? (badP l) with
  | none => rfl
  | some i =>
    have hi : i < l.length := List.mem_range.1 (List.mem_of_find?_eq_some hf)
    have hp := List.find?_some hf
    have hx := List.getElem?_eq_getElem hi
    have hb : badP l i = (badI l.length i l[i] != 0) := by unfold badP; rw [hx]
    have ha : badAt l i = badI l.length i l[i] := by unfold badAt; rw [hx]
    rw [hb] at hp
    simp only [bne_iff_ne, ne_eq] at hp
    rcases faultJ3 hle hx with ⟨h0, _⟩ | ⟨_, j, h1, h2⟩
    · exact absurd h0 hp
    · simp only [h1, h2, ha]
theorem unU_eq {l : List Ins} {i : Nat} {x : Ins} (h : ∀ a ∈ wrL l, M16 a) (hk : readsC x.c = true → 0 ≤ x.k ∧ x.k ≤ 15) : unU ((wrL l).getD i 0) x = unI l i x := by
  unfold unU unI
  cases hr : readsC x.c with
  | false => rfl
  | true =>
    have hm := getD_m16 h i
    have hq : M16 ((wrL l).getD i 0 / 2 ^ x.k.toNat) := by
      have hp : (0 : Int) < 2 ^ x.k.toNat := Int.pow_pos (by decide)
      exact ⟨Int.ediv_nonneg hm.1 (by omega), Int.le_trans (Int.ediv_le_self _ hm.1) hm.2⟩
    rw [(and_u16 hq (⟨by decide, by decide⟩ : M16 1)).1]
theorem fault1 {l : List Ins} (h : ∀ a ∈ wrL l, M16 a) (hk : ∀ x ∈ l, readsC x.c = true → 0 ≤ x.k ∧ x.k ≤ 15) : faultAt (p1 l) (fun _ => 6) 1 l.length = match (List.range l.length).find? (unP l) with
    | some i => ((i : Int), 6)
    | none => (0, 0) := by
  have key : ∀ i, i < l.length → faultJ (p1 l) 1 i = if unP l i then some 0 else none := fun i hi => by
    have hx := List.getElem?_eq_getElem hi
    have hb : unP l i = p1 l 0 i := by unfold unP p1; rw [hx]; exact (unU_eq h (hk _ (List.getElem_mem hi))).symm
    rw [hb]
    cases hp : p1 l 0 i
    · exact range_none fun j hj => by obtain rfl : j = 0 := (by omega); exact hp
    · exact range_hit (fun j hj => by omega) (by omega) hp
  have hI : faultI (p1 l) 1 l.length = (List.range l.length).find? (unP l) := find_congr fun i hi => by
    rw [key i hi]
    cases unP l i <;> rfl
  unfold faultAt
  rw [hI]
  cases hf : (List.range l.length).find? (unP l) with
  | none => rfl
  | some i =>
    have hi : i < l.length := List.mem_range.1 (List.mem_of_find?_eq_some hf)
    simp only [key i hi, List.find?_some hf, if_true]

theorem readsUnwritten_any (ua : Option Addr) (n cap : Nat) (w : World) : Calls Try.prog 29 #[.slice ua n cap] w fun e w' => e = .returned (.func (.func 41) #[] #[.pointer (some ⟨w.heap.size, 0, none⟩)]) ∧ w' = w.alloc (.cells #[.slice ua n cap] 52) := by
  have hmf : ∀ (fn : Fn) (first cap : Array Value) (w : World), (Instr.makeFunc fn first cap).run Try.prog w = .ok (.func fn first cap) w := fun _ _ _ _ => rfl
  go_enter Try.func29, Try.ntmps29
  go_wp2
  go_ret
  exact ⟨rfl, rfl⟩

theorem cells3 (w : World) (o : Obj) (E : TypeId) : ∀ j, j < 3 → ((w.alloc o).alloc (.cells #[.int .i64 1, .func (.func 26) #[] #[], .int .i64 3, .func (.func 27) #[] #[], .int .i64 8, .func (.func 28) #[] #[]] E)).cell? ⟨w.heap.size + 1, j * 2, none⟩ = some (.int .i64 (code3 j)) := by
  intro j hj
  rw [World.cell?_alloc_at _ _ _ _ (by simp)]
  rcases (by omega : j = 0 ∨ j = 1 ∨ j = 2) with rfl | rfl | rfl <;> rfl
theorem funs3 (w : World) (o : Obj) (E : TypeId) : ∀ j, j < 3 → ((w.alloc o).alloc (.cells #[.int .i64 1, .func (.func 26) #[] #[], .int .i64 3, .func (.func 27) #[] #[], .int .i64 8, .func (.func 28) #[] #[]] E)).cell? ⟨w.heap.size + 1, j * 2 + 1, none⟩ = some (.func (.func (fun3 j)) #[] #[]) := by
  intro j hj
  rw [World.cell?_alloc_at _ _ _ _ (by simp)]
  rcases (by omega : j = 0 ∨ j = 1 ∨ j = 2) with rfl | rfl | rfl <;> rfl
theorem enter3 : ∀ j, j < 3 → ∀ args W, (callFunc (fun3 j) args).run Try.prog W = .ok (.enter (fun3 j) args) W := by
  intro j hj args W
  rcases (by omega : j = 0 ∨ j = 1 ∨ j = 2) with rfl | rfl | rfl
  · exact Try.call26 args W
  · exact Try.call27 args W
  · exact Try.call28 args W
theorem call3 (v : Value) (l : List Ins) (w : World) (h : InsAt w w.heap.size v l) (hn : l.length ≤ 1048576) (w1 : World) (hb : Below w.heap.size w w1) : ∀ j i W, j < 3 → i < l.length → (∀ b, b < j → p3 l b i = false) → Below w1.heap.size w1 W →
    Calls Try.prog (fun3 j) (#[v, .int .i64 i] ++ #[]) W fun e w' => e = .returned (.bool (p3 l j i)) ∧ Below W.heap.size W w' := by
  intro j i W hj hi hp hW
  have hb2 := hb.trans (hW.mono hb.size)
  have hI := (h.below hb2).up hb2.size
  have hx := List.getElem?_eq_getElem hi
  have q0 : p3 l 0 i = !insRight l[i] := by unfold p3; rw [hx]; rfl
  have q1 : p3 l 1 i = !isOp l[i].c := by unfold p3; rw [hx]; rfl
  have q2 : p3 l 2 i = strayI l.length i l[i] := by unfold p3; rw [hx]; rfl
  rcases (by omega : j = 0 ∨ j = 1 ∨ j = 2) with rfl | rfl | rfl
  · rw [q0]; exact misfits_any v l i _ W hI hx hn
  · rw [q1]; exact nameless_any v l i _ W hI hx hn
  · have hr := hp 0 (by omega)
    rw [q0] at hr
    rw [q2]; exact strays_any v l i _ W hI hx hn (by simpa using hr)

theorem cells1 (w : World) (o : Obj) (E : TypeId) (f : Value) : ∀ j, j < 1 → ((w.alloc o).alloc (.cells #[.int .i64 6, f] E)).cell? ⟨w.heap.size + 1, j * 2, none⟩ = some (.int .i64 6) := by
  intro j hj
  rw [World.cell?_alloc_at _ _ _ _ (by simp)]
  obtain rfl : j = 0 := by omega
  rfl
theorem funs1 (w : World) (o : Obj) (E : TypeId) (f : Value) : ∀ j, j < 1 → ((w.alloc o).alloc (.cells #[.int .i64 6, f] E)).cell? ⟨w.heap.size + 1, j * 2 + 1, none⟩ = some f := by
  intro j hj
  rw [World.cell?_alloc_at _ _ _ _ (by simp)]
  obtain rfl : j = 0 := by omega
  rfl
theorem call1 (v : Value) (l : List Ins) (w : World) (h : InsAt w w.heap.size v l) (hn : l.length ≤ 1048576) (E : TypeId) (ua : Option Addr) (n ucap : Nat) (w4 : World) (o : Obj) (hb : Below w.heap.size w ((w4.alloc (.cells #[.slice ua n ucap] E)).alloc o))
    (hu : LAt u16C 1 (fun _ => True) w4 w4.heap.size (.slice ua n ucap) (wrL l)) (hM : ∀ a ∈ wrL l, M16 a) (hR : ∀ x ∈ l, readsC x.c = true → 0 ≤ x.k ∧ x.k ≤ 15) :
    ∀ j i W, j < 1 → i < l.length → (∀ b, b < j → p1 l b i = false) → Below ((w4.alloc (.cells #[.slice ua n ucap] E)).alloc o).heap.size ((w4.alloc (.cells #[.slice ua n ucap] E)).alloc o) W →
    Calls Try.prog 41 (#[v, .int .i64 i] ++ #[.pointer (some ⟨w4.heap.size, 0, none⟩)]) W fun e w' => e = .returned (.bool (p1 l j i)) ∧ Below W.heap.size W w' := by
  intro j i W hj hi hp hW
  have hb2 := hb.trans (hW.mono hb.size)
  have hI := (h.below hb2).up hb2.size
  have hx := List.getElem?_eq_getElem hi
  have hil : i < (wrL l).length := by rw [show (wrL l).length = l.length from wrK_length l _]; exact hi
  have hm := List.getElem?_eq_getElem hil
  have q0 : p1 l j i = unU (wrL l)[i] l[i] := by unfold p1; rw [hx]; simp only [List.getD_eq_getElem?_getD, hm, Option.getD_some]
  have h4W : Below w4.heap.size w4 W := (((Below.refl _ _).alloc (Nat.le_refl _) _).alloc (by simp) _).trans (hW.mono (by simp; omega))
  have hc : W.cell? ⟨w4.heap.size, 0, none⟩ = some (.slice ua n ucap) := by
    rw [hW.cell (p := ⟨w4.heap.size, 0, none⟩) (by simp; omega), World.cell?_alloc_past _ _ _ (by simp), World.cell?_alloc_at _ _ _ _ rfl]
    rfl
  have hmm := hM _ (List.getElem_mem hil)
  rw [q0]
  exact unwritten_any v l i _ (.slice ua n ucap) (wrL l) (wrL l)[i] w4.heap.size W hI hx hn hc (by have := hW.size; simp at this; omega) ((hu.below h4W).up h4W.size) hm (hR _ (List.getElem_mem hi)) hmm.1 hmm.2

set_option maxHeartbeats 3200000 in
theorem implCheck_any (v : Value) (l : List Ins) (w : World) (h : InsAt w w.heap.size v l) :
    Calls Try.prog 9 #[v] w fun e w' => e = .returned (.agg #[.int .i64 (checkL l).1, .int .i64 (checkL l).2]) ∧ Below w.heap.size w w' := by
  obtain ⟨a, cap, rfl, hlc, hcm⟩ := h.len
  unfold maxLen at hcm
  by_cases h400 : 400 < l.length
  · have HA := Lib.hid (show checkL l = (0, 2) by unfold checkL; rw [if_pos h400])
    clear h
    go_enter Try.func9, Try.ntmps9
    go_wp2_with fail
    exact bodyPost_ret (v := .agg #[.int .i64 0, .int .i64 2]) (by simp [results, Try.results9, go_sem]) rfl ⟨by rw [HA.out], (Below.refl _ _).alloc (Nat.le_refl _) _⟩
  by_cases h0 : l.length = 0
  · have HA := Lib.hid (show checkL l = (0, 1) by unfold checkL; rw [if_neg h400, if_pos h0])
    clear h
    rw [h0] at *
    clear h0
    go_enter Try.func9, Try.ntmps9
    go_wp2_with fail
    exact bodyPost_ret (v := .agg #[.int .i64 0, .int .i64 1]) (by simp [results, Try.results9, go_sem]) rfl ⟨by rw [HA.out], (Below.refl _ _).alloc (Nat.le_refl _) _⟩
  have hA0 : checkL l = if lastEnds l = false then (((l.length - 1 : Nat) : Int), 1) else match (List.range l.length).find? (badP l) with
    | some i => (i, badAt l i)
    | none => match (List.range l.length).find? (unP l) with
      | some i => (i, 6)
      | none => (0, 0) := by unfold checkL; rw [if_neg h400, if_neg h0]; rfl
  have hlast : l.length - 1 < l.length := by omega
  have hq4 : decide ((400 : Int) < (l.length : Int)) = false := decide_eq_false (by omega)
  have hsub : ((l.length : Int) - 1) = ((l.length - 1 : Nat) : Int) := by omega
  have hle : lastEnds l = endC (l[l.length - 1]).c := by unfold lastEnds; rw [List.getElem?_eq_getElem hlast]
  have HH := Lib.hid h
  obtain ⟨b, o, e, hb, c0, c1, c2, c3, hwf⟩ := h.at_ (List.getElem?_eq_getElem hlast)
  subst e
  generalize hx : l[l.length - 1] = x at *
  obtain ⟨xc, xy, xn, xk⟩ := x
  simp only at c0 c1 c2 c3 hle
  have qe := fun W => ends_any xc W
  rw [show endsC xc = lastEnds l from hle.symm] at qe
  have QE := Lib.hid qe
  clear h qe hx hwf
  have HLE := Lib.hid hle
  clear hle
  cases hte : lastEnds l with
  | false =>
    rw [hte] at hA0 QE
    rw [if_pos rfl] at hA0
    have HA := Lib.hid hA0
    clear hA0 hte
    go_enter Try.func9, Try.ntmps9
    go_wp2_with fail
    refine (QE.out _).mono ?_
    rintro e w1 ⟨rfl, rfl⟩
    go_wp2_with fail
    exact bodyPost_ret (v := .agg #[.int .i64 ((l.length - 1 : Nat) : Int), .int .i64 1]) (by simp [results, Try.results9, go_sem]) rfl ⟨by rw [HA.out], (Below.refl _ _).alloc (Nat.le_refl _) _⟩
  | true =>
    rw [hte] at hA0 QE
    rw [if_neg (by decide)] at hA0
    have hf3 := fault3 hte
    have HTE := Lib.hid hte
    clear hte
    obtain ⟨f, hf⟩ : ∃ f, (List.range l.length).find? (badP l) = f := ⟨_, rfl⟩
    rw [hf] at hA0 hf3
    have HF := Lib.hid hf
    have HA0 := Lib.hid hA0
    have HF3 := Lib.hid hf3
    clear hA0 hf hf3
    go_enter Try.func9, Try.ntmps9
    go_wp2_with fail
    refine (QE.out _).mono ?_
    rintro e w1 ⟨rfl, rfl⟩
    go_wp2_with fail
    have hbw1 : Below w.heap.size w ((w.alloc (.cells #[.int .i64 0, .int .i64 0] 25)).alloc (.cells #[.int .i64 1, .func (.func 26) #[] #[], .int .i64 3, .func (.func 27) #[] #[], .int .i64 8, .func (.func 28) #[] #[]] 49)) := ((Below.refl _ _).alloc (Nat.le_refl _) _).alloc (by simp) _
    have HB1 := Lib.hid hbw1
    clear hbw1
    have hq3 := firstFault_any _ l (w.heap.size + 1) 3 code3 fun3 (fun _ => #[]) (p3 l) _ ((HH.out.below HB1.out).up HB1.out.size) (by omega) (by omega) (by simp) (cells3 w _ _) (funs3 w _ _) enter3 (call3 _ l w HH.out (by omega) _ HB1.out)
    rw [HF3.out] at hq3
    cases f with
    | some i =>
      have hi : i < l.length := List.mem_range.1 (List.mem_of_find?_eq_some HF.out)
      have hbad : badAt l i ≠ 0 := by
        have hp := List.find?_some HF.out
        have hx := List.getElem?_eq_getElem hi
        have hb : badP l i = (badI l.length i l[i] != 0) := by unfold badP; rw [hx]
        have ha : badAt l i = badI l.length i l[i] := by unfold badAt; rw [hx]
        rw [hb] at hp
        rw [ha]
        simpa using hp
      have hn0 : (badAt l i != 0) = true := by simpa using hbad
      have HA := Lib.hid (show checkL l = ((i : Int), badAt l i) from HA0.out)
      clear HA0 HF3 HF
      simp only at hq3
      have HQ3 := Lib.hid hq3
      clear hq3 hbad
      generalize badAt l i = bd at *
      refine HQ3.out.mono ?_
      rintro e w2 ⟨rfl, hb2⟩
      have hbx := (Below.refl _ (w.alloc (.cells #[.int .i64 0, .int .i64 0] 25))).trans (((Below.refl _ _).alloc (Nat.le_refl _) _).trans (hb2.mono (by simp)))
      have HBX := Lib.hid hbx
      have d0 := box_cell hbx 0
      have d1 := box_cell hbx 1
      have f0 := box_free hbx 0
      have f1 := box_free hbx 1
      have hlt : w.heap.size < w2.heap.size := by have := hbx.size; simp at this; omega
      simp only [List.getElem?_toArray, List.getElem?_cons_zero, List.getElem?_cons_succ] at d0 d1
      clear hbx hb2
      go_wp2_with fail
      exact bodyPost_ret (v := .agg #[.int .i64 i, .int .i64 bd]) (by simp [results, Try.results9, go_sem, d0, d1, f0, f1, hlt, World.cell?_alloc_past]) rfl ⟨by rw [HA.out], (((box_below HBX.out).setCell (p := ⟨w.heap.size, 0, none⟩) (Nat.le_refl _) _).setCell (p := ⟨w.heap.size, 1, none⟩) (Nat.le_refl _) _).alloc (by simp; omega) _⟩
    | none =>
      have hok : ∀ (i : Nat) (hi : i < l.length), insRight l[i] = true ∧ (cellC l[i].c = true → l[i].k ≤ 15) ∧ ∀ t ∈ nextI l[i] i, 0 ≤ t ∧ t < l.length := fun i hi => bad_zero (n := l.length) (i := i) (x := l[i]) (by
        have hx := List.getElem?_eq_getElem hi
        have hb : badP l i = (badI l.length i l[i] != 0) := by unfold badP; rw [hx]
        have := List.find?_range_eq_none.1 HF.out i hi
        rw [hb] at this
        simpa using this)
      simp only at hq3
      have HOK := Lib.hid hok
      have HQ3 := Lib.hid hq3
      clear hq3 hok
      refine HQ3.out.mono ?_
      rintro e w2 ⟨rfl, hb2⟩
      have hbx := (Below.refl _ (w.alloc (.cells #[.int .i64 0, .int .i64 0] 25))).trans (((Below.refl _ _).alloc (Nat.le_refl _) _).trans (hb2.mono (by simp)))
      have hbx2 := hbx.alloc hbx.size (.cells #[.int .i64 0, .int .i64 0] 25)
      have HBX2 := Lib.hid hbx2
      clear hbx hbx2 hb2
      have HCA := Lib.hid (fun W (hW : InsAt W W.heap.size (.slice (some ⟨b, o, none⟩) l.length cap) l) => cellsAhead_any _ l W hW (by omega) (by omega) (fun i hi => ⟨(HOK.out i hi).1, fun h23 => (HOK.out i hi).2.1 (by rcases h23 with e | e <;> rw [e] <;> rfl), (HOK.out i hi).2.2⟩))
      go_wp2_with fail
      refine (HCA.out _ ((HH.out.below (box_below HBX2.out)).up (box_below HBX2.out).size)).mono ?_
      rintro e w4 ⟨u, rfl, ho4, hb4⟩
      obtain ⟨ua, ucap, rfl⟩ := OwnL.slice ho4
      have hL4 := Lib.hid (ho4.lAt u16S fun _ _ => trivial : LAt u16C 1 (fun _ => True) w4 w4.heap.size _ (wrL l))
      have hwl : (wrL l).length = l.length := wrK_length l _
      rw [hwl] at hL4 ⊢
      have HB4 := Lib.hid (HBX2.out.trans (hb4.mono HBX2.out.size))
      clear ho4 hb4 hwl
      go_wp2_with fail
      refine (readsUnwritten_any ua l.length ucap _).mono ?_
      rintro e w5 ⟨rfl, rfl⟩
      go_wp2_with fail
      have hM := wrK_m16 (l := l) (fun x hx h23 => by
        obtain ⟨i, hi, rfl⟩ := List.getElem_of_mem hx
        exact (HOK.out i hi).2.1 (by rcases h23 with e | e <;> rw [e] <;> rfl)) l.length
      have hR : ∀ x ∈ l, readsC x.c = true → 0 ≤ x.k ∧ x.k ≤ 15 := fun x hx hr => by
        obtain ⟨i, hi, rfl⟩ := List.getElem_of_mem hx
        refine ⟨(ins_bd (HOK.out i hi).1).2.2.2.1, (HOK.out i hi).2.1 ?_⟩
        simp only [readsC, cellC, List.contains_eq_mem, List.mem_cons, List.not_mem_nil, or_false, decide_eq_true_eq] at hr ⊢
        rcases hr with e | e <;> simp [e]
      have HA := Lib.hid (show checkL l = faultAt (p1 l) (fun _ => 6) 1 l.length from HA0.out.trans (fault1 hM hR).symm)
      have hb6 : Below w.heap.size w ((w4.alloc (.cells #[.slice ua l.length ucap] 52)).alloc (.cells #[.int .i64 6, .func (.func 41) #[] #[.pointer (some ⟨w4.heap.size, 0, none⟩)]] 49)) := ((box_below HB4.out).alloc (box_below HB4.out).size _).alloc (Nat.le_trans (box_below HB4.out).size (by simp)) _
      have HB6 := Lib.hid hb6
      clear hb6
      have hq1 := firstFault_any _ l (w4.heap.size + 1) 1 (fun _ => 6) (fun _ => 41) (fun _ => #[.pointer (some ⟨w4.heap.size, 0, none⟩)]) (p1 l) _ ((HH.out.below HB6.out).up HB6.out.size) (by omega) (by omega) (by simp) (cells1 w4 _ _ _) (funs1 w4 _ _ _) (fun _ _ => Try.call41) (call1 _ l w HH.out (by omega) _ ua l.length ucap w4 _ HB6.out hL4.out hM hR)
      have HQ1 := Lib.hid hq1
      clear hq1 hM hR
      generalize faultAt (p1 l) (fun _ => 6) 1 l.length = fa at *
      refine HQ1.out.mono ?_
      rintro e w6 ⟨rfl, hb6⟩
      have hbx := HB4.out.trans ((((Below.refl _ _).alloc (Nat.le_refl _) _).alloc (by simp) _).trans (hb6.mono (by simp; omega)) |>.mono HB4.out.size)
      have HBX := Lib.hid hbx
      have d0 := box_cell hbx 0
      have d1 := box_cell hbx 1
      have f0 := box_free hbx 0
      have f1 := box_free hbx 1
      simp only [List.getElem?_toArray, List.getElem?_cons_zero, List.getElem?_cons_succ] at d0 d1
      clear hbx hb6
      go_wp2_with fail
      exact bodyPost_ret (v := .agg #[.int .i64 fa.1, .int .i64 fa.2]) (by simp [results, Try.results9, go_sem, d0, d1, f0, f1]) rfl ⟨by rw [HA.out], ((box_below HBX.out).setCell (p := ⟨w.heap.size, 0, none⟩) (Nat.le_refl _) _).setCell (p := ⟨w.heap.size, 1, none⟩) (Nat.le_refl _) _⟩

end Go.Proofs.Ytibbcafhchoiiaa
