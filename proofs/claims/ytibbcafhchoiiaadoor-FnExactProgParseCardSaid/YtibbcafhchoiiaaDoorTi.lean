/- showsK and shown of the program. -/
import Derived.Test.YtibbcafhchoiiaaDoorLk
import Derived.Test.YtibbcafhchoiiaaDoorIo
import Derived.Test.YtibbcafhchoiiaaDoorFl
import Derived.Test.YtibbcafhchoiiaaDoorGb
import Derived.Test.YtibbcafhchoiiaaDoorSh
import Derived.Deep.DeepCutAuto
import Derived.Deep.CutRange
import Derived.StillTailTactics
import Derived.Deep.RegionLaw
import Derived.Deep.Draws
set_option maxRecDepth 100000
set_option linter.unusedSimpArgs false
set_option linter.unusedVariables false
namespace Go.Proofs.YtibbcafhchoiiaaDoor
open Go.RowKit

def showsKI (c : Int) : Bool := if c = 7 ∨ c = 135 ∨ c = 22 ∨ c = 132 then false else if c = 1 ∨ c = 97 ∨ c = 3 then true else !(Lib.hasSuffix (opNameL c) [120])
theorem showsK_op {c : Int} (h : isOp c = true) : showsKI c = !noKC c := by
  have key : ∀ c ∈ opCodesL, showsKI c = !noKC c := by decide
  exact key c (by simpa [isOp] using h)

theorem looksP_any (c : Int) (w : World) : Calls Tryd.prog 40 #[.int .i64 c] w fun e w' => e = .returned (.bool (looksC c)) ∧ w = w' := by
  by_cases h : c = 21 ∨ c = 37 ∨ c = 53 ∨ c = 69 ∨ c = 29 ∨ c = 45 ∨ c = 61 ∨ c = 77
  · rcases h with rfl | rfl | rfl | rfl | rfl | rfl | rfl | rfl
    all_goals
      go_enter Tryd.func40, Tryd.ntmps40
      go_wp2
      go_ret
      exact ⟨ret_bool (by decide), rfl⟩
  · simp only [not_or] at h
    obtain ⟨h0, h1, h2, h3, h4, h5, h6, h7⟩ := h
    have HL := Lib.hid (show looksC c = false by simp [looksC, *])
    have e0 := eq_false_of h0
    have e1 := eq_false_of h1
    have e2 := eq_false_of h2
    have e3 := eq_false_of h3
    have e4 := eq_false_of h4
    have e5 := eq_false_of h5
    have e6 := eq_false_of h6
    have e7 := eq_false_of h7
    clear h0 h1 h2 h3 h4 h5 h6 h7
    go_enter Tryd.func40, Tryd.ntmps40
    go_wp2
    go_ret
    exact ⟨ret_bool HL.out.symm, rfl⟩

set_option maxHeartbeats 1600000 in
theorem showsK_any (c : Int) (w : World) : Calls Tryd.prog 41 #[.int .i64 c] w fun e w' => e = .returned (.bool (showsKI c)) ∧ Below w.heap.size w w' := by
  by_cases h : c = 7 ∨ c = 135 ∨ c = 22 ∨ c = 132
  · have HR := Lib.hid (show showsKI c = false from if_pos h)
    rcases h with rfl | rfl | rfl | rfl
    all_goals
      go_enter Tryd.func41, Tryd.ntmps41
      go_wp2_with fail
      go_ret
      exact ⟨ret_bool HR.out.symm, Below.refl _ _⟩
  by_cases h2 : c = 1 ∨ c = 97 ∨ c = 3
  · have HR := Lib.hid (show showsKI c = true from (if_neg h).trans (if_pos h2))
    clear h
    rcases h2 with rfl | rfl | rfl
    all_goals
      go_enter Tryd.func41, Tryd.ntmps41
      go_wp2_with fail
      go_ret
      exact ⟨ret_bool HR.out.symm, Below.refl _ _⟩
  · have hr := show showsKI c = !(Lib.hasSuffix (opNameOf c).data.toList [120]) from (if_neg h).trans (if_neg h2)
    simp only [not_or] at h h2
    obtain ⟨h0, h1, h3, h4⟩ := h
    obtain ⟨h5, h6, h7⟩ := h2
    have e0 := eq_false_of h0
    have e1 := eq_false_of h1
    have e3 := eq_false_of h3
    have e4 := eq_false_of h4
    have e5 := eq_false_of h5
    have e6 := eq_false_of h6
    have e7 := eq_false_of h7
    clear h0 h1 h3 h4 h5 h6 h7
    have qo := fun W => nameOfOp_any c W
    have qs := fun W => Tryd.strings_HasSuffix (opNameOf c) ⟨#[120]⟩ W (by
      have : (opNameOf c).size ≤ 6 := by
        have key : ∀ (l : List (Int × List UInt8)), (∀ p ∈ l, p.2.length ≤ 6) → (opFind l c).length ≤ 6 := by
          intro l
          induction l with
          | nil => intro _; simp [opFind]
          | cons p l ih =>
            intro h
            simp only [opFind]
            split
            · exact h p (by simp)
            · exact ih fun q hq => h q (by simp [hq])
        exact key _ (by decide)
      omega)
    rw [show (⟨#[120]⟩ : ByteArray).data.toList = [120] from rfl] at qs
    generalize Lib.hasSuffix (opNameOf c).data.toList [120] = t at *
    generalize opNameOf c = nm at *
    have HR := Lib.hid hr
    have QO := Lib.hid qo
    have QS := Lib.hid qs
    clear hr qo qs
    go_enter Tryd.func41, Tryd.ntmps41
    go_wp2_with fail
    refine (QO.out _).mono ?_
    rintro e w1 ⟨rfl, hb1⟩
    have HB := Lib.hid hb1
    clear hb1
    go_wp2_with fail
    refine (QS.out _).mono ?_
    rintro e w2 ⟨rfl, hw⟩
    subst hw
    go_wp2_with fail
    go_ret
    exact ⟨ret_bool HR.out.symm, HB.out⟩

/-- The places of the fields that stand in a word's line, and the pointers to them. -/
def fldsI (c : Int) : List Nat := (if looksC c then [1, 2] else []) ++ (if showsKI c then [3] else [])
def ptrC (X : Nat) (i : Nat) : List Value := [.pointer (some ⟨X, i, none⟩)]
theorem ptrS (X i : Nat) : (ptrC X i).length = 1 := rfl
theorem info_ptr : (Tryd.prog.info? 53).map (fun i => (i.zero, i.size, i.bytes)) = some (some (.pointer none), 1, 8) := by kernel_rfl
abbrev PtrOwn (X base : Nat) (w : World) (v : Value) (l : List Nat) : Prop := OwnL 53 1 (ptrC X) base w v l

theorem wpList_push_ptrs {ops : Array Oper} {rest : List Oper} {o : Oper} {a : Act} {Q : Exit → Act → World → Prop} (hgd : o.guard = none) (s x : Operand)
    (ho : o.op = .call { callee := .builtin .append, args := #[s, x], argTypes := #[50, 50] }) (wr : World) (X : Nat) (cs : Array Value) (is : List Nat) (hcs : cs.toList = is.flatMap (ptrC X)) (m : Nat) (hm : is.length = m)
    (base : Nat) (v : Value) (l : List Nat) (hs : a.eval s = v) (hown : PtrOwn X base wr v l)
    (hx : a.eval x = .slice (some ⟨wr.heap.size, 0, none⟩) m m) (hlen : l.length ≤ 1000) (hml : m ≤ 10) (hbase : base ≤ wr.heap.size)
    (h : ∀ v' w', PtrOwn X base w' v' (l ++ is) → GrB wr w' v v' → wpList Tryd.prog ops Q rest (a.put o.dst v') w') :
    wpList Tryd.prog ops Q (o :: rest) a (wr.alloc (.cells cs 53)) := by
  obtain ⟨i0, hi, hz0, hz1, hz2⟩ := info_parts info_ptr
  refine wpList_append_own_at _ hgd s x 50 ho base 53 i0 _ 1 8 Tryd.underlying50 hi hz0 hz1 hz2 rfl (by decide) v l.length (l.flatMap (ptrC X)) hs
    (World.ownsRow.alloc hown _) ⟨wr.heap.size, 0, none⟩ m m (is.flatMap (ptrC X)) hx (by rw [flat_length (ptrS X), hm]) (fun j u hj => ?_) (by intro u hu; simp only [List.mem_flatMap, ptrC, List.mem_singleton] at hu; obtain ⟨i, _, rfl⟩ := hu; rfl) (by unfold maxLen; omega) (by omega) (by simp; omega) ?_
  · rw [add_at, Nat.zero_add, World.cell?_alloc_at _ _ _ _ rfl, ← hj, ← hcs]; simp
  intro v' w' hown' hg _ hat
  refine h v' w' ?_ (GrB.alloc ⟨hg, ?_⟩)
  · unfold PtrOwn OwnL
    rw [List.flatMap_append, List.length_append, hm]
    exact hown'
  · rcases hat with e | e
    · exact .inl e
    · exact .inr fun g hg' => by rw [e] at hg'; injection hg' with hg'; omega

theorem two_ptrs (X g : Nat) (W : World) (h1 : W.cell? ⟨g, 0, none⟩ = some (.pointer (some ⟨X, 1, none⟩))) (h2 : W.cell? ⟨g, 1, none⟩ = some (.pointer (some ⟨X, 2, none⟩))) :
    ∀ j u, ([1, 2].flatMap (ptrC X))[j]? = some u → W.cell? ⟨g, j, none⟩ = some u := by
  intro j u hj
  match j, hj with
  | 0, hj => rw [h1, ← hj]; rfl
  | 1, hj => rw [h2, ← hj]; rfl
theorem two_ptrs_new (X : Nat) (w : World) (E : TypeId) : ∀ j u, ([1, 2].flatMap (ptrC X))[j]? = some u → ((w.alloc (.cells #[.pointer (some ⟨X, 1, none⟩), .pointer (some ⟨X, 2, none⟩)] E)).drew).cell? ⟨w.heap.size, j, none⟩ = some u :=
  two_ptrs X _ _ (show (w.alloc (.cells #[.pointer (some ⟨X, 1, none⟩), .pointer (some ⟨X, 2, none⟩)] E)).cell? ⟨w.heap.size, 0, none⟩ = some (.pointer (some ⟨X, 1, none⟩)) from World.cell?_alloc_at _ _ _ _ rfl)
    (show (w.alloc (.cells #[.pointer (some ⟨X, 1, none⟩), .pointer (some ⟨X, 2, none⟩)] E)).cell? ⟨w.heap.size, 1, none⟩ = some (.pointer (some ⟨X, 2, none⟩)) from World.cell?_alloc_at _ _ _ _ rfl)
theorem step_push_ptrs {ops : Array Oper} {o : Oper} {a : Act} {K : Act → World → Prop} {Q : Exit → Act → World → Prop} {E : Prop} {w : World} (hgd : o.guard = none) (s x : Operand)
    (ho : o.op = .call { callee := .builtin .append, args := #[s, x], argTypes := #[50, 50] }) (X : Nat) (is : List Nat) (m : Nat) (hm : is.length = m)
    (base : Nat) (v : Value) (l : List Nat) (hs : a.eval s = v) (hown : PtrOwn X base w v l) (g : Nat)
    (hx : a.eval x = .slice (some ⟨g, 0, none⟩) m m) (hnews : ∀ j u, (is.flatMap (ptrC X))[j]? = some u → w.cell? ⟨g, j, none⟩ = some u) (hlen : l.length ≤ 1000) (hml : m ≤ 10) (hbase : base ≤ w.heap.size)
    (h : ∀ v' w', PtrOwn X base w' v' (l ++ is) → w.grownBy w' v.ownBlock → K (a.put o.dst v') w') :
    if Region.wanted o (yielded ops a.tmps) = true then Oper.wp Tryd.prog o a w K Q else E := by
  have hw : Region.wanted o (yielded ops a.tmps) = true := by simp [Region.wanted, hgd]
  rw [if_pos hw]
  obtain ⟨i0, hi, hz0, hz1, hz2⟩ := info_parts info_ptr
  obtain ⟨v', w', hr, h2, h3, _, _⟩ := run_append_own_at (P := Tryd.prog) w base 50 o.type 53 i0 _ 1 8 Tryd.underlying50 hi hz0 hz1 hz2 rfl (by decide) v l.length (l.flatMap (ptrC X)) hown ⟨g, 0, none⟩ m m (is.flatMap (ptrC X)) (by rw [flat_length (ptrS X), hm]) (fun j u hj => by rw [add_at, Nat.zero_add]; exact hnews j u hj) (by intro u hu; simp only [List.mem_flatMap, ptrC, List.mem_singleton] at hu; obtain ⟨i, _, rfl⟩ := hu; rfl) (by unfold maxLen; omega) (by omega) hbase
  unfold Oper.wp execOp
  simp only [ho, resolve, invoke, builtin, Sem.run_bind, Sem.run_pure, Result.andThen_ok, List.map_toArray, List.map_cons, List.map_nil, hs, hx, hr]
  refine h _ _ ?_ h3
  unfold PtrOwn OwnL
  rw [List.flatMap_append, List.length_append, hm]
  exact h2

set_option maxHeartbeats 1600000 in
theorem shown_any (X : Nat) (c : Int) (w : World) (hc : w.cell? ⟨X, 0, none⟩ = some (.int .i64 c)) (hX : X < w.heap.size) :
    Calls Tryd.prog 22 #[.pointer (some ⟨X, 0, none⟩)] w fun e w' => ∃ u, e = .returned u ∧ PtrOwn X w.heap.size w' u (fldsI c) ∧ Below w.heap.size w w' := by
  have ql := fun W => looksP_any c W
  have qk := fun W => showsK_any c W
  have HQK := Lib.hid qk
  obtain ⟨l1, hl1⟩ : ∃ l1 : List Nat, l1 = if looksC c then [1, 2] else [] := ⟨_, rfl⟩
  have hF : fldsI c = l1 ++ (if showsKI c then [3] else []) := by rw [hl1]; rfl
  have HF := Lib.hid hF
  have HL1 := Lib.hid hl1
  have HQL := Lib.hid ql
  clear ql qk hl1 hF
  go_enter Tryd.func22, Tryd.ntmps22
  go_wp2_with fail
  refine (HQL.out _).mono ?_
  rintro e w1 ⟨rfl, rfl⟩
  go_upto_if 8 with fail
  go_cut [3] from 8 to 17 (fun s ws => PtrOwn X w.heap.size ws s l1 ∧ Below w.heap.size w ws)
  case first =>
    cases hl : looksC c with
    | false =>
      have HX := Lib.hid (HL1.out.trans (by rw [hl]; rfl) : l1 = [])
      clear hl
      go_wp2_with fail
      go_meet
      exact ⟨by rw [HX.out]; exact OwnL.nil _ _, Below.refl _ _⟩
    | true =>
      have HX := Lib.hid (HL1.out.trans (by rw [hl]; rfl) : l1 = [1, 2])
      clear hl
      go_wp2_with fail
      go_region_law (refine step_push_ptrs (by rfl) _ _ (by rfl) X [1, 2] 2 (by rfl) w.heap.size _ [] (by rfl) (OwnL.nil _ _) w.heap.size (by rfl) (two_ptrs_new X w _) (by simp) (by omega) (by simp) ?_; intro v3 w3 hown3 hg3)
      have hb3 := ((Below.refl w.heap.size w).alloc (Nat.le_refl _) (.cells #[.pointer (some ⟨X, 1, none⟩), .pointer (some ⟨X, 2, none⟩)] 53)).drew.grown hg3 (by simp) (fun q hq => by cases hq)
      go_wp2_with fail
      go_meet
      exact ⟨by rw [HX.out]; exact hown3, hb3⟩
  case rest =>
  obtain ⟨hown, hbw⟩ := hcut
  have hc2 := (hbw.cell (p := ⟨X, 0, none⟩) hX).trans hc
  have HO := Lib.hid hown
  have HB := Lib.hid hbw
  clear hc hown hbw
  go_wp2_with fail
  refine (HQK.out _).mono ?_
  rintro e w3 ⟨rfl, hb3⟩
  have HO3 := Lib.hid (HO.out.below hb3)
  have hb3' := HB.out.trans (hb3.mono HB.out.size)
  have HB3 := Lib.hid hb3'
  have hsz := hb3'.size
  clear hb3 hb3'
  cases hk : showsKI c with
  | false =>
    have HX := Lib.hid (HF.out.trans (by rw [hk]; simp) : fldsI c = l1)
    clear hk
    go_wp2_with fail
    go_ret
    exact ⟨_, rfl, by rw [HX.out]; exact HO3.out, HB3.out⟩
  | true =>
    have HX := Lib.hid (HF.out.trans (by rw [hk]; simp) : fldsI c = l1 ++ [3])
    have hl1 : l1.length ≤ 1000 := by rw [HL1.out]; split <;> simp
    clear hk
    go_wp2_with (at_builtin; refine wpList_push_ptrs rfl _ _ (by rfl) _ X _ [3] (by rfl) 1 (by rfl) w.heap.size _ l1 (by rfl) HO3.out (by rfl) hl1 (by omega) hsz ?_; intro v4 w4 hown4 hg4)
    have hb4 := hg4.below HB3.out hsz (fun q hq => (HO3.out.lt q hq).1)
    go_ret
    exact ⟨_, rfl, by rw [HX.out]; exact hown4, hb4⟩

end Go.Proofs.YtibbcafhchoiiaaDoor
