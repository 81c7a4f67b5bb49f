/- Ways and Written, of the model and of the program; a program that is let by, and a place of it. -/
import Derived.Test.YtibbcafhchoiiaaCl
set_option maxRecDepth 100000
set_option linter.unusedSimpArgs false
set_option linter.unusedVariables false
namespace Go.Proofs.Ytibbcafhchoiiaa
open Go.RowKit

def goodI (l : List Ins) (at_ : Int) : Bool := (checkL l).2 == 0 && isB at_ 0 ((l.length : Int) - 1)
theorem good_facts {l : List Ins} (h : (checkL l).2 = 0) : 1 ≤ l.length ∧ l.length ≤ 400 ∧ ∀ (i : Nat) (hi : i < l.length), insRight l[i] = true ∧ (cellC l[i].c = true → l[i].k ≤ 15) ∧ ∀ t ∈ nextI l[i] i, 0 ≤ t ∧ t < l.length := by
  unfold checkL at h
  split at h
  · simp at h
  split at h
  · simp at h
  split at h
  · simp at h
  rename_i h1 h2 h3
  refine ⟨by omega, by omega, fun i hi => bad_zero (n := l.length) (i := i) (x := l[i]) ?_⟩
  cases hf : (List.range l.length).find? (badP l) with
  | some j =>
    rw [hf] at h
    simp only at h
    have hj : j < l.length := List.mem_range.1 (List.mem_of_find?_eq_some hf)
    have hp := List.find?_some hf
    have hx := List.getElem?_eq_getElem hj
    have hb : badP l j = (badI l.length j l[j] != 0) := by unfold badP; rw [hx]
    have ha : badAt l j = badI l.length j l[j] := by unfold badAt; rw [hx]
    rw [hb] at hp
    rw [ha] at h
    rw [h] at hp
    simp at hp
  | none =>
    have hx := List.getElem?_eq_getElem hi
    have hb : badP l i = (badI l.length i l[i] != 0) := by unfold badP; rw [hx]
    have := List.find?_range_eq_none.1 hf i hi
    rw [hb] at this
    simpa using this
theorem good_store {l : List Ins} (h : ∀ (i : Nat) (hi : i < l.length), insRight l[i] = true ∧ (cellC l[i].c = true → l[i].k ≤ 15) ∧ ∀ t ∈ nextI l[i] i, 0 ≤ t ∧ t < l.length) :
    ∀ (i : Nat) (hi : i < l.length), insRight l[i] = true ∧ (l[i].c = 2 ∨ l[i].c = 3 → l[i].k ≤ 15) ∧ ∀ t ∈ nextI l[i] i, 0 ≤ t ∧ t < l.length :=
  fun i hi => ⟨(h i hi).1, fun h23 => (h i hi).2.1 (by rcases h23 with e | e <;> rw [e] <;> rfl), (h i hi).2.2⟩
theorem code_out (w : World) (a b : Value) : (Instr.field 25 (.agg #[a, b]) 1).run Try.prog w = .ok b w := by
  simp [Instr.field, part, asAgg, go_sem]

theorem specGood_any (v : Value) (l : List Ins) (at_ : Int) (w : World) (h : InsAt w w.heap.size v l) (ha : In64 at_) :
    Calls Try.prog 32 #[v, .int .i64 at_] w fun e w' => e = .returned (.bool (goodI l at_)) ∧ Below w.heap.size w w' := by
  obtain ⟨a, cap, rfl, hlc, hcm⟩ := h.len
  unfold maxLen at hcm
  have hf := code_out
  have hq := Check_any _ l w h
  have q2 := fun W => l02Is_any at_ 0 ((l.length : Int) - 1) W
  have HG := Lib.hid (show goodI l at_ = ((checkL l).2 == 0 && isB at_ 0 ((l.length : Int) - 1)) from rfl)
  generalize isB at_ 0 ((l.length : Int) - 1) = t at *
  generalize goodI l at_ = g at *
  generalize checkL l = r at *
  obtain ⟨rp, rq⟩ := r
  simp only at hq HG
  have HQ := Lib.hid hq
  have Q2 := Lib.hid q2
  clear hq q2 h
  by_cases h0 : rq = 0
  · subst h0
    go_enter Try.func32, Try.ntmps32
    go_wp2_with fail
    refine HQ.out.mono ?_
    rintro e w1 ⟨rfl, hb1⟩
    have HB := Lib.hid hb1
    clear hb1
    go_wp2_with fail
    refine (Q2.out _).mono ?_
    rintro e w2 ⟨rfl, rfl⟩
    go_wp2_with fail
    go_ret
    exact ⟨ret_bool (by rw [HG.out]; rfl), HB.out⟩
  · have e0 : (rq == 0) = false := eq_false_of h0
    have HG2 := Lib.hid (HG.out.trans (by rw [e0]; rfl) : g = false)
    clear h0
    go_enter Try.func32, Try.ntmps32
    go_wp2_with fail
    refine HQ.out.mono ?_
    rintro e w1 ⟨rfl, hb1⟩
    have HB := Lib.hid hb1
    clear hb1
    go_wp2_with fail
    go_ret
    exact ⟨ret_bool HG2.out.symm, HB.out⟩

theorem hasPlace_any (v : Value) (l : List Ins) (at_ : Int) (w : World) (h : InsAt w w.heap.size v l) (ha : In64 at_) :
    Calls Try.prog 34 #[v, .int .i64 at_] w fun e w' => e = .returned (.bool (goodI l at_)) ∧ Below w.heap.size w w' := by
  obtain ⟨a, cap, rfl, hlc, hcm⟩ := h.len
  unfold maxLen at hcm
  have hf := code_out
  have hq := implCheck_any _ l w h
  have q2 := fun W => within_any at_ ((l.length : Int) - 1) W
  have HG := Lib.hid (show goodI l at_ = ((checkL l).2 == 0 && isB at_ 0 ((l.length : Int) - 1)) from rfl)
  generalize isB at_ 0 ((l.length : Int) - 1) = t at *
  generalize goodI l at_ = g at *
  generalize checkL l = r at *
  obtain ⟨rp, rq⟩ := r
  simp only at hq HG
  have HQ := Lib.hid hq
  have Q2 := Lib.hid q2
  clear hq q2 h
  by_cases h0 : rq = 0
  · subst h0
    go_enter Try.func34, Try.ntmps34
    go_wp2_with fail
    refine HQ.out.mono ?_
    rintro e w1 ⟨rfl, hb1⟩
    have HB := Lib.hid hb1
    clear hb1
    go_wp2_with fail
    refine (Q2.out _).mono ?_
    rintro e w2 ⟨rfl, rfl⟩
    go_wp2_with fail
    go_ret
    exact ⟨ret_bool (by rw [HG.out]; rfl), HB.out⟩
  · have e0 : (rq == 0) = false := eq_false_of h0
    have HG2 := Lib.hid (HG.out.trans (by rw [e0]; rfl) : g = false)
    clear h0
    go_enter Try.func34, Try.ntmps34
    go_wp2_with fail
    refine HQ.out.mono ?_
    rintro e w1 ⟨rfl, hb1⟩
    have HB := Lib.hid hb1
    clear hb1
    go_wp2_with fail
    go_ret
    exact ⟨ret_bool HG2.out.symm, HB.out⟩

theorem good_true {l : List Ins} {at_ : Int} (h : goodI l at_ = true) : (checkL l).2 = 0 ∧ ∃ k : Nat, at_ = k ∧ k < l.length := by
  unfold goodI isB at h
  simp only [Bool.and_eq_true, beq_iff_eq, decide_eq_true_eq] at h
  obtain ⟨h0, h1, h2⟩ := h
  obtain ⟨k, rfl⟩ := Int.eq_ofNat_of_zero_le h1
  exact ⟨h0, k, rfl, by omega⟩
def writtenI (l : List Ins) (at_ : Int) : Int := if goodI l at_ then (wrL l).getD at_.toNat 0 else -1

theorem specWritten_any (v : Value) (l : List Ins) (at_ : Int) (w : World) (h : InsAt w w.heap.size v l) (ha : In64 at_) :
    Calls Try.prog 18 #[v, .int .i64 at_] w fun e w' => e = .returned (.int .i64 (writtenI l at_)) ∧ Below w.heap.size w w' := by
  obtain ⟨a, cap, rfl, hlc, hcm⟩ := h.len
  unfold maxLen at hcm
  have HH := Lib.hid h
  have hq := specGood_any _ l at_ w h ha
  cases hg : goodI l at_ <;> rw [hg] at hq
  · have HW := Lib.hid (show writtenI l at_ = -1 by unfold writtenI; rw [hg]; rfl)
    have HQ := Lib.hid hq
    clear h hq hg
    go_enter Try.func18, Try.ntmps18
    go_wp2_with fail
    refine HQ.out.mono ?_
    rintro e w1 ⟨rfl, hb1⟩
    have HB := Lib.hid hb1
    clear hb1
    go_wp2_with fail
    go_ret
    exact ⟨ret_int HW.out.symm, HB.out⟩
  · obtain ⟨hc, k, rfl, hk⟩ := good_true hg
    obtain ⟨hn1, hn2, hok⟩ := good_facts hc
    obtain ⟨m, hm⟩ : ∃ m, (wrL l)[k]? = some m := ⟨_, List.getElem?_eq_getElem (by rw [show (wrL l).length = l.length from wrK_length l _]; exact hk)⟩
    have HW := Lib.hid (show writtenI l (k : Int) = m by unfold writtenI; rw [hg, if_pos rfl, Int.toNat_natCast, List.getD_eq_getElem?_getD, hm]; rfl)
    have HM := Lib.hid hm
    have HQ := Lib.hid hq
    have HOK := Lib.hid (good_store hok)
    clear h hq hg hm hok hc
    go_enter Try.func18, Try.ntmps18
    go_wp2_with fail
    refine HQ.out.mono ?_
    rintro e w1 ⟨rfl, hb1⟩
    have HB := Lib.hid hb1
    clear hb1
    go_wp2_with fail
    refine (l04Written_any _ l _ ((HH.out.below HB.out).up HB.out.size) hn1 (by omega) (fun i hi => ⟨(HOK.out i hi).1, fun h => Int.le_trans ((HOK.out i hi).2.1 h) (by decide), (HOK.out i hi).2.2⟩)).mono ?_
    rintro e w2 ⟨u, rfl, ho, hb2⟩
    obtain ⟨ua, ucap, rfl⟩ := OwnL.slice ho
    obtain ⟨ub, uo, e, hub, hcell, _⟩ := LAt.at_ (intAt_own ho) HM.out
    subst e
    have d := hcell 0 _ rfl
    simp only [Nat.mul_one, Nat.add_zero] at d
    have HB2 := Lib.hid (HB.out.trans (hb2.mono HB.out.size))
    have hwl : (wrL l).length = l.length := wrK_length l _
    have hkw : k < (wrL l).length := by omega
    have hnl := OwnL.cap_le ho
    unfold maxLen at hnl
    clear hcell ho hb2 hwl
    go_wp2_with fail
    go_ret
    exact ⟨ret_int HW.out.symm, HB2.out⟩

theorem implWritten_any (v : Value) (l : List Ins) (at_ : Int) (w : World) (h : InsAt w w.heap.size v l) (ha : In64 at_) :
    Calls Try.prog 19 #[v, .int .i64 at_] w fun e w' => e = .returned (.int .i64 (writtenI l at_)) ∧ Below w.heap.size w w' := by
  obtain ⟨a, cap, rfl, hlc, hcm⟩ := h.len
  unfold maxLen at hcm
  have HH := Lib.hid h
  have hq := hasPlace_any _ l at_ w h ha
  cases hg : goodI l at_ <;> rw [hg] at hq
  · have HW := Lib.hid (show writtenI l at_ = -1 by unfold writtenI; rw [hg]; rfl)
    have HQ := Lib.hid hq
    clear h hq hg
    go_enter Try.func19, Try.ntmps19
    go_wp2_with fail
    refine HQ.out.mono ?_
    rintro e w1 ⟨rfl, hb1⟩
    have HB := Lib.hid hb1
    clear hb1
    go_wp2_with fail
    go_ret
    exact ⟨ret_int HW.out.symm, HB.out⟩
  · obtain ⟨hc, k, rfl, hk⟩ := good_true hg
    obtain ⟨hn1, hn2, hok⟩ := good_facts hc
    obtain ⟨m, hm⟩ : ∃ m, (wrL l)[k]? = some m := ⟨_, List.getElem?_eq_getElem (by rw [show (wrL l).length = l.length from wrK_length l _]; exact hk)⟩
    have HW := Lib.hid (show writtenI l (k : Int) = m by unfold writtenI; rw [hg, if_pos rfl, Int.toNat_natCast, List.getD_eq_getElem?_getD, hm]; rfl)
    have HM := Lib.hid hm
    have HQ := Lib.hid hq
    have HOK := Lib.hid (good_store hok)
    have hm16 := wrK_m16 (l := l) (fun x hx => by
      obtain ⟨i, hi, rfl⟩ := List.getElem_of_mem hx
      exact (HOK.out i hi).2.1) l.length m (List.mem_of_getElem? hm)
    obtain ⟨hm0, hm1⟩ := hm16
    clear h hq hg hm hok hc
    go_enter Try.func19, Try.ntmps19
    go_wp2_with fail
    refine HQ.out.mono ?_
    rintro e w1 ⟨rfl, hb1⟩
    have HB := Lib.hid hb1
    clear hb1
    go_wp2_with fail
    refine (cellsAhead_any _ l _ ((HH.out.below HB.out).up HB.out.size) hn1 (by omega) HOK.out).mono ?_
    rintro e w2 ⟨u, rfl, ho, hb2⟩
    obtain ⟨ua, ucap, rfl⟩ := OwnL.slice ho
    obtain ⟨ub, uo, e, hub, hcell, _⟩ := LAt.at_ (ho.lAt u16S fun _ _ => trivial : LAt u16C 1 (fun _ => True) w2 w2.heap.size _ (wrL l)) HM.out
    subst e
    have d := hcell 0 _ rfl
    simp only [Nat.mul_one, Nat.add_zero] at d
    have HB2 := Lib.hid (HB.out.trans (hb2.mono HB.out.size))
    have hwl : (wrL l).length = l.length := wrK_length l _
    have hkw : k < (wrL l).length := by omega
    have hnl := OwnL.cap_le ho
    unfold maxLen at hnl
    clear hcell ho hb2 hwl
    go_wp2_with fail
    go_ret
    exact ⟨ret_int HW.out.symm, HB2.out⟩

def waysI (l : List Ins) (at_ : Int) : List Int := if goodI l at_ then (match l[at_.toNat]? with
  | some x => nextI x at_
  | none => []) else []

theorem implWays_any (v : Value) (l : List Ins) (at_ : Int) (w : World) (h : InsAt w w.heap.size v l) (ha : In64 at_) :
    Calls Try.prog 13 #[v, .int .i64 at_] w fun e w' => ∃ u, e = .returned u ∧ OwnL 2 1 numC w.heap.size w' u (waysI l at_) ∧ Below w.heap.size w w' := by
  obtain ⟨a, cap, rfl, hlc, hcm⟩ := h.len
  unfold maxLen at hcm
  have HH := Lib.hid h
  have hq := hasPlace_any _ l at_ w h ha
  cases hg : goodI l at_ <;> rw [hg] at hq
  · have HW := Lib.hid (show waysI l at_ = [] by unfold waysI; rw [hg]; rfl)
    have HQ := Lib.hid hq
    clear h hq hg
    go_enter Try.func13, Try.ntmps13
    go_wp2_with fail
    refine HQ.out.mono ?_
    rintro e w1 ⟨rfl, hb1⟩
    have HB := Lib.hid hb1
    clear hb1
    go_wp2_with fail
    go_ret
    exact ⟨_, rfl, by rw [HW.out]; exact OwnL.nil _ _, HB.out⟩
  · obtain ⟨hc, k, rfl, hk⟩ := good_true hg
    obtain ⟨hn1, hn2, hok⟩ := good_facts hc
    have HW := Lib.hid (show waysI l (k : Int) = nextI l[k] k by unfold waysI; rw [hg, if_pos rfl, Int.toNat_natCast, List.getElem?_eq_getElem hk])
    have HQ := Lib.hid hq
    have hr := (hok k hk).1
    have hqn := fun W => waysFrom_any l[k] k W (by omega) hr
    clear h hq hg hok hc hr
    generalize hxx : l[k] = x at *
    have HX := Lib.hid (show l[k]? = some x by rw [List.getElem?_eq_getElem hk, hxx])
    obtain ⟨xc, xy, xn, xk⟩ := x
    simp only at hqn
    generalize nextI ⟨xc, xy, xn, xk⟩ k = nx at *
    have QN := Lib.hid hqn
    clear hqn hxx
    go_enter Try.func13, Try.ntmps13
    go_wp2_with fail
    refine HQ.out.mono ?_
    rintro e w1 ⟨rfl, hb1⟩
    obtain ⟨b, o, e, hb, c0, c1, c2, c3, hwf⟩ := (HH.out.below hb1).at_ HX.out
    subst e
    simp only at c0 c1 c2 c3
    have HB := Lib.hid hb1
    clear hb1 hwf
    go_wp2_with fail
    refine (QN.out _).mono ?_
    rintro e w2 ⟨u, rfl, ho, hb2⟩
    have HO := Lib.hid ho
    have HB2 := Lib.hid (HB.out.trans (hb2.mono HB.out.size))
    clear ho hb2
    go_wp2_with fail
    go_ret
    exact ⟨_, rfl, by rw [HW.out]; exact HO.out.base HB.out.size, HB2.out⟩

theorem int64Own_empty {base : Nat} {w : World} {H : Nat} (hb : base ≤ w.heap.size) (hH : H = w.heap.size) : OwnL 2 1 numC base (w.alloc (.cells #[] 2)) (.slice (some ⟨H, 0, none⟩) 0 0) [] := OwnL.lit hb hH
/-- 'append(l, n)': the number lies in a block of its own. -/
theorem wpList_push_int {ops : Array Oper} {rest : List Oper} {o : Oper} {a : Act} {Q : Exit → Act → World → Prop} (hgd : o.guard = none) (s x : Operand)
    (ho : o.op = .call { callee := .builtin .append, args := #[s, x], argTypes := #[32, 32] }) (wr : World) (c : Int)
    (base : Nat) (v : Value) (l : List Int) (hs : a.eval s = v) (hown : OwnL 2 1 numC base wr v l)
    (hx : a.eval x = .slice (some ⟨wr.heap.size, 0, none⟩) 1 1) (hlen : l.length ≤ 1000000000) (hbase : base ≤ wr.heap.size)
    (h : ∀ v' w', OwnL 2 1 numC base w' v' (l ++ [c]) → GrB wr w' v v' → wpList Try.prog ops Q rest (a.put o.dst v') w') :
    wpList Try.prog ops Q (o :: rest) a (wr.alloc (.cells #[.int .i64 c] 2)) := by
  obtain ⟨i0, hi, hz0, hz1, hz2⟩ := info_parts info_int64
  refine wpList_append_own_at _ hgd s x 32 ho base 2 i0 _ 1 8 Try.underlying32 hi hz0 hz1 hz2 rfl (by decide) v l.length (l.flatMap numC) hs
    (World.ownsRow.alloc hown _) ⟨wr.heap.size, 0, none⟩ 1 1 [.int .i64 c] hx rfl (fun j u hj => ?_) (by intro u hu; simp at hu; subst hu; rfl) (by unfold maxLen; omega) (by omega) (by simp; omega) ?_
  · rw [add_at, Nat.zero_add, World.cell?_alloc_at _ _ _ _ rfl, ← hj]; simp
  intro v' w' hown' hg _ hat
  refine h v' w' ?_ (GrB.alloc ⟨hg, ?_⟩)
  · unfold OwnL
    rw [List.flatMap_append, List.length_append]
    exact hown'
  · rcases hat with e | e
    · exact .inl e
    · exact .inr fun g hg' => by rw [e] at hg'; injection hg' with hg'; omega

theorem nextI_length (x : Ins) (i : Int) : (nextI x i).length ≤ 2 := by
  unfold nextI
  repeat' split
  all_goals simp
/-- A list that is read, beside one that grows. -/
def KeepL (ua : Option Addr) (nx : List Int) (w : World) (v : Value) : Prop := ∀ j x, nx[j]? = some x → ∃ ub uo, ua = some ⟨ub, uo, none⟩ ∧ ub < w.heap.size ∧ v.ownBlock ≠ some ub ∧ w.cell? ⟨ub, uo + j, none⟩ = some (.int .i64 x)
theorem KeepL.start {ua : Option Addr} {n ucap B : Nat} {nx : List Int} {w : World} {H m c : Nat} (h : IntOwn B w (.slice ua n ucap) nx) (hH : H < B) : KeepL ua nx w (.slice (some ⟨H, 0, none⟩) m c) := by
  intro j x hj
  obtain ⟨ub, uo, e, hub, hcell, _⟩ := LAt.at_ (intAt_own h) hj
  subst e
  have d := hcell 0 _ rfl
  simp only [Nat.mul_one, Nat.add_zero] at d
  refine ⟨ub, uo, rfl, hub, fun e => ?_, d⟩
  have := (h.lt ub rfl).1
  have : H = ub := by simpa [Value.ownBlock] using e
  omega
theorem KeepL.push {ua : Option Addr} {nx : List Int} {w w' : World} {v v' : Value} (h : KeepL ua nx w v) (hg : GrB w w' v v') : KeepL ua nx w' v' := by
  intro j x hj
  obtain ⟨ub, uo, e, hub, hne, d⟩ := h j x hj
  refine ⟨ub, uo, e, ?_, ?_, (hg.cell (p := ⟨ub, uo + j, none⟩) hub hne).trans d⟩
  · exact Nat.lt_of_lt_of_le hub hg.1.size
  · rcases hg.2 with e' | e'
    · rw [e']; exact hne
    · intro e2
      have := e' ub e2
      omega

set_option maxHeartbeats 1600000 in
theorem specWays_any (v : Value) (l : List Ins) (at_ : Int) (w : World) (h : InsAt w w.heap.size v l) (ha : In64 at_) :
    Calls Try.prog 12 #[v, .int .i64 at_] w fun e w' => ∃ u, e = .returned u ∧ OwnL 2 1 numC w.heap.size w' u (waysI l at_) ∧ Below w.heap.size w w' := by
  obtain ⟨a, cap, rfl, hlc, hcm⟩ := h.len
  unfold maxLen at hcm
  have HH := Lib.hid h
  have hq := fun W (hb : Below w.heap.size w W) => specGood_any _ l at_ W ((HH.out.below hb).up hb.size) ha
  have hb0 : Below w.heap.size w (w.alloc (.cells #[] 2)) := (Below.refl _ _).alloc (Nat.le_refl _) _
  have HB0 := Lib.hid hb0
  clear hb0
  cases hg : goodI l at_ <;> rw [hg] at hq
  · have HW := Lib.hid (show waysI l at_ = [] by unfold waysI; rw [hg]; rfl)
    have HQ := Lib.hid hq
    clear h hq hg
    go_enter Try.func12, Try.ntmps12
    go_wp2_with fail
    refine (HQ.out _ HB0.out).mono ?_
    rintro e w1 ⟨rfl, hb1⟩
    have HO := Lib.hid ((int64Own_empty (Nat.le_refl w.heap.size) rfl).below hb1)
    have HB := Lib.hid (HB0.out.trans (hb1.mono HB0.out.size))
    clear hb1
    go_wp2_with fail
    go_ret
    exact ⟨_, rfl, by rw [HW.out]; exact HO.out, HB.out⟩
  · obtain ⟨hc, k, rfl, hk⟩ := good_true hg
    obtain ⟨hn1, hn2, hok⟩ := good_facts hc
    have HW := Lib.hid (show waysI l (k : Int) = nextI l[k] k by unfold waysI; rw [hg, if_pos rfl, Int.toNat_natCast, List.getElem?_eq_getElem hk])
    have HQ := Lib.hid hq
    have hr := (hok k hk).1
    have hqn := fun W (hW : InsAt W W.heap.size _ l) => l04Next_any (.slice a l.length cap) l k l[k] W hW (List.getElem?_eq_getElem hk) (by omega) hr
    have hnx := nextI_length l[k] k
    clear h hq hg hok hc hr
    generalize nextI l[k] k = nx at *
    have QN := Lib.hid hqn
    clear hqn
    go_enter Try.func12, Try.ntmps12
    go_wp2_with fail
    refine (HQ.out _ HB0.out).mono ?_
    rintro e w1 ⟨rfl, hb1⟩
    have HO := Lib.hid ((int64Own_empty (Nat.le_refl w.heap.size) rfl).below hb1)
    have HB := Lib.hid (HB0.out.trans (hb1.mono HB0.out.size))
    have hgt : w.heap.size < w1.heap.size := by have := hb1.size; simp at this; omega
    clear hb1
    go_wp2_with fail
    refine (QN.out _ ((HH.out.below HB.out).up HB.out.size)).mono ?_
    rintro e w2 ⟨u, rfl, ho, hb2⟩
    obtain ⟨ua, ucap, rfl⟩ := OwnL.slice ho
    have hnl := OwnL.cap_le ho
    unfold maxLen at hnl
    obtain ⟨B2, hB2⟩ : ∃ B2, w1.heap.size = B2 := ⟨_, rfl⟩
    have HN := Lib.hid (hB2 ▸ ho : IntOwn B2 w2 _ nx)
    have HO2 := Lib.hid (HO.out.below hb2)
    have HB2 := Lib.hid (HB.out.trans (hb2.mono HB.out.size))
    clear ho hb2
    go_wp2_with fail
    go_loopw [5, 7] (fun v i ws => ∃ k : Nat, k ≤ nx.length ∧ i = .int .i64 k ∧ OwnL 2 1 numC w.heap.size ws v (nx.take k) ∧ Below w.heap.size w ws ∧ KeepL ua nx ws v) (fun _ i _ => nx.length - (intOf i).toNat)
    case atStart => exact ⟨0, by omega, rfl, HO2.out, HB2.out, KeepL.start HN.out (by omega)⟩
    case round =>
      obtain ⟨j, hj, rfl, hown, hbw, hkp⟩ := hrel
      by_cases hlt : j < nx.length
      · obtain ⟨ub, uo, e, hub, hne, d⟩ := hkp j _ (List.getElem?_eq_getElem hlt)
        have hnext : nx.take (j + 1) = nx.take j ++ [nx[j]] := List.take_succ_eq_append_getElem hlt
        have hle : (nx.take j).length ≤ 1000000000 := by rw [List.length_take]; omega
        have HKP := Lib.hid hkp
        have HE := Lib.hid e
        subst e
        generalize nx[j] = c at *
        have HNX := Lib.hid hnext
        have hsz := hbw.size
        clear hnext hkp
        go_wp2_with (at_builtin; refine wpList_push_int rfl _ _ (by rfl) _ _ w.heap.size _ (nx.take j) (by rfl) hown (by rfl) hle hsz ?_; intro v1 w3 hown1 hg1)
        rw [← HNX.out] at hown1
        have hb1 := hg1.below hbw hsz (fun q hq => (hown.lt q hq).1)
        go_roundw
        case rel => exact ⟨j + 1, by omega, by go_num, hown1, hb1, HKP.out.push hg1⟩
        case measure => simp [intOf]; omega
      · have hO := Lib.hid (show OwnL 2 1 numC w.heap.size wr _ nx by rw [List.take_of_length_le (by omega)] at hown; exact hown)
        clear hown hkp
        go_wp2_with fail
        go_ret
        exact ⟨_, rfl, by rw [HW.out]; exact hO.out, hbw⟩

end Go.Proofs.Ytibbcafhchoiiaa
