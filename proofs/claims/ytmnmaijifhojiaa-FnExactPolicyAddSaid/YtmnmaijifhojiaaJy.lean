/- The library's Grow (of nothing), Clone and Concat at rules walked. -/
import Derived.Test.YtmnmaijifhojiaaJv
import Derived.Lib.AppendZerosOnto
set_option maxRecDepth 100000
set_option linter.unusedVariables false
set_option linter.unusedSimpArgs false
namespace Go.Proofs.Ytmnmaijifhojiaa
open Go.RowKit Go.ChangeShapes Go.WideShapes
attribute [local go_sem ↓] Go.wp_at_zero Go.wp_at_succ

theorem wpList_append_run2 {ops : Array Oper} {rest : List Oper} {o : Oper} {a : Act} {Q : Exit → Act → World → Prop} {T U : TypeId} (hgd : o.guard = none) (s x : Operand) (ho : o.op = .call { callee := .builtin .append, args := #[s, x], argTypes := #[T, U] }) {w w' : World} {v u v' : Value}
    (hs : a.eval s = v) (hx : a.eval x = u) (hr : (Builtin.append_ #[T, U] o.type #[v, u]).run Try.prog w = .ok v' w') (h : wpList Try.prog ops Q rest (a.put o.dst v') w') : wpList Try.prog ops Q (o :: rest) a w :=
  wpList_plain hgd fun K hK => by
    unfold Oper.wp execOp
    simp only [ho, resolve, invoke, builtin, Sem.run_bind, Sem.run_pure, Result.andThen_ok, List.map_toArray, List.map_cons, List.map_nil, hs, hx, hr]
    exact hK _ _ h

theorem growRules_run (k : Nat) (w : World) (h0 : 0 < k) (hk : k ≤ 1000) : ∃ cap w', (Builtin.append_ #[30, 3] 30 #[.slice none 0 0, .int .i64 k]).run Try.prog w = .ok (.slice (some ⟨w.heap.size, 0, none⟩) k cap) w' ∧ k ≤ cap ∧
    OwnL 35 3 rvCells w.heap.size w' (.slice (some ⟨w.heap.size, 0, none⟩) 0 cap) [] ∧ Below w.heap.size w w' := by
  obtain ⟨i0, hi, hz0, hz1, hz2⟩ := info_parts info_rv
  have hr := Lib.run_append_grow_zeros (P := Try.prog) w 30 3 30 35 i0 _ .i64 .i64 Try.underlying30 Try.underlying3 hi hz0 none 0 0 [] (by simp [Builtin.firstCells, go_sem]) k h0 (by omega) (by omega) (by omega) (by rw [hz2]; omega)
    (by rw [hz2]; unfold Builtin.nextslicecap; rw [if_pos (by omega)]; omega)
  rw [Nat.zero_add] at hr
  have hge := grownCap_ge w k 0 35
  have hle := grownCap_le_maxLen w k 0 35 (by unfold maxLen; omega)
  generalize grownCap w k 0 35 = cap at *
  refine ⟨cap, _, hr, hge, ⟨by simp, .inr ⟨w.heap.size, cap, _, rfl, Nat.le_refl _, heap_alloc_new w.drew _, by simp, hle, ?_, by simp⟩⟩, (Below.refl _ _).drew.alloc (Nat.le_refl _) _⟩
  simp only [Array.size_append, size_zeroCells]
  show 0 + k * 3 + (cap - k) * 3 = cap * 3
  omega

set_option maxHeartbeats 1600000 in
theorem grow_any (k : Nat) (w : World) (hk : k ≤ 1000) :
    Calls Try.prog 113 #[.slice none 0 0, .int .i64 k] w fun e w' => ∃ u, e = .returned u ∧ OwnL 35 3 rvCells w.heap.size w' u [] ∧ Below w.heap.size w w' := by
  by_cases h0 : k = 0
  · subst h0
    go_enter Try.func113, Try.ntmps113
    go_wp2
    go_ret
    exact ⟨_, rfl, OwnL.nil _ _, Below.refl _ _⟩
  · obtain ⟨cap, w1, hr, hc, ho, hb⟩ := growRules_run k w (by omega) hk
    have HO := Lib.hid ho
    have HB := Lib.hid hb
    have hk0 : 0 < k := by omega
    have hkd : decide (0 < k) = true := by simpa using hk0
    have hc2 : (0 : Int) ≤ (cap : Int) := by omega
    clear ho hb h0
    go_enter Try.func113, Try.ntmps113
    go_wp2_with (at_builtin; refine wpList_append_run2 rfl (.tmp 20) (.tmp 21) rfl (by rfl) (by rfl) hr ?_)
    go_ret
    exact ⟨_, rfl, HO.out, HB.out⟩

theorem nil_yes (n cap : Nat) (w : World) : Sem.run Try.prog (binOp BinOp.eql 33 (.slice none n cap) (.slice none 0 0)) w = .ok (.bool true) w := by kernel_rfl
theorem nil_no (a : Addr) (n cap : Nat) (w : World) : Sem.run Try.prog (binOp BinOp.eql 33 (.slice (some a) n cap) (.slice none 0 0)) w = .ok (.bool false) w := by kernel_rfl

set_option maxHeartbeats 1600000 in
theorem clone_any (cs : List Cq) (v : Value) (w : World) (hv : CqAt w w.heap.size v cs) (hn : cs.length ≤ 1048576) :
    Calls Try.prog 101 #[v] w fun e w' => ∃ u, e = .returned u ∧ CqOwn w.heap.size w' u cs ∧ Below w.heap.size w w' := by
  obtain ⟨a, cap, rfl, hlc, hcm⟩ := hv.len
  cases a with
  | none =>
    have hcs : cs = [] := by
      obtain ⟨_, ⟨a', cap', e, _, _, h3⟩, _⟩ := hv
      cases cs with
      | nil => rfl
      | cons x l =>
        obtain ⟨b, o, e2, _⟩ := h3 (by simp)
        simp only [Value.slice.injEq] at e
        rw [← e.1] at e2
        cases e2
    subst hcs
    clear hv
    have tn := nil_yes
    go_enter Try.func101, Try.ntmps101
    go_wp2
    go_ret
    exact ⟨_, rfl, OwnL.nil _ _, Below.refl _ _⟩
  | some ad =>
    have hB0 : Below w.heap.size w (w.alloc (.cells #[] 26)) := (Below.refl _ _).alloc (Nat.le_refl _) _
    have hown0 : CqOwn w.heap.size (w.alloc (.cells #[] 26)) (.slice (some ⟨w.heap.size, 0, none⟩) 0 0) [] := OwnL.lit (by simp) (by simp)
    obtain ⟨v', w1, hr, hown, hg⟩ := run_append_cq 33 _ w.heap.size _ _ [] cs hown0 (LAt.up (LAt.below hv hB0) hB0.size) (by simp) (by omega) (by simp)
    rw [List.nil_append] at hown
    have HO := Lib.hid hown
    have HB := Lib.hid (hB0.grown hg.1 hB0.size (fun j hj => by simp [Value.ownBlock] at hj; omega))
    clear hv hown hg hown0 hB0
    have tn := nil_no
    go_enter Try.func101, Try.ntmps101
    go_wp2_with (at_builtin; refine wpList_append_run rfl (.tmp 5) (.tmp 6) rfl (by rfl) (by rfl) hr ?_)
    go_ret
    exact ⟨_, rfl, HO.out, HB.out⟩

/-- A slice of slices of rules. -/
def LsAt (w : World) (B : Nat) (v : Value) (ls : List (Value × List Rv)) : Prop := LAt (fun x : Value × List Rv => [x.1]) 1 (fun _ => True) w B v ls ∧ ∀ x ∈ ls, RvAt w B x.1 x.2
theorem LsAt.below {w w' : World} {B : Nat} {v : Value} {ls : List (Value × List Rv)} (h : LsAt w B v ls) (hb : Below B w w') : LsAt w' B v ls := ⟨h.1.below hb, fun x hx => (h.2 x hx).below hb⟩
theorem LsAt.up {w : World} {B B' : Nat} {v : Value} {ls : List (Value × List Rv)} (h : LsAt w B v ls) (hB : B ≤ B') : LsAt w B' v ls := ⟨h.1.up hB, fun x hx => (h.2 x hx).up hB⟩
def catL (ls : List (Value × List Rv)) : List Rv := ls.flatMap Prod.snd
theorem catL_take {ls : List (Value × List Rv)} {k : Nat} (h : k < ls.length) : catL (ls.take (k + 1)) = catL (ls.take k) ++ ls[k].2 := by
  unfold catL
  rw [List.take_succ_eq_append_getElem h, List.flatMap_append]
  simp
theorem catL_le (ls : List (Value × List Rv)) (k : Nat) : (catL (ls.take k)).length ≤ (catL ls).length := by
  have h : catL ls = catL (ls.take k) ++ catL (ls.drop k) := by
    unfold catL
    rw [← List.flatMap_append, List.take_append_drop]
  rw [h, List.length_append]
  omega

set_option maxHeartbeats 3200000 in
theorem concat_any (v : Value) (ls : List (Value × List Rv)) (w : World) (hv : LsAt w w.heap.size v ls) (hn : (catL ls).length ≤ 1000) :
    Calls Try.prog 100 #[v] w fun e w' => ∃ u, e = .returned u ∧ OwnL 35 3 rvCells w.heap.size w' u (catL ls) ∧ Below w.heap.size w w' := by
  obtain ⟨a, cap, rfl, hlc, hcm⟩ := hv.1.len
  unfold maxLen at hcm
  have HV := Lib.hid hv
  have HN := Lib.hid (fun k => Nat.le_trans (catL_le ls k) hn)
  clear hv
  go_enter Try.func100, Try.ntmps100
  go_wp2_with fail
  go_loopw [3, 11] (fun q i wr => ∃ k : Nat, k ≤ ls.length ∧ i = .int .i64 k ∧ q = .int .i64 ((catL (ls.take k)).length : Int) ∧ wr = w) (fun _ i _ => ls.length - (intOf i).toNat)
  case atStart => exact ⟨0, by omega, rfl, rfl, rfl⟩
  case round =>
    obtain ⟨k, hk, rfl, rfl, hwr⟩ := hrel
    have hwr' := hwr.symm
    clear hwr
    subst hwr'
    by_cases hlt : k < ls.length
    · obtain ⟨b, o, e, hb, hc, _⟩ := LAt.at_ HV.out.1 (List.getElem?_eq_getElem hlt)
      subst e
      have c0 := hc 0 _ rfl
      simp only [Nat.mul_one, Nat.add_zero] at c0
      have hrv := HV.out.2 ls[k] (List.getElem_mem hlt)
      have hnx := catL_take hlt
      have hb1 := HN.out (k + 1)
      generalize ls[k] = y at c0 hrv hnx
      obtain ⟨yv, yl⟩ := y
      simp only at c0 hrv hnx
      obtain ⟨ya, ycap, rfl, _, _⟩ := hrv.len
      rw [hnx, List.length_append] at hb1
      have hw : IntKind.i64.wrap (((catL (ls.take k)).length : Int) + (yl.length : Int)) = ((catL (ls.take k)).length : Int) + (yl.length : Int) := by rw [IntKind.wrap_i64]; omega
      have HNX := Lib.hid hnx
      have hge : decide (((catL (ls.take k)).length : Int) + (yl.length : Int) < 0) = false := by simp; omega
      clear hc hrv hnx
      go_wp2_with fail
      go_roundw
      case rel => exact ⟨k + 1, by omega, by go_num, by rw [HNX.out, List.length_append]; simp, by first | rfl | trivial⟩
      case measure => simp [intOf]; omega
    · have hkl : ls.take k = ls := List.take_of_length_le (by omega)
      rw [hkl]
      have q := grow_any (catL ls).length w hn
      have QG := Lib.hid q
      clear q hkl
      go_wp2_with fail
      refine QG.out.mono ?_
      rintro e w1 ⟨u, rfl, hu, hb1⟩
      have HU := Lib.hid hu
      have HB1 := Lib.hid hb1
      clear hu hb1
      go_wp2_with fail
      go_loopw [6, 27] (fun u i wr => ∃ k : Nat, k ≤ ls.length ∧ i = .int .i64 k ∧ OwnL 35 3 rvCells w.heap.size wr u (catL (ls.take k)) ∧ Below w.heap.size w wr) (fun _ i _ => ls.length - (intOf i).toNat)
      case atStart => exact ⟨0, by omega, rfl, HU.out, HB1.out⟩
      case round =>
        obtain ⟨k2, hk2, rfl, hown, hbs⟩ := hrel
        obtain ⟨ua, un, ucap, rfl⟩ : ∃ a n c, u6 = .slice a n c := by
          obtain ⟨a, c, e⟩ := OwnL.slice hown
          exact ⟨a, _, c, e⟩
        by_cases hlt2 : k2 < ls.length
        · obtain ⟨b, o, e, hb, hc, _⟩ := LAt.at_ (HV.out.1.below hbs) (List.getElem?_eq_getElem hlt2)
          subst e
          have c0 := hc 0 _ rfl
          simp only [Nat.mul_one, Nat.add_zero] at c0
          have hrv := RvAt.up (RvAt.below (HV.out.2 ls[k2] (List.getElem_mem hlt2)) hbs) hbs.size
          have hnx := catL_take hlt2
          have hb1 := HN.out (k2 + 1)
          generalize ls[k2] = y at c0 hrv hnx
          obtain ⟨yv, yl⟩ := y
          simp only at c0 hrv hnx
          obtain ⟨ya, yn, ycap, rfl⟩ : ∃ a n c, yv = .slice a n c := by
            obtain ⟨a, c, e, _⟩ := hrv.len
            exact ⟨a, _, c, e⟩
          rw [hnx, List.length_append] at hb1
          obtain ⟨v3, w3, hr3, hown3, hg3⟩ := run_append_rv 30 wr w.heap.size _ _ _ yl hown hrv (by omega) (by omega) hbs.size
          rw [← hnx] at hown3
          have hlow : ∀ j, (Value.slice ua un ucap).ownBlock = some j → w.heap.size ≤ j := fun j hj => (OwnL.lt hown j hj).1
          have HB3 := Lib.hid (hbs.grown hg3.1 hbs.size hlow)
          have HO3 := Lib.hid hown3
          clear hc hrv hnx hown hbs hown3 hg3 hlow hb1
          go_wp2_with (at_builtin; refine wpList_append_run rfl (.tmp 31) (.tmp 32) rfl (by rfl) (by rfl) hr3 ?_)
          go_roundw
          case rel => exact ⟨k2 + 1, by omega, by go_num, HO3.out, HB3.out⟩
          case measure => simp [intOf]; omega
        · have hkl : ls.take k2 = ls := List.take_of_length_le (by omega)
          rw [hkl] at hown
          have HO := Lib.hid hown
          have HB := Lib.hid hbs
          clear hown hbs hkl
          go_wp2_with fail
          go_ret
          exact ⟨_, rfl, HO.out, HB.out⟩

end Go.Proofs.Ytmnmaijifhojiaa
