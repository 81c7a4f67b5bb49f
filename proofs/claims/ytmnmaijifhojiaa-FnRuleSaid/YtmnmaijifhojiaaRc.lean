/- Records: RecordRight of the model walked. -/
import Derived.Test.YtmnmaijifhojiaaWw
set_option maxRecDepth 100000
namespace Go.Proofs.Ytmnmaijifhojiaa
open Go.RowKit

/-- What is asked. -/
structure Rc where
  nr : Int
  ar : Int
  ip : Wd
  args : List Wd
def Rc.wf (r : Rc) : Prop := In64 r.nr ∧ In64 r.ar ∧ r.ip.wf ∧ ∀ x ∈ r.args, x.wf
def rcRight (r : Rc) : Bool := isB r.nr 0 4294967295 && isB r.ar 0 4294967295 && wdRight r.ip && decide (r.args.length = 6) && r.args.all wdRight
/-- Its value: the cells, with the slice of its words. -/
abbrev rcV (r : Rc) (v : Value) : Value := .agg #[.int .i64 r.nr, .int .i64 r.ar, .int .i64 r.ip.h, .int .i64 r.ip.l, v]

theorem allW_take {l : List Wd} {k : Nat} (h : (l.take k).all wdRight = true) (hk : k < l.length) (hx : wdRight l[k] = true) : (l.take (k + 1)).all wdRight = true := by
  rw [List.take_succ_eq_append_getElem hk, List.all_append, h]
  simp [hx]
theorem allW_bad {l : List Wd} {k : Nat} (hk : k < l.length) (hx : wdRight l[k] = false) : l.all wdRight = false := by
  rw [List.all_eq_false]
  exact ⟨l[k], List.getElem_mem hk, by simp [hx]⟩

set_option maxHeartbeats 1600000 in
theorem specRecordRight_any (r : Rc) (v : Value) (w : World) (hv : WdAt w w.heap.size v r.args) :
    Calls Try.prog 40 #[rcV r v] w fun e w' => e = .returned (.bool (rcRight r)) ∧ Below w.heap.size w w' := by
  obtain ⟨nr, ar, ⟨ih, il⟩, args⟩ := r
  obtain ⟨a, cap, rfl, hlc, hcm⟩ := hv.len
  unfold maxLen at hcm
  simp only at hv hlc ⊢
  have qw := fun W => specWordRight_any ih il W
  have hr : rcRight ⟨nr, ar, ⟨ih, il⟩, args⟩ = (isB nr 0 4294967295 && isB ar 0 4294967295 && wdRight ⟨ih, il⟩ && decide (args.length = 6) && args.all wdRight) := rfl
  cases h0 : isB nr 0 4294967295
  · have HR := Lib.hid (show rcRight ⟨nr, ar, ⟨ih, il⟩, args⟩ = false by rw [hr, h0]; simp)
    clear hr qw hv
    go_enter Try.func40, Try.ntmps40
    go_wp2_with (go_at_call 78; refine (l02Is_any _ _ _ _).mono ?_; rintro e w' ⟨rfl, rfl⟩)
    go_ret
    exact ⟨ret_bool HR.out.symm, (Below.refl _ _).alloc (Nat.le_refl _) _⟩
  cases h1 : isB ar 0 4294967295
  · have HR := Lib.hid (show rcRight ⟨nr, ar, ⟨ih, il⟩, args⟩ = false by rw [hr, h1]; simp)
    clear hr qw hv
    go_enter Try.func40, Try.ntmps40
    go_wp2_with (go_at_call 78; refine (l02Is_any _ _ _ _).mono ?_; rintro e w' ⟨rfl, rfl⟩)
    go_ret
    exact ⟨ret_bool HR.out.symm, (Below.refl _ _).alloc (Nat.le_refl _) _⟩
  cases h2 : wdRight ⟨ih, il⟩ <;> rw [h2] at qw
  · have HR := Lib.hid (show rcRight ⟨nr, ar, ⟨ih, il⟩, args⟩ = false by rw [hr, h2]; simp)
    have QW := Lib.hid qw
    clear hr qw hv h2
    go_enter Try.func40, Try.ntmps40
    go_wp2_with (go_at_call 78; refine (l02Is_any _ _ _ _).mono ?_; rintro e w' ⟨rfl, rfl⟩)
    refine (QW.out _).mono ?_
    rintro e w1 ⟨rfl, hb1⟩
    have HB := Lib.hid (box_below hb1)
    clear hb1
    go_wp2_with fail
    go_ret
    exact ⟨ret_bool HR.out.symm, HB.out⟩
  have QW := Lib.hid qw
  have HV := Lib.hid hv
  clear qw hv
  by_cases h3 : args.length = 6
  · have HR := Lib.hid (show rcRight ⟨nr, ar, ⟨ih, il⟩, args⟩ = args.all wdRight by rw [hr, h0, h1, h2, h3]; simp)
    have hq : ((args.length : Int) != 6) = false := by rw [h3]; rfl
    have H3 := Lib.hid h3
    have hl6 : args.length ≤ 6 := by omega
    clear hr h3 h2
    go_enter Try.func40, Try.ntmps40
    go_wp2_with (go_at_call 78; refine (l02Is_any _ _ _ _).mono ?_; rintro e w' ⟨rfl, rfl⟩)
    refine (QW.out _).mono ?_
    rintro e w1 ⟨rfl, hb1⟩
    have c4 := box_cell hb1 4
    simp only [List.getElem?_toArray, List.getElem?_cons_zero, List.getElem?_cons_succ] at c4
    have HB1 := Lib.hid hb1
    clear hb1
    go_wp2_with fail
    go_loopw [3] (fun i wr => ∃ k : Nat, k ≤ args.length ∧ i = .int .i64 k ∧ (args.take k).all wdRight = true ∧
        Below (w.alloc (.cells #[.int .i64 nr, .int .i64 ar, .int .i64 ih, .int .i64 il, .slice a args.length cap] 45)).heap.size (w.alloc (.cells #[.int .i64 nr, .int .i64 ar, .int .i64 ih, .int .i64 il, .slice a args.length cap] 45)) wr)
      (fun i _ => args.length - (intOf i).toNat)
    case atStart => exact ⟨0, by omega, rfl, by simp, HB1.out⟩
    case round =>
      obtain ⟨k, hk, rfl, hall, hbw⟩ := hrel
      have c4 := box_cell hbw 4
      simp only [List.getElem?_toArray, List.getElem?_cons_zero, List.getElem?_cons_succ] at c4
      have HA := Lib.hid hall
      have HX := Lib.hid (box_below hbw)
      have HB := Lib.hid hbw
      clear hall hbw
      by_cases hlt : k < args.length
      · obtain ⟨b, o, e, hb, d0, d1, hwf⟩ := WdAt.place (LAt.below HV.out HX.out) (List.getElem?_eq_getElem hlt)
        subst e
        go_wp2_with fail
        refine (specWordRight_any _ _ _).mono ?_
        rintro e w2 ⟨rfl, hb2⟩
        have HB2 := Lib.hid (HB.out.trans (hb2.mono HB.out.size))
        clear hb2
        cases hx : wdRight args[k] with
        | true =>
          have HN := Lib.hid (allW_take HA.out hlt hx)
          have hx' : wdRight ⟨args[k].h, args[k].l⟩ = true := hx
          clear hx
          go_wp2_with fail
          go_roundw
          case rel => exact ⟨k + 1, by omega, by go_num, HN.out, HB2.out⟩
          case measure => simp [intOf]; omega
        | false =>
          have HN := Lib.hid (HR.out.trans (allW_bad hlt hx))
          have hx' : wdRight ⟨args[k].h, args[k].l⟩ = false := hx
          clear hx
          go_wp2_with fail
          go_ret
          exact ⟨ret_bool HN.out.symm, box_below HB2.out⟩
      · have HN := Lib.hid (show rcRight ⟨nr, ar, ⟨ih, il⟩, args⟩ = true by
          have := HA.out
          rw [List.take_of_length_le (by omega)] at this
          rw [HR.out, this])
        go_wp2_with fail
        go_ret
        exact ⟨ret_bool HN.out.symm, HX.out⟩
  · have HR := Lib.hid (show rcRight ⟨nr, ar, ⟨ih, il⟩, args⟩ = false by rw [hr]; simp [h3])
    have hq : ((args.length : Int) != 6) = true := by simp; omega
    clear hr h3 h2
    go_enter Try.func40, Try.ntmps40
    go_wp2_with (go_at_call 78; refine (l02Is_any _ _ _ _).mono ?_; rintro e w' ⟨rfl, rfl⟩)
    refine (QW.out _).mono ?_
    rintro e w1 ⟨rfl, hb1⟩
    have c4 := box_cell hb1 4
    simp only [List.getElem?_toArray, List.getElem?_cons_zero, List.getElem?_cons_succ] at c4
    have HB1 := Lib.hid (box_below hb1)
    clear hb1
    go_wp2_with fail
    go_ret
    exact ⟨ret_bool HR.out.symm, HB1.out⟩

end Go.Proofs.Ytmnmaijifhojiaa
