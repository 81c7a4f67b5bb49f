/- Records as bytes: l03Word, l03Bytes, RecordBytes of the model walked. -/
import Derived.Test.YtekmnopgaopmlaaGreatDoorRc
import Derived.Deep.RegionHeld3
import Derived.Deep.DrawnRows
set_option maxRecDepth 100000
namespace Go.Proofs.YtekmnopgaopmlaaGreatDoor
open Go.RowKit
attribute [local go_sem ↓] Go.wp_at_zero Go.wp_at_succ

def wdB (x : Wd) : List UInt8 := leB 4 x.l ++ leB 4 x.h
def rcB (r : Rc) : List UInt8 := leB 4 r.nr ++ leB 4 r.ar ++ wdB r.ip ++ r.args.flatMap wdB
theorem wdB_length (x : Wd) : (wdB x).length = 8 := by simp [wdB, leB_length]
def rbOf (r : Rc) : ByteArray := if rcRight r then ⟨(rcB r).toArray⟩ else ⟨#[]⟩
theorem wd_bounds {x : Wd} (h : wdRight x = true) : (0 ≤ x.h ∧ x.h ≤ 4294967295) ∧ (0 ≤ x.l ∧ x.l ≤ 4294967295) := by
  unfold wdRight isB at h
  simpa [and_assoc] using h

theorem put4W_any (n : Int) (w : World) (h0 : 0 ≤ n) (h1 : n ≤ 9223372036854775807) : Calls Tryz.prog 93 #[.int .i64 n, .int .i64 4] w fun e w' => e = .returned (.string ⟨(leB 4 n).toArray⟩) ∧ Below w.heap.size w w' := l02Put_any n 4 w h0 h1 (by omega)

set_option maxHeartbeats 1600000 in
theorem l03Word_any (h l : Int) (w : World) (h0 : 0 ≤ h) (h1 : h ≤ 4294967295) (l0 : 0 ≤ l) (l1 : l ≤ 4294967295) :
    Calls Tryz.prog 94 #[.agg #[.int .i64 h, .int .i64 l]] w fun e w' => e = .returned (.string ⟨(wdB ⟨h, l⟩).toArray⟩) ∧ Below w.heap.size w w' := by
  have hq1 := fun W => put4W_any l W l0 (by omega)
  have hq2 := fun W => put4W_any h W h0 (by omega)
  obtain ⟨A1, hA1⟩ : ∃ A : ByteArray, A = ⟨(leB 4 l).toArray⟩ := ⟨_, rfl⟩
  obtain ⟨A2, hA2⟩ : ∃ A : ByteArray, A = ⟨(leB 4 h).toArray⟩ := ⟨_, rfl⟩
  have HY := Lib.hid (show (⟨(wdB ⟨h, l⟩).toArray⟩ : ByteArray) = A1 ++ A2 by rw [hA1, hA2]; apply ByteArray.ext; simp [ByteArray.data_append, wdB])
  simp only [← hA1] at hq1
  simp only [← hA2] at hq2
  have hz1 : A1.size ≤ 4 := by rw [hA1, size_mk, leB_length]; omega
  have hz2 : A2.size ≤ 4 := by rw [hA2, size_mk, leB_length]; omega
  have s1 : ∀ W, (Op.stringOp .add A1 A2).run Tryz.prog W = .ok (.string (A1 ++ A2)) W := fun W => run_string_add_sum W _ _ (by omega)
  have Q1 := Lib.hid hq1
  have Q2 := Lib.hid hq2
  clear hq1 hq2 hA1 hA2
  have hkeep : ∀ w' : World, Below (w.alloc (.cells #[.int .i64 h, .int .i64 l] 33)).heap.size (w.alloc (.cells #[.int .i64 h, .int .i64 l] 33)) w' → (w'.cell? ⟨w.heap.size, 0, none⟩ = some (.int .i64 h) ∧ w'.cell? ⟨w.heap.size, 1, none⟩ = some (.int .i64 l)) :=
    fun w' hb => ⟨box_cell hb 0, box_cell hb 1⟩
  have HK := Lib.hid hkeep
  clear hkeep
  have hbw1 : Below (w.alloc (.cells #[.int .i64 h, .int .i64 l] 33)).heap.size (w.alloc (.cells #[.int .i64 h, .int .i64 l] 33)) (w.alloc (.cells #[.int .i64 h, .int .i64 l] 33)).drew := (Below.refl _ _).drew
  go_enter Tryz.func94, Tryz.ntmps94
  go_wp2_with fail
  go_region_held3 (fun w' => w'.cell? ⟨w.heap.size, 0, none⟩ = some (.int .i64 h) ∧ w'.cell? ⟨w.heap.size, 1, none⟩ = some (.int .i64 l))
    (first | go_keep | exact HK.out _ hbw3 | exact HK.out _ hbw2)
    (first
      | (go_at_call 93; (with_reducible refine (Q1.out _).mono ?_); rintro e w2 ⟨rfl, hb2⟩; have hbw2 := hbw1.trans (hb2.mono hbw1.size))
      | (go_at_call 93; (with_reducible refine (Q2.out _).mono ?_); rintro e w3 ⟨rfl, hb3⟩; have hbw3 := hbw2.trans (hb3.mono hbw2.size)))
  all_goals
    go_wp2_with fail
    go_ret
    exact ⟨ret_str HY.out.symm, box_below hbw3⟩

theorem rcRight_parts {r : Rc} (h : rcRight r = true) : (0 ≤ r.nr ∧ r.nr ≤ 4294967295) ∧ (0 ≤ r.ar ∧ r.ar ≤ 4294967295) ∧ wdRight r.ip = true ∧ r.args.length = 6 ∧ ∀ i (hi : i < r.args.length), wdRight r.args[i] = true := by
  unfold rcRight isB at h
  simp only [Bool.and_eq_true, decide_eq_true_eq, List.all_eq_true] at h
  exact ⟨h.1.1.1.1, h.1.1.1.2, h.1.1.2, h.1.2, fun i hi => h.2 _ (List.getElem_mem hi)⟩
theorem wdBs_next {l : List Wd} {k : Nat} (hk : k < l.length) : (l.take (k + 1)).flatMap wdB = (l.take k).flatMap wdB ++ wdB l[k] := by
  rw [List.take_succ_eq_append_getElem hk, List.flatMap_append]; simp
theorem wdBs_length (l : List Wd) : (l.flatMap wdB).length = 8 * l.length := by
  induction l with
  | nil => rfl
  | cons x l ih => rw [List.flatMap_cons, List.length_append, wdB_length, ih, List.length_cons]; omega
theorem str_app (a b : List UInt8) : (⟨a.toArray⟩ : ByteArray) ++ ⟨b.toArray⟩ = ⟨(a ++ b).toArray⟩ := by apply ByteArray.ext; simp [ByteArray.data_append]

set_option maxHeartbeats 3200000 in
theorem l03Bytes_any (r : Rc) (v : Value) (w : World) (hv : WdAt w w.heap.size v r.args) (hr : rcRight r = true) :
    Calls Tryz.prog 73 #[rcV r v] w fun e w' => e = .returned (.string ⟨(rcB r).toArray⟩) ∧ Below w.heap.size w w' := by
  obtain ⟨nr, ar, ⟨ih, il⟩, args⟩ := r
  obtain ⟨⟨n0, n1⟩, ⟨r0, r1⟩, hip, hlen, hargs⟩ := rcRight_parts hr
  simp only at n0 n1 r0 r1 hip hlen hargs hv ⊢
  obtain ⟨⟨ih0, ih1⟩, ⟨il0, il1⟩⟩ := wd_bounds hip
  simp only at ih0 ih1 il0 il1
  obtain ⟨a, cap, rfl, hlc, hcm⟩ := hv.len
  unfold maxLen at hcm
  have HV := Lib.hid hv
  have HA := Lib.hid hargs
  have HLEN := Lib.hid hlen
  have hl6 : args.length ≤ 6 := by omega
  have hq1 := fun W => put4W_any nr W n0 (by omega)
  have hq2 := fun W => put4W_any ar W r0 (by omega)
  have hq3 := fun W => l03Word_any ih il W ih0 ih1 il0 il1
  obtain ⟨A1, hA1⟩ : ∃ A : ByteArray, A = ⟨(leB 4 nr).toArray⟩ := ⟨_, rfl⟩
  obtain ⟨A2, hA2⟩ : ∃ A : ByteArray, A = ⟨(leB 4 ar).toArray⟩ := ⟨_, rfl⟩
  obtain ⟨A3, hA3⟩ : ∃ A : ByteArray, A = ⟨(wdB ⟨ih, il⟩).toArray⟩ := ⟨_, rfl⟩
  have HY := Lib.hid (show A1 ++ A2 ++ A3 = (⟨(leB 4 nr ++ leB 4 ar ++ wdB ⟨ih, il⟩).toArray⟩ : ByteArray) by rw [hA1, hA2, hA3, str_app, str_app])
  simp only [← hA1] at hq1
  simp only [← hA2] at hq2
  simp only [← hA3] at hq3
  have hz1 : A1.size ≤ 4 := by rw [hA1, size_mk, leB_length]; omega
  have hz2 : A2.size ≤ 4 := by rw [hA2, size_mk, leB_length]; omega
  have hz3 : A3.size ≤ 8 := by rw [hA3, size_mk, wdB_length]; omega
  have s1 : ∀ W, (Op.stringOp .add A1 A2).run Tryz.prog W = .ok (.string (A1 ++ A2)) W := fun W => run_string_add_sum W _ _ (by omega)
  have s2 : ∀ W, (Op.stringOp .add (A1 ++ A2) A3).run Tryz.prog W = .ok (.string (A1 ++ A2 ++ A3)) W := fun W => run_string_add_sum W _ _ (by simp only [ByteArray.size_append]; omega)
  have Q1 := Lib.hid hq1
  have Q2 := Lib.hid hq2
  have Q3 := Lib.hid hq3
  clear hq1 hq2 hq3 hA1 hA2 hA3 hv hr hip hargs hlen
  have hkeep : ∀ w' : World, Below (w.alloc (.cells #[.int .i64 nr, .int .i64 ar, .int .i64 ih, .int .i64 il, .slice a args.length cap] 36)).heap.size (w.alloc (.cells #[.int .i64 nr, .int .i64 ar, .int .i64 ih, .int .i64 il, .slice a args.length cap] 36)) w' →
      (w'.cell? ⟨w.heap.size, 0, none⟩ = some (.int .i64 nr) ∧ w'.cell? ⟨w.heap.size, 1, none⟩ = some (.int .i64 ar) ∧ w'.cell? ⟨w.heap.size, 2, none⟩ = some (.int .i64 ih) ∧ w'.cell? ⟨w.heap.size, 3, none⟩ = some (.int .i64 il)) :=
    fun w' hb => ⟨box_cell hb 0, box_cell hb 1, box_cell hb 2, box_cell hb 3⟩
  have HK := Lib.hid hkeep
  clear hkeep
  have hbw1 : Below (w.alloc (.cells #[.int .i64 nr, .int .i64 ar, .int .i64 ih, .int .i64 il, .slice a args.length cap] 36)).heap.size (w.alloc (.cells #[.int .i64 nr, .int .i64 ar, .int .i64 ih, .int .i64 il, .slice a args.length cap] 36)) (w.alloc (.cells #[.int .i64 nr, .int .i64 ar, .int .i64 ih, .int .i64 il, .slice a args.length cap] 36)).drew := (Below.refl _ _).drew
  go_enter Tryz.func73, Tryz.ntmps73
  go_wp2_with fail
  go_region_held3 (fun w' => w'.cell? ⟨w.heap.size, 0, none⟩ = some (.int .i64 nr) ∧ w'.cell? ⟨w.heap.size, 1, none⟩ = some (.int .i64 ar) ∧ w'.cell? ⟨w.heap.size, 2, none⟩ = some (.int .i64 ih) ∧ w'.cell? ⟨w.heap.size, 3, none⟩ = some (.int .i64 il))
    (first | go_keep | exact HK.out _ hbw4 | exact HK.out _ hbw3 | exact HK.out _ hbw2)
    (first
      | (go_at_call 93; (with_reducible refine (Q1.out _).mono ?_); rintro e w2 ⟨rfl, hb2⟩; have hbw2 := hbw1.trans (hb2.mono hbw1.size))
      | (go_at_call 93; (with_reducible refine (Q2.out _).mono ?_); rintro e w3 ⟨rfl, hb3⟩; have hbw3 := hbw2.trans (hb3.mono hbw2.size))
      | (go_at_call 94; (with_reducible refine (Q3.out _).mono ?_); rintro e w4 ⟨rfl, hb4⟩; have hbw4 := hbw3.trans (hb4.mono hbw3.size)))
  have HB4 := Lib.hid hbw4
  clear hbw4 hbw3 hbw2 hb2 hb3 hb4 s1 s2
  go_wp2_with fail
  go_loopw [3, 4] (fun u i wr => ∃ (k : Nat) (T : ByteArray), k ≤ args.length ∧ i = .int .i64 k ∧ u = .string T ∧ T.size ≤ 16 + 8 * k ∧ T = ⟨((leB 4 nr ++ leB 4 ar ++ wdB ⟨ih, il⟩) ++ (args.take k).flatMap wdB).toArray⟩ ∧
      Below (w.alloc (.cells #[.int .i64 nr, .int .i64 ar, .int .i64 ih, .int .i64 il, .slice a args.length cap] 36)).heap.size (w.alloc (.cells #[.int .i64 nr, .int .i64 ar, .int .i64 ih, .int .i64 il, .slice a args.length cap] 36)) wr)
    (fun _ i _ => args.length - (intOf i).toNat)
  case atStart => exact ⟨0, _, by omega, rfl, rfl, by simp only [ByteArray.size_append]; omega, by rw [HY.out]; simp, HB4.out⟩
  case round =>
    obtain ⟨k, T, hk, rfl, rfl, hTs, hT, hbw⟩ := hrel
    have c4 := box_cell hbw 4
    simp only [List.getElem?_toArray, List.getElem?_cons_zero, List.getElem?_cons_succ] at c4
    have HT := Lib.hid hT
    have HX := Lib.hid (box_below hbw)
    have HB := Lib.hid hbw
    clear hT hbw
    by_cases hlt : k < args.length
    · obtain ⟨b, o, e, hb, d0, d1, hwf⟩ := WdAt.place (LAt.below HV.out HX.out) (List.getElem?_eq_getElem hlt)
      subst e
      have hx := HA.out k hlt
      have hbd := wd_bounds hx
      have hnx := wdBs_next hlt
      generalize args[k] = x at *
      obtain ⟨xh, xl⟩ := x
      obtain ⟨⟨xh0, xh1⟩, ⟨xl0, xl1⟩⟩ := hbd
      simp only at xh0 xh1 xl0 xl1 d0 d1
      have q := fun W => l03Word_any xh xl W xh0 xh1 xl0 xl1
      obtain ⟨C, hC⟩ : ∃ C : ByteArray, C = ⟨(wdB ⟨xh, xl⟩).toArray⟩ := ⟨_, rfl⟩
      simp only [← hC] at q
      have hzC : C.size ≤ 8 := by rw [hC, size_mk, wdB_length]; omega
      have HN := Lib.hid (show T ++ C = ⟨((leB 4 nr ++ leB 4 ar ++ wdB ⟨ih, il⟩) ++ (args.take (k + 1)).flatMap wdB).toArray⟩ by rw [HT.out, hC, hnx, str_app, List.append_assoc])
      have HTC := Lib.hid (show (T ++ C).size ≤ 16 + 8 * (k + 1) by simp only [ByteArray.size_append]; omega)
      have QQ := Lib.hid q
      clear q hC hnx hx
      go_wp2_with fail
      refine (QQ.out _).mono ?_
      rintro e w2 ⟨rfl, hb2⟩
      have HB2 := Lib.hid (HB.out.trans (hb2.mono HB.out.size))
      clear hb2
      go_wp2_with fail
      go_roundw
      case rel => exact ⟨k + 1, _, by omega, by go_num, rfl, HTC.out, HN.out, HB2.out⟩
      case measure => simp [intOf]; omega
    · have HF := Lib.hid (show T = ⟨(rcB ⟨nr, ar, ⟨ih, il⟩, args⟩).toArray⟩ by
        rw [HT.out, List.take_of_length_le (by omega)]; rfl)
      go_wp2_with fail
      go_ret
      exact ⟨ret_str HF.out, HX.out⟩

theorem rbOf_no {r : Rc} (h : rcRight r = false) : rbOf r = ⟨#[]⟩ := by unfold rbOf; rw [if_neg (by simp [h])]
theorem rbOf_yes {r : Rc} (h : rcRight r = true) : rbOf r = ⟨(rcB r).toArray⟩ := by unfold rbOf; rw [if_pos h]

set_option maxHeartbeats 800000 in
theorem specRecordBytes_any (r : Rc) (v : Value) (w : World) (hv : WdAt w w.heap.size v r.args) :
    Calls Tryz.prog 40 #[rcV r v] w fun e w' => e = .returned (.string (rbOf r)) ∧ Below w.heap.size w w' := by
  obtain ⟨a, cap, rfl, hlc, hcm⟩ := hv.len
  have hb0 : ∀ o, Below w.heap.size w (w.alloc o) := fun o => (Below.refl _ _).alloc (Nat.le_refl _) _
  have hv0 := fun o => LAt.up (LAt.below hv (hb0 o)) (hb0 o).size
  have q1 := fun o => specRecordRight_any r _ (w.alloc o) (hv0 o)
  cases hr : rcRight r with
  | false =>
    have HN := Lib.hid (rbOf_no hr)
    simp only [hr] at q1
    have Q1 := Lib.hid q1
    clear q1 hv0 hv hb0 hr
    obtain ⟨nr, ar, ⟨ih, il⟩, args⟩ := r
    simp only at Q1 ⊢
    go_enter Tryz.func40, Tryz.ntmps40
    go_wp2_with fail
    refine (Q1.out _).mono ?_
    rintro e w1 ⟨rfl, hb1⟩
    have HB := Lib.hid (box_below hb1)
    clear hb1
    go_wp2_with fail
    go_ret
    exact ⟨ret_str HN.out.symm, HB.out⟩
  | true =>
    have HN := Lib.hid (rbOf_yes hr)
    have q2 := fun W (h : Below w.heap.size w W) => l03Bytes_any r _ W (LAt.up (LAt.below hv h) h.size) hr
    have hz : (⟨(rcB r).toArray⟩ : ByteArray).size ≤ 64 := by
      have := (rcRight_parts hr).2.2.2.1
      rw [size_mk]
      simp only [rcB, List.length_append, leB_length, wdB_length, wdBs_length, this]
      omega
    simp only [hr] at q1
    generalize (⟨(rcB r).toArray⟩ : ByteArray) = A at *
    have Q1 := Lib.hid q1
    have Q2 := Lib.hid q2
    clear q1 q2 hv0 hv hb0 hr
    obtain ⟨nr, ar, ⟨ih, il⟩, args⟩ := r
    simp only at Q1 Q2 hlc ⊢
    go_enter Tryz.func40, Tryz.ntmps40
    go_wp2_with fail
    refine (Q1.out _).mono ?_
    rintro e w1 ⟨rfl, hb1⟩
    have c0 := box_cell hb1 0
    have c1 := box_cell hb1 1
    have c2 := box_cell hb1 2
    have c3 := box_cell hb1 3
    have c4 := box_cell hb1 4
    simp only [List.getElem?_toArray, List.getElem?_cons_zero, List.getElem?_cons_succ] at c0 c1 c2 c3 c4
    have HB := Lib.hid (box_below hb1)
    clear hb1
    go_wp2_with fail
    clear c0 c1 c2 c3 c4
    refine (Q2.out _ HB.out).mono ?_
    rintro e w2 ⟨rfl, hb2⟩
    have HB2 := Lib.hid (HB.out.trans (hb2.mono HB.out.size))
    clear hb2
    go_wp2_with fail
    go_ret
    exact ⟨ret_str HN.out.symm, HB2.out⟩

end Go.Proofs.YtekmnopgaopmlaaGreatDoor
