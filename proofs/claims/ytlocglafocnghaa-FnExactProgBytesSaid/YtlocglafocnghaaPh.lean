/- Walk of the model's ProgBytes. -/
import Derived.Test.YtlocglafocnghaaPb
import Derived.Deep.RegionHeld3
import Derived.Deep.DrawnRows
import Derived.Lib.AppendStr
set_option maxRecDepth 100000
namespace Go.Proofs.Ytlocglafocnghaa
open Go.RowKit
attribute [local go_sem ↓] Go.wp_at_zero Go.wp_at_succ

/-- A string's bytes put behind a byte row of the call's own, at a step of a region that draws its order. -/
theorem step_push_str {ops : Array Oper} {o : Oper} {a : Act} {K : Act → World → Prop} {Q : Exit → Act → World → Prop} {E : Prop} {w : World} (hgd : o.guard = none) (sl x : Operand)
    (ho : o.op = .call { callee := .builtin .append, args := #[sl, x], argTypes := #[44, 9] })
    (base : Nat) (v : Value) (bs : List UInt8) (hs : a.eval sl = v) (hown : OwnB base w v bs) (t : ByteArray) (hx : a.eval x = .string t)
    (hlen : bs.length + t.size ≤ 140737488355328) (hbase : base ≤ w.heap.size)
    (h : ∀ v' w', OwnB base w' v' (bs ++ t.data.toList) → w.grownBy w' v.ownBlock → K (a.put o.dst v') w') :
    if Region.wanted o (yielded ops a.tmps) = true then Oper.wp Try.prog o a w K Q else E := by
  have hw : Region.wanted o (yielded ops a.tmps) = true := by simp [Region.wanted, hgd]
  rw [if_pos hw]
  obtain ⟨i0, hi, hz0, hz1, hz2⟩ := info_parts info_u8
  obtain ⟨v', w', hr, h2, h3, _⟩ := Lib.run_append_own_string (P := Try.prog) (w := w) base 44 9 o.type 5 i0 Try.underlying44 Try.underlying9 hi hz0 hz1 hz2 v bs.length (byteCells bs) hown t (by unfold maxLen; omega) hlen hbase
  unfold Oper.wp execOp
  simp only [ho, resolve, invoke, builtin, Sem.run_bind, Sem.run_pure, Result.andThen_ok, List.map_toArray, List.map_cons, List.map_nil, hs, hx, hr]
  refine h _ _ ?_ h3
  unfold OwnB
  rw [byteCells_append, List.length_append]
  exact h2

theorem ins_bounds {x : Ins} (h : insRight x = true) : (0 ≤ x.c ∧ x.c ≤ 65535) ∧ (0 ≤ x.y ∧ x.y ≤ 255) ∧ (0 ≤ x.n ∧ x.n ≤ 255) ∧ (0 ≤ x.k ∧ x.k ≤ 4294967295) := by
  unfold insRight isB at h
  simpa [and_assoc] using h
theorem allOk_parts {l : List Ins} (h : allOk l = true) : l.length ≤ 400 ∧ ∀ i (hi : i < l.length), insRight l[i] = true := by
  unfold allOk at h
  simp at h
  exact ⟨h.1, fun i hi => h.2 _ (List.getElem_mem hi)⟩
theorem progB_length (l : List Ins) : (progB l).length = 8 * l.length := by
  induction l with
  | nil => rfl
  | cons x l ih => simp only [progB, List.flatMap_cons, List.length_append, List.length_cons] at ih ⊢; rw [ih]; simp only [insB, List.length_append, leB_length]; omega
theorem progB_next {l : List Ins} {k : Nat} (hk : k < l.length) : progB (l.take (k + 1)) = progB (l.take k) ++ insB l[k] := by
  unfold progB; rw [List.take_succ_eq_append_getElem hk, List.flatMap_append]; simp
theorem pbOf_no {l : List Ins} (h : allOk l = false) : pbOf l = ⟨#[]⟩ := by unfold pbOf; rw [if_neg (by simp [h])]
theorem pbOf_yes {l : List Ins} (h : allOk l = true) : pbOf l = ⟨(progB l).toArray⟩ := by unfold pbOf; rw [if_pos h]

theorem put1_any (n : Int) (w : World) (h0 : 0 ≤ n) (h1 : n ≤ 9223372036854775807) : Calls Try.prog 22 #[.int .i64 n, .int .i64 1] w fun e w' => e = .returned (.string ⟨(leB 1 n).toArray⟩) ∧ Below w.heap.size w w' := l02Put_any n 1 w h0 h1 (by omega)
theorem put2_any (n : Int) (w : World) (h0 : 0 ≤ n) (h1 : n ≤ 9223372036854775807) : Calls Try.prog 22 #[.int .i64 n, .int .i64 2] w fun e w' => e = .returned (.string ⟨(leB 2 n).toArray⟩) ∧ Below w.heap.size w w' := l02Put_any n 2 w h0 h1 (by omega)
theorem put4_any (n : Int) (w : World) (h0 : 0 ≤ n) (h1 : n ≤ 9223372036854775807) : Calls Try.prog 22 #[.int .i64 n, .int .i64 4] w fun e w' => e = .returned (.string ⟨(leB 4 n).toArray⟩) ∧ Below w.heap.size w w' := l02Put_any n 4 w h0 h1 (by omega)

set_option maxHeartbeats 3200000 in
theorem specProgBytes_any (v : Value) (l : List Ins) (w : World) (h : InsAt w w.heap.size v l) :
    Calls Try.prog 10 #[v] w fun e w' => e = .returned (.string (pbOf l)) ∧ Below w.heap.size w w' := by
  obtain ⟨a, cap, rfl, hlc, hcm⟩ := h.len
  unfold maxLen at hcm
  have HP := Lib.hid (l02Prog_any _ l w h)
  have HH := Lib.hid h
  clear h
  cases hok : allOk l with
  | false =>
    have HN := Lib.hid (pbOf_no hok)
    rw [hok] at HP
    clear hok
    go_enter Try.func10, Try.ntmps10
    go_wp2_with fail
    refine HP.out.mono ?_
    rintro e w1 ⟨rfl, hb1⟩
    go_wp2_with fail
    go_ret
    exact ⟨ret_str HN.out.symm, hb1⟩
  | true =>
    have HN := Lib.hid (pbOf_yes hok)
    have HO := Lib.hid (allOk_parts hok)
    have hlen := HO.out.1
    rw [hok] at HP
    clear hok
    go_enter Try.func10, Try.ntmps10
    go_wp2_with fail
    refine HP.out.mono ?_
    rintro e w1 ⟨rfl, hb1⟩
    have HB1 := Lib.hid hb1
    have hs1 := hb1.size
    clear hb1
    go_wp2_with fail
    go_loopw [3, 4] (fun v i wr => ∃ k : Nat, k ≤ l.length ∧ i = .int .i64 k ∧ OwnB w.heap.size wr v (progB (l.take k)) ∧ Below w.heap.size w wr) (fun _ i _ => l.length - (intOf i).toNat)
    case atStart => exact ⟨0, by omega, rfl, World.ownsRow_lit _ _ _ hs1 (by unfold maxLen; omega) (by simp), HB1.out.alloc hs1 _⟩
    case round =>
      obtain ⟨k, hk, rfl, hown, hbw⟩ := hrel
      have hsz := hbw.size
      by_cases hlt : k < l.length
      · obtain ⟨b, o, e, hb, c0, c1, c2, c3, hwf⟩ := (HH.out.below hbw).at_ (List.getElem?_eq_getElem hlt)
        subst e
        obtain ⟨⟨x0, x1⟩, ⟨y0, y1⟩, ⟨n0, n1⟩, ⟨k0, k1⟩⟩ := ins_bounds (HO.out.2 k hlt)
        have hpn := progB_next hlt
        have hpl := progB_length (l.take k)
        rw [List.length_take] at hpl
        have HPN := Lib.hid hpn
        have HPL := Lib.hid (show (progB (l.take k)).length ≤ 3200 by omega)
        clear hpn hpl
        generalize l[k] = x at *
        obtain ⟨xc, xy, xn, xk⟩ := x
        simp only at c0 c1 c2 c3 x0 x1 y0 y1 n0 n1 k0 k1
        have hi0 : (0 : Int) ≤ (k : Int) := Int.natCast_nonneg _
        have hi1 : (k : Int) < (l.length : Int) := by omega
        have hkeep : ∀ w' : World, Below w.heap.size w w' → (w'.cell? ⟨b, o + k * 4, none⟩ = some (.int .i64 xc) ∧ w'.cell? ⟨b, o + k * 4 + 1, none⟩ = some (.int .i64 xy) ∧ w'.cell? ⟨b, o + k * 4 + 2, none⟩ = some (.int .i64 xn) ∧ w'.cell? ⟨b, o + k * 4 + 3, none⟩ = some (.int .i64 xk)) := by
          intro w' hb'
          have e : ∀ j, w'.cell? ⟨b, j, none⟩ = wr.cell? ⟨b, j, none⟩ := fun j => (hb'.cell (p := ⟨b, j, none⟩) hb).trans (hbw.cell (p := ⟨b, j, none⟩) hb).symm
          exact ⟨(e _).trans c0, (e _).trans c1, (e _).trans c2, (e _).trans c3⟩
        have HK := Lib.hid hkeep
        clear hkeep
        have hq1 := fun W => put2_any xc W x0 (by omega)
        have hq2 := fun W => put1_any xy W y0 (by omega)
        have hq3 := fun W => put1_any xn W n0 (by omega)
        have hq4 := fun W => put4_any xk W k0 (by omega)
        obtain ⟨A1, hA1⟩ : ∃ A : ByteArray, A = ⟨(leB 2 xc).toArray⟩ := ⟨_, rfl⟩
        obtain ⟨A2, hA2⟩ : ∃ A : ByteArray, A = ⟨(leB 1 xy).toArray⟩ := ⟨_, rfl⟩
        obtain ⟨A3, hA3⟩ : ∃ A : ByteArray, A = ⟨(leB 1 xn).toArray⟩ := ⟨_, rfl⟩
        obtain ⟨A4, hA4⟩ : ∃ A : ByteArray, A = ⟨(leB 4 xk).toArray⟩ := ⟨_, rfl⟩
        simp only [← hA1] at hq1
        simp only [← hA2] at hq2
        simp only [← hA3] at hq3
        simp only [← hA4] at hq4
        have hz1 : A1.size ≤ 2 := by rw [hA1, size_mk, leB_length]; omega
        have hz2 : A2.size ≤ 1 := by rw [hA2, size_mk, leB_length]; omega
        have hz3 : A3.size ≤ 1 := by rw [hA3, size_mk, leB_length]; omega
        have hz4 : A4.size ≤ 4 := by rw [hA4, size_mk, leB_length]; omega
        have HY := Lib.hid (show (A1 ++ A2 ++ A3 ++ A4).data.toList = insB ⟨xc, xy, xn, xk⟩ by
          rw [hA1, hA2, hA3, hA4]; simp [ByteArray.data_append, insB])
        have HZ := Lib.hid (show (A1 ++ A2 ++ A3 ++ A4).size ≤ 8 by simp only [ByteArray.size_append]; omega)
        have s1 : ∀ W, (Op.stringOp .add A1 A2).run Try.prog W = .ok (.string (A1 ++ A2)) W := fun W => run_string_add_sum W _ _ (by omega)
        have s2 : ∀ W, (Op.stringOp .add (A1 ++ A2) A3).run Try.prog W = .ok (.string (A1 ++ A2 ++ A3)) W := fun W => run_string_add_sum W _ _ (by simp only [ByteArray.size_append]; omega)
        have s3 : ∀ W, (Op.stringOp .add (A1 ++ A2 ++ A3) A4).run Try.prog W = .ok (.string (A1 ++ A2 ++ A3 ++ A4)) W := fun W => run_string_add_sum W _ _ (by simp only [ByteArray.size_append]; omega)
        have Q1 := Lib.hid hq1
        have Q2 := Lib.hid hq2
        have Q3 := Lib.hid hq3
        have Q4 := Lib.hid hq4
        clear hq1 hq2 hq3 hq4 hA1 hA2 hA3 hA4
        have hown1 : OwnB w.heap.size wr.drew u3 (progB (l.take k)) := hown
        have hbw1 : Below w.heap.size w wr.drew := hbw.drew
        clear hown hbw
        go_wp2_with fail
        go_region_held3 (fun w' => w'.cell? ⟨b, o + k * 4, none⟩ = some (.int .i64 xc) ∧ w'.cell? ⟨b, o + k * 4 + 1, none⟩ = some (.int .i64 xy) ∧ w'.cell? ⟨b, o + k * 4 + 2, none⟩ = some (.int .i64 xn) ∧ w'.cell? ⟨b, o + k * 4 + 3, none⟩ = some (.int .i64 xk))
          (first | go_keep | exact HK.out _ hbw6 | exact HK.out _ hbw5 | exact HK.out _ hbw4 | exact HK.out _ hbw3 | exact HK.out _ hbw2)
          (first
            | (go_at_call 22; (with_reducible refine (Q1.out _).mono ?_); rintro e w2 ⟨rfl, hb2⟩; have hbw2 := hbw1.trans (hb2.mono hbw1.size); have hown2 : OwnB _ _ _ _ := own_below hown1 hb2)
            | (go_at_call 22; (with_reducible refine (Q2.out _).mono ?_); rintro e w3 ⟨rfl, hb3⟩; have hbw3 := hbw2.trans (hb3.mono hbw2.size); have hown3 : OwnB _ _ _ _ := own_below hown2 hb3)
            | (go_at_call 22; (with_reducible refine (Q3.out _).mono ?_); rintro e w4 ⟨rfl, hb4⟩; have hbw4 := hbw3.trans (hb4.mono hbw3.size); have hown4 : OwnB _ _ _ _ := own_below hown3 hb4)
            | (go_at_call 22; (with_reducible refine (Q4.out _).mono ?_); rintro e w5 ⟨rfl, hb5⟩; have hbw5 := hbw4.trans (hb5.mono hbw4.size); have hown5 : OwnB _ _ _ _ := own_below hown4 hb5)
            | (refine step_push_str (by rfl) _ _ (by rfl) w.heap.size u3 (progB (l.take k)) (by rfl) hown5 _ (by rfl) (by have := HZ.out; have := HPL.out; omega) hbw5.size ?_; intro v6 w6 hown6 hg6; have hbw6 := hbw5.grown hg6 hbw5.size (fun k hk => (hown5.lt k hk).1)))
        all_goals
          go_wp2_with fail
          go_roundw
          case rel => exact ⟨k + 1, by omega, by go_num, by rw [HPN.out, ← HY.out]; exact hown6, hbw6⟩
          case measure => simp [intOf]; omega
      · have hst := hown.string
        have HF := Lib.hid (show (progB (l.take k)) = progB l by rw [List.take_of_length_le (by omega)])
        go_wp2_with fail
        go_ret
        exact ⟨ret_str (by rw [HN.out, HF.out]), hbw⟩

end Go.Proofs.Ytlocglafocnghaa
