/- Walk of the program's ProgBytes. -/
import Derived.Test.YtlocglafocnghaaGb
import Derived.Test.YtlocglafocnghaaPh
set_option maxRecDepth 100000
namespace Go.Proofs.Ytlocglafocnghaa
open Go.RowKit

set_option maxHeartbeats 800000 in
theorem addLow_any (base : Nat) (v0 : Value) (bs : List UInt8) (n : Int) (m : Nat) (w : World) (hown0 : OwnB base w v0 bs) (hbase : base ≤ w.heap.size) (hlen : bs.length ≤ 1000000000) (h0 : 0 ≤ n) (h1 : n ≤ 9223372036854775807) (hm : m ≤ 8) :
    Calls Try.prog 24 #[v0, .int .i64 n, .int .i64 m] w fun e w' => ∃ v', e = .returned v' ∧ OwnB base w' v' (bs ++ leB m n) ∧ GrB w w' v0 v' := by
  go_enter Try.func24, Try.ntmps24
  go_wp2
  go_loopw [0, 7, 11] (fun v u i wr => ∃ (k : Nat) (pre : List UInt8) (x : Int), k ≤ m ∧ u = .int .u64 x ∧ i = .int .i64 k ∧ pre.length = k ∧ 0 ≤ x ∧ x ≤ 9223372036854775807 ∧ pre ++ leB (m - k) x = leB m n ∧ OwnB base wr v (bs ++ pre) ∧ GrB w wr v0 v) (fun _ _ i _ => m - (intOf i).toNat)
  case atStart => exact ⟨0, [], n, by omega, rfl, rfl, rfl, h0, h1, by simp, by simpa using hown0, GrB.refl _ _⟩
  case round =>
    obtain ⟨k, pre, x, hk, rfl, rfl, hl, hx0, hx1, he, hown, hg⟩ := hrel
    have HE := Lib.hid he
    have HL := Lib.hid hl
    clear he hl
    have hsz : base ≤ _ := Nat.le_trans hbase hg.1.size
    by_cases hlt : k < m
    · have hnext : (pre ++ [UInt8.ofNat (x % 256).toNat]) ++ leB (m - (k + 1)) (x / 256) = leB m n := by
        have := HE.out
        rw [show m - k = (m - (k + 1)) + 1 by omega] at this
        rw [List.append_assoc]
        exact this
      have hpl : (bs ++ pre).length ≤ 1000000008 := by have := HL.out; simp; omega
      have HN := Lib.hid hnext
      clear hnext
      go_wp2_with (at_builtin; refine wpList_push_u8s rfl _ _ rfl _ _ [x % 256] rfl 1 rfl base _ _ rfl hown (by intro n hn; simp at hn; omega) rfl (by omega) hsz ?_; intro v1 w1 hown1 hg1)
      go_roundw
      case rel => exact ⟨k + 1, _, x / 256, by omega, rfl, by go_num, by simp [HL.out], by omega, by omega, HN.out, by rw [← List.append_assoc]; exact hown1, hg.trans hg1⟩
      case measure => simp [intOf]; omega
    · have hfin : pre = leB m n := by
        have := HE.out
        rw [show m - k = 0 by omega] at this
        simpa [leB] using this
      have HF := Lib.hid hfin
      clear hfin
      go_wp2_with fail
      go_ret
      exact ⟨_, rfl, by rw [← HF.out]; exact hown, hg⟩

theorem low2_any (base : Nat) (v0 : Value) (bs : List UInt8) (n : Int) (w : World) (hown0 : OwnB base w v0 bs) (hbase : base ≤ w.heap.size) (hlen : bs.length ≤ 1000000000) (h0 : 0 ≤ n) (h1 : n ≤ 9223372036854775807) :
    Calls Try.prog 24 #[v0, .int .i64 n, .int .i64 2] w fun e w' => ∃ v', e = .returned v' ∧ OwnB base w' v' (bs ++ leB 2 n) ∧ GrB w w' v0 v' := addLow_any base v0 bs n 2 w hown0 hbase hlen h0 h1 (by omega)
theorem low4_any (base : Nat) (v0 : Value) (bs : List UInt8) (n : Int) (w : World) (hown0 : OwnB base w v0 bs) (hbase : base ≤ w.heap.size) (hlen : bs.length ≤ 1000000000) (h0 : 0 ≤ n) (h1 : n ≤ 9223372036854775807) :
    Calls Try.prog 24 #[v0, .int .i64 n, .int .i64 4] w fun e w' => ∃ v', e = .returned v' ∧ OwnB base w' v' (bs ++ leB 4 n) ∧ GrB w w' v0 v' := addLow_any base v0 bs n 4 w hown0 hbase hlen h0 h1 (by omega)

set_option maxHeartbeats 1600000 in
theorem implProgBytes_any (v : Value) (l : List Ins) (w : World) (h : InsAt w w.heap.size v l) :
    Calls Try.prog 12 #[v] w fun e w' => e = .returned (.string (pbOf l)) ∧ Below w.heap.size w w' := by
  obtain ⟨a, cap, rfl, hlc, hcm⟩ := h.len
  unfold maxLen at hcm
  have HP := Lib.hid (allRight_any _ l w h)
  have HH := Lib.hid h
  clear h
  cases hok : allOk l with
  | false =>
    have HN := Lib.hid (pbOf_no hok)
    rw [hok] at HP
    clear hok
    go_enter Try.func12, Try.ntmps12
    go_wp2_with fail
    refine HP.out.mono ?_
    rintro e w1 ⟨rfl, hb1⟩
    go_wp2_with fail
    go_ret
    exact ⟨ret_str HN.out.symm, hb1⟩
  | true =>
    have HN := Lib.hid (pbOf_yes hok)
    have HO := Lib.hid (allOk_parts hok)
    have hlen := HO.out.1
    rw [hok] at HP
    clear hok
    obtain ⟨i0, hi, hz0, hz1, hz2⟩ := info_parts info_u8
    go_enter Try.func12, Try.ntmps12
    go_wp2_with fail
    refine HP.out.mono ?_
    rintro e w1 ⟨rfl, hb1⟩
    have HB1 := Lib.hid hb1
    have hs1 := hb1.size
    clear hb1
    go_wp2_with (refine wpList_make_own _ rfl _ _ _ rfl w.heap.size 5 i0 _ 1 Try.underlying44 hi hz0 hz1 .i64 .i64 _ (8 * l.length) rfl rfl (by omega) (by rw [hz2]; omega) (by unfold maxLen; omega) hs1 ?_; intro w2 hown2 hg2)
    have HO2 := Lib.hid hown2
    have HB2 := Lib.hid (HB1.out.grown hg2 hs1 (fun k hk => by cases hk))
    clear hown2 hg2
    go_loopw [3, 15] (fun v i wr => ∃ k : Nat, k ≤ l.length ∧ i = .int .i64 k ∧ OwnB w.heap.size wr v (progB (l.take k)) ∧ Below w.heap.size w wr) (fun _ i _ => l.length - (intOf i).toNat)
    case atStart => exact ⟨0, by omega, rfl, HO2.out, HB2.out⟩
    case round =>
      obtain ⟨k, hk, rfl, hown, hbw⟩ := hrel
      have hsz := hbw.size
      by_cases hlt : k < l.length
      · obtain ⟨b, o, e, hb, c0, c1, c2, c3, hwf⟩ := (HH.out.below hbw).at_ (List.getElem?_eq_getElem hlt)
        subst e
        obtain ⟨⟨x0, x1⟩, ⟨y0, y1⟩, ⟨n0, n1⟩, ⟨k0, k1⟩⟩ := ins_bounds (HO.out.2 k hlt)
        have hpn := progB_next hlt
        have hpl := progB_length (l.take k)
        rw [List.length_take] at hpl
        have HPN := Lib.hid hpn
        have HPL := Lib.hid (show (progB (l.take k)).length ≤ 3200 by omega)
        clear hpn hpl
        generalize l[k] = x at *
        obtain ⟨xc, xy, xn, xk⟩ := x
        simp only at c0 c1 c2 c3 x0 x1 y0 y1 n0 n1 k0 k1
        have HW := Lib.hid hbw
        have HV := Lib.hid hown
        clear hbw hown
        have hv1 : ∀ o, OwnB w.heap.size (wr.alloc o) u3 (progB (l.take k)) := fun o => World.ownsRow.alloc HV.out o
        have HV1 := Lib.hid hv1
        clear hv1
        go_wp2_with fail
        refine (low2_any w.heap.size _ _ xc _ (HV1.out _) (by simp; omega) (by have := HPL.out; omega) x0 (by omega)).mono ?_
        rintro e w3 ⟨v3, rfl, hown3, hg3⟩
        have hne : u3.ownBlock ≠ some wr.heap.size := fun e => by have := (HV.out.lt _ e).2; omega
        have d1 := hg3.cell (p := ⟨wr.heap.size, 1, none⟩) (by simp) hne
        have d2 := hg3.cell (p := ⟨wr.heap.size, 2, none⟩) (by simp) hne
        rw [World.cell?_alloc_at _ _ _ _ rfl] at d1 d2
        simp only [List.getElem?_toArray, List.getElem?_cons_zero, List.getElem?_cons_succ] at d1 d2
        have hsz3 : w.heap.size ≤ w3.heap.size := Nat.le_trans hsz (Nat.le_trans (by simp) hg3.1.size)
        have hlen3 : (progB (l.take k) ++ leB 2 xc).length ≤ 3202 := by have := HPL.out; simp [leB_length]; omega
        have HG3 := Lib.hid hg3
        clear hg3
        go_wp2_with (at_builtin; refine wpList_push_u8s rfl _ _ (by rfl) _ _ [xy, xn] rfl 2 rfl w.heap.size v3 (progB (l.take k) ++ leB 2 xc) (by rfl) hown3 (by intro n hn; simp at hn; omega) (by rfl) (by omega) hsz3 ?_; intro v4 w4 hown4 hg4; have hg4' := HG3.out.trans hg4; have d3 := hg4'.cell (p := ⟨wr.heap.size, 3, none⟩) (by simp) hne; rw [World.cell?_alloc_at _ _ _ _ rfl] at d3; simp only [List.getElem?_toArray, List.getElem?_cons_zero, List.getElem?_cons_succ] at d3)
        have hsz4 : w.heap.size ≤ w4.heap.size := Nat.le_trans hsz3 hg4.1.size
        have hlen4 : ((progB (l.take k) ++ leB 2 xc) ++ [xy, xn].map fun n => UInt8.ofNat n.toNat).length ≤ 3204 := by simp at hlen3 ⊢; omega
        have HG4 := Lib.hid hg4'
        have HO4 := Lib.hid hown4
        clear d1 d2 hg4' hg4 hown3 hown4
        refine (low4_any w.heap.size _ _ xk _ HO4.out hsz4 (Nat.le_trans hlen4 (by omega)) k0 (by omega)).mono ?_
        rintro e w5 ⟨v5, rfl, hown5, hg5⟩
        have hbytes : ((progB (l.take k) ++ leB 2 xc) ++ [xy, xn].map fun n => UInt8.ofNat n.toNat) ++ leB 4 xk = progB (l.take (k + 1)) := by
          rw [HPN.out]
          simp only [insB, leB, List.map_cons, List.map_nil, List.append_assoc, show xy % 256 = xy from by omega, show xn % 256 = xn from by omega]
          rfl
        rw [hbytes] at hown5
        have hbX := (HG4.out.trans hg5).below (base := w.heap.size) (HW.out.alloc hsz _) (by simp; omega) (fun k hk => (HV.out.lt k hk).1)
        have HX := Lib.hid hbX
        have HO5 := Lib.hid hown5
        clear hbytes hbX hown5 hg5
        go_wp2_with fail
        go_roundw
        case rel => exact ⟨k + 1, by omega, by go_num, HO5.out, HX.out⟩
        case measure => simp [intOf]; omega
      · have hst := hown.string
        have HF := Lib.hid (show (progB (l.take k)) = progB l by rw [List.take_of_length_le (by omega)])
        go_wp2_with fail
        go_ret
        exact ⟨ret_str (by rw [HN.out, HF.out]), hbw⟩

end Go.Proofs.Ytlocglafocnghaa
