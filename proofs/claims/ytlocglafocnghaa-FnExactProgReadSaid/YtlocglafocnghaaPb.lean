/- Walks of ProgBytes: the model's and the program's, against one plain function. -/
import Derived.Test.YtlocglafocnghaaTs
import Derived.Test.YtlocglafocnghaaBi
set_option maxRecDepth 100000
namespace Go.Proofs.Ytlocglafocnghaa
open Go.RowKit

/-- A number's bytes, the lowest first. -/
def leB : Nat → Int → List UInt8
  | 0, _ => []
  | m + 1, n => UInt8.ofNat (n % 256).toNat :: leB m (n / 256)
theorem leB_length : ∀ (m : Nat) (n : Int), (leB m n).length = m
  | 0, _ => rfl
  | m + 1, n => by simp [leB, leB_length m]
def insB (x : Ins) : List UInt8 := leB 2 x.c ++ leB 1 x.y ++ leB 1 x.n ++ leB 4 x.k
def progB (l : List Ins) : List UInt8 := l.flatMap insB
def allOk (l : List Ins) : Bool := decide (l.length ≤ 400) && l.all insRight
def pbOf (l : List Ins) : ByteArray := if allOk l then ⟨(progB l).toArray⟩ else ⟨#[]⟩

set_option maxHeartbeats 800000 in
theorem l02Put_any (n : Int) (m : Nat) (w : World) (h0 : 0 ≤ n) (h1 : n ≤ 9223372036854775807) (hm : m ≤ 4) :
    Calls Try.prog 22 #[.int .i64 n, .int .i64 m] w fun e w' => e = .returned (.string ⟨(leB m n).toArray⟩) ∧ Below w.heap.size w w' := by
  go_enter Try.func22, Try.ntmps22
  go_wp2
  go_loopw [5, 6] (fun v i wr => ∃ (k : Nat) (pre : List UInt8) (x : Int), k ≤ m ∧ i = .int .i64 k ∧ pre.length = k ∧ 0 ≤ x ∧ x = n / 256 ^ k ∧ pre ++ leB (m - k) x = leB m n ∧ OwnB w.heap.size wr v pre ∧ Below w.heap.size w wr) (fun _ i _ => m - (intOf i).toNat)
  case atStart => exact ⟨0, [], n, by omega, rfl, rfl, h0, by simp, by simp, World.ownsRow_lit _ _ _ (Nat.le_refl _) (by unfold maxLen; omega) (by simp), (Below.refl _ _).alloc (Nat.le_refl _) _⟩
  case round =>
    obtain ⟨k, pre, x, hk, rfl, hl, hx0, hx, he, hown, hbw⟩ := hrel
    have HE := Lib.hid he
    have HL := Lib.hid hl
    have HX := Lib.hid hx
    clear he hl hx
    have hsz := hbw.size
    by_cases hlt : k < m
    · have hnext : (pre ++ [UInt8.ofNat (x % 256).toNat]) ++ leB (m - (k + 1)) (x / 256) = leB m n := by
        have := HE.out
        rw [show m - k = (m - (k + 1)) + 1 by omega] at this
        rw [List.append_assoc]
        exact this
      have hnx : x / 256 = n / 256 ^ (k + 1) := by
        rw [HX.out, Int.pow_succ, Int.ediv_ediv_of_nonneg (Int.pow_nonneg (by omega))]
      have hpl : pre.length ≤ 3 := by have := HL.out; omega
      have HN := Lib.hid hnext
      have HX1 := Lib.hid hnx
      clear hnext hnx
      rcases (by omega : k = 0 ∨ k = 1 ∨ k = 2 ∨ k = 3) with rfl | rfl | rfl | rfl
      · have hb8 : bits .and .i64 n 255 % 256 = x % 256 := by
          have := HX.out
          rw [and_255_i64 _ (by omega) (by omega), this]
          omega
        go_wp2_with (at_builtin; refine wpList_push_u8 rfl _ _ rfl _ _ _ _ rfl hown _ (by omega) (by omega) rfl (by omega) hsz ?_; intro v1 w1 hown1 hg1)
        go_roundw
        case rel => exact ⟨1, _, x / 256, by omega, rfl, by simp [HL.out], by omega, HX1.out, HN.out, hown1, hbw.grown hg1 hsz (fun k hk => (hown.lt k hk).1)⟩
        case measure => simp [intOf]; omega
      · have hb8 : bits .and .i64 (n / 256) 255 % 256 = x % 256 := by
          have := HX.out
          rw [and_255_i64 _ (by omega) (by omega), this]
          omega
        go_wp2_with (at_builtin; refine wpList_push_u8 rfl _ _ rfl _ _ _ _ rfl hown _ (by omega) (by omega) rfl (by omega) hsz ?_; intro v1 w1 hown1 hg1)
        go_roundw
        case rel => exact ⟨2, _, x / 256, by omega, rfl, by simp [HL.out], by omega, HX1.out, HN.out, hown1, hbw.grown hg1 hsz (fun k hk => (hown.lt k hk).1)⟩
        case measure => simp [intOf]; omega
      · have hb8 : bits .and .i64 (n / 65536) 255 % 256 = x % 256 := by
          have := HX.out
          rw [and_255_i64 _ (by omega) (by omega), this]
          omega
        go_wp2_with (at_builtin; refine wpList_push_u8 rfl _ _ rfl _ _ _ _ rfl hown _ (by omega) (by omega) rfl (by omega) hsz ?_; intro v1 w1 hown1 hg1)
        go_roundw
        case rel => exact ⟨3, _, x / 256, by omega, rfl, by simp [HL.out], by omega, HX1.out, HN.out, hown1, hbw.grown hg1 hsz (fun k hk => (hown.lt k hk).1)⟩
        case measure => simp [intOf]; omega
      · have hb8 : bits .and .i64 (n / 16777216) 255 % 256 = x % 256 := by
          have := HX.out
          rw [and_255_i64 _ (by omega) (by omega), this]
          omega
        go_wp2_with (at_builtin; refine wpList_push_u8 rfl _ _ rfl _ _ _ _ rfl hown _ (by omega) (by omega) rfl (by omega) hsz ?_; intro v1 w1 hown1 hg1)
        go_roundw
        case rel => exact ⟨4, _, x / 256, by omega, rfl, by simp [HL.out], by omega, HX1.out, HN.out, hown1, hbw.grown hg1 hsz (fun k hk => (hown.lt k hk).1)⟩
        case measure => simp [intOf]; omega
    · have hst := hown.string
      have hfin : pre = leB m n := by
        have := HE.out
        rw [show m - k = 0 by omega] at this
        simpa [leB] using this
      have HF := Lib.hid hfin
      clear hfin
      go_wp2_with fail
      go_ret
      exact ⟨ret_str (by rw [HF.out]), hbw⟩

theorem all_take {l : List Ins} {k : Nat} (h : (l.take k).all insRight = true) (hk : k < l.length) (hx : insRight l[k] = true) : (l.take (k + 1)).all insRight = true := by
  rw [List.take_succ_eq_append_getElem hk, List.all_append, h]
  simp [hx]
theorem allOk_bad {l : List Ins} {k : Nat} (hk : k < l.length) (hx : insRight l[k] = false) : allOk l = false := by
  unfold allOk
  rw [Bool.and_eq_false_iff]
  right
  rw [List.all_eq_false]
  exact ⟨l[k], List.getElem_mem hk, by simp [hx]⟩
theorem allOk_long {l : List Ins} (h : 400 < l.length) : allOk l = false := by
  unfold allOk
  rw [decide_eq_false (by omega)]
  rfl
theorem allOk_end {l : List Ins} {k : Nat} (h : (l.take k).all insRight = true) (hk : l.length ≤ k) (hl : l.length ≤ 400) : allOk l = true := by
  unfold allOk
  rw [List.take_of_length_le hk] at h
  simp [h, hl]

set_option maxHeartbeats 800000 in
theorem l02Prog_any (v : Value) (l : List Ins) (w : World) (h : InsAt w w.heap.size v l) :
    Calls Try.prog 21 #[v] w fun e w' => e = .returned (.bool (allOk l)) ∧ Below w.heap.size w w' := by
  obtain ⟨a, cap, rfl, hlc, hcm⟩ := h.len
  unfold maxLen at hcm
  have HH := Lib.hid h
  clear h
  go_enter Try.func21, Try.ntmps21
  go_wp2
  go_loopw [3] (fun i wr => ∃ k : Nat, k ≤ l.length ∧ k ≤ 401 ∧ i = .int .i64 k ∧ (l.take k).all insRight = true ∧ Below w.heap.size w wr) (fun i _ => l.length - (intOf i).toNat)
  case atStart => exact ⟨0, by omega, by omega, rfl, by simp, Below.refl _ _⟩
  case round =>
    obtain ⟨k, hk, hk1, rfl, hall, hbw⟩ := hrel
    have HA := Lib.hid hall
    have HB := Lib.hid hbw
    have hsz := hbw.size
    clear hall hbw
    by_cases hlt : k < l.length
    · by_cases h4 : k ≤ 400
      · obtain ⟨b, o, e, hb, c0, c1, c2, c3, hwf⟩ := (HH.out.below HB.out).at_ (List.getElem?_eq_getElem hlt)
        subst e
        go_wp2_with fail
        refine (isRight_spec _ _ _ _ _).mono ?_
        rintro e w2 ⟨rfl, hb2⟩
        have HB2 := Lib.hid (HB.out.trans (hb2.mono hsz))
        clear hb2
        cases hx : insRight l[k] with
        | true =>
          have HN := Lib.hid (all_take HA.out hlt hx)
          have hx' : insRight ⟨l[k].c, l[k].y, l[k].n, l[k].k⟩ = true := hx
          clear hx
          go_wp2_with fail
          go_roundw
          case rel => exact ⟨k + 1, by omega, by omega, by go_num, HN.out, HB2.out⟩
          case measure => simp [intOf]; omega
        | false =>
          have HN := Lib.hid (allOk_bad hlt hx)
          have hx' : insRight ⟨l[k].c, l[k].y, l[k].n, l[k].k⟩ = false := hx
          clear hx
          go_wp2_with fail
          go_ret
          exact ⟨ret_bool HN.out.symm, HB2.out⟩
      · have h4' : decide ((k : Int) ≤ 400) = false := by simp; omega
        have HN := Lib.hid (allOk_long (l := l) (by omega))
        have h5 : decide ((l.length : Int) ≤ 400) = false := by simp; omega
        go_wp2_with fail
        go_ret
        exact ⟨ret_bool HN.out.symm, HB.out⟩
    · have hlt' : decide (k < l.length) = false := by simpa using hlt
      by_cases h4 : l.length ≤ 400
      · have HN := Lib.hid (allOk_end HA.out (by omega) h4)
        have h5 : decide ((l.length : Int) ≤ 400) = true := by simp; omega
        go_wp2_with fail
        go_ret
        exact ⟨ret_bool HN.out.symm, HB.out⟩
      · have HN := Lib.hid (allOk_long (l := l) (by omega))
        have h5 : decide ((l.length : Int) ≤ 400) = false := by simp; omega
        go_wp2_with fail
        go_ret
        exact ⟨ret_bool HN.out.symm, HB.out⟩

set_option maxHeartbeats 800000 in
theorem allRight_any (v : Value) (l : List Ins) (w : World) (h : InsAt w w.heap.size v l) :
    Calls Try.prog 23 #[v] w fun e w' => e = .returned (.bool (allOk l)) ∧ Below w.heap.size w w' := by
  obtain ⟨a, cap, rfl, hlc, hcm⟩ := h.len
  unfold maxLen at hcm
  have HH := Lib.hid h
  clear h
  by_cases h4 : 400 < l.length
  · have HN := Lib.hid (allOk_long h4)
    have h5 : decide (400 < (l.length : Int)) = true := by simp; omega
    go_enter Try.func23, Try.ntmps23
    go_wp2
    go_ret
    exact ⟨ret_bool HN.out.symm, Below.refl _ _⟩
  have h5 : decide (400 < (l.length : Int)) = false := by simp; omega
  go_enter Try.func23, Try.ntmps23
  go_wp2
  go_loopw [10] (fun i wr => ∃ k : Nat, k ≤ l.length ∧ i = .int .i64 k ∧ (l.take k).all insRight = true ∧ Below w.heap.size w wr) (fun i _ => l.length - (intOf i).toNat)
  case atStart => exact ⟨0, by omega, rfl, by simp, Below.refl _ _⟩
  case round =>
    obtain ⟨k, hk, rfl, hall, hbw⟩ := hrel
    have HA := Lib.hid hall
    have HB := Lib.hid hbw
    have hsz := hbw.size
    clear hall hbw
    by_cases hlt : k < l.length
    · obtain ⟨b, o, e, hb, c0, c1, c2, c3, hwf⟩ := (HH.out.below HB.out).at_ (List.getElem?_eq_getElem hlt)
      subst e
      go_wp2_with fail
      refine (isRight_impl _ _ _ _ _).mono ?_
      rintro e w2 ⟨rfl, hb2⟩
      have HB2 := Lib.hid (HB.out.trans ((box_below hb2).mono hsz))
      clear hb2
      cases hx : insRight l[k] with
      | true =>
        have HN := Lib.hid (all_take HA.out hlt hx)
        have hx' : insRight ⟨l[k].c, l[k].y, l[k].n, l[k].k⟩ = true := hx
        clear hx
        go_wp2_with fail
        go_roundw
        case rel => exact ⟨k + 1, by omega, by go_num, HN.out, HB2.out⟩
        case measure => simp [intOf]; omega
      | false =>
        have HN := Lib.hid (allOk_bad hlt hx)
        have hx' : insRight ⟨l[k].c, l[k].y, l[k].n, l[k].k⟩ = false := hx
        clear hx
        go_wp2_with fail
        go_ret
        exact ⟨ret_bool HN.out.symm, HB2.out⟩
    · have HN := Lib.hid (allOk_end HA.out (by omega) (by omega))
      go_wp2_with fail
      go_ret
      exact ⟨ret_bool HN.out.symm, HB.out⟩

end Go.Proofs.Ytlocglafocnghaa
