/- Walks of ProgBytes: the model's and the program's, against one plain function. -/
import Derived.Test.YtekmnopgaopmlaaGreatDoorTs
import Derived.Test.YtekmnopgaopmlaaGreatDoorLv
set_option maxRecDepth 100000
namespace Go.Proofs.YtekmnopgaopmlaaGreatDoor
open Go.RowKit

def insB (x : Ins) : List UInt8 := leB 2 x.c ++ leB 1 x.y ++ leB 1 x.n ++ leB 4 x.k
def progB (l : List Ins) : List UInt8 := l.flatMap insB
def allOk (l : List Ins) : Bool := decide (l.length ≤ 400) && l.all insRight
def pbOf (l : List Ins) : ByteArray := if allOk l then ⟨(progB l).toArray⟩ else ⟨#[]⟩

theorem all_take {l : List Ins} {k : Nat} (h : (l.take k).all insRight = true) (hk : k < l.length) (hx : insRight l[k] = true) : (l.take (k + 1)).all insRight = true := by
  rw [List.take_succ_eq_append_getElem hk, List.all_append, h]
  simp [hx]
theorem allOk_bad {l : List Ins} {k : Nat} (hk : k < l.length) (hx : insRight l[k] = false) : allOk l = false := by
  unfold allOk
  rw [Bool.and_eq_false_iff]
  right
  rw [List.all_eq_false]
  exact ⟨l[k], List.getElem_mem hk, by simp [hx]⟩
theorem allOk_long {l : List Ins} (h : 400 < l.length) : allOk l = false := by
  unfold allOk
  rw [decide_eq_false (by omega)]
  rfl
theorem allOk_end {l : List Ins} {k : Nat} (h : (l.take k).all insRight = true) (hk : l.length ≤ k) (hl : l.length ≤ 400) : allOk l = true := by
  unfold allOk
  rw [List.take_of_length_le hk] at h
  simp [h, hl]

set_option maxHeartbeats 800000 in
theorem l02Prog_any (v : Value) (l : List Ins) (w : World) (h : InsAt w w.heap.size v l) :
    Calls Tryz.prog 54 #[v] w fun e w' => e = .returned (.bool (allOk l)) ∧ Below w.heap.size w w' := by
  obtain ⟨a, cap, rfl, hlc, hcm⟩ := h.len
  unfold maxLen at hcm
  have HH := Lib.hid h
  clear h
  go_enter Tryz.func54, Tryz.ntmps54
  go_wp2
  go_loopw [3] (fun i wr => ∃ k : Nat, k ≤ l.length ∧ k ≤ 401 ∧ i = .int .i64 k ∧ (l.take k).all insRight = true ∧ Below w.heap.size w wr) (fun i _ => l.length - (intOf i).toNat)
  case atStart => exact ⟨0, by omega, by omega, rfl, by simp, Below.refl _ _⟩
  case round =>
    obtain ⟨k, hk, hk1, rfl, hall, hbw⟩ := hrel
    have HA := Lib.hid hall
    have HB := Lib.hid hbw
    have hsz := hbw.size
    clear hall hbw
    by_cases hlt : k < l.length
    · by_cases h4 : k ≤ 400
      · obtain ⟨b, o, e, hb, c0, c1, c2, c3, hwf⟩ := (HH.out.below HB.out).at_ (List.getElem?_eq_getElem hlt)
        subst e
        go_wp2_with fail
        refine (isRight_spec _ _ _ _ _).mono ?_
        rintro e w2 ⟨rfl, hb2⟩
        have HB2 := Lib.hid (HB.out.trans (hb2.mono hsz))
        clear hb2
        cases hx : insRight l[k] with
        | true =>
          have HN := Lib.hid (all_take HA.out hlt hx)
          have hx' : insRight ⟨l[k].c, l[k].y, l[k].n, l[k].k⟩ = true := hx
          clear hx
          go_wp2_with fail
          go_roundw
          case rel => exact ⟨k + 1, by omega, by omega, by go_num, HN.out, HB2.out⟩
          case measure => simp [intOf]; omega
        | false =>
          have HN := Lib.hid (allOk_bad hlt hx)
          have hx' : insRight ⟨l[k].c, l[k].y, l[k].n, l[k].k⟩ = false := hx
          clear hx
          go_wp2_with fail
          go_ret
          exact ⟨ret_bool HN.out.symm, HB2.out⟩
      · have h4' : decide ((k : Int) ≤ 400) = false := by simp; omega
        have HN := Lib.hid (allOk_long (l := l) (by omega))
        have h5 : decide ((l.length : Int) ≤ 400) = false := by simp; omega
        go_wp2_with fail
        go_ret
        exact ⟨ret_bool HN.out.symm, HB.out⟩
    · have hlt' : decide (k < l.length) = false := by simpa using hlt
      by_cases h4 : l.length ≤ 400
      · have HN := Lib.hid (allOk_end HA.out (by omega) h4)
        have h5 : decide ((l.length : Int) ≤ 400) = true := by simp; omega
        go_wp2_with fail
        go_ret
        exact ⟨ret_bool HN.out.symm, HB.out⟩
      · have HN := Lib.hid (allOk_long (l := l) (by omega))
        have h5 : decide ((l.length : Int) ≤ 400) = false := by simp; omega
        go_wp2_with fail
        go_ret
        exact ⟨ret_bool HN.out.symm, HB.out⟩

set_option maxHeartbeats 800000 in
theorem allRight_any (v : Value) (l : List Ins) (w : World) (h : InsAt w w.heap.size v l) :
    Calls Tryz.prog 51 #[v] w fun e w' => e = .returned (.bool (allOk l)) ∧ Below w.heap.size w w' := by
  obtain ⟨a, cap, rfl, hlc, hcm⟩ := h.len
  unfold maxLen at hcm
  have HH := Lib.hid h
  clear h
  by_cases h4 : 400 < l.length
  · have HN := Lib.hid (allOk_long h4)
    have h5 : decide (400 < (l.length : Int)) = true := by simp; omega
    go_enter Tryz.func51, Tryz.ntmps51
    go_wp2
    go_ret
    exact ⟨ret_bool HN.out.symm, Below.refl _ _⟩
  have h5 : decide (400 < (l.length : Int)) = false := by simp; omega
  go_enter Tryz.func51, Tryz.ntmps51
  go_wp2
  go_loopw [10] (fun i wr => ∃ k : Nat, k ≤ l.length ∧ i = .int .i64 k ∧ (l.take k).all insRight = true ∧ Below w.heap.size w wr) (fun i _ => l.length - (intOf i).toNat)
  case atStart => exact ⟨0, by omega, rfl, by simp, Below.refl _ _⟩
  case round =>
    obtain ⟨k, hk, rfl, hall, hbw⟩ := hrel
    have HA := Lib.hid hall
    have HB := Lib.hid hbw
    have hsz := hbw.size
    clear hall hbw
    by_cases hlt : k < l.length
    · obtain ⟨b, o, e, hb, c0, c1, c2, c3, hwf⟩ := (HH.out.below HB.out).at_ (List.getElem?_eq_getElem hlt)
      subst e
      go_wp2_with fail
      refine (isRight_impl _ _ _ _ _).mono ?_
      rintro e w2 ⟨rfl, hb2⟩
      have HB2 := Lib.hid (HB.out.trans ((box_below hb2).mono hsz))
      clear hb2
      cases hx : insRight l[k] with
      | true =>
        have HN := Lib.hid (all_take HA.out hlt hx)
        have hx' : insRight ⟨l[k].c, l[k].y, l[k].n, l[k].k⟩ = true := hx
        clear hx
        go_wp2_with fail
        go_roundw
        case rel => exact ⟨k + 1, by omega, by go_num, HN.out, HB2.out⟩
        case measure => simp [intOf]; omega
      | false =>
        have HN := Lib.hid (allOk_bad hlt hx)
        have hx' : insRight ⟨l[k].c, l[k].y, l[k].n, l[k].k⟩ = false := hx
        clear hx
        go_wp2_with fail
        go_ret
        exact ⟨ret_bool HN.out.symm, HB2.out⟩
    · have HN := Lib.hid (allOk_end HA.out (by omega) (by omega))
      go_wp2_with fail
      go_ret
      exact ⟨ret_bool HN.out.symm, HB.out⟩

end Go.Proofs.YtekmnopgaopmlaaGreatDoor
