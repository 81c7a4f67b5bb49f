/- Words of two halves: WordRight, WordLess, WordAnd, Load of the model walked. -/
import Derived.Test.YtekmnopgaopmlaaGreatDoorIa
import Derived.Test.YtekmnopgaopmlaaGreatDoorLv
set_option maxRecDepth 100000
namespace Go.Proofs.YtekmnopgaopmlaaGreatDoor
open Go.RowKit

/-- A word of two halves. -/
structure Wd where
  h : Int
  l : Int
theorem Wd.ext' {a b : Wd} (h0 : a.h = b.h) (h1 : a.l = b.l) : a = b := by cases a; cases b; simp_all
instance : DecidableEq Wd := fun a b => decidable_of_iff (a.h = b.h ∧ a.l = b.l) ⟨fun h => Wd.ext' h.1 h.2, fun h => by rw [h]; exact ⟨rfl, rfl⟩⟩
def Wd.wf (x : Wd) : Prop := In64 x.h ∧ In64 x.l
def wdRight (x : Wd) : Bool := isB x.h 0 4294967295 && isB x.l 0 4294967295
def wdLess0 (a b : Wd) : Bool := decide (a.h < b.h) || (a.h == b.h && decide (a.l < b.l))
def wdLess (a b : Wd) : Bool := wdRight a && wdRight b && wdLess0 a b
def andI (a b : Int) : Int := bits .and .i64 a b
def wdAnd (a b : Wd) : Wd := if wdRight a && wdRight b then ⟨andI a.h b.h, andI a.l b.l⟩ else ⟨0, 0⟩

theorem specWordRight_any (h l : Int) (w : World) : Calls Tryz.prog 92 #[.agg #[.int .i64 h, .int .i64 l]] w fun e w' =>
    e = .returned (.bool (wdRight ⟨h, l⟩)) ∧ Below w.heap.size w w' := by
  by_cases h0 : isB h 0 4294967295 = true
  all_goals
    go_enter Tryz.func92, Tryz.ntmps92
    go_wp2_with (go_at_call 81; refine (l02Is_any _ _ _ _).mono ?_; rintro e w' ⟨rfl, rfl⟩)
    go_ret
    exact ⟨ret_bool (by simp [wdRight, *]), (Below.refl _ _).alloc (Nat.le_refl _) _⟩

/-- The number of four bytes of what is asked. -/
def loadB (s : ByteArray) (z : Int) : Int := if s.size = 64 ∧ 0 ≤ z ∧ z ≤ 60 ∧ z % 4 = 0 then leV (bytesAt s z.toNat 4) else -1
theorem loadB_yes {s : ByteArray} {z : Int} (h : s.size = 64 ∧ 0 ≤ z ∧ z ≤ 60 ∧ z % 4 = 0) : loadB s z = leV (bytesAt s z.toNat 4) := by unfold loadB; rw [if_pos h]
theorem loadB_no {s : ByteArray} {z : Int} (h : ¬ (s.size = 64 ∧ 0 ≤ z ∧ z ≤ 60 ∧ z % 4 = 0)) : loadB s z = -1 := by unfold loadB; rw [if_neg h]

theorem specLoad_any (s : ByteArray) (z : Int) (w : World) (hs : s.size ≤ maxLen) (hz0 : -9223372036854775808 ≤ z) (hz1 : z ≤ 9223372036854775807) : Calls Tryz.prog 125 #[.string s, .int .i64 z] w fun e w' =>
    e = .returned (.int .i64 (loadB s z)) ∧ w = w' := by
  have hs' := hs
  unfold maxLen at hs
  by_cases h1 : s.size = 64
  · have q : ((s.size : Int) != 64) = false := by rw [h1]; rfl
    have H1 := Lib.hid h1
    by_cases h2 : 0 ≤ z ∧ z ≤ 60
    · have hi := isB_yes h2.1 h2.2
      obtain ⟨n, rfl⟩ := Int.eq_ofNat_of_zero_le h2.1
      have hn : n ≤ 60 := by omega
      by_cases h3 : n % 4 = 0
      · have HL := Lib.hid (loadB_yes (s := s) (z := (n : Int)) ⟨h1, by omega, by omega, by omega⟩)
        have q3 : ((n : Int) % 4 != 0) = false := by simp; omega
        have qq := fun W => l02Get_int s (n : Int) 4 n 4 W hs' rfl rfl (by omega) (by omega)
        have QQ := Lib.hid qq
        clear h1 h2 qq
        go_enter Tryz.func125, Tryz.ntmps125
        go_wp2_with (first | (go_at_call 81; refine (l02Is_any _ _ _ _).mono ?_; rintro e w' ⟨rfl, rfl⟩) | (go_at_call 139; refine (QQ.out _).mono ?_; rintro e w' ⟨rfl, rfl⟩))
        go_ret
        exact ⟨ret_int (by rw [HL.out]; rfl), rfl⟩
      · have HL := Lib.hid (loadB_no (s := s) (z := (n : Int)) (by omega))
        have q3 : ((n : Int) % 4 != 0) = true := by simp; omega
        clear h1 h2
        go_enter Tryz.func125, Tryz.ntmps125
        go_wp2_with (first | (go_at_call 81; refine (l02Is_any _ _ _ _).mono ?_; rintro e w' ⟨rfl, rfl⟩))
        go_ret
        exact ⟨ret_int HL.out.symm, rfl⟩
    · have hi := isB_no (n := z) (lo := 0) (hi := 60) h2
      have HL := Lib.hid (loadB_no (s := s) (z := z) (by omega))
      clear h1
      go_enter Tryz.func125, Tryz.ntmps125
      go_wp2_with (first | (go_at_call 81; refine (l02Is_any _ _ _ _).mono ?_; rintro e w' ⟨rfl, rfl⟩))
      go_ret
      exact ⟨ret_int HL.out.symm, rfl⟩
  · have q : ((s.size : Int) != 64) = true := by simp; omega
    have HL := Lib.hid (loadB_no (s := s) (z := z) (by omega))
    go_enter Tryz.func125, Tryz.ntmps125
    go_wp2
    go_ret
    exact ⟨ret_int HL.out.symm, rfl⟩

end Go.Proofs.YtekmnopgaopmlaaGreatDoor
