/- Small questions on codes: l02Looks, l02HasK, l04Cell, l04Reads, l01Min, l01Max of the model walked. -/
import Derived.Test.YtekmnopgaopmlaaDoorIa
set_option maxRecDepth 100000
namespace Go.Proofs.YtekmnopgaopmlaaDoor
open Go.RowKit

def looksC (c : Int) : Bool := [21, 37, 53, 69, 29, 45, 61, 77].contains c
def noKC (c : Int) : Bool := [7, 135, 22, 132, 12, 28, 92, 76, 29, 45, 61, 77].contains c
def cellC (c : Int) : Bool := [96, 97, 2, 3].contains c
def readsC (c : Int) : Bool := [96, 97].contains c
theorem eq_false_of {a b : Int} (h : ¬ a = b) : (a == b) = false := by simpa using h

set_option maxHeartbeats 800000 in
theorem l02Looks_any (c : Int) (w : World) : Calls Tryd.prog 19 #[.int .i64 c] w fun e w' => e = .returned (.bool (looksC c)) ∧ w = w' := by
  by_cases h : c = 21 ∨ c = 37 ∨ c = 53 ∨ c = 69 ∨ c = 29 ∨ c = 45 ∨ c = 61 ∨ c = 77
  · rcases h with rfl | rfl | rfl | rfl | rfl | rfl | rfl | rfl
    all_goals
      go_enter Tryd.func19, Tryd.ntmps19
      go_wp2
      go_ret
      exact ⟨ret_bool (by decide), rfl⟩
  · simp only [not_or] at h
    obtain ⟨h0, h1, h2, h3, h4, h5, h6, h7⟩ := h
    have HL := Lib.hid (show looksC c = false by simp [looksC, *])
    have e0 := eq_false_of h0
    have e1 := eq_false_of h1
    have e2 := eq_false_of h2
    have e3 := eq_false_of h3
    have e4 := eq_false_of h4
    have e5 := eq_false_of h5
    have e6 := eq_false_of h6
    have e7 := eq_false_of h7
    clear h0 h1 h2 h3 h4 h5 h6 h7
    go_enter Tryd.func19, Tryd.ntmps19
    go_wp2
    go_ret
    exact ⟨ret_bool HL.out.symm, rfl⟩

end Go.Proofs.YtekmnopgaopmlaaDoor
