/- Walks: the draws of the numbers' law. -/
import Derived.Test.YtoabhpgiaieopaaDoorDz
set_option maxRecDepth 100000
namespace Go.Proofs.YtoabhpgiaieopaaDoor
open Go.RowKit

theorem after_below' {g : Nat} {a : Option Addr} {len cap : Nat} {w w1 w2 : World} (hb : Below g w w1) (hgl : g ≤ w.heap.size) (h : AfterSrc g a len cap w1 w2) : Below g w w2 :=
  hb.grown h.2 (Nat.le_trans hgl hb.size) (fun k hk => by injection hk with hk; omega)

set_option maxHeartbeats 400000 in
theorem srcAnyNum (g : Nat) (a : Option Addr) (len cap : Nat) (w : World) (hs : Src w g a len cap) :
    Calls Tryd.prog 19 #[.pointer (some ⟨g, 0, none⟩)] w fun e w' => ∃ x : Int, e = .returned (.int .i64 x) ∧ -9223372036854775808 ≤ x ∧ x ≤ 9223372036854775807 ∧ AfterSrc g a len cap w w' := by
  have H1 := Lib.hid (srcOne_any g a len cap 4 w hs (by omega) (by omega))
  clear hs
  go_enter Tryd.func19, Tryd.ntmps19
  go_wp2_with fail
  refine H1.out.mono ?_
  rintro e w2 ⟨b, rfl, ha2⟩
  have HA2 := Lib.hid ha2
  cases b
  · have H2 := Lib.hid (srcN_any g a len cap 1099511627776 w2 ha2.1 (by omega) (by omega))
    clear ha2
    go_wp2_with fail
    refine H2.out.mono ?_
    rintro e w3 ⟨v, rfl, hv0, hv1, _, hs3, hg3⟩
    have hv : v < 1099511627776 := hv1 (by omega)
    have HA3 : Hid (AfterSrc g a len cap w w3) := HA2.out.trans ⟨hs3, hg3⟩
    clear hs3 hg3 hv1
    go_wp2
    go_ret
    exact ⟨v - 1048576, rfl, by omega, by omega, HA3.out⟩
  · have H2 := Lib.hid (srcEdge_any g a len cap w2 ha2.1)
    clear ha2
    go_wp2_with fail
    refine H2.out.mono ?_
    rintro e w3 ⟨x, rfl, hx0, hx1, ha3⟩
    have HA3 : Hid (AfterSrc g a len cap w w3) := HA2.out.trans ha3
    clear ha3
    go_wp2
    go_ret
    exact ⟨x, rfl, hx0, hx1, HA3.out⟩

set_option maxHeartbeats 400000 in
theorem drawPutNum_any (a : Option Addr) (len cap : Nat) (w : World) (hc : CodeAt w w.heap.size a len cap) :
    Calls Tryd.prog 6 #[.slice a len cap] w fun e w' => ∃ x : Int, e = .returned (.int .i64 x) ∧ -9223372036854775808 ≤ x ∧ x ≤ 9223372036854775807 ∧ Below w.heap.size w w' := by
  have HS := Lib.hid (source_any a len cap w hc)
  go_enter Tryd.func6, Tryd.ntmps6
  go_wp2_with fail
  refine HS.out.mono ?_
  rintro e w1 ⟨rfl, hs1, hb1⟩
  have H1 := Lib.hid (srcAnyNum w.heap.size a len cap w1 hs1)
  have HB1 := Lib.hid hb1
  clear hs1 hb1
  go_wp2_with fail
  refine H1.out.mono ?_
  rintro e w2 ⟨x, rfl, hx0, hx1, ha2⟩
  have HA2 := Lib.hid ha2
  clear ha2
  go_wp2
  go_ret
  exact ⟨x, rfl, hx0, hx1, after_below' HB1.out (Nat.le_refl _) HA2.out⟩

set_option maxHeartbeats 800000 in
theorem drawPutText_any (a : Option Addr) (len cap : Nat) (w : World) (hc : CodeAt w w.heap.size a len cap) :
    Calls Tryd.prog 10 #[.slice a len cap] w fun e w' => ∃ X : ByteArray, e = .returned (.string X) ∧ X.size ≤ 30000 ∧ Below w.heap.size w w' := by
  have HS := Lib.hid (source_any a len cap w hc)
  go_enter Tryd.func10, Tryd.ntmps10
  go_wp2_with fail
  refine HS.out.mono ?_
  rintro e w1 ⟨rfl, hs1, hb1⟩
  have H1 := Lib.hid (srcOne_any w.heap.size a len cap 8 w1 hs1 (by omega) (by omega))
  go_wp2_with fail
  refine H1.out.mono ?_
  rintro e w2 ⟨b, rfl, ha2⟩
  have HB2 := Lib.hid (after_below' hb1 (Nat.le_refl _) ha2)
  cases b
  · have H2 := Lib.hid (srcN_any w.heap.size a len cap 20 w2 ha2.1 (by omega) (by omega))
    go_wp2_with fail
    refine H2.out.mono ?_
    rintro e w3 ⟨v, rfl, hv0, hv1, _, hs3, hg3⟩
    have hv : v < 20 := hv1 (by omega)
    have H3 := Lib.hid (srcBytes_any w.heap.size a len cap v w3 hs3 hv0 (by omega))
    have HB3 := Lib.hid (after_below' HB2.out (Nat.le_refl _) ⟨hs3, hg3⟩)
    clear hs3 hg3 hv1
    go_wp2_with fail
    refine H3.out.mono ?_
    rintro e w4 ⟨X, rfl, hX, ha4⟩
    have HA4 := Lib.hid ha4
    have hX20 : X.size ≤ 20000 := by omega
    clear ha4 hX
    go_wp2
    go_ret
    exact ⟨X, rfl, by omega, after_below' HB3.out (Nat.le_refl _) HA4.out⟩
  · have H2 := Lib.hid (srcN_any w.heap.size a len cap 3 w2 ha2.1 (by omega) (by omega))
    go_wp2_with fail
    refine H2.out.mono ?_
    rintro e w3 ⟨v, rfl, hv0, hv1, _, hs3, hg3⟩
    have hv : v < 3 := hv1 (by omega)
    obtain ⟨n, rfl⟩ := Int.eq_ofNat_of_zero_le hv0
    obtain ⟨w4, X, hmk, hcv, hX, hb4⟩ := make_zeros w3 (19999 + n) (19999 + (n : Int)) (by omega) (by omega)
    have HB3 := Lib.hid (after_below' HB2.out (Nat.le_refl _) ⟨hs3, hg3⟩)
    have HB4 := Lib.hid (HB3.out.trans (hb4.mono HB3.out.size))
    clear hs3 hg3 hv1 hb4
    go_wp2
    go_ret
    exact ⟨X, rfl, by omega, HB4.out⟩

end Go.Proofs.YtoabhpgiaieopaaDoor
