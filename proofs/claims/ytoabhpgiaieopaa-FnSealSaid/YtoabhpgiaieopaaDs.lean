/- Walks: the draws of the seal's law. -/
import Derived.Test.YtoabhpgiaieopaaDz
import Derived.Test.YtoabhpgiaieopaaCr
set_option maxRecDepth 100000
namespace Go.Proofs.Ytoabhpgiaieopaa
open Go.RowKit

theorem after_below {g : Nat} {a : Option Addr} {len cap : Nat} {w w1 w2 : World} (hb : Below g w w1) (hgl : g ≤ w.heap.size) (h : AfterSrc g a len cap w1 w2) : Below g w w2 :=
  hb.grown h.2 (Nat.le_trans hgl hb.size) (fun k hk => by injection hk with hk; omega)

set_option maxHeartbeats 800000 in
theorem drawSeal_any (a : Option Addr) (len cap : Nat) (w : World) (hc : CodeAt w w.heap.size a len cap) :
    Calls Try.prog 11 #[.slice a len cap] w fun e w' => ∃ X : ByteArray, e = .returned (.string X) ∧ X.size ≤ 20000 ∧ Below w.heap.size w w' := by
  have HS := Lib.hid (source_any a len cap w hc)
  go_enter Try.func11, Try.ntmps11
  go_wp2_with fail
  refine HS.out.mono ?_
  rintro e w1 ⟨rfl, hs1, hb1⟩
  have H1 := Lib.hid (srcOne_any w.heap.size a len cap 30 w1 hs1 (by omega) (by omega))
  go_wp2_with fail
  refine H1.out.mono ?_
  rintro e w2 ⟨b, rfl, ha2⟩
  have HB2 := Lib.hid (after_below hb1 (Nat.le_refl _) ha2)
  cases b
  · have H2 := Lib.hid (srcN_any w.heap.size a len cap 20 w2 ha2.1 (by omega) (by omega))
    go_wp2_with fail
    refine H2.out.mono ?_
    rintro e w3 ⟨v, rfl, hv0, hv1, _, hs3, hg3⟩
    have hv : v < 20 := hv1 (by omega)
    have H3 := Lib.hid (srcBytes_any w.heap.size a len cap v w3 hs3 hv0 (by omega))
    have HB3 := Lib.hid (after_below HB2.out (Nat.le_refl _) ⟨hs3, hg3⟩)
    clear hs3 hg3 hv1
    go_wp2_with fail
    refine H3.out.mono ?_
    rintro e w4 ⟨X, rfl, hX, ha4⟩
    have HA4 := Lib.hid ha4
    have hX20 : X.size ≤ 20000 := by omega
    clear ha4 hX
    go_wp2
    go_ret
    exact ⟨X, rfl, by omega, after_below HB3.out (Nat.le_refl _) HA4.out⟩
  · have H2 := Lib.hid (srcN_any w.heap.size a len cap 3 w2 ha2.1 (by omega) (by omega))
    go_wp2_with fail
    refine H2.out.mono ?_
    rintro e w3 ⟨v, rfl, hv0, hv1, _, hs3, hg3⟩
    have hv : v < 3 := hv1 (by omega)
    obtain ⟨n, rfl⟩ := Int.eq_ofNat_of_zero_le hv0
    obtain ⟨w4, X, hmk, hcv, hX, hb4⟩ := make_zeros w3 (19995 + n) (19995 + (n : Int)) (by omega) (by omega)
    have HB3 := Lib.hid (after_below HB2.out (Nat.le_refl _) ⟨hs3, hg3⟩)
    have HB4 := Lib.hid (HB3.out.trans (hb4.mono HB3.out.size))
    clear hs3 hg3 hv1 hb4
    go_wp2
    go_ret
    exact ⟨X, rfl, by omega, HB4.out⟩

set_option maxHeartbeats 800000 in
theorem drawCrcMore_any (a : Option Addr) (len cap : Nat) (w : World) (hc : CodeAt w w.heap.size a len cap) :
    Calls Try.prog 16 #[.slice a len cap] w fun e w' => ∃ (c : Int) (X : ByteArray), e = .returned (.tuple #[.int .i64 c, .string X]) ∧ -9223372036854775808 ≤ c ∧ c ≤ 9223372036854775807 ∧ X.size ≤ 20 ∧ Below w.heap.size w w' := by
  have HS := Lib.hid (source_any a len cap w hc)
  go_enter Try.func16, Try.ntmps16
  go_wp2_with fail
  refine HS.out.mono ?_
  rintro e w1 ⟨rfl, hs1, hb1⟩
  have H2 := Lib.hid (srcN_any w.heap.size a len cap 9 w1 hs1 (by omega) (by omega))
  go_wp2_with fail
  refine H2.out.mono ?_
  rintro e w3 ⟨v, rfl, hv0, hv1, _, hs3, hg3⟩
  have hv : v < 9 := hv1 (by omega)
  have H3 := Lib.hid (srcBytes_any w.heap.size a len cap v w3 hs3 hv0 (by omega))
  have HB3 := Lib.hid (after_below hb1 (Nat.le_refl _) ⟨hs3, hg3⟩)
  clear hs3 hg3 hv1
  go_wp2_with fail
  refine H3.out.mono ?_
  rintro e w4 ⟨X, rfl, hX, ha4⟩
  have HB4 := Lib.hid (after_below HB3.out (Nat.le_refl _) ha4)
  have H5 := Lib.hid (srcOne_any w.heap.size a len cap 5 w4 ha4.1 (by omega) (by omega))
  have HXS : Hid (X.size ≤ 20) := by
    have h : X.size ≤ 20 := by omega
    exact h
  clear ha4 hX
  go_wp2_with fail
  refine H5.out.mono ?_
  rintro e w5 ⟨b, rfl, ha5⟩
  have HB5 := Lib.hid (after_below HB4.out (Nat.le_refl _) ha5)
  cases b
  · have H6 := Lib.hid (srcN_any w.heap.size a len cap 9 w5 ha5.1 (by omega) (by omega))
    go_wp2_with fail
    refine H6.out.mono ?_
    rintro e w6 ⟨u, rfl, hu0, hu1, _, hs6, hg6⟩
    have hu : u < 9 := hu1 (by omega)
    have H7 := Lib.hid (srcBytes_any w.heap.size a len cap u w6 hs6 hu0 (by omega))
    have HB6 := Lib.hid (after_below HB5.out (Nat.le_refl _) ⟨hs6, hg6⟩)
    clear hs6 hg6 hu1
    go_wp2_with fail
    refine H7.out.mono ?_
    rintro e w7 ⟨Y, rfl, hY, ha7⟩
    have HB7 := Lib.hid (after_below HB6.out (Nat.le_refl _) ha7)
    have H8 := Lib.hid (specCrc_all Y w7 (by unfold maxLen; omega))
    have hcb := crcAns_bd 0 Y
    clear ha7 hY
    go_wp2_with fail
    refine H8.out.mono ?_
    rintro e w8 ⟨rfl, rfl⟩
    go_wp2
    go_ret2
    exact ⟨_, X, rfl, by omega, by omega, HXS.out, HB7.out⟩
  · have H6 := Lib.hid (srcEdge_any w.heap.size a len cap w5 ha5.1)
    go_wp2_with fail
    refine H6.out.mono ?_
    rintro e w6 ⟨x, rfl, hx0, hx1, ha6⟩
    have HA6 := Lib.hid ha6
    clear ha6
    go_wp2
    go_ret2
    exact ⟨_, X, rfl, hx0, hx1, HXS.out, after_below HB5.out (Nat.le_refl _) HA6.out⟩

end Go.Proofs.Ytoabhpgiaieopaa
