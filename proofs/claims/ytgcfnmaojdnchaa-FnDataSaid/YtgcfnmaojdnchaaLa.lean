/- A number out of a code, as the laws take it. -/
import Derived.Test.YtgcfnmaojdnchaaCa
set_option maxRecDepth 100000
namespace Go.Proofs.Ytgcfnmaojdnchaa
open Go.RowKit

/-- A number out of a code, the world's word outside. -/
theorem lwAt_still (a : Option Addr) (len cap : Nat) (at_ most : Int) (w : World) (hc : CodeAt w w.heap.size a len cap) (h0 : 0 ≤ at_) (h1 : at_ ≤ 1000000) (hm : most ≤ 9223372036854775807) (hm1 : 1 < most) : ∃ v : Int, 0 ≤ v ∧ v < most ∧
    Calls Try.prog 30 #[.slice a len cap, .int .i64 at_, .int .i64 most] w fun e w' => e = .returned (.int .i64 v) ∧ w = w' := by
  have hlen := hc.1
  have hcap := hc.2.1
  unfold maxLen at hcap
  have hd : decide (most ≤ 1) = false := by simpa using hm1
  by_cases hl : len = 0
  · have hd2 : ((len : Int) == 0) = true := by rw [hl]; rfl
    refine ⟨0, by omega, by omega, ?_⟩
    go_enter Try.func30, Try.ntmps30
    go_wp2
    go_ret
    exact ⟨rfl, rfl⟩
  · have hd2 : ((len : Int) == 0) = false := by simp; omega
    obtain ⟨n, rfl⟩ := Int.eq_ofNat_of_zero_le h0
    obtain ⟨b, o, rfl, hb, hcell⟩ := hc.2.2 (by omega)
    have hlt : n % len < len := Nat.mod_lt _ (by omega)
    obtain ⟨c, hc0, hc1, hcc⟩ := hcell (n % len) hlt
    have hlp : (1 : Int) ≤ (len : Int) := by omega
    have hml : 0 ≤ (n : Int) % (len : Int) ∧ (n : Int) % (len : Int) < (len : Int) := ⟨Int.emod_nonneg _ (by omega), Int.emod_lt_of_pos _ (by omega)⟩
    have hc255 : 0 ≤ c % most ∧ c % most < most := ⟨Int.emod_nonneg _ (by omega), Int.emod_lt_of_pos _ (by omega)⟩
    refine ⟨c % most, hc255.1, hc255.2, ?_⟩
    clear hc hcell
    go_enter Try.func30, Try.ntmps30
    go_wp2
    go_ret
    exact ⟨rfl, rfl⟩

end Go.Proofs.Ytgcfnmaojdnchaa
