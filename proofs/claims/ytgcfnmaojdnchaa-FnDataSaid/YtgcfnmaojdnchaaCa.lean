/- The code that came in, off what a law is told of it. -/
import Derived.Test.YtgcfnmaojdnchaaSr
set_option maxRecDepth 100000
namespace Go.Proofs.Ytgcfnmaojdnchaa
open Go.RowKit

theorem codeAt_of {w : World} {x : Addr} {len cap : Nat} {zs : List Int} (hl : len ≤ cap) (hm : cap ≤ maxLen) (hz : zs.length = cap)
    (hcell : ∀ i, i < zs.length → w.cell? (x.add i) = some (.int .u8 (zs.getD i 0))) (hw : ∀ n ∈ zs, (Lit.int .u8 n).wf = true) : CodeAt w w.heap.size (some x) len cap := by
  refine ⟨hl, hm, fun h0 => ?_⟩
  obtain ⟨b, o, s⟩ := x
  have h00 := hcell 0 (by omega)
  cases s with
  | some s => simp [World.cell?, Addr.add] at h00; split at h00 <;> simp at h00
  | none =>
    have hb : b < w.heap.size := by
      rcases Nat.lt_or_ge b w.heap.size with hlt | hge
      · exact hlt
      · simp [World.cell?, Addr.add, Array.getElem?_eq_none hge] at h00
    refine ⟨b, o, rfl, hb, fun i hi => ?_⟩
    have hi' : i < zs.length := by omega
    have hwf := hw (zs.getD i 0) (by rw [List.getD_eq_getElem?_getD, List.getElem?_eq_getElem hi']; exact List.getElem_mem _)
    have hbd : 0 ≤ zs.getD i 0 ∧ zs.getD i 0 ≤ 255 := by
      generalize zs.getD i 0 = z at hwf
      simp [Lit.wf] at hwf
      exact hwf
    have e3 : (⟨b, o, none⟩ : Addr).add i = ⟨b, o + i, none⟩ := by unfold Addr.add; split <;> simp_all
    exact ⟨zs.getD i 0, hbd.1, hbd.2, e3 ▸ hcell i hi'⟩

theorem codeAt_up {w w' : World} {B : Nat} {a : Option Addr} {len cap : Nat} (h : CodeAt w B a len cap) (hb : Below B w w') (hB : B ≤ w.heap.size) : CodeAt w' w'.heap.size a len cap := by
  have h' := h.below hb
  refine ⟨h'.1, h'.2.1, fun h0 => ?_⟩
  obtain ⟨b, o, e, hlt, hc⟩ := h'.2.2 h0
  exact ⟨b, o, e, Nat.lt_of_lt_of_le hlt (Nat.le_trans hB hb.size), hc⟩

end Go.Proofs.Ytgcfnmaojdnchaa
