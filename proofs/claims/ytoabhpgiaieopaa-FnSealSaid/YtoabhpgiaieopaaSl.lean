/- Walks: what the seal's law needs: the code that came in; a text as bytes of its own; one byte turned; its text. -/
import Derived.Test.YtoabhpgiaieopaaUs
import Derived.Test.YtoabhpgiaieopaaDs
import Derived.Lib.ConvBytes
set_option maxRecDepth 100000
namespace Go.Proofs.Ytoabhpgiaieopaa
open Go.RowKit

theorem codeAt_of {w : World} {x : Addr} {len cap : Nat} {zs : List Int} (hl : len ≤ cap) (hm : cap ≤ maxLen) (hz : zs.length = cap)
    (hcell : ∀ i, i < zs.length → w.cell? (x.add i) = some (.int .u8 (zs.getD i 0))) (hw : ∀ n ∈ zs, (Lit.int .u8 n).wf = true) : CodeAt w w.heap.size (some x) len cap := by
  refine ⟨hl, hm, fun h0 => ?_⟩
  obtain ⟨b, o, s⟩ := x
  have h00 := hcell 0 (by omega)
  cases s with
  | some s => simp [World.cell?, Addr.add] at h00; split at h00 <;> simp at h00
  | none =>
    have hb : b < w.heap.size := by
      rcases Nat.lt_or_ge b w.heap.size with hlt | hge
      · exact hlt
      · simp [World.cell?, Addr.add, Array.getElem?_eq_none hge] at h00
    refine ⟨b, o, rfl, hb, fun i hi => ?_⟩
    have hi' : i < zs.length := by omega
    have hwf := hw (zs.getD i 0) (by rw [List.getD_eq_getElem?_getD, List.getElem?_eq_getElem hi']; exact List.getElem_mem _)
    have hbd : 0 ≤ zs.getD i 0 ∧ zs.getD i 0 ≤ 255 := by
      generalize zs.getD i 0 = z at hwf
      simp [Lit.wf] at hwf
      exact hwf
    have e3 : (⟨b, o, none⟩ : Addr).add i = ⟨b, o + i, none⟩ := by unfold Addr.add; split <;> simp_all
    exact ⟨zs.getD i 0, hbd.1, hbd.2, e3 ▸ hcell i hi'⟩

theorem codeAt_up {w w' : World} {B : Nat} {a : Option Addr} {len cap : Nat} (h : CodeAt w B a len cap) (hb : Below B w w') (hB : B ≤ w.heap.size) : CodeAt w' w'.heap.size a len cap := by
  have h' := h.below hb
  refine ⟨h'.1, h'.2.1, fun h0 => ?_⟩
  obtain ⟨b, o, e, hlt, hc⟩ := h'.2.2 h0
  exact ⟨b, o, e, Nat.lt_of_lt_of_le hlt (Nat.le_trans hB hb.size), hc⟩

/-- A text as bytes. -/
theorem bytes_conv (w : World) (s : ByteArray) : ∃ (w1 : World) (cap : Nat),
    (convert 9 22 (.string s)).run Try.prog w = .ok (.slice (some ⟨w.heap.size, 0, none⟩) s.size cap) w1 ∧ s.size ≤ cap ∧
    (∀ j, j < s.size → w1.cell? ⟨w.heap.size, j, none⟩ = some (.int .u8 (s.data.toList.getD j 0).toNat)) ∧ (∀ j, j < s.size → w1.frozen? ⟨w.heap.size, j, none⟩ = false) ∧
    Below w.heap.size w w1 ∧ w1.heap.size = w.heap.size + 1 := by
  refine ⟨Lib.bytesWorld w 5 s, _, Lib.run_convert_string_bytes w _ _ _ s Try.underlying9 Try.underlying22 Try.underlying5, grownCap_ge _ _ _ _, fun j hj => Lib.bytesWorld_cell w _ s j hj, fun j hj => ?_, ?_, Lib.bytesWorld_size _ _ _⟩
  · have hsz : s.size ≤ (Lib.bytesCells w 5 s).size := by simp [Lib.bytesCells]
    simp [World.frozen?, Lib.bytesWorld_at_new]
    omega
  · exact ⟨by unfold Lib.bytesWorld World.freeze; split <;> rfl, by unfold Lib.bytesWorld World.freeze; split <;> rfl, by unfold Lib.bytesWorld World.freeze; split <;> rfl, by rw [Lib.bytesWorld_size]; omega, fun k hk => Lib.bytesWorld_at_old w _ s k hk⟩

/-- Bytes one of which was set. -/
theorem cells_turned (w : World) (g : Nat) (l : List UInt8) (k : Nat) (c : Int) (h0 : 0 ≤ c) (h1 : c ≤ 255) (hk : k < l.length)
    (hcell : ∀ j, j < l.length → w.cell? ⟨g, j, none⟩ = some (.int .u8 (l.getD j 0).toNat)) :
    ∀ j, j < l.length → (w.setCell ⟨g, k, none⟩ (.int .u8 c)).cell? ⟨g, j, none⟩ = some (.int .u8 ((l.set k (UInt8.ofNat c.toNat)).getD j 0).toNat) := by
  intro i hi
  by_cases hik : i = k
  · subst hik
    rw [World.cell?_setCell_same _ _ _ (hcell i hi)]
    simp [List.getD_eq_getElem?_getD, hi]
    omega
  · rw [World.cell?_setCell_other _ _ _ _ (fun e => hik (by injection e; omega)), hcell i hi]
    simp only [List.getD_eq_getElem?_getD, List.getElem?_set, if_neg (Ne.symm hik)]

/-- The text of bytes. -/
theorem text_cells (w : World) (g n cap : Nat) (l : List UInt8) (hn : l.length = n) (hcell : ∀ j, j < l.length → w.cell? ⟨g, j, none⟩ = some (.int .u8 (l.getD j 0).toNat)) :
    (convert 22 9 (.slice (some ⟨g, 0, none⟩) n cap)).run Try.prog w = .ok (.string ⟨l.toArray⟩) w := by
  have h := run_convert_bytes_arg (P := Try.prog) w 22 5 Try.underlying22 Try.underlying5 g 0 n cap (l.map fun b => (b.toNat : Int)) (by simp [hn]) (fun i hi => ?_) 9 Try.underlying9
  · rw [strOfNums_bytes] at h
    exact h
  · rw [Nat.zero_add, hcell i (by omega)]
    have hil : i < l.length := by omega
    simp only [List.getD_eq_getElem?_getD, List.getElem?_map, List.getElem?_eq_getElem hil, Option.map_some, Option.getD_some]

theorem xor_turn (a : Nat) (ha : a < 256) (v : Int) (h0 : 0 ≤ v) (h1 : v < 255) : 0 ≤ bits .xor .u8 a (1 + v) ∧ bits .xor .u8 a (1 + v) ≤ 255 ∧ bits .xor .u8 a (1 + v) ≠ a := by
  obtain ⟨n, rfl⟩ := Int.eq_ofNat_of_zero_le h0
  refine ⟨bits_lo_u8 _ _ _, bits_hi_u8 _ _ _, ?_⟩
  have hb : (1 + (n : Int)) = ((1 + n : Nat) : Int) := by omega
  have hx : a ^^^ (1 + n) < 2 ^ 8 := Nat.xor_lt_two_pow (by omega) (by omega)
  have e1 : (BitVec.ofInt 8 (a : Int)).toNat = a := by
    rw [BitVec.ofInt_natCast, BitVec.toNat_ofNat]; exact Nat.mod_eq_of_lt (by omega)
  have e2 : (BitVec.ofInt 8 ((1 + n : Nat) : Int)).toNat = 1 + n := by
    rw [BitVec.ofInt_natCast, BitVec.toNat_ofNat]; exact Nat.mod_eq_of_lt (by omega)
  have h : bits .xor .u8 (a : Int) (1 + (n : Int)) = ((a ^^^ (1 + n) : Nat) : Int) := by
    rw [hb]
    show IntKind.u8.wrap ((BitVec.ofInt 8 (a : Int) ^^^ BitVec.ofInt 8 ((1 + n : Nat) : Int)).toNat : Int) = _
    rw [BitVec.toNat_xor, e1, e2, IntKind.wrap_u8']
    omega
  rw [h]
  intro e
  have e2 : a ^^^ (1 + n) = a := by exact_mod_cast e
  have e3 : a ^^^ (a ^^^ (1 + n)) = a ^^^ a := by rw [e2]
  rw [← Nat.xor_assoc, Nat.xor_self, Nat.zero_xor] at e3
  omega

theorem turned_ne (l : List UInt8) (k : Nat) (c : Int) (h0 : 0 ≤ c) (h1 : c ≤ 255) (hc : c ≠ ((l.getD k 0).toNat : Int)) : l[k]? ≠ some (UInt8.ofNat c.toNat) := by
  intro e
  apply hc
  rw [List.getD_eq_getElem?_getD, e, Option.getD_some, UInt8.toNat_ofNat']
  omega

theorem code_field (w : World) (a b c : Value) : (Instr.field 27 (.agg #[a, b, c]) 2).run Try.prog w = .ok c w := by
  simp [Instr.field, part, asAgg, go_sem]

/-- A number out of a code, the world's word outside. -/
theorem lwAt_still (a : Option Addr) (len cap : Nat) (at_ most : Int) (w : World) (hc : CodeAt w w.heap.size a len cap) (h0 : 0 ≤ at_) (h1 : at_ ≤ 1000000) (hm : most ≤ 9223372036854775807) (hm1 : 1 < most) : ∃ v : Int, 0 ≤ v ∧ v < most ∧
    Calls Try.prog 14 #[.slice a len cap, .int .i64 at_, .int .i64 most] w fun e w' => e = .returned (.int .i64 v) ∧ w = w' := by
  have hlen := hc.1
  have hcap := hc.2.1
  unfold maxLen at hcap
  have hd : decide (most ≤ 1) = false := by simpa using hm1
  by_cases hl : len = 0
  · have hd2 : ((len : Int) == 0) = true := by rw [hl]; rfl
    refine ⟨0, by omega, by omega, ?_⟩
    go_enter Try.func14, Try.ntmps14
    go_wp2
    go_ret
    exact ⟨rfl, rfl⟩
  · have hd2 : ((len : Int) == 0) = false := by simp; omega
    obtain ⟨n, rfl⟩ := Int.eq_ofNat_of_zero_le h0
    obtain ⟨b, o, rfl, hb, hcell⟩ := hc.2.2 (by omega)
    have hlt : n % len < len := Nat.mod_lt _ (by omega)
    obtain ⟨c, hc0, hc1, hcc⟩ := hcell (n % len) hlt
    have hlp : (1 : Int) ≤ (len : Int) := by omega
    have hml : 0 ≤ (n : Int) % (len : Int) ∧ (n : Int) % (len : Int) < (len : Int) := ⟨Int.emod_nonneg _ (by omega), Int.emod_lt_of_pos _ (by omega)⟩
    have hc255 : 0 ≤ c % most ∧ c % most < most := ⟨Int.emod_nonneg _ (by omega), Int.emod_lt_of_pos _ (by omega)⟩
    refine ⟨c % most, hc255.1, hc255.2, ?_⟩
    clear hc hcell
    go_enter Try.func14, Try.ntmps14
    go_wp2
    go_ret
    exact ⟨rfl, rfl⟩

end Go.Proofs.Ytoabhpgiaieopaa
