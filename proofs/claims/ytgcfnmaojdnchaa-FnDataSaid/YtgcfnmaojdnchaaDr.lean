/- Walks: the draws on the source: edge, bytes, l01Any: what they answer is within bounds. -/
import Derived.Test.YtgcfnmaojdnchaaSr
set_option maxRecDepth 100000
namespace Go.Proofs.Ytgcfnmaojdnchaa
open Go.RowKit

theorem Src.lt {w : World} {g : Nat} {a : Option Addr} {len cap : Nat} (h : Src w g a len cap) : g < w.heap.size := by
  obtain ⟨_, _, _, ⟨hr, _⟩, _⟩ := h
  exact row_lt hr
/-- The source is kept where its block and the code's are. -/
theorem Src.keep {w w' : World} {g : Nat} {a : Option Addr} {len cap : Nat} (h : Src w g a len cap) (hk : ∀ k, k ≤ g → w'.heap[k]? = w.heap[k]?) : Src w' g a len cap := by
  obtain ⟨x, m, s, ⟨hr, hb⟩, hc⟩ := h
  exact ⟨x, m, s, ⟨(hk g (Nat.le_refl _)).trans hr, hb⟩, hc.keep fun p hp => World.cell?_of_block (hk p.block (by omega))⟩
theorem Src.below {w w' : World} {g B : Nat} {a : Option Addr} {len cap : Nat} (h : Src w g a len cap) (hb : Below B w w') (hB : g < B) : Src w' g a len cap :=
  h.keep fun k hk => hb.block k (by omega)
theorem AfterSrc.trans {g : Nat} {a : Option Addr} {len cap : Nat} {w w1 w2 : World} (h : AfterSrc g a len cap w w1) (h2 : AfterSrc g a len cap w1 w2) : AfterSrc g a len cap w w2 :=
  ⟨h2.1, ⟨h2.2.os.trans h.2.os, h2.2.tape.trans h.2.tape, h2.2.output.trans h.2.output, Nat.le_trans h.2.size h2.2.size, fun k hk hne => (h2.2.block k (Nat.lt_of_lt_of_le hk h.2.size) hne).trans (h.2.block k hk hne)⟩⟩
theorem grown_of_below {w w' : World} (h : Below w.heap.size w w') (row : Option Nat) : w.grownBy w' row := ⟨h.os, h.tape, h.output, h.size, fun k hk _ => h.block k hk⟩
theorem AfterSrc.of_below {g : Nat} {a : Option Addr} {len cap : Nat} {w w' : World} (h : Src w g a len cap) (hb : Below w.heap.size w w') : AfterSrc g a len cap w w' :=
  ⟨h.below hb h.lt, grown_of_below hb _⟩

theorem AfterSrc.own {g : Nat} {a : Option Addr} {len cap : Nat} {w w1 w2 : World} {v : Value} {bs : List UInt8} (h : AfterSrc g a len cap w w1) (hgl : g < w.heap.size) (hown : OwnB w.heap.size w1 v bs) (hg : w1.grownBy w2 v.ownBlock) :
    AfterSrc g a len cap w w2 := by
  have hne : ∀ q, q < w.heap.size → some q ≠ v.ownBlock := fun q hq e => by have := (hown.lt q e.symm).1; omega
  have hs := h.2.size
  exact ⟨h.1.keep fun q hq => hg.block q (by omega) (hne q (by omega)), ⟨hg.os.trans h.2.os, hg.tape.trans h.2.tape, hg.output.trans h.2.output, Nat.le_trans hs hg.size,
    fun q hq hn => (hg.block q (by omega) (hne q hq)).trans (h.2.block q hq hn)⟩⟩

set_option maxHeartbeats 800000 in
theorem srcBytes_any (g : Nat) (a : Option Addr) (len cap : Nat) (n : Int) (w : World) (hs : Src w g a len cap) (hn0 : 0 ≤ n) (hn : n ≤ 4096) :
    Calls Try.prog 47 #[.pointer (some ⟨g, 0, none⟩), .int .i64 n] w fun e w' => ∃ X : ByteArray, e = .returned (.string X) ∧ X.size = n.toNat ∧ AfterSrc g a len cap w w' := by
  have hgl := hs.lt
  obtain ⟨m, rfl⟩ := Int.eq_ofNat_of_zero_le hn0
  have HS := Lib.hid hs
  clear hs
  go_enter Try.func47, Try.ntmps47
  go_wp2
  go_loopw [5, 6] (fun v i wr => ∃ (k : Nat) (bs : List UInt8), k ≤ m ∧ i = .int .i64 k ∧ bs.length = k ∧ OwnB w.heap.size wr v bs ∧ AfterSrc g a len cap w wr) (fun _ i _ => m - (intOf i).toNat)
  case atStart =>
    refine ⟨0, [], by omega, rfl, rfl, World.ownsRow_lit _ _ _ (Nat.le_refl _) (by unfold maxLen; omega) (by simp), AfterSrc.of_below HS.out ((Below.refl _ _).alloc (Nat.le_refl _) _)⟩
  case round =>
    obtain ⟨k, bs, hk, rfl, hl, hown, haf⟩ := hrel
    have hsz := haf.2.size
    have HAF := Lib.hid haf
    have HL := Lib.hid hl
    clear haf hl
    by_cases hlt : k < m
    · have HN := Lib.hid (srcN_any g a len cap 256 wr HAF.out.1 (by omega) (by omega))
      have hbl : bs.length ≤ 4096 := by have := HL.out; omega
      go_wp2_with fail
      refine HN.out.mono ?_
      rintro e w1 ⟨v, rfl, hv0, hv1, _, hs1, hg1⟩
      have hv255 : v ≤ 255 := by have := hv1 (by omega); omega
      have hown1 : OwnB w.heap.size w1 u5 bs := World.ownsRow.kept hown hg1 (by
        rcases h : u5.ownBlock with _ | q
        · exact .inl rfl
        · exact .inr (fun e => by have := (hown.lt q h).1; injection e with e; omega))
      have hb1 : w.heap.size ≤ w1.heap.size := Nat.le_trans hsz hg1.size
      have HA1 : Hid (AfterSrc g a len cap w w1) := HAF.out.trans ⟨hs1, hg1⟩
      clear hv1 hs1 hg1 hown
      go_wp2_with (at_builtin; refine wpList_push_u8 rfl _ _ rfl _ _ _ _ rfl hown1 _ (by omega) (by omega) rfl (by omega) hb1 ?_; intro v2 w2 hown2 hg2)
      go_roundw
      case rel =>
        exact ⟨k + 1, _, by omega, by go_num, by simp [HL.out], hown2, HA1.out.own hgl hown1 hg2⟩
      case measure => simp [intOf]; omega
    · have hcv := hown.string
      go_wp2
      go_ret
      exact ⟨_, rfl, by rw [size_mk]; have := HL.out; omega, HAF.out⟩

end Go.Proofs.Ytgcfnmaojdnchaa
