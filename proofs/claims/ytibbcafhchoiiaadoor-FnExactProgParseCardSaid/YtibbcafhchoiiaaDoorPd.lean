/- The model cuts a text at a byte: l01Split. -/
import Derived.Test.YtibbcafhchoiiaaDoorPl
set_option maxRecDepth 100000
set_option linter.unusedSimpArgs false
set_option linter.unusedVariables false
namespace Go.Proofs.YtibbcafhchoiiaaDoor
open Go.RowKit

def strC (p : ByteArray) : List Value := [.string p]
theorem strS (p : ByteArray) : (strC p).length = 1 := rfl
theorem info_str : (Tryd.prog.info? 9).map (fun i => (i.zero, i.size, i.bytes)) = some (some (.string ⟨#[]⟩), 1, 16) := by kernel_rfl
abbrev StrOwn (base : Nat) (w : World) (v : Value) (l : List ByteArray) : Prop := OwnL 9 1 strC base w v l
def datas (l : List ByteArray) : List (List UInt8) := l.map fun p => p.data.toList

/-- 'append(l, s)': the text lies in a block of its own. -/
theorem wpList_push_text {ops : Array Oper} {rest : List Oper} {o : Oper} {a : Act} {Q : Exit → Act → World → Prop} (hgd : o.guard = none) (s x : Operand)
    (ho : o.op = .call { callee := .builtin .append, args := #[s, x], argTypes := #[57, 57] }) (wr : World) (c : ByteArray)
    (base : Nat) (v : Value) (l : List ByteArray) (hs : a.eval s = v) (hown : StrOwn base wr v l)
    (hx : a.eval x = .slice (some ⟨wr.heap.size, 0, none⟩) 1 1) (hlen : l.length ≤ 1000000000) (hbase : base ≤ wr.heap.size)
    (h : ∀ v' w', StrOwn base w' v' (l ++ [c]) → GrB wr w' v v' → wpList Tryd.prog ops Q rest (a.put o.dst v') w') :
    wpList Tryd.prog ops Q (o :: rest) a (wr.alloc (.cells #[.string c] 9)) := by
  obtain ⟨i0, hi, hz0, hz1, hz2⟩ := info_parts info_str
  refine wpList_append_own_at _ hgd s x 57 ho base 9 i0 _ 1 16 Tryd.underlying57 hi hz0 hz1 hz2 rfl (by decide) v l.length (l.flatMap strC) hs
    (World.ownsRow.alloc hown _) ⟨wr.heap.size, 0, none⟩ 1 1 [.string c] hx rfl (fun j u hj => ?_) (by intro u hu; simp at hu; subst hu; rfl) (by unfold maxLen; omega) (by omega) (by simp; omega) ?_
  · rw [add_at, Nat.zero_add, World.cell?_alloc_at _ _ _ _ rfl, ← hj]; simp
  intro v' w' hown' hg _ hat
  refine h v' w' ?_ (GrB.alloc ⟨hg, ?_⟩)
  · unfold StrOwn OwnL
    rw [List.flatMap_append, List.length_append]
    exact hown'
  · rcases hat with e | e
    · exact .inl e
    · exact .inr fun g hg' => by rw [e] at hg'; injection hg' with hg'; omega

theorem drop_cut {t : List UInt8} {c : UInt8} {f i : Nat} (hf : f ≤ i) (hi : i < t.length) (hc : t[i] = c) (hno : c ∉ (t.take i).drop f) : cutAt c (t.drop f) = (t.take i).drop f :: cutAt c (t.drop (i + 1)) := by
  have e : t.drop f = (t.take i).drop f ++ c :: t.drop (i + 1) := by
    have h1 : t = t.take i ++ t[i] :: t.drop (i + 1) := by
      rw [← List.drop_eq_getElem_cons hi, List.take_append_drop]
    rw [hc] at h1
    have h2 : (t.take i ++ c :: t.drop (i + 1)).drop f = (t.take i).drop f ++ c :: t.drop (i + 1) := List.drop_append_of_le_length (by rw [List.length_take]; omega)
    rw [← h2, ← h1]
  rw [e, cutAt_hit hno]
theorem no_next {t : List UInt8} {c : UInt8} {f i : Nat} (hf : f ≤ i) (hi : i < t.length) (hc : t[i] ≠ c) (hno : c ∉ (t.take i).drop f) : c ∉ (t.take (i + 1)).drop f := by
  rw [List.take_succ_eq_append_getElem hi, List.drop_append_of_le_length (by rw [List.length_take]; omega)]
  intro hm
  rcases List.mem_append.1 hm with hm | hm
  · exact hno hm
  · simp at hm
    exact hc hm.symm

theorem ext_data (s : ByteArray) {f k : Nat} (hk : k ≤ s.size) : (s.extract f k).data.toList = (s.data.toList.take k).drop f := by
  rw [ByteArray.data_extract, Array.toList_extract, List.extract_eq_take_drop, List.drop_take]

set_option maxHeartbeats 3200000 in
theorem l01Split_any (s : ByteArray) (c : UInt8) (w : World) (hs : s.size ≤ 1000000) :
    Calls Tryd.prog 26 #[.string s, .int .u8 c.toNat] w fun e w' => ∃ u l, e = .returned u ∧ StrOwn w.heap.size w' u l ∧ datas l = cutAt c s.data.toList ∧ l.length ≤ s.size + 1 ∧ Below w.heap.size w w' := by
  have hsz : s.data.toList.length = s.size := Array.length_toList
  have HSZ := Lib.hid hsz
  clear hsz
  go_enter Tryd.func26, Tryd.ntmps26
  go_wp2_with fail
  go_loopw [5, 6, 7] (fun v q i wr => ∃ (k f : Nat) (l : List ByteArray), k ≤ s.size ∧ f ≤ k ∧ i = .int .i64 k ∧ q = .int .i64 f ∧ c ∉ (s.data.toList.take k).drop f ∧ cutAt c s.data.toList = datas l ++ cutAt c (s.data.toList.drop f) ∧ l.length ≤ k ∧ StrOwn w.heap.size wr v l ∧ Below w.heap.size w wr) (fun _ _ i _ => s.size - (intOf i).toNat)
  case atStart => exact ⟨0, 0, [], by omega, by omega, rfl, rfl, by simp, rfl, Nat.le_refl _, OwnL.lit (Nat.le_refl _) rfl, (Below.refl _ _).alloc (Nat.le_refl _) _⟩
  case round =>
    obtain ⟨k, f, l, hk, hf, rfl, rfl, hno, hcut, hll, hown, hbw⟩ := hrel
    have hle : l.length ≤ 1000000000 := by omega
    have hbs := hbw.size
    by_cases hlt : k < s.size
    · have hkl : k < s.data.toList.length := by rw [HSZ.out]; exact hlt
      have hgk : s.data.toList[k] = s[k] := rfl
      by_cases hc : s[k] = c
      · have hq : ((s[k].toNat : Int) == (c.toNat : Int)) = true := by rw [hc]; simp
        have hd := drop_cut hf hkl (hgk.trans hc) hno
        have HC := Lib.hid (show cutAt c s.data.toList = datas (l ++ [s.extract f k]) ++ cutAt c (s.data.toList.drop (k + 1)) by
          rw [hcut, hd]
          unfold datas
          rw [List.map_append, List.append_assoc, List.map_singleton, ext_data s hk]
          rfl)
        have HN := Lib.hid (show c ∉ (s.data.toList.take (k + 1)).drop (k + 1) by
          rw [List.drop_eq_nil_of_le (by rw [List.length_take]; omega)]
          simp)
        clear hc hd hno hcut hgk
        go_wp2_with (at_builtin; refine wpList_push_text rfl _ _ (by rfl) _ _ w.heap.size _ l (by rfl) hown (by rfl) hle hbs ?_; intro v3 w3 hown3 hg3)
        have hb3 := hg3.below hbw hbs (fun q hq => (hown.lt q hq).1)
        have hl3 : (l ++ [s.extract f k]).length ≤ k + 1 := by simp; omega
        go_wp2_with fail
        go_roundw
        case rel => exact ⟨k + 1, k + 1, _, by omega, Nat.le_refl _, by go_num, by go_num, HN.out, HC.out, hl3, hown3, hb3⟩
        case measure => simp [intOf]; omega
      · have hq : ((s[k].toNat : Int) == (c.toNat : Int)) = false := by
          simp only [beq_eq_false_iff_ne, ne_eq]
          intro e
          exact hc (UInt8.toNat_inj.1 (by omega))
        have HN := Lib.hid (no_next hf hkl (fun e => hc (hgk.symm.trans e)) hno)
        have HC := Lib.hid hcut
        clear hc hno hcut hgk
        go_wp2_with fail
        go_roundw
        case rel => exact ⟨k + 1, f, l, by omega, by omega, by go_num, rfl, HN.out, HC.out, by omega, hown, hbw⟩
        case measure => simp [intOf]; omega
    · have hks : k = s.size := by omega
      have htk : s.data.toList.take k = s.data.toList := List.take_of_length_le (by rw [HSZ.out]; omega)
      rw [htk] at hno
      have HC := Lib.hid (show datas (l ++ [s.extract f s.size]) = cutAt c s.data.toList by
        rw [hcut, cutAt_miss hno]
        unfold datas
        rw [List.map_append, List.map_singleton, ext_data s (Nat.le_refl _), List.take_of_length_le (by rw [HSZ.out]; exact Nat.le_refl _)])
      have hfs : f ≤ s.size := by omega
      clear hno hcut htk hks
      go_wp2_with (at_builtin; refine wpList_push_text rfl _ _ (by rfl) _ _ w.heap.size _ l (by rfl) hown (by rfl) hle hbs ?_; intro v3 w3 hown3 hg3)
      have hb3 := hg3.below hbw hbs (fun q hq => (hown.lt q hq).1)
      have hl3 : (l ++ [s.extract f s.size]).length ≤ s.size + 1 := by simp; omega
      have HC2 := HC.out
      go_ret
      exact ⟨_, _, rfl, hown3, HC2, hl3, hb3⟩

end Go.Proofs.YtibbcafhchoiiaaDoor
