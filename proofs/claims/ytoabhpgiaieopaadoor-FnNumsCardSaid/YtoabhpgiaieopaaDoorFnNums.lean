/-
  FnNums: for every input that the row speaks of, the law returns true, and its arguments read afterwards as before. The row lists the library's variable errors.errorType with what it holds when the call begins; the card ties that to the program's text.
-/
import Derived.Test.YtoabhpgiaieopaaDoorCards
import Derived.Test.YtoabhpgiaieopaaDoorTie
import Derived.Test.YtoabhpgiaieopaaDoorNf
import Derived.WalkKit
import Derived.ProofKit
import Derived.ChangeSame
import Derived.ChangeVars
import Derived.JoinedOf
import Derived.RowKitTokens
import Derived.LaidLaws
import Derived.LaidHandle
import Derived.LaidMore
import Derived.Stop.Joined
import Derived.SevenTiedAt
import Derived.OpenShut
import Derived.ShutString
import Derived.ChangeOld
import Derived.Below
namespace Go.Proofs.YtoabhpgiaieopaaDoor.fnNums
open Go.ChangeShapes Go.WideShapes Go.ChangeAt Go.RowKit
open Go.ChangeMaps (open_string shut_string)
set_option linter.unusedVariables false

theorem own : ownKnob Tryd.prog.godebug = none := by kernel_rfl
theorem laidOut : laidOutB Tryd.prog = true := by kernel_rfl

/-- WHAT THE WALK IS TOLD OF A SLICE OF INTEGERS THAT CAME IN: it is nil; or it leads to a row of 'cap' cells, the numbers 'zs' (the first 'len' are its elements, the rest its spare room), each fitting its kind. -/
def IsRow (k : IntKind) (w : World) (a : Option Addr) (len cap : Nat) (zs : List Int) : Prop :=
  (a = none ∧ len = 0 ∧ cap = 0 ∧ zs = []) ∨
  ∃ x, a = some x ∧ len ≤ cap ∧ cap ≤ maxLen ∧ zs.length = cap ∧ (∀ i, i < zs.length → w.cell? (x.add i) = some (.int k (zs.getD i 0))) ∧ ∀ n ∈ zs, (Lit.int k n).wf = true

theorem walk (a0 : Option Addr) (len0 cap0 : Nat) (z0 : List Int) (a1 : Option Addr) (len1 cap1 : Nat) (z1 : List Int) (w : World) (w0 : IsRow .u8 w a0 len0 cap0 z0) (w1 : IsRow .u8 w a1 len1 cap1 z1) (hg : w.cell? ⟨0, 0, none⟩ = some handleV) :
    Calls Tryd.prog 3 #[.slice a0 len0 cap0, .slice a1 len1 cap1] w fun e w' => e = .returned (.bool true) ∧ Below w.heap.size w w' := by
  have hc0 : CodeAt w w.heap.size a0 len0 cap0 := by
    rcases w0 with ⟨rfl, rfl, rfl, _⟩ | ⟨x, rfl, hl, hm, hz, hcell, hwf⟩
    · exact ⟨by omega, by unfold maxLen; omega, fun h => by omega⟩
    · exact codeAt_of hl hm hz hcell hwf
  have hc1 : CodeAt w w.heap.size a1 len1 cap1 := by
    rcases w1 with ⟨rfl, rfl, rfl, _⟩ | ⟨x, rfl, hl, hm, hz, hcell, hwf⟩
    · exact ⟨by omega, by unfold maxLen; omega, fun h => by omega⟩
    · exact codeAt_of hl hm hz hcell hwf
  clear w0 w1
  by_cases hb0 : 1048576 < len0
  · have hd0 : decide (1048576 < (len0 : Int)) = true := by simp; omega
    go_enter Tryd.func3, Tryd.ntmps3
    go_wp2
    go_ret
    exact ⟨rfl, Below.refl _ _⟩
  have hd0 : decide (1048576 < (len0 : Int)) = false := by simp; omega
  by_cases hb1 : 1048576 < len1
  · have hd1 : decide (1048576 < (len1 : Int)) = true := by simp; omega
    go_enter Tryd.func3, Tryd.ntmps3
    go_wp2
    go_ret
    exact ⟨rfl, Below.refl _ _⟩
  have hd1 : decide (1048576 < (len1 : Int)) = false := by simp; omega
  have HD := Lib.hid (drawPutNum_any a0 len0 cap0 w hc0)
  have HC := Lib.hid hc1
  have HG := Lib.hid hg
  have HL := Lib.hid (glob_lt hg)
  clear hc0 hc1 hg
  go_enter Tryd.func3, Tryd.ntmps3
  go_wp2_with fail
  refine HD.out.mono ?_
  rintro e w1 ⟨n, rfl, hn0, hn1, hb1⟩
  have HB1 := Lib.hid hb1
  have hT : (⟨(putN n).toArray⟩ : ByteArray).data.toList = putN n := rfl
  have hTs : (⟨(putN n).toArray⟩ : ByteArray).size ≤ 10 := putN_size n
  have hT0 : 1 ≤ (⟨(putN n).toArray⟩ : ByteArray).size := by
    rw [size_mk]
    exact List.length_pos_iff.2 (numB_ne 9 _)
  have h1 := fun W => implPutNum_any n W hn0 hn1
  have h2 := fun W => specPutNum_any n W hn0 hn1
  generalize (⟨(putN n).toArray⟩ : ByteArray) = T at hT hTs hT0 h1 h2
  have H1 := Lib.hid h1
  have H2 := Lib.hid h2
  have H3 : Hid (∀ W : World, W.cell? ⟨0, 0, none⟩ = some handleV → Calls Tryd.prog 9 #[.string (⟨#[120, 121]⟩ ++ T ++ ⟨#[122]⟩), .int .i64 2] W fun e w' => e = .returned (.agg #[.int .i64 n, .int .i64 ((T.size : Int) + 2), .int .i64 0]) ∧ Below W.heap.size W w') := by
    intro W hg
    rw [← num_back hn0 hn1 hT hTs]
    exact implGetNum_any _ _ W (by simp only [ByteArray.size_append]; unfold maxLen; show 2 + T.size + 1 ≤ _; omega) (by omega) (by omega) hg
  have H4 : Hid (∀ W : World, W.cell? ⟨0, 0, none⟩ = some handleV → Calls Tryd.prog 9 #[.string (T.extract 0 (T.size - 1)), .int .i64 0] W fun e w' => e = .returned (.agg #[.int .i64 0, .int .i64 0, .int .i64 4]) ∧ Below W.heap.size W w') := by
    intro W hg
    rw [← num_cut hn0 hn1 hT hTs]
    exact implGetNum_any _ _ W (by rw [ByteArray.size_extract]; unfold maxLen; omega) (by omega) (by omega) hg
  clear h1 h2 hT hb1
  have hd2 : decide ((T.size : Int) < 1) = false := by simp; omega
  have hd3 : decide (10 < (T.size : Int)) = false := by simp; omega
  go_wp2_with fail
  refine (H1.out _).mono ?_
  rintro e w2 ⟨rfl, hb2⟩
  have HB2 := Lib.hid (HB1.out.trans (hb2.mono HB1.out.size))
  clear hb2
  go_wp2_with fail
  refine (H2.out _).mono ?_
  rintro e w3 ⟨rfl, hb3⟩
  have HB3 := Lib.hid (HB2.out.trans (hb3.mono HB2.out.size))
  clear hb3
  go_wp2_with fail
  refine (H3.out _ (glob_below HG.out HB3.out HL.out)).mono ?_
  rintro e w4 ⟨rfl, hb4⟩
  have HB4 := Lib.hid (HB3.out.trans (hb4.mono HB3.out.size))
  clear hb4
  go_wp2_with fail
  have hb5 : Below w.heap.size w (w4.alloc (Obj.cells #[Value.int IntKind.i64 n, Value.int IntKind.i64 ((T.size : Int) + 2), Value.int IntKind.i64 0] 26)) := HB4.out.alloc HB4.out.size _
  generalize w4.alloc (Obj.cells #[Value.int IntKind.i64 n, Value.int IntKind.i64 ((T.size : Int) + 2), Value.int IntKind.i64 0] 26) = w5 at hb5 ⊢
  have HB5 := Lib.hid hb5
  clear hb5
  refine (H4.out _ (glob_below HG.out HB5.out HL.out)).mono ?_
  rintro e w6 ⟨rfl, hb6⟩
  have HB6 := Lib.hid (HB5.out.trans (hb6.mono HB5.out.size))
  have hcf := num_field w6
  have H6 := Lib.hid (drawPutText_any a1 len1 cap1 w6 (codeAt_up HC.out HB6.out (Nat.le_refl _)))
  clear hb6
  go_wp2_with fail
  refine H6.out.mono ?_
  rintro e w7 ⟨u, rfl, hu, hb7⟩
  have HB7 := Lib.hid (HB6.out.trans (hb7.mono HB6.out.size))
  have hum : u.size ≤ maxLen := by unfold maxLen; omega
  have h7 := fun W => implPutText_any u W hum
  have h8 := fun W => specPutText_any u W hum
  have hp : (putT u).toList.isEmpty = true ∨ ((putT u).toList.isEmpty = false ∧ 1 ≤ (putT u).size ∧ ((putT u).size + 1 ≤ 8000 →
      (∀ W : World, W.cell? ⟨0, 0, none⟩ = some handleV → Calls Tryd.prog 13 #[.string (⟨#[120]⟩ ++ putT u), .int .i64 1] W fun e w' => e = .returned (.agg #[.string u, .int .i64 (((putT u).size : Int) + 1), .int .i64 0]) ∧ Below W.heap.size W w') ∧
      ∃ (y : ByteArray) (z : Int), ∀ W : World, W.cell? ⟨0, 0, none⟩ = some handleV → Calls Tryd.prog 13 #[.string ((putT u).extract 0 ((putT u).size - 1)), .int .i64 0] W fun e w' => e = .returned (.agg #[.string y, .int .i64 z, .int .i64 4]) ∧ Below W.heap.size W w')) := by
    by_cases hu8 : 8000 < u.size
    · left
      rw [putT_no hu8]
      simp [ByteArray.toList_eq]
    · right
      have hps : 1 ≤ (putT u).size := by
        rw [putT_yes hu8, ByteArray.size_append, size_mk]
        have : 1 ≤ (putN (u.size : Int)).length := List.length_pos_iff.2 (numB_ne 9 _)
        omega
      refine ⟨?_, hps, fun h8 => ⟨fun W hg => ?_, ?_⟩⟩
      · have : (putT u).data.toList.length = (putT u).size := by simp
        rw [ByteArray.toList_eq]
        cases h : (putT u).data.toList with
        | nil => rw [h] at this; simp at this; omega
        | cons a b => rfl
      · rw [← text_back hu8 h8]
        exact implGetText_any _ _ W (by rw [ByteArray.size_append]; unfold maxLen; show 1 + (putT u).size ≤ _; omega) (by omega) (by omega) hg
      · obtain ⟨y, z, hyz⟩ := text_cut hu8 h8
        refine ⟨y, z, fun W hg => ?_⟩
        rw [← hyz]
        exact implGetText_any _ _ W (by rw [ByteArray.size_extract]; unfold maxLen; omega) (by omega) (by omega) hg
  have hpm : (putT u).size ≤ 40000 := by
    unfold putT
    split
    · exact Nat.zero_le _
    · rw [ByteArray.size_append]
      have := putN_size (u.size : Int)
      omega
  generalize putT u = p at h7 h8 hp hpm
  have H7 := Lib.hid h7
  have H8 := Lib.hid h8
  have HP := Lib.hid hp
  clear h7 h8 hp hb7 hum
  go_wp2_with fail
  refine (H7.out _).mono ?_
  rintro e w8 ⟨rfl, hb8⟩
  have HB8 := Lib.hid (HB7.out.trans (hb8.mono HB7.out.size))
  clear hb8
  go_wp2_with fail
  refine (H8.out _).mono ?_
  rintro e w9 ⟨rfl, hb9⟩
  have HB9 := Lib.hid (HB8.out.trans (hb9.mono HB8.out.size))
  clear hb9
  rcases HP.out with he | ⟨he, hp1, hq⟩
  · go_wp2_with fail
    refine (H8.out _).mono ?_
    rintro e w10 ⟨rfl, hb10⟩
    have HB10 := Lib.hid (HB9.out.trans (hb10.mono HB9.out.size))
    clear hb10
    go_wp2
    go_ret
    exact ⟨rfl, HB10.out⟩
  · by_cases h8 : 8000 < p.size + 1
    · have hd8 : decide (8000 < (p.size : Int) + 1) = true := by simp; omega
      clear hq
      go_wp2
      go_ret
      exact ⟨rfl, HB9.out⟩
    · have hd8 : decide (8000 < (p.size : Int) + 1) = false := by simp; omega
      obtain ⟨hg1, y, z, hg2⟩ := hq (by omega)
      have HG1 := Lib.hid hg1
      have HG2 := Lib.hid hg2
      clear hq hg1 hg2
      go_wp2_with fail
      refine (HG1.out _ (glob_below HG.out HB9.out HL.out)).mono ?_
      rintro e w10 ⟨rfl, hb10⟩
      have HB10 := Lib.hid (HB9.out.trans (hb10.mono HB9.out.size))
      clear hb10
      go_wp2_with fail
      refine (HG2.out _ (glob_below HG.out HB10.out HL.out)).mono ?_
      rintro e w11 ⟨rfl, hb11⟩
      have HB11 := Lib.hid (HB10.out.trans (hb11.mono HB10.out.size))
      have hcf2 := text_field w11
      clear hb11
      go_wp2
      go_ret
      exact ⟨rfl, HB11.out⟩

theorem et : Tryd.prog.globalNamed "errors.errorType" = some 0 := by kernel_rfl
theorem rt : (Tryd.prog.cutTypes.find? (·.1 == "internal/reflectlite.rtype")).map (·.2) = some 77 := by kernel_rfl
theorem oneRow : ((List.range 120).filter fun t => Tryd.prog.rowNamed t [101, 114, 114, 111, 114]) = [45] := by kernel_rfl
theorem tsize : Tryd.prog.types.size = 120 := by kernel_rfl

/-- What the row's list gives the walk: the variable's one cell. -/
theorem handle_of_laid {W : World} (h : laidMetH Tryd.prog Rows.fnNumsRow.laid W) : W.cell? ⟨0, 0, none⟩ = some handleV := by
  have h' : laidMet Tryd.prog [] W ∧ handlesMet Tryd.prog Rows.fnNumsRow.laid W := h
  obtain ⟨name, u, ty, e1, e2, e3, e4, e5⟩ := h'.2 _ (List.mem_singleton.2 rfl)
  have en : name = [101, 114, 114, 111, 114] := (Option.some.inj e1).symm
  subst en
  obtain rfl := Option.some.inj (rt.symm.trans e2)
  have hm : ty ∈ (List.range 120).filter fun t => Tryd.prog.rowNamed t [101, 114, 114, 111, 114] := List.mem_filter.2 ⟨List.mem_range.2 (by rw [← tsize]; exact e3), e4⟩
  rw [oneRow] at hm
  obtain rfl := List.mem_singleton.1 hm
  have hh : typeHandle Tryd.prog 45 = .pointer (some ⟨1, 45, none⟩) := by kernel_rfl
  rw [hh] at e5
  have := World.var?_cell et e5 0
  unfold handleV
  simpa using this

/-- A world for the witness: the settled one, the variable's cell laid. -/
noncomputable def laidWorld (os : Os) : World :=
  { World.holding Tryd.prog os ⟨#[], #[], []⟩ with heap := (World.holding Tryd.prog os ⟨#[], #[], []⟩).heap.modify 0 fun
      | .cells _ t frozen => .cells #[handleV] t frozen
      | o => o }
theorem laidWorld_met (os : Os) (args : Array Value) : laidMetH Tryd.prog Rows.fnNumsRow.laid ((laidWorld os).forCall (fun _ _ => 0) ⟨#[], args, []⟩).memory :=
  laidMetH_of_parts (laidMet_nil _ _) (by kernel_rfl)

set_option maxRecDepth 100000 in
theorem lifted (os : Os) (started : os.Started) (H : Type) (enc : TypeId × Value → H) :
    ReturnsInHanded {} Tryd.checked os 3 .any (fun w args => (Rows.fnNumsSpec.pre enc Tryd.prog Tryd.f3 [] false w args ∧ laidMetH Tryd.prog Rows.fnNumsRow.laid w) ∧ sizedMet enc Tryd.prog Tryd.f3 (OpenSpec.ofChange Rows.fnNumsSpec) false w args)
      (Rows.fnNumsSpec.post enc Tryd.prog Tryd.f3 false true false false) := by
  refine returnsInHanded_of_change_and (C := Tryd.checked) (X := fun w _ => laidMetH Tryd.prog Rows.fnNumsRow.laid w) (fun _ _ _ hh h => h.of_heap hh) own started (by kernel_rfl) Tryd.func3
    (ChangeSpec.witness_at (enc := enc) (C := Tryd.checked) (os := os) (X := fun w _ => laidMetH Tryd.prog Rows.fnNumsRow.laid w) false (laidWorld os) #[.slice none 0 0, .slice none 0 0] 8 rfl (by kernel_rfl) (by kernel_rfl) (by kernel_rfl) (by kernel_rfl) (by kernel_rfl) (laidWorld_met os _)) ?_
  intro W base args ds gs before hval0 hW _ _ hL _
  have hval : ∀ (j : Nat) t v, Tryd.f3.params[j]? = some t → args[j]? = some v → Value.okWide Tryd.prog W .any base t v := hval0
  have hW' := hW
  obtain ⟨p, q, hA0, hV, rfl, hfz, hnd⟩ := hW
  have hA : DataW.TrodAll enc Tryd.prog W 0 (fun _ => true) true Tryd.f3.params.toList args.toList ds p := hA0
  rw [Tryd.params3] at hA hval
  obtain ⟨v0, vs0, d0, ds0, p0, q0, hargs, rfl, rfl, h0, r0⟩ := trodAll_cons hA
  obtain ⟨v1, vs1, d1, ds1, p1, q1, rfl, rfl, rfl, h1, r1⟩ := trodAll_cons r0
  obtain ⟨rfl, rfl, rfl⟩ := trodAll_nil r1
  obtain rfl : args = #[v0, v1] := by cases args; simp_all
  obtain ⟨rfl, rfl⟩ := trodVars_none hV
  obtain ⟨a0, len0, cap0, rfl⟩ := okWide_slice Tryd.underlying22 (hval 0 22 v0 rfl rfl)
  have k0 := h0
  have lt0 : ∀ x ∈ p0, x.block < W.heap.size := by obtain ⟨m, hm⟩ := k0; exact DataW.trod_lt m _ _ _ hm
  obtain ⟨z0, w0⟩ : ∃ zs, IsRow .u8 W a0 len0 cap0 zs := by
    obtain ⟨fuel, hf⟩ := h0
    rcases open_ints Tryd.underlying22 Tryd.underlying5 (by kernel_rfl) hf with ⟨hcs, _⟩ | ⟨x, l, c, zs, hcs, _, hl, hm, hz, _, hcell, hwz⟩
    · simp [Value.cells] at hcs
      obtain ⟨rfl, rfl, rfl⟩ := hcs
      exact ⟨[], .inl ⟨rfl, rfl, rfl, rfl⟩⟩
    · simp [Value.cells] at hcs
      obtain ⟨rfl, rfl, rfl⟩ := hcs
      exact ⟨zs, .inr ⟨_, rfl, hl, hm, by simpa using hz, hcell, hwz⟩⟩
  obtain ⟨a1, len1, cap1, rfl⟩ := okWide_slice Tryd.underlying22 (hval 1 22 v1 rfl rfl)
  have k1 := h1
  have lt1 : ∀ x ∈ p1, x.block < W.heap.size := by obtain ⟨m, hm⟩ := k1; exact DataW.trod_lt m _ _ _ hm
  obtain ⟨z1, w1⟩ : ∃ zs, IsRow .u8 W a1 len1 cap1 zs := by
    obtain ⟨fuel, hf⟩ := h1
    rcases open_ints Tryd.underlying22 Tryd.underlying5 (by kernel_rfl) hf with ⟨hcs, _⟩ | ⟨x, l, c, zs, hcs, _, hl, hm, hz, _, hcell, hwz⟩
    · simp [Value.cells] at hcs
      obtain ⟨rfl, rfl, rfl⟩ := hcs
      exact ⟨[], .inl ⟨rfl, rfl, rfl, rfl⟩⟩
    · simp [Value.cells] at hcs
      obtain ⟨rfl, rfl, rfl⟩ := hcs
      exact ⟨zs, .inr ⟨_, rfl, hl, hm, by simpa using hz, hcell, hwz⟩⟩
  clear hA0 hval0
  refine (walk a0 len0 cap0 z0 a1 len1 cap1 z1 W w0 w1 (handle_of_laid hL)).mono fun e W' ⟨he, bel⟩ => ?_
  subst he
  exact ⟨_, rfl, _, _, _, [], _, [], hW', trodAll_mk1 (shut_bool Tryd.underlying4 _), (trodAll_cons_mk (Below.trod laidOut (by kernel_rfl) (of_decide_eq_true (by kernel_rfl)) k0 bel lt0) (trodAll_cons_mk (Below.trod laidOut (by kernel_rfl) (of_decide_eq_true (by kernel_rfl)) k1 bel lt1) trodAll_mk0)), rfl, bel.frame _, fun h => by cases h⟩

theorem over : Rows.fnNumsRow.holds Tryd.pinned (OpenSpec.ofChange Rows.fnNumsSpec) :=
  OpenClaim.holds_of_wide 3 Tryd.f3 rfl rfl rfl rfl rfl rfl rfl ⟨rfl, rfl, rfl, rfl, rfl⟩ rfl rfl rfl rfl rfl (by kernel_rfl) Tryd.func3 (by kernel_rfl)
    (of_decide_eq_true (by kernel_rfl)) (by unfold Func.isWrapper; first | (rw [if_pos (by decide +kernel)]; kernel_rfl) | (rw [if_neg (by decide +kernel)]; exact ⟨rfl, rfl⟩))
    (fun os started H enc _ => lifted os started H enc)

/-- What the card asks of the parameters: none wants a stand-in. -/
theorem plain (f : FuncId) (fn : Func) (hf : Tryd.pinned.checked.prog.funcNamed "loop.example/s0083/laws.FnNums" = some f) (hfn : Tryd.pinned.checked.prog.funcs[f]? = some fn) :
    Rows.fnNumsCard.stood.looks = Tryd.pinned.checked.prog.looks [] ∧ ∀ (j : Nat) t, fn.params[j]? = some t → Tryd.pinned.checked.prog.wantsStandIn t = false := by
  obtain rfl : f = 3 := Option.some.inj ((show Tryd.prog.funcNamed "loop.example/s0083/laws.FnNums" = some 3 by kernel_rfl).symm.trans hf) |>.symm
  obtain rfl : fn = Tryd.f3 := (Option.some.inj (Tryd.func3.symm.trans hfn)).symm
  refine ⟨by kernel_rfl, fun j t ht => ?_⟩
  rw [Tryd.params3] at ht
  have hm : t ∈ [22, 22] := by simpa using Array.mem_of_getElem? ht
  have hall : ([22, 22].all fun u => !Tryd.prog.wantsStandIn u) = true := by kernel_rfl
  exact (show Tryd.prog.wantsStandIn t = false by simpa using List.all_eq_true.1 hall t hm)

theorem proved : Rows.FnNumsCardSaid :=
  Claim7.holds_tied_plain_at .later [] _ _ _ _ over (fun _ h => by cases h) (by kernel_rfl) (fun _ h => by cases h) fnNums_row_tie rfl ⟨rfl, rfl⟩ (by kernel_rfl) rfl plain (by kernel_rfl)
#print axioms proved
end Go.Proofs.YtoabhpgiaieopaaDoor.fnNums
