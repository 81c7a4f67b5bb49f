/-
  FnSeal: for every input that the row speaks of, the law returns true, and its arguments read afterwards as before. No further conditions.
-/
import Derived.Test.YtoabhpgiaieopaaRows
import Derived.Test.YtoabhpgiaieopaaSl
import Derived.WalkKit
import Derived.ProofKit
import Derived.OpenShut
import Derived.ShutString
import Derived.ChangeOld
import Derived.Below
namespace Go.Proofs.Ytoabhpgiaieopaa.fnSeal
open Go.ChangeShapes Go.WideShapes Go.ChangeAt Go.RowKit
open Go.ChangeMaps (open_string shut_string)
set_option linter.unusedVariables false

theorem own : ownKnob Try.prog.godebug = none := by kernel_rfl
theorem laidOut : laidOutB Try.prog = true := by kernel_rfl

/-- WHAT THE WALK IS TOLD OF A SLICE OF INTEGERS THAT CAME IN: it is nil; or it leads to a row of 'cap' cells, the numbers 'zs' (the first 'len' are its elements, the rest its spare room), each fitting its kind. -/
def IsRow (k : IntKind) (w : World) (a : Option Addr) (len cap : Nat) (zs : List Int) : Prop :=
  (a = none ∧ len = 0 ∧ cap = 0 ∧ zs = []) ∨
  ∃ x, a = some x ∧ len ≤ cap ∧ cap ≤ maxLen ∧ zs.length = cap ∧ (∀ i, i < zs.length → w.cell? (x.add i) = some (.int k (zs.getD i 0))) ∧ ∀ n ∈ zs, (Lit.int k n).wf = true

theorem walk (a0 : Option Addr) (len0 cap0 : Nat) (z0 : List Int) (a1 : Option Addr) (len1 cap1 : Nat) (z1 : List Int) (w : World) (w0 : IsRow .u8 w a0 len0 cap0 z0) (w1 : IsRow .u8 w a1 len1 cap1 z1) :
    Calls Try.prog 3 #[.slice a0 len0 cap0, .slice a1 len1 cap1] w fun e w' => e = .returned (.bool true) ∧ Below w.heap.size w w' := by
  have hc0 : CodeAt w w.heap.size a0 len0 cap0 := by
    rcases w0 with ⟨rfl, rfl, rfl, _⟩ | ⟨x, rfl, hl, hm, hz, hcell, hwf⟩
    · exact ⟨by omega, by unfold maxLen; omega, fun h => by omega⟩
    · exact codeAt_of hl hm hz hcell hwf
  have hc1 : CodeAt w w.heap.size a1 len1 cap1 := by
    rcases w1 with ⟨rfl, rfl, rfl, _⟩ | ⟨x, rfl, hl, hm, hz, hcell, hwf⟩
    · exact ⟨by omega, by unfold maxLen; omega, fun h => by omega⟩
    · exact codeAt_of hl hm hz hcell hwf
  clear w0 w1
  by_cases hb0 : 1048576 < len0
  · have hd0 : decide (1048576 < (len0 : Int)) = true := by simp; omega
    go_enter Try.func3, Try.ntmps3
    go_wp2
    go_ret
    exact ⟨rfl, Below.refl _ _⟩
  have hd0 : decide (1048576 < (len0 : Int)) = false := by simp; omega
  by_cases hb1 : 1048576 < len1
  · have hd1 : decide (1048576 < (len1 : Int)) = true := by simp; omega
    go_enter Try.func3, Try.ntmps3
    go_wp2
    go_ret
    exact ⟨rfl, Below.refl _ _⟩
  have hd1 : decide (1048576 < (len1 : Int)) = false := by simp; omega
  have HD := Lib.hid (drawSeal_any a0 len0 cap0 w hc0)
  have HC := Lib.hid hc1
  clear hc0 hc1
  go_enter Try.func3, Try.ntmps3
  go_wp2_with fail
  refine HD.out.mono ?_
  rintro e w1 ⟨t, rfl, ht, hb1⟩
  have HT : Hid (t.size ≤ 20000) := ht
  have hml : t.size ≤ maxLen := by unfold maxLen; omega
  have H1 := Lib.hid (implSeal_any t w1 hml)
  have HB1 := Lib.hid hb1
  clear hb1 hml ht
  go_wp2_with fail
  refine H1.out.mono ?_
  rintro e w2 ⟨rfl, hb2⟩
  have H2 := Lib.hid (specSeal_any t w2 (by have := HT.out; unfold maxLen; omega))
  have HB2 := Lib.hid (HB1.out.trans (hb2.mono HB1.out.size))
  clear hb2
  go_wp2_with fail
  refine H2.out.mono ?_
  rintro e w3 ⟨rfl, hb3⟩
  have HB3 := Lib.hid (HB2.out.trans (hb3.mono HB2.out.size))
  clear hb3
  by_cases hs : 7996 < t.size
  · have H4 := Lib.hid (drawCrcMore_any a1 len1 cap1 w3 (codeAt_up HC.out HB3.out (Nat.le_refl _)))
    have HE : Hid (sealOf t = ⟨#[]⟩) := sealOf_no hs
    have hne : (sealOf t).toList.isEmpty = true := by rw [HE.out]; simp [ByteArray.toList_eq]
    go_wp2_with fail
    refine H4.out.mono ?_
    rintro e w8 ⟨c, u, rfl, hcl, hch, hu, hb8⟩
    have HB8 := Lib.hid (HB3.out.trans (hb8.mono HB3.out.size))
    have hus : u.size ≤ maxLen := by unfold maxLen; omega
    have hts : t.size ≤ maxLen := by have := HT.out; unfold maxLen; omega
    have htus : (t ++ u).size ≤ maxLen := by have := HT.out; rw [ByteArray.size_append]; unfold maxLen; omega
    have ht0 : t.size ≤ 20000 := HT.out
    clear hb8
    by_cases h8 : 8000 < t.size + u.size
    · have hd8 : decide (8000 < (t.size : Int) + (u.size : Int)) = true := by simp; omega
      go_wp2
      go_ret
      exact ⟨rfl, HB8.out⟩
    · have hd8 : decide (8000 < (t.size : Int) + (u.size : Int)) = false := by simp; omega
      have hq1 : (crcAns c u == crcAns c u) = true := by simp
      have hq2 : (crcAns (crcAns 0 t) u == crcAns 0 (t ++ u)) = true := by rw [crc_goes_on t u (by omega)]; simp
      go_wp2_with (first | (go_at_call 17; refine (implCrcMore_all _ _ _ hus).mono ?_; rintro e w' ⟨rfl, rfl⟩) | (go_at_call 18; refine (specCrcMore_all _ _ _ hus).mono ?_; rintro e w' ⟨rfl, rfl⟩) | (go_at_call 19; refine (implCrc_all _ _ hts).mono ?_; rintro e w' ⟨rfl, rfl⟩) | (go_at_call 19; refine (implCrc_all _ _ htus).mono ?_; rintro e w' ⟨rfl, rfl⟩))
      go_ret
      exact ⟨rfl, HB8.out⟩
  · have hsz := sealOf_size hs
    have hne : (sealOf t).toList.isEmpty = false := by
      have : (sealOf t).data.toList.length = t.size + 4 := by simpa using hsz
      rw [ByteArray.toList_eq]
      cases h : (sealOf t).data.toList with
      | nil => rw [h] at this; simp at this
      | cons a b => rfl
    have HU := Lib.hid (unseal_seal hs)
    have HV := Lib.hid (@unseal_turned t · hs)
    generalize hS : sealOf t = S at hsz hne HU HV ⊢
    have HS := Lib.hid hS
    clear hS
    obtain ⟨w4, cap, hcv, hcap, hcell, hfz, hb4, hg4⟩ := bytes_conv w3 S
    rw [hsz] at hcv hcap hcell hfz
    have HB4 := Lib.hid (HB3.out.trans (hb4.mono HB3.out.size))
    have HC4 := Lib.hid (codeAt_up HC.out HB4.out (Nat.le_refl _))
    obtain ⟨k, hk0, hk1, hk⟩ := lwAt_still a1 len1 cap1 0 ((t.size : Int) + 4) w4 HC4.out (by omega) (by omega) (by have := HT.out; omega) (by omega)
    have HK := Lib.hid hk
    obtain ⟨k, rfl⟩ := Int.eq_ofNat_of_zero_le hk0
    clear hk
    obtain ⟨v, hv0, hv1, hv⟩ := lwAt_still a1 len1 cap1 1 255 w4.drew HC4.out (by omega) (by omega) (by omega) (by omega)
    obtain ⟨c0, hc0e, hc0l⟩ : ∃ c0 : Nat, c0 = (S.data.toList.getD k 0).toNat ∧ c0 < 256 := ⟨_, rfl, UInt8.toNat_lt _⟩
    have hck := hcell k (by omega)
    rw [← hc0e] at hck
    have HC0 := Lib.hid hc0e
    clear hc0e
    have hfk := hfz k (by omega)
    have HCE := Lib.hid hcell
    clear hcell hfz hb4
    go_wp2_with fail
    refine HK.out.mono ?_
    rintro e w5 ⟨rfl, rfl⟩
    clear hcv hk0
    go_wp2_with fail
    refine wp_region_still_tail 12 (by kernel_rfl) (by kernel_rfl) ?_
    simp only [List.take_succ_cons, List.take_zero, List.drop_succ_cons, List.drop_zero, World.drew_eq]
    repeat still_step
    still_call (hv.mono fun _ _ h => ⟨h.1, h.2.symm⟩)
    repeat still_step
    refine wpStill_nil ?_
    go_wp2_with fail
    have hSl : S.data.toList.length = t.size + 4 := by simpa using hsz
    have hx := xor_turn c0 hc0l v hv0 hv1
    generalize bits BinOp.xor IntKind.u8 (c0 : Int) (1 + v) = cb at hx ⊢
    have hcells : ∀ j, j < S.data.toList.length → ((w4.setCell ⟨w3.heap.size, k, none⟩ (.int .u8 cb)).drew).cell? ⟨w3.heap.size, j, none⟩ = some (.int .u8 ((S.data.toList.set k (UInt8.ofNat cb.toNat)).getD j 0).toNat) :=
      cells_turned w4 w3.heap.size S.data.toList k cb hx.1 hx.2.1 (by omega) (fun j hj => HCE.out j (by omega))
    have hbX : Below w.heap.size w ((w4.setCell ⟨w3.heap.size, k, none⟩ (.int .u8 cb)).drew) := (HB4.out.setCell HB3.out.size _).drew
    have hsX : w3.heap.size < ((w4.setCell ⟨w3.heap.size, k, none⟩ (.int .u8 cb)).drew).heap.size := by simp [hg4]
    generalize (w4.setCell ⟨w3.heap.size, k, none⟩ (.int .u8 cb)).drew = W at hcells hbX hsX ⊢
    have HBW := Lib.hid hbX
    have h5 := implUnseal_any S W (by unfold maxLen; omega)
    rw [HU.out] at h5
    have H5 : Hid (Calls Try.prog 15 #[.string S] W fun e w' => e = .returned (.agg #[.string t, .int .i64 0, .int .i64 0]) ∧ Below W.heap.size W w') := h5
    clear h5 hbX hck hfk hv HK
    refine H5.out.mono ?_
    rintro e w6 ⟨rfl, hb6⟩
    have hcells6 : ∀ j, j < (S.data.toList.set k (UInt8.ofNat cb.toNat)).length → w6.cell? ⟨w3.heap.size, j, none⟩ = some (.int .u8 ((S.data.toList.set k (UInt8.ofNat cb.toNat)).getD j 0).toNat) :=
      fun j hj => (hb6.cell hsX).trans (hcells j (by simpa using hj))
    have hcv2 := text_cells w6 w3.heap.size (t.size + 4) cap (S.data.toList.set k (UInt8.ofNat cb.toNat)) (by rw [List.length_set]; exact hSl) hcells6
    have hX5 : (unsealOf ⟨(S.data.toList.set k (UInt8.ofNat cb.toNat)).toArray⟩).2 = 5 :=
      unseal_turned hs (k := k) (y := UInt8.ofNat cb.toNat) (by rw [HS.out]) (by omega) (by rw [HS.out]; exact turned_ne _ _ _ hx.1 hx.2.1 (by rw [← HC0.out]; exact hx.2.2))
    have hXs : (⟨(S.data.toList.set k (UInt8.ofNat cb.toNat)).toArray⟩ : ByteArray).size = t.size + 4 := by
      rw [size_mk]; simp only [List.length_set]; exact hSl
    generalize (⟨(S.data.toList.set k (UInt8.ofNat cb.toNat)).toArray⟩ : ByteArray) = X at hcv2 hX5 hXs
    have h7 := implUnseal_any X w6 (by unfold maxLen; omega)
    generalize unsealOf X = z at h7 hX5
    obtain ⟨y, z⟩ := z
    obtain rfl : z = 5 := hX5
    have H7 : Hid (Calls Try.prog 15 #[.string X] w6 fun e w' => e = .returned (.agg #[.string y, .int .i64 0, .int .i64 5]) ∧ Below w6.heap.size w6 w') := h7
    have HB6 := Lib.hid (HBW.out.trans (hb6.mono HBW.out.size))
    clear h7 hcells hcells6 hb6 hsX hx hSl HCE HC0 HC4
    go_wp2_with fail
    refine H7.out.mono ?_
    rintro e w7 ⟨rfl, hb7⟩
    have hcf := code_field w7
    have HB7 := Lib.hid (HB6.out.trans (hb7.mono HB6.out.size))
    have H4 := Lib.hid (drawCrcMore_any a1 len1 cap1 w7 (codeAt_up HC.out HB7.out (Nat.le_refl _)))
    clear hb7
    go_wp2_with fail
    refine H4.out.mono ?_
    rintro e w8 ⟨c, u, rfl, hcl, hch, hu, hb8⟩
    have HB8 := Lib.hid (HB7.out.trans (hb8.mono HB7.out.size))
    have hus : u.size ≤ maxLen := by unfold maxLen; omega
    have hts : t.size ≤ maxLen := by have := HT.out; unfold maxLen; omega
    have htus : (t ++ u).size ≤ maxLen := by have := HT.out; rw [ByteArray.size_append]; unfold maxLen; omega
    have ht0 : t.size ≤ 20000 := HT.out
    clear hb8
    by_cases h8 : 8000 < t.size + u.size
    · have hd8 : decide (8000 < (t.size : Int) + (u.size : Int)) = true := by simp; omega
      go_wp2
      go_ret
      exact ⟨rfl, HB8.out⟩
    · have hd8 : decide (8000 < (t.size : Int) + (u.size : Int)) = false := by simp; omega
      have hq1 : (crcAns c u == crcAns c u) = true := by simp
      have hq2 : (crcAns (crcAns 0 t) u == crcAns 0 (t ++ u)) = true := by rw [crc_goes_on t u (by omega)]; simp
      go_wp2_with (first | (go_at_call 17; refine (implCrcMore_all _ _ _ hus).mono ?_; rintro e w' ⟨rfl, rfl⟩) | (go_at_call 18; refine (specCrcMore_all _ _ _ hus).mono ?_; rintro e w' ⟨rfl, rfl⟩) | (go_at_call 19; refine (implCrc_all _ _ hts).mono ?_; rintro e w' ⟨rfl, rfl⟩) | (go_at_call 19; refine (implCrc_all _ _ htus).mono ?_; rintro e w' ⟨rfl, rfl⟩))
      go_ret
      exact ⟨rfl, HB8.out⟩

set_option maxRecDepth 100000 in
theorem lifted (os : Os) (started : os.Started) (H : Type) (enc : TypeId × Value → H) :
    ReturnsInHanded {} Try.checked os 3 .any (Rows.fnSealSpec.pre6 enc Try.prog Try.f3 Rows.fnSealRow.domain false) (Rows.fnSealSpec.post enc Try.prog Try.f3 false true false false) := by
  refine returnsInHanded_of_change (C := Try.checked) own started (by kernel_rfl) Try.func3
    (ChangeSpec.witness6 (enc := enc) (C := Try.checked) false ⟨#[], #[.slice none 0 0, .slice none 0 0], []⟩ 8 (by kernel_rfl) (by kernel_rfl) (by kernel_rfl) (by kernel_rfl)) ?_
  intro W base args ds gs before hval0 hW hcnd _
  have hval : ∀ (j : Nat) t v, Try.f3.params[j]? = some t → args[j]? = some v → Value.okWide Try.prog W .any base t v := hval0
  have hW' := hW
  obtain ⟨p, q, hA0, hV, rfl, hfz, hnd⟩ := hW
  have hA : DataW.TrodAll enc Try.prog W 0 (fun _ => true) true Try.f3.params.toList args.toList ds p := hA0
  rw [Try.params3] at hA hval
  obtain ⟨v0, vs0, d0, ds0, p0, q0, hargs, rfl, rfl, h0, r0⟩ := trodAll_cons hA
  obtain ⟨v1, vs1, d1, ds1, p1, q1, rfl, rfl, rfl, h1, r1⟩ := trodAll_cons r0
  obtain ⟨rfl, rfl, rfl⟩ := trodAll_nil r1
  obtain rfl : args = #[v0, v1] := by cases args; simp_all
  obtain ⟨rfl, rfl⟩ := trodVars_none hV
  obtain ⟨a0, len0, cap0, rfl⟩ := okWide_slice Try.underlying22 (hval 0 22 v0 rfl rfl)
  have k0 := h0
  have lt0 : ∀ x ∈ p0, x.block < W.heap.size := by obtain ⟨m, hm⟩ := k0; exact DataW.trod_lt m _ _ _ hm
  obtain ⟨z0, w0⟩ : ∃ zs, IsRow .u8 W a0 len0 cap0 zs := by
    obtain ⟨fuel, hf⟩ := h0
    rcases open_ints Try.underlying22 Try.underlying5 (by kernel_rfl) hf with ⟨hcs, _⟩ | ⟨x, l, c, zs, hcs, _, hl, hm, hz, _, hcell, hwz⟩
    · simp [Value.cells] at hcs
      obtain ⟨rfl, rfl, rfl⟩ := hcs
      exact ⟨[], .inl ⟨rfl, rfl, rfl, rfl⟩⟩
    · simp [Value.cells] at hcs
      obtain ⟨rfl, rfl, rfl⟩ := hcs
      exact ⟨zs, .inr ⟨_, rfl, hl, hm, by simpa using hz, hcell, hwz⟩⟩
  obtain ⟨a1, len1, cap1, rfl⟩ := okWide_slice Try.underlying22 (hval 1 22 v1 rfl rfl)
  have k1 := h1
  have lt1 : ∀ x ∈ p1, x.block < W.heap.size := by obtain ⟨m, hm⟩ := k1; exact DataW.trod_lt m _ _ _ hm
  obtain ⟨z1, w1⟩ : ∃ zs, IsRow .u8 W a1 len1 cap1 zs := by
    obtain ⟨fuel, hf⟩ := h1
    rcases open_ints Try.underlying22 Try.underlying5 (by kernel_rfl) hf with ⟨hcs, _⟩ | ⟨x, l, c, zs, hcs, _, hl, hm, hz, _, hcell, hwz⟩
    · simp [Value.cells] at hcs
      obtain ⟨rfl, rfl, rfl⟩ := hcs
      exact ⟨[], .inl ⟨rfl, rfl, rfl, rfl⟩⟩
    · simp [Value.cells] at hcs
      obtain ⟨rfl, rfl, rfl⟩ := hcs
      exact ⟨zs, .inr ⟨_, rfl, hl, hm, by simpa using hz, hcell, hwz⟩⟩
  clear hA0 hval0
  refine (walk a0 len0 cap0 z0 a1 len1 cap1 z1 W w0 w1).mono fun e W' ⟨he, bel⟩ => ?_
  subst he
  exact ⟨_, rfl, _, _, _, [], _, [], hW', trodAll_mk1 (shut_bool Try.underlying4 _), (trodAll_cons_mk (Below.trod laidOut (by kernel_rfl) (of_decide_eq_true (by kernel_rfl)) k0 bel lt0) (trodAll_cons_mk (Below.trod laidOut (by kernel_rfl) (of_decide_eq_true (by kernel_rfl)) k1 bel lt1) trodAll_mk0)), rfl, bel.frame _, fun h => by cases h⟩

theorem over : Rows.fnSealRow.holds Try.pinned (OpenSpec.ofChange Rows.fnSealSpec) :=
  OpenClaim.holds_of_wide 3 Try.f3 rfl rfl rfl rfl rfl rfl rfl ⟨rfl, rfl, rfl, rfl, rfl⟩ rfl rfl rfl rfl rfl (by kernel_rfl) Try.func3 (by kernel_rfl)
    (of_decide_eq_true (by kernel_rfl)) (by unfold Func.isWrapper; first | (rw [if_pos (by decide +kernel)]; kernel_rfl) | (rw [if_neg (by decide +kernel)]; exact ⟨rfl, rfl⟩))
    (fun os started H enc _ => lifted os started H enc)

theorem proved : Rows.FnSealSaid := over
#print axioms proved
end Go.Proofs.Ytoabhpgiaieopaa.fnSeal
