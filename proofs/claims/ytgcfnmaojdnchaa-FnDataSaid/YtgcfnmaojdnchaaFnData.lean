/-
  FnData: for every input that the row speaks of, the law returns true, and its arguments read afterwards as before. No further conditions.
-/
import Derived.Test.YtgcfnmaojdnchaaRows
import Derived.Test.YtgcfnmaojdnchaaIv
import Derived.Test.YtgcfnmaojdnchaaIt
import Derived.Test.YtgcfnmaojdnchaaIw
import Derived.Test.YtgcfnmaojdnchaaDk
import Derived.Test.YtgcfnmaojdnchaaDl
import Derived.Test.YtgcfnmaojdnchaaDp
import Derived.Test.YtgcfnmaojdnchaaLa
import Derived.Deep.DeepCutAuto
import Derived.Deep.CutRange
import Derived.Deep.QuietTactic
import Derived.BigQuiet
import Derived.WalkKit
import Derived.ProofKit
import Derived.OpenShut
import Derived.ShutString
import Derived.ChangeOld
import Derived.Below
set_option maxRecDepth 100000
namespace Go.Proofs.Ytgcfnmaojdnchaa.fnData
open Go.ChangeShapes Go.WideShapes Go.ChangeAt Go.RowKit
open Go.ChangeMaps (open_string shut_string)
set_option linter.unusedVariables false

theorem own : ownKnob Try.prog.godebug = none := by kernel_rfl
theorem laidOut : laidOutB Try.prog = true := by kernel_rfl

/-- WHAT THE WALK IS TOLD OF A SLICE OF INTEGERS THAT CAME IN: it is nil; or it leads to a row of 'cap' cells, the numbers 'zs' (the first 'len' are its elements, the rest its spare room), each fitting its kind. -/
def IsRow (k : IntKind) (w : World) (a : Option Addr) (len cap : Nat) (zs : List Int) : Prop :=
  (a = none ∧ len = 0 ∧ cap = 0 ∧ zs = []) ∨
  ∃ x, a = some x ∧ len ≤ cap ∧ cap ≤ maxLen ∧ zs.length = cap ∧ (∀ i, i < zs.length → w.cell? (x.add i) = some (.int k (zs.getD i 0))) ∧ ∀ n ∈ zs, (Lit.int k n).wf = true

set_option maxHeartbeats 60000000 in
theorem walk (a0 : Option Addr) (len0 cap0 : Nat) (z0 : List Int) (a1 : Option Addr) (len1 cap1 : Nat) (z1 : List Int) (w : World) (w0 : IsRow .u8 w a0 len0 cap0 z0) (w1 : IsRow .u8 w a1 len1 cap1 z1) :
    Calls Try.prog 3 #[.slice a0 len0 cap0, .slice a1 len1 cap1] w fun e w' => e = .returned (.bool true) ∧ Below w.heap.size w w' := by
  have hc0 : CodeAt w w.heap.size a0 len0 cap0 := by
    rcases w0 with ⟨rfl, rfl, rfl, _⟩ | ⟨x, rfl, hl, hm, hz, hcell, hwf⟩
    · exact ⟨by omega, by unfold maxLen; omega, fun h => by omega⟩
    · exact codeAt_of hl hm hz hcell hwf
  have hc1 : CodeAt w w.heap.size a1 len1 cap1 := by
    rcases w1 with ⟨rfl, rfl, rfl, _⟩ | ⟨x, rfl, hl, hm, hz, hcell, hwf⟩
    · exact ⟨by omega, by unfold maxLen; omega, fun h => by omega⟩
    · exact codeAt_of hl hm hz hcell hwf
  clear w0 w1
  by_cases hb0 : 1048576 < len0
  · have hd0 : decide (1048576 < (len0 : Int)) = true := by simp; omega
    go_enter Try.func3, Try.ntmps3
    go_wp2
    go_ret
    exact ⟨rfl, Below.refl _ _⟩
  have hd0 : decide (1048576 < (len0 : Int)) = false := by simp; omega
  by_cases hb1 : 1048576 < len1
  · have hd1 : decide (1048576 < (len1 : Int)) = true := by simp; omega
    go_enter Try.func3, Try.ntmps3
    go_wp2
    go_ret
    exact ⟨rfl, Below.refl _ _⟩
  have hd1 : decide (1048576 < (len1 : Int)) = false := by simp; omega
  have HD := Lib.hid (drawRecordBytes_any a0 len0 cap0 w hc0)
  have HC0 := Lib.hid hc0
  have HC1 := Lib.hid hc1
  clear hc0 hc1
  go_enter Try.func3, Try.ntmps3
  go_wp2_with fail
  refine HD.out.mono ?_
  rintro e w1 ⟨r, u, rfl, hwf, hat, hl6, hb1⟩
  obtain ⟨ua, ucap, rfl, hlc, hcm⟩ := hat.len
  have HB1 := Lib.hid hb1
  have HR1 := Lib.hid hat
  have hs1 := hb1.size
  have qt := fun W (h : Below w1.heap.size w1 W) => implRecordBytes_any r _ W (LAt.up (LAt.below hat h) h.size)
  have qs := fun W (h : Below w1.heap.size w1 W) => specRecordBytes_any r _ W (LAt.up (LAt.below hat h) h.size)
  have qri := fun W (h : Below w1.heap.size w1 W) => implRecordRight_any r _ W (LAt.up (LAt.below hat h) h.size)
  have qrs := fun W (h : Below w1.heap.size w1 W) => specRecordRight_any r _ W (LAt.up (LAt.below hat h) h.size)
  obtain ⟨T, hT⟩ : ∃ T, T = rbOf r := ⟨_, rfl⟩
  obtain ⟨RR, hRR⟩ : ∃ RR, RR = rcRight r := ⟨_, rfl⟩
  rw [← hT] at qt qs
  rw [← hRR] at qri qrs
  have HT := Lib.hid hT
  have HRR := Lib.hid hRR
  obtain ⟨nr, ar, ⟨ih, il⟩, args⟩ := r
  simp only at hl6 hlc qt qs qri qrs
  have QT := Lib.hid qt
  have QS := Lib.hid qs
  have QRI := Lib.hid qri
  have QRS := Lib.hid qrs
  clear hb1 hat qt qs qri qrs hT hRR hwf HD
  go_wp2_with fail
  refine (QT.out _ ((Below.refl _ _).alloc (Nat.le_refl _) _)).mono ?_
  rintro e w2 ⟨rfl, hb2⟩
  have HRV := Lib.hid (below_row hb2 (heap_alloc_new w1 (.cells #[.int .i64 nr, .int .i64 ar, .int .i64 ih, .int .i64 il, .slice ua args.length ucap] 27)))
  have HW2 := Lib.hid (box_below hb2)
  have hs2 : w1.heap.size < w2.heap.size := row_here HRV.out
  clear hb2
  go_wp2_with fail
  refine (drawRecordRead_any a1 len1 cap1 w2 (codeAt_up HC1.out (HB1.out.trans (HW2.out.mono hs1)) (Nat.le_refl _))).mono ?_
  rintro e w3 ⟨U, rfl, hU, hb3⟩
  have HRV3 := Lib.hid (below_row hb3 HRV.out)
  have HW3 := Lib.hid (HW2.out.trans (hb3.mono (by omega)))
  have hs3 := hb3.size
  have hqi := implRecordRead_any U
  have hqs := specRecordRead_any U
  have hlx := rcRead_len U
  have hwx := rcRead_wf U
  have hback : rcReadC U = 0 → rbOf (rcRead U) = U := rb_back
  generalize rcRead U = x at *
  generalize rcReadC U = xc at *
  obtain ⟨xnr, xar, ⟨xih, xil⟩, xargs⟩ := x
  simp only at hlx hwx
  have QI := Lib.hid hqi
  have QX := Lib.hid hqs
  have HWX := Lib.hid hwx
  have HBK := Lib.hid hback
  clear hqi hqs hwx hback hb3
  go_wp2_with fail
  refine (QI.out _ (by unfold maxLen; omega)).mono ?_
  rintro e w4 ⟨ux, rfl, hox, hb4⟩
  obtain ⟨uxa, uxcap, rfl⟩ := OwnL.slice hox
  have HX4 := Lib.hid (OwnL.lAt wdS hox HWX.out)
  have HRV4 := Lib.hid (below_row hb4 HRV3.out)
  have HW4 := Lib.hid (HW3.out.trans (hb4.mono (by omega)))
  have hs4 := hb4.size
  clear hox hb4
  go_wp2_with fail
  refine (QX.out _ (by unfold maxLen; omega)).mono ?_
  rintro e w5 ⟨uy, rfl, hoy, hb5⟩
  obtain ⟨uya, uycap, rfl⟩ := OwnL.slice hoy
  have HY5 := Lib.hid (OwnL.lAt wdS hoy HWX.out)
  have HX5 := Lib.hid (LAt.up (LAt.below HX4.out hb5) hb5.size)
  have HRV5 := Lib.hid (below_row hb5 HRV4.out)
  have HW5 := Lib.hid (HW4.out.trans (hb5.mono (by omega)))
  have hs5 := hb5.size
  clear hoy hb5
  go_wp2_with fail
  have hrw5 := rows2 (Below.refl _ ((w5.alloc (.cells #[.int .i64 xnr, .int .i64 xar, .int .i64 xih, .int .i64 xil, .slice uxa xargs.length uxcap, .int .i64 xc] 32)).alloc (.cells #[.int .i64 xnr, .int .i64 xar, .int .i64 xih, .int .i64 xil, .slice uya xargs.length uycap, .int .i64 xc] 32)))
  refine (drawWordLess_any a1 len1 cap1 ((w5.alloc (.cells #[.int .i64 xnr, .int .i64 xar, .int .i64 xih, .int .i64 xil, .slice uxa xargs.length uxcap, .int .i64 xc] 32)).alloc (.cells #[.int .i64 xnr, .int .i64 xar, .int .i64 xih, .int .i64 xil, .slice uya xargs.length uycap, .int .i64 xc] 32)) (codeAt_up HC1.out ((HB1.out.trans (HW5.out.mono hs1)).trans (hrw5.2.2.1.mono (by omega))) (Nat.le_refl _))).mono ?_
  rintro e w6 ⟨ah, al, bh, bl, rfl, hb6⟩
  obtain ⟨rx, ry, hbx, hs6⟩ := rows2 hb6
  have HX6 := Lib.hid (LAt.up (LAt.below HX5.out hbx) hbx.size)
  have HY6 := Lib.hid (LAt.up (LAt.below HY5.out hbx) hbx.size)
  have HRV6 := Lib.hid (below_row hbx HRV5.out)
  have HRX6 := Lib.hid rx
  have HRY6 := Lib.hid ry
  have HW6 := Lib.hid (HW5.out.trans (hbx.mono (by omega)))
  clear hb6 hbx rx ry hrw5
  have qand := fun W => implWordAnd_any ah al bh bl W
  have qands := fun W => specWordAnd_any ah al bh bl W
  obtain ⟨c, hc⟩ : ∃ c, c = wdAnd ⟨ah, al⟩ ⟨bh, bl⟩ := ⟨_, rfl⟩
  rw [← hc] at qand qands
  have HCC := Lib.hid hc
  obtain ⟨ch, cl⟩ := c
  simp only at qand qands
  have QA := Lib.hid qand
  have QAS := Lib.hid qands
  clear qand qands hc
  go_wp2_with fail
  refine (QA.out _).mono ?_
  rintro e w7 ⟨rfl, hb7⟩
  obtain ⟨ra, rb, hbx, hs7⟩ := rows2 hb7
  have HX7 := Lib.hid (LAt.up (LAt.below HX6.out hbx) hbx.size)
  have HY7 := Lib.hid (LAt.up (LAt.below HY6.out hbx) hbx.size)
  have HRV7 := Lib.hid (below_row hbx HRV6.out)
  have HRX7 := Lib.hid (below_row hbx HRX6.out)
  have HRY7 := Lib.hid (below_row hbx HRY6.out)
  have HRA7 := Lib.hid ra
  have HRB7 := Lib.hid rb
  have HW7 := Lib.hid (HW6.out.trans (hbx.mono (by omega)))
  clear hb7 hbx ra rb
  go_wp2_with fail
  refine (drawLoad_any a0 len0 cap0 (w7.alloc (.cells #[.int .i64 ch, .int .i64 cl] 24)) (codeAt_up HC0.out ((HB1.out.trans (HW7.out.mono hs1)).trans ((Below.refl _ _).alloc (by omega) _)) (Nat.le_refl _))).mono ?_
  rintro e w8 ⟨S, at_, rfl, hS, hat0, hat1, hb8⟩
  have hbx : Below w7.heap.size w7 w8 := box_below hb8
  have HX8 := Lib.hid (LAt.up (LAt.below HX7.out hbx) hbx.size)
  have HY8 := Lib.hid (LAt.up (LAt.below HY7.out hbx) hbx.size)
  have HRV8 := Lib.hid (below_row hbx HRV7.out)
  have HRX8 := Lib.hid (below_row hbx HRX7.out)
  have HRY8 := Lib.hid (below_row hbx HRY7.out)
  have HRA8 := Lib.hid (below_row hbx HRA7.out)
  have HRB8 := Lib.hid (below_row hbx HRB7.out)
  have HRC8 := Lib.hid (below_row hb8 (heap_alloc_new w7 (.cells #[.int .i64 ch, .int .i64 cl] 24)))
  have HW8 := Lib.hid (HW7.out.trans (hbx.mono (by omega)))
  have hs8 : w7.heap.size < w8.heap.size := row_here HRC8.out
  clear hb8 hbx HX7 HY7 HRV7 HRX7 HRY7 HRA7 HRB7 HX6 HY6 HRV6 HRX6 HRY6 HX5 HY5 HRV5 HX4 HRV4 HRV3 HRV HW2 HW3 HW4 HW5 HW6 HW7
  -- REGION
  have hkeep : ∀ W : World, Below w8.heap.size w8 W → (W.cell? ⟨w1.heap.size, 0, none⟩ = some (.int .i64 nr) ∧ W.cell? ⟨w1.heap.size, 1, none⟩ = some (.int .i64 ar) ∧ W.cell? ⟨w1.heap.size, 2, none⟩ = some (.int .i64 ih) ∧ W.cell? ⟨w1.heap.size, 3, none⟩ = some (.int .i64 il) ∧ W.cell? ⟨w1.heap.size, 4, none⟩ = some (.slice ua (args.length) ucap) ∧ W.cell? ⟨w5.heap.size, 0, none⟩ = some (.int .i64 xnr) ∧ W.cell? ⟨w5.heap.size, 1, none⟩ = some (.int .i64 xar) ∧ W.cell? ⟨w5.heap.size, 2, none⟩ = some (.int .i64 xih) ∧ W.cell? ⟨w5.heap.size, 3, none⟩ = some (.int .i64 xil) ∧ W.cell? ⟨w5.heap.size, 4, none⟩ = some (.slice uxa (xargs.length) uxcap) ∧ W.cell? ⟨w5.heap.size, 5, none⟩ = some (.int .i64 xc) ∧ W.cell? ⟨w5.heap.size + 1, 0, none⟩ = some (.int .i64 xnr) ∧ W.cell? ⟨w5.heap.size + 1, 1, none⟩ = some (.int .i64 xar) ∧ W.cell? ⟨w5.heap.size + 1, 2, none⟩ = some (.int .i64 xih) ∧ W.cell? ⟨w5.heap.size + 1, 3, none⟩ = some (.int .i64 xil) ∧ W.cell? ⟨w5.heap.size + 1, 4, none⟩ = some (.slice uya (xargs.length) uycap) ∧ W.cell? ⟨w5.heap.size + 1, 5, none⟩ = some (.int .i64 xc) ∧ W.cell? ⟨w6.heap.size, 0, none⟩ = some (.int .i64 ah) ∧ W.cell? ⟨w6.heap.size, 1, none⟩ = some (.int .i64 al) ∧ W.cell? ⟨w6.heap.size + 1, 0, none⟩ = some (.int .i64 bh) ∧ W.cell? ⟨w6.heap.size + 1, 1, none⟩ = some (.int .i64 bl) ∧ W.cell? ⟨w7.heap.size, 0, none⟩ = some (.int .i64 ch) ∧ W.cell? ⟨w7.heap.size, 1, none⟩ = some (.int .i64 cl)) := fun W hb => ⟨row_cell (below_row hb HRV8.out) 0, row_cell (below_row hb HRV8.out) 1, row_cell (below_row hb HRV8.out) 2, row_cell (below_row hb HRV8.out) 3, row_cell (below_row hb HRV8.out) 4, row_cell (below_row hb HRX8.out) 0, row_cell (below_row hb HRX8.out) 1, row_cell (below_row hb HRX8.out) 2, row_cell (below_row hb HRX8.out) 3, row_cell (below_row hb HRX8.out) 4, row_cell (below_row hb HRX8.out) 5, row_cell (below_row hb HRY8.out) 0, row_cell (below_row hb HRY8.out) 1, row_cell (below_row hb HRY8.out) 2, row_cell (below_row hb HRY8.out) 3, row_cell (below_row hb HRY8.out) 4, row_cell (below_row hb HRY8.out) 5, row_cell (below_row hb HRA8.out) 0, row_cell (below_row hb HRA8.out) 1, row_cell (below_row hb HRB8.out) 0, row_cell (below_row hb HRB8.out) 1, row_cell (below_row hb HRC8.out) 0, row_cell (below_row hb HRC8.out) 1⟩
  have HK := Lib.hid hkeep
  have hup : ∀ W : World, Below w8.heap.size w8 W → Below w1.heap.size w1 W := fun W h => HW8.out.trans (h.mono (by omega))
  have HUP := Lib.hid hup
  have qlw := fun W (h : Below w8.heap.size w8 W) => lwRecord_same ⟨xnr, xar, ⟨xih, xil⟩, xargs⟩ _ _ W (LAt.up (LAt.below HX8.out h) h.size) (LAt.up (LAt.below HY8.out h) h.size)
  simp only [rcV] at qlw
  have QLW := Lib.hid qlw
  have qli := fun W => implWordLess_any ah al bh bl W
  have qls := fun W => specWordLess_any ah al bh bl W
  have qwi := fun W => implWordRight_any ah al W
  have qws := fun W => specWordRight_any ah al W
  have qdi := fun W => implLoad_any S at_ W (by unfold maxLen; omega) (by omega) (by omega)
  have qds := fun W => specLoad_any S at_ W (by unfold maxLen; omega) (by omega) (by omega)
  obtain ⟨LB, hLB⟩ : ∃ b, b = wdLess ⟨ah, al⟩ ⟨bh, bl⟩ := ⟨_, rfl⟩
  obtain ⟨WA, hWA⟩ : ∃ b, b = wdRight ⟨ah, al⟩ := ⟨_, rfl⟩
  rw [← hLB] at qli qls
  rw [← hWA] at qwi qws
  generalize loadB S at_ = LV at *
  have QLI := Lib.hid qli
  have QLS := Lib.hid qls
  have QWI := Lib.hid qwi
  have QWS := Lib.hid qws
  have QDI := Lib.hid qdi
  have QDS := Lib.hid qds
  have HLB := Lib.hid hLB
  have HWA := Lib.hid hWA
  have heqc := fun W => eqWordAny ch cl ch cl W
  simp only [decide_true] at heqc
  have hqT : (T.toList == T.toList) = true := str_beq_true rfl
  have hqx : (xc != xc) = false := by simp
  have hqv : (LV != LV) = false := by simp
  have hqr : (RR != RR) = false := by simp
  have hql : (LB != LB) = false := by simp
  have hqw : (WA != WA) = false := by simp
  clear hkeep hup qlw qli qls qwi qws qdi qds hLB hWA
  obtain ⟨c0, c1, c2, c3, c4, c5, c6, c7, c8, c9, c10, c11, c12, c13, c14, c15, c16, c17, c18, c19, c20, c21, c22⟩ := HK.out _ (Below.refl _ _)
  have hbw0 : Below w8.heap.size w8 w8.drew := (Below.refl _ _).drew
  go_upto_region 10 with fail
  go_cut [105] from 48 to 104 (fun b ws => b = .bool false ∧ Below w8.heap.size w8 ws)
  case first =>
    go_wp2_with fail
    go_region_held3 (fun w' => w'.cell? ⟨w1.heap.size, 0, none⟩ = some (.int .i64 nr) ∧ w'.cell? ⟨w1.heap.size, 1, none⟩ = some (.int .i64 ar) ∧ w'.cell? ⟨w1.heap.size, 2, none⟩ = some (.int .i64 ih) ∧ w'.cell? ⟨w1.heap.size, 3, none⟩ = some (.int .i64 il) ∧ w'.cell? ⟨w1.heap.size, 4, none⟩ = some (.slice ua (args.length) ucap) ∧ w'.cell? ⟨w5.heap.size, 0, none⟩ = some (.int .i64 xnr) ∧ w'.cell? ⟨w5.heap.size, 1, none⟩ = some (.int .i64 xar) ∧ w'.cell? ⟨w5.heap.size, 2, none⟩ = some (.int .i64 xih) ∧ w'.cell? ⟨w5.heap.size, 3, none⟩ = some (.int .i64 xil) ∧ w'.cell? ⟨w5.heap.size, 4, none⟩ = some (.slice uxa (xargs.length) uxcap) ∧ w'.cell? ⟨w5.heap.size, 5, none⟩ = some (.int .i64 xc) ∧ w'.cell? ⟨w5.heap.size + 1, 0, none⟩ = some (.int .i64 xnr) ∧ w'.cell? ⟨w5.heap.size + 1, 1, none⟩ = some (.int .i64 xar) ∧ w'.cell? ⟨w5.heap.size + 1, 2, none⟩ = some (.int .i64 xih) ∧ w'.cell? ⟨w5.heap.size + 1, 3, none⟩ = some (.int .i64 xil) ∧ w'.cell? ⟨w5.heap.size + 1, 4, none⟩ = some (.slice uya (xargs.length) uycap) ∧ w'.cell? ⟨w5.heap.size + 1, 5, none⟩ = some (.int .i64 xc) ∧ w'.cell? ⟨w6.heap.size, 0, none⟩ = some (.int .i64 ah) ∧ w'.cell? ⟨w6.heap.size, 1, none⟩ = some (.int .i64 al) ∧ w'.cell? ⟨w6.heap.size + 1, 0, none⟩ = some (.int .i64 bh) ∧ w'.cell? ⟨w6.heap.size + 1, 1, none⟩ = some (.int .i64 bl) ∧ w'.cell? ⟨w7.heap.size, 0, none⟩ = some (.int .i64 ch) ∧ w'.cell? ⟨w7.heap.size, 1, none⟩ = some (.int .i64 cl))
      (first | go_keep | exact HK.out _ hbw10 | exact HK.out _ hbw9 | exact HK.out _ hbw8 | exact HK.out _ hbw7 | exact HK.out _ hbw6 | exact HK.out _ hbw5 | exact HK.out _ hbw4 | exact HK.out _ hbw3 | exact HK.out _ hbw2 | exact HK.out _ hbw1 | exact HK.out _ hbw0)
      (first
        | (go_at_call 19; (with_reducible refine (QS.out _ (HUP.out _ hbw0)).mono ?_); rintro e v1 ⟨rfl, hb1⟩; have hbw1 := hbw0.trans (hb1.mono hbw0.size))
        | (go_at_call 20; (with_reducible refine (QLW.out _ hbw1).mono ?_); rintro e v2 ⟨rfl, hb2⟩; have hbw2 := hbw1.trans (hb2.mono hbw1.size))
        | (go_at_call 21; (with_reducible refine (QLI.out _).mono ?_); rintro e v3 ⟨rfl, hb3⟩; have hbw3 := hbw2.trans (hb3.mono hbw2.size))
        | (go_at_call 22; (with_reducible refine (QLS.out _).mono ?_); rintro e v4 ⟨rfl, hb4⟩; have hbw4 := hbw3.trans (hb4.mono hbw3.size))
        | (go_at_call 23; (with_reducible refine (QAS.out _).mono ?_); rintro e v5 ⟨rfl, hb5⟩; have hbw5 := hbw4.trans (hb5.mono hbw4.size))
        | (go_at_call 24; (with_reducible refine (QDI.out _).mono ?_); rintro e v' ⟨rfl, rfl⟩)
        | (go_at_call 25; (with_reducible refine (QDS.out _).mono ?_); rintro e v' ⟨rfl, rfl⟩)
        | (go_at_call 26; (with_reducible refine (QRI.out _ (HUP.out _ hbw5)).mono ?_); rintro e v6 ⟨rfl, hb6⟩; have hbw6 := hbw5.trans (hb6.mono hbw5.size))
        | (go_at_call 27; (with_reducible refine (QRS.out _ (HUP.out _ hbw6)).mono ?_); rintro e v7 ⟨rfl, hb7⟩; have hbw7 := hbw6.trans (hb7.mono hbw6.size))
        | (go_at_call 28; (with_reducible refine (QWI.out _).mono ?_); rintro e v8 ⟨rfl, hb8⟩; have hbw8 := hbw7.trans (hb8.mono hbw7.size))
        | (go_at_call 29; (with_reducible refine (QWS.out _).mono ?_); rintro e v9 ⟨rfl, hb9⟩; have hbw9 := hbw8.trans (hb9.mono hbw8.size)))
    go_wp2_with fail
    go_meet
    exact ⟨rfl, hbw9⟩
  case rest =>
  obtain ⟨rfl, hbw⟩ := hcut
  have HBW := Lib.hid hbw
  obtain ⟨c0, c1, c2, c3, c4, c5, c6, c7, c8, c9, c10, c11, c12, c13, c14, c15, c16, c17, c18, c19, c20, c21, c22⟩ := HK.out _ hbw
  clear hbw hbw0
  have qbx := fun W (h : Below w8.heap.size w8 W) => implRecordBytes_any ⟨xnr, xar, ⟨xih, xil⟩, xargs⟩ _ W (LAt.up (LAt.below HX8.out h) h.size)
  simp only [rcV] at qbx
  by_cases hx0 : xc = 0
  · have hx1 : (xc == 0) = true := by simpa using hx0
    rw [HBK.out hx0] at qbx
    have QBX := Lib.hid qbx
    have hqU : (U.toList == U.toList) = true := str_beq_true rfl
    clear qbx hx0
    go_wp2_with fail
    refine (QBX.out _ HBW.out).mono ?_
    rintro e v1 ⟨rfl, hb1⟩
    have HB9 := Lib.hid (HBW.out.trans (hb1.mono HBW.out.size))
    clear hb1 c0 c1 c2 c3 c4 c5 c6 c7 c8 c9 c10 c11 c12 c13 c14 c15 c16 c17 c18 c19 c20 c21 c22
    obtain ⟨c0, c1, c2, c3, c4, c5, c6, c7, c8, c9, c10, c11, c12, c13, c14, c15, c16, c17, c18, c19, c20, c21, c22⟩ := HK.out _ HB9.out
    go_wp2_with fail
    go_cut [149] from 116 to 148 (fun b ws => b = .bool false ∧ Below w8.heap.size w8 ws)
    case first =>
      have qwb := fun W => specWordRight_any bh bl W
      obtain ⟨WB, hWB⟩ : ∃ x, x = wdRight ⟨bh, bl⟩ := ⟨_, rfl⟩
      rw [← hWB] at qwb
      have QWB := Lib.hid qwb
      have hbw0 := HB9.out.drew
      clear qwb
      cases WA with
      | false =>
        clear hWB
        go_wp2_with fail
        refine wp_region_noPanic ?_
        refine wp_region_held_drew (S := fun w' => w'.cell? ⟨w1.heap.size, 0, none⟩ = some (.int .i64 nr) ∧ w'.cell? ⟨w1.heap.size, 1, none⟩ = some (.int .i64 ar) ∧ w'.cell? ⟨w1.heap.size, 2, none⟩ = some (.int .i64 ih) ∧ w'.cell? ⟨w1.heap.size, 3, none⟩ = some (.int .i64 il) ∧ w'.cell? ⟨w1.heap.size, 4, none⟩ = some (.slice ua (args.length) ucap) ∧ w'.cell? ⟨w5.heap.size, 0, none⟩ = some (.int .i64 xnr) ∧ w'.cell? ⟨w5.heap.size, 1, none⟩ = some (.int .i64 xar) ∧ w'.cell? ⟨w5.heap.size, 2, none⟩ = some (.int .i64 xih) ∧ w'.cell? ⟨w5.heap.size, 3, none⟩ = some (.int .i64 xil) ∧ w'.cell? ⟨w5.heap.size, 4, none⟩ = some (.slice uxa (xargs.length) uxcap) ∧ w'.cell? ⟨w5.heap.size, 5, none⟩ = some (.int .i64 xc) ∧ w'.cell? ⟨w5.heap.size + 1, 0, none⟩ = some (.int .i64 xnr) ∧ w'.cell? ⟨w5.heap.size + 1, 1, none⟩ = some (.int .i64 xar) ∧ w'.cell? ⟨w5.heap.size + 1, 2, none⟩ = some (.int .i64 xih) ∧ w'.cell? ⟨w5.heap.size + 1, 3, none⟩ = some (.int .i64 xil) ∧ w'.cell? ⟨w5.heap.size + 1, 4, none⟩ = some (.slice uya (xargs.length) uycap) ∧ w'.cell? ⟨w5.heap.size + 1, 5, none⟩ = some (.int .i64 xc) ∧ w'.cell? ⟨w6.heap.size, 0, none⟩ = some (.int .i64 ah) ∧ w'.cell? ⟨w6.heap.size, 1, none⟩ = some (.int .i64 al) ∧ w'.cell? ⟨w6.heap.size + 1, 0, none⟩ = some (.int .i64 bh) ∧ w'.cell? ⟨w6.heap.size + 1, 1, none⟩ = some (.int .i64 bl) ∧ w'.cell? ⟨w7.heap.size, 0, none⟩ = some (.int .i64 ch) ∧ w'.cell? ⟨w7.heap.size, 1, none⟩ = some (.int .i64 cl)) (by kernel_rfl) ?_ (fun hHeld => ?_)
        · exact HK.out _ hbw0
        refine wpAnyH_take (i := 0) (v := ?qv1) rfl (by kernel_rfl) (by kernel_rfl) (by kernel_rfl) (fun _ _ _ h => h) (Or.inl ⟨by rfl, ?qhy1⟩) (by assumption) ?qrest1
        case qhy1 =>
          intro W hSw
          try dsimp only at hSw
          go_simp
          try with_reducible rfl
        try simp only [Act.put, List.getElem_toArray, List.getElem_cons_zero, List.setIfInBounds_toArray, List.set_cons_zero, List.set_cons_succ]
        refine wpAnyH_ready (rs := [1]) (by kernel_rfl) (by simp) ?_
        refine AllReadyH.cons rfl (fun K hK => ?_) AllReadyH.nil
        go_simp
        refine (QWS.out _).mono ?_
        rintro e v1 ⟨rfl, hb1⟩
        have hbw1 := hbw0.trans (hb1.mono hbw0.size)
        go_wp2_with fail
        refine hK.out _ _ ?_ (fun hHeld => ?_)
        · exact HK.out _ hbw1
        clear hK K hb1
        try simp only [Act.put, List.getElem_toArray, List.getElem_cons_zero, List.getElem_cons_succ, List.setIfInBounds_toArray, List.set_cons_zero, List.set_cons_succ]
        refine wpAnyH_take (i := 2) (v := ?qv2) rfl (by kernel_rfl) (by kernel_rfl) (by kernel_rfl) (fun _ _ _ h => h) (Or.inl ⟨by rfl, ?qhy2⟩) (by assumption) ?qrest2
        case qhy2 =>
          intro W hSw
          try dsimp only at hSw
          go_simp
          try with_reducible rfl
        try simp only [Act.put, List.getElem_toArray, List.getElem_cons_zero, List.getElem_cons_succ, List.setIfInBounds_toArray, List.set_cons_zero, List.set_cons_succ]
        refine wpAnyH_take (i := 3) (v := undef) rfl (by kernel_rfl) (by kernel_rfl) (by kernel_rfl) (fun _ _ _ h => h) (Or.inr ⟨by rfl, rfl⟩) (by assumption) ?_
        try simp only [Act.put, List.getElem_toArray, List.getElem_cons_zero, List.getElem_cons_succ, List.setIfInBounds_toArray, List.set_cons_zero, List.set_cons_succ]
        refine wpAnyH_take (i := 4) (v := undef) rfl (by kernel_rfl) (by kernel_rfl) (by kernel_rfl) (fun _ _ _ h => h) (Or.inr ⟨by rfl, rfl⟩) (by assumption) ?_
        try simp only [Act.put, List.getElem_toArray, List.getElem_cons_zero, List.getElem_cons_succ, List.setIfInBounds_toArray, List.set_cons_zero, List.set_cons_succ]
        refine wpAnyH_take (i := 5) (v := ?qv3) rfl (by kernel_rfl) (by kernel_rfl) (by kernel_rfl) (fun _ _ _ h => h) (Or.inl ⟨by rfl, ?qhy3⟩) (by assumption) ?qrest3
        case qhy3 =>
          intro W hSw
          try dsimp only at hSw
          go_simp
          try with_reducible rfl
        try simp only [Act.put, List.getElem_toArray, List.getElem_cons_zero, List.getElem_cons_succ, List.setIfInBounds_toArray, List.set_cons_zero, List.set_cons_succ]
        refine wpAnyH_take (i := 6) (v := ?qv4) rfl (by kernel_rfl) (by kernel_rfl) (by kernel_rfl) (fun _ _ _ h => h) (Or.inl ⟨by rfl, ?qhy4⟩) (by assumption) ?qrest4
        case qhy4 =>
          intro W hSw
          try dsimp only at hSw
          go_simp
          try with_reducible rfl
        try simp only [Act.put, List.getElem_toArray, List.getElem_cons_zero, List.getElem_cons_succ, List.setIfInBounds_toArray, List.set_cons_zero, List.set_cons_succ]
        refine wpAnyH_take (i := 7) (v := undef) rfl (by kernel_rfl) (by kernel_rfl) (by kernel_rfl) (fun _ _ _ h => h) (Or.inr ⟨by rfl, rfl⟩) (by assumption) ?_
        try simp only [Act.put, List.getElem_toArray, List.getElem_cons_zero, List.getElem_cons_succ, List.setIfInBounds_toArray, List.set_cons_zero, List.set_cons_succ]
        refine wpAnyH_take (i := 8) (v := undef) rfl (by kernel_rfl) (by kernel_rfl) (by kernel_rfl) (fun _ _ _ h => h) (Or.inr ⟨by rfl, rfl⟩) (by assumption) ?_
        try simp only [Act.put, List.getElem_toArray, List.getElem_cons_zero, List.getElem_cons_succ, List.setIfInBounds_toArray, List.set_cons_zero, List.set_cons_succ]
        refine wpAnyH_take (i := 9) (v := undef) rfl (by kernel_rfl) (by kernel_rfl) (by kernel_rfl) (fun _ _ _ h => h) (Or.inr ⟨by rfl, rfl⟩) (by assumption) ?_
        try simp only [Act.put, List.getElem_toArray, List.getElem_cons_zero, List.getElem_cons_succ, List.setIfInBounds_toArray, List.set_cons_zero, List.set_cons_succ]
        refine wpAnyH_take (i := 10) (v := undef) rfl (by kernel_rfl) (by kernel_rfl) (by kernel_rfl) (fun _ _ _ h => h) (Or.inr ⟨by rfl, rfl⟩) (by assumption) ?_
        try simp only [Act.put, List.getElem_toArray, List.getElem_cons_zero, List.getElem_cons_succ, List.setIfInBounds_toArray, List.set_cons_zero, List.set_cons_succ]
        refine wpAnyH_take (i := 11) (v := undef) rfl (by kernel_rfl) (by kernel_rfl) (by kernel_rfl) (fun _ _ _ h => h) (Or.inr ⟨by rfl, rfl⟩) (by assumption) ?_
        try simp only [Act.put, List.getElem_toArray, List.getElem_cons_zero, List.getElem_cons_succ, List.setIfInBounds_toArray, List.set_cons_zero, List.set_cons_succ]
        refine wpAnyH_take (i := 12) (v := undef) rfl (by kernel_rfl) (by kernel_rfl) (by kernel_rfl) (fun _ _ _ h => h) (Or.inr ⟨by rfl, rfl⟩) (by assumption) ?_
        try simp only [Act.put, List.getElem_toArray, List.getElem_cons_zero, List.getElem_cons_succ, List.setIfInBounds_toArray, List.set_cons_zero, List.set_cons_succ]
        refine wpAnyH_take (i := 13) (v := undef) rfl (by kernel_rfl) (by kernel_rfl) (by kernel_rfl) (fun _ _ _ h => h) (Or.inr ⟨by rfl, rfl⟩) (by assumption) ?_
        try simp only [Act.put, List.getElem_toArray, List.getElem_cons_zero, List.getElem_cons_succ, List.setIfInBounds_toArray, List.set_cons_zero, List.set_cons_succ]
        refine wpAnyH_take (i := 14) (v := undef) rfl (by kernel_rfl) (by kernel_rfl) (by kernel_rfl) (fun _ _ _ h => h) (Or.inr ⟨by rfl, rfl⟩) (by assumption) ?_
        try simp only [Act.put, List.getElem_toArray, List.getElem_cons_zero, List.getElem_cons_succ, List.setIfInBounds_toArray, List.set_cons_zero, List.set_cons_succ]
        refine wpAnyH_take (i := 15) (v := undef) rfl (by kernel_rfl) (by kernel_rfl) (by kernel_rfl) (fun _ _ _ h => h) (Or.inr ⟨by rfl, rfl⟩) (by assumption) ?_
        try simp only [Act.put, List.getElem_toArray, List.getElem_cons_zero, List.getElem_cons_succ, List.setIfInBounds_toArray, List.set_cons_zero, List.set_cons_succ]
        refine wpAnyH_take (i := 16) (v := undef) rfl (by kernel_rfl) (by kernel_rfl) (by kernel_rfl) (fun _ _ _ h => h) (Or.inr ⟨by rfl, rfl⟩) (by assumption) ?_
        try simp only [Act.put, List.getElem_toArray, List.getElem_cons_zero, List.getElem_cons_succ, List.setIfInBounds_toArray, List.set_cons_zero, List.set_cons_succ]
        refine wpAnyH_take (i := 17) (v := undef) rfl (by kernel_rfl) (by kernel_rfl) (by kernel_rfl) (fun _ _ _ h => h) (Or.inr ⟨by rfl, rfl⟩) (by assumption) ?_
        try simp only [Act.put, List.getElem_toArray, List.getElem_cons_zero, List.getElem_cons_succ, List.setIfInBounds_toArray, List.set_cons_zero, List.set_cons_succ]
        refine wpAnyH_take (i := 18) (v := undef) rfl (by kernel_rfl) (by kernel_rfl) (by kernel_rfl) (fun _ _ _ h => h) (Or.inr ⟨by rfl, rfl⟩) (by assumption) ?_
        try simp only [Act.put, List.getElem_toArray, List.getElem_cons_zero, List.getElem_cons_succ, List.setIfInBounds_toArray, List.set_cons_zero, List.set_cons_succ]
        refine wpAnyH_take (i := 19) (v := undef) rfl (by kernel_rfl) (by kernel_rfl) (by kernel_rfl) (fun _ _ _ h => h) (Or.inr ⟨by rfl, rfl⟩) (by assumption) ?_
        try simp only [Act.put, List.getElem_toArray, List.getElem_cons_zero, List.getElem_cons_succ, List.setIfInBounds_toArray, List.set_cons_zero, List.set_cons_succ]
        refine wpAnyH_take (i := 20) (v := undef) rfl (by kernel_rfl) (by kernel_rfl) (by kernel_rfl) (fun _ _ _ h => h) (Or.inr ⟨by rfl, rfl⟩) (by assumption) ?_
        try simp only [Act.put, List.getElem_toArray, List.getElem_cons_zero, List.getElem_cons_succ, List.setIfInBounds_toArray, List.set_cons_zero, List.set_cons_succ]
        refine wpAnyH_take (i := 21) (v := undef) rfl (by kernel_rfl) (by kernel_rfl) (by kernel_rfl) (fun _ _ _ h => h) (Or.inr ⟨by rfl, rfl⟩) (by assumption) ?_
        try simp only [Act.put, List.getElem_toArray, List.getElem_cons_zero, List.getElem_cons_succ, List.setIfInBounds_toArray, List.set_cons_zero, List.set_cons_succ]
        refine wpAnyH_take (i := 22) (v := undef) rfl (by kernel_rfl) (by kernel_rfl) (by kernel_rfl) (fun _ _ _ h => h) (Or.inr ⟨by rfl, rfl⟩) (by assumption) ?_
        try simp only [Act.put, List.getElem_toArray, List.getElem_cons_zero, List.getElem_cons_succ, List.setIfInBounds_toArray, List.set_cons_zero, List.set_cons_succ]
        refine wpAnyH_take (i := 23) (v := undef) rfl (by kernel_rfl) (by kernel_rfl) (by kernel_rfl) (fun _ _ _ h => h) (Or.inr ⟨by rfl, rfl⟩) (by assumption) ?_
        try simp only [Act.put, List.getElem_toArray, List.getElem_cons_zero, List.getElem_cons_succ, List.setIfInBounds_toArray, List.set_cons_zero, List.set_cons_succ]
        refine wpAnyH_take (i := 24) (v := undef) rfl (by kernel_rfl) (by kernel_rfl) (by kernel_rfl) (fun _ _ _ h => h) (Or.inr ⟨by rfl, rfl⟩) (by assumption) ?_
        try simp only [Act.put, List.getElem_toArray, List.getElem_cons_zero, List.getElem_cons_succ, List.setIfInBounds_toArray, List.set_cons_zero, List.set_cons_succ]
        refine wpAnyH_take (i := 25) (v := undef) rfl (by kernel_rfl) (by kernel_rfl) (by kernel_rfl) (fun _ _ _ h => h) (Or.inr ⟨by rfl, rfl⟩) (by assumption) ?_
        try simp only [Act.put, List.getElem_toArray, List.getElem_cons_zero, List.getElem_cons_succ, List.setIfInBounds_toArray, List.set_cons_zero, List.set_cons_succ]
        refine wpAnyH_take (i := 26) (v := undef) rfl (by kernel_rfl) (by kernel_rfl) (by kernel_rfl) (fun _ _ _ h => h) (Or.inr ⟨by rfl, rfl⟩) (by assumption) ?_
        try simp only [Act.put, List.getElem_toArray, List.getElem_cons_zero, List.getElem_cons_succ, List.setIfInBounds_toArray, List.set_cons_zero, List.set_cons_succ]
        refine wpAnyH_take (i := 27) (v := undef) rfl (by kernel_rfl) (by kernel_rfl) (by kernel_rfl) (fun _ _ _ h => h) (Or.inr ⟨by rfl, rfl⟩) (by assumption) ?_
        try simp only [Act.put, List.getElem_toArray, List.getElem_cons_zero, List.getElem_cons_succ, List.setIfInBounds_toArray, List.set_cons_zero, List.set_cons_succ]
        refine wpAnyH_take (i := 28) (v := undef) rfl (by kernel_rfl) (by kernel_rfl) (by kernel_rfl) (fun _ _ _ h => h) (Or.inr ⟨by rfl, rfl⟩) (by assumption) ?_
        try simp only [Act.put, List.getElem_toArray, List.getElem_cons_zero, List.getElem_cons_succ, List.setIfInBounds_toArray, List.set_cons_zero, List.set_cons_succ]
        refine wpAnyH_take (i := 29) (v := undef) rfl (by kernel_rfl) (by kernel_rfl) (by kernel_rfl) (fun _ _ _ h => h) (Or.inr ⟨by rfl, rfl⟩) (by assumption) ?_
        try simp only [Act.put, List.getElem_toArray, List.getElem_cons_zero, List.getElem_cons_succ, List.setIfInBounds_toArray, List.set_cons_zero, List.set_cons_succ]
        refine wpAnyH_take (i := 30) (v := undef) rfl (by kernel_rfl) (by kernel_rfl) (by kernel_rfl) (fun _ _ _ h => h) (Or.inr ⟨by rfl, rfl⟩) (by assumption) ?_
        try simp only [Act.put, List.getElem_toArray, List.getElem_cons_zero, List.getElem_cons_succ, List.setIfInBounds_toArray, List.set_cons_zero, List.set_cons_succ]
        refine wpAnyH_take (i := 31) (v := undef) rfl (by kernel_rfl) (by kernel_rfl) (by kernel_rfl) (fun _ _ _ h => h) (Or.inr ⟨by rfl, rfl⟩) (by assumption) ?_
        try simp only [Act.put, List.getElem_toArray, List.getElem_cons_zero, List.getElem_cons_succ, List.setIfInBounds_toArray, List.set_cons_zero, List.set_cons_succ]
        refine wpAnyH_take (i := 32) (v := undef) rfl (by kernel_rfl) (by kernel_rfl) (by kernel_rfl) (fun _ _ _ h => h) (Or.inr ⟨by rfl, rfl⟩) (by assumption) ?_
        try simp only [Act.put, List.getElem_toArray, List.getElem_cons_zero, List.getElem_cons_succ, List.setIfInBounds_toArray, List.set_cons_zero, List.set_cons_succ]
        refine wpAnyH_take (i := 33) (v := ?qv5) rfl (by kernel_rfl) (by kernel_rfl) (by kernel_rfl) (fun _ _ _ h => h) (Or.inl ⟨by rfl, ?qhy5⟩) (by assumption) ?qrest5
        case qhy5 =>
          intro W hSw
          try dsimp only at hSw
          go_simp
          try with_reducible rfl
        try simp only [Act.put, List.getElem_toArray, List.getElem_cons_zero, List.getElem_cons_succ, List.setIfInBounds_toArray, List.set_cons_zero, List.set_cons_succ]
        refine wpAnyH_done (by kernel_rfl) ?_ _
        refine NoPanic.normal ?_
        go_wp2_with fail
        go_meet
        exact ⟨rfl, hbw1⟩
      | true =>
        cases WB with
        | false =>
          clear hWB
          go_wp2_with fail
          refine wp_region_noPanic ?_
          refine wp_region_held_drew (S := fun w' => w'.cell? ⟨w1.heap.size, 0, none⟩ = some (.int .i64 nr) ∧ w'.cell? ⟨w1.heap.size, 1, none⟩ = some (.int .i64 ar) ∧ w'.cell? ⟨w1.heap.size, 2, none⟩ = some (.int .i64 ih) ∧ w'.cell? ⟨w1.heap.size, 3, none⟩ = some (.int .i64 il) ∧ w'.cell? ⟨w1.heap.size, 4, none⟩ = some (.slice ua (args.length) ucap) ∧ w'.cell? ⟨w5.heap.size, 0, none⟩ = some (.int .i64 xnr) ∧ w'.cell? ⟨w5.heap.size, 1, none⟩ = some (.int .i64 xar) ∧ w'.cell? ⟨w5.heap.size, 2, none⟩ = some (.int .i64 xih) ∧ w'.cell? ⟨w5.heap.size, 3, none⟩ = some (.int .i64 xil) ∧ w'.cell? ⟨w5.heap.size, 4, none⟩ = some (.slice uxa (xargs.length) uxcap) ∧ w'.cell? ⟨w5.heap.size, 5, none⟩ = some (.int .i64 xc) ∧ w'.cell? ⟨w5.heap.size + 1, 0, none⟩ = some (.int .i64 xnr) ∧ w'.cell? ⟨w5.heap.size + 1, 1, none⟩ = some (.int .i64 xar) ∧ w'.cell? ⟨w5.heap.size + 1, 2, none⟩ = some (.int .i64 xih) ∧ w'.cell? ⟨w5.heap.size + 1, 3, none⟩ = some (.int .i64 xil) ∧ w'.cell? ⟨w5.heap.size + 1, 4, none⟩ = some (.slice uya (xargs.length) uycap) ∧ w'.cell? ⟨w5.heap.size + 1, 5, none⟩ = some (.int .i64 xc) ∧ w'.cell? ⟨w6.heap.size, 0, none⟩ = some (.int .i64 ah) ∧ w'.cell? ⟨w6.heap.size, 1, none⟩ = some (.int .i64 al) ∧ w'.cell? ⟨w6.heap.size + 1, 0, none⟩ = some (.int .i64 bh) ∧ w'.cell? ⟨w6.heap.size + 1, 1, none⟩ = some (.int .i64 bl) ∧ w'.cell? ⟨w7.heap.size, 0, none⟩ = some (.int .i64 ch) ∧ w'.cell? ⟨w7.heap.size, 1, none⟩ = some (.int .i64 cl)) (by kernel_rfl) ?_ (fun hHeld => ?_)
          · exact HK.out _ hbw0
          refine wpAnyH_take (i := 0) (v := ?qv6) rfl (by kernel_rfl) (by kernel_rfl) (by kernel_rfl) (fun _ _ _ h => h) (Or.inl ⟨by rfl, ?qhy6⟩) (by assumption) ?qrest6
          case qhy6 =>
            intro W hSw
            try dsimp only at hSw
            go_simp
            try with_reducible rfl
          try simp only [Act.put, List.getElem_toArray, List.getElem_cons_zero, List.setIfInBounds_toArray, List.set_cons_zero, List.set_cons_succ]
          refine wpAnyH_ready (rs := [1]) (by kernel_rfl) (by simp) ?_
          refine AllReadyH.cons rfl (fun K hK => ?_) AllReadyH.nil
          go_simp
          refine (QWS.out _).mono ?_
          rintro e v1 ⟨rfl, hb1⟩
          have hbw1 := hbw0.trans (hb1.mono hbw0.size)
          go_wp2_with fail
          refine hK.out _ _ ?_ (fun hHeld => ?_)
          · exact HK.out _ hbw1
          clear hK K hb1
          try simp only [Act.put, List.getElem_toArray, List.getElem_cons_zero, List.getElem_cons_succ, List.setIfInBounds_toArray, List.set_cons_zero, List.set_cons_succ]
          refine wpAnyH_take (i := 2) (v := ?qv7) rfl (by kernel_rfl) (by kernel_rfl) (by kernel_rfl) (fun _ _ _ h => h) (Or.inl ⟨by rfl, ?qhy7⟩) (by assumption) ?qrest7
          case qhy7 =>
            intro W hSw
            try dsimp only at hSw
            go_simp
            try with_reducible rfl
          try simp only [Act.put, List.getElem_toArray, List.getElem_cons_zero, List.getElem_cons_succ, List.setIfInBounds_toArray, List.set_cons_zero, List.set_cons_succ]
          refine wpAnyH_take (i := 3) (v := ?qv8) rfl (by kernel_rfl) (by kernel_rfl) (by kernel_rfl) (fun _ _ _ h => h) (Or.inl ⟨by rfl, ?qhy8⟩) (by assumption) ?qrest8
          case qhy8 =>
            intro W hSw
            try dsimp only at hSw
            go_simp
            try with_reducible rfl
          try simp only [Act.put, List.getElem_toArray, List.getElem_cons_zero, List.getElem_cons_succ, List.setIfInBounds_toArray, List.set_cons_zero, List.set_cons_succ]
          refine wpAnyH_ready (rs := [4]) (by kernel_rfl) (by simp) ?_
          refine AllReadyH.cons rfl (fun K hK => ?_) AllReadyH.nil
          go_simp
          refine (QWB.out _).mono ?_
          rintro e v2 ⟨rfl, hb2⟩
          have hbw2 := hbw1.trans (hb2.mono hbw1.size)
          go_wp2_with fail
          refine hK.out _ _ ?_ (fun hHeld => ?_)
          · exact HK.out _ hbw2
          clear hK K hb2
          try simp only [Act.put, List.getElem_toArray, List.getElem_cons_zero, List.getElem_cons_succ, List.setIfInBounds_toArray, List.set_cons_zero, List.set_cons_succ]
          refine wpAnyH_take (i := 5) (v := ?qv9) rfl (by kernel_rfl) (by kernel_rfl) (by kernel_rfl) (fun _ _ _ h => h) (Or.inl ⟨by rfl, ?qhy9⟩) (by assumption) ?qrest9
          case qhy9 =>
            intro W hSw
            try dsimp only at hSw
            go_simp
            try with_reducible rfl
          try simp only [Act.put, List.getElem_toArray, List.getElem_cons_zero, List.getElem_cons_succ, List.setIfInBounds_toArray, List.set_cons_zero, List.set_cons_succ]
          refine wpAnyH_take (i := 6) (v := ?qv10) rfl (by kernel_rfl) (by kernel_rfl) (by kernel_rfl) (fun _ _ _ h => h) (Or.inl ⟨by rfl, ?qhy10⟩) (by assumption) ?qrest10
          case qhy10 =>
            intro W hSw
            try dsimp only at hSw
            go_simp
            try with_reducible rfl
          try simp only [Act.put, List.getElem_toArray, List.getElem_cons_zero, List.getElem_cons_succ, List.setIfInBounds_toArray, List.set_cons_zero, List.set_cons_succ]
          refine wpAnyH_take (i := 7) (v := undef) rfl (by kernel_rfl) (by kernel_rfl) (by kernel_rfl) (fun _ _ _ h => h) (Or.inr ⟨by rfl, rfl⟩) (by assumption) ?_
          try simp only [Act.put, List.getElem_toArray, List.getElem_cons_zero, List.getElem_cons_succ, List.setIfInBounds_toArray, List.set_cons_zero, List.set_cons_succ]
          refine wpAnyH_take (i := 8) (v := undef) rfl (by kernel_rfl) (by kernel_rfl) (by kernel_rfl) (fun _ _ _ h => h) (Or.inr ⟨by rfl, rfl⟩) (by assumption) ?_
          try simp only [Act.put, List.getElem_toArray, List.getElem_cons_zero, List.getElem_cons_succ, List.setIfInBounds_toArray, List.set_cons_zero, List.set_cons_succ]
          refine wpAnyH_take (i := 9) (v := undef) rfl (by kernel_rfl) (by kernel_rfl) (by kernel_rfl) (fun _ _ _ h => h) (Or.inr ⟨by rfl, rfl⟩) (by assumption) ?_
          try simp only [Act.put, List.getElem_toArray, List.getElem_cons_zero, List.getElem_cons_succ, List.setIfInBounds_toArray, List.set_cons_zero, List.set_cons_succ]
          refine wpAnyH_take (i := 10) (v := undef) rfl (by kernel_rfl) (by kernel_rfl) (by kernel_rfl) (fun _ _ _ h => h) (Or.inr ⟨by rfl, rfl⟩) (by assumption) ?_
          try simp only [Act.put, List.getElem_toArray, List.getElem_cons_zero, List.getElem_cons_succ, List.setIfInBounds_toArray, List.set_cons_zero, List.set_cons_succ]
          refine wpAnyH_take (i := 11) (v := undef) rfl (by kernel_rfl) (by kernel_rfl) (by kernel_rfl) (fun _ _ _ h => h) (Or.inr ⟨by rfl, rfl⟩) (by assumption) ?_
          try simp only [Act.put, List.getElem_toArray, List.getElem_cons_zero, List.getElem_cons_succ, List.setIfInBounds_toArray, List.set_cons_zero, List.set_cons_succ]
          refine wpAnyH_take (i := 12) (v := undef) rfl (by kernel_rfl) (by kernel_rfl) (by kernel_rfl) (fun _ _ _ h => h) (Or.inr ⟨by rfl, rfl⟩) (by assumption) ?_
          try simp only [Act.put, List.getElem_toArray, List.getElem_cons_zero, List.getElem_cons_succ, List.setIfInBounds_toArray, List.set_cons_zero, List.set_cons_succ]
          refine wpAnyH_take (i := 13) (v := undef) rfl (by kernel_rfl) (by kernel_rfl) (by kernel_rfl) (fun _ _ _ h => h) (Or.inr ⟨by rfl, rfl⟩) (by assumption) ?_
          try simp only [Act.put, List.getElem_toArray, List.getElem_cons_zero, List.getElem_cons_succ, List.setIfInBounds_toArray, List.set_cons_zero, List.set_cons_succ]
          refine wpAnyH_take (i := 14) (v := undef) rfl (by kernel_rfl) (by kernel_rfl) (by kernel_rfl) (fun _ _ _ h => h) (Or.inr ⟨by rfl, rfl⟩) (by assumption) ?_
          try simp only [Act.put, List.getElem_toArray, List.getElem_cons_zero, List.getElem_cons_succ, List.setIfInBounds_toArray, List.set_cons_zero, List.set_cons_succ]
          refine wpAnyH_take (i := 15) (v := undef) rfl (by kernel_rfl) (by kernel_rfl) (by kernel_rfl) (fun _ _ _ h => h) (Or.inr ⟨by rfl, rfl⟩) (by assumption) ?_
          try simp only [Act.put, List.getElem_toArray, List.getElem_cons_zero, List.getElem_cons_succ, List.setIfInBounds_toArray, List.set_cons_zero, List.set_cons_succ]
          refine wpAnyH_take (i := 16) (v := undef) rfl (by kernel_rfl) (by kernel_rfl) (by kernel_rfl) (fun _ _ _ h => h) (Or.inr ⟨by rfl, rfl⟩) (by assumption) ?_
          try simp only [Act.put, List.getElem_toArray, List.getElem_cons_zero, List.getElem_cons_succ, List.setIfInBounds_toArray, List.set_cons_zero, List.set_cons_succ]
          refine wpAnyH_take (i := 17) (v := undef) rfl (by kernel_rfl) (by kernel_rfl) (by kernel_rfl) (fun _ _ _ h => h) (Or.inr ⟨by rfl, rfl⟩) (by assumption) ?_
          try simp only [Act.put, List.getElem_toArray, List.getElem_cons_zero, List.getElem_cons_succ, List.setIfInBounds_toArray, List.set_cons_zero, List.set_cons_succ]
          refine wpAnyH_take (i := 18) (v := undef) rfl (by kernel_rfl) (by kernel_rfl) (by kernel_rfl) (fun _ _ _ h => h) (Or.inr ⟨by rfl, rfl⟩) (by assumption) ?_
          try simp only [Act.put, List.getElem_toArray, List.getElem_cons_zero, List.getElem_cons_succ, List.setIfInBounds_toArray, List.set_cons_zero, List.set_cons_succ]
          refine wpAnyH_take (i := 19) (v := undef) rfl (by kernel_rfl) (by kernel_rfl) (by kernel_rfl) (fun _ _ _ h => h) (Or.inr ⟨by rfl, rfl⟩) (by assumption) ?_
          try simp only [Act.put, List.getElem_toArray, List.getElem_cons_zero, List.getElem_cons_succ, List.setIfInBounds_toArray, List.set_cons_zero, List.set_cons_succ]
          refine wpAnyH_take (i := 20) (v := undef) rfl (by kernel_rfl) (by kernel_rfl) (by kernel_rfl) (fun _ _ _ h => h) (Or.inr ⟨by rfl, rfl⟩) (by assumption) ?_
          try simp only [Act.put, List.getElem_toArray, List.getElem_cons_zero, List.getElem_cons_succ, List.setIfInBounds_toArray, List.set_cons_zero, List.set_cons_succ]
          refine wpAnyH_take (i := 21) (v := undef) rfl (by kernel_rfl) (by kernel_rfl) (by kernel_rfl) (fun _ _ _ h => h) (Or.inr ⟨by rfl, rfl⟩) (by assumption) ?_
          try simp only [Act.put, List.getElem_toArray, List.getElem_cons_zero, List.getElem_cons_succ, List.setIfInBounds_toArray, List.set_cons_zero, List.set_cons_succ]
          refine wpAnyH_take (i := 22) (v := undef) rfl (by kernel_rfl) (by kernel_rfl) (by kernel_rfl) (fun _ _ _ h => h) (Or.inr ⟨by rfl, rfl⟩) (by assumption) ?_
          try simp only [Act.put, List.getElem_toArray, List.getElem_cons_zero, List.getElem_cons_succ, List.setIfInBounds_toArray, List.set_cons_zero, List.set_cons_succ]
          refine wpAnyH_take (i := 23) (v := undef) rfl (by kernel_rfl) (by kernel_rfl) (by kernel_rfl) (fun _ _ _ h => h) (Or.inr ⟨by rfl, rfl⟩) (by assumption) ?_
          try simp only [Act.put, List.getElem_toArray, List.getElem_cons_zero, List.getElem_cons_succ, List.setIfInBounds_toArray, List.set_cons_zero, List.set_cons_succ]
          refine wpAnyH_take (i := 24) (v := undef) rfl (by kernel_rfl) (by kernel_rfl) (by kernel_rfl) (fun _ _ _ h => h) (Or.inr ⟨by rfl, rfl⟩) (by assumption) ?_
          try simp only [Act.put, List.getElem_toArray, List.getElem_cons_zero, List.getElem_cons_succ, List.setIfInBounds_toArray, List.set_cons_zero, List.set_cons_succ]
          refine wpAnyH_take (i := 25) (v := undef) rfl (by kernel_rfl) (by kernel_rfl) (by kernel_rfl) (fun _ _ _ h => h) (Or.inr ⟨by rfl, rfl⟩) (by assumption) ?_
          try simp only [Act.put, List.getElem_toArray, List.getElem_cons_zero, List.getElem_cons_succ, List.setIfInBounds_toArray, List.set_cons_zero, List.set_cons_succ]
          refine wpAnyH_take (i := 26) (v := undef) rfl (by kernel_rfl) (by kernel_rfl) (by kernel_rfl) (fun _ _ _ h => h) (Or.inr ⟨by rfl, rfl⟩) (by assumption) ?_
          try simp only [Act.put, List.getElem_toArray, List.getElem_cons_zero, List.getElem_cons_succ, List.setIfInBounds_toArray, List.set_cons_zero, List.set_cons_succ]
          refine wpAnyH_take (i := 27) (v := undef) rfl (by kernel_rfl) (by kernel_rfl) (by kernel_rfl) (fun _ _ _ h => h) (Or.inr ⟨by rfl, rfl⟩) (by assumption) ?_
          try simp only [Act.put, List.getElem_toArray, List.getElem_cons_zero, List.getElem_cons_succ, List.setIfInBounds_toArray, List.set_cons_zero, List.set_cons_succ]
          refine wpAnyH_take (i := 28) (v := undef) rfl (by kernel_rfl) (by kernel_rfl) (by kernel_rfl) (fun _ _ _ h => h) (Or.inr ⟨by rfl, rfl⟩) (by assumption) ?_
          try simp only [Act.put, List.getElem_toArray, List.getElem_cons_zero, List.getElem_cons_succ, List.setIfInBounds_toArray, List.set_cons_zero, List.set_cons_succ]
          refine wpAnyH_take (i := 29) (v := undef) rfl (by kernel_rfl) (by kernel_rfl) (by kernel_rfl) (fun _ _ _ h => h) (Or.inr ⟨by rfl, rfl⟩) (by assumption) ?_
          try simp only [Act.put, List.getElem_toArray, List.getElem_cons_zero, List.getElem_cons_succ, List.setIfInBounds_toArray, List.set_cons_zero, List.set_cons_succ]
          refine wpAnyH_take (i := 30) (v := undef) rfl (by kernel_rfl) (by kernel_rfl) (by kernel_rfl) (fun _ _ _ h => h) (Or.inr ⟨by rfl, rfl⟩) (by assumption) ?_
          try simp only [Act.put, List.getElem_toArray, List.getElem_cons_zero, List.getElem_cons_succ, List.setIfInBounds_toArray, List.set_cons_zero, List.set_cons_succ]
          refine wpAnyH_take (i := 31) (v := undef) rfl (by kernel_rfl) (by kernel_rfl) (by kernel_rfl) (fun _ _ _ h => h) (Or.inr ⟨by rfl, rfl⟩) (by assumption) ?_
          try simp only [Act.put, List.getElem_toArray, List.getElem_cons_zero, List.getElem_cons_succ, List.setIfInBounds_toArray, List.set_cons_zero, List.set_cons_succ]
          refine wpAnyH_take (i := 32) (v := undef) rfl (by kernel_rfl) (by kernel_rfl) (by kernel_rfl) (fun _ _ _ h => h) (Or.inr ⟨by rfl, rfl⟩) (by assumption) ?_
          try simp only [Act.put, List.getElem_toArray, List.getElem_cons_zero, List.getElem_cons_succ, List.setIfInBounds_toArray, List.set_cons_zero, List.set_cons_succ]
          refine wpAnyH_take (i := 33) (v := ?qv11) rfl (by kernel_rfl) (by kernel_rfl) (by kernel_rfl) (fun _ _ _ h => h) (Or.inl ⟨by rfl, ?qhy11⟩) (by assumption) ?qrest11
          case qhy11 =>
            intro W hSw
            try dsimp only at hSw
            go_simp
            try with_reducible rfl
          try simp only [Act.put, List.getElem_toArray, List.getElem_cons_zero, List.getElem_cons_succ, List.setIfInBounds_toArray, List.set_cons_zero, List.set_cons_succ]
          refine wpAnyH_done (by kernel_rfl) ?_ _
          refine NoPanic.normal ?_
          go_wp2_with fail
          go_meet
          exact ⟨rfl, hbw2⟩
        | true =>
          have qb := and_both HWA.out.symm hWB.symm
          rw [← HCC.out] at qb
          have qa1 := fun W => implWordAnd_any ch cl ah al W
          have qa2 := fun W => implWordAnd_any bh bl ah al W
          rw [qb.1] at qa1
          rw [qb.2] at qa2
          have QA1 := Lib.hid qa1
          have QA2 := Lib.hid qa2
          have qab := fun W => eqWordAny ah al bh bl W
          clear qb qa1 qa2
          by_cases hab : (⟨ah, al⟩ : Wd) = ⟨bh, bl⟩
          · rw [decide_eq_true hab] at qab
            clear hWB hab
            go_wp2_with fail
            refine wp_region_noPanic ?_
            refine wp_region_held_drew (S := fun w' => w'.cell? ⟨w1.heap.size, 0, none⟩ = some (.int .i64 nr) ∧ w'.cell? ⟨w1.heap.size, 1, none⟩ = some (.int .i64 ar) ∧ w'.cell? ⟨w1.heap.size, 2, none⟩ = some (.int .i64 ih) ∧ w'.cell? ⟨w1.heap.size, 3, none⟩ = some (.int .i64 il) ∧ w'.cell? ⟨w1.heap.size, 4, none⟩ = some (.slice ua (args.length) ucap) ∧ w'.cell? ⟨w5.heap.size, 0, none⟩ = some (.int .i64 xnr) ∧ w'.cell? ⟨w5.heap.size, 1, none⟩ = some (.int .i64 xar) ∧ w'.cell? ⟨w5.heap.size, 2, none⟩ = some (.int .i64 xih) ∧ w'.cell? ⟨w5.heap.size, 3, none⟩ = some (.int .i64 xil) ∧ w'.cell? ⟨w5.heap.size, 4, none⟩ = some (.slice uxa (xargs.length) uxcap) ∧ w'.cell? ⟨w5.heap.size, 5, none⟩ = some (.int .i64 xc) ∧ w'.cell? ⟨w5.heap.size + 1, 0, none⟩ = some (.int .i64 xnr) ∧ w'.cell? ⟨w5.heap.size + 1, 1, none⟩ = some (.int .i64 xar) ∧ w'.cell? ⟨w5.heap.size + 1, 2, none⟩ = some (.int .i64 xih) ∧ w'.cell? ⟨w5.heap.size + 1, 3, none⟩ = some (.int .i64 xil) ∧ w'.cell? ⟨w5.heap.size + 1, 4, none⟩ = some (.slice uya (xargs.length) uycap) ∧ w'.cell? ⟨w5.heap.size + 1, 5, none⟩ = some (.int .i64 xc) ∧ w'.cell? ⟨w6.heap.size, 0, none⟩ = some (.int .i64 ah) ∧ w'.cell? ⟨w6.heap.size, 1, none⟩ = some (.int .i64 al) ∧ w'.cell? ⟨w6.heap.size + 1, 0, none⟩ = some (.int .i64 bh) ∧ w'.cell? ⟨w6.heap.size + 1, 1, none⟩ = some (.int .i64 bl) ∧ w'.cell? ⟨w7.heap.size, 0, none⟩ = some (.int .i64 ch) ∧ w'.cell? ⟨w7.heap.size, 1, none⟩ = some (.int .i64 cl)) (by kernel_rfl) ?_ (fun hHeld => ?_)
            · exact HK.out _ hbw0
            refine wpAnyH_take (i := 0) (v := ?qv12) rfl (by kernel_rfl) (by kernel_rfl) (by kernel_rfl) (fun _ _ _ h => h) (Or.inl ⟨by rfl, ?qhy12⟩) (by assumption) ?qrest12
            case qhy12 =>
              intro W hSw
              try dsimp only at hSw
              go_simp
              try with_reducible rfl
            try simp only [Act.put, List.getElem_toArray, List.getElem_cons_zero, List.setIfInBounds_toArray, List.set_cons_zero, List.set_cons_succ]
            refine wpAnyH_ready (rs := [1]) (by kernel_rfl) (by simp) ?_
            refine AllReadyH.cons rfl (fun K hK => ?_) AllReadyH.nil
            go_simp
            refine (QWS.out _).mono ?_
            rintro e v1 ⟨rfl, hb1⟩
            have hbw1 := hbw0.trans (hb1.mono hbw0.size)
            go_wp2_with fail
            refine hK.out _ _ ?_ (fun hHeld => ?_)
            · exact HK.out _ hbw1
            clear hK K hb1
            try simp only [Act.put, List.getElem_toArray, List.getElem_cons_zero, List.getElem_cons_succ, List.setIfInBounds_toArray, List.set_cons_zero, List.set_cons_succ]
            refine wpAnyH_take (i := 2) (v := ?qv13) rfl (by kernel_rfl) (by kernel_rfl) (by kernel_rfl) (fun _ _ _ h => h) (Or.inl ⟨by rfl, ?qhy13⟩) (by assumption) ?qrest13
            case qhy13 =>
              intro W hSw
              try dsimp only at hSw
              go_simp
              try with_reducible rfl
            try simp only [Act.put, List.getElem_toArray, List.getElem_cons_zero, List.getElem_cons_succ, List.setIfInBounds_toArray, List.set_cons_zero, List.set_cons_succ]
            refine wpAnyH_take (i := 3) (v := ?qv14) rfl (by kernel_rfl) (by kernel_rfl) (by kernel_rfl) (fun _ _ _ h => h) (Or.inl ⟨by rfl, ?qhy14⟩) (by assumption) ?qrest14
            case qhy14 =>
              intro W hSw
              try dsimp only at hSw
              go_simp
              try with_reducible rfl
            try simp only [Act.put, List.getElem_toArray, List.getElem_cons_zero, List.getElem_cons_succ, List.setIfInBounds_toArray, List.set_cons_zero, List.set_cons_succ]
            refine wpAnyH_ready (rs := [4]) (by kernel_rfl) (by simp) ?_
            refine AllReadyH.cons rfl (fun K hK => ?_) AllReadyH.nil
            go_simp
            refine (QWB.out _).mono ?_
            rintro e v2 ⟨rfl, hb2⟩
            have hbw2 := hbw1.trans (hb2.mono hbw1.size)
            go_wp2_with fail
            refine hK.out _ _ ?_ (fun hHeld => ?_)
            · exact HK.out _ hbw2
            clear hK K hb2
            try simp only [Act.put, List.getElem_toArray, List.getElem_cons_zero, List.getElem_cons_succ, List.setIfInBounds_toArray, List.set_cons_zero, List.set_cons_succ]
            refine wpAnyH_take (i := 5) (v := ?qv15) rfl (by kernel_rfl) (by kernel_rfl) (by kernel_rfl) (fun _ _ _ h => h) (Or.inl ⟨by rfl, ?qhy15⟩) (by assumption) ?qrest15
            case qhy15 =>
              intro W hSw
              try dsimp only at hSw
              go_simp
              try with_reducible rfl
            try simp only [Act.put, List.getElem_toArray, List.getElem_cons_zero, List.getElem_cons_succ, List.setIfInBounds_toArray, List.set_cons_zero, List.set_cons_succ]
            refine wpAnyH_take (i := 6) (v := ?qv16) rfl (by kernel_rfl) (by kernel_rfl) (by kernel_rfl) (fun _ _ _ h => h) (Or.inl ⟨by rfl, ?qhy16⟩) (by assumption) ?qrest16
            case qhy16 =>
              intro W hSw
              try dsimp only at hSw
              go_simp
              try with_reducible rfl
            try simp only [Act.put, List.getElem_toArray, List.getElem_cons_zero, List.getElem_cons_succ, List.setIfInBounds_toArray, List.set_cons_zero, List.set_cons_succ]
            refine wpAnyH_take (i := 7) (v := ?qv17) rfl (by kernel_rfl) (by kernel_rfl) (by kernel_rfl) (fun _ _ _ h => h) (Or.inl ⟨by rfl, ?qhy17⟩) (by assumption) ?qrest17
            case qhy17 =>
              intro W hSw
              try dsimp only at hSw
              go_simp
              try with_reducible rfl
            try simp only [Act.put, List.getElem_toArray, List.getElem_cons_zero, List.getElem_cons_succ, List.setIfInBounds_toArray, List.set_cons_zero, List.set_cons_succ]
            refine wpAnyH_take (i := 8) (v := ?qv18) rfl (by kernel_rfl) (by kernel_rfl) (by kernel_rfl) (fun _ _ _ h => h) (Or.inl ⟨by rfl, ?qhy18⟩) (by assumption) ?qrest18
            case qhy18 =>
              intro W hSw
              try dsimp only at hSw
              go_simp
              try with_reducible rfl
            try simp only [Act.put, List.getElem_toArray, List.getElem_cons_zero, List.getElem_cons_succ, List.setIfInBounds_toArray, List.set_cons_zero, List.set_cons_succ]
            refine wpAnyH_take (i := 9) (v := ?qv19) rfl (by kernel_rfl) (by kernel_rfl) (by kernel_rfl) (fun _ _ _ h => h) (Or.inl ⟨by rfl, ?qhy19⟩) (by assumption) ?qrest19
            case qhy19 =>
              intro W hSw
              try dsimp only at hSw
              go_simp
              try with_reducible rfl
            try simp only [Act.put, List.getElem_toArray, List.getElem_cons_zero, List.getElem_cons_succ, List.setIfInBounds_toArray, List.set_cons_zero, List.set_cons_succ]
            refine wpAnyH_take (i := 10) (v := ?qv20) rfl (by kernel_rfl) (by kernel_rfl) (by kernel_rfl) (fun _ _ _ h => h) (Or.inl ⟨by rfl, ?qhy20⟩) (by assumption) ?qrest20
            case qhy20 =>
              intro W hSw
              try dsimp only at hSw
              go_simp
              try with_reducible rfl
            try simp only [Act.put, List.getElem_toArray, List.getElem_cons_zero, List.getElem_cons_succ, List.setIfInBounds_toArray, List.set_cons_zero, List.set_cons_succ]
            refine wpAnyH_take (i := 11) (v := undef) rfl (by kernel_rfl) (by kernel_rfl) (by kernel_rfl) (fun _ _ _ h => h) (Or.inr ⟨by rfl, rfl⟩) (by assumption) ?_
            try simp only [Act.put, List.getElem_toArray, List.getElem_cons_zero, List.getElem_cons_succ, List.setIfInBounds_toArray, List.set_cons_zero, List.set_cons_succ]
            refine wpAnyH_take (i := 12) (v := undef) rfl (by kernel_rfl) (by kernel_rfl) (by kernel_rfl) (fun _ _ _ h => h) (Or.inr ⟨by rfl, rfl⟩) (by assumption) ?_
            try simp only [Act.put, List.getElem_toArray, List.getElem_cons_zero, List.getElem_cons_succ, List.setIfInBounds_toArray, List.set_cons_zero, List.set_cons_succ]
            refine wpAnyH_take (i := 13) (v := undef) rfl (by kernel_rfl) (by kernel_rfl) (by kernel_rfl) (fun _ _ _ h => h) (Or.inr ⟨by rfl, rfl⟩) (by assumption) ?_
            try simp only [Act.put, List.getElem_toArray, List.getElem_cons_zero, List.getElem_cons_succ, List.setIfInBounds_toArray, List.set_cons_zero, List.set_cons_succ]
            refine wpAnyH_take (i := 14) (v := undef) rfl (by kernel_rfl) (by kernel_rfl) (by kernel_rfl) (fun _ _ _ h => h) (Or.inr ⟨by rfl, rfl⟩) (by assumption) ?_
            try simp only [Act.put, List.getElem_toArray, List.getElem_cons_zero, List.getElem_cons_succ, List.setIfInBounds_toArray, List.set_cons_zero, List.set_cons_succ]
            refine wpAnyH_take (i := 15) (v := undef) rfl (by kernel_rfl) (by kernel_rfl) (by kernel_rfl) (fun _ _ _ h => h) (Or.inr ⟨by rfl, rfl⟩) (by assumption) ?_
            try simp only [Act.put, List.getElem_toArray, List.getElem_cons_zero, List.getElem_cons_succ, List.setIfInBounds_toArray, List.set_cons_zero, List.set_cons_succ]
            refine wpAnyH_take (i := 16) (v := undef) rfl (by kernel_rfl) (by kernel_rfl) (by kernel_rfl) (fun _ _ _ h => h) (Or.inr ⟨by rfl, rfl⟩) (by assumption) ?_
            try simp only [Act.put, List.getElem_toArray, List.getElem_cons_zero, List.getElem_cons_succ, List.setIfInBounds_toArray, List.set_cons_zero, List.set_cons_succ]
            refine wpAnyH_take (i := 17) (v := undef) rfl (by kernel_rfl) (by kernel_rfl) (by kernel_rfl) (fun _ _ _ h => h) (Or.inr ⟨by rfl, rfl⟩) (by assumption) ?_
            try simp only [Act.put, List.getElem_toArray, List.getElem_cons_zero, List.getElem_cons_succ, List.setIfInBounds_toArray, List.set_cons_zero, List.set_cons_succ]
            refine wpAnyH_take (i := 18) (v := ?qv21) rfl (by kernel_rfl) (by kernel_rfl) (by kernel_rfl) (fun _ _ _ h => h) (Or.inl ⟨by rfl, ?qhy21⟩) (by assumption) ?qrest21
            case qhy21 =>
              intro W hSw
              try dsimp only at hSw
              go_simp
              try with_reducible rfl
            try simp only [Act.put, List.getElem_toArray, List.getElem_cons_zero, List.getElem_cons_succ, List.setIfInBounds_toArray, List.set_cons_zero, List.set_cons_succ]
            refine wpAnyH_take (i := 19) (v := ?qv22) rfl (by kernel_rfl) (by kernel_rfl) (by kernel_rfl) (fun _ _ _ h => h) (Or.inl ⟨by rfl, ?qhy22⟩) (by assumption) ?qrest22
            case qhy22 =>
              intro W hSw
              try dsimp only at hSw
              go_simp
              try with_reducible rfl
            try simp only [Act.put, List.getElem_toArray, List.getElem_cons_zero, List.getElem_cons_succ, List.setIfInBounds_toArray, List.set_cons_zero, List.set_cons_succ]
            refine wpAnyH_take (i := 20) (v := ?qv23) rfl (by kernel_rfl) (by kernel_rfl) (by kernel_rfl) (fun _ _ _ h => h) (Or.inl ⟨by rfl, ?qhy23⟩) (by assumption) ?qrest23
            case qhy23 =>
              intro W hSw
              try dsimp only at hSw
              go_simp
              try with_reducible rfl
            try simp only [Act.put, List.getElem_toArray, List.getElem_cons_zero, List.getElem_cons_succ, List.setIfInBounds_toArray, List.set_cons_zero, List.set_cons_succ]
            refine wpAnyH_take (i := 21) (v := ?qv24) rfl (by kernel_rfl) (by kernel_rfl) (by kernel_rfl) (fun _ _ _ h => h) (Or.inl ⟨by rfl, ?qhy24⟩) (by assumption) ?qrest24
            case qhy24 =>
              intro W hSw
              try dsimp only at hSw
              go_simp
              try with_reducible rfl
            try simp only [Act.put, List.getElem_toArray, List.getElem_cons_zero, List.getElem_cons_succ, List.setIfInBounds_toArray, List.set_cons_zero, List.set_cons_succ]
            refine wpAnyH_take (i := 23) (v := ?qv25) rfl (by kernel_rfl) (by kernel_rfl) (by kernel_rfl) (fun _ _ _ h => h) (Or.inl ⟨by rfl, ?qhy25⟩) (by assumption) ?qrest25
            case qhy25 =>
              intro W hSw
              try dsimp only at hSw
              go_simp
              try with_reducible rfl
            try simp only [Act.put, List.getElem_toArray, List.getElem_cons_zero, List.getElem_cons_succ, List.setIfInBounds_toArray, List.set_cons_zero, List.set_cons_succ]
            refine wpAnyH_ready (rs := [22]) (by kernel_rfl) (by simp) ?_
            refine AllReadyH.cons rfl (fun K hK => ?_) AllReadyH.nil
            go_simp
            refine (QA1.out _).mono ?_
            rintro e v3 ⟨rfl, hb3⟩
            have hbw3 := hbw2.trans (hb3.mono hbw2.size)
            go_wp2_with fail
            refine hK.out _ _ ?_ (fun hHeld => ?_)
            · exact HK.out _ hbw3
            clear hK K hb3
            try simp only [Act.put, List.getElem_toArray, List.getElem_cons_zero, List.getElem_cons_succ, List.setIfInBounds_toArray, List.set_cons_zero, List.set_cons_succ]
            refine wpAnyH_take (i := 24) (v := ?qv26) rfl (by kernel_rfl) (by kernel_rfl) (by kernel_rfl) (fun _ _ _ h => h) (Or.inl ⟨by rfl, ?qhy26⟩) (by assumption) ?qrest26
            case qhy26 =>
              intro W hSw
              try dsimp only at hSw
              go_simp
              try with_reducible rfl
            try simp only [Act.put, List.getElem_toArray, List.getElem_cons_zero, List.getElem_cons_succ, List.setIfInBounds_toArray, List.set_cons_zero, List.set_cons_succ]
            refine wpAnyH_take (i := 25) (v := ?qv27) rfl (by kernel_rfl) (by kernel_rfl) (by kernel_rfl) (fun _ _ _ h => h) (Or.inl ⟨by rfl, ?qhy27⟩) (by assumption) ?qrest27
            case qhy27 =>
              intro W hSw
              try dsimp only at hSw
              go_simp
              try with_reducible rfl
            try simp only [Act.put, List.getElem_toArray, List.getElem_cons_zero, List.getElem_cons_succ, List.setIfInBounds_toArray, List.set_cons_zero, List.set_cons_succ]
            refine wpAnyH_take (i := 26) (v := ?qv28) rfl (by kernel_rfl) (by kernel_rfl) (by kernel_rfl) (fun _ _ _ h => h) (Or.inl ⟨by rfl, ?qhy28⟩) (by assumption) ?qrest28
            case qhy28 =>
              intro W hSw
              try dsimp only at hSw
              go_simp
              try with_reducible rfl
            try simp only [Act.put, List.getElem_toArray, List.getElem_cons_zero, List.getElem_cons_succ, List.setIfInBounds_toArray, List.set_cons_zero, List.set_cons_succ]
            refine wpAnyH_take (i := 27) (v := ?qv29) rfl (by kernel_rfl) (by kernel_rfl) (by kernel_rfl) (fun _ _ _ h => h) (Or.inl ⟨by rfl, ?qhy29⟩) (by assumption) ?qrest29
            case qhy29 =>
              intro W hSw
              try dsimp only at hSw
              go_simp
              try with_reducible rfl
            try simp only [Act.put, List.getElem_toArray, List.getElem_cons_zero, List.getElem_cons_succ, List.setIfInBounds_toArray, List.set_cons_zero, List.set_cons_succ]
            refine wpAnyH_take (i := 28) (v := ?qv30) rfl (by kernel_rfl) (by kernel_rfl) (by kernel_rfl) (fun _ _ _ h => h) (Or.inl ⟨by rfl, ?qhy30⟩) (by assumption) ?qrest30
            case qhy30 =>
              intro W hSw
              try dsimp only at hSw
              go_simp
              try with_reducible rfl
            try simp only [Act.put, List.getElem_toArray, List.getElem_cons_zero, List.getElem_cons_succ, List.setIfInBounds_toArray, List.set_cons_zero, List.set_cons_succ]
            refine wpAnyH_take (i := 30) (v := ?qv31) rfl (by kernel_rfl) (by kernel_rfl) (by kernel_rfl) (fun _ _ _ h => h) (Or.inl ⟨by rfl, ?qhy31⟩) (by assumption) ?qrest31
            case qhy31 =>
              intro W hSw
              try dsimp only at hSw
              go_simp
              try with_reducible rfl
            try simp only [Act.put, List.getElem_toArray, List.getElem_cons_zero, List.getElem_cons_succ, List.setIfInBounds_toArray, List.set_cons_zero, List.set_cons_succ]
            refine wpAnyH_ready (rs := [29]) (by kernel_rfl) (by simp) ?_
            refine AllReadyH.cons rfl (fun K hK => ?_) AllReadyH.nil
            go_simp
            refine (QA2.out _).mono ?_
            rintro e v4 ⟨rfl, hb4⟩
            have hbw4 := hbw3.trans (hb4.mono hbw3.size)
            go_wp2_with fail
            refine hK.out _ _ ?_ (fun hHeld => ?_)
            · exact HK.out _ hbw4
            clear hK K hb4
            try simp only [Act.put, List.getElem_toArray, List.getElem_cons_zero, List.getElem_cons_succ, List.setIfInBounds_toArray, List.set_cons_zero, List.set_cons_succ]
            refine wpAnyH_take (i := 31) (v := ?qv32) rfl (by kernel_rfl) (by kernel_rfl) (by kernel_rfl) (fun _ _ _ h => h) (Or.inl ⟨by rfl, ?qhy32⟩) (by assumption) ?qrest32
            case qhy32 =>
              intro W hSw
              try dsimp only at hSw
              go_simp
              try with_reducible rfl
            try simp only [Act.put, List.getElem_toArray, List.getElem_cons_zero, List.getElem_cons_succ, List.setIfInBounds_toArray, List.set_cons_zero, List.set_cons_succ]
            refine wpAnyH_take (i := 32) (v := ?qv33) rfl (by kernel_rfl) (by kernel_rfl) (by kernel_rfl) (fun _ _ _ h => h) (Or.inl ⟨by rfl, ?qhy33⟩) (by assumption) ?qrest33
            case qhy33 =>
              intro W hSw
              try dsimp only at hSw
              go_simp
              try with_reducible rfl
            try simp only [Act.put, List.getElem_toArray, List.getElem_cons_zero, List.getElem_cons_succ, List.setIfInBounds_toArray, List.set_cons_zero, List.set_cons_succ]
            refine wpAnyH_take (i := 33) (v := ?qv34) rfl (by kernel_rfl) (by kernel_rfl) (by kernel_rfl) (fun _ _ _ h => h) (Or.inl ⟨by rfl, ?qhy34⟩) (by assumption) ?qrest34
            case qhy34 =>
              intro W hSw
              try dsimp only at hSw
              go_simp
              try with_reducible rfl
            try simp only [Act.put, List.getElem_toArray, List.getElem_cons_zero, List.getElem_cons_succ, List.setIfInBounds_toArray, List.set_cons_zero, List.set_cons_succ]
            refine wpAnyH_done (by kernel_rfl) ?_ _
            refine NoPanic.normal ?_
            go_wp2_with fail
            go_meet
            exact ⟨rfl, hbw4⟩
          · have hls := less_one HWA.out.symm hWB.symm hab
            rw [decide_eq_false hab] at qab
            have qlb := fun W => implWordLess_any bh bl ah al W
            obtain ⟨L2, hL2⟩ : ∃ x, x = wdLess ⟨bh, bl⟩ ⟨ah, al⟩ := ⟨_, rfl⟩
            rw [← hL2, ← HLB.out] at hls
            rw [← hL2] at qlb
            have QLB := Lib.hid qlb
            have hlb : (LB == L2) = false := by rw [hls]; cases L2 <;> rfl
            clear qlb hls hL2 hWB hab
            go_wp2_with fail
            go_region_held3 (fun w' => w'.cell? ⟨w1.heap.size, 0, none⟩ = some (.int .i64 nr) ∧ w'.cell? ⟨w1.heap.size, 1, none⟩ = some (.int .i64 ar) ∧ w'.cell? ⟨w1.heap.size, 2, none⟩ = some (.int .i64 ih) ∧ w'.cell? ⟨w1.heap.size, 3, none⟩ = some (.int .i64 il) ∧ w'.cell? ⟨w1.heap.size, 4, none⟩ = some (.slice ua (args.length) ucap) ∧ w'.cell? ⟨w5.heap.size, 0, none⟩ = some (.int .i64 xnr) ∧ w'.cell? ⟨w5.heap.size, 1, none⟩ = some (.int .i64 xar) ∧ w'.cell? ⟨w5.heap.size, 2, none⟩ = some (.int .i64 xih) ∧ w'.cell? ⟨w5.heap.size, 3, none⟩ = some (.int .i64 xil) ∧ w'.cell? ⟨w5.heap.size, 4, none⟩ = some (.slice uxa (xargs.length) uxcap) ∧ w'.cell? ⟨w5.heap.size, 5, none⟩ = some (.int .i64 xc) ∧ w'.cell? ⟨w5.heap.size + 1, 0, none⟩ = some (.int .i64 xnr) ∧ w'.cell? ⟨w5.heap.size + 1, 1, none⟩ = some (.int .i64 xar) ∧ w'.cell? ⟨w5.heap.size + 1, 2, none⟩ = some (.int .i64 xih) ∧ w'.cell? ⟨w5.heap.size + 1, 3, none⟩ = some (.int .i64 xil) ∧ w'.cell? ⟨w5.heap.size + 1, 4, none⟩ = some (.slice uya (xargs.length) uycap) ∧ w'.cell? ⟨w5.heap.size + 1, 5, none⟩ = some (.int .i64 xc) ∧ w'.cell? ⟨w6.heap.size, 0, none⟩ = some (.int .i64 ah) ∧ w'.cell? ⟨w6.heap.size, 1, none⟩ = some (.int .i64 al) ∧ w'.cell? ⟨w6.heap.size + 1, 0, none⟩ = some (.int .i64 bh) ∧ w'.cell? ⟨w6.heap.size + 1, 1, none⟩ = some (.int .i64 bl) ∧ w'.cell? ⟨w7.heap.size, 0, none⟩ = some (.int .i64 ch) ∧ w'.cell? ⟨w7.heap.size, 1, none⟩ = some (.int .i64 cl))
              (first | exact HK.out _ hbw6 | exact HK.out _ hbw5 | exact HK.out _ hbw4 | exact HK.out _ hbw3 | exact HK.out _ hbw2 | exact HK.out _ hbw1 | exact HK.out _ hbw0 | go_keep)
              (first
                | (go_at_call 29; (with_reducible refine (QWS.out _).mono ?_); rintro e v1 ⟨rfl, hb1⟩; have hbw1 := hbw0.trans (hb1.mono hbw0.size))
                | (go_at_call 29; (with_reducible refine (QWB.out _).mono ?_); rintro e v2 ⟨rfl, hb2⟩; have hbw2 := hbw1.trans (hb2.mono hbw1.size))
                | (go_at_call 21; (with_reducible refine (QLI.out _).mono ?_); rintro e v3 ⟨rfl, hb3⟩; have hbw3 := hbw2.trans (hb3.mono hbw2.size))
                | (go_at_call 21; (with_reducible refine (QLB.out _).mono ?_); rintro e v4 ⟨rfl, hb4⟩; have hbw4 := hbw3.trans (hb4.mono hbw3.size))
                | (go_at_call 17; (with_reducible refine (QA1.out _).mono ?_); rintro e v5 ⟨rfl, hb5⟩; have hbw5 := hbw4.trans (hb5.mono hbw4.size))
                | (go_at_call 17; (with_reducible refine (QA2.out _).mono ?_); rintro e v6 ⟨rfl, hb6⟩; have hbw6 := hbw5.trans (hb6.mono hbw5.size)))
            go_wp2_with fail
            go_meet
            exact ⟨rfl, hbw6⟩
    case rest =>
    obtain ⟨rfl, hbw⟩ := hcut
    have HB10 := Lib.hid hbw
    clear hbw c0 c1 c2 c3 c4 c5 c6 c7 c8 c9 c10 c11 c12 c13 c14 c15 c16 c17 c18 c19 c20 c21 c22
    obtain ⟨c0, c1, c2, c3, c4, c5, c6, c7, c8, c9, c10, c11, c12, c13, c14, c15, c16, c17, c18, c19, c20, c21, c22⟩ := HK.out _ HB10.out
    by_cases hT0 : T = ⟨#[]⟩
    · subst hT0
      go_wp2_with fail
      go_ret
      exact ⟨rfl, (HB1.out.trans ((HUP.out _ HB10.out).mono hs1))⟩
    have hqt : T.toList.isEmpty = false := by
      have h := str_beq_false hT0
      cases hl : T.toList with
      | nil => rw [hl] at h; simp at h
      | cons x l => rfl
    have hrr : rcRight ⟨nr, ar, ⟨ih, il⟩, args⟩ = true := by
      cases hx : rcRight ⟨nr, ar, ⟨ih, il⟩, args⟩ with
      | true => rfl
      | false => exact (hT0 (HT.out.trans (rbOf_no hx))).elim
    have hfacts := rb_facts _ hrr
    have hlen6 : args.length = 6 := (rcRight_parts hrr).2.2.2.1
    rw [← HT.out] at hfacts
    simp only at hfacts
    obtain ⟨hT64, hrc, hrd, hl0, hl4, hlk⟩ := hfacts
    obtain ⟨k, hk0, hk1, hk⟩ := lwAt_still a1 len1 cap1 0 6 _ (codeAt_up HC1.out (HB1.out.trans ((HUP.out _ HB10.out).mono hs1)) (Nat.le_refl _)) (by omega) (by omega) (by omega) (by omega)
    obtain ⟨n, rfl⟩ := Int.eq_ofNat_of_zero_le hk0
    have hn6 : n < args.length := by omega
    obtain ⟨b, o, ph, pl, e, hbl, x0, x1, hlk⟩ : ∃ b o ph pl, ua = some ⟨b, o, none⟩ ∧ b < w1.heap.size ∧ w1.cell? ⟨b, o + n * 2, none⟩ = some (.int .i64 ph) ∧ w1.cell? ⟨b, o + n * 2 + 1, none⟩ = some (.int .i64 pl) ∧ (loadB T (16 + 8 * (n : Int)) = pl ∧ loadB T (20 + 8 * (n : Int)) = ph) := by
      obtain ⟨b, o, e, hb, x0, x1, _⟩ := WdAt.place HR1.out (List.getElem?_eq_getElem hn6)
      exact ⟨b, o, _, _, e, hb, x0, x1, hlk n hn6⟩
    subst e
    have ql := fun W => implLoad_any T (16 + 8 * (n : Int)) W (by unfold maxLen; omega) (by omega) (by omega)
    have qh := fun W => implLoad_any T (20 + 8 * (n : Int)) W (by unfold maxLen; omega) (by omega) (by omega)
    have ql0 := fun W => implLoad_any T 0 W (by unfold maxLen; omega) (by omega) (by omega)
    have ql4 := fun W => implLoad_any T 4 W (by unfold maxLen; omega) (by omega) (by omega)
    have qrd := fun W => implRecordRead_any T W (by unfold maxLen; omega)
    rw [hlk.1] at ql
    rw [hlk.2] at qh
    rw [hl0] at ql0
    rw [hl4] at ql4
    rw [hrc, hrd] at qrd
    have QL := Lib.hid ql
    have QH := Lib.hid qh
    have QL0 := Lib.hid ql0
    have QL4 := Lib.hid ql4
    have QRD := Lib.hid qrd
    have HK2 := Lib.hid hk
    have HN6 := Lib.hid hn6
    have HL6 := Lib.hid hlen6
    clear ql qh ql0 ql4 qrd hlk hl0 hl4 hrc hrd hrr hT0 hk hlen6
    have hwfa : ∀ x ∈ args, x.wf := HR1.out.2.2
    have hrowr := below_row HB10.out HRV8.out
    have hupc := HUP.out _ HB10.out
    have hsz10 : w1.heap.size ≤ wc.heap.size := hupc.size
    have hkf : ∀ W : World, Below (wc.alloc (.cells #[.int .i64 ph, .int .i64 pl] 24)).heap.size (wc.alloc (.cells #[.int .i64 ph, .int .i64 pl] 24)) W → (W.cell? ⟨w1.heap.size, 0, none⟩ = some (.int .i64 nr) ∧ W.cell? ⟨w1.heap.size, 1, none⟩ = some (.int .i64 ar) ∧ W.cell? ⟨w1.heap.size, 2, none⟩ = some (.int .i64 ih) ∧ W.cell? ⟨w1.heap.size, 3, none⟩ = some (.int .i64 il) ∧ W.cell? ⟨w1.heap.size, 4, none⟩ = some (.slice (some ⟨b, o, none⟩) args.length ucap) ∧ W.cell? ⟨wc.heap.size, 0, none⟩ = some (.int .i64 ph) ∧ W.cell? ⟨wc.heap.size, 1, none⟩ = some (.int .i64 pl) ∧ W.cell? ⟨b, o + n * 2, none⟩ = some (.int .i64 ph) ∧ W.cell? ⟨b, o + n * 2 + 1, none⟩ = some (.int .i64 pl)) := fun W hb => by
      have hb' : Below wc.heap.size wc W := box_below hb
      have hr := below_row hb' hrowr
      have hc := hupc.trans (hb'.mono hsz10)
      exact ⟨row_cell hr 0, row_cell hr 1, row_cell hr 2, row_cell hr 3, row_cell hr 4, box_cell hb 0, box_cell hb 1, (hc.cell (p := ⟨b, o + n * 2, none⟩) hbl).trans x0, (hc.cell (p := ⟨b, o + n * 2 + 1, none⟩) hbl).trans x1⟩
    have hat : ∀ W : World, Below (wc.alloc (.cells #[.int .i64 ph, .int .i64 pl] 24)).heap.size (wc.alloc (.cells #[.int .i64 ph, .int .i64 pl] 24)) W → WdAt W W.heap.size (.slice (some ⟨b, o, none⟩) args.length ucap) args := fun W hb => by
      have h : Below w1.heap.size w1 W := hupc.trans ((box_below hb).mono hsz10)
      exact LAt.up (LAt.below HR1.out h) h.size
    have hlr := fun W u' (h1 : WdAt W W.heap.size u' args) (h2 : WdAt W W.heap.size (.slice (some ⟨b, o, none⟩) args.length ucap) args) => lwRecord_same ⟨nr, ar, ⟨ih, il⟩, args⟩ u' _ W h1 h2
    simp only [rcV] at hlr
    unfold RecEnd at QRD
    have HKF := Lib.hid hkf
    have HAT := Lib.hid hat
    have HLR := Lib.hid hlr
    have HWFA := Lib.hid hwfa
    have HUC := Lib.hid hupc
    have hfld := fun W a b c d e f => recOut_field W a b c d e f
    have heqp := fun W => eqWordAny ph pl ph pl W
    simp only [decide_true] at heqp
    have hqn : (nr == nr) = true := by simp
    have hqa : (ar == ar) = true := by simp
    have n0 : (0 : Int) ≤ (n : Int) := by omega
    have n1 : (n : Int) < (args.length : Int) := by omega
    clear hkf hat hlr hwfa hupc hrowr x0 x1 c0 c1 c2 c3 c4 c5 c6 c7 c8 c9 c10 c11 c12 c13 c14 c15 c16 c17 c18 c19 c20 c21 c22
    obtain ⟨c0, c1, c2, c3, c4, c5, c6, c7, c8, c9, c10, c11, c12, c13, c14, c15, c16, c17, c18, c19, c20, c21, c22⟩ := HK.out _ HB10.out
    go_wp2_with fail
    refine HK2.out.mono ?_
    rintro e v2 ⟨rfl, rfl⟩
    go_wp2_with fail
    refine (QH.out _).mono ?_
    rintro e v3 ⟨rfl, rfl⟩
    go_wp2_with fail
    refine (QL.out _).mono ?_
    rintro e v3 ⟨rfl, rfl⟩
    have hbw0 : Below (wc.alloc (.cells #[.int .i64 ph, .int .i64 pl] 24)).heap.size (wc.alloc (.cells #[.int .i64 ph, .int .i64 pl] 24)) (wc.alloc (.cells #[.int .i64 ph, .int .i64 pl] 24)).drew := (Below.refl _ _).drew
    clear c0 c1 c2 c3 c4 c5 c6 c7 c8 c9 c10 c11 c12 c13 c14 c15 c16 c17 c18 c19 c20 c21 c22
    go_wp2_with fail
    go_region_held3 (fun W => W.cell? ⟨w1.heap.size, 0, none⟩ = some (.int .i64 nr) ∧ W.cell? ⟨w1.heap.size, 1, none⟩ = some (.int .i64 ar) ∧ W.cell? ⟨w1.heap.size, 2, none⟩ = some (.int .i64 ih) ∧ W.cell? ⟨w1.heap.size, 3, none⟩ = some (.int .i64 il) ∧ W.cell? ⟨w1.heap.size, 4, none⟩ = some (.slice (some ⟨b, o, none⟩) args.length ucap) ∧ W.cell? ⟨wc.heap.size, 0, none⟩ = some (.int .i64 ph) ∧ W.cell? ⟨wc.heap.size, 1, none⟩ = some (.int .i64 pl) ∧ W.cell? ⟨b, o + n * 2, none⟩ = some (.int .i64 ph) ∧ W.cell? ⟨b, o + n * 2 + 1, none⟩ = some (.int .i64 pl))
      (first | exact HKF.out _ hbw2 | exact HKF.out _ hbw1 | exact HKF.out _ hbw0 | go_keep)
      (first
        | (go_at_call 14; (with_reducible refine (QRD.out _).mono ?_); rintro e v4 ⟨u, rfl, ho, hb4⟩; obtain ⟨uy, ucy, rfl⟩ := OwnL.slice ho; have hbw1 := hbw0.trans (hb4.mono hbw0.size); have hu := OwnL.lAt wdS ho HWFA.out)
        | (go_at_call 20; (with_reducible refine (HLR.out _ _ hu (HAT.out _ hbw1)).mono ?_); rintro e v5 ⟨rfl, hb5⟩; have hbw2 := hbw1.trans (hb5.mono hbw1.size))
        | (go_at_call 24; (with_reducible refine (QL0.out _).mono ?_); rintro e v6 ⟨rfl, rfl⟩)
        | (go_at_call 24; (with_reducible refine (QL4.out _).mono ?_); rintro e v6 ⟨rfl, rfl⟩))
    have HE := Lib.hid (HB1.out.trans ((HUC.out.trans ((box_below hbw2).mono hsz10)).mono hs1))
    clear hbw0 hbw1 hbw2 hb4 hb5 ho hu
    go_wp2_with fail
    go_ret
    exact ⟨rfl, HE.out⟩
  · have hx1 : (xc == 0) = false := by simpa using hx0
    have HB9 := Lib.hid HBW.out
    clear qbx hx0
    go_wp2_with fail
    go_cut [149] from 116 to 148 (fun b ws => b = .bool false ∧ Below w8.heap.size w8 ws)
    case first =>
      have qwb := fun W => specWordRight_any bh bl W
      obtain ⟨WB, hWB⟩ : ∃ x, x = wdRight ⟨bh, bl⟩ := ⟨_, rfl⟩
      rw [← hWB] at qwb
      have QWB := Lib.hid qwb
      have hbw0 := HB9.out.drew
      clear qwb
      cases WA with
      | false =>
        clear hWB
        go_wp2_with fail
        refine wp_region_noPanic ?_
        refine wp_region_held_drew (S := fun w' => w'.cell? ⟨w1.heap.size, 0, none⟩ = some (.int .i64 nr) ∧ w'.cell? ⟨w1.heap.size, 1, none⟩ = some (.int .i64 ar) ∧ w'.cell? ⟨w1.heap.size, 2, none⟩ = some (.int .i64 ih) ∧ w'.cell? ⟨w1.heap.size, 3, none⟩ = some (.int .i64 il) ∧ w'.cell? ⟨w1.heap.size, 4, none⟩ = some (.slice ua (args.length) ucap) ∧ w'.cell? ⟨w5.heap.size, 0, none⟩ = some (.int .i64 xnr) ∧ w'.cell? ⟨w5.heap.size, 1, none⟩ = some (.int .i64 xar) ∧ w'.cell? ⟨w5.heap.size, 2, none⟩ = some (.int .i64 xih) ∧ w'.cell? ⟨w5.heap.size, 3, none⟩ = some (.int .i64 xil) ∧ w'.cell? ⟨w5.heap.size, 4, none⟩ = some (.slice uxa (xargs.length) uxcap) ∧ w'.cell? ⟨w5.heap.size, 5, none⟩ = some (.int .i64 xc) ∧ w'.cell? ⟨w5.heap.size + 1, 0, none⟩ = some (.int .i64 xnr) ∧ w'.cell? ⟨w5.heap.size + 1, 1, none⟩ = some (.int .i64 xar) ∧ w'.cell? ⟨w5.heap.size + 1, 2, none⟩ = some (.int .i64 xih) ∧ w'.cell? ⟨w5.heap.size + 1, 3, none⟩ = some (.int .i64 xil) ∧ w'.cell? ⟨w5.heap.size + 1, 4, none⟩ = some (.slice uya (xargs.length) uycap) ∧ w'.cell? ⟨w5.heap.size + 1, 5, none⟩ = some (.int .i64 xc) ∧ w'.cell? ⟨w6.heap.size, 0, none⟩ = some (.int .i64 ah) ∧ w'.cell? ⟨w6.heap.size, 1, none⟩ = some (.int .i64 al) ∧ w'.cell? ⟨w6.heap.size + 1, 0, none⟩ = some (.int .i64 bh) ∧ w'.cell? ⟨w6.heap.size + 1, 1, none⟩ = some (.int .i64 bl) ∧ w'.cell? ⟨w7.heap.size, 0, none⟩ = some (.int .i64 ch) ∧ w'.cell? ⟨w7.heap.size, 1, none⟩ = some (.int .i64 cl)) (by kernel_rfl) ?_ (fun hHeld => ?_)
        · exact HK.out _ hbw0
        refine wpAnyH_take (i := 0) (v := ?qv35) rfl (by kernel_rfl) (by kernel_rfl) (by kernel_rfl) (fun _ _ _ h => h) (Or.inl ⟨by rfl, ?qhy35⟩) (by assumption) ?qrest35
        case qhy35 =>
          intro W hSw
          try dsimp only at hSw
          go_simp
          try with_reducible rfl
        try simp only [Act.put, List.getElem_toArray, List.getElem_cons_zero, List.setIfInBounds_toArray, List.set_cons_zero, List.set_cons_succ]
        try simp only [List.getElem_cons_succ, List.getElem_cons_zero]
        refine wpAnyH_ready (rs := [1]) (by kernel_rfl) (by simp) ?_
        refine AllReadyH.cons rfl (fun K hK => ?_) AllReadyH.nil
        go_simp
        refine (QWS.out _).mono ?_
        rintro e v1 ⟨rfl, hb1⟩
        have hbw1 := hbw0.trans (hb1.mono hbw0.size)
        go_wp2_with fail
        refine hK.out _ _ ?_ (fun hHeld => ?_)
        · exact HK.out _ hbw1
        clear hK K hb1
        try simp only [Act.put, List.getElem_toArray, List.getElem_cons_zero, List.getElem_cons_succ, List.setIfInBounds_toArray, List.set_cons_zero, List.set_cons_succ]
        refine wpAnyH_take (i := 2) (v := ?qv36) rfl (by kernel_rfl) (by kernel_rfl) (by kernel_rfl) (fun _ _ _ h => h) (Or.inl ⟨by rfl, ?qhy36⟩) (by assumption) ?qrest36
        case qhy36 =>
          intro W hSw
          try dsimp only at hSw
          go_simp
          try with_reducible rfl
        try simp only [Act.put, List.getElem_toArray, List.getElem_cons_zero, List.getElem_cons_succ, List.setIfInBounds_toArray, List.set_cons_zero, List.set_cons_succ]
        refine wpAnyH_take (i := 3) (v := undef) rfl (by kernel_rfl) (by kernel_rfl) (by kernel_rfl) (fun _ _ _ h => h) (Or.inr ⟨by rfl, rfl⟩) (by assumption) ?_
        try simp only [Act.put, List.getElem_toArray, List.getElem_cons_zero, List.getElem_cons_succ, List.setIfInBounds_toArray, List.set_cons_zero, List.set_cons_succ]
        refine wpAnyH_take (i := 4) (v := undef) rfl (by kernel_rfl) (by kernel_rfl) (by kernel_rfl) (fun _ _ _ h => h) (Or.inr ⟨by rfl, rfl⟩) (by assumption) ?_
        try simp only [Act.put, List.getElem_toArray, List.getElem_cons_zero, List.getElem_cons_succ, List.setIfInBounds_toArray, List.set_cons_zero, List.set_cons_succ]
        refine wpAnyH_take (i := 5) (v := ?qv37) rfl (by kernel_rfl) (by kernel_rfl) (by kernel_rfl) (fun _ _ _ h => h) (Or.inl ⟨by rfl, ?qhy37⟩) (by assumption) ?qrest37
        case qhy37 =>
          intro W hSw
          try dsimp only at hSw
          go_simp
          try with_reducible rfl
        try simp only [Act.put, List.getElem_toArray, List.getElem_cons_zero, List.getElem_cons_succ, List.setIfInBounds_toArray, List.set_cons_zero, List.set_cons_succ]
        refine wpAnyH_take (i := 6) (v := ?qv38) rfl (by kernel_rfl) (by kernel_rfl) (by kernel_rfl) (fun _ _ _ h => h) (Or.inl ⟨by rfl, ?qhy38⟩) (by assumption) ?qrest38
        case qhy38 =>
          intro W hSw
          try dsimp only at hSw
          go_simp
          try with_reducible rfl
        try simp only [Act.put, List.getElem_toArray, List.getElem_cons_zero, List.getElem_cons_succ, List.setIfInBounds_toArray, List.set_cons_zero, List.set_cons_succ]
        refine wpAnyH_take (i := 7) (v := undef) rfl (by kernel_rfl) (by kernel_rfl) (by kernel_rfl) (fun _ _ _ h => h) (Or.inr ⟨by rfl, rfl⟩) (by assumption) ?_
        try simp only [Act.put, List.getElem_toArray, List.getElem_cons_zero, List.getElem_cons_succ, List.setIfInBounds_toArray, List.set_cons_zero, List.set_cons_succ]
        refine wpAnyH_take (i := 8) (v := undef) rfl (by kernel_rfl) (by kernel_rfl) (by kernel_rfl) (fun _ _ _ h => h) (Or.inr ⟨by rfl, rfl⟩) (by assumption) ?_
        try simp only [Act.put, List.getElem_toArray, List.getElem_cons_zero, List.getElem_cons_succ, List.setIfInBounds_toArray, List.set_cons_zero, List.set_cons_succ]
        refine wpAnyH_take (i := 9) (v := undef) rfl (by kernel_rfl) (by kernel_rfl) (by kernel_rfl) (fun _ _ _ h => h) (Or.inr ⟨by rfl, rfl⟩) (by assumption) ?_
        try simp only [Act.put, List.getElem_toArray, List.getElem_cons_zero, List.getElem_cons_succ, List.setIfInBounds_toArray, List.set_cons_zero, List.set_cons_succ]
        refine wpAnyH_take (i := 10) (v := undef) rfl (by kernel_rfl) (by kernel_rfl) (by kernel_rfl) (fun _ _ _ h => h) (Or.inr ⟨by rfl, rfl⟩) (by assumption) ?_
        try simp only [Act.put, List.getElem_toArray, List.getElem_cons_zero, List.getElem_cons_succ, List.setIfInBounds_toArray, List.set_cons_zero, List.set_cons_succ]
        refine wpAnyH_take (i := 11) (v := undef) rfl (by kernel_rfl) (by kernel_rfl) (by kernel_rfl) (fun _ _ _ h => h) (Or.inr ⟨by rfl, rfl⟩) (by assumption) ?_
        try simp only [Act.put, List.getElem_toArray, List.getElem_cons_zero, List.getElem_cons_succ, List.setIfInBounds_toArray, List.set_cons_zero, List.set_cons_succ]
        refine wpAnyH_take (i := 12) (v := undef) rfl (by kernel_rfl) (by kernel_rfl) (by kernel_rfl) (fun _ _ _ h => h) (Or.inr ⟨by rfl, rfl⟩) (by assumption) ?_
        try simp only [Act.put, List.getElem_toArray, List.getElem_cons_zero, List.getElem_cons_succ, List.setIfInBounds_toArray, List.set_cons_zero, List.set_cons_succ]
        refine wpAnyH_take (i := 13) (v := undef) rfl (by kernel_rfl) (by kernel_rfl) (by kernel_rfl) (fun _ _ _ h => h) (Or.inr ⟨by rfl, rfl⟩) (by assumption) ?_
        try simp only [Act.put, List.getElem_toArray, List.getElem_cons_zero, List.getElem_cons_succ, List.setIfInBounds_toArray, List.set_cons_zero, List.set_cons_succ]
        refine wpAnyH_take (i := 14) (v := undef) rfl (by kernel_rfl) (by kernel_rfl) (by kernel_rfl) (fun _ _ _ h => h) (Or.inr ⟨by rfl, rfl⟩) (by assumption) ?_
        try simp only [Act.put, List.getElem_toArray, List.getElem_cons_zero, List.getElem_cons_succ, List.setIfInBounds_toArray, List.set_cons_zero, List.set_cons_succ]
        refine wpAnyH_take (i := 15) (v := undef) rfl (by kernel_rfl) (by kernel_rfl) (by kernel_rfl) (fun _ _ _ h => h) (Or.inr ⟨by rfl, rfl⟩) (by assumption) ?_
        try simp only [Act.put, List.getElem_toArray, List.getElem_cons_zero, List.getElem_cons_succ, List.setIfInBounds_toArray, List.set_cons_zero, List.set_cons_succ]
        refine wpAnyH_take (i := 16) (v := undef) rfl (by kernel_rfl) (by kernel_rfl) (by kernel_rfl) (fun _ _ _ h => h) (Or.inr ⟨by rfl, rfl⟩) (by assumption) ?_
        try simp only [Act.put, List.getElem_toArray, List.getElem_cons_zero, List.getElem_cons_succ, List.setIfInBounds_toArray, List.set_cons_zero, List.set_cons_succ]
        refine wpAnyH_take (i := 17) (v := undef) rfl (by kernel_rfl) (by kernel_rfl) (by kernel_rfl) (fun _ _ _ h => h) (Or.inr ⟨by rfl, rfl⟩) (by assumption) ?_
        try simp only [Act.put, List.getElem_toArray, List.getElem_cons_zero, List.getElem_cons_succ, List.setIfInBounds_toArray, List.set_cons_zero, List.set_cons_succ]
        refine wpAnyH_take (i := 18) (v := undef) rfl (by kernel_rfl) (by kernel_rfl) (by kernel_rfl) (fun _ _ _ h => h) (Or.inr ⟨by rfl, rfl⟩) (by assumption) ?_
        try simp only [Act.put, List.getElem_toArray, List.getElem_cons_zero, List.getElem_cons_succ, List.setIfInBounds_toArray, List.set_cons_zero, List.set_cons_succ]
        refine wpAnyH_take (i := 19) (v := undef) rfl (by kernel_rfl) (by kernel_rfl) (by kernel_rfl) (fun _ _ _ h => h) (Or.inr ⟨by rfl, rfl⟩) (by assumption) ?_
        try simp only [Act.put, List.getElem_toArray, List.getElem_cons_zero, List.getElem_cons_succ, List.setIfInBounds_toArray, List.set_cons_zero, List.set_cons_succ]
        refine wpAnyH_take (i := 20) (v := undef) rfl (by kernel_rfl) (by kernel_rfl) (by kernel_rfl) (fun _ _ _ h => h) (Or.inr ⟨by rfl, rfl⟩) (by assumption) ?_
        try simp only [Act.put, List.getElem_toArray, List.getElem_cons_zero, List.getElem_cons_succ, List.setIfInBounds_toArray, List.set_cons_zero, List.set_cons_succ]
        refine wpAnyH_take (i := 21) (v := undef) rfl (by kernel_rfl) (by kernel_rfl) (by kernel_rfl) (fun _ _ _ h => h) (Or.inr ⟨by rfl, rfl⟩) (by assumption) ?_
        try simp only [Act.put, List.getElem_toArray, List.getElem_cons_zero, List.getElem_cons_succ, List.setIfInBounds_toArray, List.set_cons_zero, List.set_cons_succ]
        refine wpAnyH_take (i := 22) (v := undef) rfl (by kernel_rfl) (by kernel_rfl) (by kernel_rfl) (fun _ _ _ h => h) (Or.inr ⟨by rfl, rfl⟩) (by assumption) ?_
        try simp only [Act.put, List.getElem_toArray, List.getElem_cons_zero, List.getElem_cons_succ, List.setIfInBounds_toArray, List.set_cons_zero, List.set_cons_succ]
        refine wpAnyH_take (i := 23) (v := undef) rfl (by kernel_rfl) (by kernel_rfl) (by kernel_rfl) (fun _ _ _ h => h) (Or.inr ⟨by rfl, rfl⟩) (by assumption) ?_
        try simp only [Act.put, List.getElem_toArray, List.getElem_cons_zero, List.getElem_cons_succ, List.setIfInBounds_toArray, List.set_cons_zero, List.set_cons_succ]
        refine wpAnyH_take (i := 24) (v := undef) rfl (by kernel_rfl) (by kernel_rfl) (by kernel_rfl) (fun _ _ _ h => h) (Or.inr ⟨by rfl, rfl⟩) (by assumption) ?_
        try simp only [Act.put, List.getElem_toArray, List.getElem_cons_zero, List.getElem_cons_succ, List.setIfInBounds_toArray, List.set_cons_zero, List.set_cons_succ]
        refine wpAnyH_take (i := 25) (v := undef) rfl (by kernel_rfl) (by kernel_rfl) (by kernel_rfl) (fun _ _ _ h => h) (Or.inr ⟨by rfl, rfl⟩) (by assumption) ?_
        try simp only [Act.put, List.getElem_toArray, List.getElem_cons_zero, List.getElem_cons_succ, List.setIfInBounds_toArray, List.set_cons_zero, List.set_cons_succ]
        refine wpAnyH_take (i := 26) (v := undef) rfl (by kernel_rfl) (by kernel_rfl) (by kernel_rfl) (fun _ _ _ h => h) (Or.inr ⟨by rfl, rfl⟩) (by assumption) ?_
        try simp only [Act.put, List.getElem_toArray, List.getElem_cons_zero, List.getElem_cons_succ, List.setIfInBounds_toArray, List.set_cons_zero, List.set_cons_succ]
        refine wpAnyH_take (i := 27) (v := undef) rfl (by kernel_rfl) (by kernel_rfl) (by kernel_rfl) (fun _ _ _ h => h) (Or.inr ⟨by rfl, rfl⟩) (by assumption) ?_
        try simp only [Act.put, List.getElem_toArray, List.getElem_cons_zero, List.getElem_cons_succ, List.setIfInBounds_toArray, List.set_cons_zero, List.set_cons_succ]
        refine wpAnyH_take (i := 28) (v := undef) rfl (by kernel_rfl) (by kernel_rfl) (by kernel_rfl) (fun _ _ _ h => h) (Or.inr ⟨by rfl, rfl⟩) (by assumption) ?_
        try simp only [Act.put, List.getElem_toArray, List.getElem_cons_zero, List.getElem_cons_succ, List.setIfInBounds_toArray, List.set_cons_zero, List.set_cons_succ]
        refine wpAnyH_take (i := 29) (v := undef) rfl (by kernel_rfl) (by kernel_rfl) (by kernel_rfl) (fun _ _ _ h => h) (Or.inr ⟨by rfl, rfl⟩) (by assumption) ?_
        try simp only [Act.put, List.getElem_toArray, List.getElem_cons_zero, List.getElem_cons_succ, List.setIfInBounds_toArray, List.set_cons_zero, List.set_cons_succ]
        refine wpAnyH_take (i := 30) (v := undef) rfl (by kernel_rfl) (by kernel_rfl) (by kernel_rfl) (fun _ _ _ h => h) (Or.inr ⟨by rfl, rfl⟩) (by assumption) ?_
        try simp only [Act.put, List.getElem_toArray, List.getElem_cons_zero, List.getElem_cons_succ, List.setIfInBounds_toArray, List.set_cons_zero, List.set_cons_succ]
        refine wpAnyH_take (i := 31) (v := undef) rfl (by kernel_rfl) (by kernel_rfl) (by kernel_rfl) (fun _ _ _ h => h) (Or.inr ⟨by rfl, rfl⟩) (by assumption) ?_
        try simp only [Act.put, List.getElem_toArray, List.getElem_cons_zero, List.getElem_cons_succ, List.setIfInBounds_toArray, List.set_cons_zero, List.set_cons_succ]
        refine wpAnyH_take (i := 32) (v := undef) rfl (by kernel_rfl) (by kernel_rfl) (by kernel_rfl) (fun _ _ _ h => h) (Or.inr ⟨by rfl, rfl⟩) (by assumption) ?_
        try simp only [Act.put, List.getElem_toArray, List.getElem_cons_zero, List.getElem_cons_succ, List.setIfInBounds_toArray, List.set_cons_zero, List.set_cons_succ]
        refine wpAnyH_take (i := 33) (v := ?qv39) rfl (by kernel_rfl) (by kernel_rfl) (by kernel_rfl) (fun _ _ _ h => h) (Or.inl ⟨by rfl, ?qhy39⟩) (by assumption) ?qrest39
        case qhy39 =>
          intro W hSw
          try dsimp only at hSw
          go_simp
          try with_reducible rfl
        try simp only [Act.put, List.getElem_toArray, List.getElem_cons_zero, List.getElem_cons_succ, List.setIfInBounds_toArray, List.set_cons_zero, List.set_cons_succ]
        refine wpAnyH_done (by kernel_rfl) ?_ _
        refine NoPanic.normal ?_
        go_wp2_with fail
        go_meet
        exact ⟨rfl, hbw1⟩
      | true =>
        cases WB with
        | false =>
          clear hWB
          go_wp2_with fail
          refine wp_region_noPanic ?_
          refine wp_region_held_drew (S := fun w' => w'.cell? ⟨w1.heap.size, 0, none⟩ = some (.int .i64 nr) ∧ w'.cell? ⟨w1.heap.size, 1, none⟩ = some (.int .i64 ar) ∧ w'.cell? ⟨w1.heap.size, 2, none⟩ = some (.int .i64 ih) ∧ w'.cell? ⟨w1.heap.size, 3, none⟩ = some (.int .i64 il) ∧ w'.cell? ⟨w1.heap.size, 4, none⟩ = some (.slice ua (args.length) ucap) ∧ w'.cell? ⟨w5.heap.size, 0, none⟩ = some (.int .i64 xnr) ∧ w'.cell? ⟨w5.heap.size, 1, none⟩ = some (.int .i64 xar) ∧ w'.cell? ⟨w5.heap.size, 2, none⟩ = some (.int .i64 xih) ∧ w'.cell? ⟨w5.heap.size, 3, none⟩ = some (.int .i64 xil) ∧ w'.cell? ⟨w5.heap.size, 4, none⟩ = some (.slice uxa (xargs.length) uxcap) ∧ w'.cell? ⟨w5.heap.size, 5, none⟩ = some (.int .i64 xc) ∧ w'.cell? ⟨w5.heap.size + 1, 0, none⟩ = some (.int .i64 xnr) ∧ w'.cell? ⟨w5.heap.size + 1, 1, none⟩ = some (.int .i64 xar) ∧ w'.cell? ⟨w5.heap.size + 1, 2, none⟩ = some (.int .i64 xih) ∧ w'.cell? ⟨w5.heap.size + 1, 3, none⟩ = some (.int .i64 xil) ∧ w'.cell? ⟨w5.heap.size + 1, 4, none⟩ = some (.slice uya (xargs.length) uycap) ∧ w'.cell? ⟨w5.heap.size + 1, 5, none⟩ = some (.int .i64 xc) ∧ w'.cell? ⟨w6.heap.size, 0, none⟩ = some (.int .i64 ah) ∧ w'.cell? ⟨w6.heap.size, 1, none⟩ = some (.int .i64 al) ∧ w'.cell? ⟨w6.heap.size + 1, 0, none⟩ = some (.int .i64 bh) ∧ w'.cell? ⟨w6.heap.size + 1, 1, none⟩ = some (.int .i64 bl) ∧ w'.cell? ⟨w7.heap.size, 0, none⟩ = some (.int .i64 ch) ∧ w'.cell? ⟨w7.heap.size, 1, none⟩ = some (.int .i64 cl)) (by kernel_rfl) ?_ (fun hHeld => ?_)
          · exact HK.out _ hbw0
          refine wpAnyH_take (i := 0) (v := ?qv40) rfl (by kernel_rfl) (by kernel_rfl) (by kernel_rfl) (fun _ _ _ h => h) (Or.inl ⟨by rfl, ?qhy40⟩) (by assumption) ?qrest40
          case qhy40 =>
            intro W hSw
            try dsimp only at hSw
            go_simp
            try with_reducible rfl
          try simp only [Act.put, List.getElem_toArray, List.getElem_cons_zero, List.setIfInBounds_toArray, List.set_cons_zero, List.set_cons_succ]
          try simp only [List.getElem_cons_succ, List.getElem_cons_zero]
          refine wpAnyH_ready (rs := [1]) (by kernel_rfl) (by simp) ?_
          refine AllReadyH.cons rfl (fun K hK => ?_) AllReadyH.nil
          go_simp
          refine (QWS.out _).mono ?_
          rintro e v1 ⟨rfl, hb1⟩
          have hbw1 := hbw0.trans (hb1.mono hbw0.size)
          go_wp2_with fail
          refine hK.out _ _ ?_ (fun hHeld => ?_)
          · exact HK.out _ hbw1
          clear hK K hb1
          try simp only [Act.put, List.getElem_toArray, List.getElem_cons_zero, List.getElem_cons_succ, List.setIfInBounds_toArray, List.set_cons_zero, List.set_cons_succ]
          refine wpAnyH_take (i := 2) (v := ?qv41) rfl (by kernel_rfl) (by kernel_rfl) (by kernel_rfl) (fun _ _ _ h => h) (Or.inl ⟨by rfl, ?qhy41⟩) (by assumption) ?qrest41
          case qhy41 =>
            intro W hSw
            try dsimp only at hSw
            go_simp
            try with_reducible rfl
          try simp only [Act.put, List.getElem_toArray, List.getElem_cons_zero, List.getElem_cons_succ, List.setIfInBounds_toArray, List.set_cons_zero, List.set_cons_succ]
          refine wpAnyH_take (i := 3) (v := ?qv42) rfl (by kernel_rfl) (by kernel_rfl) (by kernel_rfl) (fun _ _ _ h => h) (Or.inl ⟨by rfl, ?qhy42⟩) (by assumption) ?qrest42
          case qhy42 =>
            intro W hSw
            try dsimp only at hSw
            go_simp
            try with_reducible rfl
          try simp only [Act.put, List.getElem_toArray, List.getElem_cons_zero, List.getElem_cons_succ, List.setIfInBounds_toArray, List.set_cons_zero, List.set_cons_succ]
          refine wpAnyH_ready (rs := [4]) (by kernel_rfl) (by simp) ?_
          refine AllReadyH.cons rfl (fun K hK => ?_) AllReadyH.nil
          go_simp
          refine (QWB.out _).mono ?_
          rintro e v2 ⟨rfl, hb2⟩
          have hbw2 := hbw1.trans (hb2.mono hbw1.size)
          go_wp2_with fail
          refine hK.out _ _ ?_ (fun hHeld => ?_)
          · exact HK.out _ hbw2
          clear hK K hb2
          try simp only [Act.put, List.getElem_toArray, List.getElem_cons_zero, List.getElem_cons_succ, List.setIfInBounds_toArray, List.set_cons_zero, List.set_cons_succ]
          refine wpAnyH_take (i := 5) (v := ?qv43) rfl (by kernel_rfl) (by kernel_rfl) (by kernel_rfl) (fun _ _ _ h => h) (Or.inl ⟨by rfl, ?qhy43⟩) (by assumption) ?qrest43
          case qhy43 =>
            intro W hSw
            try dsimp only at hSw
            go_simp
            try with_reducible rfl
          try simp only [Act.put, List.getElem_toArray, List.getElem_cons_zero, List.getElem_cons_succ, List.setIfInBounds_toArray, List.set_cons_zero, List.set_cons_succ]
          refine wpAnyH_take (i := 6) (v := ?qv44) rfl (by kernel_rfl) (by kernel_rfl) (by kernel_rfl) (fun _ _ _ h => h) (Or.inl ⟨by rfl, ?qhy44⟩) (by assumption) ?qrest44
          case qhy44 =>
            intro W hSw
            try dsimp only at hSw
            go_simp
            try with_reducible rfl
          try simp only [Act.put, List.getElem_toArray, List.getElem_cons_zero, List.getElem_cons_succ, List.setIfInBounds_toArray, List.set_cons_zero, List.set_cons_succ]
          refine wpAnyH_take (i := 7) (v := undef) rfl (by kernel_rfl) (by kernel_rfl) (by kernel_rfl) (fun _ _ _ h => h) (Or.inr ⟨by rfl, rfl⟩) (by assumption) ?_
          try simp only [Act.put, List.getElem_toArray, List.getElem_cons_zero, List.getElem_cons_succ, List.setIfInBounds_toArray, List.set_cons_zero, List.set_cons_succ]
          refine wpAnyH_take (i := 8) (v := undef) rfl (by kernel_rfl) (by kernel_rfl) (by kernel_rfl) (fun _ _ _ h => h) (Or.inr ⟨by rfl, rfl⟩) (by assumption) ?_
          try simp only [Act.put, List.getElem_toArray, List.getElem_cons_zero, List.getElem_cons_succ, List.setIfInBounds_toArray, List.set_cons_zero, List.set_cons_succ]
          refine wpAnyH_take (i := 9) (v := undef) rfl (by kernel_rfl) (by kernel_rfl) (by kernel_rfl) (fun _ _ _ h => h) (Or.inr ⟨by rfl, rfl⟩) (by assumption) ?_
          try simp only [Act.put, List.getElem_toArray, List.getElem_cons_zero, List.getElem_cons_succ, List.setIfInBounds_toArray, List.set_cons_zero, List.set_cons_succ]
          refine wpAnyH_take (i := 10) (v := undef) rfl (by kernel_rfl) (by kernel_rfl) (by kernel_rfl) (fun _ _ _ h => h) (Or.inr ⟨by rfl, rfl⟩) (by assumption) ?_
          try simp only [Act.put, List.getElem_toArray, List.getElem_cons_zero, List.getElem_cons_succ, List.setIfInBounds_toArray, List.set_cons_zero, List.set_cons_succ]
          refine wpAnyH_take (i := 11) (v := undef) rfl (by kernel_rfl) (by kernel_rfl) (by kernel_rfl) (fun _ _ _ h => h) (Or.inr ⟨by rfl, rfl⟩) (by assumption) ?_
          try simp only [Act.put, List.getElem_toArray, List.getElem_cons_zero, List.getElem_cons_succ, List.setIfInBounds_toArray, List.set_cons_zero, List.set_cons_succ]
          refine wpAnyH_take (i := 12) (v := undef) rfl (by kernel_rfl) (by kernel_rfl) (by kernel_rfl) (fun _ _ _ h => h) (Or.inr ⟨by rfl, rfl⟩) (by assumption) ?_
          try simp only [Act.put, List.getElem_toArray, List.getElem_cons_zero, List.getElem_cons_succ, List.setIfInBounds_toArray, List.set_cons_zero, List.set_cons_succ]
          refine wpAnyH_take (i := 13) (v := undef) rfl (by kernel_rfl) (by kernel_rfl) (by kernel_rfl) (fun _ _ _ h => h) (Or.inr ⟨by rfl, rfl⟩) (by assumption) ?_
          try simp only [Act.put, List.getElem_toArray, List.getElem_cons_zero, List.getElem_cons_succ, List.setIfInBounds_toArray, List.set_cons_zero, List.set_cons_succ]
          refine wpAnyH_take (i := 14) (v := undef) rfl (by kernel_rfl) (by kernel_rfl) (by kernel_rfl) (fun _ _ _ h => h) (Or.inr ⟨by rfl, rfl⟩) (by assumption) ?_
          try simp only [Act.put, List.getElem_toArray, List.getElem_cons_zero, List.getElem_cons_succ, List.setIfInBounds_toArray, List.set_cons_zero, List.set_cons_succ]
          refine wpAnyH_take (i := 15) (v := undef) rfl (by kernel_rfl) (by kernel_rfl) (by kernel_rfl) (fun _ _ _ h => h) (Or.inr ⟨by rfl, rfl⟩) (by assumption) ?_
          try simp only [Act.put, List.getElem_toArray, List.getElem_cons_zero, List.getElem_cons_succ, List.setIfInBounds_toArray, List.set_cons_zero, List.set_cons_succ]
          refine wpAnyH_take (i := 16) (v := undef) rfl (by kernel_rfl) (by kernel_rfl) (by kernel_rfl) (fun _ _ _ h => h) (Or.inr ⟨by rfl, rfl⟩) (by assumption) ?_
          try simp only [Act.put, List.getElem_toArray, List.getElem_cons_zero, List.getElem_cons_succ, List.setIfInBounds_toArray, List.set_cons_zero, List.set_cons_succ]
          refine wpAnyH_take (i := 17) (v := undef) rfl (by kernel_rfl) (by kernel_rfl) (by kernel_rfl) (fun _ _ _ h => h) (Or.inr ⟨by rfl, rfl⟩) (by assumption) ?_
          try simp only [Act.put, List.getElem_toArray, List.getElem_cons_zero, List.getElem_cons_succ, List.setIfInBounds_toArray, List.set_cons_zero, List.set_cons_succ]
          refine wpAnyH_take (i := 18) (v := undef) rfl (by kernel_rfl) (by kernel_rfl) (by kernel_rfl) (fun _ _ _ h => h) (Or.inr ⟨by rfl, rfl⟩) (by assumption) ?_
          try simp only [Act.put, List.getElem_toArray, List.getElem_cons_zero, List.getElem_cons_succ, List.setIfInBounds_toArray, List.set_cons_zero, List.set_cons_succ]
          refine wpAnyH_take (i := 19) (v := undef) rfl (by kernel_rfl) (by kernel_rfl) (by kernel_rfl) (fun _ _ _ h => h) (Or.inr ⟨by rfl, rfl⟩) (by assumption) ?_
          try simp only [Act.put, List.getElem_toArray, List.getElem_cons_zero, List.getElem_cons_succ, List.setIfInBounds_toArray, List.set_cons_zero, List.set_cons_succ]
          refine wpAnyH_take (i := 20) (v := undef) rfl (by kernel_rfl) (by kernel_rfl) (by kernel_rfl) (fun _ _ _ h => h) (Or.inr ⟨by rfl, rfl⟩) (by assumption) ?_
          try simp only [Act.put, List.getElem_toArray, List.getElem_cons_zero, List.getElem_cons_succ, List.setIfInBounds_toArray, List.set_cons_zero, List.set_cons_succ]
          refine wpAnyH_take (i := 21) (v := undef) rfl (by kernel_rfl) (by kernel_rfl) (by kernel_rfl) (fun _ _ _ h => h) (Or.inr ⟨by rfl, rfl⟩) (by assumption) ?_
          try simp only [Act.put, List.getElem_toArray, List.getElem_cons_zero, List.getElem_cons_succ, List.setIfInBounds_toArray, List.set_cons_zero, List.set_cons_succ]
          refine wpAnyH_take (i := 22) (v := undef) rfl (by kernel_rfl) (by kernel_rfl) (by kernel_rfl) (fun _ _ _ h => h) (Or.inr ⟨by rfl, rfl⟩) (by assumption) ?_
          try simp only [Act.put, List.getElem_toArray, List.getElem_cons_zero, List.getElem_cons_succ, List.setIfInBounds_toArray, List.set_cons_zero, List.set_cons_succ]
          refine wpAnyH_take (i := 23) (v := undef) rfl (by kernel_rfl) (by kernel_rfl) (by kernel_rfl) (fun _ _ _ h => h) (Or.inr ⟨by rfl, rfl⟩) (by assumption) ?_
          try simp only [Act.put, List.getElem_toArray, List.getElem_cons_zero, List.getElem_cons_succ, List.setIfInBounds_toArray, List.set_cons_zero, List.set_cons_succ]
          refine wpAnyH_take (i := 24) (v := undef) rfl (by kernel_rfl) (by kernel_rfl) (by kernel_rfl) (fun _ _ _ h => h) (Or.inr ⟨by rfl, rfl⟩) (by assumption) ?_
          try simp only [Act.put, List.getElem_toArray, List.getElem_cons_zero, List.getElem_cons_succ, List.setIfInBounds_toArray, List.set_cons_zero, List.set_cons_succ]
          refine wpAnyH_take (i := 25) (v := undef) rfl (by kernel_rfl) (by kernel_rfl) (by kernel_rfl) (fun _ _ _ h => h) (Or.inr ⟨by rfl, rfl⟩) (by assumption) ?_
          try simp only [Act.put, List.getElem_toArray, List.getElem_cons_zero, List.getElem_cons_succ, List.setIfInBounds_toArray, List.set_cons_zero, List.set_cons_succ]
          refine wpAnyH_take (i := 26) (v := undef) rfl (by kernel_rfl) (by kernel_rfl) (by kernel_rfl) (fun _ _ _ h => h) (Or.inr ⟨by rfl, rfl⟩) (by assumption) ?_
          try simp only [Act.put, List.getElem_toArray, List.getElem_cons_zero, List.getElem_cons_succ, List.setIfInBounds_toArray, List.set_cons_zero, List.set_cons_succ]
          refine wpAnyH_take (i := 27) (v := undef) rfl (by kernel_rfl) (by kernel_rfl) (by kernel_rfl) (fun _ _ _ h => h) (Or.inr ⟨by rfl, rfl⟩) (by assumption) ?_
          try simp only [Act.put, List.getElem_toArray, List.getElem_cons_zero, List.getElem_cons_succ, List.setIfInBounds_toArray, List.set_cons_zero, List.set_cons_succ]
          refine wpAnyH_take (i := 28) (v := undef) rfl (by kernel_rfl) (by kernel_rfl) (by kernel_rfl) (fun _ _ _ h => h) (Or.inr ⟨by rfl, rfl⟩) (by assumption) ?_
          try simp only [Act.put, List.getElem_toArray, List.getElem_cons_zero, List.getElem_cons_succ, List.setIfInBounds_toArray, List.set_cons_zero, List.set_cons_succ]
          refine wpAnyH_take (i := 29) (v := undef) rfl (by kernel_rfl) (by kernel_rfl) (by kernel_rfl) (fun _ _ _ h => h) (Or.inr ⟨by rfl, rfl⟩) (by assumption) ?_
          try simp only [Act.put, List.getElem_toArray, List.getElem_cons_zero, List.getElem_cons_succ, List.setIfInBounds_toArray, List.set_cons_zero, List.set_cons_succ]
          refine wpAnyH_take (i := 30) (v := undef) rfl (by kernel_rfl) (by kernel_rfl) (by kernel_rfl) (fun _ _ _ h => h) (Or.inr ⟨by rfl, rfl⟩) (by assumption) ?_
          try simp only [Act.put, List.getElem_toArray, List.getElem_cons_zero, List.getElem_cons_succ, List.setIfInBounds_toArray, List.set_cons_zero, List.set_cons_succ]
          refine wpAnyH_take (i := 31) (v := undef) rfl (by kernel_rfl) (by kernel_rfl) (by kernel_rfl) (fun _ _ _ h => h) (Or.inr ⟨by rfl, rfl⟩) (by assumption) ?_
          try simp only [Act.put, List.getElem_toArray, List.getElem_cons_zero, List.getElem_cons_succ, List.setIfInBounds_toArray, List.set_cons_zero, List.set_cons_succ]
          refine wpAnyH_take (i := 32) (v := undef) rfl (by kernel_rfl) (by kernel_rfl) (by kernel_rfl) (fun _ _ _ h => h) (Or.inr ⟨by rfl, rfl⟩) (by assumption) ?_
          try simp only [Act.put, List.getElem_toArray, List.getElem_cons_zero, List.getElem_cons_succ, List.setIfInBounds_toArray, List.set_cons_zero, List.set_cons_succ]
          refine wpAnyH_take (i := 33) (v := ?qv45) rfl (by kernel_rfl) (by kernel_rfl) (by kernel_rfl) (fun _ _ _ h => h) (Or.inl ⟨by rfl, ?qhy45⟩) (by assumption) ?qrest45
          case qhy45 =>
            intro W hSw
            try dsimp only at hSw
            go_simp
            try with_reducible rfl
          try simp only [Act.put, List.getElem_toArray, List.getElem_cons_zero, List.getElem_cons_succ, List.setIfInBounds_toArray, List.set_cons_zero, List.set_cons_succ]
          refine wpAnyH_done (by kernel_rfl) ?_ _
          refine NoPanic.normal ?_
          go_wp2_with fail
          go_meet
          exact ⟨rfl, hbw2⟩
        | true =>
          have qb := and_both HWA.out.symm hWB.symm
          rw [← HCC.out] at qb
          have qa1 := fun W => implWordAnd_any ch cl ah al W
          have qa2 := fun W => implWordAnd_any bh bl ah al W
          rw [qb.1] at qa1
          rw [qb.2] at qa2
          have QA1 := Lib.hid qa1
          have QA2 := Lib.hid qa2
          have qab := fun W => eqWordAny ah al bh bl W
          clear qb qa1 qa2
          by_cases hab : (⟨ah, al⟩ : Wd) = ⟨bh, bl⟩
          · rw [decide_eq_true hab] at qab
            clear hWB hab
            go_wp2_with fail
            refine wp_region_noPanic ?_
            refine wp_region_held_drew (S := fun w' => w'.cell? ⟨w1.heap.size, 0, none⟩ = some (.int .i64 nr) ∧ w'.cell? ⟨w1.heap.size, 1, none⟩ = some (.int .i64 ar) ∧ w'.cell? ⟨w1.heap.size, 2, none⟩ = some (.int .i64 ih) ∧ w'.cell? ⟨w1.heap.size, 3, none⟩ = some (.int .i64 il) ∧ w'.cell? ⟨w1.heap.size, 4, none⟩ = some (.slice ua (args.length) ucap) ∧ w'.cell? ⟨w5.heap.size, 0, none⟩ = some (.int .i64 xnr) ∧ w'.cell? ⟨w5.heap.size, 1, none⟩ = some (.int .i64 xar) ∧ w'.cell? ⟨w5.heap.size, 2, none⟩ = some (.int .i64 xih) ∧ w'.cell? ⟨w5.heap.size, 3, none⟩ = some (.int .i64 xil) ∧ w'.cell? ⟨w5.heap.size, 4, none⟩ = some (.slice uxa (xargs.length) uxcap) ∧ w'.cell? ⟨w5.heap.size, 5, none⟩ = some (.int .i64 xc) ∧ w'.cell? ⟨w5.heap.size + 1, 0, none⟩ = some (.int .i64 xnr) ∧ w'.cell? ⟨w5.heap.size + 1, 1, none⟩ = some (.int .i64 xar) ∧ w'.cell? ⟨w5.heap.size + 1, 2, none⟩ = some (.int .i64 xih) ∧ w'.cell? ⟨w5.heap.size + 1, 3, none⟩ = some (.int .i64 xil) ∧ w'.cell? ⟨w5.heap.size + 1, 4, none⟩ = some (.slice uya (xargs.length) uycap) ∧ w'.cell? ⟨w5.heap.size + 1, 5, none⟩ = some (.int .i64 xc) ∧ w'.cell? ⟨w6.heap.size, 0, none⟩ = some (.int .i64 ah) ∧ w'.cell? ⟨w6.heap.size, 1, none⟩ = some (.int .i64 al) ∧ w'.cell? ⟨w6.heap.size + 1, 0, none⟩ = some (.int .i64 bh) ∧ w'.cell? ⟨w6.heap.size + 1, 1, none⟩ = some (.int .i64 bl) ∧ w'.cell? ⟨w7.heap.size, 0, none⟩ = some (.int .i64 ch) ∧ w'.cell? ⟨w7.heap.size, 1, none⟩ = some (.int .i64 cl)) (by kernel_rfl) ?_ (fun hHeld => ?_)
            · exact HK.out _ hbw0
            refine wpAnyH_take (i := 0) (v := ?qv46) rfl (by kernel_rfl) (by kernel_rfl) (by kernel_rfl) (fun _ _ _ h => h) (Or.inl ⟨by rfl, ?qhy46⟩) (by assumption) ?qrest46
            case qhy46 =>
              intro W hSw
              try dsimp only at hSw
              go_simp
              try with_reducible rfl
            try simp only [Act.put, List.getElem_toArray, List.getElem_cons_zero, List.setIfInBounds_toArray, List.set_cons_zero, List.set_cons_succ]
            try simp only [List.getElem_cons_succ, List.getElem_cons_zero]
            refine wpAnyH_ready (rs := [1]) (by kernel_rfl) (by simp) ?_
            refine AllReadyH.cons rfl (fun K hK => ?_) AllReadyH.nil
            go_simp
            refine (QWS.out _).mono ?_
            rintro e v1 ⟨rfl, hb1⟩
            have hbw1 := hbw0.trans (hb1.mono hbw0.size)
            go_wp2_with fail
            refine hK.out _ _ ?_ (fun hHeld => ?_)
            · exact HK.out _ hbw1
            clear hK K hb1
            try simp only [Act.put, List.getElem_toArray, List.getElem_cons_zero, List.getElem_cons_succ, List.setIfInBounds_toArray, List.set_cons_zero, List.set_cons_succ]
            refine wpAnyH_take (i := 2) (v := ?qv47) rfl (by kernel_rfl) (by kernel_rfl) (by kernel_rfl) (fun _ _ _ h => h) (Or.inl ⟨by rfl, ?qhy47⟩) (by assumption) ?qrest47
            case qhy47 =>
              intro W hSw
              try dsimp only at hSw
              go_simp
              try with_reducible rfl
            try simp only [Act.put, List.getElem_toArray, List.getElem_cons_zero, List.getElem_cons_succ, List.setIfInBounds_toArray, List.set_cons_zero, List.set_cons_succ]
            refine wpAnyH_take (i := 3) (v := ?qv48) rfl (by kernel_rfl) (by kernel_rfl) (by kernel_rfl) (fun _ _ _ h => h) (Or.inl ⟨by rfl, ?qhy48⟩) (by assumption) ?qrest48
            case qhy48 =>
              intro W hSw
              try dsimp only at hSw
              go_simp
              try with_reducible rfl
            try simp only [Act.put, List.getElem_toArray, List.getElem_cons_zero, List.getElem_cons_succ, List.setIfInBounds_toArray, List.set_cons_zero, List.set_cons_succ]
            refine wpAnyH_ready (rs := [4]) (by kernel_rfl) (by simp) ?_
            refine AllReadyH.cons rfl (fun K hK => ?_) AllReadyH.nil
            go_simp
            refine (QWB.out _).mono ?_
            rintro e v2 ⟨rfl, hb2⟩
            have hbw2 := hbw1.trans (hb2.mono hbw1.size)
            go_wp2_with fail
            refine hK.out _ _ ?_ (fun hHeld => ?_)
            · exact HK.out _ hbw2
            clear hK K hb2
            try simp only [Act.put, List.getElem_toArray, List.getElem_cons_zero, List.getElem_cons_succ, List.setIfInBounds_toArray, List.set_cons_zero, List.set_cons_succ]
            refine wpAnyH_take (i := 5) (v := ?qv49) rfl (by kernel_rfl) (by kernel_rfl) (by kernel_rfl) (fun _ _ _ h => h) (Or.inl ⟨by rfl, ?qhy49⟩) (by assumption) ?qrest49
            case qhy49 =>
              intro W hSw
              try dsimp only at hSw
              go_simp
              try with_reducible rfl
            try simp only [Act.put, List.getElem_toArray, List.getElem_cons_zero, List.getElem_cons_succ, List.setIfInBounds_toArray, List.set_cons_zero, List.set_cons_succ]
            refine wpAnyH_take (i := 6) (v := ?qv50) rfl (by kernel_rfl) (by kernel_rfl) (by kernel_rfl) (fun _ _ _ h => h) (Or.inl ⟨by rfl, ?qhy50⟩) (by assumption) ?qrest50
            case qhy50 =>
              intro W hSw
              try dsimp only at hSw
              go_simp
              try with_reducible rfl
            try simp only [Act.put, List.getElem_toArray, List.getElem_cons_zero, List.getElem_cons_succ, List.setIfInBounds_toArray, List.set_cons_zero, List.set_cons_succ]
            refine wpAnyH_take (i := 7) (v := ?qv51) rfl (by kernel_rfl) (by kernel_rfl) (by kernel_rfl) (fun _ _ _ h => h) (Or.inl ⟨by rfl, ?qhy51⟩) (by assumption) ?qrest51
            case qhy51 =>
              intro W hSw
              try dsimp only at hSw
              go_simp
              try with_reducible rfl
            try simp only [Act.put, List.getElem_toArray, List.getElem_cons_zero, List.getElem_cons_succ, List.setIfInBounds_toArray, List.set_cons_zero, List.set_cons_succ]
            refine wpAnyH_take (i := 8) (v := ?qv52) rfl (by kernel_rfl) (by kernel_rfl) (by kernel_rfl) (fun _ _ _ h => h) (Or.inl ⟨by rfl, ?qhy52⟩) (by assumption) ?qrest52
            case qhy52 =>
              intro W hSw
              try dsimp only at hSw
              go_simp
              try with_reducible rfl
            try simp only [Act.put, List.getElem_toArray, List.getElem_cons_zero, List.getElem_cons_succ, List.setIfInBounds_toArray, List.set_cons_zero, List.set_cons_succ]
            refine wpAnyH_take (i := 9) (v := ?qv53) rfl (by kernel_rfl) (by kernel_rfl) (by kernel_rfl) (fun _ _ _ h => h) (Or.inl ⟨by rfl, ?qhy53⟩) (by assumption) ?qrest53
            case qhy53 =>
              intro W hSw
              try dsimp only at hSw
              go_simp
              try with_reducible rfl
            try simp only [Act.put, List.getElem_toArray, List.getElem_cons_zero, List.getElem_cons_succ, List.setIfInBounds_toArray, List.set_cons_zero, List.set_cons_succ]
            refine wpAnyH_take (i := 10) (v := ?qv54) rfl (by kernel_rfl) (by kernel_rfl) (by kernel_rfl) (fun _ _ _ h => h) (Or.inl ⟨by rfl, ?qhy54⟩) (by assumption) ?qrest54
            case qhy54 =>
              intro W hSw
              try dsimp only at hSw
              go_simp
              try with_reducible rfl
            try simp only [Act.put, List.getElem_toArray, List.getElem_cons_zero, List.getElem_cons_succ, List.setIfInBounds_toArray, List.set_cons_zero, List.set_cons_succ]
            refine wpAnyH_take (i := 11) (v := undef) rfl (by kernel_rfl) (by kernel_rfl) (by kernel_rfl) (fun _ _ _ h => h) (Or.inr ⟨by rfl, rfl⟩) (by assumption) ?_
            try simp only [Act.put, List.getElem_toArray, List.getElem_cons_zero, List.getElem_cons_succ, List.setIfInBounds_toArray, List.set_cons_zero, List.set_cons_succ]
            refine wpAnyH_take (i := 12) (v := undef) rfl (by kernel_rfl) (by kernel_rfl) (by kernel_rfl) (fun _ _ _ h => h) (Or.inr ⟨by rfl, rfl⟩) (by assumption) ?_
            try simp only [Act.put, List.getElem_toArray, List.getElem_cons_zero, List.getElem_cons_succ, List.setIfInBounds_toArray, List.set_cons_zero, List.set_cons_succ]
            refine wpAnyH_take (i := 13) (v := undef) rfl (by kernel_rfl) (by kernel_rfl) (by kernel_rfl) (fun _ _ _ h => h) (Or.inr ⟨by rfl, rfl⟩) (by assumption) ?_
            try simp only [Act.put, List.getElem_toArray, List.getElem_cons_zero, List.getElem_cons_succ, List.setIfInBounds_toArray, List.set_cons_zero, List.set_cons_succ]
            refine wpAnyH_take (i := 14) (v := undef) rfl (by kernel_rfl) (by kernel_rfl) (by kernel_rfl) (fun _ _ _ h => h) (Or.inr ⟨by rfl, rfl⟩) (by assumption) ?_
            try simp only [Act.put, List.getElem_toArray, List.getElem_cons_zero, List.getElem_cons_succ, List.setIfInBounds_toArray, List.set_cons_zero, List.set_cons_succ]
            refine wpAnyH_take (i := 15) (v := undef) rfl (by kernel_rfl) (by kernel_rfl) (by kernel_rfl) (fun _ _ _ h => h) (Or.inr ⟨by rfl, rfl⟩) (by assumption) ?_
            try simp only [Act.put, List.getElem_toArray, List.getElem_cons_zero, List.getElem_cons_succ, List.setIfInBounds_toArray, List.set_cons_zero, List.set_cons_succ]
            refine wpAnyH_take (i := 16) (v := undef) rfl (by kernel_rfl) (by kernel_rfl) (by kernel_rfl) (fun _ _ _ h => h) (Or.inr ⟨by rfl, rfl⟩) (by assumption) ?_
            try simp only [Act.put, List.getElem_toArray, List.getElem_cons_zero, List.getElem_cons_succ, List.setIfInBounds_toArray, List.set_cons_zero, List.set_cons_succ]
            refine wpAnyH_take (i := 17) (v := undef) rfl (by kernel_rfl) (by kernel_rfl) (by kernel_rfl) (fun _ _ _ h => h) (Or.inr ⟨by rfl, rfl⟩) (by assumption) ?_
            try simp only [Act.put, List.getElem_toArray, List.getElem_cons_zero, List.getElem_cons_succ, List.setIfInBounds_toArray, List.set_cons_zero, List.set_cons_succ]
            refine wpAnyH_take (i := 18) (v := ?qv55) rfl (by kernel_rfl) (by kernel_rfl) (by kernel_rfl) (fun _ _ _ h => h) (Or.inl ⟨by rfl, ?qhy55⟩) (by assumption) ?qrest55
            case qhy55 =>
              intro W hSw
              try dsimp only at hSw
              go_simp
              try with_reducible rfl
            try simp only [Act.put, List.getElem_toArray, List.getElem_cons_zero, List.getElem_cons_succ, List.setIfInBounds_toArray, List.set_cons_zero, List.set_cons_succ]
            refine wpAnyH_take (i := 19) (v := ?qv56) rfl (by kernel_rfl) (by kernel_rfl) (by kernel_rfl) (fun _ _ _ h => h) (Or.inl ⟨by rfl, ?qhy56⟩) (by assumption) ?qrest56
            case qhy56 =>
              intro W hSw
              try dsimp only at hSw
              go_simp
              try with_reducible rfl
            try simp only [Act.put, List.getElem_toArray, List.getElem_cons_zero, List.getElem_cons_succ, List.setIfInBounds_toArray, List.set_cons_zero, List.set_cons_succ]
            refine wpAnyH_take (i := 20) (v := ?qv57) rfl (by kernel_rfl) (by kernel_rfl) (by kernel_rfl) (fun _ _ _ h => h) (Or.inl ⟨by rfl, ?qhy57⟩) (by assumption) ?qrest57
            case qhy57 =>
              intro W hSw
              try dsimp only at hSw
              go_simp
              try with_reducible rfl
            try simp only [Act.put, List.getElem_toArray, List.getElem_cons_zero, List.getElem_cons_succ, List.setIfInBounds_toArray, List.set_cons_zero, List.set_cons_succ]
            refine wpAnyH_take (i := 21) (v := ?qv58) rfl (by kernel_rfl) (by kernel_rfl) (by kernel_rfl) (fun _ _ _ h => h) (Or.inl ⟨by rfl, ?qhy58⟩) (by assumption) ?qrest58
            case qhy58 =>
              intro W hSw
              try dsimp only at hSw
              go_simp
              try with_reducible rfl
            try simp only [Act.put, List.getElem_toArray, List.getElem_cons_zero, List.getElem_cons_succ, List.setIfInBounds_toArray, List.set_cons_zero, List.set_cons_succ]
            refine wpAnyH_take (i := 23) (v := ?qv59) rfl (by kernel_rfl) (by kernel_rfl) (by kernel_rfl) (fun _ _ _ h => h) (Or.inl ⟨by rfl, ?qhy59⟩) (by assumption) ?qrest59
            case qhy59 =>
              intro W hSw
              try dsimp only at hSw
              go_simp
              try with_reducible rfl
            try simp only [Act.put, List.getElem_toArray, List.getElem_cons_zero, List.getElem_cons_succ, List.setIfInBounds_toArray, List.set_cons_zero, List.set_cons_succ]
            refine wpAnyH_ready (rs := [22]) (by kernel_rfl) (by simp) ?_
            refine AllReadyH.cons rfl (fun K hK => ?_) AllReadyH.nil
            go_simp
            refine (QA1.out _).mono ?_
            rintro e v3 ⟨rfl, hb3⟩
            have hbw3 := hbw2.trans (hb3.mono hbw2.size)
            go_wp2_with fail
            refine hK.out _ _ ?_ (fun hHeld => ?_)
            · exact HK.out _ hbw3
            clear hK K hb3
            try simp only [Act.put, List.getElem_toArray, List.getElem_cons_zero, List.getElem_cons_succ, List.setIfInBounds_toArray, List.set_cons_zero, List.set_cons_succ]
            refine wpAnyH_take (i := 24) (v := ?qv60) rfl (by kernel_rfl) (by kernel_rfl) (by kernel_rfl) (fun _ _ _ h => h) (Or.inl ⟨by rfl, ?qhy60⟩) (by assumption) ?qrest60
            case qhy60 =>
              intro W hSw
              try dsimp only at hSw
              go_simp
              try with_reducible rfl
            try simp only [Act.put, List.getElem_toArray, List.getElem_cons_zero, List.getElem_cons_succ, List.setIfInBounds_toArray, List.set_cons_zero, List.set_cons_succ]
            refine wpAnyH_take (i := 25) (v := ?qv61) rfl (by kernel_rfl) (by kernel_rfl) (by kernel_rfl) (fun _ _ _ h => h) (Or.inl ⟨by rfl, ?qhy61⟩) (by assumption) ?qrest61
            case qhy61 =>
              intro W hSw
              try dsimp only at hSw
              go_simp
              try with_reducible rfl
            try simp only [Act.put, List.getElem_toArray, List.getElem_cons_zero, List.getElem_cons_succ, List.setIfInBounds_toArray, List.set_cons_zero, List.set_cons_succ]
            refine wpAnyH_take (i := 26) (v := ?qv62) rfl (by kernel_rfl) (by kernel_rfl) (by kernel_rfl) (fun _ _ _ h => h) (Or.inl ⟨by rfl, ?qhy62⟩) (by assumption) ?qrest62
            case qhy62 =>
              intro W hSw
              try dsimp only at hSw
              go_simp
              try with_reducible rfl
            try simp only [Act.put, List.getElem_toArray, List.getElem_cons_zero, List.getElem_cons_succ, List.setIfInBounds_toArray, List.set_cons_zero, List.set_cons_succ]
            refine wpAnyH_take (i := 27) (v := ?qv63) rfl (by kernel_rfl) (by kernel_rfl) (by kernel_rfl) (fun _ _ _ h => h) (Or.inl ⟨by rfl, ?qhy63⟩) (by assumption) ?qrest63
            case qhy63 =>
              intro W hSw
              try dsimp only at hSw
              go_simp
              try with_reducible rfl
            try simp only [Act.put, List.getElem_toArray, List.getElem_cons_zero, List.getElem_cons_succ, List.setIfInBounds_toArray, List.set_cons_zero, List.set_cons_succ]
            refine wpAnyH_take (i := 28) (v := ?qv64) rfl (by kernel_rfl) (by kernel_rfl) (by kernel_rfl) (fun _ _ _ h => h) (Or.inl ⟨by rfl, ?qhy64⟩) (by assumption) ?qrest64
            case qhy64 =>
              intro W hSw
              try dsimp only at hSw
              go_simp
              try with_reducible rfl
            try simp only [Act.put, List.getElem_toArray, List.getElem_cons_zero, List.getElem_cons_succ, List.setIfInBounds_toArray, List.set_cons_zero, List.set_cons_succ]
            refine wpAnyH_take (i := 30) (v := ?qv65) rfl (by kernel_rfl) (by kernel_rfl) (by kernel_rfl) (fun _ _ _ h => h) (Or.inl ⟨by rfl, ?qhy65⟩) (by assumption) ?qrest65
            case qhy65 =>
              intro W hSw
              try dsimp only at hSw
              go_simp
              try with_reducible rfl
            try simp only [Act.put, List.getElem_toArray, List.getElem_cons_zero, List.getElem_cons_succ, List.setIfInBounds_toArray, List.set_cons_zero, List.set_cons_succ]
            refine wpAnyH_ready (rs := [29]) (by kernel_rfl) (by simp) ?_
            refine AllReadyH.cons rfl (fun K hK => ?_) AllReadyH.nil
            go_simp
            refine (QA2.out _).mono ?_
            rintro e v4 ⟨rfl, hb4⟩
            have hbw4 := hbw3.trans (hb4.mono hbw3.size)
            go_wp2_with fail
            refine hK.out _ _ ?_ (fun hHeld => ?_)
            · exact HK.out _ hbw4
            clear hK K hb4
            try simp only [Act.put, List.getElem_toArray, List.getElem_cons_zero, List.getElem_cons_succ, List.setIfInBounds_toArray, List.set_cons_zero, List.set_cons_succ]
            refine wpAnyH_take (i := 31) (v := ?qv66) rfl (by kernel_rfl) (by kernel_rfl) (by kernel_rfl) (fun _ _ _ h => h) (Or.inl ⟨by rfl, ?qhy66⟩) (by assumption) ?qrest66
            case qhy66 =>
              intro W hSw
              try dsimp only at hSw
              go_simp
              try with_reducible rfl
            try simp only [Act.put, List.getElem_toArray, List.getElem_cons_zero, List.getElem_cons_succ, List.setIfInBounds_toArray, List.set_cons_zero, List.set_cons_succ]
            refine wpAnyH_take (i := 32) (v := ?qv67) rfl (by kernel_rfl) (by kernel_rfl) (by kernel_rfl) (fun _ _ _ h => h) (Or.inl ⟨by rfl, ?qhy67⟩) (by assumption) ?qrest67
            case qhy67 =>
              intro W hSw
              try dsimp only at hSw
              go_simp
              try with_reducible rfl
            try simp only [Act.put, List.getElem_toArray, List.getElem_cons_zero, List.getElem_cons_succ, List.setIfInBounds_toArray, List.set_cons_zero, List.set_cons_succ]
            refine wpAnyH_take (i := 33) (v := ?qv68) rfl (by kernel_rfl) (by kernel_rfl) (by kernel_rfl) (fun _ _ _ h => h) (Or.inl ⟨by rfl, ?qhy68⟩) (by assumption) ?qrest68
            case qhy68 =>
              intro W hSw
              try dsimp only at hSw
              go_simp
              try with_reducible rfl
            try simp only [Act.put, List.getElem_toArray, List.getElem_cons_zero, List.getElem_cons_succ, List.setIfInBounds_toArray, List.set_cons_zero, List.set_cons_succ]
            refine wpAnyH_done (by kernel_rfl) ?_ _
            refine NoPanic.normal ?_
            go_wp2_with fail
            go_meet
            exact ⟨rfl, hbw4⟩
          · have hls := less_one HWA.out.symm hWB.symm hab
            rw [decide_eq_false hab] at qab
            have qlb := fun W => implWordLess_any bh bl ah al W
            obtain ⟨L2, hL2⟩ : ∃ x, x = wdLess ⟨bh, bl⟩ ⟨ah, al⟩ := ⟨_, rfl⟩
            rw [← hL2, ← HLB.out] at hls
            rw [← hL2] at qlb
            have QLB := Lib.hid qlb
            have hlb : (LB == L2) = false := by rw [hls]; cases L2 <;> rfl
            clear qlb hls hL2 hWB hab
            go_wp2_with fail
            go_region_held3 (fun w' => w'.cell? ⟨w1.heap.size, 0, none⟩ = some (.int .i64 nr) ∧ w'.cell? ⟨w1.heap.size, 1, none⟩ = some (.int .i64 ar) ∧ w'.cell? ⟨w1.heap.size, 2, none⟩ = some (.int .i64 ih) ∧ w'.cell? ⟨w1.heap.size, 3, none⟩ = some (.int .i64 il) ∧ w'.cell? ⟨w1.heap.size, 4, none⟩ = some (.slice ua (args.length) ucap) ∧ w'.cell? ⟨w5.heap.size, 0, none⟩ = some (.int .i64 xnr) ∧ w'.cell? ⟨w5.heap.size, 1, none⟩ = some (.int .i64 xar) ∧ w'.cell? ⟨w5.heap.size, 2, none⟩ = some (.int .i64 xih) ∧ w'.cell? ⟨w5.heap.size, 3, none⟩ = some (.int .i64 xil) ∧ w'.cell? ⟨w5.heap.size, 4, none⟩ = some (.slice uxa (xargs.length) uxcap) ∧ w'.cell? ⟨w5.heap.size, 5, none⟩ = some (.int .i64 xc) ∧ w'.cell? ⟨w5.heap.size + 1, 0, none⟩ = some (.int .i64 xnr) ∧ w'.cell? ⟨w5.heap.size + 1, 1, none⟩ = some (.int .i64 xar) ∧ w'.cell? ⟨w5.heap.size + 1, 2, none⟩ = some (.int .i64 xih) ∧ w'.cell? ⟨w5.heap.size + 1, 3, none⟩ = some (.int .i64 xil) ∧ w'.cell? ⟨w5.heap.size + 1, 4, none⟩ = some (.slice uya (xargs.length) uycap) ∧ w'.cell? ⟨w5.heap.size + 1, 5, none⟩ = some (.int .i64 xc) ∧ w'.cell? ⟨w6.heap.size, 0, none⟩ = some (.int .i64 ah) ∧ w'.cell? ⟨w6.heap.size, 1, none⟩ = some (.int .i64 al) ∧ w'.cell? ⟨w6.heap.size + 1, 0, none⟩ = some (.int .i64 bh) ∧ w'.cell? ⟨w6.heap.size + 1, 1, none⟩ = some (.int .i64 bl) ∧ w'.cell? ⟨w7.heap.size, 0, none⟩ = some (.int .i64 ch) ∧ w'.cell? ⟨w7.heap.size, 1, none⟩ = some (.int .i64 cl))
              (first | exact HK.out _ hbw6 | exact HK.out _ hbw5 | exact HK.out _ hbw4 | exact HK.out _ hbw3 | exact HK.out _ hbw2 | exact HK.out _ hbw1 | exact HK.out _ hbw0 | go_keep)
              (first
                | (go_at_call 29; (with_reducible refine (QWS.out _).mono ?_); rintro e v1 ⟨rfl, hb1⟩; have hbw1 := hbw0.trans (hb1.mono hbw0.size))
                | (go_at_call 29; (with_reducible refine (QWB.out _).mono ?_); rintro e v2 ⟨rfl, hb2⟩; have hbw2 := hbw1.trans (hb2.mono hbw1.size))
                | (go_at_call 21; (with_reducible refine (QLI.out _).mono ?_); rintro e v3 ⟨rfl, hb3⟩; have hbw3 := hbw2.trans (hb3.mono hbw2.size))
                | (go_at_call 21; (with_reducible refine (QLB.out _).mono ?_); rintro e v4 ⟨rfl, hb4⟩; have hbw4 := hbw3.trans (hb4.mono hbw3.size))
                | (go_at_call 17; (with_reducible refine (QA1.out _).mono ?_); rintro e v5 ⟨rfl, hb5⟩; have hbw5 := hbw4.trans (hb5.mono hbw4.size))
                | (go_at_call 17; (with_reducible refine (QA2.out _).mono ?_); rintro e v6 ⟨rfl, hb6⟩; have hbw6 := hbw5.trans (hb6.mono hbw5.size)))
            go_wp2_with fail
            go_meet
            exact ⟨rfl, hbw6⟩
    case rest =>
    obtain ⟨rfl, hbw⟩ := hcut
    have HB10 := Lib.hid hbw
    clear hbw c0 c1 c2 c3 c4 c5 c6 c7 c8 c9 c10 c11 c12 c13 c14 c15 c16 c17 c18 c19 c20 c21 c22
    obtain ⟨c0, c1, c2, c3, c4, c5, c6, c7, c8, c9, c10, c11, c12, c13, c14, c15, c16, c17, c18, c19, c20, c21, c22⟩ := HK.out _ HB10.out
    by_cases hT0 : T = ⟨#[]⟩
    · subst hT0
      go_wp2_with fail
      go_ret
      exact ⟨rfl, (HB1.out.trans ((HUP.out _ HB10.out).mono hs1))⟩
    have hqt : T.toList.isEmpty = false := by
      have h := str_beq_false hT0
      cases hl : T.toList with
      | nil => rw [hl] at h; simp at h
      | cons x l => rfl
    have hrr : rcRight ⟨nr, ar, ⟨ih, il⟩, args⟩ = true := by
      cases hx : rcRight ⟨nr, ar, ⟨ih, il⟩, args⟩ with
      | true => rfl
      | false => exact (hT0 (HT.out.trans (rbOf_no hx))).elim
    have hfacts := rb_facts _ hrr
    have hlen6 : args.length = 6 := (rcRight_parts hrr).2.2.2.1
    rw [← HT.out] at hfacts
    simp only at hfacts
    obtain ⟨hT64, hrc, hrd, hl0, hl4, hlk⟩ := hfacts
    obtain ⟨k, hk0, hk1, hk⟩ := lwAt_still a1 len1 cap1 0 6 _ (codeAt_up HC1.out (HB1.out.trans ((HUP.out _ HB10.out).mono hs1)) (Nat.le_refl _)) (by omega) (by omega) (by omega) (by omega)
    obtain ⟨n, rfl⟩ := Int.eq_ofNat_of_zero_le hk0
    have hn6 : n < args.length := by omega
    obtain ⟨b, o, ph, pl, e, hbl, x0, x1, hlk⟩ : ∃ b o ph pl, ua = some ⟨b, o, none⟩ ∧ b < w1.heap.size ∧ w1.cell? ⟨b, o + n * 2, none⟩ = some (.int .i64 ph) ∧ w1.cell? ⟨b, o + n * 2 + 1, none⟩ = some (.int .i64 pl) ∧ (loadB T (16 + 8 * (n : Int)) = pl ∧ loadB T (20 + 8 * (n : Int)) = ph) := by
      obtain ⟨b, o, e, hb, x0, x1, _⟩ := WdAt.place HR1.out (List.getElem?_eq_getElem hn6)
      exact ⟨b, o, _, _, e, hb, x0, x1, hlk n hn6⟩
    subst e
    have ql := fun W => implLoad_any T (16 + 8 * (n : Int)) W (by unfold maxLen; omega) (by omega) (by omega)
    have qh := fun W => implLoad_any T (20 + 8 * (n : Int)) W (by unfold maxLen; omega) (by omega) (by omega)
    have ql0 := fun W => implLoad_any T 0 W (by unfold maxLen; omega) (by omega) (by omega)
    have ql4 := fun W => implLoad_any T 4 W (by unfold maxLen; omega) (by omega) (by omega)
    have qrd := fun W => implRecordRead_any T W (by unfold maxLen; omega)
    rw [hlk.1] at ql
    rw [hlk.2] at qh
    rw [hl0] at ql0
    rw [hl4] at ql4
    rw [hrc, hrd] at qrd
    have QL := Lib.hid ql
    have QH := Lib.hid qh
    have QL0 := Lib.hid ql0
    have QL4 := Lib.hid ql4
    have QRD := Lib.hid qrd
    have HK2 := Lib.hid hk
    have HN6 := Lib.hid hn6
    have HL6 := Lib.hid hlen6
    clear ql qh ql0 ql4 qrd hlk hl0 hl4 hrc hrd hrr hT0 hk hlen6
    have hwfa : ∀ x ∈ args, x.wf := HR1.out.2.2
    have hrowr := below_row HB10.out HRV8.out
    have hupc := HUP.out _ HB10.out
    have hsz10 : w1.heap.size ≤ wc.heap.size := hupc.size
    have hkf : ∀ W : World, Below (wc.alloc (.cells #[.int .i64 ph, .int .i64 pl] 24)).heap.size (wc.alloc (.cells #[.int .i64 ph, .int .i64 pl] 24)) W → (W.cell? ⟨w1.heap.size, 0, none⟩ = some (.int .i64 nr) ∧ W.cell? ⟨w1.heap.size, 1, none⟩ = some (.int .i64 ar) ∧ W.cell? ⟨w1.heap.size, 2, none⟩ = some (.int .i64 ih) ∧ W.cell? ⟨w1.heap.size, 3, none⟩ = some (.int .i64 il) ∧ W.cell? ⟨w1.heap.size, 4, none⟩ = some (.slice (some ⟨b, o, none⟩) args.length ucap) ∧ W.cell? ⟨wc.heap.size, 0, none⟩ = some (.int .i64 ph) ∧ W.cell? ⟨wc.heap.size, 1, none⟩ = some (.int .i64 pl) ∧ W.cell? ⟨b, o + n * 2, none⟩ = some (.int .i64 ph) ∧ W.cell? ⟨b, o + n * 2 + 1, none⟩ = some (.int .i64 pl)) := fun W hb => by
      have hb' : Below wc.heap.size wc W := box_below hb
      have hr := below_row hb' hrowr
      have hc := hupc.trans (hb'.mono hsz10)
      exact ⟨row_cell hr 0, row_cell hr 1, row_cell hr 2, row_cell hr 3, row_cell hr 4, box_cell hb 0, box_cell hb 1, (hc.cell (p := ⟨b, o + n * 2, none⟩) hbl).trans x0, (hc.cell (p := ⟨b, o + n * 2 + 1, none⟩) hbl).trans x1⟩
    have hat : ∀ W : World, Below (wc.alloc (.cells #[.int .i64 ph, .int .i64 pl] 24)).heap.size (wc.alloc (.cells #[.int .i64 ph, .int .i64 pl] 24)) W → WdAt W W.heap.size (.slice (some ⟨b, o, none⟩) args.length ucap) args := fun W hb => by
      have h : Below w1.heap.size w1 W := hupc.trans ((box_below hb).mono hsz10)
      exact LAt.up (LAt.below HR1.out h) h.size
    have hlr := fun W u' (h1 : WdAt W W.heap.size u' args) (h2 : WdAt W W.heap.size (.slice (some ⟨b, o, none⟩) args.length ucap) args) => lwRecord_same ⟨nr, ar, ⟨ih, il⟩, args⟩ u' _ W h1 h2
    simp only [rcV] at hlr
    unfold RecEnd at QRD
    have HKF := Lib.hid hkf
    have HAT := Lib.hid hat
    have HLR := Lib.hid hlr
    have HWFA := Lib.hid hwfa
    have HUC := Lib.hid hupc
    have hfld := fun W a b c d e f => recOut_field W a b c d e f
    have heqp := fun W => eqWordAny ph pl ph pl W
    simp only [decide_true] at heqp
    have hqn : (nr == nr) = true := by simp
    have hqa : (ar == ar) = true := by simp
    have n0 : (0 : Int) ≤ (n : Int) := by omega
    have n1 : (n : Int) < (args.length : Int) := by omega
    clear hkf hat hlr hwfa hupc hrowr x0 x1 c0 c1 c2 c3 c4 c5 c6 c7 c8 c9 c10 c11 c12 c13 c14 c15 c16 c17 c18 c19 c20 c21 c22
    obtain ⟨c0, c1, c2, c3, c4, c5, c6, c7, c8, c9, c10, c11, c12, c13, c14, c15, c16, c17, c18, c19, c20, c21, c22⟩ := HK.out _ HB10.out
    go_wp2_with fail
    refine HK2.out.mono ?_
    rintro e v2 ⟨rfl, rfl⟩
    go_wp2_with fail
    refine (QH.out _).mono ?_
    rintro e v3 ⟨rfl, rfl⟩
    go_wp2_with fail
    refine (QL.out _).mono ?_
    rintro e v3 ⟨rfl, rfl⟩
    have hbw0 : Below (wc.alloc (.cells #[.int .i64 ph, .int .i64 pl] 24)).heap.size (wc.alloc (.cells #[.int .i64 ph, .int .i64 pl] 24)) (wc.alloc (.cells #[.int .i64 ph, .int .i64 pl] 24)).drew := (Below.refl _ _).drew
    clear c0 c1 c2 c3 c4 c5 c6 c7 c8 c9 c10 c11 c12 c13 c14 c15 c16 c17 c18 c19 c20 c21 c22
    go_wp2_with fail
    go_region_held3 (fun W => W.cell? ⟨w1.heap.size, 0, none⟩ = some (.int .i64 nr) ∧ W.cell? ⟨w1.heap.size, 1, none⟩ = some (.int .i64 ar) ∧ W.cell? ⟨w1.heap.size, 2, none⟩ = some (.int .i64 ih) ∧ W.cell? ⟨w1.heap.size, 3, none⟩ = some (.int .i64 il) ∧ W.cell? ⟨w1.heap.size, 4, none⟩ = some (.slice (some ⟨b, o, none⟩) args.length ucap) ∧ W.cell? ⟨wc.heap.size, 0, none⟩ = some (.int .i64 ph) ∧ W.cell? ⟨wc.heap.size, 1, none⟩ = some (.int .i64 pl) ∧ W.cell? ⟨b, o + n * 2, none⟩ = some (.int .i64 ph) ∧ W.cell? ⟨b, o + n * 2 + 1, none⟩ = some (.int .i64 pl))
      (first | exact HKF.out _ hbw2 | exact HKF.out _ hbw1 | exact HKF.out _ hbw0 | go_keep)
      (first
        | (go_at_call 14; (with_reducible refine (QRD.out _).mono ?_); rintro e v4 ⟨u, rfl, ho, hb4⟩; obtain ⟨uy, ucy, rfl⟩ := OwnL.slice ho; have hbw1 := hbw0.trans (hb4.mono hbw0.size); have hu := OwnL.lAt wdS ho HWFA.out)
        | (go_at_call 20; (with_reducible refine (HLR.out _ _ hu (HAT.out _ hbw1)).mono ?_); rintro e v5 ⟨rfl, hb5⟩; have hbw2 := hbw1.trans (hb5.mono hbw1.size))
        | (go_at_call 24; (with_reducible refine (QL0.out _).mono ?_); rintro e v6 ⟨rfl, rfl⟩)
        | (go_at_call 24; (with_reducible refine (QL4.out _).mono ?_); rintro e v6 ⟨rfl, rfl⟩))
    have HE := Lib.hid (HB1.out.trans ((HUC.out.trans ((box_below hbw2).mono hsz10)).mono hs1))
    clear hbw0 hbw1 hbw2 hb4 hb5 ho hu
    go_wp2_with fail
    go_ret
    exact ⟨rfl, HE.out⟩

set_option maxRecDepth 100000 in
theorem lifted (os : Os) (started : os.Started) (H : Type) (enc : TypeId × Value → H) :
    ReturnsInHanded {} Try.checked os 3 .any (Rows.fnDataSpec.pre6 enc Try.prog Try.f3 Rows.fnDataRow.domain false) (Rows.fnDataSpec.post enc Try.prog Try.f3 false true false false) := by
  refine returnsInHanded_of_change (C := Try.checked) own started (by kernel_rfl) Try.func3
    (ChangeSpec.witness6 (enc := enc) (C := Try.checked) false ⟨#[], #[.slice none 0 0, .slice none 0 0], []⟩ 8 (by kernel_rfl) (by kernel_rfl) (by kernel_rfl) (by kernel_rfl)) ?_
  intro W base args ds gs before hval0 hW hcnd _
  have hval : ∀ (j : Nat) t v, Try.f3.params[j]? = some t → args[j]? = some v → Value.okWide Try.prog W .any base t v := hval0
  have hW' := hW
  obtain ⟨p, q, hA0, hV, rfl, hfz, hnd⟩ := hW
  have hA : DataW.TrodAll enc Try.prog W 0 (fun _ => true) true Try.f3.params.toList args.toList ds p := hA0
  rw [Try.params3] at hA hval
  obtain ⟨v0, vs0, d0, ds0, p0, q0, hargs, rfl, rfl, h0, r0⟩ := trodAll_cons hA
  obtain ⟨v1, vs1, d1, ds1, p1, q1, rfl, rfl, rfl, h1, r1⟩ := trodAll_cons r0
  obtain ⟨rfl, rfl, rfl⟩ := trodAll_nil r1
  obtain rfl : args = #[v0, v1] := by cases args; simp_all
  obtain ⟨rfl, rfl⟩ := trodVars_none hV
  obtain ⟨a0, len0, cap0, rfl⟩ := okWide_slice Try.underlying22 (hval 0 22 v0 rfl rfl)
  have k0 := h0
  have lt0 : ∀ x ∈ p0, x.block < W.heap.size := by obtain ⟨m, hm⟩ := k0; exact DataW.trod_lt m _ _ _ hm
  obtain ⟨z0, w0⟩ : ∃ zs, IsRow .u8 W a0 len0 cap0 zs := by
    obtain ⟨fuel, hf⟩ := h0
    rcases open_ints Try.underlying22 Try.underlying5 (by kernel_rfl) hf with ⟨hcs, _⟩ | ⟨x, l, c, zs, hcs, _, hl, hm, hz, _, hcell, hwz⟩
    · simp [Value.cells] at hcs
      obtain ⟨rfl, rfl, rfl⟩ := hcs
      exact ⟨[], .inl ⟨rfl, rfl, rfl, rfl⟩⟩
    · simp [Value.cells] at hcs
      obtain ⟨rfl, rfl, rfl⟩ := hcs
      exact ⟨zs, .inr ⟨_, rfl, hl, hm, by simpa using hz, hcell, hwz⟩⟩
  obtain ⟨a1, len1, cap1, rfl⟩ := okWide_slice Try.underlying22 (hval 1 22 v1 rfl rfl)
  have k1 := h1
  have lt1 : ∀ x ∈ p1, x.block < W.heap.size := by obtain ⟨m, hm⟩ := k1; exact DataW.trod_lt m _ _ _ hm
  obtain ⟨z1, w1⟩ : ∃ zs, IsRow .u8 W a1 len1 cap1 zs := by
    obtain ⟨fuel, hf⟩ := h1
    rcases open_ints Try.underlying22 Try.underlying5 (by kernel_rfl) hf with ⟨hcs, _⟩ | ⟨x, l, c, zs, hcs, _, hl, hm, hz, _, hcell, hwz⟩
    · simp [Value.cells] at hcs
      obtain ⟨rfl, rfl, rfl⟩ := hcs
      exact ⟨[], .inl ⟨rfl, rfl, rfl, rfl⟩⟩
    · simp [Value.cells] at hcs
      obtain ⟨rfl, rfl, rfl⟩ := hcs
      exact ⟨zs, .inr ⟨_, rfl, hl, hm, by simpa using hz, hcell, hwz⟩⟩
  clear hA0 hval0
  refine (walk a0 len0 cap0 z0 a1 len1 cap1 z1 W w0 w1).mono fun e W' ⟨he, bel⟩ => ?_
  subst he
  exact ⟨_, rfl, _, _, _, [], _, [], hW', trodAll_mk1 (shut_bool Try.underlying4 _), (trodAll_cons_mk (Below.trod laidOut (by kernel_rfl) (of_decide_eq_true (by kernel_rfl)) k0 bel lt0) (trodAll_cons_mk (Below.trod laidOut (by kernel_rfl) (of_decide_eq_true (by kernel_rfl)) k1 bel lt1) trodAll_mk0)), rfl, bel.frame _, fun h => by cases h⟩

theorem over : Rows.fnDataRow.holds Try.pinned (OpenSpec.ofChange Rows.fnDataSpec) :=
  OpenClaim.holds_of_wide 3 Try.f3 rfl rfl rfl rfl rfl rfl rfl ⟨rfl, rfl, rfl, rfl, rfl⟩ rfl rfl rfl rfl rfl (by kernel_rfl) Try.func3 (by kernel_rfl)
    (of_decide_eq_true (by kernel_rfl)) (by unfold Func.isWrapper; first | (rw [if_pos (by decide +kernel)]; kernel_rfl) | (rw [if_neg (by decide +kernel)]; exact ⟨rfl, rfl⟩))
    (fun os started H enc _ => lifted os started H enc)

theorem proved : Rows.FnDataSaid := over
#print axioms proved
end Go.Proofs.Ytgcfnmaojdnchaa.fnData
