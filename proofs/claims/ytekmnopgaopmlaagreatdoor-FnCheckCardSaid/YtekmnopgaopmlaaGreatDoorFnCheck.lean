/-
  FnCheck: for every input that the row speaks of, the law returns true, and its arguments read afterwards as before. The row lists the library's variable errors.errorType with what it holds when the call begins; the card ties that to the program's text.
-/
import Derived.Test.YtekmnopgaopmlaaGreatDoorCards
import Derived.Test.YtekmnopgaopmlaaGreatDoorTie
import Derived.Test.YtekmnopgaopmlaaGreatDoorXa
import Derived.Test.YtekmnopgaopmlaaGreatDoorXb
import Derived.Test.YtekmnopgaopmlaaGreatDoorXc
import Derived.Test.YtekmnopgaopmlaaGreatDoorXe
import Derived.Test.YtekmnopgaopmlaaGreatDoorXf
import Derived.Test.YtekmnopgaopmlaaGreatDoorXd
import Derived.Test.YtekmnopgaopmlaaGreatDoorXg
import Derived.Test.YtekmnopgaopmlaaGreatDoorXh
import Derived.Deep.RegionHeld3
import Derived.Deep.RegionLaw
import Derived.Deep.DeepCutAuto
import Derived.Deep.CutRange
import Derived.Deep.QuietTactic
import Derived.BigQuiet
import Derived.WalkKit
import Derived.ProofKit
import Derived.ChangeSame
import Derived.ChangeVars
import Derived.JoinedOf
import Derived.RowKitTokens
import Derived.LaidLaws
import Derived.LaidHandle
import Derived.LaidMore
import Derived.Stop.Joined
import Derived.SevenTiedAt
import Derived.OpenShut
import Derived.ShutString
import Derived.ChangeOld
import Derived.Below
set_option maxRecDepth 100000
namespace Go.Proofs.YtekmnopgaopmlaaGreatDoor.fnCheck
open Go.ChangeShapes Go.WideShapes Go.ChangeAt Go.RowKit
open Go.ChangeMaps (open_string shut_string)
set_option linter.unusedVariables false

theorem own : ownKnob Tryz.prog.godebug = none := by kernel_rfl
theorem laidOut : laidOutB Tryz.prog = true := by kernel_rfl

/-- WHAT THE WALK IS TOLD OF A SLICE OF INTEGERS THAT CAME IN: it is nil; or it leads to a row of 'cap' cells, the numbers 'zs' (the first 'len' are its elements, the rest its spare room), each fitting its kind. -/
def IsRow (k : IntKind) (w : World) (a : Option Addr) (len cap : Nat) (zs : List Int) : Prop :=
  (a = none ∧ len = 0 ∧ cap = 0 ∧ zs = []) ∨
  ∃ x, a = some x ∧ len ≤ cap ∧ cap ≤ maxLen ∧ zs.length = cap ∧ (∀ i, i < zs.length → w.cell? (x.add i) = some (.int k (zs.getD i 0))) ∧ ∀ n ∈ zs, (Lit.int k n).wf = true

set_option maxHeartbeats 60000000 in
theorem walk (a0 : Option Addr) (len0 cap0 : Nat) (z0 : List Int) (a1 : Option Addr) (len1 cap1 : Nat) (z1 : List Int) (w : World) (w0 : IsRow .u8 w a0 len0 cap0 z0) (w1 : IsRow .u8 w a1 len1 cap1 z1) (hg : w.cell? ⟨0, 0, none⟩ = some handleV) :
    Calls Tryz.prog 3 #[.slice a0 len0 cap0, .slice a1 len1 cap1] w fun e w' => e = .returned (.bool true) ∧ Below w.heap.size w w' := by
  have hc0 : CodeAt w w.heap.size a0 len0 cap0 := by
    rcases w0 with ⟨rfl, rfl, rfl, _⟩ | ⟨x, rfl, hl, hm, hz, hcell, hwf⟩
    · exact ⟨by omega, by unfold maxLen; omega, fun h => by omega⟩
    · exact codeAt_of hl hm hz hcell hwf
  have hc1 : CodeAt w w.heap.size a1 len1 cap1 := by
    rcases w1 with ⟨rfl, rfl, rfl, _⟩ | ⟨x, rfl, hl, hm, hz, hcell, hwf⟩
    · exact ⟨by omega, by unfold maxLen; omega, fun h => by omega⟩
    · exact codeAt_of hl hm hz hcell hwf
  clear w0 w1
  by_cases hb0 : 1048576 < len0
  · have hd0 : decide (1048576 < (len0 : Int)) = true := by simp; omega
    go_enter Tryz.func3, Tryz.ntmps3
    go_wp2
    go_ret
    exact ⟨rfl, Below.refl _ _⟩
  have hd0 : decide (1048576 < (len0 : Int)) = false := by simp; omega
  by_cases hb1 : 1048576 < len1
  · have hd1 : decide (1048576 < (len1 : Int)) = true := by simp; omega
    go_enter Tryz.func3, Tryz.ntmps3
    go_wp2
    go_ret
    exact ⟨rfl, Below.refl _ _⟩
  have hd1 : decide (1048576 < (len1 : Int)) = false := by simp; omega
  have hglt : 0 < w.heap.size := by
    rcases Nat.lt_or_ge 0 w.heap.size with h | h
    · exact h
    · simp [World.cell?, Array.getElem?_eq_none h] at hg
  have HG := Lib.hid hg
  have HD := Lib.hid (drawCheck_any a0 len0 cap0 w hc0)
  have HC0 := Lib.hid hc0
  have HC1 := Lib.hid hc1
  clear hc0 hc1 hg
  go_enter Tryz.func3, Tryz.ntmps3
  go_wp2_with fail
  refine HD.out.mono ?_
  rintro e w1 ⟨lv, l, rfl, hil, hll, hb1'⟩
  obtain ⟨la, lcap, rfl, hlc, hlm⟩ := hil.len
  have HIL := Lib.hid hil
  have HB1 := Lib.hid hb1'
  have hqc := implCheck_any _ l w1 hil
  have qsc := fun v W h => Check_any v l W h
  obtain ⟨cp, cq, hck⟩ : ∃ cp cq, checkL l = (cp, cq) := ⟨_, _, rfl⟩
  simp only [hck] at hqc qsc
  have HCK := Lib.hid hck
  have HQC := Lib.hid hqc
  have QSC := Lib.hid qsc
  unfold maxLen at hlm
  clear hil hb1' hqc qsc hck HD
  go_wp2_with fail
  refine HQC.out.mono ?_
  rintro e w2 ⟨rfl, hb2⟩
  have HB2 := Lib.hid (below_chain HB1.out (below_al hb2 (.cells #[.int .i64 cp, .int .i64 cq] 26)))
  have HL2 := Lib.hid ((HIL.out.below (below_al hb2 (.cells #[.int .i64 cp, .int .i64 cq] 26))).up (below_al hb2 (.cells #[.int .i64 cp, .int .i64 cq] 26)).size)
  have HC2 := Lib.hid (heap_alloc_new w2 (.cells #[.int .i64 cp, .int .i64 cq] 26))
  clear hb2 HQC HIL HB1
  have HDW := Lib.hid (drawWays_any a1 len1 cap1 _ (codeAt_up HC1.out HB2.out (Nat.le_refl _)))
  go_wp2_with fail
  refine HDW.out.mono ?_
  rintro e w3 ⟨wv, wl, wat, rfl, hwa0, hwa1, hiw, hlw, hb3⟩
  obtain ⟨wa, wcap, rfl, _, _⟩ := hiw.len
  have HB3 := Lib.hid (below_chain HB2.out hb3)
  have HL3 := Lib.hid ((HL2.out.below hb3).up hb3.size)
  have HC3 := Lib.hid (below_row hb3 HC2.out)
  have HW3 := Lib.hid hiw
  have hwat : In64 wat := ⟨by omega, by omega⟩
  clear hb3 hiw HDW HB2 HL2 HC2
  have HDV := Lib.hid (drawWritten_any a0 len0 cap0 _ (codeAt_up HC0.out HB3.out (Nat.le_refl _)))
  go_wp2_with fail
  refine HDV.out.mono ?_
  rintro e w4 ⟨vv, vl, vat, rfl, hva0, hva1, hiv, hlv, hb4⟩
  obtain ⟨va, vcap, rfl, _, _⟩ := hiv.len
  have HB4 := Lib.hid (below_chain HB3.out hb4)
  have HL4 := Lib.hid ((HL3.out.below hb4).up hb4.size)
  have HC4 := Lib.hid (below_row hb4 HC3.out)
  have HW4 := Lib.hid ((HW3.out.below hb4).up hb4.size)
  have HV4 := Lib.hid hiv
  have hvat : In64 vat := ⟨by omega, by omega⟩
  clear hb4 hiv HDV HB3 HL3 HC3 HW3
  have HDR := Lib.hid (drawRun_any a1 len1 cap1 _ (codeAt_up HC1.out HB4.out (Nat.le_refl _)))
  go_wp2_with fail
  refine HDR.out.mono ?_
  rintro e w5 ⟨pv, pl, pb, rfl, hpb, hip, hlp, hb5⟩
  obtain ⟨pa, pcap, rfl, _, _⟩ := hip.len
  have HB5 := Lib.hid (below_chain HB4.out hb5)
  have HL5 := Lib.hid ((HL4.out.below hb5).up hb5.size)
  have HC5 := Lib.hid (below_row hb5 HC4.out)
  have HW5 := Lib.hid ((HW4.out.below hb5).up hb5.size)
  have HV5 := Lib.hid ((HV4.out.below hb5).up hb5.size)
  have HP5 := Lib.hid hip
  clear hb5 hip HDR HB4 HL4 HC4 HW4 HV4
  have HDO := Lib.hid (drawRunOn_any a0 len0 cap0 _ (codeAt_up HC0.out HB5.out (Nat.le_refl _)))
  go_wp2_with fail
  refine HDO.out.mono ?_
  rintro e w6 ⟨qv, ql, ⟨nr, ar, ⟨ih, il⟩, args⟩, qu, rfl, hat, hl6, hiq, hlq, hb6⟩
  obtain ⟨qa, qcap, rfl, _, _⟩ := hiq.len
  simp only at hat hl6
  obtain ⟨ua, ucap, rfl, _, _⟩ := hat.len
  have hb6' := below_al hb6 (.cells #[.int .i64 nr, .int .i64 ar, .int .i64 ih, .int .i64 il, .slice ua args.length ucap] 36)
  have HB6 := Lib.hid (below_chain HB5.out hb6')
  have HL6 := Lib.hid ((HL5.out.below hb6').up hb6'.size)
  have HC6 := Lib.hid (row_alloc (below_row hb6 HC5.out) (.cells #[.int .i64 nr, .int .i64 ar, .int .i64 ih, .int .i64 il, .slice ua args.length ucap] 36))
  have HW6 := Lib.hid ((HW5.out.below hb6').up hb6'.size)
  have HV6 := Lib.hid ((HV5.out.below hb6').up hb6'.size)
  have HP6 := Lib.hid ((HP5.out.below hb6').up hb6'.size)
  have HQ6 := Lib.hid (ins_al hiq (.cells #[.int .i64 nr, .int .i64 ar, .int .i64 ih, .int .i64 il, .slice ua args.length ucap] 36))
  have HA6 := Lib.hid (wd_al hat (.cells #[.int .i64 nr, .int .i64 ar, .int .i64 ih, .int .i64 il, .slice ua args.length ucap] 36))
  have HX6 := Lib.hid (heap_alloc_new w6 (.cells #[.int .i64 nr, .int .i64 ar, .int .i64 ih, .int .i64 il, .slice ua args.length ucap] 36))
  have hlt6 : w2.heap.size < w6.heap.size := row_here (below_row hb6 HC5.out)
  clear hb6 hb6' hat hiq HDO HB5 HL5 HC5 HW5 HV5 HP5
  go_wp2_with fail
  generalize w6.alloc (.cells #[.int .i64 nr, .int .i64 ar, .int .i64 ih, .int .i64 il, .slice ua args.length ucap] 36) = w8 at *
  have hkeep : ∀ W : World, Below w8.heap.size w8 W → (W.cell? ⟨w2.heap.size, 0, none⟩ = some (.int .i64 cp) ∧ W.cell? ⟨w2.heap.size, 1, none⟩ = some (.int .i64 cq) ∧ W.cell? ⟨w6.heap.size, 0, none⟩ = some (.int .i64 nr) ∧ W.cell? ⟨w6.heap.size, 1, none⟩ = some (.int .i64 ar) ∧ W.cell? ⟨w6.heap.size, 2, none⟩ = some (.int .i64 ih) ∧ W.cell? ⟨w6.heap.size, 3, none⟩ = some (.int .i64 il) ∧ W.cell? ⟨w6.heap.size, 4, none⟩ = some (.slice ua args.length ucap)) := fun W hb => by
    have r1 := (hb.block _ (row_here HC6.out)).trans HC6.out
    have r2 := (hb.block _ (row_here HX6.out)).trans HX6.out
    exact ⟨row_cell r1 0, row_cell r1 1, row_cell r2 0, row_cell r2 1, row_cell r2 2, row_cell r2 3, row_cell r2 4⟩
  have HK := Lib.hid hkeep
  have HG8 := Lib.hid ((HB6.out.cell (p := ⟨0, 0, none⟩) hglt).trans HG.out)
  have hglt8 : 0 < w8.heap.size := Nat.lt_of_lt_of_le hglt HB6.out.size
  have qc := fun W (h : Below w8.heap.size w8 W) => QSC.out _ W ((HL6.out.below h).up h.size)
  have qwi := fun W (h : Below w8.heap.size w8 W) => implWays_any _ wl wat W ((HW6.out.below h).up h.size) hwat
  have qws := fun W (h : Below w8.heap.size w8 W) => specWays_any _ wl wat W ((HW6.out.below h).up h.size) hwat
  have qvi := fun W (h : Below w8.heap.size w8 W) => implWritten_any _ vl vat W ((HV6.out.below h).up h.size) hvat
  have qvs := fun W (h : Below w8.heap.size w8 W) => specWritten_any _ vl vat W ((HV6.out.below h).up h.size) hvat
  have qri := fun W (h : Below w8.heap.size w8 W) => implRun_any _ pl pb W ((HP6.out.below h).up h.size) (by unfold maxLen; omega) (by omega) ((h.cell (p := ⟨0, 0, none⟩) hglt8).trans HG8.out)
  have qrs := fun W (h : Below w8.heap.size w8 W) => specRun_any _ pl pb W ((HP6.out.below h).up h.size) (by unfold maxLen; omega) (by omega)
  have qoi := fun W (h : Below w8.heap.size w8 W) => implRunOn_any _ ql ⟨nr, ar, ⟨ih, il⟩, args⟩ _ W ((HQ6.out.below h).up h.size) (LAt.up (LAt.below HA6.out h) h.size) (by omega) ((h.cell (p := ⟨0, 0, none⟩) hglt8).trans HG8.out)
  have qos := fun W (h : Below w8.heap.size w8 W) => specRunOn_any _ ql ⟨nr, ar, ⟨ih, il⟩, args⟩ _ W ((HQ6.out.below h).up h.size) (LAt.up (LAt.below HA6.out h) h.size) (by omega)
  have hwl2 : (waysI wl wat).length ≤ 2 := by
    unfold waysI
    split
    · split
      · exact nextI_length _ _
      · simp
    · simp
  generalize waysI wl wat = wres at *
  generalize writtenI vl vat = vres at *
  generalize runL pl pb = rres at *
  generalize runL ql (rbOf ⟨nr, ar, ⟨ih, il⟩, args⟩) = ores at *
  obtain ⟨r0, r1, r2⟩ := rres
  obtain ⟨o0, o1, o2⟩ := ores
  simp only [ansV] at qri qrs qoi qos
  have QC := Lib.hid qc
  have QWI := Lib.hid qwi
  have QWS := Lib.hid qws
  have QVI := Lib.hid qvi
  have QVS := Lib.hid qvs
  have QRI := Lib.hid qri
  have QRS := Lib.hid qrs
  have QOI := Lib.hid qoi
  have QOS := Lib.hid qos
  have eqC := fun W => eqCheckWhole cp cq W
  have eqR := fun W => eqRunWhole r0 r1 r2 W
  have eqO := fun W => eqRunWhole o0 o1 o2 W
  have eqV : (vres != vres) = false := by simp
  clear hkeep qc qwi qws qvi qvs qri qrs qoi qos
  have hbw0 : Below w8.heap.size w8 w8.drew := (Below.refl _ _).drew
  obtain ⟨c0, c1, x0, x1, x2, x3, x4⟩ := HK.out _ (Below.refl _ _)
  go_region_held3 (fun W => W.cell? ⟨w2.heap.size, 0, none⟩ = some (.int .i64 cp) ∧ W.cell? ⟨w2.heap.size, 1, none⟩ = some (.int .i64 cq) ∧ W.cell? ⟨w6.heap.size, 0, none⟩ = some (.int .i64 nr) ∧ W.cell? ⟨w6.heap.size, 1, none⟩ = some (.int .i64 ar) ∧ W.cell? ⟨w6.heap.size, 2, none⟩ = some (.int .i64 ih) ∧ W.cell? ⟨w6.heap.size, 3, none⟩ = some (.int .i64 il) ∧ W.cell? ⟨w6.heap.size, 4, none⟩ = some (.slice ua args.length ucap))
    (first | go_keep | exact HK.out _ hbw10 | exact HK.out _ hbw9 | exact HK.out _ hbw8 | exact HK.out _ hbw7 | exact HK.out _ hbw6 | exact HK.out _ hbw5 | exact HK.out _ hbw4 | exact HK.out _ hbw3 | exact HK.out _ hbw2 | exact HK.out _ hbw1 | exact HK.out _ hbw0)
    (first
      | (go_at_call 11; (with_reducible refine (QC.out _ hbw0).mono ?_); rintro e y1 ⟨rfl, hy⟩; have hbw1 := below_chain hbw0 hy)
      | (go_at_call 13; (with_reducible refine (QWI.out _ hbw1).mono ?_); rintro e y2 ⟨u1, rfl, hu1, hy⟩; have hbw2 := below_chain hbw1 hy; have HU1 := Lib.hid (hu1.lAt numS (fun _ _ => trivial) : IntsAt _ _ u1 wres))
      | (go_at_call 14; (with_reducible refine (QWS.out _ hbw2).mono ?_); rintro e y3 ⟨u2, rfl, hu2, hy⟩; have hbw3 := below_chain hbw2 hy; have HU3 := Lib.hid (LAt.up (LAt.below HU1.out hy) hy.size); have HU2 := Lib.hid (hu2.lAt numS (fun _ _ => trivial) : IntsAt _ _ u2 wres))
      | (go_at_call 12; (with_reducible refine (lwNums_same _ _ wres _ HU3.out HU2.out).mono ?_); rintro e y4 ⟨rfl, hy⟩; have hbw4 := below_chain hbw3 hy)
      | (go_at_call 15; (with_reducible refine (QVI.out _ hbw4).mono ?_); rintro e y5 ⟨rfl, hy⟩; have hbw5 := below_chain hbw4 hy)
      | (go_at_call 16; (with_reducible refine (QVS.out _ hbw5).mono ?_); rintro e y6 ⟨rfl, hy⟩; have hbw6 := below_chain hbw5 hy)
      | (go_at_call 17; (with_reducible refine (QRI.out _ hbw6).mono ?_); rintro e y7 ⟨rfl, hy⟩; have hbw7 := below_chain hbw6 hy)
      | (go_at_call 18; (with_reducible refine (QRS.out _ hbw7).mono ?_); rintro e y8 ⟨rfl, hy⟩; have hbw8 := below_chain hbw7 hy)
      | (go_at_call 19; (with_reducible refine (QOI.out _ hbw8).mono ?_); rintro e y9 ⟨rfl, hy⟩; have hbw9 := below_chain hbw8 hy)
      | (go_at_call 20; (with_reducible refine (QOS.out _ hbw9).mono ?_); rintro e y10 ⟨rfl, hy⟩; have hbw10 := below_chain hbw9 hy))
  all_goals
    have HB10 := Lib.hid (below_chain HB6.out hbw10)
    have HL10 := Lib.hid ((HL6.out.below hbw10).up hbw10.size)
    have HC10 := Lib.hid ((hbw10.block _ (row_here HC6.out)).trans HC6.out)
    clear hbw0 hbw1 hbw2 hbw3 hbw4 hbw5 hbw6 hbw7 hbw8 hbw9 hbw10 HU1 HU2 HU3 hu1 hu2 c0 c1 x0 x1 x2 x3 x4 QC QWI QWS QVI QVS QRI QRS QOI QOS HK eqC eqR eqO eqV
    have HDR := Lib.hid (drawRun_any a1 len1 cap1 _ (codeAt_up HC1.out HB10.out (Nat.le_refl _)))
    go_wp2_with fail
    refine HDR.out.mono ?_
    rintro e w11 ⟨tv, tl, tb, rfl, htb, hit, hlt, hb11⟩
    have HB11 := Lib.hid (below_chain HB10.out hb11)
    have HL11 := Lib.hid ((HL10.out.below hb11).up hb11.size)
    have HC11 := Lib.hid ((hb11.block _ (row_here HC10.out)).trans HC10.out)
    clear hit hb11
    by_cases h64 : tb.size = 64
    · have hz64 : ((tb.size : Int) != 64) = false := by simp [h64]
      have HS := Lib.hid h64
      have HCR := Lib.hid (fun hq => check_runs (l := l) (b := tb) hq h64)
      have HRI := Lib.hid (implRun_any _ l tb w11 HL11.out (by unfold maxLen; omega) (by omega) ((HB11.out.cell (p := ⟨0, 0, none⟩) hglt).trans HG.out))
      have qrs := fun W (h : Below w11.heap.size w11 W) => specRun_any _ l tb W ((HL11.out.below h).up h.size) (by unfold maxLen; omega) (by omega)
      obtain ⟨ans, hans⟩ : ∃ ans, ans = runL l tb := ⟨_, rfl⟩
      rw [← hans] at HCR HRI qrs
      obtain ⟨s0, s1, s2⟩ := ans
      simp only [ansV] at HCR HRI qrs
      have QRS := Lib.hid qrs
      clear h64 qrs hans
      go_wp2_with fail
      refine HRI.out.mono ?_
      rintro e w12 ⟨rfl, hb12⟩
      have HA12 := Lib.hid (below_al hb12 (.cells #[.int .i64 s0, .int .i64 s1, .int .i64 s2] 44))
      have HB12 := Lib.hid (below_chain HB11.out HA12.out)
      have hr12 := (hb12.block _ (row_here HC11.out)).trans HC11.out
      have hlt12 : w2.heap.size < w12.heap.size := row_here hr12
      have k1 := row_cell hr12 1
      simp only [List.getElem?_toArray, List.getElem?_cons_zero, List.getElem?_cons_succ] at k1
      clear hb12 hr12
      by_cases hq : cq = 0
      · obtain ⟨p0, p1, p2, p3⟩ := HCR.out (by rw [HCK.out]; exact hq)
        subst hq
        subst p0
        unfold In32 at p3
        have e1 : decide ((1 : Int) ≤ s1) = true := decide_eq_true p1
        have e2 : decide (s1 ≤ (l.length : Int)) = true := decide_eq_true p2
        have e3 : decide ((0 : Int) ≤ s0) = true := decide_eq_true p3.1
        have e4 : decide (s0 ≤ (4294967295 : Int)) = true := decide_eq_true p3.2
        go_wp2_with fail
        go_ret
        exact ⟨rfl, HB12.out⟩
      · have hq' : (cq == 0) = false := by simpa using hq
        have eqS := fun W => eqRunWhole s0 s1 s2 W
        have HX12 := Lib.hid (row_drew w12 #[.int .i64 s0, .int .i64 s1, .int .i64 s2] 44)
        go_wp2_with fail
        go_region_law ((go_simp; go_at_call 18; (with_reducible refine (QRS.out _ HA12.out.drew).mono ?_); rintro e w13 ⟨rfl, hb13⟩; have hx13 := (hb13.block _ (row_here HX12.out)).trans HX12.out; have y0 := row_cell hx13 0; have y1 := row_cell hx13 1; have y2 := row_cell hx13 2; simp only [List.getElem?_toArray, List.getElem?_cons_zero, List.getElem?_cons_succ] at y0 y1 y2; have HB13 := Lib.hid (below_chain HB12.out.drew hb13); clear hb13 hx13; dsimp only))
        all_goals
          go_wp2_with fail
          go_ret
          exact ⟨rfl, HB13.out⟩
    · have hz64 : ((tb.size : Int) != 64) = true := by simpa using (show ¬ (tb.size : Int) = 64 by omega)
      go_wp2_with fail
      go_ret
      exact ⟨rfl, HB11.out⟩

theorem et : Tryz.prog.globalNamed "errors.errorType" = some 0 := by kernel_rfl
theorem rt : (Tryz.prog.cutTypes.find? (·.1 == "internal/reflectlite.rtype")).map (·.2) = some 171 := by kernel_rfl
theorem oneRow : ((List.range 215).filter fun t => Tryz.prog.rowNamed t [101, 114, 114, 111, 114]) = [92] := by kernel_rfl
theorem tsize : Tryz.prog.types.size = 215 := by kernel_rfl

/-- What the row's list gives the walk: the variable's one cell. -/
theorem handle_of_laid {W : World} (h : laidMetH Tryz.prog Rows.fnCheckRow.laid W) : W.cell? ⟨0, 0, none⟩ = some handleV := by
  have h' : laidMet Tryz.prog [] W ∧ handlesMet Tryz.prog Rows.fnCheckRow.laid W := h
  obtain ⟨name, u, ty, e1, e2, e3, e4, e5⟩ := h'.2 _ (List.mem_singleton.2 rfl)
  have en : name = [101, 114, 114, 111, 114] := (Option.some.inj e1).symm
  subst en
  obtain rfl := Option.some.inj (rt.symm.trans e2)
  have hm : ty ∈ (List.range 215).filter fun t => Tryz.prog.rowNamed t [101, 114, 114, 111, 114] := List.mem_filter.2 ⟨List.mem_range.2 (by rw [← tsize]; exact e3), e4⟩
  rw [oneRow] at hm
  obtain rfl := List.mem_singleton.1 hm
  have hh : typeHandle Tryz.prog 92 = .pointer (some ⟨1, 92, none⟩) := by kernel_rfl
  rw [hh] at e5
  have := World.var?_cell et e5 0
  unfold handleV
  simpa using this

/-- A world for the witness: the settled one, the variable's cell laid. -/
noncomputable def laidWorld (os : Os) : World :=
  { World.holding Tryz.prog os ⟨#[], #[], []⟩ with heap := (World.holding Tryz.prog os ⟨#[], #[], []⟩).heap.modify 0 fun
      | .cells _ t frozen => .cells #[handleV] t frozen
      | o => o }
theorem laidWorld_met (os : Os) (args : Array Value) : laidMetH Tryz.prog Rows.fnCheckRow.laid ((laidWorld os).forCall (fun _ _ => 0) ⟨#[], args, []⟩).memory :=
  laidMetH_of_parts (laidMet_nil _ _) (by kernel_rfl)

set_option maxRecDepth 100000 in
theorem lifted (os : Os) (started : os.Started) (H : Type) (enc : TypeId × Value → H) :
    ReturnsInHanded {} Tryz.checked os 3 .any (fun w args => (Rows.fnCheckSpec.pre enc Tryz.prog Tryz.f3 [] false w args ∧ laidMetH Tryz.prog Rows.fnCheckRow.laid w) ∧ sizedMet enc Tryz.prog Tryz.f3 (OpenSpec.ofChange Rows.fnCheckSpec) false w args)
      (Rows.fnCheckSpec.post enc Tryz.prog Tryz.f3 false true false false) := by
  refine returnsInHanded_of_change_and (C := Tryz.checked) (X := fun w _ => laidMetH Tryz.prog Rows.fnCheckRow.laid w) (fun _ _ _ hh h => h.of_heap hh) own started (by kernel_rfl) Tryz.func3
    (ChangeSpec.witness_at (enc := enc) (C := Tryz.checked) (os := os) (X := fun w _ => laidMetH Tryz.prog Rows.fnCheckRow.laid w) false (laidWorld os) #[.slice none 0 0, .slice none 0 0] 8 rfl (by kernel_rfl) (by kernel_rfl) (by kernel_rfl) (by kernel_rfl) (by kernel_rfl) (laidWorld_met os _)) ?_
  intro W base args ds gs before hval0 hW _ _ hL _
  have hval : ∀ (j : Nat) t v, Tryz.f3.params[j]? = some t → args[j]? = some v → Value.okWide Tryz.prog W .any base t v := hval0
  have hW' := hW
  obtain ⟨p, q, hA0, hV, rfl, hfz, hnd⟩ := hW
  have hA : DataW.TrodAll enc Tryz.prog W 0 (fun _ => true) true Tryz.f3.params.toList args.toList ds p := hA0
  rw [Tryz.params3] at hA hval
  obtain ⟨v0, vs0, d0, ds0, p0, q0, hargs, rfl, rfl, h0, r0⟩ := trodAll_cons hA
  obtain ⟨v1, vs1, d1, ds1, p1, q1, rfl, rfl, rfl, h1, r1⟩ := trodAll_cons r0
  obtain ⟨rfl, rfl, rfl⟩ := trodAll_nil r1
  obtain rfl : args = #[v0, v1] := by cases args; simp_all
  obtain ⟨rfl, rfl⟩ := trodVars_none hV
  obtain ⟨a0, len0, cap0, rfl⟩ := okWide_slice Tryz.underlying22 (hval 0 22 v0 rfl rfl)
  have k0 := h0
  have lt0 : ∀ x ∈ p0, x.block < W.heap.size := by obtain ⟨m, hm⟩ := k0; exact DataW.trod_lt m _ _ _ hm
  obtain ⟨z0, w0⟩ : ∃ zs, IsRow .u8 W a0 len0 cap0 zs := by
    obtain ⟨fuel, hf⟩ := h0
    rcases open_ints Tryz.underlying22 Tryz.underlying5 (by kernel_rfl) hf with ⟨hcs, _⟩ | ⟨x, l, c, zs, hcs, _, hl, hm, hz, _, hcell, hwz⟩
    · simp [Value.cells] at hcs
      obtain ⟨rfl, rfl, rfl⟩ := hcs
      exact ⟨[], .inl ⟨rfl, rfl, rfl, rfl⟩⟩
    · simp [Value.cells] at hcs
      obtain ⟨rfl, rfl, rfl⟩ := hcs
      exact ⟨zs, .inr ⟨_, rfl, hl, hm, by simpa using hz, hcell, hwz⟩⟩
  obtain ⟨a1, len1, cap1, rfl⟩ := okWide_slice Tryz.underlying22 (hval 1 22 v1 rfl rfl)
  have k1 := h1
  have lt1 : ∀ x ∈ p1, x.block < W.heap.size := by obtain ⟨m, hm⟩ := k1; exact DataW.trod_lt m _ _ _ hm
  obtain ⟨z1, w1⟩ : ∃ zs, IsRow .u8 W a1 len1 cap1 zs := by
    obtain ⟨fuel, hf⟩ := h1
    rcases open_ints Tryz.underlying22 Tryz.underlying5 (by kernel_rfl) hf with ⟨hcs, _⟩ | ⟨x, l, c, zs, hcs, _, hl, hm, hz, _, hcell, hwz⟩
    · simp [Value.cells] at hcs
      obtain ⟨rfl, rfl, rfl⟩ := hcs
      exact ⟨[], .inl ⟨rfl, rfl, rfl, rfl⟩⟩
    · simp [Value.cells] at hcs
      obtain ⟨rfl, rfl, rfl⟩ := hcs
      exact ⟨zs, .inr ⟨_, rfl, hl, hm, by simpa using hz, hcell, hwz⟩⟩
  clear hA0 hval0
  refine (walk a0 len0 cap0 z0 a1 len1 cap1 z1 W w0 w1 (handle_of_laid hL)).mono fun e W' ⟨he, bel⟩ => ?_
  subst he
  exact ⟨_, rfl, _, _, _, [], _, [], hW', trodAll_mk1 (shut_bool Tryz.underlying4 _), (trodAll_cons_mk (Below.trod laidOut (by kernel_rfl) (of_decide_eq_true (by kernel_rfl)) k0 bel lt0) (trodAll_cons_mk (Below.trod laidOut (by kernel_rfl) (of_decide_eq_true (by kernel_rfl)) k1 bel lt1) trodAll_mk0)), rfl, bel.frame _, fun h => by cases h⟩

theorem over : Rows.fnCheckRow.holds Tryz.pinned (OpenSpec.ofChange Rows.fnCheckSpec) :=
  OpenClaim.holds_of_wide 3 Tryz.f3 rfl rfl rfl rfl rfl rfl rfl ⟨rfl, rfl, rfl, rfl, rfl⟩ rfl rfl rfl rfl rfl (by kernel_rfl) Tryz.func3 (by kernel_rfl)
    (of_decide_eq_true (by kernel_rfl)) (by unfold Func.isWrapper; first | (rw [if_pos (by decide +kernel)]; kernel_rfl) | (rw [if_neg (by decide +kernel)]; exact ⟨rfl, rfl⟩))
    (fun os started H enc _ => lifted os started H enc)

/-- What the card asks of the parameters: none wants a stand-in. -/
theorem plain (f : FuncId) (fn : Func) (hf : Tryz.pinned.checked.prog.funcNamed "loop.example/s0083/laws.FnCheck" = some f) (hfn : Tryz.pinned.checked.prog.funcs[f]? = some fn) :
    Rows.fnCheckCard.stood.looks = Tryz.pinned.checked.prog.looks [] ∧ ∀ (j : Nat) t, fn.params[j]? = some t → Tryz.pinned.checked.prog.wantsStandIn t = false := by
  obtain rfl : f = 3 := Option.some.inj ((show Tryz.prog.funcNamed "loop.example/s0083/laws.FnCheck" = some 3 by kernel_rfl).symm.trans hf) |>.symm
  obtain rfl : fn = Tryz.f3 := (Option.some.inj (Tryz.func3.symm.trans hfn)).symm
  refine ⟨by kernel_rfl, fun j t ht => ?_⟩
  rw [Tryz.params3] at ht
  have hm : t ∈ [22, 22] := by simpa using Array.mem_of_getElem? ht
  have hall : ([22, 22].all fun u => !Tryz.prog.wantsStandIn u) = true := by kernel_rfl
  exact (show Tryz.prog.wantsStandIn t = false by simpa using List.all_eq_true.1 hall t hm)

theorem proved : Rows.FnCheckCardSaid :=
  Claim7.holds_tied_plain_at .later [] _ _ _ _ over (fun _ h => by cases h) (by kernel_rfl) (fun _ h => by cases h) fnCheck_row_tie rfl ⟨rfl, rfl⟩ (by kernel_rfl) rfl plain (by kernel_rfl)
#print axioms proved
end Go.Proofs.YtekmnopgaopmlaaGreatDoor.fnCheck
