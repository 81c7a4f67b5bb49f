/- What is written ahead of each word, in the program: cellsAhead. -/
import Derived.Test.YtibbcafhchoiiaaCp
import Derived.Test.YtibbcafhchoiiaaCf
import Derived.StillTailTactics
import Derived.OwnWalk
import Derived.Laws.OwnMore
import Derived.Deep.Draws
set_option maxRecDepth 100000
set_option linter.unusedSimpArgs false
set_option linter.unusedVariables false
namespace Go.Proofs.Ytibbcafhchoiiaa
open Go.RowKit

theorem info_cells : (Try.prog.info? 59).map (fun i => (i.zero, i.size, i.bytes)) = some (some (.int .u16 0), 1, 2) := by kernel_rfl
theorem made_u16 (n : Nat) : (madeCells (.int .u16 0 : Value).cells (n * 1)).toList = (List.replicate n (0 : Int)).flatMap u16C := by
  have hz : (List.replicate n (0 : Int)).flatMap u16C = List.replicate n (.int .u16 0) := by
    induction n with
    | zero => rfl
    | succ n ih => rw [List.replicate_succ, List.flatMap_cons, ih]; rfl
  rw [hz, List.eq_replicate_iff]
  refine ⟨by simp [madeCells], fun b hb => ?_⟩
  simp only [madeCells, Array.toList_map, List.mem_map] at hb
  obtain ⟨j, _, rfl⟩ := hb
  simp [Value.cells, Nat.mod_one]
theorem u16_at {E : TypeId} {w : World} {base g n cap : Nat} {l : List Int} {i : Nat} {x : Int} (h : w.ownsRow base E 1 (.slice (some ⟨g, 0, none⟩) n cap) n (l.flatMap u16C)) (hi : l[i]? = some x) : w.cell? ⟨g, i, none⟩ = some (.int .u16 x) ∧ w.frozen? ⟨g, i, none⟩ = false := by
  have h2 := OwnL.at_ u16S h hi
  exact ⟨by simpa using h2.1 0 _ rfl, h2.2 i⟩
theorem u16_set {E : TypeId} {w : World} {base g n cap : Nat} {l : List Int} {i : Nat} (h : w.ownsRow base E 1 (.slice (some ⟨g, 0, none⟩) n cap) n (l.flatMap u16C)) (hi : i < l.length) (x : Int) : (w.setCell ⟨g, i, none⟩ (.int .u16 x)).ownsRow base E 1 (.slice (some ⟨g, 0, none⟩) n cap) n ((l.set i x).flatMap u16C) := by
  have h2 := OwnL.set u16S (by omega) h hi x
  rw [Nat.mul_one] at h2
  exact h2
theorem rep_succ (k : Nat) : List.replicate (k + 1) (65535 : Int) = List.replicate k 65535 ++ [65535] := by rw [List.replicate_succ']

set_option maxHeartbeats 3200000 in
theorem cellsAhead_any (v : Value) (l : List Ins) (w : World) (h : InsAt w w.heap.size v l) (h1 : 1 ≤ l.length) (hn : l.length ≤ 100000)
    (hok : ∀ (i : Nat) (hi : i < l.length), insRight l[i] = true ∧ (l[i].c = 2 ∨ l[i].c = 3 → l[i].k ≤ 15) ∧ ∀ t ∈ nextI l[i] i, 0 ≤ t ∧ t < l.length) :
    Calls Try.prog 30 #[v] w fun e w' => ∃ u, e = .returned u ∧ OwnL 59 1 u16C w.heap.size w' u (wrL l) ∧ Below w.heap.size w w' := by
  obtain ⟨i0, hi, hz0, hz1, hz2⟩ := info_parts info_cells
  obtain ⟨a, cap, rfl, hlc, hcm⟩ := h.len
  unfold maxLen at hcm
  have HM16 := Lib.hid (wrK_m16 (l := l) fun x hx => by
    obtain ⟨i, hi, rfl⟩ := List.getElem_of_mem hx
    exact (hok i hi).2.1)
  have HH := Lib.hid h
  have HOK := Lib.hid hok
  clear h hok
  go_enter Try.func30, Try.ntmps30
  go_wp2_with (refine wpList_make_full _ rfl _ _ _ rfl w.heap.size 59 i0 _ 1 Try.underlying52 hi hz0 hz1 .i64 .i64 _ _ l.length rfl rfl rfl rfl (by rw [hz2]; omega) (by unfold maxLen; omega) (Nat.le_refl _) ?_; intro w1 hown1 hg1)
  rw [made_u16] at hown1
  have hlt1 := hown1.lt w.heap.size rfl
  have hb1 : Below w.heap.size w w1 := (Below.refl _ _).grown hg1 (Nat.le_refl _) (fun k hk => by cases hk)
  have HO := Lib.hid hown1
  clear hown1 hg1
  go_loopw [15] (fun i wr => ∃ k : Nat, k ≤ l.length ∧ i = .int .i64 k ∧ wr.ownsRow w.heap.size 59 1 (.slice (some ⟨w.heap.size, 0, none⟩) l.length l.length) l.length ((List.replicate k (65535 : Int) ++ List.replicate (l.length - k) (0 : Int)).flatMap u16C) ∧ Below w.heap.size w wr ∧ w.heap.size < wr.heap.size)
    (fun i _ => l.length - (intOf i).toNat)
  case atStart => exact ⟨0, by omega, rfl, HO.out, hb1, hlt1.2⟩
  case round =>
    obtain ⟨k, hk, rfl, hown, hbw, hgl⟩ := hrel
    by_cases hlt : k < l.length
    · have hfill := fillL (pre := List.replicate k (65535 : Int)) (d := (0 : Int)) (by simp) hlt 65535
      rw [← rep_succ k] at hfill
      have hset := u16_set hown (i := k) (by simp; omega) 65535
      rw [hfill.2] at hset
      obtain ⟨d0, f0⟩ := u16_at hown hfill.1
      have hbX : ∀ u0 : Value, Below w.heap.size w (wr.setCell ⟨w.heap.size, k, none⟩ u0) := fun u0 => hbw.setCell (p := ⟨w.heap.size, k, none⟩) (Nat.le_refl _) _
      have HS := Lib.hid hset
      have HB := Lib.hid hbX
      clear hset hbX hfill hown hbw
      go_wp2_with fail
      go_roundw
      case rel => exact ⟨k + 1, by omega, by go_num, HS.out, HB.out _, by simpa using hgl⟩
      case measure => simp [intOf]; omega
    · have e : k = l.length := by omega
      rw [e] at hown
      clear e
      rw [Nat.sub_self, List.replicate_zero, List.append_nil] at hown
      have hset := u16_set hown (i := 0) (by simp; omega) 0
      rw [preM_all l.length h1] at hset
      obtain ⟨d0, f0⟩ := u16_at hown (i := 0) (x := 65535) (by rw [List.getElem?_replicate, if_pos (by omega)])
      have hbX : ∀ u0 : Value, Below w.heap.size w (wr.setCell ⟨w.heap.size, 0, none⟩ u0) := fun u0 => hbw.setCell (p := ⟨w.heap.size, 0, none⟩) (Nat.le_refl _) _
      have HM0 := Lib.hid (hset : (wr.setCell ⟨w.heap.size, 0, none⟩ (.int .u16 0)).ownsRow w.heap.size 59 1 (.slice (some ⟨w.heap.size, 0, none⟩) l.length l.length) l.length ((wrK l 0).flatMap u16C))
      have HBW := Lib.hid hbX
      have hl0 : 0 < l.length := by omega
      clear hown hbw hset hbX
      go_wp2_with fail
      go_loopw [26] (fun i ws => ∃ k : Nat, k ≤ l.length ∧ i = .int .i64 k ∧ ws.ownsRow w.heap.size 59 1 (.slice (some ⟨w.heap.size, 0, none⟩) l.length l.length) l.length ((wrK l k).flatMap u16C) ∧ Below w.heap.size w ws ∧ w.heap.size < ws.heap.size)
        (fun i _ => l.length - (intOf i).toNat)
      case atStart => exact ⟨0, by omega, rfl, HM0.out, HBW.out _, by simpa using hgl⟩
      case round =>
        obtain ⟨k, hk, rfl, hown, hbs, hgs⟩ := hrel
        clear d0 f0
        by_cases hlt : k < l.length
        · obtain ⟨b, o, e, hb, c0, c1, c2, c3, hwf⟩ := (HH.out.below hbs).at_ (List.getElem?_eq_getElem hlt)
          subst e
          have hx := HOK.out k hlt
          have hq := fun W => waysFrom_any l[k] k W (by omega) hx.1
          obtain ⟨m, hm⟩ : ∃ m, (wrK l k)[k]? = some m := ⟨_, List.getElem?_eq_getElem (by rw [wrK_length]; exact hlt)⟩
          have hmm := HM16.out k m (List.mem_of_getElem? hm)
          obtain ⟨d0, f0⟩ := u16_at hown hm
          have hstep : wrK l (k + 1) = (nextI l[k] k).foldl (passM (outM l[k] m)) (wrK l k) := by
            rw [wrK_next hlt, stepM, List.getD_eq_getElem?_getD, hm]
            rfl
          have hms := wrK_length l k
          have hr := hx.1
          unfold insRight isB at hr
          simp only [Bool.and_eq_true, decide_eq_true_eq] at hr
          have hk0 := hr.2.1
          have hkm := hx.2.1
          have htg := hx.2.2
          have hom := outM_m16 hmm hkm
          generalize hxx : l[k] = x at *
          obtain ⟨xc, xy, xn, xk⟩ := x
          simp only at c0 c1 c2 c3 hk0 hkm hq
          obtain ⟨m', hm'⟩ : ∃ m', m' = outM ⟨xc, xy, xn, xk⟩ m := ⟨_, rfl⟩
          rw [← hm'] at hstep hom
          generalize nextI ⟨xc, xy, xn, xk⟩ k = nx at *
          have HMK := Lib.hid (HM16.out k)
          generalize wrK l k = ms at *
          have HQ := Lib.hid hq
          have HS := Lib.hid hstep
          have HT := Lib.hid htg
          have HW := Lib.hid hbs
          have HM := Lib.hid hown
          have HP := Lib.hid hm'
          have HOM := Lib.hid hom
          clear hq hstep htg hbs hown hx hr hwf hxx hm hm' hom
          obtain ⟨t, ht⟩ : ∃ t, t = (xc == 2 || xc == 3) := ⟨_, rfl⟩
          have HTT := Lib.hid ht
          clear ht
          go_upto_region 12 with fail
          go_cut [42] from 35 to 42 (fun s ws => s = .bool t ∧ ws = wr.alloc (.cells #[.int .i64 xc, .int .i64 xy, .int .i64 xn, .int .i64 xk] 40))
          case first =>
            have key : xc = 2 ∨ (xc ≠ 2 ∧ xc = 3) ∨ (xc ≠ 2 ∧ xc ≠ 3) := by omega
            rcases key with h2 | ⟨n2, h3⟩ | ⟨n2, n3⟩
            · have e2 : (xc == 2) = true := by simpa using h2
              have HT2 := Lib.hid (HTT.out.trans (by rw [e2]; rfl) : t = true)
              clear h2
              go_wp2_with fail
              go_meet
              exact ⟨congrArg Value.bool HT2.out.symm, rfl⟩
            · have e2 : (xc == 2) = false := eq_false_of n2
              have e3 : (xc == 3) = true := by simpa using h3
              have HT2 := Lib.hid (HTT.out.trans (by rw [e2, e3]; rfl) : t = true)
              clear h3 n2
              go_wp2_with fail
              go_meet
              exact ⟨congrArg Value.bool HT2.out.symm, rfl⟩
            · have e2 : (xc == 2) = false := eq_false_of n2
              have e3 : (xc == 3) = false := eq_false_of n3
              have HT2 := Lib.hid (HTT.out.trans (by rw [e2, e3]; rfl) : t = false)
              clear n3 n2
              go_wp2_with fail
              go_meet
              exact ⟨congrArg Value.bool HT2.out.symm, rfl⟩
          case rest =>
          obtain ⟨rfl, hwc⟩ := hcut
          subst hwc
          go_upto_if 42 with fail
          go_cut [7] from 43 to 47 (fun s ws => s = .int .u16 m' ∧ ws = wr.alloc (.cells #[.int .i64 xc, .int .i64 xy, .int .i64 xn, .int .i64 xk] 40))
          case first =>
            cases t
            · have HX := Lib.hid (HP.out.trans (show outM ⟨xc, xy, xn, xk⟩ m = m by
                have := HTT.out
                simp only [Bool.false_eq, Bool.or_eq_false_iff, beq_eq_false_iff_ne, ne_eq] at this
                exact if_neg (show ¬ (xc = 2 ∨ xc = 3) by omega)))
              go_wp2_with fail
              go_meet
              exact ⟨congrArg (Value.int .u16) HX.out.symm, rfl⟩
            · have hor : xc = 2 ∨ xc = 3 := by
                have := HTT.out
                simpa using this
              have hk15 := hkm hor
              have HX := Lib.hid (HP.out.trans (show outM ⟨xc, xy, xn, xk⟩ m = bits .or .i64 m (wrap64 (2 ^ xk.toNat)) from if_pos hor))
              clear hkm hor
              have HY := Lib.hid (show bits .or .u16 m (IntKind.u16.wrap (2 ^ xk.toNat)) = m' by
                have hp := pow_m16 hk15
                rw [hp.2.2, (or_u16 hmm hp.1).1, HX.out, hp.2.1])
              go_wp2_with fail
              go_meet
              exact ⟨congrArg (Value.int .u16) HY.out, rfl⟩
          case rest =>
          obtain ⟨rfl, hwc⟩ := hcut
          subst hwc
          obtain ⟨B3, hB3⟩ : ∃ B3, wr.heap.size + 1 = B3 := ⟨_, rfl⟩
          have HBX := Lib.hid (HW.out.alloc HW.out.size (.cells #[.int .i64 xc, .int .i64 xy, .int .i64 xn, .int .i64 xk] 40))
          have HMX := Lib.hid (World.ownsRow.alloc HM.out (.cells #[.int .i64 xc, .int .i64 xy, .int .i64 xn, .int .i64 xk] 40))
          clear HW HM
          go_wp2_with fail
          refine (HQ.out _).mono ?_
          rintro e w3 ⟨u, rfl, ho3, hb3⟩
          obtain ⟨ua, ucap, rfl⟩ := OwnL.slice ho3
          have hnl := OwnL.cap_le ho3
          unfold maxLen at hnl
          have hM3 := Lib.hid (own_below HMX.out hb3)
          have hW3 := Lib.hid (HBX.out.trans (hb3.mono HBX.out.size))
          have hO3 := Lib.hid ((by simpa using hB3 : (wr.alloc (.cells #[.int .i64 xc, .int .i64 xy, .int .i64 xn, .int .i64 xk] 40)).heap.size = B3) ▸ ho3 : OwnL 2 1 numC B3 w3 _ nx)
          have hg3 : w.heap.size < w3.heap.size := Nat.lt_of_lt_of_le hgs (Nat.le_trans (by simp) hb3.size)
          clear ho3 hb3 d0 f0 c0 c1 c2 c3
          go_wp2_with fail
          go_loopw [52] (fun q ws => ∃ j : Nat, j ≤ nx.length ∧ q = .int .i64 j ∧ ws.ownsRow w.heap.size 59 1 (.slice (some ⟨w.heap.size, 0, none⟩) l.length l.length) l.length (((nx.take j).foldl (passM m') ms).flatMap u16C) ∧ OwnL 2 1 numC B3 ws (.slice ua nx.length ucap) nx ∧ Below w.heap.size w ws ∧ w.heap.size < ws.heap.size)
            (fun q _ => nx.length - (intOf q).toNat)
          case atStart => exact ⟨0, by omega, rfl, hM3.out, hO3.out, hW3.out, hg3⟩
          case round =>
            obtain ⟨j, hj, rfl, hown, hont, hbj, hgj⟩ := hrel
            by_cases hjl : j < nx.length
            · obtain ⟨ub, uo, e, hub, hcell, _⟩ := LAt.at_ (intAt_own hont) (List.getElem?_eq_getElem hjl)
              subst e
              have d := hcell 0 _ rfl
              simp only [Nat.mul_one, Nat.add_zero] at d
              clear hcell
              obtain ⟨ht0, ht1⟩ := HT.out nx[j] (List.getElem_mem hjl)
              have hnext := foldM_next (m := m') (ms := ms) hjl
              obtain ⟨tn, htn⟩ := Int.eq_ofNat_of_zero_le ht0
              rw [htn] at d ht1 hnext
              have htl : tn < l.length := by omega
              have hfl : ((nx.take j).foldl (passM m') ms).length = l.length := by rw [foldM_length]; exact hms
              obtain ⟨mm, hmm2⟩ : ∃ mm, ((nx.take j).foldl (passM m') ms)[tn]? = some mm := ⟨_, List.getElem?_eq_getElem (by omega)⟩
              have hmm16 := foldM_m16 HOM.out (nx.take j) ms HMK.out mm (List.mem_of_getElem? hmm2)
              obtain ⟨dm, fm⟩ := u16_at hown hmm2
              have hset := u16_set hown (i := tn) (by omega) (bits .and .i64 mm m')
              rw [show ((nx.take j).foldl (passM m') ms).set tn (bits .and .i64 mm m') = (nx.take (j + 1)).foldl (passM m') ms by
                rw [hnext, passM, Int.toNat_natCast, List.getD_eq_getElem?_getD, hmm2]; rfl] at hset
              rw [← (and_u16 hmm16 HOM.out).1] at hset
              have hbX : ∀ u0 : Value, Below w.heap.size w (wr.setCell ⟨w.heap.size, tn, none⟩ u0) := fun u0 => hbj.setCell (p := ⟨w.heap.size, tn, none⟩) (Nat.le_refl _) _
              have hoX : ∀ u0 : Value, OwnL 2 1 numC B3 (wr.setCell ⟨w.heap.size, tn, none⟩ u0) (.slice (some ⟨ub, uo, none⟩) nx.length ucap) nx := fun u0 => OwnL.setBelow hont (a := ⟨w.heap.size, tn, none⟩) (show w.heap.size < B3 by omega) u0
              have HSJ := Lib.hid hset
              have HBJ := Lib.hid hbX
              have HOJ := Lib.hid hoX
              clear hset hbX hoX hown hont hbj hmm2 hfl hnext htn hmm16
              go_wp2_with fail
              go_roundw
              case rel => exact ⟨j + 1, by omega, by go_num, HSJ.out, HOJ.out _, HBJ.out _, by simpa using hgj⟩
              case measure => simp [intOf]; omega
            · have hF := Lib.hid (show wr.ownsRow w.heap.size 59 1 (.slice (some ⟨w.heap.size, 0, none⟩) l.length l.length) l.length ((wrK l (k + 1)).flatMap u16C) by
                rw [HS.out]
                rw [List.take_of_length_le (by omega)] at hown
                exact hown)
              clear hown hont
              go_wp2_with fail
              go_roundw
              case rel => exact ⟨k + 1, by omega, by go_num, hF.out, hbj, hgj⟩
              case measure => simp [intOf]; omega
        · have hO := Lib.hid (show OwnL 59 1 u16C w.heap.size wr (.slice (some ⟨w.heap.size, 0, none⟩) l.length l.length) (wrL l) by
            have e : k = l.length := by omega
            subst e
            unfold OwnL wrL
            rw [wrK_length]
            exact hown)
          clear hown
          go_wp2_with fail
          go_ret
          exact ⟨_, rfl, hO.out, hbs⟩

end Go.Proofs.Ytibbcafhchoiiaa
