/- What is written before each word: l04Written of the model walked. -/
import Derived.Test.YtibbcafhchoiiaaBd
import Derived.StillTailTactics
import Derived.OwnWalk
import Derived.Laws.OwnMore
import Derived.Deep.Draws
set_option maxRecDepth 100000
set_option linter.unusedSimpArgs false
namespace Go.Proofs.Ytibbcafhchoiiaa
open Go.RowKit

theorem info_int64 : (Try.prog.info? 2).map (fun i => (i.zero, i.size, i.bytes)) = some (some (.int .i64 0), 1, 8) := by kernel_rfl
theorem made_int (n : Nat) : (madeCells (.int .i64 0 : Value).cells (n * 1)).toList = (List.replicate n (0 : Int)).flatMap numC := by
  have hz : (List.replicate n (0 : Int)).flatMap numC = List.replicate n (.int .i64 0) := by
    induction n with
    | zero => rfl
    | succ n ih => rw [List.replicate_succ, List.flatMap_cons, ih]; rfl
  rw [hz, List.eq_replicate_iff]
  refine ⟨by simp [madeCells], fun b hb => ?_⟩
  simp only [madeCells, Array.toList_map, List.mem_map] at hb
  obtain ⟨j, _, rfl⟩ := hb
  simp [Value.cells, Nat.mod_one]
theorem int_at {E : TypeId} {w : World} {base g n cap : Nat} {l : List Int} {i : Nat} {x : Int} (h : w.ownsRow base E 1 (.slice (some ⟨g, 0, none⟩) n cap) n (l.flatMap numC)) (hi : l[i]? = some x) : w.cell? ⟨g, i, none⟩ = some (.int .i64 x) ∧ w.frozen? ⟨g, i, none⟩ = false := by
  have h2 := OwnL.at_ numS h hi
  exact ⟨by simpa using h2.1 0 _ rfl, h2.2 i⟩
theorem int_set {E : TypeId} {w : World} {base g n cap : Nat} {l : List Int} {i : Nat} (h : w.ownsRow base E 1 (.slice (some ⟨g, 0, none⟩) n cap) n (l.flatMap numC)) (hi : i < l.length) (x : Int) : (w.setCell ⟨g, i, none⟩ (.int .i64 x)).ownsRow base E 1 (.slice (some ⟨g, 0, none⟩) n cap) n ((l.set i x).flatMap numC) := by
  have h2 := OwnL.set numS (by omega) h hi x
  rw [Nat.mul_one] at h2
  exact h2
theorem intAt_own {E : TypeId} {base : Nat} {w : World} {v : Value} {l : List Int} (h : OwnL E 1 numC base w v l) : LAt numC 1 (fun _ => True) w w.heap.size v l := h.lAt numS fun _ _ => trivial

/-- The masks before anything is known. -/
def preM (k : Nat) : List Int := (List.range k).map fun i => if i = 0 then 0 else 65535
theorem preM_length (k : Nat) : (preM k).length = k := by simp [preM]
theorem preM_succ {k : Nat} (h : 1 ≤ k) : preM (k + 1) = preM k ++ [65535] := by
  unfold preM
  rw [List.range_succ, List.map_append]
  simp
  omega
/-- What one word hands on. -/
def outM (x : Ins) (m : Int) : Int := if x.c = 2 ∨ x.c = 3 then bits .or .i64 m (wrap64 (2 ^ x.k.toNat)) else m
def passM (m : Int) (ms : List Int) (t : Int) : List Int := ms.set t.toNat (bits .and .i64 (ms.getD t.toNat 0) m)
theorem passM_length (m : Int) (ms : List Int) (t : Int) : (passM m ms t).length = ms.length := by simp [passM]
theorem foldM_length (m : Int) : ∀ (ts ms : List Int), (ts.foldl (passM m) ms).length = ms.length
  | [], _ => rfl
  | t :: ts, ms => by rw [List.foldl_cons, foldM_length m ts, passM_length]
theorem foldM_next {m : Int} {ts ms : List Int} {j : Nat} (h : j < ts.length) : (ts.take (j + 1)).foldl (passM m) ms = passM m ((ts.take j).foldl (passM m) ms) ts[j] := by
  rw [List.take_succ_eq_append_getElem h, List.foldl_append]
  rfl
def stepM (ms : List Int) (i : Nat) (x : Ins) : List Int := (nextI x i).foldl (passM (outM x (ms.getD i 0))) ms
def wrK (l : List Ins) : Nat → List Int
  | 0 => preM l.length
  | k + 1 => match l[k]? with
    | some x => stepM (wrK l k) k x
    | none => wrK l k
theorem wrK_length (l : List Ins) : ∀ k, (wrK l k).length = l.length
  | 0 => preM_length _
  | k + 1 => by
    unfold wrK
    split
    · rw [stepM, foldM_length, wrK_length l k]
    · exact wrK_length l k
theorem wrK_next {l : List Ins} {k : Nat} (h : k < l.length) : wrK l (k + 1) = stepM (wrK l k) k l[k] := by
  rw [wrK, List.getElem?_eq_getElem h]
def wrL (l : List Ins) : List Int := wrK l l.length

set_option maxHeartbeats 3200000 in
theorem l04Written_any (v : Value) (l : List Ins) (w : World) (h : InsAt w w.heap.size v l) (h1 : 1 ≤ l.length) (hn : l.length ≤ 100000)
    (hok : ∀ (i : Nat) (hi : i < l.length), insRight l[i] = true ∧ (l[i].c = 2 ∨ l[i].c = 3 → l[i].k ≤ 63) ∧ ∀ t ∈ nextI l[i] i, 0 ≤ t ∧ t < l.length) :
    Calls Try.prog 21 #[v] w fun e w' => ∃ u, e = .returned u ∧ OwnL 2 1 numC w.heap.size w' u (wrL l) ∧ Below w.heap.size w w' := by
  obtain ⟨i0, hi, hz0, hz1, hz2⟩ := info_parts info_int64
  obtain ⟨a, cap, rfl, hlc, hcm⟩ := h.len
  unfold maxLen at hcm
  have HH := Lib.hid h
  have HOK := Lib.hid hok
  clear h hok
  go_enter Try.func21, Try.ntmps21
  go_wp2_with (refine wpList_make_full _ rfl _ _ _ rfl w.heap.size 2 i0 _ 1 Try.underlying32 hi hz0 hz1 .i64 .i64 _ _ l.length rfl rfl rfl rfl (by rw [hz2]; omega) (by unfold maxLen; omega) (Nat.le_refl _) ?_; intro w1 hown1 hg1)
  rw [made_int] at hown1
  have hlt1 := hown1.lt w.heap.size rfl
  have hb1 : Below w.heap.size w w1 := (Below.refl _ _).grown hg1 (Nat.le_refl _) (fun k hk => by cases hk)
  have HO := Lib.hid (show w1.ownsRow w.heap.size 2 1 (.slice (some ⟨w.heap.size, 0, none⟩) l.length l.length) l.length ((preM 1 ++ List.replicate (l.length - 1) (0 : Int)).flatMap numC) by
    have e : preM 1 ++ List.replicate (l.length - 1) (0 : Int) = List.replicate l.length 0 := by
      obtain ⟨m, hm⟩ : ∃ m, l.length = m + 1 := ⟨l.length - 1, by omega⟩
      rw [hm]
      rfl
    rw [e]
    exact hown1)
  clear hown1 hg1
  go_loopw [4] (fun i wr => ∃ k : Nat, 1 ≤ k ∧ k ≤ l.length ∧ i = .int .i64 k ∧ wr.ownsRow w.heap.size 2 1 (.slice (some ⟨w.heap.size, 0, none⟩) l.length l.length) l.length ((preM k ++ List.replicate (l.length - k) (0 : Int)).flatMap numC) ∧ Below w.heap.size w wr ∧ w.heap.size < wr.heap.size)
    (fun i _ => l.length - (intOf i).toNat)
  case atStart => exact ⟨1, by omega, h1, rfl, HO.out, hb1, hlt1.2⟩
  case round =>
    obtain ⟨k, hk1, hk, rfl, hown, hbw, hgl⟩ := hrel
    by_cases hlt : k < l.length
    · have hfill := fillL (d := (0 : Int)) (preM_length k) hlt 65535
      rw [← preM_succ hk1] at hfill
      have hset := int_set hown (i := k) (by simp [preM_length]; omega) 65535
      rw [hfill.2] at hset
      obtain ⟨d0, f0⟩ := int_at hown hfill.1
      have hbX : ∀ u0 : Value, Below w.heap.size w (wr.setCell ⟨w.heap.size, k, none⟩ u0) := fun u0 => hbw.setCell (p := ⟨w.heap.size, k, none⟩) (Nat.le_refl _) _
      have HS := Lib.hid hset
      have HB := Lib.hid hbX
      clear hset hbX hfill hown hbw
      go_wp2_with fail
      go_roundw
      case rel => exact ⟨k + 1, by omega, by omega, by go_num, HS.out, HB.out _, by simpa using hgl⟩
      case measure => simp [intOf]; omega
    · have hM := Lib.hid (show wr.ownsRow w.heap.size 2 1 (.slice (some ⟨w.heap.size, 0, none⟩) l.length l.length) l.length ((wrK l 0).flatMap numC) by
        have e : k = l.length := by omega
        subst e
        rw [Nat.sub_self, List.replicate_zero, List.append_nil] at hown
        exact hown)
      have HBW := Lib.hid hbw
      clear hown hbw hk1
      go_wp2_with fail
      go_loopw [5] (fun i ws => ∃ k : Nat, k ≤ l.length ∧ i = .int .i64 k ∧ ws.ownsRow w.heap.size 2 1 (.slice (some ⟨w.heap.size, 0, none⟩) l.length l.length) l.length ((wrK l k).flatMap numC) ∧ Below w.heap.size w ws ∧ w.heap.size < ws.heap.size)
        (fun i _ => l.length - (intOf i).toNat)
      case atStart => exact ⟨0, by omega, rfl, hM.out, HBW.out, hgl⟩
      case round =>
        obtain ⟨k, hk, rfl, hown, hbs, hgs⟩ := hrel
        by_cases hlt : k < l.length
        · obtain ⟨b, o, e, hb, c0, c1, c2, c3, hwf⟩ := (HH.out.below hbs).at_ (List.getElem?_eq_getElem hlt)
          subst e
          have hx := HOK.out k hlt
          have hI := (HH.out.below hbs).up hbs.size
          have hq := fun W (hW : InsAt W W.heap.size _ l) => l04Next_any (.slice (some ⟨b, o, none⟩) l.length cap) l k l[k] W hW (List.getElem?_eq_getElem hlt) (by omega) hx.1
          obtain ⟨m, hm⟩ : ∃ m, (wrK l k)[k]? = some m := ⟨_, List.getElem?_eq_getElem (by rw [wrK_length]; exact hlt)⟩
          obtain ⟨d0, f0⟩ := int_at hown hm
          have hstep : wrK l (k + 1) = (nextI l[k] k).foldl (passM (outM l[k] m)) (wrK l k) := by
            rw [wrK_next hlt, stepM, List.getD_eq_getElem?_getD, hm]
            rfl
          have hms := wrK_length l k
          have hr := hx.1
          unfold insRight isB at hr
          simp only [Bool.and_eq_true, decide_eq_true_eq] at hr
          have hk0 := hr.2.1
          have hkm := hx.2.1
          have htg := hx.2.2
          generalize hxx : l[k] = x at *
          obtain ⟨xc, xy, xn, xk⟩ := x
          simp only at c0 c1 c2 c3 hk0 hkm
          generalize nextI ⟨xc, xy, xn, xk⟩ k = nx at *
          generalize wrK l k = ms at *
          have HQ := Lib.hid hq
          have HS := Lib.hid hstep
          have HT := Lib.hid htg
          have HW := Lib.hid hbs
          have HI := Lib.hid hI
          have HM := Lib.hid hown
          clear hq hstep htg hbs hI hown hx hr hwf hxx hm
          obtain ⟨B3, hB3⟩ : ∃ B3, wr.heap.size = B3 := ⟨_, rfl⟩
          have key : xc = 2 ∨ xc = 3 ∨ (xc ≠ 2 ∧ xc ≠ 3) := by omega
          rcases key with h2 | h3 | ⟨n2, n3⟩
          · subst h2
            have hk63 := hkm (.inl rfl)
            have hX := show outM ⟨2, xy, xn, xk⟩ m = bits .or .i64 m (wrap64 (2 ^ xk.toNat)) from by simp [outM]
            clear hkm
            go_wp2_with fail
            generalize bits .or .i64 m (wrap64 (2 ^ xk.toNat)) = m' at hX ⊢
            have HX := Lib.hid hX
            clear hX
            refine (HQ.out _ HI.out).mono ?_
            rintro e w3 ⟨u, rfl, ho3, hb3⟩
            obtain ⟨ua, ucap, rfl⟩ := OwnL.slice ho3
            have hnl := OwnL.cap_le ho3
            unfold maxLen at hnl
            have hM3 := Lib.hid (own_below HM.out hb3)
            have hW3 := Lib.hid (HW.out.trans (hb3.mono HW.out.size))
            have hO3 := Lib.hid (hB3 ▸ ho3 : IntOwn B3 w3 _ nx)
            have hg3 := Nat.lt_of_lt_of_le hgs hb3.size
            clear ho3 hb3 d0 f0 c0 c1 c2 c3
            go_wp2_with fail
            go_loopw [8] (fun q ws => ∃ j : Nat, j ≤ nx.length ∧ q = .int .i64 j ∧ ws.ownsRow w.heap.size 2 1 (.slice (some ⟨w.heap.size, 0, none⟩) l.length l.length) l.length (((nx.take j).foldl (passM m') ms).flatMap numC) ∧ IntOwn B3 ws (.slice ua nx.length ucap) nx ∧ Below w.heap.size w ws ∧ w.heap.size < ws.heap.size)
              (fun q _ => nx.length - (intOf q).toNat)
            case atStart => exact ⟨0, by omega, rfl, hM3.out, hO3.out, hW3.out, hg3⟩
            case round =>
              obtain ⟨j, hj, rfl, hown, hont, hbj, hgj⟩ := hrel
              by_cases hjl : j < nx.length
              · obtain ⟨ub, uo, e, hub, hcell, _⟩ := LAt.at_ (intAt_own hont) (List.getElem?_eq_getElem hjl)
                subst e
                have d := hcell 0 _ rfl
                simp only [Nat.mul_one, Nat.add_zero] at d
                clear hcell
                obtain ⟨ht0, ht1⟩ := HT.out nx[j] (List.getElem_mem hjl)
                have hnext := foldM_next (m := m') (ms := ms) hjl
                obtain ⟨tn, htn⟩ := Int.eq_ofNat_of_zero_le ht0
                rw [htn] at d ht1 hnext
                have htl : tn < l.length := by omega
                have hfl : ((nx.take j).foldl (passM m') ms).length = l.length := by rw [foldM_length]; exact hms
                obtain ⟨mm, hmm⟩ : ∃ mm, ((nx.take j).foldl (passM m') ms)[tn]? = some mm := ⟨_, List.getElem?_eq_getElem (by omega)⟩
                obtain ⟨dm, fm⟩ := int_at hown hmm
                have hset := int_set hown (i := tn) (by omega) (bits .and .i64 mm m')
                rw [show ((nx.take j).foldl (passM m') ms).set tn (bits .and .i64 mm m') = (nx.take (j + 1)).foldl (passM m') ms by
                  rw [hnext, passM, Int.toNat_natCast, List.getD_eq_getElem?_getD, hmm]; rfl] at hset
                have hbX : ∀ u0 : Value, Below w.heap.size w (wr.setCell ⟨w.heap.size, tn, none⟩ u0).drew := fun u0 => (hbj.setCell (p := ⟨w.heap.size, tn, none⟩) (Nat.le_refl _) _).drew
                have hoX : ∀ u0 : Value, IntOwn B3 (wr.setCell ⟨w.heap.size, tn, none⟩ u0).drew (.slice (some ⟨ub, uo, none⟩) nx.length ucap) nx := fun u0 => OwnL.setBelow hont (a := ⟨w.heap.size, tn, none⟩) (by rw [← hB3]; exact hgs) u0
                have HSJ := Lib.hid hset
                have HBJ := Lib.hid hbX
                have HOJ := Lib.hid hoX
                clear hset hbX hoX hown hont hbj hmm hfl hnext htn
                go_wp2_with fail
                refine wp_region_still_tail 15 (by kernel_rfl) (by kernel_rfl) ?_
                simp only [List.take_succ_cons, List.take_zero, List.drop_succ_cons, List.drop_zero, World.drew_eq]
                repeat still_step
                refine wpStill_nil ?_
                go_wp2_with fail
                go_roundw
                case rel => exact ⟨j + 1, by omega, by go_num, HSJ.out, HOJ.out _, HBJ.out _, by simpa using hgj⟩
                case measure => simp [intOf]; omega
              · have hF := Lib.hid (show wr.ownsRow w.heap.size 2 1 (.slice (some ⟨w.heap.size, 0, none⟩) l.length l.length) l.length ((wrK l (k + 1)).flatMap numC) by
                  rw [HS.out, HX.out]
                  rw [List.take_of_length_le (by omega)] at hown
                  exact hown)
                clear hown hont
                go_wp2_with fail
                go_roundw
                case rel => exact ⟨k + 1, by omega, by go_num, hF.out, hbj, hgj⟩
                case measure => simp [intOf]; omega
          · subst h3
            have hk63 := hkm (.inr rfl)
            have hX := show outM ⟨3, xy, xn, xk⟩ m = bits .or .i64 m (wrap64 (2 ^ xk.toNat)) from by simp [outM]
            clear hkm
            go_wp2_with fail
            generalize bits .or .i64 m (wrap64 (2 ^ xk.toNat)) = m' at hX ⊢
            have HX := Lib.hid hX
            clear hX
            refine (HQ.out _ HI.out).mono ?_
            rintro e w3 ⟨u, rfl, ho3, hb3⟩
            obtain ⟨ua, ucap, rfl⟩ := OwnL.slice ho3
            have hnl := OwnL.cap_le ho3
            unfold maxLen at hnl
            have hM3 := Lib.hid (own_below HM.out hb3)
            have hW3 := Lib.hid (HW.out.trans (hb3.mono HW.out.size))
            have hO3 := Lib.hid (hB3 ▸ ho3 : IntOwn B3 w3 _ nx)
            have hg3 := Nat.lt_of_lt_of_le hgs hb3.size
            clear ho3 hb3 d0 f0 c0 c1 c2 c3
            go_wp2_with fail
            go_loopw [8] (fun q ws => ∃ j : Nat, j ≤ nx.length ∧ q = .int .i64 j ∧ ws.ownsRow w.heap.size 2 1 (.slice (some ⟨w.heap.size, 0, none⟩) l.length l.length) l.length (((nx.take j).foldl (passM m') ms).flatMap numC) ∧ IntOwn B3 ws (.slice ua nx.length ucap) nx ∧ Below w.heap.size w ws ∧ w.heap.size < ws.heap.size)
              (fun q _ => nx.length - (intOf q).toNat)
            case atStart => exact ⟨0, by omega, rfl, hM3.out, hO3.out, hW3.out, hg3⟩
            case round =>
              obtain ⟨j, hj, rfl, hown, hont, hbj, hgj⟩ := hrel
              by_cases hjl : j < nx.length
              · obtain ⟨ub, uo, e, hub, hcell, _⟩ := LAt.at_ (intAt_own hont) (List.getElem?_eq_getElem hjl)
                subst e
                have d := hcell 0 _ rfl
                simp only [Nat.mul_one, Nat.add_zero] at d
                clear hcell
                obtain ⟨ht0, ht1⟩ := HT.out nx[j] (List.getElem_mem hjl)
                have hnext := foldM_next (m := m') (ms := ms) hjl
                obtain ⟨tn, htn⟩ := Int.eq_ofNat_of_zero_le ht0
                rw [htn] at d ht1 hnext
                have htl : tn < l.length := by omega
                have hfl : ((nx.take j).foldl (passM m') ms).length = l.length := by rw [foldM_length]; exact hms
                obtain ⟨mm, hmm⟩ : ∃ mm, ((nx.take j).foldl (passM m') ms)[tn]? = some mm := ⟨_, List.getElem?_eq_getElem (by omega)⟩
                obtain ⟨dm, fm⟩ := int_at hown hmm
                have hset := int_set hown (i := tn) (by omega) (bits .and .i64 mm m')
                rw [show ((nx.take j).foldl (passM m') ms).set tn (bits .and .i64 mm m') = (nx.take (j + 1)).foldl (passM m') ms by
                  rw [hnext, passM, Int.toNat_natCast, List.getD_eq_getElem?_getD, hmm]; rfl] at hset
                have hbX : ∀ u0 : Value, Below w.heap.size w (wr.setCell ⟨w.heap.size, tn, none⟩ u0).drew := fun u0 => (hbj.setCell (p := ⟨w.heap.size, tn, none⟩) (Nat.le_refl _) _).drew
                have hoX : ∀ u0 : Value, IntOwn B3 (wr.setCell ⟨w.heap.size, tn, none⟩ u0).drew (.slice (some ⟨ub, uo, none⟩) nx.length ucap) nx := fun u0 => OwnL.setBelow hont (a := ⟨w.heap.size, tn, none⟩) (by rw [← hB3]; exact hgs) u0
                have HSJ := Lib.hid hset
                have HBJ := Lib.hid hbX
                have HOJ := Lib.hid hoX
                clear hset hbX hoX hown hont hbj hmm hfl hnext htn
                go_wp2_with fail
                refine wp_region_still_tail 15 (by kernel_rfl) (by kernel_rfl) ?_
                simp only [List.take_succ_cons, List.take_zero, List.drop_succ_cons, List.drop_zero, World.drew_eq]
                repeat still_step
                refine wpStill_nil ?_
                go_wp2_with fail
                go_roundw
                case rel => exact ⟨j + 1, by omega, by go_num, HSJ.out, HOJ.out _, HBJ.out _, by simpa using hgj⟩
                case measure => simp [intOf]; omega
              · have hF := Lib.hid (show wr.ownsRow w.heap.size 2 1 (.slice (some ⟨w.heap.size, 0, none⟩) l.length l.length) l.length ((wrK l (k + 1)).flatMap numC) by
                  rw [HS.out, HX.out]
                  rw [List.take_of_length_le (by omega)] at hown
                  exact hown)
                clear hown hont
                go_wp2_with fail
                go_roundw
                case rel => exact ⟨k + 1, by omega, by go_num, hF.out, hbj, hgj⟩
                case measure => simp [intOf]; omega
          · have e2 := eq_false_of n2
            have e3 := eq_false_of n3
            have hX := show outM ⟨xc, xy, xn, xk⟩ m = m from by simp [outM, n2, n3]
            clear hkm n2 n3
            go_wp2_with fail
            have HX := Lib.hid hX
            clear hX
            refine (HQ.out _ HI.out).mono ?_
            rintro e w3 ⟨u, rfl, ho3, hb3⟩
            obtain ⟨ua, ucap, rfl⟩ := OwnL.slice ho3
            have hnl := OwnL.cap_le ho3
            unfold maxLen at hnl
            have hM3 := Lib.hid (own_below HM.out hb3)
            have hW3 := Lib.hid (HW.out.trans (hb3.mono HW.out.size))
            have hO3 := Lib.hid (hB3 ▸ ho3 : IntOwn B3 w3 _ nx)
            have hg3 := Nat.lt_of_lt_of_le hgs hb3.size
            clear ho3 hb3 d0 f0 c0 c1 c2 c3
            go_wp2_with fail
            go_loopw [8] (fun q ws => ∃ j : Nat, j ≤ nx.length ∧ q = .int .i64 j ∧ ws.ownsRow w.heap.size 2 1 (.slice (some ⟨w.heap.size, 0, none⟩) l.length l.length) l.length (((nx.take j).foldl (passM m) ms).flatMap numC) ∧ IntOwn B3 ws (.slice ua nx.length ucap) nx ∧ Below w.heap.size w ws ∧ w.heap.size < ws.heap.size)
              (fun q _ => nx.length - (intOf q).toNat)
            case atStart => exact ⟨0, by omega, rfl, hM3.out, hO3.out, hW3.out, hg3⟩
            case round =>
              obtain ⟨j, hj, rfl, hown, hont, hbj, hgj⟩ := hrel
              by_cases hjl : j < nx.length
              · obtain ⟨ub, uo, e, hub, hcell, _⟩ := LAt.at_ (intAt_own hont) (List.getElem?_eq_getElem hjl)
                subst e
                have d := hcell 0 _ rfl
                simp only [Nat.mul_one, Nat.add_zero] at d
                clear hcell
                obtain ⟨ht0, ht1⟩ := HT.out nx[j] (List.getElem_mem hjl)
                have hnext := foldM_next (m := m) (ms := ms) hjl
                obtain ⟨tn, htn⟩ := Int.eq_ofNat_of_zero_le ht0
                rw [htn] at d ht1 hnext
                have htl : tn < l.length := by omega
                have hfl : ((nx.take j).foldl (passM m) ms).length = l.length := by rw [foldM_length]; exact hms
                obtain ⟨mm, hmm⟩ : ∃ mm, ((nx.take j).foldl (passM m) ms)[tn]? = some mm := ⟨_, List.getElem?_eq_getElem (by omega)⟩
                obtain ⟨dm, fm⟩ := int_at hown hmm
                have hset := int_set hown (i := tn) (by omega) (bits .and .i64 mm m)
                rw [show ((nx.take j).foldl (passM m) ms).set tn (bits .and .i64 mm m) = (nx.take (j + 1)).foldl (passM m) ms by
                  rw [hnext, passM, Int.toNat_natCast, List.getD_eq_getElem?_getD, hmm]; rfl] at hset
                have hbX : ∀ u0 : Value, Below w.heap.size w (wr.setCell ⟨w.heap.size, tn, none⟩ u0).drew := fun u0 => (hbj.setCell (p := ⟨w.heap.size, tn, none⟩) (Nat.le_refl _) _).drew
                have hoX : ∀ u0 : Value, IntOwn B3 (wr.setCell ⟨w.heap.size, tn, none⟩ u0).drew (.slice (some ⟨ub, uo, none⟩) nx.length ucap) nx := fun u0 => OwnL.setBelow hont (a := ⟨w.heap.size, tn, none⟩) (by rw [← hB3]; exact hgs) u0
                have HSJ := Lib.hid hset
                have HBJ := Lib.hid hbX
                have HOJ := Lib.hid hoX
                clear hset hbX hoX hown hont hbj hmm hfl hnext htn
                go_wp2_with fail
                refine wp_region_still_tail 15 (by kernel_rfl) (by kernel_rfl) ?_
                simp only [List.take_succ_cons, List.take_zero, List.drop_succ_cons, List.drop_zero, World.drew_eq]
                repeat still_step
                refine wpStill_nil ?_
                go_wp2_with fail
                go_roundw
                case rel => exact ⟨j + 1, by omega, by go_num, HSJ.out, HOJ.out _, HBJ.out _, by simpa using hgj⟩
                case measure => simp [intOf]; omega
              · have hF := Lib.hid (show wr.ownsRow w.heap.size 2 1 (.slice (some ⟨w.heap.size, 0, none⟩) l.length l.length) l.length ((wrK l (k + 1)).flatMap numC) by
                  rw [HS.out, HX.out]
                  rw [List.take_of_length_le (by omega)] at hown
                  exact hown)
                clear hown hont
                go_wp2_with fail
                go_roundw
                case rel => exact ⟨k + 1, by omega, by go_num, hF.out, hbj, hgj⟩
                case measure => simp [intOf]; omega
        · have hO := Lib.hid (show OwnL 2 1 numC w.heap.size wr (.slice (some ⟨w.heap.size, 0, none⟩) l.length l.length) (wrL l) by
            have e : k = l.length := by omega
            subst e
            unfold OwnL wrL
            rw [wrK_length]
            exact hown)
          clear hown
          go_wp2_with fail
          go_ret
          exact ⟨_, rfl, hO.out, hbs⟩

end Go.Proofs.Ytibbcafhchoiiaa
