/- Rules alike, in lists: RuleSame of the program, l06At, hasRule walked. -/
import Derived.Test.YtmnmaijifhojiaaJm
set_option maxRecDepth 100000
set_option linter.unusedVariables false
set_option linter.unusedSimpArgs false
namespace Go.Proofs.Ytmnmaijifhojiaa
open Go.RowKit
attribute [local go_sem ↓] Go.wp_at_zero Go.wp_at_succ

set_option maxHeartbeats 3200000 in
theorem implRuleSame_any (nr ac nr' ac' : Int) (cs ds : List Cq) (v u : Value) (w : World) (hv : CqAt w w.heap.size v cs) (hu : CqAt w w.heap.size u ds) :
    Calls Try.prog 29 #[.agg #[.int .i64 nr, .int .i64 ac, v], .agg #[.int .i64 nr', .int .i64 ac', u]] w fun e w' =>
      e = .returned (.bool (rlRight ⟨nr, ac, cs⟩ && decide ((⟨nr, ac, cs⟩ : Rl) = ⟨nr', ac', ds⟩))) ∧ Below w.heap.size w w' := by
  have q1 := fun W (h : Below w.heap.size w W) => implRuleRight_any nr ac cs _ W (LAt.up (LAt.below hv h) h.size)
  have q2 := fun W (h : Below w.heap.size w W) => equalCmps_any cs ds _ _ W (LAt.up (LAt.below hv h) h.size) (LAt.up (LAt.below hu h) h.size)
  obtain ⟨a, cap, rfl, hlc, hcm⟩ := hv.len
  obtain ⟨a', cap', rfl, hlc', hcm'⟩ := hu.len
  have HB0 := Lib.hid (show ∀ o o' : Obj, Below w.heap.size w ((w.alloc o).alloc o') from fun o o' => ((Below.refl _ _).alloc (Nat.le_refl _) _).alloc (by simp) _)
  cases h1 : rlRight ⟨nr, ac, cs⟩ <;> rw [h1] at q1
  · have Q1 := Lib.hid q1
    clear q1 q2 h1 hv hu
    go_enter Try.func29, Try.ntmps29
    go_wp2_with fail
    refine (Q1.out _ (HB0.out _ _)).mono ?_
    rintro e w1 ⟨rfl, hb1⟩
    have HB := Lib.hid (box2 hb1).2.2
    clear hb1
    go_wp2_with fail
    go_ret
    exact ⟨ret_bool rfl, HB.out⟩
  rw [Bool.true_and]
  have Q1 := Lib.hid q1
  have Q2 := Lib.hid q2
  clear q1 q2 h1 hv hu
  by_cases e0 : nr = nr'
  · by_cases e1 : ac = ac'
    · have HR := Lib.hid (show decide ((⟨nr, ac, cs⟩ : Rl) = ⟨nr', ac', ds⟩) = decide (cs = ds) by
        subst e0 e1
        rw [Bool.eq_iff_iff]
        simp)
      subst e0 e1
      go_enter Try.func29, Try.ntmps29
      go_wp2_with fail
      refine (Q1.out _ (HB0.out _ _)).mono ?_
      rintro e w1 ⟨rfl, hb1⟩
      have hb2 := box2 hb1
      have c0 := hb2.1 0
      have c1 := hb2.1 1
      have c2 := hb2.1 2
      have d0 := hb2.2.1 0
      have d1 := hb2.2.1 1
      have d2 := hb2.2.1 2
      simp only [List.getElem?_toArray, List.getElem?_cons_zero, List.getElem?_cons_succ] at c0 c1 c2 d0 d1 d2
      have HB := Lib.hid hb2.2.2
      clear hb1 hb2
      go_wp2_with fail
      refine (Q2.out _ HB.out).mono ?_
      rintro e w2 ⟨rfl, hb3⟩
      have HC := Lib.hid (HB.out.trans (hb3.mono HB.out.size))
      clear hb3 c0 c1 c2 d0 d1 d2
      go_wp2_with fail
      go_ret
      exact ⟨ret_bool HR.out.symm, HC.out⟩
    · have HR := Lib.hid (show decide ((⟨nr, ac, cs⟩ : Rl) = ⟨nr', ac', ds⟩) = false by simp [e1])
      have e1' : (ac == ac') = false := by simpa using e1
      subst e0
      clear e1
      go_enter Try.func29, Try.ntmps29
      go_wp2_with fail
      refine (Q1.out _ (HB0.out _ _)).mono ?_
      rintro e w1 ⟨rfl, hb1⟩
      have hb2 := box2 hb1
      have c0 := hb2.1 0
      have c1 := hb2.1 1
      have d0 := hb2.2.1 0
      have d1 := hb2.2.1 1
      simp only [List.getElem?_toArray, List.getElem?_cons_zero, List.getElem?_cons_succ] at c0 c1 d0 d1
      have HB := Lib.hid hb2.2.2
      clear hb1 hb2
      go_wp2_with fail
      go_ret
      exact ⟨ret_bool HR.out.symm, HB.out⟩
  · have HR := Lib.hid (show decide ((⟨nr, ac, cs⟩ : Rl) = ⟨nr', ac', ds⟩) = false by simp [e0])
    have e0' : (nr == nr') = false := by simpa using e0
    clear e0
    go_enter Try.func29, Try.ntmps29
    go_wp2_with fail
    refine (Q1.out _ (HB0.out _ _)).mono ?_
    rintro e w1 ⟨rfl, hb1⟩
    have hb2 := box2 hb1
    have c0 := hb2.1 0
    have d0 := hb2.2.1 0
    simp only [List.getElem?_toArray, List.getElem?_cons_zero, List.getElem?_cons_succ] at c0 d0
    have HB := Lib.hid hb2.2.2
    clear hb1 hb2
    go_wp2_with fail
    go_ret
    exact ⟨ret_bool HR.out.symm, HB.out⟩

/-- Is there one that is the same? -/
def hasR (l : List Rl) (r : Rl) : Bool := l.any fun x => decide (x = r)
theorem hasR_take {l : List Rv} {k : Nat} {r : Rl} (h : hasR (rls (l.take k)) r = false) (hk : k < l.length) (hx : ¬ l[k].r = r) : hasR (rls (l.take (k + 1))) r = false := by
  unfold hasR rls at *
  rw [List.take_succ_eq_append_getElem hk, List.map_append, List.any_append, h]
  simp [hx]
theorem hasR_here {l : List Rv} {k : Nat} {r : Rl} (hk : k < l.length) (hx : l[k].r = r) : hasR (rls l) r = true := by
  unfold hasR rls
  rw [List.any_eq_true]
  exact ⟨r, List.mem_map.2 ⟨l[k], List.getElem_mem hk, hx⟩, by simp⟩

set_option maxHeartbeats 3200000 in
theorem l06At_any (lv u : Value) (l : List Rv) (nr ac : Int) (cs : List Cq) (w : World) (hl : RvAt w w.heap.size lv l) (hu : CqAt w w.heap.size u cs) :
    Calls Try.prog 75 #[lv, .agg #[.int .i64 nr, .int .i64 ac, u]] w fun e w' =>
      (∃ n : Int, e = .returned (.int .i64 n) ∧ decide (0 ≤ n) = hasR (rls l) ⟨nr, ac, cs⟩ ∧ n < 9223372036854775807 ∧ -1 ≤ n) ∧ Below w.heap.size w w' := by
  obtain ⟨a, cap, rfl, hlc, hcm⟩ := hl.len
  unfold maxLen at hcm
  have HL := Lib.hid hl
  have q := fun xn xc ds xv W (h : Below w.heap.size w W) (hx : CqAt w w.heap.size xv ds) => specRuleSame_any xn xc nr ac ds cs xv u W (LAt.up (LAt.below hx h) h.size) (LAt.up (LAt.below hu h) h.size)
  have Q := Lib.hid q
  clear hl hu q
  go_enter Try.func75, Try.ntmps75
  go_wp2_with fail
  go_loopw [5] (fun i wr => ∃ k : Nat, k ≤ l.length ∧ i = .int .i64 k ∧ hasR (rls (l.take k)) ⟨nr, ac, cs⟩ = false ∧ Below (w.alloc (.cells #[.int .i64 nr, .int .i64 ac, u] 35)).heap.size (w.alloc (.cells #[.int .i64 nr, .int .i64 ac, u] 35)) wr) (fun i _ => l.length - (intOf i).toNat)
  case atStart => exact ⟨0, by omega, rfl, by simp [hasR, rls], Below.refl _ _⟩
  case round =>
    obtain ⟨k, hk, rfl, hall, hbw⟩ := hrel
    have HA := Lib.hid hall
    clear hall
    by_cases hlt : k < l.length
    · obtain ⟨b, o, e, hb, d0, d1, d2, hwf, hcq⟩ := RvAt.place HL.out (List.getElem?_eq_getElem hlt)
      subst e
      have HT := Lib.hid (fun h : ¬ l[k].r = ⟨nr, ac, cs⟩ => hasR_take HA.out hlt h)
      have HF := Lib.hid (fun h : l[k].r = ⟨nr, ac, cs⟩ => hasR_here (r := ⟨nr, ac, cs⟩) hlt h)
      generalize l[k] = x at d0 d1 d2 HT HF hcq
      obtain ⟨⟨xn, xc, ds⟩, xv⟩ := x
      simp only at d0 d1 d2 HT HF hcq
      have q1 := fun W h => Q.out xn xc ds xv W h hcq
      have hkeep : ∀ W : World, Below (w.alloc (.cells #[.int .i64 nr, .int .i64 ac, u] 35)).heap.size (w.alloc (.cells #[.int .i64 nr, .int .i64 ac, u] 35)) W → (W.cell? ⟨w.heap.size, 0, none⟩ = some (.int .i64 nr) ∧ W.cell? ⟨w.heap.size, 1, none⟩ = some (.int .i64 ac) ∧ W.cell? ⟨w.heap.size, 2, none⟩ = some u ∧ W.cell? ⟨b, o + k * 3, none⟩ = some (.int .i64 xn) ∧ W.cell? ⟨b, o + k * 3 + 1, none⟩ = some (.int .i64 xc) ∧ W.cell? ⟨b, o + k * 3 + 2, none⟩ = some xv) := fun W hb2 => by
        have hbx := box_below hb2
        exact ⟨box_cell hb2 0, box_cell hb2 1, box_cell hb2 2, (World.cell?_of_block (hbx.block b hb)).trans d0, (World.cell?_of_block (hbx.block b hb)).trans d1, (World.cell?_of_block (hbx.block b hb)).trans d2⟩
      have HK := Lib.hid hkeep
      have hbw0 := hbw.drew
      clear hkeep d0 d1 d2 hwf hcq
      obtain ⟨c0, c1, c2, d0, d1, d2⟩ := HK.out _ hbw
      clear hbw
      by_cases hxy : (⟨xn, xc, ds⟩ : Rl) = ⟨nr, ac, cs⟩
      · rw [decide_eq_true hxy] at q1
        have Q1 := Lib.hid q1
        have HN := Lib.hid (HF.out hxy)
        clear hxy HT HF q1
        go_wp2_with fail
        refine wp_region_noPanic ?_
        refine wp_region_held_drew (S := fun w' => w'.cell? ⟨w.heap.size, 0, none⟩ = some (.int .i64 nr) ∧ w'.cell? ⟨w.heap.size, 1, none⟩ = some (.int .i64 ac) ∧ w'.cell? ⟨w.heap.size, 2, none⟩ = some u ∧ w'.cell? ⟨b, o + k * 3, none⟩ = some (.int .i64 xn) ∧ w'.cell? ⟨b, o + k * 3 + 1, none⟩ = some (.int .i64 xc) ∧ w'.cell? ⟨b, o + k * 3 + 2, none⟩ = some xv) (by kernel_rfl) ?_ (fun hHeld => ?_)
        · exact HK.out _ hbw0
        refine wpAnyH_take (i := 0) (v := ?qv101) rfl (by kernel_rfl) (by kernel_rfl) (by kernel_rfl) (fun _ _ _ h => h) (Or.inl ⟨by rfl, ?qhy101⟩) (by assumption) ?qrest101
        case qhy101 =>
          intro W hSw
          try dsimp only at hSw
          go_simp
          try with_reducible rfl
        try simp only [Act.put, List.getElem_toArray, List.getElem_cons_zero, List.getElem_cons_succ, List.setIfInBounds_toArray, List.set_cons_zero, List.set_cons_succ]
        refine wpAnyH_take (i := 1) (v := ?qv102) rfl (by kernel_rfl) (by kernel_rfl) (by kernel_rfl) (fun _ _ _ h => h) (Or.inl ⟨by rfl, ?qhy102⟩) (by assumption) ?qrest102
        case qhy102 =>
          intro W hSw
          try dsimp only at hSw
          go_simp
          try with_reducible rfl
        try simp only [Act.put, List.getElem_toArray, List.getElem_cons_zero, List.getElem_cons_succ, List.setIfInBounds_toArray, List.set_cons_zero, List.set_cons_succ]
        refine wpAnyH_take (i := 2) (v := ?qv103) rfl (by kernel_rfl) (by kernel_rfl) (by kernel_rfl) (fun _ _ _ h => h) (Or.inl ⟨by rfl, ?qhy103⟩) (by assumption) ?qrest103
        case qhy103 =>
          intro W hSw
          try dsimp only at hSw
          go_simp
          try with_reducible rfl
        try simp only [Act.put, List.getElem_toArray, List.getElem_cons_zero, List.getElem_cons_succ, List.setIfInBounds_toArray, List.set_cons_zero, List.set_cons_succ]
        refine wpAnyH_take (i := 3) (v := ?qv104) rfl (by kernel_rfl) (by kernel_rfl) (by kernel_rfl) (fun _ _ _ h => h) (Or.inl ⟨by rfl, ?qhy104⟩) (by assumption) ?qrest104
        case qhy104 =>
          intro W hSw
          try dsimp only at hSw
          go_simp
          try with_reducible rfl
        try simp only [Act.put, List.getElem_toArray, List.getElem_cons_zero, List.getElem_cons_succ, List.setIfInBounds_toArray, List.set_cons_zero, List.set_cons_succ]
        refine wpAnyH_take (i := 4) (v := ?qv105) rfl (by kernel_rfl) (by kernel_rfl) (by kernel_rfl) (fun _ _ _ h => h) (Or.inl ⟨by rfl, ?qhy105⟩) (by assumption) ?qrest105
        case qhy105 =>
          intro W hSw
          try dsimp only at hSw
          go_simp
          try with_reducible rfl
        try simp only [Act.put, List.getElem_toArray, List.getElem_cons_zero, List.getElem_cons_succ, List.setIfInBounds_toArray, List.set_cons_zero, List.set_cons_succ]
        refine wpAnyH_ready (rs := [5]) (by kernel_rfl) (by simp) ?_
        refine AllReadyH.cons rfl (fun K hK => ?_) AllReadyH.nil
        go_simp
        refine (Q1.out _ (box_below hbw0)).mono ?_
        rintro e v1 ⟨rfl, hb1⟩
        have hbw1 := hbw0.trans (hb1.mono hbw0.size)
        go_wp2_with fail
        refine hK.out _ _ ?_ (fun hHeld => ?_)
        · exact HK.out _ hbw1
        clear hK K hb1
        try simp only [Act.put, List.getElem_toArray, List.getElem_cons_zero, List.getElem_cons_succ, List.setIfInBounds_toArray, List.set_cons_zero, List.set_cons_succ]
        refine wpAnyH_done (by kernel_rfl) ?_ _
        refine NoPanic.normal ?_
        have HZ := Lib.hid (box_below hbw1)
        clear hbw0 hbw1
        go_wp2_with fail
        go_ret
        exact ⟨⟨_, rfl, by rw [HN.out]; simp, by omega, by omega⟩, HZ.out⟩
      · rw [decide_eq_false hxy] at q1
        have Q1 := Lib.hid q1
        have HN := Lib.hid (HT.out hxy)
        clear hxy HT HF q1
        go_wp2_with fail
        refine wp_region_noPanic ?_
        refine wp_region_held_drew (S := fun w' => w'.cell? ⟨w.heap.size, 0, none⟩ = some (.int .i64 nr) ∧ w'.cell? ⟨w.heap.size, 1, none⟩ = some (.int .i64 ac) ∧ w'.cell? ⟨w.heap.size, 2, none⟩ = some u ∧ w'.cell? ⟨b, o + k * 3, none⟩ = some (.int .i64 xn) ∧ w'.cell? ⟨b, o + k * 3 + 1, none⟩ = some (.int .i64 xc) ∧ w'.cell? ⟨b, o + k * 3 + 2, none⟩ = some xv) (by kernel_rfl) ?_ (fun hHeld => ?_)
        · exact HK.out _ hbw0
        refine wpAnyH_take (i := 0) (v := ?qv206) rfl (by kernel_rfl) (by kernel_rfl) (by kernel_rfl) (fun _ _ _ h => h) (Or.inl ⟨by rfl, ?qhy206⟩) (by assumption) ?qrest206
        case qhy206 =>
          intro W hSw
          try dsimp only at hSw
          go_simp
          try with_reducible rfl
        try simp only [Act.put, List.getElem_toArray, List.getElem_cons_zero, List.getElem_cons_succ, List.setIfInBounds_toArray, List.set_cons_zero, List.set_cons_succ]
        refine wpAnyH_take (i := 1) (v := ?qv207) rfl (by kernel_rfl) (by kernel_rfl) (by kernel_rfl) (fun _ _ _ h => h) (Or.inl ⟨by rfl, ?qhy207⟩) (by assumption) ?qrest207
        case qhy207 =>
          intro W hSw
          try dsimp only at hSw
          go_simp
          try with_reducible rfl
        try simp only [Act.put, List.getElem_toArray, List.getElem_cons_zero, List.getElem_cons_succ, List.setIfInBounds_toArray, List.set_cons_zero, List.set_cons_succ]
        refine wpAnyH_take (i := 2) (v := ?qv208) rfl (by kernel_rfl) (by kernel_rfl) (by kernel_rfl) (fun _ _ _ h => h) (Or.inl ⟨by rfl, ?qhy208⟩) (by assumption) ?qrest208
        case qhy208 =>
          intro W hSw
          try dsimp only at hSw
          go_simp
          try with_reducible rfl
        try simp only [Act.put, List.getElem_toArray, List.getElem_cons_zero, List.getElem_cons_succ, List.setIfInBounds_toArray, List.set_cons_zero, List.set_cons_succ]
        refine wpAnyH_take (i := 3) (v := ?qv209) rfl (by kernel_rfl) (by kernel_rfl) (by kernel_rfl) (fun _ _ _ h => h) (Or.inl ⟨by rfl, ?qhy209⟩) (by assumption) ?qrest209
        case qhy209 =>
          intro W hSw
          try dsimp only at hSw
          go_simp
          try with_reducible rfl
        try simp only [Act.put, List.getElem_toArray, List.getElem_cons_zero, List.getElem_cons_succ, List.setIfInBounds_toArray, List.set_cons_zero, List.set_cons_succ]
        refine wpAnyH_take (i := 4) (v := ?qv210) rfl (by kernel_rfl) (by kernel_rfl) (by kernel_rfl) (fun _ _ _ h => h) (Or.inl ⟨by rfl, ?qhy210⟩) (by assumption) ?qrest210
        case qhy210 =>
          intro W hSw
          try dsimp only at hSw
          go_simp
          try with_reducible rfl
        try simp only [Act.put, List.getElem_toArray, List.getElem_cons_zero, List.getElem_cons_succ, List.setIfInBounds_toArray, List.set_cons_zero, List.set_cons_succ]
        refine wpAnyH_ready (rs := [5]) (by kernel_rfl) (by simp) ?_
        refine AllReadyH.cons rfl (fun K hK => ?_) AllReadyH.nil
        go_simp
        refine (Q1.out _ (box_below hbw0)).mono ?_
        rintro e v1 ⟨rfl, hb1⟩
        have hbw1 := hbw0.trans (hb1.mono hbw0.size)
        go_wp2_with fail
        refine hK.out _ _ ?_ (fun hHeld => ?_)
        · exact HK.out _ hbw1
        clear hK K hb1
        try simp only [Act.put, List.getElem_toArray, List.getElem_cons_zero, List.getElem_cons_succ, List.setIfInBounds_toArray, List.set_cons_zero, List.set_cons_succ]
        refine wpAnyH_done (by kernel_rfl) ?_ _
        refine NoPanic.normal ?_
        have HZ := Lib.hid hbw1
        clear hbw0 hbw1
        go_wp2_with fail
        go_roundw
        case rel => exact ⟨k + 1, by omega, by go_num, HN.out, HZ.out⟩
        case measure => simp [intOf]; omega
    · have HN := Lib.hid (show hasR (rls l) ⟨nr, ac, cs⟩ = false by
        have h := HA.out
        rwa [List.take_of_length_le (by omega)] at h)
      have HZ := Lib.hid (box_below hbw)
      clear hbw
      go_wp2_with fail
      go_ret
      exact ⟨⟨_, rfl, by rw [HN.out]; simp, by omega, by omega⟩, HZ.out⟩

theorem same_right {x r : Rl} (h : rlRight r = true) : (rlRight x && decide (x = r)) = decide (x = r) := by
  by_cases e : x = r
  · subst e; rw [h]; rfl
  · simp [e]

set_option maxHeartbeats 3200000 in
theorem hasRule_any (lv u : Value) (l : List Rv) (nr ac : Int) (cs : List Cq) (w : World) (hl : RvAt w w.heap.size lv l) (hu : CqAt w w.heap.size u cs) (hr : rlRight ⟨nr, ac, cs⟩ = true) :
    Calls Try.prog 67 #[lv, .agg #[.int .i64 nr, .int .i64 ac, u]] w fun e w' => e = .returned (.bool (hasR (rls l) ⟨nr, ac, cs⟩)) ∧ Below w.heap.size w w' := by
  obtain ⟨a, cap, rfl, hlc, hcm⟩ := hl.len
  obtain ⟨ua, ucap, rfl, _, _⟩ := hu.len
  unfold maxLen at hcm
  have HL := Lib.hid hl
  have q := fun xn xc ds xv W (h : Below w.heap.size w W) (hx : CqAt W W.heap.size xv ds) => implRuleSame_any xn xc nr ac ds cs xv _ W hx (LAt.up (LAt.below hu h) h.size)
  have Q := Lib.hid q
  have HR := Lib.hid hr
  clear hl hu q hr
  go_enter Try.func67, Try.ntmps67
  go_wp2_with fail
  go_loopw [9] (fun i wr => ∃ k : Nat, k ≤ l.length ∧ i = .int .i64 k ∧ hasR (rls (l.take k)) ⟨nr, ac, cs⟩ = false ∧ Below (w.alloc (.cells #[.int .i64 nr, .int .i64 ac, .slice ua cs.length ucap] 35)).heap.size (w.alloc (.cells #[.int .i64 nr, .int .i64 ac, .slice ua cs.length ucap] 35)) wr) (fun i _ => l.length - (intOf i).toNat)
  case atStart => exact ⟨0, by omega, rfl, by simp [hasR, rls], Below.refl _ _⟩
  case round =>
    obtain ⟨k, hk, rfl, hall, hbw⟩ := hrel
    have HA := Lib.hid hall
    clear hall
    by_cases hlt : k < l.length
    · obtain ⟨b, o, e, hb, d0, d1, d2, hwf, hcq⟩ := RvAt.place (RvAt.below HL.out (box_below hbw)) (List.getElem?_eq_getElem hlt)
      subst e
      have HT := Lib.hid (fun h : ¬ l[k].r = ⟨nr, ac, cs⟩ => hasR_take HA.out hlt h)
      have HF := Lib.hid (fun h : l[k].r = ⟨nr, ac, cs⟩ => hasR_here (r := ⟨nr, ac, cs⟩) hlt h)
      generalize l[k] = x at d0 d1 d2 HT HF hcq
      obtain ⟨⟨xn, xc, ds⟩, xv⟩ := x
      simp only at d0 d1 d2 HT HF hcq
      obtain ⟨xva, xcap, rfl, _, _⟩ := hcq.len
      have hs := (box_below hbw).size
      have hB1 : ∀ o : Obj, Below wr.heap.size wr (wr.alloc o) := fun o => (Below.refl _ _).alloc (Nat.le_refl _) _
      have hbb := box_below hbw
      have q1 := fun o => Q.out xn xc ds _ (wr.alloc o) (hbb.trans ((hB1 o).mono hbb.size)) (LAt.up (LAt.below hcq ((hB1 o).mono hs)) (by simp; omega))
      rw [same_right HR.out] at q1
      have c0 := box_cell hbw 0
      have c1 := box_cell hbw 1
      have c2 := box_cell hbw 2
      simp only [List.getElem?_toArray, List.getElem?_cons_zero, List.getElem?_cons_succ] at c0 c1 c2
      have hlt3 : w.heap.size < wr.heap.size := by have := hbw.size; simp at this; omega
      have HB := Lib.hid hbw
      clear hbw hbb hwf hcq hs
      have HB1 := Lib.hid hB1
      clear hB1
      by_cases hxy : (⟨xn, xc, ds⟩ : Rl) = ⟨nr, ac, cs⟩
      · rw [decide_eq_true hxy] at q1
        have Q1 := Lib.hid q1
        have HN := Lib.hid (HF.out hxy)
        clear hxy HT HF q1
        go_wp2_with fail
        refine (Q1.out _).mono ?_
        rintro e w2 ⟨rfl, hb2⟩
        have HZ := Lib.hid (box_below (HB.out.trans ((box_below hb2).mono HB.out.size)))
        clear hb2 c0 c1 c2 d0 d1 d2
        go_wp2_with fail
        go_ret
        exact ⟨ret_bool HN.out.symm, HZ.out⟩
      · rw [decide_eq_false hxy] at q1
        have Q1 := Lib.hid q1
        have HN := Lib.hid (HT.out hxy)
        clear hxy HT HF q1
        go_wp2_with fail
        refine (Q1.out _).mono ?_
        rintro e w2 ⟨rfl, hb2⟩
        have HZ := Lib.hid (HB.out.trans ((box_below hb2).mono HB.out.size))
        clear hb2 c0 c1 c2 d0 d1 d2
        go_wp2_with fail
        go_roundw
        case rel => exact ⟨k + 1, by omega, by go_num, HN.out, HZ.out⟩
        case measure => simp [intOf]; omega
    · have HN := Lib.hid (show hasR (rls l) ⟨nr, ac, cs⟩ = false by
        have h := HA.out
        rwa [List.take_of_length_le (by omega)] at h)
      have HZ := Lib.hid (box_below hbw)
      clear hbw
      go_wp2_with fail
      go_ret
      exact ⟨ret_bool HN.out.symm, HZ.out⟩

end Go.Proofs.Ytmnmaijifhojiaa
