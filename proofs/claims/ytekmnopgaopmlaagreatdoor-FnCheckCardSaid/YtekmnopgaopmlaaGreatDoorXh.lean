/- Texts of one proof, put together: Ye Yf Yg Yh. -/
import Derived.Test.YtekmnopgaopmlaaGreatDoorXf
import Derived.Test.YtekmnopgaopmlaaGreatDoorXg
import Derived.Deep.DeepCutAuto
import Derived.Deep.CutRange

/- Drawn programs that are let by, as a rule, walked: l04ProgOf. -/
set_option maxRecDepth 100000
set_option linter.unusedSimpArgs false
set_option linter.unusedVariables false
namespace Go.Proofs.YtekmnopgaopmlaaGreatDoor
open Go.RowKit

/-- A program was drawn, of one word at least. -/
def Prog4Post (g : Nat) (a : Option Addr) (len cap : Nat) (w : World) (e : Ending) (w' : World) : Prop := ∃ v l, e = .returned v ∧ InsOwn w.heap.size w' v l ∧ l.length ≤ 20 ∧ 0 < l.length ∧ (∀ x ∈ l, x.wf) ∧ AfterSrc g a len cap w w'
theorem two_cell (q : Nat) (h : q < 2) : ∃ x : Int, (#[Value.int .i64 6, .int .i64 22] : Array Value)[q]? = some (.int .i64 x) ∧ 0 ≤ x ∧ x ≤ 22 := by
  rcases (by omega : q = 0 ∨ q = 1) with rfl | rfl
  all_goals exact ⟨_, rfl, by decide, by decide⟩
theorem after_mk {g : Nat} {a : Option Addr} {len cap : Nat} {w w' : World} (h : Src w' g a len cap) (k : w.grownBy w' (some g)) : AfterSrc g a len cap w w' := ⟨h, k⟩
theorem after_drew {g : Nat} {a : Option Addr} {len cap : Nat} {w W : World} (h : AfterSrc g a len cap w W) : AfterSrc g a len cap w W.drew := h.trans (AfterSrc.of_below h.1 ((Below.refl W.heap.size W).drew))
theorem ls_drew {w W : World} {v : Value} {l : List Ins} (h : LSt w W v l) (g : Nat) (hgl : g < w.heap.size) : LSt w W.drew v l := h.kept (only_drew' (World.grownBy.refl W (some g))) hgl
theorem row_drew (w : World) (cs : Array Value) (T : TypeId) : (w.alloc (.cells cs T)).drew.heap[w.heap.size]? = some (.cells cs T (0, 0)) := heap_alloc_new w (.cells cs T)
theorem after_src {g : Nat} {a : Option Addr} {len cap : Nat} {w W : World} (h : AfterSrc g a len cap w W) : Src W g a len cap := h.1
theorem ye_size (w : World) (p : Addr) (v : Value) : (w.setCell p v).heap.size = w.heap.size := by simp [World.setCell]
set_option maxHeartbeats 16000000 in
theorem srcProg4_any (g : Nat) (a : Option Addr) (len cap : Nat) (w : World) (hs : Src w g a len cap) :
    Calls Tryz.prog 31 #[.pointer (some ⟨g, 0, none⟩)] w (Prog4Post g a len cap w) := by
  have hgl := hs.lt
  have HA0 := Lib.hid (AfterSrc.of_below hs ((Below.refl _ _).alloc (Nat.le_refl _) (.cells #[.int .i64 2, .int .i64 0, .int .i64 0, .int .i64 0, .int .i64 2, .int .i64 0, .int .i64 0, .int .i64 1] 66)))
  have HR0 := Lib.hid (heap_alloc_new w (.cells #[.int .i64 2, .int .i64 0, .int .i64 0, .int .i64 0, .int .i64 2, .int .i64 0, .int .i64 0, .int .i64 1] 66))
  have HO0 := Lib.hid (show InsOwn w.heap.size (w.alloc (.cells #[.int .i64 2, .int .i64 0, .int .i64 0, .int .i64 0, .int .i64 2, .int .i64 0, .int .i64 0, .int .i64 1] 66)) (.slice (some ⟨w.heap.size, 0, none⟩) 2 2) [⟨2, 0, 0, 0⟩, ⟨2, 0, 0, 1⟩] from World.ownsRow_lit w _ 2 (Nat.le_refl _) (by unfold maxLen; omega) (by simp))
  have HB := Lib.hid (srcOne_any g a len cap 4 _ HA0.out.1 (by omega) (by omega))
  clear hs
  go_enter Tryz.func31, Tryz.ntmps31
  go_upto_if 11 with (refine HB.out.mono ?_; rintro e w1 ⟨bb, rfl, ha1⟩)
  have HA1 := Lib.hid (HA0.out.trans ha1)
  have hr1 := ha1.row HR0.out (by omega)
  have hlt1 : w.heap.size < w1.heap.size := row_here hr1
  have HR1 := Lib.hid hr1
  have HO1 := Lib.hid (ins_kept HO0.out ha1.2 hgl)
  clear ha1 hr1
  go_cut [3] from 12 to 13 (fun v ws => ∃ l : List Ins, LSt w ws v l ∧ (∀ x ∈ l, x.wf) ∧ l.length ≤ 2 ∧ AfterSrc g a len cap w ws ∧ w.heap.size < ws.heap.size)
  case first =>
    cases bb with
    | true =>
      go_wp2_with fail
      go_meet
      exact ⟨_, .inr ⟨rfl, rfl, HR1.out⟩, (fun x hx => by rw [List.mem_singleton.1 hx]; exact small_wf (by omega) (by omega) (by omega) (by omega)), by simp, HA1.out, hlt1⟩
    | false =>
      go_wp2_with fail
      go_meet
      refine ⟨_, .inl HO1.out, (fun x hx => ?_), by simp, HA1.out, hlt1⟩
      simp only [List.mem_cons, List.not_mem_nil, or_false] at hx
      rcases hx with rfl | rfl <;> exact small_wf (by omega) (by omega) (by omega) (by omega)
  case rest =>
    clear HA1 hlt1 HR1 HO1
    obtain ⟨l0, hls1, hwf0, hl0, ha1, hlt1⟩ := hcut
    have HL1 := Lib.hid hls1
    have HA1 := Lib.hid ha1
    have HWF0 := Lib.hid hwf0
    have HN := Lib.hid (srcN_any g a len cap 12 wc HA1.out.1 (by omega) (by omega))
    clear ha1 hls1 hwf0 HB
    go_wp2_with fail
    refine HN.out.mono ?_
    rintro e w2 ⟨vm, rfl, hv0, hv1, _, hs2, hg2⟩
    obtain ⟨many, rfl⟩ := Int.eq_ofNat_of_zero_le hv0
    have hmany : many < 12 := by have := hv1 (by omega); omega
    have HA2 := Lib.hid (HA1.out.trans ⟨hs2, hg2⟩)
    have HL2 := Lib.hid (HL1.out.kept hg2 hgl)
    have HA12 := Lib.hid (show AfterSrc g a len cap wc w2 from ⟨hs2, hg2⟩)
    clear hv0 hv1 hs2 hg2
    go_wp2_with fail
    go_loopw [3, 5] (fun v i wr => ∃ (k : Nat) (l : List Ins), i = .int .i64 k ∧ l.length + k ≤ 15 ∧ w.heap.size < wr.heap.size ∧ Aside (LSt w wr v l ∧ (∀ x ∈ l, x.wf) ∧ AfterSrc g a len cap w wr)) (fun _ i _ => (intOf i).toNat)
    case atStart => exact ⟨2 + many, l0, by rw [show ((2 + many : Nat) : Int) = 2 + (many : Int) by omega], by omega, Nat.lt_of_lt_of_le hlt1 HA12.out.2.size, HL2.out, HWF0.out, HA2.out⟩
    case round =>
      obtain ⟨k, l, rfl, hlk, hlw, hrel⟩ := hrel
      have HX := Lib.hid hrel
      clear hrel
      by_cases hk : 0 < k
      · have hd : decide ((0 : Int) < (k : Int)) = true := decide_eq_true (by omega)
        have HI := Lib.hid (srcInsn_any g a len cap ((k : Int) - 1) wr HX.out.2.2.1 (by omega) (by omega))
        go_wp2_with fail
        refine HI.out.mono ?_
        rintro e w3 ⟨⟨c, y, n, kk⟩, rfl, hwf, ha3⟩
        have HA3 := Lib.hid (HX.out.2.2.trans ha3)
        have HL3 := Lib.hid (HX.out.1.kept ha3.2 hgl)
        have HWX := Lib.hid hwf
        have hsz3 : w.heap.size < w3.heap.size := Nat.lt_of_lt_of_le hlw ha3.2.size
        have hgw3 : g < w3.heap.size := by omega
        obtain ⟨hwc, hwy, hwn, hwk⟩ := hwf
        clear ha3
        have QR := Lib.hid (fun W => l04Reads_any c W)
        by_cases h52 : c = 52
        · subst h52
          by_cases hz : kk = 0
          · subst hz
            go_wp2_with (at_builtin; refine wpList_push_ls rfl _ _ (by rfl) (52) y n (3) (HA3.out.more _) hgl (HL3.out.alloc _) (by omega) (by rfl) (by first | rfl | (simp only [World.size_alloc, ye_size]; rfl)) ?_; intro v9 w9 hown9 haf9 hsz9)
            have HO9 := Lib.hid (LSt.kept (w := w) (g := g) (.inl hown9 : LSt w w9 v9 _) (World.grownBy.refl _ _) hgl)
            have HA9 := Lib.hid haf9
            have hlt9 : w.heap.size < w9.heap.size := by first | omega | (simp only [World.size_alloc, ye_size] at hsz9; omega)
            have HWF9 := Lib.hid (wf_push HX.out.2.1 (show (⟨52, y, n, 3⟩ : Ins).wf from ⟨(⟨by omega, by omega⟩ : In64 52), hwy, hwn, (⟨by omega, by omega⟩ : In64 3)⟩))
            clear hown9 haf9
            go_roundw
            case rel => exact ⟨k - 1, l ++ [⟨52, y, n, 3⟩], by rw [show ((k - 1 : Nat) : Int) = (k : Int) - 1 by omega], by simp; omega, hlt9, HO9.out, HWF9.out, HA9.out⟩
            case measure => simp [intOf]; omega
          · have hz' : (kk == 0) = false := by simpa using hz
            go_wp2_with fail
            refine (QR.out _).mono ?_
            rintro e w4 ⟨rfl, rfl⟩
            go_wp2_with (at_builtin; refine wpList_push_ls rfl _ _ (by rfl) (52) y n (kk) (HA3.out.more _) hgl (HL3.out.alloc _) (by omega) (by rfl) (by first | rfl | (simp only [World.size_alloc, ye_size]; rfl)) ?_; intro v9 w9 hown9 haf9 hsz9)
            have HO9 := Lib.hid (LSt.kept (w := w) (g := g) (.inl hown9 : LSt w w9 v9 _) (World.grownBy.refl _ _) hgl)
            have HA9 := Lib.hid haf9
            have hlt9 : w.heap.size < w9.heap.size := by first | omega | (simp only [World.size_alloc, ye_size] at hsz9; omega)
            have HWF9 := Lib.hid (wf_push HX.out.2.1 (show (⟨52, y, n, kk⟩ : Ins).wf from HWX.out))
            clear hown9 haf9
            go_roundw
            case rel => exact ⟨k - 1, l ++ [⟨52, y, n, kk⟩], by rw [show ((k - 1 : Nat) : Int) = (k : Int) - 1 by omega], by simp; omega, hlt9, HO9.out, HWF9.out, HA9.out⟩
            case measure => simp [intOf]; omega
        have t52 : (c == 52) = false := by simpa using h52
        by_cases h100 : c = 100
        · subst h100
          by_cases hz : 31 < kk
          · have hz' : decide (31 < kk) = true := decide_eq_true hz
            go_wp2_with (at_builtin; refine wpList_push_ls rfl _ _ (by rfl) (100) y n (31) (HA3.out.more _) hgl (HL3.out.alloc _) (by omega) (by rfl) (by first | rfl | (simp only [World.size_alloc, ye_size]; rfl)) ?_; intro v9 w9 hown9 haf9 hsz9)
            have HO9 := Lib.hid (LSt.kept (w := w) (g := g) (.inl hown9 : LSt w w9 v9 _) (World.grownBy.refl _ _) hgl)
            have HA9 := Lib.hid haf9
            have hlt9 : w.heap.size < w9.heap.size := by first | omega | (simp only [World.size_alloc, ye_size] at hsz9; omega)
            have HWF9 := Lib.hid (wf_push HX.out.2.1 (show (⟨100, y, n, 31⟩ : Ins).wf from ⟨(⟨by omega, by omega⟩ : In64 100), hwy, hwn, (⟨by omega, by omega⟩ : In64 31)⟩))
            clear hown9 haf9
            go_roundw
            case rel => exact ⟨k - 1, l ++ [⟨100, y, n, 31⟩], by rw [show ((k - 1 : Nat) : Int) = (k : Int) - 1 by omega], by simp; omega, hlt9, HO9.out, HWF9.out, HA9.out⟩
            case measure => simp [intOf]; omega
          · have hz' : decide (31 < kk) = false := decide_eq_false hz
            go_wp2_with fail
            refine (QR.out _).mono ?_
            rintro e w4 ⟨rfl, rfl⟩
            go_wp2_with (at_builtin; refine wpList_push_ls rfl _ _ (by rfl) (100) y n (kk) (HA3.out.more _) hgl (HL3.out.alloc _) (by omega) (by rfl) (by first | rfl | (simp only [World.size_alloc, ye_size]; rfl)) ?_; intro v9 w9 hown9 haf9 hsz9)
            have HO9 := Lib.hid (LSt.kept (w := w) (g := g) (.inl hown9 : LSt w w9 v9 _) (World.grownBy.refl _ _) hgl)
            have HA9 := Lib.hid haf9
            have hlt9 : w.heap.size < w9.heap.size := by first | omega | (simp only [World.size_alloc, ye_size] at hsz9; omega)
            have HWF9 := Lib.hid (wf_push HX.out.2.1 (show (⟨100, y, n, kk⟩ : Ins).wf from HWX.out))
            clear hown9 haf9
            go_roundw
            case rel => exact ⟨k - 1, l ++ [⟨100, y, n, kk⟩], by rw [show ((k - 1 : Nat) : Int) = (k : Int) - 1 by omega], by simp; omega, hlt9, HO9.out, HWF9.out, HA9.out⟩
            case measure => simp [intOf]; omega
        have t100 : (c == 100) = false := by simpa using h100
        by_cases h116 : c = 116
        · subst h116
          by_cases hz : 31 < kk
          · have hz' : decide (31 < kk) = true := decide_eq_true hz
            go_wp2_with (at_builtin; refine wpList_push_ls rfl _ _ (by rfl) (116) y n (31) (HA3.out.more _) hgl (HL3.out.alloc _) (by omega) (by rfl) (by first | rfl | (simp only [World.size_alloc, ye_size]; rfl)) ?_; intro v9 w9 hown9 haf9 hsz9)
            have HO9 := Lib.hid (LSt.kept (w := w) (g := g) (.inl hown9 : LSt w w9 v9 _) (World.grownBy.refl _ _) hgl)
            have HA9 := Lib.hid haf9
            have hlt9 : w.heap.size < w9.heap.size := by first | omega | (simp only [World.size_alloc, ye_size] at hsz9; omega)
            have HWF9 := Lib.hid (wf_push HX.out.2.1 (show (⟨116, y, n, 31⟩ : Ins).wf from ⟨(⟨by omega, by omega⟩ : In64 116), hwy, hwn, (⟨by omega, by omega⟩ : In64 31)⟩))
            clear hown9 haf9
            go_roundw
            case rel => exact ⟨k - 1, l ++ [⟨116, y, n, 31⟩], by rw [show ((k - 1 : Nat) : Int) = (k : Int) - 1 by omega], by simp; omega, hlt9, HO9.out, HWF9.out, HA9.out⟩
            case measure => simp [intOf]; omega
          · have hz' : decide (31 < kk) = false := decide_eq_false hz
            go_wp2_with fail
            refine (QR.out _).mono ?_
            rintro e w4 ⟨rfl, rfl⟩
            go_wp2_with (at_builtin; refine wpList_push_ls rfl _ _ (by rfl) (116) y n (kk) (HA3.out.more _) hgl (HL3.out.alloc _) (by omega) (by rfl) (by first | rfl | (simp only [World.size_alloc, ye_size]; rfl)) ?_; intro v9 w9 hown9 haf9 hsz9)
            have HO9 := Lib.hid (LSt.kept (w := w) (g := g) (.inl hown9 : LSt w w9 v9 _) (World.grownBy.refl _ _) hgl)
            have HA9 := Lib.hid haf9
            have hlt9 : w.heap.size < w9.heap.size := by first | omega | (simp only [World.size_alloc, ye_size] at hsz9; omega)
            have HWF9 := Lib.hid (wf_push HX.out.2.1 (show (⟨116, y, n, kk⟩ : Ins).wf from HWX.out))
            clear hown9 haf9
            go_roundw
            case rel => exact ⟨k - 1, l ++ [⟨116, y, n, kk⟩], by rw [show ((k - 1 : Nat) : Int) = (k : Int) - 1 by omega], by simp; omega, hlt9, HO9.out, HWF9.out, HA9.out⟩
            case measure => simp [intOf]; omega
        have t116 : (c == 116) = false := by simpa using h116
        by_cases h96 : c = 96
        · subst h96
          go_wp2_with fail
          refine (QR.out _).mono ?_
          rintro e w4 ⟨rfl, rfl⟩
          have HN4 := Lib.hid (srcN_any g a len cap 2 _ (HA3.out.more (.cells #[.int .i64 (96), .int .i64 y, .int .i64 n, .int .i64 kk] 66)).1 (by omega) (by omega))
          go_wp2_with fail
          refine HN4.out.mono ?_
          rintro e w5 ⟨v5, rfl, hv0, hv1, _, hs5, hg5⟩
          have hv5 := hv1 (by omega)
          have ha5 : AfterSrc g a len cap _ w5 := ⟨hs5, hg5⟩
          have hx5 := ha5.row (heap_alloc_new w3 (.cells #[.int .i64 (96), .int .i64 y, .int .i64 n, .int .i64 kk] 66)) (by omega)
          have hx6 := row_put hx5 3 (.int .i64 v5)
          have m3 := frozen_row hx5 3
          have k3 := row_cell hx5 3
          have x0 := row_cell hx6 0
          have x1 := row_cell hx6 1
          have x2 := row_cell hx6 2
          have x3 := row_cell hx6 3
          simp only [List.setIfInBounds_toArray, List.set_cons_zero, List.set_cons_succ, List.getElem?_toArray, List.getElem?_cons_zero, List.getElem?_cons_succ] at k3 x0 x1 x2 x3
          have hne5 : ∀ q, u3.ownBlock = some q → q < w3.heap.size := HL3.out.lt
          have HL5 := Lib.hid (((HL3.out.alloc (.cells #[.int .i64 (96), .int .i64 y, .int .i64 n, .int .i64 kk] 66)).kept hg5 hgl).put (X := w3.heap.size) (fun e => by have := hne5 _ e; omega) (by omega) 3 (.int .i64 v5))
          have HA5 := Lib.hid (((HA3.out.more _).trans ha5).put hgl (p := ⟨w3.heap.size, 3, none⟩) (by show w.heap.size ≤ w3.heap.size; omega) (.int .i64 v5))
          have hlt5 : w3.heap.size < w5.heap.size := row_here hx5
          clear hs5 hg5 ha5 hx5 hx6 hne5 hv1
          go_wp2_with (at_builtin; refine wpList_push_ls rfl _ _ (by rfl) (96) y n (v5) HA5.out hgl HL5.out (by omega) (by rfl) (by first | rfl | (simp only [World.size_alloc, ye_size]; rfl)) ?_; intro v9 w9 hown9 haf9 hsz9)
          have HO9 := Lib.hid (LSt.kept (w := w) (g := g) (.inl hown9 : LSt w w9 v9 _) (World.grownBy.refl _ _) hgl)
          have HA9 := Lib.hid haf9
          have hlt9 : w.heap.size < w9.heap.size := by first | omega | (simp only [World.size_alloc, ye_size] at hsz9; omega)
          have HWF9 := Lib.hid (wf_push HX.out.2.1 (show (⟨96, y, n, v5⟩ : Ins).wf from ⟨hwc, hwy, hwn, (⟨by omega, by omega⟩ : In64 v5)⟩))
          clear hown9 haf9
          go_roundw
          case rel => exact ⟨k - 1, l ++ [⟨96, y, n, v5⟩], by rw [show ((k - 1 : Nat) : Int) = (k : Int) - 1 by omega], by simp; omega, hlt9, HO9.out, HWF9.out, HA9.out⟩
          case measure => simp [intOf]; omega
        have t96 : (c == 96) = false := by simpa using h96
        by_cases h97 : c = 97
        · subst h97
          go_wp2_with fail
          refine (QR.out _).mono ?_
          rintro e w4 ⟨rfl, rfl⟩
          have HN4 := Lib.hid (srcN_any g a len cap 2 _ (HA3.out.more (.cells #[.int .i64 (97), .int .i64 y, .int .i64 n, .int .i64 kk] 66)).1 (by omega) (by omega))
          go_wp2_with fail
          refine HN4.out.mono ?_
          rintro e w5 ⟨v5, rfl, hv0, hv1, _, hs5, hg5⟩
          have hv5 := hv1 (by omega)
          have ha5 : AfterSrc g a len cap _ w5 := ⟨hs5, hg5⟩
          have hx5 := ha5.row (heap_alloc_new w3 (.cells #[.int .i64 (97), .int .i64 y, .int .i64 n, .int .i64 kk] 66)) (by omega)
          have hx6 := row_put hx5 3 (.int .i64 v5)
          have m3 := frozen_row hx5 3
          have k3 := row_cell hx5 3
          have x0 := row_cell hx6 0
          have x1 := row_cell hx6 1
          have x2 := row_cell hx6 2
          have x3 := row_cell hx6 3
          simp only [List.setIfInBounds_toArray, List.set_cons_zero, List.set_cons_succ, List.getElem?_toArray, List.getElem?_cons_zero, List.getElem?_cons_succ] at k3 x0 x1 x2 x3
          have hne5 : ∀ q, u3.ownBlock = some q → q < w3.heap.size := HL3.out.lt
          have HL5 := Lib.hid (((HL3.out.alloc (.cells #[.int .i64 (97), .int .i64 y, .int .i64 n, .int .i64 kk] 66)).kept hg5 hgl).put (X := w3.heap.size) (fun e => by have := hne5 _ e; omega) (by omega) 3 (.int .i64 v5))
          have HA5 := Lib.hid (((HA3.out.more _).trans ha5).put hgl (p := ⟨w3.heap.size, 3, none⟩) (by show w.heap.size ≤ w3.heap.size; omega) (.int .i64 v5))
          have hlt5 : w3.heap.size < w5.heap.size := row_here hx5
          clear hs5 hg5 ha5 hx5 hx6 hne5 hv1
          go_wp2_with (at_builtin; refine wpList_push_ls rfl _ _ (by rfl) (97) y n (v5) HA5.out hgl HL5.out (by omega) (by rfl) (by first | rfl | (simp only [World.size_alloc, ye_size]; rfl)) ?_; intro v9 w9 hown9 haf9 hsz9)
          have HO9 := Lib.hid (LSt.kept (w := w) (g := g) (.inl hown9 : LSt w w9 v9 _) (World.grownBy.refl _ _) hgl)
          have HA9 := Lib.hid haf9
          have hlt9 : w.heap.size < w9.heap.size := by first | omega | (simp only [World.size_alloc, ye_size] at hsz9; omega)
          have HWF9 := Lib.hid (wf_push HX.out.2.1 (show (⟨97, y, n, v5⟩ : Ins).wf from ⟨hwc, hwy, hwn, (⟨by omega, by omega⟩ : In64 v5)⟩))
          clear hown9 haf9
          go_roundw
          case rel => exact ⟨k - 1, l ++ [⟨97, y, n, v5⟩], by rw [show ((k - 1 : Nat) : Int) = (k : Int) - 1 by omega], by simp; omega, hlt9, HO9.out, HWF9.out, HA9.out⟩
          case measure => simp [intOf]; omega
        have t97 : (c == 97) = false := by simpa using h97
        by_cases h6 : c = 6
        · subst h6
          go_wp2_with fail
          refine (QR.out _).mono ?_
          rintro e w4 ⟨rfl, rfl⟩
          have HN4 := Lib.hid (srcOne_any g a len cap 3 _ (HA3.out.more (.cells #[.int .i64 6, .int .i64 y, .int .i64 n, .int .i64 kk] 66)).1 (by omega) (by omega))
          go_wp2_with fail
          refine HN4.out.mono ?_
          rintro e w5 ⟨b5, rfl, ha5⟩
          have hx5 := ha5.row (heap_alloc_new w3 (.cells #[.int .i64 6, .int .i64 y, .int .i64 n, .int .i64 kk] 66)) (by omega)
          have HX5 := Lib.hid hx5
          have HL5 := Lib.hid ((HL3.out.alloc (.cells #[.int .i64 6, .int .i64 y, .int .i64 n, .int .i64 kk] 66)).kept ha5.2 hgl)
          have hne5 := Lib.hid (show ∀ q, u3.ownBlock = some q → q < w3.heap.size from HL3.out.lt)
          have HA5 := Lib.hid ((HA3.out.more _).trans ha5)
          have hlt5 : w3.heap.size < w5.heap.size := row_here hx5
          clear ha5 hx5
          cases b5 with
          | true =>
            have x0 := row_cell HX5.out 0
            have x1 := row_cell HX5.out 1
            have x2 := row_cell HX5.out 2
            have x3 := row_cell HX5.out 3
            simp only [List.getElem?_toArray, List.getElem?_cons_zero, List.getElem?_cons_succ] at x0 x1 x2 x3
            go_wp2_with (at_builtin; refine wpList_push_ls rfl _ _ (by rfl) (6) y n (kk) HA5.out hgl HL5.out (by omega) (by rfl) (by first | rfl | (simp only [World.size_alloc, ye_size]; rfl)) ?_; intro v9 w9 hown9 haf9 hsz9)
            have HO9 := Lib.hid (LSt.kept (w := w) (g := g) (.inl hown9 : LSt w w9 v9 _) (World.grownBy.refl _ _) hgl)
            have HA9 := Lib.hid haf9
            have hlt9 : w.heap.size < w9.heap.size := by first | omega | (simp only [World.size_alloc, ye_size] at hsz9; omega)
            have HWF9 := Lib.hid (wf_push HX.out.2.1 (show (⟨6, y, n, kk⟩ : Ins).wf from HWX.out))
            clear hown9 haf9
            go_roundw
            case rel => exact ⟨k - 1, l ++ [⟨6, y, n, kk⟩], by rw [show ((k - 1 : Nat) : Int) = (k : Int) - 1 by omega], by simp; omega, hlt9, HO9.out, HWF9.out, HA9.out⟩
            case measure => simp [intOf]; omega
          | false =>
            have HN6 := Lib.hid (srcN_any g a len cap 16 w5 HA5.out.1 (by omega) (by omega))
            go_wp2_with fail
            refine HN6.out.mono ?_
            rintro e w6 ⟨v6, rfl, hv0, hv1, _, hs6, hg6⟩
            have hv6 := hv1 (by omega)
            have ha6 : AfterSrc g a len cap _ w6 := ⟨hs6, hg6⟩
            have hx6 := ha6.row HX5.out (by omega)
            have hxs := row_put (row_put (row_put (row_put hx6 0 (.int .i64 32)) 1 (.int .i64 0)) 2 (.int .i64 0)) 3 (.int .i64 (4 * v6))
            have k0 := row_cell hx6 0
            have k1 := row_cell hx6 1
            have k2 := row_cell hx6 2
            have k3 := row_cell hx6 3
            have m0 := frozen_row hx6 0
            have m1 := frozen_row hx6 1
            have m2 := frozen_row hx6 2
            have m3 := frozen_row hx6 3
            have x0 := row_cell hxs 0
            have x1 := row_cell hxs 1
            have x2 := row_cell hxs 2
            have x3 := row_cell hxs 3
            simp only [List.setIfInBounds_toArray, List.set_cons_zero, List.set_cons_succ, List.getElem?_toArray, List.getElem?_cons_zero, List.getElem?_cons_succ] at k0 k1 k2 k3 x0 x1 x2 x3
            have hq : u3.ownBlock ≠ some w3.heap.size := fun e => by have := hne5.out _ e; omega
            have hwx : w.heap.size ≠ w3.heap.size := by omega
            have HL6 := Lib.hid (((((HL5.out.kept hg6 hgl).put (X := w3.heap.size) hq hwx 0 (.int .i64 32)).put hq hwx 1 (.int .i64 0)).put hq hwx 2 (.int .i64 0)).put hq hwx 3 (.int .i64 (4 * v6)))
            have hge : w.heap.size ≤ w3.heap.size := by omega
            have HA6 := Lib.hid (((((HA5.out.trans ha6).put hgl (p := ⟨w3.heap.size, 0, none⟩) hge (.int .i64 32)).put hgl (p := ⟨w3.heap.size, 1, none⟩) hge (.int .i64 0)).put hgl (p := ⟨w3.heap.size, 2, none⟩) hge (.int .i64 0)).put hgl (p := ⟨w3.heap.size, 3, none⟩) hge (.int .i64 (4 * v6)))
            have hlt6 : w3.heap.size < w6.heap.size := row_here hx6
            clear hs6 hg6 ha6 hx6 hxs hv1 hq
            go_wp2_with (at_builtin; refine wpList_push_ls rfl _ _ (by rfl) (32) 0 0 (4 * v6) HA6.out hgl HL6.out (by omega) (by rfl) (by first | rfl | (simp only [World.size_alloc, ye_size]; rfl)) ?_; intro v9 w9 hown9 haf9 hsz9)
            have HO9 := Lib.hid (LSt.kept (w := w) (g := g) (.inl hown9 : LSt w w9 v9 _) (World.grownBy.refl _ _) hgl)
            have HA9 := Lib.hid haf9
            have hlt9 : w.heap.size < w9.heap.size := by first | omega | (simp only [World.size_alloc, ye_size] at hsz9; omega)
            have HWF9 := Lib.hid (wf_push HX.out.2.1 (show (⟨32, 0, 0, 4 * v6⟩ : Ins).wf from small_wf (by omega) (by omega) (by omega) (by omega)))
            clear hown9 haf9
            go_roundw
            case rel => exact ⟨k - 1, l ++ [⟨32, 0, 0, 4 * v6⟩], by rw [show ((k - 1 : Nat) : Int) = (k : Int) - 1 by omega], by simp; omega, hlt9, HO9.out, HWF9.out, HA9.out⟩
            case measure => simp [intOf]; omega
        have t6 : (c == 6) = false := by simpa using h6
        have hrd : readsC c = false := by
          unfold readsC
          simpa using ⟨h96, h97⟩
        rw [hrd] at QR
        go_wp2_with fail
        refine (QR.out _).mono ?_
        rintro e w4 ⟨rfl, rfl⟩
        go_wp2_with (at_builtin; refine wpList_push_ls rfl _ _ (by rfl) (c) y n (kk) (HA3.out.more _) hgl (HL3.out.alloc _) (by omega) (by rfl) (by first | rfl | (simp only [World.size_alloc, ye_size]; rfl)) ?_; intro v9 w9 hown9 haf9 hsz9)
        have HO9 := Lib.hid (LSt.kept (w := w) (g := g) (.inl hown9 : LSt w w9 v9 _) (World.grownBy.refl _ _) hgl)
        have HA9 := Lib.hid haf9
        have hlt9 : w.heap.size < w9.heap.size := by first | omega | (simp only [World.size_alloc, ye_size] at hsz9; omega)
        have HWF9 := Lib.hid (wf_push HX.out.2.1 (show (⟨c, y, n, kk⟩ : Ins).wf from HWX.out))
        clear hown9 haf9
        go_roundw
        case rel => exact ⟨k - 1, l ++ [⟨c, y, n, kk⟩], by rw [show ((k - 1 : Nat) : Int) = (k : Int) - 1 by omega], by simp; omega, hlt9, HO9.out, HWF9.out, HA9.out⟩
        case measure => simp [intOf]; omega
      · have hd : decide ((0 : Int) < (k : Int)) = false := decide_eq_false (by omega)
        have haf := HX.out.2.2.trans (AfterSrc.of_below HX.out.2.2.1 ((Below.refl wr.heap.size wr).drew))
        have hls := HX.out.1.kept (only_drew' (World.grownBy.refl wr (some g))) hgl
        have hgr : g < wr.heap.size := by omega
        have HAX := Lib.hid HX.out.2.2
        have HLX := Lib.hid HX.out.1
        go_wp2_with fail
        go_region_law (first
          | ((go_simp; go_at_call 29; (with_reducible refine (srcN_any g a len cap 2 _ (by first | exact after_src haf | exact after_src (haf.more _) | exact after_src (after_drew (HAX.out.more _))) (by omega) (by omega)).mono ?_); rintro e wa ⟨va, rfl, hva0, hva1, _, hsa, hga⟩; have haa := after_mk hsa hga; (first | (have rx := Lib.hid (AfterSrc.row haa (row_drew wr #[.int .i64 6, .int .i64 22] 2) (by omega))) | skip); have hls := LSt.kept (by first | exact hls | exact hls.alloc _ | exact ls_drew (HLX.out.alloc _) g hgl) hga hgl; have haf := AfterSrc.trans (by first | exact haf | exact haf.more _ | exact after_drew (HAX.out.more _)) haa; have hva2 := hva1 (by omega); obtain ⟨qa, rfl⟩ := Int.eq_ofNat_of_zero_le hva0; obtain ⟨xa, hxa, hxb⟩ := two_cell qa (by omega); have hqa2 : (qa : Int) < 2 := hva2; (first | (have hcx := row_cell rx.out qa; rw [hxa] at hcx) | skip); have hsa1 : wr.heap.size ≤ wa.heap.size := (by have := hga.size; simp at this; omega); clear haa hsa hga hva1; dsimp only))
          | ((go_simp; go_at_call 29; (with_reducible refine (srcN_any g a len cap 9 _ (by first | exact after_src haf | exact after_src (haf.more _)) (by omega) (by omega)).mono ?_); rintro e wb ⟨vb, rfl, hvb0, hvb1, _, hsb, hgb⟩; have hab := after_mk hsb hgb; (first | (have rx := Lib.hid (hab.row rx.out (by omega))) | (have rx := Lib.hid (hab.row (heap_alloc_new wa (.cells #[.int .i64 6, .int .i64 22] 2)) (by omega))) | skip); have hls := LSt.kept (by first | exact hls | exact hls.alloc _) hgb hgl; have haf := AfterSrc.trans (by first | exact haf | exact haf.more _) hab; have hvb2 := hvb1 (by omega); (first | (have hcx := row_cell rx.out qa; rw [hxa] at hcx) | skip); clear hab hsb hgb hvb1; dsimp only))
          | ((refine step_push_ls rfl _ _ (by rfl) _ 0 0 _ (by first | exact haf | exact haf.more _) hgl (by first | exact hls | exact hls.alloc _) (by omega) (by rfl) (by first | rfl | (simp only [World.size_alloc, ye_size]; rfl)) ?_; intro v9 w9 hown9 haf9 hsz9)))
        all_goals
          have HO9 := Lib.hid hown9
          have HA9 := Lib.hid haf9
          have HWF9 := Lib.hid (wf_push HX.out.2.1 (small_wf (c := xa) (y := 0) (n := 0) (k := vb) (by omega) (by omega) (by omega) (by omega)))
          clear hown9 haf9
          go_wp2_with fail
          go_ret
          exact ⟨v9, _, rfl, HO9.out, by simp; omega, by simp, HWF9.out, HA9.out⟩

end Go.Proofs.YtekmnopgaopmlaaGreatDoor

/- What the law of Check and Run draws. -/
set_option maxRecDepth 100000
set_option linter.unusedSimpArgs false
set_option linter.unusedVariables false
namespace Go.Proofs.YtekmnopgaopmlaaGreatDoor
open Go.RowKit

/-- A drawn program, and the memory behind it. -/
def Drawn (w w' : World) (v : Value) (l : List Ins) : Prop := InsAt w' w'.heap.size v l ∧ l.length ≤ 20 ∧ Below w.heap.size w w'
theorem drawn_of {g : Nat} {a : Option Addr} {len cap : Nat} {w w1 W w' : World} {v : Value} {l : List Ins} (hb : Below w.heap.size w w1) (hW : AfterSrc w.heap.size a len cap w1 W) (ho : InsOwn W.heap.size w' v l) (hl : l.length ≤ 20) (hwf : ∀ x ∈ l, x.wf) (ha : AfterSrc w.heap.size a len cap W w') : Drawn w w' v l :=
  ⟨ho.insAt hwf, hl, hb.trans ((hW.trans ha).below (Nat.le_refl _) hb.size)⟩
theorem after_refl {g : Nat} {a : Option Addr} {len cap : Nat} {w : World} (h : Src w g a len cap) : AfterSrc g a len cap w w := AfterSrc.of_below h (Below.refl _ _)

set_option maxHeartbeats 3200000 in
theorem drawCheck_any (a : Option Addr) (len cap : Nat) (w : World) (hcode : CodeAt w w.heap.size a len cap) :
    Calls Tryz.prog 5 #[.slice a len cap] w fun e w' => ∃ v l, e = .returned v ∧ Drawn w w' v l := by
  have HQ := Lib.hid (source_any a len cap w hcode)
  clear hcode
  go_enter Tryz.func5, Tryz.ntmps5
  go_wp2_with fail
  refine HQ.out.mono ?_
  rintro e w1 ⟨rfl, hs1, hb1⟩
  have HB1 := Lib.hid hb1
  have hsz := hb1.size
  have hg1 : w.heap.size < w1.heap.size := hs1.lt
  clear hb1
  go_wp2_with fail
  refine (srcN_any w.heap.size a len cap 4 _ hs1 (by omega) (by omega)).mono ?_
  rintro e w2 ⟨v0, rfl, hv0, hv1, _, hs2, hg2⟩
  have HA2 := Lib.hid (after_mk hs2 hg2)
  have hv2 := hv1 (by omega)
  have hs22 := hg2.size
  clear hs1 hs2 hg2 hv1
  have hcase : v0 = 0 ∨ v0 = 1 ∨ (v0 ≠ 0 ∧ v0 ≠ 1) := by omega
  rcases hcase with rfl | rfl | ⟨n0, n1⟩
  · have HO := Lib.hid (srcOdd_any w.heap.size a len cap w2 HA2.out.1)
    go_wp2_with fail
    refine HO.out.mono ?_
    rintro e w3 ⟨v, l, rfl, ho, hl, hwf, ha⟩
    have HD := Lib.hid (drawn_of (g := 0) HB1.out HA2.out ho (by omega) hwf ha)
    clear ho hwf ha
    go_wp2_with fail
    go_ret
    exact ⟨v, l, rfl, HD.out⟩
  · have HO := Lib.hid (srcProg4_any w.heap.size a len cap w2 HA2.out.1)
    go_wp2_with fail
    refine HO.out.mono ?_
    rintro e w3 ⟨v, l, rfl, ho, hl, hl0, hwf, ha⟩
    obtain ⟨b, bcap, rfl, hbge, hblt⟩ := ins_place ho hl0
    have HO3 := Lib.hid ho
    have HA3 := Lib.hid ha
    have HX := Lib.hid hwf
    have HN := Lib.hid (srcN_any w.heap.size a len cap (l.length : Int) w3 ha.1 (by omega) (by omega))
    clear ho hwf ha
    go_wp2_with fail
    refine HN.out.mono ?_
    rintro e w4 ⟨v4, rfl, hq0, hq1, hq2, hs4, hg4⟩
    obtain ⟨i, rfl⟩ := Int.eq_ofNat_of_zero_le hq0
    have hi : i < l.length := by
      by_cases h1 : (1 : Int) < (l.length : Int)
      · have := hq1 h1; omega
      · have := hq2 (by omega); omega
    have HA4 := Lib.hid (HA3.out.trans (after_mk hs4 hg4))
    have HO4 := Lib.hid (ins_kept HO3.out hg4 (by omega))
    have HI := Lib.hid (srcInsn_any w.heap.size a len cap 60 w4 HA4.out.1 (by omega) (by omega))
    clear hq0 hq1 hq2 hs4 hg4
    have hii : (i : Int) < (l.length : Int) := by omega
    go_wp2_with fail
    refine HI.out.mono ?_
    rintro e w5 ⟨⟨c, y, n, kk⟩, rfl, hwx, ha5⟩
    have hown5 := ins_kept HO4.out ha5.2 (by omega)
    have HA5 := Lib.hid (HA4.out.trans ha5)
    obtain ⟨xx, hxx⟩ : ∃ xx, l[i]? = some xx := ⟨l[i], List.getElem?_eq_getElem hi⟩
    obtain ⟨e0, e1, e2, e3, f0, f1, f2, f3⟩ := own_ins_at hown5 hxx
    have hst := own_ins_set hown5 hi ⟨c, y, n, kk⟩
    have HST := Lib.hid (show InsOwn w2.heap.size ((((w5.setCell ⟨b, i * 4, none⟩ (.int .i64 c)).setCell ⟨b, i * 4 + 1, none⟩ (.int .i64 y)).setCell ⟨b, i * 4 + 2, none⟩ (.int .i64 n)).setCell ⟨b, i * 4 + 3, none⟩ (.int .i64 kk)) (.slice (some ⟨b, 0, none⟩) l.length bcap) (l.set i ⟨c, y, n, kk⟩) by unfold InsOwn; rw [List.length_set]; exact hst)
    have hgl2 : w.heap.size < w2.heap.size := by omega
    have HAS := Lib.hid ((((HA5.out.put hgl2 (p := ⟨b, i * 4, none⟩) hbge (.int .i64 c)).put hgl2 (p := ⟨b, i * 4 + 1, none⟩) hbge (.int .i64 y)).put hgl2 (p := ⟨b, i * 4 + 2, none⟩) hbge (.int .i64 n)).put hgl2 (p := ⟨b, i * 4 + 3, none⟩) hbge (.int .i64 kk))
    have HD := Lib.hid (drawn_of (g := 0) HB1.out HA2.out HST.out (by simpa using hl) (wf_set HX.out hwx) HAS.out)
    clear hown5 hst hxx HST HAS hwx ha5
    go_wp2_with fail
    go_ret
    exact ⟨_, _, rfl, HD.out⟩
  · have t0 : (v0 == 0) = false := by simpa using n0
    have t1 : (v0 == 1) = false := by simpa using n1
    have HO := Lib.hid (srcProg4_any w.heap.size a len cap w2 HA2.out.1)
    go_wp2_with fail
    refine HO.out.mono ?_
    rintro e w3 ⟨v, l, rfl, ho, hl, hl0, hwf, ha⟩
    have HD := Lib.hid (drawn_of (g := 0) HB1.out HA2.out ho (by omega) hwf ha)
    clear ho hwf ha
    go_wp2_with fail
    go_ret
    exact ⟨v, l, rfl, HD.out⟩

set_option maxHeartbeats 3200000 in
theorem drawWays_any (a : Option Addr) (len cap : Nat) (w : World) (hcode : CodeAt w w.heap.size a len cap) :
    Calls Tryz.prog 7 #[.slice a len cap] w fun e w' => ∃ v l, ∃ at_ : Int, e = .returned (.tuple #[v, .int .i64 at_]) ∧ -10 ≤ at_ ∧ at_ ≤ 1000 ∧ Drawn w w' v l := by
  have HQ := Lib.hid (source_any a len cap w hcode)
  clear hcode
  go_enter Tryz.func7, Tryz.ntmps7
  go_wp2_with fail
  refine HQ.out.mono ?_
  rintro e w1 ⟨rfl, hs1, hb1⟩
  have HB1 := Lib.hid hb1
  have hsz := hb1.size
  have hg1 : w.heap.size < w1.heap.size := hs1.lt
  have HA1 := Lib.hid (after_refl hs1)
  have HO := Lib.hid (srcProg4_any w.heap.size a len cap w1 hs1)
  clear hb1 hs1
  go_wp2_with fail
  refine HO.out.mono ?_
  rintro e w3 ⟨v, l, rfl, ho, hl, hl0, hwf, ha⟩
  obtain ⟨sa, scap, rfl⟩ := ho.slice
  have HO3 := Lib.hid ho
  have HX := Lib.hid hwf
  have HA3 := Lib.hid ha
  have HN := Lib.hid (srcN_any w.heap.size a len cap ((l.length : Int) + 2) w3 ha.1 (by omega) (by omega))
  clear ho hwf ha
  go_wp2_with fail
  refine HN.out.mono ?_
  rintro e w4 ⟨v4, rfl, hq0, hq1, hq2, hs4, hg4⟩
  have hq3 := hq1 (by omega)
  have HA4 := Lib.hid (HA3.out.trans (after_mk hs4 hg4))
  have HO4 := Lib.hid (ins_kept HO3.out hg4 (by omega))
  have HN5 := Lib.hid (srcN_any w.heap.size a len cap 2 w4 hs4 (by omega) (by omega))
  clear hq1 hq2 hs4 hg4
  go_wp2_with fail
  refine HN5.out.mono ?_
  rintro e w5 ⟨v5, rfl, hr0, hr1, _, hs5, hg5⟩
  have hr3 := hr1 (by omega)
  have HA5 := Lib.hid (HA4.out.trans (after_mk hs5 hg5))
  have HO5 := Lib.hid (ins_kept HO4.out hg5 (by omega))
  have HN6 := Lib.hid (srcN_any w.heap.size a len cap 2 w5 hs5 (by omega) (by omega))
  clear hr1 hs5 hg5
  go_wp2_with fail
  refine HN6.out.mono ?_
  rintro e w6 ⟨v6, rfl, ht0, ht1, _, hs6, hg6⟩
  have ht3 := ht1 (by omega)
  have HD := Lib.hid (drawn_of (g := 0) HB1.out HA1.out (ins_kept HO5.out hg6 (by omega)) (by omega) HX.out (HA5.out.trans (after_mk hs6 hg6)))
  have hmul : 0 ≤ v5 * v6 ∧ v5 * v6 ≤ 1 := by
    rcases (by omega : v5 = 0 ∨ v5 = 1) with rfl | rfl
    · omega
    · omega
  have HM := Lib.hid (show -10 ≤ wrap64 (v4 - wrap64 (v5 * v6)) ∧ wrap64 (v4 - wrap64 (v5 * v6)) ≤ 1000 by
    generalize v5 * v6 = vm at *
    unfold wrap64
    omega)
  clear ht1 hs6 hg6 hmul
  go_wp2_with fail
  go_ret2
  exact ⟨_, l, _, rfl, HM.out.1, HM.out.2, HD.out⟩

theorem drawWritten_any (a : Option Addr) (len cap : Nat) (w : World) (hcode : CodeAt w w.heap.size a len cap) :
    Calls Tryz.prog 8 #[.slice a len cap] w fun e w' => ∃ v l, ∃ at_ : Int, e = .returned (.tuple #[v, .int .i64 at_]) ∧ -10 ≤ at_ ∧ at_ ≤ 1000 ∧ Drawn w w' v l := by
  have HQ := Lib.hid (drawWays_any a len cap w hcode)
  clear hcode
  go_enter Tryz.func8, Tryz.ntmps8
  go_wp2_with fail
  refine HQ.out.mono ?_
  rintro e w1 ⟨v, l, at_, rfl, h0, h1, hd⟩
  have HD := Lib.hid hd
  clear hd
  go_wp2_with fail
  go_ret2
  exact ⟨v, l, at_, rfl, h0, h1, HD.out⟩

set_option maxHeartbeats 3200000 in
theorem drawRun_any (a : Option Addr) (len cap : Nat) (w : World) (hcode : CodeAt w w.heap.size a len cap) :
    Calls Tryz.prog 9 #[.slice a len cap] w fun e w' => ∃ v l, ∃ b : ByteArray, e = .returned (.tuple #[v, .string b]) ∧ b.size ≤ 64 ∧ Drawn w w' v l := by
  have HQ := Lib.hid (source_any a len cap w hcode)
  clear hcode
  go_enter Tryz.func9, Tryz.ntmps9
  go_wp2_with fail
  refine HQ.out.mono ?_
  rintro e w1 ⟨rfl, hs1, hb1⟩
  have HB1 := Lib.hid hb1
  have hsz := hb1.size
  have hg1 : w.heap.size < w1.heap.size := hs1.lt
  clear hb1
  go_wp2_with fail
  refine (srcRecordOf_any w.heap.size a len cap _ hs1).mono ?_
  rintro e w2 ⟨r, u, rfl, hr, ho2, ha2⟩
  obtain ⟨ua, ucap, rfl⟩ := OwnL.slice ho2
  have hargs := (rcRight_parts hr).2.2.2.2
  have hat : WdAt w2 w2.heap.size (.slice ua r.args.length ucap) r.args := OwnL.lAt wdS ho2 (fun x hx => by
    obtain ⟨i, hi, rfl⟩ := List.getElem_of_mem hx
    exact wf_of_right (hargs i hi))
  have hz : (rbOf r).size = 64 := by
    rw [rbOf_yes hr, size_mk]
    have h6 := (rcRight_parts hr).2.2.2.1
    simp only [rcB, List.length_append, leB_length, wdB_length, wdBs_length, h6]
  have hqb := specRecordBytes_any r _ w2 hat
  generalize rbOf r = T at *
  obtain ⟨nr, ar, ⟨ih, il⟩, args⟩ := r
  simp only at hqb ho2 hat
  have HQB := Lib.hid hqb
  have HA2 := Lib.hid ha2
  clear hqb ho2 hat hargs hr ha2 hs1
  go_wp2_with fail
  refine HQB.out.mono ?_
  rintro e w3 ⟨rfl, hb3⟩
  have HA3 := Lib.hid (HA2.out.trans (AfterSrc.of_below HA2.out.1 hb3))
  clear hb3
  have HZ := Lib.hid hz
  have hT0 : (1 : Int) ≤ (T.size : Int) := by omega
  have hT1 : (T.size : Int) ≤ 64 := by omega
  have hex : (T.extract 1 T.size).size ≤ 64 := by rw [ByteArray.size_extract]; omega
  have HEX := Lib.hid hex
  clear hz hex
  go_wp2_with fail
  refine (srcOne_any w.heap.size a len cap 12 _ HA3.out.1 (by omega) (by omega)).mono ?_
  rintro e w4 ⟨b, rfl, ha4⟩
  have HA4 := Lib.hid (HA3.out.trans ha4)
  have HB5 := Lib.hid (srcOne_any w.heap.size a len cap 4 w4 HA4.out.1 (by omega) (by omega))
  clear ha4
  cases b
  all_goals
    go_wp2_with fail
    refine HB5.out.mono ?_
    rintro e w5 ⟨bb, rfl, ha5⟩
    have HA5 := Lib.hid (HA4.out.trans ha5)
    clear ha5
    cases bb with
    | true =>
      have HO := Lib.hid (srcOdd_any w.heap.size a len cap w5 HA5.out.1)
      go_wp2_with fail
      refine HO.out.mono ?_
      rintro e w6 ⟨v, l, rfl, ho, hl, hwf, ha⟩
      have HD := Lib.hid (drawn_of (g := 0) HB1.out HA5.out ho (by omega) hwf ha)
      clear ho hwf ha
      go_wp2_with fail
      go_ret2
      first
        | exact ⟨v, l, _, rfl, by have := HZ.out; omega, HD.out⟩
        | exact ⟨v, l, _, rfl, HEX.out, HD.out⟩
    | false =>
      have HO := Lib.hid (srcProg4_any w.heap.size a len cap w5 HA5.out.1)
      go_wp2_with fail
      refine HO.out.mono ?_
      rintro e w6 ⟨v, l, rfl, ho, hl, hl0, hwf, ha⟩
      have HD := Lib.hid (drawn_of (g := 0) HB1.out HA5.out ho (by omega) hwf ha)
      clear ho hwf ha
      go_wp2_with fail
      go_ret2
      first
        | exact ⟨v, l, _, rfl, by have := HZ.out; omega, HD.out⟩
        | exact ⟨v, l, _, rfl, HEX.out, HD.out⟩

end Go.Proofs.YtekmnopgaopmlaaGreatDoor

/- What the law of RunOn draws: a program and a record. -/
set_option maxRecDepth 100000
set_option linter.unusedSimpArgs false
set_option linter.unusedVariables false
namespace Go.Proofs.YtekmnopgaopmlaaGreatDoor
open Go.RowKit

theorem wd_kept {w w' : World} {B g b o n cap : Nat} {l : List Wd} (h : WdAt w B (.slice (some ⟨b, o, none⟩) n cap) l) (hB : B ≤ w.heap.size) (hg : w.grownBy w' (some g)) (hne : b ≠ g) : WdAt w' B (.slice (some ⟨b, o, none⟩) n cap) l := by
  obtain ⟨hS, ⟨a', cap', e, h1, h2, h3⟩, hwf⟩ := h
  simp only [Value.slice.injEq] at e
  obtain ⟨rfl, rfl, rfl⟩ := e
  refine ⟨hS, ⟨_, _, rfl, h1, h2, fun h0 => ?_⟩, hwf⟩
  obtain ⟨b1, o1, e1, hb, hc⟩ := h3 h0
  simp only [Option.some.injEq, Addr.mk.injEq] at e1
  obtain ⟨rfl, rfl, _⟩ := e1
  exact ⟨b, o, rfl, hb, fun i u hu => (World.cell?_of_block (w := w) (hg.block b (by omega) (fun e => hne (by injection e)))).trans (hc i u hu)⟩

set_option maxHeartbeats 6400000 in
theorem drawRunOn_any (a : Option Addr) (len cap : Nat) (w : World) (hcode : CodeAt w w.heap.size a len cap) :
    Calls Tryz.prog 10 #[.slice a len cap] w fun e w' => ∃ v l r u, e = .returned (.tuple #[v, rcV r u]) ∧ WdAt w' w'.heap.size u r.args ∧ r.args.length ≤ 6 ∧ Drawn w w' v l := by
  have hb0 : Below w.heap.size w (w.alloc (.cells #[.int .i64 0, .int .i64 0, .int .i64 0, .int .i64 0, .slice none 0 0] 36)) := (Below.refl _ _).alloc (Nat.le_refl _) _
  have hq := source_any a len cap (w.alloc (.cells #[.int .i64 0, .int .i64 0, .int .i64 0, .int .i64 0, .slice none 0 0] 36)) ((hcode.below hb0).upTo (by simp))
  simp only [World.size_alloc] at hq
  have HQ := Lib.hid hq
  have HB0 := Lib.hid hb0
  clear hq hcode hb0
  go_enter Tryz.func10, Tryz.ntmps10
  go_wp2_with fail
  refine HQ.out.mono ?_
  rintro e w1 ⟨rfl, hs1, hb1⟩
  have HB1 := Lib.hid (HB0.out.trans (hb1.mono (by omega)))
  have HR1 := Lib.hid ((hb1.block w.heap.size (by omega)).trans (heap_alloc_new w _))
  have hs : w.heap.size + 1 < w1.heap.size := hs1.lt
  clear hb1
  go_wp2_with fail
  refine (srcRecord_any (w.heap.size + 1) a len cap _ hs1).mono ?_
  rintro e w2 ⟨⟨nr, ar, ⟨ih, il⟩, rl⟩, u, rfl, hwf, hat, hl6, ⟨b, o, n, c, rfl, hb⟩, ha⟩
  simp only at hat hl6
  have HA2 := Lib.hid (ha.more (.cells #[.int .i64 nr, .int .i64 ar, .int .i64 ih, .int .i64 il, .slice (some ⟨b, o, none⟩) n c] 36))
  have HR2 := Lib.hid (row_alloc (ha.row HR1.out (by omega)) (.cells #[.int .i64 nr, .int .i64 ar, .int .i64 ih, .int .i64 il, .slice (some ⟨b, o, none⟩) n c] 36))
  have hX2 := row_drew w2 #[.int .i64 nr, .int .i64 ar, .int .i64 ih, .int .i64 il, .slice (some ⟨b, o, none⟩) n c] 36
  have HX2 := Lib.hid hX2
  have HAT := Lib.hid (LAt.up (LAt.below hat ((Below.refl w2.heap.size w2).alloc (Nat.le_refl _) (.cells #[.int .i64 nr, .int .i64 ar, .int .i64 ih, .int .i64 il, .slice (some ⟨b, o, none⟩) n c] 36))) (Nat.le_succ _))
  have hs2 : w1.heap.size ≤ w2.heap.size := ha.2.size
  have HO := Lib.hid (srcProg4_any (w.heap.size + 1) a len cap _ (after_drew HA2.out).1)
  clear hat ha hX2 hs1
  go_wp2_with fail
  go_region_law ((go_simp; go_at_call 31; (with_reducible refine HO.out.mono ?_); rintro e w3 ⟨v, l, rfl, ho, hl, hl0, hwfl, ha3⟩; have hx3 := AfterSrc.row ha3 HX2.out (by omega); have hr3 := AfterSrc.row (w := (w2.alloc (.cells #[.int .i64 nr, .int .i64 ar, .int .i64 ih, .int .i64 il, .slice (some ⟨b, o, none⟩) n c] 36)).drew) ha3 HR2.out (by omega); have x0 := row_cell hx3 0; have x1 := row_cell hx3 1; have x2 := row_cell hx3 2; have x3 := row_cell hx3 3; have x4 := row_cell hx3 4; have d0 := row_cell hr3 0; have d1 := row_cell hr3 1; have d2 := row_cell hr3 2; have d3 := row_cell hr3 3; have d4 := row_cell hr3 4; have f0 := frozen_row hr3 0; have f1 := frozen_row hr3 1; have f2 := frozen_row hr3 2; have f3 := frozen_row hr3 3; have f4 := frozen_row hr3 4; simp only [List.getElem?_toArray, List.getElem?_cons_zero, List.getElem?_cons_succ] at x0 x1 x2 x3 x4 d0 d1 d2 d3 d4; have HO3 := Lib.hid ho; have HA3 := Lib.hid ha3; have HWL := Lib.hid hwfl; clear ho ha3 hwfl hx3 hr3; dsimp only))
  all_goals
    have hb2 : Below w.heap.size w (w2.alloc (.cells #[.int .i64 nr, .int .i64 ar, .int .i64 ih, .int .i64 il, .slice (some ⟨b, o, none⟩) n c] 36)).drew := (HB1.out.trans (HA2.out.below (B := w.heap.size) (by omega) (by omega))).drew
    have hb3 := hb2.trans (HA3.out.below (B := w.heap.size) (by omega) hb2.size)
    have hs3 : w2.heap.size + 1 ≤ w3.heap.size := by have := HA3.out.2.size; simpa using this
    have hbb : w.heap.size < (w2.alloc (.cells #[.int .i64 nr, .int .i64 ar, .int .i64 ih, .int .i64 il, .slice (some ⟨b, o, none⟩) n c] 36)).drew.heap.size := by simp; omega
    have HI5 := Lib.hid ((((((HO3.out.setBelow (a := ⟨w.heap.size, 0, none⟩) hbb (.int .i64 nr)).setBelow (a := ⟨w.heap.size, 1, none⟩) hbb (.int .i64 ar)).setBelow (a := ⟨w.heap.size, 2, none⟩) hbb (.int .i64 ih)).setBelow (a := ⟨w.heap.size, 3, none⟩) hbb (.int .i64 il)).setBelow (a := ⟨w.heap.size, 4, none⟩) hbb (.slice (some ⟨b, o, none⟩) n c)).insAt HWL.out)
    have hrk := wd_kept (w := (w2.alloc (.cells #[.int .i64 nr, .int .i64 ar, .int .i64 ih, .int .i64 il, .slice (some ⟨b, o, none⟩) n c] 36)).drew) HAT.out (by simp) HA3.out.2 (by omega)
    have HW5 := Lib.hid (LAt.up (WdAt.put (WdAt.put (WdAt.put (WdAt.put (WdAt.put hrk (p := ⟨w.heap.size, 0, none⟩) (show w.heap.size ≠ b by omega) (.int .i64 nr)) (p := ⟨w.heap.size, 1, none⟩) (show w.heap.size ≠ b by omega) (.int .i64 ar)) (p := ⟨w.heap.size, 2, none⟩) (show w.heap.size ≠ b by omega) (.int .i64 ih)) (p := ⟨w.heap.size, 3, none⟩) (show w.heap.size ≠ b by omega) (.int .i64 il)) (p := ⟨w.heap.size, 4, none⟩) (show w.heap.size ≠ b by omega) (.slice (some ⟨b, o, none⟩) n c))
      (B' := (((((w3.setCell ⟨w.heap.size, 0, none⟩ (.int .i64 nr)).setCell ⟨w.heap.size, 1, none⟩ (.int .i64 ar)).setCell ⟨w.heap.size, 2, none⟩ (.int .i64 ih)).setCell ⟨w.heap.size, 3, none⟩ (.int .i64 il)).setCell ⟨w.heap.size, 4, none⟩ (.slice (some ⟨b, o, none⟩) n c)).heap.size) (by simp only [ye_size]; exact hs3))
    have HB5 := Lib.hid (((((hb3.setCell (p := ⟨w.heap.size, 0, none⟩) (Nat.le_refl _) (.int .i64 nr)).setCell (p := ⟨w.heap.size, 1, none⟩) (Nat.le_refl _) (.int .i64 ar)).setCell (p := ⟨w.heap.size, 2, none⟩) (Nat.le_refl _) (.int .i64 ih)).setCell (p := ⟨w.heap.size, 3, none⟩) (Nat.le_refl _) (.int .i64 il)).setCell (p := ⟨w.heap.size, 4, none⟩) (Nat.le_refl _) (.slice (some ⟨b, o, none⟩) n c))
    clear hb2 hb3 hrk hbb
    go_wp2_with fail
    exact bodyPost_ret (v := .tuple #[v, .agg #[.int .i64 nr, .int .i64 ar, .int .i64 ih, .int .i64 il, .slice (some ⟨b, o, none⟩) n c]]) (by simp [results, Tryz.results10, go_sem, d0, d1, d2, d3, d4]) rfl
      ⟨v, l, ⟨nr, ar, ⟨ih, il⟩, rl⟩, _, rfl, HW5.out, hl6, HI5.out, hl, HB5.out⟩

end Go.Proofs.YtekmnopgaopmlaaGreatDoor

/- Lists of numbers compared, and answers as wholes: what the law of Check asks beside. -/
set_option maxRecDepth 100000
set_option linter.unusedSimpArgs false
set_option linter.unusedVariables false
namespace Go.Proofs.YtekmnopgaopmlaaGreatDoor
open Go.RowKit

theorem lwNums_same (v1 v2 : Value) (l : List Int) (w : World) (h1 : IntsAt w w.heap.size v1 l) (h2 : IntsAt w w.heap.size v2 l) :
    Calls Tryz.prog 12 #[v1, v2] w fun e w' => e = .returned (.bool true) ∧ Below w.heap.size w w' := by
  obtain ⟨a1, cap1, rfl, hc1, hm1⟩ := h1.len
  obtain ⟨a2, cap2, rfl, hc2, hm2⟩ := h2.len
  unfold maxLen at hm1 hm2
  have hq : ((l.length : Int) != (l.length : Int)) = false := by simp
  have H1 := Lib.hid h1
  have H2 := Lib.hid h2
  clear h1 h2
  go_enter Tryz.func12, Tryz.ntmps12
  go_wp2
  go_loopw [5] (fun i wr => ∃ k : Nat, k ≤ l.length ∧ i = .int .i64 k ∧ Below w.heap.size w wr) (fun i _ => l.length - (intOf i).toNat)
  case atStart => exact ⟨0, by omega, rfl, Below.refl _ _⟩
  case round =>
    obtain ⟨k, hk, rfl, hbw⟩ := hrel
    by_cases hlt : k < l.length
    · obtain ⟨b, o, e, hb, c⟩ := IntsAt.cell (H1.out.below hbw) (List.getElem?_eq_getElem hlt)
      obtain ⟨b', o', e', hb', c'⟩ := IntsAt.cell (H2.out.below hbw) (List.getElem?_eq_getElem hlt)
      subst e e'
      generalize l[k] = x at *
      have hx : (x != x) = false := by simp
      have HB := Lib.hid hbw.drew
      clear hbw
      go_wp2_with fail
      refine wp_region_still_lit (by kernel_rfl) (by kernel_rfl) ?_
      simp only [World.drew_eq]
      repeat still_step
      refine wpStill_nil ?_
      go_wp2_with fail
      go_roundw
      case rel => exact ⟨k + 1, by omega, by go_num, HB.out⟩
      case measure => simp [intOf]; omega
    · have HB := Lib.hid hbw
      clear hbw
      go_wp2_with fail
      go_ret
      exact ⟨rfl, HB.out⟩

theorem eqCheckWhole (a b : Int) (w : World) : (Op.equalIn 10000 26 (.agg #[.int .i64 a, .int .i64 b]) (.agg #[.int .i64 a, .int .i64 b])).run Tryz.prog w = .ok true w := by
  have hS : Tryz.prog.underlying 26 = some (.struct (Tryz.prog.fieldsOf 26)) := by kernel_rfl
  have hp : Tryz.prog.stoodInHeld 26 = false := by kernel_rfl
  rw [show (10000 : Nat) = 9999 + 1 from rfl, run_equalIn_agg w 9999 26 _ _ hS hp]
  simp only [Program.fieldsOf, Tryz.underlying26]
  go_simp
theorem eqRunWhole (a b c : Int) (w : World) : (Op.equalIn 10000 44 (.agg #[.int .i64 a, .int .i64 b, .int .i64 c]) (.agg #[.int .i64 a, .int .i64 b, .int .i64 c])).run Tryz.prog w = .ok true w := by
  have hS : Tryz.prog.underlying 44 = some (.struct (Tryz.prog.fieldsOf 44)) := by kernel_rfl
  have hp : Tryz.prog.stoodInHeld 44 = false := by kernel_rfl
  rw [show (10000 : Nat) = 9999 + 1 from rfl, run_equalIn_agg w 9999 44 _ _ hS hp]
  simp only [Program.fieldsOf, Tryz.underlying44]
  go_simp

end Go.Proofs.YtekmnopgaopmlaaGreatDoor

