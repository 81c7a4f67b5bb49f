/- The line of a word: l02Line of the model. -/
import Derived.Test.YtibbcafhchoiiaaDoorDn
import Derived.Test.YtibbcafhchoiiaaDoorLk
import Derived.Test.YtibbcafhchoiiaaDoorOn
import Derived.Lib.ItoaLen
import Derived.Deep.RegionHeld3
import Derived.Deep.DrawnRows
import Derived.Deep.DeepCutAuto
import Derived.Deep.CutRange
set_option maxRecDepth 100000
set_option linter.unusedSimpArgs false
set_option linter.unusedVariables false
namespace Go.Proofs.YtibbcafhchoiiaaDoor
open Go.RowKit

def decB (n : Int) : List UInt8 := Lib.decDigits n.toNat
/-- The line in three parts. -/
def lineLooks (x : Ins) : List UInt8 := if looksC x.c then [32] ++ decB x.y ++ ([32] ++ decB x.n) else []
def lineK (x : Ins) : List UInt8 := if noKC x.c then [] else [32] ++ decB x.k
def lineB (x : Ins) : List UInt8 := opNameL x.c ++ lineLooks x ++ lineK x
theorem decB_length {n : Int} (h0 : 0 ≤ n) (h1 : n ≤ 9223372036854775807) : (decB n).length ≤ 20 := by
  unfold decB
  rw [Lib.decDigits_length]
  exact Lib.nDigits_le20 _ (by omega)
theorem dec_of {n : Int} (h0 : 0 ≤ n) (h1 : n ≤ 9223372036854775807) (w : World) : Calls Tryd.prog 35 #[.int .i64 n] w fun e w' => e = .returned (.string ⟨(decB n).toArray⟩) ∧ Below w.heap.size w w' := by
  obtain ⟨m, rfl⟩ := Int.eq_ofNat_of_zero_le h0
  have := l01Dec_any m w (by omega)
  unfold decB
  simpa using this
theorem opNameL_length (c : Int) : (opNameL c).length ≤ 6 := by
  have key : ∀ (l : List (Int × List UInt8)), (∀ p ∈ l, p.2.length ≤ 6) → (opFind l c).length ≤ 6 := by
    intro l
    induction l with
    | nil => intro _; simp [opFind]
    | cons p l ih =>
      intro h
      simp only [opFind]
      split
      · exact h p (by simp)
      · exact ih fun q hq => h q (by simp [hq])
  exact key _ (by decide)

set_option maxHeartbeats 3200000 in
theorem l02Line_any (x : Ins) (w : World) (hr : insRight x = true) : Calls Tryd.prog 17 #[.agg #[.int .i64 x.c, .int .i64 x.y, .int .i64 x.n, .int .i64 x.k]] w fun e w' => e = .returned (.string ⟨(lineB x).toArray⟩) ∧ Below w.heap.size w w' := by
  unfold insRight isB at hr
  simp only [Bool.and_eq_true, decide_eq_true_eq] at hr
  obtain ⟨⟨⟨hc, hy⟩, hn⟩, hk⟩ := hr
  obtain ⟨xc, xy, xn, xk⟩ := x
  simp only at hc hy hn hk ⊢
  have qo := fun W => specOpName_any xc W
  have ql := fun W => l02Looks_any xc W
  have qk := fun W => l02HasK_any xc W
  have qy := fun W => dec_of hy.1 (by omega) W
  have qn := fun W => dec_of hn.1 (by omega) W
  have qkk := fun W => dec_of hk.1 (by omega) W
  obtain ⟨A0, hA0⟩ : ∃ A : ByteArray, A = opNameOf xc := ⟨_, rfl⟩
  obtain ⟨Dy, hDy⟩ : ∃ A : ByteArray, A = ⟨(decB xy).toArray⟩ := ⟨_, rfl⟩
  obtain ⟨Dn, hDn⟩ : ∃ A : ByteArray, A = ⟨(decB xn).toArray⟩ := ⟨_, rfl⟩
  obtain ⟨Dk, hDk⟩ : ∃ A : ByteArray, A = ⟨(decB xk).toArray⟩ := ⟨_, rfl⟩
  have z0 : A0.size ≤ 6 := by rw [hA0]; exact opNameL_length xc
  have zy : Dy.size ≤ 20 := by rw [hDy]; exact decB_length hy.1 (by omega)
  have zn : Dn.size ≤ 20 := by rw [hDn]; exact decB_length hn.1 (by omega)
  have zk : Dk.size ≤ 20 := by rw [hDk]; exact decB_length hk.1 (by omega)
  have hT0 : (A0.data.toList) = opNameL xc := by rw [hA0]; rfl
  have hTy : (Dy.data.toList) = decB xy := by rw [hDy]
  have hTn : (Dn.data.toList) = decB xn := by rw [hDn]
  have hTk : (Dk.data.toList) = decB xk := by rw [hDk]
  rw [← hA0] at qo
  rw [← hDy] at qy
  rw [← hDn] at qn
  rw [← hDk] at qkk
  clear hA0 hDy hDn hDk
  obtain ⟨S, hS⟩ : ∃ S : ByteArray, S = ⟨#[32]⟩ := ⟨_, rfl⟩
  have zS : S.size = 1 := by rw [hS]; rfl
  have hTS : S.data.toList = [32] := by rw [hS]
  obtain ⟨A1, hA1⟩ : ∃ A : ByteArray, A = if looksC xc then A0 ++ S ++ Dy ++ S ++ Dn else A0 := ⟨_, rfl⟩
  obtain ⟨A2, hA2⟩ : ∃ A : ByteArray, A = if noKC xc then A1 else A1 ++ S ++ Dk := ⟨_, rfl⟩
  have HE := Lib.hid (show A2 = ⟨(lineB ⟨xc, xy, xn, xk⟩).toArray⟩ by
    apply ByteArray.ext
    apply Array.toList_inj.1
    rw [hA2]
    unfold lineB lineLooks lineK
    cases h1 : looksC xc <;> cases h2 : noKC xc <;> rw [h1] at hA1 <;> simp at hA1 <;> simp [hA1, ByteArray.data_append, hT0, hTy, hTn, hTk, hTS])
  have z1 : A1.size ≤ 48 := by
    rw [hA1]
    split
    · simp only [ByteArray.size_append]; omega
    · omega
  have QO := Lib.hid qo
  have QL := Lib.hid ql
  have QK := Lib.hid qk
  have QY := Lib.hid qy
  have QN := Lib.hid qn
  have QKK := Lib.hid qkk
  have s1 : ∀ W, (Op.stringOp .add A0 ⟨#[32]⟩).run Tryd.prog W = .ok (.string (A0 ++ S)) W := fun W => by rw [← hS]; exact run_string_add_sum W _ _ (by omega)
  have s2 : ∀ W, (Op.stringOp .add (A0 ++ S) Dy).run Tryd.prog W = .ok (.string (A0 ++ S ++ Dy)) W := fun W => run_string_add_sum W _ _ (by simp only [ByteArray.size_append]; omega)
  have s3 : ∀ W, (Op.stringOp .add (A0 ++ S ++ Dy) ⟨#[32]⟩).run Tryd.prog W = .ok (.string (A0 ++ S ++ Dy ++ S)) W := fun W => by rw [← hS]; exact run_string_add_sum W _ _ (by simp only [ByteArray.size_append]; omega)
  have s4 : ∀ W, (Op.stringOp .add (A0 ++ S ++ Dy ++ S) Dn).run Tryd.prog W = .ok (.string (A0 ++ S ++ Dy ++ S ++ Dn)) W := fun W => run_string_add_sum W _ _ (by simp only [ByteArray.size_append]; omega)
  have s5 : ∀ W, (Op.stringOp .add A1 ⟨#[32]⟩).run Tryd.prog W = .ok (.string (A1 ++ S)) W := fun W => by rw [← hS]; exact run_string_add_sum W _ _ (by omega)
  have s6 : ∀ W, (Op.stringOp .add (A1 ++ S) Dk).run Tryd.prog W = .ok (.string (A1 ++ S ++ Dk)) W := fun W => run_string_add_sum W _ _ (by simp only [ByteArray.size_append]; omega)
  have HA1 := Lib.hid hA1
  have HA2 := Lib.hid hA2
  clear qo ql qk qy qn qkk hA1 hA2 hS hT0 hTy hTn hTk hTS zS
  go_enter Tryd.func17, Tryd.ntmps17
  go_wp2_with fail
  refine (QO.out _).mono ?_
  rintro e w1 ⟨rfl, hb1⟩
  have d0 := box_cell hb1 0
  have d1 := box_cell hb1 1
  have d2 := box_cell hb1 2
  have d3 := box_cell hb1 3
  simp only [List.getElem?_toArray, List.getElem?_cons_zero, List.getElem?_cons_succ] at d0 d1 d2 d3
  have HB1 := Lib.hid hb1
  clear hb1
  go_wp2_with fail
  refine (QL.out _).mono ?_
  rintro e w2 ⟨rfl, rfl⟩
  go_upto_if 9 with fail
  go_cut [3] from 9 to 20 (fun s ws => s = .string A1 ∧ Below (w.alloc (.cells #[.int .i64 xc, .int .i64 xy, .int .i64 xn, .int .i64 xk] 39)).heap.size (w.alloc (.cells #[.int .i64 xc, .int .i64 xy, .int .i64 xn, .int .i64 xk] 39)) ws)
  case first =>
    cases hl : looksC xc with
    | false =>
      have HX := Lib.hid (HA1.out.trans (by rw [hl]; rfl) : A1 = A0)
      clear hl
      go_wp2_with fail
      go_meet
      exact ⟨congrArg Value.string HX.out.symm, HB1.out⟩
    | true =>
      have HX := Lib.hid (HA1.out.trans (by rw [hl]; rfl) : A1 = A0 ++ S ++ Dy ++ S ++ Dn)
      clear hl
      have hkeep : ∀ w' : World, Below (w.alloc (.cells #[.int .i64 xc, .int .i64 xy, .int .i64 xn, .int .i64 xk] 39)).heap.size (w.alloc (.cells #[.int .i64 xc, .int .i64 xy, .int .i64 xn, .int .i64 xk] 39)) w' → (w'.cell? ⟨w.heap.size, 1, none⟩ = some (.int .i64 xy) ∧ w'.cell? ⟨w.heap.size, 2, none⟩ = some (.int .i64 xn)) := fun w' hb' => ⟨box_cell hb' 1, box_cell hb' 2⟩
      have HKP := Lib.hid hkeep
      have hbw1 := HB1.out.drew
      clear hkeep
      go_wp2_with fail
      go_region_held3 (fun w' => w'.cell? ⟨w.heap.size, 1, none⟩ = some (.int .i64 xy) ∧ w'.cell? ⟨w.heap.size, 2, none⟩ = some (.int .i64 xn))
        (first | go_keep | exact HKP.out _ hbw3 | exact HKP.out _ hbw2 | exact HKP.out _ hbw1)
        (first
          | (go_at_call 35; (with_reducible refine (QY.out _).mono ?_); rintro e w2 ⟨rfl, hb2⟩; have hbw2 := hbw1.trans (hb2.mono hbw1.size))
          | (go_at_call 35; (with_reducible refine (QN.out _).mono ?_); rintro e w3 ⟨rfl, hb3⟩; have hbw3 := hbw2.trans (hb3.mono hbw2.size)))
      all_goals
        go_wp2_with fail
        go_meet
        exact ⟨congrArg Value.string HX.out.symm, hbw3⟩
  case rest =>
  obtain ⟨rfl, hbc⟩ := hcut
  have d0 := box_cell hbc 0
  have d3 := box_cell hbc 3
  simp only [List.getElem?_toArray, List.getElem?_cons_zero, List.getElem?_cons_succ] at d0 d3
  have HBC := Lib.hid hbc
  clear hbc
  go_wp2_with fail
  refine (QK.out _).mono ?_
  rintro e w3 ⟨rfl, rfl⟩
  cases hk2 : noKC xc with
  | true =>
    have HX := Lib.hid (HA2.out.trans (by rw [hk2]; rfl) : A2 = A1)
    clear hk2
    go_wp2_with fail
    go_ret
    exact ⟨ret_str (by rw [← HE.out, HX.out]), box_below HBC.out⟩
  | false =>
    have HX := Lib.hid (HA2.out.trans (by rw [hk2]; rfl) : A2 = A1 ++ S ++ Dk)
    clear hk2
    go_wp2_with fail
    refine (QKK.out _).mono ?_
    rintro e w4 ⟨rfl, hb4⟩
    have HB4 := Lib.hid ((box_below HBC.out).trans (hb4.mono (box_below HBC.out).size))
    clear hb4
    go_wp2_with fail
    go_ret
    exact ⟨ret_str (by rw [← HE.out, HX.out]), HB4.out⟩

end Go.Proofs.YtibbcafhchoiiaaDoor
