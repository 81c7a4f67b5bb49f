/- A number in digits: l01Dec of the model. -/
import Derived.Test.YtibbcafhchoiiaaDoorLv
import Derived.Lib.ItoaMem
set_option maxRecDepth 100000
set_option linter.unusedSimpArgs false
set_option linter.unusedVariables false
namespace Go.Proofs.YtibbcafhchoiiaaDoor
open Go.RowKit

def decP (m : Nat) : List UInt8 := if m = 0 then [] else Lib.decDigits m
theorem decP_step {m : Nat} (h : m ≠ 0) : decP m = decP (m / 10) ++ [UInt8.ofNat (48 + m % 10)] := by
  unfold decP
  rw [if_neg h]
  by_cases h10 : m < 10
  · rw [if_pos (by omega), Lib.decDigits, dif_pos h10, Nat.mod_eq_of_lt h10]
    rfl
  · rw [if_neg (by omega), Lib.decDigits, dif_neg h10]

theorem nDigits_le : ∀ u : Nat, 1 ≤ u → Lib.nDigits u ≤ u := by
  intro u
  induction u using Nat.strongRecOn with
  | ind u ih =>
    intro h
    rw [Lib.nDigits]
    split
    · omega
    · have := ih (u / 10) (by omega) (by omega)
      omega
theorem decP_length (n : Nat) : (decP n).length ≤ n := by
  unfold decP
  split
  · simp
  · rw [Lib.decDigits_length]
    exact nDigits_le n (by omega)
theorem decP_pos {n : Nat} (h : n ≠ 0) : 1 ≤ (decP n).length := by
  rw [decP_step h, List.length_append]
  simp
/-- A byte in a row of its own. -/
theorem ownB_byte {wr : World} (c : Int) (h0 : 0 ≤ c) (h1 : c ≤ 255) : OwnB wr.heap.size (wr.alloc (.cells #[.int .u8 c] 5)) (.slice (some ⟨wr.heap.size, 0, none⟩) 1 1) [UInt8.ofNat c.toNat] := by
  have := World.ownsRow_lit (base := wr.heap.size) (e := 5) (size := 1) wr #[.int .u8 c] 1 (Nat.le_refl _) (by unfold maxLen; omega) rfl
  unfold OwnB
  have e : byteCells [UInt8.ofNat c.toNat] = [.int .u8 c] := by
    simp [byteCells]
    omega
  rw [e]
  exact this

set_option maxHeartbeats 1600000 in
theorem l01Dec_any (n : Nat) (w : World) (hn : n ≤ 9223372036854775807) : Calls Tryd.prog 35 #[.int .i64 n] w fun e w' => e = .returned (.string ⟨(Lib.decDigits n).toArray⟩) ∧ Below w.heap.size w w' := by
  by_cases h0 : n = 0
  · subst h0
    have HD := Lib.hid (show Lib.decDigits 0 = [48] by rw [Lib.decDigits]; rfl)
    go_enter Tryd.func35, Tryd.ntmps35
    go_wp2_with fail
    go_ret
    exact ⟨ret_str (by rw [HD.out]), Below.refl _ _⟩
  have HD := Lib.hid (show decP n = Lib.decDigits n from if_neg h0)
  have hz : ((n : Int) == 0) = false := by simpa using h0
  clear h0
  go_enter Tryd.func35, Tryd.ntmps35
  go_wp2_with fail
  go_loopw [0, 4] (fun q t wr => ∃ (m : Nat) (suf : List UInt8), q = .int .i64 m ∧ m ≤ n ∧ t = .string ⟨suf.toArray⟩ ∧ decP n = decP m ++ suf ∧ Below w.heap.size w wr) (fun q _ _ => (intOf q).toNat)
  case atStart => exact ⟨n, [], rfl, Nat.le_refl _, rfl, by simp, Below.refl _ _⟩
  case round =>
    obtain ⟨m, suf, rfl, hm, rfl, hsuf, hbw⟩ := hrel
    have HS := Lib.hid hsuf
    have HB := Lib.hid hbw
    clear hsuf hbw hz
    by_cases hm0 : m = 0
    · subst hm0
      have HE := Lib.hid (show suf = Lib.decDigits n by rw [← HD.out, HS.out]; rfl)
      go_wp2_with fail
      go_ret
      exact ⟨ret_str (by rw [HE.out]), HB.out⟩
    · obtain ⟨b, hb⟩ : ∃ b : UInt8, b = UInt8.ofNat (48 + m % 10) := ⟨_, rfl⟩
      have HN := Lib.hid (show decP n = decP (m / 10) ++ (b :: suf) by rw [HS.out, decP_step hm0, hb]; simp)
      have hm1 : ((m : Int) != 0) = true := by simpa using hm0
      have hmp : 0 < m := by omega
      have hd : b = UInt8.ofNat (48 + (m : Int) % 10).toNat := by rw [hb]; congr 1
      have hcv := (ownB_byte (wr := wr) (48 + (m : Int) % 10) (by omega) (by omega)).string
      rw [← hd] at hcv
      have hl := decP_length n
      rw [HS.out, List.length_append] at hl
      have hl2 := decP_pos hm0
      have hcat : (⟨#[b]⟩ : ByteArray) ++ ⟨suf.toArray⟩ = ⟨(b :: suf).toArray⟩ := by
        apply ByteArray.ext
        simp
      have hs : ∀ W, (Op.stringOp .add ⟨#[b]⟩ ⟨suf.toArray⟩).run Tryd.prog W = .ok (.string ⟨(b :: suf).toArray⟩) W := fun W => by
        rw [run_string_add_sum W _ _ (by simp [ByteArray.size]; omega), hcat]
      have HBX := Lib.hid (fun o => HB.out.alloc HB.out.size o)
      clear hm0 hd hb hl hl2 hcat
      go_wp2_with fail
      go_roundw
      case rel => exact ⟨m / 10, b :: suf, by go_num, by omega, rfl, HN.out, HBX.out _⟩
      case measure => simp [intOf]; omega

end Go.Proofs.YtibbcafhchoiiaaDoor
