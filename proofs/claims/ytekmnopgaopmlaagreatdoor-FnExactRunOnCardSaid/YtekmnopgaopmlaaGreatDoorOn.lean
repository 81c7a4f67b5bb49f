/- The machine's codes and their words: the model's tables walked. -/
import Derived.Test.YtekmnopgaopmlaaGreatDoorSq
import Derived.Lib.Strings
set_option maxRecDepth 100000
namespace Go.Proofs.YtekmnopgaopmlaaGreatDoor
open Go.RowKit

/-- The codes, and their words. -/
def opCodesL : List Int := [32, 0, 1, 96, 97, 2, 3, 4, 20, 36, 52, 68, 84, 100, 116, 132, 164, 12, 28, 92, 76, 5, 21, 37, 53, 69, 29, 45, 61, 77, 6, 22, 7, 135]
def opNamesL : List (List UInt8) := [[108, 111, 97, 100], [105, 109, 109], [105, 109, 109, 120], [109, 101, 109], [109, 101, 109, 120], [115, 116, 111, 114, 101], [115, 116, 111, 114, 101, 120], [97, 100, 100], [115, 117, 98], [109, 117, 108], [100, 105, 118], [111, 114], [97, 110, 100], [108, 101, 102, 116], [114, 105, 103, 104, 116], [110, 101, 103], [120, 111, 114], [97, 100, 100, 120], [115, 117, 98, 120], [97, 110, 100, 120], [111, 114, 120], [106, 117, 109, 112], [101, 113], [103, 116], [103, 101], [115, 101, 116], [101, 113, 120], [103, 116, 120], [103, 101, 120], [115, 101, 116, 120], [114, 101, 116], [114, 101, 116, 97], [116, 97, 120], [116, 120, 97]]
def opFind : List (Int × List UInt8) → Int → List UInt8
  | [], _ => []
  | p :: l, c => if p.1 = c then p.2 else opFind l c
def opNameL (c : Int) : List UInt8 := opFind (opCodesL.zip opNamesL) c
def opNameOf (c : Int) : ByteArray := ⟨(opNameL c).toArray⟩
/-- Is it a code? -/
def isOp (c : Int) : Bool := opCodesL.contains c

theorem opFind_hit : ∀ (cs : List Int) (ns : List (List UInt8)) (c : Int) (k : Nat) (hk : k < cs.length) (hn : k < ns.length), (∀ j (hj : j < k), cs[j]'(by omega) ≠ c) → cs[k] = c → opFind (cs.zip ns) c = ns[k]
  | [], _, _, _, hk, _, _, _ => by simp at hk
  | _ :: _, [], _, _, _, hn, _, _ => by simp at hn
  | a :: cs, n :: ns, c, 0, _, _, _, he => by
    simp only [List.getElem_cons_zero] at he
    simp [opFind, he]
  | a :: cs, n :: ns, c, k + 1, hk, hn, hne, he => by
    have h0 := hne 0 (by omega)
    simp only [List.getElem_cons_zero] at h0
    simp only [List.zip_cons_cons, opFind, if_neg h0, List.getElem_cons_succ]
    simp only [List.getElem_cons_succ] at he
    exact opFind_hit cs ns c k (by simpa using hk) (by simpa using hn) (fun j hj => by have := hne (j + 1) (by omega); simpa using this) he
theorem opFind_miss : ∀ (l : List (Int × List UInt8)) (c : Int), (∀ p ∈ l, p.1 ≠ c) → opFind l c = []
  | [], _, _ => rfl
  | p :: l, c, h => by simp only [opFind, if_neg (h p (by simp))]; exact opFind_miss l c fun q hq => h q (by simp [hq])
theorem opName_hit {c : Int} {k : Nat} (hk : k < 34) (hne : ∀ j (hj : j < k), opCodesL[j]'(by show j < 34; omega) ≠ c) (he : opCodesL[k]'(by exact hk) = c) : opNameL c = opNamesL[k]'(by exact hk) :=
  opFind_hit opCodesL opNamesL c k hk hk hne he
theorem opName_miss {c : Int} (h : ∀ j (hj : j < 34), opCodesL[j]'(by exact hj) ≠ c) : opNameL c = [] :=
  opFind_miss _ c fun p hp => by
    obtain ⟨a, b⟩ := p
    have := List.of_mem_zip hp
    obtain ⟨i, hi, e⟩ := List.getElem_of_mem this.1
    rw [← e]
    exact h i hi

theorem isOp_empty (c : Int) : (opNameOf c).toList.isEmpty = !isOp c := by
  have key : ∀ (cs : List Int) (ns : List (List UInt8)), cs.length = ns.length → (∀ n ∈ ns, n ≠ []) → ((opFind (cs.zip ns) c).isEmpty = !cs.contains c) := by
    intro cs
    induction cs with
    | nil => intro ns _ _; simp [opFind]
    | cons a cs ih =>
      intro ns hl hn
      cases ns with
      | nil => simp at hl
      | cons m ns =>
        simp only [List.zip_cons_cons, opFind]
        by_cases h : a = c
        · rw [if_pos h]
          have := hn m (by simp)
          cases m with
          | nil => exact absurd rfl this
          | cons b m => simp [h]
        · rw [if_neg h, ih ns (by simpa using hl) (fun n hn' => hn n (by simp [hn']))]
          have h' : ¬ c = a := fun e => h e.symm
          simp [h']
  have := key opCodesL opNamesL rfl (by decide)
  rw [Lib.toList_data]
  unfold opNameOf opNameL isOp
  simpa using this

theorem l02Ops_any (w : World) : Calls Tryz.prog 65 #[] w fun e w' => ∃ b1 b2, e = .returned (.tuple #[.slice (some ⟨b1, 0, none⟩) 34 34, .slice (some ⟨b2, 0, none⟩) 34 34]) ∧
    (∀ j (hj : j < 34), w'.cell? ⟨b1, j, none⟩ = some (.string ⟨(opNamesL[j]'(by exact hj)).toArray⟩)) ∧ (∀ j (hj : j < 34), w'.cell? ⟨b2, j, none⟩ = some (.int .i64 (opCodesL[j]'(by exact hj)))) ∧ Below w.heap.size w w' := by
  go_enter Tryz.func65, Tryz.ntmps65
  go_wp2
  go_ret2
  refine ⟨_, _, rfl, ?_, ?_, ?_⟩
  · intro j hj
    rw [World.cell?_alloc_past _ _ _ (by simp), World.cell?_alloc_at _ _ _ _ rfl]
    show ((opNamesL.map fun n => Value.string ⟨n.toArray⟩).toArray)[j]? = _
    have h : j < opNamesL.length := hj
    simp [h]
    rfl
  · intro j hj
    rw [World.cell?_alloc_at _ _ _ _ (by simp)]
    show ((opCodesL.map fun n => Value.int .i64 n).toArray)[j]? = _
    have h : j < opCodesL.length := hj
    simp [h]
    rfl
  · exact ((Below.refl _ _).alloc (Nat.le_refl _) _).alloc (by simp) _

set_option maxHeartbeats 400000 in
theorem specOpName_any (c : Int) (w : World) : Calls Tryz.prog 77 #[.int .i64 c] w fun e w' => e = .returned (.string (opNameOf c)) ∧ Below w.heap.size w w' := by
  go_enter Tryz.func77, Tryz.ntmps77
  go_wp2_with fail
  refine (l02Ops_any _).mono ?_
  rintro e w1 ⟨b1, b2, rfl, hn, hc, hb⟩
  have HN := Lib.hid hn
  have HC := Lib.hid hc
  have HB := Lib.hid hb
  clear hn hc hb
  go_wp2_with fail
  go_loop [5] (fun i => ∃ k : Nat, k ≤ 34 ∧ i = .int .i64 k ∧ ∀ j (hj : j < 34), j < k → opCodesL[j]'(by exact hj) ≠ c) (fun i => 34 - (intOf i).toNat)
  case atStart => exact ⟨0, by omega, rfl, fun j hj h => by omega⟩
  case round =>
    obtain ⟨k, hk, rfl, hne⟩ := hrel
    have HNE := Lib.hid hne
    clear hne
    by_cases hlt : k < 34
    · have c1 := HN.out k hlt
      have c2 := HC.out k hlt
      by_cases he : opCodesL[k]'(by exact hlt) = c
      · have hq : (opCodesL[k]'(by exact hlt) == c) = true := by simpa using he
        have hr := Lib.hid (opName_hit hlt (fun j hj => HNE.out j (by omega) hj) he)
        go_wp2_with fail
        go_ret
        exact ⟨ret_str (by unfold opNameOf; rw [hr.out]), HB.out⟩
      · have hq : (opCodesL[k]'(by exact hlt) == c) = false := by simpa using he
        go_wp2_with fail
        go_round
        case rel => exact ⟨k + 1, by omega, by go_num, fun j hj h => by
          rcases Nat.lt_or_ge j k with h' | h'
          · exact HNE.out j hj h'
          · obtain rfl : j = k := by omega
            exact he⟩
        case measure => simp [intOf]; omega
    · have hr := Lib.hid (opName_miss (c := c) fun j hj => HNE.out j hj (by omega))
      go_wp2_with fail
      go_ret
      exact ⟨ret_str (by unfold opNameOf; rw [hr.out]), HB.out⟩

/-- The code of a word, -1 without one. -/
def ofFind : List (List UInt8 × Int) → List UInt8 → Int
  | [], _ => -1
  | p :: l, n => if p.1 = n then p.2 else ofFind l n
def opOf (t : ByteArray) : Int := ofFind (opNamesL.zip opCodesL) t.data.toList

theorem ofFind_hit : ∀ (ns : List (List UInt8)) (cs : List Int) (n : List UInt8) (k : Nat) (hk : k < ns.length) (hn : k < cs.length), (∀ j (hj : j < k), ns[j]'(by omega) ≠ n) → ns[k] = n → ofFind (ns.zip cs) n = cs[k]
  | [], _, _, _, hk, _, _, _ => by simp at hk
  | _ :: _, [], _, _, _, hn, _, _ => by simp at hn
  | a :: ns, c :: cs, n, 0, _, _, _, he => by
    simp only [List.getElem_cons_zero] at he
    simp [ofFind, he]
  | a :: ns, c :: cs, n, k + 1, hk, hn, hne, he => by
    have h0 := hne 0 (by omega)
    simp only [List.getElem_cons_zero] at h0
    simp only [List.zip_cons_cons, ofFind, if_neg h0, List.getElem_cons_succ]
    simp only [List.getElem_cons_succ] at he
    exact ofFind_hit ns cs n k (by simpa using hk) (by simpa using hn) (fun j hj => by have := hne (j + 1) (by omega); simpa using this) he
theorem ofFind_miss : ∀ (l : List (List UInt8 × Int)) (n : List UInt8), (∀ p ∈ l, p.1 ≠ n) → ofFind l n = -1
  | [], _, _ => rfl
  | p :: l, n, h => by simp only [ofFind, if_neg (h p (by simp))]; exact ofFind_miss l n fun q hq => h q (by simp [hq])
theorem opOf_hit {t : ByteArray} {k : Nat} (hk : k < 34) (hne : ∀ j (hj : j < k), opNamesL[j]'(by show j < 34; omega) ≠ t.data.toList) (he : opNamesL[k]'(by exact hk) = t.data.toList) : opOf t = opCodesL[k]'(by exact hk) :=
  ofFind_hit opNamesL opCodesL _ k hk hk hne he
theorem opOf_miss {t : ByteArray} (h : ∀ j (hj : j < 34), opNamesL[j]'(by exact hj) ≠ t.data.toList) : opOf t = -1 :=
  ofFind_miss _ _ fun p hp => by
    obtain ⟨a, b⟩ := p
    have := List.of_mem_zip hp
    obtain ⟨i, hi, e⟩ := List.getElem_of_mem this.1
    rw [← e]
    exact h i hi
theorem name_eq {l : List UInt8} {t : ByteArray} : (⟨l.toArray⟩ : ByteArray) = t ↔ l = t.data.toList := by
  constructor
  · rintro rfl; simp
  · rintro rfl; simp

end Go.Proofs.YtekmnopgaopmlaaGreatDoor
