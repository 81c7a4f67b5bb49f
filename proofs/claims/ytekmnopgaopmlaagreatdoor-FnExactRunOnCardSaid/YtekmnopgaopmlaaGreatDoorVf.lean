/- The program's run: word by word. -/
import Derived.Test.YtekmnopgaopmlaaGreatDoorVe
import Derived.Deep.LoopGhost
set_option maxRecDepth 100000
set_option linter.unusedSimpArgs false
set_option linter.unusedVariables false
namespace Go.Proofs.YtekmnopgaopmlaaGreatDoor
open Go.RowKit

/-- What holds at the head of the run's loop. -/
def Head (l : List Ins) (b : ByteArray) (ans : Ans) (g : Nat) (z : Mx) : Prop :=
  (z.done = false ∧ ∃ (k st : Nat) (m : Mc), z.pc = k ∧ z.st = st ∧ z.ret = 0 ∧ k ≤ 5000000000 ∧ l.length ≤ k + g ∧ st + g = l.length ∧ m.ok ∧ Rel z m ∧ ans = runM l b (g + 1) k m st) ∨
  (z.done = true ∧ ans.code = 0 ∧ z.ret = ans.ret ∧ z.st = ans.steps)
/-- What holds behind a word. -/
def After (l : List Ins) (b : ByteArray) (ans : Ans) (g : Nat) (z : Mx) (cd : Int) : Prop :=
  (cd ≠ 0 ∧ ans.code = cd ∧ z.ret = ans.ret ∧ z.st = ans.steps) ∨ (cd = 0 ∧ Head l b ans g z)
def StepPost (l : List Ins) (b : ByteArray) (ans : Ans) (g : Nat) (M : Nat) (w : World) (e : Ending) (w' : World) : Prop := ∃ z' cd, PPost b z' cd M w e w' ∧ After l b ans g z' cd

theorem step_all (l : List Ins) (b : ByteArray) (ans : Ans) (g k st : Nat) (m : Mc) (z : Mx) (x : Ins) (M K : Nat) (w : World) (hb : b.size ≤ maxLen) (hlen : l.length ≤ 400) (hx : l[k]? = some x) (hr : insRight x = true)
    (hd : z.done = false) (hpc : z.pc = k) (hst : z.st = st) (hret : z.ret = 0) (hkg : l.length ≤ k + (g + 1)) (hsg : st + (g + 1) = l.length) (hok : m.ok) (r : Rel z m) (ha : ans = runM l b (g + 1 + 1) k m st)
    (ho : isOp x.c = true) (hf : fnOf x.c = some K) (h : PAt w M b { z with pc := z.pc + 1, st := z.st + 1 }) :
    Calls Tryz.prog K #[.pointer (some ⟨M, 0, none⟩), .agg #[.int .i64 x.c, .int .i64 x.y, .int .i64 x.n, .int .i64 x.k]] w (StepPost l b ans g M w) := by
  have hlt : k < l.length := (List.getElem?_eq_some_iff.1 hx).1
  obtain ⟨hk, hy, hn⟩ := ins_bd32 hr
  have r' : Rel { z with pc := z.pc + 1, st := z.st + 1 } m := ⟨r.a, r.x, r.held, r.msk⟩
  obtain ⟨c, y, n, kk⟩ := x
  simp only at hk hy hn ho hf ⊢
  have hk' := hk
  unfold In32 at hk'
  by_cases h6 : c = 6
  · subst h6
    obtain rfl : 117 = K := by simpa [fnOf] using hf
    refine (p_EndK b _ 6 y n kk M w h hk).mono fun e w' hp => ⟨_, 0, hp, .inr ⟨rfl, .inr ?_⟩⟩
    rw [ha, runM_ret hx rfl]
    exact ⟨rfl, rfl, rfl, by simp [hst]⟩
  by_cases h22 : c = 22
  · subst h22
    obtain rfl : 118 = K := by simpa [fnOf] using hf
    refine (p_EndA b _ 22 y n kk M w h hk).mono fun e w' hp => ⟨_, 0, hp, .inr ⟨rfl, .inr ?_⟩⟩
    rw [ha, runM_retA hx rfl]
    exact ⟨rfl, rfl, r.a, by simp [hst]⟩
  by_cases h5 : c = 5
  · subst h5
    obtain rfl : 112 = K := by simpa [fnOf] using hf
    refine (p_Jump b _ 5 y n kk M w h hk (by simp only [hpc]; omega)).mono fun e w' hp => ⟨_, 0, hp, .inr ⟨rfl, .inl ⟨hd, k + kk.toNat + 1, st + 1, m, ?_, ?_, hret, by omega, by omega, by omega, hok, ⟨r.a, r.x, r.held, r.msk⟩, ?_⟩⟩⟩
    · simp only [hpc]; omega
    · simp [hst]
    · rw [ha, runM_jump hx rfl]
  cases hl : looksC c
  · refine (do_step b _ m c y n kk M K w h r' hok hk hb ho h5 h6 h22 hl hf).mono fun e w' hp => ?_
    obtain ⟨z', hp, hrel, e1, e2, e3, e4⟩ := hp
    refine ⟨z', _, hp, ?_⟩
    by_cases hz : (doM b m ⟨c, y, n, kk⟩).2 = 0
    · refine .inr ⟨hz, .inl ⟨e4.trans hd, k + 1, st + 1, _, ?_, ?_, e3.trans hret, by omega, by omega, by omega, doM_ok hok hk, hrel hz, ?_⟩⟩
      · rw [e1]; simp [hpc]
      · rw [e2]; simp [hst]
      · rw [ha, runM_do hx ho h5 h6 h22 hl hz]
    · refine .inl ⟨hz, ?_, ?_, ?_⟩ <;> rw [ha, runM_err hx ho h5 h6 h22 hl hz]
      · rw [e3]; exact hret
      · rw [e2]; simp [hst]
  · refine (look_step b _ m c y n kk M K w h r' hok hk hy hn (by simp only [hpc]; omega) hl hf).mono fun e w' hp => ⟨_, 0, hp, .inr ⟨rfl, .inl ⟨hd, k + (if lookM m ⟨c, y, n, kk⟩ then y else n).toNat + 1, st + 1, m, ?_, ?_, hret, ?_, ?_, by omega, hok, ⟨r.a, r.x, r.held, r.msk⟩, ?_⟩⟩⟩
    · simp only [hpc]; split <;> omega
    · simp [hst]
    · split <;> omega
    · omega
    · rw [ha, runM_look hx ho h5 h6 h22 hl]

end Go.Proofs.YtekmnopgaopmlaaGreatDoor
