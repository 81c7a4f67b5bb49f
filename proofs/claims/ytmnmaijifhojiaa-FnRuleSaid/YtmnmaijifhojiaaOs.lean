/- Openers of a law's parameters of plain types. -/
import Derived.Test.YtmnmaijifhojiaaSq
import Derived.WalkKit
import Derived.ProofKit
import Derived.OpenShut
import Derived.ShutString
set_option maxRecDepth 100000
namespace Go.Proofs.Ytmnmaijifhojiaa
open Go.ChangeShapes Go.WideShapes Go.ChangeAt Go.RowKit
open Go.ChangeMaps (open_string)

def IsStr (_ : World) (v : Value) : Prop := ∃ s : ByteArray, v = .string s ∧ s.size ≤ maxLen
def IsI64 (_ : World) (v : Value) : Prop := ∃ n : Int, v = .int .i64 n ∧ In64 n
section
variable {H : Type} {enc : TypeId × Value → H} {W : World} {base : Nat} {v : Value} {d : DataW H} {p : List MemPlace}
theorem open_isStr (hv : Value.okWide Try.prog W .any base 9 v) (h : DataW.Trod enc Try.prog W 0 (fun _ => true) true 9 v d p) : IsStr W v := by
  obtain ⟨s, rfl, _, _, w0⟩ := open_string Try.underlying9 hv h
  exact ⟨s, rfl, w0⟩
theorem open_isI64 (hv : Value.okWide Try.prog W .any base 2 v) (h : DataW.Trod enc Try.prog W 0 (fun _ => true) true 2 v d p) : IsI64 W v := by
  obtain ⟨n, rfl, _, _, w0⟩ := open_int Try.underlying2 hv h
  exact ⟨n, rfl, in64_of w0⟩
end
end Go.Proofs.Ytmnmaijifhojiaa
