/-
  The examples of a chapter: evaluated, with the parts.
-/
import Derived.Test.YtdcjmebgcojnmaaQ30knownp7
namespace Go.Proofs.Ytdcjmebgcojnmaa.YtdcjmebgcojnmaaK30known
open Go Go.RowKit Go.Proofs.Ytdcjmebgcojnmaa.Ev Go.Proofs.Ytdcjmebgcojnmaa.Q30known
set_option maxRecDepth 100000
def E : List Fact := [e1, e545, e1216, e3067, e4916, e6815, e8734, e10584]
theorem known : Ev.evalsTo E [] Try.prog 5000 60 24 [] (.bool true) = true := by kernel_rfl
theorem hE {σ : Nat → Value} : ∀ f ∈ E, @Fact.Holds ⟨E, []⟩ Try.prog σ f :=
  Ev.hcons (h1 (fun _ => rfl)) (Ev.hcons (h545 (fun _ => rfl)) (Ev.hcons (h1216 (fun _ => rfl)) (Ev.hcons (h3067 (fun _ => rfl)) (Ev.hcons (h4916 (fun _ => rfl)) (Ev.hcons (h6815 (fun _ => rfl)) (Ev.hcons (h8734 (fun _ => rfl)) (Ev.hcons (h10584 (fun _ => rfl)) (Ev.hnil))))))))
end Go.Proofs.Ytdcjmebgcojnmaa.YtdcjmebgcojnmaaK30known
