/- DeduceMore, as the frame asks for it. -/
import Derived.Test.YtboofkmbjmnpeaaG11
import Derived.Test.YtboofkmbjmnpeaaDLMoreM
namespace Go.Proofs.Ytboofkmbjmnpeaa
open Go Go.RowKit
theorem lmore_walk (w : World) (A : Option Addr) (c : Nat) (ds : List DoV) (hl : ds.length ≤ 9223372036854775807) (hA : DoRow w.heap.size w A ds)
    (B : Option Addr) (d : Nat) (gs : List Int) (h1 : gs.length ≤ d) (h2 : d ≤ maxLen) (_ : ∀ x ∈ gs, (Lit.int .i64 x).wf = true) (hB : Nums w .i64 B gs)
    (B2 : Option Addr) (d2 : Nat) (hs : List Int) (h3 : hs.length ≤ d2) (h4 : d2 ≤ maxLen) (_ : ∀ x ∈ hs, (Lit.int .i64 x).wf = true) (hB2 : Nums w .i64 B2 hs) :
    Calls Try.prog 4 #[.slice A ds.length c, .slice B gs.length d, .slice B2 hs.length d2] w fun e w' => e = .returned (.bool true) ∧ Below w.heap.size w w' :=
  have h5 : maxLen ≤ 9223372036854775807 := (by decide)
  lmore_any ds.length c A ds B gs.length d gs B2 hs.length d2 hs w rfl hl hA rfl (by omega) hB rfl (by omega) hB2
end Go.Proofs.Ytboofkmbjmnpeaa
