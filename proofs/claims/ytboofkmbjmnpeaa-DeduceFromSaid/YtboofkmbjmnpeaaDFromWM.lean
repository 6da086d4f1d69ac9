/- DeduceFrom, as the frame asks for it. -/
import Derived.Test.YtboofkmbjmnpeaaG11
import Derived.Test.YtboofkmbjmnpeaaDLFromM
namespace Go.Proofs.Ytboofkmbjmnpeaa
open Go Go.RowKit
theorem lfrom_walk (w : World) (A : Option Addr) (c : Nat) (ds : List DoV) (hl : ds.length ≤ 9223372036854775807) (hA : DoRow w.heap.size w A ds)
    (B : Option Addr) (d : Nat) (gs : List Int) (h1 : gs.length ≤ d) (h2 : d ≤ maxLen) (_ : ∀ x ∈ gs, (Lit.int .i64 x).wf = true) (hB : Nums w .i64 B gs) :
    Calls Try.prog 3 #[.slice A ds.length c, .slice B gs.length d] w fun e w' => e = .returned (.bool true) ∧ Below w.heap.size w w' :=
  lfrom_any ds.length c A ds B gs.length d gs w rfl hl hA rfl (by have h3 : maxLen ≤ 9223372036854775807 := (by decide); omega) hB
end Go.Proofs.Ytboofkmbjmnpeaa
