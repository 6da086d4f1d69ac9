/- The three laws of poly, as their proofs' frames ask for them. -/
import Derived.Test.YthohfhloobmlpaaPNumbers
import Derived.Test.YthohfhloobmlpaaPTags
import Derived.Test.YthohfhloobmlpaaPLaws
namespace Go.Proofs.Ythohfhloobmlpaa
open Go Go.RowKit

theorem polyNumbers_walk (W : World) (a : List Int) (la : a.length = 17) (wa : ∀ x ∈ a, (Lit.int .u8 x).wf = true) (b : List Int) (lb : b.length = 17) (wb : ∀ x ∈ b, (Lit.int .u8 x).wf = true)
    (A : Option Addr) (c : Nat) (xs : List Int) (_ : xs.length ≤ c) (_ : c ≤ maxLen) (wx : ∀ x ∈ xs, (Lit.int .u8 x).wf = true) (hA : Nums W .u8 A xs) :
    Calls Try.prog 3 #[.agg (ints .u8 a).toArray, .agg (ints .u8 b).toArray, .slice A xs.length c] W fun e w' => e = .returned (.bool true) ∧ Below W.heap.size W w' :=
  numbers_any a b xs A c W la lb (byt_of_wf wa) (byt_of_wf wb) (byt_of_wf wx) hA
theorem polyTags_walk (W : World) (key : List Int) (lk : key.length = 32) (wk : ∀ x ∈ key, (Lit.int .u8 x).wf = true)
    (A : Option Addr) (c : Nat) (xs : List Int) (hc : xs.length ≤ c) (_ : c ≤ maxLen) (wx : ∀ x ∈ xs, (Lit.int .u8 x).wf = true) (hA : Nums W .u8 A xs) (y : Int) (wy : (Lit.int .u16 y).wf = true) :
    Calls Try.prog 4 #[.agg (ints .u8 key).toArray, .slice A xs.length c, .int .u16 y] W fun e w' => e = .returned (.bool true) ∧ Below W.heap.size W w' := by
  have h : 0 ≤ y ∧ y < 65536 := by
    simp [Lit.wf, IntKind.min, IntKind.max, IntKind.bits, IntKind.signed] at wy
    omega
  exact tags_any key xs A c y W lk (byt_of_wf wk) (byt_of_wf wx) hc h hA
theorem polyLaws_walk (W : World) (a : List Int) (la : a.length = 17) (wa : ∀ x ∈ a, (Lit.int .u8 x).wf = true) (b : List Int) (lb : b.length = 17) (wb : ∀ x ∈ b, (Lit.int .u8 x).wf = true) (c : List Int) (lc : c.length = 17) (wc : ∀ x ∈ c, (Lit.int .u8 x).wf = true) :
    Calls Try.prog 5 #[.agg (ints .u8 a).toArray, .agg (ints .u8 b).toArray, .agg (ints .u8 c).toArray] W fun e w' => e = .returned (.bool true) ∧ Below W.heap.size W w' :=
  laws_any W la lb lc (byt_of_wf wa) (byt_of_wf wb) (byt_of_wf wc)
end Go.Proofs.Ythohfhloobmlpaa
