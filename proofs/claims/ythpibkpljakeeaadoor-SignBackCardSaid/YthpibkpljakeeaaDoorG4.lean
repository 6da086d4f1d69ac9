/- Texts of this proof, laid together: RefA, RefB, ModMath, RMod, RefC, RefD, RefE. -/
import Derived.Test.YthpibkpljakeeaaDoorG1
import Derived.Test.YthpibkpljakeeaaDoorApp
import Derived.Test.YthpibkpljakeeaaDoorDigMath
import Derived.Laws.OwnMore
import Derived.Test.YthpibkpljakeeaaDoorG3
/- The reference's prime, comparison and difference. -/
namespace Go.Proofs.YthpibkpljakeeaaDoor
open Go.RowKit

def PD : List Nat := 65517 :: (List.replicate 14 65535 ++ [32767])
theorem drop_step {l : List Nat} {i : Nat} (h : i < l.length) : l.drop i = l.getD i 0 :: l.drop (i + 1) := by
  rw [List.drop_eq_getElem_cons h]
  simp [h]
theorem dv_cut {l : List Nat} {i : Nat} (h : i < l.length) : dv l = dv (l.take i) + 65536 ^ i * (l.getD i 0 + 65536 * dv (l.drop (i + 1))) := by
  rw [dv_split l i (by omega), drop_step h, dv]
theorem Nums.num {w : World} {k : IntKind} {A : Option Addr} {xs : List Int} (h : Nums w k A xs) (hp : 0 < xs.length) : ∃ g o, A = some ⟨g, o, none⟩ ∧ g < w.heap.size ∧ ∀ (i : Nat) x, xs[i]? = some x → w.cell? ⟨g, o + i, none⟩ = some (.int k x) := by
  obtain ⟨b, off, e, hlt, hc⟩ := h hp
  refine ⟨b, off, e, hlt, fun i x hx => ?_⟩
  obtain ⟨hi, hxe⟩ := List.getElem?_eq_some_iff.1 hx
  rw [hc i hi]
  simp [List.getD, hx]
/-- The same world behind some draws. -/
def Drawn (w w' : World) : Prop := ∃ n, w' = w.drewN n
end Go.Proofs.YthpibkpljakeeaaDoor

/- The reference's difference. -/
namespace Go.Proofs.YthpibkpljakeeaaDoor
open Go.RowKit
/-- What has been taken away, digit by digit. -/
def LessI (l m ys : List Nat) (bo k : Nat) : Prop := ys.length = k ∧ Digs ys ∧ bo ≤ 1 ∧ dv ys + dv (m.take k) = dv (l.take k) + bo * 65536 ^ k
end Go.Proofs.YthpibkpljakeeaaDoor

/- What is above bit 254 of a number of digits, and what is below. -/
namespace Go.Proofs.YthpibkpljakeeaaDoor

/-- What is above the lowest fifteen bits, as digits. -/
def hiL : List Nat → List Nat
  | [] => []
  | a :: r => (a / 32768 + r.getD 0 0 % 32768 * 2) :: hiL r
def lows (xs : List Nat) : List Nat := xs.take 15 ++ [xs.getD 15 0 % 32768]
def highs (xs : List Nat) : List Nat := hiL (xs.drop 15)
def Q255 : Nat := 57896044618658097711785492504343953926634992332820282019728792003956564819968
/-- Nineteen times what is above, added digit by digit. -/
def AddI (low hs zs : List Nat) (cy i : Nat) : Prop := zs.length = low.length ∧ Digs zs ∧ cy ≤ 20 ∧ dv zs + cy * 65536 ^ i = dv low + 19 * dv (hs.take i)
end Go.Proofs.YthpibkpljakeeaaDoor

/- The reference's remainder. -/
namespace Go.Proofs.YthpibkpljakeeaaDoor
open Go.RowKit

/-- The number that a row in memory makes. -/
def rowv (v : Value) (w : World) : Nat := match v with
  | .slice (some ⟨g, o, _⟩) n _ => dv ((List.range n).map fun i => match w.cell? ⟨g, o + i, none⟩ with
    | some (.int _ x) => x.toNat
    | _ => 0)
  | _ => 0
end Go.Proofs.YthpibkpljakeeaaDoor

/- The reference's small numbers, sums, differences, comparisons. -/
namespace Go.Proofs.YthpibkpljakeeaaDoor
open Go.RowKit

/-- Sixteen digits of a number. -/
def Rp (l : List Nat) (n : Nat) : Prop := l.length = 16 ∧ Digs l ∧ dv l = n
/-- A call returns new digits of a number. -/
def ROut (n : Nat) (w : World) (e : Ending) (w' : World) : Prop := ∃ A c ys, e = .returned (.slice A 16 c) ∧ Hid (Rp ys n) ∧ NumsF w.heap.size w' .i64 A (nl ys) ∧ Below w.heap.size w w'
end Go.Proofs.YthpibkpljakeeaaDoor

/- The reference's sum, its bytes, and its numbers of bytes. -/
namespace Go.Proofs.YthpibkpljakeeaaDoor
open Go.RowKit

/-- What has been added, digit by digit. -/
def SumI (l m ys : List Nat) (cy k : Nat) : Prop := ys.length = k ∧ Digs ys ∧ cy ≤ 1 ∧ dv ys + cy * 65536 ^ k = dv (l.take k) + dv (m.take k)
end Go.Proofs.YthpibkpljakeeaaDoor

/- The reference's bytes of a number. -/
namespace Go.Proofs.YthpibkpljakeeaaDoor
open Go.RowKit

end Go.Proofs.YthpibkpljakeeaaDoor
