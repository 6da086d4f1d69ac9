/- Texts of this proof, laid together: QBox, QInv, QOf, QFn, QBy, SRefQ, QBase, QMul, QStep. -/
import Derived.Test.YthpibkpljakeeaaDoorG12
import Derived.Test.YthpibkpljakeeaaDoorSMathM
/- The reference's points: three rows of digits; boxes that hold them, and steps of regions over them. -/
namespace Go.Proofs.YthpibkpljakeeaaDoor
open Go Go.RowKit

/-- The value is a slice. -/
def IsSl (v : Value) : Prop := ∃ A n c, v = .slice A n c
/-- A box of three slices; nothing in its block is a number. -/
structure RB (w : World) (b : Nat) (vs : List Value) : Prop where
  len : vs.length = 3
  sl : ∀ v ∈ vs, IsSl v
  cells : ∀ i v, vs[i]? = some v → w.cell? ⟨b, i, none⟩ = some v ∧ w.frozen? ⟨b, i, none⟩ = false
  no : ∀ j k x, w.cell? ⟨b, j, none⟩ ≠ some (.int k x)
section
variable {w w' : World} {b : Nat} {vs : List Value}
end
/-- The value of a point. -/
def pv3 (A B C : Option Addr) (a b c : Nat) : List Value := [.slice A 16 a, .slice B 16 b, .slice C 16 c]
def nil3 : List Value := [.slice none 0 0, .slice none 0 0, .slice none 0 0]
/-- Digits of a number, wherever they lie. -/
def IsN (m : Nat) : Value → World → Prop := fun v w => ∃ A c ys, v = .slice A 16 c ∧ Hid (Rp ys m) ∧ Nums w .i64 A (nl ys)
/-- A point of digits. -/
def IsP (c : C3 NT.PN) : Value → World → Prop := fun v w => ∃ A B C a b d x y z, v = .agg (pv3 A B C a b d).toArray ∧ Hid (Rp x c.x.val) ∧ Hid (Rp y c.y.val) ∧ Hid (Rp z c.z.val) ∧ Nums w .i64 A (nl x) ∧ Nums w .i64 B (nl y) ∧ Nums w .i64 C (nl z)
def IsZ47 (base : Nat) : Value → World → Prop := fun v w => ∃ b, v = .pointer (some ⟨b, 0, none⟩) ∧ base ≤ b ∧ RB w b nil3
section
variable {ops : Array Oper} {md : Region.Mode} {W : World} {a0 : Act} {n : Nat} {al : Nat → Bool} {S : Nat → Value → World → Prop} {Q : Exit → Act → World → Prop} {i : Nat} {o : Oper} {b : Nat} {vs : List Value}
end
/-- What a call returns that gives digits of a number. -/
def RN (m : Nat) (w : World) (e : Ending) (w' : World) : Prop := ∃ A c ys, e = .returned (.slice A 16 c) ∧ Hid (Rp ys m) ∧ Nums w' .i64 A (nl ys) ∧ Below w.heap.size w w'
section
variable {ops : Array Oper} {md : Region.Mode} {W : World} {a0 : Act} {n : Nat} {al : Nat → Bool} {S : Nat → Value → World → Prop} {Q : Exit → Act → World → Prop} {i : Nat} {o : Oper} {b : Nat} {vs : List Value}
/-- An operand that holds a point. -/
def KnowsP (ops : Array Oper) (md : Region.Mode) (W : World) (a0 : Act) (n : Nat) (S : Nat → Value → World → Prop) (i : Nat) (x : Operand) (c : C3 NT.PN) : Prop := ∀ (a : Act) (w : World), Cl W w → Fr ops n a0 a → Dp ops md n S i a w → IsP c (a.eval x) w
end

section
variable {A B : Option Addr} {cA cB : Nat} {x y : List Nat} {w : World} {a b : Fin NT.PN}
end
end Go.Proofs.YthpibkpljakeeaaDoor

/- The reference's Inverse, D, Of, On, Add. -/
namespace Go.Proofs.YthpibkpljakeeaaDoor
open Go Go.RowKit

def DA : List Nat := 56129 :: 1 :: List.replicate 14 0
def DB : List Nat := 56130 :: 1 :: List.replicate 14 0
end Go.Proofs.YthpibkpljakeeaaDoor

/- The reference's Of, On, Add, Bytes. -/
namespace Go.Proofs.YthpibkpljakeeaaDoor
open Go Go.RowKit

end Go.Proofs.YthpibkpljakeeaaDoor

/- The reference's Add. -/
namespace Go.Proofs.YthpibkpljakeeaaDoor
open Go Go.RowKit

end Go.Proofs.YthpibkpljakeeaaDoor

/- The reference's Bytes. -/
namespace Go.Proofs.YthpibkpljakeeaaDoor
open Go Go.RowKit

end Go.Proofs.YthpibkpljakeeaaDoor

/- The reference's order; its difference, as a row of the call's own; digits times a small number. -/
namespace Go.Proofs.YthpibkpljakeeaaDoor
open Go.RowKit

/-- Digits times m and a number below m, digit by digit. -/
def MulI (m c : Nat) (xs zs : List Nat) (cy j : Nat) : Prop := zs.length = xs.length ∧ Digs zs ∧ cy < m ∧ dv zs + cy * 65536 ^ j + dv (xs.take j) = dv xs + m * dv (xs.take j) + c ∧ ∀ i, j ≤ i → zs[i]? = xs[i]?
/-- The decimal digits of the order's lower part, as letters. -/
def SD : List Nat := [50, 55, 55, 52, 50, 51, 49, 55, 55, 55, 55, 51, 55, 50, 51, 53, 51, 53, 51, 53, 56, 53, 49, 57, 51, 55, 55, 57, 48, 56, 56, 51, 54, 52, 56, 52, 57, 51]
def pv (k : Nat) : Nat := (SD.take k).foldl (fun v d => 10 * v + (d - 48)) 0
abbrev SB : ByteArray := { data := #[50, 55, 55, 52, 50, 51, 49, 55, 55, 55, 55, 51, 55, 50, 51, 53, 51, 53, 51, 53, 56, 53, 49, 57, 51, 55, 55, 57, 48, 56, 56, 51, 54, 52, 56, 52, 57, 51] }
end Go.Proofs.YthpibkpljakeeaaDoor

/- The reference's base. -/
namespace Go.Proofs.YthpibkpljakeeaaDoor
open Go Go.RowKit

section
variable {ops : Array Oper} {md : Region.Mode} {W : World} {a0 : Act} {n : Nat} {al : Nat → Bool} {S : Nat → Value → World → Prop} {Q : Exit → Act → World → Prop} {i : Nat} {o : Oper}
end
/-- The decimal digits of the base's first part, as letters. -/
def BD : List Nat := [49, 53, 49, 49, 50, 50, 50, 49, 51, 52, 57, 53, 51, 53, 52, 48, 48, 55, 55, 50, 53, 48, 49, 49, 53, 49, 52, 48, 57, 53, 56, 56, 53, 51, 49, 53, 49, 49, 52, 53, 52, 48, 49, 50, 54, 57, 51, 48, 52, 49, 56, 53, 55, 50, 48, 54, 48, 52, 54, 49, 49, 51, 50, 56, 51, 57, 52, 57, 56, 52, 55, 55, 54, 50, 50, 48, 50]
def bvN (k : Nat) : Nat := (BD.take k).foldl (fun v d => 10 * v + (d - 48)) 0
abbrev BB : ByteArray := { data := #[49, 53, 49, 49, 50, 50, 50, 49, 51, 52, 57, 53, 51, 53, 52, 48, 48, 55, 55, 50, 53, 48, 49, 49, 53, 49, 52, 48, 57, 53, 56, 56, 53, 51, 49, 53, 49, 49, 52, 53, 52, 48, 49, 50, 54, 57, 51, 48, 52, 49, 56, 53, 55, 50, 48, 54, 48, 52, 54, 49, 49, 51, 50, 56, 51, 57, 52, 57, 56, 52, 55, 55, 54, 50, 50, 48, 50] }
section
variable {ops : Array Oper} {md : Region.Mode} {W : World} {a0 : Act} {n : Nat} {S : Nat → Value → World → Prop} {i : Nat}
end

end Go.Proofs.YthpibkpljakeeaaDoor

/- The reference's multiples. -/
namespace Go.Proofs.YthpibkpljakeeaaDoor
open Go Go.RowKit

/-- A box with a point. -/
def PBox (w : World) (b : Nat) (c : C3 NT.PN) : Prop := ∃ A B C a b' d, RB w b (pv3 A B C a b' d) ∧ IsP c (.agg (pv3 A B C a b' d).toArray) w
section
variable {ops : Array Oper} {md : Region.Mode} {W : World} {a0 : Act} {n : Nat} {S : Nat → Value → World → Prop} {i : Nat}
end
section
variable {P : Edw.Pt NT.PN}
end
end Go.Proofs.YthpibkpljakeeaaDoor

/- Steps of the laws' regions: the reference's points, told by points of Edwards' curve. -/
namespace Go.Proofs.YthpibkpljakeeaaDoor
open Go Go.RowKit

/-- The value holds a point of Edwards' curve, by numerators and one denominator. -/
def IsQ (P : Edw.Pt NT.PN) : Value → World → Prop := fun v w => ∃ c, IsP c v w ∧ Rep3 iF c P
section
variable {ops : Array Oper} {md : Region.Mode} {W : World} {a0 : Act} {n : Nat} {al : Nat → Bool} {S : Nat → Value → World → Prop} {Q : Exit → Act → World → Prop} {i : Nat} {o : Oper}
def KnowsQ (ops : Array Oper) (md : Region.Mode) (W : World) (a0 : Act) (n : Nat) (S : Nat → Value → World → Prop) (i : Nat) (x : Operand) (P : Edw.Pt NT.PN) : Prop := ∀ (a : Act) (w : World), Cl W w → Fr ops n a0 a → Dp ops md n S i a w → IsQ P (a.eval x) w
end
def oneL : List Int := 1 :: zeros 31
end Go.Proofs.YthpibkpljakeeaaDoor
