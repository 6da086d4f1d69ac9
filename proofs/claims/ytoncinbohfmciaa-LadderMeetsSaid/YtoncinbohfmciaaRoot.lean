/- Roots of elements. -/
import Derived.Test.YtoncinbohfmciaaBx2
namespace Go.Proofs.Ytoncinbohfmciaa
open Go.RowKit

def dblL (xs : List Int) : List Int := cy (plus xs xs)
def rbL (xs : List Int) : List Int := powL (dblL xs) (onesL 253 15) 256
def riL (xs : List Int) : List Int := mulL (mulL (dblL xs) (rbL xs)) (rbL xs)
def rtL (xs : List Int) : List Int := mulL (mulL xs (rbL xs)) (cy (minus (riL xs) (smallL 1)))
theorem dblL_el {xs : List Int} (h : El xs) : El (dblL xs) := (addL_el h h).1
theorem rbL_el {xs : List Int} (h : El xs) : El (rbL xs) := powL_el (dblL_el h) 256
theorem riL_el {xs : List Int} (h : El xs) : El (riL xs) := (mulL_el (mulL_el (dblL_el h) (rbL_el h)).1 (rbL_el h)).1
theorem one_el : El (smallL 1) := el_set (small_dg 1)
theorem rtL_el {xs : List Int} (h : El xs) : El (rtL xs) := (mulL_el (mulL_el h (rbL_el h)).1 (subL_el (riL_el h) one_el).1).1
theorem El.big {a : List Int} (h : El a) : Bd 100000000000000000 a := fun x hx => by have := h.bd x hx; omega
/-- Two results: a row in memory, and a slot. -/
theorem results_row2 {P : Program} {fn : Func} {p s : Tmp} {ty : TypeId} (h : fn.results = #[.cell p ty, .tmp s]) (tmps : Array Value) (w : World) (b o : Nat) (hp : tmps.getD p undef = .pointer (some ⟨b, o, none⟩)) (v : Value) (hs : tmps.getD s undef = v)
    (cs : List Value) (d : TypeDesc) (hc : w.rangeAt b o cs) (hu : P.underlying ty = some d) (hd : d.isRow = true) (hi : (P.info? ty).map (·.size) = some cs.length) :
    (results fn tmps).run P w = .ok (.tuple #[.agg cs.toArray, v]) w := by
  simp only [results, h]
  have hp2 : tmps[p]?.getD undef = .pointer (some ⟨b, o, none⟩) := by rw [← hp]; simp
  have hs2 : tmps[s]?.getD undef = v := by rw [← hs]; simp
  simp [hp2, hs2, asAddr, run_loadVar_mid w b o ty cs d hc hu hd hi]

theorem Bx.new (w : World) (l : List Int) (h : l.length = 16) : Bx (w.alloc (.cells (ints .i64 l).toArray 41)) w.heap.size l := ⟨Arr.made w .i64 l 41, h⟩
def okL (xs : List Int) : Bool := decide (red (mulL (rtL xs) (rtL xs)) = red xs)
def oddL (xs : List Int) : Bool := (red (rtL xs)).getD 0 0 % 2 == 1
def ngL (xs : List Int) : List Int := cy (minus (zeros 16) (rtL xs))
theorem red_at {xs : List Int} (h : xs.length = 16) : Hid ((red xs)[0]? = some ((red xs).getD 0 0)) := hid (getD_some (by rw [red_length, h]; omega))
end Go.Proofs.Ytoncinbohfmciaa
