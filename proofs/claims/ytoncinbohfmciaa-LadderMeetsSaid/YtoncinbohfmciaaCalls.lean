/- What each function of the package returns, said of elements. -/
import Derived.Test.YtoncinbohfmciaaBx2
import Derived.Test.YtoncinbohfmciaaInvMod
import Derived.Test.YtoncinbohfmciaaRoot
namespace Go.Proofs.Ytoncinbohfmciaa
open Go.RowKit

theorem By.new (w : World) (l : List Int) (h : l.length = 32) : By (w.alloc (.cells (ints .u8 l).toArray 22)) w.heap.size l := ⟨Arr.made w .u8 l 22, h⟩
theorem CallsTo.on {f : FuncId} {args : Array Value} {v : Value} (h : CallsTo f args v) (w : World) : Calls Try.prog f args w fun e w' => e = .returned v ∧ Below w.heap.size w w' := h w
section
variable {xs ys bs : List Int}
theorem El.huge (h : El xs) : Bd 1000000000000000000 xs := fun x hx => by have := h.bd x hx; omega
theorem c_of (hl : bs.length = 32) (hb : Byt bs) : CallsTo 22 #[.agg (ints .u8 bs).toArray] (.agg (ints .i64 (ofL bs)).toArray) := fun w => of_any bs w hl hb
theorem c_small (n : Int) : CallsTo 23 #[.int .i64 n] (.agg (ints .i64 (smallL n)).toArray) := fun w => small_any n w
theorem c_add (hx : El xs) (hy : El ys) : CallsTo 33 #[.agg (ints .i64 xs).toArray, .agg (ints .i64 ys).toArray] (.agg (ints .i64 (cy (plus xs ys))).toArray) := fun w => add_any xs ys w hx.len hy.len hx.big hy.big
theorem c_sub (hx : El xs) (hy : El ys) : CallsTo 34 #[.agg (ints .i64 xs).toArray, .agg (ints .i64 ys).toArray] (.agg (ints .i64 (cy (minus xs ys))).toArray) := fun w => sub_any xs ys w hx.len hy.len hx.big hy.big
theorem c_mul (hx : El xs) (hy : El ys) : CallsTo 26 #[.agg (ints .i64 xs).toArray, .agg (ints .i64 ys).toArray] (.agg (ints .i64 (mulL xs ys)).toArray) := fun w => mul_any xs ys w hx.len hy.len hx.bd hy.bd
theorem c_inv (hx : El xs) : CallsTo 27 #[.agg (ints .i64 xs).toArray] (.agg (ints .i64 (invL xs)).toArray) := fun w => inverse_any xs w hx
theorem c_pow (hx : El xs) (hl : bs.length = 32) (hb : Byt bs) : CallsTo 37 #[.agg (ints .i64 xs).toArray, .agg (ints .u8 bs).toArray] (.agg (ints .i64 (powL xs bs 256)).toArray) := fun w => power_walk xs bs _ w (hid rfl) hx hl hb
theorem c_bytes (hx : El xs) : CallsTo 28 #[.agg (ints .i64 xs).toArray] (.agg (ints .u8 (byd (red xs))).toArray) := fun w => bytes_any xs w hx.len hx.huge
theorem byt_of_wf (h : ∀ x ∈ bs, (Lit.int .u8 x).wf = true) : Byt bs := fun x hx => by
  have h1 := h x hx
  simp [Lit.wf, IntKind.min, IntKind.max, IntKind.bits, IntKind.signed] at h1
  omega
end
end Go.Proofs.Ytoncinbohfmciaa
