/- What each function of the package returns, said of elements. -/
import Derived.Test.YtddjfhmkebhndaaAwake
namespace Go.Proofs.Ytddjfhmkebhndaa
open Go.RowKit

section
variable {xs ys bs : List Int}
theorem El.huge (h : El xs) : Bd 1000000000000000000 xs := fun x hx => by have := h.bd x hx; omega
theorem c_of (hl : bs.length = 32) (hb : Byt bs) : CallsTo 9 #[.agg (ints .u8 bs).toArray] (.agg (ints .i64 (ofL bs)).toArray) := fun w => of_any bs w hl hb
theorem c_small (n : Int) : CallsTo 16 #[.int .i64 n] (.agg (ints .i64 (smallL n)).toArray) := fun w => small_any n w
theorem c_add (hx : El xs) (hy : El ys) : CallsTo 18 #[.agg (ints .i64 xs).toArray, .agg (ints .i64 ys).toArray] (.agg (ints .i64 (cy (plus xs ys))).toArray) := fun w => add_any xs ys w hx.len hy.len hx.big hy.big
theorem c_sub (hx : El xs) (hy : El ys) : CallsTo 20 #[.agg (ints .i64 xs).toArray, .agg (ints .i64 ys).toArray] (.agg (ints .i64 (cy (minus xs ys))).toArray) := fun w => sub_any xs ys w hx.len hy.len hx.big hy.big
theorem c_mul (hx : El xs) (hy : El ys) : CallsTo 22 #[.agg (ints .i64 xs).toArray, .agg (ints .i64 ys).toArray] (.agg (ints .i64 (mulL xs ys)).toArray) := fun w => mul_any xs ys w hx.len hy.len hx.bd hy.bd
theorem c_neg (hx : El xs) : CallsTo 24 #[.agg (ints .i64 xs).toArray] (.agg (ints .i64 (cy (minus (zeros 16) xs))).toArray) := fun w => neg_any xs w hx.len hx.big
theorem c_inv (hx : El xs) : CallsTo 27 #[.agg (ints .i64 xs).toArray] (.agg (ints .i64 (invL xs)).toArray) := fun w => inverse_any xs w hx
theorem c_pow (hx : El xs) (hl : bs.length = 32) (hb : Byt bs) : CallsTo 25 #[.agg (ints .i64 xs).toArray, .agg (ints .u8 bs).toArray] (.agg (ints .i64 (powL xs bs 256)).toArray) := fun w => power_walk xs bs _ w (hid rfl) hx hl hb
theorem c_bytes (hx : El xs) : CallsTo 11 #[.agg (ints .i64 xs).toArray] (.agg (ints .u8 (byd (red xs))).toArray) := fun w => bytes_any xs w hx.len hx.huge
theorem c_odd (hx : El xs) : CallsTo 13 #[.agg (ints .i64 xs).toArray] (.bool ((red xs).getD 0 0 % 2 == 1)) := fun w => odd_any xs _ w hx.len hx.huge (red_at hx.len)
theorem c_equal (hx : El xs) (hy : El ys) : CallsTo 14 #[.agg (ints .i64 xs).toArray, .agg (ints .i64 ys).toArray] (.bool (decide (red xs = red ys))) := fun w => equal_any xs ys w hx.len hy.len hx.big hy.big
theorem c_eq (hx : El xs) (hy : El ys) (h : Eqv (ev xs) (ev ys)) : CallsTo 14 #[.agg (ints .i64 xs).toArray, .agg (ints .i64 ys).toArray] (.bool true) := by
  have h1 := c_equal hx hy
  rwa [decide_eq_true ((red_iff hx hy).2 h)] at h1
theorem c_ne (hx : El xs) (hy : El ys) (h : ¬ Eqv (ev xs) (ev ys)) : CallsTo 14 #[.agg (ints .i64 xs).toArray, .agg (ints .i64 ys).toArray] (.bool false) := by
  have h1 := c_equal hx hy
  rwa [decide_eq_false (fun e => h ((red_iff hx hy).1 e))] at h1
theorem byt_of_wf (h : ∀ x ∈ bs, (Lit.int .u8 x).wf = true) : Byt bs := fun x hx => by
  have h1 := h x hx
  simp [Lit.wf, IntKind.min, IntKind.max, IntKind.bits, IntKind.signed] at h1
  omega
end
end Go.Proofs.Ytddjfhmkebhndaa
