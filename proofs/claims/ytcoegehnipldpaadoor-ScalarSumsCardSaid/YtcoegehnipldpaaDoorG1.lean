/- Texts of this proof, laid together: Carry, El, MulMath, Red, Of, Small, Byts, Add, Neg, Mul, Fe2, Pow. -/
import Derived.Test.YtcoegehnipldpaaDoorArr
import Derived.Test.YtcoegehnipldpaaDoorFe
import Derived.Test.YtcoegehnipldpaaDoorBits
import Derived.Test.YtcoegehnipldpaaDoorProg
import Derived.StillTailTactics
import Derived.Deep.QuietTactic
import Derived.BigQuiet
/- carry: digits carried in place. -/
namespace Go.Proofs.YtcoegehnipldpaaDoor
open Go.RowKit

end Go.Proofs.YtcoegehnipldpaaDoor

/- Arrays of digits and of bytes: their types, and a new array that is stored. -/
namespace Go.Proofs.YtcoegehnipldpaaDoor
open Go.RowKit

def zeros (n : Nat) : List Int := List.replicate n 0
theorem zeros_len (n : Nat) : (zeros n).length = n := by simp [zeros]
theorem inf22 : (Tryd.prog.info? 23).map (fun i => (i.zero, i.size)) = some (some (.agg (ints .u8 (zeros 32)).toArray), 32) := by kernel_rfl
theorem u22 : Tryd.prog.underlying 23 = some (.array 32 5) := by kernel_rfl
theorem siz {T n : Nat} {z : Value} {q : List Int} {k : IntKind} (h : (Tryd.prog.info? T).map (fun i => (i.zero, i.size)) = some (some z, n)) (hq : q.length = n) : (Tryd.prog.info? T).map (·.size) = some (ints k q).length ∧ (Tryd.prog.info? T).map (·.size) = some (ints k q).toArray.size := by
  cases hc : Tryd.prog.info? T with
  | none => rw [hc] at h; simp at h
  | some i =>
    rw [hc] at h
    simp only [Option.map_some, Option.some.injEq, Prod.mk.injEq] at h
    simp [h.2, hq]
theorem l22 {q : List Int} (h : q.length = 32) : (Tryd.prog.info? 23).map (·.size) = some (ints .u8 q).length := (siz inf22 h).1
theorem a22 {q : List Int} (h : q.length = 32) : (Tryd.prog.info? 23).map (·.size) = some (ints .u8 q).toArray.size := (siz inf22 h).2
/-- A value that is built of parts. -/
theorem wpList_built {P : Program} {ops : Array Oper} {rest : List Oper} {o : Oper} {a : Act} {w : World} {Q : Exit → Act → World → Prop} (hg : o.guard = none) (t : TypeId) (parts : Array (Nat × Operand)) (ho : o.op = .build t parts) (vals : List (Nat × Value)) (cells : Array Value)
    (hv : (parts.map fun (i, x) => (i, a.eval x)).toList = vals) (hb : P.built t vals = some cells) (h : wpList P ops Q rest (a.put o.dst (.agg cells)) w) : wpList P ops Q (o :: rest) a w := by
  refine wpList_plain hg fun _ hK => ?_
  rw [← hv] at hb
  unfold Oper.wp execOp
  simp only [ho, Sem.run_bind, run_build w t _ _ hb, Result.andThen_ok]
  exact hK _ _ h
/-- A store over a row of as many. -/
theorem Arr.room {w : World} {b o : Nat} {k k' : IntKind} {l l' : List Int} (h : Arr w b o k l) (e : l'.length = l.length) : w.there b o (ints k' l').toArray.size := by
  have := h.there
  simpa [e] using this
theorem Arr.stored {w : World} {b o : Nat} {k : IntKind} {l l' : List Int} (h : Arr w b o k l) (e : l'.length = l.length) : Arr (w.setCells b o (ints k l').toArray.toList) b o k l' := by
  have := h.all e
  simpa using this
theorem cy_length (xs : List Int) : (cy xs).length = xs.length := by simp [cy, cyA, cl_length]
theorem Bd.set {b : Int} {xs : List Int} (h : Bd b xs) (i : Nat) (x : Int) (hx : -b ≤ x ∧ x ≤ b) : Bd b (xs.set i x) := fun y hy => by
  rcases List.mem_or_eq_of_mem_set hy with h1 | h1
  · exact h y h1
  · rw [h1]; exact hx
/-- As reduced makes it. -/
def red (xs : List Int) : List Int := cy ((cy (xs.set 0 (xs.getD 0 0 + 19))).set 0 ((cy (xs.set 0 (xs.getD 0 0 + 19))).getD 0 0 - 19))
theorem red_length (xs : List Int) : (red xs).length = xs.length := by simp [red, cy_length]
/-- Carried digits are small. -/
theorem cy_small (xs : List Int) (hl : xs.length = 16) (h : Bd 1152921504606846976 xs) : Bd 700000000000000 (cy xs) := by
  have h1 := cl_small xs h 15 (by omega)
  have h2 := h.at_ (getD_some (l := xs) (i := 15) (by omega))
  have e : (cl xs 15).1.getD 15 0 = xs.getD 15 0 := by simp only [List.getD, cl_above xs 15 15 (Nat.le_refl _)]
  have h3 : Bd 65536 (cyA xs) := fun x hx => by
    obtain ⟨i, hi⟩ := List.getElem?_of_mem hx
    by_cases e15 : 15 = i
    · subst e15
      rw [cyA, List.getElem?_set_self (by rw [cl_length]; omega)] at hi
      injection hi with hi; omega
    · rw [cyA, List.getElem?_set_ne e15] at hi
      have hi2 := (List.getElem?_eq_some_iff.1 hi).1
      rw [cl_length] at hi2
      have := cl_below xs 15 i x (by omega) hi
      omega
  have h4 := h3.at_ (getD_some (l := cyA xs) (i := 0) (by simp [cyA, cl_length]; omega))
  refine Bd.set (fun y hy => ?_) 0 _ ?_
  · have := h3 y hy; omega
  · unfold lastOf; rw [e]; omega
end Go.Proofs.YtcoegehnipldpaaDoor

/- The product of two elements, as the code makes it: digits, row by row, and the upper half taken down. -/
namespace Go.Proofs.YtcoegehnipldpaaDoor

def rowA (x : Int) (ys : List Int) (i : Nat) (z : List Int) : Nat → List Int
  | 0 => z
  | j + 1 => (rowA x ys i z j).set (i + j) ((rowA x ys i z j).getD (i + j) 0 + x * ys.getD j 0)
def colA (xs ys : List Int) : Nat → List Int
  | 0 => zeros 32
  | i + 1 => rowA (xs.getD i 0) ys i (colA xs ys i) 16
def foldL (z : List Int) : List Int := (List.range 16).map fun i => z.getD i 0 + 38 * z.getD (i + 16) 0
def mulL (xs ys : List Int) : List Int := cy (cy (foldL (colA xs ys 16)))
theorem foldL_length (z : List Int) : (foldL z).length = 16 := by simp [foldL]
theorem foldL_at {z : List Int} {i : Nat} {x y : Int} (h : i < 16) (hx : z[i]? = some x) (hy : z[i + 16]? = some y) : (foldL z)[i]? = some (x + 38 * y) := by simp [foldL, h, List.getD, hx, hy]
theorem mulL_length (xs ys : List Int) : (mulL xs ys).length = 16 := by simp [mulL, cy_length, foldL_length]
theorem rowA_length (x : Int) (ys : List Int) (i : Nat) (z : List Int) (j : Nat) : (rowA x ys i z j).length = z.length := by
  induction j with
  | zero => rfl
  | succ j ih => simp [rowA, ih]
theorem colA_length (xs ys : List Int) (i : Nat) : (colA xs ys i).length = 32 := by
  induction i with
  | zero => simp [colA, zeros_len]
  | succ i ih => simp [colA, rowA_length, ih]
theorem rowA_past (x : Int) (ys : List Int) (i : Nat) (z : List Int) (j k : Nat) (h : i + j ≤ k) : (rowA x ys i z j)[k]? = z[k]? := by
  induction j with
  | zero => rfl
  | succ j ih => simp only [rowA]; rw [List.getElem?_set_ne (by omega), ih (by omega)]
theorem mul_bd {x y b : Int} (hx : -b ≤ x ∧ x ≤ b) (hy : -b ≤ y ∧ y ≤ b) : -(b * b) ≤ x * y ∧ x * y ≤ b * b := by
  have hb : 0 ≤ b := by omega
  have h := Int.natAbs_mul x y
  have h1 : x.natAbs ≤ b.natAbs := by omega
  have h2 : y.natAbs ≤ b.natAbs := by omega
  have h3 := Nat.mul_le_mul h1 h2
  have h4 : ((b.natAbs * b.natAbs : Nat) : Int) = b * b := by rw [Int.natCast_mul, Int.natAbs_of_nonneg hb]
  omega
theorem rowA_bd (x : Int) (ys : List Int) (i : Nat) (z : List Int) (B : Int) (hz : Bd B z) (hx : -70000 ≤ x ∧ x ≤ 70000) (hy : Bd 70000 ys) (hl : ys.length = 16) (j : Nat) (hj : j ≤ 16) : Bd (B + 4900000000) (rowA x ys i z j) := by
  induction j with
  | zero => exact fun v hv => by have := hz v hv; omega
  | succ j ih =>
    simp only [rowA]
    intro v hv
    rcases List.mem_or_eq_of_mem_set hv with h1 | h1
    · exact ih (by omega) v h1
    · have hyj := hy.at_ (getD_some (l := ys) (i := j) (by omega))
      have hp := mul_bd hx hyj
      by_cases hk : i + j < z.length
      · have h0 := hz.at_ (getD_some (l := z) (i := i + j) hk)
        have e : (rowA x ys i z j).getD (i + j) 0 = z.getD (i + j) 0 := by simp only [List.getD, rowA_past x ys i z j (i + j) (by omega)]
        rw [e] at h1
        omega
      · rw [List.set_eq_of_length_le (by rw [rowA_length]; omega)] at hv
        exact ih (by omega) v hv
theorem colA_bd (xs ys : List Int) (hx : Bd 70000 xs) (hy : Bd 70000 ys) (hl : xs.length = 16) (hl2 : ys.length = 16) (i : Nat) (hi : i ≤ 16) : Bd (4900000000 * i) (colA xs ys i) := by
  induction i with
  | zero => exact fun v hv => by have := List.eq_of_mem_replicate hv; omega
  | succ i ih =>
    have h := rowA_bd (xs.getD i 0) ys i (colA xs ys i) _ (ih (by omega)) (hx.at_ (getD_some (by omega))) hy hl2 16 (by omega)
    intro v hv
    have := h v hv
    omega
theorem foldL_bd (z : List Int) (hz : Bd 80000000000 z) (hl : z.length = 32) : Bd 4000000000000 (foldL z) := fun v hv => by
  obtain ⟨i, hi⟩ := List.getElem?_of_mem hv
  have h16 := (List.getElem?_eq_some_iff.1 hi).1
  rw [foldL_length] at h16
  have hx := getD_some (l := z) (i := i) (by omega)
  have hy := getD_some (l := z) (i := i + 16) (by omega)
  rw [foldL_at h16 hx hy] at hi
  injection hi with hi
  have h1 := hz.at_ hx
  have h2 := hz.at_ hy
  omega
/-- What the digits of a row make. -/
theorem rowA_ev (x : Int) (ys : List Int) (i : Nat) (z : List Int) (j : Nat) (hj : j ≤ ys.length) (hz : i + j ≤ z.length) : ev (rowA x ys i z j) = ev z + x * ev (ys.take j) * 65536 ^ i := by
  induction j with
  | zero => simp [rowA, ev]
  | succ j ih =>
    have h1 := ih (by omega) (by omega)
    simp only [rowA]
    rw [ev_set _ _ _ _ (getD_some (by rw [rowA_length]; omega)), h1]
    have e : ev (ys.take (j + 1)) = ev (ys.take j) + ys.getD j 0 * 65536 ^ j := by
      have hj2 := getD_some (l := ys) (i := j) (by omega)
      rw [List.take_add_one, hj2, ev_append]
      simp only [Option.toList_some, ev, List.length_take]
      rw [show min j ys.length = j by omega]
      simp only [Int.mul_zero, Int.add_zero]
      rw [Int.mul_comm (ys.getD j 0)]
    rw [e, Int.pow_add]
    have e2 : (rowA x ys i z j).getD (i + j) 0 + x * ys.getD j 0 - (rowA x ys i z j).getD (i + j) 0 = x * ys.getD j 0 := by omega
    rw [e2, Int.mul_add, Int.add_mul]
    have e3 : x * ys.getD j 0 * (65536 ^ i * 65536 ^ j) = x * (ys.getD j 0 * 65536 ^ j) * 65536 ^ i := by
      rw [← Int.mul_assoc x, Int.mul_assoc (x * ys.getD j 0), Int.mul_comm (65536 ^ i)]
    rw [e3]; omega
theorem take_ev (xs : List Int) (i : Nat) (h : i < xs.length) : ev (xs.take (i + 1)) = ev (xs.take i) + xs.getD i 0 * 65536 ^ i := by
  rw [List.take_add_one, getD_some h, ev_append]
  simp only [Option.toList_some, ev, List.length_take]
  rw [show min i xs.length = i by omega]
  simp only [Int.mul_zero, Int.add_zero]
  rw [Int.mul_comm (xs.getD i 0)]
theorem ev_zeros (n : Nat) : ev (zeros n) = 0 := by
  induction n with
  | zero => rfl
  | succ n ih => simp only [zeros, List.replicate_succ, ev] at ih ⊢; rw [ih]; rfl
theorem colA_ev (xs ys : List Int) (hl : xs.length = 16) (hl2 : ys.length = 16) (i : Nat) (hi : i ≤ 16) : ev (colA xs ys i) = ev (xs.take i) * ev ys := by
  induction i with
  | zero => simp [colA, ev_zeros, ev]
  | succ i ih =>
    have h1 := rowA_ev (xs.getD i 0) ys i (colA xs ys i) 16 (by omega) (by rw [colA_length]; omega)
    rw [List.take_of_length_le (i := 16) (l := ys) (by omega)] at h1
    refine Eq.trans (show ev (colA xs ys (i + 1)) = _ from h1) ?_
    rw [ih (by omega), take_ev xs i (by omega), Int.add_mul]
    rw [Int.mul_assoc (xs.getD i 0), Int.mul_assoc (xs.getD i 0), Int.mul_comm (ev ys)]
/-- Two rows of as many digits, added place by place. -/
theorem ev_zip (n : Nat) (c : Int) : ∀ (a b d : List Int), a.length = n → b.length = n → d.length = n → (∀ (i : Nat) (x y : Int), a[i]? = some x → b[i]? = some y → d[i]? = some (x + c * y)) → ev d = ev a + c * ev b := by
  induction n with
  | zero =>
    intro a b d h1 h2 h3 _
    obtain rfl := List.length_eq_zero_iff.1 h1
    obtain rfl := List.length_eq_zero_iff.1 h2
    obtain rfl := List.length_eq_zero_iff.1 h3
    simp [ev]
  | succ n ih =>
    intro a b d h1 h2 h3 h
    match a, b, d, h1, h2, h3 with
    | x :: a, y :: b, z :: d, h1, h2, h3 =>
      have h0 := h 0 x y rfl rfl
      simp at h0
      have hr := ih a b d (by simpa using h1) (by simpa using h2) (by simpa using h3) (fun i u v hu hv => by simpa using h (i + 1) u v (by simpa using hu) (by simpa using hv))
      simp only [ev, hr, h0, Int.mul_add]
      rw [← Int.mul_assoc, ← Int.mul_assoc, Int.mul_comm c 65536]
      omega
theorem foldL_ev (z : List Int) (hl : z.length = 32) : ev (foldL z) = ev (z.take 16) + 38 * ev (z.drop 16) :=
  ev_zip 16 38 _ _ _ (by simp; omega) (by simp; omega) (foldL_length z) (fun i x y hx hy => by
    have hi : i < 16 := by
      have := (List.getElem?_eq_some_iff.1 hx).1
      simp at this; omega
    refine foldL_at hi ?_ ?_
    · rw [List.getElem?_take, if_pos hi] at hx; exact hx
    · rw [List.getElem?_drop, Nat.add_comm] at hy; exact hy)
end Go.Proofs.YtcoegehnipldpaaDoor

/- The digits of an element below the prime. -/
namespace Go.Proofs.YtcoegehnipldpaaDoor
open Go.RowKit

end Go.Proofs.YtcoegehnipldpaaDoor

/- An element of bytes. -/
namespace Go.Proofs.YtcoegehnipldpaaDoor
open Go.RowKit

/-- Sixteen digits of thirty-two bytes; the bytes of sixteen digits. -/
def dgs (bs : List Int) : List Int := (List.range 16).map fun i => bs.getD (2 * i) 0 + 256 * bs.getD (2 * i + 1) 0
theorem dgs_length (bs : List Int) : (dgs bs).length = 16 := by simp [dgs]
theorem dgs_at (bs : List Int) {i : Nat} (h : i < 16) : (dgs bs)[i]? = some (bs.getD (2 * i) 0 + 256 * bs.getD (2 * i + 1) 0) := by simp [dgs, h]
def byd (ds : List Int) : List Int := (List.range 32).map fun i => ds.getD (i / 2) 0 / 256 ^ (i % 2) % 256
theorem byd_length (ds : List Int) : (byd ds).length = 32 := by simp [byd]
theorem byd_even (ds : List Int) {i : Nat} (h : i < 16) : (byd ds)[2 * i]? = some (ds.getD i 0 % 256) := by
  have e1 : 2 * i / 2 = i := by omega
  have e2 : 2 * i % 2 = 0 := by omega
  unfold byd
  rw [List.getElem?_map, List.getElem?_range (by omega)]
  simp [e1, e2]
theorem byd_odd (ds : List Int) {i : Nat} (h : i < 16) : (byd ds)[2 * i + 1]? = some (ds.getD i 0 / 256 % 256) := by
  have e1 : (2 * i + 1) / 2 = i := by omega
  have e2 : (2 * i + 1) % 2 = 1 := by omega
  unfold byd
  rw [List.getElem?_map, List.getElem?_range (by omega)]
  simp [e1, e2]
def Byt (l : List Int) : Prop := ∀ x ∈ l, 0 ≤ x ∧ x < 256
theorem Byt.at_ {l : List Int} (h : Byt l) {i : Nat} {x : Int} (hx : l[i]? = some x) : 0 ≤ x ∧ x < 256 := h x (List.mem_of_getElem? hx)
def ofL (bs : List Int) : List Int := (dgs bs).set 15 ((dgs bs).getD 15 0 % 32768)
theorem ofL_length (bs : List Int) : (ofL bs).length = 16 := by simp [ofL, dgs_length]

end Go.Proofs.YtcoegehnipldpaaDoor

/- Small elements; the bytes of an element; whether it is odd; whether two are equal. -/
namespace Go.Proofs.YtcoegehnipldpaaDoor
open Go.RowKit

def smallL (n : Int) : List Int := if 0 ≤ n ∧ n ≤ 65535 then n :: zeros 15 else zeros 16
theorem smallL_length (n : Int) : (smallL n).length = 16 := by unfold smallL; split <;> simp [zeros]
end Go.Proofs.YtcoegehnipldpaaDoor

/- The bytes of an element; whether it is odd. -/
namespace Go.Proofs.YtcoegehnipldpaaDoor
open Go.RowKit

end Go.Proofs.YtcoegehnipldpaaDoor

/- Whether two elements are equal; sums and differences. -/
namespace Go.Proofs.YtcoegehnipldpaaDoor
open Go.RowKit

def plus (xs ys : List Int) : List Int := (List.range 16).map fun i => xs.getD i 0 + ys.getD i 0
def minus (xs ys : List Int) : List Int := (List.range 16).map fun i => xs.getD i 0 - ys.getD i 0
/-- The first k places of one row, the others of another one. -/
def mixK (S xs : List Int) (k : Nat) : List Int := S.take k ++ xs.drop k
theorem mixK_set {S xs : List Int} {k : Nat} {x : Int} (hl : S.length = xs.length) (h : S[k]? = some x) : (mixK S xs k).set k x = mixK S xs (k + 1) := by
  have hk := (List.getElem?_eq_some_iff.1 h).1
  apply List.ext_getElem?
  intro i
  unfold mixK
  rw [List.getElem?_set]
  have l1 : (S.take k ++ xs.drop k).length = xs.length := by simp; omega
  by_cases e : k = i
  · subst e
    rw [if_pos rfl, if_pos (by rw [l1]; omega), List.getElem?_append_left (by simp; omega), List.getElem?_take, if_pos (by omega), h]
  · rw [if_neg e]
    by_cases h1 : i < k
    · rw [List.getElem?_append_left (by simp; omega), List.getElem?_append_left (by simp; omega), List.getElem?_take, List.getElem?_take, if_pos h1, if_pos (by omega)]
    · rw [List.getElem?_append_right (by simp; omega), List.getElem?_append_right (by simp; omega), List.getElem?_drop, List.getElem?_drop]
      congr 1; simp; omega
theorem mixK_at {S xs : List Int} {k : Nat} (hl : S.length = xs.length) (h : k < xs.length) : (mixK S xs k)[k]? = xs[k]? := by
  unfold mixK
  rw [List.getElem?_append_right (by simp; omega), List.getElem?_drop]
  congr 1; simp; omega
theorem mixK_zero (S xs : List Int) : mixK S xs 0 = xs := by simp [mixK]
theorem mixK_end (S xs : List Int) (hl : S.length = xs.length) : mixK S xs xs.length = S := by simp [mixK, ← hl]
theorem mixK_length (S xs : List Int) (k : Nat) (hl : S.length = xs.length) : (mixK S xs k).length = xs.length := by simp [mixK]; omega
theorem plus_length (xs ys : List Int) : (plus xs ys).length = 16 := by simp [plus]
theorem minus_length (xs ys : List Int) : (minus xs ys).length = 16 := by simp [minus]
theorem plus_at {xs ys : List Int} {i : Nat} {x y : Int} (h : i < 16) (hx : xs[i]? = some x) (hy : ys[i]? = some y) : (plus xs ys)[i]? = some (x + y) := by simp [plus, h, List.getD, hx, hy]
theorem minus_at {xs ys : List Int} {i : Nat} {x y : Int} (h : i < 16) (hx : xs[i]? = some x) (hy : ys[i]? = some y) : (minus xs ys)[i]? = some (x - y) := by simp [minus, h, List.getD, hx, hy]

end Go.Proofs.YtcoegehnipldpaaDoor

/- Negatives. -/
namespace Go.Proofs.YtcoegehnipldpaaDoor
open Go.RowKit

theorem zeros_bd (n : Nat) (b : Int) (h : 0 ≤ b) : Bd b (zeros n) := fun x hx => by
  have := List.eq_of_mem_replicate hx
  omega
end Go.Proofs.YtcoegehnipldpaaDoor

/- The product of two elements. -/
namespace Go.Proofs.YtcoegehnipldpaaDoor
open Go.RowKit

end Go.Proofs.YtcoegehnipldpaaDoor

/- What carrying does to the number that the digits make; elements; all modulo the prime. -/
namespace Go.Proofs.YtcoegehnipldpaaDoor

/-- Sixteen digits, the last one of fifteen bits. -/
def Dg (l : List Int) : Prop := l.length = 16 ∧ ∀ (i : Nat) (x : Int), l[i]? = some x → 0 ≤ x ∧ x < 65536 ∧ (i = 15 → x < 32768)
def sg : Nat → Int
  | 0 => 0
  | n + 1 => 1 + 65536 * sg n
theorem ev_bd (b : Int) : ∀ l : List Int, Bd b l → -(b * sg l.length) ≤ ev l ∧ ev l ≤ b * sg l.length
  | [], _ => by simp [ev, sg]
  | x :: l, h => by
    have h1 := ev_bd b l (fun y hy => h y (by simp [hy]))
    have h2 := h x (by simp)
    simp only [ev, List.length_cons, sg, Int.mul_add, Int.mul_one]
    have e : b * (65536 * sg l.length) = 65536 * (b * sg l.length) := by rw [← Int.mul_assoc, Int.mul_comm b, Int.mul_assoc]
    rw [e]; omega
theorem ev_digits : ∀ l : List Int, (∀ x ∈ l, 0 ≤ x ∧ x < 65536) → 0 ≤ ev l ∧ ev l < 65536 ^ l.length
  | [], _ => by simp [ev]
  | x :: l, h => by
    have h1 := ev_digits l (fun y hy => h y (by simp [hy]))
    have h2 := h x (by simp)
    simp only [ev, List.length_cons, Int.pow_succ]
    omega
def Q : Int := 57896044618658097711785492504343953926634992332820282019728792003956564819968
def P : Int := 57896044618658097711785492504343953926634992332820282019728792003956564819949
theorem Dg.split {l : List Int} (h : Dg l) : ∃ d m, l[0]? = some d ∧ 0 ≤ d ∧ d < 65536 ∧ ev l = d + 65536 * m ∧ 0 ≤ m ∧ 65536 * m + 65536 ≤ Q := by
  obtain ⟨hl, hd⟩ := h
  match l, hl with
  | d :: l, hl =>
    have h0 := hd 0 d rfl
    refine ⟨d, ev l, rfl, h0.1, h0.2.1, rfl, ?_⟩
    have hl15 : l.length = 15 := by simpa using hl
    obtain ⟨a, b, rfl⟩ : ∃ a b, l = a ++ [b] := ⟨l.dropLast, l.getLast (by intro e; rw [e] at hl15; simp at hl15), (List.dropLast_concat_getLast _).symm⟩
    have ha : a.length = 14 := by simpa using hl15
    have hb := hd 15 b (by simp [ha])
    have hda := ev_digits a (fun y hy => by
      obtain ⟨i, hi⟩ := List.getElem?_of_mem hy
      have hil := (List.getElem?_eq_some_iff.1 hi).1
      have := hd (i + 1) y (by simp [List.getElem?_append_left hil, hi])
      omega)
    rw [ev_append, ha]
    rw [ha] at hda
    have e14 : (65536 : Int) ^ 14 = 26959946667150639794667015087019630673637144422540572481103610249216 := by decide
    rw [e14] at hda ⊢
    have hb3 := hb.2.2 rfl
    simp only [ev]
    unfold Q
    omega
theorem Dg.bd {l : List Int} (h : Dg l) : 0 ≤ ev l ∧ ev l < Q := by
  obtain ⟨d, m, _, h1, h2, h3, h4, h5⟩ := h.split
  omega
theorem cyA_dg {xs : List Int} (hl : xs.length = 16) : Dg (cyA xs) := by
  refine ⟨by simp [cyA, cl_length, hl], fun i x hi => ?_⟩
  by_cases e : 15 = i
  · subst e
    rw [cyA, List.getElem?_set_self (by rw [cl_length]; omega)] at hi
    injection hi with hi; omega
  · rw [cyA, List.getElem?_set_ne e] at hi
    have hi2 := (List.getElem?_eq_some_iff.1 hi).1
    rw [cl_length] at hi2
    have := cl_below xs 15 i x (by omega) hi
    omega
theorem cyA_ev {xs : List Int} (hl : xs.length = 16) : ev (cyA xs) + Q * (lastOf xs / 32768) = ev xs := by
  have h1 := cl_ev xs 15 (by omega)
  have hs := ev_set (cl xs 15).1 15 (lastOf xs % 32768) _ (getD_some (by rw [cl_length]; omega))
  unfold cyA
  rw [hs]
  have e15 : (65536 : Int) ^ 15 = 1766847064778384329583297500742918515827483896875618958121606201292619776 := by decide
  rw [e15] at h1 ⊢
  unfold lastOf Q
  omega
theorem cy_q {xs : List Int} (hl : xs.length = 16) : lastOf xs / 32768 = ev xs / Q := by
  have h1 := cyA_ev hl
  have h2 := (cyA_dg hl).bd
  unfold Q at *
  omega
theorem cy_set {xs : List Int} (hl : xs.length = 16) {d : Int} (hd : (cyA xs)[0]? = some d) : cy xs = (cyA xs).set 0 (d + 19 * (ev xs / Q)) := by
  unfold cy
  rw [cy_q hl]
  simp [List.getD, hd]
theorem cy_ev {xs : List Int} (hl : xs.length = 16) : ev (cy xs) = ev xs - P * (ev xs / Q) := by
  obtain ⟨d, m, hd, _⟩ := (cyA_dg hl).split
  have h1 := cyA_ev hl
  rw [cy_q hl] at h1
  rw [cy_set hl hd, ev_set _ _ _ _ hd]
  unfold P
  unfold Q at *
  omega
/-- An element as the code keeps it. -/
def El (a : List Int) : Prop := a.length = 16 ∧ ∃ l q, Dg l ∧ ∃ d, l[0]? = some d ∧ a = l.set 0 (d + q) ∧ -19 ≤ d + q ∧ d + q ≤ 65554
theorem El.len {a : List Int} (h : El a) : a.length = 16 := h.1
theorem El.bd {a : List Int} (h : El a) : Bd 70000 a := by
  obtain ⟨_, l, q, hl, d, hd, rfl, h1, h2⟩ := h
  refine Bd.set (fun x hx => ?_) 0 _ (by omega)
  obtain ⟨i, hi⟩ := List.getElem?_of_mem hx
  have := hl.2 i x hi
  omega
theorem El.ev {a : List Int} (h : El a) : -19 ≤ ev a ∧ ev a ≤ Q + 18 := by
  obtain ⟨_, l, q, hl, d, hd, rfl, h1, h2⟩ := h
  obtain ⟨d', m, hd', b1, b2, b3, b4, b5⟩ := hl.split
  obtain rfl : d = d' := Option.some.inj (hd.symm.trans hd')
  rw [ev_set _ _ _ _ hd, b3]
  omega
theorem cy_el {xs : List Int} (hl : xs.length = 16) (h1 : -(Q + 1000) ≤ ev xs) (h2 : ev xs ≤ 2 * Q + 1000) : El (cy xs) := by
  obtain ⟨d, m, hd, b1, b2, b3, b4, b5⟩ := (cyA_dg hl).split
  have h3 := cyA_ev hl
  rw [cy_q hl] at h3
  refine ⟨by rw [cy_length]; exact hl, cyA xs, 19 * (Proofs.YtcoegehnipldpaaDoor.ev xs / Q), cyA_dg hl, d, hd, cy_set hl hd, ?_⟩
  have hq : Proofs.YtcoegehnipldpaaDoor.ev xs / Q = -2 ∨ Proofs.YtcoegehnipldpaaDoor.ev xs / Q = -1 ∨ Proofs.YtcoegehnipldpaaDoor.ev xs / Q = 0 ∨ Proofs.YtcoegehnipldpaaDoor.ev xs / Q = 1 ∨ Proofs.YtcoegehnipldpaaDoor.ev xs / Q = 2 := by unfold Q at *; omega
  rcases hq with e | e | e | e | e <;> rw [e] at h3 ⊢ <;> omega
theorem plus_ev {a b : List Int} (ha : a.length = 16) (hb : b.length = 16) {d : List Int} (hd : d.length = 16) {c : Int} (h : ∀ (i : Nat) (x y : Int), a[i]? = some x → b[i]? = some y → d[i]? = some (x + c * y)) : ev d = ev a + c * ev b := ev_zip 16 c a b d ha hb hd h
theorem mod_sub_mul (x q : Int) : (x - P * q) % P = x % P := by
  rw [Int.sub_eq_add_neg, ← Int.mul_neg, Int.add_mul_emod_self_left]
theorem cy_mod {xs : List Int} (hl : xs.length = 16) : ev (cy xs) % P = ev xs % P := by rw [cy_ev hl, mod_sub_mul]
/-- A product is an element, and is the product modulo the prime. -/
theorem mulL_el {xs ys : List Int} (hx : El xs) (hy : El ys) : El (mulL xs ys) ∧ ev (mulL xs ys) % P = ev xs * ev ys % P := by
  have hz := colA_bd xs ys hx.bd hy.bd hx.len hy.len 16 (by omega)
  have hzl := colA_length xs ys 16
  have he := colA_ev xs ys hx.len hy.len 16 (by omega)
  rw [List.take_of_length_le (by rw [hx.len]; omega)] at he
  have hf := foldL_bd (colA xs ys 16) (fun v hv => by have := hz v hv; omega) hzl
  have hfl := foldL_length (colA xs ys 16)
  have hfe := foldL_ev (colA xs ys 16) hzl
  have hsp : ev (colA xs ys 16) = ev ((colA xs ys 16).take 16) + 65536 ^ 16 * ev ((colA xs ys 16).drop 16) := by
    have h := ev_append ((colA xs ys 16).take 16) ((colA xs ys 16).drop 16)
    rw [List.take_append_drop, List.length_take, hzl] at h
    exact h
  have hfb := ev_bd _ _ hf
  rw [hfl] at hfb
  unfold mulL
  generalize foldL (colA xs ys 16) = fs at *
  generalize colA xs ys 16 = z at *
  have h1 := cy_ev hfl
  have hcl : (cy fs).length = 16 := by rw [cy_length]; exact hfl
  have e16 : (65536 : Int) ^ 16 = 2 * Q := by decide
  have hs : 4000000000000 * sg 16 ≤ 130000000 * Q := by decide
  refine ⟨cy_el hcl ?_ ?_, ?_⟩
  · rw [h1]; unfold Q P at *; omega
  · rw [h1]; unfold Q P at *; omega
  · rw [cy_mod hcl, cy_mod hfl, hfe, ← he, hsp, e16]
    have e : ev (z.take 16) + 2 * Q * ev (z.drop 16) = ev (z.take 16) + 38 * ev (z.drop 16) - P * (-2 * ev (z.drop 16)) := by
      have : 2 * Q * ev (z.drop 16) = 38 * ev (z.drop 16) - P * (-2 * ev (z.drop 16)) := by
        generalize ev (z.drop 16) = t
        unfold Q P; omega
      omega
    rw [e, mod_sub_mul]
/-- Sums, differences, negatives. -/
theorem addL_el {xs ys : List Int} (hx : El xs) (hy : El ys) : El (cy (plus xs ys)) ∧ ev (cy (plus xs ys)) % P = (ev xs + ev ys) % P := by
  have e : ev (plus xs ys) = ev xs + 1 * ev ys := plus_ev hx.len hy.len (plus_length xs ys) (fun i x y h1 h2 => by
    have hi := (List.getElem?_eq_some_iff.1 h1).1
    rw [hx.len] at hi
    rw [plus_at hi h1 h2]; congr 1; omega)
  have h1 := hx.ev
  have h2 := hy.ev
  refine ⟨cy_el (plus_length _ _) ?_ ?_, ?_⟩
  · unfold Q at *; omega
  · unfold Q at *; omega
  · rw [cy_mod (plus_length _ _), e, Int.one_mul]
theorem subL_el {xs ys : List Int} (hx : El xs) (hy : El ys) : El (cy (minus xs ys)) ∧ ev (cy (minus xs ys)) % P = (ev xs - ev ys) % P := by
  have e : ev (minus xs ys) = ev xs + (-1) * ev ys := plus_ev hx.len hy.len (minus_length xs ys) (fun i x y h1 h2 => by
    have hi := (List.getElem?_eq_some_iff.1 h1).1
    rw [hx.len] at hi
    rw [minus_at hi h1 h2]; congr 1; omega)
  have h1 := hx.ev
  have h2 := hy.ev
  refine ⟨cy_el (minus_length _ _) ?_ ?_, ?_⟩
  · unfold Q at *; omega
  · unfold Q at *; omega
  · rw [cy_mod (minus_length _ _), e]; congr 1; omega
theorem el_set {l : List Int} (h : Dg l) : El l := by
  obtain ⟨d, m, hd, b1, b2, _⟩ := h.split
  refine ⟨h.1, l, 0, h, d, hd, ?_, by omega, by omega⟩
  apply List.ext_getElem?
  intro i
  rw [List.getElem?_set]
  split
  · rename_i e; subst e
    rw [hd]; simp
    intro e; rw [e] at hd; simp at hd
  · rfl
theorem zeros_dg : Dg (zeros 16) := ⟨rfl, fun i x hi => by
  have := List.eq_of_mem_replicate (List.mem_of_getElem? hi)
  omega⟩
theorem zeros_el : El (zeros 16) := el_set zeros_dg
theorem negL_el {xs : List Int} (hx : El xs) : El (cy (minus (zeros 16) xs)) ∧ ev (cy (minus (zeros 16) xs)) % P = (- ev xs) % P := by
  have h := subL_el zeros_el hx
  rw [ev_zeros, Int.zero_sub] at h
  exact h
theorem small_dg (n : Int) : Dg (smallL n) := by
  unfold smallL
  split
  · rename_i h
    refine ⟨rfl, fun i x hi => ?_⟩
    cases i with
    | zero => simp at hi; omega
    | succ i =>
      have := List.eq_of_mem_replicate (List.mem_of_getElem? (show (zeros 15)[i]? = some x by simpa using hi))
      omega
  · exact zeros_dg
theorem small_ev (n : Int) (h : 0 ≤ n ∧ n ≤ 65535) : ev (smallL n) = n := by
  unfold smallL
  rw [if_pos h]
  simp only [ev, ev_zeros]; omega
theorem small_ev0 (n : Int) (h : ¬ (0 ≤ n ∧ n ≤ 65535)) : ev (smallL n) = 0 := by
  unfold smallL
  rw [if_neg h]
  exact ev_zeros 16
/-- The digits below the prime. -/
theorem red_dg {xs : List Int} (hx : El xs) : Dg (red xs) ∧ ev (red xs) = ev xs % P := by
  have hb := hx.ev
  have hl := hx.len
  have hx0 : xs[0]? = some (xs.getD 0 0) := getD_some (by omega)
  have l1 : (xs.set 0 (xs.getD 0 0 + 19)).length = 16 := by simp [hl]
  have e1 : ev (xs.set 0 (xs.getD 0 0 + 19)) = ev xs + 19 := by rw [ev_set _ _ _ _ hx0]; omega
  unfold red
  generalize xs.set 0 (xs.getD 0 0 + 19) = x1 at *
  have l2 : (cy x1).length = 16 := by rw [cy_length]; exact l1
  have e2 := cy_ev l1
  have hy0 : (cy x1)[0]? = some ((cy x1).getD 0 0) := getD_some (by omega)
  have l3 : ((cy x1).set 0 ((cy x1).getD 0 0 - 19)).length = 16 := by simp [l2]
  have e3 : ev ((cy x1).set 0 ((cy x1).getD 0 0 - 19)) = ev (cy x1) - 19 := by rw [ev_set _ _ _ _ hy0]; omega
  generalize (cy x1).set 0 ((cy x1).getD 0 0 - 19) = x2 at *
  have e4 := cy_ev l3
  obtain ⟨d, m, hd, b1, b2, b3, b4, b5⟩ := (cyA_dg l3).split
  have e5 := cyA_ev l3
  rw [cy_q l3] at e5
  have hZ : ev x2 = ev xs - P * ((ev xs + 19) / Q) := by rw [e3, e2, e1]; omega
  have hmod : ev (cy x2) % P = ev xs % P := by rw [cy_mod l3, hZ, mod_sub_mul]
  have hq : (ev xs + 19) / Q = 0 ∨ (ev xs + 19) / Q = 1 := by unfold Q at *; omega
  have hz : -19 ≤ ev x2 ∧ ev x2 < P := by
    rcases hq with h | h
    · rw [hZ, h]; unfold Q P at *; omega
    · rw [hZ, h]; unfold Q P at *; omega
  have hq2 : (ev x2 / Q = -1 ∧ ev x2 < 0) ∨ (ev x2 / Q = 0 ∧ 0 ≤ ev x2) := by unfold Q P at *; omega
  have hr : 0 ≤ ev (cy x2) ∧ ev (cy x2) < P := by
    rcases hq2 with h | h
    · rw [e4, h.1]; unfold P at *; omega
    · rw [e4, h.1]; omega
  have hd1 : 0 ≤ d + 19 * (ev x2 / Q) ∧ d + 19 * (ev x2 / Q) < 65536 := by
    rcases hq2 with h | h
    · rw [h.1] at e5 ⊢; omega
    · rw [h.1]; omega
  refine ⟨?_, ?_⟩
  · rw [cy_set l3 hd]
    refine ⟨by simp [cyA, cl_length, l3], fun i x hi => ?_⟩
    by_cases e0 : 0 = i
    · subst e0
      rw [List.getElem?_set_self (by rw [(cyA_dg l3).1]; omega)] at hi
      rw [← Option.some.inj hi]
      exact ⟨hd1.1, hd1.2, fun h => by omega⟩
    · rw [List.getElem?_set_ne e0] at hi
      exact (cyA_dg l3).2 i x hi
  · rw [← hmod]
    exact (Int.emod_eq_of_lt hr.1 hr.2).symm
/-- Digits are told by their number. -/
theorem digits_inj : ∀ (a b : List Int), a.length = b.length → (∀ x ∈ a, 0 ≤ x ∧ x < 65536) → (∀ x ∈ b, 0 ≤ x ∧ x < 65536) → ev a = ev b → a = b
  | [], [], _, _, _, _ => rfl
  | x :: a, y :: b, hl, ha, hb, he => by
    have h1 := ha x (by simp)
    have h2 := hb y (by simp)
    simp only [ev] at he
    have e1 : x = y := by omega
    have e2 : ev a = ev b := by omega
    rw [e1, digits_inj a b (by simpa using hl) (fun v hv => ha v (by simp [hv])) (fun v hv => hb v (by simp [hv])) e2]
  | [], y :: b, hl, _, _, _ => by simp at hl
  | x :: a, [], hl, _, _, _ => by simp at hl
theorem Dg.all {l : List Int} (h : Dg l) : ∀ x ∈ l, 0 ≤ x ∧ x < 65536 := fun x hx => by
  obtain ⟨i, hi⟩ := List.getElem?_of_mem hx
  have := h.2 i x hi
  omega
theorem Dg.inj {a b : List Int} (ha : Dg a) (hb : Dg b) (h : ev a = ev b) : a = b := digits_inj a b (by rw [ha.1, hb.1]) ha.all hb.all h
theorem red_eq {xs ys : List Int} (hx : El xs) (hy : El ys) : red xs = red ys ↔ ev xs % P = ev ys % P := by
  have h1 := red_dg hx
  have h2 := red_dg hy
  exact ⟨fun h => by rw [← h1.2, ← h2.2, h], fun h => h1.1.inj h2.1 (by rw [h1.2, h2.2, h])⟩
end Go.Proofs.YtcoegehnipldpaaDoor

/- Powers of an element. -/
namespace Go.Proofs.YtcoegehnipldpaaDoor
open Go.RowKit

def bitAt (bs : List Int) (i : Nat) : Int := bs.getD (i / 8) 0 / 2 ^ (i % 8) % 2
def powL (xs bs : List Int) : Nat → List Int
  | 0 => smallL 1
  | k + 1 => if bitAt bs (255 - k) = 1 then mulL (mulL (powL xs bs k) (powL xs bs k)) xs else mulL (powL xs bs k) (powL xs bs k)
theorem powL_el {xs bs : List Int} (hx : El xs) (k : Nat) : El (powL xs bs k) := by
  induction k with
  | zero => exact el_set (small_dg 1)
  | succ k ih =>
    simp only [powL]
    split
    · exact (mulL_el (mulL_el ih ih).1 hx).1
    · exact (mulL_el ih ih).1
theorem mask1_u8 (x : Int) (h : 0 ≤ x ∧ x < 256) : bits .and .u8 x 1 = x % 2 := by
  have key : ∀ n : Fin 256, bits .and .u8 (n.val : Int) 1 = (n.val : Int) % 2 := by decide +kernel
  have := key ⟨x.toNat, by omega⟩
  simp only [Int.toNat_of_nonneg h.1] at this
  exact this

end Go.Proofs.YtcoegehnipldpaaDoor
