/- The table of kinds as Kinds gives it; its numbers and the first ones are parts of roots. -/
import Derived.Test.YtjgojbjehedpaaaDoorRoots
namespace Go.Proofs.YtjgojbjehedpaaaDoor
open Go.RowKit
/-- The first eighty primes. -/
def PRIMES : List Nat := [2, 3, 5, 7, 11, 13, 17, 19, 23, 29, 31, 37, 41, 43, 47, 53, 59, 61, 67, 71, 73, 79, 83, 89, 97, 101, 103, 107, 109, 113, 127, 131, 137, 139, 149, 151, 157, 163, 167, 173, 179, 181, 191, 193, 197, 199, 211, 223, 227, 229, 233, 239, 241, 251, 257, 263, 269, 271, 277, 281, 283, 293, 307, 311, 313, 317, 331, 337, 347, 349, 353, 359, 367, 373, 379, 383, 389, 397, 401, 409]
/-- A part of the k-th root of p, with the whole part looked for below 30. -/
def partOf (k p : Nat) (v : Int) : Bool :=
  (List.range 30).any fun a => decide ((a * 18446744073709551616 + v.toNat) ^ k ≤ p * 18446744073709551616 ^ k) && decide (p * 18446744073709551616 ^ k < (a * 18446744073709551616 + v.toNat + 1) ^ k)
theorem kinds_parts : (KINDS.zip PRIMES).all (fun x => partOf 3 x.2 x.1 && decide (0 ≤ x.1 ∧ x.1 < 18446744073709551616 ∧ 2 ≤ x.2 ∧ x.2 ≤ 500)) = true := by kernel_rfl
theorem first_parts : (FIRST.zip PRIMES).all (fun x => partOf 2 x.2 x.1 && decide (0 ≤ x.1 ∧ x.1 < 18446744073709551616 ∧ 2 ≤ x.2 ∧ x.2 ≤ 500)) = true := by kernel_rfl
theorem primes_length : PRIMES.length = 80 := by kernel_rfl
/-- What partOf says, against the inequalities of a root. -/
theorem part_is {k p whole part : Nat} {v : Int} (h0 : 0 ≤ v) (hv : v < 18446744073709551616) (h : partOf k p v = true) (hp : part < 18446744073709551616)
    (h1 : (whole * 18446744073709551616 + part) ^ k ≤ p * 18446744073709551616 ^ k) (h2 : p * 18446744073709551616 ^ k < (whole * 18446744073709551616 + part + 1) ^ k) : v = part := by
  simp only [partOf, List.any_eq_true, Bool.and_eq_true, decide_eq_true_eq] at h
  obtain ⟨a, _, h3, h4⟩ := h
  have := root_unique (by omega) hp h3 h4 h1 h2
  omega

set_option maxRecDepth 4000 in
set_option maxHeartbeats 1000000 in
theorem kinds_any (w : World) (ht : Tabs w) : Calls Tryd.prog 17 #[] w fun e w' => e = .returned (.agg (ints .u64 KINDS).toArray) ∧ Below w.heap.size w w' := by
  obtain ⟨z42, s42⟩ := zero_of_info Tryd.info42
  have hsz : (Tryd.prog.info? 42).map (·.size) = some (ints .u64 KINDS).length := by rw [s42]; rfl
  have hsz2 : (Tryd.prog.info? 42).map (·.size) = some (ints .u64 KINDS).toArray.size := by rw [s42]; rfl
  have hK : (w.alloc (.cells (ints .u64 (zeros 80)).toArray 42)).rangeAt 1 0 (ints .u64 KINDS) := fun j v hv => by
    simp only [ints, List.getElem?_map, Option.map_eq_some_iff] at hv
    obtain ⟨x, hx, rfl⟩ := hv
    have := (ht.next (below_new w (.cells (ints .u64 (zeros 80)).toArray 42))).2.1 j x hx
    rw [Nat.zero_add]; exact this
  have hth : (w.alloc (.cells (ints .u64 (zeros 80)).toArray 42)).there w.heap.size 0 (ints .u64 KINDS).toArray.size := by
    have := (Arr.made w .u64 (zeros 80) 42).there
    exact this
  have hA := (Arr.made w .u64 (zeros 80) 42).all (ys := KINDS) rfl
  have hB := Below.setCells (below_new w (.cells (ints .u64 (zeros 80)).toArray 42)) (Nat.le_refl _) 0 (ints .u64 KINDS)
  generalize KINDS = ks at *
  go_enter Tryd.func17, Tryd.ntmps17
  go_wp2_with (first
    | (with_reducible refine wpList_load_mid (op := ⟨some 1, .load 42 (.global 1), _, _, _, _⟩) rfl 42 (.global 1) rfl 1 0 rfl (ints .u64 ks) _ hK Tryd.underlying42 rfl hsz ?_)
    | (with_reducible refine wpList_store_mid (op := ⟨none, .store 42 (.tmp 0) (.tmp 1), _, _, _, _⟩) rfl 42 (.tmp 0) (.tmp 1) rfl w.heap.size 0 (ints .u64 ks).toArray rfl rfl hth hsz2 (ints_all _ _) ?_))
  exact ret_rows rfl w.heap.size 0 rfl (ints .u64 ks) _ hA.range Tryd.underlying42 rfl hsz rfl ⟨rfl, hB⟩
end Go.Proofs.YtjgojbjehedpaaaDoor
