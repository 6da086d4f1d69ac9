/- What is known of values, lists and bytes in memory, and the calls over them, for regions told operation by operation. -/
import Derived.Test.YtcahcecohjohpaaDoorBack
import Derived.Test.YtcahcecohjohpaaDoorReg
namespace Go.Proofs.YtcahcecohjohpaaDoor
open Go Go.RowKit

/-- The value v, by value: its parts lie in memory. -/
def VV (v : V) : Value → World → Prop := fun u w => ∃ k n b l A B c d, u = .agg #[.int .i64 k, .int .i64 n, .slice A (b : List Int).length c, .slice B (l : List V).length d] ∧ v = .mk k n b l ∧ Has w.heap.size w v A B
theorem VV.grows (v : V) : Grows (VV v) := fun _ _ _ ⟨k, n, b, l, A, B, c, d, h1, h2, h3⟩ hb => ⟨k, n, b, l, A, B, c, d, h1, h2, (h3.stay hb).more hb.size (Nat.le_refl _)⟩
theorem VV.mk {k n : Int} {b : List Int} {l : List V} {A B : Option Addr} {c d D : Nat} {w : World} (h : Has D w (.mk k n b l) A B) : VV (.mk k n b l) (.agg #[.int .i64 k, .int .i64 n, .slice A b.length c, .slice B l.length d]) w := ⟨k, n, b, l, A, B, c, d, rfl, rfl, h.more h.1 (Nat.le_refl _)⟩
/-- The list of values l, as a slice. -/
def LL (l : List V) : Value → World → Prop := fun u w => ∃ B d A k n b, u = .slice B l.length d ∧ Has w.heap.size w (.mk k n b l) A B
theorem LL.grows (l : List V) : Grows (LL l) := fun _ _ _ ⟨B, d, A, k, n, b, h1, h2⟩ hb => ⟨B, d, A, k, n, b, h1, (h2.stay hb).more hb.size (Nat.le_refl _)⟩
theorem LL.mk {k n : Int} {b : List Int} {l : List V} {A B : Option Addr} {d D : Nat} {w : World} (h : Has D w (.mk k n b l) A B) : LL l (.slice B l.length d) w := ⟨B, d, A, k, n, b, rfl, h.more h.1 (Nat.le_refl _)⟩
/-- Bytes, as a slice. -/
def BB (xs : List Int) : Value → World → Prop := fun u w => ∃ A c, u = .slice A xs.length c ∧ Nums w .u8 A xs
theorem BB.grows (xs : List Int) : Grows (BB xs) := fun _ _ _ ⟨A, c, h1, h2⟩ hb => ⟨A, c, h1, h2.below hb⟩
theorem BB.mk {xs : List Int} {A : Option Addr} {c : Nat} {w : World} (h : Nums w .u8 A xs) : BB xs (.slice A xs.length c) w := ⟨A, c, rfl, h⟩
/-- A made value of bytes. -/
def RB (xs : List Int) : Value → World → Prop := fun u w => ∃ B d, u = .agg #[.int .i64 2, .int .i64 0, .slice B xs.length d, .slice none 0 0] ∧ Nums w .u8 B xs
theorem RB.grows (xs : List Int) : Grows (RB xs) := fun _ _ _ ⟨A, c, h1, h2⟩ hb => ⟨A, c, h1, h2.below hb⟩
/-- A made value of a list. -/
def LB (l : List V) : Value → World → Prop := fun u w => ∃ B d, u = .agg #[.int .i64 3, .int .i64 0, .slice none 0 0, .slice B l.length d] ∧ ∀ k n : Int, Has w.heap.size w (.mk k n [] l) none B
theorem LB.grows (l : List V) : Grows (LB l) := fun _ _ _ ⟨B, d, h1, h2⟩ hb => ⟨B, d, h1, fun k n => ((h2 k n).stay hb).more hb.size (Nat.le_refl _)⟩
theorem LB.v {l : List V} {u : Value} {w : World} (h : LB l u w) : VV (.mk 3 0 [] l) u w := by
  obtain ⟨B, d, rfl, h2⟩ := h
  exact ⟨3, 0, [], l, none, B, 0, d, rfl, rfl, h2 3 0⟩

def isB (b : Bool) : Value → World → Prop := fun u _ => u = .bool b
theorem k_same {v v' : V} {w : World} {u u' : Value} (h : VV v u w) (h' : VV v' u' w) : Calls Tryd.prog 16 #[u, u'] w fun e w' => ∃ x, e = .returned x ∧ isB (sameV v v') x w' ∧ Below w.heap.size w w' := by
  obtain ⟨k, n, b, l, A, B, c, d, rfl, rfl, h3⟩ := h
  obtain ⟨k', n', b', l', A', B', c', d', rfl, rfl, h3'⟩ := h'
  exact (same_ok _ k n b l rfl k' n' b' l' _ _ A B A' B' c d c' d' w h3 h3').mono fun _ _ ⟨he, hb⟩ => ⟨_, he, rfl, hb⟩
theorem k_refSame {v v' : V} {w : World} {u u' : Value} (h : VV v u w) (h' : VV v' u' w) : Calls Tryd.prog 17 #[u, u'] w fun e w' => ∃ x, e = .returned x ∧ isB (sameV v v') x w' ∧ Below w.heap.size w w' := by
  obtain ⟨k, n, b, l, A, B, c, d, rfl, rfl, h3⟩ := h
  obtain ⟨k', n', b', l', A', B', c', d', rfl, rfl, h3'⟩ := h'
  exact (refSame_any _ k n b l rfl k' n' b' l' _ _ A B A' B' c d c' d' w h3 h3').mono fun _ _ ⟨he, hb⟩ => ⟨_, he, rfl, hb⟩
theorem k_of {l : List V} {w : World} {u : Value} (hl : l.length ≤ 1000000) (h : LL l u w) : Calls Tryd.prog 19 #[u] w fun e w' => ∃ x, e = .returned x ∧ LB l x w' ∧ Below w.heap.size w w' := by
  obtain ⟨B, d, A, k, n, b, rfl, h2⟩ := h
  exact (of_any k n b l _ A B d w hl h2).mono fun _ _ ⟨B', d', he, hH, hb⟩ => ⟨_, he, ⟨B', d', rfl, hH⟩, hb⟩
theorem k_num {n : Int} {w : World} : Calls Tryd.prog 20 #[.int .i64 n] w fun e w' => ∃ x, e = .returned x ∧ Is (.agg #[.int .i64 1, .int .i64 n, .slice none 0 0, .slice none 0 0]) x w' ∧ Below w.heap.size w w' :=
  (num_any n w).mono fun _ _ ⟨he, hb⟩ => ⟨_, he, rfl, hb⟩
theorem k_raw {xs : List Int} {w : World} {u : Value} (hl : xs.length ≤ 2000000) (h : BB xs u w) : Calls Tryd.prog 21 #[u] w fun e w' => ∃ x, e = .returned x ∧ RB xs x w' ∧ Below w.heap.size w w' := by
  obtain ⟨A, c, rfl, h2⟩ := h
  refine (raw_any A c xs w hl h2).mono fun _ _ ⟨B, d, ys, he, hy, hN, hb⟩ => ⟨_, he, ?_, hb⟩
  have hy := hy.out
  subst hy
  exact ⟨B, d, rfl, hN.nums⟩
theorem k_wsame {xs ys : List Int} {w : World} {u u' : Value} (hl : xs.length ≤ maxLen) (h : BB xs u w) (h' : BB ys u' w) : Calls Tryd.prog 14 #[u, u'] w fun e w' => ∃ x, e = .returned x ∧ isB (decide (xs = ys)) x w' ∧ Below w.heap.size w w' := by
  obtain ⟨A, c, rfl, h2⟩ := h
  obtain ⟨B, d, rfl, h2'⟩ := h'
  exact (wsame_any A B c d xs ys w hl h2 h2').mono fun _ _ ⟨he, hb⟩ => ⟨_, he, rfl, hb⟩
theorem k_few {v : V} {w : World} {u : Value} (h : VV v u w) : Calls Tryd.prog 7 #[u] w fun e w' => ∃ x, e = .returned x ∧ isB (fewV v) x w' ∧ Below w.heap.size w w' := by
  obtain ⟨k, n, b, l, A, B, c, d, rfl, rfl, h3⟩ := h
  exact (few_any k n b l _ A B c d w h3).mono fun _ _ ⟨he, hb⟩ => ⟨_, he, rfl, hb⟩
theorem cd7 (vs : Array Value) (w : World) : (callFunc 7 vs).run Tryd.prog w = .ok (.enter 7 vs) w := by go_simp
theorem cd14 (vs : Array Value) (w : World) : (callFunc 14 vs).run Tryd.prog w = .ok (.enter 14 vs) w := by go_simp
theorem cd16 (vs : Array Value) (w : World) : (callFunc 16 vs).run Tryd.prog w = .ok (.enter 16 vs) w := by go_simp
theorem cd17 (vs : Array Value) (w : World) : (callFunc 17 vs).run Tryd.prog w = .ok (.enter 17 vs) w := by go_simp
theorem cd18 (vs : Array Value) (w : World) : (callFunc 18 vs).run Tryd.prog w = .ok (.enter 18 vs) w := by go_simp
theorem cd19 (vs : Array Value) (w : World) : (callFunc 19 vs).run Tryd.prog w = .ok (.enter 19 vs) w := by go_simp
theorem cd20 (vs : Array Value) (w : World) : (callFunc 20 vs).run Tryd.prog w = .ok (.enter 20 vs) w := by go_simp
theorem cd21 (vs : Array Value) (w : World) : (callFunc 21 vs).run Tryd.prog w = .ok (.enter 21 vs) w := by go_simp
end Go.Proofs.YtcahcecohjohpaaDoor
