/- Small facts on rows of numbers in memory: what a slice that only is read holds, and how it stays; a row that a call itself fills. No condition. -/
import Derived.WalkKit
import Derived.WalkSpells
import Derived.WalkLawsBesides
import Derived.Lib.Hide
import Derived.Deep.Draws
namespace Go.Proofs.Ytdfalneiapeegaa
open Go.RowKit

theorem below_drewN {B : Nat} {a w : World} (h : Below B a w) (n : Nat) : Below B a (w.drewN n) := ⟨h.os, h.tape, h.output, h.size, h.block⟩
theorem nextB {a w w' : World} (h : Below a.heap.size a w) (k : Below w.heap.size w w') : Below a.heap.size a w' := h.trans (k.mono h.size)
theorem newB {a w : World} (h : Below a.heap.size a w) (o : Obj) : Below a.heap.size a (w.alloc o) := h.alloc h.size o
theorem below_new (w : World) (o : Obj) : Below w.heap.size w (w.alloc o) := (Below.refl _ _).alloc (Nat.le_refl _) o
theorem ret_int {k : IntKind} {a b : Int} (h : a = b) : Ending.returned (.int k a) = .returned (.int k b) := by rw [h]
theorem ret_bool {a b : Bool} (h : a = b) : Ending.returned (.bool a) = .returned (.bool b) := by rw [h]
theorem hid {p : Prop} (h : p) : Hid p := h

/-- The slice at address A, of as many elements as xs has, holds the numbers xs of kind k. -/
def Nums (w : World) (k : IntKind) (A : Option Addr) (xs : List Int) : Prop :=
  0 < xs.length → ∃ b off, A = some ⟨b, off, none⟩ ∧ b < w.heap.size ∧ ∀ i, i < xs.length → w.cell? ⟨b, off + i, none⟩ = some (.int k (xs.getD i 0))

section
variable {w w' : World} {k : IntKind} {A : Option Addr} {xs : List Int}

theorem Nums.nil : Nums w k A [] := fun h => absurd h (by simp)

theorem Nums.below (h : Nums w k A xs) (hb : Below w.heap.size w w') : Nums w' k A xs := fun hp => by
  obtain ⟨b, off, e, hlt, hc⟩ := h hp
  exact ⟨b, off, e, Nat.lt_of_lt_of_le hlt hb.size, fun i hi => (hb.cell (p := ⟨b, off + i, none⟩) hlt).trans (hc i hi)⟩

/-- One element: its address, and the number that lies there. -/
theorem Nums.get (h : Nums w k A xs) {i : Nat} (hi : i < xs.length) :
    ∃ b off x, A = some ⟨b, off, none⟩ ∧ b < w.heap.size ∧ w.cell? ⟨b, off + i, none⟩ = some (.int k x) ∧ Hid (xs[i]? = some x) := by
  obtain ⟨b, off, e, hlt, hc⟩ := h (by omega)
  refine ⟨b, off, xs.getD i 0, e, hlt, hc i hi, ?_⟩
  show xs[i]? = some _
  simp [hi]

/-- A piece of a row. -/
theorem Nums.cut {b off : Nat} (h : Nums w k (some ⟨b, off, none⟩) xs) {lo m : Nat} (hl : lo + m ≤ xs.length) : Nums w k (some ⟨b, off + lo, none⟩) ((xs.drop lo).take m) := fun hp => by
  have hlen : ((xs.drop lo).take m).length = m := by simp; omega
  obtain ⟨b', off', e, hlt, hc⟩ := h (by omega)
  injection e with e
  injection e with e1 e2
  subst e1; subst e2
  refine ⟨b, off + lo, rfl, hlt, fun i hi => ?_⟩
  rw [hlen] at hi
  rw [Nat.add_assoc, hc (lo + i) (by omega)]
  simp [List.getD, hi]

/-- What an argument's reading gives. -/
theorem Nums.opened {x : Addr} {l c : Nat} {zs : List Int} (hl : l ≤ c) (hm : c ≤ maxLen) (hz : zs.length = c) (hcell : ∀ i, i < zs.length → w.cell? (x.add i) = some (.int k (zs.getD i 0))) (hw : ∀ n ∈ zs, (Lit.int k n).wf = true) :
    ∃ xs : List Int, l = xs.length ∧ xs.length ≤ c ∧ c ≤ maxLen ∧ (∀ y ∈ xs, (Lit.int k y).wf = true) ∧ Nums w k (some x) xs := by
  have hlen : (zs.take l).length = l := by simp; omega
  refine ⟨zs.take l, hlen.symm, by omega, hm, fun y hy => hw y (List.mem_of_mem_take hy), fun hp => ?_⟩
  obtain ⟨b, off, spot⟩ := x
  have hc := hcell 0 (by omega)
  have hspot : spot = none := by simpa [Addr.add] using World.cell?_spot hc
  subst hspot
  have hb : b < w.heap.size := by
    rcases Nat.lt_or_ge b w.heap.size with h | h
    · exact h
    · exfalso
      have h2 : w.cell? ((⟨b, off, none⟩ : Addr).add 0) = none := by
        have e : ((⟨b, off, none⟩ : Addr).add 0) = ⟨b, off, none⟩ := by simp [Addr.add]
        rw [e]
        unfold World.cell?
        rw [Array.getElem?_eq_none h]
      rw [h2] at hc; cases hc
  refine ⟨b, off, rfl, hb, fun i hi => ?_⟩
  rw [hlen] at hi
  have h3 := hcell i (by omega)
  have e : (zs.take l).getD i 0 = zs.getD i 0 := by simp [List.getD, hi]
  rw [e, ← h3]
  by_cases h0 : i = 0
  · subst h0; simp [Addr.add]
  · simp [Addr.add, h0]
end

/-- The same, of memory in the blocks S. -/
def NumsS (S : Nat → Prop) (w : World) (k : IntKind) (A : Option Addr) (xs : List Int) : Prop :=
  0 < xs.length → ∃ b off, A = some ⟨b, off, none⟩ ∧ S b ∧ ∀ i, i < xs.length → w.cell? ⟨b, off + i, none⟩ = some (.int k (xs.getD i 0))
/-- The same, of memory below block D. -/
def NumsD (D : Nat) (w : World) (k : IntKind) (A : Option Addr) (xs : List Int) : Prop := NumsS (fun b => b < D) w k A xs
theorem cell_same {w w' : World} {b o : Nat} (h : w'.heap[b]? = w.heap[b]?) : w'.cell? ⟨b, o, none⟩ = w.cell? ⟨b, o, none⟩ := World.cell?_of_block (a := ⟨b, o, none⟩) h
section
variable {S S' : Nat → Prop} {D D' : Nat} {w w' : World} {k : IntKind} {A : Option Addr} {xs : List Int}
theorem NumsS.keep (h : NumsS S w k A xs) (hs : ∀ b, S b → w'.heap[b]? = w.heap[b]?) : NumsS S w' k A xs := fun hp => by
  obtain ⟨b, off, e, hb, hc⟩ := h hp
  exact ⟨b, off, e, hb, fun i hi => (cell_same (hs b hb)).trans (hc i hi)⟩
theorem NumsS.sub (h : NumsS S w k A xs) (hs : ∀ b, S b → S' b) : NumsS S' w k A xs := fun hp => by
  obtain ⟨b, off, e, hb, hc⟩ := h hp
  exact ⟨b, off, e, hs b hb, hc⟩
theorem NumsD.nums (h : NumsD D w k A xs) (hD : D ≤ w.heap.size) : Nums w k A xs := fun hp => by
  obtain ⟨b, off, e, hlt, hc⟩ := h hp
  exact ⟨b, off, e, Nat.lt_of_lt_of_le hlt hD, hc⟩
theorem Nums.under (h : Nums w k A xs) : NumsD w.heap.size w k A xs := h
theorem NumsD.stay (h : NumsD D w k A xs) (hb : Below D w w') : NumsD D w' k A xs := NumsS.keep h fun b hlt => hb.block b hlt
theorem NumsD.more (h : NumsD D w k A xs) (hD : D ≤ D') : NumsD D' w k A xs := NumsS.sub h fun _ hb => Nat.lt_of_lt_of_le hb hD
end

/-- The same, of memory from block lo on. -/
def NumsF (lo : Nat) (w : World) (k : IntKind) (A : Option Addr) (xs : List Int) : Prop :=
  0 < xs.length → ∃ b off, A = some ⟨b, off, none⟩ ∧ lo ≤ b ∧ b < w.heap.size ∧ ∀ i, i < xs.length → w.cell? ⟨b, off + i, none⟩ = some (.int k (xs.getD i 0))
section
variable {lo lo' : Nat} {w w' : World} {k : IntKind} {A : Option Addr} {xs : List Int}
theorem NumsF.nil : NumsF lo w k A [] := fun h => absurd h (by simp)
theorem NumsF.nums (h : NumsF lo w k A xs) : Nums w k A xs := fun hp => by
  obtain ⟨b, off, e, _, hlt, hc⟩ := h hp
  exact ⟨b, off, e, hlt, hc⟩
theorem NumsF.less (h : NumsF lo w k A xs) (hl : lo' ≤ lo) : NumsF lo' w k A xs := fun hp => by
  obtain ⟨b, off, e, h1, hlt, hc⟩ := h hp
  exact ⟨b, off, e, by omega, hlt, hc⟩
theorem NumsF.stay (h : NumsF lo w k A xs) (hb : Below w.heap.size w w') : NumsF lo w' k A xs := fun hp => by
  obtain ⟨b, off, e, h1, hlt, hc⟩ := h hp
  exact ⟨b, off, e, h1, Nat.lt_of_lt_of_le hlt hb.size, fun i hi => (hb.cell (p := ⟨b, off + i, none⟩) hlt).trans (hc i hi)⟩
end

/-- The slice v is a row of the call's own, from block base on, of elements of type e and kind k; it holds xs. -/
def Owns (w : World) (base : Nat) (e : TypeId) (k : IntKind) (v : Value) (xs : List Int) : Prop := w.ownsRow base e 1 v xs.length (xs.map (Value.int k))

section
variable {w w' : World} {base : Nat} {e : TypeId} {k : IntKind} {v : Value} {xs : List Int}

theorem Owns.nums {A : Option Addr} {n c : Nat} (h : Owns w base e k (.slice A n c) xs) : Nums w k A xs := fun hp => by
  have h0 : w.ownsRow base e 1 (.slice A n c) xs.length (xs.map (Value.int k)) := h
  have hlt := h0.lt
  rcases h.2 with ⟨hv, hn⟩ | ⟨g, cap, cur, hv, hg, hh, r⟩
  · omega
  · injection hv with h1 h2 h3
    subst h1; subst h2; subst h3
    refine ⟨g, 0, rfl, (hlt g rfl).2, fun i hi => ?_⟩
    rw [Nat.zero_add, World.ownsRow.cellAt h0 i (by omega)]
    simp [hi]

theorem Owns.fresh {A : Option Addr} {n c : Nat} (h : Owns w base e k (.slice A n c) xs) : NumsF base w k A xs := fun hp => by
  obtain ⟨b, off, hA, hlt, hc⟩ := h.nums hp
  subst hA
  exact ⟨b, off, rfl, (World.ownsRow.lt (w := w) h b rfl).1, hlt, hc⟩
theorem Owns.len {A : Option Addr} {n c : Nat} (h : Owns w base e k (.slice A n c) xs) : n = xs.length := by
  rcases h.2 with ⟨hv, hn⟩ | ⟨g, cap, cur, hv, _⟩
  · injection hv with h1 h2 h3; omega
  · injection hv
theorem Owns.lt (h : Owns w base e k v xs) : ∀ g, v.ownBlock = some g → base ≤ g ∧ g < w.heap.size := World.ownsRow.lt h
theorem Owns.alloc (h : Owns w base e k v xs) (o : Obj) : Owns (w.alloc o) base e k v xs := World.ownsRow.alloc h o
theorem Owns.drew (h : Owns w base e k v xs) : Owns w.drew base e k v xs := World.ownsRow.drew h
theorem Owns.drewN (h : Owns w base e k v xs) (n : Nat) : Owns (w.drewN n) base e k v xs := h

/-- What a row that the call owns holds at place j, and that it may be written; behind the store. -/
theorem Owns.spot {g n cap : Nat} (h : Owns w base e k (.slice (some ⟨g, 0, none⟩) n cap) xs) {j : Nat} (hj : j < xs.length) :
    ∃ x, w.cell? ⟨g, j, none⟩ = some (.int k x) ∧ w.frozen? ⟨g, j, none⟩ = false ∧ Hid (xs[j]? = some x) := by
  have hn : n = xs.length := by
    rcases h.2 with ⟨hv, hn⟩ | ⟨g', cap', cur, hv, _⟩
    · injection hv with h1; cases h1
    · injection hv
  subst hn
  have h0 : w.ownsRow base e 1 (.slice (some ⟨g, 0, none⟩) xs.length cap) xs.length (xs.map (Value.int k)) := h
  refine ⟨xs.getD j 0, ?_, World.ownsRow.frozenAt h0 j, ?_⟩
  · rw [World.ownsRow.cellAt h0 j (by omega)]; simp [hj]
  · show xs[j]? = some _
    simp [hj]
theorem Owns.store {g n cap : Nat} (h : Owns w base e k (.slice (some ⟨g, 0, none⟩) n cap) xs) (j : Nat) (x : Int) :
    Owns (w.setCell ⟨g, j, none⟩ (.int k x)) base e k (.slice (some ⟨g, 0, none⟩) n cap) (xs.set j x) := by
  have hn : n = xs.length := by
    rcases h.2 with ⟨hv, hn⟩ | ⟨g', cap', cur, hv, _⟩
    · injection hv with h1; cases h1
    · injection hv
  subst hn
  have h0 : w.ownsRow base e 1 (.slice (some ⟨g, 0, none⟩) xs.length cap) xs.length (xs.map (Value.int k)) := h
  have := (World.ownsRow.stored h0 j (.int k x)).1
  unfold Owns
  rw [List.map_set, List.length_set]
  exact this
end

theorem Owns.none_ (w : World) (base : Nat) (e : TypeId) (k : IntKind) : Owns w base e k (.slice none 0 0) [] := World.ownsRow_nil w base e 1

/-- One number, which lies in a block that was laid for it, is appended to a row of the call's own. -/
theorem app_one {P : Program} (w : World) {ops : Array Oper} {rest : List Oper} {o : Oper} {a : Act} {Q : Exit → Act → World → Prop} (hgd : o.guard = none) (s x : Operand) (t : TypeId)
    (ho : o.op = .call { callee := .builtin .append, args := #[s, x], argTypes := #[t, t] })
    (base : Nat) (e : TypeId) (k : IntKind) (bytes : Nat) (ht : P.underlying t = some (.slice e)) (hinf : (P.info? e).map (fun i => (i.zero, i.size, i.bytes)) = some (some (.int k 0), 1, bytes))
    (A : Option Addr) (n c : Nat) (xs : List Int) (hs : a.eval s = .slice A n c) (hown : Owns w base e k (.slice A n c) xs) (y : Int) (m : Nat)
    (hx : a.eval x = .slice (some ⟨w.heap.size, 0, none⟩) 1 m) (h63 : (xs.length + 1) * bytes ≤ 140737488355328) (hbt : 0 < bytes) (hbase : base ≤ w.heap.size)
    (h : ∀ A' n' c' w', Owns w' base e k (.slice A' n' c') (xs ++ [y]) → Below base w w' → wpList P ops Q rest (a.put o.dst (.slice A' n' c')) w') :
    wpList P ops Q (o :: rest) a (w.alloc (.cells #[.int k y] e)) := by
  obtain ⟨i, hi, hz, hsize, hby⟩ := info_parts hinf
  have hm : xs.length + 1 ≤ maxLen := by
    have : xs.length + 1 ≤ (xs.length + 1) * bytes := Nat.le_mul_of_pos_right _ hbt
    unfold maxLen; omega
  refine wpList_append_own _ hgd s x t ho base e i (.int k 0) 1 bytes ht hi hz hsize hby rfl (by omega) _ _ _ hs (World.ownsRow.alloc hown _) ⟨w.heap.size, 0, none⟩ 1 m [.int k y] hx rfl ?_ ?_ hm h63 (by simp; omega) ?_
  · intro j u hj
    match j, hj with
    | 0, hj =>
      simp at hj; subst hj
      exact cell_one_new _ _ _ 0 _ rfl
  · intro u hu
    simp at hu; subst hu; rfl
  · intro v' w' hown' hg _
    have hform : ∃ A' n' c', v' = .slice A' n' c' := by
      rcases hown'.2 with ⟨_, h0⟩ | ⟨g, cap, cur, hv, _⟩
      · omega
      · exact ⟨_, _, _, hv⟩
    obtain ⟨A', n', c', rfl⟩ := hform
    refine h A' n' c' w' ?_ ?_
    · unfold Owns
      rw [List.map_append, List.length_append]
      exact hown'
    · refine ((Below.refl base w).alloc hbase _).grown hg (by simp; omega) (fun g hg' => ?_)
      exact (hown.lt g hg').1

/-- S, filled as far as k; zeros behind. -/
def fillK (S : List Int) (k : Nat) : List Int := (List.range S.length).map fun i => if i < k then S.getD i 0 else 0
theorem fillK_length (S : List Int) (k : Nat) : (fillK S k).length = S.length := by simp [fillK]
theorem fillK_get (S : List Int) (k i : Nat) : (fillK S k)[i]? = if i < S.length then some (if i < k then S.getD i 0 else 0) else none := by
  unfold fillK
  by_cases h : i < S.length
  · simp [h]
  · simp [h]
theorem fillK_zero (S : List Int) : fillK S 0 = List.replicate S.length 0 := by
  apply List.ext_getElem?
  intro i
  rw [fillK_get, List.getElem?_replicate]
  simp
theorem fillK_end (S : List Int) : fillK S S.length = S := by
  apply List.ext_getElem?
  intro i
  rw [fillK_get]
  by_cases h : i < S.length
  · simp [h]
  · simp [h]
theorem fillK_set (S : List Int) {k : Nat} {x : Int} (hx : S[k]? = some x) : (fillK S k).set k x = fillK S (k + 1) := by
  have hk : k < S.length := (List.getElem?_eq_some_iff.1 hx).1
  apply List.ext_getElem?
  intro i
  by_cases e : k = i
  · subst e
    rw [List.getElem?_set_self (by rw [fillK_length]; exact hk), fillK_get, if_pos hk, if_pos (by omega)]
    simp [List.getD, hx]
  · rw [List.getElem?_set_ne e, fillK_get, fillK_get]
    by_cases h : i < k
    · simp only [h, if_true, show i < k + 1 by omega]
    · simp only [h, if_false, show ¬ i < k + 1 by omega]
end Go.Proofs.Ytdfalneiapeegaa
