/- The store of terms in memory: blocks of cells, rows of terms, keys of terms. -/
import Derived.Test.YtdfalneiapeegaaMRow
import Derived.Test.YtdfalneiapeegaaRows
import Derived.Maps.OwnSet
import Derived.Maps.AppendAt
import Derived.DeepKeys4
import Derived.Laws.BytesString
import Derived.Laws.IdiomStrings
import Derived.Lib.ConvBytes
namespace Go.Proofs.Ytdfalneiapeegaa
open Go Go.RowKit Go.Maps

/-- The cells of a block, all of them; none is frozen. -/
def Blk (w : World) (b : Nat) (t : TypeId) (cs : List Value) : Prop := w.heap[b]? = some (.cells cs.toArray t (0, 0))
section
variable {w w' : World} {b : Nat} {t : TypeId} {cs : List Value}
set_option maxRecDepth 50000 in
theorem Blk.lt (h : Blk w b t cs) : b < w.heap.size := (Array.getElem?_eq_some_iff.1 h).1
set_option maxRecDepth 50000 in
theorem Blk.cell (h : Blk w b t cs) {i : Nat} {v : Value} (hi : cs[i]? = some v) : w.cell? ⟨b, i, none⟩ = some v := by
  simp [World.cell?, show w.heap[b]? = _ from h, hi]
set_option maxRecDepth 50000 in
theorem Blk.free (h : Blk w b t cs) (i : Nat) : w.frozen? ⟨b, i, none⟩ = false := by simp [World.frozen?, show w.heap[b]? = _ from h]
set_option maxRecDepth 50000 in
theorem Blk.new (w : World) (t : TypeId) (cs : List Value) : Blk (w.alloc (.cells cs.toArray t)) w.heap.size t cs := heap_alloc_new w _
set_option maxRecDepth 50000 in
theorem Blk.same (h : Blk w b t cs) (he : w'.heap[b]? = w.heap[b]?) : Blk w' b t cs := he.trans h
set_option maxRecDepth 50000 in
theorem Blk.set (h : Blk w b t cs) (i : Nat) (v : Value) : Blk (w.setCell ⟨b, i, none⟩ v) b t (cs.set i v) := by
  obtain ⟨hlt, hk⟩ := Array.getElem?_eq_some_iff.1 h
  show (w.heap.modify b _)[b]? = _
  rw [Array.getElem?_eq_getElem (by rw [Array.size_modify]; exact hlt), Array.getElem_modify_self, hk]
  simp
set_option maxRecDepth 50000 in
theorem Blk.other (h : Blk w b t cs) {a : Addr} (ha : a.block ≠ b) (v : Value) : Blk (w.setCell a v) b t cs := h.same (Below.heap_setCell _ _ _ _ (Ne.symm ha))
set_option maxRecDepth 50000 in
theorem Blk.rw (h : Blk w b t cs) : Rw w b 0 cs := fun i v hi => by rw [Nat.zero_add]; exact ⟨h.cell hi, h.free i⟩
set_option maxRecDepth 50000 in
theorem Blk.next (h : Blk w b t cs) (hb : Below w.heap.size w w') : Blk w' b t cs := h.same (hb.block b h.lt)
end

/-- From w to w' only blocks of G have turned, and new ones. -/
structure Chg (G : Nat → Prop) (w w' : World) : Prop where
  os : w'.os = w.os
  tape : w'.tape = w.tape
  output : w'.output = w.output
  size : w.heap.size ≤ w'.heap.size
  block : ∀ k, k < w.heap.size → ¬ G k → w'.heap[k]? = w.heap[k]?
section
variable {G H : Nat → Prop} {a w w' : World}
set_option maxRecDepth 50000 in
theorem Chg.refl (G : Nat → Prop) (w : World) : Chg G w w := ⟨rfl, rfl, rfl, Nat.le_refl _, fun _ _ _ => rfl⟩
set_option maxRecDepth 50000 in
theorem Chg.trans (h : Chg G a w) (k : Chg H w w') (hh : ∀ b, b < a.heap.size → H b → G b) : Chg G a w' :=
  ⟨k.os.trans h.os, k.tape.trans h.tape, k.output.trans h.output, Nat.le_trans h.size k.size, fun i hi hn => (k.block i (Nat.lt_of_lt_of_le hi h.size) (fun e => hn (hh i hi e))).trans (h.block i hi hn)⟩
set_option maxRecDepth 50000 in
theorem Chg.sub (h : Chg G w w') (hh : ∀ b, b < w.heap.size → G b → H b) : Chg H w w' := ⟨h.os, h.tape, h.output, h.size, fun i hi hn => h.block i hi (fun e => hn (hh i hi e))⟩
set_option maxRecDepth 50000 in
theorem Chg.of (h : Below w.heap.size w w') (G : Nat → Prop) : Chg G w w' := ⟨h.os, h.tape, h.output, h.size, fun k hk _ => h.block k hk⟩
set_option maxRecDepth 50000 in
theorem Chg.next (h : Chg G a w) (k : Below w.heap.size w w') : Chg G a w' := h.trans (Chg.of k (fun _ => False)) (fun _ _ e => e.elim)
set_option maxRecDepth 50000 in
theorem Chg.below (h : Chg G w w') {B : Nat} (hB : B ≤ w.heap.size) (hG : ∀ b, G b → B ≤ b) : Below B w w' := ⟨h.os, h.tape, h.output, h.size, fun k hk => h.block k (by omega) (fun e => by have := hG k e; omega)⟩
set_option maxRecDepth 50000 in
theorem Chg.drew (h : Chg G a w) : Chg G a w.drew := ⟨h.os, h.tape, h.output, h.size, h.block⟩
set_option maxRecDepth 50000 in
theorem Chg.alloc (h : Chg G a w) (o : Obj) : Chg G a (w.alloc o) := h.next (below_new w o)
set_option maxRecDepth 50000 in
theorem Chg.setCell (h : Chg G a w) {p : Addr} (hp : G p.block ∨ a.heap.size ≤ p.block) (v : Value) : Chg G a (w.setCell p v) :=
  ⟨h.os, h.tape, h.output, by simp [World.setCell]; exact h.size, fun k hk hn => (Below.heap_setCell _ _ _ _ (by rintro rfl; rcases hp with e | e; exact hn e; omega)).trans (h.block k hk hn)⟩
set_option maxRecDepth 50000 in
theorem Chg.grown (h : Chg G a w) {row : Option Nat} (hg : w.grownBy w' row) (hr : ∀ g, row = some g → G g ∨ a.heap.size ≤ g) : Chg G a w' :=
  ⟨hg.os.trans h.os, hg.tape.trans h.tape, hg.output.trans h.output, Nat.le_trans h.size hg.size, fun k hk hn => (hg.block k (Nat.lt_of_lt_of_le hk h.size) (fun e => by rcases hr k e.symm with e | e; exact hn e; omega)).trans (h.block k hk hn)⟩
end
set_option maxRecDepth 50000 in
theorem row_chg {G : Nat → Prop} {w w' : World} {base : Nat} {e : TypeId} {size : Nat} {v : Value} {n : Nat} {xs : List Value} (h : w.ownsRow base e size v n xs) (hc : Chg G w w') (hv : ∀ g, v.ownBlock = some g → ¬ G g) : w'.ownsRow base e size v n xs := by
  refine ⟨h.1, ?_⟩
  rcases h.2 with h2 | ⟨g, cap, cur, rfl, hb, hg, r⟩
  · exact .inl h2
  · exact .inr ⟨g, cap, cur, rfl, hb, (hc.block g (Array.getElem?_eq_some_iff.1 hg).1 (hv g rfl)).trans hg, r⟩
set_option maxRecDepth 50000 in
theorem map_chg {G : Nat → Prop} {H : Type} {w w' : World} {P : Program} {k : TypeId} {R : Value → Option (DataW H × List MemPlace)} {b n : Nat} {D : DataW H} (h : w.ownsMap P k R b n D) (hc : Chg G w w') (hb : ¬ G b) : w'.ownsMap P k R b n D := by
  obtain ⟨es, clock, hh, r⟩ := h
  exact ⟨es, clock, (hc.block b (Array.getElem?_eq_some_iff.1 hh).1 hb).trans hh, r⟩
set_option maxRecDepth 50000 in
theorem Blk.chg {G : Nat → Prop} {w w' : World} {b : Nat} {t : TypeId} {cs : List Value} (h : Blk w b t cs) (hc : Chg G w w') (hb : ¬ G b) : Blk w' b t cs := h.same (hc.block b h.lt hb)
set_option maxRecDepth 50000 in
theorem rowlt {w : World} {base : Nat} {e : TypeId} {size : Nat} {v : Value} {n : Nat} {xs : List Value} (h : w.ownsRow base e size v n xs) : ∀ g, v.ownBlock = some g → g < w.heap.size := fun g hg => (h.lt g hg).2

/-- A term: kind, A, B. -/
abbrev T3 := Int × Int × Int
set_option maxRecDepth 50000 in
theorem ec (a : Act) : ∀ c, a.eval (.const c) = c := fun _ => rfl
def tc (t : T3) : List Value := [.int .i64 t.1, .int .i64 t.2.1, .int .i64 t.2.2]
def tv (t : T3) : Value := .agg #[.int .i64 t.1, .int .i64 t.2.1, .int .i64 t.2.2]
def flat (L : List T3) : List Value := L.flatMap tc
set_option maxRecDepth 50000 in
theorem flat_app (L M : List T3) : flat (L ++ M) = flat L ++ flat M := by simp [flat]
set_option maxRecDepth 50000 in
theorem flat_one (t : T3) : flat [t] = tc t := by simp [flat]
set_option maxRecDepth 50000 in
theorem flat_length : ∀ L : List T3, (flat L).length = L.length * 3
  | [] => rfl
  | t :: L => by
    have := flat_length L
    simp [flat, tc] at this ⊢
    omega
set_option maxRecDepth 50000 in
theorem flat_at : ∀ (L : List T3) (i : Nat) (t : T3), L[i]? = some t → (flat L)[i * 3]? = some (.int .i64 t.1) ∧ (flat L)[i * 3 + 1]? = some (.int .i64 t.2.1) ∧ (flat L)[i * 3 + 2]? = some (.int .i64 t.2.2)
  | [], i, t, h => by simp at h
  | u :: L, 0, t, h => by
    simp at h; subst h
    simp [flat, tc]
  | u :: L, i + 1, t, h => by
    have := flat_at L i t (by simpa using h)
    have e : flat (u :: L) = .int .i64 u.1 :: .int .i64 u.2.1 :: .int .i64 u.2.2 :: flat L := by simp [flat, tc]
    rw [e, show (i + 1) * 3 = i * 3 + 1 + 1 + 1 by omega]
    simpa using this
/-- Numbers that a term may hold. -/
def Twf (t : T3) : Prop := (Lit.int .i64 t.1).wf = true ∧ (Lit.int .i64 t.2.1).wf = true ∧ (Lit.int .i64 t.2.2).wf = true

set_option maxRecDepth 50000 in
theorem laidOutT : laidOutB Try.prog = true := by kernel_rfl
set_option maxRecDepth 50000 in
theorem lawX : Keyed Try.prog 9 := string_keyed Try.underlying9
set_option maxRecDepth 50000 in
theorem cells3 : Try.prog.cellsOf 3 = 1 := by kernel_rfl
def tl (t : T3) : List Lit := [.int .i64 t.1, .int .i64 t.2.1, .int .i64 t.2.2]
/-- What a term reads as, as a key. -/
def tk (t : T3) : Lit := .string (keyBytes (tl t))
set_option maxRecDepth 50000 in
theorem tv_inj {t u : T3} (h : tv t = tv u) : t = u := by
  obtain ⟨a, b, c⟩ := t
  obtain ⟨a', b', c'⟩ := u
  simp [tv] at h
  simp [h]
set_option maxRecDepth 50000 in
theorem tk_key (t : T3) : WideAt.IsKeyLit (tk t) := trivial
end Go.Proofs.Ytdfalneiapeegaa
