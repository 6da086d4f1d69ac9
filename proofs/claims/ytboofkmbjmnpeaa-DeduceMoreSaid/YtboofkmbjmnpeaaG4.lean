/- Texts of this proof, laid together: TBase, TQ. -/
import Derived.Test.YtboofkmbjmnpeaaMRowM
import Derived.Test.YtboofkmbjmnpeaaRows
import Derived.Maps.OwnSet
import Derived.Maps.AppendAt
import Derived.DeepKeys4
import Derived.Laws.BytesString
import Derived.Laws.IdiomStrings
import Derived.Lib.ConvBytes
import Derived.BigQuiet
import Derived.Deep.QuietTactic
/- The store of terms in memory: blocks of cells, rows of terms, keys of terms. -/
namespace Go.Proofs.Ytboofkmbjmnpeaa
open Go Go.RowKit Go.Maps

/-- The cells of a block, all of them; none is frozen. -/
def Blk (w : World) (b : Nat) (t : TypeId) (cs : List Value) : Prop := w.heap[b]? = some (.cells cs.toArray t (0, 0))
section
variable {w w' : World} {b : Nat} {t : TypeId} {cs : List Value}
set_option maxRecDepth 50000 in
theorem Blk.lt (h : Blk w b t cs) : b < w.heap.size := (Array.getElem?_eq_some_iff.1 h).1
set_option maxRecDepth 50000 in
theorem Blk.cell (h : Blk w b t cs) {i : Nat} {v : Value} (hi : cs[i]? = some v) : w.cell? ⟨b, i, none⟩ = some v := by
  simp [World.cell?, show w.heap[b]? = _ from h, hi]
set_option maxRecDepth 50000 in
theorem Blk.free (h : Blk w b t cs) (i : Nat) : w.frozen? ⟨b, i, none⟩ = false := by simp [World.frozen?, show w.heap[b]? = _ from h]
set_option maxRecDepth 50000 in
theorem Blk.new (w : World) (t : TypeId) (cs : List Value) : Blk (w.alloc (.cells cs.toArray t)) w.heap.size t cs := heap_alloc_new w _
set_option maxRecDepth 50000 in
theorem Blk.same (h : Blk w b t cs) (he : w'.heap[b]? = w.heap[b]?) : Blk w' b t cs := he.trans h
set_option maxRecDepth 50000 in
theorem Blk.set (h : Blk w b t cs) (i : Nat) (v : Value) : Blk (w.setCell ⟨b, i, none⟩ v) b t (cs.set i v) := by
  obtain ⟨hlt, hk⟩ := Array.getElem?_eq_some_iff.1 h
  show (w.heap.modify b _)[b]? = _
  rw [Array.getElem?_eq_getElem (by rw [Array.size_modify]; exact hlt), Array.getElem_modify_self, hk]
  simp
set_option maxRecDepth 50000 in
theorem Blk.other (h : Blk w b t cs) {a : Addr} (ha : a.block ≠ b) (v : Value) : Blk (w.setCell a v) b t cs := h.same (Below.heap_setCell _ _ _ _ (Ne.symm ha))
set_option maxRecDepth 50000 in
theorem Blk.rw (h : Blk w b t cs) : Rw w b 0 cs := fun i v hi => by rw [Nat.zero_add]; exact ⟨h.cell hi, h.free i⟩
set_option maxRecDepth 50000 in
theorem Blk.next (h : Blk w b t cs) (hb : Below w.heap.size w w') : Blk w' b t cs := h.same (hb.block b h.lt)
end

/-- From w to w' only blocks of G have turned, and new ones. -/
structure Chg (G : Nat → Prop) (w w' : World) : Prop where
  os : w'.os = w.os
  tape : w'.tape = w.tape
  output : w'.output = w.output
  size : w.heap.size ≤ w'.heap.size
  block : ∀ k, k < w.heap.size → ¬ G k → w'.heap[k]? = w.heap[k]?
section
variable {G H : Nat → Prop} {a w w' : World}
set_option maxRecDepth 50000 in
theorem Chg.refl (G : Nat → Prop) (w : World) : Chg G w w := ⟨rfl, rfl, rfl, Nat.le_refl _, fun _ _ _ => rfl⟩
set_option maxRecDepth 50000 in
theorem Chg.trans (h : Chg G a w) (k : Chg H w w') (hh : ∀ b, b < a.heap.size → H b → G b) : Chg G a w' :=
  ⟨k.os.trans h.os, k.tape.trans h.tape, k.output.trans h.output, Nat.le_trans h.size k.size, fun i hi hn => (k.block i (Nat.lt_of_lt_of_le hi h.size) (fun e => hn (hh i hi e))).trans (h.block i hi hn)⟩
set_option maxRecDepth 50000 in
theorem Chg.sub (h : Chg G w w') (hh : ∀ b, b < w.heap.size → G b → H b) : Chg H w w' := ⟨h.os, h.tape, h.output, h.size, fun i hi hn => h.block i hi (fun e => hn (hh i hi e))⟩
set_option maxRecDepth 50000 in
theorem Chg.of (h : Below w.heap.size w w') (G : Nat → Prop) : Chg G w w' := ⟨h.os, h.tape, h.output, h.size, fun k hk _ => h.block k hk⟩
set_option maxRecDepth 50000 in
theorem Chg.next (h : Chg G a w) (k : Below w.heap.size w w') : Chg G a w' := h.trans (Chg.of k (fun _ => False)) (fun _ _ e => e.elim)
set_option maxRecDepth 50000 in
theorem Chg.below (h : Chg G w w') {B : Nat} (hB : B ≤ w.heap.size) (hG : ∀ b, G b → B ≤ b) : Below B w w' := ⟨h.os, h.tape, h.output, h.size, fun k hk => h.block k (by omega) (fun e => by have := hG k e; omega)⟩
set_option maxRecDepth 50000 in
theorem Chg.drew (h : Chg G a w) : Chg G a w.drew := ⟨h.os, h.tape, h.output, h.size, h.block⟩
set_option maxRecDepth 50000 in
theorem Chg.alloc (h : Chg G a w) (o : Obj) : Chg G a (w.alloc o) := h.next (below_new w o)
set_option maxRecDepth 50000 in
theorem Chg.setCell (h : Chg G a w) {p : Addr} (hp : G p.block ∨ a.heap.size ≤ p.block) (v : Value) : Chg G a (w.setCell p v) :=
  ⟨h.os, h.tape, h.output, by simp [World.setCell]; exact h.size, fun k hk hn => (Below.heap_setCell _ _ _ _ (by rintro rfl; rcases hp with e | e; exact hn e; omega)).trans (h.block k hk hn)⟩
set_option maxRecDepth 50000 in
theorem Chg.grown (h : Chg G a w) {row : Option Nat} (hg : w.grownBy w' row) (hr : ∀ g, row = some g → G g ∨ a.heap.size ≤ g) : Chg G a w' :=
  ⟨hg.os.trans h.os, hg.tape.trans h.tape, hg.output.trans h.output, Nat.le_trans h.size hg.size, fun k hk hn => (hg.block k (Nat.lt_of_lt_of_le hk h.size) (fun e => by rcases hr k e.symm with e | e; exact hn e; omega)).trans (h.block k hk hn)⟩
end
set_option maxRecDepth 50000 in
theorem row_chg {G : Nat → Prop} {w w' : World} {base : Nat} {e : TypeId} {size : Nat} {v : Value} {n : Nat} {xs : List Value} (h : w.ownsRow base e size v n xs) (hc : Chg G w w') (hv : ∀ g, v.ownBlock = some g → ¬ G g) : w'.ownsRow base e size v n xs := by
  refine ⟨h.1, ?_⟩
  rcases h.2 with h2 | ⟨g, cap, cur, rfl, hb, hg, r⟩
  · exact .inl h2
  · exact .inr ⟨g, cap, cur, rfl, hb, (hc.block g (Array.getElem?_eq_some_iff.1 hg).1 (hv g rfl)).trans hg, r⟩
set_option maxRecDepth 50000 in
theorem map_chg {G : Nat → Prop} {H : Type} {w w' : World} {P : Program} {k : TypeId} {R : Value → Option (DataW H × List MemPlace)} {b n : Nat} {D : DataW H} (h : w.ownsMap P k R b n D) (hc : Chg G w w') (hb : ¬ G b) : w'.ownsMap P k R b n D := by
  obtain ⟨es, clock, hh, r⟩ := h
  exact ⟨es, clock, (hc.block b (Array.getElem?_eq_some_iff.1 hh).1 hb).trans hh, r⟩
set_option maxRecDepth 50000 in
theorem Blk.chg {G : Nat → Prop} {w w' : World} {b : Nat} {t : TypeId} {cs : List Value} (h : Blk w b t cs) (hc : Chg G w w') (hb : ¬ G b) : Blk w' b t cs := h.same (hc.block b h.lt hb)
set_option maxRecDepth 50000 in
theorem rowlt {w : World} {base : Nat} {e : TypeId} {size : Nat} {v : Value} {n : Nat} {xs : List Value} (h : w.ownsRow base e size v n xs) : ∀ g, v.ownBlock = some g → g < w.heap.size := fun g hg => (h.lt g hg).2

/-- A term: kind, A, B. -/
abbrev T3 := Int × Int × Int
set_option maxRecDepth 50000 in
theorem ec (a : Act) : ∀ c, a.eval (.const c) = c := fun _ => rfl
def tc (t : T3) : List Value := [.int .i64 t.1, .int .i64 t.2.1, .int .i64 t.2.2]
def tv (t : T3) : Value := .agg #[.int .i64 t.1, .int .i64 t.2.1, .int .i64 t.2.2]
def flat (L : List T3) : List Value := L.flatMap tc
set_option maxRecDepth 50000 in
theorem flat_app (L M : List T3) : flat (L ++ M) = flat L ++ flat M := by simp [flat]
set_option maxRecDepth 50000 in
theorem flat_one (t : T3) : flat [t] = tc t := by simp [flat]
set_option maxRecDepth 50000 in
theorem flat_length : ∀ L : List T3, (flat L).length = L.length * 3
  | [] => rfl
  | t :: L => by
    have := flat_length L
    simp [flat, tc] at this ⊢
    omega
set_option maxRecDepth 50000 in
theorem flat_at : ∀ (L : List T3) (i : Nat) (t : T3), L[i]? = some t → (flat L)[i * 3]? = some (.int .i64 t.1) ∧ (flat L)[i * 3 + 1]? = some (.int .i64 t.2.1) ∧ (flat L)[i * 3 + 2]? = some (.int .i64 t.2.2)
  | [], i, t, h => by simp at h
  | u :: L, 0, t, h => by
    simp at h; subst h
    simp [flat, tc]
  | u :: L, i + 1, t, h => by
    have := flat_at L i t (by simpa using h)
    have e : flat (u :: L) = .int .i64 u.1 :: .int .i64 u.2.1 :: .int .i64 u.2.2 :: flat L := by simp [flat, tc]
    rw [e, show (i + 1) * 3 = i * 3 + 1 + 1 + 1 by omega]
    simpa using this
/-- Numbers that a term may hold. -/
def Twf (t : T3) : Prop := (Lit.int .i64 t.1).wf = true ∧ (Lit.int .i64 t.2.1).wf = true ∧ (Lit.int .i64 t.2.2).wf = true

set_option maxRecDepth 50000 in
theorem laidOutT : laidOutB Try.prog = true := by kernel_rfl
set_option maxRecDepth 50000 in
theorem rowT : (50 : TypeId) < Try.prog.types.size := of_decide_eq_true (by kernel_rfl)
set_option maxRecDepth 50000 in
theorem wideT : (match Try.prog.underlying 50 with | some (.array _ _) | some (.struct _) => true | _ => false) = true := by kernel_rfl
set_option maxRecDepth 50000 in
theorem lawT : Keyed Try.prog 50 := Keyed.of_law (deep_law_laid laidOutT (m := 3) (by omega) rowT (by kernel_rfl) wideT)
set_option maxRecDepth 50000 in
theorem lawX : Keyed Try.prog 9 := string_keyed Try.underlying9
set_option maxRecDepth 50000 in
theorem keyT : Try.prog.keyType 50 = true := by kernel_rfl
set_option maxRecDepth 50000 in
theorem cellsT : Try.prog.cellsOf 50 = 3 := by kernel_rfl
set_option maxRecDepth 50000 in
theorem cells3 : Try.prog.cellsOf 3 = 1 := by kernel_rfl
set_option maxRecDepth 50000 in
theorem tsize : ∃ m, Try.prog.types.size + 1 = m + 1 + 1 := ⟨Try.prog.types.size - 1, by have h : (50 : Nat) < Try.prog.types.size := rowT; generalize Try.prog.types.size = q at h ⊢; omega⟩
def tl (t : T3) : List Lit := [.int .i64 t.1, .int .i64 t.2.1, .int .i64 t.2.2]
/-- What a term reads as, as a key. -/
def tk (t : T3) : Lit := .string (keyBytes (tl t))
set_option maxRecDepth 50000 in
theorem key_of (t : T3) (h : Twf t) : keyOf Try.prog 50 (tv t) = some (tk t) := by
  obtain ⟨m, hm⟩ := tsize
  obtain ⟨h1, h2, h3⟩ := h
  have hf : (tv t).formed Try.prog 50 = true := by
    simp [tv, Value.formed, Try.underlying50, cellsT]
  have hl : Try.prog.keyLits (Try.prog.types.size + 1) 50 (tv t).cells.toList = some (tl t) := by
    rw [hm]
    simp [Program.keyLits, Try.underlying50, cellsT, tv, Value.cells, cells3, Try.underlying3, h1, h2, h3, tl]
  unfold keyOf
  simp only [Try.underlying50, keyT, hf, hl]
  rfl
set_option maxRecDepth 50000 in
theorem tv_inj {t u : T3} (h : tv t = tv u) : t = u := by
  obtain ⟨a, b, c⟩ := t
  obtain ⟨a', b', c'⟩ := u
  simp [tv] at h
  simp [h]
set_option maxRecDepth 50000 in
theorem tk_inj {t u : T3} (h : Twf t) (k : Twf u) (e : tk t = tk u) : t = u := tv_inj (lawT.inj (key_of t h) (by rw [e]; exact key_of u k))
set_option maxRecDepth 50000 in
theorem tk_key (t : T3) : WideAt.IsKeyLit (tk t) := trivial
end Go.Proofs.Ytboofkmbjmnpeaa

/- What a store of terms is asked: is it there, how many terms, is there one of a number, of a kind. -/
namespace Go.Proofs.Ytboofkmbjmnpeaa
open Go Go.RowKit

set_option maxRecDepth 50000 in
set_option maxHeartbeats 1000000 in
theorem exists_any (p : Nat) (w : World) (c0 : w.cell? ⟨p, 0, none⟩ = some (.bool true)) :
    Calls Try.prog 31 #[.pointer (some ⟨p, 0, none⟩)] w fun e w' => e = .returned (.bool true) ∧ w = w' := by
  go_enter Try.func31, Try.ntmps31
  go_wp2
  go_ret
  exact ⟨rfl, rfl⟩
set_option maxRecDepth 50000 in
set_option maxHeartbeats 1000000 in
theorem exists_nil (w : World) :
    Calls Try.prog 31 #[.pointer none] w fun e w' => e = .returned (.bool false) ∧ w = w' := by
  go_enter Try.func31, Try.ntmps31
  go_wp2
  go_ret
  exact ⟨rfl, rfl⟩
set_option maxRecDepth 50000 in
set_option maxHeartbeats 1000000 in
theorem len_any (p n c : Nat) (A : Option Addr) (w : World) (c0 : w.cell? ⟨p, 0, none⟩ = some (.bool true)) (c1 : w.cell? ⟨p, 1, none⟩ = some (.slice A n c)) :
    Calls Try.prog 10 #[.pointer (some ⟨p, 0, none⟩)] w fun e w' => e = .returned (.int .i64 n) ∧ w = w' := by
  go_enter Try.func10, Try.ntmps10
  go_wp2_with (go_at_call 31; refine (exists_any p _ c0).mono ?_; rintro e w2 ⟨rfl, rfl⟩)
  go_ret
  exact ⟨rfl, rfl⟩
set_option maxRecDepth 50000 in
set_option maxHeartbeats 1000000 in
theorem len_nil (w : World) :
    Calls Try.prog 10 #[.pointer none] w fun e w' => e = .returned (.int .i64 0) ∧ w = w' := by
  go_enter Try.func10, Try.ntmps10
  go_wp2_with (go_at_call 31; refine (exists_nil _).mono ?_; rintro e w2 ⟨rfl, rfl⟩)
  go_ret
  exact ⟨rfl, rfl⟩
set_option maxRecDepth 50000 in
set_option maxHeartbeats 1000000 in
theorem has_any (p n c : Nat) (A : Option Addr) (k : Int) (b : Bool) (w : World) (c0 : w.cell? ⟨p, 0, none⟩ = some (.bool true)) (c1 : w.cell? ⟨p, 1, none⟩ = some (.slice A n c)) (hb : Hid (b = decide (0 ≤ k ∧ k < n))) :
    Calls Try.prog 48 #[.pointer (some ⟨p, 0, none⟩), .int .i64 k] w fun e w' => e = .returned (.bool b) ∧ w = w' := by
  by_cases h0 : 0 ≤ k
  · by_cases h1 : k < n
    · obtain rfl : b = true := by rw [hb.out]; exact decide_eq_true ⟨h0, h1⟩
      go_enter Try.func48, Try.ntmps48
      go_wp2_with (go_at_call 10; refine (len_any p n c A _ c0 c1).mono ?_; rintro e w2 ⟨rfl, rfl⟩)
      go_ret
      exact ⟨rfl, rfl⟩
    · obtain rfl : b = false := by rw [hb.out]; exact decide_eq_false (fun h => h1 h.2)
      go_enter Try.func48, Try.ntmps48
      go_wp2_with (go_at_call 10; refine (len_any p n c A _ c0 c1).mono ?_; rintro e w2 ⟨rfl, rfl⟩)
      go_ret
      exact ⟨congrArg _ (congrArg _ (decide_eq_false (Int.not_lt.2 h1))), rfl⟩
  · obtain rfl : b = false := by rw [hb.out]; exact decide_eq_false (fun h => h0 h.1)
    go_enter Try.func48, Try.ntmps48
    go_wp2_with (go_at_call 10; refine (len_any p n c A _ c0 c1).mono ?_; rintro e w2 ⟨rfl, rfl⟩)
    go_ret
    exact ⟨rfl, rfl⟩
set_option maxRecDepth 50000 in
set_option maxHeartbeats 1000000 in
theorem has_nil (k : Int) (w : World) :
    Calls Try.prog 48 #[.pointer none, .int .i64 k] w fun e w' => e = .returned (.bool false) ∧ w = w' := by
  by_cases h0 : 0 ≤ k
  · have h1 : ¬ k < 0 := by omega
    go_enter Try.func48, Try.ntmps48
    go_wp2_with (go_at_call 10; refine (len_nil _).mono ?_; rintro e w2 ⟨rfl, rfl⟩)
    go_ret
    exact ⟨congrArg _ (congrArg _ (decide_eq_false (Int.not_lt.2 h1))), rfl⟩
  · go_enter Try.func48, Try.ntmps48
    go_wp2_with (go_at_call 10; refine (len_nil _).mono ?_; rintro e w2 ⟨rfl, rfl⟩)
    go_ret
    exact ⟨rfl, rfl⟩
set_option maxRecDepth 50000 in
set_option maxHeartbeats 1000000 in
theorem isSort_any (k : Int) (b : Bool) (w : World) (hb : Hid (b = decide (1 ≤ k ∧ k ≤ 4))) :
    Calls Try.prog 37 #[.int .i64 k] w fun e w' => e = .returned (.bool b) ∧ w = w' := by
  by_cases h0 : 1 ≤ k
  · by_cases h1 : k ≤ 4
    · obtain rfl : b = true := by rw [hb.out]; exact decide_eq_true ⟨h0, h1⟩
      go_enter Try.func37, Try.ntmps37
      go_wp2
      go_ret
      exact ⟨rfl, rfl⟩
    · obtain rfl : b = false := by rw [hb.out]; exact decide_eq_false (fun h => h1 h.2)
      go_enter Try.func37, Try.ntmps37
      go_wp2
      go_ret
      exact ⟨rfl, rfl⟩
  · obtain rfl : b = false := by rw [hb.out]; exact decide_eq_false (fun h => h0 h.1)
    go_enter Try.func37, Try.ntmps37
    go_wp2
    go_ret
    exact ⟨rfl, rfl⟩
/-- The terms of a row, one by one. -/
def TRow (w : World) (A : Option Addr) (L : List T3) : Prop := 0 < L.length → ∃ g, A = some ⟨g, 0, none⟩ ∧ g < w.heap.size ∧ ∀ i t, L[i]? = some t → w.cell? ⟨g, i * 3, none⟩ = some (.int .i64 t.1) ∧ w.cell? ⟨g, i * 3 + 1, none⟩ = some (.int .i64 t.2.1) ∧ w.cell? ⟨g, i * 3 + 2, none⟩ = some (.int .i64 t.2.2)
set_option maxRecDepth 50000 in
theorem trow_of {w : World} {base : Nat} {A : Option Addr} {n c : Nat} {L : List T3} (h : w.ownsRow base 50 3 (.slice A n c) L.length (flat L)) : TRow w A L := fun hp => by
  rcases h.2 with ⟨hv, hn⟩ | ⟨g, cap, cur, hv, hb, hg, hn, hm, hs, ht⟩
  · omega
  · injection hv with h1 h2 h3
    refine ⟨g, h1, (Array.getElem?_eq_some_iff.1 hg).1, fun i t hi => ?_⟩
    have hx := flat_at L i t hi
    have hil := (List.getElem?_eq_some_iff.1 hi).1
    have key : ∀ j v, j < L.length * 3 → (flat L)[j]? = some v → w.cell? ⟨g, j, none⟩ = some v := fun j v hj hv => by
      have e : cur[j]? = some v := by
        rw [← ht, List.getElem?_take, if_pos hj] at hv
        simpa using hv
      simp [World.cell?, hg, e]
    exact ⟨key _ _ (by omega) hx.1, key _ _ (by omega) hx.2.1, key _ _ (by omega) hx.2.2⟩
set_option maxRecDepth 50000 in
set_option maxHeartbeats 2000000 in
theorem is_any (p c : Nat) (A : Option Addr) (L : List T3) (k kd : Int) (b : Bool) (w : World) (hc : L.length ≤ c) (hc2 : c ≤ maxLen) (c0 : w.cell? ⟨p, 0, none⟩ = some (.bool true)) (c1 : w.cell? ⟨p, 1, none⟩ = some (.slice A L.length c)) (hA : TRow w A L)
    (hb : Hid (b = decide (0 ≤ k ∧ k < L.length ∧ (L.getD k.toNat (0, 0, 0)).1 = kd))) :
    Calls Try.prog 50 #[.pointer (some ⟨p, 0, none⟩), .int .i64 k, .int .i64 kd] w fun e w' => e = .returned (.bool b) ∧ w = w' := by
  by_cases h0 : 0 ≤ k ∧ k < L.length
  · have H0 : Hid (true = decide (0 ≤ k ∧ k < L.length)) := hid (decide_eq_true h0).symm
    obtain ⟨n, rfl⟩ : ∃ n : Nat, k = n := ⟨k.toNat, by omega⟩
    have hn : n < L.length := by omega
    obtain ⟨t, ht⟩ : ∃ t, L[n]? = some t := ⟨L[n], by simp [hn]⟩
    obtain ⟨g, rfl, hg, hcell⟩ := hA (by omega)
    have hx := (hcell n t ht).1
    have hd : (L.getD ((n : Int).toNat) (0, 0, 0)) = t := by simp [List.getD, ht]
    rw [hd] at hb
    have h01 := h0.1
    have h02 := h0.2
    clear hcell hd
    obtain ⟨bb, hbb⟩ : ∃ bb, (t.1 == kd) = bb := ⟨_, rfl⟩
    obtain rfl : bb = b := by
      rw [← hbb, hb.out, Bool.eq_iff_iff, beq_iff_eq, decide_eq_true_iff]
      exact ⟨fun h => ⟨h01, h02, h⟩, fun h => h.2.2⟩
    clear hb
    go_enter Try.func50, Try.ntmps50
    go_wp2_with (go_at_call 48; refine (has_any p L.length c (some ⟨g, 0, none⟩) n true _ c0 c1 H0).mono ?_; rintro e w2 ⟨rfl, rfl⟩)
    go_ret
    exact ⟨rfl, rfl⟩
  · have H0 : Hid (false = decide (0 ≤ k ∧ k < L.length)) := hid (decide_eq_false h0).symm
    obtain rfl : b = false := by rw [hb.out]; exact decide_eq_false (fun h => h0 ⟨h.1, h.2.1⟩)
    go_enter Try.func50, Try.ntmps50
    go_wp2_with (go_at_call 48; refine (has_any p L.length c A k false _ c0 c1 H0).mono ?_; rintro e w2 ⟨rfl, rfl⟩)
    go_ret
    exact ⟨rfl, rfl⟩
set_option maxRecDepth 50000 in
set_option maxHeartbeats 1000000 in
theorem is_nil (k kd : Int) (w : World) :
    Calls Try.prog 50 #[.pointer none, .int .i64 k, .int .i64 kd] w fun e w' => e = .returned (.bool false) ∧ w = w' := by
  go_enter Try.func50, Try.ntmps50
  go_wp2_with (go_at_call 48; refine (has_nil k _).mono ?_; rintro e w2 ⟨rfl, rfl⟩)
  go_ret
  exact ⟨rfl, rfl⟩
end Go.Proofs.Ytboofkmbjmnpeaa
