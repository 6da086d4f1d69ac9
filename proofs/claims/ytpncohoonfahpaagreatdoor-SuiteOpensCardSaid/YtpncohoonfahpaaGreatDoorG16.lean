/- Texts of this proof, laid together: TBase, UDraw. -/
import Derived.Test.YtpncohoonfahpaaGreatDoorMRowM
import Derived.Test.YtpncohoonfahpaaGreatDoorRows
import Derived.Maps.OwnSet
import Derived.Maps.AppendAt
import Derived.DeepKeys4
import Derived.Laws.BytesString
import Derived.Laws.IdiomStrings
import Derived.Lib.ConvBytes
import Derived.Test.YtpncohoonfahpaaGreatDoorG10
import Derived.Test.YtpncohoonfahpaaGreatDoorG15
import Derived.Deep.Cut
/- The store of terms in memory: blocks of cells, rows of terms, keys of terms. -/
namespace Go.Proofs.YtpncohoonfahpaaGreatDoor
open Go Go.RowKit Go.Maps

/-- The cells of a block, all of them; none is frozen. -/
def Blk (w : World) (b : Nat) (t : TypeId) (cs : List Value) : Prop := w.heap[b]? = some (.cells cs.toArray t (0, 0))
section
variable {w w' : World} {b : Nat} {t : TypeId} {cs : List Value}
set_option maxRecDepth 50000 in
theorem Blk.lt (h : Blk w b t cs) : b < w.heap.size := (Array.getElem?_eq_some_iff.1 h).1
set_option maxRecDepth 50000 in
theorem Blk.cell (h : Blk w b t cs) {i : Nat} {v : Value} (hi : cs[i]? = some v) : w.cell? ⟨b, i, none⟩ = some v := by
  simp [World.cell?, show w.heap[b]? = _ from h, hi]
set_option maxRecDepth 50000 in
theorem Blk.free (h : Blk w b t cs) (i : Nat) : w.frozen? ⟨b, i, none⟩ = false := by simp [World.frozen?, show w.heap[b]? = _ from h]
set_option maxRecDepth 50000 in
theorem Blk.new (w : World) (t : TypeId) (cs : List Value) : Blk (w.alloc (.cells cs.toArray t)) w.heap.size t cs := heap_alloc_new w _
set_option maxRecDepth 50000 in
theorem Blk.same (h : Blk w b t cs) (he : w'.heap[b]? = w.heap[b]?) : Blk w' b t cs := he.trans h
set_option maxRecDepth 50000 in
theorem Blk.set (h : Blk w b t cs) (i : Nat) (v : Value) : Blk (w.setCell ⟨b, i, none⟩ v) b t (cs.set i v) := by
  obtain ⟨hlt, hk⟩ := Array.getElem?_eq_some_iff.1 h
  show (w.heap.modify b _)[b]? = _
  rw [Array.getElem?_eq_getElem (by rw [Array.size_modify]; exact hlt), Array.getElem_modify_self, hk]
  simp
set_option maxRecDepth 50000 in
theorem Blk.other (h : Blk w b t cs) {a : Addr} (ha : a.block ≠ b) (v : Value) : Blk (w.setCell a v) b t cs := h.same (Below.heap_setCell _ _ _ _ (Ne.symm ha))
set_option maxRecDepth 50000 in
theorem Blk.rw (h : Blk w b t cs) : Rw w b 0 cs := fun i v hi => by rw [Nat.zero_add]; exact ⟨h.cell hi, h.free i⟩
set_option maxRecDepth 50000 in
theorem Blk.next (h : Blk w b t cs) (hb : Below w.heap.size w w') : Blk w' b t cs := h.same (hb.block b h.lt)
end

/-- From w to w' only blocks of G have turned, and new ones. -/
structure Chg (G : Nat → Prop) (w w' : World) : Prop where
  os : w'.os = w.os
  tape : w'.tape = w.tape
  output : w'.output = w.output
  size : w.heap.size ≤ w'.heap.size
  block : ∀ k, k < w.heap.size → ¬ G k → w'.heap[k]? = w.heap[k]?
section
variable {G H : Nat → Prop} {a w w' : World}
set_option maxRecDepth 50000 in
theorem Chg.refl (G : Nat → Prop) (w : World) : Chg G w w := ⟨rfl, rfl, rfl, Nat.le_refl _, fun _ _ _ => rfl⟩
set_option maxRecDepth 50000 in
theorem Chg.trans (h : Chg G a w) (k : Chg H w w') (hh : ∀ b, b < a.heap.size → H b → G b) : Chg G a w' :=
  ⟨k.os.trans h.os, k.tape.trans h.tape, k.output.trans h.output, Nat.le_trans h.size k.size, fun i hi hn => (k.block i (Nat.lt_of_lt_of_le hi h.size) (fun e => hn (hh i hi e))).trans (h.block i hi hn)⟩
set_option maxRecDepth 50000 in
theorem Chg.sub (h : Chg G w w') (hh : ∀ b, b < w.heap.size → G b → H b) : Chg H w w' := ⟨h.os, h.tape, h.output, h.size, fun i hi hn => h.block i hi (fun e => hn (hh i hi e))⟩
set_option maxRecDepth 50000 in
theorem Chg.of (h : Below w.heap.size w w') (G : Nat → Prop) : Chg G w w' := ⟨h.os, h.tape, h.output, h.size, fun k hk _ => h.block k hk⟩
set_option maxRecDepth 50000 in
theorem Chg.next (h : Chg G a w) (k : Below w.heap.size w w') : Chg G a w' := h.trans (Chg.of k (fun _ => False)) (fun _ _ e => e.elim)
set_option maxRecDepth 50000 in
theorem Chg.below (h : Chg G w w') {B : Nat} (hB : B ≤ w.heap.size) (hG : ∀ b, G b → B ≤ b) : Below B w w' := ⟨h.os, h.tape, h.output, h.size, fun k hk => h.block k (by omega) (fun e => by have := hG k e; omega)⟩
set_option maxRecDepth 50000 in
theorem Chg.drew (h : Chg G a w) : Chg G a w.drew := ⟨h.os, h.tape, h.output, h.size, h.block⟩
set_option maxRecDepth 50000 in
theorem Chg.alloc (h : Chg G a w) (o : Obj) : Chg G a (w.alloc o) := h.next (below_new w o)
set_option maxRecDepth 50000 in
theorem Chg.setCell (h : Chg G a w) {p : Addr} (hp : G p.block ∨ a.heap.size ≤ p.block) (v : Value) : Chg G a (w.setCell p v) :=
  ⟨h.os, h.tape, h.output, by simp [World.setCell]; exact h.size, fun k hk hn => (Below.heap_setCell _ _ _ _ (by rintro rfl; rcases hp with e | e; exact hn e; omega)).trans (h.block k hk hn)⟩
set_option maxRecDepth 50000 in
theorem Chg.grown (h : Chg G a w) {row : Option Nat} (hg : w.grownBy w' row) (hr : ∀ g, row = some g → G g ∨ a.heap.size ≤ g) : Chg G a w' :=
  ⟨hg.os.trans h.os, hg.tape.trans h.tape, hg.output.trans h.output, Nat.le_trans h.size hg.size, fun k hk hn => (hg.block k (Nat.lt_of_lt_of_le hk h.size) (fun e => by rcases hr k e.symm with e | e; exact hn e; omega)).trans (h.block k hk hn)⟩
end
set_option maxRecDepth 50000 in
theorem row_chg {G : Nat → Prop} {w w' : World} {base : Nat} {e : TypeId} {size : Nat} {v : Value} {n : Nat} {xs : List Value} (h : w.ownsRow base e size v n xs) (hc : Chg G w w') (hv : ∀ g, v.ownBlock = some g → ¬ G g) : w'.ownsRow base e size v n xs := by
  refine ⟨h.1, ?_⟩
  rcases h.2 with h2 | ⟨g, cap, cur, rfl, hb, hg, r⟩
  · exact .inl h2
  · exact .inr ⟨g, cap, cur, rfl, hb, (hc.block g (Array.getElem?_eq_some_iff.1 hg).1 (hv g rfl)).trans hg, r⟩
set_option maxRecDepth 50000 in
theorem map_chg {G : Nat → Prop} {H : Type} {w w' : World} {P : Program} {k : TypeId} {R : Value → Option (DataW H × List MemPlace)} {b n : Nat} {D : DataW H} (h : w.ownsMap P k R b n D) (hc : Chg G w w') (hb : ¬ G b) : w'.ownsMap P k R b n D := by
  obtain ⟨es, clock, hh, r⟩ := h
  exact ⟨es, clock, (hc.block b (Array.getElem?_eq_some_iff.1 hh).1 hb).trans hh, r⟩
set_option maxRecDepth 50000 in
theorem Blk.chg {G : Nat → Prop} {w w' : World} {b : Nat} {t : TypeId} {cs : List Value} (h : Blk w b t cs) (hc : Chg G w w') (hb : ¬ G b) : Blk w' b t cs := h.same (hc.block b h.lt hb)
set_option maxRecDepth 50000 in
theorem rowlt {w : World} {base : Nat} {e : TypeId} {size : Nat} {v : Value} {n : Nat} {xs : List Value} (h : w.ownsRow base e size v n xs) : ∀ g, v.ownBlock = some g → g < w.heap.size := fun g hg => (h.lt g hg).2

/-- A term: kind, A, B. -/
abbrev T3 := Int × Int × Int
set_option maxRecDepth 50000 in
theorem ec (a : Act) : ∀ c, a.eval (.const c) = c := fun _ => rfl
def tc (t : T3) : List Value := [.int .i64 t.1, .int .i64 t.2.1, .int .i64 t.2.2]
def tv (t : T3) : Value := .agg #[.int .i64 t.1, .int .i64 t.2.1, .int .i64 t.2.2]
def flatZ (L : List T3) : List Value := L.flatMap tc
set_option maxRecDepth 50000 in
theorem flat_appZ (L M : List T3) : flatZ (L ++ M) = flatZ L ++ flatZ M := by simp [flatZ]
set_option maxRecDepth 50000 in
theorem flat_one (t : T3) : flatZ [t] = tc t := by simp [flatZ]
set_option maxRecDepth 50000 in
theorem flat_length : ∀ L : List T3, (flatZ L).length = L.length * 3
  | [] => rfl
  | t :: L => by
    have := flat_length L
    simp [flatZ, tc] at this ⊢
    omega
set_option maxRecDepth 50000 in
theorem flat_at : ∀ (L : List T3) (i : Nat) (t : T3), L[i]? = some t → (flatZ L)[i * 3]? = some (.int .i64 t.1) ∧ (flatZ L)[i * 3 + 1]? = some (.int .i64 t.2.1) ∧ (flatZ L)[i * 3 + 2]? = some (.int .i64 t.2.2)
  | [], i, t, h => by simp at h
  | u :: L, 0, t, h => by
    simp at h; subst h
    simp [flatZ, tc]
  | u :: L, i + 1, t, h => by
    have := flat_at L i t (by simpa using h)
    have e : flatZ (u :: L) = .int .i64 u.1 :: .int .i64 u.2.1 :: .int .i64 u.2.2 :: flatZ L := by simp [flatZ, tc]
    rw [e, show (i + 1) * 3 = i * 3 + 1 + 1 + 1 by omega]
    simpa using this
/-- Numbers that a term may hold. -/
def Twf (t : T3) : Prop := (Lit.int .i64 t.1).wf = true ∧ (Lit.int .i64 t.2.1).wf = true ∧ (Lit.int .i64 t.2.2).wf = true

set_option maxRecDepth 50000 in
theorem laidOutT : laidOutB Tryz.prog = true := by kernel_rfl
set_option maxRecDepth 50000 in
theorem rowT : (65 : TypeId) < Tryz.prog.types.size := of_decide_eq_true (by kernel_rfl)
set_option maxRecDepth 50000 in
theorem wideT : (match Tryz.prog.underlying 65 with | some (.array _ _) | some (.struct _) => true | _ => false) = true := by kernel_rfl
set_option maxRecDepth 50000 in
theorem lawT : Keyed Tryz.prog 65 := Keyed.of_law (deep_law_laid laidOutT (m := 3) (by omega) rowT (by kernel_rfl) wideT)
set_option maxRecDepth 50000 in
theorem lawX : Keyed Tryz.prog 9 := string_keyed Tryz.underlying9
set_option maxRecDepth 50000 in
theorem keyT : Tryz.prog.keyType 65 = true := by kernel_rfl
set_option maxRecDepth 50000 in
theorem cellsT : Tryz.prog.cellsOf 65 = 3 := by kernel_rfl
set_option maxRecDepth 50000 in
theorem cells3 : Tryz.prog.cellsOf 3 = 1 := by kernel_rfl
set_option maxRecDepth 50000 in
theorem tsize : ∃ m, Tryz.prog.types.size + 1 = m + 1 + 1 := ⟨Tryz.prog.types.size - 1, by have h : (65 : Nat) < Tryz.prog.types.size := rowT; generalize Tryz.prog.types.size = q at h ⊢; omega⟩
def tl (t : T3) : List Lit := [.int .i64 t.1, .int .i64 t.2.1, .int .i64 t.2.2]
/-- What a term reads as, as a key. -/
def tk (t : T3) : Lit := .string (keyBytes (tl t))
set_option maxRecDepth 50000 in
theorem key_of (t : T3) (h : Twf t) : keyOf Tryz.prog 65 (tv t) = some (tk t) := by
  obtain ⟨m, hm⟩ := tsize
  obtain ⟨h1, h2, h3⟩ := h
  have hf : (tv t).formed Tryz.prog 65 = true := by
    simp [tv, Value.formed, Tryz.underlying65, cellsT]
  have hl : Tryz.prog.keyLits (Tryz.prog.types.size + 1) 65 (tv t).cells.toList = some (tl t) := by
    rw [hm]
    simp [Program.keyLits, Tryz.underlying65, cellsT, tv, Value.cells, cells3, Tryz.underlying3, h1, h2, h3, tl]
  unfold keyOf
  simp only [Tryz.underlying65, keyT, hf, hl]
  rfl
set_option maxRecDepth 50000 in
theorem tv_inj {t u : T3} (h : tv t = tv u) : t = u := by
  obtain ⟨a, b, c⟩ := t
  obtain ⟨a', b', c'⟩ := u
  simp [tv] at h
  simp [h]
set_option maxRecDepth 50000 in
theorem tk_inj {t u : T3} (h : Twf t) (k : Twf u) (e : tk t = tk u) : t = u := tv_inj (lawT.inj (key_of t h) (by rw [e]; exact key_of u k))
set_option maxRecDepth 50000 in
theorem tk_key (t : T3) : WideAt.IsKeyLit (tk t) := trivial
end Go.Proofs.YtpncohoonfahpaaGreatDoor

/- A suite of bytes in memory; its draws. -/
namespace Go.Proofs.YtpncohoonfahpaaGreatDoor
open Go Go.RowKit

/-- A suite of bytes at q: its seed, its draws. -/
structure IsB (w : World) (q : Nat) (seed : List Int) (n : Nat) : Prop where
  tag : w.cell? ⟨q, 0, none⟩ = some (.int .i64 1)
  seed : Rw w q 1 (ints .u8 seed)
  draws : Rw w q 33 [.int .i64 n]
section
variable {w w' : World} {q n : Nat} {seed : List Int}
set_option maxRecDepth 50000 in
theorem IsB.lt (h : IsB w q seed n) : q < w.heap.size := World.block_lt_of_cell? w _ h.tag
set_option maxRecDepth 50000 in
theorem IsB.next (h : IsB w q seed n) (hb : Below w.heap.size w w') : IsB w' q seed n := ⟨(hb.cell (p := ⟨q, 0, none⟩) h.lt).trans h.tag, h.seed.next hb, h.draws.next hb⟩
set_option maxRecDepth 50000 in
theorem IsB.same (h : IsB w q seed n) (he : w'.heap[q]? = w.heap[q]?) : IsB w' q seed n := ⟨(cell_same (h := he)).trans h.tag, h.seed.same he, h.draws.same he⟩
end
set_option maxRecDepth 50000 in
theorem Chg.up {w w' : World} {B : Nat} (h : Below B w w') : Chg (fun b => B ≤ b) w w' := ⟨h.os, h.tape, h.output, h.size, fun k _ hn => h.block k (Nat.lt_of_not_le hn)⟩
def drawS : ByteArray := { data := #[100, 114, 97, 119] }
/-- The n-th draw of a seed. -/
def drawL (seed : List Int) (n : Nat) : List Int := keyD seed (strL drawS) [splitB true 8 [(n : Int)]]
set_option maxRecDepth 50000 in
theorem parts_new1 (w : World) (p : Part) (m : Nat) (h1 : p.2.2.length = m) : Parts (w.alloc (.cells #[.slice p.1 m p.2.1] 23)) (some ⟨w.heap.size, 0, none⟩) [p] := fun _ =>
  ⟨w.heap.size, 0, rfl, by simp, fun j q hj => by
    subst h1
    rw [Nat.zero_add, World.cell?_alloc_new]
    have hj6 := (List.getElem?_eq_some_iff.1 hj).1
    have : j = 0 := by simp at hj6; omega
    subst this
    simp at hj; subst hj; rfl⟩
set_option maxRecDepth 50000 in
set_option maxHeartbeats 4000000 in
theorem bdraw_core (seed r : List Int) (q n : Nat) (w : World) (hT : TabsH w) (hI : IsB w q seed n) (HS : Hid (seed.length = 32)) (hb : HByt seed) (hn : n ≤ 1000) (HR : Hid (keyD seed (strL { data := #[100, 114, 97, 119] }) [splitB true 8 [(n : Int)]] = r)) (HRL : Hid (r.length = 32)) :
    Calls Tryz.prog 48 #[.pointer (some ⟨q, 0, none⟩)] w fun e w' => e = .returned (.agg (ints .u8 r).toArray) ∧ Chg (fun b => b = q) w w' ∧ IsB w' q seed (n + 1) := by
  obtain ⟨z32, s32⟩ := zero_of_info infS32
  have h2 := Rw.new w (ints .u8 (hzeros 32)) 22
  have hW := below_new w (.cells (ints .u8 (hzeros 32)).toArray 22)
  have hq := hI.lt
  have hI0 := hI.next hW
  have c33 := (hI0.draws 0 _ rfl).1
  have hT0 := hT.next hW
  have hS : w.heap.size + 1 ≤ (w.alloc (.cells (ints .u8 (hzeros 32)).toArray 22)).heap.size := by simp
  have HN := hid hn
  clear hI hT hn
  have hn1 : (n : Int) + 1 = ((n + 1 : Nat) : Int) := by omega
  have HN1 := hid hn1
  clear hn1
  go_enter Tryz.func48, Tryz.ntmps48
  go_upto_region 4 with (first
    | (go_at_call 97; generalize w.alloc (.cells (ints .u8 (hzeros 32)).toArray 22) = w0 at *; refine (wput_any n 8 _ (by omega) (by omega) (fits8 (by have := HN.out; omega))).mono ?_; rintro e w1 ⟨B, d, rfl, hd, hN, hb1⟩
       have hb2 := hb1.trans (Below.mono (below_new w1 (.cells #[.slice B 8 d] 23)) hb1.size)
       have hP := parts_new1 w1 (B, d, splitB true 8 [(n : Int)]) 8 (split_len _ _ _)
       have hok : PartOk (w1.alloc (.cells #[.slice B 8 d] 23)) (B, d, splitB true 8 [(n : Int)]) := ⟨hN.nums.below (below_new w1 _), by show (splitB true 8 [(n : Int)]).length ≤ d; rw [split_len]; exact hd, by show (splitB true 8 [(n : Int)]).length ≤ 1000; rw [split_len]; omega, splitB_byt _ _ _⟩
       replace hT0 := hT0.next hb2
       replace hI0 := hI0.next hb2
       replace h2 := h2.next hb2
       replace hW := hW.trans (Below.mono hb2 hW.size)
       replace hS := Nat.le_trans hS hb2.size
       clear c33 hb1 hb2 hN)
    | (go_at_call 98; refine (key_any seed (some ⟨q, 1, none⟩) (some ⟨w1.heap.size, 0, none⟩) 32 32 1 1 { data := #[100, 114, 97, 119] } [(B, d, splitB true 8 [(n : Int)])] _ hT0 HS (by omega) (by omega) (by omega) hb hI0.seed.nums (by decide) hP (hid rfl) (by omega) (fun q' hq' => by rw [List.mem_singleton.1 hq']; exact hok)).mono ?_; rintro e w3 ⟨rfl, hb3⟩
       rw [show ([(B, d, splitB true 8 [(n : Int)])] : List Part).map (·.2.2) = [splitB true 8 [(n : Int)]] from rfl, HR.out]
       have R5 := (Rw.new w3 (ints .u8 (hzeros 32)) 22).roomA (us := ints .u8 r) ((il HRL.out).trans (il (hz_len 32)).symm)
       have X5 := (Rw.new w3 (ints .u8 (hzeros 32)) 22).storedA (us := ints .u8 r) ((il HRL.out).trans (il (hz_len 32)).symm)
       have hb5 := hb3.trans (Below.mono (Below.setCells (below_new w3 (.cells (ints .u8 (hzeros 32)).toArray 22)) (Nat.le_refl _) 0 (ints .u8 r).toArray.toList) hb3.size)
       replace hI0 := hI0.next hb5
       replace h2 := h2.next hb5
       replace hW := hW.trans (Below.mono hb5 hW.size)
       have hq5 : q < w3.heap.size := Nat.lt_of_lt_of_le (Nat.lt_of_lt_of_le hq (Nat.le_trans (Nat.le_succ _) hS)) hb3.size
       clear hb3 hb5 hP hok hT0 hS)
    | (with_reducible refine wpList_store_mid (op := ⟨none, .store 22 (.tmp 5) (.tmp 23), _, _, _, _⟩) rfl 22 (.tmp 5) (.tmp 23) rfl w3.heap.size 0 (ints .u8 r).toArray rfl rfl R5 (szA infS32 (il HRL.out)) (ints_all _ _) ?_
       generalize (w3.alloc (.cells (ints .u8 (hzeros 32)).toArray 22)).setCells w3.heap.size 0 (ints .u8 r).toArray.toList = w5 at *
       generalize w3.heap.size = b5 at *
       clear R5
       have c33 := (hI0.draws 0 _ rfl).1
       have f33 := (hI0.draws 0 _ rfl).2))
  obtain ⟨w6, hw6⟩ : ∃ w6, w5.setCell ⟨q, 33, none⟩ (.int .i64 (wrap64 ((n : Int) + 1))) = w6 := ⟨_, rfl⟩
  have hwr : wrap64 ((n : Int) + 1) = ((n + 1 : Nat) : Int) := by have := HN.out; rw [HN1.out]; unfold wrap64; omega
  have hg2 : w.heap.size < w5.heap.size := h2.lt (by rw [ints_length, hz_len]; omega)
  have hC6 : Chg (fun b => b = q) w w6 := by rw [← hw6]; exact Chg.setCell (p := ⟨q, 33, none⟩) (Chg.of hW (fun b => b = q)) (.inl rfl) _
  have hs6 : ∀ b, b ≠ q → w6.heap[b]? = w5.heap[b]? := fun b hne => by rw [← hw6]; exact Below.heap_setCell _ _ _ _ hne
  have h26 := h2.same (hs6 w.heap.size (by omega))
  have X6 := (X5.same (hs6 b5 (by omega))).range
  have hI6 : IsB w6 q seed (n + 1) := by
    refine ⟨?_, ?_, ?_⟩
    · rw [← hw6, World.cell?_setCell_other _ _ _ _ (by simp)]; exact hI0.tag
    · intro i v hi
      have hl := (List.getElem?_eq_some_iff.1 hi).1
      rw [ints_length, HS.out] at hl
      have := hI0.seed i v hi
      rw [← hw6, World.cell?_setCell_other _ _ _ _ (by simp <;> omega), World.frozen?_setCell]
      exact this
    · intro i v hi
      have hl := (List.getElem?_eq_some_iff.1 hi).1
      have : i = 0 := by simp at hl; omega
      subst this
      simp at hi; subst hi
      have hh := hI0.draws 0 _ rfl
      refine ⟨?_, ?_⟩
      · rw [← hw6, hwr]
        exact World.cell?_setCell_same _ _ _ hh.1
      · rw [← hw6, World.frozen?_setCell]; exact hh.2
  have R2 := h26.roomA (us := ints .u8 r) ((il HRL.out).trans (il (hz_len 32)).symm)
  have X2 := h26.storedA (us := ints .u8 r) ((il HRL.out).trans (il (hz_len 32)).symm)
  have hbu : Below w.heap.size w6 (w6.setCells w.heap.size 0 (ints .u8 r).toArray.toList) := Below.setCells (Below.refl _ _) (Nat.le_refl _) 0 _
  have hC7 := hC6.trans (Chg.up hbu) (fun b hb hle => absurd hb (Nat.not_lt.2 hle))
  have hI7 := hI6.same (hbu.block q hq)
  rw [hw6]
  clear hwr hg2 hC6 hs6 h26 X5 hI6 hbu h2 hI0 hW hw6 c33 f33
  go_wp2_with (first
    | (with_reducible refine wpList_load_mid (op := ⟨some 32, .load 22 (.tmp 5), _, _, _, _⟩) rfl 22 (.tmp 5) rfl b5 0 rfl (ints .u8 r) _ X6 Tryz.underlying22 rfl (szV infS32 (il HRL.out)) ?_)
    | (with_reducible refine wpList_store_mid (op := ⟨none, .store 22 (.tmp 2) (.tmp 32), _, _, _, _⟩) rfl 22 (.tmp 2) (.tmp 32) rfl w.heap.size 0 (ints .u8 r).toArray rfl rfl R2 (szA infS32 (il HRL.out)) (ints_all _ _) ?_; clear R2))
  exact ret_rows rfl w.heap.size 0 rfl (ints .u8 r) _ X2.range Tryz.underlying22 rfl (szV infS32 (il HRL.out)) rfl ⟨rfl, hC7, hI7⟩
set_option maxRecDepth 50000 in
theorem bdraw_any (seed : List Int) (q n : Nat) (w : World) (hT : TabsH w) (hI : IsB w q seed n) (hs : seed.length = 32) (hb : HByt seed) (hn : n ≤ 1000) :
    Calls Tryz.prog 48 #[.pointer (some ⟨q, 0, none⟩)] w fun e w' => e = .returned (.agg (ints .u8 (drawL seed n)).toArray) ∧ Chg (fun b => b = q) w w' ∧ IsB w' q seed (n + 1) :=
  bdraw_core seed (drawL seed n) q n w hT hI (hid hs) hb hn (hid rfl) (hid (keyD_len _ _ _))
set_option maxRecDepth 50000 in
theorem thirtytwo {α : Type} {l : List α} (h : l.length = 32) : ∃ a0 a1 a2 a3 a4 a5 a6 a7 a8 a9 a10 a11 a12 a13 a14 a15 a16 a17 a18 a19 a20 a21 a22 a23 a24 a25 a26 a27 a28 a29 a30 a31, l = [a0, a1, a2, a3, a4, a5, a6, a7, a8, a9, a10, a11, a12, a13, a14, a15, a16, a17, a18, a19, a20, a21, a22, a23, a24, a25, a26, a27, a28, a29, a30, a31] := by
  match l, h with
  | [a0, a1, a2, a3, a4, a5, a6, a7, a8, a9, a10, a11, a12, a13, a14, a15, a16, a17, a18, a19, a20, a21, a22, a23, a24, a25, a26, a27, a28, a29, a30, a31], _ => exact ⟨_, _, _, _, _, _, _, _, _, _, _, _, _, _, _, _, _, _, _, _, _, _, _, _, _, _, _, _, _, _, _, _, rfl⟩
def suC (seed : List Int) : List Value := .int .i64 1 :: ints .u8 seed ++ [.int .i64 0, .pointer none]
set_option maxRecDepth 50000 in
theorem built_su {seed : List Int} (h : seed.length = 32) : Tryz.prog.built 75 [(0, .int .i64 1), (1, .agg (ints .u8 seed).toArray)] = some (suC seed).toArray := by
  obtain ⟨a0, a1, a2, a3, a4, a5, a6, a7, a8, a9, a10, a11, a12, a13, a14, a15, a16, a17, a18, a19, a20, a21, a22, a23, a24, a25, a26, a27, a28, a29, a30, a31, rfl⟩ := thirtytwo h
  kernel_rfl
set_option maxRecDepth 50000 in
set_option maxHeartbeats 4000000 in
theorem bytes_core (seed : List Int) (cs : List Value) (w : World) (HS : Hid (seed.length = 32)) (HC : Hid (suC seed = cs)) :
    Calls Tryz.prog 9 #[.agg (ints .u8 seed).toArray] w fun e w' => ∃ q, e = .returned (.pointer (some ⟨q, 0, none⟩)) ∧ Below w.heap.size w w' ∧ Rw w' q 0 cs ∧ w.heap.size ≤ q := by
  have h1 := (Rw.new w (ints .u8 seed) 22).range
  have hW := below_new w (.cells (ints .u8 seed).toArray 22)
  have hB := built_su HS.out
  rw [HC.out] at hB
  go_enter Tryz.func9, Tryz.ntmps9
  go_wp2_with (first
    | (with_reducible refine wpList_load_mid (op := ⟨some 3, .load 22 (.tmp 1), _, _, _, _⟩) rfl 22 (.tmp 1) rfl w.heap.size 0 rfl (ints .u8 seed) _ h1 Tryz.underlying22 rfl (szV infS32 (il HS.out)) ?_
       generalize w.alloc (.cells (ints .u8 seed).toArray 22) = w1 at *)
    | (refine wpList_build_eq (o := ⟨some 4, .build 75 #[(0, .const (.int .i64 1)), (1, .tmp 3)], _, _, _, _⟩) rfl 75 #[(0, .const (.int .i64 1)), (1, .tmp 3)] rfl cs.toArray ?hb ?_; (case hb => (simp only [List.map_toArray, List.map_cons, List.map_nil]; exact hB))))
  go_ret
  exact ⟨_, rfl, hW.trans (Below.mono (below_new w1 _) hW.size), Rw.new w1 cs 75, hW.size⟩
set_option maxRecDepth 50000 in
theorem bytes_any (seed : List Int) (w : World) (hs : seed.length = 32) :
    Calls Tryz.prog 9 #[.agg (ints .u8 seed).toArray] w fun e w' => ∃ q, e = .returned (.pointer (some ⟨q, 0, none⟩)) ∧ Below w.heap.size w w' ∧ IsB w' q seed 0 ∧ w.heap.size ≤ q := by
  refine (bytes_core seed (suC seed) w (hid hs) (hid rfl)).mono ?_
  rintro e w' ⟨q, rfl, hb, hR, hq⟩
  have hR' : Rw w' q 0 ([.int .i64 1] ++ (ints .u8 seed ++ ([.int .i64 0] ++ [.pointer none]))) := hR
  have h2 := hR'.right (o' := 1) rfl
  exact ⟨q, rfl, hb, ⟨(hR'.left 0 _ rfl).1, h2.left, (h2.right (o' := 33) (by rw [ints_length, hs])).left⟩, hq⟩
end Go.Proofs.YtpncohoonfahpaaGreatDoor
