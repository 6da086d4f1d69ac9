/- Values as trees, what holds one in memory, and the document's functions on them. No condition. -/
import Derived.Test.YtcahcecohjohpaaDoorRows
import Derived.Test.YtcahcecohjohpaaDoorBase
import Derived.Test.YtcahcecohjohpaaDoorMath
import Derived.Deep.Slices
import Derived.Deep.Fields
import Derived.Deep.Heap
import Derived.OpenShut
namespace Go.Proofs.YtcahcecohjohpaaDoor
open Go.RowKit Go.ChangeShapes Go.WideShapes

inductive V where
  | mk (k n : Int) (b : List Int) (l : List V)

theorem V.ind {p : V → Prop} (h : ∀ k n b l, (∀ x ∈ l, p x) → p (.mk k n b l)) (v : V) : p v :=
  V.rec (motive_1 := p) (motive_2 := fun l => ∀ x ∈ l, p x) (fun k n b l ih => h k n b l ih) (by simp) (fun x l hx hl y hy => by
    rcases List.mem_cons.1 hy with rfl | hy
    · exact hx
    · exact hl y hy) v

def V.k : V → Int | .mk k _ _ _ => k
def V.n : V → Int | .mk _ n _ _ => n
def V.b : V → List Int | .mk _ _ b _ => b
def V.l : V → List V | .mk _ _ _ l => l

/-- A value's tree in memory: where its bytes and its items lie. -/
inductive Holds (S : Nat → Prop) (w : World) : V → Option Addr → Option Addr → Prop
  | nil {k n : Int} {b : List Int} {A B : Option Addr} : NumsS S w .u8 A b → Byt b → b.length ≤ maxLen → Holds S w (.mk k n b []) A B
  | items {k n : Int} {b : List Int} {l : List V} {A : Option Addr} {g off : Nat} (As Bs : Nat → Option Addr) (cs ds : Nat → Nat) : NumsS S w .u8 A b → Byt b → b.length ≤ maxLen → S g → l.length ≤ maxLen →
      (∀ i x, l[i]? = some x → w.cell? ⟨g, off + i * 4, none⟩ = some (.int .i64 x.k) ∧ w.cell? ⟨g, off + i * 4 + 1, none⟩ = some (.int .i64 x.n) ∧
        w.cell? ⟨g, off + i * 4 + 2, none⟩ = some (.slice (As i) x.b.length (cs i)) ∧ w.cell? ⟨g, off + i * 4 + 3, none⟩ = some (.slice (Bs i) x.l.length (ds i))) →
      (∀ i x, l[i]? = some x → Holds S w x (As i) (Bs i)) → Holds S w (.mk k n b l) A (some ⟨g, off, none⟩)

section
variable {D D' : Nat} {w w' : World} {v : V} {A B : Option Addr}
theorem Holds.keep {S : Nat → Prop} (h : Holds S w v A B) (hs : ∀ b, S b → w'.heap[b]? = w.heap[b]?) : Holds S w' v A B := by
  induction h with
  | nil h1 h2 hbm => exact .nil (h1.keep hs) h2 hbm
  | items As Bs cs ds h1 h2 hbm hg hm hc _ ih =>
    refine .items As Bs cs ds (h1.keep hs) h2 hbm hg hm (fun i x hx => ?_) ih
    obtain ⟨a0, a1, a2, a3⟩ := hc i x hx
    exact ⟨(cell_same (hs _ hg)).trans a0, (cell_same (hs _ hg)).trans a1, (cell_same (hs _ hg)).trans a2, (cell_same (hs _ hg)).trans a3⟩
theorem Holds.sub {S S' : Nat → Prop} (h : Holds S w v A B) (hs : ∀ b, S b → S' b) : Holds S' w v A B := by
  induction h with
  | nil h1 h2 hbm => exact .nil (h1.sub hs) h2 hbm
  | items As Bs cs ds h1 h2 hbm hg hm hc _ ih => exact .items As Bs cs ds (h1.sub hs) h2 hbm (hs _ hg) hm hc ih
theorem Holds.stay (h : Holds (fun b => b < D) w v A B) (hb : Below D w w') : Holds (fun b => b < D) w' v A B := h.keep fun b hlt => hb.block b hlt
theorem Holds.more (h : Holds (fun b => b < D) w v A B) (hD : D ≤ D') : Holds (fun b => b < D') w v A B := h.sub fun _ hb => Nat.lt_of_lt_of_le hb hD

/-- The value's memory lies below block D, which is there. -/
def Has (D : Nat) (w : World) (v : V) (A B : Option Addr) : Prop := D ≤ w.heap.size ∧ Holds (fun b => b < D) w v A B
theorem Has.grow (h : Has D w v A B) (hb : Below D w w') : Has D w' v A B := ⟨Nat.le_trans h.1 hb.size, h.2.stay hb⟩
theorem Has.stay (h : Has D w v A B) (hb : Below w.heap.size w w') : Has D w' v A B := h.grow (hb.mono h.1)
theorem Has.more (h : Has D w v A B) (h1 : D ≤ D') (h2 : D' ≤ w.heap.size) : Has D' w v A B := ⟨h2, h.2.more h1⟩
theorem Has.bytes {k n : Int} {b : List Int} {l : List V} (h : Has D w (.mk k n b l) A B) : NumsD D w .u8 A b ∧ Byt b ∧ b.length ≤ maxLen := by
  obtain ⟨_, h⟩ := h
  cases h with
  | nil h1 h2 hbm => exact ⟨h1, h2, hbm⟩
  | items As Bs cs ds h1 h2 hbm hg hm hc ih => exact ⟨h1, h2, hbm⟩
theorem Has.len {k n : Int} {b : List Int} {l : List V} (h : Has D w (.mk k n b l) A B) : l.length ≤ maxLen := by
  obtain ⟨_, h⟩ := h
  cases h with
  | nil h1 h2 hbm => simp
  | items As Bs cs ds h1 h2 hbm hg hm hc hh => exact hm
/-- One item: where it lies, and what it holds. -/
theorem Has.item {k n : Int} {b : List Int} {l : List V} (h : Has D w (.mk k n b l) A B) {i : Nat} (hi : i < l.length) :
    ∃ g off k1 n1 b1 l1 A1 c1 B1 d1, B = some ⟨g, off, none⟩ ∧ g < w.heap.size ∧ Hid (g < D) ∧ Hid (l[i]? = some (.mk k1 n1 b1 l1)) ∧ w.cell? ⟨g, off + i * 4, none⟩ = some (.int .i64 k1) ∧ w.cell? ⟨g, off + i * 4 + 1, none⟩ = some (.int .i64 n1) ∧
      w.cell? ⟨g, off + i * 4 + 2, none⟩ = some (.slice A1 b1.length c1) ∧ w.cell? ⟨g, off + i * 4 + 3, none⟩ = some (.slice B1 l1.length d1) ∧ Has D w (.mk k1 n1 b1 l1) A1 B1 := by
  obtain ⟨hD, h⟩ := h
  cases h with
  | nil h1 h2 hbm => simp at hi
  | @items _ _ _ _ _ g off As Bs cs ds h1 h2 hbm hg hm hc hh =>
    obtain ⟨x, hx⟩ : ∃ x, l[i]? = some x := ⟨_, List.getElem?_eq_getElem hi⟩
    obtain ⟨a0, a1, a2, a3⟩ := hc i x hx
    have h3 := hh i x hx
    cases x with
    | mk k1 n1 b1 l1 => exact ⟨g, off, k1, n1, b1, l1, As i, cs i, Bs i, ds i, rfl, Nat.lt_of_lt_of_le hg hD, hg, hx, a0, a1, a2, a3, hD, h3⟩
end

/-- A struct of four cells that was boxed at block w.heap.size is there, unturned, and so is all below it. -/
def Box4 (w : World) (v0 v1 v2 v3 : Value) (t : TypeId) (wr : World) : Prop := Below (w.heap.size + 1) (w.alloc (.cells #[v0, v1, v2, v3] t)) wr
section
variable {w wr w' : World} {v0 v1 v2 v3 : Value} {t : TypeId}
theorem Box4.start (w : World) (v0 v1 v2 v3 : Value) (t : TypeId) : Box4 w v0 v1 v2 v3 t (w.alloc (.cells #[v0, v1, v2, v3] t)) := Below.refl _ _
theorem Box4.lt (h : Box4 w v0 v1 v2 v3 t wr) : w.heap.size < wr.heap.size := by have := h.size; simp at this; omega
theorem Box4.next (h : Box4 w v0 v1 v2 v3 t wr) (hb : Below wr.heap.size wr w') : Box4 w v0 v1 v2 v3 t w' := by have := h.lt; exact h.trans (hb.mono (by omega))
theorem Box4.grow (h : Box4 w v0 v1 v2 v3 t wr) (hb : Below (w.heap.size + 1) wr w') : Box4 w v0 v1 v2 v3 t w' := h.trans hb
theorem Box4.below (h : Box4 w v0 v1 v2 v3 t wr) : Below w.heap.size w wr := (below_new w _).trans (h.mono (by omega))
theorem Box4.cells (h : Box4 w v0 v1 v2 v3 t wr) : wr.cell? ⟨w.heap.size, 0, none⟩ = some v0 ∧ wr.cell? ⟨w.heap.size, 1, none⟩ = some v1 ∧ wr.cell? ⟨w.heap.size, 2, none⟩ = some v2 ∧ wr.cell? ⟨w.heap.size, 3, none⟩ = some v3 := by
  refine ⟨?_, ?_, ?_, ?_⟩
  · rw [h.cell (p := ⟨w.heap.size, 0, none⟩) (by show w.heap.size < _; omega)]; go_simp
  · rw [h.cell (p := ⟨w.heap.size, 1, none⟩) (by show w.heap.size < _; omega)]; go_simp
  · rw [h.cell (p := ⟨w.heap.size, 2, none⟩) (by show w.heap.size < _; omega)]; go_simp
  · rw [h.cell (p := ⟨w.heap.size, 3, none⟩) (by show w.heap.size < _; omega)]; go_simp
end

theorem four_list {α : Type} {cs : List α} (h : cs.length = 4) : ∃ c0 c1 c2 c3, cs = [c0, c1, c2, c3] := by
  match cs, h with
  | [c0, c1, c2, c3], _ => exact ⟨c0, c1, c2, c3, rfl⟩
theorem cells25 : Tryd.prog.cellsOf 25 = 4 := by kernel_rfl
theorem cells23 : Tryd.prog.cellsOf 23 = 1 := by kernel_rfl
theorem cells22 : Tryd.prog.cellsOf 22 = 1 := by kernel_rfl
theorem cells3 : Tryd.prog.cellsOf 3 = 1 := by kernel_rfl
theorem cells5 : Tryd.prog.cellsOf 5 = 1 := by kernel_rfl

def Shown (w : World) (cs : List Value) : Prop :=
  ∃ k n b l A c B d, cs = [.int .i64 k, .int .i64 n, .slice A b.length c, .slice B l.length d] ∧ (b.length ≤ c ∧ c ≤ maxLen) ∧ Has w.heap.size w (.mk k n b l) A B ∧ (Lit.int .i64 k).wf = true ∧ (Lit.int .i64 n).wf = true

section
variable {H : Type} {enc : TypeId × Value → H} {w : World}
theorem open_bytes {base : Nat} {hd : Bool} {fuel : Nat} {cs : List Value} {x : DataW H × List MemPlace} (h : DataW.trod enc Tryd.prog w base (fun _ => true) hd fuel 22 cs = some x) :
    ∃ b A c, cs = [.slice A (b : List Int).length c] ∧ (b.length ≤ c ∧ c ≤ maxLen) ∧ Nums w .u8 A b ∧ Byt b := by
  rcases open_ints Tryd.underlying22 Tryd.underlying5 (by kernel_rfl) h with ⟨hcs, _⟩ | ⟨x, l, c, zs, hcs, _, hl, hm, hz, _, hcell, hwz⟩
  · exact ⟨[], none, 0, hcs, ⟨Nat.le_refl _, Nat.zero_le _⟩, Nums.nil, fun x hx => by cases hx⟩
  · obtain ⟨xs, rfl, h1, h2, h3, h4⟩ := Nums.opened hl hm (by simpa using hz) hcell hwz
    exact ⟨xs, some x, c, hcs, ⟨h1, h2⟩, h4, fun y hy => by have := bounds_u8 (h3 y hy); omega⟩

theorem struct_parts {base : Nat} {sp : Nat → Bool} {hd : Bool} {fuel : Nat} {cs : List Value} {x : DataW H × List MemPlace} (h : DataW.trod enc Tryd.prog w base sp hd fuel 25 cs = some x) :
    ∃ v0 v1 v2 v3 y0 y1 y2 y3 n, fuel = n + 1 ∧ cs = [v0, v1, v2, v3] ∧ DataW.trod enc Tryd.prog w base sp hd n 3 [v0] = some y0 ∧ DataW.trod enc Tryd.prog w base sp hd n 3 [v1] = some y1 ∧
      DataW.trod enc Tryd.prog w base sp hd n 22 [v2] = some y2 ∧ DataW.trod enc Tryd.prog w base sp hd n 23 [v3] = some y3 := by
  obtain ⟨xs, n, hn, _, hlen, hxs, hf⟩ := DataW.trod_struct Tryd.underlying25 h
  rw [cells25] at hlen
  obtain ⟨v0, v1, v2, v3, rfl⟩ := four_list hlen
  have hxs' : xs.length = 4 := hxs
  obtain ⟨y0, y1, y2, y3, rfl⟩ := four_list hxs'
  have f0 : DataW.trod enc Tryd.prog w base sp hd n 3 (([v0, v1, v2, v3].drop 0).take (Tryd.prog.cellsOf 3)) = [y0, y1, y2, y3][0]? := hf 0 _ rfl
  have f1 : DataW.trod enc Tryd.prog w base sp hd n 3 (([v0, v1, v2, v3].drop 1).take (Tryd.prog.cellsOf 3)) = [y0, y1, y2, y3][1]? := hf 1 _ rfl
  have f2 : DataW.trod enc Tryd.prog w base sp hd n 22 (([v0, v1, v2, v3].drop 2).take (Tryd.prog.cellsOf 22)) = [y0, y1, y2, y3][2]? := hf 2 _ rfl
  have f3 : DataW.trod enc Tryd.prog w base sp hd n 23 (([v0, v1, v2, v3].drop 3).take (Tryd.prog.cellsOf 23)) = [y0, y1, y2, y3][3]? := hf 3 _ rfl
  rw [cells3] at f0 f1
  rw [cells22] at f2
  rw [cells23] at f3
  exact ⟨v0, v1, v2, v3, y0, y1, y2, y3, n, hn, rfl, f0, f1, f2, f3⟩

/-- What an argument's reading gives: a tree. -/
theorem open_val {base : Nat} {hd : Bool} : ∀ (fuel : Nat) (cs : List Value) (x : DataW H × List MemPlace), DataW.trod enc Tryd.prog w base (fun _ => true) hd fuel 25 cs = some x → Shown w cs := by
  intro fuel
  induction fuel using Nat.strongRecOn with
  | _ fuel ih =>
    intro cs x h
    obtain ⟨v0, v1, v2, v3, y0, y1, y2, y3, n, hn, rfl, f0, f1, f2, f3⟩ := struct_parts h
    obtain ⟨k, e0, _, w0⟩ := DataW.trod_int Tryd.underlying3 f0
    obtain ⟨m, e1, _, w1⟩ := DataW.trod_int Tryd.underlying3 f1
    obtain ⟨b, A, c, e2, hc, hN, hB⟩ := open_bytes f2
    simp only [List.cons.injEq, and_true] at e0 e1 e2
    subst e0; subst e1; subst e2
    rcases DataW.trod_slice Tryd.underlying23 f3 with ⟨e3, _⟩ | ⟨a, len, cap, elems, rest, n', hn', e3, _, hb, hl, hm, hel, hat, hsp, _⟩
    · simp only [List.cons.injEq, and_true] at e3
      subst e3
      exact ⟨k, m, b, [], A, c, none, 0, rfl, hc, ⟨Nat.le_refl _, .nil hN hB (by omega)⟩, w0, w1⟩
    · simp only [List.cons.injEq, and_true] at e3
      subst e3
      have each : ∀ i, i < len → ∃ cs', (∀ j, j < 4 → w.cell? ((a.add (i * 4)).add j) = cs'[j]?) ∧ cs'.length = 4 ∧ Shown w cs' := by
        intro i hi
        have h1 := hat i hi
        rw [List.getElem?_eq_getElem (by omega), Option.bind_eq_some_iff] at h1
        obtain ⟨cs', hc1, hc2⟩ := h1
        obtain ⟨_, h3, h4⟩ := World.cells?_some hc1
        rw [cells25] at h3 h4
        exact ⟨cs', h4, h3, ih n' (by omega) cs' _ hc2⟩
      by_cases h0 : len = 0
      · subst h0
        exact ⟨k, m, b, [], A, c, some a, cap, rfl, hc, ⟨Nat.le_refl _, .nil hN hB (by omega)⟩, w0, w1⟩
      · obtain ⟨g, off, spot⟩ := a
        obtain ⟨cs0, hc0, hc4, _⟩ := each 0 (by omega)
        have hc00 := hc0 0 (by omega)
        rw [List.getElem?_eq_getElem (by omega)] at hc00
        have hspot : spot = none := by simpa [Addr.add] using World.cell?_spot hc00
        subst hspot
        have hg : g < w.heap.size := World.block_lt_of_cell? _ _ (show w.cell? ⟨g, off, none⟩ = some _ by simpa [Addr.add] using hc00)
        have each2 : ∀ i, i < len → ∃ y : V × Option Addr × Nat × Option Addr × Nat, w.cell? ⟨g, off + i * 4, none⟩ = some (.int .i64 y.1.k) ∧ w.cell? ⟨g, off + i * 4 + 1, none⟩ = some (.int .i64 y.1.n) ∧
            w.cell? ⟨g, off + i * 4 + 2, none⟩ = some (.slice y.2.1 y.1.b.length y.2.2.1) ∧ w.cell? ⟨g, off + i * 4 + 3, none⟩ = some (.slice y.2.2.2.1 y.1.l.length y.2.2.2.2) ∧ Has w.heap.size w y.1 y.2.1 y.2.2.2.1 := by
          intro i hi
          obtain ⟨cs', h4, h3, k1, n1, b1, l1, A1, c1, B1, d1, rfl, _, hh, _, _⟩ := each i hi
          simp only [add_plain] at h4
          exact ⟨(.mk k1 n1 b1 l1, A1, c1, B1, d1), h4 0 (by omega), h4 1 (by omega), h4 2 (by omega), h4 3 (by omega), hh⟩
        have : Inhabited V := ⟨.mk 0 0 [] []⟩
        obtain ⟨y, hy⟩ := Go.Deep.choose_lt each2
        have hL : ((List.range len).map fun i => (y i).1).length = len := by simp
        have hget : ∀ i x, ((List.range len).map fun i => (y i).1)[i]? = some x → i < len ∧ x = (y i).1 := by
          intro i x hx
          have hi : i < len := by have := (List.getElem?_eq_some_iff.1 hx).1; rwa [hL] at this
          refine ⟨hi, ?_⟩
          simp [hi] at hx
          exact hx.symm
        refine ⟨k, m, b, (List.range len).map fun i => (y i).1, A, c, some ⟨g, off, none⟩, cap, by rw [hL], hc, ?_, w0, w1⟩
        refine ⟨Nat.le_refl _, .items (fun i => (y i).2.1) (fun i => (y i).2.2.2.1) (fun i => (y i).2.2.1) (fun i => (y i).2.2.2.2) hN hB (by omega) hg (by rw [hL]; omega) (fun i x hx => ?_) (fun i x hx => ?_)⟩
        · obtain ⟨hi, rfl⟩ := hget i x hx
          obtain ⟨a0, a1, a2, a3, _⟩ := hy i hi
          exact ⟨a0, a1, a2, a3⟩
        · obtain ⟨hi, rfl⟩ := hget i x hx
          exact (hy i hi).2.2.2.2.2
end
end Go.Proofs.YtcahcecohjohpaaDoor
