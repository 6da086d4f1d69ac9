/- The document's disk in memory. -/
import Derived.Test.YtdfalneiapeegaaKClone
namespace Go.Proofs.Ytdfalneiapeegaa
open Go Go.RowKit Go.Maps

def footR (q : Nat) (AK AW : Option Addr) (b : Nat) : Prop := b = q ∨ (Value.slice AK 0 0).ownBlock = some b ∨ (Value.slice AW 0 0).ownBlock = some b
/-- Slices of 64 bytes each, that lie in the blocks B. -/
def TX (B : Nat → Prop) (w : World) (ps : List Value) (X : List (List Int)) : Prop := ∀ (j : Nat) (s : List Int), X[j]? = some s → ∃ A c, ps[j]? = some (.slice A 64 c) ∧ NumsS B w .u8 A s
def TW (B : Nat → Prop) (w : World) (ws : List Value) (W : List (Nat × List Int)) : Prop := ∀ (j : Nat) (x : Nat × List Int), W[j]? = some x → ∃ A c, ws[j * 2]? = some (.int .i64 (x.1 : Nat)) ∧ ws[j * 2 + 1]? = some (.slice A 64 c) ∧ NumsS B w .u8 A x.2
/-- The document's disk at q: rows of slices, whose bytes lie in the blocks B. -/
structure RT (B : Nat → Prop) (w : World) (q n : Nat) (AK : Option Addr) (cK : Nat) (AW : Option Addr) (cW : Nat) (ps ws : List Value) (K : List (List Int)) (W : List (Nat × List Int)) (f : Int) (off : Bool) (li : Int) : Prop where
  blk : Blk w q 53 [.slice AK n cK, .slice AW W.length cW, .int .i64 f, .bool off, .int .i64 li]
  rK : w.ownsRow 0 32 1 (.slice AK n cK) n ps
  rW : w.ownsRow 0 73 2 (.slice AW W.length cW) W.length ws
  nK : K.length = n
  sK : Sz K
  wW : Wok n W
  tK : TX B w ps K
  tW : TW B w ws W
  dis : ∀ b, B b → ¬ footR q AK AW b ∧ b < w.heap.size
section
variable {B B' : Nat → Prop} {w w' : World} {q n : Nat} {AK : Option Addr} {cK : Nat} {AW : Option Addr} {cW : Nat} {ps ws : List Value} {K : List (List Int)} {W : List (Nat × List Int)} {f : Int} {off : Bool} {li : Int}
theorem TX.keep {X : List (List Int)} (h : TX B w ps X) (hb : ∀ b, B b → w'.heap[b]? = w.heap[b]?) : TX B w' ps X := fun j s hj => by
  obtain ⟨A, c, h1, h2⟩ := h j s hj
  exact ⟨A, c, h1, h2.keep hb⟩
theorem TX.more {X : List (List Int)} (h : TX B w ps X) (hb : ∀ b, B b → B' b) : TX B' w ps X := fun j s hj => by
  obtain ⟨A, c, h1, h2⟩ := h j s hj
  exact ⟨A, c, h1, h2.sub hb⟩
theorem TW.keep (h : TW B w ws W) (hb : ∀ b, B b → w'.heap[b]? = w.heap[b]?) : TW B w' ws W := fun j s hj => by
  obtain ⟨A, c, h1, h2, h3⟩ := h j s hj
  exact ⟨A, c, h1, h2, h3.keep hb⟩
theorem TW.more (h : TW B w ws W) (hb : ∀ b, B b → B' b) : TW B' w ws W := fun j s hj => by
  obtain ⟨A, c, h1, h2, h3⟩ := h j s hj
  exact ⟨A, c, h1, h2, h3.sub hb⟩
theorem TX.put {X : List (List Int)} (h : TX B w ps X) {j : Nat} {A : Option Addr} {c : Nat} {s : List Int} (hl : j < ps.length) (hs : NumsS B w .u8 A s) : TX B w (ps.set j (.slice A 64 c)) (X.set j s) := fun i t hi => by
  rw [set_get] at hi
  by_cases e : j = i ∧ i < X.length
  · rw [if_pos e] at hi
    injection hi with hi
    subst hi
    exact ⟨A, c, by rw [set_get, if_pos ⟨e.1, by omega⟩], hs⟩
  · rw [if_neg e] at hi
    obtain ⟨A', c', h1, h2⟩ := h i t hi
    have hil := (List.getElem?_eq_some_iff.1 hi).1
    exact ⟨A', c', by rw [set_get, if_neg (fun e2 => e ⟨e2.1, hil⟩)]; exact h1, h2⟩
theorem RT.lt (h : RT B w q n AK cK AW cW ps ws K W f off li) : ∀ b, footR q AK AW b → b < w.heap.size := fun b hb => by
  rcases hb with rfl | e | e
  · exact h.blk.lt
  · exact rowlt h.rK b (by rw [← e]; exact own00 _ _ _)
  · exact rowlt h.rW b (by rw [← e]; exact own00 _ _ _)
theorem RT.chg {G : Nat → Prop} (h : RT B w q n AK cK AW cW ps ws K W f off li) (hc : Chg G w w') (hG : ∀ b, footR q AK AW b → ¬ G b) (hB : ∀ b, B b → ¬ G b) : RT B w' q n AK cK AW cW ps ws K W f off li :=
  have hk : ∀ b, B b → w'.heap[b]? = w.heap[b]? := fun b hb => hc.block b (h.dis b hb).2 (hB b hb)
  ⟨h.blk.chg hc (hG _ (.inl rfl)), row_chg h.rK hc (fun g hg => hG g (.inr (.inl (by rw [← hg]; exact (own00 _ _ _).symm)))), row_chg h.rW hc (fun g hg => hG g (.inr (.inr (by rw [← hg]; exact (own00 _ _ _).symm)))), h.nK, h.sK, h.wW, h.tK.keep hk, h.tW.keep hk, fun b hb => ⟨(h.dis b hb).1, Nat.lt_of_lt_of_le (h.dis b hb).2 hc.size⟩⟩
theorem RT.next (h : RT B w q n AK cK AW cW ps ws K W f off li) (hb : Below w.heap.size w w') : RT B w' q n AK cK AW cW ps ws K W f off li := h.chg (Chg.of hb (fun _ => False)) (fun _ _ h => h) (fun _ _ h => h)
theorem RT.more (h : RT B w q n AK cK AW cW ps ws K W f off li) (hb : ∀ b, B b → B' b) (hd : ∀ b, B' b → ¬ footR q AK AW b ∧ b < w.heap.size) : RT B' w q n AK cK AW cW ps ws K W f off li :=
  ⟨h.blk, h.rK, h.rW, h.nK, h.sK, h.wW, h.tK.more hb, h.tW.more hb, hd⟩
theorem RT.far (h : RT B w q n AK cK AW cW ps ws K W f off li) (i : Nat) (v : Value) : ∀ b, B b → (w.setCell ⟨q, i, none⟩ v).heap[b]? = w.heap[b]? := fun b hb => Below.heap_setCell _ _ _ _ (fun e => (h.dis b hb).1 (.inl e))
/-- A cell of the struct is stored. -/
theorem RT.cell (h : RT B w q n AK cK AW cW ps ws K W f off li) (i : Nat) (v : Value) {f' : Int} {off' : Bool} {li' : Int}
    (he : [.slice AK n cK, .slice AW W.length cW, .int .i64 f', .bool off', .int .i64 li'] = [.slice AK n cK, .slice AW W.length cW, .int .i64 f, .bool off, .int .i64 li].set i v) :
    RT B (w.setCell ⟨q, i, none⟩ v) q n AK cK AW cW ps ws K W f' off' li' :=
  ⟨by rw [he]; exact h.blk.set i v, row_setC h.rK h.blk (by decide) i v, row_setC h.rW h.blk (by decide) i v, h.nK, h.sK, h.wW, h.tK.keep (h.far i v), h.tW.keep (h.far i v), fun b hb => ⟨(h.dis b hb).1, by rw [setCell_size]; exact (h.dis b hb).2⟩⟩
/-- What waits is given up. -/
theorem RT.drop (h : RT B w q n AK cK AW cW ps ws K W f off li) : RT B (w.setCell ⟨q, 1, none⟩ (.slice none 0 0)) q n AK cK none 0 ps [] K [] f off li :=
  ⟨h.blk.set 1 (.slice none 0 0), row_setC h.rK h.blk (by decide) 1 _, World.ownsRow_nil _ _ _ _, h.nK, h.sK, Wok.nil _, h.tK.keep (h.far 1 _), fun j x hj => by simp at hj, fun b hb => ⟨fun e => (h.dis b hb).1 (by
    rcases e with e | e | e
    · exact .inl e
    · exact .inr (.inl e)
    · simp [Value.ownBlock] at e), by rw [setCell_size]; exact (h.dis b hb).2⟩⟩
theorem row_len {e s m : Nat} {v : Value} {base : Nat} (h : w.ownsRow base e s v m ps) : ps.length = m * s := h.1
/-- A slice is stored into the row of what is kept. -/
theorem RT.put {gK : Nat} {A : Option Addr} {c j : Nat} {s : List Int} (h : RT B w q n (some ⟨gK, 0, none⟩) cK AW cW ps ws K W f off li) (hj : j < n) (hs : NumsS B w .u8 A s) (hl : s.length = 64) :
    RT B (w.setCell ⟨gK, j, none⟩ (.slice A 64 c)) q n (some ⟨gK, 0, none⟩) cK AW cW (ps.set j (.slice A 64 c)) ws (K.set j s) W f off li := by
  have hgK : (Value.slice (some ⟨gK, 0, none⟩) 0 0).ownBlock = some gK := rfl
  have hk : ∀ b, b ≠ gK → (w.setCell ⟨gK, j, none⟩ (.slice A 64 c)).heap[b]? = w.heap[b]? := fun b hb => Below.heap_setCell _ _ _ _ hb
  have hB : ∀ b, B b → (w.setCell ⟨gK, j, none⟩ (.slice A 64 c)).heap[b]? = w.heap[b]? := fun b hb => hk b (fun e => (h.dis b hb).1 (.inr (.inl (by rw [e]; rfl))))
  have hq : q ≠ gK := fun e => blk_ne h.blk h.rK (by decide) (by rw [e]; rfl)
  have hps : ps.length = n := by have := h.rK.1; omega
  refine ⟨h.blk.same (hk q hq), (World.ownsRow.stored h.rK j _).1, ?_, by simp [h.nK], h.sK.set hl j, h.wW, ?_, h.tW.keep hB, fun b hb => ⟨(h.dis b hb).1, by rw [setCell_size]; exact (h.dis b hb).2⟩⟩
  · refine ⟨h.rW.1, ?_⟩
    rcases h.rW.2 with h2 | ⟨g, cap, cur, hv, hb, hg, r⟩
    · exact .inl h2
    · refine .inr ⟨g, cap, cur, hv, hb, (hk g (fun e => ?_)).trans hg, r⟩
      have h1 := row_ne h.rW h.rK (by decide)
      rw [hv] at h1
      rcases h1 with h1 | h1
      · cases h1
      · exact h1 (by rw [e]; rfl)
  · have h1 : TX B (w.setCell ⟨gK, j, none⟩ (.slice A 64 c)) ps K := h.tK.keep hB
    exact h1.put (by omega) (hs.keep hB)
/-- What lies at a place of the two rows. -/
theorem RT.kept (h : RT B w q n AK cK AW cW ps ws K W f off li) {j : Nat} {s : List Int} (hj : K[j]? = some s) : ∃ gK A c, AK = some ⟨gK, 0, none⟩ ∧ w.cell? ⟨gK, j, none⟩ = some (.slice A 64 c) ∧ w.frozen? ⟨gK, j, none⟩ = false ∧ NumsS B w .u8 A s := by
  have hl := (List.getElem?_eq_some_iff.1 hj).1
  obtain ⟨A, c, h1, h2⟩ := h.tK j s hj
  obtain ⟨g, e, hr⟩ := row_range h.rK (by have := h.nK; omega)
  have h3 := hr j _ h1
  rw [Nat.zero_add] at h3
  exact ⟨g, A, c, e, h3.1, h3.2, h2⟩
theorem RT.wait (h : RT B w q n AK cK AW cW ps ws K W f off li) {j : Nat} {x : Nat × List Int} (hj : W[j]? = some x) : ∃ gW A c, AW = some ⟨gW, 0, none⟩ ∧ w.cell? ⟨gW, j * 2, none⟩ = some (.int .i64 (x.1 : Nat)) ∧ w.cell? ⟨gW, j * 2 + 1, none⟩ = some (.slice A 64 c) ∧ NumsS B w .u8 A x.2 := by
  have hl := (List.getElem?_eq_some_iff.1 hj).1
  obtain ⟨A, c, h1, h2, h3⟩ := h.tW j x hj
  obtain ⟨g, e, hr⟩ := row_range h.rW (by omega)
  have h4 := (hr _ _ h1).1
  have h5 := (hr _ _ h2).1
  rw [Nat.zero_add] at h4 h5
  exact ⟨g, A, c, e, h4, h5, h3⟩
end
/-- The document's disk at q is D; its blocks are among F, its bytes lie in B. -/
def RS (F B : Nat → Prop) (w : World) (q : Nat) (D : DK) : Prop :=
  ∃ AK cK AW cW ps ws f, RT B w q D.K.length AK cK AW cW ps ws D.K D.W f D.off D.li ∧ (D.off = false → f = D.fu) ∧ (∀ b, footR q AK AW b → F b) ∧ (∀ b, B b → ¬ F b)
/-- The same, behind a call: what is new may belong to it. -/
def RSn (F B : Nat → Prop) (w w' : World) (q : Nat) (D : DK) : Prop := ∃ F' B', RS F' B' w' q D ∧ (∀ b, F' b → Grw F w w' b) ∧ (∀ b, B' b → Grw B w w' b)
section
variable {F B G : Nat → Prop} {w w' : World} {q : Nat} {D : DK}
theorem RS.chg (h : RS F B w q D) (hc : Chg G w w') (hF : ∀ b, F b → ¬ G b) (hB : ∀ b, B b → ¬ G b) : RS F B w' q D := by
  obtain ⟨AK, cK, AW, cW, ps, ws, f, hT, hf, h1, h2⟩ := h
  exact ⟨AK, cK, AW, cW, ps, ws, f, hT.chg hc (fun b hb => hF b (h1 b hb)) hB, hf, h1, h2⟩
theorem RS.next (h : RS F B w q D) (hb : Below w.heap.size w w') : RS F B w' q D := h.chg (Chg.of hb (fun _ => False)) (fun _ _ e => e) (fun _ _ e => e)
theorem RS.same (h : RS F B w q D) (hb : Below w.heap.size w w') : RSn F B w w' q D := ⟨F, B, h.next hb, fun _ h => .inl h, fun _ h => .inl h⟩
theorem RS.cells (h : RS F B w q D) : ∃ AK cK AW cW f, w.cell? ⟨q, 0, none⟩ = some (.slice AK D.K.length cK) ∧ w.cell? ⟨q, 1, none⟩ = some (.slice AW D.W.length cW) ∧ w.cell? ⟨q, 2, none⟩ = some (.int .i64 f) ∧ w.cell? ⟨q, 3, none⟩ = some (.bool D.off) ∧ w.cell? ⟨q, 4, none⟩ = some (.int .i64 D.li) ∧ w.frozen? ⟨q, 2, none⟩ = false := by
  obtain ⟨AK, cK, AW, cW, ps, ws, f, hT, hf, h1, h2⟩ := h
  exact ⟨AK, cK, AW, cW, f, hT.blk.cell (i := 0) rfl, hT.blk.cell (i := 1) rfl, hT.blk.cell (i := 2) rfl, hT.blk.cell (i := 3) rfl, hT.blk.cell (i := 4) rfl, hT.blk.free 2⟩
/-- A state whose bytes lie in what was there and what is new. -/
theorem RSn.mk' {AK : Option Addr} {cK : Nat} {AW : Option Addr} {cW : Nat} {ps ws : List Value} {f : Int} {B' : Nat → Prop} (hT : RT B' w' q D.K.length AK cK AW cW ps ws D.K D.W f D.off D.li) (hf : D.off = false → f = D.fu) (h1 : ∀ b, footR q AK AW b → Grw F w w' b) (h2 : ∀ b, B' b → Grw B w w' b) : RSn F B w w' q D :=
  ⟨fun b => footR q AK AW b, B', ⟨AK, cK, AW, cW, ps, ws, f, hT, hf, fun _ h => h, fun b hb => (hT.dis b hb).1⟩, h1, h2⟩
end
end Go.Proofs.Ytdfalneiapeegaa
