/- A disk in memory. -/
import Derived.Test.YtdfalneiapeegaaKGen
import Derived.Test.YtdfalneiapeegaaKMath
import Derived.Test.YtdfalneiapeegaaMCopy
import Derived.Deep.Upon
namespace Go.Proofs.Ytdfalneiapeegaa
open Go Go.RowKit Go.Maps

/-! ### rows of parts -/
theorem flat_split {α : Type} (f : α → List Value) {L : List α} {j : Nat} {x : α} (h : L[j]? = some x) : L.flatMap f = (L.take j).flatMap f ++ (f x ++ (L.drop (j + 1)).flatMap f) := by
  obtain ⟨hl, e⟩ := List.getElem?_eq_some_iff.1 h
  have h1 : L = L.take j ++ (x :: L.drop (j + 1)) := by
    conv => lhs; rw [← List.take_append_drop j L]
    rw [List.drop_eq_getElem_cons hl, e]
  conv => lhs; rw [h1]
  simp
theorem flat_len {α : Type} (f : α → List Value) (m : Nat) : ∀ L : List α, (∀ x ∈ L, (f x).length = m) → (L.flatMap f).length = L.length * m
  | [], _ => by simp
  | x :: L, h => by
    have := flat_len f m L (fun y hy => h y (by simp [hy]))
    rw [List.flatMap_cons, List.length_append, this, h x (by simp), List.length_cons, Nat.succ_mul]; omega
theorem flat_set {α : Type} (f : α → List Value) {L : List α} {j : Nat} (hl : j < L.length) (y : α) : (L.set j y).flatMap f = (L.take j).flatMap f ++ (f y ++ (L.drop (j + 1)).flatMap f) := by
  rw [List.set_eq_take_append_cons_drop, if_pos hl]
  simp
section
variable {w w' : World} {b o : Nat}
theorem Rw.app {us vs : List Value} (h1 : Rw w b o us) (h2 : Rw w b (o + us.length) vs) : Rw w b o (us ++ vs) := fun i v hi => by
  by_cases h : i < us.length
  · rw [List.getElem?_append_left h] at hi; exact h1 i v hi
  · rw [List.getElem?_append_right (by omega)] at hi
    have := h2 _ v hi
    rwa [show o + us.length + (i - us.length) = o + i by omega] at this
theorem Rw.asideK {o' : Nat} {vs us : List Value} (h : Rw w b o vs) (hd : o' + us.length ≤ o ∨ o + vs.length ≤ o') : Rw (w.setCells b o' us) b o vs := fun i v hi => by
  have hl := (List.getElem?_eq_some_iff.1 hi).1
  rw [World.frozen?_setCells, World.cell?_setCells_out _ _ _ _ _ (fun _ _ => by simp; omega)]
  exact h i v hi
/-- A part of a row is stored anew. -/
theorem Rw.splice {us vs vs' cs : List Value} {o' : Nat} (h : Rw w b o (us ++ (vs ++ cs))) (e : vs'.length = vs.length) (ho : o' = o + us.length) : Rw (w.setCells b o' vs') b o (us ++ (vs' ++ cs)) := by
  subst ho
  have h1 : Rw w b o us := h.left
  have h2 : Rw w b (o + us.length) (vs ++ cs) := h.right rfl
  have h3 : Rw w b (o + us.length) vs := h2.left
  have h4 : Rw w b (o + us.length + vs.length) cs := h2.right rfl
  refine (h1.asideK (.inr (Nat.le_refl _))).app ((h3.stored e).app ?_)
  rw [e]
  exact h4.asideK (.inl (by omega))
end
def secs (K : List (List Int)) : List Value := K.flatMap (ints .u8)
def wc (x : Nat × List Int) : List Value := .int .i64 x.1 :: ints .u8 x.2
def wcs (W : List (Nat × List Int)) : List Value := W.flatMap wc
theorem secs_len {K : List (List Int)} (h : Sz K) : (secs K).length = K.length * 64 := flat_len _ 64 K fun s hs => by rw [ints_length]; exact h s hs
theorem wc_len {x : Nat × List Int} (h : x.2.length = 64) : (wc x).length = 65 := by simp [wc, ints_length, h]
theorem wcs_len {n : Nat} {W : List (Nat × List Int)} (h : Wok n W) : (wcs W).length = W.length * 65 := flat_len _ 65 W fun x hx => wc_len (h x hx).2
theorem wcs_app (W : List (Nat × List Int)) (x : Nat × List Int) : wcs (W ++ [x]) = wcs W ++ wc x := by simp [wcs]
theorem wc_one (x : Nat × List Int) : ∀ u ∈ wc x, u.oneCell' = true := fun u hu => by
  rcases List.mem_cons.1 hu with h | h
  · rw [h]; rfl
  · exact ints_one .u8 x.2 u h
theorem Sz.take {K : List (List Int)} (h : Sz K) (j : Nat) : Sz (K.take j) := fun s hs => h s (List.mem_of_mem_take hs)
theorem take_len64 {K : List (List Int)} (h : Sz K) {j : Nat} (hj : j ≤ K.length) : (secs (K.take j)).length = j * 64 := by rw [secs_len (h.take j), List.length_take, Nat.min_eq_left hj]
section
variable {w w' : World} {b : Nat} {K : List (List Int)}
/-- One sector of a row. -/
theorem Rw.sec (h : Rw w b 0 (secs K)) (hK : Sz K) {j : Nat} {s : List Int} (hj : K[j]? = some s) : Rw w b (j * 64) (ints .u8 s) := by
  have hl := (List.getElem?_eq_some_iff.1 hj).1
  unfold secs at h
  rw [flat_split _ hj] at h
  have h2 := h.right (o' := j * 64) (by show j * 64 = 0 + (secs (K.take j)).length; rw [take_len64 hK (Nat.le_of_lt hl)]; omega)
  exact h2.left
/-- A sector is stored. -/
theorem Rw.putSec (h : Rw w b 0 (secs K)) (hK : Sz K) {j : Nat} {s : List Int} (hj : j < K.length) (hs : s.length = 64) : Rw (w.setCells b (j * 64) (ints .u8 s).toArray.toList) b 0 (secs (K.set j s)) := by
  unfold secs at h ⊢
  rw [flat_split _ (List.getElem?_eq_getElem hj)] at h
  rw [flat_set _ hj]
  exact h.splice (by rw [ints_length, ints_length, hs, hK _ (List.getElem_mem hj)]) (by show j * 64 = 0 + (secs (K.take j)).length; rw [take_len64 hK (Nat.le_of_lt hj)]; omega)
/-- The first bytes of a sector are stored. -/
theorem Rw.tearSec (h : Rw w b 0 (secs K)) (hK : Sz K) {j m : Nat} {s d : List Int} (hj : K[j]? = some s) (hd : d.length = 64) (hm : m ≤ 64) : Rw (w.setCells b (j * 64) (ints .u8 (d.take m)).toArray.toList) b 0 (secs (K.set j (tearS d s m))) := by
  obtain ⟨hl, _⟩ := List.getElem?_eq_some_iff.1 hj
  have hs := hK.get hj
  unfold secs at h ⊢
  rw [flat_split _ hj] at h
  rw [flat_set _ hl]
  have e1 : ints .u8 s = ints .u8 (s.take m) ++ ints .u8 (s.drop m) := by rw [← ints_app, List.take_append_drop]
  have e2 : ints .u8 (tearS d s m) = ints .u8 (d.take m) ++ ints .u8 (s.drop m) := by unfold tearS; rw [ints_app]
  rw [e1, List.append_assoc] at h
  rw [e2, List.append_assoc]
  exact h.splice (by rw [ints_length, ints_length]; simp; omega) (by show j * 64 = 0 + (secs (K.take j)).length; rw [take_len64 hK (Nat.le_of_lt hl)]; omega)
end
theorem row_range {w : World} {e s n c : Nat} {A : Option Addr} {xs : List Value} (h : w.ownsRow 0 e s (.slice A n c) n xs) (hn : 0 < n) : ∃ g, A = some ⟨g, 0, none⟩ ∧ Rw w g 0 xs := by
  rcases h.2 with ⟨_, h0⟩ | ⟨g, cap, cur, hv, _⟩
  · omega
  · injection hv with h1 h2 h3
    subst h1; subst h3
    refine ⟨g, rfl, fun i v hi => ?_⟩
    have hl := (List.getElem?_eq_some_iff.1 hi).1
    rw [Nat.zero_add]
    exact ⟨by rw [World.ownsRow.cellAt h i (by rw [← h.1]; exact hl)]; exact hi, World.ownsRow.frozenAt h i⟩
/-- One write of the row of those that wait. -/
theorem row_write {w : World} {e n m c : Nat} {A : Option Addr} {W : List (Nat × List Int)} (h : w.ownsRow 0 e 65 (.slice A m c) m (wcs W)) (hW : Wok n W) (hm : m = W.length) {k : Nat} {x : Nat × List Int} (hk : W[k]? = some x) : ∃ g, A = some ⟨g, 0, none⟩ ∧ Rw w g (k * 65) (wc x) := by
  have hl := (List.getElem?_eq_some_iff.1 hk).1
  obtain ⟨g, rfl, hr⟩ := row_range h (by omega)
  refine ⟨g, rfl, ?_⟩
  unfold wcs at hr
  rw [flat_split _ hk] at hr
  have e1 : (List.flatMap wc (W.take k)).length = k * 65 := by
    have := wcs_len (hW.take k)
    rw [List.length_take, Nat.min_eq_left (Nat.le_of_lt hl)] at this
    exact this
  exact (hr.right (o' := k * 65) (by rw [e1]; omega)).left

/-! ### blocks that a store of many cells leaves -/
theorem cellsSize (b : Nat) : ∀ (vs : List Value) (o : Nat) (w : World), (w.setCells b o vs).heap.size = w.heap.size
  | [], _, _ => rfl
  | v :: vs, o, w => (cellsSize b vs (o + 1) (w.setCell ⟨b, o, none⟩ v)).trans (by simp [World.setCell])
section
variable {w w' : World} {b t : Nat} {cs : List Value}
theorem Blk.past (h : Blk w b t cs) {b' : Nat} (hne : b ≠ b') (o : Nat) (us : List Value) : Blk (w.setCells b' o us) b t cs := h.same (World.heap_setCells_other w b' o us h.lt hne)
theorem row_past {e s n : Nat} {v : Value} {xs : List Value} {base : Nat} (h : w.ownsRow base e s v n xs) {b' : Nat} (hne : v.ownBlock ≠ some b') (o : Nat) (us : List Value) : (w.setCells b' o us).ownsRow base e s v n xs := by
  refine ⟨h.1, ?_⟩
  rcases h.2 with h2 | ⟨g, cap, cur, rfl, hb, hg, r⟩
  · exact .inl h2
  · exact .inr ⟨g, cap, cur, rfl, hb, (World.heap_setCells_other w b' o us (Array.getElem?_eq_some_iff.1 hg).1 (fun e => hne (by rw [e]; rfl))).trans hg, r⟩
theorem Chg.setCells {G : Nat → Prop} {a : World} (h : Chg G a w) {b : Nat} (hp : G b ∨ a.heap.size ≤ b) (o : Nat) (us : List Value) : Chg G a (w.setCells b o us) := by
  induction us generalizing o w with
  | nil => exact h
  | cons u us ih => exact ih (h.setCell (p := ⟨b, o, none⟩) hp u) (o + 1)
end

/-- A disk that lies at p: kept sectors in bk, present ones in bq, what waits at A; f: what lies in the fuse's cell. -/
structure DT (w : World) (p bk bq n ck cq : Nat) (A : Option Addr) (c : Nat) (K Q : List (List Int)) (W : List (Nat × List Int)) (f : Int) (off : Bool) (li : Int) : Prop where
  blk : Blk w p 58 [.bool true, .slice (some ⟨bk, 0, none⟩) n ck, .slice (some ⟨bq, 0, none⟩) n cq, .slice A W.length c, .int .i64 f, .bool off, .int .i64 li]
  rK : Rw w bk 0 (secs K)
  rQ : Rw w bq 0 (secs Q)
  rW : w.ownsRow 0 68 65 (.slice A W.length c) W.length (wcs W)
  pk : p ≠ bk
  pq : p ≠ bq
  kq : bk ≠ bq
  ak : (Value.slice A 0 0).ownBlock ≠ some bk
  aq : (Value.slice A 0 0).ownBlock ≠ some bq
  nK : K.length = n
  nQ : Q.length = n
  sK : Sz K
  sQ : Sz Q
  wW : Wok n W
  a0 : W = [] → A = none
  bks : bk < w.heap.size
  bqs : bq < w.heap.size
theorem own00 (A : Option Addr) (n c : Nat) : (Value.slice A n c).ownBlock = (Value.slice A 0 0).ownBlock := by cases A <;> rfl
def footD (p bk bq : Nat) (A : Option Addr) (b : Nat) : Prop := b = p ∨ b = bk ∨ b = bq ∨ (Value.slice A 0 0).ownBlock = some b
section
variable {w w' : World} {p bk bq n ck cq : Nat} {A : Option Addr} {c : Nat} {K Q : List (List Int)} {W : List (Nat × List Int)} {f : Int} {off : Bool} {li : Int}
theorem DT.lt (h : DT w p bk bq n ck cq A c K Q W f off li) : ∀ b, footD p bk bq A b → b < w.heap.size := fun b hb => by
  rcases hb with rfl | rfl | rfl | e
  · exact h.blk.lt
  · exact h.bks
  · exact h.bqs
  · exact rowlt h.rW b (by rw [← e]; exact own00 _ _ _)
theorem DT.chg {G : Nat → Prop} (h : DT w p bk bq n ck cq A c K Q W f off li) (hc : Chg G w w') (hG : ∀ b, footD p bk bq A b → ¬ G b) : DT w' p bk bq n ck cq A c K Q W f off li :=
  ⟨h.blk.chg hc (hG _ (.inl rfl)), h.rK.same (hc.block _ h.bks (hG _ (.inr (.inl rfl)))), h.rQ.same (hc.block _ h.bqs (hG _ (.inr (.inr (.inl rfl))))), row_chg h.rW hc (fun g hg => hG g (.inr (.inr (.inr (by rw [← hg]; exact (own00 _ _ _).symm))))), h.pk, h.pq, h.kq, h.ak, h.aq, h.nK, h.nQ, h.sK, h.sQ, h.wW, h.a0, Nat.lt_of_lt_of_le h.bks hc.size, Nat.lt_of_lt_of_le h.bqs hc.size⟩
theorem DT.next (h : DT w p bk bq n ck cq A c K Q W f off li) (hb : Below w.heap.size w w') : DT w' p bk bq n ck cq A c K Q W f off li := h.chg (Chg.of hb (fun _ => False)) (fun _ _ h => h)
/-- A cell of the struct is stored. -/
theorem DT.cell (h : DT w p bk bq n ck cq A c K Q W f off li) (i : Nat) (v : Value) {f' : Int} {off' : Bool} {li' : Int}
    (he : [.bool true, .slice (some ⟨bk, 0, none⟩) n ck, .slice (some ⟨bq, 0, none⟩) n cq, .slice A W.length c, .int .i64 f', .bool off', .int .i64 li'] = [.bool true, .slice (some ⟨bk, 0, none⟩) n ck, .slice (some ⟨bq, 0, none⟩) n cq, .slice A W.length c, .int .i64 f, .bool off, .int .i64 li].set i v) :
    DT (w.setCell ⟨p, i, none⟩ v) p bk bq n ck cq A c K Q W f' off' li' := by
  have hK : ∀ b, b ≠ p → (w.setCell ⟨p, i, none⟩ v).heap[b]? = w.heap[b]? := fun b hb => Below.heap_setCell _ _ _ _ hb
  have hs : (w.setCell ⟨p, i, none⟩ v).heap.size = w.heap.size := by simp [World.setCell]
  refine ⟨?_, h.rK.same (hK _ (Ne.symm h.pk)), h.rQ.same (hK _ (Ne.symm h.pq)), row_setC h.rW h.blk (by decide) i v, h.pk, h.pq, h.kq, h.ak, h.aq, h.nK, h.nQ, h.sK, h.sQ, h.wW, h.a0, by rw [hs]; exact h.bks, by rw [hs]; exact h.bqs⟩
  rw [he]
  exact h.blk.set i v
/-- What waits is given up. -/
theorem DT.drop (h : DT w p bk bq n ck cq A c K Q W f off li) : DT (w.setCell ⟨p, 3, none⟩ (.slice none 0 0)) p bk bq n ck cq none 0 K Q [] f off li := by
  have hK : ∀ b, b ≠ p → (w.setCell ⟨p, 3, none⟩ (.slice none 0 0)).heap[b]? = w.heap[b]? := fun b hb => Below.heap_setCell _ _ _ _ hb
  have hs : (w.setCell ⟨p, 3, none⟩ (.slice none 0 0)).heap.size = w.heap.size := by simp [World.setCell]
  exact ⟨h.blk.set 3 (.slice none 0 0), h.rK.same (hK _ (Ne.symm h.pk)), h.rQ.same (hK _ (Ne.symm h.pq)), World.ownsRow_nil _ _ _ _, h.pk, h.pq, h.kq, by simp [Value.ownBlock], by simp [Value.ownBlock], h.nK, h.nQ, h.sK, h.sQ, Wok.nil _, fun _ => rfl, by rw [hs]; exact h.bks, by rw [hs]; exact h.bqs⟩
/-- A sector that is kept is stored, or the first bytes of it. -/
theorem DT.keep (h : DT w p bk bq n ck cq A c K Q W f off li) {o : Nat} {us : List Value} {K' : List (List Int)} (hr : Rw (w.setCells bk o us) bk 0 (secs K')) (hl : K'.length = n) (hs : Sz K') : DT (w.setCells bk o us) p bk bq n ck cq A c K' Q W f off li := by
  have hz : (w.setCells bk o us).heap.size = w.heap.size := cellsSize bk us o w
  exact ⟨h.blk.past h.pk _ _, hr, h.rQ.past h.kq _ _, row_past h.rW (by rw [own00]; exact h.ak) _ _, h.pk, h.pq, h.kq, h.ak, h.aq, hl, h.nQ, hs, h.sQ, h.wW, h.a0, by rw [hz]; exact h.bks, by rw [hz]; exact h.bqs⟩
theorem DT.show (h : DT w p bk bq n ck cq A c K Q W f off li) {o : Nat} {us : List Value} {Q' : List (List Int)} (hr : Rw (w.setCells bq o us) bq 0 (secs Q')) (hl : Q'.length = n) (hs : Sz Q') : DT (w.setCells bq o us) p bk bq n ck cq A c K Q' W f off li := by
  have hz : (w.setCells bq o us).heap.size = w.heap.size := cellsSize bq us o w
  exact ⟨h.blk.past h.pq _ _, h.rK.past (Ne.symm h.kq) _ _, hr, row_past h.rW (by rw [own00]; exact h.aq) _ _, h.pk, h.pq, h.kq, h.ak, h.aq, h.nK, hl, h.sK, hs, h.wW, h.a0, by rw [hz]; exact h.bks, by rw [hz]; exact h.bqs⟩
end
/-- What may have grown: blocks of F, and new ones. -/
def Grw (F : Nat → Prop) (w w' : World) (b : Nat) : Prop := F b ∨ (w.heap.size ≤ b ∧ b < w'.heap.size)
/-- The code's disk at p is D; its blocks are among F. -/
def DS (F : Nat → Prop) (w : World) (p : Nat) (D : DK) : Prop :=
  ∃ bk bq ck cq A c f, DT w p bk bq D.K.length ck cq A c D.K (pres D.K D.W) D.W f D.off D.li ∧ (D.off = false → f = D.fu) ∧ (∀ b, footD p bk bq A b → F b)
section
variable {F G : Nat → Prop} {w w' : World} {p : Nat} {D : DK}
theorem DS.chg (h : DS F w p D) (hc : Chg G w w') (hF : ∀ b, F b → ¬ G b) : DS F w' p D := by
  obtain ⟨bk, bq, ck, cq, A, c, f, hT, hf, h1⟩ := h
  exact ⟨bk, bq, ck, cq, A, c, f, hT.chg hc (fun b hb => hF b (h1 b hb)), hf, h1⟩
theorem DS.next (h : DS F w p D) (hb : Below w.heap.size w w') : DS F w' p D := h.chg (Chg.of hb (fun _ => False)) (fun _ _ e => e)
theorem DS.sub (h : DS F w p D) (hs : ∀ b, b < w.heap.size → F b → G b) : DS G w p D := by
  obtain ⟨bk, bq, ck, cq, A, c, f, hT, hf, h1⟩ := h
  exact ⟨bk, bq, ck, cq, A, c, f, hT, hf, fun b hb => hs b (hT.lt b hb) (h1 b hb)⟩
end
end Go.Proofs.Ytdfalneiapeegaa
