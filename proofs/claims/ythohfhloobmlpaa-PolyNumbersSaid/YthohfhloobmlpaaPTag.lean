/- Tags, as numbers; what keeps a block. No condition. -/
import Derived.Test.YthohfhloobmlpaaPStep
namespace Go.Proofs.Ythohfhloobmlpaa
open Go Go.RowKit

/-- A block is added, with a byte 1 behind it, and multiplied. -/
def stepN (r s : Nat) (x : List Int) : Nat := (s + bn (x ++ [1])) * r % PN
def chunk (m : List Int) (j : Nat) : List Int := (m.drop (16 * j)).take 16
/-- The sum after so many blocks. -/
def accN (r : Nat) (m : List Int) (q : Nat) : Nat := (List.range q).foldl (fun s j => stepN r s (chunk m j)) 0
/-- The sum of a text. -/
def sumN (r : Nat) (m : List Int) : Nat := accN r m ((m.length + 15) / 16)
def tagL (key m : List Int) : List Int := lb (sumN (bn (clampL (key.take 16))) m + bn (key.drop 16))
theorem accN_succ (r : Nat) (m : List Int) (q : Nat) : accN r m (q + 1) = stepN r (accN r m q) (chunk m q) := by simp [accN, List.range_succ]
theorem accN_lt (r : Nat) (m : List Int) (q : Nat) : accN r m q < PN := by
  cases q with
  | zero => exact pn_pos
  | succ q => rw [accN_succ]; exact Nat.mod_lt _ pn_pos
theorem chunk_app {m x : List Int} {j : Nat} (h : 16 * (j + 1) ≤ m.length) : chunk (m ++ x) j = chunk m j := by
  unfold chunk
  rw [List.drop_append_of_le_length (by omega), List.take_append_of_le_length (by simp; omega)]
theorem accN_app (r : Nat) (m x : List Int) (q : Nat) (h : 16 * q ≤ m.length) : accN r (m ++ x) q = accN r m q := by
  induction q with
  | zero => simp only [accN, List.range_zero, List.foldl_nil]
  | succ q ih => rw [accN_succ, accN_succ, ih (by omega), chunk_app h]
theorem sumN_lt (r : Nat) (m : List Int) : sumN r m < PN := accN_lt _ _ _
/-- The bytes of the block that is not full. -/
def tailB (m : List Int) : List Int := m.drop (16 * (m.length / 16))
theorem tailB_length (m : List Int) : (tailB m).length = m.length % 16 := by unfold tailB; rw [List.length_drop]; omega
theorem tailB_byt {m : List Int} (h : Byt m) : Byt (tailB m) := h.drop _
theorem tail_chunk (m : List Int) : chunk m (m.length / 16) = tailB m := by
  unfold chunk tailB
  rw [List.take_of_length_le]
  rw [List.length_drop]; omega
theorem one_byt {x : List Int} (h : Byt x) : Byt (x ++ [1]) := h.app (fun y hy => by simp at hy; omega)
/-- The block with its zeros. -/
def padB (x : List Int) : List Int := x ++ zeros (17 - x.length)
theorem padB_length {x : List Int} (h : x.length ≤ 17) : (padB x).length = 17 := by unfold padB; rw [List.length_append, zeros_len]; omega
theorem padB_byt {x : List Int} (h : Byt x) : Byt (padB x) := h.app (byt_zeros _)
theorem padB_over {a x : List Int} (h : a.length + x.length ≤ 17) : over (padB a) a.length x = padB (a ++ x) := by
  unfold over padB
  rw [List.take_append_of_le_length (Nat.le_refl _), List.take_length, List.length_append]
  congr 1
  rw [List.drop_append, List.drop_of_length_le (by omega), List.nil_append, zeros, List.drop_replicate, zeros]
  congr 1
  omega
theorem padB_one {x : List Int} (h : x.length ≤ 16) : (padB x).set x.length 1 = padB (x ++ [1]) := by
  unfold padB
  rw [List.set_append_right _ _ (Nat.le_refl _), Nat.sub_self, List.append_assoc]
  congr 1
  rw [List.length_append, List.length_singleton]
  have e : 17 - x.length = (17 - (x.length + 1)) + 1 := by omega
  rw [e, zeros, List.replicate_succ, List.set_cons_zero]
  rfl
theorem padB_bn (x : List Int) : bn (padB x) = bn x := bn_pad x _

/-- What keeps a block lies in block b. -/
structure Tgr (w : World) (b : Nat) (s t blk : List Int) (fl : Nat) : Prop where
  su : Arr w b 0 .u8 s
  ti : Arr w b 17 .u8 t
  bk : Arr w b 34 .u8 blk
  fc : w.cell? ⟨b, 51, none⟩ = some (.int .i64 fl)
  fz : w.frozen? ⟨b, 51, none⟩ = false
  sl : s.length = 17
  tl : t.length = 17
  bl : blk.length = 17
  sb : Byt s
  tb : Byt t
  bb : Byt blk
section
variable {w w' : World} {b : Nat} {s t blk : List Int} {fl : Nat}
theorem Tgr.lt (h : Tgr w b s t blk fl) : b < w.heap.size := World.block_lt_of_cell? w _ h.fc
theorem Tgr.same (h : Tgr w b s t blk fl) (he : w'.heap[b]? = w.heap[b]?) : Tgr w' b s t blk fl :=
  ⟨h.su.same he, h.ti.same he, h.bk.same he, (cell_same he).trans h.fc, by have := h.fz; unfold World.frozen? at *; simp only [he]; exact this, h.sl, h.tl, h.bl, h.sb, h.tb, h.bb⟩
theorem Tgr.next (h : Tgr w b s t blk fl) (hb : Below w.heap.size w w') : Tgr w' b s t blk fl := h.same (hb.block b h.lt)
theorem Tgr.drew (h : Tgr w b s t blk fl) : Tgr w.drew b s t blk fl := h.same rfl
/-- A new sum. -/
theorem Tgr.sum (h : Tgr w b s t blk fl) {s' : List Int} (hl : s'.length = 17) (hb : Byt s') : Tgr (w.setCells b 0 (ints .u8 s').toArray.toList) b s' t blk fl := by
  have e : (ints .u8 s').toArray.toList = ints .u8 s' := rfl
  have hn : (ints .u8 s').length = 17 := il hl
  refine ⟨h.su.stored (by rw [hl, h.sl]), h.ti.past _ (.inr (.inl (by rw [e, hn]; omega))), h.bk.past _ (.inr (.inl (by rw [e, hn]; omega))), ?_, by rw [World.frozen?_setCells]; exact h.fz, hl, h.tl, h.bl, hb, h.tb, h.bb⟩
  rw [World.cell?_setCells_out _ _ _ _ _ (fun _ _ => .inr (by rw [e, hn]; show 0 + 17 ≤ 51; omega))]
  exact h.fc
/-- A new block. -/
theorem Tgr.blk_ (h : Tgr w b s t blk fl) {x : List Int} (hl : x.length = 17) (hb : Byt x) : Tgr (w.setCells b 34 (ints .u8 x).toArray.toList) b s t x fl := by
  have e : (ints .u8 x).toArray.toList = ints .u8 x := rfl
  have hn : (ints .u8 x).length = 17 := il hl
  refine ⟨h.su.past _ (.inr (.inr (by rw [h.sl]; omega))), h.ti.past _ (.inr (.inr (by rw [h.tl]; omega))), h.bk.stored (by rw [hl, h.bl]), ?_, by rw [World.frozen?_setCells]; exact h.fz, h.sl, h.tl, hl, h.sb, h.tb, hb⟩
  rw [World.cell?_setCells_out _ _ _ _ _ (fun _ _ => .inr (by rw [e, hn]; show 34 + 17 ≤ 51; omega))]
  exact h.fc
/-- Some bytes of the block. -/
theorem Tgr.lay (h : Tgr w b s t blk fl) {x : List Int} {j : Nat} (hj : j + x.length ≤ 17) (hb : Byt x) : Tgr (w.setCells b (34 + j) (ints .u8 x)) b s t (over blk j x) fl := by
  have hn : (ints .u8 x).length = x.length := ints_length _ _
  have hov : (over blk j x).length = 17 := by rw [over_length (by rw [h.bl]; exact hj), h.bl]
  refine ⟨h.su.past _ (.inr (.inr (by rw [h.sl]; omega))), h.ti.past _ (.inr (.inr (by rw [h.tl]; omega))), h.bk.over (by rw [h.bl]; exact hj), ?_, by rw [World.frozen?_setCells]; exact h.fz, h.sl, h.tl, hov, h.sb, h.tb, fun y hy => ?_⟩
  · rw [World.cell?_setCells_out _ _ _ _ _ (fun _ _ => .inr (by rw [hn]; show 34 + j + x.length ≤ 51; omega))]
    exact h.fc
  · simp only [over, List.mem_append] at hy
    rcases hy with (hy | hy) | hy
    · exact h.bb y (List.mem_of_mem_take hy)
    · exact hb y hy
    · exact h.bb y (List.mem_of_mem_drop hy)
/-- One byte of the block. -/
theorem Tgr.put (h : Tgr w b s t blk fl) (j : Nat) {x : Int} (hj : j < 17) (hx : 0 ≤ x ∧ x < 256) : Tgr (w.setCell ⟨b, 34 + j, none⟩ (.int .u8 x)) b s t (blk.set j x) fl := by
  refine ⟨h.su.apart _ (.inr (.inr (by show 0 + s.length ≤ 34 + j; rw [h.sl]; omega))), h.ti.apart _ (.inr (.inr (by show 17 + t.length ≤ 34 + j; rw [h.tl]; omega))), h.bk.set j x, ?_, by rw [World.frozen?_setCell]; exact h.fz, h.sl, h.tl, by rw [List.length_set]; exact h.bl, h.sb, h.tb, fun y hy => ?_⟩
  · rw [World.cell?_setCell_other _ _ _ _ (by intro q; injection q with _ q; omega)]
    exact h.fc
  · rcases List.mem_or_eq_of_mem_set hy with e | e
    · exact h.bb y e
    · rw [e]; exact hx
/-- How much of it is filled. -/
theorem Tgr.fill (h : Tgr w b s t blk fl) (n : Nat) : Tgr (w.setCell ⟨b, 51, none⟩ (.int .i64 n)) b s t blk n :=
  ⟨h.su.apart _ (.inr (.inr (by show 0 + s.length ≤ 51; rw [h.sl]; omega))), h.ti.apart _ (.inr (.inr (by show 17 + t.length ≤ 51; rw [h.tl]; omega))), h.bk.apart _ (.inr (.inr (by show 34 + blk.length ≤ 51; rw [h.bl]; omega))), World.cell?_setCell_same _ _ _ h.fc, by rw [World.frozen?_setCell]; exact h.fz, h.sl, h.tl, h.bl, h.sb, h.tb, h.bb⟩
end
/-- It has taken m. -/
def Abs (w : World) (b : Nat) (t m : List Int) : Prop := Tgr w b (pb (accN (bn t) m (m.length / 16))) t (padB (tailB m)) (m.length % 16)
theorem Abs.next {w w' : World} {b : Nat} {t m : List Int} (h : Abs w b t m) (hb : Below w.heap.size w w') : Abs w' b t m := Tgr.next h hb
/-- Bytes that do not fill the block. -/
theorem more_part {r : Nat} {m x : List Int} (h : m.length % 16 + x.length < 16) : accN r (m ++ x) ((m ++ x).length / 16) = accN r m (m.length / 16) ∧ tailB (m ++ x) = tailB m ++ x ∧ (m ++ x).length % 16 = m.length % 16 + x.length := by
  have e1 : (m ++ x).length % 16 = m.length % 16 + x.length := by rw [List.length_append]; omega
  have e2 : (m ++ x).length / 16 = m.length / 16 := by rw [List.length_append]; omega
  refine ⟨by rw [e2]; exact accN_app _ _ _ _ (by omega), ?_, e1⟩
  unfold tailB
  rw [e2, List.drop_append_of_le_length (by omega)]
/-- Bytes that fill it. -/
theorem more_full {r : Nat} {m x : List Int} (h : m.length % 16 + x.length = 16) : accN r (m ++ x) ((m ++ x).length / 16) = stepN r (accN r m (m.length / 16)) (tailB m ++ x) ∧ tailB (m ++ x) = [] ∧ (m ++ x).length % 16 = 0 := by
  have e1 : (m ++ x).length % 16 = 0 := by rw [List.length_append]; omega
  have e2 : (m ++ x).length / 16 = m.length / 16 + 1 := by rw [List.length_append]; omega
  have e3 : chunk (m ++ x) (m.length / 16) = tailB m ++ x := by
    unfold chunk tailB
    rw [List.drop_append_of_le_length (by omega), List.take_of_length_le]
    rw [List.length_append, List.length_drop]; omega
  refine ⟨by rw [e2, accN_succ, accN_app _ _ _ _ (by omega), e3], ?_, e1⟩
  unfold tailB
  rw [List.drop_of_length_le (by omega)]
/-- What mix does is a step. -/
theorem mix_step {t x : List Int} {s : Nat} (hs : s < PN) : (bn (pb s) + bn (padB (x ++ [1]))) % PN * bn t % PN = stepN (bn t) s x := by
  unfold stepN
  rw [pb_bn (pn_lt hs), padB_bn, Nat.mod_mul_mod]
theorem sum_end {r : Nat} {m : List Int} (h : m.length % 16 = 0) : accN r m (m.length / 16) = sumN r m := by
  unfold sumN
  congr 1
  omega
theorem sum_more {r : Nat} {m : List Int} (h : 0 < m.length % 16) : stepN r (accN r m (m.length / 16)) (tailB m) = sumN r m := by
  unfold sumN
  have e : (m.length + 15) / 16 = m.length / 16 + 1 := by omega
  rw [e, accN_succ, tail_chunk]
end Go.Proofs.Ythohfhloobmlpaa
