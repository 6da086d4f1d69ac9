/- Texts of this proof, laid together: PTag, AMath, AFun, PRef0, PMod, PRef1, PRef2, PRefC, PRefT. -/
import Derived.Test.YtkblmdakejmmhaaDoorG30
import Derived.Test.YtkblmdakejmmhaaDoorG26
import Derived.Test.YtkblmdakejmmhaaDoorG24
import Derived.Test.YtkblmdakejmmhaaDoorG5
import Derived.Test.YtkblmdakejmmhaaDoorG4
import Derived.Test.YtkblmdakejmmhaaDoorG9
import Derived.Test.YtkblmdakejmmhaaDoorG15
import Derived.Test.YtkblmdakejmmhaaDoorG7
import Derived.Test.YtkblmdakejmmhaaDoorG2
import Derived.Test.YtkblmdakejmmhaaDoorG29
import Derived.Test.YtkblmdakejmmhaaDoorG1
import Derived.Laws.OwnMore
import Derived.Lib.Hide
/- Tags, as numbers; what keeps a block. No condition. -/
namespace Go.Proofs.YtkblmdakejmmhaaDoor
open Go Go.RowKit

/-- A block is added, with a byte 1 behind it, and multiplied. -/
def stepN (r s : Nat) (x : List Int) : Nat := (s + bn (x ++ [1])) * r % PNZ
def pchunk (m : List Int) (j : Nat) : List Int := (m.drop (16 * j)).take 16
/-- The sum after so many blocks. -/
def accN (r : Nat) (m : List Int) (q : Nat) : Nat := (List.range q).foldl (fun s j => stepN r s (pchunk m j)) 0
/-- The sum of a text. -/
def sumN (r : Nat) (m : List Int) : Nat := accN r m ((m.length + 15) / 16)
def tagL (key m : List Int) : List Int := lb (sumN (bn (clampLZ (key.take 16))) m + bn (key.drop 16))
set_option maxRecDepth 50000 in
theorem accN_succ (r : Nat) (m : List Int) (q : Nat) : accN r m (q + 1) = stepN r (accN r m q) (pchunk m q) := by simp [accN, List.range_succ]
set_option maxRecDepth 50000 in
theorem accN_lt (r : Nat) (m : List Int) (q : Nat) : accN r m q < PNZ := by
  cases q with
  | zero => exact pn_posZ
  | succ q => rw [accN_succ]; exact Nat.mod_lt _ pn_posZ
set_option maxRecDepth 50000 in
theorem chunk_appZ {m x : List Int} {j : Nat} (h : 16 * (j + 1) ≤ m.length) : pchunk (m ++ x) j = pchunk m j := by
  unfold pchunk
  rw [List.drop_append_of_le_length (by omega), List.take_append_of_le_length (by simp; omega)]
set_option maxRecDepth 50000 in
theorem accN_app (r : Nat) (m x : List Int) (q : Nat) (h : 16 * q ≤ m.length) : accN r (m ++ x) q = accN r m q := by
  induction q with
  | zero => simp only [accN, List.range_zero, List.foldl_nil]
  | succ q ih => rw [accN_succ, accN_succ, ih (by omega), chunk_appZ h]
set_option maxRecDepth 50000 in
theorem sumN_lt (r : Nat) (m : List Int) : sumN r m < PNZ := accN_lt _ _ _
/-- The bytes of the block that is not full. -/
def tailB (m : List Int) : List Int := m.drop (16 * (m.length / 16))
set_option maxRecDepth 50000 in
theorem tailB_length (m : List Int) : (tailB m).length = m.length % 16 := by unfold tailB; rw [List.length_drop]; omega
set_option maxRecDepth 50000 in
theorem tail_chunk (m : List Int) : pchunk m (m.length / 16) = tailB m := by
  unfold pchunk tailB
  rw [List.take_of_length_le]
  rw [List.length_drop]; omega
/-- The block with its zeros. -/
def padBZ (x : List Int) : List Int := x ++ zeros (17 - x.length)
set_option maxRecDepth 50000 in
theorem padB_lengthZ {x : List Int} (h : x.length ≤ 17) : (padBZ x).length = 17 := by unfold padBZ; rw [List.length_append, zeros_len]; omega
set_option maxRecDepth 50000 in
theorem padB_over {a x : List Int} (h : a.length + x.length ≤ 17) : over (padBZ a) a.length x = padBZ (a ++ x) := by
  unfold over padBZ
  rw [List.take_append_of_le_length (Nat.le_refl _), List.take_length, List.length_append]
  congr 1
  rw [List.drop_append, List.drop_of_length_le (by omega), List.nil_append, zeros, List.drop_replicate, zeros]
  congr 1
  omega
set_option maxRecDepth 50000 in
theorem padB_one {x : List Int} (h : x.length ≤ 16) : (padBZ x).set x.length 1 = padBZ (x ++ [1]) := by
  unfold padBZ
  rw [List.set_append_right _ _ (Nat.le_refl _), Nat.sub_self, List.append_assoc]
  congr 1
  rw [List.length_append, List.length_singleton]
  have e : 17 - x.length = (17 - (x.length + 1)) + 1 := by omega
  rw [e, zeros, List.replicate_succ, List.set_cons_zero]
  rfl
set_option maxRecDepth 50000 in
theorem padB_bn (x : List Int) : bn (padBZ x) = bn x := bn_pad x _

/-- What keeps a block lies in block b. -/
structure Tgr (w : World) (b : Nat) (s t blk : List Int) (fl : Nat) : Prop where
  su : Arr w b 0 .u8 s
  ti : Arr w b 17 .u8 t
  bk : Arr w b 34 .u8 blk
  fc : w.cell? ⟨b, 51, none⟩ = some (.int .i64 fl)
  fz : w.frozen? ⟨b, 51, none⟩ = false
  sl : s.length = 17
  tl : t.length = 17
  bl : blk.length = 17
  sb : Byt s
  tb : Byt t
  bb : Byt blk
section
variable {w w' : World} {b : Nat} {s t blk : List Int} {fl : Nat}
set_option maxRecDepth 50000 in
theorem Tgr.lt (h : Tgr w b s t blk fl) : b < w.heap.size := World.block_lt_of_cell? w _ h.fc
set_option maxRecDepth 50000 in
theorem Tgr.same (h : Tgr w b s t blk fl) (he : w'.heap[b]? = w.heap[b]?) : Tgr w' b s t blk fl :=
  ⟨h.su.same he, h.ti.same he, h.bk.same he, (cell_same he).trans h.fc, by have := h.fz; unfold World.frozen? at *; simp only [he]; exact this, h.sl, h.tl, h.bl, h.sb, h.tb, h.bb⟩
set_option maxRecDepth 50000 in
theorem Tgr.next (h : Tgr w b s t blk fl) (hb : Below w.heap.size w w') : Tgr w' b s t blk fl := h.same (hb.block b h.lt)
set_option maxRecDepth 50000 in
theorem Tgr.drew (h : Tgr w b s t blk fl) : Tgr w.drew b s t blk fl := h.same rfl
set_option maxRecDepth 50000 in
/-- A new sum. -/
theorem Tgr.sum (h : Tgr w b s t blk fl) {s' : List Int} (hl : s'.length = 17) (hb : Byt s') : Tgr (w.setCells b 0 (ints .u8 s').toArray.toList) b s' t blk fl := by
  have e : (ints .u8 s').toArray.toList = ints .u8 s' := rfl
  have hn : (ints .u8 s').length = 17 := il hl
  refine ⟨h.su.stored (by rw [hl, h.sl]), h.ti.past _ (.inr (.inl (by rw [e, hn]; omega))), h.bk.past _ (.inr (.inl (by rw [e, hn]; omega))), ?_, by rw [World.frozen?_setCells]; exact h.fz, hl, h.tl, h.bl, hb, h.tb, h.bb⟩
  rw [World.cell?_setCells_out _ _ _ _ _ (fun _ _ => .inr (by rw [e, hn]; show 0 + 17 ≤ 51; omega))]
  exact h.fc
set_option maxRecDepth 50000 in
/-- A new block. -/
theorem Tgr.blk_ (h : Tgr w b s t blk fl) {x : List Int} (hl : x.length = 17) (hb : Byt x) : Tgr (w.setCells b 34 (ints .u8 x).toArray.toList) b s t x fl := by
  have e : (ints .u8 x).toArray.toList = ints .u8 x := rfl
  have hn : (ints .u8 x).length = 17 := il hl
  refine ⟨h.su.past _ (.inr (.inr (by rw [h.sl]; omega))), h.ti.past _ (.inr (.inr (by rw [h.tl]; omega))), h.bk.stored (by rw [hl, h.bl]), ?_, by rw [World.frozen?_setCells]; exact h.fz, h.sl, h.tl, hl, h.sb, h.tb, hb⟩
  rw [World.cell?_setCells_out _ _ _ _ _ (fun _ _ => .inr (by rw [e, hn]; show 34 + 17 ≤ 51; omega))]
  exact h.fc
set_option maxRecDepth 50000 in
/-- Some bytes of the block. -/
theorem Tgr.lay (h : Tgr w b s t blk fl) {x : List Int} {j : Nat} (hj : j + x.length ≤ 17) (hb : Byt x) : Tgr (w.setCells b (34 + j) (ints .u8 x)) b s t (over blk j x) fl := by
  have hn : (ints .u8 x).length = x.length := ints_length _ _
  have hov : (over blk j x).length = 17 := by rw [over_length (by rw [h.bl]; exact hj), h.bl]
  refine ⟨h.su.past _ (.inr (.inr (by rw [h.sl]; omega))), h.ti.past _ (.inr (.inr (by rw [h.tl]; omega))), h.bk.over (by rw [h.bl]; exact hj), ?_, by rw [World.frozen?_setCells]; exact h.fz, h.sl, h.tl, hov, h.sb, h.tb, fun y hy => ?_⟩
  · rw [World.cell?_setCells_out _ _ _ _ _ (fun _ _ => .inr (by rw [hn]; show 34 + j + x.length ≤ 51; omega))]
    exact h.fc
  · simp only [over, List.mem_append] at hy
    rcases hy with (hy | hy) | hy
    · exact h.bb y (List.mem_of_mem_take hy)
    · exact hb y hy
    · exact h.bb y (List.mem_of_mem_drop hy)
set_option maxRecDepth 50000 in
/-- One byte of the block. -/
theorem Tgr.put (h : Tgr w b s t blk fl) (j : Nat) {x : Int} (hj : j < 17) (hx : 0 ≤ x ∧ x < 256) : Tgr (w.setCell ⟨b, 34 + j, none⟩ (.int .u8 x)) b s t (blk.set j x) fl := by
  refine ⟨h.su.apart _ (.inr (.inr (by show 0 + s.length ≤ 34 + j; rw [h.sl]; omega))), h.ti.apart _ (.inr (.inr (by show 17 + t.length ≤ 34 + j; rw [h.tl]; omega))), h.bk.set j x, ?_, by rw [World.frozen?_setCell]; exact h.fz, h.sl, h.tl, by rw [List.length_set]; exact h.bl, h.sb, h.tb, fun y hy => ?_⟩
  · rw [World.cell?_setCell_other _ _ _ _ (by intro q; injection q with _ q; omega)]
    exact h.fc
  · rcases List.mem_or_eq_of_mem_set hy with e | e
    · exact h.bb y e
    · rw [e]; exact hx
set_option maxRecDepth 50000 in
/-- How much of it is filled. -/
theorem Tgr.fill (h : Tgr w b s t blk fl) (n : Nat) : Tgr (w.setCell ⟨b, 51, none⟩ (.int .i64 n)) b s t blk n :=
  ⟨h.su.apart _ (.inr (.inr (by show 0 + s.length ≤ 51; rw [h.sl]; omega))), h.ti.apart _ (.inr (.inr (by show 17 + t.length ≤ 51; rw [h.tl]; omega))), h.bk.apart _ (.inr (.inr (by show 34 + blk.length ≤ 51; rw [h.bl]; omega))), World.cell?_setCell_same _ _ _ h.fc, by rw [World.frozen?_setCell]; exact h.fz, h.sl, h.tl, h.bl, h.sb, h.tb, h.bb⟩
end
/-- It has taken m. -/
def AbsZ (w : World) (b : Nat) (t m : List Int) : Prop := Tgr w b (pb (accN (bn t) m (m.length / 16))) t (padBZ (tailB m)) (m.length % 16)
set_option maxRecDepth 50000 in
/-- Bytes that do not fill the block. -/
theorem more_partZ {r : Nat} {m x : List Int} (h : m.length % 16 + x.length < 16) : accN r (m ++ x) ((m ++ x).length / 16) = accN r m (m.length / 16) ∧ tailB (m ++ x) = tailB m ++ x ∧ (m ++ x).length % 16 = m.length % 16 + x.length := by
  have e1 : (m ++ x).length % 16 = m.length % 16 + x.length := by rw [List.length_append]; omega
  have e2 : (m ++ x).length / 16 = m.length / 16 := by rw [List.length_append]; omega
  refine ⟨by rw [e2]; exact accN_app _ _ _ _ (by omega), ?_, e1⟩
  unfold tailB
  rw [e2, List.drop_append_of_le_length (by omega)]
set_option maxRecDepth 50000 in
/-- Bytes that fill it. -/
theorem more_fullZ {r : Nat} {m x : List Int} (h : m.length % 16 + x.length = 16) : accN r (m ++ x) ((m ++ x).length / 16) = stepN r (accN r m (m.length / 16)) (tailB m ++ x) ∧ tailB (m ++ x) = [] ∧ (m ++ x).length % 16 = 0 := by
  have e1 : (m ++ x).length % 16 = 0 := by rw [List.length_append]; omega
  have e2 : (m ++ x).length / 16 = m.length / 16 + 1 := by rw [List.length_append]; omega
  have e3 : pchunk (m ++ x) (m.length / 16) = tailB m ++ x := by
    unfold pchunk tailB
    rw [List.drop_append_of_le_length (by omega), List.take_of_length_le]
    rw [List.length_append, List.length_drop]; omega
  refine ⟨by rw [e2, accN_succ, accN_app _ _ _ _ (by omega), e3], ?_, e1⟩
  unfold tailB
  rw [List.drop_of_length_le (by omega)]
set_option maxRecDepth 50000 in
/-- What mix does is a step. -/
theorem mix_step {t x : List Int} {s : Nat} (hs : s < PNZ) : (bn (pb s) + bn (padBZ (x ++ [1]))) % PNZ * bn t % PNZ = stepN (bn t) s x := by
  unfold stepN
  rw [pb_bn (pn_lt hs), padB_bn, Nat.mod_mul_mod]
set_option maxRecDepth 50000 in
theorem sum_end {r : Nat} {m : List Int} (h : m.length % 16 = 0) : accN r m (m.length / 16) = sumN r m := by
  unfold sumN
  congr 1
  omega
set_option maxRecDepth 50000 in
theorem sum_more {r : Nat} {m : List Int} (h : 0 < m.length % 16) : stepN r (accN r m (m.length / 16)) (tailB m) = sumN r m := by
  unfold sumN
  have e : (m.length + 15) / 16 = m.length / 16 + 1 := by omega
  rw [e, accN_succ, tail_chunk]
end Go.Proofs.YtkblmdakejmmhaaDoor

/- What is tagged, what is hidden, what a sealed text is; bytes that differ. No program is named. -/
namespace Go.Proofs.YtkblmdakejmmhaaDoor
open Go Go.RowKit

/-- How many zero bytes are behind a part. -/
def fillN (n : Nat) : Nat := (16 - n % 16) % 16
set_option maxRecDepth 50000 in
theorem fillN_lt (n : Nat) : fillN n < 16 := Nat.mod_lt _ (by omega)
/-- The text whose tag it is. -/
def tagT (be hi : List Int) : List Int := be ++ (zeros (fillN be.length) ++ (hi ++ (zeros (fillN hi.length) ++ (le8 be.length ++ le8 hi.length))))
/-- The key of the tag. -/
def onceL (key nonce : List Int) : List Int := (blockL key nonce 0).take 32
set_option maxRecDepth 50000 in
theorem onceL_len {key nonce : List Int} (hk : key.length = 32) (hn : nonce.length = 12) : (onceL key nonce).length = 32 := by
  unfold onceL
  rw [List.length_take, blockL_length hk hn]; rfl
set_option maxRecDepth 50000 in
theorem onceL_byt (key nonce : List Int) : Byt (onceL key nonce) := (blockL_byt key nonce 0).take 32
/-- The tag. -/
def atag (key nonce be hi : List Int) : List Int := tagL (onceL key nonce) (tagT be hi)
set_option maxRecDepth 50000 in
theorem atag_len (key nonce be hi : List Int) : (atag key nonce be hi).length = 16 := lb_length _
set_option maxRecDepth 50000 in
theorem atag_byt (key nonce be hi : List Int) : Byt (atag key nonce be hi) := lb_byt _
/-- The text, hidden. -/
def hidT (key nonce t : List Int) : List Int := hideL t (strm key nonce 1 (4294967296 - 1))
set_option maxRecDepth 50000 in
theorem hidT_room {key nonce t : List Int} (hk : key.length = 32) (hn : nonce.length = 12) (ht : t.length ≤ 1000) : t.length ≤ (strm key nonce 1 (4294967296 - 1)).length := by
  rw [strm_length hk hn]
  omega
set_option maxRecDepth 50000 in
theorem hidT_len {key nonce t : List Int} (hk : key.length = 32) (hn : nonce.length = 12) (ht : t.length ≤ 1000) : (hidT key nonce t).length = t.length := hideL_length (hidT_room hk hn ht)
set_option maxRecDepth 50000 in
theorem hidT_twice {key nonce t : List Int} (hk : key.length = 32) (hn : nonce.length = 12) (ht : t.length ≤ 1000) (hb : HByt t) : hidT key nonce (hidT key nonce t) = t := hideL_twice hb (strm_byt _ _ _ _) (hidT_room hk hn ht)
set_option maxRecDepth 50000 in
theorem hidT_byt (key nonce : List Int) {t : List Int} (hb : HByt t) : HByt (hidT key nonce t) := hideL_byt hb (strm_byt _ _ _ _)
/-- A sealed text. -/
def sealL (key nonce be t : List Int) : List Int := hidT key nonce t ++ atag key nonce be (hidT key nonce t)
set_option maxRecDepth 50000 in
theorem sealL_len {key nonce be t : List Int} (hk : key.length = 32) (hn : nonce.length = 12) (ht : t.length ≤ 1000) : (sealL key nonce be t).length = t.length + 16 := by
  unfold sealL
  rw [List.length_append, hidT_len hk hn ht, atag_len]
set_option maxRecDepth 50000 in
theorem sealL_byt {key nonce be t : List Int} (hb : HByt t) : Byt (sealL key nonce be t) := (show Byt _ from hidT_byt key nonce hb).app (atag_byt _ _ _ _)
/-- Whether it is opened. -/
def goodL (key nonce be s : List Int) : Bool := decide (atag key nonce be (s.take (s.length - 16)) = s.drop (s.length - 16))
set_option maxRecDepth 50000 in
theorem good_seal {key nonce be t : List Int} (hk : key.length = 32) (hn : nonce.length = 12) (ht : t.length ≤ 1000) : goodL key nonce be (sealL key nonce be t) = true := by
  unfold goodL
  rw [sealL_len hk hn ht, Nat.add_sub_cancel]
  have e := hidT_len hk hn ht
  unfold sealL
  rw [← e, List.take_left, List.drop_left]
  simp
set_option maxRecDepth 50000 in
theorem seal_take {key nonce be t : List Int} (hk : key.length = 32) (hn : nonce.length = 12) (ht : t.length ≤ 1000) : (sealL key nonce be t).take ((sealL key nonce be t).length - 16) = hidT key nonce t := by
  rw [sealL_len hk hn ht, Nat.add_sub_cancel, ← hidT_len hk hn ht]
  unfold sealL
  rw [List.take_left]
set_option maxRecDepth 50000 in
theorem nat_or_zero {a b : Nat} : a ||| b = 0 ↔ a = 0 ∧ b = 0 := by
  refine ⟨fun h => ⟨?_, ?_⟩, fun ⟨h1, h2⟩ => by rw [h1, h2]; rfl⟩
  · have := Nat.left_le_or (n := a) (m := b); omega
  · have := Nat.right_le_or (n := a) (m := b); omega
set_option maxRecDepth 50000 in
theorem or_zero8 {d e : Int} (hd : 0 ≤ d ∧ d < 256) (he : 0 ≤ e ∧ e < 256) : (0 ≤ bits .or .u8 d e ∧ bits .or .u8 d e < 256) ∧ (bits .or .u8 d e = 0 ↔ d = 0 ∧ e = 0) := by
  rw [u8_or _ _ hd.1 hd.2 he.1 he.2]
  have h1 := Nat.or_lt_two_pow (nat_lt8 d hd) (nat_lt8 e he)
  have h2 := nat_or_zero (a := d.toNat) (b := e.toNat)
  refine ⟨⟨by omega, by omega⟩, ?_⟩
  constructor
  · intro h
    have := h2.1 (by omega)
    omega
  · intro h
    have := h2.2 (by omega)
    omega
set_option maxRecDepth 50000 in
theorem xb_zero {a b : Int} (ha : 0 ≤ a ∧ a < 256) (hb : 0 ≤ b ∧ b < 256) : xb a b = 0 ↔ a = b := by
  constructor
  · intro h
    have h1 := xb_twice ha hb
    have h2 := xb_twice (a := b) hb hb
    have h3 : xb b b = 0 := by
      show bits .xor .u8 b b = 0
      rw [u8_xor _ _ hb.1 hb.2 hb.1 hb.2, Nat.xor_self]; rfl
    rw [h] at h1
    rw [h3] at h2
    rw [← h1, h2]
  · intro h
    subst h
    show bits .xor .u8 a a = 0
    rw [u8_xor _ _ ha.1 ha.2 ha.1 ha.2, Nat.xor_self]; rfl
/-- Whether two rows differ before place k. -/
def DiffI (xs ys : List Int) (k : Nat) (d : Int) : Prop := (0 ≤ d ∧ d < 256) ∧ (d = 0 ↔ xs.take k = ys.take k)
set_option maxRecDepth 50000 in
theorem DiffI.start (xs ys : List Int) : DiffI xs ys 0 0 := ⟨by omega, by simp⟩
set_option maxRecDepth 50000 in
theorem DiffI.step {xs ys : List Int} {k : Nat} {d x y : Int} (h : DiffI xs ys k d) (hx : xs[k]? = some x) (hy : ys[k]? = some y) (hxb : 0 ≤ x ∧ x < 256) (hyb : 0 ≤ y ∧ y < 256) : DiffI xs ys (k + 1) (bits .or .u8 d (xb x y)) := by
  have h1 := or_zero8 h.1 (xb_byt hxb hyb)
  refine ⟨h1.1, ?_⟩
  rw [h1.2, h.2, xb_zero hxb hyb, take_succ_at hx, take_succ_at hy]
  constructor
  · rintro ⟨e1, e2⟩
    rw [e1, e2]
  · intro e
    have := List.append_inj' e rfl
    exact ⟨this.1, by simpa using this.2⟩
end Go.Proofs.YtkblmdakejmmhaaDoor

/- Filling, length, Size and Equal. -/
namespace Go.Proofs.YtkblmdakejmmhaaDoor
open Go Go.RowKit

set_option maxRecDepth 50000 in
theorem afill_any (A : Option Addr) (n c f : Nat) (w : World) (hn : n ≤ 4096) (hf : fillN n = f) :
    Calls Tryd.prog 38 #[.slice A n c] w fun e w' => ∃ B, e = .returned (.slice B f f) ∧ Nums w' .u8 B (zeros f) ∧ Below w.heap.size w w' := by
  obtain ⟨i0, hi0, hz0, hz1, hz2⟩ := info_parts Tryd.info5
  have hf16 : f < 16 := by rw [← hf]; exact fillN_lt n
  have e1 : (n : Int).tmod 16 = ((n % 16 : Nat) : Int) := by rw [Int.tmod_eq_emod_of_nonneg (by omega)]; omega
  have e2 : ((16 : Int) - ((n % 16 : Nat) : Int)).tmod 16 = (f : Int) := by
    rw [Int.tmod_eq_emod_of_nonneg (by omega), ← hf]
    unfold fillN
    omega
  have b1 : ((n % 16 : Nat) : Int) < 16 := by omega
  have b0 : (0 : Int) ≤ ((n % 16 : Nat) : Int) := by omega
  clear hf
  generalize ((n % 16 : Nat) : Int) = r at *
  have hn1 : (n : Int) ≤ 4096 := by omega
  go_enter Tryd.func38, Tryd.ntmps38
  go_wp2_with (at_make; refine wpList_make_full _ rfl _ _ 23 rfl w.heap.size 5 i0 _ 1 Tryd.underlying23 hi0 hz0 hz1 .i64 .i64 _ _ f rfl rfl ?_ ?_ ?_ ?_ ?_ ?_)
  · rfl
  · rfl
  · rw [hz2]; omega
  · unfold maxLen; omega
  · exact Nat.le_refl _
  intro w1 hown hgrow
  have hb1 : Below w.heap.size w w1 := (Below.refl _ _).grown hgrow (Nat.le_refl _) (by simp)
  have hO : Owns w1 w.heap.size 5 .u8 (.slice (some ⟨w.heap.size, 0, none⟩) f f) (zeros f) := by
    unfold Owns zeros
    rw [List.length_replicate, List.map_replicate, ← toList_madeCells_one]
    exact hown
  clear hown hgrow
  go_wp2
  go_ret
  exact ⟨_, rfl, hO.nums, hb1⟩
set_option maxRecDepth 50000 in
theorem alen_any (A : Option Addr) (n c : Nat) (w : World) (hn : n ≤ 4096) :
    Calls Tryd.prog 39 #[.slice A n c] w fun e w' => ∃ B d, e = .returned (.slice B 8 d) ∧ 8 ≤ d ∧ Nums w' .u8 B (le8 n) ∧ Below w.heap.size w w' := by
  go_enter Tryd.func39, Tryd.ntmps39
  go_wp2_with (go_at_call 62; refine (wlow8 n _ hn).mono ?_; rintro e w' ⟨B, d, rfl, hd, hN, hb⟩)
  go_ret
  exact ⟨B, d, rfl, hd, hN, hb⟩
/-- How many bytes a sealed text has. -/
def sizeN (n : Int) : Int := if 0 ≤ n ∧ n ≤ 1048560 then n + 16 else 0
set_option maxRecDepth 50000 in
theorem aequal_same (A B : Option Addr) (n c d : Nat) (xs ys : List Int) (w : World) (hn : n ≤ 4096) (hx : Hid (xs.length = n)) (hy : Hid (ys.length = n)) (bx : HByt xs) (by_ : HByt ys) (hA : Nums w .u8 A xs) (hB : Nums w .u8 B ys) :
    Calls Tryd.prog 30 #[.slice A n c, .slice B n d] w fun e w' => ∃ r, e = .returned (.bool r) ∧ Hid (r = decide (xs = ys)) ∧ Below w.heap.size w w' := by
  have hn1 : (n : Int) ≤ 4096 := by omega
  go_enter Tryd.func30, Tryd.ntmps30
  go_wp2
  go_loopw [5, 15] (fun v i wr => ∃ (k : Nat) (dv : Int), k ≤ n ∧ i = .int .i64 k ∧ v = .int .u8 dv ∧ Hid (DiffI xs ys k dv) ∧ 0 ≤ dv ∧ dv < 256 ∧ wr = w) (fun _ i _ => n - (intOf i).toNat)
  case atStart => exact ⟨0, 0, Nat.zero_le _, rfl, rfl, hid (DiffI.start xs ys), by omega, by omega, rfl⟩
  case round =>
    obtain ⟨k, dv, hk, rfl, rfl, HD, hd0, hd1, rfl⟩ := hrel
    by_cases hlt : k < n
    · have hk0 : (0 : Int) ≤ k := by omega
      have hk1 : (k : Int) < n := by omega
      obtain ⟨b1, o1, x, rfl, _, hc1, H1⟩ := hA.get (i := k) (by rw [hx.out]; exact hlt)
      obtain ⟨b2, o2, y, rfl, _, hc2, H2⟩ := hB.get (i := k) (by rw [hy.out]; exact hlt)
      have hS := HD.out.step H1.out H2.out (bx.at_ H1.out) (by_.at_ H2.out)
      obtain ⟨z, hz⟩ : ∃ z, bits .xor .u8 x y = z := ⟨_, rfl⟩
      obtain ⟨q, hq⟩ : ∃ q, bits .or .u8 dv z = q := ⟨_, rfl⟩
      have e1 : bits .or .u8 dv (xb x y) = q := by show bits .or .u8 dv (bits .xor .u8 x y) = q; rw [hz, hq]
      rw [e1] at hS
      have q0 := hS.1.1
      have q1 := hS.1.2
      have HS := hid hS
      clear hS e1
      go_wp2
      go_roundw
      case rel => exact ⟨k + 1, q, by omega, by go_num, rfl, HS, q0, q1, trivial⟩
      case measure => simp [intOf]; omega
    · have e : k = n := by omega
      subst e
      have hE : (dv = 0) ↔ xs = ys := by
        have := HD.out.2
        rwa [List.take_of_length_le (by rw [hx.out]; omega), List.take_of_length_le (by rw [hy.out]; omega)] at this
      have HR : Hid ((dv == 0) = decide (xs = ys)) := hid (by
        by_cases h0 : dv = 0
        · rw [decide_eq_true (hE.1 h0), h0]; rfl
        · rw [decide_eq_false (fun h => h0 (hE.2 h))]; exact beq_false_of_ne h0)
      clear hE
      go_wp2
      go_ret
      exact ⟨(dv == 0), rfl, HR, Below.refl _ _⟩
end Go.Proofs.YtkblmdakejmmhaaDoor

/- Of the layers before: PRef0. -/
namespace Go.Proofs.YtkblmdakejmmhaaDoor
open Go Go.RowKit

/-- What has been added, digit by digit. -/
def SumIZ (l m ys : List Nat) (cyZ k : Nat) : Prop := ys.length = k ∧ Digs ys ∧ cyZ ≤ 1 ∧ dv ys + cyZ * 65536 ^ k = dv (l.take k) + dv (m.take k)
/-- The order. -/
def QN : Nat := 7237005577332262213973186563042994240857116359379907606001950938285454250989
/-- Bytes, two by two. -/
def pr : List Int → List Int
  | [] => []
  | [a] => [a]
  | a :: b :: r => (a + 256 * b) :: pr r
def DL : List Int := [163, 120, 89, 19, 202, 77, 235, 117, 171, 216, 65, 65, 77, 10, 112, 0, 152, 232, 121, 119, 121, 64, 199, 140, 115, 254, 111, 43, 238, 108, 3, 82]
/-- Digits times m and a number below m, digit by digit. -/
def MulI (m c : Nat) (xs zs : List Nat) (cyZ j : Nat) : Prop := zs.length = xs.length ∧ Digs zs ∧ cyZ < m ∧ dv zs + cyZ * 65536 ^ j + dv (xs.take j) = dv xs + m * dv (xs.take j) + c ∧ ∀ i, j ≤ i → zs[i]? = xs[i]?
/-- The mask of t bits: half of 2 to the t. -/
def bt (t : Nat) : Nat := 2 ^ t / 2
end Go.Proofs.YtkblmdakejmmhaaDoor

/- The reference's prime and its remainder. -/
namespace Go.Proofs.YtkblmdakejmmhaaDoor
open Go Go.RowKit

def PDZ : List Nat := [65531, 65535, 65535, 65535, 65535, 65535, 65535, 65535, 3, 0]
/-- Ten digits of a number. -/
def R10 (l : List Nat) (m : Nat) : Prop := l.length = 10 ∧ Digs l ∧ dv l = m
/-- A call returns new digits of a number. -/
def ROutZ (n : Nat) (w : World) (e : Ending) (w' : World) : Prop := ∃ A c ys, e = .returned (.slice A 10 c) ∧ Hid (R10 ys n) ∧ NumsF w.heap.size w' .i64 A (nl ys) ∧ Below w.heap.size w w'
end Go.Proofs.YtkblmdakejmmhaaDoor

/- The reference's digits of bytes, bytes of a number, and sums. -/
namespace Go.Proofs.YtkblmdakejmmhaaDoor
open Go Go.RowKit

end Go.Proofs.YtkblmdakejmmhaaDoor

/- The reference's products. -/
namespace Go.Proofs.YtkblmdakejmmhaaDoor
open Go Go.RowKit

end Go.Proofs.YtkblmdakejmmhaaDoor

/- The reference's Clamp. -/
namespace Go.Proofs.YtkblmdakejmmhaaDoor
open Go Go.RowKit

end Go.Proofs.YtkblmdakejmmhaaDoor

/- The reference's tag. -/
namespace Go.Proofs.YtkblmdakejmmhaaDoor
open Go Go.RowKit

/-- The bytes of a sum, two by two. -/
def RI (aa ss : List Nat) (k : Nat) (zs : List Int) (cyZ : Nat) : Prop := zs.length = 16 ∧ Byt zs ∧ cyZ ≤ 1 ∧ bv (zs.take (2 * k)) + ((cyZ * 65536 ^ k : Nat) : Int) = ((dv (aa.take k) + dv (ss.take k) : Nat) : Int)
end Go.Proofs.YtkblmdakejmmhaaDoor
