/- The words before the first round. -/
import Derived.Test.YtkblmdakejmmhaaDoorG22
import Derived.Test.YtkblmdakejmmhaaDoorG23
import Derived.Test.YtkblmdakejmmhaaDoorG18
namespace Go.Proofs.YtkblmdakejmmhaaDoor
open Go Go.RowKit

def z16 : List Int := [0, 0, 0, 0, 0, 0, 0, 0, 0, 0, 0, 0, 0, 0, 0, 0]
def s0 (count : Int) : List Int := [1634760805, 857760878, 2036477234, 1797285236, 0, 0, 0, 0, 0, 0, 0, 0, count, 0, 0, 0]
set_option maxRecDepth 50000 in
theorem info51 : (Tryd.prog.info? 90).map (fun i => (i.zero, i.size)) = some (some (.agg (ints .u32 z16).toArray), 16) := by kernel_rfl
set_option maxRecDepth 50000 in
theorem ones51 (count : Int) : ((#[.int .u32 1634760805, .int .u32 857760878, .int .u32 2036477234, .int .u32 1797285236, .int .u32 0, .int .u32 0, .int .u32 0, .int .u32 0, .int .u32 0, .int .u32 0, .int .u32 0, .int .u32 0, .int .u32 count, .int .u32 0, .int .u32 0, .int .u32 0] : Array Value)).all (·.oneCell') = true := ints_all .u32 (s0 count)
set_option maxRecDepth 50000 in
theorem NumsF.past {lo : Nat} {w : World} {k : IntKind} {A : Option Addr} {xs : List Int} (h : NumsF lo w k A xs) {b : Nat} (o : Nat) (vs : List Value) (hb : b < lo) : NumsF lo (w.setCells b o vs) k A xs := fun hp => by
  obtain ⟨g, off, e, hlo, hlt, hc⟩ := h hp
  have hs := setCells_frame b vs o w
  refine ⟨g, off, e, hlo, by rw [setCells_size]; exact hlt, fun i hi => ?_⟩
  rw [World.cell?_of_block (a := ⟨g, off + i, none⟩) (hs.2.2.2.2 g (by omega))]
  exact hc i hi
set_option maxRecDepth 50000 in
theorem start_over (count : Int) (ys zs : List Int) (h : ys.length = 8) (k : zs.length = 3) : over (over (s0 count) 4 ys) 13 zs = C4 ++ ys ++ [count] ++ zs := by
  match ys, h with
  | [a, b, c, d, e, f, g, i], _ =>
    match zs, k with
    | [x, y, z], _ => rfl
set_option maxRecDepth 50000 in
theorem start_cut (count : Int) (ys : List Int) (h : ys.length = 8) : ((over (s0 count) 4 ys).drop 13).take 3 = [0, 0, 0] := by
  match ys, h with
  | [a, b, c, d, e, f, g, i], _ => rfl
set_option maxRecDepth 50000 in
theorem info24s : (Tryd.prog.info? 44).map (·.size) = some 1 := by kernel_rfl
set_option maxRecDepth 50000 in
theorem start_world (key nonce : List Int) (count : Int) (w : World) : ∃ W, W = (((((w.alloc (.cells (ints .u8 key).toArray 22)).alloc (.cells (ints .u8 nonce).toArray 36)).alloc (.cells #[.int .u32 0, .int .u32 0, .int .u32 0, .int .u32 0, .int .u32 0, .int .u32 0, .int .u32 0, .int .u32 0, .int .u32 0, .int .u32 0, .int .u32 0, .int .u32 0, .int .u32 0, .int .u32 0, .int .u32 0, .int .u32 0] 90)).alloc (.cells #[.int .u32 0, .int .u32 0, .int .u32 0, .int .u32 0, .int .u32 0, .int .u32 0, .int .u32 0, .int .u32 0, .int .u32 0, .int .u32 0, .int .u32 0, .int .u32 0, .int .u32 0, .int .u32 0, .int .u32 0, .int .u32 0] 90)).setCells (w.heap.size + 1 + 1 + 1) 0 (#[.int .u32 1634760805, .int .u32 857760878, .int .u32 2036477234, .int .u32 1797285236, .int .u32 0, .int .u32 0, .int .u32 0, .int .u32 0, .int .u32 0, .int .u32 0, .int .u32 0, .int .u32 0, .int .u32 count, .int .u32 0, .int .u32 0, .int .u32 0] : Array Value).toList) ∧ Arr W w.heap.size 0 .u8 key ∧ Arr W (w.heap.size + 1) 0 .u8 nonce ∧ Arr W (w.heap.size + 1 + 1) 0 .u32 z16 ∧ Arr W (w.heap.size + 1 + 1 + 1) 0 .u32 (s0 count) ∧ Below w.heap.size w W ∧ W.heap.size = w.heap.size + 4 := by
  have a1 := Arr.made w .u8 key 22
  have a2 := Arr.made (w.alloc (.cells (ints .u8 key).toArray 22)) .u8 nonce 36
  have a3 := Arr.made ((w.alloc (.cells (ints .u8 key).toArray 22)).alloc (.cells (ints .u8 nonce).toArray 36)) .u32 z16 90
  have a4 := Arr.made (((w.alloc (.cells (ints .u8 key).toArray 22)).alloc (.cells (ints .u8 nonce).toArray 36)).alloc (.cells #[.int .u32 0, .int .u32 0, .int .u32 0, .int .u32 0, .int .u32 0, .int .u32 0, .int .u32 0, .int .u32 0, .int .u32 0, .int .u32 0, .int .u32 0, .int .u32 0, .int .u32 0, .int .u32 0, .int .u32 0, .int .u32 0] 90)) .u32 z16 90
  simp only [World.size_alloc] at a2 a3 a4
  refine ⟨_, rfl, ?_, ?_, ?_, ?_, ?_, ?_⟩
  · exact (((a1.alloc _).alloc _).alloc _).past _ (.inl (by omega))
  · exact ((a2.alloc _).alloc _).past _ (.inl (by omega))
  · exact (a3.alloc _).past _ (.inl (by omega))
  · exact a4.all (ys := s0 count) rfl
  · exact Below.setCells (((((Below.refl _ w).alloc (Nat.le_refl _) _).alloc (by simp) _).alloc (by simp; omega) _).alloc (by simp; omega) _) (by omega) _ _
  · rw [setCells_size]; simp
set_option maxRecDepth 4000 in
set_option maxHeartbeats 2000000 in
theorem start_any (key nonce : List Int) (count : Int) (w : World) (hk : Hid (key.length = 32)) (hn : Hid (nonce.length = 12)) (hkb : HByt key) (hnb : HByt nonce) :
    Calls Tryd.prog 55 #[.agg (ints .u8 key).toArray, .agg (ints .u8 nonce).toArray, .int .u32 count] w fun e w' => e = .returned (.agg (ints .u32 (startL key nonce count)).toArray) ∧ Below w.heap.size w w' := by
  go_enter Tryd.func55, Tryd.ntmps55
  go_wp2_with (with_reducible refine wpList_store_mid (op := ⟨none, .store 90 (.tmp 7) (.tmp 13), _, _, _, _⟩) rfl 90 (.tmp 7) (.tmp 13) rfl (w.heap.size + 1 + 1 + 1) 0 #[.int .u32 1634760805, .int .u32 857760878, .int .u32 2036477234, .int .u32 1797285236, .int .u32 0, .int .u32 0, .int .u32 0, .int .u32 0, .int .u32 0, .int .u32 0, .int .u32 0, .int .u32 0, .int .u32 count, .int .u32 0, .int .u32 0, .int .u32 0] rfl rfl ?_ ?_ (ones51 count) ?_)
  · have := (Arr.made (((w.alloc (.cells (ints .u8 key).toArray 22)).alloc (.cells (ints .u8 nonce).toArray 36)).alloc (.cells #[.int .u32 0, .int .u32 0, .int .u32 0, .int .u32 0, .int .u32 0, .int .u32 0, .int .u32 0, .int .u32 0, .int .u32 0, .int .u32 0, .int .u32 0, .int .u32 0, .int .u32 0, .int .u32 0, .int .u32 0, .int .u32 0] 90)) .u32 z16 90).there
    simp only [World.size_alloc] at this
    exact this
  · exact szA info51 (vs := ints .u32 (s0 count)) rfl
  obtain ⟨W1, hW1, hK, hN, hZ, hS, hB, hsz⟩ := start_world key nonce count w
  rw [← hW1]
  clear hW1
  generalize hbs : w.heap.size + 1 + 1 + 1 = bs at *
  generalize hbz : w.heap.size + 1 + 1 = bz at *
  generalize hbn : w.heap.size + 1 = bn at *
  have l1 : w.heap.size < W1.heap.size := by omega
  have l2 : bn < W1.heap.size := by omega
  have l3 : bz < W1.heap.size := by omega
  have l4 : bs < W1.heap.size := by omega
  have n1 : bz ≠ bs := by omega
  have n2 : w.heap.size ≤ bz := by omega
  have n3 : w.heap.size ≤ bs := by omega
  clear hbs hbz hbn hsz
  refine (wWords32 _ _ 8 32 key _ hk.out (by omega) (by omega) hkb hK.nums).mono ?_
  rintro e w2 ⟨B1, d1, ys1, rfl, HY1, HL1, hY1, hb2⟩
  have hN2 := hN.below hb2 l2
  have hZ2 := hZ.below hb2 l3
  have hS2 := hS.below hb2 l4
  have hB2 := hB.trans (hb2.mono hB.size)
  have s2 := hb2.size
  clear hK hN hZ hS hB
  go_wp2_with (first
    | (go_at_call 68; refine (wWords32 _ _ 3 12 nonce _ hn.out (by omega) (by omega) hnb hN2.nums).mono ?_; rintro e w3 ⟨B2, d2, ys2, rfl, HY2, HL2, hY2, hb3⟩
       have hZ3 := hZ2.below hb3 (Nat.lt_of_lt_of_le l3 s2)
       have hS3 := hS2.below hb3 (Nat.lt_of_lt_of_le l4 s2)
       have hB3 := hB2.trans (hb3.mono hB2.size)
       have hY13 := hY1.stay hb3
       have R1 : Rw w3 bs 4 (ints .u32 [0, 0, 0, 0, 0, 0, 0, 0]) := (show Arr w3 bs 4 .u32 [0, 0, 0, 0, 0, 0, 0, 0] from by have := hS3.cut (lo := 4) (m := 8) (by show 12 ≤ 16; omega); rw [Nat.zero_add] at this; exact this).rw
       have X1 := hY13.nums)
    | (with_reducible refine wpList_copyR (o := ⟨some 26, .call _, _, _, _, _⟩) rfl (.tmp 24) (.tmp 25) 93 93 rfl Tryd.underlying93 info24s (b := bs) (f := 4) (m := 8) (c := 12) (c' := d1) rfl rfl R1 (il rfl) HL1.out (by decide) X1 ?_
       have s3 := hb3.size
       have hS4 : Arr (w3.setCells bs 4 (ints .u32 ys1)) bs 0 .u32 (over (s0 count) 4 ys1) := by have := hS3.over (j := 4) (ys := ys1) (by rw [HL1.out]; show 12 ≤ 16; omega); rw [Nat.zero_add] at this; exact this
       have hZ4 := hZ3.past (b' := bs) (o' := 4) (ints .u32 ys1) (.inl (Ne.symm n1))
       have hY4 := hY2.past 4 (ints .u32 ys1) (Nat.lt_of_lt_of_le l4 s2)
       have hB4 := Below.setCells hB3 n3 4 (ints .u32 ys1)
       have e4 : (ints .u32 ys1).toArray.toList = ints .u32 ys1 := rfl
       rw [e4]
       clear hS3 hZ3 hY2 hB3 R1 X1 e4
       generalize w3.setCells bs 4 (ints .u32 ys1) = w4 at *
       have R2 : Rw w4 bs 13 (ints .u32 [0, 0, 0]) := (show Arr w4 bs 13 .u32 [0, 0, 0] from by have := hS4.cut (lo := 13) (m := 3) (by rw [over_length (by rw [HL1.out]; show 12 ≤ 16; omega)]; show 16 ≤ 16; omega); rw [Nat.zero_add, start_cut count ys1 HL1.out] at this; exact this).rw
       have X2 := hY4.nums)
    | (with_reducible refine wpList_copyR (o := ⟨some 29, .call _, _, _, _, _⟩) rfl (.tmp 27) (.tmp 28) 93 93 rfl Tryd.underlying93 info24s (b := bs) (f := 13) (m := 3) (c := 3) (c' := d2) rfl rfl R2 (il rfl) HL2.out (by decide) X2 ?_
       have hS5 : Arr (w4.setCells bs 13 (ints .u32 ys2)) bs 0 .u32 (startL key nonce count) := by
         have := hS4.over (j := 13) (ys := ys2) (by rw [HL2.out, over_length (by rw [HL1.out]; show 12 ≤ 16; omega)]; show 16 ≤ 16; omega)
         have hs : startL key nonce count = over (over (s0 count) 4 ys1) 13 ys2 := by rw [start_over count ys1 ys2 HL1.out HL2.out, HY1.out, HY2.out]; rfl
         rw [Nat.zero_add] at this
         rw [hs]
         exact this
       have hZ5 := hZ4.past (b' := bs) (o' := 13) (ints .u32 ys2) (.inl (Ne.symm n1))
       have hB5 := Below.setCells hB4 n3 13 (ints .u32 ys2)
       have e5 : (ints .u32 ys2).toArray.toList = ints .u32 ys2 := rfl
       rw [e5]
       have hln : (startL key nonce count).length = 16 := startL_length hk.out hn.out
       have HLN := hid hln
       generalize hsl : startL key nonce count = sl at *
       have HSL := hid hsl
       clear hS4 hZ4 hY4 hB4 R2 X2 e5 hln hsl
       generalize w4.setCells bs 13 (ints .u32 ys2) = w5 at *
       have G5 := hS5.range
       have T5 := hZ5.there)
    | (with_reducible refine wpList_load_mid (op := ⟨some 30, .load 90 (.tmp 7), _, _, _, _⟩) rfl 90 (.tmp 7) rfl bs 0 rfl (ints .u32 sl) _ G5 Tryd.underlying90 rfl (szV info51 (il HLN.out)) ?_)
    | (with_reducible refine wpList_store_mid (op := ⟨none, .store 90 (.tmp 6) (.tmp 30), _, _, _, _⟩) rfl 90 (.tmp 6) (.tmp 30) rfl bz 0 (ints .u32 sl).toArray rfl rfl ?_ (szA info51 (il HLN.out)) (ints_all _ _) ?_))
  · have : (ints IntKind.u32 sl).toArray.size = z16.length := by simp [HLN.out, z16]
    rw [this]; exact T5
  have hZ6 := hZ5.all (ys := sl) (by rw [HLN.out]; rfl)
  (try simp only [Exit.inBlock, Exit.then])
  refine ret_rows rfl bz 0 rfl (ints .u32 sl) _ hZ6.range Tryd.underlying90 rfl (szV info51 (il HLN.out)) rfl ?_
  exact ⟨by rw [HSL.out], Below.setCells hB5 n2 0 _⟩
end Go.Proofs.YtkblmdakejmmhaaDoor
