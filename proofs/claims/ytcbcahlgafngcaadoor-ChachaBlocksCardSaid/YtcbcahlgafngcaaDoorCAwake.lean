/- The block of nothing. -/
import Derived.Test.YtcbcahlgafngcaaDoorCHide
namespace Go.Proofs.YtcbcahlgafngcaaDoor
open Go Go.RowKit

theorem zero_block : (blockL (List.replicate 32 0) (List.replicate 12 0) 0)[0]? = some 118 ∧ (blockL (List.replicate 32 0) (List.replicate 12 0) 0)[1]? = some 184 ∧ (blockL (List.replicate 32 0) (List.replicate 12 0) 0)[2]? = some 224 ∧ (blockL (List.replicate 32 0) (List.replicate 12 0) 0)[3]? = some 173 :=
  ⟨by kernel_rfl, by kernel_rfl, by kernel_rfl, by kernel_rfl⟩
theorem got_world (bl : List Int) (w2 : World) (hbl : bl.length = 64) : ∃ W, W = (w2.alloc (.cells z64c 33)).setCells w2.heap.size 0 (ints .u8 bl).toArray.toList ∧ (w2.alloc (.cells z64c 33)).there w2.heap.size 0 (ints .u8 bl).toArray.size ∧ Arr W w2.heap.size 0 .u8 bl ∧ Below w2.heap.size w2 W ∧ W.heap.size = w2.heap.size + 1 := by
  have a1 : Arr (w2.alloc (.cells z64c 33)) w2.heap.size 0 .u8 z64 := Arr.made w2 .u8 z64 33
  have e : (ints .u8 bl).toArray.size = z64.length := by simp [hbl, z64]
  have hb : Below w2.heap.size w2 (w2.alloc (.cells z64c 33)) := (Below.refl _ w2).alloc (Nat.le_refl _) _
  refine ⟨_, rfl, by rw [e]; exact a1.there, a1.all (ys := bl) (by rw [hbl]; rfl), Below.setCells hb (Nat.le_refl _) 0 _, ?_⟩
  obtain ⟨_, _, _, h4, _⟩ := setCells_frame w2.heap.size (ints .u8 bl).toArray.toList 0 (w2.alloc (.cells z64c 33))
  rw [h4]; simp
set_option maxRecDepth 8000 in
set_option maxHeartbeats 4000000 in
theorem awake_any (w : World) (hT : Tabs w) : Calls Tryd.prog 6 #[] w fun e w' => e = .returned (.bool true) ∧ Below w.heap.size w w' := by
  have hz : ∀ x ∈ List.replicate 32 (0 : Int), 0 ≤ x ∧ x < 256 := fun x hx => by rw [List.eq_of_mem_replicate hx]; omega
  have hz2 : ∀ x ∈ List.replicate 12 (0 : Int), 0 ≤ x ∧ x < 256 := fun x hx => by rw [List.eq_of_mem_replicate hx]; omega
  obtain ⟨bl, hbl⟩ : ∃ l, blockL (List.replicate 32 0) (List.replicate 12 0) 0 = l := ⟨_, rfl⟩
  have hb := zero_block
  have hb64 : Hid (bl.length = 64) := hid (by rw [← hbl]; exact blockL_length (by simp) (by simp))
  rw [hbl] at hb
  obtain ⟨b0, b1, b2, b3⟩ := hb
  go_enter Tryd.func6, Tryd.ntmps6
  go_wp2_with (first
    | (go_at_call 9; refine (block_any (List.replicate 32 0) (List.replicate 12 0) 0 _ hT (hid (by simp)) (hid (by simp)) hz hz2 (hid ⟨by omega, by omega⟩)).mono ?_; rintro e w2 ⟨rfl, hb2⟩; rw [hbl]
       obtain ⟨W7, hW7, t6, hA7, hB7, _⟩ := got_world bl w2 hb64.out
       have i33a := szA info33 (il (k := .u8) hb64.out))
    | (with_reducible refine wpList_store_mid (op := ⟨none, .store 33 (.tmp 1) (.tmp 4), _, _, _, _⟩) rfl 33 (.tmp 1) (.tmp 4) rfl w2.heap.size 0 (ints .u8 bl).toArray rfl rfl t6 i33a (ints_all _ _) ?_
       rw [← hW7]
       have c0 := hA7.at_ b0
       have c1 := hA7.at_ b1
       have c2 := hA7.at_ b2
       have c3 := hA7.at_ b3
       simp only [Nat.zero_add] at c0 c1 c2 c3
       have hlx := hA7.lt (by rw [hb64.out]; omega)
       clear hW7))
  go_ret
  exact ⟨rfl, hb2.trans (hB7.mono hb2.size)⟩
end Go.Proofs.YtcbcahlgafngcaaDoor
