/- combine: a block of which each byte is combined with another one. -/
import Derived.Test.YtihipgojeikdkaaDoorG1
namespace Go.Proofs.YtihipgojeikdkaaDoor
open Go Go.RowKit

/-- Combined as far as k. -/
def mixV (c : Int) (b : List Int) (k : Nat) : List Int := vxl c (b.take k) ++ b.drop k
theorem mixV_zero (c : Int) (b : List Int) : mixV c b 0 = b := by simp [mixV, vxl]
theorem mixV_len (c : Int) (b : List Int) (k : Nat) : (mixV c b k).length = b.length := by
  unfold mixV
  rw [List.length_append, vxl_len, ← List.length_append, List.take_append_drop]
theorem mixV_end (c : Int) (b : List Int) (k : Nat) (h : b.length ≤ k) : mixV c b k = vxl c b := by
  unfold mixV
  rw [List.take_of_length_le h, List.drop_eq_nil_of_le h, List.append_nil]
theorem mixV_at (c : Int) (b : List Int) (k : Nat) {x : Int} (h : b[k]? = some x) : (mixV c b k)[k]? = some x := by
  have hk := (List.getElem?_eq_some_iff.1 h).1
  unfold mixV
  rw [List.getElem?_append_right (by rw [vxl_len, List.length_take]; omega), vxl_len, List.length_take, Nat.min_eq_left (by omega), Nat.sub_self, List.getElem?_drop]
  exact h
theorem mixV_set (c : Int) (b : List Int) (k : Nat) {x : Int} (h : b[k]? = some x) : (mixV c b k).set k (vx x c) = mixV c b (k + 1) := by
  obtain ⟨hk, hx⟩ := List.getElem?_eq_some_iff.1 h
  have hl : (vxl c (b.take k)).length = k := by rw [vxl_len, List.length_take]; omega
  unfold mixV
  rw [List.set_append, if_neg (by omega), hl, Nat.sub_self, List.drop_eq_getElem_cons hk, hx, List.set_cons_zero, take_succ_at h]
  simp [vxl]
set_option maxRecDepth 50000 in
set_option maxHeartbeats 2000000 in
theorem comb_any (b : List Int) (c : Int) (w : World) (hl : Hid (b.length = 128)) :
    Calls Tryd.prog 22 #[.agg (ints .u8 b).toArray, .int .u8 c] w fun e w' => ∃ g, e = .returned (.slice (some ⟨g, 0, none⟩) 128 128) ∧ w.heap.size ≤ g ∧ Arr w' g 0 .u8 (vxl c b) ∧ Below w.heap.size w w' := by
  have hA := Arr.made w .u8 b 46
  have hW := below_new w (.cells (ints .u8 b).toArray 46)
  go_enter Tryd.func22, Tryd.ntmps22
  go_wp2
  generalize w.alloc (.cells (ints .u8 b).toArray 46) = W at *
  go_loopw [6] (fun i wr => ∃ k : Nat, k ≤ 128 ∧ i = .int .i64 k ∧ Below w.heap.size w wr ∧ Arr wr w.heap.size 0 .u8 (mixV c b k)) (fun i _ => 128 - (intOf i).toNat)
  case atStart => exact ⟨0, Nat.zero_le _, rfl, hW, by rw [mixV_zero]; exact hA⟩
  case round =>
    clear hA hW
    obtain ⟨k, hk, rfl, hW, hA⟩ := hrel
    by_cases hlt : k < 128
    · obtain ⟨x, hx⟩ : ∃ x, b[k]? = some x := ⟨b[k]'(by rw [hl.out]; exact hlt), by simp [hl.out, hlt]⟩
      have hx1 := hA.at_ (mixV_at c b k hx)
      have hf := hA.free (i := k) (by rw [mixV_len, hl.out]; exact hlt)
      rw [Nat.zero_add] at hx1 hf
      have HX := hid (mixV_set c b k hx)
      obtain ⟨y, hy⟩ : ∃ y, bits .xor .u8 x c = y := ⟨_, rfl⟩
      have hyx : vx x c = y := hy
      rw [hyx] at HX
      have k0 : (0 : Int) ≤ k := by omega
      have k1 : (k : Int) < 128 := by omega
      clear hyx hx
      go_wp2
      go_roundw
      case rel =>
        have h := hA.set k y
        rw [HX.out, Nat.zero_add] at h
        exact ⟨k + 1, by omega, by go_num, hW.setCell (Nat.le_refl _) _, h⟩
      case measure => simp [intOf]; omega
    · have e : k = 128 := by omega
      subst e
      rw [mixV_end c b 128 (by rw [hl.out]; omega)] at hA
      go_wp2
      go_ret
      exact ⟨_, rfl, Nat.le_refl _, hA, hW⟩
end Go.Proofs.YtihipgojeikdkaaDoor
