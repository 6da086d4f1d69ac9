/- What the reference hides of nothing, and of all. -/
import Derived.Test.YtcbcahlgafngcaaDoorDHide
namespace Go.Proofs.YtcbcahlgafngcaaDoor
open Go Go.RowKit
set_option maxRecDepth 4000 in
set_option maxHeartbeats 4000000 in
theorem rhide_zero (key nonce : List Int) (c : Int) (A : Option Addr) (cb : Nat) (w : World) :
    Calls Tryd.prog 14 #[.agg (ints .u8 key).toArray, .agg (ints .u8 nonce).toArray, .int .u32 c, .slice A 0 cb] w fun e w' => e = .returned (.slice none 0 0) ∧ Below w.heap.size w w' := by
  obtain ⟨W1, hW1⟩ : ∃ W, (w.alloc (.cells (ints .u8 key).toArray 22)).alloc (.cells (ints .u8 nonce).toArray 23) = W := ⟨_, rfl⟩
  have hB : Below w.heap.size w W1 := by rw [← hW1]; exact ((Below.refl _ w).alloc (Nat.le_refl _) _).alloc (by simp) _
  have HW := hid hW1
  clear hW1
  go_enter Tryd.func14, Tryd.ntmps14
  go_wp2
  rw [HW.out]
  go_loopw [2, 9, 10] (fun v2 v9 v10 wr => v10 = .int .i64 0 ∧ v9 = .slice none 0 0 ∧ wr = W1) (fun _ _ _ _ => 0)
  case atStart => exact ⟨rfl, rfl, rfl⟩
  case round =>
    obtain ⟨rfl, rfl, rfl⟩ := hrel
    go_wp2
    go_ret
    exact ⟨rfl, hB⟩
theorem rhide_all (key nonce b : List Int) (c0 n lb cb : Nat) (A0 : Option Addr) (w : World) (hk : Hid (key.length = 32)) (hn : Hid (nonce.length = 12)) (hkb : HByt key) (hnb : HByt nonce) (hb : HByt b) (hl : Hid (b.length = lb)) (h5 : lb ≤ 500)
    (hcn : c0 + n ≤ 4294967296) (hbn : lb ≤ 64 * n) (hA : Nums w .u8 A0 b) :
    Calls Tryd.prog 14 #[.agg (ints .u8 key).toArray, .agg (ints .u8 nonce).toArray, .int .u32 (c0 : Int), .slice A0 lb cb] w fun e w' => ∃ A d, e = .returned (.slice A lb d) ∧ Nums w' .u8 A (hideL b (strm key nonce c0 n)) ∧ Below w.heap.size w w' := by
  by_cases hp : 0 < lb
  · obtain ⟨g, o, rfl, _⟩ := hA (by rw [hl.out]; exact hp)
    exact rhide_any key nonce b c0 n lb cb g o w hk hn hkb hnb hb hl h5 hp hcn hbn hA
  · obtain rfl : lb = 0 := by omega
    have e : b = [] := List.eq_nil_of_length_eq_zero hl.out
    subst e
    refine (rhide_zero key nonce c0 A0 cb w).mono ?_
    rintro e w' ⟨rfl, hB⟩
    exact ⟨none, 0, rfl, fun h => absurd h (by simp [hideL]), hB⟩
end Go.Proofs.YtcbcahlgafngcaaDoor
