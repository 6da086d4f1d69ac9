/- Lists of 32-bit words as bytes, and back. -/
import Derived.Test.YtcbcahlgafngcaaDoorWSplit32
import Derived.Test.YtcbcahlgafngcaaDoorWJoin32
import Derived.Test.YtcbcahlgafngcaaDoorArr
namespace Go.Proofs.YtcbcahlgafngcaaDoor
open Go.RowKit

set_option maxHeartbeats 400000 in
theorem words32_any (A : Option Addr) (c n : Nat) (b : List Int) (w : World) (hn : b.length ≤ 4096) (hq : b.length = 4 * n) (hby : HByt b) (hA : Nums w .u8 A b) :
    Calls Tryd.prog 26 #[.slice A b.length c, .int .i64 4, .int .i64 1] w fun e w' => ∃ B d ys, e = .returned (.tuple #[.slice B ys.length d, .int .i64 0]) ∧ Hid (ys = joinB false 4 b) ∧ NumsF w.heap.size w' .u32 B ys ∧ Below w.heap.size w w' := by
  have hmi : (b.length : Int) % 4 = 0 := by omega
  have HQ := hid hq
  clear hq
  go_enter Tryd.func26, Tryd.ntmps26
  go_wp2_with (go_at_call 28; refine (join32 false A c 4 b _ (by omega) (by omega) hn (by have := HQ.out; omega) hby hA).mono ?_; rintro e w' ⟨B, d, ys, rfl, HY, hN, hb⟩)
  go_ret2
  exact ⟨B, d, ys, rfl, HY, hN, hb⟩
theorem wWords32 (A : Option Addr) (c n m : Nat) (b : List Int) (w : World) (hl : b.length = m) (hn : m ≤ 4096) (hq : m = 4 * n) (hby : HByt b) (hA : Nums w .u8 A b) :
    Calls Tryd.prog 22 #[.slice A m c] w fun e w' => ∃ B d ys, e = .returned (.tuple #[.slice B n d, .int .i64 0]) ∧ Hid (ys = joinB false 4 b) ∧ Hid (ys.length = n) ∧ NumsF w.heap.size w' .u32 B ys ∧ Below w.heap.size w w' := by
  subst hl
  have HQ := hid hq
  clear hq
  go_enter Tryd.func22, Tryd.ntmps22
  go_wp2_with (go_at_call 26; refine (words32_any A c n b _ hn HQ.out hby hA).mono ?_; rintro e w' ⟨B, d, ys, rfl, HY, hN, hb⟩)
  go_ret2
  have e : ys.length = n := by rw [HY.out, joinB_length]; have := HQ.out; omega
  exact ⟨B, d, ys, by rw [← e]; rfl, HY, hid e, hN, hb⟩
theorem wBytes32 (A : Option Addr) (c n : Nat) (l : List Int) (w : World) (hl : l.length = n) (hn : n ≤ 500) (hA : Nums w .u32 A l) :
    Calls Tryd.prog 19 #[.slice A n c] w fun e w' => ∃ B d ys, e = .returned (.slice B (4 * n) d) ∧ Hid (ys = splitB false 4 l) ∧ Hid (ys.length = 4 * n) ∧ NumsF w.heap.size w' .u8 B ys ∧ Below w.heap.size w w' := by
  subst hl
  go_enter Tryd.func19, Tryd.ntmps19
  go_wp2_with (go_at_call 23; refine (split32 false A c 4 l _ (by omega) (by omega) (by omega) hA).mono ?_; rintro e w' ⟨B, d, ys, rfl, HY, hN, hb⟩)
  go_ret
  have e : ys.length = 4 * l.length := by rw [HY.out, splitB_length]; omega
  exact ⟨B, d, ys, by rw [← e]; rfl, HY, hid e, hN, hb⟩
theorem wBytes16 (A : Option Addr) (c : Nat) (l : List Int) (w : World) (hl : l.length = 16) (hA : Nums w .u32 A l) :
    Calls Tryd.prog 19 #[.slice A 16 c] w fun e w' => ∃ g f d ys, e = .returned (.slice (some ⟨g, f, none⟩) 64 d) ∧ Hid (ys = splitB false 4 l) ∧ Hid (ys.length = 64) ∧ w'.rangeAt g f (ints .u8 ys) ∧ Below w.heap.size w w' :=
  (wBytes32 A c 16 l w hl (by omega) hA).mono fun e w' ⟨B, d, ys, he, hY, hL, hN, hb⟩ => by
    obtain ⟨g, f, hB, _, _, hc⟩ := hN (by rw [hL.out]; omega)
    refine ⟨g, f, d, ys, by rw [he, hB], hY, hL, fun j v hv => ?_, hb⟩
    simp only [ints, List.getElem?_map, Option.map_eq_some_iff] at hv
    obtain ⟨x, hx, rfl⟩ := hv
    rw [hc j (List.getElem?_eq_some_iff.1 hx).1, List.getD_eq_getElem?_getD, hx]; rfl
end Go.Proofs.YtcbcahlgafngcaaDoor
