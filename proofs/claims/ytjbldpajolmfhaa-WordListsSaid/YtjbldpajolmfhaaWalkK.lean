/- WordLists returns true. -/
import Derived.Test.YtjbldpajolmfhaaWalkJ
import Derived.Handy
namespace Go.Proofs.Ytjbldpajolmfhaa
open Go.RowKit

theorem words_ok {hi : Bool} {s : Nat} {b ys : List Int} (hm : b.length % s = 0) (h : Hid (ys = if b.length % s = 0 then joinB hi s b else [])) : ys = joinB hi s b := by rw [h.out, if_pos hm]
theorem words_no {hi : Bool} {s : Nat} {b ys : List Int} (hm : ¬ b.length % s = 0) (h : Hid (ys = if b.length % s = 0 then joinB hi s b else [])) : ys = [] := by rw [h.out, if_neg hm]
theorem werr_ok {s : Nat} {b : List Int} {E : Int} (hm : b.length % s = 0) (h : Hid (E = if b.length % s = 0 then 0 else 2)) : E = 0 := by rw [h.out, if_pos hm]
theorem werr_no {s : Nat} {b : List Int} {E : Int} (hm : ¬ b.length % s = 0) (h : Hid (E = if b.length % s = 0 then 0 else 2)) : E = 2 := by rw [h.out, if_neg hm]

theorem turned_n (A : Option Addr) (n c : Nat) (b : List Int) (w : World) (hn : n = b.length) (hl : b.length ≤ 4096) (hA : Nums w .u8 A b) :
    Calls Try.prog 16 #[.slice A n c] w fun e w' => ∃ B d ys, e = .returned (.slice B ys.length d) ∧ Hid (ys = b.reverse) ∧ Nums w' .u8 B ys ∧ Below w.heap.size w w' := by
  subst hn; exact turned_any A c b w hl hA
theorem wide_n (A : Option Addr) (n c : Nat) (b : List Int) (w : World) (hn : n = b.length) (h8 : b.length ≤ 8) (hby : Byt b) (hA : Nums w .u8 A b) :
    Calls Try.prog 20 #[.slice A n c] w fun e w' => ∃ v, e = .returned (.int .u64 v) ∧ Hid (v = hiv b) ∧ Below w.heap.size w w' := by
  subst hn; exact wide_any A c b w h8 hby hA
theorem piece {w : World} {b1 o1 s k : Nat} {b : List Int} (hA : Nums w .u8 (some ⟨b1, o1, none⟩) b) (h : k * s + s ≤ b.length) : Nums w .u8 (some ⟨b1, o1 + s * k, none⟩) (chunk s b k) := by
  have := hA.cut (lo := s * k) (m := s) (by rw [Nat.mul_comm]; exact h)
  unfold chunk
  rw [Nat.mul_comm k s]
  exact this
theorem piece_len {s k : Nat} {b : List Int} (h : k * s + s ≤ b.length) : s = (chunk s b k).length := by simp [chunk]; omega

set_option maxHeartbeats 1000000 in
theorem lists_88 (w : World) (A : Option Addr) (c : Nat) (b : List Int) (hl : b.length ≤ 200) (hc : b.length ≤ c) (hm8 : Hid (b.length % 8 = 0)) (hby : Byt b) (hA : Nums w .u8 A b) :
    Calls Try.prog 5 #[.slice A b.length c] w fun e w' => e = .returned (.bool true) ∧ Below w.heap.size w w' := by
  have HM4 : Hid (b.length % 4 = 0) := by have := hm8.out; show _ = _; omega
  have hi4 : (b.length : Int) % 4 = 0 := by have := HM4.out; omega
  have hi8 : (b.length : Int) % 8 = 0 := by have := hm8.out; omega
  go_enter Try.func5, Try.ntmps5
  go_wp2_with (first
    | (go_at_call 7; refine (awake_any _).mono ?_; rintro e w0 ⟨rfl, hb0⟩)
    | (go_at_call 17; refine (wWords32 A c b _ (by omega) hby (hA.below hb0)).mono ?_; rintro e w1 ⟨B1, d1, ys1, E1, rfl, HY1, HE1, hN1, hb1⟩; have hbx1 := nextB hb0 hb1; obtain rfl : E1 = 0 := werr_ok HM4.out HE1; have HZ1 := hid (words_ok HM4.out HY1); clear HY1; have hlq : 4 * (ys1.length : Int) = (b.length : Int) := (by rw [HZ1.out, joinB_length]; have := HM4.out; omega); have hll : ys1.length ≤ 50 := (by omega))
    | (go_at_call 18; refine (wWords64 A c b _ (by omega) hby (hA.below hbx1)).mono ?_; rintro e w2 ⟨B2, d2, ys2, E2, rfl, HY2, HE2, hN2, hb2⟩; have hbx2 := nextB hbx1 hb2; obtain rfl : E2 = 0 := werr_ok hm8.out HE2; have HZ2 := hid (words_ok hm8.out HY2); clear HY2; have hlq2 : 8 * (ys2.length : Int) = (b.length : Int) := (by rw [HZ2.out, joinB_length]; have := hm8.out; omega); have hll2 : ys2.length ≤ 25 := (by omega))
    | (go_at_call 19; refine (wBytes32 B1 d1 ys1 _ (by omega) (hN1.below hb2)).mono ?_; rintro e w3 ⟨B3, d3, ys3, rfl, HY3, hN3, hb3⟩; have hbx3 := nextB hbx2 hb3)
    | (go_at_call 12; refine (same_eq B3 A d3 c ys3 b _ (by rw [HY3.out, HZ1.out, split_join false 4 b (by omega) HM4.out hby]) (by rw [HY3.out, HZ1.out, split_join false 4 b (by omega) HM4.out hby]; unfold maxLen; omega) hN3 (hA.below hbx3)).mono ?_; rintro e w4 ⟨rfl, hb4⟩; have hbx4 := nextB hbx3 hb4))
  go_loopw [56] (fun i wr => ∃ k : Nat, k ≤ ys1.length ∧ i = .int .i64 k ∧ Below w.heap.size w wr ∧ Below w2.heap.size w2 wr) (fun i _ => ys1.length - (intOf i).toNat)
  case atStart => exact ⟨0, Nat.zero_le _, rfl, hbx4, nextB hb3 hb4⟩
  case round =>
    obtain ⟨k, hk, rfl, hb, hb2r⟩ := hrel
    have hN1r := (hN1.below hb2).below hb2r
    by_cases hlt : k < ys1.length
    · obtain ⟨g, o, x, rfl, _, hcx, HX⟩ := hN1r.get hlt
      have hj := join_get false 4 b (by rw [← HZ1.out]; exact HX.out)
      have hj1 : k * 4 + 4 ≤ b.length := hj.1
      obtain ⟨b1, o1, _, rfl, _, _, _⟩ := hA.get (i := k * 4) (by omega)
      have hk0 : (0 : Int) ≤ k := by omega
      have hk1 : (k : Int) < ys1.length := by omega
      have hxe : x = hiv (chunk 4 b k).reverse := hj.2
      have hcl := piece_len hj1
      have hcb := chunk_byt hby 4 k
      have hxb := hiv_bd _ hcb.rev
      rw [List.length_reverse, ← hcl, ← hxe] at hxb
      have hx0 := hxb.1
      have hx1 : x < 4294967296 := by have := hxb.2; simpa using this
      have HXE := hid hxe
      have HCL := hid hcl
      have hp := piece (hA.below hb) hj1
      clear hj hxe hcl hxb
      go_wp2_with (first
        | (go_at_call 16; refine (turned_n _ _ _ (chunk 4 b k) _ HCL.out (by rw [← HCL.out]; omega) hp).mono ?_; rintro e w5 ⟨B5, d5, ys5, rfl, HY5, hN5, hb5⟩; have hbx5 := nextB hb hb5)
        | (go_at_call 20; refine (wide_n B5 _ d5 ys5 _ rfl (by rw [HY5.out, List.length_reverse, ← HCL.out]; omega) (byt_of_hid HY5 hcb) hN5).mono ?_; rintro e w6 ⟨v, rfl, HV, hb6⟩; have hbx6 := nextB hbx5 hb6; obtain rfl : x = v := HXE.out.trans (by rw [HV.out, HY5.out])))
      go_roundw
      case rel => exact ⟨k + 1, by omega, by go_num, hbx6, nextB (nextB hb2r hb5) hb6⟩
      case measure => simp [intOf]; omega
    · go_wp2_with (first
        | (go_at_call 21; refine (wBytes64 B2 d2 ys2 _ (by omega) (hN2.below hb2r)).mono ?_; rintro e w7 ⟨B7, d7, ys7, rfl, HY7, hN7, hb7⟩; have hbx7 := nextB hb hb7)
        | (go_at_call 12; refine (same_eq B7 A d7 c ys7 b _ (by rw [HY7.out, HZ2.out, split_join true 8 b (by omega) hm8.out hby]) (by rw [HY7.out, HZ2.out, split_join true 8 b (by omega) hm8.out hby]; unfold maxLen; omega) hN7 (hA.below hbx7)).mono ?_; rintro e w8 ⟨rfl, hb8⟩; have hbx8 := nextB hbx7 hb8))
      go_loopw [104] (fun i wx => ∃ k : Nat, k ≤ ys2.length ∧ i = .int .i64 k ∧ Below w.heap.size w wx ∧ Below w2.heap.size w2 wx) (fun i _ => ys2.length - (intOf i).toNat)
      case atStart => exact ⟨0, Nat.zero_le _, rfl, hbx8, nextB (nextB hb2r hb7) hb8⟩
      case round =>
        clear hb hb2r hb7 hb8 hbx7 hbx8 hN7 hlt hk
        obtain ⟨j, hk, rfl, hb, hb2r⟩ := hrel
        have hN2r := hN2.below hb2r
        by_cases hlt : j < ys2.length
        · obtain ⟨g, o, x, rfl, _, hcx, HX⟩ := hN2r.get hlt
          have hj := join_get true 8 b (by rw [← HZ2.out]; exact HX.out)
          have hj1 : j * 8 + 8 ≤ b.length := hj.1
          obtain ⟨b1, o1, _, rfl, _, _, _⟩ := hA.get (i := j * 8) (by omega)
          have hk0 : (0 : Int) ≤ j := by omega
          have hk1 : (j : Int) < ys2.length := by omega
          have hxe : x = hiv (chunk 8 b j) := hj.2
          have hcl := piece_len hj1
          have hcb := chunk_byt hby 8 j
          have HXE := hid hxe
          have HCL := hid hcl
          have hp := piece (hA.below hb) hj1
          clear hj hxe hcl
          go_wp2_with (go_at_call 20; refine (wide_n _ _ _ (chunk 8 b j) _ HCL.out (by rw [← HCL.out]; omega) hcb hp).mono ?_; rintro e w6 ⟨v, rfl, HV, hb6⟩; have hbx6 := nextB hb hb6; obtain rfl : x = v := HXE.out.trans HV.out.symm)
          go_roundw
          case rel => exact ⟨j + 1, by omega, by go_num, hbx6, nextB hb2r hb6⟩
          case measure => simp [intOf]; omega
        · go_wp2
          go_ret
          exact ⟨rfl, hb⟩
set_option maxHeartbeats 1000000 in
theorem lists_48 (w : World) (A : Option Addr) (c : Nat) (b : List Int) (hl : b.length ≤ 200) (hc : b.length ≤ c) (HM4 : Hid (b.length % 4 = 0)) (hm8 : Hid (¬ b.length % 8 = 0)) (hby : Byt b) (hA : Nums w .u8 A b) :
    Calls Try.prog 5 #[.slice A b.length c] w fun e w' => e = .returned (.bool true) ∧ Below w.heap.size w w' := by
  have hi4 : (b.length : Int) % 4 = 0 := by have := HM4.out; omega
  have hi8 : ((b.length : Int) % 8 != 0) = true := by have := hm8.out; simp; omega
  go_enter Try.func5, Try.ntmps5
  go_wp2_with (first
    | (go_at_call 7; refine (awake_any _).mono ?_; rintro e w0 ⟨rfl, hb0⟩)
    | (go_at_call 17; refine (wWords32 A c b _ (by omega) hby (hA.below hb0)).mono ?_; rintro e w1 ⟨B1, d1, ys1, E1, rfl, HY1, HE1, hN1, hb1⟩; have hbx1 := nextB hb0 hb1; obtain rfl : E1 = 0 := werr_ok HM4.out HE1; have HZ1 := hid (words_ok HM4.out HY1); clear HY1; have hlq : 4 * (ys1.length : Int) = (b.length : Int) := (by rw [HZ1.out, joinB_length]; have := HM4.out; omega); have hll : ys1.length ≤ 50 := (by omega))
    | (go_at_call 18; refine (wWords64 A c b _ (by omega) hby (hA.below hbx1)).mono ?_; rintro e w2 ⟨B2, d2, ys2, E2, rfl, HY2, HE2, hN2, hb2⟩; have hbx2 := nextB hbx1 hb2; obtain rfl : E2 = 2 := werr_no hm8.out HE2; obtain rfl : ys2 = [] := words_no hm8.out HY2; clear HY2)
    | (go_at_call 19; refine (wBytes32 B1 d1 ys1 _ (by omega) (hN1.below hb2)).mono ?_; rintro e w3 ⟨B3, d3, ys3, rfl, HY3, hN3, hb3⟩; have hbx3 := nextB hbx2 hb3)
    | (go_at_call 12; refine (same_eq B3 A d3 c ys3 b _ (by rw [HY3.out, HZ1.out, split_join false 4 b (by omega) HM4.out hby]) (by rw [HY3.out, HZ1.out, split_join false 4 b (by omega) HM4.out hby]; unfold maxLen; omega) hN3 (hA.below hbx3)).mono ?_; rintro e w4 ⟨rfl, hb4⟩; have hbx4 := nextB hbx3 hb4))
  go_loopw [56] (fun i wr => ∃ k : Nat, k ≤ ys1.length ∧ i = .int .i64 k ∧ Below w.heap.size w wr ∧ Below w2.heap.size w2 wr) (fun i _ => ys1.length - (intOf i).toNat)
  case atStart => exact ⟨0, Nat.zero_le _, rfl, hbx4, nextB hb3 hb4⟩
  case round =>
    obtain ⟨k, hk, rfl, hb, hb2r⟩ := hrel
    have hN1r := (hN1.below hb2).below hb2r
    by_cases hlt : k < ys1.length
    · obtain ⟨g, o, x, rfl, _, hcx, HX⟩ := hN1r.get hlt
      have hj := join_get false 4 b (by rw [← HZ1.out]; exact HX.out)
      have hj1 : k * 4 + 4 ≤ b.length := hj.1
      obtain ⟨b1, o1, _, rfl, _, _, _⟩ := hA.get (i := k * 4) (by omega)
      have hk0 : (0 : Int) ≤ k := by omega
      have hk1 : (k : Int) < ys1.length := by omega
      have hxe : x = hiv (chunk 4 b k).reverse := hj.2
      have hcl := piece_len hj1
      have hcb := chunk_byt hby 4 k
      have hxb := hiv_bd _ hcb.rev
      rw [List.length_reverse, ← hcl, ← hxe] at hxb
      have hx0 := hxb.1
      have hx1 : x < 4294967296 := by have := hxb.2; simpa using this
      have HXE := hid hxe
      have HCL := hid hcl
      have hp := piece (hA.below hb) hj1
      clear hj hxe hcl hxb
      go_wp2_with (first
        | (go_at_call 16; refine (turned_n _ _ _ (chunk 4 b k) _ HCL.out (by rw [← HCL.out]; omega) hp).mono ?_; rintro e w5 ⟨B5, d5, ys5, rfl, HY5, hN5, hb5⟩; have hbx5 := nextB hb hb5)
        | (go_at_call 20; refine (wide_n B5 _ d5 ys5 _ rfl (by rw [HY5.out, List.length_reverse, ← HCL.out]; omega) (byt_of_hid HY5 hcb) hN5).mono ?_; rintro e w6 ⟨v, rfl, HV, hb6⟩; have hbx6 := nextB hbx5 hb6; obtain rfl : x = v := HXE.out.trans (by rw [HV.out, HY5.out])))
      go_roundw
      case rel => exact ⟨k + 1, by omega, by go_num, hbx6, nextB (nextB hb2r hb5) hb6⟩
      case measure => simp [intOf]; omega
    · go_wp2
      go_ret
      exact ⟨rfl, hb⟩

set_option maxHeartbeats 1000000 in
theorem lists_no (w : World) (A : Option Addr) (c : Nat) (b : List Int) (hl : b.length ≤ 200) (hm4 : Hid (¬ b.length % 4 = 0)) (hby : Byt b) (hA : Nums w .u8 A b) :
    Calls Try.prog 5 #[.slice A b.length c] w fun e w' => e = .returned (.bool true) ∧ Below w.heap.size w w' := by
  have hm8 : Hid (¬ b.length % 8 = 0) := by have := hm4.out; show ¬ _; omega
  have hi4 : ((b.length : Int) % 4 != 0) = true := by have := hm4.out; simp; omega
  have hi8 : ((b.length : Int) % 8 != 0) = true := by have := hm8.out; simp; omega
  go_enter Try.func5, Try.ntmps5
  go_wp2_with (first
    | (go_at_call 7; refine (awake_any _).mono ?_; rintro e w0 ⟨rfl, hb0⟩)
    | (go_at_call 17; refine (wWords32 A c b _ (by omega) hby (hA.below hb0)).mono ?_; rintro e w1 ⟨B1, d1, ys1, E1, rfl, HY1, HE1, hN1, hb1⟩; have hbx1 := nextB hb0 hb1; obtain rfl : E1 = 2 := werr_no hm4.out HE1; obtain rfl : ys1 = [] := words_no hm4.out HY1; clear HY1)
    | (go_at_call 18; refine (wWords64 A c b _ (by omega) hby (hA.below hbx1)).mono ?_; rintro e w2 ⟨B2, d2, ys2, E2, rfl, HY2, HE2, hN2, hb2⟩; have hbx2 := nextB hbx1 hb2; obtain rfl : E2 = 2 := werr_no hm8.out HE2; obtain rfl : ys2 = [] := words_no hm8.out HY2; clear HY2))
  go_loopw [56] (fun i wr => i = .int .i64 0 ∧ Below w.heap.size w wr) (fun _ _ => 0)
  case atStart => exact ⟨rfl, hbx2⟩
  case round =>
    obtain ⟨rfl, hb⟩ := hrel
    go_wp2
    go_ret
    exact ⟨rfl, hb⟩

theorem wordLists_walk (w : World) (A : Option Addr) (c : Nat) (b : List Int) (hc : b.length ≤ c) (_ : c ≤ maxLen) (hx : ∀ x ∈ b, (Lit.int .u8 x).wf = true) (hA : Nums w .u8 A b) :
    Calls Try.prog 5 #[.slice A b.length c] w fun e w' => e = .returned (.bool true) ∧ Below w.heap.size w w' := by
  by_cases hl : 200 < b.length
  · go_enter Try.func5, Try.ntmps5
    go_wp2_with (go_at_call 7; refine (awake_any _).mono ?_; rintro e w0 ⟨rfl, hb0⟩)
    go_ret
    exact ⟨rfl, hb0⟩
  by_cases h8 : b.length % 8 = 0
  · exact lists_88 w A c b (by omega) hc (hid h8) (byt_of_wf hx) hA
  by_cases h4 : b.length % 4 = 0
  · exact lists_48 w A c b (by omega) hc (hid h4) (hid h8) (byt_of_wf hx) hA
  · exact lists_no w A c b (by omega) (hid h4) (byt_of_wf hx) hA
end Go.Proofs.Ytjbldpajolmfhaa
