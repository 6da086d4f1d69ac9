/- The reference's bytes of a number, and the turned list. -/
import Derived.Test.YtcahcecohjohpaaDoorWPut
namespace Go.Proofs.YtcahcecohjohpaaDoor
open Go.RowKit

/-- What the reference gives for a number from 0 to 2^62 and a size from 1 to 8. -/
def LowPost (n : Int) (s : Nat) (w : World) (e : Ending) (w' : World) : Prop :=
  (n / 2 ^ (8 * s) = 0 ∧ ∃ B d ys, e = .returned (.tuple #[.slice B ys.length d, .int .i64 0]) ∧ Hid (ys = splitB false s [n]) ∧ NumsF w.heap.size w' .u8 B ys ∧ Below w.heap.size w w') ∨
  (n / 2 ^ (8 * s) ≠ 0 ∧ e = .returned (.tuple #[.slice none 0 0, .int .i64 2]) ∧ Below w.heap.size w w')

set_option maxHeartbeats 400000 in
theorem refLow_loop (n : Int) (s : Nat) (w : World) (h1 : 1 ≤ s) (h8 : s ≤ 8) (h0 : 0 ≤ n) (h62 : n ≤ 4611686018427387904) :
    Calls Tryd.prog 39 #[.int .i64 n, .int .i64 s] w (LowPost n s w) := by
  obtain ⟨S, hS⟩ : ∃ S, S = splitB false s [n] := ⟨_, rfl⟩
  have hSl : S.length = s := by rw [hS, splitB_length]; simp
  have HS := hid hS
  have HSl := hid hSl
  clear hS hSl
  go_enter Tryd.func39, Tryd.ntmps39
  go_wp2
  go_loopw [0, 6, 7] (fun a v i wr => ∃ (k : Nat) (A : Option Addr) (m c : Nat) (nk : Int), k ≤ s ∧ a = .int .i64 nk ∧ Hid (nk = n / 2 ^ (8 * k)) ∧ 0 ≤ nk ∧ nk ≤ 4611686018427387904 ∧ v = .slice A m c ∧ i = .int .i64 k ∧ Owns wr w.heap.size 5 .u8 (.slice A m c) (S.take k) ∧ Below w.heap.size w wr) (fun _ _ i _ => s - (intOf i).toNat)
  case atStart => exact ⟨0, none, 0, 0, n, Nat.zero_le _, rfl, hid (by simp), h0, h62, rfl, rfl, Owns.none_ _ _ _ _, Below.refl _ _⟩
  case round =>
    obtain ⟨k, A, m, c, nk, hk, rfl, HN, hk0, hk62, rfl, rfl, hO, hb⟩ := hrel
    by_cases hlt : k < s
    · have hsz := hb.size
      have hl : (S.take k).length = k := by have := HSl.out; simp; omega
      have HL := hid hl
      clear hl
      go_wp2_with (at_builtin; refine app_one _ rfl (.tmp 27) (.tmp 31) 22 rfl w.heap.size 5 .u8 1 Tryd.underlying22 Tryd.info5 A m c (S.take k) rfl hO _ 1 rfl (by rw [HL.out]; omega) (by omega) hsz ?_; intro A' n' c' w2 hO2 hb2)
      go_roundw
      case rel =>
        have hsk : S[k]? = some (nk % 256) := by rw [HS.out, split_one false s n hlt, HN.out]; rfl
        exact ⟨k + 1, A', n', c', nk / 256, by omega, rfl, hid (by rw [HN.out]; exact div_step n k), by omega, by omega, rfl, by go_num, by rw [take_succ_at hsk]; exact hO2, hb.trans hb2⟩
      case measure => simp [intOf]; omega
    · have e : k = s := by omega
      subst e
      have hm := hO.len
      have hS : S.take k = S := List.take_of_length_le (by rw [HSl.out]; omega)
      rw [hS] at hO hm
      clear hS
      subst hm
      by_cases hz : 0 < nk
      · go_wp2
        go_ret2
        exact .inr ⟨by rw [← HN.out]; omega, rfl, hb⟩
      · go_wp2
        go_ret2
        exact .inl ⟨by rw [← HN.out]; omega, A, c, S, rfl, HS, hO.fresh, hb⟩

set_option maxHeartbeats 400000 in
theorem refLow_any (n s : Int) (w : World) : Calls Tryd.prog 39 #[.int .i64 n, .int .i64 s] w (PutPost false n s w) := by
  by_cases c1 : s < 1
  · have hf : ¬ Fits n s := fun h => by have := h.1; omega
    have HF := hid hf
    clear hf
    go_enter Tryd.func39, Tryd.ntmps39
    go_wp2
    go_ret2
    exact .inr ⟨HF.out, rfl, Below.refl _ _⟩
  by_cases c2 : 8 < s
  · have hf : ¬ Fits n s := fun h => by have := h.2.1; omega
    have HF := hid hf
    clear hf
    go_enter Tryd.func39, Tryd.ntmps39
    go_wp2
    go_ret2
    exact .inr ⟨HF.out, rfl, Below.refl _ _⟩
  by_cases c3 : n < 0
  · have hf : ¬ Fits n s := fun h => by have := h.2.2.1; omega
    have HF := hid hf
    clear hf
    go_enter Tryd.func39, Tryd.ntmps39
    go_wp2
    go_ret2
    exact .inr ⟨HF.out, rfl, Below.refl _ _⟩
  obtain ⟨t, rfl⟩ := Int.eq_ofNat_of_zero_le (show 0 ≤ s by omega)
  by_cases c4 : 4611686018427387904 < n
  · have hf : ¬ Fits n t := fun h => by have h2 := h.2.2.2; have := (grt_bd t (by omega) (by omega)).2; rw [Int.toNat_natCast] at h2; omega
    have HF := hid hf
    clear hf
    go_enter Tryd.func39, Tryd.ntmps39
    go_wp2
    go_ret2
    exact .inr ⟨HF.out, rfl, Below.refl _ _⟩
  have hfd := fits_div (n := n) (s := t) (by omega) (by omega) (by omega) (by omega)
  refine (refLow_loop n t w (by omega) (by omega) (by omega) (by omega)).mono fun e w' hh => ?_
  rcases hh with ⟨h, hh⟩ | ⟨h, hh⟩
  · exact .inl ⟨hfd.2 h, hh⟩
  · exact .inr ⟨fun h2 => h (hfd.1 h2), hh⟩

set_option maxHeartbeats 400000 in
theorem turned_any (A : Option Addr) (c : Nat) (b : List Int) (w : World) (hn : b.length ≤ 4096) (hA : Nums w .u8 A b) :
    Calls Tryd.prog 40 #[.slice A b.length c] w fun e w' => ∃ B d ys, e = .returned (.slice B ys.length d) ∧ Hid (ys = b.reverse) ∧ NumsF w.heap.size w' .u8 B ys ∧ Below w.heap.size w w' := by
  go_enter Tryd.func40, Tryd.ntmps40
  go_wp2
  go_loopw [3, 4] (fun v i wr => ∃ (k : Nat) (B : Option Addr) (m d : Nat), k ≤ b.length ∧ i = .int .i64 ((k : Int) - 1) ∧ v = .slice B m d ∧ Owns wr w.heap.size 5 .u8 (.slice B m d) (b.drop k).reverse ∧ Below w.heap.size w wr) (fun _ i _ => (intOf i + 1).toNat)
  case atStart => exact ⟨b.length, none, 0, 0, Nat.le_refl _, rfl, rfl, by rw [List.drop_length]; exact Owns.none_ _ _ _ _, Below.refl _ _⟩
  case round =>
    obtain ⟨k, B, m, d, hk, rfl, rfl, hO, hb⟩ := hrel
    by_cases hlt : 0 < k
    · have hsz := hb.size
      obtain ⟨j, rfl⟩ : ∃ j, k = j + 1 := ⟨k - 1, by omega⟩
      have hl : (b.drop (j + 1)).reverse.length ≤ 4096 := by simp; omega
      have HL := hid hl
      clear hl
      obtain ⟨b1, o1, x, rfl, _, hc1, H1⟩ := (hA.below hb).get (i := j) (by omega)
      have e1 : ((j + 1 : Nat) : Int) - 1 = (j : Int) := by omega
      have hj0 : (0 : Int) ≤ j := by omega
      have hj1 : (j : Int) < b.length := by omega
      rw [e1]
      clear e1
      go_wp2_with (at_builtin; refine app_one _ rfl (.tmp 12) (.tmp 17) 22 rfl w.heap.size 5 .u8 1 Tryd.underlying22 Tryd.info5 B m d (b.drop (j + 1)).reverse rfl hO _ 1 rfl (by have := HL.out; omega) (by omega) hsz ?_; intro A' n' c' w2 hO2 hb2)
      go_roundw
      case rel =>
        have hd : b.drop j = x :: b.drop (j + 1) := by
          have h2 := H1.out
          obtain ⟨h3, h4⟩ := List.getElem?_eq_some_iff.1 h2
          rw [List.drop_eq_getElem_cons h3, h4]
        exact ⟨j, A', n', c', by omega, rfl, rfl, by rw [hd, List.reverse_cons]; exact hO2, hb.trans hb2⟩
      case measure => simp [intOf]
    · have e : k = 0 := by omega
      subst e
      have hm := hO.len
      rw [List.drop_zero] at hO hm
      subst hm
      go_wp2
      go_ret
      exact ⟨B, d, b.reverse, rfl, hid rfl, hO.fresh, hb⟩

theorem refLow2_any (n s : Int) (w : World) : Calls Tryd.prog 39 #[.int .i64 n, .int .i64 s] w (PutPost2 false n s w) := (refLow_any n s w).mono fun _ _ h => h.two
theorem refPut_any (n s : Int) (w : World) : Calls Tryd.prog 27 #[.int .i64 n, .int .i64 s] w (PutPost2 true n s w) := by
  go_enter Tryd.func27, Tryd.ntmps27
  go_wp2_with (first | (go_at_call 39; refine (refLow2_any n s _).mono ?_; rintro e w1 ⟨B, d, ys, E, rfl, HY, HE, hN, hb⟩) | (go_at_call 40; refine (turned_any B d ys _ (by have := pbytes_length false n s; rw [← HY.out] at this; omega) hN.nums).mono ?_; rintro e w2 ⟨B2, d2, ys2, rfl, HY2, hN2, hb2⟩))
  go_ret2
  exact ⟨B2, d2, ys2, E, rfl, by show _ = _; rw [HY2.out, HY.out, pbytes_rev], HE, hN2.less hb.size, hb.trans (hb2.mono hb.size)⟩

end Go.Proofs.YtcahcecohjohpaaDoor
