/- What a store of terms is asked: is it there, how many terms, is there one of a number, of a kind. -/
import Derived.Test.YtpncohoonfahpaaGreatDoorG16
import Derived.BigQuiet
import Derived.Deep.QuietTactic
namespace Go.Proofs.YtpncohoonfahpaaGreatDoor
open Go Go.RowKit

set_option maxRecDepth 50000 in
set_option maxHeartbeats 1000000 in
theorem exists_any (p : Nat) (w : World) (c0 : w.cell? ⟨p, 0, none⟩ = some (.bool true)) :
    Calls Tryz.prog 99 #[.pointer (some ⟨p, 0, none⟩)] w fun e w' => e = .returned (.bool true) ∧ w = w' := by
  go_enter Tryz.func99, Tryz.ntmps99
  go_wp2
  go_ret
  exact ⟨rfl, rfl⟩
set_option maxRecDepth 50000 in
set_option maxHeartbeats 1000000 in
theorem exists_nil (w : World) :
    Calls Tryz.prog 99 #[.pointer none] w fun e w' => e = .returned (.bool false) ∧ w = w' := by
  go_enter Tryz.func99, Tryz.ntmps99
  go_wp2
  go_ret
  exact ⟨rfl, rfl⟩
set_option maxRecDepth 50000 in
set_option maxHeartbeats 1000000 in
theorem len_any (p n c : Nat) (A : Option Addr) (w : World) (c0 : w.cell? ⟨p, 0, none⟩ = some (.bool true)) (c1 : w.cell? ⟨p, 1, none⟩ = some (.slice A n c)) :
    Calls Tryz.prog 94 #[.pointer (some ⟨p, 0, none⟩)] w fun e w' => e = .returned (.int .i64 n) ∧ w = w' := by
  go_enter Tryz.func94, Tryz.ntmps94
  go_wp2_with (go_at_call 99; refine (exists_any p _ c0).mono ?_; rintro e w2 ⟨rfl, rfl⟩)
  go_ret
  exact ⟨rfl, rfl⟩
set_option maxRecDepth 50000 in
set_option maxHeartbeats 1000000 in
theorem len_nil (w : World) :
    Calls Tryz.prog 94 #[.pointer none] w fun e w' => e = .returned (.int .i64 0) ∧ w = w' := by
  go_enter Tryz.func94, Tryz.ntmps94
  go_wp2_with (go_at_call 99; refine (exists_nil _).mono ?_; rintro e w2 ⟨rfl, rfl⟩)
  go_ret
  exact ⟨rfl, rfl⟩
set_option maxRecDepth 50000 in
set_option maxHeartbeats 1000000 in
theorem has_any (p n c : Nat) (A : Option Addr) (k : Int) (b : Bool) (w : World) (c0 : w.cell? ⟨p, 0, none⟩ = some (.bool true)) (c1 : w.cell? ⟨p, 1, none⟩ = some (.slice A n c)) (hb : Hid (b = decide (0 ≤ k ∧ k < n))) :
    Calls Tryz.prog 95 #[.pointer (some ⟨p, 0, none⟩), .int .i64 k] w fun e w' => e = .returned (.bool b) ∧ w = w' := by
  by_cases h0 : 0 ≤ k
  · by_cases h1 : k < n
    · obtain rfl : b = true := by rw [hb.out]; exact decide_eq_true ⟨h0, h1⟩
      go_enter Tryz.func95, Tryz.ntmps95
      go_wp2_with (go_at_call 94; refine (len_any p n c A _ c0 c1).mono ?_; rintro e w2 ⟨rfl, rfl⟩)
      go_ret
      exact ⟨rfl, rfl⟩
    · obtain rfl : b = false := by rw [hb.out]; exact decide_eq_false (fun h => h1 h.2)
      go_enter Tryz.func95, Tryz.ntmps95
      go_wp2_with (go_at_call 94; refine (len_any p n c A _ c0 c1).mono ?_; rintro e w2 ⟨rfl, rfl⟩)
      go_ret
      exact ⟨congrArg _ (congrArg _ (decide_eq_false (Int.not_lt.2 h1))), rfl⟩
  · obtain rfl : b = false := by rw [hb.out]; exact decide_eq_false (fun h => h0 h.1)
    go_enter Tryz.func95, Tryz.ntmps95
    go_wp2_with (go_at_call 94; refine (len_any p n c A _ c0 c1).mono ?_; rintro e w2 ⟨rfl, rfl⟩)
    go_ret
    exact ⟨rfl, rfl⟩
set_option maxRecDepth 50000 in
set_option maxHeartbeats 1000000 in
theorem has_nil (k : Int) (w : World) :
    Calls Tryz.prog 95 #[.pointer none, .int .i64 k] w fun e w' => e = .returned (.bool false) ∧ w = w' := by
  by_cases h0 : 0 ≤ k
  · have h1 : ¬ k < 0 := by omega
    go_enter Tryz.func95, Tryz.ntmps95
    go_wp2_with (go_at_call 94; refine (len_nil _).mono ?_; rintro e w2 ⟨rfl, rfl⟩)
    go_ret
    exact ⟨congrArg _ (congrArg _ (decide_eq_false (Int.not_lt.2 h1))), rfl⟩
  · go_enter Tryz.func95, Tryz.ntmps95
    go_wp2_with (go_at_call 94; refine (len_nil _).mono ?_; rintro e w2 ⟨rfl, rfl⟩)
    go_ret
    exact ⟨rfl, rfl⟩
set_option maxRecDepth 50000 in
set_option maxHeartbeats 1000000 in
theorem isSort_any (k : Int) (b : Bool) (w : World) (hb : Hid (b = decide (1 ≤ k ∧ k ≤ 4))) :
    Calls Tryz.prog 100 #[.int .i64 k] w fun e w' => e = .returned (.bool b) ∧ w = w' := by
  by_cases h0 : 1 ≤ k
  · by_cases h1 : k ≤ 4
    · obtain rfl : b = true := by rw [hb.out]; exact decide_eq_true ⟨h0, h1⟩
      go_enter Tryz.func100, Tryz.ntmps100
      go_wp2
      go_ret
      exact ⟨rfl, rfl⟩
    · obtain rfl : b = false := by rw [hb.out]; exact decide_eq_false (fun h => h1 h.2)
      go_enter Tryz.func100, Tryz.ntmps100
      go_wp2
      go_ret
      exact ⟨rfl, rfl⟩
  · obtain rfl : b = false := by rw [hb.out]; exact decide_eq_false (fun h => h0 h.1)
    go_enter Tryz.func100, Tryz.ntmps100
    go_wp2
    go_ret
    exact ⟨rfl, rfl⟩
/-- The terms of a row, one by one. -/
def TRow (w : World) (A : Option Addr) (L : List T3) : Prop := 0 < L.length → ∃ g, A = some ⟨g, 0, none⟩ ∧ g < w.heap.size ∧ ∀ i t, L[i]? = some t → w.cell? ⟨g, i * 3, none⟩ = some (.int .i64 t.1) ∧ w.cell? ⟨g, i * 3 + 1, none⟩ = some (.int .i64 t.2.1) ∧ w.cell? ⟨g, i * 3 + 2, none⟩ = some (.int .i64 t.2.2)
set_option maxRecDepth 50000 in
theorem trow_of {w : World} {base : Nat} {A : Option Addr} {n c : Nat} {L : List T3} (h : w.ownsRow base 65 3 (.slice A n c) L.length (flatZ L)) : TRow w A L := fun hp => by
  rcases h.2 with ⟨hv, hn⟩ | ⟨g, cap, cur, hv, hb, hg, hn, hm, hs, ht⟩
  · omega
  · injection hv with h1 h2 h3
    refine ⟨g, h1, (Array.getElem?_eq_some_iff.1 hg).1, fun i t hi => ?_⟩
    have hx := flat_at L i t hi
    have hil := (List.getElem?_eq_some_iff.1 hi).1
    have key : ∀ j v, j < L.length * 3 → (flatZ L)[j]? = some v → w.cell? ⟨g, j, none⟩ = some v := fun j v hj hv => by
      have e : cur[j]? = some v := by
        rw [← ht, List.getElem?_take, if_pos hj] at hv
        simpa using hv
      simp [World.cell?, hg, e]
    exact ⟨key _ _ (by omega) hx.1, key _ _ (by omega) hx.2.1, key _ _ (by omega) hx.2.2⟩
set_option maxRecDepth 50000 in
set_option maxHeartbeats 2000000 in
theorem is_any (p c : Nat) (A : Option Addr) (L : List T3) (k kd : Int) (b : Bool) (w : World) (hc : L.length ≤ c) (hc2 : c ≤ maxLen) (c0 : w.cell? ⟨p, 0, none⟩ = some (.bool true)) (c1 : w.cell? ⟨p, 1, none⟩ = some (.slice A L.length c)) (hA : TRow w A L)
    (hb : Hid (b = decide (0 ≤ k ∧ k < L.length ∧ (L.getD k.toNat (0, 0, 0)).1 = kd))) :
    Calls Tryz.prog 96 #[.pointer (some ⟨p, 0, none⟩), .int .i64 k, .int .i64 kd] w fun e w' => e = .returned (.bool b) ∧ w = w' := by
  by_cases h0 : 0 ≤ k ∧ k < L.length
  · have H0 : Hid (true = decide (0 ≤ k ∧ k < L.length)) := hid (decide_eq_true h0).symm
    obtain ⟨n, rfl⟩ : ∃ n : Nat, k = n := ⟨k.toNat, by omega⟩
    have hn : n < L.length := by omega
    obtain ⟨t, ht⟩ : ∃ t, L[n]? = some t := ⟨L[n], by simp [hn]⟩
    obtain ⟨g, rfl, hg, hcell⟩ := hA (by omega)
    have hx := (hcell n t ht).1
    have hd : (L.getD ((n : Int).toNat) (0, 0, 0)) = t := by simp [List.getD, ht]
    rw [hd] at hb
    have h01 := h0.1
    have h02 := h0.2
    clear hcell hd
    obtain ⟨bb, hbb⟩ : ∃ bb, (t.1 == kd) = bb := ⟨_, rfl⟩
    obtain rfl : bb = b := by
      rw [← hbb, hb.out, Bool.eq_iff_iff, beq_iff_eq, decide_eq_true_iff]
      exact ⟨fun h => ⟨h01, h02, h⟩, fun h => h.2.2⟩
    clear hb
    go_enter Tryz.func96, Tryz.ntmps96
    go_wp2_with (go_at_call 95; refine (has_any p L.length c (some ⟨g, 0, none⟩) n true _ c0 c1 H0).mono ?_; rintro e w2 ⟨rfl, rfl⟩)
    go_ret
    exact ⟨rfl, rfl⟩
  · have H0 : Hid (false = decide (0 ≤ k ∧ k < L.length)) := hid (decide_eq_false h0).symm
    obtain rfl : b = false := by rw [hb.out]; exact decide_eq_false (fun h => h0 ⟨h.1, h.2.1⟩)
    go_enter Tryz.func96, Tryz.ntmps96
    go_wp2_with (go_at_call 95; refine (has_any p L.length c A k false _ c0 c1 H0).mono ?_; rintro e w2 ⟨rfl, rfl⟩)
    go_ret
    exact ⟨rfl, rfl⟩
set_option maxRecDepth 50000 in
set_option maxHeartbeats 1000000 in
theorem is_nil (k kd : Int) (w : World) :
    Calls Tryz.prog 96 #[.pointer none, .int .i64 k, .int .i64 kd] w fun e w' => e = .returned (.bool false) ∧ w = w' := by
  go_enter Tryz.func96, Tryz.ntmps96
  go_wp2_with (go_at_call 95; refine (has_nil k _).mono ?_; rintro e w2 ⟨rfl, rfl⟩)
  go_ret
  exact ⟨rfl, rfl⟩
end Go.Proofs.YtpncohoonfahpaaGreatDoor
