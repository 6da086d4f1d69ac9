/- What the reference's store is asked: is there a term of a number, of a kind. -/
import Derived.Test.YtechhbljjnffaaaTTakes
namespace Go.Proofs.Ytechhbljjnffaaa
open Go Go.RowKit

set_option maxRecDepth 50000 in
set_option maxHeartbeats 2000000 in
theorem rhas0_any (q n c : Nat) (A : Option Addr) (k : Int) (b : Bool) (w : World) (c0 : w.cell? ⟨q, 0, none⟩ = some (.slice A n c)) (hb : Hid (b = decide (0 ≤ k ∧ k < n))) :
    Calls Try.prog 33 #[.pointer (some ⟨q, 0, none⟩), .int .i64 k, .int .i64 0] w fun e w' => e = .returned (.bool b) ∧ w = w' := by
  by_cases h0 : 0 ≤ k
  · have h3 : decide (k < 0) = false := decide_eq_false (by omega)
    by_cases h1 : k < n
    · obtain rfl : b = true := by rw [hb.out]; exact decide_eq_true ⟨h0, h1⟩
      have h2 : decide ((n : Int) ≤ k) = false := decide_eq_false (by omega)
      clear hb h0 h1
      go_enter Try.func33, Try.ntmps33
      go_wp2
      go_ret
      exact ⟨rfl, rfl⟩
    · obtain rfl : b = false := by rw [hb.out]; exact decide_eq_false (fun h => h1 h.2)
      have h2 : decide ((n : Int) ≤ k) = true := decide_eq_true (by omega)
      clear hb h0 h1
      go_enter Try.func33, Try.ntmps33
      go_wp2
      go_ret
      exact ⟨rfl, rfl⟩
  · obtain rfl : b = false := by rw [hb.out]; exact decide_eq_false (fun h => h0 h.1)
    have h3 : decide (k < 0) = true := decide_eq_true (by omega)
    clear hb h0
    go_enter Try.func33, Try.ntmps33
    go_wp2
    go_ret
    exact ⟨rfl, rfl⟩
set_option maxRecDepth 50000 in
set_option maxHeartbeats 2000000 in
theorem rhas_any (q c : Nat) (A : Option Addr) (L : List T3) (k kd : Int) (b : Bool) (w : World) (hkd : (kd == 0) = false) (hc : L.length ≤ c) (hc2 : c ≤ maxLen) (c0 : w.cell? ⟨q, 0, none⟩ = some (.slice A L.length c)) (hA : TRow w A L)
    (hb : Hid (b = decide (0 ≤ k ∧ k < L.length ∧ (L.getD k.toNat (0, 0, 0)).1 = kd))) :
    Calls Try.prog 33 #[.pointer (some ⟨q, 0, none⟩), .int .i64 k, .int .i64 kd] w fun e w' => e = .returned (.bool b) ∧ w = w' := by
  by_cases h0 : 0 ≤ k
  · by_cases h1 : k < L.length
    · obtain ⟨n, rfl⟩ : ∃ n : Nat, k = n := ⟨k.toNat, by omega⟩
      have hn : n < L.length := by omega
      obtain ⟨t, ht⟩ : ∃ t, L[n]? = some t := ⟨L[n], by simp [hn]⟩
      obtain ⟨g, rfl, hg, hcell⟩ := hA (by omega)
      have hx := (hcell n t ht).1
      have hd : (L.getD ((n : Int).toNat) (0, 0, 0)) = t := by simp [List.getD, ht]
      rw [hd] at hb
      clear hcell hd
      obtain ⟨bb, hbb⟩ : ∃ bb, (t.1 == kd) = bb := ⟨_, rfl⟩
      obtain rfl : bb = b := by
        rw [← hbb, hb.out, Bool.eq_iff_iff, beq_iff_eq, decide_eq_true_iff]
        exact ⟨fun h => ⟨h0, h1, h⟩, fun h => h.2.2⟩
      have h3 : decide ((n : Int) < 0) = false := decide_eq_false (by omega)
      have h2 : decide ((L.length : Int) ≤ n) = false := decide_eq_false (by omega)
      clear hb h0 h1
      go_enter Try.func33, Try.ntmps33
      go_wp2
      go_ret
      exact ⟨rfl, rfl⟩
    · obtain rfl : b = false := by rw [hb.out]; exact decide_eq_false (fun h => h1 h.2.1)
      have h3 : decide (k < 0) = false := decide_eq_false (by omega)
      have h2 : decide ((L.length : Int) ≤ k) = true := decide_eq_true (by omega)
      clear hb h0 h1
      go_enter Try.func33, Try.ntmps33
      go_wp2
      go_ret
      exact ⟨rfl, rfl⟩
  · obtain rfl : b = false := by rw [hb.out]; exact decide_eq_false (fun h => h0 h.1)
    have h3 : decide (k < 0) = true := decide_eq_true (by omega)
    clear hb h0
    go_enter Try.func33, Try.ntmps33
    go_wp2
    go_ret
    exact ⟨rfl, rfl⟩
end Go.Proofs.Ytechhbljjnffaaa
