/- The reference's Size of terms of which there are few before. -/
import Derived.Test.YtechhbljjnffaaaTRText
namespace Go.Proofs.Ytechhbljjnffaaa
open Go Go.RowKit Go.Maps

def pw (i : Nat) : Int := ((2 ^ i : Nat) : Int)
set_option maxRecDepth 50000 in
theorem pw_mono {i j : Nat} (h : i ≤ j) : pw i ≤ pw j := Int.ofNat_le.2 (Nat.pow_le_pow_right (by decide) h)
set_option maxRecDepth 50000 in
theorem pw_succ (i : Nat) : pw (i + 1) = 2 * pw i := by unfold pw; rw [Nat.pow_succ]; omega
set_option maxRecDepth 50000 in
theorem cap_small {n : Int} (h : n ≤ 1048576) : cap20 n = n := by unfold cap20; split <;> omega
set_option maxRecDepth 50000 in
/-- Sizes of early terms are small. -/
theorem sz_small {L : List T3} {x : Nat} (hwf : ∀ (i : Nat) t, L[i]? = some t → WFt i x t) (hzv : ∀ (i : Nat) t, L[i]? = some t → (szsOf L)[i]? = some (szOf (szsOf L) t)) :
    ∀ i : Nat, i < 12 → ∀ t, L[i]? = some t → (szsOf L).getD i 0 ≤ pw (i + 1) - 1 := by
  intro i
  induction i using Nat.strongRecOn with
  | _ i ih =>
    intro hi t ht
    have hz := hzv i t ht
    rw [List.getD_eq_getElem?_getD, hz, Option.getD_some]
    have hil := get_lt ht
    have sub : ∀ n : Int, 0 ≤ n → n < i → (szsOf L).getD n.toNat 0 ≤ pw i - 1 := fun n h0 h1 => by
      have h2 : n.toNat < i := by omega
      have h3 := ih n.toNat h2 (by omega) L[n.toNat] (by simp [show n.toNat < L.length by omega])
      have h4 : pw (n.toNat + 1) ≤ pw i := pw_mono (by omega)
      omega
    have hp := pw_succ i
    have hp1 : 1 ≤ pw i := pw_mono (show 0 ≤ i by omega)
    have hcap : ∀ n : Int, cap20 n ≤ n := fun n => by unfold cap20; split <;> omega
    unfold szOf
    rcases hwf i t ht with ⟨h, _⟩ | ⟨h, h1, h2, _⟩ | ⟨h, h1, h2, h3, h4⟩ | ⟨h, _⟩
    · rw [if_neg (by omega), if_neg (by omega)]
      have := hcap 1; omega
    · rw [if_neg (by omega), if_pos (by omega)]
      have := hcap (1 + (szsOf L).getD t.2.1.toNat 0)
      have := sub _ h1 h2
      omega
    · rw [if_pos h]
      have := hcap (1 + (szsOf L).getD t.2.2.toNat 0 + (szsOf L).getD t.2.1.toNat 0)
      have := sub _ h1 h2
      have := sub _ h3 h4
      omega
    · rw [if_neg (by omega), if_neg (by omega)]
      have := hcap 1; omega
set_option maxRecDepth 50000 in
theorem sz_4095 {L : List T3} {x : Nat} (hwf : ∀ (i : Nat) t, L[i]? = some t → WFt i x t) (hzv : ∀ (i : Nat) t, L[i]? = some t → (szsOf L)[i]? = some (szOf (szsOf L) t)) (i : Nat) (hi : i < 12) (hl : i < L.length) : 1 ≤ (szsOf L).getD i 0 ∧ (szsOf L).getD i 0 ≤ 4095 := by
  have h1 := sz_small hwf hzv i hi L[i] (by simp [hl])
  have h2 : pw (i + 1) ≤ pw 12 := pw_mono (by omega)
  have h3 : pw 12 = 4096 := rfl
  have h4 : i < (szsOf L).length := by rw [szsOf_length]; exact hl
  refine ⟨?_, by omega⟩
  rw [List.getD_eq_getElem?_getD, List.getElem?_eq_getElem h4]
  exact (szsOf_bd L _ (List.getElem_mem h4)).1
set_option maxRecDepth 50000 in
theorem cxT15 : ∀ vs w, (callFunc 15 vs).run Try.prog w = .ok (.enter 15 vs) w := enters_of Try.func15 (by kernel_rfl) rfl
set_option maxRecDepth 50000 in
set_option maxHeartbeats 4000000 in
theorem rsize_atom (q n c : Nat) (g : Nat) (len : Nat) (k a b : Int) (hk : k = 1) (w : World) (c00 : w.cell? ⟨q, 0, none⟩ = some (.slice (some ⟨g, 0, none⟩) len c)) (hn : n < len) (x0 : w.cell? ⟨g, n * 3, none⟩ = some (.int .i64 k)) (x1 : w.cell? ⟨g, n * 3 + 1, none⟩ = some (.int .i64 a)) (x2 : w.cell? ⟨g, n * 3 + 2, none⟩ = some (.int .i64 b)) :
    Calls Try.prog 15 #[.pointer (some ⟨q, 0, none⟩), .int .i64 n] w fun e w' => e = .returned (.int .i64 1) ∧ Below w.heap.size w w' := by
  subst hk
  obtain ⟨W5, hW5, y0, y1, y2, hb5, hB5⟩ := term_world (1, a, b) w
  have hkk : (1 : Int) = 1 := rfl
  have hnl : (n : Int) < len := by omega
  have hn0 : (0 : Int) ≤ n := by omega
  dsimp only at y0 y1 y2 hW5
  have HW := hid hW5
  have HB := hid hb5
  clear hW5 hb5 hn
  clear hkk
  go_enter Try.func15, Try.ntmps15
  go_upto_region 2 with (fail)
  rw [HW.out]
  go_wp2
  go_ret
  exact ⟨rfl, HB.out⟩
set_option maxRecDepth 50000 in
set_option maxHeartbeats 4000000 in
theorem rsize_text (q n c : Nat) (g : Nat) (len : Nat) (k a b : Int) (hk : k = 9) (w : World) (c00 : w.cell? ⟨q, 0, none⟩ = some (.slice (some ⟨g, 0, none⟩) len c)) (hn : n < len) (x0 : w.cell? ⟨g, n * 3, none⟩ = some (.int .i64 k)) (x1 : w.cell? ⟨g, n * 3 + 1, none⟩ = some (.int .i64 a)) (x2 : w.cell? ⟨g, n * 3 + 2, none⟩ = some (.int .i64 b)) :
    Calls Try.prog 15 #[.pointer (some ⟨q, 0, none⟩), .int .i64 n] w fun e w' => e = .returned (.int .i64 1) ∧ Below w.heap.size w w' := by
  subst hk
  obtain ⟨W5, hW5, y0, y1, y2, hb5, hB5⟩ := term_world (9, a, b) w
  have hkk : (9 : Int) = 9 := rfl
  have hnl : (n : Int) < len := by omega
  have hn0 : (0 : Int) ≤ n := by omega
  dsimp only at y0 y1 y2 hW5
  have HW := hid hW5
  have HB := hid hb5
  clear hW5 hb5 hn
  clear hkk
  go_enter Try.func15, Try.ntmps15
  go_upto_region 2 with (fail)
  rw [HW.out]
  go_wp2
  go_ret
  exact ⟨rfl, HB.out⟩
set_option maxRecDepth 50000 in
set_option maxHeartbeats 4000000 in
theorem rsize_one2 (q n c : Nat) (g : Nat) (len : Nat) (k a b : Int) (hk : k = 2) (m : Nat) (r : Int) (ha : a = m) (w : World) (c00 : w.cell? ⟨q, 0, none⟩ = some (.slice (some ⟨g, 0, none⟩) len c)) (hn : n < len) (x0 : w.cell? ⟨g, n * 3, none⟩ = some (.int .i64 k)) (x1 : w.cell? ⟨g, n * 3 + 1, none⟩ = some (.int .i64 a)) (x2 : w.cell? ⟨g, n * 3 + 2, none⟩ = some (.int .i64 b)) (hr : 1 ≤ r ∧ r ≤ 4095) (hc : ∀ ww, Below w.heap.size w ww → Calls Try.prog 15 #[.pointer (some ⟨q, 0, none⟩), .int .i64 m] ww fun e w' => e = .returned (.int .i64 r) ∧ Below ww.heap.size ww w') :
    Calls Try.prog 15 #[.pointer (some ⟨q, 0, none⟩), .int .i64 n] w fun e w' => e = .returned (.int .i64 (1 + r)) ∧ Below w.heap.size w w' := by
  subst hk
  obtain ⟨W5, hW5, y0, y1, y2, hb5, hB5⟩ := term_world (2, a, b) w
  have hkk : (2 : Int) = 2 := rfl
  have hnl : (n : Int) < len := by omega
  have hn0 : (0 : Int) ≤ n := by omega
  dsimp only at y0 y1 y2 hW5
  subst ha
  have HW := hid hW5
  have HB := hid hb5
  clear hW5 hb5 hn
  clear hkk
  go_enter Try.func15, Try.ntmps15
  go_upto_region 2 with (fail)
  rw [HW.out]
  have hw1 : IntKind.i64.wrap (1 + r) = 1 + r := IntWalk.i64_in _ ⟨by omega, by omega⟩
  go_wp2_with ((go_at_call 15; refine (hc _ HB.out).mono ?_; rintro e W6 ⟨rfl, hb6⟩))
  go_ret
  exact ⟨rfl, HB.out.trans (Below.mono hb6 HB.out.size)⟩
set_option maxRecDepth 50000 in
set_option maxHeartbeats 4000000 in
theorem rsize_one3 (q n c : Nat) (g : Nat) (len : Nat) (k a b : Int) (hk : k = 3) (m : Nat) (r : Int) (ha : a = m) (w : World) (c00 : w.cell? ⟨q, 0, none⟩ = some (.slice (some ⟨g, 0, none⟩) len c)) (hn : n < len) (x0 : w.cell? ⟨g, n * 3, none⟩ = some (.int .i64 k)) (x1 : w.cell? ⟨g, n * 3 + 1, none⟩ = some (.int .i64 a)) (x2 : w.cell? ⟨g, n * 3 + 2, none⟩ = some (.int .i64 b)) (hr : 1 ≤ r ∧ r ≤ 4095) (hc : ∀ ww, Below w.heap.size w ww → Calls Try.prog 15 #[.pointer (some ⟨q, 0, none⟩), .int .i64 m] ww fun e w' => e = .returned (.int .i64 r) ∧ Below ww.heap.size ww w') :
    Calls Try.prog 15 #[.pointer (some ⟨q, 0, none⟩), .int .i64 n] w fun e w' => e = .returned (.int .i64 (1 + r)) ∧ Below w.heap.size w w' := by
  subst hk
  obtain ⟨W5, hW5, y0, y1, y2, hb5, hB5⟩ := term_world (3, a, b) w
  have hkk : (3 : Int) = 3 := rfl
  have hnl : (n : Int) < len := by omega
  have hn0 : (0 : Int) ≤ n := by omega
  dsimp only at y0 y1 y2 hW5
  subst ha
  have HW := hid hW5
  have HB := hid hb5
  clear hW5 hb5 hn
  clear hkk
  go_enter Try.func15, Try.ntmps15
  go_upto_region 2 with (fail)
  rw [HW.out]
  have hw1 : IntKind.i64.wrap (1 + r) = 1 + r := IntWalk.i64_in _ ⟨by omega, by omega⟩
  go_wp2_with ((go_at_call 15; refine (hc _ HB.out).mono ?_; rintro e W6 ⟨rfl, hb6⟩))
  go_ret
  exact ⟨rfl, HB.out.trans (Below.mono hb6 HB.out.size)⟩
set_option maxRecDepth 50000 in
set_option maxHeartbeats 4000000 in
theorem rsize_one6 (q n c : Nat) (g : Nat) (len : Nat) (k a b : Int) (hk : k = 6) (m : Nat) (r : Int) (ha : a = m) (w : World) (c00 : w.cell? ⟨q, 0, none⟩ = some (.slice (some ⟨g, 0, none⟩) len c)) (hn : n < len) (x0 : w.cell? ⟨g, n * 3, none⟩ = some (.int .i64 k)) (x1 : w.cell? ⟨g, n * 3 + 1, none⟩ = some (.int .i64 a)) (x2 : w.cell? ⟨g, n * 3 + 2, none⟩ = some (.int .i64 b)) (hr : 1 ≤ r ∧ r ≤ 4095) (hc : ∀ ww, Below w.heap.size w ww → Calls Try.prog 15 #[.pointer (some ⟨q, 0, none⟩), .int .i64 m] ww fun e w' => e = .returned (.int .i64 r) ∧ Below ww.heap.size ww w') :
    Calls Try.prog 15 #[.pointer (some ⟨q, 0, none⟩), .int .i64 n] w fun e w' => e = .returned (.int .i64 (1 + r)) ∧ Below w.heap.size w w' := by
  subst hk
  obtain ⟨W5, hW5, y0, y1, y2, hb5, hB5⟩ := term_world (6, a, b) w
  have hkk : (6 : Int) = 6 := rfl
  have hnl : (n : Int) < len := by omega
  have hn0 : (0 : Int) ≤ n := by omega
  dsimp only at y0 y1 y2 hW5
  subst ha
  have HW := hid hW5
  have HB := hid hb5
  clear hW5 hb5 hn
  clear hkk
  go_enter Try.func15, Try.ntmps15
  go_upto_region 2 with (fail)
  rw [HW.out]
  have hw1 : IntKind.i64.wrap (1 + r) = 1 + r := IntWalk.i64_in _ ⟨by omega, by omega⟩
  go_wp2_with ((go_at_call 15; refine (hc _ HB.out).mono ?_; rintro e W6 ⟨rfl, hb6⟩))
  go_ret
  exact ⟨rfl, HB.out.trans (Below.mono hb6 HB.out.size)⟩
set_option maxRecDepth 50000 in
set_option maxHeartbeats 4000000 in
theorem rsize_one7 (q n c : Nat) (g : Nat) (len : Nat) (k a b : Int) (hk : k = 7) (m : Nat) (r : Int) (ha : a = m) (w : World) (c00 : w.cell? ⟨q, 0, none⟩ = some (.slice (some ⟨g, 0, none⟩) len c)) (hn : n < len) (x0 : w.cell? ⟨g, n * 3, none⟩ = some (.int .i64 k)) (x1 : w.cell? ⟨g, n * 3 + 1, none⟩ = some (.int .i64 a)) (x2 : w.cell? ⟨g, n * 3 + 2, none⟩ = some (.int .i64 b)) (hr : 1 ≤ r ∧ r ≤ 4095) (hc : ∀ ww, Below w.heap.size w ww → Calls Try.prog 15 #[.pointer (some ⟨q, 0, none⟩), .int .i64 m] ww fun e w' => e = .returned (.int .i64 r) ∧ Below ww.heap.size ww w') :
    Calls Try.prog 15 #[.pointer (some ⟨q, 0, none⟩), .int .i64 n] w fun e w' => e = .returned (.int .i64 (1 + r)) ∧ Below w.heap.size w w' := by
  subst hk
  obtain ⟨W5, hW5, y0, y1, y2, hb5, hB5⟩ := term_world (7, a, b) w
  have hkk : (7 : Int) = 7 := rfl
  have hnl : (n : Int) < len := by omega
  have hn0 : (0 : Int) ≤ n := by omega
  dsimp only at y0 y1 y2 hW5
  subst ha
  have HW := hid hW5
  have HB := hid hb5
  clear hW5 hb5 hn
  clear hkk
  go_enter Try.func15, Try.ntmps15
  go_upto_region 2 with (fail)
  rw [HW.out]
  have hw1 : IntKind.i64.wrap (1 + r) = 1 + r := IntWalk.i64_in _ ⟨by omega, by omega⟩
  go_wp2_with ((go_at_call 15; refine (hc _ HB.out).mono ?_; rintro e W6 ⟨rfl, hb6⟩))
  go_ret
  exact ⟨rfl, HB.out.trans (Below.mono hb6 HB.out.size)⟩
set_option maxRecDepth 50000 in
set_option maxHeartbeats 4000000 in
theorem rsize_one10 (q n c : Nat) (g : Nat) (len : Nat) (k a b : Int) (hk : k = 10) (m : Nat) (r : Int) (ha : a = m) (w : World) (c00 : w.cell? ⟨q, 0, none⟩ = some (.slice (some ⟨g, 0, none⟩) len c)) (hn : n < len) (x0 : w.cell? ⟨g, n * 3, none⟩ = some (.int .i64 k)) (x1 : w.cell? ⟨g, n * 3 + 1, none⟩ = some (.int .i64 a)) (x2 : w.cell? ⟨g, n * 3 + 2, none⟩ = some (.int .i64 b)) (hr : 1 ≤ r ∧ r ≤ 4095) (hc : ∀ ww, Below w.heap.size w ww → Calls Try.prog 15 #[.pointer (some ⟨q, 0, none⟩), .int .i64 m] ww fun e w' => e = .returned (.int .i64 r) ∧ Below ww.heap.size ww w') :
    Calls Try.prog 15 #[.pointer (some ⟨q, 0, none⟩), .int .i64 n] w fun e w' => e = .returned (.int .i64 (1 + r)) ∧ Below w.heap.size w w' := by
  subst hk
  obtain ⟨W5, hW5, y0, y1, y2, hb5, hB5⟩ := term_world (10, a, b) w
  have hkk : (10 : Int) = 10 := rfl
  have hnl : (n : Int) < len := by omega
  have hn0 : (0 : Int) ≤ n := by omega
  dsimp only at y0 y1 y2 hW5
  subst ha
  have HW := hid hW5
  have HB := hid hb5
  clear hW5 hb5 hn
  clear hkk
  go_enter Try.func15, Try.ntmps15
  go_upto_region 2 with (fail)
  rw [HW.out]
  have hw1 : IntKind.i64.wrap (1 + r) = 1 + r := IntWalk.i64_in _ ⟨by omega, by omega⟩
  go_wp2_with ((go_at_call 15; refine (hc _ HB.out).mono ?_; rintro e W6 ⟨rfl, hb6⟩))
  go_ret
  exact ⟨rfl, HB.out.trans (Below.mono hb6 HB.out.size)⟩
set_option maxRecDepth 50000 in
set_option maxHeartbeats 4000000 in
theorem rsize_two4 (q n c : Nat) (g : Nat) (len : Nat) (k a b : Int) (hk : k = 4) (m m2 : Nat) (r r2 : Int) (ha : a = m) (hb : b = m2) (w : World) (c00 : w.cell? ⟨q, 0, none⟩ = some (.slice (some ⟨g, 0, none⟩) len c)) (hn : n < len) (x0 : w.cell? ⟨g, n * 3, none⟩ = some (.int .i64 k)) (x1 : w.cell? ⟨g, n * 3 + 1, none⟩ = some (.int .i64 a)) (x2 : w.cell? ⟨g, n * 3 + 2, none⟩ = some (.int .i64 b)) (hr : 1 ≤ r ∧ r ≤ 4095) (hr2 : 1 ≤ r2 ∧ r2 ≤ 4095) (hc : ∀ ww, Below w.heap.size w ww → Calls Try.prog 15 #[.pointer (some ⟨q, 0, none⟩), .int .i64 m] ww fun e w' => e = .returned (.int .i64 r) ∧ Below ww.heap.size ww w') (hc2 : ∀ ww, Below w.heap.size w ww → Calls Try.prog 15 #[.pointer (some ⟨q, 0, none⟩), .int .i64 m2] ww fun e w' => e = .returned (.int .i64 r2) ∧ Below ww.heap.size ww w') :
    Calls Try.prog 15 #[.pointer (some ⟨q, 0, none⟩), .int .i64 n] w fun e w' => e = .returned (.int .i64 (1 + r + r2)) ∧ Below w.heap.size w w' := by
  subst hk
  obtain ⟨W5, hW5, y0, y1, y2, hb5, hB5⟩ := term_world (4, a, b) w
  have hkk : (4 : Int) = 4 := rfl
  have hnl : (n : Int) < len := by omega
  have hn0 : (0 : Int) ≤ n := by omega
  dsimp only at y0 y1 y2 hW5
  subst ha
  subst hb
  have HW := hid hW5
  have HB := hid hb5
  clear hW5 hb5 hn
  clear hkk
  go_enter Try.func15, Try.ntmps15
  go_upto_region 2 with (fail)
  rw [HW.out]
  have hw1 : IntKind.i64.wrap (1 + r) = 1 + r := IntWalk.i64_in _ ⟨by omega, by omega⟩
  have hw2 : IntKind.i64.wrap (1 + r + r2) = 1 + r + r2 := IntWalk.i64_in _ ⟨by omega, by omega⟩
  go_upto_region 5 with (fail)
  refine region_spec2 10 49 (fun _ => false) [Is (Value.pointer (some ⟨q, 0, none⟩)), Is (Value.pointer (some ⟨w.heap.size, 1, none⟩)), Is (Value.int .i64 m), Is (Value.int .i64 r), Is (Value.int .i64 (1 + r)), Is (Value.pointer (some ⟨q, 0, none⟩)), Is (Value.pointer (some ⟨w.heap.size, 2, none⟩)), Is (Value.int .i64 m2), Is (Value.int .i64 r2), Is (Value.int .i64 (1 + r + r2))] [34, 35, 36, 37, 38, 39, 40, 41, 42, 43] (by kernel_rfl) (by kernel_rfl) (by kernel_rfl) (Nat.le_of_eq rfl) (grows_cons (Is.grows _) (grows_cons (Is.grows _) (grows_cons (Is.grows _) (grows_cons (Is.grows _) (grows_cons (Is.grows _) (grows_cons (Is.grows _) (grows_cons (Is.grows _) (grows_cons (Is.grows _) (grows_cons (Is.grows _) (grows_cons (Is.grows _) grows_nil))))))))))
    ⟨(step_ex (Value.pointer (some ⟨q, 0, none⟩)) rfl (.inl rfl) rfl (fun a ww hw hf hd => by
           have h0 : a.eval (.tmp 0) = Value.pointer (some ⟨q, 0, none⟩) := ((knows_out 0 (by kernel_rfl) rfl) : Knows _ _ _ _ _ _ 0 _ _) a ww hw hf hd
           have hcc : ∀ c, a.eval (.const c) = c := fun _ => rfl
           revert hcc h0
           generalize a.eval = ev
           intro hcc h0
           unfold execOp
           simp only [h0, hcc]
           go_simp)),
     (step_ex (Value.pointer (some ⟨w.heap.size, 1, none⟩)) rfl (.inl rfl) rfl (fun a ww hw hf hd => by
           have h5 : a.eval (.tmp 5) = Value.pointer (some ⟨w.heap.size, 0, none⟩) := ((knows_out 5 (by kernel_rfl) rfl) : Knows _ _ _ _ _ _ 1 _ _) a ww hw hf hd
           have hcc : ∀ c, a.eval (.const c) = c := fun _ => rfl
           revert hcc h5
           generalize a.eval = ev
           intro hcc h5
           unfold execOp
           simp only [h5, hcc]
           go_simp)),
     (step_ex (Value.int .i64 m) rfl (.inl rfl) rfl (fun a ww hw hf hd => by
           have h35 : a.eval (.tmp 35) = Value.pointer (some ⟨w.heap.size, 1, none⟩) := ((knows_in 1 35 (by decide) (by kernel_rfl) rfl rfl) : Knows _ _ _ _ _ _ 2 _ _) a ww hw hf hd
           have f0 : ww.cell? ⟨w.heap.size, 1, none⟩ = some (Value.int .i64 m) := cellB y1 hw
           have hcc : ∀ c, a.eval (.const c) = c := fun _ => rfl
           revert hcc h35
           generalize a.eval = ev
           intro hcc h35
           unfold execOp
           simp only [h35, hcc]
           go_simp)),
     (step_cw rfl (.inl rfl) rfl cxT15 rfl (fun aa ww hw hf hd => ⟨_, (two_args (knows_in 0 34 (by decide) (by kernel_rfl) rfl rfl) (knows_in 2 36 (by decide) (by kernel_rfl) rfl rfl)) aa ww hw hf hd, hc ww (HB.out.trans (Below.mono (show Below W5.heap.size W5 ww from hw) HB.out.size))⟩)),
     (step_ex (Value.int .i64 (1 + r)) rfl (.inl rfl) rfl (fun a ww hw hf hd => by
           have h37 : a.eval (.tmp 37) = Value.int .i64 r := ((knows_in 3 37 (by decide) (by kernel_rfl) rfl rfl) : Knows _ _ _ _ _ _ 4 _ _) a ww hw hf hd
           have f0 := hw1
           have hcc : ∀ c, a.eval (.const c) = c := fun _ => rfl
           revert hcc h37
           generalize a.eval = ev
           intro hcc h37
           unfold execOp
           simp only [h37, hcc]
           go_simp)),
     (step_ex (Value.pointer (some ⟨q, 0, none⟩)) rfl (.inl rfl) rfl (fun a ww hw hf hd => by
           have h0 : a.eval (.tmp 0) = Value.pointer (some ⟨q, 0, none⟩) := ((knows_out 0 (by kernel_rfl) rfl) : Knows _ _ _ _ _ _ 5 _ _) a ww hw hf hd
           have hcc : ∀ c, a.eval (.const c) = c := fun _ => rfl
           revert hcc h0
           generalize a.eval = ev
           intro hcc h0
           unfold execOp
           simp only [h0, hcc]
           go_simp)),
     (step_ex (Value.pointer (some ⟨w.heap.size, 2, none⟩)) rfl (.inl rfl) rfl (fun a ww hw hf hd => by
           have h5 : a.eval (.tmp 5) = Value.pointer (some ⟨w.heap.size, 0, none⟩) := ((knows_out 5 (by kernel_rfl) rfl) : Knows _ _ _ _ _ _ 6 _ _) a ww hw hf hd
           have hcc : ∀ c, a.eval (.const c) = c := fun _ => rfl
           revert hcc h5
           generalize a.eval = ev
           intro hcc h5
           unfold execOp
           simp only [h5, hcc]
           go_simp)),
     (step_ex (Value.int .i64 m2) rfl (.inl rfl) rfl (fun a ww hw hf hd => by
           have h40 : a.eval (.tmp 40) = Value.pointer (some ⟨w.heap.size, 2, none⟩) := ((knows_in 6 40 (by decide) (by kernel_rfl) rfl rfl) : Knows _ _ _ _ _ _ 7 _ _) a ww hw hf hd
           have f0 : ww.cell? ⟨w.heap.size, 2, none⟩ = some (Value.int .i64 m2) := cellB y2 hw
           have hcc : ∀ c, a.eval (.const c) = c := fun _ => rfl
           revert hcc h40
           generalize a.eval = ev
           intro hcc h40
           unfold execOp
           simp only [h40, hcc]
           go_simp)),
     (step_cw rfl (.inl rfl) rfl cxT15 rfl (fun aa ww hw hf hd => ⟨_, (two_args (knows_in 5 39 (by decide) (by kernel_rfl) rfl rfl) (knows_in 7 41 (by decide) (by kernel_rfl) rfl rfl)) aa ww hw hf hd, hc2 ww (HB.out.trans (Below.mono (show Below W5.heap.size W5 ww from hw) HB.out.size))⟩)),
     (step_ex (Value.int .i64 (1 + r + r2)) rfl (.inl rfl) rfl (fun a ww hw hf hd => by
           have h38 : a.eval (.tmp 38) = Value.int .i64 (1 + r) := ((knows_in 4 38 (by decide) (by kernel_rfl) rfl rfl) : Knows _ _ _ _ _ _ 9 _ _) a ww hw hf hd
           have h42 : a.eval (.tmp 42) = Value.int .i64 r2 := ((knows_in 8 42 (by decide) (by kernel_rfl) rfl rfl) : Knows _ _ _ _ _ _ 9 _ _) a ww hw hf hd
           have f0 := hw2
           have hcc : ∀ c, a.eval (.const c) = c := fun _ => rfl
           revert hcc h38 h42
           generalize a.eval = ev
           intro hcc h38 h42
           unfold execOp
           simp only [h38, h42, hcc]
           go_simp)), trivial⟩ ?_
  intro val W6 hw hS _ _
  have e34 : val 34 = Value.pointer (some ⟨q, 0, none⟩) := hS 0 34 (by decide) rfl
  have e35 : val 35 = Value.pointer (some ⟨w.heap.size, 1, none⟩) := hS 1 35 (by decide) rfl
  have e36 : val 36 = Value.int .i64 m := hS 2 36 (by decide) rfl
  have e37 : val 37 = Value.int .i64 r := hS 3 37 (by decide) rfl
  have e38 : val 38 = Value.int .i64 (1 + r) := hS 4 38 (by decide) rfl
  have e39 : val 39 = Value.pointer (some ⟨q, 0, none⟩) := hS 5 39 (by decide) rfl
  have e40 : val 40 = Value.pointer (some ⟨w.heap.size, 2, none⟩) := hS 6 40 (by decide) rfl
  have e41 : val 41 = Value.int .i64 m2 := hS 7 41 (by decide) rfl
  have e42 : val 42 = Value.int .i64 r2 := hS 8 42 (by decide) rfl
  have e43 : val 43 = Value.int .i64 (1 + r + r2) := hS 9 43 (by decide) rfl
  simp only [putVals, List.foldl_cons, List.foldl_nil, List.drop_succ_cons, List.drop_zero, Act.put, List.setIfInBounds_toArray, List.set_cons_succ, List.set_cons_zero, e34, e35, e36, e37, e38, e39, e40, e41, e42, e43]
  clear e34 e35 e36 e37 e38 e39 e40 e41 e42 e43 hS
  have HB6 : Below w.heap.size w W6 := HB.out.trans (Below.mono (show Below W5.heap.size W5 W6 from hw) HB.out.size)
  go_wp2
  go_ret
  exact ⟨rfl, HB6⟩
set_option maxRecDepth 50000 in
set_option maxHeartbeats 4000000 in
theorem rsize_two5 (q n c : Nat) (g : Nat) (len : Nat) (k a b : Int) (hk : k = 5) (m m2 : Nat) (r r2 : Int) (ha : a = m) (hb : b = m2) (w : World) (c00 : w.cell? ⟨q, 0, none⟩ = some (.slice (some ⟨g, 0, none⟩) len c)) (hn : n < len) (x0 : w.cell? ⟨g, n * 3, none⟩ = some (.int .i64 k)) (x1 : w.cell? ⟨g, n * 3 + 1, none⟩ = some (.int .i64 a)) (x2 : w.cell? ⟨g, n * 3 + 2, none⟩ = some (.int .i64 b)) (hr : 1 ≤ r ∧ r ≤ 4095) (hr2 : 1 ≤ r2 ∧ r2 ≤ 4095) (hc : ∀ ww, Below w.heap.size w ww → Calls Try.prog 15 #[.pointer (some ⟨q, 0, none⟩), .int .i64 m] ww fun e w' => e = .returned (.int .i64 r) ∧ Below ww.heap.size ww w') (hc2 : ∀ ww, Below w.heap.size w ww → Calls Try.prog 15 #[.pointer (some ⟨q, 0, none⟩), .int .i64 m2] ww fun e w' => e = .returned (.int .i64 r2) ∧ Below ww.heap.size ww w') :
    Calls Try.prog 15 #[.pointer (some ⟨q, 0, none⟩), .int .i64 n] w fun e w' => e = .returned (.int .i64 (1 + r + r2)) ∧ Below w.heap.size w w' := by
  subst hk
  obtain ⟨W5, hW5, y0, y1, y2, hb5, hB5⟩ := term_world (5, a, b) w
  have hkk : (5 : Int) = 5 := rfl
  have hnl : (n : Int) < len := by omega
  have hn0 : (0 : Int) ≤ n := by omega
  dsimp only at y0 y1 y2 hW5
  subst ha
  subst hb
  have HW := hid hW5
  have HB := hid hb5
  clear hW5 hb5 hn
  clear hkk
  go_enter Try.func15, Try.ntmps15
  go_upto_region 2 with (fail)
  rw [HW.out]
  have hw1 : IntKind.i64.wrap (1 + r) = 1 + r := IntWalk.i64_in _ ⟨by omega, by omega⟩
  have hw2 : IntKind.i64.wrap (1 + r + r2) = 1 + r + r2 := IntWalk.i64_in _ ⟨by omega, by omega⟩
  go_upto_region 5 with (fail)
  refine region_spec2 10 49 (fun _ => false) [Is (Value.pointer (some ⟨q, 0, none⟩)), Is (Value.pointer (some ⟨w.heap.size, 1, none⟩)), Is (Value.int .i64 m), Is (Value.int .i64 r), Is (Value.int .i64 (1 + r)), Is (Value.pointer (some ⟨q, 0, none⟩)), Is (Value.pointer (some ⟨w.heap.size, 2, none⟩)), Is (Value.int .i64 m2), Is (Value.int .i64 r2), Is (Value.int .i64 (1 + r + r2))] [34, 35, 36, 37, 38, 39, 40, 41, 42, 43] (by kernel_rfl) (by kernel_rfl) (by kernel_rfl) (Nat.le_of_eq rfl) (grows_cons (Is.grows _) (grows_cons (Is.grows _) (grows_cons (Is.grows _) (grows_cons (Is.grows _) (grows_cons (Is.grows _) (grows_cons (Is.grows _) (grows_cons (Is.grows _) (grows_cons (Is.grows _) (grows_cons (Is.grows _) (grows_cons (Is.grows _) grows_nil))))))))))
    ⟨(step_ex (Value.pointer (some ⟨q, 0, none⟩)) rfl (.inl rfl) rfl (fun a ww hw hf hd => by
           have h0 : a.eval (.tmp 0) = Value.pointer (some ⟨q, 0, none⟩) := ((knows_out 0 (by kernel_rfl) rfl) : Knows _ _ _ _ _ _ 0 _ _) a ww hw hf hd
           have hcc : ∀ c, a.eval (.const c) = c := fun _ => rfl
           revert hcc h0
           generalize a.eval = ev
           intro hcc h0
           unfold execOp
           simp only [h0, hcc]
           go_simp)),
     (step_ex (Value.pointer (some ⟨w.heap.size, 1, none⟩)) rfl (.inl rfl) rfl (fun a ww hw hf hd => by
           have h5 : a.eval (.tmp 5) = Value.pointer (some ⟨w.heap.size, 0, none⟩) := ((knows_out 5 (by kernel_rfl) rfl) : Knows _ _ _ _ _ _ 1 _ _) a ww hw hf hd
           have hcc : ∀ c, a.eval (.const c) = c := fun _ => rfl
           revert hcc h5
           generalize a.eval = ev
           intro hcc h5
           unfold execOp
           simp only [h5, hcc]
           go_simp)),
     (step_ex (Value.int .i64 m) rfl (.inl rfl) rfl (fun a ww hw hf hd => by
           have h35 : a.eval (.tmp 35) = Value.pointer (some ⟨w.heap.size, 1, none⟩) := ((knows_in 1 35 (by decide) (by kernel_rfl) rfl rfl) : Knows _ _ _ _ _ _ 2 _ _) a ww hw hf hd
           have f0 : ww.cell? ⟨w.heap.size, 1, none⟩ = some (Value.int .i64 m) := cellB y1 hw
           have hcc : ∀ c, a.eval (.const c) = c := fun _ => rfl
           revert hcc h35
           generalize a.eval = ev
           intro hcc h35
           unfold execOp
           simp only [h35, hcc]
           go_simp)),
     (step_cw rfl (.inl rfl) rfl cxT15 rfl (fun aa ww hw hf hd => ⟨_, (two_args (knows_in 0 34 (by decide) (by kernel_rfl) rfl rfl) (knows_in 2 36 (by decide) (by kernel_rfl) rfl rfl)) aa ww hw hf hd, hc ww (HB.out.trans (Below.mono (show Below W5.heap.size W5 ww from hw) HB.out.size))⟩)),
     (step_ex (Value.int .i64 (1 + r)) rfl (.inl rfl) rfl (fun a ww hw hf hd => by
           have h37 : a.eval (.tmp 37) = Value.int .i64 r := ((knows_in 3 37 (by decide) (by kernel_rfl) rfl rfl) : Knows _ _ _ _ _ _ 4 _ _) a ww hw hf hd
           have f0 := hw1
           have hcc : ∀ c, a.eval (.const c) = c := fun _ => rfl
           revert hcc h37
           generalize a.eval = ev
           intro hcc h37
           unfold execOp
           simp only [h37, hcc]
           go_simp)),
     (step_ex (Value.pointer (some ⟨q, 0, none⟩)) rfl (.inl rfl) rfl (fun a ww hw hf hd => by
           have h0 : a.eval (.tmp 0) = Value.pointer (some ⟨q, 0, none⟩) := ((knows_out 0 (by kernel_rfl) rfl) : Knows _ _ _ _ _ _ 5 _ _) a ww hw hf hd
           have hcc : ∀ c, a.eval (.const c) = c := fun _ => rfl
           revert hcc h0
           generalize a.eval = ev
           intro hcc h0
           unfold execOp
           simp only [h0, hcc]
           go_simp)),
     (step_ex (Value.pointer (some ⟨w.heap.size, 2, none⟩)) rfl (.inl rfl) rfl (fun a ww hw hf hd => by
           have h5 : a.eval (.tmp 5) = Value.pointer (some ⟨w.heap.size, 0, none⟩) := ((knows_out 5 (by kernel_rfl) rfl) : Knows _ _ _ _ _ _ 6 _ _) a ww hw hf hd
           have hcc : ∀ c, a.eval (.const c) = c := fun _ => rfl
           revert hcc h5
           generalize a.eval = ev
           intro hcc h5
           unfold execOp
           simp only [h5, hcc]
           go_simp)),
     (step_ex (Value.int .i64 m2) rfl (.inl rfl) rfl (fun a ww hw hf hd => by
           have h40 : a.eval (.tmp 40) = Value.pointer (some ⟨w.heap.size, 2, none⟩) := ((knows_in 6 40 (by decide) (by kernel_rfl) rfl rfl) : Knows _ _ _ _ _ _ 7 _ _) a ww hw hf hd
           have f0 : ww.cell? ⟨w.heap.size, 2, none⟩ = some (Value.int .i64 m2) := cellB y2 hw
           have hcc : ∀ c, a.eval (.const c) = c := fun _ => rfl
           revert hcc h40
           generalize a.eval = ev
           intro hcc h40
           unfold execOp
           simp only [h40, hcc]
           go_simp)),
     (step_cw rfl (.inl rfl) rfl cxT15 rfl (fun aa ww hw hf hd => ⟨_, (two_args (knows_in 5 39 (by decide) (by kernel_rfl) rfl rfl) (knows_in 7 41 (by decide) (by kernel_rfl) rfl rfl)) aa ww hw hf hd, hc2 ww (HB.out.trans (Below.mono (show Below W5.heap.size W5 ww from hw) HB.out.size))⟩)),
     (step_ex (Value.int .i64 (1 + r + r2)) rfl (.inl rfl) rfl (fun a ww hw hf hd => by
           have h38 : a.eval (.tmp 38) = Value.int .i64 (1 + r) := ((knows_in 4 38 (by decide) (by kernel_rfl) rfl rfl) : Knows _ _ _ _ _ _ 9 _ _) a ww hw hf hd
           have h42 : a.eval (.tmp 42) = Value.int .i64 r2 := ((knows_in 8 42 (by decide) (by kernel_rfl) rfl rfl) : Knows _ _ _ _ _ _ 9 _ _) a ww hw hf hd
           have f0 := hw2
           have hcc : ∀ c, a.eval (.const c) = c := fun _ => rfl
           revert hcc h38 h42
           generalize a.eval = ev
           intro hcc h38 h42
           unfold execOp
           simp only [h38, h42, hcc]
           go_simp)), trivial⟩ ?_
  intro val W6 hw hS _ _
  have e34 : val 34 = Value.pointer (some ⟨q, 0, none⟩) := hS 0 34 (by decide) rfl
  have e35 : val 35 = Value.pointer (some ⟨w.heap.size, 1, none⟩) := hS 1 35 (by decide) rfl
  have e36 : val 36 = Value.int .i64 m := hS 2 36 (by decide) rfl
  have e37 : val 37 = Value.int .i64 r := hS 3 37 (by decide) rfl
  have e38 : val 38 = Value.int .i64 (1 + r) := hS 4 38 (by decide) rfl
  have e39 : val 39 = Value.pointer (some ⟨q, 0, none⟩) := hS 5 39 (by decide) rfl
  have e40 : val 40 = Value.pointer (some ⟨w.heap.size, 2, none⟩) := hS 6 40 (by decide) rfl
  have e41 : val 41 = Value.int .i64 m2 := hS 7 41 (by decide) rfl
  have e42 : val 42 = Value.int .i64 r2 := hS 8 42 (by decide) rfl
  have e43 : val 43 = Value.int .i64 (1 + r + r2) := hS 9 43 (by decide) rfl
  simp only [putVals, List.foldl_cons, List.foldl_nil, List.drop_succ_cons, List.drop_zero, Act.put, List.setIfInBounds_toArray, List.set_cons_succ, List.set_cons_zero, e34, e35, e36, e37, e38, e39, e40, e41, e42, e43]
  clear e34 e35 e36 e37 e38 e39 e40 e41 e42 e43 hS
  have HB6 : Below w.heap.size w W6 := HB.out.trans (Below.mono (show Below W5.heap.size W5 W6 from hw) HB.out.size)
  go_wp2
  go_ret
  exact ⟨rfl, HB6⟩
set_option maxRecDepth 50000 in
set_option maxHeartbeats 4000000 in
theorem rsize_two8 (q n c : Nat) (g : Nat) (len : Nat) (k a b : Int) (hk : k = 8) (m m2 : Nat) (r r2 : Int) (ha : a = m) (hb : b = m2) (w : World) (c00 : w.cell? ⟨q, 0, none⟩ = some (.slice (some ⟨g, 0, none⟩) len c)) (hn : n < len) (x0 : w.cell? ⟨g, n * 3, none⟩ = some (.int .i64 k)) (x1 : w.cell? ⟨g, n * 3 + 1, none⟩ = some (.int .i64 a)) (x2 : w.cell? ⟨g, n * 3 + 2, none⟩ = some (.int .i64 b)) (hr : 1 ≤ r ∧ r ≤ 4095) (hr2 : 1 ≤ r2 ∧ r2 ≤ 4095) (hc : ∀ ww, Below w.heap.size w ww → Calls Try.prog 15 #[.pointer (some ⟨q, 0, none⟩), .int .i64 m] ww fun e w' => e = .returned (.int .i64 r) ∧ Below ww.heap.size ww w') (hc2 : ∀ ww, Below w.heap.size w ww → Calls Try.prog 15 #[.pointer (some ⟨q, 0, none⟩), .int .i64 m2] ww fun e w' => e = .returned (.int .i64 r2) ∧ Below ww.heap.size ww w') :
    Calls Try.prog 15 #[.pointer (some ⟨q, 0, none⟩), .int .i64 n] w fun e w' => e = .returned (.int .i64 (1 + r + r2)) ∧ Below w.heap.size w w' := by
  subst hk
  obtain ⟨W5, hW5, y0, y1, y2, hb5, hB5⟩ := term_world (8, a, b) w
  have hkk : (8 : Int) = 8 := rfl
  have hnl : (n : Int) < len := by omega
  have hn0 : (0 : Int) ≤ n := by omega
  dsimp only at y0 y1 y2 hW5
  subst ha
  subst hb
  have HW := hid hW5
  have HB := hid hb5
  clear hW5 hb5 hn
  clear hkk
  go_enter Try.func15, Try.ntmps15
  go_upto_region 2 with (fail)
  rw [HW.out]
  have hw1 : IntKind.i64.wrap (1 + r) = 1 + r := IntWalk.i64_in _ ⟨by omega, by omega⟩
  have hw2 : IntKind.i64.wrap (1 + r + r2) = 1 + r + r2 := IntWalk.i64_in _ ⟨by omega, by omega⟩
  go_upto_region 5 with (fail)
  refine region_spec2 10 49 (fun _ => false) [Is (Value.pointer (some ⟨q, 0, none⟩)), Is (Value.pointer (some ⟨w.heap.size, 1, none⟩)), Is (Value.int .i64 m), Is (Value.int .i64 r), Is (Value.int .i64 (1 + r)), Is (Value.pointer (some ⟨q, 0, none⟩)), Is (Value.pointer (some ⟨w.heap.size, 2, none⟩)), Is (Value.int .i64 m2), Is (Value.int .i64 r2), Is (Value.int .i64 (1 + r + r2))] [34, 35, 36, 37, 38, 39, 40, 41, 42, 43] (by kernel_rfl) (by kernel_rfl) (by kernel_rfl) (Nat.le_of_eq rfl) (grows_cons (Is.grows _) (grows_cons (Is.grows _) (grows_cons (Is.grows _) (grows_cons (Is.grows _) (grows_cons (Is.grows _) (grows_cons (Is.grows _) (grows_cons (Is.grows _) (grows_cons (Is.grows _) (grows_cons (Is.grows _) (grows_cons (Is.grows _) grows_nil))))))))))
    ⟨(step_ex (Value.pointer (some ⟨q, 0, none⟩)) rfl (.inl rfl) rfl (fun a ww hw hf hd => by
           have h0 : a.eval (.tmp 0) = Value.pointer (some ⟨q, 0, none⟩) := ((knows_out 0 (by kernel_rfl) rfl) : Knows _ _ _ _ _ _ 0 _ _) a ww hw hf hd
           have hcc : ∀ c, a.eval (.const c) = c := fun _ => rfl
           revert hcc h0
           generalize a.eval = ev
           intro hcc h0
           unfold execOp
           simp only [h0, hcc]
           go_simp)),
     (step_ex (Value.pointer (some ⟨w.heap.size, 1, none⟩)) rfl (.inl rfl) rfl (fun a ww hw hf hd => by
           have h5 : a.eval (.tmp 5) = Value.pointer (some ⟨w.heap.size, 0, none⟩) := ((knows_out 5 (by kernel_rfl) rfl) : Knows _ _ _ _ _ _ 1 _ _) a ww hw hf hd
           have hcc : ∀ c, a.eval (.const c) = c := fun _ => rfl
           revert hcc h5
           generalize a.eval = ev
           intro hcc h5
           unfold execOp
           simp only [h5, hcc]
           go_simp)),
     (step_ex (Value.int .i64 m) rfl (.inl rfl) rfl (fun a ww hw hf hd => by
           have h35 : a.eval (.tmp 35) = Value.pointer (some ⟨w.heap.size, 1, none⟩) := ((knows_in 1 35 (by decide) (by kernel_rfl) rfl rfl) : Knows _ _ _ _ _ _ 2 _ _) a ww hw hf hd
           have f0 : ww.cell? ⟨w.heap.size, 1, none⟩ = some (Value.int .i64 m) := cellB y1 hw
           have hcc : ∀ c, a.eval (.const c) = c := fun _ => rfl
           revert hcc h35
           generalize a.eval = ev
           intro hcc h35
           unfold execOp
           simp only [h35, hcc]
           go_simp)),
     (step_cw rfl (.inl rfl) rfl cxT15 rfl (fun aa ww hw hf hd => ⟨_, (two_args (knows_in 0 34 (by decide) (by kernel_rfl) rfl rfl) (knows_in 2 36 (by decide) (by kernel_rfl) rfl rfl)) aa ww hw hf hd, hc ww (HB.out.trans (Below.mono (show Below W5.heap.size W5 ww from hw) HB.out.size))⟩)),
     (step_ex (Value.int .i64 (1 + r)) rfl (.inl rfl) rfl (fun a ww hw hf hd => by
           have h37 : a.eval (.tmp 37) = Value.int .i64 r := ((knows_in 3 37 (by decide) (by kernel_rfl) rfl rfl) : Knows _ _ _ _ _ _ 4 _ _) a ww hw hf hd
           have f0 := hw1
           have hcc : ∀ c, a.eval (.const c) = c := fun _ => rfl
           revert hcc h37
           generalize a.eval = ev
           intro hcc h37
           unfold execOp
           simp only [h37, hcc]
           go_simp)),
     (step_ex (Value.pointer (some ⟨q, 0, none⟩)) rfl (.inl rfl) rfl (fun a ww hw hf hd => by
           have h0 : a.eval (.tmp 0) = Value.pointer (some ⟨q, 0, none⟩) := ((knows_out 0 (by kernel_rfl) rfl) : Knows _ _ _ _ _ _ 5 _ _) a ww hw hf hd
           have hcc : ∀ c, a.eval (.const c) = c := fun _ => rfl
           revert hcc h0
           generalize a.eval = ev
           intro hcc h0
           unfold execOp
           simp only [h0, hcc]
           go_simp)),
     (step_ex (Value.pointer (some ⟨w.heap.size, 2, none⟩)) rfl (.inl rfl) rfl (fun a ww hw hf hd => by
           have h5 : a.eval (.tmp 5) = Value.pointer (some ⟨w.heap.size, 0, none⟩) := ((knows_out 5 (by kernel_rfl) rfl) : Knows _ _ _ _ _ _ 6 _ _) a ww hw hf hd
           have hcc : ∀ c, a.eval (.const c) = c := fun _ => rfl
           revert hcc h5
           generalize a.eval = ev
           intro hcc h5
           unfold execOp
           simp only [h5, hcc]
           go_simp)),
     (step_ex (Value.int .i64 m2) rfl (.inl rfl) rfl (fun a ww hw hf hd => by
           have h40 : a.eval (.tmp 40) = Value.pointer (some ⟨w.heap.size, 2, none⟩) := ((knows_in 6 40 (by decide) (by kernel_rfl) rfl rfl) : Knows _ _ _ _ _ _ 7 _ _) a ww hw hf hd
           have f0 : ww.cell? ⟨w.heap.size, 2, none⟩ = some (Value.int .i64 m2) := cellB y2 hw
           have hcc : ∀ c, a.eval (.const c) = c := fun _ => rfl
           revert hcc h40
           generalize a.eval = ev
           intro hcc h40
           unfold execOp
           simp only [h40, hcc]
           go_simp)),
     (step_cw rfl (.inl rfl) rfl cxT15 rfl (fun aa ww hw hf hd => ⟨_, (two_args (knows_in 5 39 (by decide) (by kernel_rfl) rfl rfl) (knows_in 7 41 (by decide) (by kernel_rfl) rfl rfl)) aa ww hw hf hd, hc2 ww (HB.out.trans (Below.mono (show Below W5.heap.size W5 ww from hw) HB.out.size))⟩)),
     (step_ex (Value.int .i64 (1 + r + r2)) rfl (.inl rfl) rfl (fun a ww hw hf hd => by
           have h38 : a.eval (.tmp 38) = Value.int .i64 (1 + r) := ((knows_in 4 38 (by decide) (by kernel_rfl) rfl rfl) : Knows _ _ _ _ _ _ 9 _ _) a ww hw hf hd
           have h42 : a.eval (.tmp 42) = Value.int .i64 r2 := ((knows_in 8 42 (by decide) (by kernel_rfl) rfl rfl) : Knows _ _ _ _ _ _ 9 _ _) a ww hw hf hd
           have f0 := hw2
           have hcc : ∀ c, a.eval (.const c) = c := fun _ => rfl
           revert hcc h38 h42
           generalize a.eval = ev
           intro hcc h38 h42
           unfold execOp
           simp only [h38, h42, hcc]
           go_simp)), trivial⟩ ?_
  intro val W6 hw hS _ _
  have e34 : val 34 = Value.pointer (some ⟨q, 0, none⟩) := hS 0 34 (by decide) rfl
  have e35 : val 35 = Value.pointer (some ⟨w.heap.size, 1, none⟩) := hS 1 35 (by decide) rfl
  have e36 : val 36 = Value.int .i64 m := hS 2 36 (by decide) rfl
  have e37 : val 37 = Value.int .i64 r := hS 3 37 (by decide) rfl
  have e38 : val 38 = Value.int .i64 (1 + r) := hS 4 38 (by decide) rfl
  have e39 : val 39 = Value.pointer (some ⟨q, 0, none⟩) := hS 5 39 (by decide) rfl
  have e40 : val 40 = Value.pointer (some ⟨w.heap.size, 2, none⟩) := hS 6 40 (by decide) rfl
  have e41 : val 41 = Value.int .i64 m2 := hS 7 41 (by decide) rfl
  have e42 : val 42 = Value.int .i64 r2 := hS 8 42 (by decide) rfl
  have e43 : val 43 = Value.int .i64 (1 + r + r2) := hS 9 43 (by decide) rfl
  simp only [putVals, List.foldl_cons, List.foldl_nil, List.drop_succ_cons, List.drop_zero, Act.put, List.setIfInBounds_toArray, List.set_cons_succ, List.set_cons_zero, e34, e35, e36, e37, e38, e39, e40, e41, e42, e43]
  clear e34 e35 e36 e37 e38 e39 e40 e41 e42 e43 hS
  have HB6 : Below w.heap.size w W6 := HB.out.trans (Below.mono (show Below W5.heap.size W5 W6 from hw) HB.out.size)
  go_wp2
  go_ret
  exact ⟨rfl, HB6⟩
set_option maxRecDepth 50000 in
theorem rsize_any {L : List T3} {X : List (List Int)} {nx : List Int} {DN DI : D0} (hP : PF nx DN DI L X) (q c g : Nat) : ∀ (n : Nat), n < 12 → n < L.length → ∀ w : World, w.cell? ⟨q, 0, none⟩ = some (.slice (some ⟨g, 0, none⟩) L.length c) → TRow w (some ⟨g, 0, none⟩) L →
    Calls Try.prog 15 #[.pointer (some ⟨q, 0, none⟩), .int .i64 n] w fun e w' => e = .returned (.int .i64 ((szsOf L).getD n 0)) ∧ Below w.heap.size w w' := by
  have hwf : ∀ (i : Nat) t, L[i]? = some t → WFt i X.length t := fun i t h => (hP.wf i t h).2
  intro n
  induction n using Nat.strongRecOn with
  | _ n ih =>
    intro h12 hn w c0 hA
    obtain ⟨t, ht⟩ : ∃ t, L[n]? = some t := ⟨L[n], by simp [hn]⟩
    obtain ⟨g', e, hg, hcell⟩ := hA (by omega)
    injection e with e
    injection e with e
    subst e
    obtain ⟨x0, x1, x2⟩ := hcell n t ht
    obtain ⟨k, a, b⟩ := t
    dsimp only at x0 x1 x2
    have hz := hP.zv n _ ht
    have sub : ∀ m : Nat, m < n → (1 ≤ (szsOf L).getD m 0 ∧ (szsOf L).getD m 0 ≤ 4095) ∧ ∀ ww, Below w.heap.size w ww → Calls Try.prog 15 #[.pointer (some ⟨q, 0, none⟩), .int .i64 m] ww fun e w' => e = .returned (.int .i64 ((szsOf L).getD m 0)) ∧ Below ww.heap.size ww w' := fun m hm =>
      ⟨sz_4095 hwf hP.zv m (by omega) (by omega), fun ww hw => ih m hm (by omega) (by omega) ww (cellB c0 hw) (hA.below hw)⟩
    have hval : (szsOf L).getD n 0 = szOf (szsOf L) (k, a, b) := by rw [List.getD_eq_getElem?_getD, hz, Option.getD_some]
    rw [hval]
    unfold szOf
    dsimp only
    rcases hwf n _ ht with ⟨h, _⟩ | ⟨h, h1, h2, _⟩ | ⟨h, h1, h2, h3, h4⟩ | ⟨h, _⟩
    · dsimp only at h
      rw [if_neg (by omega), if_neg (by omega), cap_small (by decide)]
      exact rsize_atom q n c g L.length k a b h w c0 hn x0 x1 x2
    · dsimp only at h h1 h2
      obtain ⟨m, rfl⟩ : ∃ m : Nat, a = m := ⟨a.toNat, by omega⟩
      obtain ⟨s1, s2⟩ := sub m (by omega)
      have e1 : (m : Int).toNat = m := by omega
      rw [if_neg (by omega), if_pos (by omega), e1, cap_small (by omega)]
      rcases h with h | h | h | h | h
      · exact rsize_one2 q n c g L.length k m b h m _ rfl w c0 hn x0 x1 x2 s1 s2
      · exact rsize_one3 q n c g L.length k m b h m _ rfl w c0 hn x0 x1 x2 s1 s2
      · exact rsize_one6 q n c g L.length k m b h m _ rfl w c0 hn x0 x1 x2 s1 s2
      · exact rsize_one7 q n c g L.length k m b h m _ rfl w c0 hn x0 x1 x2 s1 s2
      · exact rsize_one10 q n c g L.length k m b h m _ rfl w c0 hn x0 x1 x2 s1 s2
    · dsimp only at h h1 h2 h3 h4
      obtain ⟨m, rfl⟩ : ∃ m : Nat, a = m := ⟨a.toNat, by omega⟩
      obtain ⟨m2, rfl⟩ : ∃ m : Nat, b = m := ⟨b.toNat, by omega⟩
      obtain ⟨s1, s2⟩ := sub m (by omega)
      obtain ⟨s3, s4⟩ := sub m2 (by omega)
      have e1 : (m : Int).toNat = m := by omega
      have e2 : (m2 : Int).toNat = m2 := by omega
      rw [if_pos h, e1, e2, cap_small (by omega), show 1 + (szsOf L).getD m2 0 + (szsOf L).getD m 0 = 1 + (szsOf L).getD m 0 + (szsOf L).getD m2 0 by omega]
      rcases h with h | h | h
      · exact rsize_two4 q n c g L.length k m m2 h m m2 _ _ rfl rfl w c0 hn x0 x1 x2 s1 s3 s2 s4
      · exact rsize_two5 q n c g L.length k m m2 h m m2 _ _ rfl rfl w c0 hn x0 x1 x2 s1 s3 s2 s4
      · exact rsize_two8 q n c g L.length k m m2 h m m2 _ _ rfl rfl w c0 hn x0 x1 x2 s1 s3 s2 s4
    · dsimp only at h
      rw [if_neg (by omega), if_neg (by omega), cap_small (by decide)]
      exact rsize_text q n c g L.length k a b h w c0 hn x0 x1 x2
end Go.Proofs.Ytechhbljjnffaaa
