/- The reference's primes. -/
import Derived.Test.YtjgojbjehedpaaaDoorKinds
namespace Go.Proofs.YtjgojbjehedpaaaDoor
open Go.RowKit
/-- The primes below a number, as the reference finds them. -/
def sieve : Nat → List Nat
  | 0 => []
  | n + 1 => if n < 2 then sieve n else if (sieve n).all (fun q => n % q != 0) then sieve n ++ [n] else sieve n
theorem sieve_end : sieve 410 = PRIMES := by kernel_rfl
theorem sieve_79 : (sieve 409).length = 79 := by kernel_rfl
theorem sieve_le (n : Nat) : (sieve n).length ≤ (sieve (n + 1)).length := by
  simp only [sieve]
  split
  · exact Nat.le_refl _
  · split
    · simp
    · exact Nat.le_refl _
theorem sieve_mono (n d : Nat) : (sieve n).length ≤ (sieve (n + d)).length := by
  induction d with
  | zero => exact Nat.le_refl _
  | succ d ih => exact Nat.le_trans ih (sieve_le _)
theorem sieve_few {n : Nat} (h : n ≤ 409) : (sieve n).length ≤ 79 := by
  have := sieve_mono n (409 - n)
  rw [show n + (409 - n) = 409 by omega, sieve_79] at this
  exact this
theorem sieve_big (n : Nat) : ∀ q ∈ sieve n, 2 ≤ q ∧ q < n := by
  induction n with
  | zero => intro q hq; simp [sieve] at hq
  | succ n ih =>
    intro q hq
    simp only [sieve] at hq
    split at hq
    · have := ih q hq; omega
    · split at hq
      · rcases List.mem_append.1 hq with h | h
        · have := ih q h; omega
        · simp at h; omega
      · have := ih q hq; omega
theorem sieve_yes {n : Nat} (h : 2 ≤ n) (ha : ∀ q ∈ sieve n, n % q ≠ 0) : sieve (n + 1) = sieve n ++ [n] := by
  simp only [sieve]
  rw [if_neg (by omega), if_pos (by simpa using ha)]
theorem sieve_no {n : Nat} (h : 2 ≤ n) {q : Nat} (hq : q ∈ sieve n) (hz : n % q = 0) : sieve (n + 1) = sieve n := by
  simp only [sieve]
  rw [if_neg (by omega), if_neg (by simp only [List.all_eq_true]; intro h; have := h q hq; simp [hz] at this)]

theorem under44 : Tryd.prog.underlying 44 = some (.slice 3) := by kernel_rfl

theorem sieve_step {n : Nat} (h : 2 ≤ n) {b : Bool} (hb : b = (sieve n).all (fun q => n % q != 0)) : sieve (n + 1) = if b then sieve n ++ [n] else sieve n := by
  simp only [sieve]
  rw [if_neg (by omega), ← hb]
theorem nl_one (n : Nat) : nl [n] = [(n : Int)] := rfl
theorem nl_append (a b : List Nat) : nl (a ++ b) = nl a ++ nl b := by simp [nl]
theorem all_step {l : List Nat} {n j q : Nat} (hq : l[j]? = some q) : (l.take (j + 1)).all (fun q => n % q != 0) = ((l.take j).all (fun q => n % q != 0) && n % q != 0) := by
  rw [List.take_add_one, hq, List.all_append]
  simp

set_option maxRecDepth 4000 in
set_option maxHeartbeats 1000000 in
theorem primes_any (w : World) : Calls Tryd.prog 18 #[.int .i64 80] w fun e w' => ∃ A c, e = .returned (.slice A 80 c) ∧ NumsF w.heap.size w' .i64 A (nl PRIMES) ∧ Below w.heap.size w w' := by
  go_enter Tryd.func18, Tryd.ntmps18
  go_wp2
  go_loopw [3, 4] (fun v nv wr => ∃ (n : Nat) (A : Option Addr) (l c : Nat), 2 ≤ n ∧ n ≤ 410 ∧ nv = .int .i64 n ∧ v = .slice A l c ∧ Hid (l = (sieve n).length) ∧ Owns wr w.heap.size 3 .i64 (.slice A l c) (nl (sieve n)) ∧ Below w.heap.size w wr) (fun _ nv _ => 411 - (intOf nv).toNat)
  case atStart => exact ⟨2, none, 0, 0, by omega, by omega, rfl, rfl, hid rfl, Owns.none_ _ _ _ _, Below.refl _ _⟩
  case round =>
    obtain ⟨n, A, l, c, h2, h410, rfl, rfl, HL, hO, hb⟩ := hrel
    by_cases hn : n = 410
    · have hl : l = 80 := by rw [HL.out, hn, sieve_end]; rfl
      subst hl
      rw [hn, sieve_end] at hO
      clear hn HL
      go_wp2
      go_ret
      exact ⟨A, c, rfl, hO.fresh, hb⟩
    · have hl : l ≤ 79 := by rw [HL.out]; exact sieve_few (by omega)
      have hl80 : (l : Int) < 80 := by omega
      rename World => W1
      go_wp2
      go_loopw [5, 6] (fun bv jv wr => ∃ (j : Nat) (b : Bool), j ≤ l ∧ bv = .bool b ∧ jv = .int .i64 j ∧ Hid (b = ((sieve n).take j).all (fun q => n % q != 0)) ∧ W1 = wr) (fun _ jv _ => l - (intOf jv).toNat)
      case atStart => exact ⟨0, true, by omega, rfl, rfl, hid (by simp), rfl⟩
      case round =>
        obtain ⟨j, b, hj, rfl, rfl, HA, rfl⟩ := hrel
        have hnw : IntKind.i64.wrap ((n : Int) + 1) = (n : Int) + 1 := IntWalk.i64_in _ (by omega)
        by_cases hlt : j < l
        · obtain ⟨g, rfl, _⟩ := hO.addr (by rw [nl_length, ← HL.out]; omega)
          have hjl : j < (sieve n).length := by rw [← HL.out]; exact hlt
          have cq := num_cell hO.nums (nl_at hjl)
          rw [Nat.zero_add] at cq
          have hmem : (sieve n).getD j 0 ∈ sieve n := List.mem_of_getElem? (get_ofN _ hjl)
          have hq2 := sieve_big n _ hmem
          have HUP := hid (all_step (n := n) (get_ofN _ hjl))
          clear hmem hjl
          generalize (sieve n).getD j 0 = q at *
          have j0 : (0 : Int) ≤ j := by omega
          have jl : (j : Int) < l := by omega
          have q0n : ¬ q = 0 := by omega
          have he : (n : Int) % (q : Int) = ((n % q : Nat) : Int) := (Int.natCast_emod n q).symm
          by_cases hr : n % q = 0
          · have HS : Hid (false = ((sieve n).take (j + 1)).all (fun q => n % q != 0)) := hid (by rw [HUP.out, hr]; simp)
            have hz : ((n : Int) % (q : Int) == 0) = true := by rw [he, hr]; rfl
            clear HUP he hr
            go_wp2
            go_roundw
            case rel => exact ⟨j + 1, false, by omega, rfl, by go_num, HS, by trivial⟩
            case measure => simp [intOf]; omega
          · have HS : Hid (b = ((sieve n).take (j + 1)).all (fun q => n % q != 0)) := hid (by rw [HUP.out, ← HA.out]; simp [hr])
            have hz : ((n : Int) % (q : Int) == 0) = false := by rw [he]; simp; omega
            clear HUP he hr
            go_wp2
            go_roundw
            case rel => exact ⟨j + 1, b, by omega, rfl, by go_num, HS, by trivial⟩
            case measure => simp [intOf]; omega
        · have e : j = l := by omega
          subst e
          have HY := hid (sieve_step h2 (b := b) (by have h := HA.out; rw [HL.out, List.take_length] at h; exact h))
          cases b
          · go_wp2
            go_roundw
            case rel => exact ⟨n + 1, A, j, c, by omega, by omega, by go_num, rfl, hid (by rw [HY.out]; exact HL.out), by rw [HY.out]; exact hO, hb⟩
            case measure => simp [intOf]; omega
          · have hlen : ((nl (sieve n)).length + [(n : Int)].length) * 8 ≤ 140737488355328 := by
              have := HL.out
              rw [nl_length, List.length_singleton]
              omega
            have HLEN := hid hlen
            clear hlen
            go_wp2_with (at_builtin; refine app_nums rfl (.tmp 27) (.tmp 29) 44 rfl w.heap.size 3 .i64 8 under44 Tryd.info3 (by omega) A j c (nl (sieve n)) rfl (hO.alloc _) _ 1 [(n : Int)] rfl (nums_one _ _ _ _) HLEN.out (by have := hb.size; simp; omega) ?_; intro A2 n2 c2 w2 hO2 hG2)
            go_roundw
            case rel =>
              have hL2 := hO2.len
              rw [← nl_one, ← nl_append] at hO2
              refine ⟨n + 1, A2, n2, c2, by omega, by omega, by go_num, rfl, hid ?_, by rw [HY.out]; exact hO2, ?_⟩
              · rw [hL2, HY.out]; simp
              · exact (hb.alloc hb.size _).trans (hG2.below (by have := hb.size; simp; omega) (fun g hg => (hO.lt g hg).1))
            case measure => simp [intOf]; omega
end Go.Proofs.YtjgojbjehedpaaaDoor
