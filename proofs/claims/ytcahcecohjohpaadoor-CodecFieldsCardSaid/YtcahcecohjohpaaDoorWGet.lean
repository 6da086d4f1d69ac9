/- Get of layer 1 and of the reference; the eight public calls. -/
import Derived.Test.YtcahcecohjohpaaDoorWJoin
import Derived.Test.YtcahcecohjohpaaDoorWPut
namespace Go.Proofs.YtcahcecohjohpaaDoor
open Go.RowKit

/-- The number of l bytes that give v, and why there is none. -/
def gnum (l : Nat) (v : Int) : Int := if l = 0 then 0 else if 8 < l then 0 else if 4611686018427387904 < v then 0 else v
def gerr (l : Nat) (v : Int) : Int := if l = 0 then 10 else if 8 < l then 2 else if 4611686018427387904 < v then 11 else 0
def bval (hi : Bool) (b : List Int) : Int := if hi then hiv b else hiv b.reverse

theorem bval_pval (hi : Bool) (b : List Int) : pval hi b.length b b.length = bval hi b := by
  cases hi <;> simp [pval, bval]
theorem bval_bd (hi : Bool) (b : List Int) (h : Byt b) : 0 ≤ bval hi b ∧ bval hi b < 2 ^ (8 * b.length) := by
  have := hiv_bd b h
  have h2 := hiv_bd _ h.rev
  rw [List.length_reverse] at h2
  cases hi <;> simp [bval] <;> omega
theorem chunk_whole (b : List Int) : chunk b.length b 0 = b := by simp [chunk]

def GetPost (hi : Bool) (b : List Int) (w : World) (e : Ending) (w' : World) : Prop :=
  e = .returned (.tuple #[.int .i64 (gnum b.length (bval hi b)), .int .i64 (gerr b.length (bval hi b))]) ∧ Below w.heap.size w w'

theorem join64_one (hi : Bool) (A : Option Addr) (c : Nat) (b : List Int) (w : World) (h1 : 1 ≤ b.length) (h8 : b.length ≤ 8) (hby : Byt b) (hA : Nums w .u8 A b) :
    Calls Tryd.prog 55 #[.slice A b.length c, .int .i64 b.length, .int .i64 (ordN hi)] w fun e w' => ∃ g off d v, e = .returned (.slice (some ⟨g, off, none⟩) 1 d) ∧ Hid (v = bval hi b) ∧ w'.cell? ⟨g, off, none⟩ = some (.int .u64 v) ∧ 0 ≤ v ∧ v < 18446744073709551616 ∧ Below w.heap.size w w' := by
  refine (join64 hi A c b.length b w h1 h8 (by omega) (Nat.mod_self _) hby hA).mono fun e w' ⟨B, d, ys, he, hy, hN, hb⟩ => ?_
  have hl : ys.length = 1 := by rw [hy.out, joinB_length]; exact Nat.div_self (by omega)
  have h0 : ys[0]? = some (bval hi b) := by
    rw [hy.out, joinB_at _ _ _ (by rw [Nat.div_self (by omega)]; omega), chunk_whole, bval_pval]
  obtain ⟨g, off, x, rfl, _, hc, hx⟩ := hN.get (i := 0) (by omega)
  have hxe : x = bval hi b := by have := hx.out.symm.trans h0; injection this
  have hbd := bval_bd hi b hby
  have hp := pow_mono2 (a := 8 * b.length) (b := 64) (by omega)
  exact ⟨g, off, d, x, by rw [he, hl], hid hxe, hc, by omega, by omega, hb⟩

set_option maxHeartbeats 400000 in
theorem get_any (hi : Bool) (A : Option Addr) (c : Nat) (b : List Int) (w : World) (hn : b.length ≤ 4096) (hby : Byt b) (hA : Nums w .u8 A b) :
    Calls Tryd.prog 53 #[.slice A b.length c, .int .i64 (ordN hi)] w (GetPost hi b w) := by
  by_cases c1 : b.length = 0
  · have hg : GetPost hi b w (.returned (.tuple #[.int .i64 0, .int .i64 10])) w := ⟨by simp [gnum, gerr, c1], Below.refl _ _⟩
    have HG := hid hg
    clear hg
    go_enter Tryd.func53, Tryd.ntmps53
    go_wp2
    go_ret2
    exact HG.out
  by_cases c2 : 8 < b.length
  · have hg : GetPost hi b w (.returned (.tuple #[.int .i64 0, .int .i64 2])) w := ⟨by simp [gnum, gerr, c1, c2], Below.refl _ _⟩
    have HG := hid hg
    clear hg
    go_enter Tryd.func53, Tryd.ntmps53
    go_wp2
    go_ret2
    exact HG.out
  have hp : (0 : Int) < b.length := by omega
  have hq : (b.length : Int) ≤ 8 := by omega
  have hr : ((b.length : Int) == 0) = false := by rw [beq_eq_false_iff_ne]; omega
  go_enter Tryd.func53, Tryd.ntmps53
  go_wp2_with (go_at_call 55; refine (join64_one hi A c b _ (by omega) (by omega) hby hA).mono ?_; rintro e w' ⟨g, off, d, v, rfl, HV, hc, hv0, hv1, hb⟩)
  · have hgt : 4611686018427387904 < v := by assumption
    go_ret2
    refine ⟨?_, hb⟩
    rw [← HV.out]
    simp only [gnum, gerr, c1, c2, hgt, if_true, if_false]
    rfl
  · have hle : ¬ 4611686018427387904 < v := by omega
    go_ret2
    refine ⟨?_, hb⟩
    rw [← HV.out]
    simp only [gnum, gerr, c1, c2, hle, if_false]
    rfl

end Go.Proofs.YtcahcecohjohpaaDoor
