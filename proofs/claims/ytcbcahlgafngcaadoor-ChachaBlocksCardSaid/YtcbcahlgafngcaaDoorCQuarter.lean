/- Rotations of package bits, quarter rounds. -/
import Derived.Test.YtcbcahlgafngcaaDoorCMath
namespace Go.Proofs.YtcbcahlgafngcaaDoor
open Go.RowKit

theorem rl_16 (x y : Int) (w : World) (h : Hid (Wd x)) (hy : Hid (rot x 16 = y)) :
    Calls Tryd.prog 15 #[.int .u32 x, .int .i64 16] w fun e w' => e = .returned (.int .u32 y) ∧ w = w' := by
  have k1 : bits .and .u64 16 31 = 16 := by kernel_rfl
  go_enter Tryd.func15, Tryd.ntmps15
  go_wp2
  go_ret
  exact ⟨ret_int (by rw [← hy.out]; have := rot_or (n := 16) (by omega) h.out; simpa using this), rfl⟩
theorem rl_12 (x y : Int) (w : World) (h : Hid (Wd x)) (hy : Hid (rot x 20 = y)) :
    Calls Tryd.prog 15 #[.int .u32 x, .int .i64 12] w fun e w' => e = .returned (.int .u32 y) ∧ w = w' := by
  have k1 : bits .and .u64 12 31 = 12 := by kernel_rfl
  go_enter Tryd.func15, Tryd.ntmps15
  go_wp2
  go_ret
  exact ⟨ret_int (by rw [← hy.out]; have := rot_or (n := 20) (by omega) h.out; simpa using this), rfl⟩
theorem rl_8 (x y : Int) (w : World) (h : Hid (Wd x)) (hy : Hid (rot x 24 = y)) :
    Calls Tryd.prog 15 #[.int .u32 x, .int .i64 8] w fun e w' => e = .returned (.int .u32 y) ∧ w = w' := by
  have k1 : bits .and .u64 8 31 = 8 := by kernel_rfl
  go_enter Tryd.func15, Tryd.ntmps15
  go_wp2
  go_ret
  exact ⟨ret_int (by rw [← hy.out]; have := rot_or (n := 24) (by omega) h.out; simpa using this), rfl⟩
theorem rl_7 (x y : Int) (w : World) (h : Hid (Wd x)) (hy : Hid (rot x 25 = y)) :
    Calls Tryd.prog 15 #[.int .u32 x, .int .i64 7] w fun e w' => e = .returned (.int .u32 y) ∧ w = w' := by
  have k1 : bits .and .u64 7 31 = 7 := by kernel_rfl
  go_enter Tryd.func15, Tryd.ntmps15
  go_wp2
  go_ret
  exact ⟨ret_int (by rw [← hy.out]; have := rot_or (n := 25) (by omega) h.out; simpa using this), rfl⟩

theorem results_tmp4 {fn : Func} {t u v x : Tmp} (h : fn.results = #[.tmp t, .tmp u, .tmp v, .tmp x]) (tmps : Array Value) (P : Program) (w : World) :
    (results fn tmps).run P w = .ok (.tuple #[tmps.getD t undef, tmps.getD u undef, tmps.getD v undef, tmps.getD x undef]) w := by
  simp [results, h]
set_option maxHeartbeats 400000 in
theorem quarter_any (a b c d : Int) (w : World) (hb : Hid (Wd b)) (hd : Hid (Wd d)) :
    Calls Tryd.prog 7 #[.int .u32 a, .int .u32 b, .int .u32 c, .int .u32 d] w fun e w' => e = .returned (.tuple #[.int .u32 (qa a b c d), .int .u32 (qb a b c d), .int .u32 (qc a b c d), .int .u32 (qd a b c d)]) ∧ w = w' := by
  obtain ⟨a1, e1⟩ : ∃ z, (a + b) % 4294967296 = z := ⟨_, rfl⟩
  obtain ⟨x1, f1⟩ : ∃ z, bits .xor .u32 d a1 = z := ⟨_, rfl⟩
  obtain ⟨d1, g1⟩ : ∃ z, rot x1 16 = z := ⟨_, rfl⟩
  obtain ⟨c1, e2⟩ : ∃ z, (c + d1) % 4294967296 = z := ⟨_, rfl⟩
  obtain ⟨x2, f2⟩ : ∃ z, bits .xor .u32 b c1 = z := ⟨_, rfl⟩
  obtain ⟨b1, g2⟩ : ∃ z, rot x2 20 = z := ⟨_, rfl⟩
  obtain ⟨a2, e3⟩ : ∃ z, (a1 + b1) % 4294967296 = z := ⟨_, rfl⟩
  obtain ⟨x3, f3⟩ : ∃ z, bits .xor .u32 d1 a2 = z := ⟨_, rfl⟩
  obtain ⟨d2, g3⟩ : ∃ z, rot x3 24 = z := ⟨_, rfl⟩
  obtain ⟨c2, e4⟩ : ∃ z, (c1 + d2) % 4294967296 = z := ⟨_, rfl⟩
  obtain ⟨x4, f4⟩ : ∃ z, bits .xor .u32 b1 c2 = z := ⟨_, rfl⟩
  obtain ⟨b2, g4⟩ : ∃ z, rot x4 25 = z := ⟨_, rfl⟩
  have r1 : qa a b c d = a2 := by subst e1 f1 g1 e2 f2 g2 e3; rfl
  have r2 : qb a b c d = b2 := by subst e1 f1 g1 e2 f2 g2 e3 f3 g3 e4 f4 g4; rfl
  have r3 : qc a b c d = c2 := by subst e1 f1 g1 e2 f2 g2 e3 f3 g3 e4; rfl
  have r4 : qd a b c d = d2 := by subst e1 f1 g1 e2 f2 g2 e3 f3 g3; rfl
  have h1 : Hid (Wd x1) := hid (by rw [← f1]; exact xr_wd hd.out (by rw [← e1]; exact pl_wd _ _))
  have k1 : Wd d1 := by rw [← g1]; exact rot_wd (by omega) h1.out
  have h2 : Hid (Wd x2) := hid (by rw [← f2]; exact xr_wd hb.out (by rw [← e2]; exact pl_wd _ _))
  have k2 : Wd b1 := by rw [← g2]; exact rot_wd (by omega) h2.out
  have h3 : Hid (Wd x3) := hid (by rw [← f3]; exact xr_wd k1 (by rw [← e3]; exact pl_wd _ _))
  have h4 : Hid (Wd x4) := hid (by rw [← f4]; exact xr_wd k2 (by rw [← e4]; exact pl_wd _ _))
  have G1 := hid g1
  have G2 := hid g2
  have G3 := hid g3
  have G4 := hid g4
  rw [r1, r2, r3, r4]
  clear r1 r2 r3 r4 g1 g2 g3 g4 k1 k2
  go_enter Tryd.func7, Tryd.ntmps7
  go_wp2_with (go_at_call 15; (first | (with_reducible refine (rl_16 x1 d1 _ h1 G1).mono ?_) | (with_reducible refine (rl_12 x2 b1 _ h2 G2).mono ?_) | (with_reducible refine (rl_8 x3 d2 _ h3 G3).mono ?_) | (with_reducible refine (rl_7 x4 b2 _ h4 G4).mono ?_)); rintro e w' ⟨rfl, rfl⟩)
  (try simp only [Exit.inBlock, Exit.then])
  refine bodyPost_ret (results_tmp4 rfl _ _ _) rfl ?_
  exact ⟨rfl, rfl⟩
end Go.Proofs.YtcbcahlgafngcaaDoor
