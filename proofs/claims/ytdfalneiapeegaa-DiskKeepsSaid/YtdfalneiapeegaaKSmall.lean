/- What a disk is asked: is it there, has it a sector, how many writes wait; the fuse. -/
import Derived.Test.YtdfalneiapeegaaKState
import Derived.BigQuiet
import Derived.Deep.QuietTactic
import Derived.Deep.Cut
namespace Go.Proofs.Ytdfalneiapeegaa
open Go Go.RowKit

set_option maxHeartbeats 1000000 in
theorem dex_any (p : Nat) (w : World) (c0 : w.cell? ⟨p, 0, none⟩ = some (.bool true)) :
    Calls Try.prog 25 #[.pointer (some ⟨p, 0, none⟩)] w fun e w' => e = .returned (.bool true) ∧ w = w' := by
  go_enter Try.func25, Try.ntmps25
  go_wp2
  go_ret
  exact ⟨rfl, rfl⟩
set_option maxHeartbeats 1000000 in
theorem dex_nil (w : World) :
    Calls Try.prog 25 #[.pointer none] w fun e w' => e = .returned (.bool false) ∧ w = w' := by
  go_enter Try.func25, Try.ntmps25
  go_wp2
  go_ret
  exact ⟨rfl, rfl⟩
set_option maxHeartbeats 1000000 in
theorem dstate_any (p : Nat) (off : Bool) (w : World) (c0 : w.cell? ⟨p, 0, none⟩ = some (.bool true)) (c5 : w.cell? ⟨p, 5, none⟩ = some (.bool off)) :
    Calls Try.prog 32 #[.pointer (some ⟨p, 0, none⟩)] w fun e w' => e = .returned (.int .i64 (if off = true then 30 else 0)) ∧ w = w' := by
  cases off
  · go_enter Try.func32, Try.ntmps32
    go_wp2_with (go_at_call 25; refine (dex_any p _ c0).mono ?_; rintro e w2 ⟨rfl, rfl⟩)
    go_ret
    exact ⟨rfl, rfl⟩
  · go_enter Try.func32, Try.ntmps32
    go_wp2_with (go_at_call 25; refine (dex_any p _ c0).mono ?_; rintro e w2 ⟨rfl, rfl⟩)
    go_ret
    exact ⟨rfl, rfl⟩
set_option maxHeartbeats 1000000 in
theorem dstate_nil (w : World) :
    Calls Try.prog 32 #[.pointer none] w fun e w' => e = .returned (.int .i64 1) ∧ w = w' := by
  go_enter Try.func32, Try.ntmps32
  go_wp2_with (go_at_call 25; refine (dex_nil _).mono ?_; rintro e w2 ⟨rfl, rfl⟩)
  go_ret
  exact ⟨rfl, rfl⟩
set_option maxHeartbeats 1000000 in
theorem dhas_any (p n c : Nat) (A : Option Addr) (k : Int) (b : Bool) (w : World) (c2 : w.cell? ⟨p, 2, none⟩ = some (.slice A n c)) (hb : Hid (b = !decide (k < 0 ∨ (n : Int) ≤ k))) :
    Calls Try.prog 33 #[.pointer (some ⟨p, 0, none⟩), .int .i64 k] w fun e w' => e = .returned (.bool b) ∧ w = w' := by
  by_cases h0 : 0 ≤ k
  · by_cases h1 : k < n
    · obtain rfl : b = true := by rw [hb.out, decide_eq_false (by omega)]; rfl
      go_enter Try.func33, Try.ntmps33
      go_wp2
      go_ret
      exact ⟨rfl, rfl⟩
    · obtain rfl : b = false := by rw [hb.out, decide_eq_true (by omega)]; rfl
      go_enter Try.func33, Try.ntmps33
      go_wp2
      go_ret
      exact ⟨rfl, rfl⟩
  · obtain rfl : b = false := by rw [hb.out, decide_eq_true (by omega)]; rfl
    go_enter Try.func33, Try.ntmps33
    go_wp2
    go_ret
    exact ⟨rfl, rfl⟩
set_option maxHeartbeats 1000000 in
theorem dsize_any (p n c : Nat) (A : Option Addr) (w : World) (c0 : w.cell? ⟨p, 0, none⟩ = some (.bool true)) (c2 : w.cell? ⟨p, 2, none⟩ = some (.slice A n c)) :
    Calls Try.prog 9 #[.pointer (some ⟨p, 0, none⟩)] w fun e w' => e = .returned (.int .i64 n) ∧ w = w' := by
  go_enter Try.func9, Try.ntmps9
  go_wp2_with (go_at_call 25; refine (dex_any p _ c0).mono ?_; rintro e w2 ⟨rfl, rfl⟩)
  go_ret
  exact ⟨rfl, rfl⟩
set_option maxHeartbeats 1000000 in
theorem dsize_nil (w : World) :
    Calls Try.prog 9 #[.pointer none] w fun e w' => e = .returned (.int .i64 0) ∧ w = w' := by
  go_enter Try.func9, Try.ntmps9
  go_wp2_with (go_at_call 25; refine (dex_nil _).mono ?_; rintro e w2 ⟨rfl, rfl⟩)
  go_ret
  exact ⟨rfl, rfl⟩
set_option maxHeartbeats 1000000 in
theorem dwait_any (p n c : Nat) (A : Option Addr) (w : World) (c0 : w.cell? ⟨p, 0, none⟩ = some (.bool true)) (c3 : w.cell? ⟨p, 3, none⟩ = some (.slice A n c)) :
    Calls Try.prog 16 #[.pointer (some ⟨p, 0, none⟩)] w fun e w' => e = .returned (.int .i64 n) ∧ w = w' := by
  go_enter Try.func16, Try.ntmps16
  go_wp2_with (go_at_call 25; refine (dex_any p _ c0).mono ?_; rintro e w2 ⟨rfl, rfl⟩)
  go_ret
  exact ⟨rfl, rfl⟩
set_option maxHeartbeats 1000000 in
theorem dwait_nil (w : World) :
    Calls Try.prog 16 #[.pointer none] w fun e w' => e = .returned (.int .i64 0) ∧ w = w' := by
  go_enter Try.func16, Try.ntmps16
  go_wp2_with (go_at_call 25; refine (dex_nil _).mono ?_; rintro e w2 ⟨rfl, rfl⟩)
  go_ret
  exact ⟨rfl, rfl⟩
set_option maxHeartbeats 1000000 in
theorem dlives_any (p : Nat) (l : Int) (w : World) (c0 : w.cell? ⟨p, 0, none⟩ = some (.bool true)) (c6 : w.cell? ⟨p, 6, none⟩ = some (.int .i64 l)) :
    Calls Try.prog 22 #[.pointer (some ⟨p, 0, none⟩)] w fun e w' => e = .returned (.int .i64 l) ∧ w = w' := by
  go_enter Try.func22, Try.ntmps22
  go_wp2_with (go_at_call 25; refine (dex_any p _ c0).mono ?_; rintro e w2 ⟨rfl, rfl⟩)
  go_ret
  exact ⟨rfl, rfl⟩
set_option maxHeartbeats 1000000 in
theorem dlives_nil (w : World) :
    Calls Try.prog 22 #[.pointer none] w fun e w' => e = .returned (.int .i64 0) ∧ w = w' := by
  go_enter Try.func22, Try.ntmps22
  go_wp2_with (go_at_call 25; refine (dex_nil _).mono ?_; rintro e w2 ⟨rfl, rfl⟩)
  go_ret
  exact ⟨rfl, rfl⟩
set_option maxHeartbeats 1000000 in
theorem doff_any (p : Nat) (off : Bool) (w : World) (c0 : w.cell? ⟨p, 0, none⟩ = some (.bool true)) (c5 : w.cell? ⟨p, 5, none⟩ = some (.bool off)) :
    Calls Try.prog 23 #[.pointer (some ⟨p, 0, none⟩)] w fun e w' => e = .returned (.bool off) ∧ w = w' := by
  go_enter Try.func23, Try.ntmps23
  go_wp2_with (go_at_call 25; refine (dex_any p _ c0).mono ?_; rintro e w2 ⟨rfl, rfl⟩)
  go_ret
  exact ⟨rfl, rfl⟩
set_option maxHeartbeats 1000000 in
theorem doff_nil (w : World) :
    Calls Try.prog 23 #[.pointer none] w fun e w' => e = .returned (.bool false) ∧ w = w' := by
  go_enter Try.func23, Try.ntmps23
  go_wp2_with (go_at_call 25; refine (dex_nil _).mono ?_; rintro e w2 ⟨rfl, rfl⟩)
  go_ret
  exact ⟨rfl, rfl⟩
set_option maxHeartbeats 1000000 in
theorem dwrite_nil (n : Int) (v : Value) (w : World) :
    Calls Try.prog 14 #[.pointer none, .int .i64 n, v] w fun e w' => e = .returned (.int .i64 1) ∧ w = w' := by
  go_enter Try.func14, Try.ntmps14
  go_wp2_with (go_at_call 32; refine (dstate_nil _).mono ?_; rintro e w2 ⟨rfl, rfl⟩)
  go_ret
  exact ⟨rfl, rfl⟩
set_option maxHeartbeats 1000000 in
theorem dflush_nil (w : World) :
    Calls Try.prog 15 #[.pointer none] w fun e w' => e = .returned (.int .i64 1) ∧ w = w' := by
  go_enter Try.func15, Try.ntmps15
  go_wp2_with (go_at_call 32; refine (dstate_nil _).mono ?_; rintro e w2 ⟨rfl, rfl⟩)
  go_ret
  exact ⟨rfl, rfl⟩
set_option maxHeartbeats 1000000 in
theorem dcrash_nil (v : Value) (w : World) :
    Calls Try.prog 18 #[.pointer none, v] w fun e w' => e = .returned (.int .i64 1) ∧ w = w' := by
  go_enter Try.func18, Try.ntmps18
  go_wp2_with (go_at_call 25; refine (dex_nil _).mono ?_; rintro e w2 ⟨rfl, rfl⟩)
  go_ret
  exact ⟨rfl, rfl⟩
set_option maxHeartbeats 1000000 in
theorem dclone_nil (w : World) :
    Calls Try.prog 21 #[.pointer none] w fun e w' => e = .returned (.pointer none) ∧ w = w' := by
  go_enter Try.func21, Try.ntmps21
  go_wp2_with (go_at_call 25; refine (dex_nil _).mono ?_; rintro e w2 ⟨rfl, rfl⟩)
  go_ret
  exact ⟨rfl, rfl⟩
section
variable {w : World} {p bk bq n ck cq : Nat} {A : Option Addr} {c : Nat} {K Q : List (List Int)} {W : List (Nat × List Int)} {f : Int} {off : Bool} {li : Int}
set_option maxHeartbeats 2000000 in
theorem dburn_none (hT : DT w p bk bq n ck cq A c K Q W (-1) off li) :
    Calls Try.prog 34 #[.pointer (some ⟨p, 0, none⟩)] w fun e w' => e = .returned (.int .i64 0) ∧ w = w' := by
  have c4 := hT.blk.cell (i := 4) rfl
  clear hT
  go_enter Try.func34, Try.ntmps34
  go_wp2
  go_ret
  exact ⟨rfl, rfl⟩
set_option maxHeartbeats 2000000 in
theorem dburn_zero (hT : DT w p bk bq n ck cq A c K Q W 0 off li) :
    Calls Try.prog 34 #[.pointer (some ⟨p, 0, none⟩)] w fun e w' => e = .returned (.int .i64 30) ∧ w' = w.setCell ⟨p, 5, none⟩ (.bool true) := by
  have c4 := hT.blk.cell (i := 4) rfl
  have x5 := hT.blk.free 5
  have c5 := hT.blk.cell (i := 5) rfl
  clear hT
  go_enter Try.func34, Try.ntmps34
  go_wp2
  go_ret
  exact ⟨rfl, rfl⟩
set_option maxHeartbeats 2000000 in
theorem dburn_pos (hT : DT w p bk bq n ck cq A c K Q W f off li) (h0 : 0 < f) (h9 : f ≤ 9223372036854775807) :
    Calls Try.prog 34 #[.pointer (some ⟨p, 0, none⟩)] w fun e w' => e = .returned (.int .i64 0) ∧ w' = w.setCell ⟨p, 4, none⟩ (.int .i64 (f - 1)) := by
  have c4 := hT.blk.cell (i := 4) rfl
  have x4 := hT.blk.free 4
  have e1 : (f == -1) = false := beq_false_of_ne (by omega)
  have e2 : (f == 0) = false := beq_false_of_ne (by omega)
  have hw : IntKind.i64.wrap (f - 1) = f - 1 := IntWalk.i64_in _ ⟨by omega, by omega⟩
  clear hT h0 h9
  go_enter Try.func34, Try.ntmps34
  go_wp2
  go_ret
  exact ⟨rfl, rfl⟩
/-- The fuse burns down: the disk D whose fuse's cell is f. -/
theorem dburn_any {fu : Int} (hT : DT w p bk bq n ck cq A c K Q W f false li) (hf : f = fu) (h0 : -1 ≤ fu) (h9 : fu ≤ 9223372036854775807) :
    Calls Try.prog 34 #[.pointer (some ⟨p, 0, none⟩)] w fun e w' => e = .returned (.int .i64 (errB ⟨K, W, fu, false, li⟩)) ∧ (∃ f', DT w' p bk bq n ck cq A c K Q W f' (burnD ⟨K, W, fu, false, li⟩).off li ∧ ((burnD ⟨K, W, fu, false, li⟩).off = false → f' = (burnD ⟨K, W, fu, false, li⟩).fu)) ∧ Chg (fun b => b = p) w w' := by
  subst hf
  have hc := Chg.refl (fun b => b = p) w
  by_cases h1 : f = -1
  · subst h1
    exact (dburn_none hT).mono fun e w' ⟨he, hw⟩ => by
      subst hw
      exact ⟨he, ⟨-1, hT, fun _ => rfl⟩, hc⟩
  · by_cases h2 : f = 0
    · subst h2
      exact (dburn_zero hT).mono fun e w' ⟨he, hw⟩ => by
        subst hw
        exact ⟨he, ⟨0, hT.cell 5 (.bool true) rfl, fun h => by cases h⟩, hc.setCell (p := ⟨p, 5, none⟩) (.inl rfl) (.bool true)⟩
    · have h3 : 0 < f := by omega
      refine (dburn_pos hT h3 h9).mono fun e w' ⟨he, hw⟩ => ?_
      subst hw
      have e1 : errB ⟨K, W, f, false, li⟩ = 0 := if_neg h2
      have e2 : burnD ⟨K, W, f, false, li⟩ = ⟨K, W, f - 1, false, li⟩ := by
        unfold burnD
        rw [if_neg h2, if_pos h3]
      rw [e1, e2]
      exact ⟨he, ⟨f - 1, hT.cell 4 (.int .i64 (f - 1)) rfl, fun _ => rfl⟩, hc.setCell (p := ⟨p, 4, none⟩) (.inl rfl) (.int .i64 (f - 1))⟩
end
section
variable {P : Program} {ops : Array Oper} {md : Region.Mode} {W : World} {a0 : Act} {n : Nat} {al : Nat → Bool} {S : Nat → Value → World → Prop} {Q : Exit → Act → World → Prop} {i : Nat} {o : Oper}
theorem step_max (hal : al i = false) (hg : GuardOn ops md n S i o) {x y : Operand} {p q r : Int} {ts : Array TypeId} (ho : o.op = .call { callee := .builtin .max, args := #[x, y], argTypes := ts }) (hS : S i = Is (.int .i64 r)) (hr : (if q > p then q else p) = r) (hx : Knows ops md W a0 n S i x (.int .i64 p)) (hy : Knows ops md W a0 n S i y (.int .i64 q)) : StepOk P ops md W a0 n al S Q i o :=
  step_ex (.int .i64 r) hal hg hS fun a w hw hf hd => by
    have h1 := hx a w hw hf hd
    have h2 := hy a w hw hf hd
    unfold execOp
    simp only [ho, resolve, invoke, builtin, Sem.run_bind, Sem.run_pure, Result.andThen_ok, List.map_toArray, List.map_cons, List.map_nil, h1, h2, run_max_int2, hr]
theorem step_min (hal : al i = false) (hg : GuardOn ops md n S i o) {x y : Operand} {p q r : Int} {ts : Array TypeId} (ho : o.op = .call { callee := .builtin .min, args := #[x, y], argTypes := ts }) (hS : S i = Is (.int .i64 r)) (hr : (if q < p then q else p) = r) (hx : Knows ops md W a0 n S i x (.int .i64 p)) (hy : Knows ops md W a0 n S i y (.int .i64 q)) : StepOk P ops md W a0 n al S Q i o :=
  step_ex (.int .i64 r) hal hg hS fun a w hw hf hd => by
    have h1 := hx a w hw hf hd
    have h2 := hy a w hw hf hd
    unfold execOp
    simp only [ho, resolve, invoke, builtin, Sem.run_bind, Sem.run_pure, Result.andThen_ok, List.map_toArray, List.map_cons, List.map_nil, h1, h2, run_min_int2, hr]
end
section
variable {F : Nat → Prop} {w : World} {p : Nat} {D : DK}
theorem DS.cells (h : DS F w p D) : ∃ A c A2 c2 f, w.cell? ⟨p, 0, none⟩ = some (.bool true) ∧ w.cell? ⟨p, 2, none⟩ = some (.slice A D.K.length c) ∧ w.cell? ⟨p, 3, none⟩ = some (.slice A2 D.W.length c2) ∧ w.cell? ⟨p, 4, none⟩ = some (.int .i64 f) ∧ w.cell? ⟨p, 5, none⟩ = some (.bool D.off) ∧ w.cell? ⟨p, 6, none⟩ = some (.int .i64 D.li) := by
  obtain ⟨bk, bq, ck, cq, A, c, f, hT, hf, h1⟩ := h
  exact ⟨_, _, _, _, _, hT.blk.cell (i := 0) rfl, hT.blk.cell (i := 2) rfl, hT.blk.cell (i := 3) rfl, hT.blk.cell (i := 4) rfl, hT.blk.cell (i := 5) rfl, hT.blk.cell (i := 6) rfl⟩
theorem dsz (h : DS F w p D) : Calls Try.prog 9 #[.pointer (some ⟨p, 0, none⟩)] w fun e w' => e = .returned (.int .i64 D.K.length) ∧ w = w' := by
  obtain ⟨A, c, A2, c2, f, c0, c1, c3, c4, c5, c6⟩ := h.cells
  exact dsize_any p _ c A w c0 c1
theorem dwt (h : DS F w p D) : Calls Try.prog 16 #[.pointer (some ⟨p, 0, none⟩)] w fun e w' => e = .returned (.int .i64 D.W.length) ∧ w = w' := by
  obtain ⟨A, c, A2, c2, f, c0, c1, c3, c4, c5, c6⟩ := h.cells
  exact dwait_any p _ c2 A2 w c0 c3
theorem dlv (h : DS F w p D) : Calls Try.prog 22 #[.pointer (some ⟨p, 0, none⟩)] w fun e w' => e = .returned (.int .i64 D.li) ∧ w = w' := by
  obtain ⟨A, c, A2, c2, f, c0, c1, c3, c4, c5, c6⟩ := h.cells
  exact dlives_any p _ w c0 c6
theorem dof (h : DS F w p D) : Calls Try.prog 23 #[.pointer (some ⟨p, 0, none⟩)] w fun e w' => e = .returned (.bool D.off) ∧ w = w' := by
  obtain ⟨A, c, A2, c2, f, c0, c1, c3, c4, c5, c6⟩ := h.cells
  exact doff_any p _ w c0 c5
set_option maxHeartbeats 1000000 in
theorem dfuse_any (h : DS F w p D) (n : Int) :
    Calls Try.prog 24 #[.pointer (some ⟨p, 0, none⟩), .int .i64 n] w fun e w' => e = .returned (.tuple #[]) ∧ DS F w' p (fuseD D n) ∧ Chg F w w' := by
  obtain ⟨bk, bq, ck, cq, A, c, f, hT, hf, h1⟩ := h
  have c0 := hT.blk.cell (i := 0) rfl
  obtain ⟨m, hm⟩ : ∃ m, (if n < 0 then -1 else n : Int) = m := ⟨_, rfl⟩
  have hmx : (if (-1 : Int) > n then -1 else n) = m := by
    rw [← hm]
    by_cases h : n < 0
    · rw [if_pos h]; split <;> omega
    · rw [if_neg h, if_neg (by omega)]
  have HM := hid hm
  have Hmx := hid hmx
  clear hf hmx hm
  go_enter Try.func24, Try.ntmps24
  go_upto_region 1 with (go_at_call 25; refine (dex_any p _ c0).mono ?_; rintro e w2 ⟨rfl, rfl⟩)
  refine region_seq2 5 11 (fun _ => false) [Is (Value.pointer (some ⟨p, 0, none⟩)), Is (Value.int .i64 n), Is (Value.int .i64 m), Is (Value.pointer (some ⟨p, 0, none⟩)), Is (Value.pointer (some ⟨p, 4, none⟩))] [6, 7, 8, 9, 10] (by kernel_rfl) (by kernel_rfl) (Nat.le_of_eq rfl) (grows_cons (Is.grows _) (grows_cons (Is.grows _) (grows_cons (Is.grows _) (grows_cons (Is.grows _) (grows_cons (Is.grows _) grows_nil)))))
    ⟨(step_ex _ rfl (.inl rfl) rfl (fun a ww hw hf hd => by
   have h0 : a.eval (.tmp 0) = Value.pointer (some ⟨p, 0, none⟩) := ((knows_out 0 (by kernel_rfl) rfl) : Knows _ _ _ _ _ _ 0 _ _) a ww hw hf hd
   revert h0
   generalize a.eval = ev
   intro h0
   unfold execOp
   simp only [h0]
   go_simp)),
     (step_ex _ rfl (.inl rfl) rfl (fun a ww hw hf hd => by
   have h1 : a.eval (.tmp 1) = Value.int .i64 n := ((knows_out 1 (by kernel_rfl) rfl) : Knows _ _ _ _ _ _ 1 _ _) a ww hw hf hd
   revert h1
   generalize a.eval = ev
   intro h1
   unfold execOp
   simp only [h1]
   go_simp)),
     (step_max rfl (.inl rfl) rfl rfl Hmx.out (knows_in 1 7 (by decide) (by kernel_rfl) rfl rfl) (knows_const _)),
     (step_ex _ rfl (.inl rfl) rfl (fun a ww hw hf hd => by
   have h6 : a.eval (.tmp 6) = Value.pointer (some ⟨p, 0, none⟩) := ((knows_in 0 6 (by decide) (by kernel_rfl) rfl rfl) : Knows _ _ _ _ _ _ 3 _ _) a ww hw hf hd
   revert h6
   generalize a.eval = ev
   intro h6
   unfold execOp
   simp only [h6]
   go_simp)),
     (step_ex _ rfl (.inl rfl) rfl (fun a ww hw hf hd => by
   have h9 : a.eval (.tmp 9) = Value.pointer (some ⟨p, 0, none⟩) := ((knows_in 3 9 (by decide) (by kernel_rfl) rfl rfl) : Knows _ _ _ _ _ _ 4 _ _) a ww hw hf hd
   revert h9
   generalize a.eval = ev
   intro h9
   unfold execOp
   simp only [h9]
   go_simp)), trivial⟩ ?_
  intro val W2 hw hS _ _
  have e6 : val 6 = Value.pointer (some ⟨p, 0, none⟩) := hS 0 6 (by decide) rfl
  have e7 : val 7 = Value.int .i64 n := hS 1 7 (by decide) rfl
  have e8 : val 8 = Value.int .i64 m := hS 2 8 (by decide) rfl
  have e9 : val 9 = Value.pointer (some ⟨p, 0, none⟩) := hS 3 9 (by decide) rfl
  have e10 : val 10 = Value.pointer (some ⟨p, 4, none⟩) := hS 4 10 (by decide) rfl
  simp only [putVals, List.foldl_cons, List.foldl_nil, List.drop_succ_cons, List.drop_zero, Act.put, List.setIfInBounds_toArray, List.set_cons_succ, List.set_cons_zero, e6, e7, e8, e9, e10]
  clear e6 e7 e8 e9 e10 hS
  have hT2 := hT.next hw
  have c4 := hT2.blk.cell (i := 4) rfl
  have x4 := hT2.blk.free 4
  have HT := hid (hT2.cell 4 (.int .i64 m) (f' := m) (off' := D.off) (li' := D.li) rfl)
  have HC := hid (((Chg.refl F w).next hw).setCell (p := ⟨p, 4, none⟩) (.inl (h1 _ (.inl rfl))) (.int .i64 m))
  clear hT hT2 hw
  go_wp2
  first | (refine bodyPost_end (results_none rfl _ _ _) rfl ?_) | (refine bodyPost_ret (results_none rfl _ _ _) rfl ?_)
  exact ⟨rfl, ⟨bk, bq, ck, cq, A, c, m, HT.out, fun _ => HM.out.symm, h1⟩, HC.out⟩
end
end Go.Proofs.Ytdfalneiapeegaa
