/- What is done to a suite, as the laws are handed it; values so far; what do leaves. -/
import Derived.Test.YtpncohoonfahpaaGreatDoorG23
namespace Go.Proofs.YtpncohoonfahpaaGreatDoor
open Go Go.RowKit

/-- What is done, as it lies in memory: kind, A, B, a slice of bytes. -/
structure DoS where
  kind : Int
  a : Int
  b : Int
  A : Option Addr
  c : Nat
  x : List Int
def DoS.cells (d : DoS) : List Value := [.int .i64 d.kind, .int .i64 d.a, .int .i64 d.b, .slice d.A d.x.length d.c]
/-- The row of what is done; its bytes lie below block B. -/
def DsRow (B : Nat) (w : World) (A : Option Addr) (ds : List DoS) : Prop := ∀ (i : Nat) d, ds[i]? = some d → (∃ g o, A = some ⟨g, o, none⟩ ∧ g < B ∧ w.rangeAt g (o + i * 4) d.cells) ∧ TByt d.x ∧ NumsD B w .u8 d.A d.x
set_option maxRecDepth 50000 in
theorem DsRow.next {B : Nat} {w w' : World} {A : Option Addr} {ds : List DoS} (h : DsRow B w A ds) (hb : Below B w w') : DsRow B w' A ds := fun i d hi => by
  obtain ⟨⟨g, o, e, hg, hr⟩, h3, h4⟩ := h i d hi
  exact ⟨⟨g, o, e, hg, fun j v hj => (hb.cell (p := ⟨g, o + i * 4 + j, none⟩) hg).trans (hr j v hj)⟩, h3, h4.stay hb⟩
set_option maxRecDepth 50000 in
theorem ds_world (k a b : Int) (A : Option Addr) (n c : Nat) (w : World) : ∃ W, w.alloc (.cells #[.int .i64 k, .int .i64 a, .int .i64 b, .slice A n c] 59) = W ∧ Blk W w.heap.size 59 [.int .i64 k, .int .i64 a, .int .i64 b, .slice A n c] ∧ Below w.heap.size w W :=
  ⟨_, rfl, Blk.new w 59 [.int .i64 k, .int .i64 a, .int .i64 b, .slice A n c], below_new w _⟩
set_option maxRecDepth 50000 in
set_option maxHeartbeats 2000000 in
theorem few_any (B n c : Nat) (A : Option Addr) (ds : List DoS) (b : Bool) (w : World) (hn : ds.length = n) (hn47 : n ≤ 9223372036854775807) (hA : DsRow B w A ds) (hB : B ≤ w.heap.size) (hb : Hid (b = decide ((∀ d ∈ ds, d.x.length ≤ 100) ∧ n ≤ 20))) :
    Calls Tryz.prog 40 #[.slice A n c] w fun e w' => e = .returned (.bool b) ∧ Below w.heap.size w w' := by
  have hn2 : (n : Int) ≤ 9223372036854775807 := by omega
  have HN := hid hn
  clear hn
  go_enter Tryz.func40, Tryz.ntmps40
  go_wp2
  go_loopw [7] (fun v wr => ∃ k : Nat, k ≤ n ∧ v = .int .i64 k ∧ Hid (∀ (i : Nat) d, i < k → ds[i]? = some d → d.x.length ≤ 100) ∧ Below w.heap.size w wr) (fun v _ => n - (intOf v).toNat)
  case atStart => exact ⟨0, Nat.zero_le _, rfl, hid (fun i d hi => absurd hi (Nat.not_lt_zero _)), Below.refl _ _⟩
  case round =>
    obtain ⟨k, hk, rfl, HI, hcl⟩ := hrel
    by_cases hlt : k < n
    · obtain ⟨d, hd⟩ : ∃ d, ds[k]? = some d := ⟨ds[k]'(by rw [HN.out]; exact hlt), by simp [HN.out, hlt]⟩
      obtain ⟨⟨g, o, rfl, hg, hr⟩, _, _⟩ := (hA.next (hcl.mono hB)) k d hd
      have r0 := hr 0 _ rfl
      have r1 := hr 1 _ rfl
      have r2 := hr 2 _ rfl
      have r3 := hr 3 _ rfl
      simp only [Nat.add_zero] at r0
      obtain ⟨W, hW, hBk, hbW⟩ := ds_world d.kind d.a d.b d.A d.x.length d.c wr
      have y5 := hBk.cell (i := 3) rfl
      have HW := hid hW
      have HD := hid hd
      have hkn : (k : Int) < n := by omega
      have hk0 : (0 : Int) ≤ k := by omega
      have hk1 : k + 1 ≤ n := by omega
      clear hr hW hBk hd hlt hk
      by_cases hgt : (100 : Int) < d.x.length
      · have e1 : decide ((100 : Int) < d.x.length) = true := decide_eq_true hgt
        obtain rfl : b = false := by
          rw [hb.out]
          refine decide_eq_false fun h => ?_
          have := h.1 d (List.mem_of_getElem? HD.out)
          omega
        clear hgt
        go_upto_region 4 with (fail)
        rw [HW.out]
        go_wp2
        go_ret
        exact ⟨rfl, hcl.trans (Below.mono hbW hcl.size)⟩
      · have e1 : decide ((100 : Int) < d.x.length) = false := decide_eq_false hgt
        have HL := hid (show d.x.length ≤ 100 by omega)
        clear hgt
        go_upto_region 4 with (fail)
        rw [HW.out]
        go_wp2
        go_roundw
        case rel => exact ⟨k + 1, hk1, by go_num, hid (fun i d' hi hd' => by
          by_cases e : i = k
          · subst e; rw [HD.out] at hd'; injection hd' with hd'; rw [← hd']; exact HL.out
          · exact HI.out i d' (by omega) hd'), hcl.trans (Below.mono hbW hcl.size)⟩
        case measure => simp [intOf]; omega
    · have hge : ¬ (k : Int) < n := by omega
      have e : k = n := by omega
      subst e
      obtain ⟨q, hq⟩ : ∃ q, decide ((k : Int) ≤ 20) = q := ⟨_, rfl⟩
      obtain rfl : b = q := by
        rw [hb.out, ← hq, Bool.eq_iff_iff, decide_eq_true_iff, decide_eq_true_iff]
        refine ⟨fun h => by omega, fun h => ⟨fun d hd => ?_, by omega⟩⟩
        obtain ⟨i, hi⟩ := List.mem_iff_getElem?.1 hd
        exact HI.out i d (by rw [← HN.out]; exact get_lt hi) hi
      clear hb hk hlt
      go_wp2
      go_ret
      exact ⟨rfl, hcl⟩
/-- The number of the value picked, if there is one. -/
def pickO (ns : List Nat) (i : Int) : Option Nat := if 0 ≤ i then ns[i.toNat]? else none
/-- Parts that are values, of these numbers. -/
structure IsVs (w : World) (ps : List Part) (ns : List Nat) : Prop where
  len : ps.length = ns.length
  each : ∀ (i : Nat) q, ps[i]? = some q → ∃ m, ns[i]? = some m ∧ m ≤ 40 ∧ q.2.2 = valL m ∧ 9 ≤ q.2.1 ∧ Nums w .u8 q.1 (valL m)
set_option maxRecDepth 50000 in
theorem IsVs.next {w w' : World} {ps : List Part} {ns : List Nat} (h : IsVs w ps ns) (hb : Below w.heap.size w w') : IsVs w' ps ns :=
  ⟨h.len, fun i q hi => by obtain ⟨m, h1, h2, h3, h4, h5⟩ := h.each i q hi; exact ⟨m, h1, h2, h3, h4, h5.below hb⟩⟩
set_option maxRecDepth 50000 in
set_option maxHeartbeats 2000000 in
theorem pick_any (PA : Option Addr) (n c : Nat) (ps : List Part) (ns : List Nat) (i : Int) (w : World) (hP : Parts w PA ps) (hV : IsVs w ps ns) (hn : ns.length = n) (hn2 : n ≤ 1000) :
    Calls Tryz.prog 42 #[.slice PA n c, .int .i64 i] w fun e w' => ∃ v, e = .returned v ∧ Vl w' v (pickO ns i) ∧ Below w.heap.size w w' := by
  by_cases h0 : i < 0
  · have e0 : pickO ns i = none := by unfold pickO; rw [if_neg (by omega)]
    rw [e0]
    go_enter Tryz.func42, Tryz.ntmps42
    go_wp2
    go_ret
    have h := nums_nine9 w
    rw [← valL_99] at h
    exact ⟨_, rfl, .inr ⟨_, _, rfl, by decide, h⟩, below_new w _⟩
  · obtain ⟨k, rfl⟩ : ∃ k : Nat, i = k := ⟨i.toNat, by omega⟩
    have e0 : pickO ns (k : Int) = ns[k]? := by unfold pickO; rw [if_pos (by omega)]; rfl
    rw [e0]
    by_cases h1 : k < n
    · have hk : k < ps.length := by rw [hV.len, hn]; exact h1
      obtain ⟨q, hq⟩ : ∃ q, ps[k]? = some q := ⟨ps[k], by simp [hk]⟩
      obtain ⟨m, hm, hm40, hql, hqc, hN⟩ := hV.each k q hq
      obtain ⟨g, off, rfl, hg, hc⟩ := hP (by omega)
      have ck := hc k q hq
      rw [hql, valL_len] at ck
      have e1 : ¬ n ≤ k := by omega
      have k0 : (0 : Int) ≤ k := by omega
      have k1 : (k : Int) < n := by omega
      have HM := hid hm
      have HN := hid hN
      have HC := hid hqc
      have H40 := hid hm40
      clear hP hV hn hn2 h0 e0 hk hq hm hql hqc hN hc h1 hm40
      go_enter Tryz.func42, Tryz.ntmps42
      go_wp2
      go_ret
      rw [HM.out]
      exact ⟨_, rfl, ⟨H40.out, _, _, rfl, HC.out, HN.out⟩, Below.refl _ _⟩
    · have e2 : ns[k]? = none := List.getElem?_eq_none (by omega)
      rw [e2]
      have e1 : n ≤ k := by omega
      clear hP hV hn hn2 h1 e0 e2
      go_enter Tryz.func42, Tryz.ntmps42
      go_wp2
      go_ret
      have h := nums_nine9 w
      rw [← valL_99] at h
      exact ⟨_, rfl, .inr ⟨_, _, rfl, by decide, h⟩, below_new w _⟩
section
variable (q : Nat) (a b : Int) (A : Option Addr) (n c : Nat) (va vb : Value) (w : World) (P : Value → Int → World → Prop)
set_option maxRecDepth 50000 in
set_option maxHeartbeats 2000000 in
theorem do_draw (h : ∀ W, Below w.heap.size w W → Calls Tryz.prog 10 #[.pointer (some ⟨q, 0, none⟩), .int .i64 a] W fun e w' => ∃ v er, e = .returned (.tuple #[v, .int .i64 er]) ∧ P v er w') :
    Calls Tryz.prog 44 #[.pointer (some ⟨q, 0, none⟩), .agg #[.int .i64 1, .int .i64 a, .int .i64 b, .slice A n c], va, vb] w fun e w' => ∃ v er, e = .returned (.tuple #[v, .int .i64 er]) ∧ P v er w' := by
  obtain ⟨W, hW, hB, hb⟩ := ds_world 1 a b A n c w
  have HC := hid (h W hb)
  have y0 := hB.cell (i := 0) rfl
  have y1 := hB.cell (i := 1) rfl
  have y2 := hB.cell (i := 2) rfl
  have y3 := hB.cell (i := 3) rfl
  have HW := hid hW
  clear hW hB hb h
  go_enter Tryz.func44, Tryz.ntmps44
  go_upto_region 1 with (fail)
  rw [HW.out]
  go_wp2_with (go_at_call 10; refine HC.out.mono ?_; rintro e w1 ⟨v, er, rfl, hP⟩)
  go_ret2
  exact ⟨v, er, rfl, hP⟩
set_option maxRecDepth 50000 in
set_option maxHeartbeats 2000000 in
theorem do_public (h : ∀ W, Below w.heap.size w W → Calls Tryz.prog 21 #[.pointer (some ⟨q, 0, none⟩), va] W fun e w' => ∃ v er, e = .returned (.tuple #[v, .int .i64 er]) ∧ P v er w') :
    Calls Tryz.prog 44 #[.pointer (some ⟨q, 0, none⟩), .agg #[.int .i64 2, .int .i64 a, .int .i64 b, .slice A n c], va, vb] w fun e w' => ∃ v er, e = .returned (.tuple #[v, .int .i64 er]) ∧ P v er w' := by
  obtain ⟨W, hW, hB, hb⟩ := ds_world 2 a b A n c w
  have HC := hid (h W hb)
  have y0 := hB.cell (i := 0) rfl
  have y1 := hB.cell (i := 1) rfl
  have y2 := hB.cell (i := 2) rfl
  have y3 := hB.cell (i := 3) rfl
  have HW := hid hW
  clear hW hB hb h
  go_enter Tryz.func44, Tryz.ntmps44
  go_upto_region 1 with (fail)
  rw [HW.out]
  go_wp2_with (go_at_call 21; refine HC.out.mono ?_; rintro e w1 ⟨v, er, rfl, hP⟩)
  go_ret2
  exact ⟨v, er, rfl, hP⟩
set_option maxRecDepth 50000 in
set_option maxHeartbeats 2000000 in
theorem do_verifier (h : ∀ W, Below w.heap.size w W → Calls Tryz.prog 22 #[.pointer (some ⟨q, 0, none⟩), va] W fun e w' => ∃ v er, e = .returned (.tuple #[v, .int .i64 er]) ∧ P v er w') :
    Calls Tryz.prog 44 #[.pointer (some ⟨q, 0, none⟩), .agg #[.int .i64 3, .int .i64 a, .int .i64 b, .slice A n c], va, vb] w fun e w' => ∃ v er, e = .returned (.tuple #[v, .int .i64 er]) ∧ P v er w' := by
  obtain ⟨W, hW, hB, hb⟩ := ds_world 3 a b A n c w
  have HC := hid (h W hb)
  have y0 := hB.cell (i := 0) rfl
  have y1 := hB.cell (i := 1) rfl
  have y2 := hB.cell (i := 2) rfl
  have y3 := hB.cell (i := 3) rfl
  have HW := hid hW
  clear hW hB hb h
  go_enter Tryz.func44, Tryz.ntmps44
  go_upto_region 1 with (fail)
  rw [HW.out]
  go_wp2_with (go_at_call 22; refine HC.out.mono ?_; rintro e w1 ⟨v, er, rfl, hP⟩)
  go_ret2
  exact ⟨v, er, rfl, hP⟩
set_option maxRecDepth 50000 in
set_option maxHeartbeats 2000000 in
theorem do_wrap (h : ∀ W, Below w.heap.size w W → Calls Tryz.prog 32 #[.pointer (some ⟨q, 0, none⟩), va, vb] W fun e w' => ∃ v er, e = .returned (.tuple #[v, .int .i64 er]) ∧ P v er w') :
    Calls Tryz.prog 44 #[.pointer (some ⟨q, 0, none⟩), .agg #[.int .i64 4, .int .i64 a, .int .i64 b, .slice A n c], va, vb] w fun e w' => ∃ v er, e = .returned (.tuple #[v, .int .i64 er]) ∧ P v er w' := by
  obtain ⟨W, hW, hB, hb⟩ := ds_world 4 a b A n c w
  have HC := hid (h W hb)
  have y0 := hB.cell (i := 0) rfl
  have y1 := hB.cell (i := 1) rfl
  have y2 := hB.cell (i := 2) rfl
  have y3 := hB.cell (i := 3) rfl
  have HW := hid hW
  clear hW hB hb h
  go_enter Tryz.func44, Tryz.ntmps44
  go_upto_region 1 with (fail)
  rw [HW.out]
  go_wp2_with (go_at_call 32; refine HC.out.mono ?_; rintro e w1 ⟨v, er, rfl, hP⟩)
  go_ret2
  exact ⟨v, er, rfl, hP⟩
set_option maxRecDepth 50000 in
set_option maxHeartbeats 2000000 in
theorem do_lock (h : ∀ W, Below w.heap.size w W → Calls Tryz.prog 33 #[.pointer (some ⟨q, 0, none⟩), va, vb] W fun e w' => ∃ v er, e = .returned (.tuple #[v, .int .i64 er]) ∧ P v er w') :
    Calls Tryz.prog 44 #[.pointer (some ⟨q, 0, none⟩), .agg #[.int .i64 5, .int .i64 a, .int .i64 b, .slice A n c], va, vb] w fun e w' => ∃ v er, e = .returned (.tuple #[v, .int .i64 er]) ∧ P v er w' := by
  obtain ⟨W, hW, hB, hb⟩ := ds_world 5 a b A n c w
  have HC := hid (h W hb)
  have y0 := hB.cell (i := 0) rfl
  have y1 := hB.cell (i := 1) rfl
  have y2 := hB.cell (i := 2) rfl
  have y3 := hB.cell (i := 3) rfl
  have HW := hid hW
  clear hW hB hb h
  go_enter Tryz.func44, Tryz.ntmps44
  go_upto_region 1 with (fail)
  rw [HW.out]
  go_wp2_with (go_at_call 33; refine HC.out.mono ?_; rintro e w1 ⟨v, er, rfl, hP⟩)
  go_ret2
  exact ⟨v, er, rfl, hP⟩
set_option maxRecDepth 50000 in
set_option maxHeartbeats 2000000 in
theorem do_next (h : ∀ W, Below w.heap.size w W → Calls Tryz.prog 23 #[.pointer (some ⟨q, 0, none⟩), va] W fun e w' => ∃ v er, e = .returned (.tuple #[v, .int .i64 er]) ∧ P v er w') :
    Calls Tryz.prog 44 #[.pointer (some ⟨q, 0, none⟩), .agg #[.int .i64 6, .int .i64 a, .int .i64 b, .slice A n c], va, vb] w fun e w' => ∃ v er, e = .returned (.tuple #[v, .int .i64 er]) ∧ P v er w' := by
  obtain ⟨W, hW, hB, hb⟩ := ds_world 6 a b A n c w
  have HC := hid (h W hb)
  have y0 := hB.cell (i := 0) rfl
  have y1 := hB.cell (i := 1) rfl
  have y2 := hB.cell (i := 2) rfl
  have y3 := hB.cell (i := 3) rfl
  have HW := hid hW
  clear hW hB hb h
  go_enter Tryz.func44, Tryz.ntmps44
  go_upto_region 1 with (fail)
  rw [HW.out]
  go_wp2_with (go_at_call 23; refine HC.out.mono ?_; rintro e w1 ⟨v, er, rfl, hP⟩)
  go_ret2
  exact ⟨v, er, rfl, hP⟩
set_option maxRecDepth 50000 in
set_option maxHeartbeats 2000000 in
theorem do_item (h : ∀ W, Below w.heap.size w W → Calls Tryz.prog 24 #[.pointer (some ⟨q, 0, none⟩), va] W fun e w' => ∃ v er, e = .returned (.tuple #[v, .int .i64 er]) ∧ P v er w') :
    Calls Tryz.prog 44 #[.pointer (some ⟨q, 0, none⟩), .agg #[.int .i64 7, .int .i64 a, .int .i64 b, .slice A n c], va, vb] w fun e w' => ∃ v er, e = .returned (.tuple #[v, .int .i64 er]) ∧ P v er w' := by
  obtain ⟨W, hW, hB, hb⟩ := ds_world 7 a b A n c w
  have HC := hid (h W hb)
  have y0 := hB.cell (i := 0) rfl
  have y1 := hB.cell (i := 1) rfl
  have y2 := hB.cell (i := 2) rfl
  have y3 := hB.cell (i := 3) rfl
  have HW := hid hW
  clear hW hB hb h
  go_enter Tryz.func44, Tryz.ntmps44
  go_upto_region 1 with (fail)
  rw [HW.out]
  go_wp2_with (go_at_call 24; refine HC.out.mono ?_; rintro e w1 ⟨v, er, rfl, hP⟩)
  go_ret2
  exact ⟨v, er, rfl, hP⟩
set_option maxRecDepth 50000 in
set_option maxHeartbeats 2000000 in
theorem do_sign (h : ∀ W, Below w.heap.size w W → Calls Tryz.prog 25 #[.pointer (some ⟨q, 0, none⟩), va, .slice A n c] W fun e w' => ∃ v er, e = .returned (.tuple #[v, .int .i64 er]) ∧ P v er w') :
    Calls Tryz.prog 44 #[.pointer (some ⟨q, 0, none⟩), .agg #[.int .i64 8, .int .i64 a, .int .i64 b, .slice A n c], va, vb] w fun e w' => ∃ v er, e = .returned (.tuple #[v, .int .i64 er]) ∧ P v er w' := by
  obtain ⟨W, hW, hB, hb⟩ := ds_world 8 a b A n c w
  have HC := hid (h W hb)
  have y0 := hB.cell (i := 0) rfl
  have y1 := hB.cell (i := 1) rfl
  have y2 := hB.cell (i := 2) rfl
  have y3 := hB.cell (i := 3) rfl
  have HW := hid hW
  clear hW hB hb h
  go_enter Tryz.func44, Tryz.ntmps44
  go_upto_region 1 with (fail)
  rw [HW.out]
  go_wp2_with (go_at_call 25; refine HC.out.mono ?_; rintro e w1 ⟨v, er, rfl, hP⟩)
  go_ret2
  exact ⟨v, er, rfl, hP⟩
set_option maxRecDepth 50000 in
set_option maxHeartbeats 2000000 in
theorem do_data (h : ∀ W, Below w.heap.size w W → Calls Tryz.prog 17 #[.pointer (some ⟨q, 0, none⟩), .slice A n c] W fun e w' => ∃ v er, e = .returned (.tuple #[v, .int .i64 er]) ∧ P v er w') :
    Calls Tryz.prog 44 #[.pointer (some ⟨q, 0, none⟩), .agg #[.int .i64 9, .int .i64 a, .int .i64 b, .slice A n c], va, vb] w fun e w' => ∃ v er, e = .returned (.tuple #[v, .int .i64 er]) ∧ P v er w' := by
  obtain ⟨W, hW, hB, hb⟩ := ds_world 9 a b A n c w
  have HC := hid (h W hb)
  have y0 := hB.cell (i := 0) rfl
  have y1 := hB.cell (i := 1) rfl
  have y2 := hB.cell (i := 2) rfl
  have y3 := hB.cell (i := 3) rfl
  have HW := hid hW
  clear hW hB hb h
  go_enter Tryz.func44, Tryz.ntmps44
  go_upto_region 1 with (fail)
  rw [HW.out]
  go_wp2_with (go_at_call 17; refine HC.out.mono ?_; rintro e w1 ⟨v, er, rfl, hP⟩)
  go_ret2
  exact ⟨v, er, rfl, hP⟩
set_option maxRecDepth 50000 in
set_option maxHeartbeats 2000000 in
theorem do_digest (k : Int) (hk : ∀ i : Int, 1 ≤ i → i ≤ 9 → k ≠ i) (h : ∀ W, Below w.heap.size w W → Calls Tryz.prog 16 #[.pointer (some ⟨q, 0, none⟩), .slice A n c] W fun e w' => ∃ v er, e = .returned (.tuple #[v, .int .i64 er]) ∧ P v er w') :
    Calls Tryz.prog 44 #[.pointer (some ⟨q, 0, none⟩), .agg #[.int .i64 k, .int .i64 a, .int .i64 b, .slice A n c], va, vb] w fun e w' => ∃ v er, e = .returned (.tuple #[v, .int .i64 er]) ∧ P v er w' := by
  obtain ⟨W, hW, hB, hb⟩ := ds_world k a b A n c w
  have HC := hid (h W hb)
  have y0 := hB.cell (i := 0) rfl
  have y1 := hB.cell (i := 1) rfl
  have y2 := hB.cell (i := 2) rfl
  have y3 := hB.cell (i := 3) rfl
  have HW := hid hW
  have h1 : (k == 1) = false := beq_eq_false_iff_ne.2 (hk 1 (by decide) (by decide))
  have h2 : (k == 2) = false := beq_eq_false_iff_ne.2 (hk 2 (by decide) (by decide))
  have h3 : (k == 3) = false := beq_eq_false_iff_ne.2 (hk 3 (by decide) (by decide))
  have h4 : (k == 4) = false := beq_eq_false_iff_ne.2 (hk 4 (by decide) (by decide))
  have h5 : (k == 5) = false := beq_eq_false_iff_ne.2 (hk 5 (by decide) (by decide))
  have h6 : (k == 6) = false := beq_eq_false_iff_ne.2 (hk 6 (by decide) (by decide))
  have h7 : (k == 7) = false := beq_eq_false_iff_ne.2 (hk 7 (by decide) (by decide))
  have h8 : (k == 8) = false := beq_eq_false_iff_ne.2 (hk 8 (by decide) (by decide))
  have h9 : (k == 9) = false := beq_eq_false_iff_ne.2 (hk 9 (by decide) (by decide))
  clear hk
  clear hW hB hb h
  go_enter Tryz.func44, Tryz.ntmps44
  go_upto_region 1 with (fail)
  rw [HW.out]
  go_wp2_with (go_at_call 16; refine HC.out.mono ?_; rintro e w1 ⟨v, er, rfl, hP⟩)
  go_ret2
  exact ⟨v, er, rfl, hP⟩
end
end Go.Proofs.YtpncohoonfahpaaGreatDoor
