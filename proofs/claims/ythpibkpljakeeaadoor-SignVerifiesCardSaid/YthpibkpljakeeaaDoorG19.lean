/- Texts laid together. -/
import Derived.Test.YthpibkpljakeeaaDoorSShiftM
import Derived.Test.YthpibkpljakeeaaDoorG4
namespace Go.Proofs.YthpibkpljakeeaaDoor
open Go.RowKit
theorem word_byte (m q r : Nat) (h : r < 8) : m / 18446744073709551616 ^ q % 18446744073709551616 / 2 ^ (8 * r) % 256 = m / 256 ^ (8 * q + r) % 256 := by
 have e : m / 256 ^ (8 * q + r) = m / 18446744073709551616 ^ q / 256 ^ r := by
   rw [Nat.div_div_eq_div_mul, Nat.pow_add, Nat.pow_mul]
 rw [e]
 generalize m / 18446744073709551616 ^ q = x
 have : r = 0 ∨ r = 1 ∨ r = 2 ∨ r = 3 ∨ r = 4 ∨ r = 5 ∨ r = 6 ∨ r = 7 := by omega
 rcases this with rfl | rfl | rfl | rfl | rfl | rfl | rfl | rfl <;> simp only [Nat.reduceMul, Nat.reducePow, Nat.div_one] <;> omega
set_option maxRecDepth 4000 in
set_option maxHeartbeats 1000000 in
theorem bytesof_walk (m : Nat) (w : World) (hm : m < 65536 ^ 16) : Calls Tryd.prog 81 #[.agg (ints .u64 (nl (wdN m 4))).toArray] w fun e w' => e = .returned (.agg (ints .u8 (rbytes m)).toArray) ∧ Below w.heap.size w w' := by
 obtain ⟨z22, s22⟩ := zero_of_info inf22
 have HL : Hid ((wdN m 4).length = 4 ∧ Wds (wdN m 4)) := hid ⟨(W4.of hm).1, (W4.of hm).2.1⟩
 have HA : Hid (∀ q, q < 4 → (nl (wdN m 4))[q]? = some ((m / 18446744073709551616 ^ q % 18446744073709551616 : Nat) : Int)) := hid fun q hq => by unfold nl; rw [List.getElem?_map, wdN_at m 4 q hq]; rfl
 clear hm
 generalize nl (wdN m 4) = ws at *
 have hN := ((Arr.made w .u64 ws 102).alloc (.cells (ints .u8 (zeros 32)).toArray 22)).alloc (.cells (ints .u8 (zeros 32)).toArray 22)
 have hR := (Arr.made (w.alloc (.cells (ints .u64 ws).toArray 102)) .u8 (zeros 32) 22).alloc (.cells (ints .u8 (zeros 32)).toArray 22)
 have hD := Arr.made ((w.alloc (.cells (ints .u64 ws).toArray 102)).alloc (.cells (ints .u8 (zeros 32)).toArray 22)) .u8 (zeros 32) 22
 have hW := ((below_new w (.cells (ints .u64 ws).toArray 102)).alloc (by simp) (.cells (ints .u8 (zeros 32)).toArray 22)).alloc (by simp; omega) (.cells (ints .u8 (zeros 32)).toArray 22)
 simp only [World.size_alloc] at hR hD
 have HZ : Hid (zeros 32 = fillK (rbytes m) 0) := hid (by rw [fillK_zero, rbytes_length]; rfl)
 have HBL := hid (rbytes_length m)
 have HB : Hid (∀ i, i < 32 → (rbytes m)[i]? = some ((m / 256 ^ i % 256 : Nat) : Int)) := hid fun i h => rbytes_at m h
 generalize rbytes m = bs at *
 go_enter Tryd.func81, Tryd.ntmps81
 go_wp2
 go_loopw [5] (fun i wr => ∃ k : Nat, k ≤ 32 ∧ i = .int .i64 k ∧ Arr wr w.heap.size 0 .u64 ws ∧ Arr wr (w.heap.size + 1) 0 .u8 (zeros 32) ∧ Arr wr (w.heap.size + 1 + 1) 0 .u8 (fillK bs k) ∧ Below w.heap.size w wr) (fun i _ => 32 - (intOf i).toNat)
 case atStart => exact ⟨0, by omega, rfl, hN, hR, (by rw [← HZ.out]; exact hD), hW⟩
 case round =>
   clear hN hR hD hW
   obtain ⟨k, hk, rfl, hN, hR, hD, hW⟩ := hrel
   rename World => W1
   by_cases hlt : k < 32
   · obtain ⟨q, hq⟩ : ∃ q, q = k / 8 := ⟨_, rfl⟩
     obtain ⟨r, hr⟩ : ∃ r, r = k % 8 := ⟨_, rfl⟩
     obtain ⟨p, hp⟩ : ∃ p, p = 8 * r := ⟨_, rfl⟩
     have hqi : (k : Int) / 8 = (q : Int) := by omega
     have hri : (k : Int) % 8 = (r : Int) := by omega
     have hqt : Int.tdiv (k : Int) 8 = (q : Int) := by rw [Int.tdiv_eq_ediv_of_nonneg (by omega)]; omega
     have hrt : Int.tmod (k : Int) 8 = (r : Int) := by rw [Int.tmod_eq_emod_of_nonneg (by omega)]; omega
     have hwp : IntKind.i64.wrap ((r : Int) * 8) = (p : Int) := by rw [IntWalk.i64_in _ (by omega)]; omega
     have q0 : (0 : Int) ≤ q := by omega
     have q4 : (q : Int) < 4 := by omega
     have p0 : (0 : Int) ≤ p := by omega
     have p64 : (p : Int) < 64 := by omega
     have cx := hN.at_ (HA.out q (by omega))
     have hv := HB.out k hlt
     have hwb := word_byte m q r (by omega)
     rw [← hp, show 8 * q + r = k by omega] at hwb
     rw [← hwb] at hv
     clear hwb
     have hxl : m / 18446744073709551616 ^ q % 18446744073709551616 < 18446744073709551616 := Nat.mod_lt _ (by omega)
     generalize m / 18446744073709551616 ^ q % 18446744073709551616 = x at *
     obtain ⟨y, hy⟩ : ∃ y, x / 2 ^ p = y := ⟨_, rfl⟩
     have hyi : (x : Int) / 2 ^ p = (y : Int) := by rw [← hy, Int.natCast_ediv]; simp
     have hyl : y < 18446744073709551616 := by rw [← hy]; exact Nat.lt_of_le_of_lt (Nat.div_le_self _ _) hxl
     rw [hy] at hv
     obtain ⟨v, hvv⟩ : ∃ v, y % 256 = v := ⟨_, rfl⟩
     have hwv : IntKind.u8.wrap (y : Int) = (v : Int) := by rw [IntKind.wrap_u8]; omega
     rw [hvv] at hv
     have HV := hid hv
     obtain ⟨z, cz, fz, _⟩ := hD.spot (i := k) (by rw [fillK_length, HBL.out]; omega)
     rw [Nat.zero_add] at cx cz fz
     have HPQ := hid (And.intro hq (And.intro hr hp))
     clear hq hr hp hv hxl hyl hy hvv
     have k0 : (0 : Int) ≤ k := by omega
     have k32 : (k : Int) < 32 := by omega
     have hD1 := hD.set k (v : Int)
     rw [Nat.zero_add, fillK_set _ HV.out] at hD1
     go_wp2
     go_roundw
     case rel => exact ⟨k + 1, by omega, by go_num, hN.apart _ (.inl (by show w.heap.size + 1 + 1 ≠ w.heap.size; omega)), hR.apart _ (.inl (by show w.heap.size + 1 + 1 ≠ w.heap.size + 1; omega)), hD1, hW.setCell (by show w.heap.size ≤ w.heap.size + 1 + 1; omega) _⟩
     case measure => simp [intOf]; omega
   · have e : k = 32 := by omega
     subst e
     have HF : Hid (fillK bs 32 = bs) := hid (by have := fillK_end bs; rw [HBL.out] at this; exact this)
     rw [HF.out] at hD
     have hs1 : W1.there (w.heap.size + 1) 0 (ints .u8 bs).toArray.size := hR.room (by rw [zeros_len]; exact HBL.out)
     have hR2 := hR.stored (l' := bs) (by rw [zeros_len]; exact HBL.out)
     have hW2 := Below.setCells hW (g := w.heap.size + 1) (by omega) 0 (ints .u8 bs).toArray.toList
     clear hN hR HA HB
     go_wp2_with (first
       | (with_reducible refine wpList_load_mid (op := ⟨some 20, .load 22 (.tmp 3), _, _, _, _⟩) rfl 22 (.tmp 3) rfl (w.heap.size + 1 + 1) 0 rfl (ints .u8 bs) _ (hD.range) Tryd.underlying22 rfl (l22 HBL.out) ?_)
       | (with_reducible refine wpList_store_mid (op := ⟨none, .store 22 (.tmp 2) (.tmp 20), _, _, _, _⟩) rfl 22 (.tmp 2) (.tmp 20) rfl (w.heap.size + 1) 0 (ints .u8 bs).toArray rfl rfl hs1 (a22 HBL.out) (ints_all _ _) ?_; generalize W1.setCells (w.heap.size + 1) 0 (ints .u8 bs).toArray.toList = W5 at *))
     exact ret_rows rfl (w.heap.size + 1) 0 rfl (ints .u8 bs) _ hR2.range Tryd.underlying22 rfl (l22 HBL.out) rfl ⟨rfl, hW2⟩
def CallsQ (f : FuncId) (args : Array Value) (v : Value) : Prop := ∀ w, TabsQ w → Calls Tryd.prog f args w fun e w' => e = .returned v ∧ Below w.heap.size w w'
section
variable {ops : Array Oper} {md : Region.Mode} {W : World} {a0 : Act} {n : Nat} {al : Nat → Bool} {S : Nat → Value → World → Prop} {Q : Exit → Act → World → Prop} {i : Nat} {o : Oper}
theorem step_toQ (hal : al i = false) (hg : GuardOn ops md n S i o) {f : FuncId} {xs : Array Operand} {ts : Array TypeId} {vs : Array Value} {v : Value} (ho : o.op = .call { callee := .value (.func f), args := xs, argTypes := ts }) (hcf : ∀ vs w, (callFunc f vs).run Tryd.prog w = .ok (.enter f vs) w)
   (hT : TabsQ W) (hc : CallsQ f vs v) (hS : S i = Is v) (hv : ∀ (a : Act) (w : World), Cl W w → Fr ops n a0 a → Dp ops md n S i a w → xs.map a.eval = vs) : StepOk Tryd.prog ops md W a0 n al S Q i o :=
 step_call hal hg fun a w hw hf hd => ⟨f, vs, ex_fn rfl hcf ho vs (hv a w hw hf hd) w, (hc w (hT.next hw)).mono fun _ _ ⟨he, hb⟩ => ⟨v, he, by rw [hS]; exact rfl, hb⟩⟩
theorem step_44 (hal : al i = false) (hg : GuardOn ops md n S i o) {b : Nat} {l : List Int} (h : Arr W b 0 .u64 l) (hl : l.length = 4) (t : Tmp) (ho : o.op = .load 102 (.tmp t)) (hB : notDst ops n t = true) (hx : a0.eval (.tmp t) = .pointer (some ⟨b, 0, none⟩)) (hS : S i = Is (.agg (ints .u64 l).toArray)) : StepOk Tryd.prog ops md W a0 n al S Q i o :=
 step_run hal hg fun a w hw hf _ => ⟨_, ex_load 102 (.tmp t) ho b 0 ((eval_out hf t hB).trans hx) (ints .u64 l) _ (h.below hw (h.lt (by rw [hl]; omega))).range Tryd.underlying102 rfl (l44 hl), by rw [hS]; exact rfl⟩
end
theorem cfT21 (vs : Array Value) (w : World) : (callFunc 55 vs).run Tryd.prog w = .ok (.enter 55 vs) w := by go_simp
theorem cfT25 (vs : Array Value) (w : World) : (callFunc 80 vs).run Tryd.prog w = .ok (.enter 80 vs) w := by go_simp
end Go.Proofs.YthpibkpljakeeaaDoor
