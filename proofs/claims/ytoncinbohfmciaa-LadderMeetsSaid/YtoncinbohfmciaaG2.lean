/- Texts of this proof, laid together: LMul, LRef, Shared, LMuls. -/
import Derived.Test.YtoncinbohfmciaaG1
/- The code's ladder. -/
namespace Go.Proofs.Ytoncinbohfmciaa
open Go Go.RowKit

theorem no_wait {ops : Array Oper} {n j : Nat} (h : Region.waitsFor .any ops n j = false) (k : Region.waitsFor .any ops n j = true) : False := by rw [h] at k; cases k
theorem no_wait2 {ops : Array Oper} {n j : Nat} (k : Region.waitsFor .any ops n j = true) (h : Region.waitsFor .any ops n j = false) : False := by rw [h] at k; cases k
theorem cf9c (vs : Array Value) (w : World) : (callFunc 9 vs).run Try.prog w = .ok (.enter 9 vs) w := by go_simp
set_option maxRecDepth 4000 in
set_option maxHeartbeats 4000000 in
theorem lmul_core {sb pb cb uu m : List Int} {u : Nat} (lsb : sb.length = 32) (lpb : pb.length = 32) (lcb : cb.length = 32) (hcb : Hid (Byt cb)) (kclamp : CallsTo 9 #[.agg (ints .u8 sb).toArray] (.agg (ints .u8 cb).toArray)) (kof : CallsTo 22 #[.agg (ints .u8 pb).toArray] (.agg (ints .i64 uu).toArray)) (huu : Nm uu u) (hm : Hid (rbytes (outN (ladN u cb 255)) = m)) :
    CallsTo 8 #[.agg (ints .u8 sb).toArray, .agg (ints .u8 pb).toArray] (.agg (ints .u8 m).toArray) := fun W => by
  obtain ⟨one, kone, hone⟩ : ∃ v, CallsTo 23 #[.int .i64 1] (.agg (ints .i64 v).toArray) ∧ Nm v 1 := ⟨_, c_small 1, Nm.small 1 (by omega)⟩
  obtain ⟨z22, s22⟩ := zero_of_info inf22
  have hS2 := ((By.new W sb lsb).next (below_new _ (.cells (ints .u8 pb).toArray 22))).next (below_new _ (.cells (ints .u8 (zeros 32)).toArray 22))
  have hS3 := (By.new (W.alloc (.cells (ints .u8 sb).toArray 22)) pb lpb).next (below_new _ (.cells (ints .u8 (zeros 32)).toArray 22))
  have h4 := By.new ((W.alloc (.cells (ints .u8 sb).toArray 22)).alloc (.cells (ints .u8 pb).toArray 22)) (zeros 32) (zeros_len 32)
  have hW := ((below_new W (.cells (ints .u8 sb).toArray 22)).alloc (by simp) (.cells (ints .u8 pb).toArray 22)).alloc (by simp; omega) (.cells (ints .u8 (zeros 32)).toArray 22)
  simp only [World.size_alloc] at hS3 h4
  go_enter Try.func8, Try.ntmps8
  go_wp2_with (fail)
  generalize ((W.alloc (.cells (ints .u8 sb).toArray 22)).alloc (.cells (ints .u8 pb).toArray 22)).alloc (.cells (ints .u8 (zeros 32)).toArray 22) = w0 at *
  have s0 := hW.size
  refine region_spec2 6 65 (fun i => i == 4 || i == 5) [Is (.agg (ints .u8 sb).toArray), Is (.agg (ints .u8 cb).toArray), Is (.agg (ints .u8 pb).toArray), Is (.agg (ints .i64 uu).toArray), IsZ22 w0.heap.size, IsZ w0.heap.size] [12, 13, 14, 15, 5, 6] (by kernel_rfl) (by kernel_rfl) (by kernel_rfl) (Nat.le_of_eq rfl) (grows_cons (Is.grows _) (grows_cons (Is.grows _) (grows_cons (Is.grows _) (grows_cons (Is.grows _) (grows_cons (IsZ22.grows _) (grows_cons (IsZ.grows _) grows_nil))))))
    ⟨step_by rfl (.inl rfl) hS2 2 rfl (by kernel_rfl) rfl rfl,
     step_to rfl (.inl rfl) rfl cf9c kclamp rfl (one_arg (knows_in 0 12 (by decide) (by kernel_rfl) rfl rfl)),
     step_by rfl (.inl rfl) hS3 3 rfl (by kernel_rfl) rfl rfl,
     step_to rfl (.inl rfl) rfl cf9 kof rfl (one_arg (knows_in 2 14 (by decide) (by kernel_rfl) rfl rfl)),
     step_alloc22 (.inl rfl) rfl rfl,
     step_alloc26 (.inl rfl) rfl rfl, trivial⟩ ?_
  intro val w1 hw hS hap hla
  have e12 : val 12 = (.agg (ints .u8 sb).toArray) := hS 0 12 (by decide) rfl
  have e13 : val 13 = (.agg (ints .u8 cb).toArray) := hS 1 13 (by decide) rfl
  have e14 : val 14 = (.agg (ints .u8 pb).toArray) := hS 2 14 (by decide) rfl
  have e15 : val 15 = (.agg (ints .i64 uu).toArray) := hS 3 15 (by decide) rfl
  obtain ⟨b5, e5, L5, Z5⟩ := hS 4 5 (by decide) rfl
  obtain ⟨b6, e6, L6, Z6⟩ := hS 5 6 (by decide) rfl
  have ne5_6 : b5 ≠ b6 := fun e => hap 4 5 5 6 (by decide) (by decide) rfl rfl (by decide) rfl rfl (by rw [e5, e6, e])
  simp only [putVals, List.foldl_cons, List.foldl_nil, List.drop_succ_cons, List.drop_zero, Act.put, List.setIfInBounds_toArray, List.set_cons_succ, List.set_cons_zero, e12, e13, e14, e15, e5, e6]
  clear hS hap hla e12 e13 e14 e15 e5 e6
  have LL5 := hid lcb
  have LL6 := hid huu.1.len
  have R5 := Z5.room (l' := cb) lcb
  have hB5 := Z5.stored (l' := cb) lcb
  replace Z6 := Z6.past (b' := b5) (ints .u8 cb).toArray.toList ne5_6
  have R6 := Z6.room (l' := uu) huu.1.len
  have hB6 := Z6.stored (l' := uu) huu.1.len
  replace hB5 := hB5.past (b' := b6) (ints .i64 uu).toArray.toList (Ne.symm ne5_6)
  replace hS2 := hS2.next (Below.setCells (Below.setCells hw L5 0 (ints .u8 cb).toArray.toList) L6 0 (ints .i64 uu).toArray.toList)
  replace hS3 := hS3.next (Below.setCells (Below.setCells hw L5 0 (ints .u8 cb).toArray.toList) L6 0 (ints .i64 uu).toArray.toList)
  replace h4 := h4.next (Below.setCells (Below.setCells hw L5 0 (ints .u8 cb).toArray.toList) L6 0 (ints .i64 uu).toArray.toList)
  replace hW := hW.trans (Below.mono (Below.setCells (Below.setCells hw L5 0 (ints .u8 cb).toArray.toList) L6 0 (ints .i64 uu).toArray.toList) hW.size)
  with_reducible refine wpList_store_mid (op := ⟨none, .store 22 (.tmp 5) (.tmp 13), _, _, _, _⟩) rfl 22 (.tmp 5) (.tmp 13) rfl b5 0 (ints .u8 cb).toArray rfl rfl R5 (a22 LL5.out) (ints_all _ _) ?_
  with_reducible refine wpList_store_mid (op := ⟨none, .store 41 (.tmp 6) (.tmp 15), _, _, _, _⟩) rfl 41 (.tmp 6) (.tmp 15) rfl b6 0 (ints .i64 uu).toArray rfl rfl R6 (a26 LL6.out) (ints_all _ _) ?_
  generalize ((w1.setCells b5 0 (ints .u8 cb).toArray.toList).setCells b6 0 (ints .i64 uu).toArray.toList) = w2 at *
  clear hw  R5 LL5 Z5 R6 LL6 Z6
  clear hS2 hS3
  have lt5 := hB5.lt
  have lt6 := hB6.lt
  have lt4 := h4.lt
  go_wp2_with (fail)
  have s2 := hW.size
  refine region_early 7 65 (fun i => i == 5 || i == 6) [Is (.agg (ints .i64 one).toArray), Is (.agg (ints .i64 (one ++ zeros 16)).toArray), Is (.agg (ints .i64 uu).toArray), Is (.agg (ints .i64 one).toArray), Is (.agg (ints .i64 (uu ++ one)).toArray), IsZ2 w2.heap.size, IsZ2 w2.heap.size] [16, 17, 18, 19, 20, 7, 8] (by kernel_rfl) (by kernel_rfl) (by kernel_rfl) (Nat.le_of_eq rfl) (grows_cons (Is.grows _) (grows_cons (Is.grows _) (grows_cons (Is.grows _) (grows_cons (Is.grows _) (grows_cons (Is.grows _) (grows_cons (IsZ2.grows _) (grows_cons (IsZ2.grows _) grows_nil)))))))
    ⟨step_to rfl (.inl rfl) rfl cf16 kone rfl (one_arg (knows_const _)),
     step_make1 rfl (.inl rfl) rfl hone.1.len rfl (knows_in 0 16 (by decide) (by kernel_rfl) rfl rfl),
     step_el rfl (.inl rfl) hB6 6 rfl (by kernel_rfl) rfl rfl,
     step_to rfl (.inl rfl) rfl cf16 kone rfl (one_arg (knows_const _)),
     step_make rfl (.inl rfl) rfl huu.1.len hone.1.len rfl (knows_in 2 18 (by decide) (by kernel_rfl) rfl rfl) (knows_in 3 19 (by decide) (by kernel_rfl) rfl rfl),
     step_alloc45 (.inl rfl) rfl rfl,
     step_alloc45 (.inl rfl) rfl rfl, trivial⟩
    45 7 17 (ints .i64 (one ++ zeros 16)).toArray _ rfl rfl rfl rfl 5 1 (by decide) (by decide) rfl rfl (by kernel_rfl) (by kernel_rfl) (fun v w ⟨b, h1, h2, h3⟩ => ⟨b, h1, h2, h3.room (len32 hone.1.len (zeros_len 16))⟩) (fun v w h => h) (a45 (len32 hone.1.len (zeros_len 16))) (ints_all _ _)
    (fun i o hi ho hf => by
      have hc : i = 0 ∨ i = 1 ∨ i = 2 ∨ i = 3 ∨ i = 4 ∨ i = 5 ∨ i = 6 := by omega
      rcases hc with e | e | e | e | e | e | e <;> subst e
      · exact (no_wait hf (by kernel_rfl)).elim
      · exact (no_wait hf (by kernel_rfl)).elim
      · injection ho with ho; subst ho
        exact ⟨rfl, free_el rfl hB6 6 rfl (by kernel_rfl) rfl rfl⟩
      · exact (no_wait hf (by kernel_rfl)).elim
      · injection ho with ho; subst ho
        exact ⟨rfl, free_make rfl rfl huu.1.len hone.1.len rfl (knows_in 2 18 (by decide) (by kernel_rfl) rfl rfl) (knows_in 3 19 (by decide) (by kernel_rfl) rfl rfl)⟩
      · exact (no_wait hf (by kernel_rfl)).elim
      · exact (no_wait hf (by kernel_rfl)).elim)
    (fun i j hi hj hf hw v w w' h => by
      have hc : i = 0 ∨ i = 1 ∨ i = 2 ∨ i = 3 ∨ i = 4 ∨ i = 5 ∨ i = 6 := by omega
      have hd : j = 0 ∨ j = 1 ∨ j = 2 ∨ j = 3 ∨ j = 4 ∨ j = 5 ∨ j = 6 := by omega
      rcases hc with e | e | e | e | e | e | e <;> subst e
      · exact (no_wait hf (by kernel_rfl)).elim
      · exact (no_wait hf (by kernel_rfl)).elim
      · rcases hd with e | e | e | e | e | e | e <;> subst e <;> exact (no_wait2 hw (by kernel_rfl)).elim
      · exact (no_wait hf (by kernel_rfl)).elim
      · rcases hd with e | e | e | e | e | e | e <;> subst e
        · exact (no_wait2 hw (by kernel_rfl)).elim
        · exact (no_wait2 hw (by kernel_rfl)).elim
        · exact h
        · exact h
        · exact (no_wait2 hw (by kernel_rfl)).elim
        · exact (no_wait2 hw (by kernel_rfl)).elim
        · exact (no_wait2 hw (by kernel_rfl)).elim
      · exact (no_wait hf (by kernel_rfl)).elim
      · exact (no_wait hf (by kernel_rfl)).elim) ?_
  intro val w3 bq hw hS hap hla hbq
  have e16 : val 16 = (.agg (ints .i64 one).toArray) := hS 0 16 (by decide) rfl
  have e17 : val 17 = (.agg (ints .i64 (one ++ zeros 16)).toArray) := hS 1 17 (by decide) rfl
  have e18 : val 18 = (.agg (ints .i64 uu).toArray) := hS 2 18 (by decide) rfl
  have e19 : val 19 = (.agg (ints .i64 one).toArray) := hS 3 19 (by decide) rfl
  have e20 : val 20 = (.agg (ints .i64 (uu ++ one)).toArray) := hS 4 20 (by decide) rfl
  obtain ⟨b7, e7, L7, Z7⟩ := hS 5 7 (by decide) rfl
  obtain ⟨b8, e8, L8, Z8⟩ := hS 6 8 (by decide) rfl
  have ne7_8 : b7 ≠ b8 := fun e => hap 5 6 7 8 (by decide) (by decide) rfl rfl (by decide) rfl rfl (by rw [e7, e8, e])
  simp only [putVals, List.foldl_cons, List.foldl_nil, List.drop_succ_cons, List.drop_zero, Act.put, List.setIfInBounds_toArray, List.set_cons_succ, List.set_cons_zero, e16, e17, e18, e19, e20, e7, e8]
  have eb : b7 = bq := by
    rw [e7] at hbq
    injection hbq with h
    injection h with h
    injection h
  subst eb
  clear hbq
  clear hS hap hla e16 e17 e18 e19 e20 e7 e8
  have LL7 := hid (len32 hone.1.len Nm.zeros.1.len)
  have LL8 := hid (len32 huu.1.len hone.1.len)
  have R7 := Z7.room (l' := (one ++ zeros 16)) (len32 hone.1.len Nm.zeros.1.len)
  have hB7 := Z7.stored (l' := (one ++ zeros 16)) (len32 hone.1.len Nm.zeros.1.len)
  replace Z8 := Z8.past (b' := b7) (ints .i64 (one ++ zeros 16)).toArray.toList ne7_8
  have R8 := Z8.room (l' := (uu ++ one)) (len32 huu.1.len hone.1.len)
  have hB8 := Z8.stored (l' := (uu ++ one)) (len32 huu.1.len hone.1.len)
  replace hB7 := hB7.past (b' := b8) (ints .i64 (uu ++ one)).toArray.toList (Ne.symm ne7_8)
  replace h4 := h4.next (Below.setCells (Below.setCells hw L7 0 (ints .i64 (one ++ zeros 16)).toArray.toList) L8 0 (ints .i64 (uu ++ one)).toArray.toList)
  replace hB5 := hB5.next (Below.setCells (Below.setCells hw L7 0 (ints .i64 (one ++ zeros 16)).toArray.toList) L8 0 (ints .i64 (uu ++ one)).toArray.toList)
  replace hB6 := hB6.next (Below.setCells (Below.setCells hw L7 0 (ints .i64 (one ++ zeros 16)).toArray.toList) L8 0 (ints .i64 (uu ++ one)).toArray.toList)
  replace hW := hW.trans (Below.mono (Below.setCells (Below.setCells hw L7 0 (ints .i64 (one ++ zeros 16)).toArray.toList) L8 0 (ints .i64 (uu ++ one)).toArray.toList) hW.size)
  with_reducible refine wpList_store_mid (op := ⟨none, .store 45 (.tmp 8) (.tmp 20), _, _, _, _⟩) rfl 45 (.tmp 8) (.tmp 20) rfl b8 0 (ints .i64 (uu ++ one)).toArray rfl rfl R8 (a45 LL8.out) (ints_all _ _) ?_
  generalize ((w3.setCells b7 0 (ints .i64 (one ++ zeros 16)).toArray.toList).setCells b8 0 (ints .i64 (uu ++ one)).toArray.toList) = w4 at *
  clear hw  R7 LL7 Z7 R8 LL8 Z8
  have HU := hid huu
  have HC := hid lcb
  have HUL := hid huu.1.len
  have HA : Hid (Pts (ladN u cb 0) false (one ++ zeros 16) (uu ++ one)) := hid ⟨_, _, _, _, rfl, rfl, hone, Nm.zeros, huu, hone⟩
  have n57 : b5 ≠ b7 := by omega
  have n58 : b5 ≠ b8 := by omega
  have n67 : b6 ≠ b7 := by omega
  have n68 : b6 ≠ b8 := by omega
  have n47 : W.heap.size + 1 + 1 ≠ b7 := by omega
  have n48 : W.heap.size + 1 + 1 ≠ b8 := by omega
  have w7 : W.heap.size ≤ b7 := by omega
  have w8 : W.heap.size ≤ b8 := by omega
  clear huu lcb lsb lpb hone lt4 lt5 lt6 L5 L6 L7 L8 ne5_6 kof kclamp kone
  generalize one ++ zeros 16 = L0 at *
  generalize uu ++ one = H0 at *
  go_wp2_with (fail)
  go_loopw [9, 10] (fun s i wr => ∃ (k : Nat) (b : Int) (sw : Bool) (L H : List Int), k ≤ 255 ∧ s = .bool sw ∧ i = .int .i64 b ∧ Hid (b = 254 - k) ∧ Hid (Pts (ladN u cb k) sw L H) ∧ By wr (W.heap.size + 1 + 1) (zeros 32) ∧ By wr b5 cb ∧ Bx wr b6 uu ∧ B2 wr b7 L ∧ B2 wr b8 H ∧ Below W.heap.size W wr) (fun _ i _ => (intOf i + 1).toNat)
  case atStart => exact ⟨0, 254, false, L0, H0, by omega, rfl, rfl, hid rfl, HA, h4, hB5, hB6, hB7, hB8, hW⟩
  case round =>
    clear h4 hB5 hB6 hB7 hB8 hW HA
    obtain ⟨k, b, sw, L, H, hk, rfl, rfl, HBK, HP, h4, hB5, hB6, hB7, hB8, hW⟩ := hrel
    rename World => W1
    have LL := hid hB7.2
    have LH := hid hB8.2
    by_cases hlt : k < 255
    · obtain ⟨n, rfl⟩ : ∃ n : Nat, b = n := ⟨(254 - k : Nat), by have := HBK.out; omega⟩
      have HNK : Hid (254 - k = n) := hid (by have := HBK.out; omega)
      have hn : (n : Int) ≤ 254 := by have := HBK.out; omega
      have n0 : (0 : Int) ≤ n := by omega
      obtain ⟨q, hq⟩ : ∃ q, q = n / 8 := ⟨_, rfl⟩
      obtain ⟨r, hr⟩ : ∃ r, r = n % 8 := ⟨_, rfl⟩
      have hqi : (n : Int) / 8 = (q : Int) := by omega
      have hri : (n : Int) % 8 = (r : Int) := by omega
      have q0 : (0 : Int) ≤ q := by omega
      have q32 : (q : Int) < 32 := by omega
      have r0 : (0 : Int) ≤ r := by omega
      have r8 : (r : Int) ≤ 8 := by omega
      obtain ⟨x, cx, _, HXq⟩ := hB5.1.spot (i := q) (by rw [HC.out]; omega)
      rw [Nat.zero_add] at cx
      have hxb := hcb.out.at_ HXq.out
      obtain ⟨s, hs⟩ : ∃ s, s = x / 2 ^ r := ⟨_, rfl⟩
      have hp2 : (0 : Int) < 2 ^ r := Int.pow_pos (by omega)
      have hsb : 0 ≤ s ∧ s < 256 := by
        have h1 := Int.ediv_nonneg hxb.1 (Int.le_of_lt hp2)
        have h2 := Int.ediv_le_self (2 ^ r) hxb.1
        rw [hs]; omega
      have hmk := mask1_u8 s hsb
      obtain ⟨st, hst⟩ : ∃ st : Bool, (s % 2 == 1) = st := ⟨_, rfl⟩
      have HBIT : Hid (bitB cb (254 - k) = st) := hid (by rw [HNK.out, ← hst, hs, hr]; unfold bitB bitAt; rw [← hq]; simp [List.getD, HXq.out])
      have hsx : x / 2 ^ r = s := hs.symm
      obtain ⟨PP, QQ, D, E, k24, k25, lP, lQ, lD, lE, HP2⟩ := round2 HP HU st
      have HKN : Hid (Pts (ladN u cb (k + 1)) st D E) := hid (by rw [ladN, HBIT.out]; exact HP2.out)
      have HQR := hid (And.intro hq hr)
      clear hq hr hs hp2 HP HP2 HBIT
      have hwn : IntKind.i64.wrap ((n : Int) - 1) = (n : Int) - 1 := IntWalk.i64_in _ (by omega)
      have K24 := hid k24
      have K25 := hid k25
      clear k24 k25
      go_wp2_with (first
        | (with_reducible refine wpList_load_mid (op := ⟨some 35, .load 45 (.tmp 7), _, _, _, _⟩) rfl 45 (.tmp 7) rfl b7 0 rfl (ints .i64 L) _ (hB7.range) Try.underlying45 rfl (l45 LL.out) ?_)
        | (with_reducible refine wpList_load_mid (op := ⟨some 36, .load 45 (.tmp 8), _, _, _, _⟩) rfl 45 (.tmp 8) rfl b8 0 rfl (ints .i64 H) _ (hB8.range) Try.underlying45 rfl (l45 LH.out) ?_))
      refine (K24.out _).mono ?_
      rintro e w5 ⟨rfl, hb⟩
      replace h4 := h4.next hb
      replace hB5 := hB5.next hb
      replace hB6 := hB6.next hb
      replace hB7 := hB7.next hb
      replace hB8 := hB8.next hb
      replace hW := hW.trans (hb.mono hW.size)
      clear hb
      clear cx
      have r7 := hB7.room lP.out
      replace hB7 := hB7.stored lP.out
      replace hB8 := hB8.past (b' := b7) (ints .i64 PP).toArray.toList ne7_8
      have r8' := hB8.room lQ.out
      replace hB8 := hB8.stored lQ.out
      replace hB7 := hB7.past (b' := b8) (ints .i64 QQ).toArray.toList (Ne.symm ne7_8)
      replace h4 := (h4.past (b' := b7) (ints .i64 PP).toArray.toList (Ne.symm n47)).past (b' := b8) (ints .i64 QQ).toArray.toList (Ne.symm n48)
      replace hB5 := (hB5.past (b' := b7) (ints .i64 PP).toArray.toList (Ne.symm n57)).past (b' := b8) (ints .i64 QQ).toArray.toList (Ne.symm n58)
      replace hB6 := (hB6.past (b' := b7) (ints .i64 PP).toArray.toList (Ne.symm n67)).past (b' := b8) (ints .i64 QQ).toArray.toList (Ne.symm n68)
      replace hW := Below.setCells (Below.setCells hW (g := b7) w7 0 (ints .i64 PP).toArray.toList) (g := b8) w8 0 (ints .i64 QQ).toArray.toList
      go_wp2_with (first
        | (with_reducible refine wpList_store_mid (op := ⟨none, .store 45 (.tmp 7) (.tmp 41), _, _, _, _⟩) rfl 45 (.tmp 7) (.tmp 41) rfl b7 0 (ints .i64 PP).toArray rfl rfl r7 (a45 lP.out) (ints_all _ _) ?_)
        | (with_reducible refine wpList_store_mid (op := ⟨none, .store 45 (.tmp 8) (.tmp 42), _, _, _, _⟩) rfl 45 (.tmp 8) (.tmp 42) rfl b8 0 (ints .i64 QQ).toArray rfl rfl r8' (a45 lQ.out) (ints_all _ _) ?_; generalize (w5.setCells b7 0 (ints .i64 PP).toArray.toList).setCells b8 0 (ints .i64 QQ).toArray.toList = w6 at *)
        | (with_reducible refine wpList_load_mid (op := ⟨some 45, .load 45 (.tmp 7), _, _, _, _⟩) rfl 45 (.tmp 7) rfl b7 0 rfl (ints .i64 PP) _ (hB7.range) Try.underlying45 rfl (l45 lP.out) ?_)
        | (with_reducible refine wpList_load_mid (op := ⟨some 46, .load 45 (.tmp 8), _, _, _, _⟩) rfl 45 (.tmp 8) rfl b8 0 rfl (ints .i64 QQ) _ (hB8.range) Try.underlying45 rfl (l45 lQ.out) ?_)
        | (with_reducible refine wpList_load_mid (op := ⟨some 47, .load 41 (.tmp 6), _, _, _, _⟩) rfl 41 (.tmp 6) rfl b6 0 rfl (ints .i64 uu) _ (hB6.range) Try.underlying41 rfl (l26 HUL.out) ?_))
      refine (K25.out _).mono ?_
      rintro e w7_ ⟨rfl, hb⟩
      clear r7 r8'
      replace h4 := h4.next hb
      replace hB5 := hB5.next hb
      replace hB6 := hB6.next hb
      replace hB7 := hB7.next hb
      replace hB8 := hB8.next hb
      replace hW := hW.trans (hb.mono hW.size)
      clear hb
      have r7 := hB7.room lD.out
      replace hB7 := hB7.stored lD.out
      replace hB8 := hB8.past (b' := b7) (ints .i64 D).toArray.toList ne7_8
      have r8' := hB8.room lE.out
      replace hB8 := hB8.stored lE.out
      replace hB7 := hB7.past (b' := b8) (ints .i64 E).toArray.toList (Ne.symm ne7_8)
      replace h4 := (h4.past (b' := b7) (ints .i64 D).toArray.toList (Ne.symm n47)).past (b' := b8) (ints .i64 E).toArray.toList (Ne.symm n48)
      replace hB5 := (hB5.past (b' := b7) (ints .i64 D).toArray.toList (Ne.symm n57)).past (b' := b8) (ints .i64 E).toArray.toList (Ne.symm n58)
      replace hB6 := (hB6.past (b' := b7) (ints .i64 D).toArray.toList (Ne.symm n67)).past (b' := b8) (ints .i64 E).toArray.toList (Ne.symm n68)
      replace hW := Below.setCells (Below.setCells hW (g := b7) w7 0 (ints .i64 D).toArray.toList) (g := b8) w8 0 (ints .i64 E).toArray.toList
      go_wp2_with (first
        | (with_reducible refine wpList_store_mid (op := ⟨none, .store 45 (.tmp 7) (.tmp 49), _, _, _, _⟩) rfl 45 (.tmp 7) (.tmp 49) rfl b7 0 (ints .i64 D).toArray rfl rfl r7 (a45 lD.out) (ints_all _ _) ?_)
        | (with_reducible refine wpList_store_mid (op := ⟨none, .store 45 (.tmp 8) (.tmp 50), _, _, _, _⟩) rfl 45 (.tmp 8) (.tmp 50) rfl b8 0 (ints .i64 E).toArray rfl rfl r8' (a45 lE.out) (ints_all _ _) ?_; generalize (w7_.setCells b7 0 (ints .i64 D).toArray.toList).setCells b8 0 (ints .i64 E).toArray.toList = w8_ at *))
      go_roundw
      case rel => exact ⟨k + 1, (n : Int) - 1, st, D, E, by omega, rfl, rfl, hid (by have := HBK.out; omega), HKN, h4, hB5, hB6, hB7, hB8, hW⟩
      case measure => simp [intOf]
    · have e : k = 255 := by omega
      have hb0 : b < 0 := by have := HBK.out; omega
      rw [e] at HP
      obtain ⟨x, z, QQ, k24, hx, hz⟩ := last2 HP
      have K24 := hid k24
      have HM := hm
      clear k24 e HP HBK
      go_wp2_with (first
        | (with_reducible refine wpList_load_mid (op := ⟨some 52, .load 45 (.tmp 7), _, _, _, _⟩) rfl 45 (.tmp 7) rfl b7 0 rfl (ints .i64 L) _ (hB7.range) Try.underlying45 rfl (l45 LL.out) ?_)
        | (with_reducible refine wpList_load_mid (op := ⟨some 53, .load 45 (.tmp 8), _, _, _, _⟩) rfl 45 (.tmp 8) rfl b8 0 rfl (ints .i64 H) _ (hB8.range) Try.underlying45 rfl (l45 LH.out) ?_))
      refine (K24.out _).mono ?_
      rintro e w5 ⟨rfl, hb⟩
      replace h4 := h4.next hb
      replace hB5 := hB5.next hb
      replace hB6 := hB6.next hb
      replace hB7 := hB7.next hb
      replace hB8 := hB8.next hb
      replace hW := hW.trans (hb.mono hW.size)
      clear hb
      have lR := hid (len32 hx.out.1.len hz.out.1.len)
      have r7 := hB7.room lR.out
      replace hB7 := hB7.stored lR.out
      replace h4 := h4.past (b' := b7) (ints .i64 (x ++ z)).toArray.toList (Ne.symm n47)
      replace hW := Below.setCells hW (g := b7) w7 0 (ints .i64 (x ++ z)).toArray.toList
      clear hB5 hB6 hB8
      go_wp2_with (first
        | (with_reducible refine wpList_store_mid (op := ⟨none, .store 45 (.tmp 7) (.tmp 56), _, _, _, _⟩) rfl 45 (.tmp 7) (.tmp 56) rfl b7 0 (ints .i64 (x ++ z)).toArray rfl rfl r7 (a45 lR.out) (ints_all _ _) ?_; generalize w5.setCells b7 0 (ints .i64 (x ++ z)).toArray.toList = w6 at *))
      replace hx := hx.out
      replace hz := hz.out
      clear r7
      obtain ⟨v0, kv0, hv0⟩ : ∃ v, CallsTo 27 #[.agg (ints .i64 z).toArray] (.agg (ints .i64 v).toArray) ∧ Nm v ((ladN u cb 255).b ^ (NT.PN - 2) % NT.PN) := ⟨_, c_inv hz.1, hz.inv⟩
      obtain ⟨v1, kv1, hv1⟩ : ∃ v, CallsTo 26 #[.agg (ints .i64 x).toArray, .agg (ints .i64 v0).toArray] (.agg (ints .i64 v).toArray) ∧ Nm v ((ladN u cb 255).a * ((ladN u cb 255).b ^ (NT.PN - 2) % NT.PN) % NT.PN) := ⟨_, c_mul hx.1 hv0.1, hx.mul hv0⟩
      have kbytes : CallsTo 28 #[.agg (ints .i64 v1).toArray] (.agg (ints .u8 m).toArray) := by rw [← HM.out]; exact hv1.bytes
      have lm : m.length = 32 := by rw [← HM.out]; exact rbytes_length _
      have s20 := hW.size
      refine region_spec2 7 65 (fun _ => false) [Is (.pointer (some ⟨b7, 0, none⟩)), Is (.agg (ints .i64 x).toArray), Is (.pointer (some ⟨b7, 16, none⟩)), Is (.agg (ints .i64 z).toArray), Is (.agg (ints .i64 v0).toArray), Is (.agg (ints .i64 v1).toArray), Is (.agg (ints .u8 m).toArray)] [58, 59, 60, 61, 62, 63, 64] (by kernel_rfl) (by kernel_rfl) (by kernel_rfl) (Nat.le_of_eq rfl) (grows_cons (Is.grows _) (grows_cons (Is.grows _) (grows_cons (Is.grows _) (grows_cons (Is.grows _) (grows_cons (Is.grows _) (grows_cons (Is.grows _) (grows_cons (Is.grows _) grows_nil)))))))
        ⟨step_fa0 rfl (.inl rfl) rfl rfl (knows_out 7 (by kernel_rfl) rfl),
         step_part rfl (.inl rfl) (hB7.fst hx.1.len) hx.1.len rfl rfl (knows_in 0 58 (by decide) (by kernel_rfl) rfl rfl),
         step_fa1 rfl (.inl rfl) rfl rfl (knows_out 7 (by kernel_rfl) rfl),
         step_part rfl (.inl rfl) (hB7.snd hx.1.len) hz.1.len rfl rfl (knows_in 2 60 (by decide) (by kernel_rfl) rfl rfl),
         step_to rfl (.inl rfl) rfl cf27 kv0 rfl (one_arg (knows_in 3 61 (by decide) (by kernel_rfl) rfl rfl)),
         step_to rfl (.inl rfl) rfl cf22 kv1 rfl (two_args (knows_in 1 59 (by decide) (by kernel_rfl) rfl rfl) (knows_in 4 62 (by decide) (by kernel_rfl) rfl rfl)),
         step_to rfl (.inl rfl) rfl cf11 kbytes rfl (one_arg (knows_in 5 63 (by decide) (by kernel_rfl) rfl rfl)), trivial⟩ ?_
      intro val w21 hw hS hap hla
      have e58 : val 58 = (.pointer (some ⟨b7, 0, none⟩)) := hS 0 58 (by decide) rfl
      have e59 : val 59 = (.agg (ints .i64 x).toArray) := hS 1 59 (by decide) rfl
      have e60 : val 60 = (.pointer (some ⟨b7, 16, none⟩)) := hS 2 60 (by decide) rfl
      have e61 : val 61 = (.agg (ints .i64 z).toArray) := hS 3 61 (by decide) rfl
      have e62 : val 62 = (.agg (ints .i64 v0).toArray) := hS 4 62 (by decide) rfl
      have e63 : val 63 = (.agg (ints .i64 v1).toArray) := hS 5 63 (by decide) rfl
      have e64 : val 64 = (.agg (ints .u8 m).toArray) := hS 6 64 (by decide) rfl
      simp only [putVals, List.foldl_cons, List.foldl_nil, List.drop_succ_cons, List.drop_zero, Act.put, List.setIfInBounds_toArray, List.set_cons_succ, List.set_cons_zero, e58, e59, e60, e61, e62, e63, e64]
      clear hS hap hla e58 e59 e60 e61 e62 e63 e64
      replace h4 := h4.next hw
      replace hW := hW.trans (Below.mono hw hW.size)
      clear hw
      have r4 := h4.room lm
      have hf4 := h4.stored lm
      have LM := hid lm
      replace hW := Below.setCells hW (g := W.heap.size + 1 + 1) (by omega) 0 (ints .u8 m).toArray.toList
      clear lm h4
      go_wp2_with (first
        | (with_reducible refine wpList_store_mid (op := ⟨none, .store 22 (.tmp 4) (.tmp 64), _, _, _, _⟩) rfl 22 (.tmp 4) (.tmp 64) rfl (W.heap.size + 1 + 1) 0 (ints .u8 m).toArray rfl rfl r4 (a22 LM.out) (ints_all _ _) ?_))
      exact ret_rows rfl (W.heap.size + 1 + 1) 0 rfl (ints .u8 m) _ hf4.range Try.underlying22 rfl (l22 LM.out) rfl ⟨rfl, hW⟩
theorem c_lmul {sb pb : List Int} (ls : sb.length = 32) (bs : Byt sb) (lp : pb.length = 32) (bp : Byt pb) : CallsTo 8 #[.agg (ints .u8 sb).toArray, .agg (ints .u8 pb).toArray] (.agg (ints .u8 (rbytes (mulN sb (uOf pb)))).toArray) :=
  lmul_core ls lp ((clampL_length sb).trans ls) (hid (clampL_byt bs ls)) (c_clamp ls bs) (c_of lp bp) (uOf_nm bp) (hid rfl)
end Go.Proofs.Ytoncinbohfmciaa

/- The document's ladder. -/
namespace Go.Proofs.Ytoncinbohfmciaa
open Go Go.RowKit

theorem pn_pos : 0 < NT.PN := by decide
theorem ladN_lt {u : Nat} (cb : List Int) (hu : u < NT.PN) : ∀ k, (ladN u cb k).a < NT.PN ∧ (ladN u cb k).b < NT.PN ∧ (ladN u cb k).c < NT.PN ∧ (ladN u cb k).d < NT.PN
  | 0 => ⟨by show (1 : Nat) < NT.PN; decide, pn_pos, hu, by show (1 : Nat) < NT.PN; decide⟩
  | k + 1 => by
    have h : ∀ st S, (lstep u st S).a < NT.PN ∧ (lstep u st S).b < NT.PN ∧ (lstep u st S).c < NT.PN ∧ (lstep u st S).d < NT.PN := fun st S => by
      cases st <;> exact ⟨Nat.mod_lt _ pn_pos, Nat.mod_lt _ pn_pos, Nat.mod_lt _ pn_pos, Nat.mod_lt _ pn_pos⟩
    rw [ladN]; exact h _ _
theorem pm2_bytes : (bv (rbytes (NT.PN - 2))).toNat = NT.PN - 2 := by decide +kernel
def BYL : List Nat := 56129 :: 1 :: List.replicate 14 0
theorem byl_rp : Rp BYL 121665 := ⟨by decide, digs_dec (by decide), by decide⟩
theorem byl_set : ((nl (List.replicate 16 0)).set 0 56129).set 1 1 = nl BYL := by decide
set_option maxRecDepth 4000 in
set_option maxHeartbeats 4000000 in
theorem rladder_core {sb pb cb m : List Int} {u : Nat} (lsb : sb.length = 32) (lpb : pb.length = 32) (lcb : cb.length = 32) (hcb : Hid (Byt cb)) (kclamp : Hid (CallsTo 10 #[.agg (ints .u8 sb).toArray] (.agg (ints .u8 cb).toArray))) (kof : Hid (∀ w : World, Calls Try.prog 13 #[.agg (ints .u8 pb).toArray] w (ROut u w))) (hu : Hid (u < NT.PN)) (hm : Hid (rbytes (outN (ladN u cb 255)) = m)) :
    CallsTo 6 #[.agg (ints .u8 sb).toArray, .agg (ints .u8 pb).toArray] (.agg (ints .u8 m).toArray) := fun W => by
  obtain ⟨z22, s22⟩ := zero_of_info inf22
  have LS := hid lsb
  have LP := hid lpb
  have LC := hid lcb
  have hS2 := ((By.new W sb lsb).next (below_new _ (.cells (ints .u8 pb).toArray 22))).next (below_new _ (.cells (ints .u8 (zeros 32)).toArray 22))
  have hS3 := (By.new (W.alloc (.cells (ints .u8 sb).toArray 22)) pb lpb).next (below_new _ (.cells (ints .u8 (zeros 32)).toArray 22))
  have h4 := By.new ((W.alloc (.cells (ints .u8 sb).toArray 22)).alloc (.cells (ints .u8 pb).toArray 22)) (zeros 32) (zeros_len 32)
  have hW := ((below_new W (.cells (ints .u8 sb).toArray 22)).alloc (by simp) (.cells (ints .u8 pb).toArray 22)).alloc (by simp; omega) (.cells (ints .u8 (zeros 32)).toArray 22)
  simp only [World.size_alloc] at hS3 h4
  clear lsb lpb lcb
  go_enter Try.func6, Try.ntmps6
  go_upto_region 1 with (fail)
  generalize ((W.alloc (.cells (ints .u8 sb).toArray 22)).alloc (.cells (ints .u8 pb).toArray 22)).alloc (.cells (ints .u8 (zeros 32)).toArray 22) = w0 at *
  go_wp2_with (first
    | (with_reducible refine wpList_load_mid (op := ⟨some 31, .load 22 (.tmp 2), _, _, _, _⟩) rfl 22 (.tmp 2) rfl W.heap.size 0 rfl (ints .u8 sb) _ (hS2.range) Try.underlying22 rfl (l22 LS.out) ?_))
  refine (kclamp.out _).mono ?_
  rintro e w1 ⟨rfl, hb⟩
  replace hS3 := hS3.next hb
  replace h4 := h4.next hb
  replace hW := hW.trans (hb.mono hW.size)
  clear hb hS2
  have hB5 := By.new w1 (zeros 32) (zeros_len 32)
  have hb := below_new w1 (.cells (ints .u8 (zeros 32)).toArray 22)
  have r5 := hB5.room (l' := cb) LC.out
  replace hB5 := hB5.stored LC.out
  have lt3 := hS3.lt
  have lt4 := h4.lt
  replace hS3 := (hS3.next hb).past (b' := w1.heap.size) (ints .u8 cb).toArray.toList (by omega)
  replace h4 := (h4.next hb).past (b' := w1.heap.size) (ints .u8 cb).toArray.toList (by omega)
  have hsz := hW.size
  replace hW := Below.setCells (hW.trans (hb.mono hW.size)) (g := w1.heap.size) hsz 0 (ints .u8 cb).toArray.toList
  clear hb
  go_wp2_with (first
    | (with_reducible refine wpList_store_mid (op := ⟨none, .store 22 (.tmp 5) (.tmp 32), _, _, _, _⟩) rfl 22 (.tmp 5) (.tmp 32) rfl w1.heap.size 0 (ints .u8 cb).toArray rfl rfl r5 (a22 LC.out) (ints_all _ _) ?_; generalize (w1.alloc (.cells (ints .u8 (zeros 32)).toArray 22)).setCells w1.heap.size 0 (ints .u8 cb).toArray.toList = w2 at *)
    | (with_reducible refine wpList_load_mid (op := ⟨some 33, .load 22 (.tmp 3), _, _, _, _⟩) rfl 22 (.tmp 3) rfl (W.heap.size + 1) 0 rfl (ints .u8 pb) _ (hS3.range) Try.underlying22 rfl (l22 LP.out) ?_))
  refine (kof.out _).mono ?_
  rintro e w3 ⟨A6, c6, y6, rfl, H6, N6, hb⟩
  replace h4 := h4.next hb
  replace hB5 := hB5.next hb
  replace hW := hW.trans (hb.mono hW.size)
  replace N6 := N6.nums
  clear hb hS3 lt3 lt4 r5
  generalize w1.heap.size = b5 at *
  have hmk : ∀ w : World, (Instr.makeSlice 32 (.int .i64 16) (.int .i64 16)).run Try.prog w = .ok (.slice (some ⟨w.heap.size, 0, none⟩) 16 16) (w.alloc (.cells (ints .i64 (nl (List.replicate 16 0))).toArray 3)) := fun w => make28 16 (by omega) w
  have hA2 := Arr.made w3 .i64 (nl BYL) 3
  have hb := below_new w3 (.cells (ints .i64 (nl BYL)).toArray 3)
  have e2 : (ints .i64 (nl BYL)).toArray = ((ints .i64 (nl (List.replicate 16 0))).toArray.setIfInBounds 0 (.int .i64 56129)).setIfInBounds 1 (.int .i64 1) := by
    rw [← byl_set]; simp [ints]
  have z0 : (ints .i64 (nl (List.replicate 16 0))).toArray[0]? = some (.int .i64 0) := rfl
  have z1 : (ints .i64 (nl (List.replicate 16 0))).toArray[1]? = some (.int .i64 0) := rfl
  rw [e2] at hA2 hb
  clear e2
  replace h4 := h4.next hb
  replace hB5 := hB5.next hb
  replace hW := hW.trans (hb.mono hW.size)
  replace N6 := N6.below hb
  have N7 := hA2.nums
  have H7 := hid byl_rp
  clear hA2 hb
  generalize BYL = y7 at *
  generalize (ints .i64 (nl (List.replicate 16 0))).toArray = Z at *
  go_wp2_with (fail)
  generalize w3.alloc (.cells ((Z.setIfInBounds 0 (.int .i64 56129)).setIfInBounds 1 (.int .i64 1)) 3) = w4 at *
  generalize (some (⟨w3.heap.size, 0, none⟩ : Addr) : Option Addr) = A7 at *
  clear hmk z0 z1 kclamp kof LS LP
  refine (rsmall_out 1 (by omega) _).mono ?_
  rintro e w5 ⟨A8, c8, y8, rfl, H8, N8, hb⟩
  replace N8 := N8.nums
  replace h4 := h4.next hb
  replace hB5 := hB5.next hb
  replace hW := hW.trans (hb.mono hW.size)
  replace N6 := N6.below hb
  replace N7 := N7.below hb
  clear hb
  go_wp2_with (fail)
  refine (rsmall_out 0 (by omega) _).mono ?_
  rintro e w6 ⟨A9, c9, y9, rfl, H9, N9, hb⟩
  replace N9 := N9.nums
  replace h4 := h4.next hb
  replace hB5 := hB5.next hb
  replace hW := hW.trans (hb.mono hW.size)
  replace N6 := N6.below hb
  replace N7 := N7.below hb
  replace N8 := N8.below hb
  clear hb
  go_wp2_with (fail)
  refine (rsmall_out 1 (by omega) _).mono ?_
  rintro e w7 ⟨A11, c11, y11, rfl, H11, N11, hb⟩
  replace N11 := N11.nums
  replace h4 := h4.next hb
  replace hB5 := hB5.next hb
  replace hW := hW.trans (hb.mono hW.size)
  replace N6 := N6.below hb
  replace N7 := N7.below hb
  replace N8 := N8.below hb
  replace N9 := N9.below hb
  clear hb
  go_wp2_with (fail)
  have HLT := hid (fun k => ladN_lt cb hu.out k)
  go_loopw [8, 9, 10, 11, 12] (fun x z X Z i wr => ∃ (k : Nat) (b : Int) (A8 A9 A10 A11 : Option Addr) (c8 c9 c10 c11 : Nat) (y8 y9 y10 y11 : List Nat), k ≤ 255 ∧ x = .slice A8 16 c8 ∧ z = .slice A9 16 c9 ∧ X = .slice A10 16 c10 ∧ Z = .slice A11 16 c11 ∧ i = .int .i64 b ∧ Hid (b = 254 - k) ∧ Hid (Rp y8 (ladN u cb k).a) ∧ Hid (Rp y9 (ladN u cb k).b) ∧ Hid (Rp y10 (ladN u cb k).c) ∧ Hid (Rp y11 (ladN u cb k).d) ∧ Nums wr .i64 A8 (nl y8) ∧ Nums wr .i64 A9 (nl y9) ∧ Nums wr .i64 A10 (nl y10) ∧ Nums wr .i64 A11 (nl y11) ∧ Nums wr .i64 A6 (nl y6) ∧ Nums wr .i64 A7 (nl y7) ∧ By wr (W.heap.size + 1 + 1) (zeros 32) ∧ By wr b5 cb ∧ Below W.heap.size W wr) (fun _ _ _ _ i _ => (intOf i + 1).toNat)
  case atStart => exact ⟨0, 254, A8, A9, A6, A11, c8, c9, c6, c11, y8, y9, y6, y11, by omega, rfl, rfl, rfl, rfl, rfl, hid rfl, H8, H9, H6, H11, N8, N9, N6, N11, N6, N7, h4, hB5, hW⟩
  case round =>
    clear h4 hB5 hW H8 H9 H11 N8 N9 N11 N6 N7
    obtain ⟨k, b, A8, A9, A10, A11, c8, c9, c10, c11, y8, y9, y10, y11, hk, rfl, rfl, rfl, rfl, rfl, HBK, H8, H9, H10, H11, N8, N9, N10, N11, N6, N7, h4, hB5, hW⟩ := hrel
    rename World => W1
    by_cases hlt : k < 255
    · obtain ⟨n, rfl⟩ : ∃ n : Nat, b = n := ⟨(254 - k : Nat), by have := HBK.out; omega⟩
      have HNK : Hid (254 - k = n) := hid (by have := HBK.out; omega)
      have hn : (n : Int) ≤ 254 := by have := HBK.out; omega
      have n0 : (0 : Int) ≤ n := by omega
      obtain ⟨q, hq⟩ : ∃ q, q = n / 8 := ⟨_, rfl⟩
      obtain ⟨r, hr⟩ : ∃ r, r = n % 8 := ⟨_, rfl⟩
      have hqi : (n : Int) / 8 = (q : Int) := by omega
      have hri : (n : Int) % 8 = (r : Int) := by omega
      have q0 : (0 : Int) ≤ q := by omega
      have q32 : (q : Int) < 32 := by omega
      have r8 : r < 8 := by omega
      obtain ⟨x', cx, _, HXq⟩ := hB5.1.spot (i := q) (by rw [LC.out]; omega)
      rw [Nat.zero_add] at cx
      have hxb := hcb.out.at_ HXq.out
      obtain ⟨x, rfl⟩ := Int.eq_ofNat_of_zero_le hxb.1
      have hx : x < 256 := by omega
      have HBIT : Hid (∀ cc : Nat, cc = x / 2 ^ r → bitB cb (254 - k) = (((cc : Int) % 2) == 1)) := hid fun cc hc => by
        rw [HNK.out]; unfold bitB bitAt; rw [← hq, ← hr]
        have e : cb.getD q 0 = (x : Int) := by simp [List.getD, HXq.out]
        rw [e, hc]; simp
      have hxw : IntKind.i64.wrap (x : Int) = x := IntWalk.i64_in _ (by omega)
      have HQR := hid (And.intro hq hr)
      clear hq hr hxb
      have hwn : IntKind.i64.wrap ((n : Int) - 1) = (n : Int) - 1 := IntWalk.i64_in _ (by omega)
      go_wp2_with (fail)
      go_loopw [13, 14] (fun c j wr => ∃ (kk cc : Nat), kk ≤ r ∧ j = .int .i64 kk ∧ c = .int .i64 cc ∧ cc < 256 ∧ Hid (cc = x / 2 ^ kk) ∧ wr = W1) (fun _ j _ => r - (intOf j).toNat)
      case atStart => exact ⟨0, x, by omega, rfl, rfl, hx, hid (by simp), rfl⟩
      case round =>
        obtain ⟨kk, cc, hkk, rfl, rfl, hcc, HC, rfl⟩ := hrel
        by_cases hl2 : kk < r
        · have HC2 : Hid (cc / 2 = x / 2 ^ (kk + 1)) := hid (by rw [HC.out, Nat.pow_succ, Nat.div_div_eq_div_mul])
          have hcv : Value.int .i64 ((cc : Int) / 2) = Value.int .i64 ((cc / 2 : Nat) : Int) := by congr 1
          have HCV := hid hcv
          clear hcv
          go_wp2
          go_roundw
          case rel => exact ⟨kk + 1, cc / 2, by omega, by go_num, HCV.out, by omega, HC2, by first | rfl | trivial⟩
          case measure => simp [intOf]; omega
        · have e : kk = r := by omega
          subst e
          have HST := hid (HBIT.out cc HC.out)
          clear HBIT HC HXq cx
          obtain ⟨l8, l9, l10, l11⟩ := HLT.out k
          by_cases hbit : cc % 2 = 1
          · have hbe : ((cc : Int) % 2 == 1) = true := by simp; omega
            have HS : Hid (ladN u cb (k + 1) = lstep u true (ladN u cb k)) := hid (by rw [ladN, HST.out, hbe])
            clear HST
            go_wp2_with (fail)
            refine (radd_walk H10.out H11.out N10 N11).mono ?_
            rintro e w11 ⟨A17, c17, y17, rfl, H17, N17, hb⟩
            replace N17 := N17.nums
            replace h4 := h4.next hb
            replace hB5 := hB5.next hb
            replace hW := hW.trans (hb.mono hW.size)
            replace N6 := N6.below hb
            replace N7 := N7.below hb
            replace N8 := N8.below hb
            replace N9 := N9.below hb
            replace N10 := N10.below hb
            replace N11 := N11.below hb
            clear hb
            go_wp2_with (fail)
            refine (rsub_walk H10.out H11.out l10 l11 N10 N11).mono ?_
            rintro e w12 ⟨A18, c18, y18, rfl, H18, N18, hb⟩
            replace N18 := N18.nums
            replace h4 := h4.next hb
            replace hB5 := hB5.next hb
            replace hW := hW.trans (hb.mono hW.size)
            replace N6 := N6.below hb
            replace N7 := N7.below hb
            replace N8 := N8.below hb
            replace N9 := N9.below hb
            replace N10 := N10.below hb
            replace N11 := N11.below hb
            replace N17 := N17.below hb
            clear hb
            go_wp2_with (fail)
            refine (rmul_walk H17.out H17.out N17 N17).mono ?_
            rintro e w13 ⟨A19, c19, y19, rfl, H19, N19, hb⟩
            replace N19 := N19.nums
            replace h4 := h4.next hb
            replace hB5 := hB5.next hb
            replace hW := hW.trans (hb.mono hW.size)
            replace N6 := N6.below hb
            replace N7 := N7.below hb
            replace N8 := N8.below hb
            replace N9 := N9.below hb
            replace N10 := N10.below hb
            replace N11 := N11.below hb
            replace N17 := N17.below hb
            replace N18 := N18.below hb
            clear hb
            clear N17
            go_wp2_with (fail)
            refine (rmul_walk H18.out H18.out N18 N18).mono ?_
            rintro e w14 ⟨A20, c20, y20, rfl, H20, N20, hb⟩
            replace N20 := N20.nums
            replace h4 := h4.next hb
            replace hB5 := hB5.next hb
            replace hW := hW.trans (hb.mono hW.size)
            replace N6 := N6.below hb
            replace N7 := N7.below hb
            replace N8 := N8.below hb
            replace N9 := N9.below hb
            replace N10 := N10.below hb
            replace N11 := N11.below hb
            replace N18 := N18.below hb
            replace N19 := N19.below hb
            clear hb
            clear N18
            go_wp2_with (fail)
            refine (rsub_walk H19.out H20.out (Nat.mod_lt _ pn_pos) (Nat.mod_lt _ pn_pos) N19 N20).mono ?_
            rintro e w15 ⟨A21, c21, y21, rfl, H21, N21, hb⟩
            replace N21 := N21.nums
            replace h4 := h4.next hb
            replace hB5 := hB5.next hb
            replace hW := hW.trans (hb.mono hW.size)
            replace N6 := N6.below hb
            replace N7 := N7.below hb
            replace N8 := N8.below hb
            replace N9 := N9.below hb
            replace N10 := N10.below hb
            replace N11 := N11.below hb
            replace N19 := N19.below hb
            replace N20 := N20.below hb
            clear hb
            go_wp2_with (fail)
            refine (rmul_walk H19.out H20.out N19 N20).mono ?_
            rintro e w16 ⟨A22, c22, y22, rfl, H22, N22, hb⟩
            replace N22 := N22.nums
            replace h4 := h4.next hb
            replace hB5 := hB5.next hb
            replace hW := hW.trans (hb.mono hW.size)
            replace N6 := N6.below hb
            replace N7 := N7.below hb
            replace N8 := N8.below hb
            replace N9 := N9.below hb
            replace N10 := N10.below hb
            replace N11 := N11.below hb
            replace N19 := N19.below hb
            replace N20 := N20.below hb
            replace N21 := N21.below hb
            clear hb
            clear N20
            go_wp2_with (fail)
            refine (rmul_walk H7.out H21.out N7 N21).mono ?_
            rintro e w17 ⟨A91, c91, y91, rfl, H91, N91, hb⟩
            replace N91 := N91.nums
            replace h4 := h4.next hb
            replace hB5 := hB5.next hb
            replace hW := hW.trans (hb.mono hW.size)
            replace N6 := N6.below hb
            replace N7 := N7.below hb
            replace N8 := N8.below hb
            replace N9 := N9.below hb
            replace N10 := N10.below hb
            replace N11 := N11.below hb
            replace N19 := N19.below hb
            replace N21 := N21.below hb
            replace N22 := N22.below hb
            clear hb
            go_wp2_with (fail)
            refine (radd_walk H19.out H91.out N19 N91).mono ?_
            rintro e w18 ⟨A92, c92, y92, rfl, H92, N92, hb⟩
            replace N92 := N92.nums
            replace h4 := h4.next hb
            replace hB5 := hB5.next hb
            replace hW := hW.trans (hb.mono hW.size)
            replace N6 := N6.below hb
            replace N7 := N7.below hb
            replace N8 := N8.below hb
            replace N9 := N9.below hb
            replace N10 := N10.below hb
            replace N11 := N11.below hb
            replace N19 := N19.below hb
            replace N21 := N21.below hb
            replace N22 := N22.below hb
            replace N91 := N91.below hb
            clear hb
            clear N91
            clear N19
            go_wp2_with (fail)
            refine (rmul_walk H21.out H92.out N21 N92).mono ?_
            rintro e w19 ⟨A23, c23, y23, rfl, H23, N23, hb⟩
            replace N23 := N23.nums
            replace h4 := h4.next hb
            replace hB5 := hB5.next hb
            replace hW := hW.trans (hb.mono hW.size)
            replace N6 := N6.below hb
            replace N7 := N7.below hb
            replace N8 := N8.below hb
            replace N9 := N9.below hb
            replace N10 := N10.below hb
            replace N11 := N11.below hb
            replace N21 := N21.below hb
            replace N22 := N22.below hb
            replace N92 := N92.below hb
            clear hb
            clear N92
            clear N21
            go_wp2_with (fail)
            refine (rsub_walk H10.out H11.out l10 l11 N10 N11).mono ?_
            rintro e w20 ⟨A96, c96, y96, rfl, H96, N96, hb⟩
            replace N96 := N96.nums
            replace h4 := h4.next hb
            replace hB5 := hB5.next hb
            replace hW := hW.trans (hb.mono hW.size)
            replace N6 := N6.below hb
            replace N7 := N7.below hb
            replace N8 := N8.below hb
            replace N9 := N9.below hb
            replace N10 := N10.below hb
            replace N11 := N11.below hb
            replace N22 := N22.below hb
            replace N23 := N23.below hb
            clear hb
            go_wp2_with (fail)
            refine (radd_walk H8.out H9.out N8 N9).mono ?_
            rintro e w21 ⟨A99, c99, y99, rfl, H99, N99, hb⟩
            replace N99 := N99.nums
            replace h4 := h4.next hb
            replace hB5 := hB5.next hb
            replace hW := hW.trans (hb.mono hW.size)
            replace N6 := N6.below hb
            replace N7 := N7.below hb
            replace N8 := N8.below hb
            replace N9 := N9.below hb
            replace N10 := N10.below hb
            replace N11 := N11.below hb
            replace N22 := N22.below hb
            replace N23 := N23.below hb
            replace N96 := N96.below hb
            clear hb
            go_wp2_with (fail)
            refine (rmul_walk H96.out H99.out N96 N99).mono ?_
            rintro e w22 ⟨A24, c24, y24, rfl, H24, N24, hb⟩
            replace N24 := N24.nums
            replace h4 := h4.next hb
            replace hB5 := hB5.next hb
            replace hW := hW.trans (hb.mono hW.size)
            replace N6 := N6.below hb
            replace N7 := N7.below hb
            replace N8 := N8.below hb
            replace N9 := N9.below hb
            replace N10 := N10.below hb
            replace N11 := N11.below hb
            replace N22 := N22.below hb
            replace N23 := N23.below hb
            replace N96 := N96.below hb
            replace N99 := N99.below hb
            clear hb
            clear N96
            clear N99
            go_wp2_with (fail)
            refine (radd_walk H10.out H11.out N10 N11).mono ?_
            rintro e w23 ⟨A103, c103, y103, rfl, H103, N103, hb⟩
            replace N103 := N103.nums
            replace h4 := h4.next hb
            replace hB5 := hB5.next hb
            replace hW := hW.trans (hb.mono hW.size)
            replace N6 := N6.below hb
            replace N7 := N7.below hb
            replace N8 := N8.below hb
            replace N9 := N9.below hb
            replace N10 := N10.below hb
            replace N11 := N11.below hb
            replace N22 := N22.below hb
            replace N23 := N23.below hb
            replace N24 := N24.below hb
            clear hb
            clear N10
            clear N11
            go_wp2_with (fail)
            refine (rsub_walk H8.out H9.out l8 l9 N8 N9).mono ?_
            rintro e w24 ⟨A106, c106, y106, rfl, H106, N106, hb⟩
            replace N106 := N106.nums
            replace h4 := h4.next hb
            replace hB5 := hB5.next hb
            replace hW := hW.trans (hb.mono hW.size)
            replace N6 := N6.below hb
            replace N7 := N7.below hb
            replace N8 := N8.below hb
            replace N9 := N9.below hb
            replace N22 := N22.below hb
            replace N23 := N23.below hb
            replace N24 := N24.below hb
            replace N103 := N103.below hb
            clear hb
            clear N8
            clear N9
            go_wp2_with (fail)
            refine (rmul_walk H103.out H106.out N103 N106).mono ?_
            rintro e w25 ⟨A25, c25, y25, rfl, H25, N25, hb⟩
            replace N25 := N25.nums
            replace h4 := h4.next hb
            replace hB5 := hB5.next hb
            replace hW := hW.trans (hb.mono hW.size)
            replace N6 := N6.below hb
            replace N7 := N7.below hb
            replace N22 := N22.below hb
            replace N23 := N23.below hb
            replace N24 := N24.below hb
            replace N103 := N103.below hb
            replace N106 := N106.below hb
            clear hb
            clear N103
            clear N106
            go_wp2_with (fail)
            refine (radd_walk H24.out H25.out N24 N25).mono ?_
            rintro e w26 ⟨A26, c26, y26, rfl, H26, N26, hb⟩
            replace N26 := N26.nums
            replace h4 := h4.next hb
            replace hB5 := hB5.next hb
            replace hW := hW.trans (hb.mono hW.size)
            replace N6 := N6.below hb
            replace N7 := N7.below hb
            replace N22 := N22.below hb
            replace N23 := N23.below hb
            replace N24 := N24.below hb
            replace N25 := N25.below hb
            clear hb
            go_wp2_with (fail)
            refine (rsub_walk H24.out H25.out (Nat.mod_lt _ pn_pos) (Nat.mod_lt _ pn_pos) N24 N25).mono ?_
            rintro e w27 ⟨A27, c27, y27, rfl, H27, N27, hb⟩
            replace N27 := N27.nums
            replace h4 := h4.next hb
            replace hB5 := hB5.next hb
            replace hW := hW.trans (hb.mono hW.size)
            replace N6 := N6.below hb
            replace N7 := N7.below hb
            replace N22 := N22.below hb
            replace N23 := N23.below hb
            replace N24 := N24.below hb
            replace N25 := N25.below hb
            replace N26 := N26.below hb
            clear hb
            clear N24
            clear N25
            go_wp2_with (fail)
            refine (rmul_walk H26.out H26.out N26 N26).mono ?_
            rintro e w28 ⟨A28, c28, y28, rfl, H28, N28, hb⟩
            replace N28 := N28.nums
            replace h4 := h4.next hb
            replace hB5 := hB5.next hb
            replace hW := hW.trans (hb.mono hW.size)
            replace N6 := N6.below hb
            replace N7 := N7.below hb
            replace N22 := N22.below hb
            replace N23 := N23.below hb
            replace N26 := N26.below hb
            replace N27 := N27.below hb
            clear hb
            clear N26
            go_wp2_with (fail)
            refine (rmul_walk H27.out H27.out N27 N27).mono ?_
            rintro e w29 ⟨A120, c120, y120, rfl, H120, N120, hb⟩
            replace N120 := N120.nums
            replace h4 := h4.next hb
            replace hB5 := hB5.next hb
            replace hW := hW.trans (hb.mono hW.size)
            replace N6 := N6.below hb
            replace N7 := N7.below hb
            replace N22 := N22.below hb
            replace N23 := N23.below hb
            replace N27 := N27.below hb
            replace N28 := N28.below hb
            clear hb
            clear N27
            go_wp2_with (fail)
            refine (rmul_walk H6.out H120.out N6 N120).mono ?_
            rintro e w30 ⟨A29, c29, y29, rfl, H29, N29, hb⟩
            replace N29 := N29.nums
            replace h4 := h4.next hb
            replace hB5 := hB5.next hb
            replace hW := hW.trans (hb.mono hW.size)
            replace N6 := N6.below hb
            replace N7 := N7.below hb
            replace N22 := N22.below hb
            replace N23 := N23.below hb
            replace N28 := N28.below hb
            replace N120 := N120.below hb
            clear hb
            clear N120
            go_wp2_with (fail)
            go_roundw
            case rel => exact ⟨k + 1, (n : Int) - 1, A28, A29, A22, A23, c28, c29, c22, c23, y28, y29, y22, y23, by omega, rfl, rfl, rfl, rfl, rfl, hid (by have := HBK.out; omega), hid (by rw [HS.out]; exact H28.out), hid (by rw [HS.out]; exact H29.out), hid (by rw [HS.out]; exact H22.out), hid (by rw [HS.out]; exact H23.out), N28, N29, N22, N23, N6, N7, h4, hB5, hW⟩
            case measure => simp [intOf]
          · have hbe : ((cc : Int) % 2 == 1) = false := by simp; omega
            have HS : Hid (ladN u cb (k + 1) = lstep u false (ladN u cb k)) := hid (by rw [ladN, HST.out, hbe])
            clear HST
            go_wp2_with (fail)
            refine (radd_walk H8.out H9.out N8 N9).mono ?_
            rintro e w11 ⟨A17, c17, y17, rfl, H17, N17, hb⟩
            replace N17 := N17.nums
            replace h4 := h4.next hb
            replace hB5 := hB5.next hb
            replace hW := hW.trans (hb.mono hW.size)
            replace N6 := N6.below hb
            replace N7 := N7.below hb
            replace N8 := N8.below hb
            replace N9 := N9.below hb
            replace N10 := N10.below hb
            replace N11 := N11.below hb
            clear hb
            go_wp2_with (fail)
            refine (rsub_walk H8.out H9.out l8 l9 N8 N9).mono ?_
            rintro e w12 ⟨A18, c18, y18, rfl, H18, N18, hb⟩
            replace N18 := N18.nums
            replace h4 := h4.next hb
            replace hB5 := hB5.next hb
            replace hW := hW.trans (hb.mono hW.size)
            replace N6 := N6.below hb
            replace N7 := N7.below hb
            replace N8 := N8.below hb
            replace N9 := N9.below hb
            replace N10 := N10.below hb
            replace N11 := N11.below hb
            replace N17 := N17.below hb
            clear hb
            go_wp2_with (fail)
            refine (rmul_walk H17.out H17.out N17 N17).mono ?_
            rintro e w13 ⟨A19, c19, y19, rfl, H19, N19, hb⟩
            replace N19 := N19.nums
            replace h4 := h4.next hb
            replace hB5 := hB5.next hb
            replace hW := hW.trans (hb.mono hW.size)
            replace N6 := N6.below hb
            replace N7 := N7.below hb
            replace N8 := N8.below hb
            replace N9 := N9.below hb
            replace N10 := N10.below hb
            replace N11 := N11.below hb
            replace N17 := N17.below hb
            replace N18 := N18.below hb
            clear hb
            clear N17
            go_wp2_with (fail)
            refine (rmul_walk H18.out H18.out N18 N18).mono ?_
            rintro e w14 ⟨A20, c20, y20, rfl, H20, N20, hb⟩
            replace N20 := N20.nums
            replace h4 := h4.next hb
            replace hB5 := hB5.next hb
            replace hW := hW.trans (hb.mono hW.size)
            replace N6 := N6.below hb
            replace N7 := N7.below hb
            replace N8 := N8.below hb
            replace N9 := N9.below hb
            replace N10 := N10.below hb
            replace N11 := N11.below hb
            replace N18 := N18.below hb
            replace N19 := N19.below hb
            clear hb
            clear N18
            go_wp2_with (fail)
            refine (rsub_walk H19.out H20.out (Nat.mod_lt _ pn_pos) (Nat.mod_lt _ pn_pos) N19 N20).mono ?_
            rintro e w15 ⟨A21, c21, y21, rfl, H21, N21, hb⟩
            replace N21 := N21.nums
            replace h4 := h4.next hb
            replace hB5 := hB5.next hb
            replace hW := hW.trans (hb.mono hW.size)
            replace N6 := N6.below hb
            replace N7 := N7.below hb
            replace N8 := N8.below hb
            replace N9 := N9.below hb
            replace N10 := N10.below hb
            replace N11 := N11.below hb
            replace N19 := N19.below hb
            replace N20 := N20.below hb
            clear hb
            go_wp2_with (fail)
            refine (rmul_walk H19.out H20.out N19 N20).mono ?_
            rintro e w16 ⟨A22, c22, y22, rfl, H22, N22, hb⟩
            replace N22 := N22.nums
            replace h4 := h4.next hb
            replace hB5 := hB5.next hb
            replace hW := hW.trans (hb.mono hW.size)
            replace N6 := N6.below hb
            replace N7 := N7.below hb
            replace N8 := N8.below hb
            replace N9 := N9.below hb
            replace N10 := N10.below hb
            replace N11 := N11.below hb
            replace N19 := N19.below hb
            replace N20 := N20.below hb
            replace N21 := N21.below hb
            clear hb
            clear N20
            go_wp2_with (fail)
            refine (rmul_walk H7.out H21.out N7 N21).mono ?_
            rintro e w17 ⟨A91, c91, y91, rfl, H91, N91, hb⟩
            replace N91 := N91.nums
            replace h4 := h4.next hb
            replace hB5 := hB5.next hb
            replace hW := hW.trans (hb.mono hW.size)
            replace N6 := N6.below hb
            replace N7 := N7.below hb
            replace N8 := N8.below hb
            replace N9 := N9.below hb
            replace N10 := N10.below hb
            replace N11 := N11.below hb
            replace N19 := N19.below hb
            replace N21 := N21.below hb
            replace N22 := N22.below hb
            clear hb
            go_wp2_with (fail)
            refine (radd_walk H19.out H91.out N19 N91).mono ?_
            rintro e w18 ⟨A92, c92, y92, rfl, H92, N92, hb⟩
            replace N92 := N92.nums
            replace h4 := h4.next hb
            replace hB5 := hB5.next hb
            replace hW := hW.trans (hb.mono hW.size)
            replace N6 := N6.below hb
            replace N7 := N7.below hb
            replace N8 := N8.below hb
            replace N9 := N9.below hb
            replace N10 := N10.below hb
            replace N11 := N11.below hb
            replace N19 := N19.below hb
            replace N21 := N21.below hb
            replace N22 := N22.below hb
            replace N91 := N91.below hb
            clear hb
            clear N91
            clear N19
            go_wp2_with (fail)
            refine (rmul_walk H21.out H92.out N21 N92).mono ?_
            rintro e w19 ⟨A23, c23, y23, rfl, H23, N23, hb⟩
            replace N23 := N23.nums
            replace h4 := h4.next hb
            replace hB5 := hB5.next hb
            replace hW := hW.trans (hb.mono hW.size)
            replace N6 := N6.below hb
            replace N7 := N7.below hb
            replace N8 := N8.below hb
            replace N9 := N9.below hb
            replace N10 := N10.below hb
            replace N11 := N11.below hb
            replace N21 := N21.below hb
            replace N22 := N22.below hb
            replace N92 := N92.below hb
            clear hb
            clear N92
            clear N21
            go_wp2_with (fail)
            refine (rsub_walk H10.out H11.out l10 l11 N10 N11).mono ?_
            rintro e w20 ⟨A96, c96, y96, rfl, H96, N96, hb⟩
            replace N96 := N96.nums
            replace h4 := h4.next hb
            replace hB5 := hB5.next hb
            replace hW := hW.trans (hb.mono hW.size)
            replace N6 := N6.below hb
            replace N7 := N7.below hb
            replace N8 := N8.below hb
            replace N9 := N9.below hb
            replace N10 := N10.below hb
            replace N11 := N11.below hb
            replace N22 := N22.below hb
            replace N23 := N23.below hb
            clear hb
            go_wp2_with (fail)
            refine (radd_walk H8.out H9.out N8 N9).mono ?_
            rintro e w21 ⟨A99, c99, y99, rfl, H99, N99, hb⟩
            replace N99 := N99.nums
            replace h4 := h4.next hb
            replace hB5 := hB5.next hb
            replace hW := hW.trans (hb.mono hW.size)
            replace N6 := N6.below hb
            replace N7 := N7.below hb
            replace N8 := N8.below hb
            replace N9 := N9.below hb
            replace N10 := N10.below hb
            replace N11 := N11.below hb
            replace N22 := N22.below hb
            replace N23 := N23.below hb
            replace N96 := N96.below hb
            clear hb
            go_wp2_with (fail)
            refine (rmul_walk H96.out H99.out N96 N99).mono ?_
            rintro e w22 ⟨A24, c24, y24, rfl, H24, N24, hb⟩
            replace N24 := N24.nums
            replace h4 := h4.next hb
            replace hB5 := hB5.next hb
            replace hW := hW.trans (hb.mono hW.size)
            replace N6 := N6.below hb
            replace N7 := N7.below hb
            replace N8 := N8.below hb
            replace N9 := N9.below hb
            replace N10 := N10.below hb
            replace N11 := N11.below hb
            replace N22 := N22.below hb
            replace N23 := N23.below hb
            replace N96 := N96.below hb
            replace N99 := N99.below hb
            clear hb
            clear N96
            clear N99
            go_wp2_with (fail)
            refine (radd_walk H10.out H11.out N10 N11).mono ?_
            rintro e w23 ⟨A103, c103, y103, rfl, H103, N103, hb⟩
            replace N103 := N103.nums
            replace h4 := h4.next hb
            replace hB5 := hB5.next hb
            replace hW := hW.trans (hb.mono hW.size)
            replace N6 := N6.below hb
            replace N7 := N7.below hb
            replace N8 := N8.below hb
            replace N9 := N9.below hb
            replace N10 := N10.below hb
            replace N11 := N11.below hb
            replace N22 := N22.below hb
            replace N23 := N23.below hb
            replace N24 := N24.below hb
            clear hb
            clear N10
            clear N11
            go_wp2_with (fail)
            refine (rsub_walk H8.out H9.out l8 l9 N8 N9).mono ?_
            rintro e w24 ⟨A106, c106, y106, rfl, H106, N106, hb⟩
            replace N106 := N106.nums
            replace h4 := h4.next hb
            replace hB5 := hB5.next hb
            replace hW := hW.trans (hb.mono hW.size)
            replace N6 := N6.below hb
            replace N7 := N7.below hb
            replace N8 := N8.below hb
            replace N9 := N9.below hb
            replace N22 := N22.below hb
            replace N23 := N23.below hb
            replace N24 := N24.below hb
            replace N103 := N103.below hb
            clear hb
            clear N8
            clear N9
            go_wp2_with (fail)
            refine (rmul_walk H103.out H106.out N103 N106).mono ?_
            rintro e w25 ⟨A25, c25, y25, rfl, H25, N25, hb⟩
            replace N25 := N25.nums
            replace h4 := h4.next hb
            replace hB5 := hB5.next hb
            replace hW := hW.trans (hb.mono hW.size)
            replace N6 := N6.below hb
            replace N7 := N7.below hb
            replace N22 := N22.below hb
            replace N23 := N23.below hb
            replace N24 := N24.below hb
            replace N103 := N103.below hb
            replace N106 := N106.below hb
            clear hb
            clear N103
            clear N106
            go_wp2_with (fail)
            refine (radd_walk H24.out H25.out N24 N25).mono ?_
            rintro e w26 ⟨A26, c26, y26, rfl, H26, N26, hb⟩
            replace N26 := N26.nums
            replace h4 := h4.next hb
            replace hB5 := hB5.next hb
            replace hW := hW.trans (hb.mono hW.size)
            replace N6 := N6.below hb
            replace N7 := N7.below hb
            replace N22 := N22.below hb
            replace N23 := N23.below hb
            replace N24 := N24.below hb
            replace N25 := N25.below hb
            clear hb
            go_wp2_with (fail)
            refine (rsub_walk H24.out H25.out (Nat.mod_lt _ pn_pos) (Nat.mod_lt _ pn_pos) N24 N25).mono ?_
            rintro e w27 ⟨A27, c27, y27, rfl, H27, N27, hb⟩
            replace N27 := N27.nums
            replace h4 := h4.next hb
            replace hB5 := hB5.next hb
            replace hW := hW.trans (hb.mono hW.size)
            replace N6 := N6.below hb
            replace N7 := N7.below hb
            replace N22 := N22.below hb
            replace N23 := N23.below hb
            replace N24 := N24.below hb
            replace N25 := N25.below hb
            replace N26 := N26.below hb
            clear hb
            clear N24
            clear N25
            go_wp2_with (fail)
            refine (rmul_walk H26.out H26.out N26 N26).mono ?_
            rintro e w28 ⟨A28, c28, y28, rfl, H28, N28, hb⟩
            replace N28 := N28.nums
            replace h4 := h4.next hb
            replace hB5 := hB5.next hb
            replace hW := hW.trans (hb.mono hW.size)
            replace N6 := N6.below hb
            replace N7 := N7.below hb
            replace N22 := N22.below hb
            replace N23 := N23.below hb
            replace N26 := N26.below hb
            replace N27 := N27.below hb
            clear hb
            clear N26
            go_wp2_with (fail)
            refine (rmul_walk H27.out H27.out N27 N27).mono ?_
            rintro e w29 ⟨A120, c120, y120, rfl, H120, N120, hb⟩
            replace N120 := N120.nums
            replace h4 := h4.next hb
            replace hB5 := hB5.next hb
            replace hW := hW.trans (hb.mono hW.size)
            replace N6 := N6.below hb
            replace N7 := N7.below hb
            replace N22 := N22.below hb
            replace N23 := N23.below hb
            replace N27 := N27.below hb
            replace N28 := N28.below hb
            clear hb
            clear N27
            go_wp2_with (fail)
            refine (rmul_walk H6.out H120.out N6 N120).mono ?_
            rintro e w30 ⟨A29, c29, y29, rfl, H29, N29, hb⟩
            replace N29 := N29.nums
            replace h4 := h4.next hb
            replace hB5 := hB5.next hb
            replace hW := hW.trans (hb.mono hW.size)
            replace N6 := N6.below hb
            replace N7 := N7.below hb
            replace N22 := N22.below hb
            replace N23 := N23.below hb
            replace N28 := N28.below hb
            replace N120 := N120.below hb
            clear hb
            clear N120
            go_wp2_with (fail)
            go_roundw
            case rel => exact ⟨k + 1, (n : Int) - 1, A22, A23, A28, A29, c22, c23, c28, c29, y22, y23, y28, y29, by omega, rfl, rfl, rfl, rfl, rfl, hid (by have := HBK.out; omega), hid (by rw [HS.out]; exact H22.out), hid (by rw [HS.out]; exact H23.out), hid (by rw [HS.out]; exact H28.out), hid (by rw [HS.out]; exact H29.out), N22, N23, N28, N29, N6, N7, h4, hB5, hW⟩
            case measure => simp [intOf]
    
    · have e : k = 255 := by omega
      have hb0 : b < 0 := by have := HBK.out; omega
      rw [e] at H8 H9
      obtain ⟨_, l9, _, _⟩ := HLT.out 255
      clear e HBK N6 N7 N10 N11
      generalize ladN u cb 255 = S at *
      go_wp2_with (fail)
      refine (rp_out _).mono ?_
      rintro e w41 ⟨Ap, cp, yp, rfl, Hp, Np, hb⟩
      replace Np := Np.nums
      replace h4 := h4.next hb
      replace hB5 := hB5.next hb
      replace hW := hW.trans (hb.mono hW.size)
      replace N8 := N8.below hb
      replace N9 := N9.below hb
      clear hb
      go_wp2_with (fail)
      refine (rsmall_out 2 (by omega) _).mono ?_
      rintro e w42 ⟨As, cs, ys, rfl, Hs, Ns, hb⟩
      replace Ns := Ns.nums
      replace h4 := h4.next hb
      replace hB5 := hB5.next hb
      replace hW := hW.trans (hb.mono hW.size)
      replace N8 := N8.below hb
      replace N9 := N9.below hb
      replace Np := Np.below hb
      clear hb
      go_wp2_with (fail)
      refine (rless_out Hp.out Hs.out (by decide) Np Ns).mono ?_
      rintro e w43 ⟨Ad, cd, yd, rfl, Hd, Nd, hb⟩
      replace Nd := Nd.nums
      replace h4 := h4.next hb
      replace hB5 := hB5.next hb
      replace hW := hW.trans (hb.mono hW.size)
      replace N8 := N8.below hb
      replace N9 := N9.below hb
      replace Np := Np.below hb
      replace Ns := Ns.below hb
      clear hb
      clear Np
      clear Ns
      go_wp2_with (fail)
      refine (rbytes_out Hd.out Nd).mono ?_
      rintro e w50 ⟨rfl, hb⟩
      clear Nd
      replace h4 := h4.next hb
      replace hW := hW.trans (hb.mono hW.size)
      replace N8 := N8.below hb
      replace N9 := N9.below hb
      clear hb
      go_wp2_with (fail)
      refine (rpower_walk H9.out l9 (rbytes_length _) (rbytes_byt _) N9).mono ?_
      rintro e w51 ⟨At, ct, yt, rfl, Ht, Nt, hb⟩
      rw [pm2_bytes] at Ht
      replace Nt := Nt.nums
      replace h4 := h4.next hb
      replace hW := hW.trans (hb.mono hW.size)
      replace N8 := N8.below hb
      clear hb N9
      go_wp2_with (fail)
      refine (rmul_walk H8.out Ht.out N8 Nt).mono ?_
      rintro e w52 ⟨Ar, cr, yr, rfl, Hr, Nr, hb⟩
      replace Nr := Nr.nums
      replace h4 := h4.next hb
      replace hW := hW.trans (hb.mono hW.size)
      clear hb N8 Nt
      go_wp2_with (fail)
      refine (rbytes_out Hr.out Nr).mono ?_
      rintro e w53 ⟨rfl, hb⟩
      replace h4 := h4.next hb
      replace hW := hW.trans (hb.mono hW.size)
      clear hb Nr
      have LM : Hid (m.length = 32) := hid (by rw [← hm.out]; exact rbytes_length _)
      have em : rbytes (S.a * (S.b ^ (NT.PN - 2) % NT.PN) % NT.PN) = m := hm.out
      rw [em]
      have r4 := h4.room LM.out
      have hf4 := h4.stored LM.out
      replace hW := Below.setCells hW (g := W.heap.size + 1 + 1) (by omega) 0 (ints .u8 m).toArray.toList
      clear h4 em Hr Ht
      go_wp2_with (first
        | (with_reducible refine wpList_store_mid (op := ⟨none, .store 22 (.tmp 4) (.tmp 141), _, _, _, _⟩) rfl 22 (.tmp 4) (.tmp 141) rfl (W.heap.size + 1 + 1) 0 (ints .u8 m).toArray rfl rfl r4 (a22 LM.out) (ints_all _ _) ?_))
      exact ret_rows rfl (W.heap.size + 1 + 1) 0 rfl (ints .u8 m) _ hf4.range Try.underlying22 rfl (l22 LM.out) rfl ⟨rfl, hW⟩
theorem c_rladder {sb pb : List Int} (ls : sb.length = 32) (bs : Byt sb) (lp : pb.length = 32) (bp : Byt pb) : CallsTo 6 #[.agg (ints .u8 sb).toArray, .agg (ints .u8 pb).toArray] (.agg (ints .u8 (rbytes (mulN sb (uOf pb)))).toArray) :=
  rladder_core ls lp ((clampL_length sb).trans ls) (hid (clampL_byt bs ls)) (hid (c_rclamp ls bs)) (hid (fun _ => rof_out lp bp (uOf_nm bp))) (hid (uOf_nm bp).lt) (hid rfl)
end Go.Proofs.Ytoncinbohfmciaa

/- Shared, Base, Public. -/
namespace Go.Proofs.Ytoncinbohfmciaa
open Go Go.RowKit

theorem cf8 (vs : Array Value) (w : World) : (callFunc 8 vs).run Try.prog w = .ok (.enter 8 vs) w := by go_simp
theorem cf12b (vs : Array Value) (w : World) : (callFunc 12 vs).run Try.prog w = .ok (.enter 12 vs) w := by go_simp
set_option maxRecDepth 4000 in
set_option maxHeartbeats 4000000 in
theorem shared_yes {sb pb m : List Int} (lsb : sb.length = 32) (lpb : pb.length = 32) (lm : m.length = 32) (kmul : CallsTo 8 #[.agg (ints .u8 sb).toArray, .agg (ints .u8 pb).toArray] (.agg (ints .u8 m).toArray)) (hd : Hid (decide (m = rbytes 0) = true)) :
    CallsTo 7 #[.agg (ints .u8 sb).toArray, .agg (ints .u8 pb).toArray] (.tuple #[.agg (ints .u8 m).toArray, .int .i64 21]) := fun W => by
  obtain ⟨z22, s22⟩ := zero_of_info inf22
  have hS2 := ((By.new W sb lsb).next (below_new _ (.cells (ints .u8 pb).toArray 22))).next (below_new _ (.cells (ints .u8 (zeros 32)).toArray 22))
  have hS3 := (By.new (W.alloc (.cells (ints .u8 sb).toArray 22)) pb lpb).next (below_new _ (.cells (ints .u8 (zeros 32)).toArray 22))
  have h4 := By.new ((W.alloc (.cells (ints .u8 sb).toArray 22)).alloc (.cells (ints .u8 pb).toArray 22)) (zeros 32) (zeros_len 32)
  have hW := ((below_new W (.cells (ints .u8 sb).toArray 22)).alloc (by simp) (.cells (ints .u8 pb).toArray 22)).alloc (by simp; omega) (.cells (ints .u8 (zeros 32)).toArray 22)
  simp only [World.size_alloc] at hS3 h4
  go_enter Try.func7, Try.ntmps7
  go_upto_region 1 with (fail)
  generalize ((W.alloc (.cells (ints .u8 sb).toArray 22)).alloc (.cells (ints .u8 pb).toArray 22)).alloc (.cells (ints .u8 (zeros 32)).toArray 22) = w0 at *
  have s0 := hW.size
  refine region_seq2 4 15 (fun i => i == 3) [Is (.agg (ints .u8 sb).toArray), Is (.agg (ints .u8 pb).toArray), Is (.agg (ints .u8 m).toArray), IsZ22 w0.heap.size] [7, 8, 9, 6] (by kernel_rfl) (by kernel_rfl) (Nat.le_of_eq rfl) (grows_cons (Is.grows _) (grows_cons (Is.grows _) (grows_cons (Is.grows _) (grows_cons (IsZ22.grows _) grows_nil))))
    ⟨step_by rfl (.inl rfl) hS2 2 rfl (by kernel_rfl) rfl rfl,
     step_by rfl (.inl rfl) hS3 3 rfl (by kernel_rfl) rfl rfl,
     step_to rfl (.inl rfl) rfl cf8 kmul rfl (two_args (knows_in 0 7 (by decide) (by kernel_rfl) rfl rfl) (knows_in 1 8 (by decide) (by kernel_rfl) rfl rfl)),
     step_alloc22 (.inl rfl) rfl rfl, trivial⟩ ?_
  intro val w1 hw hS hap hla
  have e7 : val 7 = (.agg (ints .u8 sb).toArray) := hS 0 7 (by decide) rfl
  have e8 : val 8 = (.agg (ints .u8 pb).toArray) := hS 1 8 (by decide) rfl
  have e9 : val 9 = (.agg (ints .u8 m).toArray) := hS 2 9 (by decide) rfl
  obtain ⟨b6, e6, L6, Z6⟩ := hS 3 6 (by decide) rfl
  simp only [putVals, List.foldl_cons, List.foldl_nil, List.drop_succ_cons, List.drop_zero, Act.put, List.setIfInBounds_toArray, List.set_cons_succ, List.set_cons_zero, e7, e8, e9, e6]
  clear hS hap hla e7 e8 e9 e6
  have LL6 := hid lm
  have R6 := Z6.room (l' := m) lm
  have hB6 := Z6.stored (l' := m) lm
  replace hS2 := hS2.next (Below.setCells hw L6 0 (ints .u8 m).toArray.toList)
  replace hS3 := hS3.next (Below.setCells hw L6 0 (ints .u8 m).toArray.toList)
  replace h4 := h4.next (Below.setCells hw L6 0 (ints .u8 m).toArray.toList)
  replace hW := hW.trans (Below.mono (Below.setCells hw L6 0 (ints .u8 m).toArray.toList) hW.size)
  with_reducible refine wpList_store_mid (op := ⟨none, .store 22 (.tmp 6) (.tmp 9), _, _, _, _⟩) rfl 22 (.tmp 6) (.tmp 9) rfl b6 0 (ints .u8 m).toArray rfl rfl R6 (a22 LL6.out) (ints_all _ _) ?_
  generalize (w1.setCells b6 0 (ints .u8 m).toArray.toList) = w2 at *
  clear hw  R6 LL6 Z6 
  clear hS2 hS3
  go_upto_region 2 with (fail)
  have s2 := hW.size
  refine region_seq2 3 15 (fun _ => false) [Is (.agg (ints .u8 m).toArray), Is (.agg (ints .u8 (rbytes 0)).toArray), Is (.bool (decide (m = rbytes 0)))] [10, 11, 12] (by kernel_rfl) (by kernel_rfl) (Nat.le_of_eq rfl) (grows_cons (Is.grows _) (grows_cons (Is.grows _) (grows_cons (Is.grows _) grows_nil)))
    ⟨step_by rfl (.inl rfl) hB6 6 rfl (by kernel_rfl) rfl rfl,
     step_zero22 rfl (.inl rfl) rfl rfl,
     step_eq22 rfl (.inl rfl) rfl lm (rbytes_length _) rfl (knows_in 0 10 (by decide) (by kernel_rfl) rfl rfl) (knows_in 1 11 (by decide) (by kernel_rfl) rfl rfl), trivial⟩ ?_
  intro val w3 hw hS hap hla
  have e10 : val 10 = (.agg (ints .u8 m).toArray) := hS 0 10 (by decide) rfl
  have e11 : val 11 = (.agg (ints .u8 (rbytes 0)).toArray) := hS 1 11 (by decide) rfl
  have e12 : val 12 = (.bool (decide (m = rbytes 0))) := hS 2 12 (by decide) rfl
  simp only [putVals, List.foldl_cons, List.foldl_nil, List.drop_succ_cons, List.drop_zero, Act.put, List.setIfInBounds_toArray, List.set_cons_succ, List.set_cons_zero, e10, e11, e12]
  clear hS hap hla e10 e11 e12
  replace h4 := h4.next hw
  replace hB6 := hB6.next hw
  replace hW := hW.trans (Below.mono hw hW.size)
  clear hw
  rw [hd.out]
  have LM := hid lm
  have lt4 := h4.lt
  have r4 := h4.room LM.out
  have hf4 := h4.stored LM.out
  replace hW := Below.setCells hW (g := W.heap.size + 1 + 1) (by omega) 0 (ints .u8 m).toArray.toList
  clear lm h4 kmul hd lsb lpb
  go_wp2_with (first
    | (with_reducible refine wpList_load_mid (op := ⟨some 13, .load 22 (.tmp 6), _, _, _, _⟩) rfl 22 (.tmp 6) rfl b6 0 rfl (ints .u8 m) _ (hB6.range) Try.underlying22 rfl (l22 LM.out) ?_)
    | (with_reducible refine wpList_store_mid (op := ⟨none, .store 22 (.tmp 4) (.tmp 13), _, _, _, _⟩) rfl 22 (.tmp 4) (.tmp 13) rfl (W.heap.size + 1 + 1) 0 (ints .u8 m).toArray rfl rfl r4 (a22 LM.out) (ints_all _ _) ?_))
  exact bodyPost_ret (results_row2 rfl _ _ (W.heap.size + 1 + 1) 0 rfl (.int .i64 21) rfl (ints .u8 m) _ hf4.range Try.underlying22 rfl (l22 LM.out)) rfl ⟨rfl, hW⟩

set_option maxRecDepth 4000 in
set_option maxHeartbeats 4000000 in
theorem shared_no {sb pb m : List Int} (lsb : sb.length = 32) (lpb : pb.length = 32) (lm : m.length = 32) (kmul : CallsTo 8 #[.agg (ints .u8 sb).toArray, .agg (ints .u8 pb).toArray] (.agg (ints .u8 m).toArray)) (hd : Hid (decide (m = rbytes 0) = false)) :
    CallsTo 7 #[.agg (ints .u8 sb).toArray, .agg (ints .u8 pb).toArray] (.tuple #[.agg (ints .u8 m).toArray, .int .i64 0]) := fun W => by
  obtain ⟨z22, s22⟩ := zero_of_info inf22
  have hS2 := ((By.new W sb lsb).next (below_new _ (.cells (ints .u8 pb).toArray 22))).next (below_new _ (.cells (ints .u8 (zeros 32)).toArray 22))
  have hS3 := (By.new (W.alloc (.cells (ints .u8 sb).toArray 22)) pb lpb).next (below_new _ (.cells (ints .u8 (zeros 32)).toArray 22))
  have h4 := By.new ((W.alloc (.cells (ints .u8 sb).toArray 22)).alloc (.cells (ints .u8 pb).toArray 22)) (zeros 32) (zeros_len 32)
  have hW := ((below_new W (.cells (ints .u8 sb).toArray 22)).alloc (by simp) (.cells (ints .u8 pb).toArray 22)).alloc (by simp; omega) (.cells (ints .u8 (zeros 32)).toArray 22)
  simp only [World.size_alloc] at hS3 h4
  go_enter Try.func7, Try.ntmps7
  go_upto_region 1 with (fail)
  generalize ((W.alloc (.cells (ints .u8 sb).toArray 22)).alloc (.cells (ints .u8 pb).toArray 22)).alloc (.cells (ints .u8 (zeros 32)).toArray 22) = w0 at *
  have s0 := hW.size
  refine region_seq2 4 15 (fun i => i == 3) [Is (.agg (ints .u8 sb).toArray), Is (.agg (ints .u8 pb).toArray), Is (.agg (ints .u8 m).toArray), IsZ22 w0.heap.size] [7, 8, 9, 6] (by kernel_rfl) (by kernel_rfl) (Nat.le_of_eq rfl) (grows_cons (Is.grows _) (grows_cons (Is.grows _) (grows_cons (Is.grows _) (grows_cons (IsZ22.grows _) grows_nil))))
    ⟨step_by rfl (.inl rfl) hS2 2 rfl (by kernel_rfl) rfl rfl,
     step_by rfl (.inl rfl) hS3 3 rfl (by kernel_rfl) rfl rfl,
     step_to rfl (.inl rfl) rfl cf8 kmul rfl (two_args (knows_in 0 7 (by decide) (by kernel_rfl) rfl rfl) (knows_in 1 8 (by decide) (by kernel_rfl) rfl rfl)),
     step_alloc22 (.inl rfl) rfl rfl, trivial⟩ ?_
  intro val w1 hw hS hap hla
  have e7 : val 7 = (.agg (ints .u8 sb).toArray) := hS 0 7 (by decide) rfl
  have e8 : val 8 = (.agg (ints .u8 pb).toArray) := hS 1 8 (by decide) rfl
  have e9 : val 9 = (.agg (ints .u8 m).toArray) := hS 2 9 (by decide) rfl
  obtain ⟨b6, e6, L6, Z6⟩ := hS 3 6 (by decide) rfl
  simp only [putVals, List.foldl_cons, List.foldl_nil, List.drop_succ_cons, List.drop_zero, Act.put, List.setIfInBounds_toArray, List.set_cons_succ, List.set_cons_zero, e7, e8, e9, e6]
  clear hS hap hla e7 e8 e9 e6
  have LL6 := hid lm
  have R6 := Z6.room (l' := m) lm
  have hB6 := Z6.stored (l' := m) lm
  replace hS2 := hS2.next (Below.setCells hw L6 0 (ints .u8 m).toArray.toList)
  replace hS3 := hS3.next (Below.setCells hw L6 0 (ints .u8 m).toArray.toList)
  replace h4 := h4.next (Below.setCells hw L6 0 (ints .u8 m).toArray.toList)
  replace hW := hW.trans (Below.mono (Below.setCells hw L6 0 (ints .u8 m).toArray.toList) hW.size)
  with_reducible refine wpList_store_mid (op := ⟨none, .store 22 (.tmp 6) (.tmp 9), _, _, _, _⟩) rfl 22 (.tmp 6) (.tmp 9) rfl b6 0 (ints .u8 m).toArray rfl rfl R6 (a22 LL6.out) (ints_all _ _) ?_
  generalize (w1.setCells b6 0 (ints .u8 m).toArray.toList) = w2 at *
  clear hw  R6 LL6 Z6 
  clear hS2 hS3
  go_upto_region 2 with (fail)
  have s2 := hW.size
  refine region_seq2 3 15 (fun _ => false) [Is (.agg (ints .u8 m).toArray), Is (.agg (ints .u8 (rbytes 0)).toArray), Is (.bool (decide (m = rbytes 0)))] [10, 11, 12] (by kernel_rfl) (by kernel_rfl) (Nat.le_of_eq rfl) (grows_cons (Is.grows _) (grows_cons (Is.grows _) (grows_cons (Is.grows _) grows_nil)))
    ⟨step_by rfl (.inl rfl) hB6 6 rfl (by kernel_rfl) rfl rfl,
     step_zero22 rfl (.inl rfl) rfl rfl,
     step_eq22 rfl (.inl rfl) rfl lm (rbytes_length _) rfl (knows_in 0 10 (by decide) (by kernel_rfl) rfl rfl) (knows_in 1 11 (by decide) (by kernel_rfl) rfl rfl), trivial⟩ ?_
  intro val w3 hw hS hap hla
  have e10 : val 10 = (.agg (ints .u8 m).toArray) := hS 0 10 (by decide) rfl
  have e11 : val 11 = (.agg (ints .u8 (rbytes 0)).toArray) := hS 1 11 (by decide) rfl
  have e12 : val 12 = (.bool (decide (m = rbytes 0))) := hS 2 12 (by decide) rfl
  simp only [putVals, List.foldl_cons, List.foldl_nil, List.drop_succ_cons, List.drop_zero, Act.put, List.setIfInBounds_toArray, List.set_cons_succ, List.set_cons_zero, e10, e11, e12]
  clear hS hap hla e10 e11 e12
  replace h4 := h4.next hw
  replace hB6 := hB6.next hw
  replace hW := hW.trans (Below.mono hw hW.size)
  clear hw
  rw [hd.out]
  have LM := hid lm
  have lt4 := h4.lt
  have r4 := h4.room LM.out
  have hf4 := h4.stored LM.out
  replace hW := Below.setCells hW (g := W.heap.size + 1 + 1) (by omega) 0 (ints .u8 m).toArray.toList
  clear lm h4 kmul hd lsb lpb
  go_wp2_with (first
    | (with_reducible refine wpList_load_mid (op := ⟨some 14, .load 22 (.tmp 6), _, _, _, _⟩) rfl 22 (.tmp 6) rfl b6 0 rfl (ints .u8 m) _ (hB6.range) Try.underlying22 rfl (l22 LM.out) ?_)
    | (with_reducible refine wpList_store_mid (op := ⟨none, .store 22 (.tmp 4) (.tmp 14), _, _, _, _⟩) rfl 22 (.tmp 4) (.tmp 14) rfl (W.heap.size + 1 + 1) 0 (ints .u8 m).toArray rfl rfl r4 (a22 LM.out) (ints_all _ _) ?_))
  exact bodyPost_ret (results_row2 rfl _ _ (W.heap.size + 1 + 1) 0 rfl (.int .i64 0) rfl (ints .u8 m) _ hf4.range Try.underlying22 rfl (l22 LM.out)) rfl ⟨rfl, hW⟩

set_option maxRecDepth 4000 in
set_option maxHeartbeats 4000000 in
theorem public_core {sb bb m : List Int} (lsb : sb.length = 32) (lm : m.length = 32) (kbase : CallsTo 12 #[] (.agg (ints .u8 bb).toArray)) (kmul : CallsTo 8 #[.agg (ints .u8 sb).toArray, .agg (ints .u8 bb).toArray] (.agg (ints .u8 m).toArray)) :
    CallsTo 11 #[.agg (ints .u8 sb).toArray] (.agg (ints .u8 m).toArray) := fun W => by
  obtain ⟨z22, s22⟩ := zero_of_info inf22
  have hS2 := (By.new W sb lsb).next (below_new _ (.cells (ints .u8 (zeros 32)).toArray 22))
  have h2 := By.new (W.alloc (.cells (ints .u8 sb).toArray 22)) (zeros 32) (zeros_len 32)
  have hW := (below_new W (.cells (ints .u8 sb).toArray 22)).alloc (by simp) (.cells (ints .u8 (zeros 32)).toArray 22)
  simp only [World.size_alloc] at h2
  go_enter Try.func11, Try.ntmps11
  go_wp2_with (fail)
  generalize (W.alloc (.cells (ints .u8 sb).toArray 22)).alloc (.cells (ints .u8 (zeros 32)).toArray 22) = w0 at *
  have s0 := hW.size
  refine region_spec2 3 6 (fun _ => false) [Is (.agg (ints .u8 sb).toArray), Is (.agg (ints .u8 bb).toArray), Is (.agg (ints .u8 m).toArray)] [3, 4, 5] (by kernel_rfl) (by kernel_rfl) (by kernel_rfl) (Nat.le_of_eq rfl) (grows_cons (Is.grows _) (grows_cons (Is.grows _) (grows_cons (Is.grows _) grows_nil)))
    ⟨step_by rfl (.inl rfl) hS2 1 rfl (by kernel_rfl) rfl rfl,
     step_to0 rfl (.inl rfl) rfl cf12b kbase rfl,
     step_to rfl (.inl rfl) rfl cf8 kmul rfl (two_args (knows_in 0 3 (by decide) (by kernel_rfl) rfl rfl) (knows_in 1 4 (by decide) (by kernel_rfl) rfl rfl)), trivial⟩ ?_
  intro val w1 hw hS hap hla
  have e3 : val 3 = (.agg (ints .u8 sb).toArray) := hS 0 3 (by decide) rfl
  have e4 : val 4 = (.agg (ints .u8 bb).toArray) := hS 1 4 (by decide) rfl
  have e5 : val 5 = (.agg (ints .u8 m).toArray) := hS 2 5 (by decide) rfl
  simp only [putVals, List.foldl_cons, List.foldl_nil, List.drop_succ_cons, List.drop_zero, Act.put, List.setIfInBounds_toArray, List.set_cons_succ, List.set_cons_zero, e3, e4, e5]
  clear hS hap hla e3 e4 e5
  replace hS2 := hS2.next hw
  replace h2 := h2.next hw
  replace hW := hW.trans (Below.mono hw hW.size)
  clear hw
  have LM := hid lm
  have r4 := h2.room LM.out
  have hf4 := h2.stored LM.out
  replace hW := Below.setCells hW (g := W.heap.size + 1) (by omega) 0 (ints .u8 m).toArray.toList
  clear lm h2 kmul lsb kbase
  go_wp2_with (first
    | (with_reducible refine wpList_store_mid (op := ⟨none, .store 22 (.tmp 2) (.tmp 5), _, _, _, _⟩) rfl 22 (.tmp 2) (.tmp 5) rfl (W.heap.size + 1) 0 (ints .u8 m).toArray rfl rfl r4 (a22 LM.out) (ints_all _ _) ?_))
  exact ret_rows rfl (W.heap.size + 1) 0 rfl (ints .u8 m) _ hf4.range Try.underlying22 rfl (l22 LM.out) rfl ⟨rfl, hW⟩

def baseL : List Int := 9 :: zeros 31
theorem built22b : Try.prog.built 22 [(0, .int .u8 9)] = some (ints .u8 baseL).toArray := by kernel_rfl
theorem c_base : CallsTo 12 #[] (.agg (ints .u8 baseL).toArray) := fun W => by
  obtain ⟨z22, s22⟩ := zero_of_info inf22
  have h0 := By.new W (zeros 32) (zeros_len 32)
  have hW := below_new W (.cells (ints .u8 (zeros 32)).toArray 22)
  have LM := hid (show baseL.length = 32 by simp [baseL, zeros])
  have r0 := h0.room LM.out
  have hf := h0.stored LM.out
  replace hW := Below.setCells hW (g := W.heap.size) (Nat.le_refl _) 0 (ints .u8 baseL).toArray.toList
  have hb22 := built22b
  generalize baseL = m at *
  go_enter Try.func12, Try.ntmps12
  go_upto_region 1 with (fail)
  refine wp_region_lit ?_
  refine wpList_built rfl 22 #[(0, .const (.int .u8 9))] rfl [(0, .int .u8 9)] _ (by simp [Act.eval]) hb22 ?_
  simp only [Act.put, List.setIfInBounds_toArray, List.set_cons_succ, List.set_cons_zero]
  with_reducible refine wpList_store_mid (op := ⟨none, .store 22 (.tmp 0) (.tmp 1), _, _, _, _⟩) rfl 22 (.tmp 0) (.tmp 1) rfl W.heap.size 0 (ints .u8 m).toArray rfl rfl r0 (a22 LM.out) (ints_all _ _) ?_
  go_wp2_with (fail)
  exact ret_rows rfl W.heap.size 0 rfl (ints .u8 m) _ hf.range Try.underlying22 rfl (l22 LM.out) rfl ⟨rfl, hW⟩
theorem base_byt : Byt baseL := fun x hx => by
  rcases List.mem_cons.1 hx with h | h
  · omega
  · have := List.eq_of_mem_replicate h
    omega
theorem base_len : baseL.length = 32 := by simp [baseL, zeros]
theorem c_shared {sb pb : List Int} (ls : sb.length = 32) (bs : Byt sb) (lp : pb.length = 32) (bp : Byt pb) (d : Bool) (hd : decide (rbytes (mulN sb (uOf pb)) = rbytes 0) = d) : CallsTo 7 #[.agg (ints .u8 sb).toArray, .agg (ints .u8 pb).toArray] (.tuple #[.agg (ints .u8 (rbytes (mulN sb (uOf pb)))).toArray, .int .i64 (if d then 21 else 0)]) := by
  cases d with
  | true => exact shared_yes ls lp (rbytes_length _) (c_lmul ls bs lp bp) (hid hd)
  | false => exact shared_no ls lp (rbytes_length _) (c_lmul ls bs lp bp) (hid hd)
theorem c_public {sb : List Int} (ls : sb.length = 32) (bs : Byt sb) : CallsTo 11 #[.agg (ints .u8 sb).toArray] (.agg (ints .u8 (rbytes (mulN sb (uOf baseL)))).toArray) :=
  public_core ls (rbytes_length _) c_base (c_lmul ls bs base_len base_byt)
end Go.Proofs.Ytoncinbohfmciaa

/- Any secret and any point: the walk. -/
namespace Go.Proofs.Ytoncinbohfmciaa
open Go Go.RowKit

section
variable {ops : Array Oper} {md : Region.Mode} {W : World} {a0 : Act} {n : Nat} {al : Nat → Bool} {S : Nat → Value → World → Prop} {Q : Exit → Act → World → Prop} {i : Nat} {o : Oper}
theorem step_one22 (hal : al i = false) (hg : GuardOn ops md n S i o) {c : Int} {m : List Int} (ho : o.op = .build 22 #[(0, .const (.int .u8 c))]) (hb : Try.prog.built 22 [(0, .int .u8 c)] = some (ints .u8 m).toArray) (hS : S i = Is (.agg (ints .u8 m).toArray)) : StepOk Try.prog ops md W a0 n al S Q i o :=
  step_run hal hg fun a w hw hf hd => ⟨.agg (ints .u8 m).toArray, by
    have hc : a.eval (.const (.int .u8 c)) = .int .u8 c := rfl
    revert hc
    generalize a.eval = ev
    intro hc
    have h := run_build (P := Try.prog) w 22 #[(0, .int .u8 c)] _ hb
    unfold execOp
    simp only [ho, Sem.run_bind]
    simp only [List.map_toArray, List.map_cons, List.map_nil, hc, h, Result.andThen_ok, Sem.run_pure], by rw [hS]; exact rfl⟩
theorem step_eqE (hal : al i = false) (hg : GuardOn ops md n S i o) {x : Operand} {a c : Int} {b : Bool} (ho : o.op = .binOp .eql 25 x (.const (.int .i64 c)) 25) (hS : S i = Is (.bool b)) (hb : b = (a == c)) (hx : Knows ops md W a0 n S i x (.int .i64 a)) : StepOk Try.prog ops md W a0 n al S Q i o :=
  step_run hal hg fun a' w hw hf hd => ⟨.bool b, by
    have h := hx a' w hw hf hd
    have hc : a'.eval (.const (.int .i64 c)) = .int .i64 c := rfl
    rw [hb]
    revert h hc
    generalize a'.eval = ev
    intro h hc
    unfold execOp
    simp only [ho, h, hc]
    go_simp, by rw [hS]; exact rfl⟩
end
theorem cf6 (vs : Array Value) (w : World) : (callFunc 6 vs).run Try.prog w = .ok (.enter 6 vs) w := by go_simp
theorem cf7 (vs : Array Value) (w : World) : (callFunc 7 vs).run Try.prog w = .ok (.enter 7 vs) w := by go_simp
theorem cf10c (vs : Array Value) (w : World) : (callFunc 10 vs).run Try.prog w = .ok (.enter 10 vs) w := by go_simp
theorem cf11p (vs : Array Value) (w : World) : (callFunc 11 vs).run Try.prog w = .ok (.enter 11 vs) w := by go_simp
def eightL : List Int := 8 :: zeros 31
theorem built22e : Try.prog.built 22 [(0, .int .u8 8)] = some (ints .u8 eightL).toArray := by kernel_rfl
theorem eight_len : eightL.length = 32 := by simp [eightL, zeros]
theorem eight_byt : Byt eightL := fun x hx => by
  rcases List.mem_cons.1 hx with h | h
  · omega
  · have := List.eq_of_mem_replicate h
    omega
theorem rbytes_inj {m n : Nat} (hm : m < NT.PN) (hn : n < NT.PN) (h : rbytes m = rbytes n) : m = n := by
  have h1 := of_bytes m hm
  rw [h] at h1
  exact h1.2.symm.trans (of_bytes n hn).2
set_option maxRecDepth 10000 in
theorem lad8 : (ladN 9 (clampL eightL) 255).a ≠ 0 ∧ (ladN 9 (clampL eightL) 255).b ≠ 0 := by decide +kernel
theorem base9 : uOf baseL = 9 := by decide +kernel
theorem nat_nz {a : Nat} (ha : a ≠ 0) (hl : a < NT.PN) : ¬ Eqv (a : Int) 0 := fun e => by
  have e1 : (a : Int) % P = 0 % P := e
  rw [← pn_int] at e1
  have e2 : ((a % NT.PN : Nat) : Int) = 0 := by rw [Int.natCast_emod, e1]; exact Int.zero_emod _
  rw [Nat.mod_eq_of_lt hl] at e2
  omega
theorem nat_z {a : Nat} (h : a % NT.PN = 0) : Eqv (a : Int) 0 := by
  show (a : Int) % P = 0 % P
  rw [← pn_int, ← Int.natCast_emod, h]; rfl
theorem out_neK {a b k : Nat} (h1 : Eqv ((b : Int) * (b : Int) ^ k) 1) (ha : a ≠ 0) (hal : a < NT.PN) : a * (b ^ k % NT.PN) % NT.PN ≠ 0 := fun h => by
  have h2 := nat_z h
  rw [Int.natCast_mul] at h2
  rcases mul_zero h2 with h3 | h3
  · exact nat_nz ha hal h3
  · have h4 : Eqv ((b : Int) ^ k) 0 := by
      have e : Eqv (((b ^ k % NT.PN : Nat) : Int)) ((b : Int) ^ k) := by
        show _ % P = _ % P
        rw [Int.natCast_emod, pn_int, Int.emod_emod, Int.natCast_pow]
      exact e.symm.trans h3
    have h5 := h1.symm.trans ((Eqv.refl (b : Int)).mul h4)
    rw [Int.mul_zero] at h5
    exact absurd h5 (by show ¬ ((1 : Int) % P = 0 % P); decide)
theorem out_ne {S : L4} (ha : S.a ≠ 0) (hal : S.a < NT.PN) (hb : S.b ≠ 0) (hbl : S.b < NT.PN) : outN S ≠ 0 := fun h => by
  have h1 := inv_one (nat_nz hb hbl)
  have h2 : ∀ k, Eqv ((S.b : Int) * (S.b : Int) ^ k) 1 → S.a * (S.b ^ k % NT.PN) % NT.PN ≠ 0 := fun k h => out_neK h ha hal
  exact h2 _ h1 h
theorem outN_lt (S : L4) : outN S < NT.PN := Nat.mod_lt _ pn_pos
theorem mulN_eq (b : List Int) (u : Nat) : mulN b u = outN (ladN u (clampL b) 255) := rfl
theorem bytes_ne {b : List Int} {u : Nat} (hu : u < NT.PN) (ha : (ladN u (clampL b) 255).a ≠ 0) (hb : (ladN u (clampL b) 255).b ≠ 0) : rbytes (mulN b u) ≠ rbytes 0 := fun e => by
  have hl := ladN_lt (clampL b) hu 255
  rw [mulN_eq] at e
  exact out_ne ha hl.1 hb hl.2.1 (rbytes_inj (outN_lt _) pn_pos e)
theorem pub8 : ∃ pn, CallsTo 11 #[.agg (ints .u8 eightL).toArray] (.agg (ints .u8 (rbytes pn)).toArray) ∧ (!decide (rbytes pn = rbytes 0)) = true := by
  refine ⟨mulN eightL (uOf baseL), c_public eight_len eight_byt, ?_⟩
  have h : ∀ u, u = 9 → rbytes (mulN eightL u) ≠ rbytes 0 := fun u e => by
    subst e
    exact bytes_ne (by decide) lad8.1 lad8.2
  have h2 := h _ base9
  rw [decide_eq_false h2]; rfl
set_option maxRecDepth 4000 in
set_option maxHeartbeats 4000000 in
theorem awake_any (W : World) : Calls Try.prog 5 #[] W fun e w' => e = .returned (.bool true) ∧ Below W.heap.size W w' := by
  obtain ⟨pn, kpub, HNE⟩ := pub8
  have hW := Below.refl W.heap.size W
  go_enter Try.func5, Try.ntmps5
  go_upto_region 1 with (fail)
  generalize hw0 : W = w0 at hW ⊢
  subst hw0
  have s0 := hW.size
  refine region_seq2 10 10 (fun _ => false) [Is (.agg (ints .u8 baseL).toArray), Is (.agg (ints .u8 baseL).toArray), Is (.bool true), Is (.bool true), Is (.agg (ints .u8 eightL).toArray), Is (.agg (ints .u8 (rbytes pn)).toArray), Is (.agg (ints .u8 (rbytes 0)).toArray), Is (.bool true), Is (.bool true), Is (.bool true)] [1, 2, 3, 4, 5, 6, 7, 8, 9, 0] (by kernel_rfl) (by kernel_rfl) (Nat.le_of_eq rfl) (grows_cons (Is.grows _) (grows_cons (Is.grows _) (grows_cons (Is.grows _) (grows_cons (Is.grows _) (grows_cons (Is.grows _) (grows_cons (Is.grows _) (grows_cons (Is.grows _) (grows_cons (Is.grows _) (grows_cons (Is.grows _) (grows_cons (Is.grows _) grows_nil))))))))))
    ⟨step_to0 rfl (.inl rfl) rfl cf12b c_base rfl,
     step_one22 rfl (.inl rfl) rfl built22b rfl,
     step_eqs rfl (.inl rfl) rfl base_len rfl (knows_in 0 1 (by decide) (by kernel_rfl) rfl rfl) (knows_in 1 2 (by decide) (by kernel_rfl) rfl rfl),
     step_mv rfl (.inl rfl) rfl rfl (knows_in 2 3 (by decide) (by kernel_rfl) rfl rfl),
     step_one22 rfl (.inr ⟨3, true, 4, rfl, by decide, by kernel_rfl, rfl, fun _ _ h => h⟩) rfl built22e rfl,
     step_to rfl (.inr ⟨3, true, 4, rfl, by decide, by kernel_rfl, rfl, fun _ _ h => h⟩) rfl cf11p kpub rfl (one_arg (knows_in 4 5 (by decide) (by kernel_rfl) rfl rfl)),
     step_zero22 rfl (.inr ⟨3, true, 4, rfl, by decide, by kernel_rfl, rfl, fun _ _ h => h⟩) rfl rfl,
     step_ne22 rfl (.inr ⟨3, true, 4, rfl, by decide, by kernel_rfl, rfl, fun _ _ h => h⟩) rfl (rbytes_length _) (rbytes_length _) (by rw [HNE]; exact rfl) (knows_in 5 6 (by decide) (by kernel_rfl) rfl rfl) (knows_in 6 7 (by decide) (by kernel_rfl) rfl rfl),
     step_pick rfl (.inl rfl) (b := true) rfl rfl (knows_in 3 4 (by decide) (by kernel_rfl) rfl rfl) (knows_in 7 8 (by decide) (by kernel_rfl) rfl rfl),
     step_asg rfl (.inl rfl) rfl rfl (knows_in 8 9 (by decide) (by kernel_rfl) rfl rfl), trivial⟩ ?_
  intro val w1 hw hS hap hla
  have e1 : val 1 = (.agg (ints .u8 baseL).toArray) := hS 0 1 (by decide) rfl
  have e2 : val 2 = (.agg (ints .u8 baseL).toArray) := hS 1 2 (by decide) rfl
  have e3 : val 3 = (.bool true) := hS 2 3 (by decide) rfl
  have e4 : val 4 = (.bool true) := hS 3 4 (by decide) rfl
  have e5 : val 5 = (.agg (ints .u8 eightL).toArray) := hS 4 5 (by decide) rfl
  have e6 : val 6 = (.agg (ints .u8 (rbytes pn)).toArray) := hS 5 6 (by decide) rfl
  have e7 : val 7 = (.agg (ints .u8 (rbytes 0)).toArray) := hS 6 7 (by decide) rfl
  have e8 : val 8 = (.bool true) := hS 7 8 (by decide) rfl
  have e9 : val 9 = (.bool true) := hS 8 9 (by decide) rfl
  have e0 : val 0 = (.bool true) := hS 9 0 (by decide) rfl
  simp only [putVals, List.foldl_cons, List.foldl_nil, List.drop_succ_cons, List.drop_zero, Act.put, List.setIfInBounds_toArray, List.set_cons_succ, List.set_cons_zero, e1, e2, e3, e4, e5, e6, e7, e8, e9, e0]
  clear hS hap hla e1 e2 e3 e4 e5 e6 e7 e8 e9 e0
  replace hW := hW.trans (Below.mono hw hW.size)
  clear hw
  go_wp2_with (fail)
  go_ret
  exact ⟨rfl, hW⟩

set_option maxRecDepth 4000 in
set_option maxHeartbeats 4000000 in
theorem muls_yes (W : World) {sb pb cb m : List Int} (lsb : sb.length = 32) (lpb : pb.length = 32) (lcb : cb.length = 32) (lm : m.length = 32) (kref : CallsTo 6 #[.agg (ints .u8 sb).toArray, .agg (ints .u8 pb).toArray] (.agg (ints .u8 m).toArray)) (kmul : CallsTo 8 #[.agg (ints .u8 sb).toArray, .agg (ints .u8 pb).toArray] (.agg (ints .u8 m).toArray)) (kshared : CallsTo 7 #[.agg (ints .u8 sb).toArray, .agg (ints .u8 pb).toArray] (.tuple #[.agg (ints .u8 m).toArray, .int .i64 21])) (kclamp : CallsTo 9 #[.agg (ints .u8 sb).toArray] (.agg (ints .u8 cb).toArray)) (krclamp : CallsTo 10 #[.agg (ints .u8 sb).toArray] (.agg (ints .u8 cb).toArray)) (hd : Hid (decide (m = rbytes 0) = true)) :
    Calls Try.prog 3 #[.agg (ints .u8 sb).toArray, .agg (ints .u8 pb).toArray] W fun e w' => e = .returned (.bool true) ∧ Below W.heap.size W w' := by
  have hS2 := (By.new W sb lsb).next (below_new _ (.cells (ints .u8 pb).toArray 22))
  have hS3 := By.new (W.alloc (.cells (ints .u8 sb).toArray 22)) pb lpb
  have hW := (below_new W (.cells (ints .u8 sb).toArray 22)).alloc (by simp) (.cells (ints .u8 pb).toArray 22)
  simp only [World.size_alloc] at hS3
  go_enter Try.func3, Try.ntmps3
  go_wp2_with (fail)
  generalize (W.alloc (.cells (ints .u8 sb).toArray 22)).alloc (.cells (ints .u8 pb).toArray 22) = wa at *
  refine (awake_any _).mono ?_
  rintro e w0 ⟨rfl, hb1⟩
  replace hS2 := hS2.next hb1
  replace hS3 := hS3.next hb1
  replace hW := hW.trans (hb1.mono hW.size)
  clear hb1
  go_upto_region 3 with (fail)
  have s0 := hW.size
  refine region_seq2 4 50 (fun i => i == 3) [Is (.agg (ints .u8 sb).toArray), Is (.agg (ints .u8 pb).toArray), Is (.agg (ints .u8 m).toArray), IsZ22 w0.heap.size] [10, 11, 12, 5] (by kernel_rfl) (by kernel_rfl) (Nat.le_of_eq rfl) (grows_cons (Is.grows _) (grows_cons (Is.grows _) (grows_cons (Is.grows _) (grows_cons (IsZ22.grows _) grows_nil))))
    ⟨step_by rfl (.inl rfl) hS2 2 rfl (by kernel_rfl) rfl rfl,
     step_by rfl (.inl rfl) hS3 3 rfl (by kernel_rfl) rfl rfl,
     step_to rfl (.inl rfl) rfl cf6 kref rfl (two_args (knows_in 0 10 (by decide) (by kernel_rfl) rfl rfl) (knows_in 1 11 (by decide) (by kernel_rfl) rfl rfl)),
     step_alloc22 (.inl rfl) rfl rfl, trivial⟩ ?_
  intro val w1 hw hS hap hla
  have e10 : val 10 = (.agg (ints .u8 sb).toArray) := hS 0 10 (by decide) rfl
  have e11 : val 11 = (.agg (ints .u8 pb).toArray) := hS 1 11 (by decide) rfl
  have e12 : val 12 = (.agg (ints .u8 m).toArray) := hS 2 12 (by decide) rfl
  obtain ⟨b5, e5, L5, Z5⟩ := hS 3 5 (by decide) rfl
  simp only [putVals, List.foldl_cons, List.foldl_nil, List.drop_succ_cons, List.drop_zero, Act.put, List.setIfInBounds_toArray, List.set_cons_succ, List.set_cons_zero, e10, e11, e12, e5]
  clear hS hap hla e10 e11 e12 e5
  have LL5 := hid lm
  have R5 := Z5.room (l' := m) lm
  have hB5 := Z5.stored (l' := m) lm
  replace hS2 := hS2.next (Below.setCells hw L5 0 (ints .u8 m).toArray.toList)
  replace hS3 := hS3.next (Below.setCells hw L5 0 (ints .u8 m).toArray.toList)
  replace hW := hW.trans (Below.mono (Below.setCells hw L5 0 (ints .u8 m).toArray.toList) hW.size)
  with_reducible refine wpList_store_mid (op := ⟨none, .store 22 (.tmp 5) (.tmp 12), _, _, _, _⟩) rfl 22 (.tmp 5) (.tmp 12) rfl b5 0 (ints .u8 m).toArray rfl rfl R5 (a22 LL5.out) (ints_all _ _) ?_
  generalize (w1.setCells b5 0 (ints .u8 m).toArray.toList) = w2 at *
  clear hw  R5 LL5 Z5 
  go_upto_region 4 with (fail)
  have s2 := hW.size
  refine region_seq2 7 50 (fun i => i == 6) [Is (.agg (ints .u8 sb).toArray), Is (.agg (ints .u8 pb).toArray), Is (.tuple #[(.agg (ints .u8 m).toArray), (.int .i64 21)]), Is (.tuple #[(.agg (ints .u8 m).toArray), (.int .i64 21)]), Is (.agg (ints .u8 m).toArray), Is (.int .i64 21), IsZ22 w2.heap.size] [14, 15, 16, 13, 17, 18, 6] (by kernel_rfl) (by kernel_rfl) (Nat.le_of_eq rfl) (grows_cons (Is.grows _) (grows_cons (Is.grows _) (grows_cons (Is.grows _) (grows_cons (Is.grows _) (grows_cons (Is.grows _) (grows_cons (Is.grows _) (grows_cons (IsZ22.grows _) grows_nil)))))))
    ⟨step_by rfl (.inl rfl) hS2 2 rfl (by kernel_rfl) rfl rfl,
     step_by rfl (.inl rfl) hS3 3 rfl (by kernel_rfl) rfl rfl,
     step_to rfl (.inl rfl) rfl cf7 kshared rfl (two_args (knows_in 0 14 (by decide) (by kernel_rfl) rfl rfl) (knows_in 1 15 (by decide) (by kernel_rfl) rfl rfl)),
     step_mv rfl (.inl rfl) rfl rfl (knows_in 2 16 (by decide) (by kernel_rfl) rfl rfl),
     step_fst rfl (.inl rfl) rfl rfl (knows_in 3 13 (by decide) (by kernel_rfl) rfl rfl),
     step_snd rfl (.inl rfl) rfl rfl (knows_in 3 13 (by decide) (by kernel_rfl) rfl rfl),
     step_alloc22 (.inl rfl) rfl rfl, trivial⟩ ?_
  intro val w3 hw hS hap hla
  have e14 : val 14 = (.agg (ints .u8 sb).toArray) := hS 0 14 (by decide) rfl
  have e15 : val 15 = (.agg (ints .u8 pb).toArray) := hS 1 15 (by decide) rfl
  have e16 : val 16 = (.tuple #[(.agg (ints .u8 m).toArray), (.int .i64 21)]) := hS 2 16 (by decide) rfl
  have e13 : val 13 = (.tuple #[(.agg (ints .u8 m).toArray), (.int .i64 21)]) := hS 3 13 (by decide) rfl
  have e17 : val 17 = (.agg (ints .u8 m).toArray) := hS 4 17 (by decide) rfl
  have e18 : val 18 = (.int .i64 21) := hS 5 18 (by decide) rfl
  obtain ⟨b6, e6, L6, Z6⟩ := hS 6 6 (by decide) rfl
  simp only [putVals, List.foldl_cons, List.foldl_nil, List.drop_succ_cons, List.drop_zero, Act.put, List.setIfInBounds_toArray, List.set_cons_succ, List.set_cons_zero, e14, e15, e16, e13, e17, e18, e6]
  clear hS hap hla e14 e15 e16 e13 e17 e18 e6
  have LL6 := hid lm
  have R6 := Z6.room (l' := m) lm
  have hB6 := Z6.stored (l' := m) lm
  replace hS2 := hS2.next (Below.setCells hw L6 0 (ints .u8 m).toArray.toList)
  replace hS3 := hS3.next (Below.setCells hw L6 0 (ints .u8 m).toArray.toList)
  replace hB5 := hB5.next (Below.setCells hw L6 0 (ints .u8 m).toArray.toList)
  replace hW := hW.trans (Below.mono (Below.setCells hw L6 0 (ints .u8 m).toArray.toList) hW.size)
  with_reducible refine wpList_store_mid (op := ⟨none, .store 22 (.tmp 6) (.tmp 17), _, _, _, _⟩) rfl 22 (.tmp 6) (.tmp 17) rfl b6 0 (ints .u8 m).toArray rfl rfl R6 (a22 LL6.out) (ints_all _ _) ?_
  generalize (w3.setCells b6 0 (ints .u8 m).toArray.toList) = w4 at *
  clear hw  R6 LL6 Z6 
  go_wp2_with (fail)
  have s4 := hW.size
  refine region_spec2 16 50 (fun _ => false) [Is (.agg (ints .u8 sb).toArray), Is (.agg (ints .u8 pb).toArray), Is (.agg (ints .u8 m).toArray), Is (.agg (ints .u8 m).toArray), Is (.bool false), Is (.bool false), Is (.agg (ints .u8 m).toArray), Is (.agg (ints .u8 m).toArray), Is (.bool false), Is (.bool false), Is (.bool false), Is (.agg (ints .u8 sb).toArray), Is (.agg (ints .u8 cb).toArray), Is (.agg (ints .u8 sb).toArray), Is (.agg (ints .u8 cb).toArray), Is (.bool false)] [19, 20, 21, 22, 23, 24, 25, 26, 27, 28, 29, 30, 31, 32, 33, 34] (by kernel_rfl) (by kernel_rfl) (by kernel_rfl) (Nat.le_of_eq rfl) (grows_cons (Is.grows _) (grows_cons (Is.grows _) (grows_cons (Is.grows _) (grows_cons (Is.grows _) (grows_cons (Is.grows _) (grows_cons (Is.grows _) (grows_cons (Is.grows _) (grows_cons (Is.grows _) (grows_cons (Is.grows _) (grows_cons (Is.grows _) (grows_cons (Is.grows _) (grows_cons (Is.grows _) (grows_cons (Is.grows _) (grows_cons (Is.grows _) (grows_cons (Is.grows _) (grows_cons (Is.grows _) grows_nil))))))))))))))))
    ⟨step_by rfl (.inl rfl) hS2 2 rfl (by kernel_rfl) rfl rfl,
     step_by rfl (.inl rfl) hS3 3 rfl (by kernel_rfl) rfl rfl,
     step_to rfl (.inl rfl) rfl cf8 kmul rfl (two_args (knows_in 0 19 (by decide) (by kernel_rfl) rfl rfl) (knows_in 1 20 (by decide) (by kernel_rfl) rfl rfl)),
     step_by rfl (.inl rfl) hB5 5 rfl (by kernel_rfl) rfl rfl,
     step_nes rfl (.inl rfl) rfl lm rfl (knows_in 2 21 (by decide) (by kernel_rfl) rfl rfl) (knows_in 3 22 (by decide) (by kernel_rfl) rfl rfl),
     step_mv rfl (.inl rfl) rfl rfl (knows_in 4 23 (by decide) (by kernel_rfl) rfl rfl),
     step_by rfl (.inr ⟨5, false, 24, rfl, by decide, by kernel_rfl, rfl, fun _ _ h => h⟩) hB6 6 rfl (by kernel_rfl) rfl rfl,
     step_by rfl (.inr ⟨5, false, 24, rfl, by decide, by kernel_rfl, rfl, fun _ _ h => h⟩) hB5 5 rfl (by kernel_rfl) rfl rfl,
     step_nes rfl (.inr ⟨5, false, 24, rfl, by decide, by kernel_rfl, rfl, fun _ _ h => h⟩) rfl lm rfl (knows_in 6 25 (by decide) (by kernel_rfl) rfl rfl) (knows_in 7 26 (by decide) (by kernel_rfl) rfl rfl),
     step_pick rfl (.inl rfl) (b := false) rfl rfl (knows_in 5 24 (by decide) (by kernel_rfl) rfl rfl) (knows_in 8 27 (by decide) (by kernel_rfl) rfl rfl),
     step_mv rfl (.inl rfl) rfl rfl (knows_in 9 28 (by decide) (by kernel_rfl) rfl rfl),
     step_by rfl (.inr ⟨10, false, 29, rfl, by decide, by kernel_rfl, rfl, fun _ _ h => h⟩) hS2 2 rfl (by kernel_rfl) rfl rfl,
     step_to rfl (.inr ⟨10, false, 29, rfl, by decide, by kernel_rfl, rfl, fun _ _ h => h⟩) rfl cf9c kclamp rfl (one_arg (knows_in 11 30 (by decide) (by kernel_rfl) rfl rfl)),
     step_by rfl (.inr ⟨10, false, 29, rfl, by decide, by kernel_rfl, rfl, fun _ _ h => h⟩) hS2 2 rfl (by kernel_rfl) rfl rfl,
     step_to rfl (.inr ⟨10, false, 29, rfl, by decide, by kernel_rfl, rfl, fun _ _ h => h⟩) rfl cf10c krclamp rfl (one_arg (knows_in 13 32 (by decide) (by kernel_rfl) rfl rfl)),
     step_nes rfl (.inr ⟨10, false, 29, rfl, by decide, by kernel_rfl, rfl, fun _ _ h => h⟩) rfl lcb rfl (knows_in 12 31 (by decide) (by kernel_rfl) rfl rfl) (knows_in 14 33 (by decide) (by kernel_rfl) rfl rfl), trivial⟩ ?_
  intro val w5 hw hS hap hla
  have e19 : val 19 = (.agg (ints .u8 sb).toArray) := hS 0 19 (by decide) rfl
  have e20 : val 20 = (.agg (ints .u8 pb).toArray) := hS 1 20 (by decide) rfl
  have e21 : val 21 = (.agg (ints .u8 m).toArray) := hS 2 21 (by decide) rfl
  have e22 : val 22 = (.agg (ints .u8 m).toArray) := hS 3 22 (by decide) rfl
  have e23 : val 23 = (.bool false) := hS 4 23 (by decide) rfl
  have e24 : val 24 = (.bool false) := hS 5 24 (by decide) rfl
  have e25 : val 25 = (.agg (ints .u8 m).toArray) := hS 6 25 (by decide) rfl
  have e26 : val 26 = (.agg (ints .u8 m).toArray) := hS 7 26 (by decide) rfl
  have e27 : val 27 = (.bool false) := hS 8 27 (by decide) rfl
  have e28 : val 28 = (.bool false) := hS 9 28 (by decide) rfl
  have e29 : val 29 = (.bool false) := hS 10 29 (by decide) rfl
  have e30 : val 30 = (.agg (ints .u8 sb).toArray) := hS 11 30 (by decide) rfl
  have e31 : val 31 = (.agg (ints .u8 cb).toArray) := hS 12 31 (by decide) rfl
  have e32 : val 32 = (.agg (ints .u8 sb).toArray) := hS 13 32 (by decide) rfl
  have e33 : val 33 = (.agg (ints .u8 cb).toArray) := hS 14 33 (by decide) rfl
  have e34 : val 34 = (.bool false) := hS 15 34 (by decide) rfl
  simp only [putVals, List.foldl_cons, List.foldl_nil, List.drop_succ_cons, List.drop_zero, Act.put, List.setIfInBounds_toArray, List.set_cons_succ, List.set_cons_zero, e19, e20, e21, e22, e23, e24, e25, e26, e27, e28, e29, e30, e31, e32, e33, e34]
  clear hS hap hla e19 e20 e21 e22 e23 e24 e25 e26 e27 e28 e29 e30 e31 e32 e33 e34
  replace hS2 := hS2.next hw
  replace hS3 := hS3.next hw
  replace hB5 := hB5.next hw
  replace hB6 := hB6.next hw
  replace hW := hW.trans (Below.mono hw hW.size)
  clear hw
  go_upto_region 7 with (fail)
  have s5 := hW.size
  refine region_seq2 15 50 (fun _ => false) [Is (.int .i64 21), Is (.bool true), Is (.agg (ints .u8 m).toArray), Is (.agg (ints .u8 (rbytes 0)).toArray), Is (.bool true), Is (.bool true), Is (.bool true), Is (.int .i64 21), Is (.bool false), Is (.bool false), Is (.int .i64 21), Is (.bool true), Is (.bool true), Is (.bool true), Is (.bool true)] [36, 37, 38, 39, 40, 41, 42, 43, 44, 45, 46, 47, 48, 49, 4] (by kernel_rfl) (by kernel_rfl) (Nat.le_of_eq rfl) (grows_cons (Is.grows _) (grows_cons (Is.grows _) (grows_cons (Is.grows _) (grows_cons (Is.grows _) (grows_cons (Is.grows _) (grows_cons (Is.grows _) (grows_cons (Is.grows _) (grows_cons (Is.grows _) (grows_cons (Is.grows _) (grows_cons (Is.grows _) (grows_cons (Is.grows _) (grows_cons (Is.grows _) (grows_cons (Is.grows _) (grows_cons (Is.grows _) (grows_cons (Is.grows _) grows_nil)))))))))))))))
    ⟨step_mv rfl (.inl rfl) rfl rfl (knows_out 7 (by kernel_rfl) rfl),
     step_eqE rfl (.inl rfl) (c := 21) rfl rfl rfl (knows_in 0 36 (by decide) (by kernel_rfl) rfl rfl),
     step_by rfl (.inl rfl) hB5 5 rfl (by kernel_rfl) rfl rfl,
     step_zero22 rfl (.inl rfl) rfl rfl,
     step_eq22 rfl (.inl rfl) rfl lm (rbytes_length _) (by rw [hd.out]; exact rfl) (knows_in 2 38 (by decide) (by kernel_rfl) rfl rfl) (knows_in 3 39 (by decide) (by kernel_rfl) rfl rfl),
     step_eqb rfl (.inl rfl) (b := true) rfl rfl (knows_in 1 37 (by decide) (by kernel_rfl) rfl rfl) (knows_in 4 40 (by decide) (by kernel_rfl) rfl rfl),
     step_mv rfl (.inl rfl) rfl rfl (knows_in 5 41 (by decide) (by kernel_rfl) rfl rfl),
     step_mv rfl (.inr ⟨6, true, 42, rfl, by decide, by kernel_rfl, rfl, fun _ _ h => h⟩) rfl rfl (knows_out 7 (by kernel_rfl) rfl),
     step_eqE rfl (.inr ⟨6, true, 42, rfl, by decide, by kernel_rfl, rfl, fun _ _ h => h⟩) (c := 0) rfl rfl rfl (knows_in 7 43 (by decide) (by kernel_rfl) rfl rfl),
     step_mv rfl (.inr ⟨6, true, 42, rfl, by decide, by kernel_rfl, rfl, fun _ _ h => h⟩) rfl rfl (knows_in 8 44 (by decide) (by kernel_rfl) rfl rfl),
     step_mv rfl (.inr ⟨9, false, 45, rfl, by decide, by kernel_rfl, rfl, fun _ _ h => h⟩) rfl rfl (knows_out 7 (by kernel_rfl) rfl),
     step_eqE rfl (.inr ⟨9, false, 45, rfl, by decide, by kernel_rfl, rfl, fun _ _ h => h⟩) (c := 21) rfl rfl rfl (knows_in 10 46 (by decide) (by kernel_rfl) rfl rfl),
     step_pick rfl (.inr ⟨6, true, 42, rfl, by decide, by kernel_rfl, rfl, fun _ _ h => h⟩) (b := false) rfl rfl (knows_in 9 45 (by decide) (by kernel_rfl) rfl rfl) (knows_in 11 47 (by decide) (by kernel_rfl) rfl rfl),
     step_pick rfl (.inl rfl) (b := true) rfl rfl (knows_in 6 42 (by decide) (by kernel_rfl) rfl rfl) (knows_in 12 48 (by decide) (by kernel_rfl) rfl rfl),
     step_asg rfl (.inl rfl) rfl rfl (knows_in 13 49 (by decide) (by kernel_rfl) rfl rfl), trivial⟩ ?_
  intro val w6 hw hS hap hla
  have e36 : val 36 = (.int .i64 21) := hS 0 36 (by decide) rfl
  have e37 : val 37 = (.bool true) := hS 1 37 (by decide) rfl
  have e38 : val 38 = (.agg (ints .u8 m).toArray) := hS 2 38 (by decide) rfl
  have e39 : val 39 = (.agg (ints .u8 (rbytes 0)).toArray) := hS 3 39 (by decide) rfl
  have e40 : val 40 = (.bool true) := hS 4 40 (by decide) rfl
  have e41 : val 41 = (.bool true) := hS 5 41 (by decide) rfl
  have e42 : val 42 = (.bool true) := hS 6 42 (by decide) rfl
  have e43 : val 43 = (.int .i64 21) := hS 7 43 (by decide) rfl
  have e44 : val 44 = (.bool false) := hS 8 44 (by decide) rfl
  have e45 : val 45 = (.bool false) := hS 9 45 (by decide) rfl
  have e46 : val 46 = (.int .i64 21) := hS 10 46 (by decide) rfl
  have e47 : val 47 = (.bool true) := hS 11 47 (by decide) rfl
  have e48 : val 48 = (.bool true) := hS 12 48 (by decide) rfl
  have e49 : val 49 = (.bool true) := hS 13 49 (by decide) rfl
  have e4 : val 4 = (.bool true) := hS 14 4 (by decide) rfl
  simp only [putVals, List.foldl_cons, List.foldl_nil, List.drop_succ_cons, List.drop_zero, Act.put, List.setIfInBounds_toArray, List.set_cons_succ, List.set_cons_zero, e36, e37, e38, e39, e40, e41, e42, e43, e44, e45, e46, e47, e48, e49, e4]
  clear hS hap hla e36 e37 e38 e39 e40 e41 e42 e43 e44 e45 e46 e47 e48 e49 e4
  replace hS2 := hS2.next hw
  replace hS3 := hS3.next hw
  replace hB5 := hB5.next hw
  replace hB6 := hB6.next hw
  replace hW := hW.trans (Below.mono hw hW.size)
  clear hw
  go_wp2_with (fail)
  go_ret
  exact ⟨rfl, hW⟩

set_option maxRecDepth 4000 in
set_option maxHeartbeats 4000000 in
theorem muls_no (W : World) {sb pb cb m : List Int} (lsb : sb.length = 32) (lpb : pb.length = 32) (lcb : cb.length = 32) (lm : m.length = 32) (kref : CallsTo 6 #[.agg (ints .u8 sb).toArray, .agg (ints .u8 pb).toArray] (.agg (ints .u8 m).toArray)) (kmul : CallsTo 8 #[.agg (ints .u8 sb).toArray, .agg (ints .u8 pb).toArray] (.agg (ints .u8 m).toArray)) (kshared : CallsTo 7 #[.agg (ints .u8 sb).toArray, .agg (ints .u8 pb).toArray] (.tuple #[.agg (ints .u8 m).toArray, .int .i64 0])) (kclamp : CallsTo 9 #[.agg (ints .u8 sb).toArray] (.agg (ints .u8 cb).toArray)) (krclamp : CallsTo 10 #[.agg (ints .u8 sb).toArray] (.agg (ints .u8 cb).toArray)) (hd : Hid (decide (m = rbytes 0) = false)) :
    Calls Try.prog 3 #[.agg (ints .u8 sb).toArray, .agg (ints .u8 pb).toArray] W fun e w' => e = .returned (.bool true) ∧ Below W.heap.size W w' := by
  have hS2 := (By.new W sb lsb).next (below_new _ (.cells (ints .u8 pb).toArray 22))
  have hS3 := By.new (W.alloc (.cells (ints .u8 sb).toArray 22)) pb lpb
  have hW := (below_new W (.cells (ints .u8 sb).toArray 22)).alloc (by simp) (.cells (ints .u8 pb).toArray 22)
  simp only [World.size_alloc] at hS3
  go_enter Try.func3, Try.ntmps3
  go_wp2_with (fail)
  generalize (W.alloc (.cells (ints .u8 sb).toArray 22)).alloc (.cells (ints .u8 pb).toArray 22) = wa at *
  refine (awake_any _).mono ?_
  rintro e w0 ⟨rfl, hb1⟩
  replace hS2 := hS2.next hb1
  replace hS3 := hS3.next hb1
  replace hW := hW.trans (hb1.mono hW.size)
  clear hb1
  go_upto_region 3 with (fail)
  have s0 := hW.size
  refine region_seq2 4 50 (fun i => i == 3) [Is (.agg (ints .u8 sb).toArray), Is (.agg (ints .u8 pb).toArray), Is (.agg (ints .u8 m).toArray), IsZ22 w0.heap.size] [10, 11, 12, 5] (by kernel_rfl) (by kernel_rfl) (Nat.le_of_eq rfl) (grows_cons (Is.grows _) (grows_cons (Is.grows _) (grows_cons (Is.grows _) (grows_cons (IsZ22.grows _) grows_nil))))
    ⟨step_by rfl (.inl rfl) hS2 2 rfl (by kernel_rfl) rfl rfl,
     step_by rfl (.inl rfl) hS3 3 rfl (by kernel_rfl) rfl rfl,
     step_to rfl (.inl rfl) rfl cf6 kref rfl (two_args (knows_in 0 10 (by decide) (by kernel_rfl) rfl rfl) (knows_in 1 11 (by decide) (by kernel_rfl) rfl rfl)),
     step_alloc22 (.inl rfl) rfl rfl, trivial⟩ ?_
  intro val w1 hw hS hap hla
  have e10 : val 10 = (.agg (ints .u8 sb).toArray) := hS 0 10 (by decide) rfl
  have e11 : val 11 = (.agg (ints .u8 pb).toArray) := hS 1 11 (by decide) rfl
  have e12 : val 12 = (.agg (ints .u8 m).toArray) := hS 2 12 (by decide) rfl
  obtain ⟨b5, e5, L5, Z5⟩ := hS 3 5 (by decide) rfl
  simp only [putVals, List.foldl_cons, List.foldl_nil, List.drop_succ_cons, List.drop_zero, Act.put, List.setIfInBounds_toArray, List.set_cons_succ, List.set_cons_zero, e10, e11, e12, e5]
  clear hS hap hla e10 e11 e12 e5
  have LL5 := hid lm
  have R5 := Z5.room (l' := m) lm
  have hB5 := Z5.stored (l' := m) lm
  replace hS2 := hS2.next (Below.setCells hw L5 0 (ints .u8 m).toArray.toList)
  replace hS3 := hS3.next (Below.setCells hw L5 0 (ints .u8 m).toArray.toList)
  replace hW := hW.trans (Below.mono (Below.setCells hw L5 0 (ints .u8 m).toArray.toList) hW.size)
  with_reducible refine wpList_store_mid (op := ⟨none, .store 22 (.tmp 5) (.tmp 12), _, _, _, _⟩) rfl 22 (.tmp 5) (.tmp 12) rfl b5 0 (ints .u8 m).toArray rfl rfl R5 (a22 LL5.out) (ints_all _ _) ?_
  generalize (w1.setCells b5 0 (ints .u8 m).toArray.toList) = w2 at *
  clear hw  R5 LL5 Z5 
  go_upto_region 4 with (fail)
  have s2 := hW.size
  refine region_seq2 7 50 (fun i => i == 6) [Is (.agg (ints .u8 sb).toArray), Is (.agg (ints .u8 pb).toArray), Is (.tuple #[(.agg (ints .u8 m).toArray), (.int .i64 0)]), Is (.tuple #[(.agg (ints .u8 m).toArray), (.int .i64 0)]), Is (.agg (ints .u8 m).toArray), Is (.int .i64 0), IsZ22 w2.heap.size] [14, 15, 16, 13, 17, 18, 6] (by kernel_rfl) (by kernel_rfl) (Nat.le_of_eq rfl) (grows_cons (Is.grows _) (grows_cons (Is.grows _) (grows_cons (Is.grows _) (grows_cons (Is.grows _) (grows_cons (Is.grows _) (grows_cons (Is.grows _) (grows_cons (IsZ22.grows _) grows_nil)))))))
    ⟨step_by rfl (.inl rfl) hS2 2 rfl (by kernel_rfl) rfl rfl,
     step_by rfl (.inl rfl) hS3 3 rfl (by kernel_rfl) rfl rfl,
     step_to rfl (.inl rfl) rfl cf7 kshared rfl (two_args (knows_in 0 14 (by decide) (by kernel_rfl) rfl rfl) (knows_in 1 15 (by decide) (by kernel_rfl) rfl rfl)),
     step_mv rfl (.inl rfl) rfl rfl (knows_in 2 16 (by decide) (by kernel_rfl) rfl rfl),
     step_fst rfl (.inl rfl) rfl rfl (knows_in 3 13 (by decide) (by kernel_rfl) rfl rfl),
     step_snd rfl (.inl rfl) rfl rfl (knows_in 3 13 (by decide) (by kernel_rfl) rfl rfl),
     step_alloc22 (.inl rfl) rfl rfl, trivial⟩ ?_
  intro val w3 hw hS hap hla
  have e14 : val 14 = (.agg (ints .u8 sb).toArray) := hS 0 14 (by decide) rfl
  have e15 : val 15 = (.agg (ints .u8 pb).toArray) := hS 1 15 (by decide) rfl
  have e16 : val 16 = (.tuple #[(.agg (ints .u8 m).toArray), (.int .i64 0)]) := hS 2 16 (by decide) rfl
  have e13 : val 13 = (.tuple #[(.agg (ints .u8 m).toArray), (.int .i64 0)]) := hS 3 13 (by decide) rfl
  have e17 : val 17 = (.agg (ints .u8 m).toArray) := hS 4 17 (by decide) rfl
  have e18 : val 18 = (.int .i64 0) := hS 5 18 (by decide) rfl
  obtain ⟨b6, e6, L6, Z6⟩ := hS 6 6 (by decide) rfl
  simp only [putVals, List.foldl_cons, List.foldl_nil, List.drop_succ_cons, List.drop_zero, Act.put, List.setIfInBounds_toArray, List.set_cons_succ, List.set_cons_zero, e14, e15, e16, e13, e17, e18, e6]
  clear hS hap hla e14 e15 e16 e13 e17 e18 e6
  have LL6 := hid lm
  have R6 := Z6.room (l' := m) lm
  have hB6 := Z6.stored (l' := m) lm
  replace hS2 := hS2.next (Below.setCells hw L6 0 (ints .u8 m).toArray.toList)
  replace hS3 := hS3.next (Below.setCells hw L6 0 (ints .u8 m).toArray.toList)
  replace hB5 := hB5.next (Below.setCells hw L6 0 (ints .u8 m).toArray.toList)
  replace hW := hW.trans (Below.mono (Below.setCells hw L6 0 (ints .u8 m).toArray.toList) hW.size)
  with_reducible refine wpList_store_mid (op := ⟨none, .store 22 (.tmp 6) (.tmp 17), _, _, _, _⟩) rfl 22 (.tmp 6) (.tmp 17) rfl b6 0 (ints .u8 m).toArray rfl rfl R6 (a22 LL6.out) (ints_all _ _) ?_
  generalize (w3.setCells b6 0 (ints .u8 m).toArray.toList) = w4 at *
  clear hw  R6 LL6 Z6 
  go_wp2_with (fail)
  have s4 := hW.size
  refine region_spec2 16 50 (fun _ => false) [Is (.agg (ints .u8 sb).toArray), Is (.agg (ints .u8 pb).toArray), Is (.agg (ints .u8 m).toArray), Is (.agg (ints .u8 m).toArray), Is (.bool false), Is (.bool false), Is (.agg (ints .u8 m).toArray), Is (.agg (ints .u8 m).toArray), Is (.bool false), Is (.bool false), Is (.bool false), Is (.agg (ints .u8 sb).toArray), Is (.agg (ints .u8 cb).toArray), Is (.agg (ints .u8 sb).toArray), Is (.agg (ints .u8 cb).toArray), Is (.bool false)] [19, 20, 21, 22, 23, 24, 25, 26, 27, 28, 29, 30, 31, 32, 33, 34] (by kernel_rfl) (by kernel_rfl) (by kernel_rfl) (Nat.le_of_eq rfl) (grows_cons (Is.grows _) (grows_cons (Is.grows _) (grows_cons (Is.grows _) (grows_cons (Is.grows _) (grows_cons (Is.grows _) (grows_cons (Is.grows _) (grows_cons (Is.grows _) (grows_cons (Is.grows _) (grows_cons (Is.grows _) (grows_cons (Is.grows _) (grows_cons (Is.grows _) (grows_cons (Is.grows _) (grows_cons (Is.grows _) (grows_cons (Is.grows _) (grows_cons (Is.grows _) (grows_cons (Is.grows _) grows_nil))))))))))))))))
    ⟨step_by rfl (.inl rfl) hS2 2 rfl (by kernel_rfl) rfl rfl,
     step_by rfl (.inl rfl) hS3 3 rfl (by kernel_rfl) rfl rfl,
     step_to rfl (.inl rfl) rfl cf8 kmul rfl (two_args (knows_in 0 19 (by decide) (by kernel_rfl) rfl rfl) (knows_in 1 20 (by decide) (by kernel_rfl) rfl rfl)),
     step_by rfl (.inl rfl) hB5 5 rfl (by kernel_rfl) rfl rfl,
     step_nes rfl (.inl rfl) rfl lm rfl (knows_in 2 21 (by decide) (by kernel_rfl) rfl rfl) (knows_in 3 22 (by decide) (by kernel_rfl) rfl rfl),
     step_mv rfl (.inl rfl) rfl rfl (knows_in 4 23 (by decide) (by kernel_rfl) rfl rfl),
     step_by rfl (.inr ⟨5, false, 24, rfl, by decide, by kernel_rfl, rfl, fun _ _ h => h⟩) hB6 6 rfl (by kernel_rfl) rfl rfl,
     step_by rfl (.inr ⟨5, false, 24, rfl, by decide, by kernel_rfl, rfl, fun _ _ h => h⟩) hB5 5 rfl (by kernel_rfl) rfl rfl,
     step_nes rfl (.inr ⟨5, false, 24, rfl, by decide, by kernel_rfl, rfl, fun _ _ h => h⟩) rfl lm rfl (knows_in 6 25 (by decide) (by kernel_rfl) rfl rfl) (knows_in 7 26 (by decide) (by kernel_rfl) rfl rfl),
     step_pick rfl (.inl rfl) (b := false) rfl rfl (knows_in 5 24 (by decide) (by kernel_rfl) rfl rfl) (knows_in 8 27 (by decide) (by kernel_rfl) rfl rfl),
     step_mv rfl (.inl rfl) rfl rfl (knows_in 9 28 (by decide) (by kernel_rfl) rfl rfl),
     step_by rfl (.inr ⟨10, false, 29, rfl, by decide, by kernel_rfl, rfl, fun _ _ h => h⟩) hS2 2 rfl (by kernel_rfl) rfl rfl,
     step_to rfl (.inr ⟨10, false, 29, rfl, by decide, by kernel_rfl, rfl, fun _ _ h => h⟩) rfl cf9c kclamp rfl (one_arg (knows_in 11 30 (by decide) (by kernel_rfl) rfl rfl)),
     step_by rfl (.inr ⟨10, false, 29, rfl, by decide, by kernel_rfl, rfl, fun _ _ h => h⟩) hS2 2 rfl (by kernel_rfl) rfl rfl,
     step_to rfl (.inr ⟨10, false, 29, rfl, by decide, by kernel_rfl, rfl, fun _ _ h => h⟩) rfl cf10c krclamp rfl (one_arg (knows_in 13 32 (by decide) (by kernel_rfl) rfl rfl)),
     step_nes rfl (.inr ⟨10, false, 29, rfl, by decide, by kernel_rfl, rfl, fun _ _ h => h⟩) rfl lcb rfl (knows_in 12 31 (by decide) (by kernel_rfl) rfl rfl) (knows_in 14 33 (by decide) (by kernel_rfl) rfl rfl), trivial⟩ ?_
  intro val w5 hw hS hap hla
  have e19 : val 19 = (.agg (ints .u8 sb).toArray) := hS 0 19 (by decide) rfl
  have e20 : val 20 = (.agg (ints .u8 pb).toArray) := hS 1 20 (by decide) rfl
  have e21 : val 21 = (.agg (ints .u8 m).toArray) := hS 2 21 (by decide) rfl
  have e22 : val 22 = (.agg (ints .u8 m).toArray) := hS 3 22 (by decide) rfl
  have e23 : val 23 = (.bool false) := hS 4 23 (by decide) rfl
  have e24 : val 24 = (.bool false) := hS 5 24 (by decide) rfl
  have e25 : val 25 = (.agg (ints .u8 m).toArray) := hS 6 25 (by decide) rfl
  have e26 : val 26 = (.agg (ints .u8 m).toArray) := hS 7 26 (by decide) rfl
  have e27 : val 27 = (.bool false) := hS 8 27 (by decide) rfl
  have e28 : val 28 = (.bool false) := hS 9 28 (by decide) rfl
  have e29 : val 29 = (.bool false) := hS 10 29 (by decide) rfl
  have e30 : val 30 = (.agg (ints .u8 sb).toArray) := hS 11 30 (by decide) rfl
  have e31 : val 31 = (.agg (ints .u8 cb).toArray) := hS 12 31 (by decide) rfl
  have e32 : val 32 = (.agg (ints .u8 sb).toArray) := hS 13 32 (by decide) rfl
  have e33 : val 33 = (.agg (ints .u8 cb).toArray) := hS 14 33 (by decide) rfl
  have e34 : val 34 = (.bool false) := hS 15 34 (by decide) rfl
  simp only [putVals, List.foldl_cons, List.foldl_nil, List.drop_succ_cons, List.drop_zero, Act.put, List.setIfInBounds_toArray, List.set_cons_succ, List.set_cons_zero, e19, e20, e21, e22, e23, e24, e25, e26, e27, e28, e29, e30, e31, e32, e33, e34]
  clear hS hap hla e19 e20 e21 e22 e23 e24 e25 e26 e27 e28 e29 e30 e31 e32 e33 e34
  replace hS2 := hS2.next hw
  replace hS3 := hS3.next hw
  replace hB5 := hB5.next hw
  replace hB6 := hB6.next hw
  replace hW := hW.trans (Below.mono hw hW.size)
  clear hw
  go_upto_region 7 with (fail)
  have s5 := hW.size
  refine region_seq2 15 50 (fun _ => false) [Is (.int .i64 0), Is (.bool false), Is (.agg (ints .u8 m).toArray), Is (.agg (ints .u8 (rbytes 0)).toArray), Is (.bool false), Is (.bool true), Is (.bool true), Is (.int .i64 0), Is (.bool true), Is (.bool true), Is undef, Is undef, Is (.bool true), Is (.bool true), Is (.bool true)] [36, 37, 38, 39, 40, 41, 42, 43, 44, 45, 46, 47, 48, 49, 4] (by kernel_rfl) (by kernel_rfl) (Nat.le_of_eq rfl) (grows_cons (Is.grows _) (grows_cons (Is.grows _) (grows_cons (Is.grows _) (grows_cons (Is.grows _) (grows_cons (Is.grows _) (grows_cons (Is.grows _) (grows_cons (Is.grows _) (grows_cons (Is.grows _) (grows_cons (Is.grows _) (grows_cons (Is.grows _) (grows_cons (Is.grows _) (grows_cons (Is.grows _) (grows_cons (Is.grows _) (grows_cons (Is.grows _) (grows_cons (Is.grows _) grows_nil)))))))))))))))
    ⟨step_mv rfl (.inl rfl) rfl rfl (knows_out 7 (by kernel_rfl) rfl),
     step_eqE rfl (.inl rfl) (c := 21) rfl rfl rfl (knows_in 0 36 (by decide) (by kernel_rfl) rfl rfl),
     step_by rfl (.inl rfl) hB5 5 rfl (by kernel_rfl) rfl rfl,
     step_zero22 rfl (.inl rfl) rfl rfl,
     step_eq22 rfl (.inl rfl) rfl lm (rbytes_length _) (by rw [hd.out]; exact rfl) (knows_in 2 38 (by decide) (by kernel_rfl) rfl rfl) (knows_in 3 39 (by decide) (by kernel_rfl) rfl rfl),
     step_eqb rfl (.inl rfl) (b := false) rfl rfl (knows_in 1 37 (by decide) (by kernel_rfl) rfl rfl) (knows_in 4 40 (by decide) (by kernel_rfl) rfl rfl),
     step_mv rfl (.inl rfl) rfl rfl (knows_in 5 41 (by decide) (by kernel_rfl) rfl rfl),
     step_mv rfl (.inr ⟨6, true, 42, rfl, by decide, by kernel_rfl, rfl, fun _ _ h => h⟩) rfl rfl (knows_out 7 (by kernel_rfl) rfl),
     step_eqE rfl (.inr ⟨6, true, 42, rfl, by decide, by kernel_rfl, rfl, fun _ _ h => h⟩) (c := 0) rfl rfl rfl (knows_in 7 43 (by decide) (by kernel_rfl) rfl rfl),
     step_mv rfl (.inr ⟨6, true, 42, rfl, by decide, by kernel_rfl, rfl, fun _ _ h => h⟩) rfl rfl (knows_in 8 44 (by decide) (by kernel_rfl) rfl rfl),
     step_off rfl ⟨9, false, 45, rfl, by decide, by kernel_rfl, rfl, fun _ _ h => .inl h⟩ (fun _ => rfl),
     step_off rfl ⟨9, false, 45, rfl, by decide, by kernel_rfl, rfl, fun _ _ h => .inl h⟩ (fun _ => rfl),
     step_pick rfl (.inr ⟨6, true, 42, rfl, by decide, by kernel_rfl, rfl, fun _ _ h => h⟩) (b := true) rfl rfl (knows_in 9 45 (by decide) (by kernel_rfl) rfl rfl) (knows_const _),
     step_pick rfl (.inl rfl) (b := true) rfl rfl (knows_in 6 42 (by decide) (by kernel_rfl) rfl rfl) (knows_in 12 48 (by decide) (by kernel_rfl) rfl rfl),
     step_asg rfl (.inl rfl) rfl rfl (knows_in 13 49 (by decide) (by kernel_rfl) rfl rfl), trivial⟩ ?_
  intro val w6 hw hS hap hla
  have e36 : val 36 = (.int .i64 0) := hS 0 36 (by decide) rfl
  have e37 : val 37 = (.bool false) := hS 1 37 (by decide) rfl
  have e38 : val 38 = (.agg (ints .u8 m).toArray) := hS 2 38 (by decide) rfl
  have e39 : val 39 = (.agg (ints .u8 (rbytes 0)).toArray) := hS 3 39 (by decide) rfl
  have e40 : val 40 = (.bool false) := hS 4 40 (by decide) rfl
  have e41 : val 41 = (.bool true) := hS 5 41 (by decide) rfl
  have e42 : val 42 = (.bool true) := hS 6 42 (by decide) rfl
  have e43 : val 43 = (.int .i64 0) := hS 7 43 (by decide) rfl
  have e44 : val 44 = (.bool true) := hS 8 44 (by decide) rfl
  have e45 : val 45 = (.bool true) := hS 9 45 (by decide) rfl
  have e46 : val 46 = undef := hS 10 46 (by decide) rfl
  have e47 : val 47 = undef := hS 11 47 (by decide) rfl
  have e48 : val 48 = (.bool true) := hS 12 48 (by decide) rfl
  have e49 : val 49 = (.bool true) := hS 13 49 (by decide) rfl
  have e4 : val 4 = (.bool true) := hS 14 4 (by decide) rfl
  simp only [putVals, List.foldl_cons, List.foldl_nil, List.drop_succ_cons, List.drop_zero, Act.put, List.setIfInBounds_toArray, List.set_cons_succ, List.set_cons_zero, e36, e37, e38, e39, e40, e41, e42, e43, e44, e45, e46, e47, e48, e49, e4]
  clear hS hap hla e36 e37 e38 e39 e40 e41 e42 e43 e44 e45 e46 e47 e48 e49 e4
  replace hS2 := hS2.next hw
  replace hS3 := hS3.next hw
  replace hB5 := hB5.next hw
  replace hB6 := hB6.next hw
  replace hW := hW.trans (Below.mono hw hW.size)
  clear hw
  go_wp2_with (fail)
  go_ret
  exact ⟨rfl, hW⟩

theorem ladderMuls_walk (W : World) (b : List Int) (lb : b.length = 32) (wb : ∀ x ∈ b, (Lit.int .u8 x).wf = true) (c : List Int) (lc : c.length = 32) (wc : ∀ x ∈ c, (Lit.int .u8 x).wf = true) :
    Calls Try.prog 3 #[.agg (ints .u8 b).toArray, .agg (ints .u8 c).toArray] W fun e w' => e = .returned (.bool true) ∧ Below W.heap.size W w' := by
  have bb := byt_of_wf wb
  have bc := byt_of_wf wc
  cases hd : decide (rbytes (mulN b (uOf c)) = rbytes 0) with
  | true => exact muls_yes W lb lc ((clampL_length b).trans lb) (rbytes_length _) (c_rladder lb bb lc bc) (c_lmul lb bb lc bc) (c_shared lb bb lc bc true hd) (c_clamp lb bb) (c_rclamp lb bb) (hid hd)
  | false => exact muls_no W lb lc ((clampL_length b).trans lb) (rbytes_length _) (c_rladder lb bb lc bc) (c_lmul lb bb lc bc) (c_shared lb bb lc bc false hd) (c_clamp lb bb) (c_rclamp lb bb) (hid hd)
end Go.Proofs.Ytoncinbohfmciaa
