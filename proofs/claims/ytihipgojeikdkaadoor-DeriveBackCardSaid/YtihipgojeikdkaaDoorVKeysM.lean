/- Any derived key is the document's. -/
import Derived.Test.YtihipgojeikdkaaDoorG7
import Derived.Deep.Cut
namespace Go.Proofs.YtihipgojeikdkaaDoor
open Go Go.RowKit

set_option maxRecDepth 50000 in
theorem keys_long_l (A PA : Option Addr) (l c n pc : Nat) (s : ByteArray) (w : World) (hT : TabsH w) (h : 300 < l) : Calls Tryd.prog 4 #[.slice A l c, .string s, .slice PA n pc] w fun e w' => e = .returned (.bool true) ∧ Below w.heap.size w w' := by
  have e0 : decide ((300 : Int) < l) = true := decide_eq_true (by omega)
  clear h
  go_enter Tryd.func4, Tryd.ntmps4
  go_wp2_with (go_at_call 6; refine (awake_any _ hT).mono ?_; rintro e w2 ⟨rfl, hb2⟩)
  go_ret
  exact ⟨rfl, hb2⟩
set_option maxRecDepth 50000 in
theorem keys_long_s (A PA : Option Addr) (l c n pc : Nat) (s : ByteArray) (w : World) (hT : TabsH w) (h : ¬ 300 < l ∧ 100 < s.size) : Calls Tryd.prog 4 #[.slice A l c, .string s, .slice PA n pc] w fun e w' => e = .returned (.bool true) ∧ Below w.heap.size w w' := by
  have e0 : decide ((300 : Int) < l) = false := decide_eq_false (by omega)
  have e1 : decide ((100 : Int) < s.size) = true := decide_eq_true (by omega)
  clear h
  go_enter Tryd.func4, Tryd.ntmps4
  go_wp2_with (go_at_call 6; refine (awake_any _ hT).mono ?_; rintro e w2 ⟨rfl, hb2⟩)
  go_ret
  exact ⟨rfl, hb2⟩
set_option maxRecDepth 50000 in
theorem keys_long_n (A PA : Option Addr) (l c n pc : Nat) (s : ByteArray) (w : World) (hT : TabsH w) (h : ¬ 300 < l ∧ ¬ 100 < s.size ∧ 20 < n) : Calls Tryd.prog 4 #[.slice A l c, .string s, .slice PA n pc] w fun e w' => e = .returned (.bool true) ∧ Below w.heap.size w w' := by
  have e0 : decide ((300 : Int) < l) = false := decide_eq_false (by omega)
  have e1 : decide ((100 : Int) < s.size) = false := decide_eq_false (by omega)
  have e2 : decide ((20 : Int) < n) = true := decide_eq_true (by omega)
  clear h
  go_enter Tryd.func4, Tryd.ntmps4
  go_wp2_with (go_at_call 6; refine (awake_any _ hT).mono ?_; rintro e w2 ⟨rfl, hb2⟩)
  go_ret
  exact ⟨rfl, hb2⟩
/-- A context, of any length. -/
def PartW (w : World) (q : Part) : Prop := Nums w .u8 q.1 q.2.2 ∧ q.2.2.length ≤ q.2.1 ∧ HByt q.2.2
set_option maxRecDepth 50000 in
set_option maxHeartbeats 4000000 in
theorem keys_core (K it nx : List Int) (E : Int) (A PA : Option Addr) (l c n pc : Nat) (s : ByteArray) (cs : List Part) (w : World) (hT : TabsH w) (hl : (l : Int) ≤ 300) (hs : (s.size : Int) ≤ 100) (hn20 : (n : Int) ≤ 20) (hP : Parts w PA cs) (hn : Hid (cs.length = n))
    (HKC : Hid ((∀ q ∈ cs, q.2.2.length ≤ 100) → ∀ w' : World, Below w.heap.size w w' → Calls Tryd.prog 9 #[.slice A l c, .string s, .slice PA n pc] w' fun e w'' => e = .returned (.tuple #[.agg (ints .u8 K).toArray, .int .i64 E]) ∧ Below w'.heap.size w' w'')) (HKR : Hid ((∀ q ∈ cs, q.2.2.length ≤ 100) → ∀ w' : World, Below w.heap.size w w' → Calls Tryd.prog 10 #[.slice A l c, .string s, .slice PA n pc] w' fun e w'' => e = .returned (.tuple #[.agg (ints .u8 K).toArray, .int .i64 E]) ∧ Below w'.heap.size w' w''))
    (HKL : Hid (K.length = 32)) (HIL : Hid (it.length = 32)) (HNL : Hid (nx.length = 32))
    (HI : Hid (∀ w : World, TabsH w → Calls Tryd.prog 11 #[.agg (ints .u8 K).toArray] w fun e w' => e = .returned (.agg (ints .u8 it).toArray) ∧ Below w.heap.size w w'))
    (HN : Hid (∀ w : World, TabsH w → Calls Tryd.prog 12 #[.agg (ints .u8 K).toArray] w fun e w' => e = .returned (.agg (ints .u8 nx).toArray) ∧ Below w.heap.size w w'))
    (HRN : Hid (∀ w : World, Calls Tryd.prog 13 #[.agg (ints .u8 K).toArray] w fun e w' => e = .returned (.agg (ints .u8 nx).toArray) ∧ Below w.heap.size w w'))
    (HRI : Hid (∀ (B : Option Addr) (d : Nat) (w : World), Nums w .u8 B K → Calls Tryd.prog 10 #[.slice B 32 d, .string { data := #[105, 116, 101, 109] }, .slice none 0 0] w fun e w' => e = .returned (.tuple #[.agg (ints .u8 it).toArray, .int .i64 0]) ∧ Below w.heap.size w w')) : Calls Tryd.prog 4 #[.slice A l c, .string s, .slice PA n pc] w fun e w' => e = .returned (.bool true) ∧ Below w.heap.size w w' := by
  obtain ⟨z32, s32⟩ := zero_of_info infS32
  have e0 : decide ((300 : Int) < l) = false := decide_eq_false (by omega)
  have e1 : decide ((100 : Int) < s.size) = false := decide_eq_false (by omega)
  have e2 : decide ((20 : Int) < n) = false := decide_eq_false (by omega)
  clear hl hs
  go_enter Tryd.func4, Tryd.ntmps4
  go_wp2_with (go_at_call 6; refine (awake_any _ hT).mono ?_; rintro e w1 ⟨rfl, hb1⟩)
  have hT0 := hT
  replace hT := hT.next hb1
  have hW := hb1
  clear hb1 e0 e1 e2
  go_loopw [32] (fun i wr => ∃ k : Nat, k ≤ n ∧ i = .int .i64 k ∧ Hid (∀ j, j < k → ∀ q, cs[j]? = some q → q.2.2.length ≤ 100) ∧ wr = w1) (fun i _ => n - (intOf i).toNat)
  case atStart => exact ⟨0, Nat.zero_le _, rfl, hid (fun j h => absurd h (by omega)), rfl⟩
  case round =>
    obtain ⟨k, hk, rfl, HJ, rfl⟩ := hrel
    by_cases hlt : k < n
    · obtain ⟨q, hq⟩ : ∃ q, cs[k]? = some q := ⟨cs[k]'(by rw [hn.out]; exact hlt), by simp [hn.out, hlt]⟩
      obtain ⟨g, off, rfl, hg, hc⟩ := (hP.below hW) (by rw [hn.out]; omega)
      have hck := hc k q hq
      have k0 : (0 : Int) ≤ k := by omega
      have k1 : (k : Int) < n := by omega
      have HQ := hid hq
      obtain ⟨ql, hqe⟩ : ∃ ql, q.2.2.length = ql := ⟨_, rfl⟩
      rw [hqe] at hck
      have HQE := hid hqe
      clear hc hq hqe
      by_cases hbig : ql ≤ 100
      · have e3 : decide ((100 : Int) < ql) = false := decide_eq_false (by omega)
        have HQL := hid hbig
        clear hbig
        go_wp2
        go_roundw
        case rel => exact ⟨k + 1, by omega, by go_num, hid (fun j hj q' hq' => by
          by_cases e : j = k
          · subst e
            have e4 := HQ.out.symm.trans hq'
            injection e4 with e4
            rw [← e4, HQE.out]
            exact HQL.out
          · exact HJ.out j (by omega) q' hq'), trivial⟩
        case measure => simp [intOf]; omega
      · have e3 : decide ((100 : Int) < ql) = true := decide_eq_true (by omega)
        clear hbig
        go_wp2
        go_ret
        exact ⟨rfl, hW⟩
    · have e : k = n := by omega
      subst e
      have HALL : ∀ q ∈ cs, q.2.2.length ≤ 100 := fun q hq => by
        obtain ⟨j, hj⟩ := List.getElem?_of_mem hq
        exact HJ.out j (by have := (List.getElem?_eq_some_iff.1 hj).1; rw [hn.out] at this; exact this) q hj
      have HC := hid (HKC.out HALL)
      have HR := hid (HKR.out HALL)
      clear HKC HKR HALL HJ hlt hk
      go_upto_region 13 with (first
        | (go_at_call 9; refine (HC.out _ hW).mono ?_; rintro e w2 ⟨rfl, hb2⟩
           have R9 := (Rw.new w2 (ints .u8 (hzeros 32)) 30).roomA (us := ints .u8 K) ((il HKL.out).trans (il (hz_len 32)).symm)
           have h9 := (Rw.new w2 (ints .u8 (hzeros 32)) 30).storedA (us := ints .u8 K) ((il HKL.out).trans (il (hz_len 32)).symm)
           have hb3 := hb2.trans (Below.mono (Below.setCells (below_new w2 (.cells (ints .u8 (hzeros 32)).toArray 30)) (Nat.le_refl _) 0 (ints .u8 K).toArray.toList) hb2.size)
           replace hT := hT.next hb3
           replace hW := hW.trans (Below.mono hb3 hW.size)
           clear hb2 hb3 HC)
        | (with_reducible refine wpList_store_mid (op := ⟨none, .store 30 (.tmp 9) (.tmp 45), _, _, _, _⟩) rfl 30 (.tmp 9) (.tmp 45) rfl w2.heap.size 0 (ints .u8 K).toArray rfl rfl R9 (szA infS32 (il HKL.out)) (ints_all _ _) ?_
           generalize (w2.alloc (.cells (ints .u8 (hzeros 32)).toArray 30)).setCells w2.heap.size 0 (ints .u8 K).toArray.toList = w3 at *
           generalize w2.heap.size = b9 at *
           clear R9)
        | (go_at_call 10; refine (HR.out _ hW).mono ?_; rintro e w4 ⟨rfl, hb4⟩
           have R11 := (Rw.new w4 (ints .u8 (hzeros 32)) 30).roomA (us := ints .u8 K) ((il HKL.out).trans (il (hz_len 32)).symm)
           have h11 := (Rw.new w4 (ints .u8 (hzeros 32)) 30).storedA (us := ints .u8 K) ((il HKL.out).trans (il (hz_len 32)).symm)
           have hb5 := hb4.trans (Below.mono (Below.setCells (below_new w4 (.cells (ints .u8 (hzeros 32)).toArray 30)) (Nat.le_refl _) 0 (ints .u8 K).toArray.toList) hb4.size)
           replace hT := hT.next hb5
           replace h9 := h9.next hb5
           replace hW := hW.trans (Below.mono hb5 hW.size)
           clear hb4 hb5 HR)
        | (with_reducible refine wpList_store_mid (op := ⟨none, .store 30 (.tmp 11) (.tmp 52), _, _, _, _⟩) rfl 30 (.tmp 11) (.tmp 52) rfl w4.heap.size 0 (ints .u8 K).toArray rfl rfl R11 (szA infS32 (il HKL.out)) (ints_all _ _) ?_
           generalize (w4.alloc (.cells (ints .u8 (hzeros 32)).toArray 30)).setCells w4.heap.size 0 (ints .u8 K).toArray.toList = w5 at *
           generalize w4.heap.size = b11 at *
           clear R11))
      have s5 := hW.size
      refine region_seq2 8 78 (fun _ => false) [Is (.agg (ints .u8 K).toArray), Is (.agg (ints .u8 K).toArray), Is (.bool false), Is (.bool false), Is (.int .i64 E), Is (.int .i64 E), Is (.bool false), Is (.bool false)] [54, 55, 56, 57, 58, 59, 60, 61] (by kernel_rfl) (by kernel_rfl) (Nat.le_of_eq rfl) (grows_cons (Is.grows _) (grows_cons (Is.grows _) (grows_cons (Is.grows _) (grows_cons (Is.grows _) (grows_cons (Is.grows _) (grows_cons (Is.grows _) (grows_cons (Is.grows _) (grows_cons (Is.grows _) grows_nil))))))))
        ⟨step_ldV rfl (.inl rfl) (fun _ hw => (h9.next hw).range) rfl Tryd.underlying30 rfl (szV infS32 (il HKL.out)) rfl (knows_out 9 (by kernel_rfl) rfl),
         step_ldV rfl (.inl rfl) (fun _ hw => (h11.next hw).range) rfl Tryd.underlying30 rfl (szV infS32 (il HKL.out)) rfl (knows_out 11 (by kernel_rfl) rfl),
         step_neA rfl (.inl rfl) rfl eqV32 HKL.out HKL.out (decide_eq_true rfl) rfl (knows_in 0 54 (by decide) (by kernel_rfl) rfl rfl) (knows_in 1 55 (by decide) (by kernel_rfl) rfl rfl),
         step_mvP rfl (.inl rfl) rfl rfl (knows_in 2 56 (by decide) (by kernel_rfl) rfl rfl),
         step_mvP rfl (.inr ⟨3, false, 57, rfl, by decide, by kernel_rfl, rfl, fun _ _ h => h⟩) rfl rfl (knows_out 10 (by kernel_rfl) rfl),
         step_mvP rfl (.inr ⟨3, false, 57, rfl, by decide, by kernel_rfl, rfl, fun _ _ h => h⟩) rfl rfl (knows_out 12 (by kernel_rfl) rfl),
         (step_ex (.bool false) rfl (.inr ⟨3, false, 57, rfl, by decide, by kernel_rfl, rfl, fun _ _ h => h⟩) rfl fun a ww hw hf hd => by
             have h0 : a.eval (.tmp 58) = (.int .i64 E) := ((knows_in 4 58 (by decide) (by kernel_rfl) rfl rfl) : Knows _ _ w5 _ 8 _ 6 _ (.int .i64 E)) a ww hw hf hd
             have h1 : a.eval (.tmp 59) = (.int .i64 E) := ((knows_in 5 59 (by decide) (by kernel_rfl) rfl rfl) : Knows _ _ w5 _ 8 _ 6 _ (.int .i64 E)) a ww hw hf hd
             revert h0 h1
             generalize a.eval = ev
             intro h0 h1
             unfold execOp
             simp only [h0, h1]
             go_simp),
         step_pick rfl (.inl rfl) (b := false) rfl rfl (knows_in 3 57 (by decide) (by kernel_rfl) rfl rfl) (knows_in 6 60 (by decide) (by kernel_rfl) rfl rfl), trivial⟩ ?_
      intro val w6 hw hS hap hla
      have e54 : val 54 = (.agg (ints .u8 K).toArray) := hS 0 54 (by decide) rfl
      have e55 : val 55 = (.agg (ints .u8 K).toArray) := hS 1 55 (by decide) rfl
      have e56 : val 56 = (.bool false) := hS 2 56 (by decide) rfl
      have e57 : val 57 = (.bool false) := hS 3 57 (by decide) rfl
      have e58 : val 58 = (.int .i64 E) := hS 4 58 (by decide) rfl
      have e59 : val 59 = (.int .i64 E) := hS 5 59 (by decide) rfl
      have e60 : val 60 = (.bool false) := hS 6 60 (by decide) rfl
      have e61 : val 61 = (.bool false) := hS 7 61 (by decide) rfl
      simp only [putVals, List.foldl_cons, List.foldl_nil, List.drop_succ_cons, List.drop_zero, Act.put, List.setIfInBounds_toArray, List.set_cons_succ, List.set_cons_zero, e54, e55, e56, e57, e58, e59, e60, e61]
      clear hS hap hla e54 e55 e56 e57 e58 e59 e60 e61 
      replace h9 := h9.next hw
      replace hT := hT.next hw
      replace hW := hW.trans (Below.mono hw hW.size)
      clear hw
      clear h11
      go_wp2_with (first
        | (go_at_call 10; refine (HRI.out (some ⟨b9, 0, none⟩) 32 _ h9.nums).mono ?_; rintro e w7 ⟨rfl, hb7⟩
           have R13 := (Rw.new w7 (ints .u8 (hzeros 32)) 30).roomA (us := ints .u8 it) ((il HIL.out).trans (il (hz_len 32)).symm)
           have h13 := (Rw.new w7 (ints .u8 (hzeros 32)) 30).storedA (us := ints .u8 it) ((il HIL.out).trans (il (hz_len 32)).symm)
           have hb8 := hb7.trans (Below.mono (Below.setCells (below_new w7 (.cells (ints .u8 (hzeros 32)).toArray 30)) (Nat.le_refl _) 0 (ints .u8 it).toArray.toList) hb7.size)
           replace hT := hT.next hb8
           replace h9 := h9.next hb8
           replace hW := hW.trans (Below.mono hb8 hW.size)
           clear hb7 hb8)
        | (with_reducible refine wpList_store_mid (op := ⟨none, .store 30 (.tmp 13) (.tmp 65), _, _, _, _⟩) rfl 30 (.tmp 13) (.tmp 65) rfl w7.heap.size 0 (ints .u8 it).toArray rfl rfl R13 (szA infS32 (il HIL.out)) (ints_all _ _) ?_
           generalize (w7.alloc (.cells (ints .u8 (hzeros 32)).toArray 30)).setCells w7.heap.size 0 (ints .u8 it).toArray.toList = w8 at *
           generalize w7.heap.size = b13 at *
           clear R13))
      have s8 := hW.size
      refine region_spec2 11 78 (fun _ => false) [Is (.agg (ints .u8 K).toArray), Is (.agg (ints .u8 it).toArray), Is (.agg (ints .u8 it).toArray), Is (.bool true), Is (.bool true), Is (.agg (ints .u8 K).toArray), Is (.agg (ints .u8 nx).toArray), Is (.agg (ints .u8 K).toArray), Is (.agg (ints .u8 nx).toArray), Is (.bool true), Is (.bool true)] [67, 68, 69, 70, 71, 72, 73, 74, 75, 76, 77] (by kernel_rfl) (by kernel_rfl) (by kernel_rfl) (Nat.le_of_eq rfl) (grows_cons (Is.grows _) (grows_cons (Is.grows _) (grows_cons (Is.grows _) (grows_cons (Is.grows _) (grows_cons (Is.grows _) (grows_cons (Is.grows _) (grows_cons (Is.grows _) (grows_cons (Is.grows _) (grows_cons (Is.grows _) (grows_cons (Is.grows _) (grows_cons (Is.grows _) grows_nil)))))))))))
        ⟨step_ldV rfl (.inl rfl) (fun _ hw => (h9.next hw).range) rfl Tryd.underlying30 rfl (szV infS32 (il HKL.out)) rfl (knows_out 9 (by kernel_rfl) rfl),
         step_cw rfl (.inl rfl) rfl cx11 rfl (fun aa ww hw hf hd => ⟨_, (one_arg (knows_in 0 67 (by decide) (by kernel_rfl) rfl rfl)) aa ww hw hf hd, HI.out ww (hT.next hw)⟩),
         step_ldV rfl (.inl rfl) (fun _ hw => (h13.next hw).range) rfl Tryd.underlying30 rfl (szV infS32 (il HIL.out)) rfl (knows_out 13 (by kernel_rfl) rfl),
         step_eqA rfl (.inl rfl) rfl eqV32 HIL.out HIL.out (decide_eq_true rfl) rfl (knows_in 1 68 (by decide) (by kernel_rfl) rfl rfl) (knows_in 2 69 (by decide) (by kernel_rfl) rfl rfl),
         step_mvP rfl (.inl rfl) rfl rfl (knows_in 3 70 (by decide) (by kernel_rfl) rfl rfl),
         step_ldV rfl (.inr ⟨4, true, 71, rfl, by decide, by kernel_rfl, rfl, fun _ _ h => h⟩) (fun _ hw => (h9.next hw).range) rfl Tryd.underlying30 rfl (szV infS32 (il HKL.out)) rfl (knows_out 9 (by kernel_rfl) rfl),
         step_cw rfl (.inr ⟨4, true, 71, rfl, by decide, by kernel_rfl, rfl, fun _ _ h => h⟩) rfl cx12 rfl (fun aa ww hw hf hd => ⟨_, (one_arg (knows_in 5 72 (by decide) (by kernel_rfl) rfl rfl)) aa ww hw hf hd, HN.out ww (hT.next hw)⟩),
         step_ldV rfl (.inr ⟨4, true, 71, rfl, by decide, by kernel_rfl, rfl, fun _ _ h => h⟩) (fun _ hw => (h9.next hw).range) rfl Tryd.underlying30 rfl (szV infS32 (il HKL.out)) rfl (knows_out 9 (by kernel_rfl) rfl),
         step_cw rfl (.inr ⟨4, true, 71, rfl, by decide, by kernel_rfl, rfl, fun _ _ h => h⟩) rfl cx13 rfl (fun aa ww hw hf hd => ⟨_, (one_arg (knows_in 7 74 (by decide) (by kernel_rfl) rfl rfl)) aa ww hw hf hd, HRN.out ww⟩),
         step_eqA rfl (.inr ⟨4, true, 71, rfl, by decide, by kernel_rfl, rfl, fun _ _ h => h⟩) rfl eqV32 HNL.out HNL.out (decide_eq_true rfl) rfl (knows_in 6 73 (by decide) (by kernel_rfl) rfl rfl) (knows_in 8 75 (by decide) (by kernel_rfl) rfl rfl),
         step_pick rfl (.inl rfl) (b := true) rfl rfl (knows_in 4 71 (by decide) (by kernel_rfl) rfl rfl) (knows_in 9 76 (by decide) (by kernel_rfl) rfl rfl), trivial⟩ ?_
      intro val w9 hw hS hap hla
      have e67 : val 67 = (.agg (ints .u8 K).toArray) := hS 0 67 (by decide) rfl
      have e68 : val 68 = (.agg (ints .u8 it).toArray) := hS 1 68 (by decide) rfl
      have e69 : val 69 = (.agg (ints .u8 it).toArray) := hS 2 69 (by decide) rfl
      have e70 : val 70 = (.bool true) := hS 3 70 (by decide) rfl
      have e71 : val 71 = (.bool true) := hS 4 71 (by decide) rfl
      have e72 : val 72 = (.agg (ints .u8 K).toArray) := hS 5 72 (by decide) rfl
      have e73 : val 73 = (.agg (ints .u8 nx).toArray) := hS 6 73 (by decide) rfl
      have e74 : val 74 = (.agg (ints .u8 K).toArray) := hS 7 74 (by decide) rfl
      have e75 : val 75 = (.agg (ints .u8 nx).toArray) := hS 8 75 (by decide) rfl
      have e76 : val 76 = (.bool true) := hS 9 76 (by decide) rfl
      have e77 : val 77 = (.bool true) := hS 10 77 (by decide) rfl
      simp only [putVals, List.foldl_cons, List.foldl_nil, List.drop_succ_cons, List.drop_zero, Act.put, List.setIfInBounds_toArray, List.set_cons_succ, List.set_cons_zero, e67, e68, e69, e70, e71, e72, e73, e74, e75, e76, e77]
      clear hS hap hla e67 e68 e69 e70 e71 e72 e73 e74 e75 e76 e77 
      replace hW := hW.trans (Below.mono hw hW.size)
      clear hw
      go_wp2
      go_ret
      exact ⟨rfl, hW⟩
theorem PartW.ok {w : World} {q : Part} (h : PartW w q) (hl : q.2.2.length ≤ 100) : PartOk w q := ⟨h.1, h.2.1, by omega, h.2.2⟩
theorem PartW.below {w w' : World} {q : Part} (h : PartW w q) (hb : Below w.heap.size w w') : PartW w' q := ⟨h.1.below hb, h.2⟩
theorem good_c (src : List Int) (A PA : Option Addr) (l c n pc : Nat) (s : ByteArray) (cs : List Part) (w : World) (hT : TabsH w) (HK : Hid (src.length = l)) (h0 : 0 < l) (h1 : l ≤ 1000) (hs : s.size ≤ 64) (hn6 : n ≤ 16) (hlc : l ≤ c) (hkb : HByt src) (hA : Nums w .u8 A src) (hP : Parts w PA cs) (hn : Hid (cs.length = n)) (hok : ∀ q ∈ cs, PartW w q) (hall : ∀ q ∈ cs, q.2.2.length ≤ 100) (w' : World) (hb : Below w.heap.size w w') :
    Calls Tryd.prog 9 #[.slice A l c, .string s, .slice PA n pc] w' fun e w'' => e = .returned (.tuple #[.agg (ints .u8 (keyD src (strL s) (cs.map (·.2.2)))).toArray, .int .i64 0]) ∧ Below w'.heap.size w' w'' :=
  key_any src A PA l c n pc s cs w' (hT.next hb) HK h0 h1 hlc hkb (hA.below hb) hs (hP.below hb) hn hn6 (fun q hq => ((hok q hq).below hb).ok (hall q hq))
theorem good_r (src : List Int) (A PA : Option Addr) (l c n pc : Nat) (s : ByteArray) (cs : List Part) (w : World) (HK : Hid (src.length = l)) (h0 : 0 < l) (h1 : l ≤ 1000) (hs : s.size ≤ 64) (hn6 : n ≤ 16) (hkb : HByt src) (hA : Nums w .u8 A src) (hP : Parts w PA cs) (hn : Hid (cs.length = n)) (hok : ∀ q ∈ cs, PartW w q) (hall : ∀ q ∈ cs, q.2.2.length ≤ 100) (w' : World) (hb : Below w.heap.size w w') :
    Calls Tryd.prog 10 #[.slice A l c, .string s, .slice PA n pc] w' fun e w'' => e = .returned (.tuple #[.agg (ints .u8 (keyD src (strL s) (cs.map (·.2.2)))).toArray, .int .i64 0]) ∧ Below w'.heap.size w' w'' :=
  rkey_any src A PA l c n pc s cs w' HK h0 h1 hkb (hA.below hb) hs (hP.below hb) hn hn6 (fun q hq => ((hok q hq).below hb).ok (hall q hq)) hall
set_option maxHeartbeats 1000000 in
theorem keys_any (src : List Int) (A PA : Option Addr) (l c n pc : Nat) (s : ByteArray) (cs : List Part) (w : World) (hT : TabsH w) (HK : Hid (src.length = l)) (hlc : l ≤ c) (hkb : HByt src) (hA : Nums w .u8 A src) (hP : Parts w PA cs) (hn : Hid (cs.length = n)) (hok : ∀ q ∈ cs, PartW w q) : Calls Tryd.prog 4 #[.slice A l c, .string s, .slice PA n pc] w fun e w' => e = .returned (.bool true) ∧ Below w.heap.size w w' := by
  by_cases g1 : 300 < l
  · exact keys_long_l A PA l c n pc s w hT g1
  by_cases g2 : 100 < s.size
  · exact keys_long_s A PA l c n pc s w hT ⟨g1, g2⟩
  by_cases g3 : 20 < n
  · exact keys_long_n A PA l c n pc s w hT ⟨g1, g2, g3⟩
  have fin : ∀ (K : List Int) (E : Int), K.length = 32 → HByt K → ((∀ q ∈ cs, q.2.2.length ≤ 100) → ∀ w' : World, Below w.heap.size w w' → Calls Tryd.prog 9 #[.slice A l c, .string s, .slice PA n pc] w' fun e w'' => e = .returned (.tuple #[.agg (ints .u8 K).toArray, .int .i64 E]) ∧ Below w'.heap.size w' w'') → ((∀ q ∈ cs, q.2.2.length ≤ 100) → ∀ w' : World, Below w.heap.size w w' → Calls Tryd.prog 10 #[.slice A l c, .string s, .slice PA n pc] w' fun e w'' => e = .returned (.tuple #[.agg (ints .u8 K).toArray, .int .i64 E]) ∧ Below w'.heap.size w' w'') → Calls Tryd.prog 4 #[.slice A l c, .string s, .slice PA n pc] w fun e w' => e = .returned (.bool true) ∧ Below w.heap.size w w' := fun K E hKL hKB h1 h2 =>
    keys_core K (itemV K) (nextV K) E A PA l c n pc s cs w hT (by omega) (by omega) (by omega) hP hn (hid h1) (hid h2) (hid hKL) (hid (itemV_len _)) (hid (nextV_len _)) (hid fun w hT => item_any K w hT hKL hKB) (hid fun w hT => next_any K w hT hKL hKB) (hid fun w => rnext_any K w hKL hKB) (hid fun B d w hB => by
      have h := rkey_any K B none 32 d 0 0 sITM [] w (hid hKL) (by omega) (by omega) hKB hB (by decide) (parts_none _) (hid rfl) (by omega) (fun q hq => absurd hq (by simp)) (fun q hq => absurd hq (by simp))
      rw [List.map_nil, strL_itm] at h
      exact h)
  by_cases g4 : l = 0
  · subst g4
    exact fin (hzeros 32) 20 (hz_len 32) (hz_byt 32) (fun _ w' _ => key_empty A PA c n pc s w') (fun _ w' _ => rkey_empty A PA c n pc s w')
  by_cases g5 : 64 < s.size ∨ 16 < n
  · exact fin (hzeros 32) 3 (hz_len 32) (hz_byt 32) (fun _ w' _ => key_limit A PA l c n pc s w' (by omega) g5) (fun _ w' _ => rkey_limit A PA l c n pc s w' (by omega) g5)
  · obtain ⟨K, hK⟩ : ∃ K, K = keyD src (strL s) (cs.map (·.2.2)) := ⟨_, rfl⟩
    have hc := fun hall w' hb => good_c src A PA l c n pc s cs w hT HK (by omega) (by omega) (by omega) (by omega) hlc hkb hA hP hn hok hall w' hb
    have hr := fun hall w' hb => good_r src A PA l c n pc s cs w HK (by omega) (by omega) (by omega) (by omega) hkb hA hP hn hok hall w' hb
    have h1 : K.length = 32 := by rw [hK]; exact keyD_len _ _ _
    have h2 : HByt K := by rw [hK]; exact keyD_byt _ _ _
    rw [← hK] at hc hr
    clear hK
    exact fin K 0 h1 h2 hc hr
end Go.Proofs.YtihipgojeikdkaaDoor
