/- What is hidden: where the stream is too short. -/
import Derived.Test.YtcbcahlgafngcaaDoorCHide
namespace Go.Proofs.YtcbcahlgafngcaaDoor
open Go Go.RowKit
attribute [local go_sem] Oper.semAt_some

set_option maxRecDepth 50000 in
set_option maxHeartbeats 4000000 in
theorem hide_limit (key nonce : List Int) (c lb cb : Nat) (AB : Option Addr) (w : World) (h5 : lb ≤ 500)
    (hc : c < 4294967296) (hbn : 64 * (4294967296 - c) < lb) :
    Calls Tryd.prog 13 #[.agg (ints .u8 key).toArray, .agg (ints .u8 nonce).toArray, .int .u32 (c : Int), .slice AB lb cb] w fun e w' => e = .returned (.tuple #[.slice none 0 0, .int .i64 3]) ∧ Below w.heap.size w w' := by
  obtain ⟨L, hL⟩ : ∃ L, 4294967296 - c = L := ⟨_, rfl⟩
  have hLi : (4294967296 : Int) - (c : Int) = (L : Int) := by omega
  have hL0 : (0 : Int) ≤ L := by omega
  have hL1 : (L : Int) ≤ 4294967296 := by omega
  have hc0 : (0 : Int) ≤ c := by omega
  have hc1 : (c : Int) < 4294967296 := by omega
  have hlb0 : (0 : Int) ≤ lb := by omega
  have hlb5 : (lb : Int) ≤ 500 := by omega
  have hlbL : (L : Int) * 64 < (lb : Int) := by omega
  rw [hL] at hbn
  have HL := hid hL
  clear hL
  obtain ⟨mn, hmn⟩ : ∃ m, (if (L : Int) * 64 < 1048576 then (L : Int) * 64 else 1048576) = m := ⟨_, rfl⟩
  have hmnl : mn < (lb : Int) := by rw [← hmn]; split <;> omega
  have hmin0 : ∀ (ts : Array TypeId) (t : TypeId) (W : World), (Builtin.min_ ts t #[.int .i64 1048576, .int .i64 ((L : Int) * 64)]).run Tryd.prog W = .ok (.int .i64 mn) W := fun ts t W => by rw [run_min_int2, hmn]
  clear hmin0
  go_enter Tryd.func13, Tryd.ntmps13
  obtain ⟨i0, hi0, hz0, hz1, hz2⟩ := info_parts Tryd.info5
  go_upto_region 2 with (fail)
  obtain ⟨W3, hW3, hK, hN, c70, hB3, hz3⟩ := hide_world key nonce AB lb cb w
  rw [← hW3]
  have HZ := hid hz3
  clear hW3 hz3
  have c7 : ∀ ww, Cl W3 ww → ww.cell? ⟨w.heap.size + 1 + 1, 0, none⟩ = some (.slice AB lb cb) := fun ww h => (h.cell (p := ⟨w.heap.size + 1 + 1, 0, none⟩) (by rw [HZ.out]; simp)).trans c70
  refine region_seq2 5 46 (fun _ => false) [Is (.slice AB lb cb), Is (.int .i64 (lb : Int)), Is (.int .i64 ((L : Int) * 64)), Is (.int .i64 mn), Is (.bool true)] [17, 18, 19, 20, 21] (by kernel_rfl) (by kernel_rfl) (Nat.le_of_eq rfl) (grows_cons (Is.grows _) (grows_cons (Is.grows _) (grows_cons (Is.grows _) (grows_cons (Is.grows _) (grows_cons (Is.grows _) grows_nil)))))
    ⟨(step_ex (.slice AB lb cb) rfl (.inl rfl) rfl fun a ww hw hf hd => by
         have h7 : a.eval (.tmp 7) = (.pointer (some ⟨w.heap.size + 1 + 1, 0, none⟩)) := ((knows_out (v := (.pointer (some ⟨w.heap.size + 1 + 1, 0, none⟩))) 7 (by kernel_rfl) rfl) : Knows _ _ W3 _ 5 _ 0 _ _) a ww hw hf hd
         have hcc := c7 ww hw
         revert h7
         generalize a.eval = ev
         intro h7
         unfold execOp
         simp only [h7]
         go_simp),
     (step_ex (.int .i64 (lb : Int)) rfl (.inl rfl) rfl fun a ww hw hf hd => by
         have h17 : a.eval (.tmp 17) = (.slice AB lb cb) := ((knows_in (v := (.slice AB lb cb)) 0 17 (by decide) (by kernel_rfl) rfl rfl) : Knows _ _ W3 _ 5 _ 1 _ _) a ww hw hf hd
         revert h17
         generalize a.eval = ev
         intro h17
         unfold execOp
         simp only [h17]
         go_simp),
     (step_ex (.int .i64 ((L : Int) * 64)) rfl (.inl rfl) rfl fun a ww hw hf hd => by
         have h10 : a.eval (.tmp 10) = (.int .i64 ((L : Int) * 64)) := ((knows_out (v := (.int .i64 ((L : Int) * 64))) 10 (by kernel_rfl) rfl) : Knows _ _ W3 _ 5 _ 2 _ _) a ww hw hf hd
         revert h10
         generalize a.eval = ev
         intro h10
         unfold execOp
         simp only [h10]
         go_simp),
     (step_min rfl (.inl rfl) rfl rfl hmn (knows_const _) (knows_in (v := (.int .i64 ((L : Int) * 64))) 2 19 (by decide) (by kernel_rfl) rfl rfl)),
     (step_ex (.bool true) rfl (.inl rfl) rfl fun a ww hw hf hd => by
         have h18 : a.eval (.tmp 18) = (.int .i64 (lb : Int)) := ((knows_in (v := (.int .i64 (lb : Int))) 1 18 (by decide) (by kernel_rfl) rfl rfl) : Knows _ _ W3 _ 5 _ 4 _ _) a ww hw hf hd
         have h20 : a.eval (.tmp 20) = (.int .i64 mn) := ((knows_in (v := (.int .i64 mn)) 3 20 (by decide) (by kernel_rfl) rfl rfl) : Knows _ _ W3 _ 5 _ 4 _ _) a ww hw hf hd
         revert h18 h20
         generalize a.eval = ev
         intro h18 h20
         unfold execOp
         simp only [h18, h20]
         go_simp), trivial⟩ ?_
  intro val w9 hw hS hap hla
  have e17 : val 17 = (.slice AB lb cb) := hS 0 17 (by decide) rfl
  have e18 : val 18 = (.int .i64 (lb : Int)) := hS 1 18 (by decide) rfl
  have e19 : val 19 = (.int .i64 ((L : Int) * 64)) := hS 2 19 (by decide) rfl
  have e20 : val 20 = (.int .i64 mn) := hS 3 20 (by decide) rfl
  have e21 : val 21 = (.bool true) := hS 4 21 (by decide) rfl
  simp only [putVals, List.foldl_cons, List.foldl_nil, List.drop_succ_cons, List.drop_zero, Act.put, List.setIfInBounds_toArray, List.set_cons_succ, List.set_cons_zero, e17, e18, e19, e20, e21]
  clear hS hap hla e17 e18 e19 e20 e21
  have hB9 : Below w.heap.size w w9 := hB3.trans (hw.mono (by rw [HZ.out]; omega))
  clear hK hN c70 c7 hw hmn hmnl HZ hB3
  rename_i Q0 K1 a1 K0 a0
  refine wpList_nil (a0 _ _ ?_)
  clear a0
  go_wp2
  go_ret2
  exact ⟨rfl, hB9⟩
end Go.Proofs.YtcbcahlgafngcaaDoor
