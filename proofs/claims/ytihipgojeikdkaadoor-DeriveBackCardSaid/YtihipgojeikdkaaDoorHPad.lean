/- The padding. -/
import Derived.Test.YtihipgojeikdkaaDoorApp
import Derived.Test.YtihipgojeikdkaaDoorHDig
import Derived.Lib.AppendZerosOnto
namespace Go.Proofs.YtihipgojeikdkaaDoor
open Go.RowKit Go.ChangeShapes Go.WideShapes

/-- What follows n bytes. -/
def padB (n : Nat) : List Int := [128] ++ hzeros (127 - (n + 16) % 128) ++ splitB true 8 [0, 8 * (n : Int)]
set_option maxRecDepth 50000 in
theorem padB_length (n : Nat) : (padB n).length = 144 - (n + 16) % 128 := by
  simp [padB, hzeros, splitB_length]; omega

set_option maxRecDepth 50000 in
theorem zeroCells_u8 (n : Nat) : (Builtin.zeroCells #[.int .u8 0] n).toList = (hzeros n).map (Value.int .u8) := by
  apply List.ext_getElem?
  intro i
  by_cases h : i < n <;> simp [Builtin.zeroCells, hzeros, h, Nat.mod_one]

set_option maxRecDepth 50000 in
theorem run_zeros {P : Program} (w : World) (t tn ty e : TypeId) (kn : IntKind) (ht : P.underlying t = some (.slice e)) (htn : P.underlying tn = some (.int kn))
    (hinf : (P.info? e).map (fun i => (i.zero, i.size, i.bytes)) = some (some (.int .u8 0), 1, 1)) (base g k : Nat) (x : Int) (hO : Owns w base e .u8 (.slice (some ⟨g, 0, none⟩) 1 1) [x]) (hb : base ≤ w.heap.size) (hk : k ≤ 1000) :
    ∃ A' c' w', (Builtin.append_ #[t, tn] ty #[.slice (some ⟨g, 0, none⟩) 1 1, .int kn (k : Int)]).run P w = .ok (.slice A' (k + 1) c') w' ∧ Owns w' base e .u8 (.slice A' (k + 1) c') ([x] ++ hzeros k) ∧ Below w.heap.size w w' := by
  obtain ⟨i, hi, hz, hsize, hby⟩ := info_parts hinf
  obtain ⟨y, hy, _, hy2⟩ := hO.spot (j := 0) (by simp)
  have hyx : y = x := by have := hy2.out; simpa using this.symm
  subst hyx
  by_cases h0 : k = 0
  · subst h0
    refine ⟨_, _, w, ?_, by simpa [hzeros] using hO, Below.refl _ _⟩
    have hw : IntKind.i64.wrap 0 = 0 := rfl
    simp [Builtin.append_, run_underlying ht, run_underlying htn, sizeOf, typeInfo, hi, asInt, asIntOf, hw, storeCells]
  · have hold : (Builtin.firstCells i.size 1 (.slice (some ⟨g, 0, none⟩) 1 1)).run P w.drew = .ok [Value.int .u8 y].toArray w.drew := by
      have hl := run_loadCells_list (P := P) w.drew ⟨g, 0, none⟩ [Value.int .u8 y] (fun j v hv => by
        have hj : j = 0 := by have := (List.getElem?_eq_some_iff.1 hv).1; simpa using this
        subst hj
        simp at hv; subst hv
        rw [Addr.add_mid]; exact hy)
      simpa [Builtin.firstCells, hsize] using hl
    have hns := nextslicecap_le (need := 1 + k) (old := 1) (by omega)
    have h := Lib.run_append_grow_zeros (P := P) w t tn ty e i (.int .u8 0) kn kn ht htn hi hz (some ⟨g, 0, none⟩) 1 1 [.int .u8 y] hold k (by omega) (by omega) (by omega) (by omega) (by rw [hby]; omega) (by rw [hby]; omega)
    have hge := grownCap_ge w (1 + k) 1 e
    have hle := grownCap_le_maxLen w (1 + k) 1 e (by unfold maxLen; omega)
    generalize grownCap w (1 + k) 1 e = G at *
    have hzc : (Value.int .u8 0).cells.size = 1 := rfl
    refine ⟨_, _, _, by rw [h, Nat.add_comm 1 k], ?_, ((Below.refl _ _).drew).alloc (Nat.le_refl _) _⟩
    refine ⟨by simp [hzeros], .inr ⟨w.heap.size, G, _, ?_, hb, heap_alloc_new w.drew _, ?_, hle, ?_, ?_⟩⟩
    · rw [List.length_append, List.length_singleton]; simp [hzeros, Nat.add_comm k 1]
    · simp [hzeros]; omega
    · rw [Array.size_append, Array.size_append, size_zeroCells, size_zeroCells, hzc]; simp; omega
    · rw [Array.toList_append, Array.toList_append, List.take_append_of_le_length (by simp only [List.length_append, Array.length_toList, size_zeroCells, Value.cells]; simp [hzeros]), List.take_of_length_le (by simp only [List.length_append, Array.length_toList, size_zeroCells, Value.cells]; simp [hzeros])]
      simp only [Value.cells, List.map_append, zeroCells_u8]; rfl

set_option maxRecDepth 50000 in
theorem pad_byt {n : Nat} {y : List Int} (h : Hid (y = padB n)) : HByt y := by
  rw [h.out]
  intro x hx
  simp only [padB, List.mem_append, List.mem_singleton] at hx
  rcases hx with (rfl | hx) | hx
  · exact ⟨by omega, by omega⟩
  · have := List.eq_of_mem_replicate hx
    subst this; exact ⟨by omega, by omega⟩
  · exact splitB_byt _ _ _ x hx
set_option maxRecDepth 50000 in
theorem pad_no (n : Int) (w : World) (h : n < 0 ∨ 1099511627776 < n) :
    Calls Tryd.prog 36 #[.int .i64 n] w fun e w' => e = .returned (.slice none 0 0) ∧ w = w' := by
  by_cases h1 : n < 0
  · clear h
    have hd : decide (n < 0) = true := by simpa using h1
    go_enter Tryd.func36, Tryd.ntmps36
    go_wp2
    go_ret
    exact ⟨rfl, rfl⟩
  · have h2 : 1099511627776 < n := by omega
    clear h
    have hd : decide (n < 0) = false := by simpa using h1
    go_enter Tryd.func36, Tryd.ntmps36
    go_wp2
    go_ret
    exact ⟨rfl, rfl⟩
set_option maxRecDepth 50000 in
set_option maxHeartbeats 1000000 in
theorem pad_yes (n : Nat) (w : World) (h : n ≤ 1099511627776) :
    Calls Tryd.prog 36 #[.int .i64 n] w fun e w' => ∃ A c ys, e = .returned (.slice A ys.length c) ∧ Hid (ys = padB n) ∧ ys.length ≤ c ∧ NumsF w.heap.size w' .u8 A ys ∧ Below w.heap.size w w' := by
  obtain ⟨k, hk⟩ : ∃ k, k = 127 - (n + 16) % 128 := ⟨_, rfl⟩
  have HK := hid hk
  have hk127 : k ≤ 127 := by omega
  have hm1 : ((n : Int) + 16) % 128 = 127 - (k : Int) := by omega
  clear hk
  have hd : decide ((n : Int) < 0) = false := by simp
  have hd2 : ¬ (1099511627776 < (n : Int)) := by omega
  have hm2 : (127 - ((n : Int) + 17 - 1) % 128) = (k : Int) := by omega
  have hwn : IntKind.u64.wrap (n : Int) = (n : Int) := IntWalk.u64_in _ (by omega)
  have hw8 : IntKind.u64.wrap (8 * (n : Int)) = 8 * (n : Int) := IntWalk.u64_in _ (by omega)
  clear hm1
  obtain ⟨A1, c1, w1, hr1, hO1, hb1⟩ := run_zeros (P := Tryd.prog) (w.alloc (.cells #[.int .u8 128] 5)) 22 3 22 5 .i64 Tryd.underlying22 Tryd.underlying3 Tryd.info5 w.heap.size w.heap.size k 128 (Owns.new w w.heap.size 5 .u8 [128] (Nat.le_refl _) (by unfold maxLen; simp)) (by simp) (by omega)
  have hs1 := hb1.size
  rw [World.size_alloc] at hs1
  go_enter Tryd.func36, Tryd.ntmps36
  go_wp2_with (first
    | (go_at_call 37; refine (wBytes64 _ 2 [0, 8 * (n : Int)] _ (by simp) (nums_two w1 .u64 0 (8 * (n : Int)) 61)).mono ?_; rintro e w2 ⟨B2, d2, ys2, rfl, HY2, hN2, hb2⟩; have hy8 : ys2.length = 16 := (by rw [HY2.out, splitB_length]; rfl); have HY8 := hid hy8; have hy16 : ys2.length ≤ 16 := (by omega); clear hy8; have hO2 := (hO1.alloc (.cells #[.int .u64 0, .int .u64 (8 * (n : Int))] 61)).stay hb2)
    | (at_builtin; refine Lib.wpList_append_run _ rfl (.tmp 16) (.tmp 17) 22 3 rfl (.slice (some ⟨w.heap.size, 0, none⟩) 1 1) (.int .i64 k) rfl rfl _ w1 hr1 ?_)
    | (at_builtin; refine app_nums rfl (.tmp 19) (.tmp 24) 22 rfl w.heap.size 5 .u8 1 Tryd.underlying22 Tryd.info5 (by omega) A1 (k + 1) c1 ([128] ++ hzeros k) rfl hO2 B2 d2 ys2 rfl hN2.nums (by simp [hzeros]; omega) (by have := hb2.size; rw [World.size_alloc] at this; omega) ?_; intro A3 n3 c3 w3 hO3 hG3))
  go_ret
  have hn3 := hO3.len
  have hpd : [128] ++ hzeros k ++ ys2 = padB n := by rw [HY2.out]; unfold padB; rw [← HK.out]
  rw [hpd] at hO3 hn3
  have hc3 : n3 ≤ c3 := by
    rcases hO3.2 with ⟨hv, h0⟩ | ⟨g, cap, cur, hv, _, _, hle, _⟩
    · injection hv; omega
    · injection hv; omega
  refine ⟨A3, c3, padB n, by rw [← hn3]; rfl, hid rfl, by omega, hO3.fresh, ?_⟩
  have hG : Below w.heap.size w1 w3 := ((((Below.refl _ _).alloc (by omega) _)).trans (hb2.mono (by rw [World.size_alloc]; omega))).trans (hG3.below (by have := hb2.size; rw [World.size_alloc] at this; omega) (fun g hg => (hO2.lt g hg).1))
  exact ((below_new w _).trans (hb1.mono (by simp))).trans hG
end Go.Proofs.YtihipgojeikdkaaDoor
