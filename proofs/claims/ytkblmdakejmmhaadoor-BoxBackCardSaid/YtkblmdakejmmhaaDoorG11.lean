/- Texts of this proof, laid together: SwapR, Clamp. -/
import Derived.Test.YtkblmdakejmmhaaDoorRatM
/- The exchange of two ratios. -/
namespace Go.Proofs.YtkblmdakejmmhaaDoor
open Go Go.RowKit

set_option maxRecDepth 4000 in
set_option maxHeartbeats 4000000 in
theorem swapR_core {px pz qx qz S T U V : List Int} {sw : Bool} (hpx : px.length = 16) (hpz : pz.length = 16) (hqx : qx.length = 16) (hqz : qz.length = 16) (hS : S.length = 16) (hT : T.length = 16) (hU : U.length = 16) (hV : V.length = 16)
    (kx : CallsTo 40 #[.agg (ints .i64 px).toArray, .agg (ints .i64 qx).toArray, .bool sw] (.tuple #[.agg (ints .i64 S).toArray, .agg (ints .i64 T).toArray]))
    (kz : CallsTo 40 #[.agg (ints .i64 pz).toArray, .agg (ints .i64 qz).toArray, .bool sw] (.tuple #[.agg (ints .i64 U).toArray, .agg (ints .i64 V).toArray])) :
    CallsTo 25 #[.agg (ints .i64 (px ++ pz)).toArray, .agg (ints .i64 (qx ++ qz)).toArray, .bool sw] (.tuple #[.agg (ints .i64 (S ++ U)).toArray, .agg (ints .i64 (T ++ V)).toArray]) := fun W => by
  obtain ⟨z45, s45⟩ := zero_of_info inf45
  have HL := hid (And.intro hpx (And.intro hpz (And.intro hqx (And.intro hqz (And.intro hS (And.intro hT (And.intro hU hV)))))))
  have hP := (((B2.new W (px ++ pz) (len32 hpx hpz)).next (below_new _ (.cells (ints .i64 (qx ++ qz)).toArray 55))).next (below_new _ (.cells (ints .i64 (zeros 32)).toArray 55))).next (below_new _ (.cells (ints .i64 (zeros 32)).toArray 55))
  have hQ := ((B2.new (W.alloc (.cells (ints .i64 (px ++ pz)).toArray 55)) (qx ++ qz) (len32 hqx hqz)).next (below_new _ (.cells (ints .i64 (zeros 32)).toArray 55))).next (below_new _ (.cells (ints .i64 (zeros 32)).toArray 55))
  have h6 := (B2.new ((W.alloc (.cells (ints .i64 (px ++ pz)).toArray 55)).alloc (.cells (ints .i64 (qx ++ qz)).toArray 55)) (zeros 32) (zeros_len 32)).next (below_new _ (.cells (ints .i64 (zeros 32)).toArray 55))
  have h7 := B2.new (((W.alloc (.cells (ints .i64 (px ++ pz)).toArray 55)).alloc (.cells (ints .i64 (qx ++ qz)).toArray 55)).alloc (.cells (ints .i64 (zeros 32)).toArray 55)) (zeros 32) (zeros_len 32)
  have hW := (((below_new W (.cells (ints .i64 (px ++ pz)).toArray 55)).alloc (by simp) (.cells (ints .i64 (qx ++ qz)).toArray 55)).alloc (by simp; omega) (.cells (ints .i64 (zeros 32)).toArray 55)).alloc (by simp; omega) (.cells (ints .i64 (zeros 32)).toArray 55)
  simp only [World.size_alloc] at hQ h6 h7
  clear hpx hpz hqx hqz hS hT hU hV
  go_enter Tryd.func25, Tryd.ntmps25
  go_upto_region 1 with (fail)
  generalize (((W.alloc (.cells (ints .i64 (px ++ pz)).toArray 55)).alloc (.cells (ints .i64 (qx ++ qz)).toArray 55)).alloc (.cells (ints .i64 (zeros 32)).toArray 55)).alloc (.cells (ints .i64 (zeros 32)).toArray 55) = w0 at *
  obtain ⟨hpx, hpz, hqx, hqz, hS, hT, hU, hV⟩ := HL.out
  have s0 := hW.size
  refine region_seq2 9 32 (fun _ => false) [Is (.pointer (some ⟨W.heap.size, 0, none⟩)), Is (.agg (ints .i64 px).toArray), Is (.pointer (some ⟨(W.heap.size + 1), 0, none⟩)), Is (.agg (ints .i64 qx).toArray), Is (.bool sw), Is (.tuple #[(.agg (ints .i64 S).toArray), (.agg (ints .i64 T).toArray)]), Is (.tuple #[(.agg (ints .i64 S).toArray), (.agg (ints .i64 T).toArray)]), Is (.agg (ints .i64 S).toArray), Is (.agg (ints .i64 T).toArray)] [9, 10, 11, 12, 13, 14, 8, 15, 16] (by kernel_rfl) (by kernel_rfl) (Nat.le_of_eq rfl) (grows_cons (Is.grows _) (grows_cons (Is.grows _) (grows_cons (Is.grows _) (grows_cons (Is.grows _) (grows_cons (Is.grows _) (grows_cons (Is.grows _) (grows_cons (Is.grows _) (grows_cons (Is.grows _) (grows_cons (Is.grows _) grows_nil)))))))))
    ⟨step_fa0 rfl (.inl rfl) rfl rfl (knows_out 3 (by kernel_rfl) rfl),
     step_part rfl (.inl rfl) (hP.fst hpx) hpx rfl rfl (knows_in 0 9 (by decide) (by kernel_rfl) rfl rfl),
     step_fa0 rfl (.inl rfl) rfl rfl (knows_out 4 (by kernel_rfl) rfl),
     step_part rfl (.inl rfl) (hQ.fst hqx) hqx rfl rfl (knows_in 2 11 (by decide) (by kernel_rfl) rfl rfl),
     step_mv rfl (.inl rfl) rfl rfl (knows_out 2 (by kernel_rfl) rfl),
     step_to rfl (.inl rfl) rfl cf29 kx rfl (three_args (knows_in 1 10 (by decide) (by kernel_rfl) rfl rfl) (knows_in 3 12 (by decide) (by kernel_rfl) rfl rfl) (knows_in 4 13 (by decide) (by kernel_rfl) rfl rfl)),
     step_mv rfl (.inl rfl) rfl rfl (knows_in 5 14 (by decide) (by kernel_rfl) rfl rfl),
     step_fst rfl (.inl rfl) rfl rfl (knows_in 6 8 (by decide) (by kernel_rfl) rfl rfl),
     step_snd rfl (.inl rfl) rfl rfl (knows_in 6 8 (by decide) (by kernel_rfl) rfl rfl), trivial⟩ ?_
  intro val w1 hw hS hap hla
  have e9 : val 9 = (.pointer (some ⟨W.heap.size, 0, none⟩)) := hS 0 9 (by decide) rfl
  have e10 : val 10 = (.agg (ints .i64 px).toArray) := hS 1 10 (by decide) rfl
  have e11 : val 11 = (.pointer (some ⟨(W.heap.size + 1), 0, none⟩)) := hS 2 11 (by decide) rfl
  have e12 : val 12 = (.agg (ints .i64 qx).toArray) := hS 3 12 (by decide) rfl
  have e13 : val 13 = (.bool sw) := hS 4 13 (by decide) rfl
  have e14 : val 14 = (.tuple #[(.agg (ints .i64 S).toArray), (.agg (ints .i64 T).toArray)]) := hS 5 14 (by decide) rfl
  have e8 : val 8 = (.tuple #[(.agg (ints .i64 S).toArray), (.agg (ints .i64 T).toArray)]) := hS 6 8 (by decide) rfl
  have e15 : val 15 = (.agg (ints .i64 S).toArray) := hS 7 15 (by decide) rfl
  have e16 : val 16 = (.agg (ints .i64 T).toArray) := hS 8 16 (by decide) rfl
  simp only [putVals, List.foldl_cons, List.foldl_nil, List.drop_succ_cons, List.drop_zero, Act.put, List.setIfInBounds_toArray, List.set_cons_succ, List.set_cons_zero, e9, e10, e11, e12, e13, e14, e8, e15, e16]
  clear hS hap hla e9 e10 e11 e12 e13 e14 e8 e15 e16
  replace hP := hP.next hw
  replace hQ := hQ.next hw
  replace h6 := h6.next hw
  replace h7 := h7.next hw
  replace hW := hW.trans (Below.mono hw hW.size)
  clear hw
  have r1 := (hP.fst hpx).room (k' := .i64) (l' := S) (by rw [hS, hpx])
  have hQ1 := hQ.pastAt (b' := W.heap.size) 0 (ints .i64 S).toArray.toList (by omega)
  have r2 := (hQ1.fst hqx).room (k' := .i64) (l' := T) (by rw [hT, hqx])
  replace hP := (hP.put1 hpx hS).pastAt (b' := W.heap.size + 1) 0 (ints .i64 T).toArray.toList (by omega)
  replace hQ := hQ1.put1 hqx hT
  clear hQ1
  replace h6 := (h6.pastAt (b' := W.heap.size) 0 (ints .i64 S).toArray.toList (by omega)).pastAt (b' := W.heap.size + 1) 0 (ints .i64 T).toArray.toList (by omega)
  replace h7 := (h7.pastAt (b' := W.heap.size) 0 (ints .i64 S).toArray.toList (by omega)).pastAt (b' := W.heap.size + 1) 0 (ints .i64 T).toArray.toList (by omega)
  replace hW := Below.setCells (Below.setCells hW (g := W.heap.size) (by omega) 0 (ints .i64 S).toArray.toList) (g := W.heap.size + 1) (by omega) 0 (ints .i64 T).toArray.toList
  have l1 := hid hS
  have l2 := hid hT
  clear hpx hpz hqx hqz hS hT hU hV
  go_upto_region 2 with (first
    | (with_reducible refine wpList_store_mid (op := ⟨none, .store 51 (.tmp 17) (.tmp 15), _, _, _, _⟩) rfl 51 (.tmp 17) (.tmp 15) rfl W.heap.size 0 (ints .i64 S).toArray rfl rfl r1 (a26 l1.out) (ints_all _ _) ?_)
    | (with_reducible refine wpList_store_mid (op := ⟨none, .store 51 (.tmp 18) (.tmp 16), _, _, _, _⟩) rfl 51 (.tmp 18) (.tmp 16) rfl (W.heap.size + 1) 0 (ints .i64 T).toArray rfl rfl r2 (a26 l2.out) (ints_all _ _) ?_))
  obtain ⟨hpx, hpz, hqx, hqz, hS, hT, hU, hV⟩ := HL.out
  clear r1 r2 l1 l2
  generalize (w1.setCells W.heap.size 0 (ints .i64 S).toArray.toList).setCells (W.heap.size + 1) 0 (ints .i64 T).toArray.toList = w2 at *
  have s2 := hW.size
  refine region_seq2 9 32 (fun _ => false) [Is (.pointer (some ⟨W.heap.size, 16, none⟩)), Is (.agg (ints .i64 pz).toArray), Is (.pointer (some ⟨(W.heap.size + 1), 16, none⟩)), Is (.agg (ints .i64 qz).toArray), Is (.bool sw), Is (.tuple #[(.agg (ints .i64 U).toArray), (.agg (ints .i64 V).toArray)]), Is (.tuple #[(.agg (ints .i64 U).toArray), (.agg (ints .i64 V).toArray)]), Is (.agg (ints .i64 U).toArray), Is (.agg (ints .i64 V).toArray)] [20, 21, 22, 23, 24, 25, 19, 26, 27] (by kernel_rfl) (by kernel_rfl) (Nat.le_of_eq rfl) (grows_cons (Is.grows _) (grows_cons (Is.grows _) (grows_cons (Is.grows _) (grows_cons (Is.grows _) (grows_cons (Is.grows _) (grows_cons (Is.grows _) (grows_cons (Is.grows _) (grows_cons (Is.grows _) (grows_cons (Is.grows _) grows_nil)))))))))
    ⟨step_fa1 rfl (.inl rfl) rfl rfl (knows_out 3 (by kernel_rfl) rfl),
     step_part rfl (.inl rfl) (hP.snd hS) hpz rfl rfl (knows_in 0 20 (by decide) (by kernel_rfl) rfl rfl),
     step_fa1 rfl (.inl rfl) rfl rfl (knows_out 4 (by kernel_rfl) rfl),
     step_part rfl (.inl rfl) (hQ.snd hT) hqz rfl rfl (knows_in 2 22 (by decide) (by kernel_rfl) rfl rfl),
     step_mv rfl (.inl rfl) rfl rfl (knows_out 2 (by kernel_rfl) rfl),
     step_to rfl (.inl rfl) rfl cf29 kz rfl (three_args (knows_in 1 21 (by decide) (by kernel_rfl) rfl rfl) (knows_in 3 23 (by decide) (by kernel_rfl) rfl rfl) (knows_in 4 24 (by decide) (by kernel_rfl) rfl rfl)),
     step_mv rfl (.inl rfl) rfl rfl (knows_in 5 25 (by decide) (by kernel_rfl) rfl rfl),
     step_fst rfl (.inl rfl) rfl rfl (knows_in 6 19 (by decide) (by kernel_rfl) rfl rfl),
     step_snd rfl (.inl rfl) rfl rfl (knows_in 6 19 (by decide) (by kernel_rfl) rfl rfl), trivial⟩ ?_
  intro val w3 hw hS hap hla
  have e20 : val 20 = (.pointer (some ⟨W.heap.size, 16, none⟩)) := hS 0 20 (by decide) rfl
  have e21 : val 21 = (.agg (ints .i64 pz).toArray) := hS 1 21 (by decide) rfl
  have e22 : val 22 = (.pointer (some ⟨(W.heap.size + 1), 16, none⟩)) := hS 2 22 (by decide) rfl
  have e23 : val 23 = (.agg (ints .i64 qz).toArray) := hS 3 23 (by decide) rfl
  have e24 : val 24 = (.bool sw) := hS 4 24 (by decide) rfl
  have e25 : val 25 = (.tuple #[(.agg (ints .i64 U).toArray), (.agg (ints .i64 V).toArray)]) := hS 5 25 (by decide) rfl
  have e19 : val 19 = (.tuple #[(.agg (ints .i64 U).toArray), (.agg (ints .i64 V).toArray)]) := hS 6 19 (by decide) rfl
  have e26 : val 26 = (.agg (ints .i64 U).toArray) := hS 7 26 (by decide) rfl
  have e27 : val 27 = (.agg (ints .i64 V).toArray) := hS 8 27 (by decide) rfl
  simp only [putVals, List.foldl_cons, List.foldl_nil, List.drop_succ_cons, List.drop_zero, Act.put, List.setIfInBounds_toArray, List.set_cons_succ, List.set_cons_zero, e20, e21, e22, e23, e24, e25, e19, e26, e27]
  clear hS hap hla e20 e21 e22 e23 e24 e25 e19 e26 e27
  replace hP := hP.next hw
  replace hQ := hQ.next hw
  replace h6 := h6.next hw
  replace h7 := h7.next hw
  replace hW := hW.trans (Below.mono hw hW.size)
  clear hw
  have r1 := (hP.snd hS).room (k' := .i64) (l' := U) (by rw [hU, hpz])
  have hQ1 := hQ.pastAt (b' := W.heap.size) 16 (ints .i64 U).toArray.toList (by omega)
  have r2 := (hQ1.snd hT).room (k' := .i64) (l' := V) (by rw [hV, hqz])
  replace hP := (hP.put2 hS hU).pastAt (b' := W.heap.size + 1) 16 (ints .i64 V).toArray.toList (by omega)
  replace hQ := hQ1.put2 hT hV
  clear hQ1
  replace h6 := (h6.pastAt (b' := W.heap.size) 16 (ints .i64 U).toArray.toList (by omega)).pastAt (b' := W.heap.size + 1) 16 (ints .i64 V).toArray.toList (by omega)
  replace h7 := (h7.pastAt (b' := W.heap.size) 16 (ints .i64 U).toArray.toList (by omega)).pastAt (b' := W.heap.size + 1) 16 (ints .i64 V).toArray.toList (by omega)
  replace hW := Below.setCells (Below.setCells hW (g := W.heap.size) (by omega) 16 (ints .i64 U).toArray.toList) (g := W.heap.size + 1) (by omega) 16 (ints .i64 V).toArray.toList
  have l1 := hid hU
  have l2 := hid hV
  clear hpx hpz hqx hqz hS hT hU hV
  go_wp2_with (first
    | (with_reducible refine wpList_store_mid (op := ⟨none, .store 51 (.tmp 28) (.tmp 26), _, _, _, _⟩) rfl 51 (.tmp 28) (.tmp 26) rfl W.heap.size 16 (ints .i64 U).toArray rfl rfl r1 (a26 l1.out) (ints_all _ _) ?_)
    | (with_reducible refine wpList_store_mid (op := ⟨none, .store 51 (.tmp 29) (.tmp 27), _, _, _, _⟩) rfl 51 (.tmp 29) (.tmp 27) rfl (W.heap.size + 1) 16 (ints .i64 V).toArray rfl rfl r2 (a26 l2.out) (ints_all _ _) ?_))
  obtain ⟨hpx, hpz, hqx, hqz, hS, hT, hU, hV⟩ := HL.out
  clear r1 r2 l1 l2
  generalize (w3.setCells W.heap.size 16 (ints .i64 U).toArray.toList).setCells (W.heap.size + 1) 16 (ints .i64 V).toArray.toList = w4 at *
  clear hpx hpz hqx hqz hS hT hU hV
  go_wp2_with (fail)
  refine wp_region_any (by kernel_rfl) ?_
  change wpAny _ _ _ _ 4 _ _ w4.drew
  have XP : B2 w4.drew W.heap.size _ := hP
  have XQ : B2 w4.drew (W.heap.size + 1) _ := hQ
  have X6 : B2 w4.drew _ _ := h6
  have X7 : B2 w4.drew _ _ := h7
  have XW : Below W.heap.size W w4.drew := hW.drew
  generalize w4.drew = wz at *
  refine two_out _ _ _ _ rfl rfl rfl rfl rfl rfl rfl rfl (by kernel_rfl) (by kernel_rfl) (by kernel_rfl) (by kernel_rfl) (by kernel_rfl) (by kernel_rfl) (by kernel_rfl) 6 7 3 4 30 31 55 rfl rfl rfl rfl rfl rfl rfl rfl (W.heap.size + 1 + 1) (W.heap.size + 1 + 1 + 1) W.heap.size (W.heap.size + 1) .i64 (S ++ U) (T ++ V) (zeros 32) (zeros 32) XP.1 XQ.1 X6.1 X7.1 (XP.2.trans (zeros_len 32).symm) (XQ.2.trans (zeros_len 32).symm) (by omega) (by omega) _ Tryd.underlying55 rfl (l45r XP.2) (l45r XQ.2) rfl rfl rfl rfl (by show (30 : Nat) < 32; decide) (by show (31 : Nat) < 32; decide) (by decide) (by decide) (by decide) (by decide) (by decide) (by decide) (by decide) ?_
  intro w9 y6 y7 ew
  have hW9 : Below W.heap.size W w9 := by
    rw [ew]
    exact Below.setCells (Below.setCells XW (g := W.heap.size + 1 + 1) (by omega) 0 _) (g := W.heap.size + 1 + 1 + 1) (by omega) 0 _
  have q1 := XP.2
  have q2 := XQ.2
  clear ew X6 X7 XP XQ XW hW h6 h7 hP hQ
  simp only [Act.put, List.setIfInBounds_toArray, List.set_cons_succ, List.set_cons_zero]
  go_wp2_with (fail)
  exact bodyPost_ret (results_rows rfl _ _ (W.heap.size + 1 + 1) (W.heap.size + 1 + 1 + 1) rfl rfl (ints .i64 (S ++ U)) (ints .i64 (T ++ V)) _ y6.range y7.range Tryd.underlying55 rfl (l45r q1) (l45r q2)) rfl ⟨rfl, hW9⟩
set_option maxRecDepth 50000 in
theorem c_swapR {px pz qx qz : List Int} (h1 : El px) (h2 : El pz) (h3 : El qx) (h4 : El qz) (sw : Bool) : CallsTo 25 #[.agg (ints .i64 (px ++ pz)).toArray, .agg (ints .i64 (qx ++ qz)).toArray, .bool sw] (.tuple #[.agg (ints .i64 ((if sw then qx else px) ++ (if sw then qz else pz))).toArray, .agg (ints .i64 ((if sw then px else qx) ++ (if sw then pz else qz))).toArray]) :=
  swapR_core h1.len h2.len h3.len h4.len (by cases sw; exact h1.len; exact h3.len) (by cases sw; exact h3.len; exact h1.len) (by cases sw; exact h2.len; exact h4.len) (by cases sw; exact h4.len; exact h2.len) (c_swap h1 h3 sw) (c_swap h2 h4 sw)
end Go.Proofs.YtkblmdakejmmhaaDoor

/- The bits of a secret: the code's and the document's. -/
namespace Go.Proofs.YtkblmdakejmmhaaDoor
open Go Go.RowKit

def clampL (b : List Int) : List Int := (b.set 0 (b.getD 0 0 / 8 * 8)).set 31 (b.getD 31 0 % 64 + 64)
set_option maxRecDepth 50000 in
theorem clampL_length (b : List Int) : (clampL b).length = b.length := by simp [clampL]
set_option maxRecDepth 50000 in
theorem u8_cases {Q : Int → Prop} (h : ∀ v : Fin 256, Q (v.val : Int)) (v : Int) (hv : 0 ≤ v ∧ v ≤ 255) : Q v := by
  have := h ⟨v.toNat, by omega⟩
  rwa [show ((v.toNat : Nat) : Int) = v by omega] at this
set_option maxRecDepth 50000 in
theorem and248 (v : Int) (hv : 0 ≤ v ∧ v ≤ 255) : bits .and .u8 v 248 = v / 8 * 8 := u8_cases (Q := fun v => bits .and .u8 v 248 = v / 8 * 8) (by decide +kernel) v hv
set_option maxRecDepth 50000 in
theorem or64 (v : Int) (hv : 0 ≤ v ∧ v ≤ 255) : bits .or .u8 (bits .and .u8 v 127) 64 = v % 64 + 64 := u8_cases (Q := fun v => bits .or .u8 (bits .and .u8 v 127) 64 = v % 64 + 64) (by decide +kernel) v hv
set_option maxRecDepth 50000 in
theorem byt_at {b : List Int} (hb : Byt b) (hl : b.length = 32) {i : Nat} (hi : i < 32) : 0 ≤ b.getD i 0 ∧ b.getD i 0 ≤ 255 := by
  have := hb (b.getD i 0) (List.mem_of_getElem? (getD_some (l := b) (i := i) (by omega)))
  omega
set_option maxRecDepth 50000 in
theorem clampL_byt {b : List Int} (hb : Byt b) (hl : b.length = 32) : Byt (clampL b) := by
  have h0 := byt_at hb hl (i := 0) (by omega)
  have h31 := byt_at hb hl (i := 31) (by omega)
  intro x hx
  rcases List.mem_or_eq_of_mem_set hx with h | h
  · rcases List.mem_or_eq_of_mem_set h with h | h
    · exact hb x h
    · omega
  · omega
set_option maxRecDepth 4000 in
set_option maxHeartbeats 1000000 in
theorem c_clamp {b : List Int} (hl : b.length = 32) (hb : Byt b) : CallsTo 22 #[.agg (ints .u8 b).toArray] (.agg (ints .u8 (clampL b)).toArray) := fun W => by
  obtain ⟨z22, s22⟩ := zero_of_info inf22
  have hL := hid hl
  have hC := hid ((clampL_length b).trans hl)
  have h0 := byt_at hb hl (i := 0) (by omega)
  have h31 := byt_at hb hl (i := 31) (by omega)
  have e1 := and248 _ h0
  have e2 := or64 _ h31
  have g0 : b[0]? = some (b.getD 0 0) := getD_some (by omega)
  have g31 : b[31]? = some (b.getD 31 0) := getD_some (by omega)
  have hE : Hid (clampL b = (b.set 0 (b.getD 0 0 / 8 * 8)).set 31 (b.getD 31 0 % 64 + 64)) := hid rfl
  generalize b.getD 0 0 = v0 at *
  generalize b.getD 31 0 = v31 at *
  obtain ⟨u0, k0⟩ : ∃ u, v0 / 8 * 8 = u := ⟨_, rfl⟩
  obtain ⟨u31, k31⟩ : ∃ u, v31 % 64 + 64 = u := ⟨_, rfl⟩
  rw [k0] at e1 hE
  rw [k31] at e2 hE
  have hB := (Arr.made W .u8 b 22).alloc (.cells (ints .u8 (zeros 32)).toArray 22)
  have hR := Arr.made (W.alloc (.cells (ints .u8 b).toArray 22)) .u8 (zeros 32) 22
  have hW := (below_new W (.cells (ints .u8 b).toArray 22)).alloc (by simp) (.cells (ints .u8 (zeros 32)).toArray 22)
  rw [World.size_alloc] at hR
  clear hb h0 h31 k0 k31
  generalize clampL b = cb at *
  go_enter Tryd.func22, Tryd.ntmps22
  go_upto_region 1 with (fail)
  generalize (W.alloc (.cells (ints .u8 b).toArray 22)).alloc (.cells (ints .u8 (zeros 32)).toArray 22) = w0 at *
  have c0 := hB.at_ g0
  have f0 := hB.free (i := 0) (by omega)
  have hB1 := hB.set 0 u0
  have c31 := hB1.at_ (i := 31) (x := v31) (by rw [List.getElem?_set_ne (by omega)]; exact g31)
  have f31 := hB1.free (i := 31) (by simp; omega)
  have hB2 := hB1.set 31 u31
  rw [← hE.out] at hB2
  have hR1 := (hR.apart (p := ⟨W.heap.size, 0, none⟩) (.int .u8 u0) (.inl (by show W.heap.size ≠ W.heap.size + 1; omega))).apart (p := ⟨W.heap.size, 31, none⟩) (.int .u8 u31) (.inl (by show W.heap.size ≠ W.heap.size + 1; omega))
  have r1 := hR1.room (k' := .u8) (l' := cb) (by rw [zeros_len]; exact hC.out)
  have hR2 := hR1.stored (l' := cb) (by rw [zeros_len]; exact hC.out)
  have hW1 := Below.setCells ((hW.setCell (p := ⟨W.heap.size, 0, none⟩) (by show W.heap.size ≤ W.heap.size; omega) (.int .u8 u0)).setCell (p := ⟨W.heap.size, 31, none⟩) (by show W.heap.size ≤ W.heap.size; omega) (.int .u8 u31)) (g := W.heap.size + 1) (by omega) 0 (ints .u8 cb).toArray.toList
  simp only [Nat.zero_add] at c0 f0 c31 f31 hB2 hR1 r1 hR2 hW1
  clear hl g0 g31
  go_wp2_with (first
    | (with_reducible refine wpList_load_mid (op := ⟨some 12, .load 22 (.tmp 1), _, _, _, _⟩) rfl 22 (.tmp 1) rfl W.heap.size 0 rfl (ints .u8 cb) _ hB2.range Tryd.underlying22 rfl (l22 hC.out) ?_)
    | (with_reducible refine wpList_store_mid (op := ⟨none, .store 22 (.tmp 2) (.tmp 12), _, _, _, _⟩) rfl 22 (.tmp 2) (.tmp 12) rfl (W.heap.size + 1) 0 (ints .u8 cb).toArray rfl rfl r1 (a22 hC.out) (ints_all _ _) ?_))
  exact ret_rows rfl (W.heap.size + 1) 0 rfl (ints .u8 cb) _ hR2.range Tryd.underlying22 rfl (l22 hC.out) rfl ⟨rfl, hW1⟩
end Go.Proofs.YtkblmdakejmmhaaDoor
