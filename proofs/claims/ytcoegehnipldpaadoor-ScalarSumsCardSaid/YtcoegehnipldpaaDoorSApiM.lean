/- The package's functions: the order, products and sums. -/
import Derived.Test.YtcoegehnipldpaaDoorSLongM
import Derived.Test.YtcoegehnipldpaaDoorSScalM
namespace Go.Proofs.YtcoegehnipldpaaDoor
open Go.RowKit

theorem Tabs.range {w : World} (h : Tabs w) : w.rangeAt 0 0 (ints .u64 ORD) := fun j v hv => by
  simp only [ints, List.getElem?_map, Option.map_eq_some_iff] at hv
  obtain ⟨x, hx, rfl⟩ := hv
  rw [Nat.zero_add]; exact h.2 j x hx
theorem c_order : CallsT 8 #[] (.agg (ints .u8 (rbytes QN)).toArray) := fun w hT => by
  obtain ⟨z22, s22⟩ := zero_of_info inf22
  have hR := Arr.made w .u8 (zeros 32) 23
  have hW := below_new w (.cells (ints .u8 (zeros 32)).toArray 23)
  have hT0 := hT.next hW
  have HBL := hid (rbytes_length QN)
  have HK := hid (fun w0 => bytesof_walk QN w0 qn_lt)
  have HO : Hid (ORD = nl (wdN QN 4)) := hid rfl
  rw [← HO.out] at HK
  have hol : ORD.length = 4 := ord_len
  have hT9 := hT0.range
  generalize ORD = os at *
  obtain ⟨rs, hrs⟩ : ∃ rs, rbytes QN = rs := ⟨_, rfl⟩
  rw [hrs] at HK HBL ⊢
  clear hrs HO
  go_enter Tryd.func8, Tryd.ntmps8
  go_wp2_with (first
    | (with_reducible refine wpList_load_mid (op := ⟨some 1, .load 44 (.global 0), _, _, _, _⟩) rfl 44 (.global 0) rfl 0 0 rfl (ints .u64 os) _ hT9 Tryd.underlying44 rfl (l44 hol) ?_))
  generalize w.alloc (.cells (ints .u8 (zeros 32)).toArray 23) = W1 at *
  refine (HK.out _).mono ?_
  rintro e w2 ⟨rfl, hb2⟩
  have hR2 := hR.below hb2 (hR.lt (by rw [zeros_len]; omega))
  have hs1 : w2.there w.heap.size 0 (ints .u8 rs).toArray.size := hR2.room (by rw [zeros_len]; exact HBL.out)
  have hR3 := hR2.stored (l' := rs) (by rw [zeros_len]; exact HBL.out)
  have hW2 := Below.setCells (hW.trans (Below.mono hb2 hW.size)) (g := w.heap.size) (Nat.le_refl _) 0 (ints .u8 rs).toArray.toList
  clear hR hW hb2 hR2 hT hT0 hT9
  go_wp2_with (first
    | (with_reducible refine wpList_store_mid (op := ⟨none, .store 23 (.tmp 0) (.tmp 2), _, _, _, _⟩) rfl 23 (.tmp 0) (.tmp 2) rfl w.heap.size 0 (ints .u8 rs).toArray rfl rfl hs1 (a22 HBL.out) (ints_all _ _) ?_; generalize w2.setCells w.heap.size 0 (ints .u8 rs).toArray.toList = W5 at *))
  exact ret_rows rfl w.heap.size 0 rfl (ints .u8 rs) _ hR3.range Tryd.underlying23 rfl (l22 HBL.out) rfl ⟨rfl, hW2⟩
set_option maxRecDepth 4000 in
set_option maxHeartbeats 2000000 in
theorem muladd_walk (a b c : List Nat) (rs : List Int) (w : World) (hT : Tabs w) (ha : a.length = 32) (hb : b.length = 32) (hc : c.length = 32) (ya : Bys a) (yb : Bys b) (yc : Bys c) (HRS : Hid (rbytes ((bnn a * bnn b + bnn c) % QN) = rs)) :
    Calls Tryd.prog 20 #[.agg (ints .u8 (nl a)).toArray, .agg (ints .u8 (nl b)).toArray, .agg (ints .u8 (nl c)).toArray] w fun e w' => e = .returned (.agg (ints .u8 rs).toArray) ∧ Below w.heap.size w w' := by
  obtain ⟨z22, s22⟩ := zero_of_info inf22
  obtain ⟨z46, s46⟩ := zero_of_info inf46
  have HK := hid (fun w0 => long_walk a b c w0 ha hb hc ya yb yc)
  have HRL : Hid (rs.length = 32) := hid (by rw [← HRS.out]; exact rbytes_length _)
  have hla : (nl a).length = 32 := by rw [nl_length]; exact ha
  have hlb : (nl b).length = 32 := by rw [nl_length]; exact hb
  have hlc : (nl c).length = 32 := by rw [nl_length]; exact hc
  clear ha hb hc ya yb yc
  generalize bnn a * bnn b + bnn c = M at *
  generalize nl a = al at *
  generalize nl b = bl at *
  generalize nl c = cl at *
  have h1 := ((Arr.made w .u8 al 23).alloc (.cells (ints .u8 bl).toArray 23)).alloc (.cells (ints .u8 cl).toArray 23) |>.alloc (.cells (ints .u8 (zeros 32)).toArray 23)
  have h2 := ((Arr.made (w.alloc (.cells (ints .u8 al).toArray 23)) .u8 bl 23).alloc (.cells (ints .u8 cl).toArray 23)).alloc (.cells (ints .u8 (zeros 32)).toArray 23)
  have h3 := (Arr.made ((w.alloc (.cells (ints .u8 al).toArray 23)).alloc (.cells (ints .u8 bl).toArray 23)) .u8 cl 23).alloc (.cells (ints .u8 (zeros 32)).toArray 23)
  have h4 := Arr.made (((w.alloc (.cells (ints .u8 al).toArray 23)).alloc (.cells (ints .u8 bl).toArray 23)).alloc (.cells (ints .u8 cl).toArray 23)) .u8 (zeros 32) 23
  simp only [World.size_alloc] at h2 h3 h4
  have hW := (((below_new w (.cells (ints .u8 al).toArray 23)).alloc (by simp) (.cells (ints .u8 bl).toArray 23)).alloc (by simp; omega) (.cells (ints .u8 cl).toArray 23)).alloc (by simp; omega) (.cells (ints .u8 (zeros 32)).toArray 23)
  go_enter Tryd.func20, Tryd.ntmps20
  go_wp2_with (first
    | (with_reducible refine wpList_load_mid (op := ⟨some 8, .load 23 (.tmp 3), _, _, _, _⟩) rfl 23 (.tmp 3) rfl w.heap.size 0 rfl (ints .u8 al) _ h1.range Tryd.underlying23 rfl (l22 hla) ?_)
    | (with_reducible refine wpList_load_mid (op := ⟨some 9, .load 23 (.tmp 4), _, _, _, _⟩) rfl 23 (.tmp 4) rfl (w.heap.size + 1) 0 rfl (ints .u8 bl) _ h2.range Tryd.underlying23 rfl (l22 hlb) ?_)
    | (with_reducible refine wpList_load_mid (op := ⟨some 10, .load 23 (.tmp 5), _, _, _, _⟩) rfl 23 (.tmp 5) rfl (w.heap.size + 1 + 1) 0 rfl (ints .u8 cl) _ h3.range Tryd.underlying23 rfl (l22 hlc) ?_))
  generalize (((w.alloc (.cells (ints .u8 al).toArray 23)).alloc (.cells (ints .u8 bl).toArray 23)).alloc (.cells (ints .u8 cl).toArray 23)).alloc (.cells (ints .u8 (zeros 32)).toArray 23) = W0 at *
  refine (HK.out _).mono ?_
  rintro e w2 ⟨zs, rfl, HZ, hb2⟩
  have h5 := h4.below hb2 (h4.lt (by rw [zeros_len]; omega))
  have hW2 := hW.trans (Below.mono hb2 hW.size)
  have hlt := h5.lt (by rw [zeros_len]; omega)
  have hZL : (nl zs).length = 64 := by rw [nl_length]; exact HZ.out.1
  have h6 := Arr.made w2 .u8 (zeros 64) 46
  have h7 := h5.alloc (.cells (ints .u8 (zeros 64)).toArray 46)
  have hW3 := hW2.alloc hW2.size (.cells (ints .u8 (zeros 64)).toArray 46)
  have hs1 : (w2.alloc (.cells (ints .u8 (zeros 64)).toArray 46)).there w2.heap.size 0 (ints .u8 (nl zs)).toArray.size := h6.room (by rw [zeros_len]; exact hZL)
  have h8 := h6.stored (l' := nl zs) (by rw [zeros_len]; exact hZL)
  have h9 := h7.past (b' := w2.heap.size) (o' := 0) (ints .u8 (nl zs)).toArray.toList (.inl (by omega))
  have hW4 := Below.setCells hW3 (g := w2.heap.size) hW2.size 0 (ints .u8 (nl zs)).toArray.toList
  have hT4 := hT.below hW4 hT.1
  clear h1 h2 h3 h4 hW hb2 h5 hW2 h6 h7 hW3 hT
  go_wp2_with (first
    | (with_reducible refine wpList_store_mid (op := ⟨none, .store 46 (.tmp 7) (.tmp 11), _, _, _, _⟩) rfl 46 (.tmp 7) (.tmp 11) rfl w2.heap.size 0 (ints .u8 (nl zs)).toArray rfl rfl hs1 (a46 hZL) (ints_all _ _) ?_; generalize (w2.alloc (.cells (ints .u8 (zeros 64)).toArray 46)).setCells w2.heap.size 0 (ints .u8 (nl zs)).toArray.toList = W5 at *; generalize w2.heap.size = d at *))
  have HS : Hid (bn (nl zs) = M) := hid (by rw [bn_nl, HZ.out.2.2])
  refine (scalarof_walk (some ⟨d, 0, none⟩) 64 64 (nl zs) W5 hT4 hZL (by omega) (byt_nl HZ.out.2.1) h8.nums).mono ?_
  rw [HS.out, HRS.out]
  rintro e w3 ⟨rfl, hb3⟩
  have h10 := h9.below hb3 (h9.lt (by rw [zeros_len]; omega))
  have hs2 : w3.there (w.heap.size + 1 + 1 + 1) 0 (ints .u8 rs).toArray.size := h10.room (by rw [zeros_len]; exact HRL.out)
  have h11 := h10.stored (l' := rs) (by rw [zeros_len]; exact HRL.out)
  have hW6 := Below.setCells (hW4.trans (Below.mono hb3 hW4.size)) (g := w.heap.size + 1 + 1 + 1) (by omega) 0 (ints .u8 rs).toArray.toList
  clear h8 h9 hb3 h10 hT4 hW4 hs1
  go_wp2_with (first
    | (with_reducible refine wpList_store_mid (op := ⟨none, .store 23 (.tmp 6) (.tmp 13), _, _, _, _⟩) rfl 23 (.tmp 6) (.tmp 13) rfl (w.heap.size + 1 + 1 + 1) 0 (ints .u8 rs).toArray rfl rfl hs2 (a22 HRL.out) (ints_all _ _) ?_; generalize w3.setCells (w.heap.size + 1 + 1 + 1) 0 (ints .u8 rs).toArray.toList = W6 at *))
  exact ret_rows rfl (w.heap.size + 1 + 1 + 1) 0 rfl (ints .u8 rs) _ h11.range Tryd.underlying23 rfl (l22 HRL.out) rfl ⟨rfl, hW6⟩
section
variable {a b c : List Int}
theorem c_muladd (la : a.length = 32) (lb : b.length = 32) (lc : c.length = 32) (ya : Byt a) (yb : Byt b) (yc : Byt c) :
    CallsT 20 #[.agg (ints .u8 a).toArray, .agg (ints .u8 b).toArray, .agg (ints .u8 c).toArray] (.agg (ints .u8 (rbytes ((bn a * bn b + bn c) % QN))).toArray) := fun w hT => by
  obtain ⟨a, rfl, ha, ya⟩ := nl_byt ya
  obtain ⟨b, rfl, hb, yb⟩ := nl_byt yb
  obtain ⟨c, rfl, hc, yc⟩ := nl_byt yc
  rw [bn_nl, bn_nl, bn_nl]
  exact muladd_walk a b c _ w hT (by omega) (by omega) (by omega) ya yb yc (hid rfl)
end
def oneL : List Int := 1 :: zeros 31
theorem one_len : oneL.length = 32 := by simp [oneL, zeros]
theorem built_one : Tryd.prog.built 23 [(0, .int .u8 1)] = some (ints .u8 oneL).toArray := by kernel_rfl
theorem small_byt {x : Int} (h : 0 ≤ x ∧ x < 256) : Byt (x :: zeros 31) := fun y hy => by
  rcases List.mem_cons.1 hy with h1 | h1
  · omega
  · have := List.eq_of_mem_replicate h1
    omega
theorem bv_zeros (n : Nat) : bv (zeros n) = 0 := by
  induction n with
  | zero => rfl
  | succ n ih =>
    have e : zeros (n + 1) = 0 :: zeros n := by simp [zeros, List.replicate_succ]
    rw [e, bv, ih]; rfl
theorem bn_small (x : Int) : bn (x :: zeros 31) = x.toNat := by
  unfold bn
  rw [bv, bv_zeros]; simp
theorem zeros_bytes : zeros 32 = rbytes 0 := by decide +kernel
theorem built_none : Tryd.prog.built 23 [] = some (ints .u8 (zeros 32)).toArray := by kernel_rfl
theorem zeros_byt (n : Nat) : Byt (zeros n) := fun y hy => by
  have := List.eq_of_mem_replicate hy
  omega
theorem bn_zeros (n : Nat) : bn (zeros n) = 0 := by unfold bn; rw [bv_zeros]; rfl
end Go.Proofs.YtcoegehnipldpaaDoor
