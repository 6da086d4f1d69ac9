/- Texts of this proof, laid together: SApi2, SApi3. -/
import Derived.Test.YtcoegehnipldpaaDoorSApiM
import Derived.Test.YtcoegehnipldpaaDoorG3
/- The package's functions: sum, product, negative, whether bytes are a scalar's. -/
namespace Go.Proofs.YtcoegehnipldpaaDoor
open Go Go.RowKit

set_option maxRecDepth 4000 in
theorem add_core {al bl rs : List Int} (la : al.length = 32) (lb : bl.length = 32) (lr : rs.length = 32) (k : CallsT 20 #[.agg (ints .u8 al).toArray, .agg (ints .u8 oneL).toArray, .agg (ints .u8 bl).toArray] (.agg (ints .u8 rs).toArray)) : CallsT 16 #[.agg (ints .u8 al).toArray, .agg (ints .u8 bl).toArray] (.agg (ints .u8 rs).toArray) := fun w hT => by
  obtain ⟨z22, s22⟩ := zero_of_info inf22
  have h1 := ((Arr.made w .u8 al 23).alloc (.cells (ints .u8 bl).toArray 23)).alloc (.cells (ints .u8 (zeros 32)).toArray 23)
  have h2 := (Arr.made (w.alloc (.cells (ints .u8 al).toArray 23)) .u8 bl 23).alloc (.cells (ints .u8 (zeros 32)).toArray 23)
  have h3 := Arr.made ((w.alloc (.cells (ints .u8 al).toArray 23)).alloc (.cells (ints .u8 bl).toArray 23)) .u8 (zeros 32) 23
  simp only [World.size_alloc] at h2 h3
  have hW := ((below_new w (.cells (ints .u8 al).toArray 23)).alloc (by simp) (.cells (ints .u8 bl).toArray 23)).alloc (by simp; omega) (.cells (ints .u8 (zeros 32)).toArray 23)
  have hT0 := hT.below hW hT.1
  have HK := hid k
  clear k hT
  go_enter Tryd.func16, Tryd.ntmps16
  go_wp2_with (first
    | (with_reducible refine wpList_load_mid (op := ⟨some 5, .load 23 (.tmp 2), _, _, _, _⟩) rfl 23 (.tmp 2) rfl w.heap.size 0 rfl (ints .u8 al) _ h1.range Tryd.underlying23 rfl (l22 la) ?_)
    | (with_reducible refine wpList_load_mid (op := ⟨some 7, .load 23 (.tmp 3), _, _, _, _⟩) rfl 23 (.tmp 3) rfl (w.heap.size + 1) 0 rfl (ints .u8 bl) _ h2.range Tryd.underlying23 rfl (l22 lb) ?_)
    | (with_reducible refine wpList_built (o := ⟨some 6, .build 23 #[(0, .const (.int .u8 1))], _, _, _, _⟩) rfl 23 #[(0, .const (.int .u8 1))] rfl [(0, .int .u8 1)] (ints .u8 oneL).toArray rfl built_one ?_))
  generalize ((w.alloc (.cells (ints .u8 al).toArray 23)).alloc (.cells (ints .u8 bl).toArray 23)).alloc (.cells (ints .u8 (zeros 32)).toArray 23) = W0 at *
  refine (HK.out _ hT0).mono ?_
  rintro e w2 ⟨rfl, hb2⟩
  have h5 := h3.below hb2 (h3.lt (by rw [zeros_len]; omega))
  have hs2 : w2.there (w.heap.size + 1 + 1) 0 (ints .u8 rs).toArray.size := h5.room (by rw [zeros_len]; exact lr)
  have h6 := h5.stored (l' := rs) (by rw [zeros_len]; exact lr)
  have hW6 := Below.setCells (hW.trans (Below.mono hb2 hW.size)) (g := w.heap.size + 1 + 1) (by omega) 0 (ints .u8 rs).toArray.toList
  clear h1 h2 h3 hb2 h5 hT0 hW
  go_wp2_with (first
    | (with_reducible refine wpList_store_mid (op := ⟨none, .store 23 (.tmp 4) (.tmp 8), _, _, _, _⟩) rfl 23 (.tmp 4) (.tmp 8) rfl (w.heap.size + 1 + 1) 0 (ints .u8 rs).toArray rfl rfl hs2 (a22 lr) (ints_all _ _) ?_; generalize w2.setCells (w.heap.size + 1 + 1) 0 (ints .u8 rs).toArray.toList = W6 at *))
  exact ret_rows rfl (w.heap.size + 1 + 1) 0 rfl (ints .u8 rs) _ h6.range Tryd.underlying23 rfl (l22 lr) rfl ⟨rfl, hW6⟩
set_option maxRecDepth 4000 in
theorem mul_core {al bl rs : List Int} (la : al.length = 32) (lb : bl.length = 32) (lr : rs.length = 32) (k : CallsT 20 #[.agg (ints .u8 al).toArray, .agg (ints .u8 bl).toArray, .agg (ints .u8 (zeros 32)).toArray] (.agg (ints .u8 rs).toArray)) : CallsT 18 #[.agg (ints .u8 al).toArray, .agg (ints .u8 bl).toArray] (.agg (ints .u8 rs).toArray) := fun w hT => by
  obtain ⟨z22, s22⟩ := zero_of_info inf22
  have h1 := ((Arr.made w .u8 al 23).alloc (.cells (ints .u8 bl).toArray 23)).alloc (.cells (ints .u8 (zeros 32)).toArray 23)
  have h2 := (Arr.made (w.alloc (.cells (ints .u8 al).toArray 23)) .u8 bl 23).alloc (.cells (ints .u8 (zeros 32)).toArray 23)
  have h3 := Arr.made ((w.alloc (.cells (ints .u8 al).toArray 23)).alloc (.cells (ints .u8 bl).toArray 23)) .u8 (zeros 32) 23
  simp only [World.size_alloc] at h2 h3
  have hW := ((below_new w (.cells (ints .u8 al).toArray 23)).alloc (by simp) (.cells (ints .u8 bl).toArray 23)).alloc (by simp; omega) (.cells (ints .u8 (zeros 32)).toArray 23)
  have hT0 := hT.below hW hT.1
  have HK := hid k
  clear k hT
  go_enter Tryd.func18, Tryd.ntmps18
  go_wp2_with (first
    | (with_reducible refine wpList_load_mid (op := ⟨some 5, .load 23 (.tmp 2), _, _, _, _⟩) rfl 23 (.tmp 2) rfl w.heap.size 0 rfl (ints .u8 al) _ h1.range Tryd.underlying23 rfl (l22 la) ?_)
    | (with_reducible refine wpList_load_mid (op := ⟨some 6, .load 23 (.tmp 3), _, _, _, _⟩) rfl 23 (.tmp 3) rfl (w.heap.size + 1) 0 rfl (ints .u8 bl) _ h2.range Tryd.underlying23 rfl (l22 lb) ?_)
    | (with_reducible refine wpList_built (o := ⟨some 7, .build 23 #[], _, _, _, _⟩) rfl 23 #[] rfl [] (ints .u8 (zeros 32)).toArray rfl built_none ?_))
  generalize ((w.alloc (.cells (ints .u8 al).toArray 23)).alloc (.cells (ints .u8 bl).toArray 23)).alloc (.cells (ints .u8 (zeros 32)).toArray 23) = W0 at *
  refine (HK.out _ hT0).mono ?_
  rintro e w2 ⟨rfl, hb2⟩
  have h5 := h3.below hb2 (h3.lt (by rw [zeros_len]; omega))
  have hs2 : w2.there (w.heap.size + 1 + 1) 0 (ints .u8 rs).toArray.size := h5.room (by rw [zeros_len]; exact lr)
  have h6 := h5.stored (l' := rs) (by rw [zeros_len]; exact lr)
  have hW6 := Below.setCells (hW.trans (Below.mono hb2 hW.size)) (g := w.heap.size + 1 + 1) (by omega) 0 (ints .u8 rs).toArray.toList
  clear h1 h2 h3 hb2 h5 hT0 hW
  go_wp2_with (first
    | (with_reducible refine wpList_store_mid (op := ⟨none, .store 23 (.tmp 4) (.tmp 8), _, _, _, _⟩) rfl 23 (.tmp 4) (.tmp 8) rfl (w.heap.size + 1 + 1) 0 (ints .u8 rs).toArray rfl rfl hs2 (a22 lr) (ints_all _ _) ?_; generalize w2.setCells (w.heap.size + 1 + 1) 0 (ints .u8 rs).toArray.toList = W6 at *))
  exact ret_rows rfl (w.heap.size + 1 + 1) 0 rfl (ints .u8 rs) _ h6.range Tryd.underlying23 rfl (l22 lr) rfl ⟨rfl, hW6⟩
set_option maxRecDepth 4000 in
theorem neg_core {al os ms rs : List Int} (la : al.length = 32) (lo : os.length = 32) (lr : rs.length = 32) (h0 : os[0]? = some 237) (hm : Hid (os.set 0 236 = ms)) (ko : CallsT 8 #[] (.agg (ints .u8 os).toArray)) (k : CallsT 18 #[.agg (ints .u8 al).toArray, .agg (ints .u8 ms).toArray] (.agg (ints .u8 rs).toArray)) : CallsT 15 #[.agg (ints .u8 al).toArray] (.agg (ints .u8 rs).toArray) := fun w hT => by
  obtain ⟨z22, s22⟩ := zero_of_info inf22
  have h1 := (Arr.made w .u8 al 23).alloc (.cells (ints .u8 (zeros 32)).toArray 23)
  have h2 := Arr.made (w.alloc (.cells (ints .u8 al).toArray 23)) .u8 (zeros 32) 23
  simp only [World.size_alloc] at h2
  have hW := (below_new w (.cells (ints .u8 al).toArray 23)).alloc (by simp) (.cells (ints .u8 (zeros 32)).toArray 23)
  have hT0 := hT.below hW hT.1
  have HK := hid k
  have HO := hid ko
  have H0 := hid h0
  have lm : ms.length = 32 := by rw [← hm.out, List.length_set]; exact lo
  clear k ko h0
  go_enter Tryd.func15, Tryd.ntmps15
  go_wp2_with (fail)
  generalize (w.alloc (.cells (ints .u8 al).toArray 23)).alloc (.cells (ints .u8 (zeros 32)).toArray 23) = W0 at *
  refine (HO.out _ hT0).mono ?_
  rintro e w2 ⟨rfl, hb2⟩
  have h3 := h1.below hb2 (h1.lt (by rw [la]; omega))
  have h4 := h2.below hb2 (h2.lt (by rw [zeros_len]; omega))
  have hW2 := hW.trans (Below.mono hb2 hW.size)
  have hlt := h4.lt (by rw [zeros_len]; omega)
  have h5 := Arr.made w2 .u8 (zeros 32) 23
  have h6 := h3.alloc (.cells (ints .u8 (zeros 32)).toArray 23)
  have h7 := h4.alloc (.cells (ints .u8 (zeros 32)).toArray 23)
  have hW3 := hW2.alloc hW2.size (.cells (ints .u8 (zeros 32)).toArray 23)
  have hs1 : (w2.alloc (.cells (ints .u8 (zeros 32)).toArray 23)).there w2.heap.size 0 (ints .u8 os).toArray.size := h5.room (by rw [zeros_len]; exact lo)
  have h8 := h5.stored (l' := os) (by rw [zeros_len]; exact lo)
  have h9 := h6.past (b' := w2.heap.size) (o' := 0) (ints .u8 os).toArray.toList (.inl (by omega))
  have h10 := h7.past (b' := w2.heap.size) (o' := 0) (ints .u8 os).toArray.toList (.inl (by omega))
  have hW4 := Below.setCells hW3 (g := w2.heap.size) hW2.size 0 (ints .u8 os).toArray.toList
  clear h1 h2 hW hT0 hb2 h3 h4 hW2 h5 h6 h7 hW3
  go_wp2_with (first
    | (with_reducible refine wpList_store_mid (op := ⟨none, .store 23 (.tmp 3) (.tmp 4), _, _, _, _⟩) rfl 23 (.tmp 3) (.tmp 4) rfl w2.heap.size 0 (ints .u8 os).toArray rfl rfl hs1 (a22 lo) (ints_all _ _) ?_; generalize (w2.alloc (.cells (ints .u8 (zeros 32)).toArray 23)).setCells w2.heap.size 0 (ints .u8 os).toArray.toList = W5 at *; generalize w2.heap.size = d at *; have c0 := h8.at_ (i := 0) H0.out; have f0 := h8.free (i := 0) (by rw [lo]; omega); have h11 := h8.set 0 236; have h12 := h9.apart (p := ⟨d, 0, none⟩) (.int .u8 236) (.inl (by show d ≠ w.heap.size; omega)); have h13 := h10.apart (p := ⟨d, 0, none⟩) (.int .u8 236) (.inl (by show d ≠ w.heap.size + 1; omega)); have hW6 := hW4.setCell (p := ⟨d, 0, none⟩) (by show w.heap.size ≤ d; omega) (.int .u8 236); rw [hm.out] at h11; simp only [Nat.zero_add] at c0 f0 h11)
    | (with_reducible refine wpList_load_mid (op := ⟨some 9, .load 23 (.tmp 1), _, _, _, _⟩) rfl 23 (.tmp 1) rfl w.heap.size 0 rfl (ints .u8 al) _ h12.range Tryd.underlying23 rfl (l22 la) ?_)
    | (with_reducible refine wpList_load_mid (op := ⟨some 10, .load 23 (.tmp 3), _, _, _, _⟩) rfl 23 (.tmp 3) rfl d 0 rfl (ints .u8 ms) _ h11.range Tryd.underlying23 rfl (l22 lm) ?_))
  have hT6 := hT.below hW6 hT.1
  clear h8 h9 h10 hW4 c0 f0 hs1 hT h11 h12
  generalize W5.setCell ⟨d, 0, none⟩ (.int .u8 236) = W6 at *
  refine (HK.out _ hT6).mono ?_
  rintro e w3 ⟨rfl, hb3⟩
  have h14 := h13.below hb3 (h13.lt (by rw [zeros_len]; omega))
  have hs2 : w3.there (w.heap.size + 1) 0 (ints .u8 rs).toArray.size := h14.room (by rw [zeros_len]; exact lr)
  have h15 := h14.stored (l' := rs) (by rw [zeros_len]; exact lr)
  have hW7 := Below.setCells (hW6.trans (Below.mono hb3 hW6.size)) (g := w.heap.size + 1) (by omega) 0 (ints .u8 rs).toArray.toList
  clear h13 hb3 h14 hT6 hW6
  go_wp2_with (first
    | (with_reducible refine wpList_store_mid (op := ⟨none, .store 23 (.tmp 2) (.tmp 11), _, _, _, _⟩) rfl 23 (.tmp 2) (.tmp 11) rfl (w.heap.size + 1) 0 (ints .u8 rs).toArray rfl rfl hs2 (a22 lr) (ints_all _ _) ?_; generalize w3.setCells (w.heap.size + 1) 0 (ints .u8 rs).toArray.toList = W7 at *))
  exact ret_rows rfl (w.heap.size + 1) 0 rfl (ints .u8 rs) _ h15.range Tryd.underlying23 rfl (l22 lr) rfl ⟨rfl, hW7⟩
set_option maxRecDepth 4000 in
theorem right_core {al rs : List Int} {d : Bool} (la : al.length = 32) (ya : Byt al) (hr : Hid (rbytes (bn al % QN) = rs)) (hd : Hid (decide (rs = al) = d)) : CallsT 11 #[.agg (ints .u8 al).toArray] (.bool d) := fun w hT => by
  have hN := Arr.made w .u8 al 23
  have hW := below_new w (.cells (ints .u8 al).toArray 23)
  have hT0 := hT.below hW hT.1
  have HK : Hid (∀ (w0 : World), Tabs w0 → Nums w0 .u8 (some ⟨w.heap.size, 0, none⟩) al → Calls Tryd.prog 21 #[.slice (some ⟨w.heap.size, 0, none⟩) 32 32] w0 fun e w' => e = .returned (.agg (ints .u8 rs).toArray) ∧ Below w0.heap.size w0 w') := hid fun w0 h1 h2 => by
    rw [← hr.out]
    exact scalarof_walk (some ⟨w.heap.size, 0, none⟩) 32 32 al w0 h1 la (by omega) ya h2
  have HL := hid la
  have HRL : Hid (rs.length = 32) := hid (by rw [← hr.out]; exact rbytes_length _)
  have HD := hd
  clear la ya hr hd hT
  go_enter Tryd.func11, Tryd.ntmps11
  go_wp2_with (fail)
  generalize w.alloc (.cells (ints .u8 al).toArray 23) = W0 at *
  refine region_spec2 4 7 (fun _ => false) [Is (.slice (some ⟨w.heap.size, 0, none⟩) 32 32), Is (.agg (ints .u8 rs).toArray), Is (.agg (ints .u8 al).toArray), Is (.bool d)] [3, 4, 5, 6] (by kernel_rfl) (by kernel_rfl) (by kernel_rfl) (Nat.le_of_eq rfl) (grows_cons (Is.grows _) (grows_cons (Is.grows _) (grows_cons (Is.grows _) (grows_cons (Is.grows _) grows_nil))))
    ⟨(step_ex (.slice (some ⟨w.heap.size, 0, none⟩) 32 32) rfl (.inl rfl) rfl fun a ww hw hf hd => by
         have h1 : a.eval (.tmp 1) = (.pointer (some ⟨w.heap.size, 0, none⟩)) := ((knows_out (v := (.pointer (some ⟨w.heap.size, 0, none⟩))) 1 (by kernel_rfl) rfl) : Knows _ _ W0 _ 4 _ 0 _ _) a ww hw hf hd
         revert h1
         generalize a.eval = ev
         intro h1
         unfold execOp
         simp only [h1]
         go_simp),
     (step_call rfl (.inl rfl) fun a ww hw hf hd => ⟨21, #[.slice (some ⟨w.heap.size, 0, none⟩) 32 32], ex_fn rfl cfT21 rfl _ (one_arg (knows_in (v := (.slice (some ⟨w.heap.size, 0, none⟩) 32 32)) 0 3 (by decide) (by kernel_rfl) rfl rfl) a ww hw hf hd) ww, (HK.out ww (hT0.next hw) (hN.nums.below hw)).mono fun _ _ ⟨he, hb⟩ => ⟨_, he, rfl, hb⟩⟩),
     (step_by rfl (.inl rfl) ⟨hN, HL.out⟩ 1 rfl (by kernel_rfl) rfl rfl),
     (step_eq22 rfl (.inl rfl) rfl HRL.out HL.out (by rw [HD.out]; exact rfl) (knows_in (v := (.agg (ints .u8 rs).toArray)) 1 4 (by decide) (by kernel_rfl) rfl rfl) (knows_in (v := (.agg (ints .u8 al).toArray)) 2 5 (by decide) (by kernel_rfl) rfl rfl)), trivial⟩ ?_
  intro val w9 hw hS hap hla
  have e3 : val 3 = (.slice (some ⟨w.heap.size, 0, none⟩) 32 32) := hS 0 3 (by decide) rfl
  have e4 : val 4 = (.agg (ints .u8 rs).toArray) := hS 1 4 (by decide) rfl
  have e5 : val 5 = (.agg (ints .u8 al).toArray) := hS 2 5 (by decide) rfl
  have e6 : val 6 = (.bool d) := hS 3 6 (by decide) rfl
  simp only [putVals, List.foldl_cons, List.foldl_nil, List.drop_succ_cons, List.drop_zero, Act.put, List.setIfInBounds_toArray, List.set_cons_succ, List.set_cons_zero, e3, e4, e5, e6]
  clear hS hap hla e3 e4 e5 e6
  have hW9 := hW.trans (Below.mono hw hW.size)
  clear hN hT0 HK hw
  go_wp2
  go_ret
  exact ⟨rfl, hW9⟩
end Go.Proofs.YtcoegehnipldpaaDoor

/- The package's functions, said of numbers. -/
namespace Go.Proofs.YtcoegehnipldpaaDoor
open Go Go.RowKit

theorem rbytes_yt (m : Nat) : Byt (rbytes m) := rbytes_byt m
theorem one_byt : Byt oneL := small_byt (by omega)
theorem bn_one : bn oneL = 1 := bn_small 1
section
variable {a b : List Int}
theorem c_add (la : a.length = 32) (lb : b.length = 32) (ya : Byt a) (yb : Byt b) : CallsT 16 #[.agg (ints .u8 a).toArray, .agg (ints .u8 b).toArray] (.agg (ints .u8 (rbytes ((bn a + bn b) % QN))).toArray) := by
  have h := add_core la lb (rbytes_length _) (c_muladd la one_len lb ya one_byt yb)
  rw [bn_one, Nat.mul_one] at h
  exact h
theorem c_mul (la : a.length = 32) (lb : b.length = 32) (ya : Byt a) (yb : Byt b) : CallsT 18 #[.agg (ints .u8 a).toArray, .agg (ints .u8 b).toArray] (.agg (ints .u8 (rbytes (bn a * bn b % QN))).toArray) := by
  have h := mul_core la lb (rbytes_length _) (c_muladd la lb (zeros_len 32) ya yb (zeros_byt 32))
  rw [bn_zeros, Nat.add_zero] at h
  exact h
theorem order0 : (rbytes QN)[0]? = some 237 := by decide +kernel
theorem order_less : (rbytes QN).set 0 236 = rbytes (QN - 1) := by decide +kernel
theorem qn1_lt : QN - 1 < 65536 ^ 16 := by decide
theorem c_neg (la : a.length = 32) (ya : Byt a) : CallsT 15 #[.agg (ints .u8 a).toArray] (.agg (ints .u8 (rbytes (bn a * (QN - 1) % QN))).toArray) := by
  have h := c_mul la (rbytes_length (QN - 1)) ya (rbytes_yt _)
  rw [bn_rbytes qn1_lt] at h
  exact neg_core la (rbytes_length _) (rbytes_length _) order0 (hid order_less) c_order h
theorem c_right (la : a.length = 32) (ya : Byt a) : CallsT 11 #[.agg (ints .u8 a).toArray] (.bool (decide (bn a < QN))) :=
  right_core la ya (hid rfl) (hid (decide_eq_decide.2 (right_iff la ya)))
end
set_option maxRecDepth 4000 in
set_option maxHeartbeats 2000000 in
theorem of_yes (A : Option Addr) (L c : Nat) (bs : List Int) (w : World) (hT : Tabs w) (hl : bs.length = L) (hn : L ≤ 128) (hb : Byt bs) (hA : Nums w .u8 A bs) : Calls Tryd.prog 7 #[.slice A L c] w fun e w' => e = .returned (.tuple #[.agg (ints .u8 (rbytes (bn bs % QN))).toArray, .int .i64 0]) ∧ Below w.heap.size w w' := by
  obtain ⟨z22, s22⟩ := zero_of_info inf22
  have hR := Arr.made w .u8 (zeros 32) 23
  have hW := below_new w (.cells (ints .u8 (zeros 32)).toArray 23)
  have hT0 := hT.next hW
  have HK : Hid (∀ w0 : World, Tabs w0 → Nums w0 .u8 A bs → Calls Tryd.prog 21 #[.slice A L c] w0 fun e w' => e = .returned (.agg (ints .u8 (rbytes (bn bs % QN))).toArray) ∧ Below w0.heap.size w0 w') := hid fun w0 h1 h2 => scalarof_walk A L c bs w0 h1 hl (by omega) hb h2
  have HRL := hid (rbytes_length (bn bs % QN))
  have hA0 := hA.below hW
  have hL : ¬ (128 : Int) < (L : Int) := by omega
  obtain ⟨rs, hrs⟩ : ∃ rs, rbytes (bn bs % QN) = rs := ⟨_, rfl⟩
  rw [hrs] at HK HRL ⊢
  clear hrs hl hb hA hT hn
  go_enter Tryd.func7, Tryd.ntmps7
  go_wp2_with (fail)
  generalize w.alloc (.cells (ints .u8 (zeros 32)).toArray 23) = W0 at *
  refine (HK.out _ hT0 hA0).mono ?_
  rintro e w2 ⟨rfl, hb2⟩
  have hR2 := hR.below hb2 (hR.lt (by rw [zeros_len]; omega))
  have hs1 : w2.there w.heap.size 0 (ints .u8 rs).toArray.size := hR2.room (by rw [zeros_len]; exact HRL.out)
  have hR3 := hR2.stored (l' := rs) (by rw [zeros_len]; exact HRL.out)
  have hW2 := Below.setCells (hW.trans (Below.mono hb2 hW.size)) (g := w.heap.size) (Nat.le_refl _) 0 (ints .u8 rs).toArray.toList
  clear hR hW hb2 hR2 hT0 hA0 HK
  go_wp2_with (first
    | (with_reducible refine wpList_store_mid (op := ⟨none, .store 23 (.tmp 2) (.tmp 9), _, _, _, _⟩) rfl 23 (.tmp 2) (.tmp 9) rfl w.heap.size 0 (ints .u8 rs).toArray rfl rfl hs1 (a22 HRL.out) (ints_all _ _) ?_; generalize w2.setCells w.heap.size 0 (ints .u8 rs).toArray.toList = W5 at *))
  exact bodyPost_ret (results_row2 rfl _ _ w.heap.size 0 rfl (.int .i64 0) rfl (ints .u8 rs) _ hR3.range Tryd.underlying23 rfl (l22 HRL.out)) rfl ⟨rfl, hW2⟩
set_option maxRecDepth 4000 in
set_option maxHeartbeats 2000000 in
theorem of_no (A : Option Addr) (L c : Nat) (w : World) (hn : 128 < L) : Calls Tryd.prog 7 #[.slice A L c] w fun e w' => e = .returned (.tuple #[.agg (ints .u8 (zeros 32)).toArray, .int .i64 3]) ∧ Below w.heap.size w w' := by
  obtain ⟨z22, s22⟩ := zero_of_info inf22
  have hR := Arr.made w .u8 (zeros 32) 23
  have hW := below_new w (.cells (ints .u8 (zeros 32)).toArray 23)
  have hL : (128 : Int) < (L : Int) := by omega
  have hs1 : (w.alloc (.cells (ints .u8 (zeros 32)).toArray 23)).there w.heap.size 0 (ints .u8 (zeros 32)).toArray.size := hR.room rfl
  have hR3 := hR.stored (l' := zeros 32) rfl
  have hW2 := Below.setCells hW (g := w.heap.size) (Nat.le_refl _) 0 (ints .u8 (zeros 32)).toArray.toList
  clear hn hR hW
  go_enter Tryd.func7, Tryd.ntmps7
  go_wp2_with (first
    | (with_reducible refine wpList_built (o := ⟨some 7, .build 23 #[], _, _, _, _⟩) rfl 23 #[] rfl [] (ints .u8 (zeros 32)).toArray rfl built_none ?_)
    | (with_reducible refine wpList_store_mid (op := ⟨none, .store 23 (.tmp 2) (.tmp 7), _, _, _, _⟩) rfl 23 (.tmp 2) (.tmp 7) rfl w.heap.size 0 (ints .u8 (zeros 32)).toArray rfl rfl hs1 (a22 (zeros_len 32)) (ints_all _ _) ?_; generalize (w.alloc (.cells (ints .u8 (zeros 32)).toArray 23)).setCells w.heap.size 0 (ints .u8 (zeros 32)).toArray.toList = W5 at *))
  exact bodyPost_ret (results_row2 rfl _ _ w.heap.size 0 rfl (.int .i64 3) rfl (ints .u8 (zeros 32)) _ hR3.range Tryd.underlying23 rfl (l22 (zeros_len 32))) rfl ⟨rfl, hW2⟩
end Go.Proofs.YtcoegehnipldpaaDoor
