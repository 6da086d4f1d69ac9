/- Texts laid together. -/
import Derived.Test.YthpibkpljakeeaaDoorG1
import Derived.Test.YthpibkpljakeeaaDoorG3
import Derived.Test.YthpibkpljakeeaaDoorG2
import Derived.Test.YthpibkpljakeeaaDoorBx2M
namespace Go.Proofs.YthpibkpljakeeaaDoor
def Eqv (a b : Int) : Prop := a % P = b % P
theorem Eqv.refl (a : Int) : Eqv a a := rfl
theorem Eqv.symm {a b : Int} (h : Eqv a b) : Eqv b a := Eq.symm h
theorem Eqv.trans {a b c : Int} (h : Eqv a b) (k : Eqv b c) : Eqv a c := Eq.trans h k
theorem Eqv.of {a b : Int} (h : a = b) : Eqv a b := by rw [h]; rfl
theorem Eqv.add {a b c d : Int} (h : Eqv a b) (k : Eqv c d) : Eqv (a + c) (b + d) := by
 unfold Eqv at *; rw [Int.add_emod, h, k, ← Int.add_emod]
theorem Eqv.sub {a b c d : Int} (h : Eqv a b) (k : Eqv c d) : Eqv (a - c) (b - d) := by
 unfold Eqv at *; rw [Int.sub_emod, h, k, ← Int.sub_emod]
theorem Eqv.mul {a b c d : Int} (h : Eqv a b) (k : Eqv c d) : Eqv (a * c) (b * d) := by
 unfold Eqv at *; rw [Int.mul_emod, h, k, ← Int.mul_emod]
theorem Eqv.pow {a b : Int} (h : Eqv a b) (n : Nat) : Eqv (a ^ n) (b ^ n) := by
 induction n with
 | zero => rw [Int.pow_zero, Int.pow_zero]; exact Eqv.refl _
 | succ n ih => rw [Int.pow_succ, Int.pow_succ]; exact ih.mul h
theorem add_eqv {xs ys : List Int} (hx : El xs) (hy : El ys) : Eqv (ev (cy (plus xs ys))) (ev xs + ev ys) := (addL_el hx hy).2
theorem sub_eqv {xs ys : List Int} (hx : El xs) (hy : El ys) : Eqv (ev (cy (minus xs ys))) (ev xs - ev ys) := (subL_el hx hy).2
theorem neg_eqv {xs : List Int} (hx : El xs) : Eqv (ev (cy (minus (zeros 16) xs))) (- ev xs) := (negL_el hx).2
theorem mul_eqv {xs ys : List Int} (hx : El xs) (hy : El ys) : Eqv (ev (mulL xs ys)) (ev xs * ev ys) := (mulL_el hx hy).2
theorem red_iff {xs ys : List Int} (hx : El xs) (hy : El ys) : red xs = red ys ↔ Eqv (ev xs) (ev ys) := red_eq hx hy
def bv : List Int → Int
 | [] => 0
 | b :: l => b + 256 * bv l
theorem bv_bd : ∀ l : List Int, Byt l → 0 ≤ bv l ∧ bv l < 256 ^ l.length
 | [], _ => by simp [bv]
 | x :: l, h => by
   have h1 := bv_bd l (fun y hy => h y (by simp [hy]))
   have h2 := h x (by simp)
   simp only [bv, List.length_cons, Int.pow_succ]
   omega
theorem bv_at : ∀ (l : List Int) (j : Nat), Byt l → bv l / 256 ^ j % 256 = l.getD j 0
 | [], j, _ => by simp [bv]
 | x :: l, 0, h => by
   have h2 := h x (by simp)
   simp only [bv, Int.pow_zero, Int.ediv_one]
   simp; omega
 | x :: l, j + 1, h => by
   have h1 := bv_at l j (fun y hy => h y (by simp [hy]))
   have h2 := h x (by simp)
   have e : (x + 256 * bv l) / 256 ^ (j + 1) = bv l / 256 ^ j := by
     have e1 : (x + 256 * bv l) / 256 = bv l := by omega
     rw [Int.pow_succ, Int.mul_comm ((256 : Int) ^ j), ← Int.ediv_ediv_of_nonneg (by omega : (0 : Int) ≤ 256), e1]
   simp only [bv]
   rw [e, h1]
   simp
theorem mod_div_pow (n : Int) (r : Nat) (h : r < 8) : n % 256 / 2 ^ r % 2 = n / 2 ^ r % 2 := by
 have : r = 0 ∨ r = 1 ∨ r = 2 ∨ r = 3 ∨ r = 4 ∨ r = 5 ∨ r = 6 ∨ r = 7 := by omega
 rcases this with rfl | rfl | rfl | rfl | rfl | rfl | rfl | rfl <;> simp <;> omega
theorem pow256 (j : Nat) : (256 : Int) ^ j = 2 ^ (8 * j) := by rw [Int.pow_mul]; rfl
theorem bit_eq (bs : List Int) (hb : Byt bs) (i : Nat) : bitAt bs i = bv bs / 2 ^ i % 2 := by
 unfold bitAt
 rw [← bv_at bs (i / 8) hb, mod_div_pow _ _ (by omega), pow256, Int.ediv_ediv_of_nonneg (Int.le_of_lt (Int.pow_pos (by omega))), ← Int.pow_add]
 congr 3
 omega
theorem powL_eqv {xs bs : List Int} (hx : El xs) (hb : Byt bs) (hl : bs.length = 32) (k : Nat) (hk : k ≤ 256) : Eqv (ev (powL xs bs k)) (ev xs ^ (bv bs / 2 ^ (256 - k)).toNat) := by
 have hbd := bv_bd bs hb
 rw [hl, pow256] at hbd
 induction k with
 | zero =>
   have e : bv bs / 2 ^ (256 - 0) = 0 := Int.ediv_eq_zero_of_lt hbd.1 hbd.2
   rw [e]
   show Eqv (ev (smallL 1)) _
   rw [small_ev 1 (by omega)]
   show Eqv 1 (ev xs ^ 0)
   rw [Int.pow_zero]
   exact Eqv.refl _
 | succ k ih =>
   have h1 := ih (by omega)
   have hE := powL_el (bs := bs) hx k
   have hbit := bit_eq bs hb (255 - k)
   have hN : bv bs / 2 ^ (256 - k) = bv bs / 2 ^ (255 - k) / 2 := by
     rw [Int.ediv_ediv_of_nonneg (Int.le_of_lt (Int.pow_pos (by omega))), ← Int.pow_succ]
     congr 2; omega
   have e255 : 256 - (k + 1) = 255 - k := by omega
   rw [e255]
   rw [hN] at h1
   have hn0 : 0 ≤ bv bs / 2 ^ (255 - k) := Int.ediv_nonneg hbd.1 (Int.le_of_lt (Int.pow_pos (by omega)))
   obtain ⟨N, hNe⟩ := Int.eq_ofNat_of_zero_le hn0
   rw [hNe] at h1 hbit ⊢
   have t1 : ((N : Int) / 2).toNat = N / 2 := by omega
   have t2 : ((N : Int)).toNat = N := by omega
   rw [t1] at h1
   rw [t2]
   simp only [powL]
   have hsq := (mul_eqv hE hE).trans (h1.mul h1)
   rw [← Int.pow_add] at hsq
   by_cases hb1 : bitAt bs (255 - k) = 1
   · rw [if_pos hb1]
     have := (mul_eqv (mulL_el hE hE).1 hx).trans (hsq.mul (Eqv.refl _))
     rw [← Int.pow_succ] at this
     have e : (N / 2 + N / 2).succ = N := by omega
     rw [e] at this
     exact this
   · rw [if_neg hb1]
     have e : N / 2 + N / 2 = N := by omega
     rw [e] at hsq
     exact hsq
theorem powL_num {xs bs : List Int} (hx : El xs) (hb : Byt bs) (hl : bs.length = 32) : Eqv (ev (powL xs bs 256)) (ev xs ^ (bv bs).toNat) := by
 have h := powL_eqv hx hb hl 256 (by omega)
 rw [Nat.sub_self, Int.pow_zero, Int.ediv_one] at h
 exact h
theorem pn_int : ((NT.PN : Nat) : Int) = P := by decide
theorem int_pow_mod (x : Int) (n : Nat) : Eqv (x ^ n) ((((x % P).toNat ^ n % NT.PN : Nat)) : Int) := by
 have h0 : 0 ≤ x % P := Int.emod_nonneg _ (by decide)
 have h1 : ((x % P).toNat : Int) = x % P := Int.toNat_of_nonneg h0
 unfold Eqv
 rw [Int.natCast_emod, pn_int, Int.emod_emod_of_dvd _ (Int.dvd_refl P), Int.natCast_pow, h1]
 exact Eqv.pow (show Eqv x (x % P) from (Int.emod_emod_of_dvd _ (Int.dvd_refl P)).symm) n
theorem not_zero {x : Int} (h : ¬ Eqv x 0) : 0 < (x % P).toNat ∧ (x % P).toNat < NT.PN := by
 have h0 : 0 ≤ x % P := Int.emod_nonneg _ (by decide)
 have h1 : x % P < P := Int.emod_lt_of_pos _ (by decide)
 have h2 : x % P ≠ 0 := fun e => h (by unfold Eqv; rw [e]; rfl)
 have h3 := pn_int
 constructor
 · omega
 · have : ((x % P).toNat : Int) < (NT.PN : Nat) := by rw [h3]; omega
   exact Int.ofNat_lt.1 this
theorem fermat_eqv {x : Int} (h : ¬ Eqv x 0) : Eqv (x ^ (NT.PN - 1)) 1 := by
 obtain ⟨h1, h2⟩ := not_zero h
 refine (int_pow_mod x _).trans ?_
 rw [NT.fermat _ h1 h2]
 exact Eqv.refl _
theorem bv_inv : (bv (onesL 235 127)).toNat = NT.PN - 2 := by decide +kernel
theorem bv_root : (bv (onesL 253 15)).toNat = (NT.PN - 5) / 8 := by decide +kernel
theorem inv_one {x : Int} (h : ¬ Eqv x 0) : Eqv (x * x ^ (NT.PN - 2)) 1 := by
 have e : x * x ^ (NT.PN - 2) = x ^ (NT.PN - 1) := by
   have : NT.PN - 1 = (NT.PN - 2) + 1 := by decide
   rw [this, Int.pow_succ, Int.mul_comm]
 rw [e]
 exact fermat_eqv h
theorem mul_zero {x y : Int} (h : Eqv (x * y) 0) : Eqv x 0 ∨ Eqv y 0 := by
 by_cases hx : Eqv x 0
 · exact .inl hx
 · right
   have h1 := inv_one hx
   have h2 : Eqv (x ^ (NT.PN - 2) * (x * y)) (x ^ (NT.PN - 2) * 0) := (Eqv.refl _).mul h
   rw [Int.mul_zero, ← Int.mul_assoc, Int.mul_comm (x ^ _)] at h2
   have h3 : Eqv (x * x ^ (NT.PN - 2) * y) (1 * y) := h1.mul (Eqv.refl _)
   rw [Int.one_mul] at h3
   exact h3.symm.trans h2
theorem byt_getD {bs : List Int} (hb : Byt bs) (i : Nat) : 0 ≤ bs.getD i 0 ∧ bs.getD i 0 < 256 := by
 rw [List.getD_eq_getElem?_getD]
 cases h : bs[i]? with
 | none => simp
 | some x => exact hb.at_ h
theorem ofL_dg {bs : List Int} (hb : Byt bs) : Dg (ofL bs) := by
 refine ⟨ofL_length bs, fun i x hi => ?_⟩
 have h15 : (dgs bs)[15]? = some ((dgs bs).getD 15 0) := getD_some (by rw [dgs_length]; omega)
 have key : ∀ (i : Nat) (x : Int), (dgs bs)[i]? = some x → 0 ≤ x ∧ x < 65536 := fun i x hi => by
   have h16 := (List.getElem?_eq_some_iff.1 hi).1
   rw [dgs_length] at h16
   rw [dgs_at bs h16] at hi
   have h1 := byt_getD hb (2 * i)
   have h2 := byt_getD hb (2 * i + 1)
   rw [← Option.some.inj hi]
   omega
 unfold ofL at hi
 by_cases e : 15 = i
 · subst e
   rw [List.getElem?_set_self (by rw [dgs_length]; omega)] at hi
   rw [← Option.some.inj hi]
   omega
 · rw [List.getElem?_set_ne e] at hi
   have := key i x hi
   omega
theorem ofL_el {bs : List Int} (hb : Byt bs) : El (ofL bs) := el_set (ofL_dg hb)
open Go.RowKit
def dblL (xs : List Int) : List Int := cy (plus xs xs)
def rbL (xs : List Int) : List Int := powL (dblL xs) (onesL 253 15) 256
def riL (xs : List Int) : List Int := mulL (mulL (dblL xs) (rbL xs)) (rbL xs)
def rtL (xs : List Int) : List Int := mulL (mulL xs (rbL xs)) (cy (minus (riL xs) (smallL 1)))
theorem dblL_el {xs : List Int} (h : El xs) : El (dblL xs) := (addL_el h h).1
theorem rbL_el {xs : List Int} (h : El xs) : El (rbL xs) := powL_el (dblL_el h) 256
theorem riL_el {xs : List Int} (h : El xs) : El (riL xs) := (mulL_el (mulL_el (dblL_el h) (rbL_el h)).1 (rbL_el h)).1
theorem one_el : El (smallL 1) := el_set (small_dg 1)
theorem rtL_el {xs : List Int} (h : El xs) : El (rtL xs) := (mulL_el (mulL_el h (rbL_el h)).1 (subL_el (riL_el h) one_el).1).1
theorem El.big {a : List Int} (h : El a) : Bd 100000000000000000 a := fun x hx => by have := h.bd x hx; omega
theorem results_row2 {P : Program} {fn : Func} {p s : Tmp} {ty : TypeId} (h : fn.results = #[.cell p ty, .tmp s]) (tmps : Array Value) (w : World) (b o : Nat) (hp : tmps.getD p undef = .pointer (some ⟨b, o, none⟩)) (v : Value) (hs : tmps.getD s undef = v)
   (cs : List Value) (d : TypeDesc) (hc : w.rangeAt b o cs) (hu : P.underlying ty = some d) (hd : d.isRow = true) (hi : (P.info? ty).map (·.size) = some cs.length) :
   (results fn tmps).run P w = .ok (.tuple #[.agg cs.toArray, v]) w := by
 simp only [results, h]
 have hp2 : tmps[p]?.getD undef = .pointer (some ⟨b, o, none⟩) := by rw [← hp]; simp
 have hs2 : tmps[s]?.getD undef = v := by rw [← hs]; simp
 simp [hp2, hs2, asAddr, run_loadVar_mid w b o ty cs d hc hu hd hi]
theorem Bx.new (w : World) (l : List Int) (h : l.length = 16) : Bx (w.alloc (.cells (ints .i64 l).toArray 29)) w.heap.size l := ⟨Arr.made w .i64 l 29, h⟩
set_option maxRecDepth 4000 in
set_option maxHeartbeats 2000000 in
theorem root_core (xs dl os b t1 i t2 one t3 r rr ng : List Int) (w : World) (lx : xs.length = 16) (ld : dl.length = 16) (lb : b.length = 16) (li : i.length = 16) (lr : r.length = 16) (ln : ng.length = 16)
   (k18 : CallsTo 44 #[.agg (ints .i64 xs).toArray, .agg (ints .i64 xs).toArray] (.agg (ints .i64 dl).toArray)) (k39 : CallsTo 76 #[.int .u8 253, .int .u8 15] (.agg (ints .u8 os).toArray))
   (k25 : CallsTo 75 #[.agg (ints .i64 dl).toArray, .agg (ints .u8 os).toArray] (.agg (ints .i64 b).toArray)) (k22a : CallsTo 43 #[.agg (ints .i64 dl).toArray, .agg (ints .i64 b).toArray] (.agg (ints .i64 t1).toArray))
   (k22b : CallsTo 43 #[.agg (ints .i64 t1).toArray, .agg (ints .i64 b).toArray] (.agg (ints .i64 i).toArray)) (k22c : CallsTo 43 #[.agg (ints .i64 xs).toArray, .agg (ints .i64 b).toArray] (.agg (ints .i64 t2).toArray))
   (k16 : CallsTo 26 #[.int .i64 1] (.agg (ints .i64 one).toArray)) (k20 : CallsTo 42 #[.agg (ints .i64 i).toArray, .agg (ints .i64 one).toArray] (.agg (ints .i64 t3).toArray))
   (k22d : CallsTo 43 #[.agg (ints .i64 t2).toArray, .agg (ints .i64 t3).toArray] (.agg (ints .i64 r).toArray)) (k22e : CallsTo 43 #[.agg (ints .i64 r).toArray, .agg (ints .i64 r).toArray] (.agg (ints .i64 rr).toArray))
   (ok : Bool) (k14 : CallsTo 25 #[.agg (ints .i64 rr).toArray, .agg (ints .i64 xs).toArray] (.bool ok)) (odd : Bool) (k13 : CallsTo 51 #[.agg (ints .i64 r).toArray] (.bool odd)) (k24 : CallsTo 27 #[.agg (ints .i64 r).toArray] (.agg (ints .i64 ng).toArray)) :
   Calls Tryd.prog 59 #[.agg (ints .i64 xs).toArray] w fun e w' => e = .returned (if ok then (if odd then .tuple #[.agg (ints .i64 ng).toArray, .bool true] else .tuple #[.agg (ints .i64 r).toArray, .bool true]) else .tuple #[.agg (ints .i64 (zeros 16)).toArray, .bool false]) ∧ Below w.heap.size w w' := by
 obtain ⟨z26, s26⟩ := zero_of_info inf26
 have LX := hid lx
 have LD := hid ld
 have LB := hid lb
 have LI := hid li
 have LR := hid lr
 have LN := hid ln
 clear lx ld lb li lr ln
 have hX := (Bx.new w xs LX.out).next (below_new _ (.cells (ints .i64 (zeros 16)).toArray 29))
 have hR := Bx.new (w.alloc (.cells (ints .i64 xs).toArray 29)) (zeros 16) rfl
 have hW := (below_new w (.cells (ints .i64 xs).toArray 29)).alloc (by simp) (.cells (ints .i64 (zeros 16)).toArray 29)
 rw [World.size_alloc] at hR
 go_enter Tryd.func59, Tryd.ntmps59
 go_wp2_with (first
   | (with_reducible refine wpList_load_mid (op := ⟨some 8, .load 29 (.tmp 1), _, _, _, _⟩) rfl 29 (.tmp 1) rfl w.heap.size 0 rfl (ints .i64 xs) _ (hX.range) Tryd.underlying29 rfl (l26 LX.out) ?_)
   | (with_reducible refine wpList_load_mid (op := ⟨some 9, .load 29 (.tmp 1), _, _, _, _⟩) rfl 29 (.tmp 1) rfl w.heap.size 0 rfl (ints .i64 xs) _ (hX.range) Tryd.underlying29 rfl (l26 LX.out) ?_))
 generalize ((w.alloc (.cells (ints .i64 xs).toArray 29)).alloc (.cells (ints .i64 (zeros 16)).toArray 29)) = W at *
 refine (k18 _).mono ?_
 rintro e w1 ⟨rfl, hb1⟩
 replace hX := hX.next hb1
 replace hR := hR.next hb1
 replace hW := hW.trans (hb1.mono hW.size)
 clear hb1
 obtain ⟨hs, hD, hb⟩ := put_new w1 dl LD.out
 replace hX := hX.next hb
 replace hR := hR.next hb
 replace hW := hW.trans (hb.mono hW.size)
 clear hb
 obtain ⟨B4, hB4⟩ : ∃ B, B = w1.heap.size := ⟨_, rfl⟩
 go_wp2_with (first
   | (with_reducible refine wpList_store_mid (op := ⟨none, .store 29 (.tmp 4) (.tmp 10), _, _, _, _⟩) rfl 29 (.tmp 4) (.tmp 10) rfl w1.heap.size 0 (ints .i64 dl).toArray rfl rfl hs (a26 LD.out) (ints_all _ _) ?_; generalize ((w1.alloc (.cells (ints .i64 (zeros 16)).toArray 29)).setCells w1.heap.size 0 (ints .i64 dl).toArray.toList) = W2 at *))
 rw [← hB4] at hD ⊢
 clear hB4 hs
 refine region_float26 4 [(3, 5)] [0, 1, 2] (by kernel_rfl) (by kernel_rfl) (by kernel_rfl) ?_
 simp only [List.filterMap_cons, List.filterMap_nil, List.getElem?_cons_succ, List.getElem?_cons_zero]
 refine qc_el hD (.tmp 4) rfl rfl rfl ?_
 go_simp
 refine qc_to k39 rfl (fun w' => by go_simp) ?_
 go_simp
 refine qc_to k25 rfl (fun w' => by go_simp) ?_
 go_simp
 refine qc_nil ?_
 intro B w' hb hB hinj
 clear hinj
 simp only [List.drop_succ_cons, List.drop_zero, List.map_cons, List.map_nil, putAll, List.foldl_cons, List.foldl_nil]
 obtain ⟨hB1, hB2⟩ := hB (3, 5) (by simp)
 dsimp only at hB1 hB2
 obtain ⟨B5, hEq⟩ : ∃ b, b = B 5 := ⟨_, rfl⟩
 rw [← hEq] at hB1 hB2 ⊢
 clear hEq
 have hs := hB2.room (l' := b) LB.out
 have hN3 := hB2.stored (l' := b) LB.out
 have hne := hX.lt
 replace hX := (hX.next hb).past (b' := B5) (ints .i64 b).toArray.toList (by omega)
 clear hne
 have hne := hR.lt
 replace hR := (hR.next hb).past (b' := B5) (ints .i64 b).toArray.toList (by omega)
 clear hne
 have hne := hD.lt
 replace hD := (hD.next hb).past (b' := B5) (ints .i64 b).toArray.toList (by omega)
 clear hne
 replace hW := Below.setCells (hW.trans (Below.mono hb hW.size)) (g := B5) (by have := hW.size; omega) 0 (ints .i64 b).toArray.toList
 clear hb hB2 hB
 go_wp2_with (first
   | (with_reducible refine wpList_store_mid (op := ⟨none, .store 29 (.tmp 5) (.tmp 13), _, _, _, _⟩) rfl 29 (.tmp 5) (.tmp 13) rfl B5 0 (ints .i64 b).toArray rfl rfl hs (a26 LB.out) (ints_all _ _) ?_; generalize (w'.setCells B5 0 (ints .i64 b).toArray.toList) = W3 at *))
 clear hs hB1
 refine region_float26 6 [(5, 6)] [0, 1, 2, 3, 4] (by kernel_rfl) (by kernel_rfl) (by kernel_rfl) ?_
 simp only [List.filterMap_cons, List.filterMap_nil, List.getElem?_cons_succ, List.getElem?_cons_zero]
 refine qc_el hD (.tmp 4) rfl rfl rfl ?_
 go_simp
 refine qc_el hN3 (.tmp 5) rfl rfl rfl ?_
 go_simp
 refine qc_to k22a rfl (fun w' => by go_simp) ?_
 go_simp
 refine qc_el hN3 (.tmp 5) rfl rfl rfl ?_
 go_simp
 refine qc_to k22b rfl (fun w' => by go_simp) ?_
 go_simp
 refine qc_nil ?_
 intro B w' hb hB hinj
 clear hinj
 simp only [List.drop_succ_cons, List.drop_zero, List.map_cons, List.map_nil, putAll, List.foldl_cons, List.foldl_nil]
 obtain ⟨hB1, hB2⟩ := hB (5, 6) (by simp)
 dsimp only at hB1 hB2
 obtain ⟨B6, hEq⟩ : ∃ b, b = B 6 := ⟨_, rfl⟩
 rw [← hEq] at hB1 hB2 ⊢
 clear hEq
 have hs := hB2.room (l' := i) LI.out
 have hN4 := hB2.stored (l' := i) LI.out
 have hne := hX.lt
 replace hX := (hX.next hb).past (b' := B6) (ints .i64 i).toArray.toList (by omega)
 clear hne
 have hne := hR.lt
 replace hR := (hR.next hb).past (b' := B6) (ints .i64 i).toArray.toList (by omega)
 clear hne
 have hne := hD.lt
 replace hD := (hD.next hb).past (b' := B6) (ints .i64 i).toArray.toList (by omega)
 clear hne
 have hne := hN3.lt
 replace hN3 := (hN3.next hb).past (b' := B6) (ints .i64 i).toArray.toList (by omega)
 clear hne
 replace hW := Below.setCells (hW.trans (Below.mono hb hW.size)) (g := B6) (by have := hW.size; omega) 0 (ints .i64 i).toArray.toList
 clear hb hB2 hB
 go_wp2_with (first
   | (with_reducible refine wpList_store_mid (op := ⟨none, .store 29 (.tmp 6) (.tmp 18), _, _, _, _⟩) rfl 29 (.tmp 6) (.tmp 18) rfl B6 0 (ints .i64 i).toArray rfl rfl hs (a26 LI.out) (ints_all _ _) ?_; generalize (w'.setCells B6 0 (ints .i64 i).toArray.toList) = W4 at *))
 clear hs hB1
 refine region_float26 8 [(7, 7)] [0, 1, 2, 3, 4, 5, 6] (by kernel_rfl) (by kernel_rfl) (by kernel_rfl) ?_
 simp only [List.filterMap_cons, List.filterMap_nil, List.getElem?_cons_succ, List.getElem?_cons_zero]
 refine qc_el hX (.tmp 1) rfl rfl rfl ?_
 go_simp
 refine qc_el hN3 (.tmp 5) rfl rfl rfl ?_
 go_simp
 refine qc_to k22c rfl (fun w' => by go_simp) ?_
 go_simp
 refine qc_el hN4 (.tmp 6) rfl rfl rfl ?_
 go_simp
 refine qc_to k16 rfl (fun w' => by go_simp) ?_
 go_simp
 refine qc_to k20 rfl (fun w' => by go_simp) ?_
 go_simp
 refine qc_to k22d rfl (fun w' => by go_simp) ?_
 go_simp
 refine qc_nil ?_
 intro B w' hb hB hinj
 clear hinj
 simp only [List.drop_succ_cons, List.drop_zero, List.map_cons, List.map_nil, putAll, List.foldl_cons, List.foldl_nil]
 obtain ⟨hB1, hB2⟩ := hB (7, 7) (by simp)
 dsimp only at hB1 hB2
 obtain ⟨B7, hEq⟩ : ∃ b, b = B 7 := ⟨_, rfl⟩
 rw [← hEq] at hB1 hB2 ⊢
 clear hEq
 have hs := hB2.room (l' := r) LR.out
 have hN5 := hB2.stored (l' := r) LR.out
 have hne := hX.lt
 replace hX := (hX.next hb).past (b' := B7) (ints .i64 r).toArray.toList (by omega)
 clear hne
 have hne := hR.lt
 replace hR := (hR.next hb).past (b' := B7) (ints .i64 r).toArray.toList (by omega)
 clear hne
 have hne := hD.lt
 replace hD := (hD.next hb).past (b' := B7) (ints .i64 r).toArray.toList (by omega)
 clear hne
 have hne := hN3.lt
 replace hN3 := (hN3.next hb).past (b' := B7) (ints .i64 r).toArray.toList (by omega)
 clear hne
 have hne := hN4.lt
 replace hN4 := (hN4.next hb).past (b' := B7) (ints .i64 r).toArray.toList (by omega)
 clear hne
 replace hW := Below.setCells (hW.trans (Below.mono hb hW.size)) (g := B7) (by have := hW.size; omega) 0 (ints .i64 r).toArray.toList
 clear hb hB2 hB
 go_wp2_with (first
   | (with_reducible refine wpList_store_mid (op := ⟨none, .store 29 (.tmp 7) (.tmp 25), _, _, _, _⟩) rfl 29 (.tmp 7) (.tmp 25) rfl B7 0 (ints .i64 r).toArray rfl rfl hs (a26 LR.out) (ints_all _ _) ?_; generalize (w'.setCells B7 0 (ints .i64 r).toArray.toList) = W5 at *))
 clear hs hB1
 refine region_quiet_in (Cl W5) (by kernel_rfl) (by kernel_rfl) (Cl.drew W5) ?_
 refine qs_el hN5 (.tmp 7) rfl rfl rfl ?_
 refine qs_el hN5 (.tmp 7) rfl rfl rfl ?_
 refine qs_to k22e rfl (fun w' => by go_simp) ?_
 refine qs_el hX (.tmp 1) rfl rfl rfl ?_
 refine qs_to k14 rfl (fun w' => by go_simp) ?_
 refine qs_pure (.bool (!ok)) rfl (fun w' => by go_simp) ?_
 go_simp
 refine wpQuiet_nil ?_
 intro w6 hb6
 replace hX := hX.next hb6
 replace hR := hR.next hb6
 replace hN5 := hN5.next hb6
 replace hW := hW.trans (Below.mono hb6 hW.size)
 clear hb6 hD hN3 hN4
 have fin := fun (l : List Int) (hl : l.length = 16) => And.intro (hR.room (l' := l) hl) (hR.stored (l' := l) hl)
 cases ok
 · clear fin
   have hz : (zeros 16).length = 16 := rfl
   generalize hzz : zeros 16 = zz at *
   have HZ := hid hz
   have HZZ := hid hzz
   clear hz hzz
   have hs1 := hR.room (l' := zz) HZ.out
   have hR2 := hR.stored (l' := zz) HZ.out
   have hW2 := Below.setCells hW (g := w.heap.size + 1) (by omega) 0 (ints .i64 zz).toArray.toList
   go_wp2_with (first
     | (with_reducible refine wpList_store_mid (op := ⟨none, .store 29 (.tmp 2) (.tmp 32), _, _, _, _⟩) rfl 29 (.tmp 2) (.tmp 32) rfl (w.heap.size + 1) 0 (ints .i64 zz).toArray rfl rfl hs1 (a26 HZ.out) (ints_all _ _) ?_; generalize (w6.setCells (w.heap.size + 1) 0 (ints .i64 zz).toArray.toList) = W7 at *))
   refine bodyPost_ret (results_row2 rfl _ _ (w.heap.size + 1) 0 rfl (.bool false) rfl (ints .i64 zz) _ hR2.range Tryd.underlying29 rfl (l26 HZ.out)) rfl ⟨?_, hW2⟩
   rw [HZZ.out]
 · cases odd
   · obtain ⟨hs1, hR2⟩ := fin r LR.out
     have hW2 := Below.setCells hW (g := w.heap.size + 1) (by omega) 0 (ints .i64 r).toArray.toList
     clear fin
     go_wp2_with (first
       | (with_reducible refine wpList_load_mid (op := ⟨some 33, .load 29 (.tmp 7), _, _, _, _⟩) rfl 29 (.tmp 7) rfl B7 0 rfl (ints .i64 r) _ (hN5.range) Tryd.underlying29 rfl (l26 LR.out) ?_)
       | (go_at_call 51; refine (k13 _).mono ?_; rintro e w7 ⟨rfl, hb7⟩; replace hN5 := hN5.next hb7; replace hR := hR.next hb7; replace hW := hW.trans (hb7.mono hW.size); have hs7 := hR.room (l' := r) LR.out; have hR7 := hR.stored (l' := r) LR.out; have hW7 := Below.setCells hW (g := w.heap.size + 1) (by omega) 0 (ints .i64 r).toArray.toList)
       | (with_reducible refine wpList_load_mid (op := ⟨some 37, .load 29 (.tmp 7), _, _, _, _⟩) rfl 29 (.tmp 7) rfl B7 0 rfl (ints .i64 r) _ (hN5.range) Tryd.underlying29 rfl (l26 LR.out) ?_)
       | (with_reducible refine wpList_store_mid (op := ⟨none, .store 29 (.tmp 2) (.tmp 37), _, _, _, _⟩) rfl 29 (.tmp 2) (.tmp 37) rfl (w.heap.size + 1) 0 (ints .i64 r).toArray rfl rfl hs7 (a26 LR.out) (ints_all _ _) ?_))
     refine bodyPost_ret (results_row2 rfl _ _ (w.heap.size + 1) 0 rfl (.bool true) rfl (ints .i64 r) _ hR7.range Tryd.underlying29 rfl (l26 LR.out)) rfl ⟨rfl, hW7⟩
   · clear fin
     go_wp2_with (first
       | (with_reducible refine wpList_load_mid (op := ⟨some 33, .load 29 (.tmp 7), _, _, _, _⟩) rfl 29 (.tmp 7) rfl B7 0 rfl (ints .i64 r) _ (hN5.range) Tryd.underlying29 rfl (l26 LR.out) ?_)
       | (go_at_call 51; refine (k13 _).mono ?_; rintro e w7 ⟨rfl, hb7⟩; replace hN5 := hN5.next hb7; replace hR := hR.next hb7; replace hW := hW.trans (hb7.mono hW.size))
       | (with_reducible refine wpList_load_mid (op := ⟨some 35, .load 29 (.tmp 7), _, _, _, _⟩) rfl 29 (.tmp 7) rfl B7 0 rfl (ints .i64 r) _ (hN5.range) Tryd.underlying29 rfl (l26 LR.out) ?_)
       | (go_at_call 27; refine (k24 _).mono ?_; rintro e w8 ⟨rfl, hb8⟩; replace hR := hR.next hb8; replace hW := hW.trans (hb8.mono hW.size); have hs7 := hR.room (l' := ng) LN.out; have hR7 := hR.stored (l' := ng) LN.out; have hW7 := Below.setCells hW (g := w.heap.size + 1) (by omega) 0 (ints .i64 ng).toArray.toList)
       | (with_reducible refine wpList_store_mid (op := ⟨none, .store 29 (.tmp 2) (.tmp 36), _, _, _, _⟩) rfl 29 (.tmp 2) (.tmp 36) rfl (w.heap.size + 1) 0 (ints .i64 ng).toArray rfl rfl hs7 (a26 LN.out) (ints_all _ _) ?_))
     refine bodyPost_ret (results_row2 rfl _ _ (w.heap.size + 1) 0 rfl (.bool true) rfl (ints .i64 ng) _ hR7.range Tryd.underlying29 rfl (l26 LN.out)) rfl ⟨rfl, hW7⟩
def okL (xs : List Int) : Bool := decide (red (mulL (rtL xs) (rtL xs)) = red xs)
def oddL (xs : List Int) : Bool := (red (rtL xs)).getD 0 0 % 2 == 1
def ngL (xs : List Int) : List Int := cy (minus (zeros 16) (rtL xs))
theorem red_at {xs : List Int} (h : xs.length = 16) : Hid ((red xs)[0]? = some ((red xs).getD 0 0)) := hid (getD_some (by rw [red_length, h]; omega))
theorem root_any (xs : List Int) (w : World) (h : El xs) :
   Calls Tryd.prog 59 #[.agg (ints .i64 xs).toArray] w fun e w' => e = .returned (if okL xs then (if oddL xs then .tuple #[.agg (ints .i64 (ngL xs)).toArray, .bool true] else .tuple #[.agg (ints .i64 (rtL xs)).toArray, .bool true]) else .tuple #[.agg (ints .i64 (zeros 16)).toArray, .bool false]) ∧ Below w.heap.size w w' := by
 have hd := dblL_el h
 have hb := rbL_el h
 have ht1 := (mulL_el hd hb).1
 have hi := riL_el h
 have ht2 := (mulL_el h hb).1
 have ht3 := (subL_el hi one_el).1
 have hr := rtL_el h
 have hrr := (mulL_el hr hr).1
 have hng := (negL_el hr).1
 exact root_core xs (dblL xs) (onesL 253 15) (rbL xs) (mulL (dblL xs) (rbL xs)) (riL xs) (mulL xs (rbL xs)) (smallL 1) (cy (minus (riL xs) (smallL 1))) (rtL xs) (mulL (rtL xs) (rtL xs)) (ngL xs) w
   h.len hd.len hb.len hi.len hr.len hng.len
   (fun w => add_any xs xs w h.len h.len h.big h.big) (ones_any 253 15) (fun w => power_walk (dblL xs) (onesL 253 15) (rbL xs) w (hid rfl) hd (onesL_length _ _) (onesL_byt (by omega) (by omega)))
   (fun w => mul_any _ _ w hd.len hb.len hd.bd hb.bd) (fun w => mul_walk _ _ (riL xs) w (hid rfl) ht1.len hb.len ht1.bd hb.bd) (fun w => mul_any _ _ w h.len hb.len h.bd hb.bd)
   (small_any 1) (fun w => sub_any _ _ w hi.len one_el.len hi.big one_el.big) (fun w => mul_walk _ _ (rtL xs) w (hid rfl) ht2.len ht3.len ht2.bd ht3.bd) (fun w => mul_any _ _ w hr.len hr.len hr.bd hr.bd)
   (okL xs) (fun w => equal_any _ _ w hrr.len h.len hrr.big h.big) (oddL xs) (fun w => odd_any (rtL xs) _ w hr.len (fun x hx => by have := hr.bd x hx; omega) (red_at hr.len)) (fun w => neg_walk (rtL xs) (ngL xs) w (hid rfl) hr.len hr.big)
open Go.RowKit
theorem By.new (w : World) (l : List Int) (h : l.length = 32) : By (w.alloc (.cells (ints .u8 l).toArray 22)) w.heap.size l := ⟨Arr.made w .u8 l 22, h⟩
section
variable {xs ys bs : List Int}
theorem El.huge (h : El xs) : Bd 1000000000000000000 xs := fun x hx => by have := h.bd x hx; omega
theorem c_of (hl : bs.length = 32) (hb : Byt bs) : CallsTo 22 #[.agg (ints .u8 bs).toArray] (.agg (ints .i64 (ofL bs)).toArray) := fun w => of_any bs w hl hb
theorem c_small (n : Int) : CallsTo 26 #[.int .i64 n] (.agg (ints .i64 (smallL n)).toArray) := fun w => small_any n w
theorem c_add (hx : El xs) (hy : El ys) : CallsTo 44 #[.agg (ints .i64 xs).toArray, .agg (ints .i64 ys).toArray] (.agg (ints .i64 (cy (plus xs ys))).toArray) := fun w => add_any xs ys w hx.len hy.len hx.big hy.big
theorem c_sub (hx : El xs) (hy : El ys) : CallsTo 42 #[.agg (ints .i64 xs).toArray, .agg (ints .i64 ys).toArray] (.agg (ints .i64 (cy (minus xs ys))).toArray) := fun w => sub_any xs ys w hx.len hy.len hx.big hy.big
theorem c_mul (hx : El xs) (hy : El ys) : CallsTo 43 #[.agg (ints .i64 xs).toArray, .agg (ints .i64 ys).toArray] (.agg (ints .i64 (mulL xs ys)).toArray) := fun w => mul_any xs ys w hx.len hy.len hx.bd hy.bd
theorem c_neg (hx : El xs) : CallsTo 27 #[.agg (ints .i64 xs).toArray] (.agg (ints .i64 (cy (minus (zeros 16) xs))).toArray) := fun w => neg_any xs w hx.len hx.big
theorem c_inv (hx : El xs) : CallsTo 50 #[.agg (ints .i64 xs).toArray] (.agg (ints .i64 (invL xs)).toArray) := fun w => inverse_any xs w hx
theorem c_bytes (hx : El xs) : CallsTo 23 #[.agg (ints .i64 xs).toArray] (.agg (ints .u8 (byd (red xs))).toArray) := fun w => bytes_any xs w hx.len hx.huge
theorem c_odd (hx : El xs) : CallsTo 51 #[.agg (ints .i64 xs).toArray] (.bool ((red xs).getD 0 0 % 2 == 1)) := fun w => odd_any xs _ w hx.len hx.huge (red_at hx.len)
theorem c_equal (hx : El xs) (hy : El ys) : CallsTo 25 #[.agg (ints .i64 xs).toArray, .agg (ints .i64 ys).toArray] (.bool (decide (red xs = red ys))) := fun w => equal_any xs ys w hx.len hy.len hx.big hy.big
theorem byt_of_wf (h : ∀ x ∈ bs, (Lit.int .u8 x).wf = true) : Byt bs := fun x hx => by
 have h1 := h x hx
 simp [Lit.wf, IntKind.min, IntKind.max, IntKind.bits, IntKind.signed] at h1
 omega
end
end Go.Proofs.YthpibkpljakeeaaDoor
