/- Texts laid together. -/
import Derived.Test.YthpibkpljakeeaaGreatDoorG12
import Derived.Test.YthpibkpljakeeaaGreatDoorG7
namespace Go.Proofs.YthpibkpljakeeaaGreatDoor
open Go Go.RowKit
theorem half_st (N t : Nat) : 2 * (N / 2 ^ (t + 1)) + N / 2 ^ t % 2 = N / 2 ^ t := by
 rw [Nat.pow_succ, ← Nat.div_div_eq_div_mul]
 omega
section
variable {ops : Array Oper} {md : Region.Mode} {W : World} {a0 : Act} {n : Nat} {al : Nat → Bool} {S : Nat → Value → World → Prop} {Q : Exit → Act → World → Prop} {i : Nat} {o : Oper}
theorem step_quo8 (hal : al i = false) (hg : GuardOn ops md n S i o) {x : Operand} {m q : Nat} (hq : m / 8 = q) (hm : m < 65536) (ho : o.op = .binOp .quo 3 x (.const (.int .i64 8)) 3) (hS : S i = Is (.int .i64 (q : Int))) (hx : Knows ops md W a0 n S i x (.int .i64 (m : Int))) : StepOk Tryz.prog ops md W a0 n al S Q i o :=
 step_run hal hg fun a w hw hf hd => ⟨.int .i64 (q : Int), by
   have h := hx a w hw hf hd
   have hc : a.eval (.const (.int .i64 8)) = .int .i64 8 := rfl
   have hqi : (m : Int) / 8 = (q : Int) := by omega
   have m0 : (0 : Int) ≤ m := by omega
   have hwq : IntKind.i64.wrap (q : Int) = (q : Int) := IntWalk.i64_in _ (by omega)
   revert h hc
   generalize a.eval = ev
   intro h hc
   unfold execOp
   simp only [ho, h, hc]
   go_simp, by rw [hS]; exact rfl⟩
theorem step_rem8 (hal : al i = false) (hg : GuardOn ops md n S i o) {x : Operand} {m r : Nat} (hr : m % 8 = r) (hm : m < 65536) (ho : o.op = .binOp .rem 3 x (.const (.int .i64 8)) 3) (hS : S i = Is (.int .i64 (r : Int))) (hx : Knows ops md W a0 n S i x (.int .i64 (m : Int))) : StepOk Tryz.prog ops md W a0 n al S Q i o :=
 step_run hal hg fun a w hw hf hd => ⟨.int .i64 (r : Int), by
   have h := hx a w hw hf hd
   have hc : a.eval (.const (.int .i64 8)) = .int .i64 8 := rfl
   have hri : (m : Int) % 8 = (r : Int) := by omega
   have m0 : (0 : Int) ≤ m := by omega
   have hwr : IntKind.i64.wrap (r : Int) = (r : Int) := IntWalk.i64_in _ (by omega)
   revert h hc
   generalize a.eval = ev
   intro h hc
   unfold execOp
   simp only [ho, h, hc]
   go_simp
   rw [Int.tmod_eq_emod_of_nonneg m0]
   exact hri, by rw [hS]; exact rfl⟩
theorem step_idx22 (hal : al i = false) (hg : GuardOn ops md n S i o) {x y : Operand} {b q : Nat} (hq : q < 32) (ho : o.op = .indexAddr 22 x y) (hS : S i = Is (.pointer (some ⟨b, q, none⟩))) (hx : Knows ops md W a0 n S i x (.pointer (some ⟨b, 0, none⟩))) (hy : Knows ops md W a0 n S i y (.int .i64 (q : Int))) : StepOk Tryz.prog ops md W a0 n al S Q i o :=
 step_run hal hg fun a w hw hf hd => ⟨.pointer (some ⟨b, q, none⟩), by
   have h := hx a w hw hf hd
   have h2 := hy a w hw hf hd
   have q0 : (0 : Int) ≤ q := by omega
   have q1 : (q : Int) < 32 := by omega
   revert h h2
   generalize a.eval = ev
   intro h h2
   unfold execOp
   simp only [ho, h, h2]
   go_simp, by rw [hS]; exact rfl⟩
theorem step_ld5 (hal : al i = false) (hg : GuardOn ops md n S i o) {x : Operand} {b q : Nat} {v : Int} (ho : o.op = .load 5 x) (hS : S i = Is (.int .u8 v)) (hx : Knows ops md W a0 n S i x (.pointer (some ⟨b, q, none⟩))) (hc : ∀ w, Cl W w → w.cell? ⟨b, q, none⟩ = some (.int .u8 v)) : StepOk Tryz.prog ops md W a0 n al S Q i o :=
 step_run hal hg fun a w hw hf hd => ⟨.int .u8 v, by
   have h := hx a w hw hf hd
   have hcc := hc w hw
   revert h
   generalize a.eval = ev
   intro h
   unfold execOp
   simp only [ho, h]
   go_simp, by rw [hS]; exact rfl⟩
theorem step_shr5 (hal : al i = false) (hg : GuardOn ops md n S i o) {x y : Operand} {v s : Int} {r : Nat} (hr : r < 8) (hs : v / 2 ^ r = s) (hv : 0 ≤ v ∧ v < 256) (ho : o.op = .binOp .shr 5 x y 3) (hS : S i = Is (.int .u8 s)) (hx : Knows ops md W a0 n S i x (.int .u8 v)) (hy : Knows ops md W a0 n S i y (.int .i64 (r : Int))) : StepOk Tryz.prog ops md W a0 n al S Q i o :=
 step_run hal hg fun a w hw hf hd => ⟨.int .u8 s, by
   have h := hx a w hw hf hd
   have h2 := hy a w hw hf hd
   have r0 : (0 : Int) ≤ r := by omega
   have r8 : (r : Int) ≤ 8 := by omega
   have v0 := hv.1
   have v1 := hv.2
   revert h h2
   generalize a.eval = ev
   intro h h2
   unfold execOp
   simp only [ho, h, h2]
   go_simp, by rw [hS]; exact rfl⟩
theorem step_and1 (hal : al i = false) (hg : GuardOn ops md n S i o) {x : Operand} {s : Int} (hs : 0 ≤ s ∧ s < 256) (ho : o.op = .binOp .and 5 x (.const (.int .u8 1)) 5) (hS : S i = Is (.int .u8 (s % 2))) (hx : Knows ops md W a0 n S i x (.int .u8 s)) : StepOk Tryz.prog ops md W a0 n al S Q i o :=
 step_run hal hg fun a w hw hf hd => ⟨.int .u8 (s % 2), by
   have h := hx a w hw hf hd
   have hc : a.eval (.const (.int .u8 1)) = .int .u8 1 := rfl
   have hmk := mask1_u8 s hs
   revert h hc
   generalize a.eval = ev
   intro h hc
   unfold execOp
   simp only [ho, h, hc]
   go_simp, by rw [hS]; exact rfl⟩
theorem step_eq1 (hal : al i = false) (hg : GuardOn ops md n S i o) {x : Operand} {s : Int} {b : Bool} (hb : (s == 1) = b) (ho : o.op = .binOp .eql 5 x (.const (.int .u8 1)) 5) (hS : S i = Is (.bool b)) (hx : Knows ops md W a0 n S i x (.int .u8 s)) : StepOk Tryz.prog ops md W a0 n al S Q i o :=
 step_run hal hg fun a w hw hf hd => ⟨.bool b, by
   have h := hx a w hw hf hd
   have hc : a.eval (.const (.int .u8 1)) = .int .u8 1 := rfl
   revert h hc
   generalize a.eval = ev
   intro h hc
   unfold execOp
   simp only [ho, h, hc]
   go_simp, by rw [hS]; exact rfl⟩
theorem step_rbytesQ (hal : al i = false) (hg : GuardOn ops md n S i o) {x : Operand} {ts : Array TypeId} {m : Nat} {l : List Int} (ho : o.op = .call { callee := .value (.func 53), args := #[x], argTypes := ts }) (hcf : ∀ vs w, (callFunc 53 vs).run Tryz.prog w = .ok (.enter 53 vs) w) (hl : rbytes m = l) (hS : S i = Is (.agg (ints .u8 l).toArray)) (hx : KnowsR ops md W a0 n S i x m) : StepOk Tryz.prog ops md W a0 n al S Q i o := by
 subst hl
 exact step_rbytes hal hg ho hcf hS hx
end
theorem Nf.one {x : List Int} {a b : Fin NT.PN} (h : Nf x a) (k : Nf x b) : a = b := Fin.ext (h.2.symm.trans k.2)
theorem pt_inj {x y z t x' y' z' t' : List Int} (h : pt x y z t = pt x' y' z' t') (hx : x.length = 16) (hx' : x'.length = 16) (hy : y.length = 16) (hy' : y'.length = 16) (hz : z.length = 16) (hz' : z'.length = 16) : x = x' ∧ y = y' ∧ z = z' ∧ t = t' := by
 unfold pt at h
 obtain ⟨e1, h⟩ := List.append_inj h (by omega)
 obtain ⟨e2, h⟩ := List.append_inj h (by omega)
 obtain ⟨e3, h⟩ := List.append_inj h (by omega)
 exact ⟨e1, e2, e3, h⟩
theorem Pn.one {l : List Int} {c c' : C4 NT.PN} (h : Pn l c) (k : Pn l c') : c = c' := by
 obtain ⟨x, y, z, t, e, h1, h2, h3, h4⟩ := h
 obtain ⟨x', y', z', t', e', k1, k2, k3, k4⟩ := k
 obtain ⟨rfl, rfl, rfl, rfl⟩ := pt_inj (e.symm.trans e') h1.len k1.len h2.len k2.len h3.len k3.len
 obtain ⟨a, b, d, f⟩ := c
 obtain ⟨a', b', d', f'⟩ := c'
 obtain rfl := h1.one k1
 obtain rfl := h2.one k2
 obtain rfl := h3.one k3
 obtain rfl := h4.one k4
 rfl
open Classical in
noncomputable def sumL (l m : List Int) : List Int := if h : ∃ c c', Pn l c ∧ Pn m c' then (c_padd h.choose_spec.choose_spec.1 h.choose_spec.choose_spec.2).choose else []
theorem sumL_spec {l m : List Int} {c c' : C4 NT.PN} (h : Pn l c) (k : Pn m c') : CallsP 32 #[.agg (ints .i64 l).toArray, .agg (ints .i64 m).toArray] (.agg (ints .i64 (sumL l m)).toArray) ∧ Pn (sumL l m) (addC dF c c') := by
 have hex : ∃ c c', Pn l c ∧ Pn m c' := ⟨c, c', h, k⟩
 have e : sumL l m = (c_padd hex.choose_spec.choose_spec.1 hex.choose_spec.choose_spec.2).choose := by
   unfold sumL
   rw [dif_pos hex]
 rw [e]
 have hs := (c_padd hex.choose_spec.choose_spec.1 hex.choose_spec.choose_spec.2).choose_spec
 rw [h.one hex.choose_spec.choose_spec.1, k.one hex.choose_spec.choose_spec.2]
 exact hs
def PR (l : List Int) (P : Edw.Pt NT.PN) : Prop := ∃ c, Pn l c ∧ Rep4 iF c P ∧ Edw.On eF P
theorem PR.len {l : List Int} {P : Edw.Pt NT.PN} (h : PR l P) : l.length = 64 := by
 obtain ⟨c, h, _⟩ := h
 exact h.len
section
variable {l m : List Int} {P Q : Edw.Pt NT.PN}
theorem PR.add (h : PR l P) (k : PR m Q) : CallsP 32 #[.agg (ints .i64 l).toArray, .agg (ints .i64 m).toArray] (.agg (ints .i64 (sumL l m)).toArray) ∧ PR (sumL l m) (Edw.add eF P Q) := by
 obtain ⟨c, h1, h2, h3⟩ := h
 obtain ⟨c', k1, k2, k3⟩ := k
 obtain ⟨a, b⟩ := sumL_spec h1 k1
 exact ⟨a, _, b, rep_add pn_fld ns_e i_sq de h3 k3 h2 k2, Edw.add_on pn_fld ns_e h3 k3⟩
theorem PR.neg (h : PR l P) : ∃ r, CallsTo 33 #[.agg (ints .i64 l).toArray] (.agg (ints .i64 r).toArray) ∧ PR r (Edw.neg P) := by
 obtain ⟨c, h1, h2, h3⟩ := h
 obtain ⟨r, a, b⟩ := c_pneg h1
 exact ⟨r, a, _, b, rep_neg h2, Edw.neg_on h3⟩
noncomputable def bytesP (P : Edw.Pt NT.PN) : List Int := pbytes P.y.val (oddB (-(iF * P.x)).val)
theorem bytesP_len (P : Edw.Pt NT.PN) : (bytesP P).length = 32 := pbytes_len _ _
theorem PR.bytes (h : PR l P) : CallsTo 18 #[.agg (ints .i64 l).toArray] (.agg (ints .u8 (bytesP P)).toArray) := by
 obtain ⟨c, h1, h2, _⟩ := h
 have h3 := c_pbytes h1
 obtain ⟨e1, e2⟩ := rep_aff h2 (iv_mul h2.nz)
 rw [e1, e2] at h3
 exact h3
theorem PR.exists (h : PR l P) : CallsTo 37 #[.agg (ints .i64 l).toArray] (.bool true) := by
 obtain ⟨c, h1, h2, _⟩ := h
 exact c_exists h1 h2.nz
end
theorem pr_nought : ∃ r, CallsTo 38 #[] (.agg (ints .i64 r).toArray) ∧ PR r Edw.O := by
 obtain ⟨r, a, b⟩ := c_nought
 exact ⟨r, a, _, b, rep_nought pn_fld i_sq, Edw.O_on _⟩
theorem pr_base : ∃ r, CallsP 16 #[] (.agg (ints .i64 r).toArray) ∧ PR r baseP := by
 obtain ⟨r, a, b⟩ := c_base
 exact ⟨r, a, _, b, rep_base, base_on⟩
noncomputable def nouL : List Int := pr_nought.choose
theorem nouL_spec : CallsTo 38 #[] (.agg (ints .i64 nouL).toArray) ∧ PR nouL Edw.O := pr_nought.choose_spec
def bitN (N t : Nat) : Bool := N / 2 ^ t % 2 == 1
noncomputable def mulS (l : List Int) (N : Nat) : Nat → List Int
 | 0 => nouL
 | k + 1 => if bitN N (255 - k) then sumL (sumL (mulS l N k) (mulS l N k)) l else sumL (mulS l N k) (mulS l N k)
theorem mulS_spec {l : List Int} {P : Edw.Pt NT.PN} (h : PR l P) {N : Nat} (hN : N < 2 ^ 256) : ∀ k, k ≤ 256 → PR (mulS l N k) (Edw.mul eF (N / 2 ^ (256 - k)) P)
 | 0, _ => by
   rw [Nat.div_eq_of_lt hN]
   exact nouL_spec.2
 | k + 1, hk => by
   have ih := mulS_spec h hN k (by omega)
   have hP : Edw.On eF P := by obtain ⟨_, _, _, h3⟩ := h; exact h3
   have hd := (ih.add ih).2
   rw [dbl_mul pn_fld ns_e hP] at hd
   have e := half_st N (255 - k)
   rw [show 255 - k + 1 = 256 - k by omega] at e
   rw [show 256 - (k + 1) = 255 - k by omega, ← e, mulS]
   unfold bitN
   have hb : N / 2 ^ (255 - k) % 2 < 2 := Nat.mod_lt _ (by omega)
   generalize N / 2 ^ (255 - k) % 2 = bit at *
   have hc : bit = 0 ∨ bit = 1 := by omega
   rcases hc with e0 | e0 <;> subst e0
   · exact hd
   · have := (hd.add h).2
     exact this
theorem choose_any {l m : List Int} {P Q : Edw.Pt NT.PN} (h : PR l P) (k : PR m Q) (st : Bool) : CallsTo 39 #[.agg (ints .i64 l).toArray, .agg (ints .i64 m).toArray, .bool st] (.agg (ints .i64 (if st then m else l)).toArray) := by
 obtain ⟨c, h1, _⟩ := h
 obtain ⟨c', k1, _⟩ := k
 cases st with
 | true => exact choose_yes h1 k1
 | false => exact choose_no h1 k1
theorem mulS_step {l : List Int} {N k : Nat} : mulS l N (k + 1) = if bitN N (255 - k) then sumL (sumL (mulS l N k) (mulS l N k)) l else sumL (mulS l N k) (mulS l N k) := rfl
set_option maxRecDepth 4000 in
set_option maxHeartbeats 8000000 in
theorem pmul_core {l nb : List Int} {P : Edw.Pt NT.PN} {N : Nat} (hl : l.length = 64) (ln : nb.length = 32) (hb : Hid (Byt nb)) (hN : Hid ((bv nb).toNat = N)) (hP : Hid (PR l P)) (HPR : Hid (∀ k, k ≤ 256 → ∃ Q, PR (mulS l N k) Q)) (hnl : nouL.length = 64) (knou : CallsTo 38 #[] (.agg (ints .i64 nouL).toArray)) (kex : CallsTo 37 #[.agg (ints .i64 l).toArray] (.bool true)) : CallsP 17 #[.agg (ints .i64 l).toArray, .agg (ints .u8 nb).toArray] (.agg (ints .i64 (mulS l N 256)).toArray) := by
 intro W hT
 obtain ⟨z28, s28⟩ := zero_of_info inf28
 have h2 := ((B4.new W l hl).next (below_new _ (.cells (ints .u8 nb).toArray 22))).next (below_new _ (.cells (ints .i64 (zeros 64)).toArray 46))
 have h3 := (By.new (W.alloc (.cells (ints .i64 l).toArray 46)) nb ln).next (below_new _ (.cells (ints .i64 (zeros 64)).toArray 46))
 have h4 := B4.new ((W.alloc (.cells (ints .i64 l).toArray 46)).alloc (.cells (ints .u8 nb).toArray 22)) (zeros 64) (zeros_len 64)
 have hW := ((below_new W (.cells (ints .i64 l).toArray 46)).alloc (by simp) (.cells (ints .u8 nb).toArray 22)).alloc (by simp; omega) (.cells (ints .i64 (zeros 64)).toArray 46)
 have hT0 := hT
 replace hT := (((hT.alloc (.cells (ints .i64 l).toArray 46)).alloc (.cells (ints .u8 nb).toArray 22)).alloc (.cells (ints .i64 (zeros 64)).toArray 46))
 simp only [World.size_alloc] at h3 h4
 go_enter Tryz.func17, Tryz.ntmps17
 go_upto_region 1 with (fail)
 generalize ((W.alloc (.cells (ints .i64 l).toArray 46)).alloc (.cells (ints .u8 nb).toArray 22)).alloc (.cells (ints .i64 (zeros 64)).toArray 46) = w0 at *
 have s0 := hW.size
 refine rSeq 3 34 (fun _ => false) [IsL l, Is (.bool true), Is (.bool false)] [7, 8, 9] (gC (gC (gC grows_nil)))
   ⟨step_pt rfl (.inl rfl) h2 2 rfl (by kernel_rfl) rfl rfl,
    step_to rfl (.inl rfl) rfl cg44 kex rfl (one_arg (kI 0 7 rfl rfl)),
    step_not rfl (.inl rfl) (b := true) rfl rfl (kI 1 8 rfl rfl), trivial⟩ ?_
 intro val w1 hw hS hap hla
 simp only [pA, pB, pC, pD, pE, Act.put, pG, pH, pI, eVal hS 0 7 rfl rfl, eVal hS 1 8 rfl rfl, eVal hS 2 9 rfl rfl]
 clear hS hap hla
 replace hT := hT.next hw
 replace h2 := h2.next hw
 replace h3 := h3.next hw
 replace h4 := h4.next hw
 replace hW := bT hW hw
 clear hw
 go_upto_region 3 with (fail)
 have lt4 := h4.lt
 have s1 := hW.size
 refine rSeq 2 34 (fun i => i == 1) [IsL nouL, IsZ4 w1.heap.size] [11, 5] (gC (grows_cons (IsZ4.grows _) grows_nil))
   ⟨step_to rfl (.inl rfl) rfl cg29 knou rfl (no_args),
    step_alloc28 (.inl rfl) rfl rfl, trivial⟩ ?_
 intro val w2 hw hS hap hla
 obtain ⟨b5, e5, L5, Z5⟩ := hS 1 5 (by decide) rfl
 simp only [pA, pB, pC, pD, pE, Act.put, pG, pH, pI, eVal hS 0 11 rfl rfl, e5]
 clear hS hap hla e5
 have LL5 := hid hnl
 have R5 := Z5.room (l' := nouL) hnl
 have hB5 := Z5.stored (l' := nouL) hnl
 have hu := Below.setCells hw L5 0 (ints .i64 nouL).toArray.toList
 replace hT := hT.next hu
 replace h2 := h2.next hu
 replace h3 := h3.next hu
 replace h4 := h4.next hu
 replace hW := bT hW hu
 clear hu
 with_reducible refine wpList_store_mid (op := ⟨none, .store 46 (.tmp 5) (.tmp 11), _, _, _, _⟩) rfl 46 (.tmp 5) (.tmp 11) rfl b5 0 (ints .i64 nouL).toArray rfl rfl R5 (a28 LL5.out) (ints_all _ _) ?_
 generalize (w2.setCells b5 0 (ints .i64 nouL).toArray.toList) = w3 at *
 clear hw R5 LL5 Z5
 have n45 : b5 ≠ W.heap.size + 1 + 1 := by omega
 have n35 : b5 ≠ W.heap.size + 1 := by omega
 have n25 : b5 ≠ W.heap.size := by omega
 have w5_ : W.heap.size ≤ b5 := by omega
 have HL := hid hl
 have HLN := hid ln
 have HS0 : Hid (nouL = mulS l N 0) := hid rfl
 rw [HS0.out] at hB5
 clear L5 lt4 hl ln kex knou hnl hT
 go_wp2_with (fail)
 go_loopw [6] (fun i wr => ∃ (k : Nat) (b : Int), k ≤ 256 ∧ i = .int .i64 b ∧ Hid (b = 255 - k) ∧ B4 wr W.heap.size l ∧ By wr (W.heap.size + 1) nb ∧ B4 wr (W.heap.size + 1 + 1) (zeros 64) ∧ B4 wr b5 (mulS l N k) ∧ Below W.heap.size W wr) (fun i _ => (intOf i + 1).toNat)
 case atStart => exact ⟨0, 255, by omega, rfl, hid rfl, h2, h3, h4, hB5, hW⟩
 case round =>
   clear h2 h3 h4 hB5 hW
   obtain ⟨k, b, hk, rfl, HBK, h2, h3, h4, hB5, hW⟩ := hrel
   rename World => w40
   by_cases hlt : k < 256
   · obtain ⟨m, rfl⟩ : ∃ m : Nat, b = m := ⟨(255 - k : Nat), by have := HBK.out; omega⟩
     have HMK : Hid (255 - k = m) := hid (by have := HBK.out; omega)
     have hm : m < 65536 := by have := HBK.out; omega
     have hm2 : m ≤ 255 := by have := HBK.out; omega
     have m0 : (0 : Int) ≤ m := by omega
     obtain ⟨q, hq⟩ : ∃ q, m / 8 = q := ⟨_, rfl⟩
     obtain ⟨r, hr⟩ : ∃ r, m % 8 = r := ⟨_, rfl⟩
     have q32 : q < 32 := by omega
     have r8 : r < 8 := by omega
     have hl := HL.out
     have ln := HLN.out
     obtain ⟨x, hcx, hxq⟩ : ∃ x : Int, (∀ w : World, By w (W.heap.size + 1) nb → w.cell? ⟨W.heap.size + 1, q, none⟩ = some (.int .u8 x)) ∧ nb[q]? = some x := by
       refine ⟨nb.getD q 0, fun w hw => ?_, getD_some (by omega)⟩
       have h := (hw.1 q (nb.getD q 0) (getD_some (by omega))).1
       rwa [Nat.zero_add] at h
     have hxb := hb.out.at_ hxq
     obtain ⟨xn, hxn⟩ : ∃ xn : Nat, x = (xn : Int) := ⟨x.toNat, by omega⟩
     obtain ⟨s, hs⟩ : ∃ s, x / 2 ^ r = s := ⟨_, rfl⟩
     have hp2 : (0 : Int) < 2 ^ r := Int.pow_pos (by omega)
     have hsb : 0 ≤ s ∧ s < 256 := by
       have h1 := Int.ediv_nonneg hxb.1 (Int.le_of_lt hp2)
       have h2 := Int.ediv_le_self (2 ^ r) hxb.1
       rw [← hs]; omega
     obtain ⟨st, hst0⟩ : ∃ st : Bool, bitN N m = st := ⟨_, rfl⟩
     have hst : (s % 2 == 1) = st := by
       have h1 := byte_bit hb.out q r xn r8 (by rw [← hxn]; exact hxq)
       rw [show 8 * q + r = m by omega, hN.out] at h1
       rw [← hst0]
       unfold bitN
       rw [h1, ← hs, hxn]
       have e : ((xn : Int) / 2 ^ r) % 2 = ((xn / 2 ^ r % 2 : Nat) : Int) := by
         rw [Int.natCast_emod, Int.natCast_ediv, Int.natCast_pow]; rfl
       rw [e]
       rcases Nat.mod_two_eq_zero_or_one (xn / 2 ^ r) with h | h <;> rw [h] <;> rfl
     have hcur := HPR.out k (by omega)
     obtain ⟨cP, hcur⟩ := hcur
     have hnx := (mulS_step (l := l) (N := N) (k := k)).symm
     rw [HMK.out, hst0] at hnx
     obtain ⟨cur, hcu⟩ : ∃ c, c = mulS l N k := ⟨_, rfl⟩
     rw [← hcu] at hcur hnx hB5
     obtain ⟨kdbl, hdbl⟩ := hcur.add hcur
     obtain ⟨dbl, hdb⟩ : ∃ c, c = sumL cur cur := ⟨_, rfl⟩
     rw [← hdb] at kdbl hdbl hnx
     obtain ⟨ksum, hsum⟩ := hdbl.add hP.out
     have kch := choose_any hdbl hsum st
     rw [hnx] at kch
     obtain ⟨sum, hsu⟩ : ∃ c, c = sumL dbl l := ⟨_, rfl⟩
     rw [← hsu] at ksum hsum
     rw [← hsu] at kch
     have lcur := hcur.len
     have ldbl := hdbl.len
     have lsum := hsum.len
     have lnxt : (mulS l N (k + 1)).length = 64 := by
       obtain ⟨_, h⟩ := HPR.out (k + 1) (by omega)
       exact h.len
     obtain ⟨nxt, hnt⟩ : ∃ c, c = mulS l N (k + 1) := ⟨_, rfl⟩
     rw [← hnt] at kch lnxt
     have HNT := hid hnt
     have hT := hT0.next hW
     clear hnx hcu hdb hsu hnt hcur hdbl hsum hp2 hst0 hxq hxn xn
     have hwm : IntKind.i64.wrap ((m : Int) - 1) = (m : Int) - 1 := IntWalk.i64_in _ (by omega)
     go_upto_region 7 with (fail)
     have s40 := hW.size
     refine rSeq 3 34 (fun _ => false) [IsL cur, IsL cur, IsL dbl] [16, 17, 18] (gC (gC (gC grows_nil)))
       ⟨step_pt rfl (.inl rfl) hB5 5 rfl (by kernel_rfl) rfl rfl,
        step_pt rfl (.inl rfl) hB5 5 rfl (by kernel_rfl) rfl rfl,
        step_toP rfl (.inl rfl) rfl cg11 hT kdbl rfl (two_args (kI 0 16 rfl rfl) (kI 1 17 rfl rfl)), trivial⟩ ?_
     intro val w41 hw hS hap hla
     simp only [pA, pB, pC, pD, pE, Act.put, pG, pH, pI, eVal hS 0 16 rfl rfl, eVal hS 1 17 rfl rfl, eVal hS 2 18 rfl rfl]
     clear hS hap hla
     replace h2 := h2.next hw
     replace h3 := h3.next hw
     replace h4 := h4.next hw
     replace hB5 := hB5.next hw
     replace hT := hT.next hw
     replace hW := bT hW hw
     clear hw
     have LL5 := hid ldbl
     have R5 := hB5.room (l' := dbl) ldbl
     replace hB5 := hB5.stored (l' := dbl) ldbl
     replace h2 := h2.past (b' := b5) (ints .i64 dbl).toArray.toList n25
     replace h3 := h3.past (b' := b5) (ints .i64 dbl).toArray.toList n35
     replace h4 := h4.past (b' := b5) (ints .i64 dbl).toArray.toList n45
     replace hW := Below.setCells hW (g := b5) w5_ 0 (ints .i64 dbl).toArray.toList
     replace hT := hT0.next hW
     with_reducible refine wpList_store_mid (op := ⟨none, .store 46 (.tmp 5) (.tmp 18), _, _, _, _⟩) rfl 46 (.tmp 5) (.tmp 18) rfl b5 0 (ints .i64 dbl).toArray rfl rfl R5 (a28 LL5.out) (ints_all _ _) ?_
     generalize (w41.setCells b5 0 (ints .i64 dbl).toArray.toList) = w42 at *
     clear R5 LL5
     go_wp2_with (fail)
     have s42 := hW.size
     refine rSpec 14 34 (fun _ => false) [IsL dbl, IsL dbl, IsL l, IsL sum, Is (.int .i64 (m : Int)), Is (.int .i64 (q : Int)), Is (.pointer (some ⟨(W.heap.size + 1), q, none⟩)), Is (.int .u8 x), Is (.int .i64 (m : Int)), Is (.int .i64 (r : Int)), Is (.int .u8 s), Is (.int .u8 (s % 2)), Is (.bool st), IsL nxt] [19, 20, 21, 22, 23, 24, 25, 26, 27, 28, 29, 30, 31, 32] (gC (gC (gC (gC (gC (gC (gC (gC (gC (gC (gC (gC (gC (gC grows_nil))))))))))))))
       ⟨step_pt rfl (.inl rfl) hB5 5 rfl (by kernel_rfl) rfl rfl,
        step_pt rfl (.inl rfl) hB5 5 rfl (by kernel_rfl) rfl rfl,
        step_pt rfl (.inl rfl) h2 2 rfl (by kernel_rfl) rfl rfl,
        step_toP rfl (.inl rfl) rfl cg11 hT ksum rfl (two_args (kI 1 20 rfl rfl) (kI 2 21 rfl rfl)),
        step_mv rfl (.inl rfl) rfl rfl (kO 6 rfl),
        step_quo8 rfl (.inl rfl) hq hm rfl rfl (kI 4 23 rfl rfl),
        step_idx22 rfl (.inl rfl) q32 rfl rfl (kO 3 rfl) (kI 5 24 rfl rfl),
        step_ld5 rfl (.inl rfl) rfl rfl (kI 6 25 rfl rfl) (fun w hw => hcx w (h3.next hw)),
        step_mv rfl (.inl rfl) rfl rfl (kO 6 rfl),
        step_rem8 rfl (.inl rfl) hr hm rfl rfl (kI 8 27 rfl rfl),
        step_shr5 rfl (.inl rfl) r8 hs hxb rfl rfl (kI 7 26 rfl rfl) (kI 9 28 rfl rfl),
        step_and1 rfl (.inl rfl) hsb rfl rfl (kI 10 29 rfl rfl),
        step_eq1 rfl (.inl rfl) hst rfl rfl (kI 11 30 rfl rfl),
        step_to rfl (.inl rfl) rfl cg51 kch rfl (three_args (kI 0 19 rfl rfl) (kI 3 22 rfl rfl) (kI 12 31 rfl rfl)), trivial⟩ ?_
     intro val w43 hw hS hap hla
     simp only [pA, pB, pC, pD, pE, Act.put, pG, pH, pI, eVal hS 0 19 rfl rfl, eVal hS 1 20 rfl rfl, eVal hS 2 21 rfl rfl, eVal hS 3 22 rfl rfl, eVal hS 4 23 rfl rfl, eVal hS 5 24 rfl rfl, eVal hS 6 25 rfl rfl, eVal hS 7 26 rfl rfl, eVal hS 8 27 rfl rfl, eVal hS 9 28 rfl rfl, eVal hS 10 29 rfl rfl, eVal hS 11 30 rfl rfl, eVal hS 12 31 rfl rfl, eVal hS 13 32 rfl rfl]
     clear hS hap hla
     replace h2 := h2.next hw
     replace h3 := h3.next hw
     replace h4 := h4.next hw
     replace hB5 := hB5.next hw
     replace hT := hT.next hw
     replace hW := bT hW hw
     clear hw
     have LL5 := hid lnxt
     have R5 := hB5.room (l' := nxt) lnxt
     replace hB5 := hB5.stored (l' := nxt) lnxt
     replace h2 := h2.past (b' := b5) (ints .i64 nxt).toArray.toList n25
     replace h3 := h3.past (b' := b5) (ints .i64 nxt).toArray.toList n35
     replace h4 := h4.past (b' := b5) (ints .i64 nxt).toArray.toList n45
     replace hW := Below.setCells hW (g := b5) w5_ 0 (ints .i64 nxt).toArray.toList
     replace hT := hT0.next hW
     with_reducible refine wpList_store_mid (op := ⟨none, .store 46 (.tmp 5) (.tmp 32), _, _, _, _⟩) rfl 46 (.tmp 5) (.tmp 32) rfl b5 0 (ints .i64 nxt).toArray rfl rfl R5 (a28 LL5.out) (ints_all _ _) ?_
     generalize (w43.setCells b5 0 (ints .i64 nxt).toArray.toList) = w44 at *
     clear R5 LL5
     clear hcx hs hst hsb hxb kdbl ksum kch lcur ldbl lsum lnxt hq hr hl ln
     go_wp2_with (fail)
     go_roundw
     case rel =>
       rw [HNT.out] at hB5
       exact ⟨k + 1, (m : Int) - 1, by omega, rfl, hid (by have := HBK.out; omega), h2, h3, h4, hB5, hW⟩
     case measure => simp [intOf]
   · have e : k = 256 := by omega
     have hb0 : b < 0 := by have := HBK.out; omega
     rw [e] at hB5
     have hrl : (mulS l N 256).length = 64 := by
       obtain ⟨_, h⟩ := HPR.out 256 (by omega)
       exact h.len
     obtain ⟨rl, hre⟩ : ∃ c, c = mulS l N 256 := ⟨_, rfl⟩
     rw [← hre] at hB5 hrl
     have HRE := hid hre
     clear hre
     clear e HBK h2 h3 HPR
     have RR := h4.room (l' := rl) hrl
     have h9 := h4.stored (l' := rl) hrl
     have HRL := hid hrl
     replace hW := Below.setCells hW (g := W.heap.size + 1 + 1) (by omega) 0 (ints .i64 rl).toArray.toList
     clear h4 hrl
     go_wp2_with (first
       | (with_reducible refine wpList_load_mid (op := ⟨some 33, .load 46 (.tmp 5), _, _, _, _⟩) rfl 46 (.tmp 5) rfl b5 0 rfl (ints .i64 rl) _ (hB5.range) Tryz.underlying46 rfl (l28 HRL.out) ?_)
       | (with_reducible refine wpList_store_mid (op := ⟨none, .store 46 (.tmp 4) (.tmp 33), _, _, _, _⟩) rfl 46 (.tmp 4) (.tmp 33) rfl (W.heap.size + 1 + 1) 0 (ints .i64 rl).toArray rfl rfl RR (a28 HRL.out) (ints_all _ _) ?_))
     exact ret_rows rfl (W.heap.size + 1 + 1) 0 rfl (ints .i64 rl) _ h9.range Tryz.underlying46 rfl (l28 HRL.out) rfl ⟨by rw [HRE.out], hW⟩
theorem PR.mul {l nb : List Int} {P : Edw.Pt NT.PN} (h : PR l P) (ln : nb.length = 32) (hb : Byt nb) : ∃ r, CallsP 17 #[.agg (ints .i64 l).toArray, .agg (ints .u8 nb).toArray] (.agg (ints .i64 r).toArray) ∧ PR r (Edw.mul eF (bn nb) P) := by
 have hN : bn nb < 2 ^ 256 := by
   have := bn_lt32 ln hb
   have e : (65536 : Nat) ^ 16 = 2 ^ 256 := by decide
   omega
 have hs := mulS_spec h hN
 refine ⟨_, pmul_core (P := P) h.len ln (hid hb) (hid rfl) (hid h) (hid fun k hk => ⟨_, hs k hk⟩) nouL_spec.2.len nouL_spec.1 h.exists, ?_⟩
 have h2 := hs 256 (Nat.le_refl _)
 rw [Nat.sub_self, Nat.pow_zero, Nat.div_one] at h2
 exact h2
section
variable {ops : Array Oper} {md : Region.Mode} {W : World} {a0 : Act} {n : Nat} {al : Nat → Bool} {S : Nat → Value → World → Prop} {Q : Exit → Act → World → Prop} {i : Nat} {o : Oper}
end
theorem back_alg {n : Nat} [NeZero n] {i x : Fin n} (hi : i * i = -1) : -(i * (i * x)) = x := by grind
theorem bx_val : bxF.val = bxN := Nat.mod_eq_of_lt bx_lt
theorem mask128 (x : Int) (h : 0 ≤ x ∧ x < 256) : bits .and .u8 x 128 = (if 128 ≤ x then 128 else 0) ∧ bits .andNot .u8 x 128 = x % 128 := by
 have key : ∀ n : Fin 256, bits .and .u8 (n.val : Int) 128 = (if 128 ≤ (n.val : Int) then 128 else 0) ∧ bits .andNot .u8 (n.val : Int) 128 = (n.val : Int) % 128 := by decide +kernel
 have := key ⟨x.toNat, by omega⟩
 have e : (x.toNat : Int) = x := Int.toNat_of_nonneg h.1
 simpa [e] using this
def offB (bs : List Int) : List Int := bs.set 31 (bs.getD 31 0 % 128)
section
variable {bs : List Int}
theorem offB_len (lb : bs.length = 32) : (offB bs).length = 32 := by unfold offB; rw [List.length_set]; exact lb
theorem at31 (lb : bs.length = 32) : bs[31]? = some (bs.getD 31 0) := getD_some (by omega)
theorem offB_31 (lb : bs.length = 32) : (offB bs).getD 31 0 = bs.getD 31 0 % 128 := by
 unfold offB
 rw [List.getD_eq_getElem?_getD, List.getElem?_set_self (by omega)]; rfl
theorem offB_byt (lb : bs.length = 32) (hb : Byt bs) : Byt (offB bs) := fun x hx => by
 rcases List.mem_or_eq_of_mem_set hx with h | h
 · exact hb x h
 · have := hb.at_ (at31 lb)
   omega
theorem offB_low (lb : bs.length = 32) (_ : Byt bs) : (offB bs).getD 31 0 < 128 := by
 rw [offB_31 lb]; omega
theorem offB_same (lb : bs.length = 32) (hb : Byt bs) (h : bs.getD 31 0 < 128) : offB bs = bs := by
 have h2 := hb.at_ (at31 lb)
 unfold offB
 rw [Int.emod_eq_of_lt h2.1 h]
 apply List.ext_getElem?
 intro i
 by_cases e : 31 = i
 · subst e; rw [List.getElem?_set_self (by omega), at31 lb]
 · rw [List.getElem?_set_ne e]
theorem offB_back (lb : bs.length = 32) (hb : Byt bs) (h : 128 ≤ bs.getD 31 0) : (offB bs).set 31 ((offB bs).getD 31 0 + 128) = bs := by
 have h2 := hb.at_ (at31 lb)
 rw [offB_31 lb, show bs.getD 31 0 % 128 + 128 = bs.getD 31 0 by omega]
 unfold offB
 apply List.ext_getElem?
 intro i
 by_cases e : 31 = i
 · subst e; rw [List.getElem?_set_self (by rw [List.length_set]; omega), at31 lb]
 · rw [List.getElem?_set_ne e, List.getElem?_set_ne e]
end
theorem den_alg {n : Nat} [NeZero n] {d e b : Fin n} (he : d = -e) (h : d * (b * b) + 1 = 0) : 1 * 1 = e * (b * b) := by
 rw [he] at h
 grind
theorem den_ne (b : Fin NT.PN) : dF * (b * b) + 1 ≠ 0 := fun h => by
 have h1 := ns_e 1 b (den_alg de h)
 rw [h1, z_mul, mul_z] at h
 exact pn_fld.one (by rw [← h]; exact (Fin.zero_add 1).symm)
theorem take_alg {n : Nat} [NeZero n] {d b k v : Fin n} (hk : k * k = (b * b - 1) * v) (hv : (d * (b * b) + 1) * v = 1) : b * b - k * k = 1 + d * (k * b * (k * b)) := by
 have h1 : k * k * (d * (b * b) + 1) = (b * b - 1) * ((d * (b * b) + 1) * v) := by rw [hk]; grind
 rw [hv] at h1
 clear hk hv
 grind
theorem take_on {b k : Fin NT.PN} (hk : k * k = xxF b) : Edw.On eF ⟨iF * k, b⟩ := on_of (take_alg hk (iv_mul (den_ne b)))
theorem neg_sq {n : Nat} [NeZero n] (k : Fin n) : (0 - k) * (0 - k) = k * k := by grind
theorem odd_val (m : Nat) : oddB m = decide (m % 2 = 1) := by
 unfold oddB dig0
 rw [show m % 65536 % 2 = m % 2 by omega]
 rcases Nat.mod_two_eq_zero_or_one m with h | h <;> rw [h] <;> rfl
theorem odd_nat {j p : Nat} (h1 : 0 < j) (h2 : j < p) (hp : p % 2 = 1) (h : j % 2 = 0) : (p - j) % p % 2 = 1 := by
 have e : (p - j) % p = p - j := Nat.mod_eq_of_lt (by omega)
 rw [e]
 omega
theorem neg_odd {k : Fin NT.PN} (h0 : k ≠ 0) (h : k.val % 2 = 0) : (0 - k).val % 2 = 1 := by
 have h3 := sub_val 0 k
 rw [show (0 : Fin NT.PN).val = 0 from rfl, Nat.zero_add] at h3
 rw [← h3]
 exact odd_nat (fin_pos h0) k.isLt (by decide) h
section
variable {bs : List Int}
theorem bn_small (h : bn bs < NT.PN) : (ph NT.PN (bn bs)).val = bn bs := Nat.mod_eq_of_lt h
def Bad (bs : List Int) : Prop := NT.PN ≤ bn (offB bs) ∨ isSq (xxF (ph NT.PN (bn (offB bs)))).val = false ∨ (xxF (ph NT.PN (bn (offB bs))) = 0 ∧ 128 ≤ bs.getD 31 0)
theorem of_good (lb : bs.length = 32) (hb : Byt bs) (h : ¬ Bad bs) : ∃ r P, CallsP 30 #[.agg (ints .u8 bs).toArray] (.tuple #[.agg (ints .i64 r).toArray, .int .i64 0]) ∧ PR r P ∧ bytesP P = bs := by
 have hx := at31 lb
 have hxb := hb.at_ hx
 obtain ⟨hk1, hk2⟩ := mask128 _ hxb
 have ly := offB_len lb
 have hyb := offB_byt lb hb
 obtain ⟨y, ky, hy⟩ := nf_of ly hyb (offB_low lb hb)
 have hbb := hy.bytes
 have hN' : bn (offB bs) < NT.PN := Nat.lt_of_not_le fun e => h (.inl e)
 have hv := bn_small hN'
 rw [hv, rbytes_bn ly hyb] at hbb
 obtain ⟨rt, k, kbe, hr, hs⟩ := c_beside hy
 have hq : isSq (xxF (ph NT.PN (bn (offB bs)))).val = true := by
   cases hq : isSq (xxF (ph NT.PN (bn (offB bs)))).val with
   | true => rfl
   | false => exact absurd (.inr (.inl hq)) h
 rw [hq] at kbe
 obtain ⟨e1, e2⟩ := hs hq
 by_cases ho : 128 ≤ bs.getD 31 0
 · rw [if_pos ho] at hk1
   have k0 : k ≠ 0 := fun e => h (.inr (.inr ⟨by rw [← e1, e, z_mul], ho⟩))
   obtain ⟨r, ka, hra⟩ := of_ok_odd lb ly hx rfl hk1 hk2 hy ky hbb hr kbe k0
   refine ⟨r, ⟨iF * (0 - k), ph NT.PN (bn (offB bs))⟩, ka, ⟨_, hra, rep_at pn_fld i_sq _ _, take_on ((neg_sq k).trans e1)⟩, ?_⟩
   show pbytes (ph NT.PN (bn (offB bs))).val (oddB (-(iF * (iF * (0 - k)))).val) = bs
   rw [back_alg i_sq, hv, odd_val, decide_eq_true (neg_odd k0 e2)]
   show (rbytes (bn (offB bs))).set 31 _ = bs
   rw [rbytes_bn ly hyb]
   exact offB_back lb hb ho
 · rw [if_neg ho] at hk1
   obtain ⟨r, ka, hra⟩ := of_ok_even lb ly hx rfl hk1 hk2 hy ky hbb hr kbe
   refine ⟨r, ⟨iF * k, ph NT.PN (bn (offB bs))⟩, ka, ⟨_, hra, rep_at pn_fld i_sq _ _, take_on e1⟩, ?_⟩
   show pbytes (ph NT.PN (bn (offB bs))).val (oddB (-(iF * (iF * k))).val) = bs
   rw [back_alg i_sq, hv, odd_val, decide_eq_false (by omega)]
   show rbytes (bn (offB bs)) = bs
   rw [rbytes_bn ly hyb]
   exact offB_same lb hb (by omega)
end
def axP (P : Edw.Pt NT.PN) : Fin NT.PN := -(iF * P.x)
theorem ax_back {n : Nat} [NeZero n] {i x : Fin n} (hi : i * i = -1) : i * -(i * x) = x := by grind
theorem ax_alg {n : Nat} [NeZero n] {i d e x y v : Fin n} (hi : i * i = -1) (he : d = -e) (hO : x * x + y * y = 1 + e * x * x * y * y) (hv : (d * (y * y) + 1) * v = 1) : -(i * x) * -(i * x) = (y * y - 1) * v := by
 have h1 : -(i * x) * -(i * x) = -(x * x) := by clear hO hv; grind
 have h2 : -(x * x) * (d * (y * y) + 1) = y * y - 1 := by rw [he]; clear hv h1; grind
 have h3 : -(x * x) * ((d * (y * y) + 1) * v) = (y * y - 1) * v := by rw [← h2]; clear hO hv h1 h2; grind
 rw [hv] at h3
 rw [h1, ← h3]
 clear hO hv h1 h2 h3; grind
theorem ax_sq {P : Edw.Pt NT.PN} (hP : Edw.On eF P) : axP P * axP P = xxF P.y := ax_alg i_sq de hP (iv_mul (den_ne P.y))
theorem bytesP_is (P : Edw.Pt NT.PN) : bytesP P = pbytes P.y.val (oddB (axP P).val) := rfl
theorem pb_31 {m : Nat} (o : Bool) : (pbytes m o).getD 31 0 = (rbytes m).getD 31 0 + if o then 128 else 0 := by
 cases o with
 | false => show (rbytes m).getD 31 0 = (rbytes m).getD 31 0 + 0; omega
 | true =>
   show ((rbytes m).set 31 _).getD 31 0 = _
   rw [List.getD_eq_getElem?_getD, List.getElem?_set_self (by rw [rbytes_length]; omega)]; rfl
theorem pb_off {m : Nat} (h : m < NT.PN) (o : Bool) : offB (pbytes m o) = rbytes m := by
 have ht := rb_top h
 have hl := rbytes_length m
 unfold offB
 rw [pb_31]
 cases o with
 | false =>
   show (rbytes m).set 31 (((rbytes m).getD 31 0 + 0) % 128) = rbytes m
   have e : ((rbytes m).getD 31 0 + 0) % 128 = (rbytes m).getD 31 0 := by omega
   rw [e]
   apply List.ext_getElem?
   intro i
   by_cases hi : 31 = i
   · subst hi; rw [List.getElem?_set_self (by omega), at31 hl]
   · rw [List.getElem?_set_ne hi]
 | true =>
   show ((rbytes m).set 31 _).set 31 (((rbytes m).getD 31 0 + 128) % 128) = rbytes m
   have e : ((rbytes m).getD 31 0 + 128) % 128 = (rbytes m).getD 31 0 := by omega
   rw [e]
   apply List.ext_getElem?
   intro i
   by_cases hi : 31 = i
   · subst hi; rw [List.getElem?_set_self (by rw [List.length_set]; omega), at31 hl]
   · rw [List.getElem?_set_ne hi, List.getElem?_set_ne hi]
theorem pn_16 : NT.PN < 65536 ^ 16 := by decide
theorem pb_num {m : Nat} (h : m < NT.PN) (o : Bool) : bn (offB (pbytes m o)) = m := by
 rw [pb_off h]; exact bn_rbytes (Nat.lt_trans h pn_16)
theorem pb_bit {m : Nat} (h : m < NT.PN) (o : Bool) : 128 ≤ (pbytes m o).getD 31 0 ↔ o = true := by
 have ht := rb_top h
 rw [pb_31]
 generalize (rbytes m).getD 31 0 = t at *
 cases o
 · rw [show (if false = true then (128 : Int) else 0) = 0 from rfl]
   exact ⟨fun h => by omega, fun h => by cases h⟩
 · rw [show (if true = true then (128 : Int) else 0) = 128 from rfl]
   exact ⟨fun _ => rfl, fun _ => by omega⟩
theorem pb_inj {m k : Nat} (hm : m < NT.PN) (hk : k < NT.PN) {o p : Bool} (h : pbytes m o = pbytes k p) : m = k ∧ o = p := by
 have h1 := pb_num hm o
 have h2 := pb_bit hm o
 rw [h] at h1 h2
 rw [pb_num hk p] at h1
 rw [pb_bit hk p] at h2
 refine ⟨h1.symm, ?_⟩
 cases o <;> cases p <;> simp at h2 <;> rfl
theorem neg_is {n : Nat} [NeZero n] {a b : Fin n} (h : a * a = b * b) : (a - b) * (a + b) = 0 := by grind
theorem eq_of {n : Nat} [NeZero n] {a b : Fin n} (h : a - b = 0) : a = b := by grind
theorem neg_of {n : Nat} [NeZero n] {a b : Fin n} (h : a + b = 0) : a = 0 - b := by grind
theorem odd_nat2 {j p : Nat} (h1 : 0 < j) (h2 : j < p) (hp : p % 2 = 1) (h : j % 2 = 1) : (p - j) % p % 2 = 0 := by
 have e : (p - j) % p = p - j := Nat.mod_eq_of_lt (by omega)
 rw [e]
 omega
theorem bytesP_inj {P Q : Edw.Pt NT.PN} (hP : Edw.On eF P) (hQ : Edw.On eF Q) (h : bytesP P = bytesP Q) : P = Q := by
 rw [bytesP_is, bytesP_is] at h
 obtain ⟨hy, ho⟩ := pb_inj P.y.isLt Q.y.isLt h
 have hy' : P.y = Q.y := Fin.ext hy
 have s1 := ax_sq hP
 have s2 := ax_sq hQ
 rw [hy', ← s2] at s1
 have hx : axP P = axP Q := by
   rcases pn_fld.dom (neg_is s1) with h1 | h1
   · exact eq_of h1
   · have h2 := neg_of h1
     by_cases h0 : axP Q = 0
     · rw [h2, h0]; rfl
     · exfalso
       rw [odd_val, odd_val, decide_eq_decide, h2] at ho
       have h4 : NT.PN % 2 = 1 := by decide
       rcases Nat.mod_two_eq_zero_or_one (axP Q).val with e | e
       · have := ho.1 (neg_odd h0 e)
         omega
       · have h5 := odd_nat2 (fin_pos h0) (axP Q).isLt h4 e
         have h3 := sub_val 0 (axP Q)
         rw [show (0 : Fin NT.PN).val = 0 from rfl, Nat.zero_add] at h3
         rw [h3] at h5
         have := ho.2 e
         omega
 refine Edw.pt_ext ?_ hy'
 have e1 : iF * axP P = P.x := ax_back i_sq
 have e2 : iF * axP Q = Q.x := ax_back i_sq
 rw [← e1, ← e2, hx]
theorem sq_is (a : Fin NT.PN) : isSq (a * a).val = true := by
 have hx := of_bytes a.val a.isLt
 have h1 := (sq_root hx).1
 have h2 := ok_sq (hx.mul hx)
 rw [h1] at h2
 exact h2.symm
theorem bytesP_good {P : Edw.Pt NT.PN} (hP : Edw.On eF P) : ¬ Bad (bytesP P) := by
 rw [bytesP_is]
 have hn := pb_num P.y.isLt (oddB (axP P).val)
 have hph : ph NT.PN (bn (offB (pbytes P.y.val (oddB (axP P).val)))) = P.y := by rw [hn, ph_self]
 intro h
 unfold Bad at h
 rw [hph, hn, pb_bit P.y.isLt, ← ax_sq hP] at h
 rcases h with h | h | ⟨h, ho⟩
 · exact absurd h (Nat.not_le.2 P.y.isLt)
 · rw [sq_is] at h; cases h
 · have h0 : axP P = 0 := by rcases pn_fld.dom h with h | h <;> exact h
   rw [h0] at ho
   exact absurd ho (by decide)
end Go.Proofs.YthpibkpljakeeaaGreatDoor
