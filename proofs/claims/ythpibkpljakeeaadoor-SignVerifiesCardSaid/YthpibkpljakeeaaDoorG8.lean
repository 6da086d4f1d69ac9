/- Texts laid together. -/
import Derived.Test.YthpibkpljakeeaaDoorG6
import Derived.Test.YthpibkpljakeeaaDoorG7
import Derived.Deep.Cut
namespace Go.Proofs.YthpibkpljakeeaaDoor
open Go.RowKit
def rootL (x : List Int) : List Int := if okL x then (if oddL x then ngL x else rtL x) else zeros 16
theorem c_root {x : List Int} (h : El x) : CallsTo 59 #[.agg (ints .i64 x).toArray] (.tuple #[.agg (ints .i64 (rootL x)).toArray, .bool (okL x)]) := fun w => (root_any x w h).mono fun e w' ⟨he, hb⟩ => by
 refine ⟨?_, hb⟩
 rw [he]
 unfold rootL
 cases okL x with
 | false => rfl
 | true => cases oddL x <;> rfl
theorem two_half_eqv : Eqv (2 ^ ((NT.PN - 1) / 2)) (-1) := by
 have h := int_pow_mod 2 ((NT.PN - 1) / 2)
 have e : (2 % P).toNat = 2 := by decide
 rw [e, NT.two_half] at h
 refine h.trans ?_
 show _ % P = _ % P
 decide
theorem pow42 (u : Int) (k : Nat) : u * u ^ k * u ^ k * (u * u ^ k * u ^ k) = u ^ (2 * (2 * k) + 2) := by
 rw [show 2 * (2 * k) + 2 = k + k + k + k + 1 + 1 by omega, Int.pow_succ, Int.pow_succ, Int.pow_add, Int.pow_add, Int.pow_add]
 generalize u ^ k = t
 simp only [Int.mul_left_comm, Int.mul_comm]
theorem sq_split (p i : Int) : p * (i - 1) * (p * (i - 1)) = p * p * (i * i) + p * p - p * p * (2 * i) := by
 have e1 : p * (i - 1) = p * i - p := by rw [Int.mul_sub, Int.mul_one]
 have e2 : p * p * (2 * i) = 2 * (p * p * i) := by rw [Int.mul_left_comm]
 have e3 : (p * i) * (p * i) = p * p * (i * i) := by simp only [Int.mul_left_comm, Int.mul_comm]
 have e4 : (p * i) * p = p * p * i := by rw [Int.mul_assoc, Int.mul_comm i p, ← Int.mul_assoc]
 have e5 : p * (p * i) = p * p * i := by rw [Int.mul_assoc]
 rw [e1, Int.sub_mul, Int.mul_sub, Int.mul_sub, e2, e3, e4, e5]
 omega
theorem rt_sq {x : List Int} {m : Nat} (hx : Nm x m) (h : Eqv (ev x ^ ((NT.PN - 1) / 2)) 1) : Eqv (ev (mulL (rtL x) (rtL x))) (ev x) := by
 have E := hx.1
 have hD : Eqv (ev (dblL x)) (2 * ev x) := (add_eqv E E).trans (Eqv.of (by omega))
 have hb : Eqv (ev (rbL x)) ((2 * ev x) ^ ((NT.PN - 5) / 8)) := by
   have h1 := powL_num (dblL_el E) (onesL_byt (a := 253) (b := 15) (by omega) (by omega)) (onesL_length 253 15)
   rw [bv_root] at h1
   exact h1.trans (hD.pow _)
 have hi : Eqv (ev (riL x)) (2 * ev x * (2 * ev x) ^ ((NT.PN - 5) / 8) * (2 * ev x) ^ ((NT.PN - 5) / 8)) :=
   (mul_eqv (mulL_el (dblL_el E) (rbL_el E)).1 (rbL_el E)).trans (((mul_eqv (dblL_el E) (rbL_el E)).trans (hD.mul hb)).mul hb)
 have h1 : Eqv (ev (smallL 1)) 1 := by rw [small_ev 1 (by omega)]; exact Eqv.refl _
 have hs : Eqv (ev (cy (minus (riL x) (smallL 1)))) (2 * ev x * (2 * ev x) ^ ((NT.PN - 5) / 8) * (2 * ev x) ^ ((NT.PN - 5) / 8) - 1) := (sub_eqv (riL_el E) one_el).trans (hi.sub h1)
 have hrt : Eqv (ev (rtL x)) (ev x * (2 * ev x) ^ ((NT.PN - 5) / 8) * (2 * ev x * (2 * ev x) ^ ((NT.PN - 5) / 8) * (2 * ev x) ^ ((NT.PN - 5) / 8) - 1)) :=
   (mul_eqv (mulL_el E (rbL_el E)).1 (subL_el (riL_el E) one_el).1).trans (((mul_eqv E (rbL_el E)).trans ((Eqv.refl _).mul hb)).mul hs)
 have hsq := (mul_eqv (rtL_el E) (rtL_el E)).trans (hrt.mul hrt)
 have e1 : (NT.PN - 1) / 2 = 2 * (2 * ((NT.PN - 5) / 8)) + 2 := by decide
 have hii : Eqv ((2 * ev x * (2 * ev x) ^ ((NT.PN - 5) / 8) * (2 * ev x) ^ ((NT.PN - 5) / 8)) * (2 * ev x * (2 * ev x) ^ ((NT.PN - 5) / 8) * (2 * ev x) ^ ((NT.PN - 5) / 8))) (-1) := by
   have h2 : Eqv ((2 * ev x) ^ ((NT.PN - 1) / 2)) (-1) := by
     rw [Int.mul_pow]
     have := two_half_eqv.mul h
     rwa [Int.mul_one] at this
   rw [e1, ← pow42] at h2
   exact h2
 refine hsq.trans ?_
 generalize (2 * ev x) ^ ((NT.PN - 5) / 8) = t at *
 generalize ev x = a at *
 have hsplit : a * t * (2 * a * t * t - 1) * (a * t * (2 * a * t * t - 1)) = (a * t) * (a * t) * ((2 * a * t * t) * (2 * a * t * t)) + (a * t) * (a * t) - (a * t) * (a * t) * (2 * (2 * a * t * t)) := by
   exact sq_split (a * t) (2 * a * t * t)
 have h3 : Eqv (a * t * (2 * a * t * t - 1) * (a * t * (2 * a * t * t - 1))) ((a * t) * (a * t) * (-1) + (a * t) * (a * t) - (a * t) * (a * t) * (2 * (2 * a * t * t))) := by
   rw [hsplit]
   exact (((Eqv.refl _).mul hii).add (Eqv.refl _)).sub (Eqv.refl _)
 refine h3.trans ?_
 have e5 : (a * t) * (a * t) * (-1) + (a * t) * (a * t) - (a * t) * (a * t) * (2 * (2 * a * t * t)) = (-a) * ((2 * a * t * t) * (2 * a * t * t)) := by
   have : (a * t) * (a * t) * (2 * (2 * a * t * t)) = a * ((2 * a * t * t) * (2 * a * t * t)) := by
     simp only [Int.mul_assoc, Int.mul_left_comm, Int.mul_comm]
   rw [this, Int.neg_mul]
   omega
 rw [e5]
 have := (Eqv.refl (-a)).mul hii
 refine this.trans (Eqv.of ?_)
 omega
theorem Nm.zero_iff {x : List Int} {m : Nat} (h : Nm x m) : Eqv (ev x) 0 ↔ m = 0 := by
 show ev x % P = 0 % P ↔ _
 rw [h.int, show (0 : Int) % P = 0 from rfl]
 omega
theorem Nm.one_iff {x : List Int} {m : Nat} (h : Nm x m) (k : Nat) : Eqv (ev x ^ k) 1 ↔ m ^ k % NT.PN = 1 := by
 have h1 := int_pow_mod (ev x) k
 rw [h.2] at h1
 have hl : m ^ k % NT.PN < NT.PN := Nat.mod_lt _ (by decide)
 generalize m ^ k % NT.PN = t at *
 have h2 : ((t : Int)) % P = t := by rw [← pn_int, ← Int.natCast_emod, Nat.mod_eq_of_lt hl]
 have e1 : (1 : Int) % P = 1 := rfl
 constructor
 · intro h3
   have h4 : (t : Int) % P = 1 % P := h1.symm.trans h3
   rw [h2, e1] at h4
   omega
 · intro h3
   subst h3
   exact h1
theorem rt_zero {x : List Int} (E : El x) (h : Eqv (ev x) 0) : Eqv (ev (mulL (rtL x) (rtL x))) (ev x) := by
 have h1 : Eqv (ev (rtL x)) 0 := by
   refine (mul_eqv (mulL_el E (rbL_el E)).1 (subL_el (riL_el E) one_el).1).trans ?_
   have h2 := (mul_eqv E (rbL_el E)).trans (h.mul (Eqv.refl (ev (rbL x))))
   rw [Int.zero_mul] at h2
   have h3 := h2.mul (Eqv.refl (ev (cy (minus (riL x) (smallL 1)))))
   rwa [Int.zero_mul] at h3
 have h4 := (mul_eqv (rtL_el E) (rtL_el E)).trans (h1.mul h1)
 rw [Int.mul_zero] at h4
 exact h4.trans h.symm
theorem sq_half {y a : Int} (h : Eqv (y * y) a) : Eqv a 0 ∨ Eqv (a ^ ((NT.PN - 1) / 2)) 1 := by
 by_cases h0 : Eqv y 0
 · left
   have := h0.mul h0
   rw [Int.mul_zero] at this
   exact h.symm.trans this
 · right
   have h1 := fermat_eqv h0
   have e : NT.PN - 1 = 2 * ((NT.PN - 1) / 2) := by decide
   rw [e, Int.pow_mul, show y ^ 2 = y * y by rw [Int.pow_succ, Int.pow_succ, Int.pow_zero, Int.one_mul]] at h1
   exact (h.symm.pow _).trans h1
theorem ok_sq {x : List Int} {m : Nat} (hx : Nm x m) : okL x = isSq m := by
 have E := hx.1
 rw [Bool.eq_iff_iff]
 unfold okL isSq
 rw [decide_eq_true_iff, Bool.or_eq_true, decide_eq_true_iff, decide_eq_true_iff, red_iff (mulL_el (rtL_el E) (rtL_el E)).1 E, ← hx.zero_iff, ← hx.one_iff]
 constructor
 · intro h
   exact sq_half ((mul_eqv (rtL_el E) (rtL_el E)).symm.trans h)
 · rintro (h | h)
   · exact rt_zero E h
   · exact rt_sq hx h
theorem odd_num {x : List Int} {m : Nat} (h : Nm x m) : ((red x).getD 0 0 % 2 == 1) = decide (m % 2 = 1) := by
 obtain ⟨hd, he⟩ := red_dg h.1
 obtain ⟨a, ha, hr⟩ := dg_nat hd
 rw [he, h.2] at hr
 have h2 : (nl a)[0]? = some ((m % 65536 : Nat) : Int) := by rw [hr.eq]; simp [dgN, nl]
 rw [ha] at h2
 rw [List.getD_eq_getElem?_getD, h2, Bool.eq_iff_iff, decide_eq_true_iff]
 simp
 omega
theorem root_num {x : List Int} {m : Nat} (hx : Nm x m) (hk : okL x = true) : ∃ k, Nm (rootL x) k ∧ k * k % NT.PN = m ∧ k % 2 = 0 := by
 have E := hx.1
 obtain ⟨k, hkn⟩ : ∃ k, k = (ev (rtL x) % P).toNat := ⟨_, rfl⟩
 have hr : Nm (rtL x) k := ⟨rtL_el E, hkn.symm⟩
 have hsq : k * k % NT.PN = m := by
   have h1 := hr.mul hr
   have h2 := of_decide_eq_true hk
   exact (h1.eqv hx).1 h2
 have ho := odd_num hr
 by_cases hodd : k % 2 = 1
 · have hn := hr.neg
   have hl := hr.lt
   have e : (0 + NT.PN - k) % NT.PN = NT.PN - k := by rw [Nat.zero_add, Nat.mod_eq_of_lt (by omega)]
   rw [e] at hn
   refine ⟨NT.PN - k, ?_, ?_, ?_⟩
   · have e2 : rootL x = ngL x := by
       unfold rootL oddL
       rw [hk, ho, decide_eq_true hodd]; rfl
     rw [e2]; exact hn
   · have h1 : ((NT.PN - k) * (NT.PN - k) % NT.PN : Nat) = k * k % NT.PN := by
       have h2 := hn.mul hn
       have h3 : Eqv (ev (cy (minus (zeros 16) (rtL x))) * ev (cy (minus (zeros 16) (rtL x)))) (ev (rtL x) * ev (rtL x)) := by
         have := (neg_eqv hr.1).mul (neg_eqv hr.1)
         rwa [Int.neg_mul_neg] at this
       have h4 := (h2.eqv (hr.mul hr)).1 ((red_iff h2.1 (hr.mul hr).1).2 ((mul_eqv hn.1 hn.1).trans (h3.trans (mul_eqv hr.1 hr.1).symm)))
       exact h4
     rw [h1, hsq]
   · have : NT.PN % 2 = 1 := by decide
     omega
 · refine ⟨k, ?_, hsq, by omega⟩
   have e2 : rootL x = rtL x := by
     unfold rootL oddL
     rw [hk, ho, decide_eq_false hodd]; rfl
   rw [e2]; exact hr
theorem root_none {x : List Int} (hk : okL x = false) : rootL x = zeros 16 := by unfold rootL; rw [hk]; rfl
theorem sq_root {x : List Int} {m : Nat} (hx : Nm x m) : okL (mulL x x) = true ∧ ∃ k, Nm (rootL (mulL x x)) k ∧ (k = m ∨ k = (0 + NT.PN - m) % NT.PN) := by
 have hs := hx.mul hx
 have hok : okL (mulL x x) = true := by
   rw [ok_sq hs]
   unfold isSq
   rw [Bool.or_eq_true, decide_eq_true_iff, decide_eq_true_iff, ← hs.zero_iff, ← hs.one_iff]
   exact sq_half (mul_eqv hx.1 hx.1).symm
 refine ⟨hok, ?_⟩
 obtain ⟨k, h1, h2, _⟩ := root_num hs hok
 refine ⟨k, h1, ?_⟩
 have h3 : Eqv (ev (rootL (mulL x x)) * ev (rootL (mulL x x))) (ev x * ev x) := by
   have h4 := h1.mul h1
   rw [h2] at h4
   have h5 := (red_iff h4.1 hs.1).1 ((h4.eqv hs).2 rfl)
   exact (mul_eqv h1.1 h1.1).symm.trans (h5.trans (mul_eqv hx.1 hx.1))
 have h6 : Eqv ((ev (rootL (mulL x x)) - ev x) * (ev (rootL (mulL x x)) + ev x)) 0 := by
   have e : (ev (rootL (mulL x x)) - ev x) * (ev (rootL (mulL x x)) + ev x) = ev (rootL (mulL x x)) * ev (rootL (mulL x x)) - ev x * ev x := by
     rw [Int.sub_mul, Int.mul_add, Int.mul_add, Int.mul_comm (ev x) (ev (rootL (mulL x x)))]
     omega
   rw [e]
   have := h3.sub (Eqv.refl (ev x * ev x))
   rwa [Int.sub_self] at this
 rcases mul_zero h6 with h | h
 · left
   have h7 := h.add (Eqv.refl (ev x))
   rw [Int.sub_add_cancel, Int.zero_add] at h7
   exact (h1.eqv hx).1 ((red_iff h1.1 hx.1).2 h7)
 · right
   have h7 := h.sub (Eqv.refl (ev x))
   rw [Int.add_sub_cancel, Int.zero_sub] at h7
   exact (h1.eqv hx.neg).1 ((red_iff h1.1 hx.neg.1).2 (h7.trans (neg_eqv hx.1).symm))
theorem dgs_byd (a : List Nat) (hl : a.length = 16) (hd : Digs a) : dgs (byd (nl a)) = nl a := by
 apply List.ext_getElem?
 intro i
 by_cases h : i < 16
 · rw [dgs_at _ h, nl_at (by omega)]
   have h1 := byd_even (nl a) h
   have h2 := byd_odd (nl a) h
   have h3 := nl_at (l := a) (i := i) (by omega)
   have h4 := getD_dig hd i
   rw [List.getD_eq_getElem?_getD, List.getD_eq_getElem?_getD, h1, h2, List.getD_eq_getElem?_getD, h3]
   simp only [Option.getD_some]
   congr 1
   omega
 · rw [List.getElem?_eq_none (by rw [dgs_length]; omega), List.getElem?_eq_none (by rw [nl_length]; omega)]
theorem of_bytes (m : Nat) (hm : m < NT.PN) : Nm (ofL (rbytes m)) m := by
 obtain ⟨h1, h2, h3⟩ := dgN_rp 16 m (by have : NT.PN < 65536 ^ 16 := by decide
                                        omega)
 have e := dgs_byd (dgN m 16) h1 h2
 have hb : Byt (rbytes m) := fun x hx => by
   unfold rbytes byd at hx
   obtain ⟨i, _, rfl⟩ := List.mem_map.1 hx
   exact ⟨Int.emod_nonneg _ (by omega), Int.emod_lt_of_pos _ (by omega)⟩
 have hlast : (dgs (rbytes m)).getD 15 0 < 32768 := by
   unfold rbytes
   rw [e]
   have h4 := dv_cut (l := dgN m 16) (i := 15) (by omega)
   rw [h3] at h4
   rw [List.getD_eq_getElem?_getD, nl_at (by omega), Option.getD_some]
   have e15 : 65536 ^ 15 = 1766847064778384329583297500742918515827483896875618958121606201292619776 := by decide
   rw [e15] at h4
   unfold NT.PN at hm
   generalize (dgN m 16).getD 15 0 = d at *
   generalize dv ((dgN m 16).take 15) = t at *
   generalize dv ((dgN m 16).drop (15 + 1)) = u at *
   omega
 have h0 : 0 ≤ (dgs (rbytes m)).getD 15 0 := by
   unfold rbytes
   rw [e, List.getD_eq_getElem?_getD, nl_at (by omega), Option.getD_some]
   omega
 have hs : ofL (rbytes m) = nl (dgN m 16) := by
   unfold ofL
   rw [Int.emod_eq_of_lt h0 hlast]
   have : dgs (rbytes m) = nl (dgN m 16) := e
   rw [this]
   apply List.ext_getElem?
   intro i
   by_cases h : 15 = i
   · subst h
     rw [List.getElem?_set_self (by rw [nl_length]; omega), nl_at (by omega), List.getD_eq_getElem?_getD, nl_at (by omega)]; rfl
   · rw [List.getElem?_set_ne h]
 refine .mk (ofL_el hb) ?_
 rw [hs, ev_nl, h3]
 apply Int.emod_eq_of_lt (by omega)
 rw [← pn_int]
 exact Int.ofNat_lt.2 hm
theorem rbytes_byt (m : Nat) : Byt (rbytes m) := fun x hx => by
 unfold rbytes byd at hx
 obtain ⟨i, _, rfl⟩ := List.mem_map.1 hx
 exact ⟨Int.emod_nonneg _ (by omega), Int.emod_lt_of_pos _ (by omega)⟩
section
variable {ops : Array Oper} {md : Region.Mode} {W : World} {a0 : Act} {n : Nat} {al : Nat → Bool} {S : Nat → Value → World → Prop} {Q : Exit → Act → World → Prop} {i : Nat} {o : Oper}
end
theorem By.past {w : World} {b : Nat} {l : List Int} (h : By w b l) {b' : Nat} (vs : List Value) (hb : b' ≠ b) : By (w.setCells b' 0 vs) b l := ⟨h.1.past vs (.inl hb), h.2⟩
theorem nums_past {w : World} {k : IntKind} {A : Option Addr} {xs : List Int} (h : Nums w k A xs) {b : Nat} (vs : List Value) (hb : ∀ g o s, A = some ⟨g, o, s⟩ → b ≠ g) : Nums (w.setCells b 0 vs) k A xs := fun hp => by
 obtain ⟨g, off, e, hlt, hc⟩ := h hp
 have hs := setCells_frame b vs 0 w
 refine ⟨g, off, e, by rw [setCells_size]; exact hlt, fun i hi => ?_⟩
 rw [World.cell?_of_block (a := ⟨g, off + i, none⟩) (hs.2.2.2.2 g (fun e2 => hb g off none e e2.symm))]
 exact hc i hi
def dig0 (m : Nat) : Nat := m % 65536
theorem Rp.first {a : List Nat} {m : Nat} (h : Rp a m) : (nl a)[0]? = some ((dig0 m : Nat) : Int) := by
 rw [h.eq]; simp [dgN, nl, dig0]
theorem Nm.odd {x : List Int} {m : Nat} (h : Nm x m) : CallsTo 51 #[.agg (ints .i64 x).toArray] (.bool (((dig0 m % 2 : Nat) : Int) == 1)) := by
 have h1 := c_odd h.1
 obtain ⟨hd, he⟩ := red_dg h.1
 obtain ⟨a, ha, hr⟩ := dg_nat hd
 rw [he, h.2] at hr
 have h2 := hr.first
 rw [ha] at h2
 rw [List.getD_eq_getElem?_getD, h2] at h1
 have e : ((dig0 m % 2 : Nat) : Int) = (dig0 m : Int) % 2 := by omega
 rw [e]; exact h1
theorem Nm.equal {x y : List Int} {m n : Nat} (h : Nm x m) (k : Nm y n) : CallsTo 25 #[.agg (ints .i64 x).toArray, .agg (ints .i64 y).toArray] (.bool (decide (m = n))) := by
 have h1 := c_equal h.1 k.1
 rwa [decide_eq_decide.2 (h.eqv k)] at h1
theorem Nm.zeros : Nm (zeros 16) 0 := .mk zeros_el (by rw [ev_zeros]; rfl)
section
variable {ops : Array Oper} {md : Region.Mode} {W : World} {a0 : Act} {n : Nat} {al : Nat → Bool} {S : Nat → Value → World → Prop} {Q : Exit → Act → World → Prop} {i : Nat} {o : Oper}
theorem step_fst (hal : al i = false) (hg : GuardOn ops md n S i o) {x : Operand} {u v : Value} (ho : o.op = .extract x 0) (hS : S i = Is u) (hx : Knows ops md W a0 n S i x (.tuple #[u, v])) : StepOk Tryd.prog ops md W a0 n al S Q i o :=
 step_run hal hg fun a w hw hf hd => ⟨u, by
   have h := hx a w hw hf hd
   revert h
   generalize a.eval = ev
   intro h
   unfold execOp
   simp only [ho, h]
   go_simp, by rw [hS]; exact rfl⟩
theorem step_snd (hal : al i = false) (hg : GuardOn ops md n S i o) {x : Operand} {u v : Value} (ho : o.op = .extract x 1) (hS : S i = Is v) (hx : Knows ops md W a0 n S i x (.tuple #[u, v])) : StepOk Tryd.prog ops md W a0 n al S Q i o :=
 step_run hal hg fun a w hw hf hd => ⟨v, by
   have h := hx a w hw hf hd
   revert h
   generalize a.eval = ev
   intro h
   unfold execOp
   simp only [ho, h]
   go_simp, by rw [hS]; exact rfl⟩
end
theorem cf29 (vs : Array Value) (w : World) : (callFunc 74 vs).run Tryd.prog w = .ok (.enter 74 vs) w := by go_simp
theorem cf30 (vs : Array Value) (w : World) : (callFunc 59 vs).run Tryd.prog w = .ok (.enter 59 vs) w := by go_simp
end Go.Proofs.YthpibkpljakeeaaDoor
