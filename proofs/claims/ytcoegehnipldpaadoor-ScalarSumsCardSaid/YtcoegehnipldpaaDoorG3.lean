/- Texts of this proof, laid together: Mod, InvMod, Root, Calls. -/
import Derived.Test.YtcoegehnipldpaaDoorG1
import Derived.Test.YtcoegehnipldpaaDoorCert
import Derived.Test.YtcoegehnipldpaaDoorG2
import Derived.Test.YtcoegehnipldpaaDoorBx2M
/- Elements modulo the prime: sums, products, powers of what bytes say. -/
namespace Go.Proofs.YtcoegehnipldpaaDoor

/-- The same modulo the prime. -/
def Eqv (a b : Int) : Prop := a % P = b % P
theorem Eqv.refl (a : Int) : Eqv a a := rfl
theorem Eqv.symm {a b : Int} (h : Eqv a b) : Eqv b a := Eq.symm h
theorem Eqv.trans {a b c : Int} (h : Eqv a b) (k : Eqv b c) : Eqv a c := Eq.trans h k
theorem Eqv.of {a b : Int} (h : a = b) : Eqv a b := by rw [h]; rfl
theorem Eqv.add {a b c d : Int} (h : Eqv a b) (k : Eqv c d) : Eqv (a + c) (b + d) := by
  unfold Eqv at *; rw [Int.add_emod, h, k, ← Int.add_emod]
theorem Eqv.sub {a b c d : Int} (h : Eqv a b) (k : Eqv c d) : Eqv (a - c) (b - d) := by
  unfold Eqv at *; rw [Int.sub_emod, h, k, ← Int.sub_emod]
theorem Eqv.mul {a b c d : Int} (h : Eqv a b) (k : Eqv c d) : Eqv (a * c) (b * d) := by
  unfold Eqv at *; rw [Int.mul_emod, h, k, ← Int.mul_emod]
theorem Eqv.pow {a b : Int} (h : Eqv a b) (n : Nat) : Eqv (a ^ n) (b ^ n) := by
  induction n with
  | zero => rw [Int.pow_zero, Int.pow_zero]; exact Eqv.refl _
  | succ n ih => rw [Int.pow_succ, Int.pow_succ]; exact ih.mul h
theorem add_eqv {xs ys : List Int} (hx : El xs) (hy : El ys) : Eqv (ev (cy (plus xs ys))) (ev xs + ev ys) := (addL_el hx hy).2
theorem sub_eqv {xs ys : List Int} (hx : El xs) (hy : El ys) : Eqv (ev (cy (minus xs ys))) (ev xs - ev ys) := (subL_el hx hy).2
theorem neg_eqv {xs : List Int} (hx : El xs) : Eqv (ev (cy (minus (zeros 16) xs))) (- ev xs) := (negL_el hx).2
theorem mul_eqv {xs ys : List Int} (hx : El xs) (hy : El ys) : Eqv (ev (mulL xs ys)) (ev xs * ev ys) := (mulL_el hx hy).2
theorem red_iff {xs ys : List Int} (hx : El xs) (hy : El ys) : red xs = red ys ↔ Eqv (ev xs) (ev ys) := red_eq hx hy

/-- The number of bytes, the lowest first. -/
def bv : List Int → Int
  | [] => 0
  | b :: l => b + 256 * bv l
theorem bv_bd : ∀ l : List Int, Byt l → 0 ≤ bv l ∧ bv l < 256 ^ l.length
  | [], _ => by simp [bv]
  | x :: l, h => by
    have h1 := bv_bd l (fun y hy => h y (by simp [hy]))
    have h2 := h x (by simp)
    simp only [bv, List.length_cons, Int.pow_succ]
    omega
theorem bv_at : ∀ (l : List Int) (j : Nat), Byt l → bv l / 256 ^ j % 256 = l.getD j 0
  | [], j, _ => by simp [bv]
  | x :: l, 0, h => by
    have h2 := h x (by simp)
    simp only [bv, Int.pow_zero, Int.ediv_one]
    simp; omega
  | x :: l, j + 1, h => by
    have h1 := bv_at l j (fun y hy => h y (by simp [hy]))
    have h2 := h x (by simp)
    have e : (x + 256 * bv l) / 256 ^ (j + 1) = bv l / 256 ^ j := by
      have e1 : (x + 256 * bv l) / 256 = bv l := by omega
      rw [Int.pow_succ, Int.mul_comm ((256 : Int) ^ j), ← Int.ediv_ediv_of_nonneg (by omega : (0 : Int) ≤ 256), e1]
    simp only [bv]
    rw [e, h1]
    simp
theorem mod_div_pow (n : Int) (r : Nat) (h : r < 8) : n % 256 / 2 ^ r % 2 = n / 2 ^ r % 2 := by
  have : r = 0 ∨ r = 1 ∨ r = 2 ∨ r = 3 ∨ r = 4 ∨ r = 5 ∨ r = 6 ∨ r = 7 := by omega
  rcases this with rfl | rfl | rfl | rfl | rfl | rfl | rfl | rfl <;> simp <;> omega
theorem pow256 (j : Nat) : (256 : Int) ^ j = 2 ^ (8 * j) := by rw [Int.pow_mul]; rfl
theorem bit_eq (bs : List Int) (hb : Byt bs) (i : Nat) : bitAt bs i = bv bs / 2 ^ i % 2 := by
  unfold bitAt
  rw [← bv_at bs (i / 8) hb, mod_div_pow _ _ (by omega), pow256, Int.ediv_ediv_of_nonneg (Int.le_of_lt (Int.pow_pos (by omega))), ← Int.pow_add]
  congr 3
  omega
/-- Powers, the highest bit first. -/
theorem powL_eqv {xs bs : List Int} (hx : El xs) (hb : Byt bs) (hl : bs.length = 32) (k : Nat) (hk : k ≤ 256) : Eqv (ev (powL xs bs k)) (ev xs ^ (bv bs / 2 ^ (256 - k)).toNat) := by
  have hbd := bv_bd bs hb
  rw [hl, pow256] at hbd
  induction k with
  | zero =>
    have e : bv bs / 2 ^ (256 - 0) = 0 := Int.ediv_eq_zero_of_lt hbd.1 hbd.2
    rw [e]
    show Eqv (ev (smallL 1)) _
    rw [small_ev 1 (by omega)]
    show Eqv 1 (ev xs ^ 0)
    rw [Int.pow_zero]
    exact Eqv.refl _
  | succ k ih =>
    have h1 := ih (by omega)
    have hE := powL_el (bs := bs) hx k
    have hbit := bit_eq bs hb (255 - k)
    have hN : bv bs / 2 ^ (256 - k) = bv bs / 2 ^ (255 - k) / 2 := by
      rw [Int.ediv_ediv_of_nonneg (Int.le_of_lt (Int.pow_pos (by omega))), ← Int.pow_succ]
      congr 2; omega
    have e255 : 256 - (k + 1) = 255 - k := by omega
    rw [e255]
    rw [hN] at h1
    have hn0 : 0 ≤ bv bs / 2 ^ (255 - k) := Int.ediv_nonneg hbd.1 (Int.le_of_lt (Int.pow_pos (by omega)))
    obtain ⟨N, hNe⟩ := Int.eq_ofNat_of_zero_le hn0
    rw [hNe] at h1 hbit ⊢
    have t1 : ((N : Int) / 2).toNat = N / 2 := by omega
    have t2 : ((N : Int)).toNat = N := by omega
    rw [t1] at h1
    rw [t2]
    simp only [powL]
    have hsq := (mul_eqv hE hE).trans (h1.mul h1)
    rw [← Int.pow_add] at hsq
    by_cases hb1 : bitAt bs (255 - k) = 1
    · rw [if_pos hb1]
      have := (mul_eqv (mulL_el hE hE).1 hx).trans (hsq.mul (Eqv.refl _))
      rw [← Int.pow_succ] at this
      have e : (N / 2 + N / 2).succ = N := by omega
      rw [e] at this
      exact this
    · rw [if_neg hb1]
      have e : N / 2 + N / 2 = N := by omega
      rw [e] at hsq
      exact hsq
theorem powL_num {xs bs : List Int} (hx : El xs) (hb : Byt bs) (hl : bs.length = 32) : Eqv (ev (powL xs bs 256)) (ev xs ^ (bv bs).toNat) := by
  have h := powL_eqv hx hb hl 256 (by omega)
  rw [Nat.sub_self, Int.pow_zero, Int.ediv_one] at h
  exact h
end Go.Proofs.YtcoegehnipldpaaDoor

/- Inverses modulo the prime; elements of bytes. -/
namespace Go.Proofs.YtcoegehnipldpaaDoor

theorem pn_int : ((NT.PN : Nat) : Int) = P := by decide
theorem int_pow_mod (x : Int) (n : Nat) : Eqv (x ^ n) ((((x % P).toNat ^ n % NT.PN : Nat)) : Int) := by
  have h0 : 0 ≤ x % P := Int.emod_nonneg _ (by decide)
  have h1 : ((x % P).toNat : Int) = x % P := Int.toNat_of_nonneg h0
  unfold Eqv
  rw [Int.natCast_emod, pn_int, Int.emod_emod_of_dvd _ (Int.dvd_refl P), Int.natCast_pow, h1]
  exact Eqv.pow (show Eqv x (x % P) from (Int.emod_emod_of_dvd _ (Int.dvd_refl P)).symm) n
theorem not_zero {x : Int} (h : ¬ Eqv x 0) : 0 < (x % P).toNat ∧ (x % P).toNat < NT.PN := by
  have h0 : 0 ≤ x % P := Int.emod_nonneg _ (by decide)
  have h1 : x % P < P := Int.emod_lt_of_pos _ (by decide)
  have h2 : x % P ≠ 0 := fun e => h (by unfold Eqv; rw [e]; rfl)
  have h3 := pn_int
  constructor
  · omega
  · have : ((x % P).toNat : Int) < (NT.PN : Nat) := by rw [h3]; omega
    exact Int.ofNat_lt.1 this
theorem fermat_eqv {x : Int} (h : ¬ Eqv x 0) : Eqv (x ^ (NT.PN - 1)) 1 := by
  obtain ⟨h1, h2⟩ := not_zero h
  refine (int_pow_mod x _).trans ?_
  rw [NT.fermat _ h1 h2]
  exact Eqv.refl _
theorem bv_inv : (bv (onesL 235 127)).toNat = NT.PN - 2 := by decide +kernel
theorem bv_root : (bv (onesL 253 15)).toNat = (NT.PN - 5) / 8 := by decide +kernel
theorem inv_eqv {xs : List Int} (hx : El xs) : Eqv (ev (invL xs)) (ev xs ^ (NT.PN - 2)) := by
  have h := powL_num hx (onesL_byt (a := 235) (b := 127) (by omega) (by omega)) (onesL_length _ _)
  rw [bv_inv] at h
  exact h
theorem inv_one {x : Int} (h : ¬ Eqv x 0) : Eqv (x * x ^ (NT.PN - 2)) 1 := by
  have e : x * x ^ (NT.PN - 2) = x ^ (NT.PN - 1) := by
    have : NT.PN - 1 = (NT.PN - 2) + 1 := by decide
    rw [this, Int.pow_succ, Int.mul_comm]
  rw [e]
  exact fermat_eqv h
/-- No two that are not 0 make 0. -/
theorem mul_zero {x y : Int} (h : Eqv (x * y) 0) : Eqv x 0 ∨ Eqv y 0 := by
  by_cases hx : Eqv x 0
  · exact .inl hx
  · right
    have h1 := inv_one hx
    have h2 : Eqv (x ^ (NT.PN - 2) * (x * y)) (x ^ (NT.PN - 2) * 0) := (Eqv.refl _).mul h
    rw [Int.mul_zero, ← Int.mul_assoc, Int.mul_comm (x ^ _)] at h2
    have h3 : Eqv (x * x ^ (NT.PN - 2) * y) (1 * y) := h1.mul (Eqv.refl _)
    rw [Int.one_mul] at h3
    exact h3.symm.trans h2
theorem byt_getD {bs : List Int} (hb : Byt bs) (i : Nat) : 0 ≤ bs.getD i 0 ∧ bs.getD i 0 < 256 := by
  rw [List.getD_eq_getElem?_getD]
  cases h : bs[i]? with
  | none => simp
  | some x => exact hb.at_ h
theorem ofL_dg {bs : List Int} (hb : Byt bs) : Dg (ofL bs) := by
  refine ⟨ofL_length bs, fun i x hi => ?_⟩
  have h15 : (dgs bs)[15]? = some ((dgs bs).getD 15 0) := getD_some (by rw [dgs_length]; omega)
  have key : ∀ (i : Nat) (x : Int), (dgs bs)[i]? = some x → 0 ≤ x ∧ x < 65536 := fun i x hi => by
    have h16 := (List.getElem?_eq_some_iff.1 hi).1
    rw [dgs_length] at h16
    rw [dgs_at bs h16] at hi
    have h1 := byt_getD hb (2 * i)
    have h2 := byt_getD hb (2 * i + 1)
    rw [← Option.some.inj hi]
    omega
  unfold ofL at hi
  by_cases e : 15 = i
  · subst e
    rw [List.getElem?_set_self (by rw [dgs_length]; omega)] at hi
    rw [← Option.some.inj hi]
    omega
  · rw [List.getElem?_set_ne e] at hi
    have := key i x hi
    omega
theorem ofL_el {bs : List Int} (hb : Byt bs) : El (ofL bs) := el_set (ofL_dg hb)
end Go.Proofs.YtcoegehnipldpaaDoor

/- Roots of elements. -/
namespace Go.Proofs.YtcoegehnipldpaaDoor
open Go.RowKit

def dblL (xs : List Int) : List Int := cy (plus xs xs)
def rbL (xs : List Int) : List Int := powL (dblL xs) (onesL 253 15) 256
def riL (xs : List Int) : List Int := mulL (mulL (dblL xs) (rbL xs)) (rbL xs)
def rtL (xs : List Int) : List Int := mulL (mulL xs (rbL xs)) (cy (minus (riL xs) (smallL 1)))
theorem dblL_el {xs : List Int} (h : El xs) : El (dblL xs) := (addL_el h h).1
theorem rbL_el {xs : List Int} (h : El xs) : El (rbL xs) := powL_el (dblL_el h) 256
theorem riL_el {xs : List Int} (h : El xs) : El (riL xs) := (mulL_el (mulL_el (dblL_el h) (rbL_el h)).1 (rbL_el h)).1
theorem one_el : El (smallL 1) := el_set (small_dg 1)
theorem rtL_el {xs : List Int} (h : El xs) : El (rtL xs) := (mulL_el (mulL_el h (rbL_el h)).1 (subL_el (riL_el h) one_el).1).1
theorem El.big {a : List Int} (h : El a) : Bd 100000000000000000 a := fun x hx => by have := h.bd x hx; omega
/-- Two results: a row in memory, and a slot. -/
theorem results_row2 {P : Program} {fn : Func} {p s : Tmp} {ty : TypeId} (h : fn.results = #[.cell p ty, .tmp s]) (tmps : Array Value) (w : World) (b o : Nat) (hp : tmps.getD p undef = .pointer (some ⟨b, o, none⟩)) (v : Value) (hs : tmps.getD s undef = v)
    (cs : List Value) (d : TypeDesc) (hc : w.rangeAt b o cs) (hu : P.underlying ty = some d) (hd : d.isRow = true) (hi : (P.info? ty).map (·.size) = some cs.length) :
    (results fn tmps).run P w = .ok (.tuple #[.agg cs.toArray, v]) w := by
  simp only [results, h]
  have hp2 : tmps[p]?.getD undef = .pointer (some ⟨b, o, none⟩) := by rw [← hp]; simp
  have hs2 : tmps[s]?.getD undef = v := by rw [← hs]; simp
  simp [hp2, hs2, asAddr, run_loadVar_mid w b o ty cs d hc hu hd hi]

def okL (xs : List Int) : Bool := decide (red (mulL (rtL xs) (rtL xs)) = red xs)
def oddL (xs : List Int) : Bool := (red (rtL xs)).getD 0 0 % 2 == 1
def ngL (xs : List Int) : List Int := cy (minus (zeros 16) (rtL xs))
theorem red_at {xs : List Int} (h : xs.length = 16) : Hid ((red xs)[0]? = some ((red xs).getD 0 0)) := hid (getD_some (by rw [red_length, h]; omega))
end Go.Proofs.YtcoegehnipldpaaDoor

/- What each function of the package returns, said of elements. -/
namespace Go.Proofs.YtcoegehnipldpaaDoor
open Go.RowKit

theorem By.new (w : World) (l : List Int) (h : l.length = 32) : By (w.alloc (.cells (ints .u8 l).toArray 23)) w.heap.size l := ⟨Arr.made w .u8 l 23, h⟩
theorem CallsTo.on {f : FuncId} {args : Array Value} {v : Value} (h : CallsTo f args v) (w : World) : Calls Tryd.prog f args w fun e w' => e = .returned v ∧ Below w.heap.size w w' := h w
section
variable {xs ys bs : List Int}
theorem El.huge (h : El xs) : Bd 1000000000000000000 xs := fun x hx => by have := h.bd x hx; omega
theorem byt_of_wf (h : ∀ x ∈ bs, (Lit.int .u8 x).wf = true) : Byt bs := fun x hx => by
  have h1 := h x hx
  simp [Lit.wf, IntKind.min, IntKind.max, IntKind.bits, IntKind.signed] at h1
  omega
end
end Go.Proofs.YtcoegehnipldpaaDoor
