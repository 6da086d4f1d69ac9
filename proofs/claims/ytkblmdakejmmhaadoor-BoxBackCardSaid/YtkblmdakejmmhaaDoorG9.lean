/- Texts of this proof, laid together: Mod, InvMod, Root, Calls, RefF, RefG, RefH, RefI, RefJ, Num. -/
import Derived.Test.YtkblmdakejmmhaaDoorG8
import Derived.Test.YtkblmdakejmmhaaDoorG4
import Derived.Test.YtkblmdakejmmhaaDoorG5
/- Elements modulo the prime: sums, products, powers of what bytes say. -/
namespace Go.Proofs.YtkblmdakejmmhaaDoor

/-- The same modulo the prime. -/
def Eqv (a b : Int) : Prop := a % P = b % P
theorem Eqv.refl (a : Int) : Eqv a a := rfl
theorem Eqv.symm {a b : Int} (h : Eqv a b) : Eqv b a := Eq.symm h
theorem Eqv.trans {a b c : Int} (h : Eqv a b) (k : Eqv b c) : Eqv a c := Eq.trans h k
theorem Eqv.of {a b : Int} (h : a = b) : Eqv a b := by rw [h]; rfl
theorem Eqv.add {a b c d : Int} (h : Eqv a b) (k : Eqv c d) : Eqv (a + c) (b + d) := by
  unfold Eqv at *; rw [Int.add_emod, h, k, ← Int.add_emod]
theorem Eqv.sub {a b c d : Int} (h : Eqv a b) (k : Eqv c d) : Eqv (a - c) (b - d) := by
  unfold Eqv at *; rw [Int.sub_emod, h, k, ← Int.sub_emod]
theorem Eqv.mul {a b c d : Int} (h : Eqv a b) (k : Eqv c d) : Eqv (a * c) (b * d) := by
  unfold Eqv at *; rw [Int.mul_emod, h, k, ← Int.mul_emod]
theorem Eqv.pow {a b : Int} (h : Eqv a b) (n : Nat) : Eqv (a ^ n) (b ^ n) := by
  induction n with
  | zero => rw [Int.pow_zero, Int.pow_zero]; exact Eqv.refl _
  | succ n ih => rw [Int.pow_succ, Int.pow_succ]; exact ih.mul h
theorem add_eqv {xs ys : List Int} (hx : El xs) (hy : El ys) : Eqv (ev (cy (plus xs ys))) (ev xs + ev ys) := (addL_el hx hy).2
theorem sub_eqv {xs ys : List Int} (hx : El xs) (hy : El ys) : Eqv (ev (cy (minus xs ys))) (ev xs - ev ys) := (subL_el hx hy).2
theorem neg_eqv {xs : List Int} (hx : El xs) : Eqv (ev (cy (minus (zeros 16) xs))) (- ev xs) := (negL_el hx).2
theorem mul_eqv {xs ys : List Int} (hx : El xs) (hy : El ys) : Eqv (ev (mulL xs ys)) (ev xs * ev ys) := (mulL_el hx hy).2
theorem red_iff {xs ys : List Int} (hx : El xs) (hy : El ys) : red xs = red ys ↔ Eqv (ev xs) (ev ys) := red_eq hx hy

/-- The number of bytes, the lowest first. -/
def bv : List Int → Int
  | [] => 0
  | b :: l => b + 256 * bv l
theorem bv_bd : ∀ l : List Int, Byt l → 0 ≤ bv l ∧ bv l < 256 ^ l.length
  | [], _ => by simp [bv]
  | x :: l, h => by
    have h1 := bv_bd l (fun y hy => h y (by simp [hy]))
    have h2 := h x (by simp)
    simp only [bv, List.length_cons, Int.pow_succ]
    omega
theorem bv_at : ∀ (l : List Int) (j : Nat), Byt l → bv l / 256 ^ j % 256 = l.getD j 0
  | [], j, _ => by simp [bv]
  | x :: l, 0, h => by
    have h2 := h x (by simp)
    simp only [bv, Int.pow_zero, Int.ediv_one]
    simp; omega
  | x :: l, j + 1, h => by
    have h1 := bv_at l j (fun y hy => h y (by simp [hy]))
    have h2 := h x (by simp)
    have e : (x + 256 * bv l) / 256 ^ (j + 1) = bv l / 256 ^ j := by
      have e1 : (x + 256 * bv l) / 256 = bv l := by omega
      rw [Int.pow_succ, Int.mul_comm ((256 : Int) ^ j), ← Int.ediv_ediv_of_nonneg (by omega : (0 : Int) ≤ 256), e1]
    simp only [bv]
    rw [e, h1]
    simp
theorem mod_div_pow (n : Int) (r : Nat) (h : r < 8) : n % 256 / 2 ^ r % 2 = n / 2 ^ r % 2 := by
  have : r = 0 ∨ r = 1 ∨ r = 2 ∨ r = 3 ∨ r = 4 ∨ r = 5 ∨ r = 6 ∨ r = 7 := by omega
  rcases this with rfl | rfl | rfl | rfl | rfl | rfl | rfl | rfl <;> simp <;> omega
theorem pow256 (j : Nat) : (256 : Int) ^ j = 2 ^ (8 * j) := by rw [Int.pow_mul]; rfl
theorem bit_eq (bs : List Int) (hb : Byt bs) (i : Nat) : bitAt bs i = bv bs / 2 ^ i % 2 := by
  unfold bitAt
  rw [← bv_at bs (i / 8) hb, mod_div_pow _ _ (by omega), pow256, Int.ediv_ediv_of_nonneg (Int.le_of_lt (Int.pow_pos (by omega))), ← Int.pow_add]
  congr 3
  omega
/-- Powers, the highest bit first. -/
theorem powL_eqv {xs bs : List Int} (hx : El xs) (hb : Byt bs) (hl : bs.length = 32) (k : Nat) (hk : k ≤ 256) : Eqv (ev (powL xs bs k)) (ev xs ^ (bv bs / 2 ^ (256 - k)).toNat) := by
  have hbd := bv_bd bs hb
  rw [hl, pow256] at hbd
  induction k with
  | zero =>
    have e : bv bs / 2 ^ (256 - 0) = 0 := Int.ediv_eq_zero_of_lt hbd.1 hbd.2
    rw [e]
    show Eqv (ev (smallL 1)) _
    rw [small_ev 1 (by omega)]
    show Eqv 1 (ev xs ^ 0)
    rw [Int.pow_zero]
    exact Eqv.refl _
  | succ k ih =>
    have h1 := ih (by omega)
    have hE := powL_el (bs := bs) hx k
    have hbit := bit_eq bs hb (255 - k)
    have hN : bv bs / 2 ^ (256 - k) = bv bs / 2 ^ (255 - k) / 2 := by
      rw [Int.ediv_ediv_of_nonneg (Int.le_of_lt (Int.pow_pos (by omega))), ← Int.pow_succ]
      congr 2; omega
    have e255 : 256 - (k + 1) = 255 - k := by omega
    rw [e255]
    rw [hN] at h1
    have hn0 : 0 ≤ bv bs / 2 ^ (255 - k) := Int.ediv_nonneg hbd.1 (Int.le_of_lt (Int.pow_pos (by omega)))
    obtain ⟨N, hNe⟩ := Int.eq_ofNat_of_zero_le hn0
    rw [hNe] at h1 hbit ⊢
    have t1 : ((N : Int) / 2).toNat = N / 2 := by omega
    have t2 : ((N : Int)).toNat = N := by omega
    rw [t1] at h1
    rw [t2]
    simp only [powL]
    have hsq := (mul_eqv hE hE).trans (h1.mul h1)
    rw [← Int.pow_add] at hsq
    by_cases hb1 : bitAt bs (255 - k) = 1
    · rw [if_pos hb1]
      have := (mul_eqv (mulL_el hE hE).1 hx).trans (hsq.mul (Eqv.refl _))
      rw [← Int.pow_succ] at this
      have e : (N / 2 + N / 2).succ = N := by omega
      rw [e] at this
      exact this
    · rw [if_neg hb1]
      have e : N / 2 + N / 2 = N := by omega
      rw [e] at hsq
      exact hsq
theorem powL_num {xs bs : List Int} (hx : El xs) (hb : Byt bs) (hl : bs.length = 32) : Eqv (ev (powL xs bs 256)) (ev xs ^ (bv bs).toNat) := by
  have h := powL_eqv hx hb hl 256 (by omega)
  rw [Nat.sub_self, Int.pow_zero, Int.ediv_one] at h
  exact h
end Go.Proofs.YtkblmdakejmmhaaDoor

/- Inverses modulo the prime; elements of bytes. -/
namespace Go.Proofs.YtkblmdakejmmhaaDoor

theorem pn_int : ((NT.PN : Nat) : Int) = P := by decide
theorem int_pow_mod (x : Int) (n : Nat) : Eqv (x ^ n) ((((x % P).toNat ^ n % NT.PN : Nat)) : Int) := by
  have h0 : 0 ≤ x % P := Int.emod_nonneg _ (by decide)
  have h1 : ((x % P).toNat : Int) = x % P := Int.toNat_of_nonneg h0
  unfold Eqv
  rw [Int.natCast_emod, pn_int, Int.emod_emod_of_dvd _ (Int.dvd_refl P), Int.natCast_pow, h1]
  exact Eqv.pow (show Eqv x (x % P) from (Int.emod_emod_of_dvd _ (Int.dvd_refl P)).symm) n
theorem not_zero {x : Int} (h : ¬ Eqv x 0) : 0 < (x % P).toNat ∧ (x % P).toNat < NT.PN := by
  have h0 : 0 ≤ x % P := Int.emod_nonneg _ (by decide)
  have h1 : x % P < P := Int.emod_lt_of_pos _ (by decide)
  have h2 : x % P ≠ 0 := fun e => h (by unfold Eqv; rw [e]; rfl)
  have h3 := pn_int
  constructor
  · omega
  · have : ((x % P).toNat : Int) < (NT.PN : Nat) := by rw [h3]; omega
    exact Int.ofNat_lt.1 this
theorem fermat_eqv {x : Int} (h : ¬ Eqv x 0) : Eqv (x ^ (NT.PN - 1)) 1 := by
  obtain ⟨h1, h2⟩ := not_zero h
  refine (int_pow_mod x _).trans ?_
  rw [NT.fermat _ h1 h2]
  exact Eqv.refl _
theorem bv_inv : (bv (onesL 235 127)).toNat = NT.PN - 2 := by decide +kernel
theorem bv_root : (bv (onesL 253 15)).toNat = (NT.PN - 5) / 8 := by decide +kernel
theorem byt_getD {bs : List Int} (hb : Byt bs) (i : Nat) : 0 ≤ bs.getD i 0 ∧ bs.getD i 0 < 256 := by
  rw [List.getD_eq_getElem?_getD]
  cases h : bs[i]? with
  | none => simp
  | some x => exact hb.at_ h
theorem ofL_dg {bs : List Int} (hb : Byt bs) : Dg (ofL bs) := by
  refine ⟨ofL_length bs, fun i x hi => ?_⟩
  have h15 : (dgs bs)[15]? = some ((dgs bs).getD 15 0) := getD_some (by rw [dgs_length]; omega)
  have key : ∀ (i : Nat) (x : Int), (dgs bs)[i]? = some x → 0 ≤ x ∧ x < 65536 := fun i x hi => by
    have h16 := (List.getElem?_eq_some_iff.1 hi).1
    rw [dgs_length] at h16
    rw [dgs_at bs h16] at hi
    have h1 := byt_getD hb (2 * i)
    have h2 := byt_getD hb (2 * i + 1)
    rw [← Option.some.inj hi]
    omega
  unfold ofL at hi
  by_cases e : 15 = i
  · subst e
    rw [List.getElem?_set_self (by rw [dgs_length]; omega)] at hi
    rw [← Option.some.inj hi]
    omega
  · rw [List.getElem?_set_ne e] at hi
    have := key i x hi
    omega
theorem ofL_el {bs : List Int} (hb : Byt bs) : El (ofL bs) := el_set (ofL_dg hb)
end Go.Proofs.YtkblmdakejmmhaaDoor

/- Roots of elements. -/
namespace Go.Proofs.YtkblmdakejmmhaaDoor
open Go.RowKit

def dblL (xs : List Int) : List Int := cy (plus xs xs)
def rbL (xs : List Int) : List Int := powL (dblL xs) (onesL 253 15) 256
def riL (xs : List Int) : List Int := mulL (mulL (dblL xs) (rbL xs)) (rbL xs)
def rtL (xs : List Int) : List Int := mulL (mulL xs (rbL xs)) (cy (minus (riL xs) (smallL 1)))
theorem dblL_el {xs : List Int} (h : El xs) : El (dblL xs) := (addL_el h h).1
theorem rbL_el {xs : List Int} (h : El xs) : El (rbL xs) := powL_el (dblL_el h) 256
theorem riL_el {xs : List Int} (h : El xs) : El (riL xs) := (mulL_el (mulL_el (dblL_el h) (rbL_el h)).1 (rbL_el h)).1
theorem one_el : El (smallL 1) := el_set (small_dg 1)
theorem rtL_el {xs : List Int} (h : El xs) : El (rtL xs) := (mulL_el (mulL_el h (rbL_el h)).1 (subL_el (riL_el h) one_el).1).1
theorem El.big {a : List Int} (h : El a) : Bd 100000000000000000 a := fun x hx => by have := h.bd x hx; omega
/-- Two results: a row in memory, and a slot. -/
theorem results_row2 {P : Program} {fn : Func} {p s : Tmp} {ty : TypeId} (h : fn.results = #[.cell p ty, .tmp s]) (tmps : Array Value) (w : World) (b o : Nat) (hp : tmps.getD p undef = .pointer (some ⟨b, o, none⟩)) (v : Value) (hs : tmps.getD s undef = v)
    (cs : List Value) (d : TypeDesc) (hc : w.rangeAt b o cs) (hu : P.underlying ty = some d) (hd : d.isRow = true) (hi : (P.info? ty).map (·.size) = some cs.length) :
    (results fn tmps).run P w = .ok (.tuple #[.agg cs.toArray, v]) w := by
  simp only [results, h]
  have hp2 : tmps[p]?.getD undef = .pointer (some ⟨b, o, none⟩) := by rw [← hp]; simp
  have hs2 : tmps[s]?.getD undef = v := by rw [← hs]; simp
  simp [hp2, hs2, asAddr, run_loadVar_mid w b o ty cs d hc hu hd hi]

def okL (xs : List Int) : Bool := decide (red (mulL (rtL xs) (rtL xs)) = red xs)
def oddL (xs : List Int) : Bool := (red (rtL xs)).getD 0 0 % 2 == 1
def ngL (xs : List Int) : List Int := cy (minus (zeros 16) (rtL xs))
end Go.Proofs.YtkblmdakejmmhaaDoor

/- What each function of the package returns, said of elements. -/
namespace Go.Proofs.YtkblmdakejmmhaaDoor
open Go.RowKit

theorem By.new (w : World) (l : List Int) (h : l.length = 32) : By (w.alloc (.cells (ints .u8 l).toArray 22)) w.heap.size l := ⟨Arr.made w .u8 l 22, h⟩
section
variable {xs ys bs : List Int}
theorem El.huge (h : El xs) : Bd 1000000000000000000 xs := fun x hx => by have := h.bd x hx; omega
theorem c_of (hl : bs.length = 32) (hb : Byt bs) : CallsTo 23 #[.agg (ints .u8 bs).toArray] (.agg (ints .i64 (ofL bs)).toArray) := fun w => of_any bs w hl hb
theorem c_small (n : Int) : CallsTo 24 #[.int .i64 n] (.agg (ints .i64 (smallL n)).toArray) := fun w => small_any n w
theorem c_add (hx : El xs) (hy : El ys) : CallsTo 41 #[.agg (ints .i64 xs).toArray, .agg (ints .i64 ys).toArray] (.agg (ints .i64 (cy (plus xs ys))).toArray) := fun w => add_any xs ys w hx.len hy.len hx.big hy.big
theorem c_sub (hx : El xs) (hy : El ys) : CallsTo 42 #[.agg (ints .i64 xs).toArray, .agg (ints .i64 ys).toArray] (.agg (ints .i64 (cy (minus xs ys))).toArray) := fun w => sub_any xs ys w hx.len hy.len hx.big hy.big
theorem c_mul (hx : El xs) (hy : El ys) : CallsTo 27 #[.agg (ints .i64 xs).toArray, .agg (ints .i64 ys).toArray] (.agg (ints .i64 (mulL xs ys)).toArray) := fun w => mul_any xs ys w hx.len hy.len hx.bd hy.bd
theorem c_inv (hx : El xs) : CallsTo 28 #[.agg (ints .i64 xs).toArray] (.agg (ints .i64 (invL xs)).toArray) := fun w => inverse_any xs w hx
theorem c_bytes (hx : El xs) : CallsTo 29 #[.agg (ints .i64 xs).toArray] (.agg (ints .u8 (byd (red xs))).toArray) := fun w => bytes_any xs w hx.len hx.huge
end
end Go.Proofs.YtkblmdakejmmhaaDoor

/- The reference's digits of bytes, and its number of bytes. -/
namespace Go.Proofs.YtkblmdakejmmhaaDoor
open Go.RowKit

end Go.Proofs.YtkblmdakejmmhaaDoor

/- The reference's number of bytes. -/
namespace Go.Proofs.YtkblmdakejmmhaaDoor
open Go.RowKit

theorem dg_nat {l : List Int} (h : Dg l) : ∃ a : List Nat, nl a = l ∧ Rp a (ev l).toNat := by
  have h1 : nl (l.map Int.toNat) = l := by
    unfold nl
    rw [List.map_map]
    conv => rhs; rw [← List.map_id l]
    refine List.map_congr_left fun x hx => ?_
    have := h.all x hx
    simp; omega
  refine ⟨l.map Int.toNat, h1, by rw [List.length_map]; exact h.1, fun v hv => ?_, ?_⟩
  · obtain ⟨x, hx, rfl⟩ := List.mem_map.1 hv
    have := h.all x hx
    omega
  · have h2 := ev_nl (l.map Int.toNat)
    rw [h1] at h2
    rw [h2]; simp
end Go.Proofs.YtkblmdakejmmhaaDoor

/- The reference's product. -/
namespace Go.Proofs.YtkblmdakejmmhaaDoor
open Go.RowKit

theorem e64 (T : Nat) (h : T < 4294967296) : Value.int .i64 (wrap64 ((T : Int) / 65536)) = Value.int .i64 ((T / 65536 : Nat) : Int) := by
  congr 1
  unfold wrap64
  omega
end Go.Proofs.YtkblmdakejmmhaaDoor

/- The reference's powers. -/
namespace Go.Proofs.YtkblmdakejmmhaaDoor
open Go.RowKit

end Go.Proofs.YtkblmdakejmmhaaDoor

/- Whether the reference takes a number for a square. -/
namespace Go.Proofs.YtkblmdakejmmhaaDoor
open Go.RowKit

theorem rp_inj {a b : List Nat} {n : Nat} (ha : Rp a n) (hb : Rp b n) : a = b := by
  have inj : ∀ (a b : List Nat), a.length = b.length → Digs a → Digs b → dv a = dv b → a = b := by
    intro a
    induction a with
    | nil => intro b hl _ _ _; exact (List.length_eq_zero_iff.1 hl.symm).symm
    | cons x a ih =>
      intro b hl ha hb he
      cases b with
      | nil => simp at hl
      | cons y b =>
        have h1 := ha x (by simp)
        have h2 := hb y (by simp)
        simp only [dv] at he
        have e1 : x = y := by omega
        have e2 : dv a = dv b := by omega
        rw [e1, ih b (by simpa using hl) (fun v hv => ha v (by simp [hv])) (fun v hv => hb v (by simp [hv])) e2]
  exact inj a b (by rw [ha.1, hb.1]) ha.2.1 hb.2.1 (by rw [ha.2.2, hb.2.2])
def MD : List Nat := 65516 :: (List.replicate 14 65535 ++ [32767])
def HD2 : List Nat := 65526 :: (List.replicate 14 65535 ++ [16383])
def isSq (m : Nat) : Bool := decide (m = 0) || decide (m ^ ((NT.PN - 1) / 2) % NT.PN = 1)
end Go.Proofs.YtkblmdakejmmhaaDoor

/- The number of an element, below the prime; its bytes; the calls' results by numbers. -/
namespace Go.Proofs.YtkblmdakejmmhaaDoor
open Go.RowKit

def dgN (m : Nat) : Nat → List Nat
  | 0 => []
  | k + 1 => m % 65536 :: dgN (m / 65536) k
theorem dgN_rp (k : Nat) : ∀ m, m < 65536 ^ k → (dgN m k).length = k ∧ Digs (dgN m k) ∧ dv (dgN m k) = m := by
  induction k with
  | zero => intro m h; simp at h; subst h; exact ⟨rfl, fun v hv => by simp [dgN] at hv, rfl⟩
  | succ k ih =>
    intro m h
    rw [Nat.pow_succ, Nat.mul_comm] at h
    obtain ⟨h1, h2, h3⟩ := ih (m / 65536) (by omega)
    refine ⟨by simp [dgN, h1], fun v hv => ?_, ?_⟩
    · rcases List.mem_cons.1 hv with e | e
      · omega
      · exact h2 v e
    · simp only [dgN, dv, h3]; omega
theorem Rp.eq {a : List Nat} {m : Nat} (h : Rp a m) : a = dgN m 16 := by
  have hl := dv_lt a h.2.1
  rw [h.1, h.2.2] at hl
  obtain ⟨h1, h2, h3⟩ := dgN_rp 16 m hl
  exact rp_inj h ⟨h1, h2, h3⟩
/-- The bytes of a number. -/
def rbytes (m : Nat) : List Int := byd (nl (dgN m 16))
theorem rbytes_length (m : Nat) : (rbytes m).length = 32 := byd_length _
/-- An element and its number. -/
def Nm (x : List Int) (m : Nat) : Prop := El x ∧ (ev x % P).toNat = m
theorem emod_nat (a : Int) : ((a % P).toNat : Int) = a % P := Int.toNat_of_nonneg (Int.emod_nonneg _ (by decide))
theorem Nm.int {x : List Int} {m : Nat} (h : Nm x m) : ev x % P = (m : Int) := by rw [← h.2, emod_nat]
theorem Nm.lt {x : List Int} {m : Nat} (h : Nm x m) : m < NT.PN := by
  have h1 : ev x % P < P := Int.emod_lt_of_pos _ (by decide)
  rw [h.int, ← pn_int] at h1
  exact Int.ofNat_lt.1 h1
theorem Nm.mk {x : List Int} {m : Nat} (h : El x) (e : ev x % P = (m : Int)) : Nm x m := ⟨h, by rw [e]; omega⟩
theorem Nm.of {x : List Int} (h : El x) : Nm x (ev x % P).toNat := ⟨h, rfl⟩
section
variable {x y : List Int} {m n : Nat}
theorem Nm.add (h : Nm x m) (k : Nm y n) : Nm (cy (plus x y)) ((m + n) % NT.PN) :=
  .mk (addL_el h.1 k.1).1 (by rw [(addL_el h.1 k.1).2, Int.add_emod, h.int, k.int, Int.natCast_emod, pn_int, Int.natCast_add])
theorem Nm.mul (h : Nm x m) (k : Nm y n) : Nm (mulL x y) (m * n % NT.PN) :=
  .mk (mulL_el h.1 k.1).1 (by rw [(mulL_el h.1 k.1).2, Int.mul_emod, h.int, k.int, Int.natCast_emod, pn_int, Int.natCast_mul])
theorem sub_int (m n : Nat) (hn : n < NT.PN) : (((m + NT.PN - n) % NT.PN : Nat) : Int) = ((m : Int) - n) % P := by
  rw [Int.natCast_emod, pn_int, Int.ofNat_sub (by omega), Int.natCast_add, pn_int, show (m : Int) + P - n = (m - n) + P by omega, Int.add_emod_right]
theorem Nm.sub (h : Nm x m) (k : Nm y n) : Nm (cy (minus x y)) ((m + NT.PN - n) % NT.PN) :=
  .mk (subL_el h.1 k.1).1 (by rw [(subL_el h.1 k.1).2, Int.sub_emod, h.int, k.int, sub_int m n k.lt])
theorem Nm.neg (h : Nm x m) : Nm (cy (minus (zeros 16) x)) ((0 + NT.PN - m) % NT.PN) :=
  .mk (negL_el h.1).1 (by rw [(negL_el h.1).2, sub_int 0 m h.lt, show -ev x = 0 - ev x by omega, Int.sub_emod, h.int]; rfl)
theorem Nm.pow (h : Nm x m) {bs : List Int} (hl : bs.length = 32) (hb : Byt bs) : Nm (powL x bs 256) (m ^ (bv bs).toNat % NT.PN) := by
  have h1 := (powL_num h.1 hb hl).trans (int_pow_mod (ev x) (bv bs).toNat)
  rw [h.2] at h1
  have h2 : ev (powL x bs 256) % P = ((m ^ (bv bs).toNat % NT.PN : Nat) : Int) % P := h1
  refine .mk (powL_el h.1 256) (h2.trans ?_)
  rw [← pn_int, ← Int.natCast_emod, Nat.mod_mod]
theorem Nm.inv (h : Nm x m) : Nm (invL x) (m ^ (NT.PN - 2) % NT.PN) := by
  have := h.pow (onesL_length 235 127) (onesL_byt (a := 235) (b := 127) (by omega) (by omega))
  rw [bv_inv] at this
  exact this
theorem Nm.small (n : Nat) (h : n < 65536) : Nm (smallL n) n := .mk (el_set (small_dg n)) (by
  rw [small_ev n (by omega)]
  apply Int.emod_eq_of_lt (by omega)
  have : (65536 : Int) < P := by decide
  omega)
theorem Nm.reds (h : Nm x m) : byd (red x) = rbytes m := by
  obtain ⟨hd, he⟩ := red_dg h.1
  obtain ⟨a, ha, hr⟩ := dg_nat hd
  rw [he, h.2] at hr
  unfold rbytes
  rw [← ha, hr.eq]
theorem Nm.bytes (h : Nm x m) : CallsTo 29 #[.agg (ints .i64 x).toArray] (.agg (ints .u8 (rbytes m)).toArray) := by
  have := c_bytes h.1
  rwa [h.reds] at this
theorem Nm.eqv (h : Nm x m) (k : Nm y n) : red x = red y ↔ m = n := by
  rw [red_eq h.1 k.1, h.int, k.int]
  omega
end
end Go.Proofs.YtkblmdakejmmhaaDoor
