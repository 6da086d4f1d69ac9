/- Texts of this proof, laid together: Fe, Bits, Carry, El. -/
import Derived.Test.YtkblmdakejmmhaaDoorG1
import Derived.Laws.BitsAllLaws
import Derived.Test.YtkblmdakejmmhaaDoorProg
import Derived.StillTailTactics
import Derived.Deep.QuietTactic
import Derived.BigQuiet
/- The digits of an element as numbers: carrying, and what it does to the number that they make. -/
namespace Go.Proofs.YtkblmdakejmmhaaDoor

def nl (l : List Nat) : List Int := l.map fun (v : Nat) => (v : Int)
@[simp] theorem nl_length (l : List Nat) : (nl l).length = l.length := by simp [nl]
theorem nl_at {l : List Nat} {i : Nat} (h : i < l.length) : (nl l)[i]? = some ((l.getD i 0 : Nat) : Int) := by simp [nl, h]
/-- The number that digits make, each of any size. -/
def ev : List Int → Int
  | [] => 0
  | a :: l => a + 65536 * ev l
theorem ev_nl (l : List Nat) : ev (nl l) = (dv l : Int) := by
  induction l with
  | nil => rfl
  | cons a l ih => simp only [nl, List.map_cons, ev, dv] at ih ⊢; rw [ih]; omega
theorem ev_set (l : List Int) : ∀ (p : Nat) (v v0 : Int), l[p]? = some v0 → ev (l.set p v) = ev l + (v - v0) * 65536 ^ p := by
  induction l with
  | nil => intro p v v0 h; simp at h
  | cons a l ih =>
    intro p v v0 h
    cases p with
    | zero => simp at h; subst h; simp [ev]; omega
    | succ p =>
      have h2 := ih p v v0 (by simpa using h)
      simp only [List.set_cons_succ, ev, h2, Int.pow_succ]
      rw [Int.mul_add]
      have e : (v - v0) * (65536 ^ p * 65536) = 65536 * ((v - v0) * 65536 ^ p) := by rw [← Int.mul_assoc, Int.mul_comm]
      rw [e]; omega
theorem ev_append (a b : List Int) : ev (a ++ b) = ev a + 65536 ^ a.length * ev b := by
  induction a with
  | nil => simp [ev]
  | cons x a ih =>
    simp only [List.cons_append, ev, ih, List.length_cons, Int.pow_succ]
    rw [Int.mul_add, ← Int.mul_assoc, Int.mul_comm 65536 (65536 ^ a.length)]
    omega

/-- Carried from the digits below place i. -/
def cl (xs : List Int) : Nat → List Int × Int
  | 0 => (xs, 0)
  | i + 1 => ((cl xs i).1.set i (((cl xs i).1.getD i 0 + (cl xs i).2) % 65536), ((cl xs i).1.getD i 0 + (cl xs i).2) / 65536)
/-- Carried: the last digit with what comes from below, the digits behind. -/
def lastOf (xs : List Int) : Int := (cl xs 15).1.getD 15 0 + (cl xs 15).2
def cyA (xs : List Int) : List Int := (cl xs 15).1.set 15 (lastOf xs % 32768)
def cy (xs : List Int) : List Int := (cyA xs).set 0 ((cyA xs).getD 0 0 + 19 * (lastOf xs / 32768))

theorem cl_length (xs : List Int) (i : Nat) : (cl xs i).1.length = xs.length := by
  induction i with
  | zero => rfl
  | succ i ih => simp [cl, ih]
theorem getD_some {l : List Int} {i : Nat} (h : i < l.length) : l[i]? = some (l.getD i 0) := by simp [h]
theorem cl_ev (xs : List Int) (i : Nat) (h : i ≤ xs.length) : ev (cl xs i).1 + 65536 ^ i * (cl xs i).2 = ev xs := by
  induction i with
  | zero => simp [cl]
  | succ i ih =>
    have h1 := ih (by omega)
    have hl : i < (cl xs i).1.length := by rw [cl_length]; omega
    simp only [cl]
    rw [ev_set _ _ _ _ (getD_some hl), ← h1]
    generalize (cl xs i).1.getD i 0 = x
    generalize (cl xs i).2 = o
    have e := Int.emod_add_mul_ediv (x + o) 65536
    generalize (x + o) % 65536 = m at *
    generalize (x + o) / 65536 = q at *
    rw [Int.pow_succ]
    have e2 : (m - x) = o - 65536 * q := by omega
    rw [e2, Int.sub_mul, Int.mul_assoc ((65536 : Int) ^ i), Int.mul_comm o, Int.mul_comm (65536 * q)]
    omega
/-- The digits above i are as they were; below they are digits. -/
theorem cl_above (xs : List Int) (i j : Nat) (h : i ≤ j) : (cl xs i).1[j]? = xs[j]? := by
  induction i with
  | zero => rfl
  | succ i ih =>
    simp only [cl]
    rw [List.getElem?_set_ne (by omega), ih (by omega)]
theorem cl_below (xs : List Int) (i j : Nat) (x : Int) (h : j < i) (hx : (cl xs i).1[j]? = some x) : 0 ≤ x ∧ x < 65536 := by
  induction i with
  | zero => omega
  | succ i ih =>
    simp only [cl] at hx
    by_cases e : i = j
    · subst e
      rw [List.getElem?_set] at hx
      simp only [if_true] at hx
      split at hx
      · injection hx with hx; omega
      · cases hx
    · rw [List.getElem?_set_ne e] at hx
      exact ih (by omega) hx
/-- What is carried stays small. -/
def Bd (b : Int) (xs : List Int) : Prop := ∀ x ∈ xs, -b ≤ x ∧ x ≤ b
theorem Bd.at_ {b : Int} {xs : List Int} (h : Bd b xs) {i : Nat} {x : Int} (hx : xs[i]? = some x) : -b ≤ x ∧ x ≤ b := h x (List.mem_of_getElem? hx)
theorem cl_small (xs : List Int) (h : Bd 1152921504606846976 xs) (i : Nat) (hi : i ≤ xs.length) : -17600000000000 ≤ (cl xs i).2 ∧ (cl xs i).2 ≤ 17600000000000 := by
  induction i with
  | zero => simp [cl]
  | succ i ih =>
    have h1 := ih (by omega)
    have hl : i < xs.length := by omega
    have hx := h.at_ (getD_some hl)
    have e : (cl xs i).1.getD i 0 = xs.getD i 0 := by simp only [List.getD, cl_above xs i i (Nat.le_refl _)]
    simp only [cl, e]
    omega
end Go.Proofs.YtkblmdakejmmhaaDoor

/- Bits of signed words: a mask of low bits, and the exchange by xor. No condition. -/
namespace Go.Proofs.YtkblmdakejmmhaaDoor
open Go

theorem wrap_toInt (v : BitVec 64) : IntKind.i64.wrap (v.toNat : Int) = v.toInt := by
  have h : v.toNat < 2 ^ 64 := v.isLt
  rw [BitVec.toInt_eq_toNat_cond]
  simp only [IntKind.wrap, IntKind.bits, IntKind.signed]
  simp
  split <;> split <;> omega
theorem bits64 (x y : Int) : bits .and .i64 x y = (BitVec.ofInt 64 x &&& BitVec.ofInt 64 y).toInt ∧ bits .xor .i64 x y = (BitVec.ofInt 64 x ^^^ BitVec.ofInt 64 y).toInt ∧ bits .or .i64 x y = (BitVec.ofInt 64 x ||| BitVec.ofInt 64 y).toInt :=
  ⟨wrap_toInt _, wrap_toInt _, wrap_toInt _⟩
theorem toInt_small (v : BitVec 64) (n : Nat) (h : v.toNat = n) (hn : n < 9223372036854775808) : v.toInt = n := by
  rw [BitVec.toInt_eq_toNat_cond, h]
  rw [if_pos (by omega)]
theorem mask_i64 (t : Int) (n : Nat) (m : Int) (hm : m = 2 ^ n - 1) (hn : n ≤ 62) : bits .and .i64 t m = t % 2 ^ n := by
  subst hm
  have hp : (2 : Nat) ^ n ≤ 2 ^ 62 := Nat.pow_le_pow_right (by omega) hn
  have hp1 : 0 < (2 : Nat) ^ n := Nat.pow_pos (by omega)
  have e : ((2 : Int) ^ n) = ((2 ^ n : Nat) : Int) := by simp
  have hd : (2 : Nat) ^ n ∣ 2 ^ 64 := Nat.pow_dvd_pow 2 (by omega)
  rw [(bits64 _ _).1]
  have h2 : (BitVec.ofInt 64 ((2 : Int) ^ n - 1)).toNat = 2 ^ n - 1 := by
    rw [BitVec.toNat_ofInt, e]
    have : (((2 ^ n : Nat) : Int) - 1) % (2 ^ 64 : Nat) = ((2 ^ n : Nat) : Int) - 1 := Int.emod_eq_of_lt (by omega) (by omega)
    rw [this]; omega
  have h3 : (BitVec.ofInt 64 t &&& BitVec.ofInt 64 ((2 : Int) ^ n - 1)).toNat = (t % 2 ^ n).toNat := by
    rw [BitVec.toNat_and, h2, Nat.and_two_pow_sub_one_eq_mod, BitVec.toNat_ofInt]
    have h4 : ((t % (2 ^ 64 : Nat)).toNat : Int) = t % (2 ^ 64 : Nat) := Int.toNat_of_nonneg (Int.emod_nonneg _ (by decide))
    have h5 : (((t % (2 ^ 64 : Nat)).toNat % 2 ^ n : Nat) : Int) = t % 2 ^ n := by
      rw [Int.natCast_emod, h4, e, Int.emod_emod_of_dvd _ (Int.natCast_dvd_natCast.2 hd)]
    omega
  have h6 : (t % 2 ^ n) < 2 ^ n := Int.emod_lt_of_pos _ (by rw [e]; omega)
  have h7 : 0 ≤ (t % 2 ^ n) := Int.emod_nonneg _ (by rw [e]; omega)
  rw [toInt_small _ _ h3 (by rw [e] at h6; omega)]
  omega
theorem mask16 (t : Int) : bits .and .i64 t 65535 = t % 65536 := mask_i64 t 16 65535 rfl (by omega)
theorem mask15 (t : Int) : bits .and .i64 t 32767 = t % 32768 := mask_i64 t 15 32767 rfl (by omega)
def In64 (x : Int) : Prop := -9223372036854775808 ≤ x ∧ x < 9223372036854775808
theorem toInt_ofInt {x : Int} (h : In64 x) : (BitVec.ofInt 64 x).toInt = x := by
  rw [BitVec.toInt_ofInt]
  exact Int.bmod_eq_of_le (by have := h.1; omega) (by have := h.2; omega)
/-- The exchange, done. -/
theorem xor_yes (x y : Int) (hy : In64 y) : bits .xor .i64 x (bits .and .i64 (-1) (bits .xor .i64 x y)) = y := by
  rw [(bits64 _ _).2.1, (bits64 _ _).1, (bits64 x y).2.1, BitVec.ofInt_toInt, BitVec.ofInt_toInt]
  have h1 : BitVec.ofInt 64 (-1) = BitVec.allOnes 64 := by decide
  rw [h1, BitVec.allOnes_and, ← BitVec.xor_assoc, BitVec.xor_self, BitVec.zero_xor, toInt_ofInt hy]
theorem xor_yes' (x y : Int) (hx : In64 x) : bits .xor .i64 y (bits .and .i64 (-1) (bits .xor .i64 x y)) = x := by
  rw [(bits64 _ _).2.1, (bits64 _ _).1, (bits64 x y).2.1, BitVec.ofInt_toInt, BitVec.ofInt_toInt]
  have h1 : BitVec.ofInt 64 (-1) = BitVec.allOnes 64 := by decide
  rw [h1, BitVec.allOnes_and, BitVec.xor_comm (BitVec.ofInt 64 x), ← BitVec.xor_assoc, BitVec.xor_self, BitVec.zero_xor, toInt_ofInt hx]
/-- The exchange, not done. -/
theorem xor_no (x y z : Int) (hz : In64 z) : bits .xor .i64 z (bits .and .i64 0 (bits .xor .i64 x y)) = z := by
  rw [(bits64 _ _).2.1, (bits64 _ _).1, BitVec.ofInt_toInt]
  have h1 : BitVec.ofInt 64 0 = 0#64 := by decide
  rw [h1, BitVec.zero_and, BitVec.xor_zero, toInt_ofInt hz]
theorem or16 (a b : Int) (ha : 0 ≤ a ∧ a < 256) (hb : 0 ≤ b ∧ b < 256) : bits .or .i64 a (256 * b) = a + 256 * b := by
  obtain ⟨a, rfl⟩ := Int.eq_ofNat_of_zero_le ha.1
  obtain ⟨b, rfl⟩ := Int.eq_ofNat_of_zero_le hb.1
  rw [(bits64 _ _).2.2]
  have e : (256 * (b : Int)) = ((2 ^ 8 * b : Nat) : Int) := by omega
  have h3 : (BitVec.ofInt 64 (a : Int) ||| BitVec.ofInt 64 (256 * (b : Int))).toNat = 2 ^ 8 * b + a := by
    rw [BitVec.toNat_or, e, BitVec.ofInt_natCast, BitVec.ofInt_natCast, BitVec.toNat_ofNat, BitVec.toNat_ofNat, Nat.mod_eq_of_lt (by omega), Nat.mod_eq_of_lt (by omega), Nat.or_comm, ← Nat.two_pow_add_eq_or_of_lt (by omega)]
  rw [toInt_small _ _ h3 (by omega)]
  omega
end Go.Proofs.YtkblmdakejmmhaaDoor

/- carry: digits carried in place. -/
namespace Go.Proofs.YtkblmdakejmmhaaDoor
open Go.RowKit

set_option maxRecDepth 4000 in
set_option maxHeartbeats 1000000 in
theorem carry_any (b : Nat) (xs : List Int) (w : World) (hl : xs.length = 16) (hb : Bd 1152921504606846976 xs) (hA : Arr w b 0 .i64 xs) :
    Calls Tryd.prog 44 #[.pointer (some ⟨b, 0, none⟩)] w fun e w' => e = .returned (.tuple #[]) ∧ Arr w' b 0 .i64 (cy xs) ∧ Only b w w' := by
  have HL := hid hl
  have HB := hid hb
  clear hb hl
  go_enter Tryd.func44, Tryd.ntmps44
  go_wp2
  go_loopw [2, 5] (fun o i wr => ∃ k : Nat, k ≤ 15 ∧ i = .int .i64 k ∧ o = .int .i64 (cl xs k).2 ∧ Arr wr b 0 .i64 (cl xs k).1 ∧ Only b w wr) (fun _ i _ => 15 - (intOf i).toNat)
  case atStart => exact ⟨0, by omega, rfl, rfl, hA, Only.refl _ _⟩
  case round =>
    clear hA
    obtain ⟨k, hk, rfl, rfl, hA, hO⟩ := hrel
    rename World => W1
    have HS := hid (cl_small xs HB.out k (by rw [HL.out]; omega))
    by_cases hlt : k < 15
    · have HLL : Hid (k < (cl xs k).1.length) := hid (by rw [cl_length, HL.out]; omega)
      have HX0 : Hid ((cl xs k).1.getD k 0 = xs.getD k 0) := hid (by simp only [List.getD, cl_above xs k k (Nat.le_refl _)])
      have HXB : Hid (-1152921504606846976 ≤ xs.getD k 0 ∧ xs.getD k 0 ≤ 1152921504606846976) := hid (HB.out.at_ (getD_some (by rw [HL.out]; omega)))
      have HN : Hid (cl xs (k + 1) = ((cl xs k).1.set k (((cl xs k).1.getD k 0 + (cl xs k).2) % 65536), ((cl xs k).1.getD k 0 + (cl xs k).2) / 65536)) := hid rfl
      generalize hc : cl xs k = st at *
      have HC := hid hc
      clear hc
      rcases st with ⟨zs, o⟩
      dsimp only at *
      obtain ⟨x, cx, fx, HX⟩ := (hA.spot (i := k) HLL.out)
      rw [Nat.zero_add] at cx fx
      have HXE : Hid (zs.getD k 0 = x) := hid (by simp [List.getD, HX.out])
      obtain ⟨t, ht⟩ : ∃ t, t = x + o := ⟨_, rfl⟩
      have hwt : IntKind.i64.wrap (x + o) = t := by rw [IntWalk.i64_in _ (by have h1 := HXB.out; have h2 := HS.out; rw [← HX0.out, HXE.out] at h1; omega), ht]
      rw [HXE.out, ← ht] at HN
      have HT := hid ht
      clear ht
      have k0 : (0 : Int) ≤ k := by omega
      have k15 : (k : Int) < 15 := by omega
      have k16 : (k : Int) < 16 := by omega
      have hkw : IntKind.i64.wrap ((k : Int) + 1) = (k : Int) + 1 := IntWalk.i64_in _ (by omega)
      have hmk := mask16 t
      go_wp2
      go_still_tail 9, (by kernel_rfl)
      change wpList _ _ _ _ _ W1.drew
      have hA1 : Arr (W1.drew.setCell ⟨b, k, none⟩ (.int .i64 t)) b 0 .i64 (zs.set k t) := by have h := hA.drew.set k t; rw [Nat.zero_add] at h; exact h
      have hO1 : Only b w (W1.drew.setCell ⟨b, k, none⟩ (.int .i64 t)) := hO.drew.setCell (.inl rfl) _
      have hz : (zs.set k t)[k]? = some t := List.getElem?_set_self HLL.out
      have c1 := hA1.at_ hz
      have f1 := hA1.free (i := k) (by rw [List.length_set]; exact HLL.out)
      rw [Nat.zero_add] at c1 f1
      have cx1 : W1.drew.cell? ⟨b, k, none⟩ = some (.int .i64 x) := cx
      have fx1 : W1.drew.frozen? ⟨b, k, none⟩ = false := fx
      clear cx fx hz hA hO
      generalize W1.drew = W2 at *
      go_wp2
      generalize (W2.setCell ⟨b, k, none⟩ (.int .i64 t)) = W3 at *
      clear cx1 fx1
      go_still_tail 8, (by kernel_rfl)
      change wpList _ _ _ _ _ W3.drew
      have hA2 : Arr (W3.drew.setCell ⟨b, k, none⟩ (.int .i64 (t % 65536))) b 0 .i64 (zs.set k (t % 65536)) := by
        have h := hA1.drew.set k (t % 65536)
        rw [Nat.zero_add, List.set_set] at h; exact h
      have hO2 : Only b w (W3.drew.setCell ⟨b, k, none⟩ (.int .i64 (t % 65536))) := hO1.drew.setCell (.inl rfl) _
      have cx2 : W3.drew.cell? ⟨b, k, none⟩ = some (.int .i64 t) := c1
      have fx2 : W3.drew.frozen? ⟨b, k, none⟩ = false := f1
      clear c1 f1 hA1 hO1
      generalize W3.drew = W4 at *
      go_wp2
      go_roundw
      case rel => exact ⟨k + 1, by omega, by go_num, by rw [HN.out], by rw [HN.out]; exact hA2, hO2⟩
      case measure => simp [intOf]; omega
    · have e : k = 15 := by omega
      subst e
      have HLL : Hid ((cl xs 15).1.length = 16) := hid (by rw [cl_length, HL.out])
      have HX0 : Hid ((cl xs 15).1.getD 15 0 = xs.getD 15 0) := hid (by simp only [List.getD, cl_above xs 15 15 (Nat.le_refl _)])
      have HXB : Hid (-1152921504606846976 ≤ xs.getD 15 0 ∧ xs.getD 15 0 ≤ 1152921504606846976) := hid (HB.out.at_ (getD_some (by rw [HL.out]; omega)))
      have HLA : Hid (lastOf xs = (cl xs 15).1.getD 15 0 + (cl xs 15).2) := hid rfl
      have HCA : Hid (cyA xs = (cl xs 15).1.set 15 (lastOf xs % 32768)) := hid rfl
      have HCY : Hid (cy xs = (cyA xs).set 0 ((cyA xs).getD 0 0 + 19 * (lastOf xs / 32768))) := hid rfl
      generalize hc : cl xs 15 = st at *
      have HC := hid hc
      clear hc
      rcases st with ⟨zs, o⟩
      dsimp only at *
      obtain ⟨x, cx, fx, HX⟩ := (hA.spot (i := 15) (by rw [HLL.out]; omega))
      rw [Nat.zero_add] at cx fx
      have HXE : Hid (zs.getD 15 0 = x) := hid (by simp [List.getD, HX.out])
      obtain ⟨t, ht⟩ : ∃ t, t = x + o := ⟨_, rfl⟩
      have htb : -1152940000000000000 ≤ t ∧ t ≤ 1152940000000000000 := by have h1 := HXB.out; have h2 := HS.out; rw [← HX0.out, HXE.out] at h1; omega
      have hwt : IntKind.i64.wrap (x + o) = t := by rw [IntWalk.i64_in _ (by omega), ht]
      rw [HXE.out, ← ht] at HLA
      rw [HLA.out] at HCA HCY
      have HT := hid ht
      have HTB := hid htb
      clear ht htb
      have hmk := mask15 t
      have hA1 : Arr (W1.setCell ⟨b, 15, none⟩ (.int .i64 (t % 32768))) b 0 .i64 (cyA xs) := by have h := hA.set 15 (t % 32768); rw [Nat.zero_add] at h; rw [HCA.out]; exact h
      have hO1 : Only b w (W1.setCell ⟨b, 15, none⟩ (.int .i64 (t % 32768))) := hO.setCell (.inl rfl) _
      obtain ⟨y, cy0, fy0, HY⟩ := hA1.spot (i := 0) (by rw [HCA.out]; simp [HLL.out])
      have HYE : Hid ((cyA xs).getD 0 0 = y) := hid (by simp [List.getD, HY.out])
      have HYB : Hid (-1152921504606846976 ≤ y ∧ y ≤ 1152921504606846976) := hid (by
        have h := cl_below xs 15 0 y (by omega) (by rw [HC.out]; have h := HY.out; rw [HCA.out, List.getElem?_set_ne (by omega)] at h; exact h)
        omega)
      rw [Nat.zero_add] at cy0 fy0
      obtain ⟨q, hq⟩ : ∃ q, q = t / 32768 := ⟨_, rfl⟩
      have hq1 : t / 32768 = q := hq.symm
      have HQ : Hid (-35190000000000 ≤ q ∧ q ≤ 35190000000000) := hid (by have := HTB.out; omega)
      have w1 : IntKind.i64.wrap (19 * q) = 19 * q := IntWalk.i64_in _ (by have := HQ.out; omega)
      have w2 : IntKind.i64.wrap (y + 19 * q) = y + 19 * q := IntWalk.i64_in _ (by have := HQ.out; have := HYB.out; omega)
      rw [hq1, HYE.out] at HCY
      have HQ1 := hid hq
      clear hq
      go_wp2
      generalize (W1.setCell ⟨b, 15, none⟩ (.int .i64 (t % 32768))) = W2 at *
      clear cx fx hA hO
      go_still_tail 10, (by kernel_rfl)
      change wpList _ _ _ _ _ W2.drew
      have hA2 : Arr (W2.drew.setCell ⟨b, 0, none⟩ (.int .i64 (y + 19 * q))) b 0 .i64 (cy xs) := by
        have h := hA1.drew.set 0 (y + 19 * q)
        rw [Nat.zero_add] at h; rw [HCY.out]; exact h
      have hO2 : Only b w (W2.drew.setCell ⟨b, 0, none⟩ (.int .i64 (y + 19 * q))) := hO1.drew.setCell (.inl rfl) _
      have cx2 : W2.drew.cell? ⟨b, 0, none⟩ = some (.int .i64 y) := cy0
      have fx2 : W2.drew.frozen? ⟨b, 0, none⟩ = false := fy0
      clear cy0 fy0 hA1 hO1
      generalize W2.drew = W4 at *
      go_wp2
      go_end0
      exact ⟨rfl, hA2, hO2⟩
end Go.Proofs.YtkblmdakejmmhaaDoor

/- Arrays of digits and of bytes: their types, and a new array that is stored. -/
namespace Go.Proofs.YtkblmdakejmmhaaDoor
open Go.RowKit

def zeros (n : Nat) : List Int := List.replicate n 0
theorem zeros_len (n : Nat) : (zeros n).length = n := by simp [zeros]
theorem inf24 : (Tryd.prog.info? 49).map (fun i => (i.zero, i.size)) = some (some (.agg (ints .i64 (zeros 16)).toArray), 16) := by kernel_rfl
theorem inf26 : (Tryd.prog.info? 51).map (fun i => (i.zero, i.size)) = some (some (.agg (ints .i64 (zeros 16)).toArray), 16) := by kernel_rfl
theorem inf22 : (Tryd.prog.info? 22).map (fun i => (i.zero, i.size)) = some (some (.agg (ints .u8 (zeros 32)).toArray), 32) := by kernel_rfl
theorem inf55 : (Tryd.prog.info? 75).map (fun i => (i.zero, i.size)) = some (some (.agg (ints .i64 (zeros 32)).toArray), 32) := by kernel_rfl
theorem siz {T n : Nat} {z : Value} {q : List Int} {k : IntKind} (h : (Tryd.prog.info? T).map (fun i => (i.zero, i.size)) = some (some z, n)) (hq : q.length = n) : (Tryd.prog.info? T).map (·.size) = some (ints k q).length ∧ (Tryd.prog.info? T).map (·.size) = some (ints k q).toArray.size := by
  cases hc : Tryd.prog.info? T with
  | none => rw [hc] at h; simp at h
  | some i =>
    rw [hc] at h
    simp only [Option.map_some, Option.some.injEq, Prod.mk.injEq] at h
    simp [h.2, hq]
theorem l24 {q : List Int} (h : q.length = 16) : (Tryd.prog.info? 49).map (·.size) = some (ints .i64 q).length := (siz inf24 h).1
theorem a24 {q : List Int} (h : q.length = 16) : (Tryd.prog.info? 49).map (·.size) = some (ints .i64 q).toArray.size := (siz inf24 h).2
theorem l26 {q : List Int} (h : q.length = 16) : (Tryd.prog.info? 51).map (·.size) = some (ints .i64 q).length := (siz inf26 h).1
theorem a26 {q : List Int} (h : q.length = 16) : (Tryd.prog.info? 51).map (·.size) = some (ints .i64 q).toArray.size := (siz inf26 h).2
theorem l22 {q : List Int} (h : q.length = 32) : (Tryd.prog.info? 22).map (·.size) = some (ints .u8 q).length := (siz inf22 h).1
theorem a22 {q : List Int} (h : q.length = 32) : (Tryd.prog.info? 22).map (·.size) = some (ints .u8 q).toArray.size := (siz inf22 h).2
/-- A value that is built of parts. -/
theorem wpList_built {P : Program} {ops : Array Oper} {rest : List Oper} {o : Oper} {a : Act} {w : World} {Q : Exit → Act → World → Prop} (hg : o.guard = none) (t : TypeId) (parts : Array (Nat × Operand)) (ho : o.op = .build t parts) (vals : List (Nat × Value)) (cells : Array Value)
    (hv : (parts.map fun (i, x) => (i, a.eval x)).toList = vals) (hb : P.built t vals = some cells) (h : wpList P ops Q rest (a.put o.dst (.agg cells)) w) : wpList P ops Q (o :: rest) a w := by
  refine wpList_plain hg fun _ hK => ?_
  rw [← hv] at hb
  unfold Oper.wp execOp
  simp only [ho, Sem.run_bind, run_build w t _ _ hb, Result.andThen_ok]
  exact hK _ _ h
/-- A store over a row of as many. -/
theorem Arr.room {w : World} {b o : Nat} {k k' : IntKind} {l l' : List Int} (h : Arr w b o k l) (e : l'.length = l.length) : w.there b o (ints k' l').toArray.size := by
  have := h.there
  simpa [e] using this
theorem Arr.stored {w : World} {b o : Nat} {k : IntKind} {l l' : List Int} (h : Arr w b o k l) (e : l'.length = l.length) : Arr (w.setCells b o (ints k l').toArray.toList) b o k l' := by
  have := h.all e
  simpa using this
theorem cy_length (xs : List Int) : (cy xs).length = xs.length := by simp [cy, cyA, cl_length]
theorem Bd.set {b : Int} {xs : List Int} (h : Bd b xs) (i : Nat) (x : Int) (hx : -b ≤ x ∧ x ≤ b) : Bd b (xs.set i x) := fun y hy => by
  rcases List.mem_or_eq_of_mem_set hy with h1 | h1
  · exact h y h1
  · rw [h1]; exact hx
/-- As reduced makes it. -/
def red (xs : List Int) : List Int := cy ((cy (xs.set 0 (xs.getD 0 0 + 19))).set 0 ((cy (xs.set 0 (xs.getD 0 0 + 19))).getD 0 0 - 19))
theorem red_length (xs : List Int) : (red xs).length = xs.length := by simp [red, cy_length]
/-- Carried digits are small. -/
theorem cy_small (xs : List Int) (hl : xs.length = 16) (h : Bd 1152921504606846976 xs) : Bd 700000000000000 (cy xs) := by
  have h1 := cl_small xs h 15 (by omega)
  have h2 := h.at_ (getD_some (l := xs) (i := 15) (by omega))
  have e : (cl xs 15).1.getD 15 0 = xs.getD 15 0 := by simp only [List.getD, cl_above xs 15 15 (Nat.le_refl _)]
  have h3 : Bd 65536 (cyA xs) := fun x hx => by
    obtain ⟨i, hi⟩ := List.getElem?_of_mem hx
    by_cases e15 : 15 = i
    · subst e15
      rw [cyA, List.getElem?_set_self (by rw [cl_length]; omega)] at hi
      injection hi with hi; omega
    · rw [cyA, List.getElem?_set_ne e15] at hi
      have hi2 := (List.getElem?_eq_some_iff.1 hi).1
      rw [cl_length] at hi2
      have := cl_below xs 15 i x (by omega) hi
      omega
  have h4 := h3.at_ (getD_some (l := cyA xs) (i := 0) (by simp [cyA, cl_length]; omega))
  refine Bd.set (fun y hy => ?_) 0 _ ?_
  · have := h3 y hy; omega
  · unfold lastOf; rw [e]; omega
end Go.Proofs.YtkblmdakejmmhaaDoor
