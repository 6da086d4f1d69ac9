/- Texts of this proof, laid together: RefC, RefD. -/
import Derived.Test.YtcoegehnipldpaaDoorRModM
/- The reference's small numbers, sums, differences, comparisons. -/
namespace Go.Proofs.YtcoegehnipldpaaDoor
open Go.RowKit

/-- Sixteen digits of a number. -/
def Rp (l : List Nat) (n : Nat) : Prop := l.length = 16 ∧ Digs l ∧ dv l = n
/-- A call returns new digits of a number. -/
def ROut (n : Nat) (w : World) (e : Ending) (w' : World) : Prop := ∃ A c ys, e = .returned (.slice A 16 c) ∧ Hid (Rp ys n) ∧ NumsF w.heap.size w' .i64 A (nl ys) ∧ Below w.heap.size w w'
theorem ROut.mk {n : Nat} {w w' : World} {A : Option Addr} {c : Nat} {ys : List Nat} (h : Rp ys n) (hN : NumsF w.heap.size w' .i64 A (nl ys)) (hb : Below w.heap.size w w') : ROut n w (.returned (.slice A 16 c)) w' := ⟨A, c, ys, rfl, h, hN, hb⟩
theorem pd_rp : Rp PD NT.PN := ⟨by decide, pd_digs, by decide⟩
theorem rless_out {A B : Option Addr} {cA cB m n : Nat} {a b : List Nat} {w : World} (ha : Rp a m) (hb : Rp b n) (h : n ≤ m) (hA : Nums w .i64 A (nl a)) (hB : Nums w .i64 B (nl b)) : Calls Tryd.prog 26 #[.slice A 16 cA, .slice B 16 cB] w (ROut (m - n) w) :=
  (le_any A B cA cB 16 a b w ha.1 hb.1 (by omega) ha.2.1 hb.2.1 (by rw [ha.2.2, hb.2.2]; exact h) hA hB).mono fun e w' ⟨A, c, ys, he, hy, hN, hbl⟩ => ⟨A, c, ys, he, ⟨hy.1, hy.2.1, by rw [hy.2.2, ha.2.2, hb.2.2]⟩, hN, hbl⟩
theorem ral_out {A B : Option Addr} {cA cB m n : Nat} {a b : List Nat} {w : World} (ha : Rp a m) (hb : Rp b n) (hA : Nums w .i64 A (nl a)) (hB : Nums w .i64 B (nl b)) : Calls Tryd.prog 12 #[.slice A 16 cA, .slice B 16 cB] w fun e w' => e = .returned (.bool (decide (n ≤ m))) ∧ Below w.heap.size w w' :=
  (al_any A B cA cB 16 a b w ha.1 hb.1 (by omega) ha.2.1 hb.2.1 hA hB).mono fun e w' ⟨x, he, hy, hw⟩ => ⟨by rw [he, hy.out, ha.2.2, hb.2.2], hw.below⟩
theorem make28 (n : Nat) (h : n ≤ 1000) (w : World) : (Instr.makeSlice 30 (.int .i64 (n : Int)) (.int .i64 (n : Int))).run Tryd.prog w = .ok (.slice (some ⟨w.heap.size, 0, none⟩) n n) (w.alloc (.cells (ints .i64 (nl (List.replicate n 0))).toArray 3)) := by
  have hi := Tryd.info3
  cases hc : Tryd.prog.info? 3 with
  | none => rw [hc] at hi; simp at hi
  | some i =>
    rw [hc] at hi
    simp only [Option.map_some, Option.some.injEq, Prod.mk.injEq] at hi
    have h2 := run_make (P := Tryd.prog) w 30 3 i (.int .i64 0) (by kernel_rfl) hc hi.1 .i64 .i64 n n (by omega) (by omega) (by rw [hi.2.2]; omega) (by omega)
    rw [h2, hi.2.1]
    simp only [Int.toNat_natCast, Nat.mul_one]
    congr 3
    apply Array.toList_inj.1
    show (madeCells #[.int .i64 0] n).toList = _
    rw [toList_madeCells_one]
    simp [ints, nl]
theorem small_rp {n : Nat} (h : n < 65536) : Rp ((List.replicate 16 0).set 0 n) n := by
  refine ⟨by simp, set_digs (fun v hv => by have := List.eq_of_mem_replicate hv; omega) _ _ h, ?_⟩
  have e : (List.replicate 16 0).set 0 n = n :: List.replicate 15 0 := rfl
  have h0 := dv_zeros [] 15
  rw [List.nil_append] at h0
  rw [e, dv, h0]
  simp [dv]
theorem sub_mod {m n : Nat} (hn : n < NT.PN) (h : ¬ n ≤ m) : NT.PN - (n - m) = (m + NT.PN - n) % NT.PN := by
  rw [Nat.mod_eq_of_lt (by omega)]; omega
theorem sub_mod' {m n : Nat} (hm : m < NT.PN) (h : n ≤ m) : m - n = (m + NT.PN - n) % NT.PN := by
  rw [show m + NT.PN - n = (m - n) + NT.PN by omega, Nat.add_mod_right, Nat.mod_eq_of_lt (by omega)]
end Go.Proofs.YtcoegehnipldpaaDoor

/- The reference's sum, its bytes, and its numbers of bytes. -/
namespace Go.Proofs.YtcoegehnipldpaaDoor
open Go.RowKit

/-- What has been added, digit by digit. -/
def SumI (l m ys : List Nat) (cy k : Nat) : Prop := ys.length = k ∧ Digs ys ∧ cy ≤ 1 ∧ dv ys + cy * 65536 ^ k = dv (l.take k) + dv (m.take k)
theorem SumI.step {l m ys : List Nat} {cy k : Nat} (h : SumI l m ys cy k) (h1 : k < l.length) (h2 : k < m.length) (dl : Digs l) (dm : Digs m) : SumI l m (ys ++ [(l.getD k 0 + m.getD k 0 + cy) % 65536]) ((l.getD k 0 + m.getD k 0 + cy) / 65536) (k + 1) := by
  obtain ⟨a, b, c, e⟩ := h
  have g1 : l[k]? = some (l.getD k 0) := by rw [List.getD_eq_getElem?_getD, List.getElem?_eq_getElem h1]; rfl
  have g2 : m[k]? = some (m.getD k 0) := by rw [List.getD_eq_getElem?_getD, List.getElem?_eq_getElem h2]; rfl
  have hx := getD_dig dl k
  have hy := getD_dig dm k
  refine ⟨by simp [a], digs_snoc b (Nat.mod_lt _ (by omega)), by omega, ?_⟩
  rw [dv_snoc, a, dv_take_succ l k _ g1, dv_take_succ m k _ g2, Nat.pow_succ]
  generalize l.getD k 0 = x at *
  generalize m.getD k 0 = y at *
  have hdm := Nat.div_add_mod (x + y + cy) 65536
  generalize (x + y + cy) % 65536 = r at *
  generalize (x + y + cy) / 65536 = q at *
  generalize 65536 ^ k = P at *
  have h3 : (65536 * q + r) * P = (x + y + cy) * P := by rw [hdm]
  have h4 : q * (P * 65536) = 65536 * q * P := by rw [Nat.mul_comm P, ← Nat.mul_assoc, Nat.mul_comm q]
  rw [Nat.add_mul, Nat.add_mul, Nat.add_mul] at h3
  rw [h4]
  omega
end Go.Proofs.YtcoegehnipldpaaDoor
