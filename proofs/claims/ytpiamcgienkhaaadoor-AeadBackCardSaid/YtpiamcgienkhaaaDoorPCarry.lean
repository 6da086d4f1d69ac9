/- carry: digits carried in place. -/
import Derived.Test.YtpiamcgienkhaaaDoorPNum
import Derived.Test.YtpiamcgienkhaaaDoorBits
import Derived.Test.YtpiamcgienkhaaaDoorRows
import Derived.StillTailTactics
import Derived.Deep.QuietTactic
import Derived.BigQuiet
namespace Go.Proofs.YtpiamcgienkhaaaDoor
open Go.RowKit

set_option maxRecDepth 50000 in
theorem mask8 (t : Int) : bits .and .i64 t 255 = t % 256 := mask_i64 t 8 255 rfl (by omega)
set_option maxRecDepth 50000 in
theorem mask2 (t : Int) : bits .and .i64 t 3 = t % 4 := mask_i64 t 2 3 rfl (by omega)
set_option maxRecDepth 4000 in
set_option maxHeartbeats 1000000 in
theorem carry_any (b : Nat) (xs : List Int) (w : World) (hl : xs.length = 17) (hb : Bd 1152921504606846976 xs) (hA : Arr w b 0 .i64 xs) :
    Calls Tryd.prog 61 #[.pointer (some ⟨b, 0, none⟩)] w fun e w' => e = .returned (.tuple #[]) ∧ Arr w' b 0 .i64 (cy xs) ∧ Only b w w' := by
  have HL := hid hl
  have HB := hid hb
  clear hb hl
  go_enter Tryd.func61, Tryd.ntmps61
  go_wp2
  go_loopw [2, 5] (fun o i wr => ∃ k : Nat, k ≤ 16 ∧ i = .int .i64 k ∧ o = .int .i64 (cl xs k).2 ∧ Arr wr b 0 .i64 (cl xs k).1 ∧ Only b w wr) (fun _ i _ => 16 - (intOf i).toNat)
  case atStart => exact ⟨0, by omega, rfl, rfl, hA, Only.refl _ _⟩
  case round =>
    clear hA
    obtain ⟨k, hk, rfl, rfl, hA, hO⟩ := hrel
    rename World => W1
    have HS := hid (cl_small xs HB.out k (by rw [HL.out]; omega))
    by_cases hlt : k < 16
    · have HLL : Hid (k < (cl xs k).1.length) := hid (by rw [cl_length, HL.out]; omega)
      have HX0 : Hid ((cl xs k).1.getD k 0 = xs.getD k 0) := hid (by simp only [List.getD, cl_above xs k k (Nat.le_refl _)])
      have HXB : Hid (-1152921504606846976 ≤ xs.getD k 0 ∧ xs.getD k 0 ≤ 1152921504606846976) := hid (HB.out.at_ (getD_some (by rw [HL.out]; omega)))
      have HN : Hid (cl xs (k + 1) = ((cl xs k).1.set k (((cl xs k).1.getD k 0 + (cl xs k).2) % 256), ((cl xs k).1.getD k 0 + (cl xs k).2) / 256)) := hid rfl
      generalize hc : cl xs k = st at *
      have HC := hid hc
      clear hc
      rcases st with ⟨zs, o⟩
      dsimp only at *
      obtain ⟨x, cx, fx, HX⟩ := (hA.spot (i := k) HLL.out)
      rw [Nat.zero_add] at cx fx
      have HXE : Hid (zs.getD k 0 = x) := hid (by simp [List.getD, HX.out])
      obtain ⟨t, ht⟩ : ∃ t, t = x + o := ⟨_, rfl⟩
      have hwt : IntKind.i64.wrap (x + o) = t := by rw [IntWalk.i64_in _ (by have h1 := HXB.out; have h2 := HS.out; rw [← HX0.out, HXE.out] at h1; omega), ht]
      rw [HXE.out, ← ht] at HN
      have HT := hid ht
      clear ht
      have k0 : (0 : Int) ≤ k := by omega
      have k15 : (k : Int) < 16 := by omega
      have k16 : (k : Int) < 17 := by omega
      have hkw : IntKind.i64.wrap ((k : Int) + 1) = (k : Int) + 1 := IntWalk.i64_in _ (by omega)
      have hmk := mask8 t
      go_wp2
      go_still_tail 9, (by kernel_rfl)
      change wpList _ _ _ _ _ W1.drew
      have hA1 : Arr (W1.drew.setCell ⟨b, k, none⟩ (.int .i64 t)) b 0 .i64 (zs.set k t) := by have h := hA.drew.set k t; rw [Nat.zero_add] at h; exact h
      have hO1 : Only b w (W1.drew.setCell ⟨b, k, none⟩ (.int .i64 t)) := hO.drew.setCell (.inl rfl) _
      have hz : (zs.set k t)[k]? = some t := List.getElem?_set_self HLL.out
      have c1 := hA1.at_ hz
      have f1 := hA1.free (i := k) (by rw [List.length_set]; exact HLL.out)
      rw [Nat.zero_add] at c1 f1
      have cx1 : W1.drew.cell? ⟨b, k, none⟩ = some (.int .i64 x) := cx
      have fx1 : W1.drew.frozen? ⟨b, k, none⟩ = false := fx
      clear cx fx hz hA hO
      generalize W1.drew = W2 at *
      go_wp2
      generalize (W2.setCell ⟨b, k, none⟩ (.int .i64 t)) = W3 at *
      clear cx1 fx1
      go_still_tail 8, (by kernel_rfl)
      change wpList _ _ _ _ _ W3.drew
      have hA2 : Arr (W3.drew.setCell ⟨b, k, none⟩ (.int .i64 (t % 256))) b 0 .i64 (zs.set k (t % 256)) := by
        have h := hA1.drew.set k (t % 256)
        rw [Nat.zero_add, List.set_set] at h; exact h
      have hO2 : Only b w (W3.drew.setCell ⟨b, k, none⟩ (.int .i64 (t % 256))) := hO1.drew.setCell (.inl rfl) _
      have cx2 : W3.drew.cell? ⟨b, k, none⟩ = some (.int .i64 t) := c1
      have fx2 : W3.drew.frozen? ⟨b, k, none⟩ = false := f1
      clear c1 f1 hA1 hO1
      generalize W3.drew = W4 at *
      go_wp2
      go_roundw
      case rel => exact ⟨k + 1, by omega, by go_num, by rw [HN.out], by rw [HN.out]; exact hA2, hO2⟩
      case measure => simp [intOf]; omega
    · have e : k = 16 := by omega
      subst e
      have HLL : Hid ((cl xs 16).1.length = 17) := hid (by rw [cl_length, HL.out])
      have HX0 : Hid ((cl xs 16).1.getD 16 0 = xs.getD 16 0) := hid (by simp only [List.getD, cl_above xs 16 16 (Nat.le_refl _)])
      have HXB : Hid (-1152921504606846976 ≤ xs.getD 16 0 ∧ xs.getD 16 0 ≤ 1152921504606846976) := hid (HB.out.at_ (getD_some (by rw [HL.out]; omega)))
      have HLA : Hid (lastOf xs = (cl xs 16).1.getD 16 0 + (cl xs 16).2) := hid rfl
      have HCA : Hid (cyA xs = (cl xs 16).1.set 16 (lastOf xs % 4)) := hid rfl
      have HCY : Hid (cy xs = (cyA xs).set 0 ((cyA xs).getD 0 0 + 5 * (lastOf xs / 4))) := hid rfl
      generalize hc : cl xs 16 = st at *
      have HC := hid hc
      clear hc
      rcases st with ⟨zs, o⟩
      dsimp only at *
      obtain ⟨x, cx, fx, HX⟩ := (hA.spot (i := 16) (by rw [HLL.out]; omega))
      rw [Nat.zero_add] at cx fx
      have HXE : Hid (zs.getD 16 0 = x) := hid (by simp [List.getD, HX.out])
      obtain ⟨t, ht⟩ : ∃ t, t = x + o := ⟨_, rfl⟩
      have htb : -1162940000000000000 ≤ t ∧ t ≤ 1162940000000000000 := by have h1 := HXB.out; have h2 := HS.out; rw [← HX0.out, HXE.out] at h1; omega
      have hwt : IntKind.i64.wrap (x + o) = t := by rw [IntWalk.i64_in _ (by omega), ht]
      rw [HXE.out, ← ht] at HLA
      rw [HLA.out] at HCA HCY
      have HT := hid ht
      have HTB := hid htb
      clear ht htb
      have hmk := mask2 t
      have hA1 : Arr (W1.setCell ⟨b, 16, none⟩ (.int .i64 (t % 4))) b 0 .i64 (cyA xs) := by have h := hA.set 16 (t % 4); rw [Nat.zero_add] at h; rw [HCA.out]; exact h
      have hO1 : Only b w (W1.setCell ⟨b, 16, none⟩ (.int .i64 (t % 4))) := hO.setCell (.inl rfl) _
      obtain ⟨y, cy0, fy0, HY⟩ := hA1.spot (i := 0) (by rw [HCA.out]; simp [HLL.out])
      have HYE : Hid ((cyA xs).getD 0 0 = y) := hid (by simp [List.getD, HY.out])
      have HYB : Hid (0 ≤ y ∧ y < 256) := hid (by
        have h := cl_below xs 16 0 y (by omega) (by rw [HC.out]; have h := HY.out; rw [HCA.out, List.getElem?_set_ne (by omega)] at h; exact h)
        omega)
      rw [Nat.zero_add] at cy0 fy0
      obtain ⟨q, hq⟩ : ∃ q, q = t / 4 := ⟨_, rfl⟩
      have hq1 : t / 4 = q := hq.symm
      have HQ : Hid (-300000000000000000 ≤ q ∧ q ≤ 300000000000000000) := hid (by have := HTB.out; omega)
      have w1 : IntKind.i64.wrap (5 * q) = 5 * q := IntWalk.i64_in _ (by have := HQ.out; omega)
      have w2 : IntKind.i64.wrap (y + 5 * q) = y + 5 * q := IntWalk.i64_in _ (by have := HQ.out; have := HYB.out; omega)
      rw [hq1, HYE.out] at HCY
      have HQ1 := hid hq
      clear hq
      go_wp2
      generalize (W1.setCell ⟨b, 16, none⟩ (.int .i64 (t % 4))) = W2 at *
      clear cx fx hA hO
      go_still_tail 10, (by kernel_rfl)
      change wpList _ _ _ _ _ W2.drew
      have hA2 : Arr (W2.drew.setCell ⟨b, 0, none⟩ (.int .i64 (y + 5 * q))) b 0 .i64 (cy xs) := by
        have h := hA1.drew.set 0 (y + 5 * q)
        rw [Nat.zero_add] at h; rw [HCY.out]; exact h
      have hO2 : Only b w (W2.drew.setCell ⟨b, 0, none⟩ (.int .i64 (y + 5 * q))) := hO1.drew.setCell (.inl rfl) _
      have cx2 : W2.drew.cell? ⟨b, 0, none⟩ = some (.int .i64 y) := cy0
      have fx2 : W2.drew.frozen? ⟨b, 0, none⟩ = false := fy0
      clear cy0 fy0 hA1 hO1
      generalize W2.drew = W4 at *
      go_wp2
      go_end0
      exact ⟨rfl, hA2, hO2⟩
end Go.Proofs.YtpiamcgienkhaaaDoor
