/- The reference's sums modulo the order. -/
import Derived.Test.YtpaopdjbhmdfjaaDoorSRefOM
namespace Go.Proofs.YtpaopdjbhmdfjaaDoor
open Go.RowKit

theorem rdig_out {b : List Int} {w : World} (hl : b.length = 32) (hb : Byt b) : Calls Tryd.prog 8 #[.agg (ints .u8 b).toArray] w (ROut (bn b) w) := by
  obtain ⟨a, ha, hr⟩ := digits_of hl hb
  refine (rdigits_walk hl hb).mono fun e w' ⟨g, c, he, hO, hB⟩ => ⟨some ⟨g, 0, none⟩, c, a, he, hr, ?_, hB⟩
  rw [ha]
  exact hO.fresh
theorem SumI.end_ {l m ys : List Nat} {cy : Nat} (h : SumI l m ys cy 16) (hl : l.length = 16) (hm : m.length = 16) : (ys ++ [cy]).length = 17 ∧ Digs (ys ++ [cy]) ∧ dv (ys ++ [cy]) = dv l + dv m := by
  obtain ⟨a, b, c, e⟩ := h
  rw [List.take_of_length_le (by omega), List.take_of_length_le (by omega)] at e
  exact ⟨by simp [a], digs_snoc b (by omega), by rw [dv_snoc, a, e]⟩
set_option maxRecDepth 4000 in
set_option maxHeartbeats 2000000 in
theorem raddq_walk {al bl : List Int} {w : World} (la : al.length = 32) (lb : bl.length = 32) (ya : Byt al) (yb : Byt bl) : Calls Tryd.prog 32 #[.agg (ints .u8 al).toArray, .agg (ints .u8 bl).toArray] w fun e w' => e = .returned (.agg (ints .u8 (rbytes ((bn al + bn bl) % QN))).toArray) ∧ Below w.heap.size w w' := by
  obtain ⟨z22, s22⟩ := zero_of_info inf22
  have HBL := hid (rbytes_length ((bn al + bn bl) % QN))
  obtain ⟨rs, hrs⟩ : ∃ rs, rbytes ((bn al + bn bl) % QN) = rs := ⟨_, rfl⟩
  rw [hrs] at HBL
  have HRS := hid hrs
  have HKA := hid (fun w0 => rdig_out (w := w0) la ya)
  have HKB := hid (fun w0 => rdig_out (w := w0) lb yb)
  have h1 := ((Arr.made w .u8 al 22).alloc (.cells (ints .u8 bl).toArray 22)).alloc (.cells (ints .u8 (zeros 32)).toArray 22)
  have h2 := (Arr.made (w.alloc (.cells (ints .u8 al).toArray 22)) .u8 bl 22).alloc (.cells (ints .u8 (zeros 32)).toArray 22)
  have h3 := Arr.made ((w.alloc (.cells (ints .u8 al).toArray 22)).alloc (.cells (ints .u8 bl).toArray 22)) .u8 (zeros 32) 22
  simp only [World.size_alloc] at h2 h3
  have hW := ((below_new w (.cells (ints .u8 al).toArray 22)).alloc (by simp) (.cells (ints .u8 bl).toArray 22)).alloc (by simp; omega) (.cells (ints .u8 (zeros 32)).toArray 22)
  clear ya yb hrs
  go_enter Tryd.func32, Tryd.ntmps32
  go_wp2_with (first
    | (with_reducible refine wpList_load_mid (op := ⟨some 11, .load 22 (.tmp 2), _, _, _, _⟩) rfl 22 (.tmp 2) rfl w.heap.size 0 rfl (ints .u8 al) _ h1.range Tryd.underlying22 rfl (l22 la) ?_))
  generalize ((w.alloc (.cells (ints .u8 al).toArray 22)).alloc (.cells (ints .u8 bl).toArray 22)).alloc (.cells (ints .u8 (zeros 32)).toArray 22) = W0 at *
  refine (HKA.out _).mono ?_
  rintro e w1 ⟨AX, cx, xs, rfl, HX, hX, hb1⟩
  replace h2 := h2.below hb1 (h2.lt (by rw [lb]; omega))
  replace h3 := h3.below hb1 (h3.lt (by rw [zeros_len]; omega))
  replace hW := hW.trans (Below.mono hb1 hW.size)
  go_wp2_with (first
    | (with_reducible refine wpList_load_mid (op := ⟨some 13, .load 22 (.tmp 3), _, _, _, _⟩) rfl 22 (.tmp 3) rfl (w.heap.size + 1) 0 rfl (ints .u8 bl) _ h2.range Tryd.underlying22 rfl (l22 lb) ?_))
  refine (HKB.out _).mono ?_
  rintro e w2 ⟨AY, cy, ys, rfl, HY, hY, hb2⟩
  replace h3 := h3.below hb2 (h3.lt (by rw [zeros_len]; omega))
  replace hW := hW.trans (Below.mono hb2 hW.size)
  have hX2 := hX.nums.below hb2
  have hY2 := hY.nums
  have hR := h3
  clear h1 h2 h3 hX hY hb1 hb2 HKA HKB
  have HXL := hid HX.out.1
  have HYL := hid HY.out.1
  have HSE : Hid (∀ ys' cy', SumI xs ys ys' cy' 16 → (ys' ++ [cy']).length = 17 ∧ Digs (ys' ++ [cy']) ∧ dv (ys' ++ [cy']) = bn al + bn bl) := hid fun ys' cy' h => by
    have := h.end_ HX.out.1 HY.out.1
    rwa [HX.out.2.2, HY.out.2.2] at this
  go_wp2_with (fail)
  go_loopw [7, 8, 9] (fun v cv i wr => ∃ (k cyy : Nat) (zs : List Nat) (R : Option Addr) (n d : Nat), k ≤ 16 ∧ v = .slice R n d ∧ cv = .int .i64 cyy ∧ i = .int .i64 k ∧ Hid (SumI xs ys zs cyy k) ∧ Owns wr w2.heap.size 3 .i64 (.slice R n d) (nl zs) ∧ Below w2.heap.size w2 wr) (fun _ _ i _ => 16 - (intOf i).toNat)
  case atStart => exact ⟨0, 0, [], none, 0, 0, by omega, rfl, rfl, rfl, hid ⟨rfl, fun v hv => by simp at hv, by omega, by simp [dv]⟩, Owns.none_ _ _ _ _, Below.refl _ _⟩
  case round =>
    obtain ⟨k, cyy, zs, R, n, d, hk, rfl, rfl, rfl, HI, hO, hb⟩ := hrel
    rename World => W1
    have hsz := hb.size
    by_cases hlt : k < 16
    · obtain ⟨g, o, rfl, _, cA⟩ := (hX2.below hb).num (by rw [nl_length, HXL.out]; omega)
      obtain ⟨g2, o2, rfl, _, cB⟩ := (hY2.below hb).num (by rw [nl_length, HYL.out]; omega)
      have cx0 := cA k _ (nl_at (by rw [HXL.out]; exact hlt))
      have cy0 := cB k _ (nl_at (by rw [HYL.out]; exact hlt))
      have hxd := getD_dig HX.out.2.1 k
      have hyd := getD_dig HY.out.2.1 k
      have HN := hid (HI.out.step (by rw [HXL.out]; exact hlt) (by rw [HYL.out]; exact hlt) HX.out.2.1 HY.out.2.1)
      have hcy := HI.out.2.2.1
      have HZL : Hid ((nl zs).length = k) := hid (by rw [nl_length]; exact HI.out.1)
      have HW5 : Hid (∀ A' n' c' w2', Grew (W1) w2' (Value.slice R n d) (Value.slice A' n' c') → Below w2.heap.size w2 w2') := hid fun A' n' c' w2' hG => hb.trans (hG.below hsz (fun g hg => (hO.lt g hg).1))
      clear cA cB HI
      generalize xs.getD k 0 = x at *
      generalize ys.getD k 0 = y at *
      obtain ⟨t, ht⟩ : ∃ t, x + y + cyy = t := ⟨_, rfl⟩
      rw [ht] at HN
      have w1' : IntKind.i64.wrap ((x : Int) + y) = (x : Int) + y := IntWalk.i64_in _ (by omega)
      have w2' : IntKind.i64.wrap ((x : Int) + y + cyy) = (t : Int) := by rw [IntWalk.i64_in _ (by omega)]; omega
      have hnm : (t : Int) % 65536 = ((t % 65536 : Nat) : Int) := by omega
      have hnd : (t : Int) / 65536 = ((t / 65536 : Nat) : Int) := by omega
      have hnt : Int.tmod (t : Int) 65536 = ((t % 65536 : Nat) : Int) := by rw [Int.tmod_eq_emod_of_nonneg (by omega)]; omega
      have hnq : Int.tdiv (t : Int) 65536 = ((t / 65536 : Nat) : Int) := by rw [Int.tdiv_eq_ediv_of_nonneg (by omega)]; omega
      have HNB : Hid (t / 65536 ≤ 1) := hid (by omega)
      generalize t % 65536 = r at *
      generalize t / 65536 = q at *
      have hqw : IntKind.i64.wrap (q : Int) = (q : Int) := IntWalk.i64_in _ (by have := HNB.out; omega)
      have k0 : (0 : Int) ≤ k := by omega
      have k16 : (k : Int) < 16 := by omega
      clear ht hxd hyd hcy
      go_wp2
      go_quiet (fail)
      have hO1 := hO.drewN nq
      have hb1 := below_drewN hb nq
      have hsz1 : w2.heap.size ≤ (W1.drewN nq).heap.size := hsz
      clear cx0 cy0 hO hb hsz HW5
      generalize W1.drewN nq = W4 at *
      have HW5 : Hid (∀ A' n' c' w2', Grew W4 w2' (Value.slice R n d) (Value.slice A' n' c') → Below w2.heap.size w2 w2') := hid fun A' n' c' w2' hG => hb1.trans (hG.below hsz1 (fun g hg => (hO1.lt g hg).1))
      go_wp2_with (at_builtin; refine app_oneG rfl (.tmp 30) (.tmp 33) 32 rfl w2.heap.size 3 .i64 8 Tryd.underlying32 Tryd.info3 (by omega) R n d (nl zs) rfl hO1 _ 1 rfl (by rw [HZL.out]; omega) hsz1 ?_; intro A' n' c' w5 hO2 hG2)
      go_roundw
      case rel => exact ⟨k + 1, q, zs ++ [r], A', n', c', by omega, rfl, rfl, by go_num, HN, by rw [← nl_snoc]; exact hO2, HW5.out _ _ _ _ hG2⟩
      case measure => simp [intOf]; omega
    · have e : k = 16 := by omega
      subst e
      have HE := hid (HSE.out zs cyy HI.out)
      have HZL : Hid ((nl zs).length = 16) := hid (by rw [nl_length]; exact HI.out.1)
      have HCY : Hid (nl zs ++ [(cyy : Int)] = nl (zs ++ [cyy])) := hid (nl_snoc _ _)
      have HW5 : Hid (∀ A' n' c' w2', Grew W1 w2' (Value.slice R n d) (Value.slice A' n' c') → Below w2.heap.size w2 w2') := hid fun A' n' c' w2' hG => hb.trans (hG.below hsz (fun g hg => (hO.lt g hg).1))
      clear HI HSE HX HY hlt
      go_wp2_with (at_builtin; refine app_oneG rfl (.tmp 37) (.tmp 39) 32 rfl w2.heap.size 3 .i64 8 Tryd.underlying32 Tryd.info3 (by omega) R n d (nl zs) rfl hO _ 1 rfl (by rw [HZL.out]; omega) hsz ?_; intro A' n' c' w5 hO2 hG2; rw [HCY.out] at hO2)
      have hn := hO2.len
      rw [nl_length, HE.out.1] at hn
      subst hn
      have hb5 := HW5.out _ _ _ _ hG2
      have hR5 := hR.below hb5 (hR.lt (by rw [zeros_len]; omega))
      have hW5 := hW.trans (Below.mono hb5 hW.size)
      refine (modq_walk A' c' 17 w5 (zs ++ [cyy]) HE.out.1 (by omega) HE.out.2.1 hO2.nums).mono ?_
      rw [HE.out.2.2]
      rintro e w6 ⟨A2, c2, ys2, rfl, HY, hN2, hb6⟩
      have hR3 := hR5.below hb6 (hR5.lt (by rw [zeros_len]; omega))
      have hW3 := hW5.trans (Below.mono hb6 hW5.size)
      clear hR5 hW5 hb6 hO2 hG2 hb5 hR hW hX2 hY2 hO hb hsz
      go_wp2_with (fail)
      refine (rbytes_out (cA := c2) HY.out hN2.nums).mono ?_
      rw [HRS.out]
      rintro e w9 ⟨rfl, hb9⟩
      have hR9 := hR3.below hb9 (hR3.lt (by rw [zeros_len]; omega))
      have hW9 := hW3.trans (Below.mono hb9 hW3.size)
      have hs1 : w9.there (w.heap.size + 1 + 1) 0 (ints .u8 rs).toArray.size := hR9.room (by rw [zeros_len]; exact HBL.out)
      have hR5 := hR9.stored (l' := rs) (by rw [zeros_len]; exact HBL.out)
      have hW5 := Below.setCells hW9 (g := w.heap.size + 1 + 1) (by omega) 0 (ints .u8 rs).toArray.toList
      clear hR3 hW3 hb9 hR9 hW9 hN2
      go_wp2_with (first
        | (with_reducible refine wpList_store_mid (op := ⟨none, .store 22 (.tmp 4) (.tmp 42), _, _, _, _⟩) rfl 22 (.tmp 4) (.tmp 42) rfl (w.heap.size + 1 + 1) 0 (ints .u8 rs).toArray rfl rfl hs1 (a22 HBL.out) (ints_all _ _) ?_; generalize w9.setCells (w.heap.size + 1 + 1) 0 (ints .u8 rs).toArray.toList = W5 at *))
      exact ret_rows rfl (w.heap.size + 1 + 1) 0 rfl (ints .u8 rs) _ hR5.range Tryd.underlying22 rfl (l22 HBL.out) rfl ⟨by rw [HRS.out], hW5⟩
end Go.Proofs.YtpaopdjbhmdfjaaDoor
