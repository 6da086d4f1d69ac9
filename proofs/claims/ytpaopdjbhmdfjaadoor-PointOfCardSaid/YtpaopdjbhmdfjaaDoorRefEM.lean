/- The reference's bytes of a number. -/
import Derived.Test.YtpaopdjbhmdfjaaDoorG4
import Derived.Test.YtpaopdjbhmdfjaaDoorG1
namespace Go.Proofs.YtpaopdjbhmdfjaaDoor
open Go.RowKit

set_option maxRecDepth 4000 in
set_option maxHeartbeats 1000000 in
theorem rbytes_walk {A : Option Addr} {cA m : Nat} {a : List Nat} {w : World} (ha : Rp a m) (hA : Nums w .i64 A (nl a)) : Calls Tryd.prog 34 #[.slice A 16 cA] w fun e w' => e = .returned (.agg (ints .u8 (byd (nl a))).toArray) ∧ Below w.heap.size w w' := by
  obtain ⟨z22, s22⟩ := zero_of_info inf22
  have HA := hid ha
  have hR := (Arr.made w .u8 (zeros 32) 22).alloc (.cells (ints .u8 (zeros 32)).toArray 22)
  have hD := Arr.made (w.alloc (.cells (ints .u8 (zeros 32)).toArray 22)) .u8 (zeros 32) 22
  have hW := (below_new w (.cells (ints .u8 (zeros 32)).toArray 22)).alloc (by simp) (.cells (ints .u8 (zeros 32)).toArray 22)
  rw [World.size_alloc] at hD
  have hAl : (nl a).length = 16 := by rw [nl_length]; exact ha.1
  obtain ⟨g, o, rfl, hg, hc⟩ := hA.num (by omega)
  obtain ⟨ds, hds⟩ : ∃ ds, ds = nl a := ⟨_, rfl⟩
  have HD0 : Hid (∀ i, i < 16 → ∃ d : Nat, ds[i]? = some (d : Int) ∧ d < 65536 ∧ ds.getD i 0 = d) := hid fun i hi => by
    refine ⟨a.getD i 0, ?_, getD_dig ha.2.1 i, ?_⟩
    · rw [hds]; exact nl_at (by rw [ha.1]; exact hi)
    · rw [hds]
      have := nl_at (l := a) (i := i) (by rw [ha.1]; exact hi)
      rw [List.getD_eq_getElem?_getD, this]; rfl
  rw [← hds] at hA hAl hc ⊢
  have hN := hA.below hW
  clear ha hc hds hA hAl
  have HZ : Hid (zeros 32 = fillK (byd ds) 0) := hid (by rw [fillK_zero, byd_length]; rfl)
  rw [HZ.out] at hD
  have HBL := hid (byd_length ds)
  have HE : Hid (∀ i, i < 16 → (byd ds)[2 * i]? = some (ds.getD i 0 % 256)) := hid fun i h => byd_even _ h
  have HO : Hid (∀ i, i < 16 → (byd ds)[2 * i + 1]? = some (ds.getD i 0 / 256 % 256)) := hid fun i h => byd_odd _ h
  go_enter Tryd.func34, Tryd.ntmps34
  go_wp2
  go_loopw [4] (fun i wr => ∃ k : Nat, k ≤ 16 ∧ i = .int .i64 k ∧ Nums wr .i64 (some ⟨g, o, none⟩) ds ∧ Arr wr w.heap.size 0 .u8 (zeros 32) ∧ Arr wr (w.heap.size + 1) 0 .u8 (fillK (byd ds) (2 * k)) ∧ Below w.heap.size w wr) (fun i _ => 16 - (intOf i).toNat)
  case atStart => exact ⟨0, by omega, rfl, hN, hR, hD, hW⟩
  case round =>
    clear hN hR hD hW
    obtain ⟨k, hk, rfl, hN, hR, hD, hW⟩ := hrel
    rename World => W1
    by_cases hlt : k < 16
    · obtain ⟨d, hx, hd, hgd⟩ := HD0.out k hlt
      have hck : W1.cell? ⟨g, o + k, none⟩ = some (.int .i64 (d : Int)) := by
        obtain ⟨g2, o2, e2, _, hc⟩ := hN.num (by have := (List.getElem?_eq_some_iff.1 hx).1; omega)
        injection e2 with e2
        injection e2 with e2 e3
        subst e2 e3
        exact hc k _ hx
      have hv1 := HE.out k hlt
      have hv2 := HO.out k hlt
      rw [hgd] at hv1 hv2
      have HV1 := hid hv1
      have HV2 := hid hv2
      obtain ⟨z, cz, fz, _⟩ := hD.spot (i := 2 * k) (by rw [fillK_length, HBL.out]; omega)
      obtain ⟨z2, cz2, fz2, _⟩ := hD.spot (i := 2 * k + 1) (by rw [fillK_length, HBL.out]; omega)
      rw [Nat.zero_add] at cz fz cz2 fz2
      clear hv1 hv2 hx hgd
      obtain ⟨p, hp⟩ : ∃ p, p = 2 * k := ⟨_, rfl⟩
      obtain ⟨q, hq⟩ : ∃ q, q = p + 1 := ⟨_, rfl⟩
      have hwp : IntKind.i64.wrap (2 * (k : Int)) = (p : Int) := by rw [IntWalk.i64_in _ (by omega)]; omega
      have hwq : IntKind.i64.wrap ((p : Int) + 1) = (q : Int) := by rw [IntWalk.i64_in _ (by omega)]; omega
      have hwk : IntKind.i64.wrap ((k : Int) + 1) = (k : Int) + 1 := IntWalk.i64_in _ (by omega)
      rw [← hp] at cz fz cz2 fz2 HV1 HV2 hD
      rw [← hq] at cz2 fz2 HV2
      have k0 : (0 : Int) ≤ k := by omega
      have k16 : (k : Int) < 16 := by omega
      have p0 : (0 : Int) ≤ p := by omega
      have p32 : (p : Int) < 32 := by omega
      have q0 : (0 : Int) ≤ q := by omega
      have q32 : (q : Int) < 32 := by omega
      have pq : p ≠ q := by omega
      have HPQ := hid (And.intro hp hq)
      have hgn : g ≠ w.heap.size + 1 := by omega
      have hm1 : IntKind.u8.wrap ((d : Int) % 256) = (d : Int) % 256 := IntWalk.u8_in _ (by omega)
      have hm2 : IntKind.u8.wrap ((d : Int) / 256) = (d : Int) / 256 % 256 := by rw [IntWalk.u8_in _ (by omega)]; omega
      clear hp hq
      have hD1 := (hD.set p ((d : Int) % 256)).set q ((d : Int) / 256 % 256)
      rw [Nat.zero_add, Nat.zero_add, fillK_set _ HV1.out, ← HPQ.out.2, fillK_set _ HV2.out, show q + 1 = 2 * (k + 1) by have := HPQ.out; omega] at hD1
      go_wp2
      go_roundw
      case rel =>
        refine ⟨k + 1, by omega, by go_num, (hN.setOff _ (by show w.heap.size + 1 ≠ g; omega)).setOff _ (by show w.heap.size + 1 ≠ g; omega), (hR.apart _ (.inl (by show w.heap.size + 1 ≠ w.heap.size; omega))).apart _ (.inl (by show w.heap.size + 1 ≠ w.heap.size; omega)), hD1, (hW.setCell (by show w.heap.size ≤ w.heap.size + 1; omega) _).setCell (by show w.heap.size ≤ w.heap.size + 1; omega) _⟩
      case measure => simp [intOf]; omega
    · have e : k = 16 := by omega
      subst e
      have HF : Hid (fillK (byd ds) 32 = byd ds) := hid (by have := fillK_end (byd ds); rw [HBL.out] at this; exact this)
      rw [show 2 * 16 = 32 from rfl, HF.out] at hD
      have hs1 : W1.there w.heap.size 0 (ints .u8 (byd ds)).toArray.size := hR.room (by rw [zeros_len]; exact HBL.out)
      have hR2 := hR.stored (l' := byd ds) (by rw [zeros_len]; exact HBL.out)
      have hW2 := Below.setCells hW (g := w.heap.size) (by omega) 0 (ints .u8 (byd ds)).toArray.toList
      clear hN hR HE HO HD0
      go_wp2_with (first
        | (with_reducible refine wpList_load_mid (op := ⟨some 28, .load 22 (.tmp 3), _, _, _, _⟩) rfl 22 (.tmp 3) rfl (w.heap.size + 1) 0 rfl (ints .u8 (byd ds)) _ (hD.range) Tryd.underlying22 rfl (l22 HBL.out) ?_)
        | (with_reducible refine wpList_store_mid (op := ⟨none, .store 22 (.tmp 2) (.tmp 28), _, _, _, _⟩) rfl 22 (.tmp 2) (.tmp 28) rfl w.heap.size 0 (ints .u8 (byd ds)).toArray rfl rfl hs1 (a22 HBL.out) (ints_all _ _) ?_; generalize W1.setCells w.heap.size 0 (ints .u8 (byd ds)).toArray.toList = W5 at *))
      exact ret_rows rfl w.heap.size 0 rfl (ints .u8 (byd ds)) _ hR2.range Tryd.underlying22 rfl (l22 HBL.out) rfl ⟨rfl, hW2⟩
end Go.Proofs.YtpaopdjbhmdfjaaDoor
