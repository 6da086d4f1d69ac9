/- The reference's number of bytes. -/
import Derived.Test.YtoncinbohfmciaaRefF
namespace Go.Proofs.Ytoncinbohfmciaa
open Go.RowKit

theorem dg_nat {l : List Int} (h : Dg l) : ∃ a : List Nat, nl a = l ∧ Rp a (ev l).toNat := by
  have h1 : nl (l.map Int.toNat) = l := by
    unfold nl
    rw [List.map_map]
    conv => rhs; rw [← List.map_id l]
    refine List.map_congr_left fun x hx => ?_
    have := h.all x hx
    simp; omega
  refine ⟨l.map Int.toNat, h1, by rw [List.length_map]; exact h.1, fun v hv => ?_, ?_⟩
  · obtain ⟨x, hx, rfl⟩ := List.mem_map.1 hv
    have := h.all x hx
    omega
  · have h2 := ev_nl (l.map Int.toNat)
    rw [h1] at h2
    rw [h2]; simp
set_option maxRecDepth 4000 in
set_option maxHeartbeats 1000000 in
theorem rof_walk {bs : List Int} {w : World} (hl : bs.length = 32) (hb : Byt bs) : Calls Try.prog 13 #[.agg (ints .u8 bs).toArray] w (ROut ((ev (ofL bs)).toNat % NT.PN) w) := by
  obtain ⟨a, ha, hr⟩ := dg_nat (ofL_dg hb)
  have HL := hid hl
  have HB := hid hb
  have HA := hid ha
  have HR := hid hr
  have hN := Arr.made w .u8 bs 22
  have hW := below_new w (.cells (ints .u8 bs).toArray 22)
  clear hl hb ha hr
  go_enter Try.func13, Try.ntmps13
  go_wp2_with (with_reducible refine wpList_load_mid (op := ⟨some 4, .load 22 (.tmp 1), _, _, _, _⟩) rfl 22 (.tmp 1) rfl w.heap.size 0 rfl (ints .u8 bs) _ (hN.range) Try.underlying22 rfl (l22 HL.out) ?_)
  generalize w.alloc (.cells (ints .u8 bs).toArray 22) = W0 at *
  refine (rdigits_walk HL.out HB.out).mono ?_
  rintro e w1 ⟨g, c, rfl, hO, hb1⟩
  have hb2 := hW.trans (hb1.mono hW.size)
  have hg := (hO.lt g rfl).1
  have hsz := hW.size
  clear hN
  have HO : Hid (ofL bs = (dgs bs).set 15 ((dgs bs).getD 15 0 % 32768)) := hid rfl
  obtain ⟨x, cx, fx, HX⟩ := hO.spot (j := 15) (by rw [dgs_length]; omega)
  have HXE : Hid ((dgs bs).getD 15 0 = x) := hid (by rw [List.getD_eq_getElem?_getD, HX.out]; rfl)
  rw [HXE.out] at HO
  have hx : 0 ≤ x := by
    have h1 := dgs_at bs (i := 15) (by omega)
    have h2 := byt_getD HB.out (2 * 15)
    have h3 := byt_getD HB.out (2 * 15 + 1)
    have h4 := HX.out
    rw [h1] at h4
    have h5 := Option.some.inj h4
    omega
  have hO2 := hO.store 15 (x % 32768)
  rw [← HO.out, ← HA.out] at hO2
  have hb3 := hb2.setCell (p := ⟨g, 15, none⟩) (by show w.heap.size ≤ g; omega) (.int .i64 (x % 32768))
  have HO2 := hid (hO2.nums)
  have HB3 := hid hb3
  clear hO hO2 hb1 hb2 hb3 hW
  go_wp2_with (fail)
  refine (rmod_out _ _ 16 _ a _ HR.out.1 (by omega) (by omega) HR.out.2.1 HO2.out HR.out.2.2).mono ?_
  rintro e3 w3 ⟨A3, c3, ys3, rfl, HY3, hN3, hb3⟩
  have hb4 := HB3.out.trans (hb3.mono HB3.out.size)
  have hN4 := hN3.less HB3.out.size
  go_wp2
  go_ret
  exact ROut.mk HY3.out hN4 hb4
end Go.Proofs.Ytoncinbohfmciaa
