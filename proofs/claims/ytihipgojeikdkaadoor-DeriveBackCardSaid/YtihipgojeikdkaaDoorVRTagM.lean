/- The reference's tag. -/
import Derived.Test.YtihipgojeikdkaaDoorG1
import Derived.Test.YtihipgojeikdkaaDoorVStepM
namespace Go.Proofs.YtihipgojeikdkaaDoor
open Go Go.RowKit

theorem cap_of {w : World} {b : Nat} {e : TypeId} {k : IntKind} {A : Option Addr} {n c : Nat} {xs : List Int} (h : Owns w b e k (.slice A n c) xs) : n ≤ c := by
  rcases h.2 with ⟨hv, h0⟩ | ⟨g, cap, cur, hv, _, _, hle, _⟩
  · injection hv; omega
  · injection hv; omega
theorem Rw.under {w w' : World} {b o B : Nat} {vs : List Value} (h : Rw w b o vs) (hb : Below B w w') (hlt : b < B) : Rw w' b o vs := h.same (hb.block b hlt)
set_option maxRecDepth 50000 in
set_option maxHeartbeats 4000000 in
theorem rvtag_core (key b I O h r : List Int) (A B : Option Addr) (l c n d : Nat) (w : World) (HK : Hid (key.length = l)) (h1 : l ≤ 1000) (hkb : HByt key) (hA : Nums w .u8 A key) (HB : Hid (b.length = n)) (hn : n ≤ 3000) (hbb : HByt b) (hB : Nums w .u8 B b)
    (HI : Hid (vxl 54 (fillV key) = I)) (HIL : Hid (I.length = 128)) (hIb : HByt I) (HO : Hid (vxl 92 (fillV key) = O)) (HOL : Hid (O.length = 128)) (hOb : HByt O) (Hh : Hid (hash (I ++ b) = h)) (HhL : Hid (h.length = 64)) (hhb : HByt h) (Hr : Hid (hash (O ++ h) = r)) (HrL : Hid (r.length = 64)) :
    Calls Tryd.prog 7 #[.slice A l c, .slice B n d] w fun e w' => e = .returned (.agg (ints .u8 r).toArray) ∧ Below w.heap.size w w' := by
  obtain ⟨z64, s64⟩ := zero_of_info infH
  have h4 := Rw.new w (ints .u8 (hzeros 64)) 25
  have hW := below_new w (.cells (ints .u8 (hzeros 64)).toArray 25)
  have hA0 : NumsD (w.heap.size + 1) w .u8 A key := (hA.under).more (by omega)
  replace hB := hB.below hW
  have hS : w.heap.size + 1 ≤ (w.alloc (.cells (ints .u8 (hzeros 64)).toArray 25)).heap.size := by simp
  have hA1 : NumsD (w.heap.size + 1) (w.alloc (.cells (ints .u8 (hzeros 64)).toArray 25)) .u8 A key := fun hp => by
    obtain ⟨b, off, e, hlt, hc⟩ := hA hp
    exact ⟨b, off, e, by omega, fun i hi => (hW.cell (p := ⟨b, off + i, none⟩) hlt).trans (hc i hi)⟩
  clear hA hA0
  go_enter Tryd.func7, Tryd.ntmps7
  go_wp2_with (first
    | (go_at_call 18; with_reducible refine (rsum_len A6 c6 192 (O ++ h) _ HL6 (by omega) hy6 hO6.nums).mono ?_
       rintro e w7 ⟨ys2, rfl, HY2, HYL2, hb7⟩
       rw [HY2.out, Hr.out]
       replace h4 := h4.next hb7
       replace hW := hW.trans (Below.mono hb7 hW.size)
       have R8 := h4.roomA (us := ints .u8 r) ((il HrL.out).trans (il (hz_len 64)).symm)
       have X8 := h4.storedA (us := ints .u8 r) ((il HrL.out).trans (il (hz_len 64)).symm)
       have hW2 := Below.setCells hW (g := w.heap.size) (Nat.le_refl _) 0 (ints .u8 r).toArray.toList
       clear hO6 hb7 h4 HY2 HYL2)
    | (at_builtin; refine app_nums rfl (.tmp 14) (.tmp 17) 22 rfl (w.heap.size + 1) 5 .u8 1 Tryd.underlying22 Tryd.info5 (by omega) A3 128 c3 O rfl hO3 A5 c5 h (by rw [HhL.out]; rfl) hO5.nums (by rw [HOL.out, HhL.out]; omega) (by omega) ?_
       intro A6 n6 c6 w6 hO6 hG6
       have hb6 : Below (w.heap.size + 1) w5 w6 := hG6.below (by omega) fun g e => (hO3.lt g e).1
       have hm6 := hO6.len
       rw [List.length_append, HOL.out, HhL.out] at hm6
       subst hm6
       have HL6 : Hid ((O ++ h).length = 192) := hid (by rw [List.length_append, HOL.out, HhL.out])
       have hy6 := hOb.app hhb
       replace h4 := h4.under hb6 (by omega)
       replace hW := hW.trans (Below.mono hb6 (by omega))
       clear hO3 hO5 hG6 hb6)
    | (go_at_call 17; refine (rlist_any ys _ HYL).mono ?_
       rintro e w5 ⟨A5, c5, rfl, hO5, hb5⟩
       rw [HY.out, Hh.out] at hO5
       replace h4 := h4.next hb5
       replace hO3 := hO3.stay hb5
       replace hW := hW.trans (Below.mono hb5 hW.size)
       replace hS := Nat.le_trans hS hb5.size
       clear hb5 HY HYL)
    | (go_at_call 18; with_reducible refine (rsum_len A2 d2 (128 + n) (I ++ b) _ HL2 (by omega) hy2 hO2.nums).mono ?_
       rintro e w4 ⟨ys, rfl, HY, HYL, hb4⟩
       replace h4 := h4.next hb4
       replace hO3 := hO3.stay hb4
       replace hW := hW.trans (Below.mono hb4 hW.size)
       replace hS := Nat.le_trans hS hb4.size
       clear hb4 hO2)
    | (go_at_call 16; with_reducible refine (rblk_any A c l key O 92 _ HK h1 hkb (by omega) (by omega) (hA2.nums hS) HO).mono ?_
       rintro e w3 ⟨A3, c3, rfl, hO3, hb3⟩
       replace hO3 := hO3.low hS
       replace h4 := h4.next hb3
       replace hO2 := hO2.stay hb3
       replace hW := hW.trans (Below.mono hb3 hW.size)
       replace hS := Nat.le_trans hS hb3.size
       clear hA2 hb3)
    | (go_at_call 16; generalize w.alloc (.cells (ints .u8 (hzeros 64)).toArray 25) = w0 at *; with_reducible refine (rblk_any A c l key I 54 _ HK h1 hkb (by omega) (by omega) (hA1.nums hS) HI).mono ?_
       rintro e w1 ⟨A1, c1, rfl, hO1, hb1⟩
       replace hO1 := hO1.low hS
       replace h4 := h4.next hb1
       replace hA1 := hA1.stay (hb1.mono hS)
       have hB1 := hB.below hb1
       replace hW := hW.trans (Below.mono hb1 hW.size)
       replace hS := Nat.le_trans hS hb1.size
       clear hB hb1)
    | (at_builtin; refine app_nums rfl (.tmp 9) (.tmp 10) 22 rfl (w.heap.size + 1) 5 .u8 1 Tryd.underlying22 Tryd.info5 (by omega) A1 128 c1 I rfl hO1 B d b (by rw [HB.out]; rfl) hB1 (by rw [HIL.out, HB.out]; omega) (by omega) ?_
       intro A2 n2 d2 w2 hO2 hG2
       have hb2 : Below (w.heap.size + 1) w1 w2 := hG2.below (by omega) fun g e => (hO1.lt g e).1
       have hm2 := hO2.len
       rw [List.length_append, HIL.out, HB.out] at hm2
       subst hm2
       have HL2 : Hid ((I ++ b).length = 128 + n) := hid (by rw [List.length_append, HIL.out, HB.out])
       have hy2 := hIb.app hbb
       have hA2 := hA1.stay hb2
       replace h4 := h4.under hb2 (by omega)
       replace hW := hW.trans (Below.mono hb2 (by omega))
       replace hS := Nat.le_trans hS hb2.size
       clear hO1 hG2 hb2 hB1 hA1)
    | (with_reducible refine wpList_store_mid (op := ⟨none, .store 25 (.tmp 4) (.tmp 20), _, _, _, _⟩) rfl 25 (.tmp 4) (.tmp 20) rfl w.heap.size 0 (ints .u8 r).toArray rfl rfl R8 (szA infH (il HrL.out)) (ints_all _ _) ?_; clear R8; generalize w7.setCells w.heap.size 0 (ints .u8 r).toArray.toList = w9 at *))
  exact ret_rows rfl w.heap.size 0 rfl (ints .u8 r) _ X8.range Tryd.underlying25 rfl (szV infH (il HrL.out)) rfl ⟨rfl, hW2⟩
theorem rvtag_any (key b r : List Int) (A B : Option Addr) (l c n d : Nat) (w : World) (HK : Hid (key.length = l)) (h1 : l ≤ 1000) (hkb : HByt key) (hA : Nums w .u8 A key) (HB : Hid (b.length = n)) (hn : n ≤ 3000) (hbb : HByt b) (hB : Nums w .u8 B b) (Hr : Hid (tagV key b = r)) :
    Calls Tryd.prog 7 #[.slice A l c, .slice B n d] w fun e w' => e = .returned (.agg (ints .u8 r).toArray) ∧ Below w.heap.size w w' :=
  rvtag_core key b (inV key) (outV key) (hash (inV key ++ b)) r A B l c n d w HK h1 hkb hA HB hn hbb hB (hid rfl) (hid (inV_len _)) (inV_byt _) (hid rfl) (hid (outV_len _)) (outV_byt _) (hid rfl) (hid (hash_len _)) (hash_byt _) Hr (hid (by rw [← Hr.out]; exact tagV_len _ _))
end Go.Proofs.YtihipgojeikdkaaDoor
