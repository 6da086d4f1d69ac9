/- mix: a block is added and multiplied. -/
import Derived.Test.YthohfhloobmlpaaPTag
namespace Go.Proofs.Ythohfhloobmlpaa
open Go Go.RowKit

theorem zeros_pad : zeros 17 = padB [] := by simp [padB]
set_option maxRecDepth 8000 in
set_option maxHeartbeats 4000000 in
theorem mix_core (b : Nat) (s t blk x y r : List Int) (fl : Nat) (w : World) (hH : Tgr w b s t blk fl) (hfl : fl ≤ 16) (HX : Hid (blk.set fl 1 = x))
    (HRL : Hid (r.length = 17)) (HRB : Hid (Byt r)) (KA : Hid (CallsTo 11 #[.agg (ints .u8 s).toArray, .agg (ints .u8 x).toArray] (.agg (ints .u8 y).toArray))) (KM : Hid (CallsTo 13 #[.agg (ints .u8 y).toArray, .agg (ints .u8 t).toArray] (.agg (ints .u8 r).toArray))) :
    Calls Try.prog 27 #[.pointer (some ⟨b, 0, none⟩)] w fun e w' => e = .returned (.tuple #[]) ∧ Tgr w' b r t (zeros 17) 0 ∧ Only b w w' := by
  obtain ⟨z25, s25⟩ := zero_of_info inf25
  have fc := hH.fc
  have HB0 := hid hH.bl
  obtain ⟨z, cz, fz, _⟩ := hH.bk.spot (i := fl) (by rw [hH.bl]; omega)
  have f0 : (0 : Int) ≤ fl := by omega
  have f1 : (fl : Int) < 17 := by omega
  have hH1 := hH.drew.put fl (x := 1) (by omega) (by omega)
  rw [HX.out] at hH1
  have hO1 : Only b w (w.drew.setCell ⟨b, 34 + fl, none⟩ (.int .u8 1)) := (Only.refl b w).drew.setCell (.inl rfl) _
  clear hH
  go_enter Try.func27, Try.ntmps27
  go_wp2
  go_still_tail 8, (by kernel_rfl)
  change wpList _ _ _ _ _ w.drew
  have cz1 : w.drew.cell? ⟨b, 34 + fl, none⟩ = some (.int .u8 z) := cz
  have fz1 : w.drew.frozen? ⟨b, 34 + fl, none⟩ = false := fz
  clear cz fz fc
  generalize w.drew = wd at *
  go_wp2_with (fail)
  generalize wd.setCell ⟨b, 34 + fl, none⟩ (.int .u8 1) = w0 at *
  clear cz1 fz1
  have hH := hH1
  have hH0 := hH1
  clear hH1
  have hW := Below.refl w0.heap.size w0
  have s0 := hW.size
  refine region_spec2 17 34 (fun _ => false) [Is (.pointer (some ⟨b, 0, none⟩)), Is (.pointer (some ⟨b, 0, none⟩)), Is (.pointer (some ⟨b, 0, none⟩)), Is (.pointer (some ⟨b, 0, none⟩)), Is (.agg (ints .u8 s).toArray), Is (.pointer (some ⟨b, 0, none⟩)), Is (.pointer (some ⟨b, 0, none⟩)), Is (.pointer (some ⟨b, 34, none⟩)), Is (.agg (ints .u8 x).toArray), Is (.agg (ints .u8 y).toArray), Is (.pointer (some ⟨b, 0, none⟩)), Is (.pointer (some ⟨b, 0, none⟩)), Is (.pointer (some ⟨b, 17, none⟩)), Is (.agg (ints .u8 t).toArray), Is (.agg (ints .u8 r).toArray), Is (.pointer (some ⟨b, 0, none⟩)), Is (.pointer (some ⟨b, 0, none⟩))] [10, 11, 12, 13, 14, 15, 16, 17, 18, 19, 20, 21, 22, 23, 24, 25, 26] (by kernel_rfl) (by kernel_rfl) (by kernel_rfl) (Nat.le_of_eq rfl) (grows_cons (Is.grows _) (grows_cons (Is.grows _) (grows_cons (Is.grows _) (grows_cons (Is.grows _) (grows_cons (Is.grows _) (grows_cons (Is.grows _) (grows_cons (Is.grows _) (grows_cons (Is.grows _) (grows_cons (Is.grows _) (grows_cons (Is.grows _) (grows_cons (Is.grows _) (grows_cons (Is.grows _) (grows_cons (Is.grows _) (grows_cons (Is.grows _) (grows_cons (Is.grows _) (grows_cons (Is.grows _) (grows_cons (Is.grows _) grows_nil)))))))))))))))))
    ⟨step_mvP rfl (.inl rfl) rfl rfl (knows_out 0 (by kernel_rfl) rfl),
     step_mvP rfl (.inl rfl) rfl rfl (knows_out 0 (by kernel_rfl) rfl),
     step_one rfl (.inl rfl) (fun ev w h hc => ex_nilc rfl ev w h hc) rfl (knows_in 1 11 (by decide) (by kernel_rfl) rfl rfl),
     step_one rfl (.inl rfl) (fun ev w h hc => ex_fld (P := Try.prog) rfl (fldT0 _) ev w h hc) rfl (knows_in 2 12 (by decide) (by kernel_rfl) rfl rfl),
     step_ldV rfl (.inl rfl) (fun _ hw => ((hH.su.rw.next hw)).range) rfl Try.underlying25 rfl (szV inf25 (il hH.sl)) rfl (knows_in 3 13 (by decide) (by kernel_rfl) rfl rfl),
     step_mvP rfl (.inl rfl) rfl rfl (knows_out 0 (by kernel_rfl) rfl),
     step_one rfl (.inl rfl) (fun ev w h hc => ex_nilc rfl ev w h hc) rfl (knows_in 5 15 (by decide) (by kernel_rfl) rfl rfl),
     step_one rfl (.inl rfl) (fun ev w h hc => ex_fld (P := Try.prog) rfl (fldT2 _) ev w h hc) rfl (knows_in 6 16 (by decide) (by kernel_rfl) rfl rfl),
     step_ldV rfl (.inl rfl) (fun _ hw => ((hH.bk.rw.next hw)).range) rfl Try.underlying25 rfl (szV inf25 (il hH.bl)) rfl (knows_in 7 17 (by decide) (by kernel_rfl) rfl rfl),
     step_to rfl (.inl rfl) rfl cx11 KA.out rfl (two_args (knows_in 4 14 (by decide) (by kernel_rfl) rfl rfl) (knows_in 8 18 (by decide) (by kernel_rfl) rfl rfl)),
     step_mvP rfl (.inl rfl) rfl rfl (knows_out 0 (by kernel_rfl) rfl),
     step_one rfl (.inl rfl) (fun ev w h hc => ex_nilc rfl ev w h hc) rfl (knows_in 10 20 (by decide) (by kernel_rfl) rfl rfl),
     step_one rfl (.inl rfl) (fun ev w h hc => ex_fld (P := Try.prog) rfl (fldT1 _) ev w h hc) rfl (knows_in 11 21 (by decide) (by kernel_rfl) rfl rfl),
     step_ldV rfl (.inl rfl) (fun _ hw => ((hH.ti.rw.next hw)).range) rfl Try.underlying25 rfl (szV inf25 (il hH.tl)) rfl (knows_in 12 22 (by decide) (by kernel_rfl) rfl rfl),
     step_to rfl (.inl rfl) rfl cx13 KM.out rfl (two_args (knows_in 9 19 (by decide) (by kernel_rfl) rfl rfl) (knows_in 13 23 (by decide) (by kernel_rfl) rfl rfl)),
     step_one rfl (.inl rfl) (fun ev w h hc => ex_nilc rfl ev w h hc) rfl (knows_in 0 10 (by decide) (by kernel_rfl) rfl rfl),
     step_one rfl (.inl rfl) (fun ev w h hc => ex_fld (P := Try.prog) rfl (fldT0 _) ev w h hc) rfl (knows_in 15 25 (by decide) (by kernel_rfl) rfl rfl), trivial⟩ ?_
  intro val w1 hw hS hap hla
  have e10 : val 10 = (.pointer (some ⟨b, 0, none⟩)) := hS 0 10 (by decide) rfl
  have e11 : val 11 = (.pointer (some ⟨b, 0, none⟩)) := hS 1 11 (by decide) rfl
  have e12 : val 12 = (.pointer (some ⟨b, 0, none⟩)) := hS 2 12 (by decide) rfl
  have e13 : val 13 = (.pointer (some ⟨b, 0, none⟩)) := hS 3 13 (by decide) rfl
  have e14 : val 14 = (.agg (ints .u8 s).toArray) := hS 4 14 (by decide) rfl
  have e15 : val 15 = (.pointer (some ⟨b, 0, none⟩)) := hS 5 15 (by decide) rfl
  have e16 : val 16 = (.pointer (some ⟨b, 0, none⟩)) := hS 6 16 (by decide) rfl
  have e17 : val 17 = (.pointer (some ⟨b, 34, none⟩)) := hS 7 17 (by decide) rfl
  have e18 : val 18 = (.agg (ints .u8 x).toArray) := hS 8 18 (by decide) rfl
  have e19 : val 19 = (.agg (ints .u8 y).toArray) := hS 9 19 (by decide) rfl
  have e20 : val 20 = (.pointer (some ⟨b, 0, none⟩)) := hS 10 20 (by decide) rfl
  have e21 : val 21 = (.pointer (some ⟨b, 0, none⟩)) := hS 11 21 (by decide) rfl
  have e22 : val 22 = (.pointer (some ⟨b, 17, none⟩)) := hS 12 22 (by decide) rfl
  have e23 : val 23 = (.agg (ints .u8 t).toArray) := hS 13 23 (by decide) rfl
  have e24 : val 24 = (.agg (ints .u8 r).toArray) := hS 14 24 (by decide) rfl
  have e25 : val 25 = (.pointer (some ⟨b, 0, none⟩)) := hS 15 25 (by decide) rfl
  have e26 : val 26 = (.pointer (some ⟨b, 0, none⟩)) := hS 16 26 (by decide) rfl
  simp only [putVals, List.foldl_cons, List.foldl_nil, List.drop_succ_cons, List.drop_zero, Act.put, List.setIfInBounds_toArray, List.set_cons_succ, List.set_cons_zero, e10, e11, e12, e13, e14, e15, e16, e17, e18, e19, e20, e21, e22, e23, e24, e25, e26]
  clear hS hap hla e10 e11 e12 e13 e14 e15 e16 e17 e18 e19 e20 e21 e22 e23 e24 e25 e26 
  replace hH := hH.next hw
  replace hW := hW.trans (Below.mono hw hW.size)
  clear hw
  have hO2 := (Only.of hW b).setCells (.inl rfl) 0 (ints .u8 r).toArray.toList
  have hH2 := hH.sum HRL.out HRB.out
  have R0 : w1.there b 0 (ints .u8 r).toArray.size := hH.su.room (by rw [HRL.out, hH.sl])
  clear hH hH0 hW
  with_reducible refine wpList_store_mid (op := ⟨none, .store 25 (.tmp 26) (.tmp 24), _, _, _, _⟩) rfl 25 (.tmp 26) (.tmp 24) rfl b 0 (ints .u8 r).toArray rfl rfl R0 (a25 HRL.out) (ints_all _ _) ?_
  generalize w1.setCells b 0 (ints .u8 r).toArray.toList = w2 at *
  have R34 : w2.there b 34 (ints .u8 (zeros 17)).toArray.size := hH2.bk.room (by rw [zeros_len, hH2.bl])
  have hH3 := hH2.blk_ (zeros_len 17) (byt_zeros 17)
  have hO3 := hO2.setCells (.inl rfl) 34 (ints .u8 (zeros 17)).toArray.toList
  have fc3 := hH3.fc
  have fz3 := hH3.fz
  clear hH2 hO2
  go_wp2_with (first
    | (with_reducible refine wpList_built (o := ⟨some 29, .build 25 #[], _, _, _, _⟩) rfl 25 #[] rfl [] (ints .u8 (zeros 17)).toArray rfl built25 ?_)
    | (with_reducible refine wpList_store_mid (op := ⟨none, .store 25 (.tmp 31) (.tmp 29), _, _, _, _⟩) rfl 25 (.tmp 31) (.tmp 29) rfl b 34 (ints .u8 (zeros 17)).toArray rfl rfl R34 (a25 (zeros_len 17)) (ints_all _ _) ?_; generalize w2.setCells b 34 (ints .u8 (zeros 17)).toArray.toList = w3 at *))
  go_end0
  exact ⟨rfl, hH3.fill 0, (hO1.trans hO3).setCell (.inl rfl) _⟩
theorem mix_any (b : Nat) (q : Nat) (t x : List Int) (fl : Nat) (w : World) (hq : q < PN) (hx : x.length = fl) (hf : fl ≤ 16) (hH : Tgr w b (pb q) t (padB x) fl) :
    Calls Try.prog 27 #[.pointer (some ⟨b, 0, none⟩)] w fun e w' => e = .returned (.tuple #[]) ∧ Tgr w' b (pb (stepN (bn t) q x)) t (padB []) 0 ∧ Only b w w' := by
  subst hx
  have h1 := padB_one hf
  have l1 : (padB (x ++ [1])).length = 17 := padB_length (by simp; omega)
  have b1 : Byt (padB (x ++ [1])) := by
    rw [← h1]
    intro y hy
    rcases List.mem_or_eq_of_mem_set hy with e | e
    · exact hH.bb y e
    · omega
  have ka := c_add hH.sl l1 hH.sb b1
  have km := c_mul (pb_length _) hH.tl (pb_byt ((bn (pb q) + bn (padB (x ++ [1]))) % PN)) hH.tb
  rw [pmod_bn, mix_step hq] at km
  rw [← zeros_pad]
  exact mix_core b (pb q) t (padB x) (padB (x ++ [1])) _ _ x.length w hH hf (hid h1) (hid (pb_length _)) (hid (pb_byt _)) (hid ka) (hid km)
end Go.Proofs.Ythohfhloobmlpaa
