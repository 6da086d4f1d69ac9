/- Texts of this proof, laid together: PMix, PTake. -/
import Derived.Test.YtkblmdakejmmhaaDoorG31
import Derived.Test.YtkblmdakejmmhaaDoorG16
/- mix: a block is added and multiplied. -/
namespace Go.Proofs.YtkblmdakejmmhaaDoor
open Go Go.RowKit

set_option maxRecDepth 50000 in
theorem zeros_pad : zeros 17 = padBZ [] := by simp [padBZ]
set_option maxRecDepth 8000 in
set_option maxHeartbeats 4000000 in
theorem mix_core (b : Nat) (s t blk x y r : List Int) (fl : Nat) (w : World) (hH : Tgr w b s t blk fl) (hfl : fl ≤ 16) (HX : Hid (blk.set fl 1 = x))
    (HRL : Hid (r.length = 17)) (HRB : Hid (Byt r)) (KA : Hid (CallsTo 71 #[.agg (ints .u8 s).toArray, .agg (ints .u8 x).toArray] (.agg (ints .u8 y).toArray))) (KM : Hid (CallsTo 72 #[.agg (ints .u8 y).toArray, .agg (ints .u8 t).toArray] (.agg (ints .u8 r).toArray))) :
    Calls Tryd.prog 60 #[.pointer (some ⟨b, 0, none⟩)] w fun e w' => e = .returned (.tuple #[]) ∧ Tgr w' b r t (zeros 17) 0 ∧ Only b w w' := by
  obtain ⟨z25, s25⟩ := zero_of_info inf25
  have fc := hH.fc
  have HB0 := hid hH.bl
  obtain ⟨z, cz, fz, _⟩ := hH.bk.spot (i := fl) (by rw [hH.bl]; omega)
  have f0 : (0 : Int) ≤ fl := by omega
  have f1 : (fl : Int) < 17 := by omega
  have hH1 := hH.drew.put fl (x := 1) (by omega) (by omega)
  rw [HX.out] at hH1
  have hO1 : Only b w (w.drew.setCell ⟨b, 34 + fl, none⟩ (.int .u8 1)) := (Only.refl b w).drew.setCell (.inl rfl) _
  clear hH
  go_enter Tryd.func60, Tryd.ntmps60
  go_wp2
  go_still_tail 8, (by kernel_rfl)
  change wpList _ _ _ _ _ w.drew
  have cz1 : w.drew.cell? ⟨b, 34 + fl, none⟩ = some (.int .u8 z) := cz
  have fz1 : w.drew.frozen? ⟨b, 34 + fl, none⟩ = false := fz
  clear cz fz fc
  generalize w.drew = wd at *
  go_wp2_with (fail)
  generalize wd.setCell ⟨b, 34 + fl, none⟩ (.int .u8 1) = w0 at *
  clear cz1 fz1
  have hH := hH1
  have hH0 := hH1
  clear hH1
  have hW := Below.refl w0.heap.size w0
  have s0 := hW.size
  refine region_spec2 17 34 (fun _ => false) [Is (.pointer (some ⟨b, 0, none⟩)), Is (.pointer (some ⟨b, 0, none⟩)), Is (.pointer (some ⟨b, 0, none⟩)), Is (.pointer (some ⟨b, 0, none⟩)), Is (.agg (ints .u8 s).toArray), Is (.pointer (some ⟨b, 0, none⟩)), Is (.pointer (some ⟨b, 0, none⟩)), Is (.pointer (some ⟨b, 34, none⟩)), Is (.agg (ints .u8 x).toArray), Is (.agg (ints .u8 y).toArray), Is (.pointer (some ⟨b, 0, none⟩)), Is (.pointer (some ⟨b, 0, none⟩)), Is (.pointer (some ⟨b, 17, none⟩)), Is (.agg (ints .u8 t).toArray), Is (.agg (ints .u8 r).toArray), Is (.pointer (some ⟨b, 0, none⟩)), Is (.pointer (some ⟨b, 0, none⟩))] [10, 11, 12, 13, 14, 15, 16, 17, 18, 19, 20, 21, 22, 23, 24, 25, 26] (by kernel_rfl) (by kernel_rfl) (by kernel_rfl) (Nat.le_of_eq rfl) (grows_cons (Is.grows _) (grows_cons (Is.grows _) (grows_cons (Is.grows _) (grows_cons (Is.grows _) (grows_cons (Is.grows _) (grows_cons (Is.grows _) (grows_cons (Is.grows _) (grows_cons (Is.grows _) (grows_cons (Is.grows _) (grows_cons (Is.grows _) (grows_cons (Is.grows _) (grows_cons (Is.grows _) (grows_cons (Is.grows _) (grows_cons (Is.grows _) (grows_cons (Is.grows _) (grows_cons (Is.grows _) (grows_cons (Is.grows _) grows_nil)))))))))))))))))
    ⟨step_mvP rfl (.inl rfl) rfl rfl (knows_out 0 (by kernel_rfl) rfl),
     step_mvP rfl (.inl rfl) rfl rfl (knows_out 0 (by kernel_rfl) rfl),
     step_one rfl (.inl rfl) (fun ev w h hc => ex_nilc rfl ev w h hc) rfl (knows_in 1 11 (by decide) (by kernel_rfl) rfl rfl),
     step_one rfl (.inl rfl) (fun ev w h hc => ex_fld (P := Tryd.prog) rfl (fldT0 _) ev w h hc) rfl (knows_in 2 12 (by decide) (by kernel_rfl) rfl rfl),
     step_ldV rfl (.inl rfl) (fun _ hw => ((hH.su.rw.next hw)).range) rfl Tryd.underlying95 rfl (szV inf25 (il hH.sl)) rfl (knows_in 3 13 (by decide) (by kernel_rfl) rfl rfl),
     step_mvP rfl (.inl rfl) rfl rfl (knows_out 0 (by kernel_rfl) rfl),
     step_one rfl (.inl rfl) (fun ev w h hc => ex_nilc rfl ev w h hc) rfl (knows_in 5 15 (by decide) (by kernel_rfl) rfl rfl),
     step_one rfl (.inl rfl) (fun ev w h hc => ex_fld (P := Tryd.prog) rfl (fldT2 _) ev w h hc) rfl (knows_in 6 16 (by decide) (by kernel_rfl) rfl rfl),
     step_ldV rfl (.inl rfl) (fun _ hw => ((hH.bk.rw.next hw)).range) rfl Tryd.underlying95 rfl (szV inf25 (il hH.bl)) rfl (knows_in 7 17 (by decide) (by kernel_rfl) rfl rfl),
     step_to rfl (.inl rfl) rfl cx11 KA.out rfl (two_args (knows_in 4 14 (by decide) (by kernel_rfl) rfl rfl) (knows_in 8 18 (by decide) (by kernel_rfl) rfl rfl)),
     step_mvP rfl (.inl rfl) rfl rfl (knows_out 0 (by kernel_rfl) rfl),
     step_one rfl (.inl rfl) (fun ev w h hc => ex_nilc rfl ev w h hc) rfl (knows_in 10 20 (by decide) (by kernel_rfl) rfl rfl),
     step_one rfl (.inl rfl) (fun ev w h hc => ex_fld (P := Tryd.prog) rfl (fldT1 _) ev w h hc) rfl (knows_in 11 21 (by decide) (by kernel_rfl) rfl rfl),
     step_ldV rfl (.inl rfl) (fun _ hw => ((hH.ti.rw.next hw)).range) rfl Tryd.underlying95 rfl (szV inf25 (il hH.tl)) rfl (knows_in 12 22 (by decide) (by kernel_rfl) rfl rfl),
     step_to rfl (.inl rfl) rfl cx13 KM.out rfl (two_args (knows_in 9 19 (by decide) (by kernel_rfl) rfl rfl) (knows_in 13 23 (by decide) (by kernel_rfl) rfl rfl)),
     step_one rfl (.inl rfl) (fun ev w h hc => ex_nilc rfl ev w h hc) rfl (knows_in 0 10 (by decide) (by kernel_rfl) rfl rfl),
     step_one rfl (.inl rfl) (fun ev w h hc => ex_fld (P := Tryd.prog) rfl (fldT0 _) ev w h hc) rfl (knows_in 15 25 (by decide) (by kernel_rfl) rfl rfl), trivial⟩ ?_
  intro val w1 hw hS hap hla
  have e10 : val 10 = (.pointer (some ⟨b, 0, none⟩)) := hS 0 10 (by decide) rfl
  have e11 : val 11 = (.pointer (some ⟨b, 0, none⟩)) := hS 1 11 (by decide) rfl
  have e12 : val 12 = (.pointer (some ⟨b, 0, none⟩)) := hS 2 12 (by decide) rfl
  have e13 : val 13 = (.pointer (some ⟨b, 0, none⟩)) := hS 3 13 (by decide) rfl
  have e14 : val 14 = (.agg (ints .u8 s).toArray) := hS 4 14 (by decide) rfl
  have e15 : val 15 = (.pointer (some ⟨b, 0, none⟩)) := hS 5 15 (by decide) rfl
  have e16 : val 16 = (.pointer (some ⟨b, 0, none⟩)) := hS 6 16 (by decide) rfl
  have e17 : val 17 = (.pointer (some ⟨b, 34, none⟩)) := hS 7 17 (by decide) rfl
  have e18 : val 18 = (.agg (ints .u8 x).toArray) := hS 8 18 (by decide) rfl
  have e19 : val 19 = (.agg (ints .u8 y).toArray) := hS 9 19 (by decide) rfl
  have e20 : val 20 = (.pointer (some ⟨b, 0, none⟩)) := hS 10 20 (by decide) rfl
  have e21 : val 21 = (.pointer (some ⟨b, 0, none⟩)) := hS 11 21 (by decide) rfl
  have e22 : val 22 = (.pointer (some ⟨b, 17, none⟩)) := hS 12 22 (by decide) rfl
  have e23 : val 23 = (.agg (ints .u8 t).toArray) := hS 13 23 (by decide) rfl
  have e24 : val 24 = (.agg (ints .u8 r).toArray) := hS 14 24 (by decide) rfl
  have e25 : val 25 = (.pointer (some ⟨b, 0, none⟩)) := hS 15 25 (by decide) rfl
  have e26 : val 26 = (.pointer (some ⟨b, 0, none⟩)) := hS 16 26 (by decide) rfl
  simp only [putVals, List.foldl_cons, List.foldl_nil, List.drop_succ_cons, List.drop_zero, Act.put, List.setIfInBounds_toArray, List.set_cons_succ, List.set_cons_zero, e10, e11, e12, e13, e14, e15, e16, e17, e18, e19, e20, e21, e22, e23, e24, e25, e26]
  clear hS hap hla e10 e11 e12 e13 e14 e15 e16 e17 e18 e19 e20 e21 e22 e23 e24 e25 e26 
  replace hH := hH.next hw
  replace hW := hW.trans (Below.mono hw hW.size)
  clear hw
  have hO2 := (Only.of hW b).setCells (.inl rfl) 0 (ints .u8 r).toArray.toList
  have hH2 := hH.sum HRL.out HRB.out
  have R0 : w1.there b 0 (ints .u8 r).toArray.size := hH.su.room (by rw [HRL.out, hH.sl])
  clear hH hH0 hW
  with_reducible refine wpList_store_mid (op := ⟨none, .store 95 (.tmp 26) (.tmp 24), _, _, _, _⟩) rfl 95 (.tmp 26) (.tmp 24) rfl b 0 (ints .u8 r).toArray rfl rfl R0 (a25 HRL.out) (ints_all _ _) ?_
  generalize w1.setCells b 0 (ints .u8 r).toArray.toList = w2 at *
  have R34 : w2.there b 34 (ints .u8 (zeros 17)).toArray.size := hH2.bk.room (by rw [zeros_len, hH2.bl])
  have hH3 := hH2.blk_ (zeros_len 17) (byt_zeros 17)
  have hO3 := hO2.setCells (.inl rfl) 34 (ints .u8 (zeros 17)).toArray.toList
  have fc3 := hH3.fc
  have fz3 := hH3.fz
  clear hH2 hO2
  go_wp2_with (first
    | (with_reducible refine wpList_built (o := ⟨some 29, .build 95 #[], _, _, _, _⟩) rfl 95 #[] rfl [] (ints .u8 (zeros 17)).toArray rfl built25 ?_)
    | (with_reducible refine wpList_store_mid (op := ⟨none, .store 95 (.tmp 31) (.tmp 29), _, _, _, _⟩) rfl 95 (.tmp 31) (.tmp 29) rfl b 34 (ints .u8 (zeros 17)).toArray rfl rfl R34 (a25 (zeros_len 17)) (ints_all _ _) ?_; generalize w2.setCells b 34 (ints .u8 (zeros 17)).toArray.toList = w3 at *))
  go_end0
  exact ⟨rfl, hH3.fill 0, (hO1.trans hO3).setCell (.inl rfl) _⟩
set_option maxRecDepth 50000 in
theorem pmix_any (b : Nat) (q : Nat) (t x : List Int) (fl : Nat) (w : World) (hq : q < PNZ) (hx : x.length = fl) (hf : fl ≤ 16) (hH : Tgr w b (pb q) t (padBZ x) fl) :
    Calls Tryd.prog 60 #[.pointer (some ⟨b, 0, none⟩)] w fun e w' => e = .returned (.tuple #[]) ∧ Tgr w' b (pb (stepN (bn t) q x)) t (padBZ []) 0 ∧ Only b w w' := by
  subst hx
  have h1 := padB_one hf
  have l1 : (padBZ (x ++ [1])).length = 17 := padB_lengthZ (by simp; omega)
  have b1 : Byt (padBZ (x ++ [1])) := by
    rw [← h1]
    intro y hy
    rcases List.mem_or_eq_of_mem_set hy with e | e
    · exact hH.bb y e
    · omega
  have ka := c_addZ hH.sl l1 hH.sb b1
  have km := c_mulZ (pb_length _) hH.tl (pb_byt ((bn (pb q) + bn (padBZ (x ++ [1]))) % PNZ)) hH.tb
  rw [pmod_bn, mix_step hq] at km
  rw [← zeros_pad]
  exact mix_core b (pb q) t (padBZ x) (padBZ (x ++ [1])) _ _ x.length w hH hf (hid h1) (hid (pb_length _)) (hid (pb_byt _)) (hid ka) (hid km)
end Go.Proofs.YtkblmdakejmmhaaDoor

/- take: bytes go into the block. -/
namespace Go.Proofs.YtkblmdakejmmhaaDoor
open Go Go.RowKit

set_option maxRecDepth 50000 in
theorem alen25 : Tryd.prog.arrayLen 95 = 17 := by kernel_rfl
set_option maxRecDepth 50000 in
theorem slice25 (b fl : Nat) (h : fl < 16) (W : World) : (Instr.sliceAt 95 (.pointer (some ⟨b, 34, none⟩)) (some (.int .i64 (fl : Int))) (some (.int .i64 16)) none).run Tryd.prog W = .ok (.slice (some ⟨b, 34 + fl, none⟩) (16 - fl) (17 - fl)) W := by
  rw [run_sliceAt_array_lh W 95 ⟨b, 34, none⟩ ua25 .i64 .i64 (fl : Int) 16 (by omega) (by omega) (by rw [alen25]; omega), ze25, alen25]
  have e2 : ¬ (17 = fl) := by omega
  simp [Result.andThen, slicedAt, Addr.add_mid, e2]
set_option maxRecDepth 4000 in
set_option maxHeartbeats 2000000 in
theorem take_anyZ (b : Nat) (A : Option Addr) (c : Nat) (t m p : List Int) (w : World) (hh : AbsZ w b t m) (hA : Nums w .u8 A p) (hne : 0 < p.length → ∀ g o s, A = some ⟨g, o, s⟩ → g ≠ b) (hpc : p.length ≤ c) (hp : p.length ≤ 100000) (hby : Byt p) :
    Calls Tryd.prog 59 #[.pointer (some ⟨b, 0, none⟩), .slice A p.length c] w fun e w' => e = .returned (.tuple #[]) ∧ AbsZ w' b t (m ++ p) ∧ Only b w w' := by
  go_enter Tryd.func59, Tryd.ntmps59
  go_wp2
  go_loopw [1] (fun v wr => ∃ (k : Nat) (B : Option Addr) (d : Nat) (r : List Int), k ≤ p.length ∧ v = .slice B r.length d ∧ Hid (r = p.drop k) ∧ r.length ≤ d ∧ Nums wr .u8 B r ∧ (0 < r.length → ∀ g o s, B = some ⟨g, o, s⟩ → g ≠ b) ∧ AbsZ wr b t (m ++ p.take k) ∧ Only b w wr) (fun v _ => match v with | .slice _ n _ => n | _ => 0)
  case atStart => exact ⟨0, A, c, p, by omega, rfl, hid rfl, hpc, hA, hne, by simpa using hh, Only.refl _ _⟩
  case round =>
    obtain ⟨k, B, d, r, hk, rfl, HR, hrd, hN, hnB, hH0, hO⟩ := hrel
    have hrl : r.length = p.length - k := by rw [HR.out]; simp
    have hrle : r.length ≤ 100000 := by omega
    have HRL := hid hrl
    clear hrl
    have hrby : Byt r := by rw [HR.out]; exact hby.drop k
    by_cases hlt : 0 < r.length
    · obtain ⟨g, off, rfl, hgb, hgl, hc⟩ := not_at hN hlt (hnB hlt)
      obtain ⟨mk, hmk⟩ : ∃ mk, mk = m ++ p.take k := ⟨_, rfl⟩
      rw [← hmk] at hH0
      obtain ⟨fl, hfl⟩ : ∃ fl, fl = mk.length % 16 := ⟨_, rfl⟩
      have hf1 : fl < 16 := by omega
      obtain ⟨n, hn⟩ : ∃ n, n = min r.length (16 - fl) := ⟨_, rfl⟩
      have hn0 : 0 < n := by omega
      have hnr : n ≤ r.length := by omega
      have hnf : n ≤ 16 - fl := by omega
      have hH : Tgr wr b (pb (accN (bn t) mk (mk.length / 16))) t (padBZ (tailB mk)) fl := by rw [hfl]; exact hH0
      have HTL := hid (tailB_length mk)
      rw [← hfl] at HTL
      obtain ⟨A', hsl, hN', hg'⟩ := nums_from hN 23 5 Tryd.underlying23 (by kernel_rfl) d n hnr hlt hrd
      have fc := hH.fc
      have fz := hH.fz
      obtain ⟨x, hx⟩ : ∃ x, x = r.take n := ⟨_, rfl⟩
      have hxl : x.length = n := by rw [hx]; simp; omega
      have hxb : Byt x := by rw [hx]; exact hrby.take n
      have hsl2 := fun W => slice25 b fl hf1 W
      have hcp : (Builtin.copy_ #[23, 23] 3 #[.slice (some ⟨b, 34 + fl, none⟩) (16 - fl) (17 - fl), .slice (some ⟨g, off, none⟩) r.length d]).run Tryd.prog wr.drew = .ok (.int .i64 n) (wr.drew.setCells b (34 + fl) (ints .u8 x)) := by
        have h := run_copy_cells (P := Tryd.prog) wr.drew 23 23 3 5 b (34 + fl) (16 - fl) (17 - fl) ⟨g, off, none⟩ r.length d (ints .u8 x) Tryd.underlying23 (by kernel_rfl) (by rw [ints_length, hxl, hn]) ?_ ?_ ?_ (ints_one _ _)
        · rw [ints_length, hxl] at h; exact h
        · intro j v hv
          simp only [ints, List.getElem?_map, Option.map_eq_some_iff] at hv
          obtain ⟨y, hy, rfl⟩ := hv
          have hj := (List.getElem?_eq_some_iff.1 hy).1
          have := hc j (by omega)
          rw [Addr.add_mid]
          show wr.cell? _ = _
          rw [this]
          rw [hx, List.getElem?_take] at hy
          split at hy
          · simp [List.getD, hy]
          · cases hy
        · intro j hj
          have := (hH.bk.there (fl + j) (by rw [hH.bl]; rw [ints_length] at hj; omega)).1
          rw [← Nat.add_assoc] at this; exact this
        · intro j hj
          have := (hH.bk.there (fl + j) (by rw [hH.bl]; rw [ints_length] at hj; omega)).2
          rw [← Nat.add_assoc] at this; exact this
      have f0 : (0 : Int) ≤ fl := by omega
      have f1 : (fl : Int) ≤ 16 := by omega
      have n1 : (n : Int) ≤ 16 := by omega
      have hlay := hH.drew.lay (j := fl) (x := x) (by omega) hxb
      have hov : over (padBZ (tailB mk)) fl x = padBZ (tailB mk ++ x) := by
        have := padB_over (a := tailB mk) (x := x) (by rw [HTL.out]; omega)
        rwa [HTL.out] at this
      rw [hov] at hlay
      have HN := hid hn
      have HX := hid hx
      have HXL := hid hxl
      have HFL := hid hfl
      have HMK := hid hmk
      clear hn hx hxl hfl hmk hov hH0
      go_wp2
      go_still_tail 9, (by kernel_rfl)
      change wpList _ _ _ _ _ wr.drew
      have hO1 : Only b w (wr.drew.setCells b (34 + fl) (ints .u8 x)) := hO.drew.setCells (.inl rfl) _ _
      have hO2 : Only b wr (wr.drew.setCells b (34 + fl) (ints .u8 x)) := (Only.refl b wr).drew.setCells (.inl rfl) _ _
      have hfc1 := hlay.fc
      have hfz1 := hlay.fz
      clear fc fz hH
      generalize wr.drew.setCells b (34 + fl) (ints .u8 x) = wc at *
      have s1 : IntKind.i64.wrap ((fl : Int) + n) = (fl : Int) + n := IntWalk.i64_in _ (by omega)
      have HPX : Hid (m ++ p.take (k + n) = mk ++ x) := hid (by rw [HMK.out, List.append_assoc, HX.out, HR.out, ← List.take_add])
      have hkn : k + n ≤ p.length := by have := HRL.out; omega
      have hdrop : Hid (r.drop n = p.drop (k + n)) := by show _ = _; rw [HR.out, List.drop_drop]
      have HDL : Hid (r.length - n = (r.drop n).length) := hid (by simp)
      have hneA : ∀ g' o s, A' = some ⟨g', o, s⟩ → g' ≠ b := fun g' o s e => by
        obtain ⟨o', e2⟩ := hg' g off none rfl
        rw [e2] at e; injection e with e; injection e with e1; omega
      by_cases hfull : fl + n = 16
      · have hf16 : (fl : Int) + n = 16 := by omega
        obtain ⟨q1, q2, q3⟩ := more_fullZ (r := bn t) (m := mk) (x := x) (by rw [← HFL.out, HXL.out]; exact hfull)
        have Q1 := hid q1
        have Q2 := hid q2
        have Q3 := hid q3
        have hH1 := hlay.fill 16
        have HTX : Hid ((tailB mk ++ x).length = 16) := hid (by rw [List.length_append, HTL.out, HXL.out]; exact hfull)
        clear q1 q2 q3 hfull hlay
        go_wp2_with (go_at_call 60; refine (pmix_any b (accN (bn t) mk (mk.length / 16)) t (tailB mk ++ x) 16 _ (accN_lt _ _ _) HTX.out (by omega) hH1).mono ?_; rintro e w3 ⟨rfl, hH3, hO3⟩)
        go_roundw
        case rel =>
          have hfin : Only b wc w3 := ((Only.refl b wc).setCell (.inl rfl) _).trans hO3
          refine ⟨k + n, A', d - n, r.drop n, hkn, by rw [HDL.out], hdrop, by rw [← HDL.out]; omega, (hN'.only hO2 hneA).only hfin hneA, fun _ => hneA, ?_, hO1.trans hfin⟩
          unfold AbsZ
          rw [HPX.out, Q1.out, Q2.out, Q3.out]
          exact hH3
        case measure => show r.length - n < r.length; omega
      · have hf16 : ((fl : Int) + n == 16) = false := by simp; omega
        obtain ⟨q1, q2, q3⟩ := more_partZ (r := bn t) (m := mk) (x := x) (by rw [← HFL.out, HXL.out]; omega)
        rw [← HFL.out, HXL.out] at q3
        have Q1 := hid q1
        have Q2 := hid q2
        have Q3 := hid q3
        have hH1 := hlay.fill (fl + n)
        clear q1 q2 q3 hfull hlay
        go_wp2
        go_roundw
        case rel =>
          have hfin : Only b wc (wc.setCell ⟨b, 51, none⟩ (.int .i64 ((fl : Int) + n))) := (Only.refl b wc).setCell (.inl rfl) _
          refine ⟨k + n, A', d - n, r.drop n, hkn, by rw [HDL.out], hdrop, by rw [← HDL.out]; omega, (hN'.only hO2 hneA).only hfin hneA, fun _ => hneA, ?_, hO1.trans hfin⟩
          unfold AbsZ
          rw [HPX.out, Q1.out, Q2.out, Q3.out]
          exact hH1
        case measure => show r.length - n < r.length; omega
    · have hr0 : r.length = 0 := by omega
      have hk2 : p.take k = p := List.take_of_length_le (by have := HRL.out; omega)
      have HK2 := hid hk2
      clear hk2 hr0
      go_wp2
      go_end0
      rw [HK2.out] at hH0
      exact ⟨rfl, hH0, hO⟩
end Go.Proofs.YtkblmdakejmmhaaDoor
