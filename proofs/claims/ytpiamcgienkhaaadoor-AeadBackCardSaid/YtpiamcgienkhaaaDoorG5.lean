/- Texts of this proof, laid together: PMix, PTake, PTagW. -/
import Derived.Test.YtpiamcgienkhaaaDoorG2
/- mix: a block is added and multiplied. -/
namespace Go.Proofs.YtpiamcgienkhaaaDoor
open Go Go.RowKit

set_option maxRecDepth 50000 in
theorem zeros_pad : zeros 17 = padB [] := by simp [padB]
set_option maxRecDepth 8000 in
set_option maxHeartbeats 4000000 in
theorem mix_core (b : Nat) (s t blk x y r : List Int) (fl : Nat) (w : World) (hH : Tgr w b s t blk fl) (hfl : fl ≤ 16) (HX : Hid (blk.set fl 1 = x))
    (HRL : Hid (r.length = 17)) (HRB : Hid (Byt r)) (KA : Hid (CallsTo 45 #[.agg (ints .u8 s).toArray, .agg (ints .u8 x).toArray] (.agg (ints .u8 y).toArray))) (KM : Hid (CallsTo 46 #[.agg (ints .u8 y).toArray, .agg (ints .u8 t).toArray] (.agg (ints .u8 r).toArray))) :
    Calls Tryd.prog 31 #[.pointer (some ⟨b, 0, none⟩)] w fun e w' => e = .returned (.tuple #[]) ∧ Tgr w' b r t (zeros 17) 0 ∧ Only b w w' := by
  obtain ⟨z25, s25⟩ := zero_of_info inf25
  have fc := hH.fc
  have HB0 := hid hH.bl
  obtain ⟨z, cz, fz, _⟩ := hH.bk.spot (i := fl) (by rw [hH.bl]; omega)
  have f0 : (0 : Int) ≤ fl := by omega
  have f1 : (fl : Int) < 17 := by omega
  have hH1 := hH.drew.put fl (x := 1) (by omega) (by omega)
  rw [HX.out] at hH1
  have hO1 : Only b w (w.drew.setCell ⟨b, 34 + fl, none⟩ (.int .u8 1)) := (Only.refl b w).drew.setCell (.inl rfl) _
  clear hH
  go_enter Tryd.func31, Tryd.ntmps31
  go_wp2
  go_still_tail 8, (by kernel_rfl)
  change wpList _ _ _ _ _ w.drew
  have cz1 : w.drew.cell? ⟨b, 34 + fl, none⟩ = some (.int .u8 z) := cz
  have fz1 : w.drew.frozen? ⟨b, 34 + fl, none⟩ = false := fz
  clear cz fz fc
  generalize w.drew = wd at *
  go_wp2_with (fail)
  generalize wd.setCell ⟨b, 34 + fl, none⟩ (.int .u8 1) = w0 at *
  clear cz1 fz1
  have hH := hH1
  have hH0 := hH1
  clear hH1
  have hW := Below.refl w0.heap.size w0
  have s0 := hW.size
  refine region_spec2 17 34 (fun _ => false) [Is (.pointer (some ⟨b, 0, none⟩)), Is (.pointer (some ⟨b, 0, none⟩)), Is (.pointer (some ⟨b, 0, none⟩)), Is (.pointer (some ⟨b, 0, none⟩)), Is (.agg (ints .u8 s).toArray), Is (.pointer (some ⟨b, 0, none⟩)), Is (.pointer (some ⟨b, 0, none⟩)), Is (.pointer (some ⟨b, 34, none⟩)), Is (.agg (ints .u8 x).toArray), Is (.agg (ints .u8 y).toArray), Is (.pointer (some ⟨b, 0, none⟩)), Is (.pointer (some ⟨b, 0, none⟩)), Is (.pointer (some ⟨b, 17, none⟩)), Is (.agg (ints .u8 t).toArray), Is (.agg (ints .u8 r).toArray), Is (.pointer (some ⟨b, 0, none⟩)), Is (.pointer (some ⟨b, 0, none⟩))] [10, 11, 12, 13, 14, 15, 16, 17, 18, 19, 20, 21, 22, 23, 24, 25, 26] (by kernel_rfl) (by kernel_rfl) (by kernel_rfl) (Nat.le_of_eq rfl) (grows_cons (Is.grows _) (grows_cons (Is.grows _) (grows_cons (Is.grows _) (grows_cons (Is.grows _) (grows_cons (Is.grows _) (grows_cons (Is.grows _) (grows_cons (Is.grows _) (grows_cons (Is.grows _) (grows_cons (Is.grows _) (grows_cons (Is.grows _) (grows_cons (Is.grows _) (grows_cons (Is.grows _) (grows_cons (Is.grows _) (grows_cons (Is.grows _) (grows_cons (Is.grows _) (grows_cons (Is.grows _) (grows_cons (Is.grows _) grows_nil)))))))))))))))))
    ⟨step_mvP rfl (.inl rfl) rfl rfl (knows_out 0 (by kernel_rfl) rfl),
     step_mvP rfl (.inl rfl) rfl rfl (knows_out 0 (by kernel_rfl) rfl),
     step_one rfl (.inl rfl) (fun ev w h hc => ex_nilc rfl ev w h hc) rfl (knows_in 1 11 (by decide) (by kernel_rfl) rfl rfl),
     step_one rfl (.inl rfl) (fun ev w h hc => ex_fld (P := Tryd.prog) rfl (fldT0 _) ev w h hc) rfl (knows_in 2 12 (by decide) (by kernel_rfl) rfl rfl),
     step_ldV rfl (.inl rfl) (fun _ hw => ((hH.su.rw.next hw)).range) rfl Tryd.underlying61 rfl (szV inf25 (il hH.sl)) rfl (knows_in 3 13 (by decide) (by kernel_rfl) rfl rfl),
     step_mvP rfl (.inl rfl) rfl rfl (knows_out 0 (by kernel_rfl) rfl),
     step_one rfl (.inl rfl) (fun ev w h hc => ex_nilc rfl ev w h hc) rfl (knows_in 5 15 (by decide) (by kernel_rfl) rfl rfl),
     step_one rfl (.inl rfl) (fun ev w h hc => ex_fld (P := Tryd.prog) rfl (fldT2 _) ev w h hc) rfl (knows_in 6 16 (by decide) (by kernel_rfl) rfl rfl),
     step_ldV rfl (.inl rfl) (fun _ hw => ((hH.bk.rw.next hw)).range) rfl Tryd.underlying61 rfl (szV inf25 (il hH.bl)) rfl (knows_in 7 17 (by decide) (by kernel_rfl) rfl rfl),
     step_to rfl (.inl rfl) rfl cx11 KA.out rfl (two_args (knows_in 4 14 (by decide) (by kernel_rfl) rfl rfl) (knows_in 8 18 (by decide) (by kernel_rfl) rfl rfl)),
     step_mvP rfl (.inl rfl) rfl rfl (knows_out 0 (by kernel_rfl) rfl),
     step_one rfl (.inl rfl) (fun ev w h hc => ex_nilc rfl ev w h hc) rfl (knows_in 10 20 (by decide) (by kernel_rfl) rfl rfl),
     step_one rfl (.inl rfl) (fun ev w h hc => ex_fld (P := Tryd.prog) rfl (fldT1 _) ev w h hc) rfl (knows_in 11 21 (by decide) (by kernel_rfl) rfl rfl),
     step_ldV rfl (.inl rfl) (fun _ hw => ((hH.ti.rw.next hw)).range) rfl Tryd.underlying61 rfl (szV inf25 (il hH.tl)) rfl (knows_in 12 22 (by decide) (by kernel_rfl) rfl rfl),
     step_to rfl (.inl rfl) rfl cx13 KM.out rfl (two_args (knows_in 9 19 (by decide) (by kernel_rfl) rfl rfl) (knows_in 13 23 (by decide) (by kernel_rfl) rfl rfl)),
     step_one rfl (.inl rfl) (fun ev w h hc => ex_nilc rfl ev w h hc) rfl (knows_in 0 10 (by decide) (by kernel_rfl) rfl rfl),
     step_one rfl (.inl rfl) (fun ev w h hc => ex_fld (P := Tryd.prog) rfl (fldT0 _) ev w h hc) rfl (knows_in 15 25 (by decide) (by kernel_rfl) rfl rfl), trivial⟩ ?_
  intro val w1 hw hS hap hla
  have e10 : val 10 = (.pointer (some ⟨b, 0, none⟩)) := hS 0 10 (by decide) rfl
  have e11 : val 11 = (.pointer (some ⟨b, 0, none⟩)) := hS 1 11 (by decide) rfl
  have e12 : val 12 = (.pointer (some ⟨b, 0, none⟩)) := hS 2 12 (by decide) rfl
  have e13 : val 13 = (.pointer (some ⟨b, 0, none⟩)) := hS 3 13 (by decide) rfl
  have e14 : val 14 = (.agg (ints .u8 s).toArray) := hS 4 14 (by decide) rfl
  have e15 : val 15 = (.pointer (some ⟨b, 0, none⟩)) := hS 5 15 (by decide) rfl
  have e16 : val 16 = (.pointer (some ⟨b, 0, none⟩)) := hS 6 16 (by decide) rfl
  have e17 : val 17 = (.pointer (some ⟨b, 34, none⟩)) := hS 7 17 (by decide) rfl
  have e18 : val 18 = (.agg (ints .u8 x).toArray) := hS 8 18 (by decide) rfl
  have e19 : val 19 = (.agg (ints .u8 y).toArray) := hS 9 19 (by decide) rfl
  have e20 : val 20 = (.pointer (some ⟨b, 0, none⟩)) := hS 10 20 (by decide) rfl
  have e21 : val 21 = (.pointer (some ⟨b, 0, none⟩)) := hS 11 21 (by decide) rfl
  have e22 : val 22 = (.pointer (some ⟨b, 17, none⟩)) := hS 12 22 (by decide) rfl
  have e23 : val 23 = (.agg (ints .u8 t).toArray) := hS 13 23 (by decide) rfl
  have e24 : val 24 = (.agg (ints .u8 r).toArray) := hS 14 24 (by decide) rfl
  have e25 : val 25 = (.pointer (some ⟨b, 0, none⟩)) := hS 15 25 (by decide) rfl
  have e26 : val 26 = (.pointer (some ⟨b, 0, none⟩)) := hS 16 26 (by decide) rfl
  simp only [putVals, List.foldl_cons, List.foldl_nil, List.drop_succ_cons, List.drop_zero, Act.put, List.setIfInBounds_toArray, List.set_cons_succ, List.set_cons_zero, e10, e11, e12, e13, e14, e15, e16, e17, e18, e19, e20, e21, e22, e23, e24, e25, e26]
  clear hS hap hla e10 e11 e12 e13 e14 e15 e16 e17 e18 e19 e20 e21 e22 e23 e24 e25 e26 
  replace hH := hH.next hw
  replace hW := hW.trans (Below.mono hw hW.size)
  clear hw
  have hO2 := (Only.of hW b).setCells (.inl rfl) 0 (ints .u8 r).toArray.toList
  have hH2 := hH.sum HRL.out HRB.out
  have R0 : w1.there b 0 (ints .u8 r).toArray.size := hH.su.room (by rw [HRL.out, hH.sl])
  clear hH hH0 hW
  with_reducible refine wpList_store_mid (op := ⟨none, .store 61 (.tmp 26) (.tmp 24), _, _, _, _⟩) rfl 61 (.tmp 26) (.tmp 24) rfl b 0 (ints .u8 r).toArray rfl rfl R0 (a25 HRL.out) (ints_all _ _) ?_
  generalize w1.setCells b 0 (ints .u8 r).toArray.toList = w2 at *
  have R34 : w2.there b 34 (ints .u8 (zeros 17)).toArray.size := hH2.bk.room (by rw [zeros_len, hH2.bl])
  have hH3 := hH2.blk_ (zeros_len 17) (byt_zeros 17)
  have hO3 := hO2.setCells (.inl rfl) 34 (ints .u8 (zeros 17)).toArray.toList
  have fc3 := hH3.fc
  have fz3 := hH3.fz
  clear hH2 hO2
  go_wp2_with (first
    | (with_reducible refine wpList_built (o := ⟨some 29, .build 61 #[], _, _, _, _⟩) rfl 61 #[] rfl [] (ints .u8 (zeros 17)).toArray rfl built25 ?_)
    | (with_reducible refine wpList_store_mid (op := ⟨none, .store 61 (.tmp 31) (.tmp 29), _, _, _, _⟩) rfl 61 (.tmp 31) (.tmp 29) rfl b 34 (ints .u8 (zeros 17)).toArray rfl rfl R34 (a25 (zeros_len 17)) (ints_all _ _) ?_; generalize w2.setCells b 34 (ints .u8 (zeros 17)).toArray.toList = w3 at *))
  go_end0
  exact ⟨rfl, hH3.fill 0, (hO1.trans hO3).setCell (.inl rfl) _⟩
set_option maxRecDepth 50000 in
theorem pmix_any (b : Nat) (q : Nat) (t x : List Int) (fl : Nat) (w : World) (hq : q < PN) (hx : x.length = fl) (hf : fl ≤ 16) (hH : Tgr w b (pb q) t (padB x) fl) :
    Calls Tryd.prog 31 #[.pointer (some ⟨b, 0, none⟩)] w fun e w' => e = .returned (.tuple #[]) ∧ Tgr w' b (pb (stepN (bn t) q x)) t (padB []) 0 ∧ Only b w w' := by
  subst hx
  have h1 := padB_one hf
  have l1 : (padB (x ++ [1])).length = 17 := padB_length (by simp; omega)
  have b1 : Byt (padB (x ++ [1])) := by
    rw [← h1]
    intro y hy
    rcases List.mem_or_eq_of_mem_set hy with e | e
    · exact hH.bb y e
    · omega
  have ka := c_add hH.sl l1 hH.sb b1
  have km := c_mul (pb_length _) hH.tl (pb_byt ((bn (pb q) + bn (padB (x ++ [1]))) % PN)) hH.tb
  rw [pmod_bn, mix_step hq] at km
  rw [← zeros_pad]
  exact mix_core b (pb q) t (padB x) (padB (x ++ [1])) _ _ x.length w hH hf (hid h1) (hid (pb_length _)) (hid (pb_byt _)) (hid ka) (hid km)
end Go.Proofs.YtpiamcgienkhaaaDoor

/- take: bytes go into the block. -/
namespace Go.Proofs.YtpiamcgienkhaaaDoor
open Go Go.RowKit

set_option maxRecDepth 50000 in
theorem not_at {A : Option Addr} {b : Nat} {w : World} {k : IntKind} {xs : List Int} (h : Nums w k A xs) (hp : 0 < xs.length) (hA : ∀ g o s, A = some ⟨g, o, s⟩ → g ≠ b) : ∃ g off, A = some ⟨g, off, none⟩ ∧ g ≠ b ∧ g < w.heap.size ∧ ∀ i, i < xs.length → w.cell? ⟨g, off + i, none⟩ = some (.int k (xs.getD i 0)) := by
  obtain ⟨g, off, e, hlt, hc⟩ := h hp
  exact ⟨g, off, e, hA g off none e, hlt, hc⟩
set_option maxRecDepth 50000 in
theorem alen25 : Tryd.prog.arrayLen 61 = 17 := by kernel_rfl
set_option maxRecDepth 50000 in
theorem slice25 (b fl : Nat) (h : fl < 16) (W : World) : (Instr.sliceAt 61 (.pointer (some ⟨b, 34, none⟩)) (some (.int .i64 (fl : Int))) (some (.int .i64 16)) none).run Tryd.prog W = .ok (.slice (some ⟨b, 34 + fl, none⟩) (16 - fl) (17 - fl)) W := by
  rw [run_sliceAt_array_lh W 61 ⟨b, 34, none⟩ ua25 .i64 .i64 (fl : Int) 16 (by omega) (by omega) (by rw [alen25]; omega), ze25, alen25]
  have e2 : ¬ (17 = fl) := by omega
  simp [Result.andThen, slicedAt, Addr.add_mid, e2]
set_option maxRecDepth 4000 in
set_option maxHeartbeats 2000000 in
theorem take_any (b : Nat) (A : Option Addr) (c : Nat) (t m p : List Int) (w : World) (hh : Abs w b t m) (hA : Nums w .u8 A p) (hne : 0 < p.length → ∀ g o s, A = some ⟨g, o, s⟩ → g ≠ b) (hpc : p.length ≤ c) (hp : p.length ≤ 100000) (hby : Byt p) :
    Calls Tryd.prog 30 #[.pointer (some ⟨b, 0, none⟩), .slice A p.length c] w fun e w' => e = .returned (.tuple #[]) ∧ Abs w' b t (m ++ p) ∧ Only b w w' := by
  go_enter Tryd.func30, Tryd.ntmps30
  go_wp2
  go_loopw [1] (fun v wr => ∃ (k : Nat) (B : Option Addr) (d : Nat) (r : List Int), k ≤ p.length ∧ v = .slice B r.length d ∧ Hid (r = p.drop k) ∧ r.length ≤ d ∧ Nums wr .u8 B r ∧ (0 < r.length → ∀ g o s, B = some ⟨g, o, s⟩ → g ≠ b) ∧ Abs wr b t (m ++ p.take k) ∧ Only b w wr) (fun v _ => match v with | .slice _ n _ => n | _ => 0)
  case atStart => exact ⟨0, A, c, p, by omega, rfl, hid rfl, hpc, hA, hne, by simpa using hh, Only.refl _ _⟩
  case round =>
    obtain ⟨k, B, d, r, hk, rfl, HR, hrd, hN, hnB, hH0, hO⟩ := hrel
    have hrl : r.length = p.length - k := by rw [HR.out]; simp
    have hrle : r.length ≤ 100000 := by omega
    have HRL := hid hrl
    clear hrl
    have hrby : Byt r := by rw [HR.out]; exact hby.drop k
    by_cases hlt : 0 < r.length
    · obtain ⟨g, off, rfl, hgb, hgl, hc⟩ := not_at hN hlt (hnB hlt)
      obtain ⟨mk, hmk⟩ : ∃ mk, mk = m ++ p.take k := ⟨_, rfl⟩
      rw [← hmk] at hH0
      obtain ⟨fl, hfl⟩ : ∃ fl, fl = mk.length % 16 := ⟨_, rfl⟩
      have hf1 : fl < 16 := by omega
      obtain ⟨n, hn⟩ : ∃ n, n = min r.length (16 - fl) := ⟨_, rfl⟩
      have hn0 : 0 < n := by omega
      have hnr : n ≤ r.length := by omega
      have hnf : n ≤ 16 - fl := by omega
      have hH : Tgr wr b (pb (accN (bn t) mk (mk.length / 16))) t (padB (tailB mk)) fl := by rw [hfl]; exact hH0
      have HTL := hid (tailB_length mk)
      rw [← hfl] at HTL
      obtain ⟨A', hsl, hN', hg'⟩ := nums_from hN 24 5 Tryd.underlying24 (by kernel_rfl) d n hnr hlt hrd
      have fc := hH.fc
      have fz := hH.fz
      obtain ⟨x, hx⟩ : ∃ x, x = r.take n := ⟨_, rfl⟩
      have hxl : x.length = n := by rw [hx]; simp; omega
      have hxb : Byt x := by rw [hx]; exact hrby.take n
      have hsl2 := fun W => slice25 b fl hf1 W
      have hcp : (Builtin.copy_ #[24, 24] 3 #[.slice (some ⟨b, 34 + fl, none⟩) (16 - fl) (17 - fl), .slice (some ⟨g, off, none⟩) r.length d]).run Tryd.prog wr.drew = .ok (.int .i64 n) (wr.drew.setCells b (34 + fl) (ints .u8 x)) := by
        have h := run_copy_cells (P := Tryd.prog) wr.drew 24 24 3 5 b (34 + fl) (16 - fl) (17 - fl) ⟨g, off, none⟩ r.length d (ints .u8 x) Tryd.underlying24 (by kernel_rfl) (by rw [ints_length, hxl, hn]) ?_ ?_ ?_ (ints_one _ _)
        · rw [ints_length, hxl] at h; exact h
        · intro j v hv
          simp only [ints, List.getElem?_map, Option.map_eq_some_iff] at hv
          obtain ⟨y, hy, rfl⟩ := hv
          have hj := (List.getElem?_eq_some_iff.1 hy).1
          have := hc j (by omega)
          rw [Addr.add_mid]
          show wr.cell? _ = _
          rw [this]
          rw [hx, List.getElem?_take] at hy
          split at hy
          · simp [List.getD, hy]
          · cases hy
        · intro j hj
          have := (hH.bk.there (fl + j) (by rw [hH.bl]; rw [ints_length] at hj; omega)).1
          rw [← Nat.add_assoc] at this; exact this
        · intro j hj
          have := (hH.bk.there (fl + j) (by rw [hH.bl]; rw [ints_length] at hj; omega)).2
          rw [← Nat.add_assoc] at this; exact this
      have f0 : (0 : Int) ≤ fl := by omega
      have f1 : (fl : Int) ≤ 16 := by omega
      have n1 : (n : Int) ≤ 16 := by omega
      have hlay := hH.drew.lay (j := fl) (x := x) (by omega) hxb
      have hov : over (padB (tailB mk)) fl x = padB (tailB mk ++ x) := by
        have := padB_over (a := tailB mk) (x := x) (by rw [HTL.out]; omega)
        rwa [HTL.out] at this
      rw [hov] at hlay
      have HN := hid hn
      have HX := hid hx
      have HXL := hid hxl
      have HFL := hid hfl
      have HMK := hid hmk
      clear hn hx hxl hfl hmk hov hH0
      go_wp2
      go_still_tail 9, (by kernel_rfl)
      change wpList _ _ _ _ _ wr.drew
      have hO1 : Only b w (wr.drew.setCells b (34 + fl) (ints .u8 x)) := hO.drew.setCells (.inl rfl) _ _
      have hO2 : Only b wr (wr.drew.setCells b (34 + fl) (ints .u8 x)) := (Only.refl b wr).drew.setCells (.inl rfl) _ _
      have hfc1 := hlay.fc
      have hfz1 := hlay.fz
      clear fc fz hH
      generalize wr.drew.setCells b (34 + fl) (ints .u8 x) = wc at *
      have s1 : IntKind.i64.wrap ((fl : Int) + n) = (fl : Int) + n := IntWalk.i64_in _ (by omega)
      have HPX : Hid (m ++ p.take (k + n) = mk ++ x) := hid (by rw [HMK.out, List.append_assoc, HX.out, HR.out, ← List.take_add])
      have hkn : k + n ≤ p.length := by have := HRL.out; omega
      have hdrop : Hid (r.drop n = p.drop (k + n)) := by show _ = _; rw [HR.out, List.drop_drop]
      have HDL : Hid (r.length - n = (r.drop n).length) := hid (by simp)
      have hneA : ∀ g' o s, A' = some ⟨g', o, s⟩ → g' ≠ b := fun g' o s e => by
        obtain ⟨o', e2⟩ := hg' g off none rfl
        rw [e2] at e; injection e with e; injection e with e1; omega
      by_cases hfull : fl + n = 16
      · have hf16 : (fl : Int) + n = 16 := by omega
        obtain ⟨q1, q2, q3⟩ := more_full (r := bn t) (m := mk) (x := x) (by rw [← HFL.out, HXL.out]; exact hfull)
        have Q1 := hid q1
        have Q2 := hid q2
        have Q3 := hid q3
        have hH1 := hlay.fill 16
        have HTX : Hid ((tailB mk ++ x).length = 16) := hid (by rw [List.length_append, HTL.out, HXL.out]; exact hfull)
        clear q1 q2 q3 hfull hlay
        go_wp2_with (go_at_call 31; refine (pmix_any b (accN (bn t) mk (mk.length / 16)) t (tailB mk ++ x) 16 _ (accN_lt _ _ _) HTX.out (by omega) hH1).mono ?_; rintro e w3 ⟨rfl, hH3, hO3⟩)
        go_roundw
        case rel =>
          have hfin : Only b wc w3 := ((Only.refl b wc).setCell (.inl rfl) _).trans hO3
          refine ⟨k + n, A', d - n, r.drop n, hkn, by rw [HDL.out], hdrop, by rw [← HDL.out]; omega, (hN'.only hO2 hneA).only hfin hneA, fun _ => hneA, ?_, hO1.trans hfin⟩
          unfold Abs
          rw [HPX.out, Q1.out, Q2.out, Q3.out]
          exact hH3
        case measure => show r.length - n < r.length; omega
      · have hf16 : ((fl : Int) + n == 16) = false := by simp; omega
        obtain ⟨q1, q2, q3⟩ := more_part (r := bn t) (m := mk) (x := x) (by rw [← HFL.out, HXL.out]; omega)
        rw [← HFL.out, HXL.out] at q3
        have Q1 := hid q1
        have Q2 := hid q2
        have Q3 := hid q3
        have hH1 := hlay.fill (fl + n)
        clear q1 q2 q3 hfull hlay
        go_wp2
        go_roundw
        case rel =>
          have hfin : Only b wc (wc.setCell ⟨b, 51, none⟩ (.int .i64 ((fl : Int) + n))) := (Only.refl b wc).setCell (.inl rfl) _
          refine ⟨k + n, A', d - n, r.drop n, hkn, by rw [HDL.out], hdrop, by rw [← HDL.out]; omega, (hN'.only hO2 hneA).only hfin hneA, fun _ => hneA, ?_, hO1.trans hfin⟩
          unfold Abs
          rw [HPX.out, Q1.out, Q2.out, Q3.out]
          exact hH1
        case measure => show r.length - n < r.length; omega
    · have hr0 : r.length = 0 := by omega
      have hk2 : p.take k = p := List.take_of_length_le (by have := HRL.out; omega)
      have HK2 := hid hk2
      clear hk2 hr0
      go_wp2
      go_end0
      rw [HK2.out] at hH0
      exact ⟨rfl, hH0, hO⟩
end Go.Proofs.YtpiamcgienkhaaaDoor

/- Tag: the tag of parts. -/
namespace Go.Proofs.YtpiamcgienkhaaaDoor
open Go Go.RowKit

def flat (ps : List (Option Addr × Nat × List Int)) : List Int := (ps.map (·.2.2)).flatten
/-- Parts lie at A. -/
def Parts (w : World) (A : Option Addr) (ps : List (Option Addr × Nat × List Int)) : Prop := 0 < ps.length → ∃ g off, A = some ⟨g, off, none⟩ ∧ g < w.heap.size ∧ ∀ i q, ps[i]? = some q → w.cell? ⟨g, off + i, none⟩ = some (.slice q.1 q.2.2.length q.2.1)
/-- What the parts are. -/
def PartOk (w : World) (q : Option Addr × Nat × List Int) : Prop := Nums w .u8 q.1 q.2.2 ∧ q.2.2.length ≤ q.2.1 ∧ q.2.2.length ≤ 1000 ∧ Byt q.2.2
set_option maxRecDepth 50000 in
theorem flat_take (ps : List (Option Addr × Nat × List Int)) (k : Nat) {q : Option Addr × Nat × List Int} (h : ps[k]? = some q) : flat (ps.take (k + 1)) = flat (ps.take k) ++ q.2.2 := by
  simp [flat, List.take_add_one, h]
def TZ : Array Value := (ints .u8 (zeros 51) ++ [Value.int .i64 0]).toArray
set_option maxRecDepth 50000 in
theorem inf56 : (Tryd.prog.info? 63).map (fun i => (i.zero, i.size)) = some (some (.agg TZ), 52) := by kernel_rfl
set_option maxRecDepth 50000 in
theorem tz_at {j : Nat} (h : j < 51) : TZ[j]? = some (.int .u8 0) := by
  unfold TZ
  rw [List.getElem?_toArray, List.getElem?_append_left (by rw [il (zeros_len 51)]; exact h)]
  simp only [ints, List.getElem?_map, zeros, List.getElem?_replicate, h, if_true, Option.map_some]
set_option maxRecDepth 50000 in
theorem tgr_new (w : World) : Tgr (w.alloc (.cells TZ 63)) w.heap.size (zeros 17) (zeros 17) (zeros 17) 0 := by
  have key : ∀ o, o + 17 ≤ 51 → Arr (w.alloc (.cells TZ 63)) w.heap.size o .u8 (zeros 17) := fun o ho => Arr.madeAt w .u8 (zeros 17) 63 TZ o fun i x hi => by
    have h1 := (List.getElem?_eq_some_iff.1 hi).1
    rw [zeros_len] at h1
    have h2 := List.eq_of_mem_replicate (List.mem_of_getElem? hi)
    subst h2
    exact tz_at (by omega)
  refine ⟨key 0 (by omega), key 17 (by omega), key 34 (by omega), ?_, World.frozen?_alloc_new w _ 63 51, zeros_len 17, zeros_len 17, zeros_len 17, byt_zeros 17, byt_zeros 17, byt_zeros 17⟩
  rw [World.cell?_alloc_new]
  rfl
set_option maxRecDepth 50000 in
/-- What is copied into the factor. -/
theorem Tgr.tim {w : World} {b : Nat} {s t blk : List Int} {fl : Nat} (h : Tgr w b s t blk fl) {x : List Int} (hl : x.length ≤ 17) (hb : Byt x) : Tgr (w.setCells b 17 (ints .u8 x)) b s (over t 0 x) blk fl := by
  have hn : (ints .u8 x).length = x.length := ints_length _ _
  have hov : (over t 0 x).length = 17 := by rw [over_length (by rw [h.tl]; omega), h.tl]
  have ht := h.ti.over (j := 0) (ys := x) (by rw [h.tl]; omega)
  rw [Nat.add_zero] at ht
  refine ⟨h.su.past _ (.inr (.inr (by rw [h.sl]; omega))), ht, h.bk.past _ (.inr (.inl (by rw [hn]; omega))), ?_, by rw [World.frozen?_setCells]; exact h.fz, h.sl, hov, h.bl, h.sb, fun y hy => ?_, h.bb⟩
  · rw [World.cell?_setCells_out _ _ _ _ _ (fun _ _ => .inr (by rw [hn]; show 17 + x.length ≤ 51; omega))]
    exact h.fc
  · simp only [over, List.mem_append] at hy
    rcases hy with (hy | hy) | hy
    · exact h.tb y (List.mem_of_mem_take hy)
    · exact hb y hy
    · exact h.tb y (List.mem_of_mem_drop hy)
set_option maxRecDepth 50000 in
theorem pb_zero : pb 0 = zeros 17 := by decide +kernel
set_option maxRecDepth 50000 in
theorem abs_new {w : World} {b : Nat} {t : List Int} (h : Tgr w b (zeros 17) t (zeros 17) 0) : Abs w b t [] := by
  have e : pb (accN (bn t) [] (([] : List Int).length / 16)) = zeros 17 := pb_zero
  have e2 : padB (tailB []) = zeros 17 := by simp [tailB, padB]
  unfold Abs
  rw [e, e2]
  exact h
set_option maxRecDepth 8000 in
set_option maxHeartbeats 4000000 in
theorem tag_core (k1 k2 c t r : List Int) (S : Nat) (PA : Option Addr) (pc : Nat) (ps : List (Option Addr × Nat × List Int)) (w : World) (H1 : Hid (k1.length = 16)) (H2 : Hid (k2.length = 16)) (HB1 : Hid (Byt k1)) (HB2 : Hid (Byt k2)) (HKL : Hid ((k1 ++ k2).length = 32)) (HKB : Hid (Byt (k1 ++ k2)))
    (HC : Hid (c.length = 16)) (HCB : Hid (Byt c)) (KC : Hid (CallsTo 29 #[.agg (ints .u8 k1).toArray] (.agg (ints .u8 c).toArray))) (HT : Hid (over (zeros 17) 0 c = t)) (HS : Hid (sumN (bn t) (flat ps) = S)) (KL : Hid (CallsTo 32 #[.agg (ints .u8 (pb S)).toArray, .agg (ints .u8 k2).toArray] (.agg (ints .u8 r).toArray))) (HRL : Hid (r.length = 16))
    (hP : Parts w PA ps) (hok : ∀ q ∈ ps, PartOk w q) (hpl : ps.length ≤ 1000) :
    Calls Tryd.prog 19 #[.agg (ints .u8 (k1 ++ k2)).toArray, .slice PA ps.length pc] w fun e w' => e = .returned (.agg (ints .u8 r).toArray) ∧ Below w.heap.size w w' := by
  obtain ⟨z33, s33⟩ := zero_of_info inf33
  obtain ⟨z56, s56⟩ := zero_of_info inf56
  have hK := ((Arr.made w .u8 (k1 ++ k2) 22).alloc (.cells (ints .u8 (zeros 16)).toArray 33)).alloc (.cells TZ 63)
  have hR := (Arr.made (w.alloc (.cells (ints .u8 (k1 ++ k2)).toArray 22)) .u8 (zeros 16) 33).alloc (.cells TZ 63)
  have hH := tgr_new ((w.alloc (.cells (ints .u8 (k1 ++ k2)).toArray 22)).alloc (.cells (ints .u8 (zeros 16)).toArray 33))
  have hW := ((below_new w (.cells (ints .u8 (k1 ++ k2)).toArray 22)).alloc (by simp) (.cells (ints .u8 (zeros 16)).toArray 33)).alloc (by simp; omega) (.cells TZ 63)
  rw [World.size_alloc] at hR
  rw [World.size_alloc, World.size_alloc] at hH
  have harr : ∀ (W : World) (A : Option Addr) (d : Nat), (Instr.arrayAt 33 (.slice A 16 d)).run Tryd.prog W = .ok (.pointer A) W := fun W A d => by simp [Instr.arrayAt, run_underlying Tryd.underlying33]
  go_enter Tryd.func19, Tryd.ntmps19
  go_wp2_with (first
    | (with_reducible refine wpList_load_mid (op := ⟨some 11, .load 33 (.tmp 10), _, _, _, _⟩) rfl 33 (.tmp 10) rfl w.heap.size 0 rfl (ints .u8 k1) _ (hK.rw.lo.range) Tryd.underlying33 rfl (l33 H1.out) ?_))
  generalize (((w.alloc (.cells (ints .u8 (k1 ++ k2)).toArray 22)).alloc (.cells (ints .u8 (zeros 16)).toArray 33)).alloc (.cells TZ 63)) = w0 at *
  refine (KC.out _).mono ?_
  rintro e w1 ⟨rfl, hb1⟩
  replace hK := hK.next hb1
  replace hR := hR.next hb1
  replace hH := hH.next hb1
  replace hW := hW.trans (Below.mono hb1 hW.size)
  have hlt := hH.lt
  have hD := Arr.made w1 .u8 (zeros 16) 33
  have R6 : (w1.alloc (.cells (ints .u8 (zeros 16)).toArray 33)).there w1.heap.size 0 (ints .u8 c).toArray.size := hD.room (by rw [HC.out, zeros_len])
  have hD1 := hD.stored (l' := c) (by rw [HC.out, zeros_len])
  replace hK := (hK.alloc (.cells (ints .u8 (zeros 16)).toArray 33)).past (b' := w1.heap.size) (o' := 0) (ints .u8 c).toArray.toList (.inl (by omega))
  replace hR := (hR.alloc (.cells (ints .u8 (zeros 16)).toArray 33)).past (b' := w1.heap.size) (o' := 0) (ints .u8 c).toArray.toList (.inl (by omega))
  have hB2 := Below.setCells (below_new w1 (.cells (ints .u8 (zeros 16)).toArray 33)) (g := w1.heap.size) (Nat.le_refl _) 0 (ints .u8 c).toArray.toList
  replace hH := hH.next hB2
  replace hW := hW.trans (Below.mono hB2 hW.size)
  obtain ⟨d, hd⟩ : ∃ d, d = w1.heap.size := ⟨_, rfl⟩
  clear hb1 hB2 hD
  go_wp2_with (first
    | (with_reducible refine wpList_store_mid (op := ⟨none, .store 33 (.tmp 6) (.tmp 12), _, _, _, _⟩) rfl 33 (.tmp 6) (.tmp 12) rfl w1.heap.size 0 (ints .u8 c).toArray rfl rfl R6 (a33 HC.out) (ints_all _ _) ?_; generalize (w1.alloc (.cells (ints .u8 (zeros 16)).toArray 33)).setCells w1.heap.size 0 (ints .u8 c).toArray.toList = w2 at *))
  rw [← hd] at hD1 hlt ⊢
  have HD := hid hd
  clear hd R6
  have hcp := run_copyN (w := w2.drew) (b := w.heap.size + 1 + 1) (o := 17) (m := 17) (c := 17) (c' := 16) (A := some ⟨d, 0, none⟩) hD1.drew.nums HC.out (by omega) (fun j hj => hH.drew.ti.there j (by rw [hH.tl]; omega))
  have hH2 := hH.drew.tim (x := c) (by rw [HC.out]; omega) HCB.out
  rw [HT.out] at hH2
  have hK2 := hK.drew.past (b' := w.heap.size + 1 + 1) (o' := 17) (ints .u8 c) (.inl (by omega))
  have hR2 := hR.drew.past (b' := w.heap.size + 1 + 1) (o' := 17) (ints .u8 c) (.inl (by omega))
  have hW2 := Below.setCells hW.drew (g := w.heap.size + 1 + 1) (by omega) 17 (ints .u8 c)
  clear hK hR hH hW hD1
  go_still_tail 3, (by kernel_rfl)
  change wpList _ _ _ _ _ w2.drew
  go_wp2_with (fail)
  clear hcp
  generalize w2.drew.setCells (w.heap.size + 1 + 1) 17 (ints .u8 c) = w3 at *
  have hA0 : Abs w3 (w.heap.size + 1 + 1) t (flat (ps.take 0)) := abs_new hH2
  clear hH2
  go_loopw [19] (fun i wr => ∃ k : Nat, k ≤ ps.length ∧ i = .int .i64 k ∧ Abs wr (w.heap.size + 1 + 1) t (flat (ps.take k)) ∧ Arr wr w.heap.size 0 .u8 (k1 ++ k2) ∧ Arr wr (w.heap.size + 1) 0 .u8 (zeros 16) ∧ Below w.heap.size w wr) (fun i _ => ps.length - (intOf i).toNat)
  case atStart => exact ⟨0, Nat.zero_le _, rfl, hA0, hK2, hR2, hW2⟩
  case round =>
    clear hA0 hK2 hR2 hW2
    obtain ⟨k, hk, rfl, hA, hK, hR, hW⟩ := hrel
    rename World => W1
    by_cases hlt2 : k < ps.length
    · obtain ⟨q, hq⟩ : ∃ q, ps[k]? = some q := ⟨ps[k], by simp [hlt2]⟩
      obtain ⟨hN, hqc, hq1, hqb⟩ := hok q (List.mem_of_getElem? hq)
      obtain ⟨g, off, rfl, hg, hc⟩ := hP (by omega)
      have hcr : W1.cell? ⟨g, off + k, none⟩ = some (.slice q.1 q.2.2.length q.2.1) := (hW.cell (p := ⟨g, off + k, none⟩) hg).trans (hc k q hq)
      have HFT := hid (flat_take ps k hq)
      have hNr := hN.below hW
      have hne : 0 < q.2.2.length → ∀ g o s, q.1 = some ⟨g, o, s⟩ → g ≠ w.heap.size + 1 + 1 := fun hp g o s e => by
        obtain ⟨b, off, e2, hlt, _⟩ := hN hp
        rw [e2] at e; injection e with e; injection e with e1; omega
      have HQ := hid hq
      clear hc hq
      obtain ⟨qA, qc, qx⟩ := q
      simp only at hcr hNr hne hqc hq1 hqb HFT hN
      have k0 : (0 : Int) ≤ k := by omega
      have k1' : (k : Int) < ps.length := by omega
      go_wp2_with (go_at_call 30; refine (take_any (w.heap.size + 1 + 1) qA qc t (flat (ps.take k)) qx _ hA hNr hne hqc (by omega) hqb).mono ?_; rintro e w5 ⟨rfl, hA3, hO3⟩)
      go_roundw
      case rel => exact ⟨k + 1, by omega, by go_num, by rw [HFT.out]; exact hA3, hK.only hO3 (by omega), hR.only hO3 (by omega), hW.trans (hO3.below (B := w.heap.size) (by omega) hW.size)⟩
      case measure => simp [intOf]; omega
    · have hkk : ps.take k = ps := List.take_of_length_le (by omega)
      rw [hkk] at hA
      obtain ⟨m, hm⟩ : ∃ m, m = flat ps := ⟨_, rfl⟩
      rw [← hm] at hA HS
      have hps : ¬ (k : Int) < ps.length := by omega
      clear hkk hm hP hok hlt2 hk
      obtain ⟨fl, hfl⟩ : ∃ fl, fl = m.length % 16 := ⟨_, rfl⟩
      have HTL := hid (tailB_length m)
      have hH : Tgr W1 (w.heap.size + 1 + 1) (pb (accN (bn t) m (m.length / 16))) t (padB (tailB m)) fl := by rw [hfl]; exact hA
      rw [← hfl] at HTL
      have fc := hH.fc
      by_cases hf0 : 0 < fl
      · have HS2 := hid (sum_more (r := bn t) (m := m) (by omega))
        rw [HS.out] at HS2
        have f0 : (0 : Int) < (fl : Int) := by omega
        have hfl16 : fl ≤ 16 := by omega
        have HFL := hid hfl
        clear hfl hf0 hA
        go_wp2_with (go_at_call 31; refine (pmix_any (w.heap.size + 1 + 1) (accN (bn t) m (m.length / 16)) t (tailB m) fl _ (accN_lt _ _ _) HTL.out hfl16 hH).mono ?_; rintro e w7 ⟨rfl, hH7, hO7⟩)
        rw [HS2.out] at hH7
        replace hK := hK.only hO7 (by omega)
        replace hR := hR.only hO7 (by omega)
        replace hW := hW.trans (hO7.below (B := w.heap.size) (by omega) hW.size)
        clear fc hH hO7
        generalize padB [] = blk at *
        have hH := hH7
        clear hH7
        replace hK := hK.rw
        obtain ⟨fl, hfl2⟩ : ∃ f : Nat, f = 0 := ⟨_, rfl⟩
        rw [← hfl2] at hH
        clear hfl2
        have s7 := hW.size
        refine region_spec2 6 36 (fun _ => false) [Is (.pointer (some ⟨(w.heap.size + 1 + 1), 0, none⟩)), Is (.agg (ints .u8 (pb S)).toArray), Is (.slice (some ⟨w.heap.size, 16, none⟩) 16 16), Is (.pointer (some ⟨w.heap.size, 16, none⟩)), Is (.agg (ints .u8 k2).toArray), Is (.agg (ints .u8 r).toArray)] [30, 31, 32, 33, 34, 35] (by kernel_rfl) (by kernel_rfl) (by kernel_rfl) (Nat.le_of_eq rfl) (grows_cons (Is.grows _) (grows_cons (Is.grows _) (grows_cons (Is.grows _) (grows_cons (Is.grows _) (grows_cons (Is.grows _) (grows_cons (Is.grows _) grows_nil))))))
          ⟨step_one rfl (.inl rfl) (fun ev w h hc => ex_fld (P := Tryd.prog) rfl (fldT0 _) ev w h hc) rfl (knows_out 5 (by kernel_rfl) rfl),
           step_ldV rfl (.inl rfl) (fun _ hw => ((hH.su.rw.next hw)).range) rfl Tryd.underlying61 rfl (szV inf25 (il hH.sl)) rfl (knows_in 0 30 (by decide) (by kernel_rfl) rfl rfl),
           step_one rfl (.inl rfl) (fun ev w h hc => ex_slAl (P := Tryd.prog) ua41 ze41 (m := 32) (l := 16) rfl (by decide) rfl rfl rfl ev w h hc) rfl (knows_out 2 (by kernel_rfl) rfl),
           step_one rfl (.inl rfl) (fun ev w h hc => ex_arrP (P := Tryd.prog) Tryd.underlying33 (by decide) rfl ev w h hc) rfl (knows_in 2 32 (by decide) (by kernel_rfl) rfl rfl),
           step_ldV rfl (.inl rfl) (fun _ hw => (Rw.hi (o' := 16) ((hK.next hw)) (by have := H1.out; omega)).range) rfl Tryd.underlying33 rfl (szV inf33 (il H2.out)) rfl (knows_in 3 33 (by decide) (by kernel_rfl) rfl rfl),
           step_to rfl (.inl rfl) rfl cx28 KL.out rfl (two_args (knows_in 1 31 (by decide) (by kernel_rfl) rfl rfl) (knows_in 4 34 (by decide) (by kernel_rfl) rfl rfl)), trivial⟩ ?_
        intro val w8 hw hS hap hla
        have e30 : val 30 = (.pointer (some ⟨(w.heap.size + 1 + 1), 0, none⟩)) := hS 0 30 (by decide) rfl
        have e31 : val 31 = (.agg (ints .u8 (pb S)).toArray) := hS 1 31 (by decide) rfl
        have e32 : val 32 = (.slice (some ⟨w.heap.size, 16, none⟩) 16 16) := hS 2 32 (by decide) rfl
        have e33 : val 33 = (.pointer (some ⟨w.heap.size, 16, none⟩)) := hS 3 33 (by decide) rfl
        have e34 : val 34 = (.agg (ints .u8 k2).toArray) := hS 4 34 (by decide) rfl
        have e35 : val 35 = (.agg (ints .u8 r).toArray) := hS 5 35 (by decide) rfl
        simp only [putVals, List.foldl_cons, List.foldl_nil, List.drop_succ_cons, List.drop_zero, Act.put, List.setIfInBounds_toArray, List.set_cons_succ, List.set_cons_zero, e30, e31, e32, e33, e34, e35]
        clear hS hap hla e30 e31 e32 e33 e34 e35 
        replace hR := hR.next hw
        replace hW := hW.trans (Below.mono hw hW.size)
        clear hw
        have R4 : w8.there (w.heap.size + 1) 0 (ints .u8 r).toArray.size := hR.room (by rw [HRL.out, zeros_len])
        have hR2 := hR.stored (l' := r) (by rw [HRL.out, zeros_len])
        have hW2 := Below.setCells hW (g := w.heap.size + 1) (by omega) 0 (ints .u8 r).toArray.toList
        with_reducible refine wpList_store_mid (op := ⟨none, .store 33 (.tmp 4) (.tmp 35), _, _, _, _⟩) rfl 33 (.tmp 4) (.tmp 35) rfl (w.heap.size + 1) 0 (ints .u8 r).toArray rfl rfl R4 (a33 HRL.out) (ints_all _ _) ?_
        go_wp2_with (fail)
        exact ret_rows rfl (w.heap.size + 1) 0 rfl (ints .u8 r) _ hR2.range Tryd.underlying33 rfl (l33 HRL.out) rfl ⟨rfl, hW2⟩
      · have HS2 := hid (sum_end (r := bn t) (m := m) (by omega))
        rw [HS.out] at HS2
        have e0 : fl = 0 := by omega
        rw [e0] at fc
        rw [HS2.out] at hH
        clear hfl hf0 hA e0
        go_wp2_with (fail)
        generalize padB (tailB m) = blk at *
        clear fc
        generalize W1 = w7 at *
        replace hK := hK.rw
        have s7 := hW.size
        refine region_spec2 6 36 (fun _ => false) [Is (.pointer (some ⟨(w.heap.size + 1 + 1), 0, none⟩)), Is (.agg (ints .u8 (pb S)).toArray), Is (.slice (some ⟨w.heap.size, 16, none⟩) 16 16), Is (.pointer (some ⟨w.heap.size, 16, none⟩)), Is (.agg (ints .u8 k2).toArray), Is (.agg (ints .u8 r).toArray)] [30, 31, 32, 33, 34, 35] (by kernel_rfl) (by kernel_rfl) (by kernel_rfl) (Nat.le_of_eq rfl) (grows_cons (Is.grows _) (grows_cons (Is.grows _) (grows_cons (Is.grows _) (grows_cons (Is.grows _) (grows_cons (Is.grows _) (grows_cons (Is.grows _) grows_nil))))))
          ⟨step_one rfl (.inl rfl) (fun ev w h hc => ex_fld (P := Tryd.prog) rfl (fldT0 _) ev w h hc) rfl (knows_out 5 (by kernel_rfl) rfl),
           step_ldV rfl (.inl rfl) (fun _ hw => ((hH.su.rw.next hw)).range) rfl Tryd.underlying61 rfl (szV inf25 (il hH.sl)) rfl (knows_in 0 30 (by decide) (by kernel_rfl) rfl rfl),
           step_one rfl (.inl rfl) (fun ev w h hc => ex_slAl (P := Tryd.prog) ua41 ze41 (m := 32) (l := 16) rfl (by decide) rfl rfl rfl ev w h hc) rfl (knows_out 2 (by kernel_rfl) rfl),
           step_one rfl (.inl rfl) (fun ev w h hc => ex_arrP (P := Tryd.prog) Tryd.underlying33 (by decide) rfl ev w h hc) rfl (knows_in 2 32 (by decide) (by kernel_rfl) rfl rfl),
           step_ldV rfl (.inl rfl) (fun _ hw => (Rw.hi (o' := 16) ((hK.next hw)) (by have := H1.out; omega)).range) rfl Tryd.underlying33 rfl (szV inf33 (il H2.out)) rfl (knows_in 3 33 (by decide) (by kernel_rfl) rfl rfl),
           step_to rfl (.inl rfl) rfl cx28 KL.out rfl (two_args (knows_in 1 31 (by decide) (by kernel_rfl) rfl rfl) (knows_in 4 34 (by decide) (by kernel_rfl) rfl rfl)), trivial⟩ ?_
        intro val w8 hw hS hap hla
        have e30 : val 30 = (.pointer (some ⟨(w.heap.size + 1 + 1), 0, none⟩)) := hS 0 30 (by decide) rfl
        have e31 : val 31 = (.agg (ints .u8 (pb S)).toArray) := hS 1 31 (by decide) rfl
        have e32 : val 32 = (.slice (some ⟨w.heap.size, 16, none⟩) 16 16) := hS 2 32 (by decide) rfl
        have e33 : val 33 = (.pointer (some ⟨w.heap.size, 16, none⟩)) := hS 3 33 (by decide) rfl
        have e34 : val 34 = (.agg (ints .u8 k2).toArray) := hS 4 34 (by decide) rfl
        have e35 : val 35 = (.agg (ints .u8 r).toArray) := hS 5 35 (by decide) rfl
        simp only [putVals, List.foldl_cons, List.foldl_nil, List.drop_succ_cons, List.drop_zero, Act.put, List.setIfInBounds_toArray, List.set_cons_succ, List.set_cons_zero, e30, e31, e32, e33, e34, e35]
        clear hS hap hla e30 e31 e32 e33 e34 e35 
        replace hR := hR.next hw
        replace hW := hW.trans (Below.mono hw hW.size)
        clear hw
        have R4 : w8.there (w.heap.size + 1) 0 (ints .u8 r).toArray.size := hR.room (by rw [HRL.out, zeros_len])
        have hR2 := hR.stored (l' := r) (by rw [HRL.out, zeros_len])
        have hW2 := Below.setCells hW (g := w.heap.size + 1) (by omega) 0 (ints .u8 r).toArray.toList
        with_reducible refine wpList_store_mid (op := ⟨none, .store 33 (.tmp 4) (.tmp 35), _, _, _, _⟩) rfl 33 (.tmp 4) (.tmp 35) rfl (w.heap.size + 1) 0 (ints .u8 r).toArray rfl rfl R4 (a33 HRL.out) (ints_all _ _) ?_
        go_wp2_with (fail)
        exact ret_rows rfl (w.heap.size + 1) 0 rfl (ints .u8 r) _ hR2.range Tryd.underlying33 rfl (l33 HRL.out) rfl ⟨rfl, hW2⟩
set_option maxRecDepth 50000 in
theorem tag_any (key : List Int) (PA : Option Addr) (pc : Nat) (ps : List (Option Addr × Nat × List Int)) (w : World) (hl : key.length = 32) (hb : Byt key) (hP : Parts w PA ps) (hok : ∀ q ∈ ps, PartOk w q) (hpl : ps.length ≤ 1000) :
    Calls Tryd.prog 19 #[.agg (ints .u8 key).toArray, .slice PA ps.length pc] w fun e w' => e = .returned (.agg (ints .u8 (tagL key (flat ps))).toArray) ∧ Below w.heap.size w w' := by
  have h1 : (key.take 16).length = 16 := by simp [hl]
  have h2 : (key.drop 16).length = 16 := by simp [hl]
  have cl := clampL_length (key.take 16)
  have cb := clampL_byt (hb.take 16) h1
  have ht : over (zeros 17) 0 (clampL (key.take 16)) = padB (clampL (key.take 16)) := by rw [over_zeros (by omega)]; rfl
  have hbn : bn (padB (clampL (key.take 16))) = bn (clampL (key.take 16)) := padB_bn _
  have kl := c_low (pb_length _) h2 (pb_byt (sumN (bn (padB (clampL (key.take 16)))) (flat ps))) (hb.drop 16)
  rw [pb_bn (pn_lt (sumN_lt _ _)), hbn] at kl
  have e : key.take 16 ++ key.drop 16 = key := List.take_append_drop 16 key
  have := tag_core (key.take 16) (key.drop 16) (clampL (key.take 16)) (padB (clampL (key.take 16))) (tagL key (flat ps)) (sumN (bn (clampL (key.take 16))) (flat ps)) PA pc ps w (hid h1) (hid h2) (hid (hb.take 16)) (hid (hb.drop 16)) (hid (by rw [e]; exact hl)) (hid (by rw [e]; exact hb)) (hid cl) (hid cb) (hid (c_clamp h1 (hb.take 16))) (hid ht) (hid (by rw [hbn])) (hid kl) (hid (lb_length _)) hP hok hpl
  rwa [e] at this
end Go.Proofs.YtpiamcgienkhaaaDoor
