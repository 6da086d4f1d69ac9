/- The law of what is known and can be made. -/
import Derived.Test.YtboofkmbjmnpeaaDLOpensM
import Derived.Test.YtboofkmbjmnpeaaDRKnwM
namespace Go.Proofs.Ytboofkmbjmnpeaa
open Go Go.RowKit Go.Maps

theorem TRow.next {w w' : World} {A : Option Addr} {L : List T3} (h : TRow w A L) (hb : Below w.heap.size w w') : TRow w' A L := h.below hb
theorem fromQ_no {L : List T3} {gs : List Int} {w w' : World} {e : Ending} (hr : ¬ ∀ x ∈ gs, 0 ≤ x ∧ x < L.length)
    (h : Below w.heap.size w w' ∧ (((∀ x ∈ gs, 0 ≤ x ∧ x < L.length) ∧ ∃ pk, e = .returned (.tuple #[.pointer (some ⟨pk, 0, none⟩), .int .i64 0]) ∧ ∃ A c F, KR L (Gv gs) w' pk A c F ∧ ∀ b, kfoot pk A F b → w.heap.size ≤ b) ∨ (¬ (∀ x ∈ gs, 0 ≤ x ∧ x < L.length) ∧ e = .returned (.tuple #[.pointer none, .int .i64 2])))) :
    e = .returned (.tuple #[.pointer none, .int .i64 2]) ∧ Below w.heap.size w w' := by
  rcases h.2 with ⟨h1, _⟩ | ⟨_, h1⟩
  · exact absurd h1 hr
  · exact ⟨h1, h.1⟩
/-- What the law has at hand when it goes through the terms. -/
structure LF (L : List T3) (gs : List Int) (pk : Nat) (Af : Option Addr) (cf : Nat) (F : List Fa) (hb mb : Nat) (hs ms : List Bool) (w : World) : Prop where
  kr : KR L (Gv gs) w pk Af cf F
  bh : BB w hb hs
  bm : BB w mb ms
  lh : hs.length = L.length
  lm : ms.length = L.length
  ek : kF F = bat hs
  ec : cF F = bat ms
section
variable {L : List T3} {gs : List Int} {pk cf hb mb : Nat} {Af : Option Addr} {F : List Fa} {hs ms : List Bool} {w w' : World}
theorem LF.next (h : LF L gs pk Af cf F hb mb hs ms w) (hb' : Below w.heap.size w w') : LF L gs pk Af cf F hb mb hs ms w' := ⟨h.kr.next hb', Blk.next h.bh hb', Blk.next h.bm hb', h.lh, h.lm, h.ek, h.ec⟩
end
set_option maxRecDepth 50000 in
set_option maxHeartbeats 8000000 in
theorem lfrom_any (n c : Nat) (A : Option Addr) (ds : List DoV) (B : Option Addr) (m d : Nat) (gs : List Int) (w : World) (hn : ds.length = n) (hn47 : n ≤ 9223372036854775807) (hA : DoRow w.heap.size w A ds) (hm : m = gs.length) (hm47 : (m : Int) ≤ 9223372036854775807) (hB : Nums w .i64 B gs) :
    Calls Try.prog 3 #[.slice A n c, .slice B m d] w fun e w' => e = .returned (.bool true) ∧ Below w.heap.size w w' := by
  obtain ⟨fb, HF⟩ := few_split ds n
  have HM := hid hm
  clear hm
  cases fb with
  | false =>
    go_enter Try.func3, Try.ntmps3
    go_wp2_with (first
      | (go_at_call 6; refine (dawake_any _).mono ?_; rintro e w2 ⟨rfl, hb2⟩)
      | (go_at_call 7; refine (from_nil none 0 0 _).mono ?_; rintro e w3 ⟨rfl, hb3⟩; have hb03 := hb2.trans (Below.mono hb3 hb2.size))
      | (go_at_call 8; refine (few_any w.heap.size n c A ds false _ hn hn47 (hA.next hb03) hb03.size HF).mono ?_; rintro e w4 ⟨rfl, hb4⟩))
    go_ret
    exact ⟨rfl, hb03.trans (Below.mono hb4 hb03.size)⟩
  | true =>
    obtain ⟨hx100, hn30⟩ := of_decide_eq_true HF.out.symm
    by_cases hm30 : (30 : Int) < m
    · go_enter Try.func3, Try.ntmps3
      go_wp2_with (first
        | (go_at_call 6; refine (dawake_any _).mono ?_; rintro e w2 ⟨rfl, hb2⟩)
        | (go_at_call 7; refine (from_nil none 0 0 _).mono ?_; rintro e w3 ⟨rfl, hb3⟩; have hb03 := hb2.trans (Below.mono hb3 hb2.size))
        | (go_at_call 8; refine (few_any w.heap.size n c A ds true _ hn hn47 (hA.next hb03) hb03.size HF).mono ?_; rintro e w4 ⟨rfl, hb4⟩))
      go_ret
      exact ⟨rfl, hb03.trans (Below.mono hb4 hb03.size)⟩
    · have hgl : gs.length ≤ 30 := by have := HM.out; omega
      go_enter Try.func3, Try.ntmps3
      go_upto_region 8 with (first
        | (go_at_call 6; refine (dawake_any _).mono ?_; rintro e w2 ⟨rfl, hb2⟩)
        | (go_at_call 7; refine (from_nil none 0 0 _).mono ?_; rintro e w3 ⟨rfl, hb3⟩; have hb03 := hb2.trans (Below.mono hb3 hb2.size))
        | (go_at_call 8; refine (few_any w.heap.size n c A ds true _ hn hn47 (hA.next hb03) hb03.size HF).mono ?_; rintro e w4 ⟨rfl, hb4⟩))
      have hb04 := hb03.trans (Below.mono hb4 hb03.size)
      have hA4 : DoRow w4.heap.size w4 A ds := fun i d hi => by
        obtain ⟨⟨g, o, e, hg, hr⟩, h1, h2, h3, h4⟩ := (hA.next hb04) i d hi
        exact ⟨⟨g, o, e, Nat.lt_of_lt_of_le hg hb04.size, hr⟩, h1, h2, h3, (h4.nums hb04.size).under⟩
      have HMd := hid (made_any n c A ds w4 hn hn30 hA4 hx100)
      have hB4 := hB.below hb04
      clear hA hA4 hx100 hn hn47 HF hb2 hb3 hb03 hb4 hB
      go_upto_region 9 with (go_at_call 9; refine HMd.out.mono ?_; rintro e w5 ⟨p, AL, cL, L, X, Fc, rfl, hC, hFc, hW, hL30, hAL, hb5⟩)
      have hb05 := hb04.trans (Below.mono hb5 hb04.size)
      have hB5 := hB4.below hb5
      obtain ⟨A1, c1, _, _, d0, d1, _, _, _, _⟩ := hC.cells
      have HLn := hid (len_any p L.length c1 A1 w5 d0 d1)
      have HFr := hid (from_any Fc p L X B m d gs w5 hW hC HM.out hB5 hL30 (by omega))
      clear HMd hb04 hb5 hFc hB4 d0 d1
      have hlen : ((L.length : Int) != (L.length : Int)) = false := by simp
      go_upto_region 11 with (go_at_call 10; refine HLn.out.mono ?_; rintro e w6 ⟨rfl, rfl⟩)
      clear HLn hlen
      by_cases hr : ∀ x ∈ gs, 0 ≤ x ∧ x < L.length
      · have HF2 := hid (HFr.out.mono fun e w' h => fromQ_yes hr h)
        have HKn := hid (fun (w7 : World) (hb : Below w5.heap.size w5 w7) => rknown_any AL cL L B m d gs w7 hW (hAL.next hb) (hB5.below hb) HM.out hr (by omega) (by omega))
        have HRi : Hid (∀ w6, Below w5.heap.size w5 w6 → Calls Try.prog 11 #[.slice AL L.length cL, .slice B m d] w6 fun e w' => e = .returned (.bool true) ∧ w6 = w') := hid fun w6 hb => right_any AL L.length cL B m d gs true w6 HM.out (hB5.below hb) (decide_eq_true hr) (by omega)
        have HL := hid hL30
        have HW := hid hW
        have HAL := hid hAL
        have HR := hid hr
        clear HFr hC hr hL30 hW hAL
        go_upto_region 14 with (first
          | (go_at_call 7; refine HF2.out.mono ?_; rintro e w6 ⟨pk, A2, c2, F, rfl, hK, hf, hb6⟩)
          | (go_at_call 11; refine (HRi.out w6 hb6).mono ?_; rintro e w7 ⟨rfl, rfl⟩))
        have hb06 := hb05.trans (Below.mono hb6 hb05.size)
        clear HF2 HRi hf
        go_upto_region 15 with (go_at_call 12; refine (HKn.out w6 hb6).mono ?_; rintro e w7 ⟨hbk, hs, rfl, hsl, hLe, hBh, hbh, hb7⟩)
        have hb57 := hb6.trans (Below.mono hb7 hb6.size)
        have HMk := hid (rmade_any AL cL hbk L.length L hs w7 HW.out (HAL.out.next hb57) hBh hsl (by have := HL.out; omega))
        clear HKn
        go_upto_region 16 with (go_at_call 13; refine HMk.out.mono ?_; rintro e w8 ⟨mbk, ms, rfl, hMd, hBm, hbm, hb8⟩)
        have hb78 := hb7.trans (Below.mono hb8 hb7.size)
        have hle := hLe ms hMd
        have hLF : LF L gs pk A2 c2 F hbk mbk hs ms w8 := ⟨hK.next hb78, Blk.next hBh hb8, hBm, hsl, hMd.len, (hK.least.unique hle).1, (hK.least.unique hle).2⟩
        have hb08 := hb06.trans (Below.mono hb78 hb06.size)
        have hL2 : (L.length : Int) ≤ 30 := by have := HL.out; omega
        clear HMk hK hle hLe hMd hBm hBh hb7 hb8 hb78 hb57 hb06 hb6 hbh hbm hsl HAL HW HR
        go_upto_region 19 with (fail)
        have HL30 := hid hL2
        have HK8 : Hid (∀ (j : Nat) (ww : World), Below w8.heap.size w8 ww → Calls Try.prog 14 #[.pointer (some ⟨pk, 0, none⟩), .int .i64 j] ww fun e w' => e = .returned (.bool (bat hs j)) ∧ w' = ww) := hid fun j ww hb => (khas_any pk c2 A2 F j (bat hs j) ww (hLF.kr.ks.next hb) (hid (by rw [hLF.ek]; simp))).mono fun e w' h => ⟨h.1, h.2.symm⟩
        have HC8 : Hid (∀ (j : Nat) (ww : World), Below w8.heap.size w8 ww → Calls Try.prog 15 #[.pointer (some ⟨pk, 0, none⟩), .int .i64 j] ww fun e w' => e = .returned (.bool (bat ms j)) ∧ w' = ww) := hid fun j ww hb => (kcan_any pk c2 A2 F j (bat ms j) ww (hLF.kr.ks.next hb) (hid (by rw [hLF.ec]; simp))).mono fun e w' h => ⟨h.1, h.2.symm⟩
        have HF := hid hLF
        clear hLF
        go_loopw [13, 14, 68] (fun u t v wr => ∃ (j a : Nat) (A' : Option Addr) (n' c' : Nat), j ≤ L.length ∧ u = .slice A' n' c' ∧ t = .int .i64 a ∧ v = .int .i64 j ∧ Hid (a = (fl (bat ms) j).length) ∧ (a : Int) ≤ 30 ∧ Owns wr w8.heap.size 3 .i64 (.slice A' n' c') (fl (bat hs) j) ∧ Below w8.heap.size w8 wr) (fun _ _ v _ => L.length - (intOf v).toNat)
        case atStart => exact ⟨0, 0, none, 0, 0, Nat.zero_le _, rfl, rfl, rfl, hid rfl, by omega, Owns.none_ _ _ _ _, Below.refl _ _⟩
        case round =>
          obtain ⟨j, a, A', n', c', hj, rfl, rfl, rfl, HA, ha, hO, hb⟩ := hrel
          by_cases hlt : j < L.length
          · have hlt' : (j : Int) < L.length := by omega
            have j0 : (0 : Int) ≤ j := by omega
            have j1 : j + 1 ≤ L.length := by omega
            have x0 := BB.cell (Blk.next HF.out.bh hb) (i := j) (by rw [HF.out.lh]; exact hlt)
            have x1 := BB.cell (Blk.next HF.out.bm hb) (i := j) (by rw [HF.out.lm]; exact hlt)
            have HZ : Hid (∀ W, Below w8.heap.size w8 W → W.cell? ⟨mbk, j, none⟩ = some (.bool (bat ms j))) := hid fun W hW => BB.cell (Blk.next HF.out.bm hW) (i := j) (by rw [HF.out.lm]; exact hlt)
            have y0 := hid (HK8.out j)
            have y1 := hid (HC8.out j)
            have hlen : ((fl (bat hs) j).length + 1) * 8 ≤ 140737488355328 := by have := fl_len (bat hs) j; have := HL30.out; omega
            have HA1 : Hid (a + (if bat ms j then 1 else 0) = (fl (bat ms) (j + 1)).length) := hid (by rw [fl_lenS, HA.out])
            have HA2 : Hid ((a : Int) + (if bat ms j then 1 else 0) ≤ 30) := hid (by have h1 := fl_len (bat ms) (j + 1); have h2 := HL30.out; have h3 := HA1.out; split at h3 <;> simp_all <;> omega)
            have HO1 : Hid (fl (bat hs) (j + 1) = if bat hs j then fl (bat hs) j ++ [(j : Int)] else fl (bat hs) j) := hid (by cases h : bat hs j with | true => rw [fl_yes h]; rfl | false => rw [fl_no h]; rfl)
            obtain ⟨u, hu⟩ : ∃ u, bat hs j = u := ⟨_, rfl⟩
            obtain ⟨v, hv⟩ : ∃ v, bat ms j = v := ⟨_, rfl⟩
            change wr.cell? _ = some (.bool (bat hs j)) at x0
            change wr.cell? _ = some (.bool (bat ms j)) at x1
            rw [hu] at x0 y0 HO1
            rw [hv] at x1 y1 HA1 HA2 HZ
            clear hlt hj hu hv HA
            cases u <;> cases v
            · have HA3 := HA1.out
              have HA4 := HA2.out
              simp at HA3 HA4
              have HA5 := hid HA3
              clear HA1 HA2 HA3
              go_upto_region 21 with (fail)
              go_quiet (first | (go_at_call 14; exact Calls.quiet_of_same (y0.out _ (below_drewN hb _))) | (go_at_call 15; exact Calls.quiet_of_same (y1.out _ (below_drewN hb _))))
              have hbW := below_drewN hb nq
              have hOW := hO.drewN nq
              rw [show fl (bat hs) j = fl (bat hs) (j + 1) from HO1.out.symm] at hOW
              go_wp2
              go_roundw
              case rel => exact ⟨j + 1, a, A', n', c', j1, rfl, rfl, by go_num, HA5, ha, hOW, hbW⟩
              case measure => simp [intOf]; omega
            · have HA3 := HA1.out
              have HA4 := HA2.out
              simp at HA3 HA4
              have HA5 := hid HA3
              clear HA1 HA2 HA3
              go_upto_region 21 with (fail)
              go_quiet (first | (go_at_call 14; exact Calls.quiet_of_same (y0.out _ (below_drewN hb _))) | (go_at_call 15; exact Calls.quiet_of_same (y1.out _ (below_drewN hb _))))
              have hbW := below_drewN hb nq
              have hOW := hO.drewN nq
              rw [show fl (bat hs) j = fl (bat hs) (j + 1) from HO1.out.symm] at hOW
              go_wp2
              go_roundw
              case rel => exact ⟨j + 1, a + 1, A', n', c', j1, rfl, by go_num, by go_num, HA5, by omega, hOW, hbW⟩
              case measure => simp [intOf]; omega
            · have HA3 := HA1.out
              have HA4 := HA2.out
              simp at HA3 HA4
              have HA5 := hid HA3
              clear HA1 HA2 HA3
              go_upto_region 21 with (fail)
              go_quiet (first | (go_at_call 14; exact Calls.quiet_of_same (y0.out _ (below_drewN hb _))) | (go_at_call 15; exact Calls.quiet_of_same (y1.out _ (below_drewN hb _))))
              have hbW := below_drewN hb nq
              have hOW := hO.drewN nq
              have hz : w8.heap.size ≤ (wr.drewN nq).heap.size := hbW.size
              go_wp2_with (at_builtin; refine app_oneG rfl (.tmp 93) (.tmp 95) 23 rfl w8.heap.size 3 .i64 8 Try.underlying23 infIb (by decide) A' n' c' _ rfl hOW j 1 rfl hlen hz ?_; intro A3 n3 c3 W3 hO3 hG3; have z1 := HZ.out W3 (hbW.grown hG3.1 hz (fun q hq => (hOW.ge q hq).1)))
              rw [show fl (bat hs) j ++ [(j : Int)] = fl (bat hs) (j + 1) from HO1.out.symm] at hO3
              have hb3 : Below w8.heap.size w8 W3 := hbW.grown hG3.1 hz (fun q hq => (hOW.ge q hq).1)
              go_roundw
              case rel => exact ⟨j + 1, a, A3, n3, c3, j1, rfl, rfl, by go_num, HA5, ha, hO3, hb3⟩
              case measure => simp [intOf]; omega
            · have HA3 := HA1.out
              have HA4 := HA2.out
              simp at HA3 HA4
              have HA5 := hid HA3
              clear HA1 HA2 HA3
              go_upto_region 21 with (fail)
              go_quiet (first | (go_at_call 14; exact Calls.quiet_of_same (y0.out _ (below_drewN hb _))) | (go_at_call 15; exact Calls.quiet_of_same (y1.out _ (below_drewN hb _))))
              have hbW := below_drewN hb nq
              have hOW := hO.drewN nq
              have hz : w8.heap.size ≤ (wr.drewN nq).heap.size := hbW.size
              go_wp2_with (at_builtin; refine app_oneG rfl (.tmp 93) (.tmp 95) 23 rfl w8.heap.size 3 .i64 8 Try.underlying23 infIb (by decide) A' n' c' _ rfl hOW j 1 rfl hlen hz ?_; intro A3 n3 c3 W3 hO3 hG3; have z1 := HZ.out W3 (hbW.grown hG3.1 hz (fun q hq => (hOW.ge q hq).1)))
              rw [show fl (bat hs) j ++ [(j : Int)] = fl (bat hs) (j + 1) from HO1.out.symm] at hO3
              have hb3 : Below w8.heap.size w8 W3 := hbW.grown hG3.1 hz (fun q hq => (hOW.ge q hq).1)
              go_roundw
              case rel => exact ⟨j + 1, a + 1, A3, n3, c3, j1, rfl, by go_num, by go_num, HA5, by omega, hO3, hb3⟩
              case measure => simp [intOf]; omega
          · obtain rfl : L.length = j := by omega
            have HLn := hid hO.len3
            have hn30 : n' ≤ 30 := by have h1 := fl_len (bat hs) L.length; have h2 := HL30.out; have h3 := HLn.out; omega
            have HCt : Hid (Calls Try.prog 16 #[.pointer (some ⟨pk, 0, none⟩)] wr fun e w' => e = .returned (.tuple #[.int .i64 n', .int .i64 a]) ∧ Below wr.heap.size wr w') := hid ((count_any pk A2 c2 F wr (HF.out.kr.ks.next hb) (by rw [HF.out.kr.ok.len]; have := HL30.out; omega)).mono fun e w' ⟨x, y, h1, h2, h3, h4⟩ => ⟨by rw [HF.out.kr.ok.len, HF.out.ek] at h2; rw [HF.out.kr.ok.len, HF.out.ec] at h3; rw [h1, h2, h3, HLn.out, HA.out], h4⟩)
            have HLi : Hid (∀ ww, Below w8.heap.size w8 ww → Calls Try.prog 18 #[.pointer (some ⟨pk, 0, none⟩)] ww fun e w' => ∃ A3 c3, e = .returned (.slice A3 n' c3) ∧ Nums w' .i64 A3 (fl (bat hs) L.length) ∧ Below ww.heap.size ww w') := hid fun ww hw => (list_any pk A2 c2 F ww (HF.out.kr.ks.next hw) (by rw [HF.out.kr.ok.len]; have := HL30.out; omega)).mono fun e w' ⟨A3, n3, c3, h1, h2, h3⟩ => by rw [HF.out.kr.ok.len, HF.out.ek] at h2; have h4 := h2.len3; rw [← HLn.out] at h4; subst h4; exact ⟨A3, c3, h1, h2.nums, h3⟩
            have HNo : Hid (∀ ww, Below w8.heap.size w8 ww → Calls Try.prog 14 #[.pointer (some ⟨pk, 0, none⟩), .int .i64 (-1)] ww fun e w' => e = .returned (.bool false) ∧ ww = w') := hid fun ww hw => khas_any pk c2 A2 F (-1) false ww (HF.out.kr.ks.next hw) (hid rfl)
            have HNc : Hid (∀ ww, Below w8.heap.size w8 ww → Calls Try.prog 15 #[.pointer (some ⟨pk, 0, none⟩), .int .i64 L.length] ww fun e w' => e = .returned (.bool false) ∧ ww = w') := hid fun ww hw => kcan_any pk c2 A2 F L.length false ww (HF.out.kr.ks.next hw) (hid (by rw [HF.out.ec]; simp [bat, HF.out.lm]))
            have hN := hO.nums
            have hb0r := hb08.trans (Below.mono hb hb08.size)
            clear hO HF HK8 HC8 HA hlt hj
            go_upto_region 29 with (go_at_call 16; refine HCt.out.mono ?_; rintro e w9 ⟨rfl, hb9⟩)
            have hb89 := hb.trans (Below.mono hb9 hb.size)
            have hN9 := hN.below hb9
            clear HCt hN
            go_wp2_with (first | (go_at_call 18; refine (HLi.out w9 hb89).mono ?_; rintro e w10 ⟨A3, c3, rfl, hN3, hb10⟩; have hN10 := hN9.below hb10; have hb810 := hb89.trans (Below.mono hb10 hb89.size)) | (go_at_call 17; refine (ints_any A3 A' n' n' c3 c' _ _ true w10 (by omega) HLn.out HLn.out (decide_eq_true rfl) hN3 hN10).mono ?_; rintro e w11 ⟨rfl, hb11⟩; have hb811 := hb810.trans (Below.mono hb11 hb810.size)) | (go_at_call 14; refine (HNo.out w11 hb811).mono ?_; rintro e w12 ⟨rfl, rfl⟩) | (go_at_call 15; refine (HNc.out w11 hb811).mono ?_; rintro e w13 ⟨rfl, rfl⟩))
            go_ret
            exact ⟨rfl, hb08.trans (Below.mono hb811 hb08.size)⟩
      · have HF2 := hid (HFr.out.mono fun e w' h => fromQ_no hr h)
        have HRi : Hid (∀ w6, Below w5.heap.size w5 w6 → Calls Try.prog 11 #[.slice AL L.length cL, .slice B m d] w6 fun e w' => e = .returned (.bool false) ∧ w6 = w') := hid fun w6 hb => right_any AL L.length cL B m d gs false w6 HM.out (hB5.below hb) (decide_eq_false hr) (by omega)
        clear HFr hC hr hL30 hW hAL
        go_wp2_with (first
          | (go_at_call 7; refine HF2.out.mono ?_; rintro e w6 ⟨rfl, hb6⟩)
          | (go_at_call 11; refine (HRi.out w6 hb6).mono ?_; rintro e w7 ⟨rfl, rfl⟩))
        go_ret
        exact ⟨rfl, hb05.trans (Below.mono hb6 hb05.size)⟩
end Go.Proofs.Ytboofkmbjmnpeaa
