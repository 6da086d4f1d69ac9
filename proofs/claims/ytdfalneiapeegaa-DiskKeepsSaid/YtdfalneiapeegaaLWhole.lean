/- All that is told of a disk is the document's. -/
import Derived.Test.YtdfalneiapeegaaLOneB
namespace Go.Proofs.Ytdfalneiapeegaa
open Go Go.RowKit Go.Maps

theorem cxT9 : ∀ vs w, (callFunc 9 vs).run Try.prog w = .ok (.enter 9 vs) w := enters_of Try.func9 (by kernel_rfl) rfl
theorem cxT16 : ∀ vs w, (callFunc 16 vs).run Try.prog w = .ok (.enter 16 vs) w := enters_of Try.func16 (by kernel_rfl) rfl
theorem cxT22 : ∀ vs w, (callFunc 22 vs).run Try.prog w = .ok (.enter 22 vs) w := enters_of Try.func22 (by kernel_rfl) rfl
theorem cxT23 : ∀ vs w, (callFunc 23 vs).run Try.prog w = .ok (.enter 23 vs) w := enters_of Try.func23 (by kernel_rfl) rfl
set_option maxHeartbeats 4000000 in
theorem whole_any (lo : Nat) (Fd Fx B : Nat → Prop) (p q m : Nat) (D : DK) (w : World) (h : Prs lo Fd Fx B w p q D) (hD : Dok m D) (hm : m ≤ 900) :
    Calls Try.prog 13 #[.pointer (some ⟨p, 0, none⟩), .pointer (some ⟨q, 0, none⟩)] w fun e w' => e = .returned (.bool true) ∧ Below w.heap.size w w' := by
  obtain ⟨AK, cK, AW, cW, f, c0, c1, c2, c3, c4, x2⟩ := h.rs.cells
  obtain ⟨off, hoff⟩ : ∃ off, D.off = off := ⟨_, rfl⟩
  obtain ⟨kl, hkl⟩ : ∃ kl, D.K.length = kl := ⟨_, rfl⟩
  obtain ⟨wl, hwl⟩ : ∃ wl, D.W.length = wl := ⟨_, rfl⟩
  obtain ⟨li, hli⟩ : ∃ li, D.li = li := ⟨_, rfl⟩
  rw [hoff] at c3
  rw [hkl] at c0
  rw [hwl] at c1
  rw [hli] at c4
  have hk16 : kl ≤ 16384 := by rw [← hkl]; exact hD.k1
  have HP := hid h
  have HDk := hid hD
  have Hoff := hid hoff
  have Hkl := hid hkl
  have Hwl := hid hwl
  have Hli := hid hli
  clear h hD hoff hkl hwl hli x2 c2
  go_enter Try.func13, Try.ntmps13
  go_upto_region 2 with (fail)
  go_loopw [13] (fun v wr => ∃ k : Nat, k ≤ kl ∧ v = .int .i64 k ∧ Below w.heap.size w wr) (fun v _ => kl - (intOf v).toNat)
  case atStart => exact ⟨0, Nat.zero_le _, rfl, Below.refl _ _⟩
  case round =>
    obtain ⟨k, hk, rfl, hb⟩ := hrel
    have hP := HP.out.next hb
    have r0 := cellB c0 hb
    have r1 := cellB c1 hb
    have r3 := cellB c3 hb
    have r4 := cellB c4 hb
    by_cases hlt : k < kl
    · have hkk : (k : Int) < kl := by omega
      have hk0 : (0 : Int) ≤ k := by omega
      have HK := hid hlt
      cases off with
      | true =>
        have e : readR D k = (30, []) := by unfold readR; rw [if_pos Hoff.out]
        have HR := dread_any Fd p m D k wr hP.ds HDk.out
        rw [e] at HR
        have HRb := HR
        clear hP r0 r1 r4 hlt hk e HR
        go_upto_region 5 with (go_at_call 17; refine HRb.mono ?_; rintro e w2 ⟨A2, c2, rfl, _, hb2⟩)
        have r3 := cellB r3 hb2
        go_wp2
        go_roundw
        case rel => exact ⟨k + 1, HK.out, by go_num, hb.trans (Below.mono hb2 hb.size)⟩
        case measure => have := HK.out; simp [intOf]; omega
      | false =>
        have hr : ¬ ((k : Int) < 0 ∨ (D.K.length : Int) ≤ k) := by rw [Hkl.out]; omega
        obtain ⟨s, hs⟩ : ∃ s, (pres D.K D.W)[k]? = some s := ⟨_, List.getElem?_eq_getElem (by rw [pres_length, Hkl.out]; exact hlt)⟩
        have hs64 := (pres_sz HDk.out.wW HDk.out.sK).get hs
        have e : readR D k = (0, s) := by
          unfold readR
          rw [if_neg (by rw [Hoff.out]; simp), if_neg hr]
          show (0, (pres D.K D.W).getD k []) = _
          rw [getD_of hs]
        have HR := dread_any Fd p m D k wr hP.ds HDk.out
        rw [e] at HR
        dsimp only at HR
        rw [hs64] at HR
        have HA : Hid (∀ ww, Below wr.heap.size wr ww → Calls Try.prog 31 #[.pointer (some ⟨q, 0, none⟩), .int .i64 k] ww fun e w' => (∃ A c, e = .returned (.slice A 64 c) ∧ NumsS B w' .u8 A s) ∧ Below ww.heap.size ww w') := hid (fun ww hw => rat_any Fx B q m D k s ww (hP.rs.next hw) HDk.out hm hs)
        have Hs64 := hid hs64
        clear hP r0 r1 r4 hlt hk e hr hs hs64
        go_upto_region 5 with (go_at_call 17; refine HR.mono ?_; rintro e w2 ⟨A2, c2, rfl, hF2, hb2⟩)
        have r3 := cellB r3 hb2
        clear HR
        go_wp2_with (first
          | (go_at_call 19; refine (same64 _ _ _ _ s _ Hs64.out hF3.nums hN3').mono ?_; rintro e w4 ⟨rfl, hb4⟩)
          | (go_at_call 31; refine (HA.out _ hb2).mono ?_; rintro e w3 ⟨⟨A3, c3', rfl, hN3⟩, hb3⟩; have hF3 := hF2.stay hb3; have hN3' : Nums w3 .u8 A3 s := fun hp => (by obtain ⟨b, off, e, _, hc⟩ := hN3 hp; exact ⟨b, off, e, World.block_lt_of_cell? w3 _ (hc 0 hp), hc⟩)))
        go_roundw
        case rel => exact ⟨k + 1, HK.out, by go_num, ((hb.trans (Below.mono hb2 hb.size)).trans (Below.mono hb3 (Nat.le_trans hb.size hb2.size))).trans (Below.mono hb4 (Nat.le_trans hb.size (Nat.le_trans hb2.size hb3.size)))⟩
        case measure => have := HK.out; simp [intOf]; omega
    · have hge : ¬ (k : Int) < kl := by omega
      have HC1 : Hid (∀ ww, Cl wr ww → Calls Try.prog 9 #[.pointer (some ⟨p, 0, none⟩)] ww fun e w' => e = .returned (.int .i64 (kl : Nat)) ∧ Below ww.heap.size ww w') := hid (fun ww hw => by have := calls_q (dsz (hP.next hw).ds); rwa [Hkl.out] at this)
      have HC2 : Hid (∀ ww, Cl wr ww → Calls Try.prog 16 #[.pointer (some ⟨p, 0, none⟩)] ww fun e w' => e = .returned (.int .i64 (wl : Nat)) ∧ Below ww.heap.size ww w') := hid (fun ww hw => by have := calls_q (dwt (hP.next hw).ds); rwa [Hwl.out] at this)
      have HC3 : Hid (∀ ww, Cl wr ww → Calls Try.prog 22 #[.pointer (some ⟨p, 0, none⟩)] ww fun e w' => e = .returned (.int .i64 li) ∧ Below ww.heap.size ww w') := hid (fun ww hw => by have := calls_q (dlv (hP.next hw).ds); rwa [Hli.out] at this)
      have HC4 : Hid (∀ ww, Cl wr ww → Calls Try.prog 23 #[.pointer (some ⟨p, 0, none⟩)] ww fun e w' => e = .returned (.bool off) ∧ Below ww.heap.size ww w') := hid (fun ww hw => by have := calls_q (dof (hP.next hw).ds); rwa [Hoff.out] at this)
      have hk1 : ((kl : Int) == (kl : Int)) = true := beq_self_eq_true _
      have hk2 : ((wl : Int) == (wl : Int)) = true := beq_self_eq_true _
      have hk3 : (li == li) = true := beq_self_eq_true _
      have hk4 : (off == off) = true := beq_self_eq_true _
      clear hP hlt hk
      go_upto_region 11 with (fail)
      refine region_spec2 36 80 (fun _ => false) [Is (Value.pointer (some ⟨p, 0, none⟩)), Is (Value.int .i64 (kl : Nat)), Is (Value.pointer (some ⟨q, 0, none⟩)), Is (Value.pointer (some ⟨q, 0, none⟩)), Is (Value.pointer (some ⟨q, 0, none⟩)), Is (Value.slice AK kl cK), Is (Value.int .i64 (kl : Nat)), Is (Value.bool true), Is (Value.bool true), Is (Value.pointer (some ⟨p, 0, none⟩)), Is (Value.int .i64 (wl : Nat)), Is (Value.pointer (some ⟨q, 0, none⟩)), Is (Value.pointer (some ⟨q, 0, none⟩)), Is (Value.pointer (some ⟨q, 1, none⟩)), Is (Value.slice AW wl cW), Is (Value.int .i64 (wl : Nat)), Is (Value.bool true), Is (Value.bool true), Is (Value.bool true), Is (Value.pointer (some ⟨p, 0, none⟩)), Is (Value.int .i64 li), Is (Value.pointer (some ⟨q, 0, none⟩)), Is (Value.pointer (some ⟨q, 0, none⟩)), Is (Value.pointer (some ⟨q, 4, none⟩)), Is (Value.int .i64 li), Is (Value.bool true), Is (Value.bool true), Is (Value.bool true), Is (Value.pointer (some ⟨p, 0, none⟩)), Is (Value.bool off), Is (Value.pointer (some ⟨q, 0, none⟩)), Is (Value.pointer (some ⟨q, 0, none⟩)), Is (Value.pointer (some ⟨q, 3, none⟩)), Is (Value.bool off), Is (Value.bool true), Is (Value.bool true)] [44, 45, 46, 47, 48, 49, 50, 51, 52, 53, 54, 55, 56, 57, 58, 59, 60, 61, 62, 63, 64, 65, 66, 67, 68, 69, 70, 71, 72, 73, 74, 75, 76, 77, 78, 79] (by kernel_rfl) (by kernel_rfl) (by kernel_rfl) (Nat.le_of_eq rfl) (grows_cons (Is.grows _) (grows_cons (Is.grows _) (grows_cons (Is.grows _) (grows_cons (Is.grows _) (grows_cons (Is.grows _) (grows_cons (Is.grows _) (grows_cons (Is.grows _) (grows_cons (Is.grows _) (grows_cons (Is.grows _) (grows_cons (Is.grows _) (grows_cons (Is.grows _) (grows_cons (Is.grows _) (grows_cons (Is.grows _) (grows_cons (Is.grows _) (grows_cons (Is.grows _) (grows_cons (Is.grows _) (grows_cons (Is.grows _) (grows_cons (Is.grows _) (grows_cons (Is.grows _) (grows_cons (Is.grows _) (grows_cons (Is.grows _) (grows_cons (Is.grows _) (grows_cons (Is.grows _) (grows_cons (Is.grows _) (grows_cons (Is.grows _) (grows_cons (Is.grows _) (grows_cons (Is.grows _) (grows_cons (Is.grows _) (grows_cons (Is.grows _) (grows_cons (Is.grows _) (grows_cons (Is.grows _) (grows_cons (Is.grows _) (grows_cons (Is.grows _) (grows_cons (Is.grows _) (grows_cons (Is.grows _) (grows_cons (Is.grows _) grows_nil))))))))))))))))))))))))))))))))))))
        ⟨(step_ex _ rfl (.inl rfl) rfl (fun a ww hw hf hd => by
       have h0 : a.eval (.tmp 0) = Value.pointer (some ⟨p, 0, none⟩) := ((knows_out 0 (by kernel_rfl) rfl) : Knows _ _ _ _ _ _ 0 _ _) a ww hw hf hd
       revert h0
       generalize a.eval = ev
       intro h0
       unfold execOp
       simp only [h0]
       go_simp)),
         (step_cw rfl (.inl rfl) rfl cxT9 rfl (fun aa ww hw hf hd => ⟨_, (one_arg (knows_in 0 44 (by decide) (by kernel_rfl) rfl rfl)) aa ww hw hf hd, HC1.out ww hw⟩)),
         (step_ex _ rfl (.inl rfl) rfl (fun a ww hw hf hd => by
       have h1 : a.eval (.tmp 1) = Value.pointer (some ⟨q, 0, none⟩) := ((knows_out 1 (by kernel_rfl) rfl) : Knows _ _ _ _ _ _ 2 _ _) a ww hw hf hd
       revert h1
       generalize a.eval = ev
       intro h1
       unfold execOp
       simp only [h1]
       go_simp)),
         (step_ex _ rfl (.inl rfl) rfl (fun a ww hw hf hd => by
       have h46 : a.eval (.tmp 46) = Value.pointer (some ⟨q, 0, none⟩) := ((knows_in 2 46 (by decide) (by kernel_rfl) rfl rfl) : Knows _ _ _ _ _ _ 3 _ _) a ww hw hf hd
       revert h46
       generalize a.eval = ev
       intro h46
       unfold execOp
       simp only [h46]
       go_simp)),
         (step_ex _ rfl (.inl rfl) rfl (fun a ww hw hf hd => by
       have h47 : a.eval (.tmp 47) = Value.pointer (some ⟨q, 0, none⟩) := ((knows_in 3 47 (by decide) (by kernel_rfl) rfl rfl) : Knows _ _ _ _ _ _ 4 _ _) a ww hw hf hd
       revert h47
       generalize a.eval = ev
       intro h47
       unfold execOp
       simp only [h47]
       go_simp)),
         (step_ex _ rfl (.inl rfl) rfl (fun a ww hw hf hd => by
       have h48 : a.eval (.tmp 48) = Value.pointer (some ⟨q, 0, none⟩) := ((knows_in 4 48 (by decide) (by kernel_rfl) rfl rfl) : Knows _ _ _ _ _ _ 5 _ _) a ww hw hf hd
       have f0 : ww.cell? ⟨q, 0, none⟩ = some (Value.slice AK kl cK) := cellB r0 hw
       revert h48
       generalize a.eval = ev
       intro h48
       unfold execOp
       simp only [h48]
       go_simp)),
         (step_ex _ rfl (.inl rfl) rfl (fun a ww hw hf hd => by
       have h49 : a.eval (.tmp 49) = Value.slice AK kl cK := ((knows_in 5 49 (by decide) (by kernel_rfl) rfl rfl) : Knows _ _ _ _ _ _ 6 _ _) a ww hw hf hd
       revert h49
       generalize a.eval = ev
       intro h49
       unfold execOp
       simp only [h49]
       go_simp)),
         (step_ex _ rfl (.inl rfl) rfl (fun a ww hw hf hd => by
       have h45 : a.eval (.tmp 45) = Value.int .i64 (kl : Nat) := ((knows_in 1 45 (by decide) (by kernel_rfl) rfl rfl) : Knows _ _ _ _ _ _ 7 _ _) a ww hw hf hd
       have h50 : a.eval (.tmp 50) = Value.int .i64 (kl : Nat) := ((knows_in 6 50 (by decide) (by kernel_rfl) rfl rfl) : Knows _ _ _ _ _ _ 7 _ _) a ww hw hf hd
       have f0 := hk1
       revert h45 h50
       generalize a.eval = ev
       intro h45 h50
       unfold execOp
       simp only [h45, h50]
       go_simp)),
         (step_ex _ rfl (.inl rfl) rfl (fun a ww hw hf hd => by
       have h51 : a.eval (.tmp 51) = Value.bool true := ((knows_in 7 51 (by decide) (by kernel_rfl) rfl rfl) : Knows _ _ _ _ _ _ 8 _ _) a ww hw hf hd
       revert h51
       generalize a.eval = ev
       intro h51
       unfold execOp
       simp only [h51]
       go_simp)),
         (step_ex _ rfl (.inr ⟨8, true, 52, rfl, by decide, by kernel_rfl, rfl, fun _ _ h => h⟩) rfl (fun a ww hw hf hd => by
       have h0 : a.eval (.tmp 0) = Value.pointer (some ⟨p, 0, none⟩) := ((knows_out 0 (by kernel_rfl) rfl) : Knows _ _ _ _ _ _ 9 _ _) a ww hw hf hd
       revert h0
       generalize a.eval = ev
       intro h0
       unfold execOp
       simp only [h0]
       go_simp)),
         (step_cw rfl (.inr ⟨8, true, 52, rfl, by decide, by kernel_rfl, rfl, fun _ _ h => h⟩) rfl cxT16 rfl (fun aa ww hw hf hd => ⟨_, (one_arg (knows_in 9 53 (by decide) (by kernel_rfl) rfl rfl)) aa ww hw hf hd, HC2.out ww hw⟩)),
         (step_ex _ rfl (.inr ⟨8, true, 52, rfl, by decide, by kernel_rfl, rfl, fun _ _ h => h⟩) rfl (fun a ww hw hf hd => by
       have h1 : a.eval (.tmp 1) = Value.pointer (some ⟨q, 0, none⟩) := ((knows_out 1 (by kernel_rfl) rfl) : Knows _ _ _ _ _ _ 11 _ _) a ww hw hf hd
       revert h1
       generalize a.eval = ev
       intro h1
       unfold execOp
       simp only [h1]
       go_simp)),
         (step_ex _ rfl (.inr ⟨8, true, 52, rfl, by decide, by kernel_rfl, rfl, fun _ _ h => h⟩) rfl (fun a ww hw hf hd => by
       have h55 : a.eval (.tmp 55) = Value.pointer (some ⟨q, 0, none⟩) := ((knows_in 11 55 (by decide) (by kernel_rfl) rfl rfl) : Knows _ _ _ _ _ _ 12 _ _) a ww hw hf hd
       revert h55
       generalize a.eval = ev
       intro h55
       unfold execOp
       simp only [h55]
       go_simp)),
         (step_ex _ rfl (.inr ⟨8, true, 52, rfl, by decide, by kernel_rfl, rfl, fun _ _ h => h⟩) rfl (fun a ww hw hf hd => by
       have h56 : a.eval (.tmp 56) = Value.pointer (some ⟨q, 0, none⟩) := ((knows_in 12 56 (by decide) (by kernel_rfl) rfl rfl) : Knows _ _ _ _ _ _ 13 _ _) a ww hw hf hd
       revert h56
       generalize a.eval = ev
       intro h56
       unfold execOp
       simp only [h56]
       go_simp)),
         (step_ex _ rfl (.inr ⟨8, true, 52, rfl, by decide, by kernel_rfl, rfl, fun _ _ h => h⟩) rfl (fun a ww hw hf hd => by
       have h57 : a.eval (.tmp 57) = Value.pointer (some ⟨q, 1, none⟩) := ((knows_in 13 57 (by decide) (by kernel_rfl) rfl rfl) : Knows _ _ _ _ _ _ 14 _ _) a ww hw hf hd
       have f0 : ww.cell? ⟨q, 1, none⟩ = some (Value.slice AW wl cW) := cellB r1 hw
       revert h57
       generalize a.eval = ev
       intro h57
       unfold execOp
       simp only [h57]
       go_simp)),
         (step_ex _ rfl (.inr ⟨8, true, 52, rfl, by decide, by kernel_rfl, rfl, fun _ _ h => h⟩) rfl (fun a ww hw hf hd => by
       have h58 : a.eval (.tmp 58) = Value.slice AW wl cW := ((knows_in 14 58 (by decide) (by kernel_rfl) rfl rfl) : Knows _ _ _ _ _ _ 15 _ _) a ww hw hf hd
       revert h58
       generalize a.eval = ev
       intro h58
       unfold execOp
       simp only [h58]
       go_simp)),
         (step_ex _ rfl (.inr ⟨8, true, 52, rfl, by decide, by kernel_rfl, rfl, fun _ _ h => h⟩) rfl (fun a ww hw hf hd => by
       have h54 : a.eval (.tmp 54) = Value.int .i64 (wl : Nat) := ((knows_in 10 54 (by decide) (by kernel_rfl) rfl rfl) : Knows _ _ _ _ _ _ 16 _ _) a ww hw hf hd
       have h59 : a.eval (.tmp 59) = Value.int .i64 (wl : Nat) := ((knows_in 15 59 (by decide) (by kernel_rfl) rfl rfl) : Knows _ _ _ _ _ _ 16 _ _) a ww hw hf hd
       have f0 := hk2
       revert h54 h59
       generalize a.eval = ev
       intro h54 h59
       unfold execOp
       simp only [h54, h59]
       go_simp)),
         (step_ex _ rfl (.inl rfl) rfl (fun a ww hw hf hd => by
       have h52 : a.eval (.tmp 52) = Value.bool true := ((knows_in 8 52 (by decide) (by kernel_rfl) rfl rfl) : Knows _ _ _ _ _ _ 17 _ _) a ww hw hf hd
       have h60 : a.eval (.tmp 60) = Value.bool true := ((knows_in 16 60 (by decide) (by kernel_rfl) rfl rfl) : Knows _ _ _ _ _ _ 17 _ _) a ww hw hf hd
       have hc := ec a
       revert hc h52 h60
       generalize a.eval = ev
       intro hc h52 h60
       unfold execOp
       simp only [hc, h52, h60]
       go_simp)),
         (step_ex _ rfl (.inl rfl) rfl (fun a ww hw hf hd => by
       have h61 : a.eval (.tmp 61) = Value.bool true := ((knows_in 17 61 (by decide) (by kernel_rfl) rfl rfl) : Knows _ _ _ _ _ _ 18 _ _) a ww hw hf hd
       revert h61
       generalize a.eval = ev
       intro h61
       unfold execOp
       simp only [h61]
       go_simp)),
         (step_ex _ rfl (.inr ⟨18, true, 62, rfl, by decide, by kernel_rfl, rfl, fun _ _ h => h⟩) rfl (fun a ww hw hf hd => by
       have h0 : a.eval (.tmp 0) = Value.pointer (some ⟨p, 0, none⟩) := ((knows_out 0 (by kernel_rfl) rfl) : Knows _ _ _ _ _ _ 19 _ _) a ww hw hf hd
       revert h0
       generalize a.eval = ev
       intro h0
       unfold execOp
       simp only [h0]
       go_simp)),
         (step_cw rfl (.inr ⟨18, true, 62, rfl, by decide, by kernel_rfl, rfl, fun _ _ h => h⟩) rfl cxT22 rfl (fun aa ww hw hf hd => ⟨_, (one_arg (knows_in 19 63 (by decide) (by kernel_rfl) rfl rfl)) aa ww hw hf hd, HC3.out ww hw⟩)),
         (step_ex _ rfl (.inr ⟨18, true, 62, rfl, by decide, by kernel_rfl, rfl, fun _ _ h => h⟩) rfl (fun a ww hw hf hd => by
       have h1 : a.eval (.tmp 1) = Value.pointer (some ⟨q, 0, none⟩) := ((knows_out 1 (by kernel_rfl) rfl) : Knows _ _ _ _ _ _ 21 _ _) a ww hw hf hd
       revert h1
       generalize a.eval = ev
       intro h1
       unfold execOp
       simp only [h1]
       go_simp)),
         (step_ex _ rfl (.inr ⟨18, true, 62, rfl, by decide, by kernel_rfl, rfl, fun _ _ h => h⟩) rfl (fun a ww hw hf hd => by
       have h65 : a.eval (.tmp 65) = Value.pointer (some ⟨q, 0, none⟩) := ((knows_in 21 65 (by decide) (by kernel_rfl) rfl rfl) : Knows _ _ _ _ _ _ 22 _ _) a ww hw hf hd
       revert h65
       generalize a.eval = ev
       intro h65
       unfold execOp
       simp only [h65]
       go_simp)),
         (step_ex _ rfl (.inr ⟨18, true, 62, rfl, by decide, by kernel_rfl, rfl, fun _ _ h => h⟩) rfl (fun a ww hw hf hd => by
       have h66 : a.eval (.tmp 66) = Value.pointer (some ⟨q, 0, none⟩) := ((knows_in 22 66 (by decide) (by kernel_rfl) rfl rfl) : Knows _ _ _ _ _ _ 23 _ _) a ww hw hf hd
       revert h66
       generalize a.eval = ev
       intro h66
       unfold execOp
       simp only [h66]
       go_simp)),
         (step_ex _ rfl (.inr ⟨18, true, 62, rfl, by decide, by kernel_rfl, rfl, fun _ _ h => h⟩) rfl (fun a ww hw hf hd => by
       have h67 : a.eval (.tmp 67) = Value.pointer (some ⟨q, 4, none⟩) := ((knows_in 23 67 (by decide) (by kernel_rfl) rfl rfl) : Knows _ _ _ _ _ _ 24 _ _) a ww hw hf hd
       have f0 : ww.cell? ⟨q, 4, none⟩ = some (Value.int .i64 li) := cellB r4 hw
       revert h67
       generalize a.eval = ev
       intro h67
       unfold execOp
       simp only [h67]
       go_simp)),
         (step_ex _ rfl (.inr ⟨18, true, 62, rfl, by decide, by kernel_rfl, rfl, fun _ _ h => h⟩) rfl (fun a ww hw hf hd => by
       have h64 : a.eval (.tmp 64) = Value.int .i64 li := ((knows_in 20 64 (by decide) (by kernel_rfl) rfl rfl) : Knows _ _ _ _ _ _ 25 _ _) a ww hw hf hd
       have h68 : a.eval (.tmp 68) = Value.int .i64 li := ((knows_in 24 68 (by decide) (by kernel_rfl) rfl rfl) : Knows _ _ _ _ _ _ 25 _ _) a ww hw hf hd
       have f0 := hk3
       revert h64 h68
       generalize a.eval = ev
       intro h64 h68
       unfold execOp
       simp only [h64, h68]
       go_simp)),
         (step_ex _ rfl (.inl rfl) rfl (fun a ww hw hf hd => by
       have h62 : a.eval (.tmp 62) = Value.bool true := ((knows_in 18 62 (by decide) (by kernel_rfl) rfl rfl) : Knows _ _ _ _ _ _ 26 _ _) a ww hw hf hd
       have h69 : a.eval (.tmp 69) = Value.bool true := ((knows_in 25 69 (by decide) (by kernel_rfl) rfl rfl) : Knows _ _ _ _ _ _ 26 _ _) a ww hw hf hd
       have hc := ec a
       revert hc h62 h69
       generalize a.eval = ev
       intro hc h62 h69
       unfold execOp
       simp only [hc, h62, h69]
       go_simp)),
         (step_ex _ rfl (.inl rfl) rfl (fun a ww hw hf hd => by
       have h70 : a.eval (.tmp 70) = Value.bool true := ((knows_in 26 70 (by decide) (by kernel_rfl) rfl rfl) : Knows _ _ _ _ _ _ 27 _ _) a ww hw hf hd
       revert h70
       generalize a.eval = ev
       intro h70
       unfold execOp
       simp only [h70]
       go_simp)),
         (step_ex _ rfl (.inr ⟨27, true, 71, rfl, by decide, by kernel_rfl, rfl, fun _ _ h => h⟩) rfl (fun a ww hw hf hd => by
       have h0 : a.eval (.tmp 0) = Value.pointer (some ⟨p, 0, none⟩) := ((knows_out 0 (by kernel_rfl) rfl) : Knows _ _ _ _ _ _ 28 _ _) a ww hw hf hd
       revert h0
       generalize a.eval = ev
       intro h0
       unfold execOp
       simp only [h0]
       go_simp)),
         (step_cw rfl (.inr ⟨27, true, 71, rfl, by decide, by kernel_rfl, rfl, fun _ _ h => h⟩) rfl cxT23 rfl (fun aa ww hw hf hd => ⟨_, (one_arg (knows_in 28 72 (by decide) (by kernel_rfl) rfl rfl)) aa ww hw hf hd, HC4.out ww hw⟩)),
         (step_ex _ rfl (.inr ⟨27, true, 71, rfl, by decide, by kernel_rfl, rfl, fun _ _ h => h⟩) rfl (fun a ww hw hf hd => by
       have h1 : a.eval (.tmp 1) = Value.pointer (some ⟨q, 0, none⟩) := ((knows_out 1 (by kernel_rfl) rfl) : Knows _ _ _ _ _ _ 30 _ _) a ww hw hf hd
       revert h1
       generalize a.eval = ev
       intro h1
       unfold execOp
       simp only [h1]
       go_simp)),
         (step_ex _ rfl (.inr ⟨27, true, 71, rfl, by decide, by kernel_rfl, rfl, fun _ _ h => h⟩) rfl (fun a ww hw hf hd => by
       have h74 : a.eval (.tmp 74) = Value.pointer (some ⟨q, 0, none⟩) := ((knows_in 30 74 (by decide) (by kernel_rfl) rfl rfl) : Knows _ _ _ _ _ _ 31 _ _) a ww hw hf hd
       revert h74
       generalize a.eval = ev
       intro h74
       unfold execOp
       simp only [h74]
       go_simp)),
         (step_ex _ rfl (.inr ⟨27, true, 71, rfl, by decide, by kernel_rfl, rfl, fun _ _ h => h⟩) rfl (fun a ww hw hf hd => by
       have h75 : a.eval (.tmp 75) = Value.pointer (some ⟨q, 0, none⟩) := ((knows_in 31 75 (by decide) (by kernel_rfl) rfl rfl) : Knows _ _ _ _ _ _ 32 _ _) a ww hw hf hd
       revert h75
       generalize a.eval = ev
       intro h75
       unfold execOp
       simp only [h75]
       go_simp)),
         (step_ex _ rfl (.inr ⟨27, true, 71, rfl, by decide, by kernel_rfl, rfl, fun _ _ h => h⟩) rfl (fun a ww hw hf hd => by
       have h76 : a.eval (.tmp 76) = Value.pointer (some ⟨q, 3, none⟩) := ((knows_in 32 76 (by decide) (by kernel_rfl) rfl rfl) : Knows _ _ _ _ _ _ 33 _ _) a ww hw hf hd
       have f0 : ww.cell? ⟨q, 3, none⟩ = some (Value.bool off) := cellB r3 hw
       revert h76
       generalize a.eval = ev
       intro h76
       unfold execOp
       simp only [h76]
       go_simp)),
         (step_ex _ rfl (.inr ⟨27, true, 71, rfl, by decide, by kernel_rfl, rfl, fun _ _ h => h⟩) rfl (fun a ww hw hf hd => by
       have h73 : a.eval (.tmp 73) = Value.bool off := ((knows_in 29 73 (by decide) (by kernel_rfl) rfl rfl) : Knows _ _ _ _ _ _ 34 _ _) a ww hw hf hd
       have h77 : a.eval (.tmp 77) = Value.bool off := ((knows_in 33 77 (by decide) (by kernel_rfl) rfl rfl) : Knows _ _ _ _ _ _ 34 _ _) a ww hw hf hd
       have f0 := hk4
       revert h73 h77
       generalize a.eval = ev
       intro h73 h77
       unfold execOp
       simp only [h73, h77]
       go_simp)),
         (step_ex _ rfl (.inl rfl) rfl (fun a ww hw hf hd => by
       have h71 : a.eval (.tmp 71) = Value.bool true := ((knows_in 27 71 (by decide) (by kernel_rfl) rfl rfl) : Knows _ _ _ _ _ _ 35 _ _) a ww hw hf hd
       have h78 : a.eval (.tmp 78) = Value.bool true := ((knows_in 34 78 (by decide) (by kernel_rfl) rfl rfl) : Knows _ _ _ _ _ _ 35 _ _) a ww hw hf hd
       have hc := ec a
       revert hc h71 h78
       generalize a.eval = ev
       intro hc h71 h78
       unfold execOp
       simp only [hc, h71, h78]
       go_simp)), trivial⟩ ?_
      intro val W5 hw hS _ _
      have e44 : val 44 = Value.pointer (some ⟨p, 0, none⟩) := hS 0 44 (by decide) rfl
      have e45 : val 45 = Value.int .i64 (kl : Nat) := hS 1 45 (by decide) rfl
      have e46 : val 46 = Value.pointer (some ⟨q, 0, none⟩) := hS 2 46 (by decide) rfl
      have e47 : val 47 = Value.pointer (some ⟨q, 0, none⟩) := hS 3 47 (by decide) rfl
      have e48 : val 48 = Value.pointer (some ⟨q, 0, none⟩) := hS 4 48 (by decide) rfl
      have e49 : val 49 = Value.slice AK kl cK := hS 5 49 (by decide) rfl
      have e50 : val 50 = Value.int .i64 (kl : Nat) := hS 6 50 (by decide) rfl
      have e51 : val 51 = Value.bool true := hS 7 51 (by decide) rfl
      have e52 : val 52 = Value.bool true := hS 8 52 (by decide) rfl
      have e53 : val 53 = Value.pointer (some ⟨p, 0, none⟩) := hS 9 53 (by decide) rfl
      have e54 : val 54 = Value.int .i64 (wl : Nat) := hS 10 54 (by decide) rfl
      have e55 : val 55 = Value.pointer (some ⟨q, 0, none⟩) := hS 11 55 (by decide) rfl
      have e56 : val 56 = Value.pointer (some ⟨q, 0, none⟩) := hS 12 56 (by decide) rfl
      have e57 : val 57 = Value.pointer (some ⟨q, 1, none⟩) := hS 13 57 (by decide) rfl
      have e58 : val 58 = Value.slice AW wl cW := hS 14 58 (by decide) rfl
      have e59 : val 59 = Value.int .i64 (wl : Nat) := hS 15 59 (by decide) rfl
      have e60 : val 60 = Value.bool true := hS 16 60 (by decide) rfl
      have e61 : val 61 = Value.bool true := hS 17 61 (by decide) rfl
      have e62 : val 62 = Value.bool true := hS 18 62 (by decide) rfl
      have e63 : val 63 = Value.pointer (some ⟨p, 0, none⟩) := hS 19 63 (by decide) rfl
      have e64 : val 64 = Value.int .i64 li := hS 20 64 (by decide) rfl
      have e65 : val 65 = Value.pointer (some ⟨q, 0, none⟩) := hS 21 65 (by decide) rfl
      have e66 : val 66 = Value.pointer (some ⟨q, 0, none⟩) := hS 22 66 (by decide) rfl
      have e67 : val 67 = Value.pointer (some ⟨q, 4, none⟩) := hS 23 67 (by decide) rfl
      have e68 : val 68 = Value.int .i64 li := hS 24 68 (by decide) rfl
      have e69 : val 69 = Value.bool true := hS 25 69 (by decide) rfl
      have e70 : val 70 = Value.bool true := hS 26 70 (by decide) rfl
      have e71 : val 71 = Value.bool true := hS 27 71 (by decide) rfl
      have e72 : val 72 = Value.pointer (some ⟨p, 0, none⟩) := hS 28 72 (by decide) rfl
      have e73 : val 73 = Value.bool off := hS 29 73 (by decide) rfl
      have e74 : val 74 = Value.pointer (some ⟨q, 0, none⟩) := hS 30 74 (by decide) rfl
      have e75 : val 75 = Value.pointer (some ⟨q, 0, none⟩) := hS 31 75 (by decide) rfl
      have e76 : val 76 = Value.pointer (some ⟨q, 3, none⟩) := hS 32 76 (by decide) rfl
      have e77 : val 77 = Value.bool off := hS 33 77 (by decide) rfl
      have e78 : val 78 = Value.bool true := hS 34 78 (by decide) rfl
      have e79 : val 79 = Value.bool true := hS 35 79 (by decide) rfl
      simp only [putVals, List.foldl_cons, List.foldl_nil, List.drop_succ_cons, List.drop_zero, Act.put, List.setIfInBounds_toArray, List.set_cons_succ, List.set_cons_zero, e44, e45, e46, e47, e48, e49, e50, e51, e52, e53, e54, e55, e56, e57, e58, e59, e60, e61, e62, e63, e64, e65, e66, e67, e68, e69, e70, e71, e72, e73, e74, e75, e76, e77, e78, e79]
      clear e44 e45 e46 e47 e48 e49 e50 e51 e52 e53 e54 e55 e56 e57 e58 e59 e60 e61 e62 e63 e64 e65 e66 e67 e68 e69 e70 e71 e72 e73 e74 e75 e76 e77 e78 e79 hS
      go_wp2
      go_ret
      exact ⟨rfl, hb.trans (Below.mono hw hb.size)⟩
end Go.Proofs.Ytdfalneiapeegaa
