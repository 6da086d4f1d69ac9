/- SuiteTerms: the law's walk. -/
import Derived.Test.YtpncohoonfahpaaGreatDoorUStepM
namespace Go.Proofs.YtpncohoonfahpaaGreatDoor
open Go Go.RowKit

set_option maxRecDepth 50000 in
theorem TI.start {F : Nat → Prop} {w0 w : World} {q p : Nat} (h : Su F w q p [] []) (hb : Below w0.heap.size w0 w) (hF : ∀ b, F b → w0.heap.size ≤ b) (hq : w0.heap.size ≤ q) : TI F w0 q p [] [] [] (.slice none 0 0) [] w :=
  ⟨h, OwnsP.none_ w _, ⟨rfl, fun i q hi => by simp at hi⟩, fun m hm => by simp at hm, fun i s b hi => by simp at hi, hb, hF, hq, fun g hg => (by cases hg), fun pq hp => (by simp at hp)⟩
set_option maxRecDepth 50000 in
theorem Su.same {F : Nat → Prop} {w w' : World} {q p : Nat} {L : List T3} {X : List (List Int)} (h : Su F w q p L X) (e : w = w') : Su F w' q p L X := e ▸ h
set_option maxRecDepth 50000 in
theorem infDoU : (Tryz.prog.info? 59).map (·.size) = some 4 := by kernel_rfl
set_option maxRecDepth 50000 in
set_option maxHeartbeats 16000000 in
theorem terms_any (n c : Nat) (A : Option Addr) (ds : List DoS) (w : World) (hT : TabsH w) (hn : ds.length = n) (hn47 : n ≤ 9223372036854775807) (hA : DsRow w.heap.size w A ds) :
    Calls Tryz.prog 5 #[.slice A n c] w fun e w' => e = .returned (.bool true) ∧ Below w.heap.size w w' := by
  go_enter Tryz.func5, Tryz.ntmps5
  go_upto_region 3 with (go_at_call 8; refine (awake_any _ hT).mono ?_; rintro e w1 ⟨rfl, hb1⟩)
  clear hT
  by_cases hfew : (∀ d ∈ ds, d.x.length ≤ 100) ∧ n ≤ 20
  · have HF1 := hid (few_any w.heap.size n c A ds true w1 hn hn47 (hA.next hb1) hb1.size (hid (decide_eq_true hfew).symm))
    have HX := hid hfew.1
    have hn20 := hfew.2
    have HN := hid hn
    clear hfew hn hn47
    go_upto_region 6 with (first
      | (go_at_call 40; refine HF1.out.mono ?_; rintro e w2 ⟨rfl, hb2⟩)
      | (go_at_call 41; refine (terms_new _).mono ?_; rintro e w3 ⟨F, q, p, rfl, hb3, hS3, hF3, hq3⟩))
    have hb12 := hb1.trans (Below.mono hb2 hb1.size)
    have hTI := TI.start hS3 (hb12.trans (Below.mono hb3 hb12.size)) (fun b hb => Nat.le_trans hb12.size (hF3 b hb)) (Nat.le_trans hb12.size hq3)
    have HA := hid hA
    clear HF1 hb1 hb2 hb3 hS3 hF3 hq3 hb12 hA
    go_wp2
    go_loopw [37, 4] (fun iv rv wr => ∃ (k m : Nat) (ns : List Nat) (L : List T3) (X : List (List Int)) (F : Nat → Prop) (ps : List Part) (PA : Option Addr) (pc : Nat), k ≤ n ∧ iv = .int .i64 k ∧ rv = .slice PA m pc ∧ Hid (ns.length = m) ∧ TI F w q p ns L X (.slice PA m pc) ps wr ∧ L.length ≤ 2 * k ∧ X.length ≤ k ∧ m ≤ k) (fun v _ _ => n - (intOf v).toNat)
    case atStart => exact ⟨0, 0, [], [], [], F, [], none, 0, Nat.zero_le _, rfl, rfl, hid rfl, hTI, Nat.le_refl _, Nat.le_refl _, Nat.le_refl _⟩
    case round =>
      clear hTI F
      obtain ⟨k, m, ns, L, X, F, ps, PA, pc, hk, rfl, rfl, Hm, hI, hL2, hXk, hmk⟩ := hrel
      by_cases hlt : k < n
      · obtain ⟨d, hd⟩ : ∃ d, ds[k]? = some d := ⟨ds[k]'(by rw [HN.out]; exact hlt), by simp [HN.out, hlt]⟩
        obtain ⟨⟨g, o, rfl, hg, hr⟩, hdx, hdA⟩ := (HA.out.next hI.bel) k d hd
        have hx2 := HX.out d (List.mem_of_getElem? hd)
        have r0 := hr 0 _ rfl
        have r1 := hr 1 _ rfl
        have r2 := hr 2 _ rfl
        have r3 := hr 3 _ rfl
        simp only [Nat.add_zero] at r0
        obtain ⟨dl, hdl⟩ : ∃ dl, d.x.length = dl := ⟨_, rfl⟩
        rw [hdl] at r3
        obtain ⟨W, hW, hBk, hbW⟩ := ds_world d.kind d.a d.b d.A dl d.c wr
        have HW := hid hW
        have HDL := hid hdl
        have HD0 := hid hd
        have hkn : (k : Int) < n := by omega
        have hk0 : (0 : Int) ≤ k := by omega
        have hk1 : k + 1 ≤ n := by omega
        have hIW := hI.next hbW
        have hB0 : w.heap.size ≤ wr.heap.size := hI.bel.size
        clear hr hW hd hlt hk hdl
        go_upto_region 10 with (fail)
        rw [HW.out]
        clear r0 r1 r2 r3
        obtain ⟨x, hx⟩ : ∃ x, pickO ns d.a = x := ⟨_, rfl⟩
        obtain ⟨y, hy⟩ : ∃ y, pickO ns d.b = y := ⟨_, rfl⟩
        have hxl : ∀ n, x = some n → n < L.length := fun n e => hIW.pick n (hx.trans e)
        have hyl : ∀ n, y = some n → n < L.length := fun n e => hIW.pick n (hy.trans e)
        have HK1 := hid (fun ww (hw : Cl W ww) => hIW.pk Hm.out (by omega) hx hw)
        have HK2 := hid (fun ww (hw : Cl W ww) => hIW.pk Hm.out (by omega) hy hw)
        clear hx hy
        refine region_spec2 9 286 (fun _ => false) [Is (Value.slice PA m pc), Is (Value.pointer (some ⟨wr.heap.size, 1, none⟩)), Is (Value.int .i64 d.a), (fun v w => Vl w v x), Is (Value.slice PA m pc), Is (Value.pointer (some ⟨wr.heap.size, 2, none⟩)), Is (Value.int .i64 d.b), (fun v w => Vl w v y), (fun v w => Vl w v x)] [41, 42, 43, 44, 45, 46, 47, 48, 7] (by kernel_rfl) (by kernel_rfl) (by kernel_rfl) (Nat.le_of_eq rfl) (grows_cons (Is.grows _) (grows_cons (Is.grows _) (grows_cons (Is.grows _) (grows_cons (fun _ _ _ h hb => Vl.next h hb) (grows_cons (Is.grows _) (grows_cons (Is.grows _) (grows_cons (Is.grows _) (grows_cons (fun _ _ _ h hb => Vl.next h hb) (grows_cons (fun _ _ _ h hb => Vl.next h hb) grows_nil)))))))))
          ⟨(step_ex _ rfl (.inl rfl) rfl (fun a ww hw hf hd => by
         have h4 : a.eval (.tmp 4) = Value.slice PA m pc := ((knows_out 4 (by kernel_rfl) rfl) : Knows _ _ _ _ _ _ 0 _ _) a ww hw hf hd
         revert h4
         generalize a.eval = ev
         intro h4
         unfold execOp
         simp only [h4]
         go_simp)),
           (step_ex _ rfl (.inl rfl) rfl (fun a ww hw hf hd => by
         have h6 : a.eval (.tmp 6) = Value.pointer (some ⟨wr.heap.size, 0, none⟩) := ((knows_out 6 (by kernel_rfl) rfl) : Knows _ _ _ _ _ _ 1 _ _) a ww hw hf hd
         revert h6
         generalize a.eval = ev
         intro h6
         unfold execOp
         simp only [h6]
         go_simp)),
           (step_ex _ rfl (.inl rfl) rfl (fun a ww hw hf hd => by
         have h42 : a.eval (.tmp 42) = Value.pointer (some ⟨wr.heap.size, 1, none⟩) := ((knows_in 1 42 (by decide) (by kernel_rfl) rfl rfl) : Knows _ _ _ _ _ _ 2 _ _) a ww hw hf hd
         have f0 : ww.cell? ⟨wr.heap.size, 1, none⟩ = some (Value.int .i64 d.a) := (hBk.next hw).cell (i := 1) rfl
         revert h42
         generalize a.eval = ev
         intro h42
         unfold execOp
         simp only [h42]
         go_simp)),
           (step_callR rfl (.inl rfl) rfl cxT42 rfl (fun aa ww hw hf hd => ⟨_, (two_args (knows_in 0 41 (by decide) (by kernel_rfl) rfl rfl) (knows_in 2 43 (by decide) (by kernel_rfl) rfl rfl)) aa ww hw hf hd, HK1.out ww hw⟩)),
           (step_ex _ rfl (.inl rfl) rfl (fun a ww hw hf hd => by
         have h4 : a.eval (.tmp 4) = Value.slice PA m pc := ((knows_out 4 (by kernel_rfl) rfl) : Knows _ _ _ _ _ _ 4 _ _) a ww hw hf hd
         revert h4
         generalize a.eval = ev
         intro h4
         unfold execOp
         simp only [h4]
         go_simp)),
           (step_ex _ rfl (.inl rfl) rfl (fun a ww hw hf hd => by
         have h6 : a.eval (.tmp 6) = Value.pointer (some ⟨wr.heap.size, 0, none⟩) := ((knows_out 6 (by kernel_rfl) rfl) : Knows _ _ _ _ _ _ 5 _ _) a ww hw hf hd
         revert h6
         generalize a.eval = ev
         intro h6
         unfold execOp
         simp only [h6]
         go_simp)),
           (step_ex _ rfl (.inl rfl) rfl (fun a ww hw hf hd => by
         have h46 : a.eval (.tmp 46) = Value.pointer (some ⟨wr.heap.size, 2, none⟩) := ((knows_in 5 46 (by decide) (by kernel_rfl) rfl rfl) : Knows _ _ _ _ _ _ 6 _ _) a ww hw hf hd
         have f0 : ww.cell? ⟨wr.heap.size, 2, none⟩ = some (Value.int .i64 d.b) := (hBk.next hw).cell (i := 2) rfl
         revert h46
         generalize a.eval = ev
         intro h46
         unfold execOp
         simp only [h46]
         go_simp)),
           (step_callR rfl (.inl rfl) rfl cxT42 rfl (fun aa ww hw hf hd => ⟨_, (two_args (knows_in 4 45 (by decide) (by kernel_rfl) rfl rfl) (knows_in 6 47 (by decide) (by kernel_rfl) rfl rfl)) aa ww hw hf hd, HK2.out ww hw⟩)),
           (step_copyW rfl (.inl rfl) 3 44 (by first | exact .inl rfl | exact .inr rfl) rfl (by decide) (by kernel_rfl) rfl rfl), trivial⟩ ?_
        intro val w10 hw hS _ _
        have e41 : val 41 = Value.slice PA m pc := hS 0 41 (by decide) rfl
        have e42 : val 42 = Value.pointer (some ⟨wr.heap.size, 1, none⟩) := hS 1 42 (by decide) rfl
        have e43 : val 43 = Value.int .i64 d.a := hS 2 43 (by decide) rfl
        have e45 : val 45 = Value.slice PA m pc := hS 4 45 (by decide) rfl
        have e46 : val 46 = Value.pointer (some ⟨wr.heap.size, 2, none⟩) := hS 5 46 (by decide) rfl
        have e47 : val 47 = Value.int .i64 d.b := hS 6 47 (by decide) rfl
        have P48 := hS 7 48 (by decide) rfl
        have P7 := hS 8 7 (by decide) rfl
        simp only [putVals, List.foldl_cons, List.foldl_nil, List.drop_succ_cons, List.drop_zero, Act.put, List.setIfInBounds_toArray, List.set_cons_succ, List.set_cons_zero, e41, e42, e43, e45, e46, e47]
        clear e41 e42 e43 e45 e46 e47 hS
        generalize val 44 = g44 at *
        generalize val 48 = g48 at *
        generalize val 7 = g7 at *
        have h10 := hIW.next hw
        have hbr : Below wr.heap.size wr w10 := hbW.trans (Below.mono hw hbW.size)
        have hBk10 := hBk.next hw
        have hB10 := Nat.le_trans hbW.size hw.size
        obtain ⟨nx, hnx⟩ : ∃ nx, nOf x = nx := ⟨_, rfl⟩
        obtain ⟨bx, hbx⟩ : ∃ bx, x.isSome = bx := ⟨_, rfl⟩
        obtain ⟨by_, hby⟩ : ∃ by_, y.isSome = by_ := ⟨_, rfl⟩
        obtain ⟨ny, hny⟩ : ∃ ny, nOf y = ny := ⟨_, rfl⟩
        have HN1 := hid (TI.num h10.su P7 hxl (by omega) hnx hbx)
        have HN2 := hid (fun ww (hw : Below w10.heap.size w10 ww) => TI.num (h10.su.next hw) (P48.next hw) hyl (by omega) hny hby)
        have HNX := hid hnx
        have HBX := hid hbx
        have HNY := hid hny
        have HBY := hid hby
        clear HK1 HK2 hnx hbx hby hny hw hIW hBk
        go_upto_region 12 with (go_at_call 43; refine HN1.out.mono ?_; rintro e w11 ⟨rfl, hb11⟩)
        clear HN1
        go_upto_region 13 with (go_at_call 43; refine (HN2.out w11 hb11).mono ?_; rintro e w12 ⟨rfl, hb12⟩)
        clear HN2
        have hb02 := hb11.trans (Below.mono hb12 hb11.size)
        have h12 := h10.next hb02
        have hBk12 := hBk10.next hb02
        have q0 := hBk12.cell (i := 0) rfl
        have q1 := hBk12.cell (i := 1) rfl
        have q2 := hBk12.cell (i := 2) rfl
        have q3 := hBk12.cell (i := 3) rfl
        have HD := hid (h12.do_ (P7.next hb02) (P48.next hb02) hxl hyl HDL.out hdx hx2 (hdA.stay (Below.mono (hbr.trans (Below.mono hb02 hbr.size)) hB0)) (by omega) (by omega))
        have hFb : ¬ F wr.heap.size := fun hf => absurd (hI.su.bd _ hf) (Nat.lt_irrefl _)
        have HXL := hid hxl
        have HYL := hid hyl
        clear P7 P48 hxl hyl hdx hdA hbr hB0 h10 hBk10 hb11 hb12 hI hb02 hbW hx2
        go_upto_region 14 with (go_at_call 44; refine HD.out.mono ?_; rintro e w13 ⟨v, er, rfl, hP⟩)
        clear HD q0 q1 q2 q3
        rcases hP with ⟨rfl, her, hbad, F2, hS2, hF2, hC2⟩ | ⟨rfl, A2, c2, i2, L2, X2, rfl, hM, hright, hlL, hlX⟩
        · have hI2 := h12.turn hS2 hF2 hC2 (Nat.le_refl _) h12.at'
          have hBk2 := hBk12.chg hC2 hFb
          clear hS2 hF2 hC2 h12 hBk12 hFb
          go_upto_region 16 with (go_at_call 43; refine (number_nil F2 q p L X _ hI2.su).mono ?_; rintro e s13 ⟨rfl, rfl⟩)
          go_upto_region 17 with (first
            | (go_at_call 15; refine (store_is F2 q p L X _ hI2.su).mono ?_; rintro e s14 ⟨rfl, rfl⟩)
            | (go_at_call 45; refine (get_gen F2 p L X nx _ hI2.su.cs).mono ?_; rintro e w14 ⟨u, bu, rfl, hb14, hu, hui⟩))
          obtain ⟨W2, hW2, d0, d1, d2, hbW2, hBt⟩ := term_world u w14
          have y0 := ((hBk2.next hb14).next hbW2).cell (i := 0) rfl
          have y1 := ((hBk2.next hb14).next hbW2).cell (i := 1) rfl
          have hI3 := (hI2.next hb14).next hbW2
          rw [hW2]
          clear hW2 hbW2 hBt hBk2 hI2 hb14 hu
          rcases hbad with ⟨hk, ha⟩ | ⟨hk2, hk8, hxn⟩ | ⟨hk, hyn⟩ | ⟨hk, n', k', a', b', hxs, hLn, hk'⟩
          · rw [hk] at y0
            clear hk hui
            by_cases ha1 : d.a < 1
            · clear ha
              as_aux_lemma =>
                go_wp2
                go_roundw
                case rel => exact ⟨k + 1, m, ns, L, X, F2, ps, PA, pc, hk1, by go_num, rfl, Hm, hI3, by omega, by omega, by omega⟩
                case measure => simp [intOf]; omega
            · have ha4 : 4 < d.a := by omega
              clear ha
              as_aux_lemma =>
                go_wp2
                go_roundw
                case rel => exact ⟨k + 1, m, ns, L, X, F2, ps, PA, pc, hk1, by go_num, rfl, Hm, hI3, by omega, by omega, by omega⟩
                case measure => simp [intOf]; omega
          · obtain rfl : bx = false := by rw [← HBX.out, hxn]; rfl
            have hk : d.kind = 2 ∨ d.kind = 3 ∨ d.kind = 4 ∨ d.kind = 5 ∨ d.kind = 6 ∨ d.kind = 7 ∨ d.kind = 8 := by omega
            clear hk2 hk8 hxn hui
            rcases hk with hk | hk | hk | hk | hk | hk | hk
            all_goals
              rw [hk] at y0
              clear hk
              as_aux_lemma =>
                go_wp2
                go_roundw
                case rel => exact ⟨k + 1, m, ns, L, X, F2, ps, PA, pc, hk1, by go_num, rfl, Hm, hI3, by omega, by omega, by omega⟩
                case measure => simp [intOf]; omega
          · obtain rfl : by_ = false := by rw [← HBY.out, hyn]; rfl
            clear hyn hui
            rcases hk with hk | hk
            all_goals
              rw [hk] at y0
              clear hk
              cases bx
              all_goals
                as_aux_lemma =>
                  go_wp2
                  go_roundw
                  case rel => exact ⟨k + 1, m, ns, L, X, F2, ps, PA, pc, hk1, by go_num, rfl, Hm, hI3, by omega, by omega, by omega⟩
                  case measure => simp [intOf]; omega
          · obtain rfl : bx = true := by rw [← HBX.out, hxs]; rfl
            have hnn : nx = (n' : Int) := by rw [← HNX.out, hxs]; rfl
            obtain ⟨rfl, _⟩ := hui n' _ hnn hLn
            have hk2 : (k' != 2) = true := bne_iff_ne.2 hk'
            rw [hk] at y0
            clear hk hui hxs hLn hk' hnn
            dsimp only at d0
            cases by_
            all_goals
              as_aux_lemma =>
                go_wp2
                go_roundw
                case rel => exact ⟨k + 1, m, ns, L, X, F2, ps, PA, pc, hk1, by go_num, rfl, Hm, hI3, by omega, by omega, by omega⟩
                case measure => simp [intOf]; omega
        · obtain ⟨F2, hI2, hV2, hi2⟩ := h12.made2 hM
          have hBk2 := hBk12.chg hM.chg hFb
          have hL40 : L2.length ≤ 40 := by omega
          have HR := hid hright
          clear hM hright h12 hBk12 hFb hB10
          go_upto_region 22 with (go_at_call 43; refine (number_yes F2 q p L2 X2 _ i2 _ hI2.su (hV2.vl (by omega)) hi2 hL40).mono ?_; rintro e w14 ⟨rfl, hb14⟩)
          replace hI2 := hI2.next hb14
          replace hV2 := hV2.next hb14
          replace hBk2 := hBk2.next hb14
          obtain ⟨⟨tk, ta, tb⟩, ht⟩ : ∃ t, L2[i2]? = some t := ⟨L2[i2], by simp [hi2]⟩
          clear hb14
          go_upto_region 23 with (first
            | (go_at_call 15; refine (store_is F2 q p L2 X2 _ hI2.su).mono ?_; rintro e s14 ⟨rfl, rfl⟩)
            | (go_at_call 45; refine (get_t hI2.su.cs ht).mono ?_; rintro e w15 ⟨rfl, hb15⟩))
          obtain ⟨W3, hW3, _, _, _, hbW3, hBt⟩ := term_world (tk, ta, tb) w15
          have hW3 : w15.alloc (.cells #[.int .i64 tk, .int .i64 ta, .int .i64 tb] 65) = W3 := hW3
          have hBt : Blk W3 w15.heap.size 65 [.int .i64 tk, .int .i64 ta, .int .i64 tb] := hBt
          replace hI2 := (hI2.next hb15).next hbW3
          replace hV2 := (hV2.next hb15).next hbW3
          replace hBk2 := (hBk2.next hb15).next hbW3
          rw [hW3]
          clear hW3 hbW3 hb15
          by_cases h8 : d.kind = 8
          · obtain ⟨ms, hxs, is, hs, hst⟩ : ∃ m : Nat, x = some m ∧ IsSg m d.x L2 X2 i2 := by have := HR.out; rw [Right, h8] at this; simpa using this
            obtain ⟨hnx2, rfl⟩ := nOf_some HNX.out HBX.out hxs
            rw [hs] at ht
            obtain ⟨rfl, rfl, rfl⟩ : (8 : Int) = tk ∧ (ms : Int) = ta ∧ (is : Int) = tb := by simpa using ht
            clear HR ht hs
            refine region_spec2 9 286 (fun _ => false) [Is (Value.pointer (some ⟨q, 0, none⟩)), Is (Value.pointer (some ⟨p, 0, none⟩)), Is (Value.pointer (some ⟨w15.heap.size, 1, none⟩)), Is (Value.int .i64 ms), AnyT, AnyT, AnyV, AnyV, AnyV] [152, 153, 154, 155, 156, 151, 157, 158, 22] (by kernel_rfl) (by kernel_rfl) (by kernel_rfl) (Nat.le_of_eq rfl) (grows_cons (Is.grows _) (grows_cons (Is.grows _) (grows_cons (Is.grows _) (grows_cons (Is.grows _) (grows_cons AnyT.grows (grows_cons AnyT.grows (grows_cons AnyV.grows (grows_cons AnyV.grows (grows_cons AnyV.grows grows_nil)))))))))
              ⟨(step_ex _ rfl (.inl rfl) rfl (fun a ww hw hf hd => by
             have h3 : a.eval (.tmp 3) = Value.pointer (some ⟨q, 0, none⟩) := ((knows_out 3 (by kernel_rfl) rfl) : Knows _ _ _ _ _ _ 0 _ _) a ww hw hf hd
             revert h3
             generalize a.eval = ev
             intro h3
             unfold execOp
             simp only [h3]
             go_simp)),
               (step_cw rfl (.inl rfl) rfl cxT15 rfl (fun aa ww hw hf hd => ⟨_, (one_arg (knows_in 0 152 (by decide) (by kernel_rfl) rfl rfl)) aa ww hw hf hd, calls_q (store_is F2 q p L2 X2 ww (hI2.su.next hw))⟩)),
               (step_ex _ rfl (.inl rfl) rfl (fun a ww hw hf hd => by
             have h20 : a.eval (.tmp 20) = Value.pointer (some ⟨w15.heap.size, 0, none⟩) := ((knows_out 20 (by kernel_rfl) rfl) : Knows _ _ _ _ _ _ 2 _ _) a ww hw hf hd
             revert h20
             generalize a.eval = ev
             intro h20
             unfold execOp
             simp only [h20]
             go_simp)),
               (step_ex _ rfl (.inl rfl) rfl (fun a ww hw hf hd => by
             have h154 : a.eval (.tmp 154) = Value.pointer (some ⟨w15.heap.size, 1, none⟩) := ((knows_in 2 154 (by decide) (by kernel_rfl) rfl rfl) : Knows _ _ _ _ _ _ 3 _ _) a ww hw hf hd
             have f0 : ww.cell? ⟨w15.heap.size, 1, none⟩ = some (Value.int .i64 ms) := (hBt.next hw).cell (i := 1) rfl
             revert h154
             generalize a.eval = ev
             intro h154
             unfold execOp
             simp only [h154]
             go_simp)),
               (step_callR rfl (.inl rfl) rfl cxT46 rfl (fun aa ww hw hf hd => ⟨_, (two_args (knows_in 1 153 (by decide) (by kernel_rfl) rfl rfl) (knows_in 3 155 (by decide) (by kernel_rfl) rfl rfl)) aa ww hw hf hd, bytes_all F2 p L2 X2 ms ww (hI2.su.next hw).cs⟩)),
               (step_copyW rfl (.inl rfl) 4 156 (by first | exact .inl rfl | exact .inr rfl) rfl (by decide) (by kernel_rfl) rfl rfl),
               (step_ext0 rfl (.inl rfl) 5 151 rfl rfl (by decide) (by kernel_rfl) rfl rfl AnyT.ext),
               (step_ext1 rfl (.inl rfl) 5 151 rfl rfl (by decide) (by kernel_rfl) rfl rfl AnyT.ext1),
               (step_copyW rfl (.inl rfl) 6 157 (by first | exact .inl rfl | exact .inr rfl) rfl (by decide) (by kernel_rfl) rfl rfl), trivial⟩ ?_
            intro val w23 hw hS _ _
            have e152 : val 152 = Value.pointer (some ⟨q, 0, none⟩) := hS 0 152 (by decide) rfl
            have e153 : val 153 = Value.pointer (some ⟨p, 0, none⟩) := hS 1 153 (by decide) rfl
            have e154 : val 154 = Value.pointer (some ⟨w15.heap.size, 1, none⟩) := hS 2 154 (by decide) rfl
            have e155 : val 155 = Value.int .i64 ms := hS 3 155 (by decide) rfl
            simp only [putVals, List.foldl_cons, List.foldl_nil, List.drop_succ_cons, List.drop_zero, Act.put, List.setIfInBounds_toArray, List.set_cons_succ, List.set_cons_zero, e152, e153, e154, e155]
            clear e152 e153 e154 e155 hS
            generalize val 156 = g156 at *
            generalize val 151 = g151 at *
            generalize val 157 = g157 at *
            generalize val 158 = g158 at *
            generalize val 22 = g22 at *
            replace hI2 := hI2.next hw
            replace hBt := hBt.next hw
            replace hBk2 := hBk2.next hw
            replace hV2 := hV2.next hw
            clear hw
            go_upto_region 24 with (fail)
            refine region_spec2 9 286 (fun _ => false) [Is (Value.pointer (some ⟨q, 0, none⟩)), Is (Value.pointer (some ⟨p, 0, none⟩)), Is (Value.pointer (some ⟨w15.heap.size, 2, none⟩)), Is (Value.int .i64 is), (ByTx d.x), (ByTx d.x), (BySl d.x), AnyV, (BySl d.x)] [160, 161, 162, 163, 164, 159, 165, 166, 24] (by kernel_rfl) (by kernel_rfl) (by kernel_rfl) (Nat.le_of_eq rfl) (grows_cons (Is.grows _) (grows_cons (Is.grows _) (grows_cons (Is.grows _) (grows_cons (Is.grows _) (grows_cons (ByTx.grows d.x) (grows_cons (ByTx.grows d.x) (grows_cons (BySl.grows d.x) (grows_cons AnyV.grows (grows_cons (BySl.grows d.x) grows_nil)))))))))
              ⟨(step_ex _ rfl (.inl rfl) rfl (fun a ww hw hf hd => by
             have h3 : a.eval (.tmp 3) = Value.pointer (some ⟨q, 0, none⟩) := ((knows_out 3 (by kernel_rfl) rfl) : Knows _ _ _ _ _ _ 0 _ _) a ww hw hf hd
             revert h3
             generalize a.eval = ev
             intro h3
             unfold execOp
             simp only [h3]
             go_simp)),
               (step_cw rfl (.inl rfl) rfl cxT15 rfl (fun aa ww hw hf hd => ⟨_, (one_arg (knows_in 0 160 (by decide) (by kernel_rfl) rfl rfl)) aa ww hw hf hd, calls_q (store_is F2 q p L2 X2 ww (hI2.su.next hw))⟩)),
               (step_ex _ rfl (.inl rfl) rfl (fun a ww hw hf hd => by
             have h20 : a.eval (.tmp 20) = Value.pointer (some ⟨w15.heap.size, 0, none⟩) := ((knows_out 20 (by kernel_rfl) rfl) : Knows _ _ _ _ _ _ 2 _ _) a ww hw hf hd
             revert h20
             generalize a.eval = ev
             intro h20
             unfold execOp
             simp only [h20]
             go_simp)),
               (step_ex _ rfl (.inl rfl) rfl (fun a ww hw hf hd => by
             have h162 : a.eval (.tmp 162) = Value.pointer (some ⟨w15.heap.size, 2, none⟩) := ((knows_in 2 162 (by decide) (by kernel_rfl) rfl rfl) : Knows _ _ _ _ _ _ 3 _ _) a ww hw hf hd
             have f0 : ww.cell? ⟨w15.heap.size, 2, none⟩ = some (Value.int .i64 is) := (hBt.next hw).cell (i := 2) rfl
             revert h162
             generalize a.eval = ev
             intro h162
             unfold execOp
             simp only [h162]
             go_simp)),
               (step_callR rfl (.inl rfl) rfl cxT46 rfl (fun aa ww hw hf hd => ⟨_, (two_args (knows_in 1 161 (by decide) (by kernel_rfl) rfl rfl) (knows_in 3 163 (by decide) (by kernel_rfl) rfl rfl)) aa ww hw hf hd, bytes_tx F2 p L2 X2 is d.x ww (hI2.su.next hw).cs hst⟩)),
               (step_copyW rfl (.inl rfl) 4 164 (by first | exact .inl rfl | exact .inr rfl) rfl (by decide) (by kernel_rfl) rfl rfl),
               (step_ext0 rfl (.inl rfl) 5 159 rfl rfl (by decide) (by kernel_rfl) rfl rfl (ByTx.ext d.x)),
               (step_ext1 rfl (.inl rfl) 5 159 rfl rfl (by decide) (by kernel_rfl) rfl rfl (ByTx.ext1 d.x)),
               (step_copyW rfl (.inl rfl) 6 165 (by first | exact .inl rfl | exact .inr rfl) rfl (by decide) (by kernel_rfl) rfl rfl), trivial⟩ ?_
            intro val w24 hw hS _ _
            have e160 : val 160 = Value.pointer (some ⟨q, 0, none⟩) := hS 0 160 (by decide) rfl
            have e161 : val 161 = Value.pointer (some ⟨p, 0, none⟩) := hS 1 161 (by decide) rfl
            have e162 : val 162 = Value.pointer (some ⟨w15.heap.size, 2, none⟩) := hS 2 162 (by decide) rfl
            have e163 : val 163 = Value.int .i64 is := hS 3 163 (by decide) rfl
            have P24 := hS 8 24 (by decide) rfl
            simp only [putVals, List.foldl_cons, List.foldl_nil, List.drop_succ_cons, List.drop_zero, Act.put, List.setIfInBounds_toArray, List.set_cons_succ, List.set_cons_zero, e160, e161, e162, e163]
            clear e160 e161 e162 e163 hS
            generalize val 164 = g164 at *
            generalize val 159 = g159 at *
            generalize val 165 = g165 at *
            generalize val 166 = g166 at *
            generalize val 24 = g24 at *
            replace hI2 := hI2.next hw
            replace hBt := hBt.next hw
            replace hBk2 := hBk2.next hw
            replace hV2 := hV2.next hw
            have y0 := hBk2.cell (i := 0) rfl
            have y1 := hBk2.cell (i := 1) rfl
            have y3 := hBk2.cell (i := 3) rfl
            have t0 := hBt.cell (i := 0) rfl
            have t1 := hBt.cell (i := 1) rfl
            have t2 := hBt.cell (i := 2) rfl
            clear hw hBk2 hBt
            obtain ⟨A8, c8, e8, hN8⟩ := P24
            rw [HDL.out] at e8
            subst e8
            obtain ⟨_, _, hdA⟩ := (HA.out.next hI2.bel) k d HD0.out
            have hNd := hdA.nums hI2.bel.size
            have hdl1 : dl ≤ 1000 := by have := HX.out d (List.mem_of_getElem? HD0.out); have := HDL.out; omega
            rw [h8] at y0
            rw [hnx2]
            clear h8 hnx2 hdA hst
            go_upto_region 43 with (go_at_call 11; refine (same_dl HDL.out hdl1 hN8 hNd).mono ?_; rintro e w25 ⟨rfl, hb25⟩)
            replace hI2 := hI2.next hb25
            replace hV2 := hV2.next hb25
            clear y0 y1 y3 t0 t1 t2 hN8 hNd hb25
            have hIa := hI2.next (below_new w25 (.cells #[.slice A2 9 c2] 23))
            have hOa := hIa.row
            have hPa := parts_new1 w25 (A2, c2, valL i2) 9 (valL_len i2)
            have hsa := hIa.bel.size
            have hps : ps.length + 1 ≤ 100000 := by have := hI2.vs.len; have := Hm.out; omega
            clear hIa
            as_aux_lemma =>
              go_wp2_with (at_builtin; refine app_parts rfl (.tmp 278) (.tmp 280) rfl w.heap.size PA m pc ps rfl hOa (some ⟨w25.heap.size, 0, none⟩) 1 1 [(A2, c2, valL i2)] rfl rfl hPa hps hsa ?_; intro A9 n9 c9 w9 hO9 hG9)
              go_roundw
              case rel =>
                obtain ⟨z1, z2, z3⟩ := hI2.app2 hV2 Hm.out hi2 hL40 hO9 hG9
                exact ⟨k + 1, n9, ns ++ [i2], L2, X2, F2, ps ++ [(A2, c2, valL i2)], A9, c9, hk1, by go_num, rfl, z1, z2, by omega, by omega, by omega⟩
              case measure => simp [intOf]; omega
          by_cases h10 : d.kind = 1 ∨ d.kind = 2 ∨ d.kind = 3 ∨ d.kind = 6 ∨ d.kind = 7 ∨ d.kind = 4 ∨ d.kind = 5 ∨ d.kind = 9
          · clear h8
            refine region_spec2 9 286 (fun _ => false) [Is (Value.pointer (some ⟨q, 0, none⟩)), Is (Value.pointer (some ⟨p, 0, none⟩)), Is (Value.pointer (some ⟨w15.heap.size, 1, none⟩)), Is (Value.int .i64 ta), AnyT, AnyT, AnyV, AnyV, AnyV] [152, 153, 154, 155, 156, 151, 157, 158, 22] (by kernel_rfl) (by kernel_rfl) (by kernel_rfl) (Nat.le_of_eq rfl) (grows_cons (Is.grows _) (grows_cons (Is.grows _) (grows_cons (Is.grows _) (grows_cons (Is.grows _) (grows_cons AnyT.grows (grows_cons AnyT.grows (grows_cons AnyV.grows (grows_cons AnyV.grows (grows_cons AnyV.grows grows_nil)))))))))
              ⟨(step_ex _ rfl (.inl rfl) rfl (fun a ww hw hf hd => by
             have h3 : a.eval (.tmp 3) = Value.pointer (some ⟨q, 0, none⟩) := ((knows_out 3 (by kernel_rfl) rfl) : Knows _ _ _ _ _ _ 0 _ _) a ww hw hf hd
             revert h3
             generalize a.eval = ev
             intro h3
             unfold execOp
             simp only [h3]
             go_simp)),
               (step_cw rfl (.inl rfl) rfl cxT15 rfl (fun aa ww hw hf hd => ⟨_, (one_arg (knows_in 0 152 (by decide) (by kernel_rfl) rfl rfl)) aa ww hw hf hd, calls_q (store_is F2 q p L2 X2 ww (hI2.su.next hw))⟩)),
               (step_ex _ rfl (.inl rfl) rfl (fun a ww hw hf hd => by
             have h20 : a.eval (.tmp 20) = Value.pointer (some ⟨w15.heap.size, 0, none⟩) := ((knows_out 20 (by kernel_rfl) rfl) : Knows _ _ _ _ _ _ 2 _ _) a ww hw hf hd
             revert h20
             generalize a.eval = ev
             intro h20
             unfold execOp
             simp only [h20]
             go_simp)),
               (step_ex _ rfl (.inl rfl) rfl (fun a ww hw hf hd => by
             have h154 : a.eval (.tmp 154) = Value.pointer (some ⟨w15.heap.size, 1, none⟩) := ((knows_in 2 154 (by decide) (by kernel_rfl) rfl rfl) : Knows _ _ _ _ _ _ 3 _ _) a ww hw hf hd
             have f0 : ww.cell? ⟨w15.heap.size, 1, none⟩ = some (Value.int .i64 ta) := (hBt.next hw).cell (i := 1) rfl
             revert h154
             generalize a.eval = ev
             intro h154
             unfold execOp
             simp only [h154]
             go_simp)),
               (step_callR rfl (.inl rfl) rfl cxT46 rfl (fun aa ww hw hf hd => ⟨_, (two_args (knows_in 1 153 (by decide) (by kernel_rfl) rfl rfl) (knows_in 3 155 (by decide) (by kernel_rfl) rfl rfl)) aa ww hw hf hd, bytes_all F2 p L2 X2 ta ww (hI2.su.next hw).cs⟩)),
               (step_copyW rfl (.inl rfl) 4 156 (by first | exact .inl rfl | exact .inr rfl) rfl (by decide) (by kernel_rfl) rfl rfl),
               (step_ext0 rfl (.inl rfl) 5 151 rfl rfl (by decide) (by kernel_rfl) rfl rfl AnyT.ext),
               (step_ext1 rfl (.inl rfl) 5 151 rfl rfl (by decide) (by kernel_rfl) rfl rfl AnyT.ext1),
               (step_copyW rfl (.inl rfl) 6 157 (by first | exact .inl rfl | exact .inr rfl) rfl (by decide) (by kernel_rfl) rfl rfl), trivial⟩ ?_
            intro val w23 hw hS _ _
            have e152 : val 152 = Value.pointer (some ⟨q, 0, none⟩) := hS 0 152 (by decide) rfl
            have e153 : val 153 = Value.pointer (some ⟨p, 0, none⟩) := hS 1 153 (by decide) rfl
            have e154 : val 154 = Value.pointer (some ⟨w15.heap.size, 1, none⟩) := hS 2 154 (by decide) rfl
            have e155 : val 155 = Value.int .i64 ta := hS 3 155 (by decide) rfl
            simp only [putVals, List.foldl_cons, List.foldl_nil, List.drop_succ_cons, List.drop_zero, Act.put, List.setIfInBounds_toArray, List.set_cons_succ, List.set_cons_zero, e152, e153, e154, e155]
            clear e152 e153 e154 e155 hS
            generalize val 156 = g156 at *
            generalize val 151 = g151 at *
            generalize val 157 = g157 at *
            generalize val 158 = g158 at *
            generalize val 22 = g22 at *
            replace hI2 := hI2.next hw
            replace hBt := hBt.next hw
            replace hBk2 := hBk2.next hw
            replace hV2 := hV2.next hw
            clear hw
            go_upto_region 24 with (fail)
            refine region_spec2 9 286 (fun _ => false) [Is (Value.pointer (some ⟨q, 0, none⟩)), Is (Value.pointer (some ⟨p, 0, none⟩)), Is (Value.pointer (some ⟨w15.heap.size, 2, none⟩)), Is (Value.int .i64 tb), AnyT, AnyT, AnyV, AnyV, AnyV] [160, 161, 162, 163, 164, 159, 165, 166, 24] (by kernel_rfl) (by kernel_rfl) (by kernel_rfl) (Nat.le_of_eq rfl) (grows_cons (Is.grows _) (grows_cons (Is.grows _) (grows_cons (Is.grows _) (grows_cons (Is.grows _) (grows_cons AnyT.grows (grows_cons AnyT.grows (grows_cons AnyV.grows (grows_cons AnyV.grows (grows_cons AnyV.grows grows_nil)))))))))
              ⟨(step_ex _ rfl (.inl rfl) rfl (fun a ww hw hf hd => by
             have h3 : a.eval (.tmp 3) = Value.pointer (some ⟨q, 0, none⟩) := ((knows_out 3 (by kernel_rfl) rfl) : Knows _ _ _ _ _ _ 0 _ _) a ww hw hf hd
             revert h3
             generalize a.eval = ev
             intro h3
             unfold execOp
             simp only [h3]
             go_simp)),
               (step_cw rfl (.inl rfl) rfl cxT15 rfl (fun aa ww hw hf hd => ⟨_, (one_arg (knows_in 0 160 (by decide) (by kernel_rfl) rfl rfl)) aa ww hw hf hd, calls_q (store_is F2 q p L2 X2 ww (hI2.su.next hw))⟩)),
               (step_ex _ rfl (.inl rfl) rfl (fun a ww hw hf hd => by
             have h20 : a.eval (.tmp 20) = Value.pointer (some ⟨w15.heap.size, 0, none⟩) := ((knows_out 20 (by kernel_rfl) rfl) : Knows _ _ _ _ _ _ 2 _ _) a ww hw hf hd
             revert h20
             generalize a.eval = ev
             intro h20
             unfold execOp
             simp only [h20]
             go_simp)),
               (step_ex _ rfl (.inl rfl) rfl (fun a ww hw hf hd => by
             have h162 : a.eval (.tmp 162) = Value.pointer (some ⟨w15.heap.size, 2, none⟩) := ((knows_in 2 162 (by decide) (by kernel_rfl) rfl rfl) : Knows _ _ _ _ _ _ 3 _ _) a ww hw hf hd
             have f0 : ww.cell? ⟨w15.heap.size, 2, none⟩ = some (Value.int .i64 tb) := (hBt.next hw).cell (i := 2) rfl
             revert h162
             generalize a.eval = ev
             intro h162
             unfold execOp
             simp only [h162]
             go_simp)),
               (step_callR rfl (.inl rfl) rfl cxT46 rfl (fun aa ww hw hf hd => ⟨_, (two_args (knows_in 1 161 (by decide) (by kernel_rfl) rfl rfl) (knows_in 3 163 (by decide) (by kernel_rfl) rfl rfl)) aa ww hw hf hd, bytes_all F2 p L2 X2 tb ww (hI2.su.next hw).cs⟩)),
               (step_copyW rfl (.inl rfl) 4 164 (by first | exact .inl rfl | exact .inr rfl) rfl (by decide) (by kernel_rfl) rfl rfl),
               (step_ext0 rfl (.inl rfl) 5 159 rfl rfl (by decide) (by kernel_rfl) rfl rfl AnyT.ext),
               (step_ext1 rfl (.inl rfl) 5 159 rfl rfl (by decide) (by kernel_rfl) rfl rfl AnyT.ext1),
               (step_copyW rfl (.inl rfl) 6 165 (by first | exact .inl rfl | exact .inr rfl) rfl (by decide) (by kernel_rfl) rfl rfl), trivial⟩ ?_
            intro val w24 hw hS _ _
            have e160 : val 160 = Value.pointer (some ⟨q, 0, none⟩) := hS 0 160 (by decide) rfl
            have e161 : val 161 = Value.pointer (some ⟨p, 0, none⟩) := hS 1 161 (by decide) rfl
            have e162 : val 162 = Value.pointer (some ⟨w15.heap.size, 2, none⟩) := hS 2 162 (by decide) rfl
            have e163 : val 163 = Value.int .i64 tb := hS 3 163 (by decide) rfl
            simp only [putVals, List.foldl_cons, List.foldl_nil, List.drop_succ_cons, List.drop_zero, Act.put, List.setIfInBounds_toArray, List.set_cons_succ, List.set_cons_zero, e160, e161, e162, e163]
            clear e160 e161 e162 e163 hS
            generalize val 164 = g164 at *
            generalize val 159 = g159 at *
            generalize val 165 = g165 at *
            generalize val 166 = g166 at *
            generalize val 24 = g24 at *
            replace hI2 := hI2.next hw
            replace hBt := hBt.next hw
            replace hBk2 := hBk2.next hw
            replace hV2 := hV2.next hw
            have y0 := hBk2.cell (i := 0) rfl
            have y1 := hBk2.cell (i := 1) rfl
            have y3 := hBk2.cell (i := 3) rfl
            have t0 := hBt.cell (i := 0) rfl
            have t1 := hBt.cell (i := 1) rfl
            have t2 := hBt.cell (i := 2) rfl
            clear hw hBk2 hBt
            rcases h10 with hk | hk | hk | hk | hk | hk | hk | hk
            · obtain ⟨bs, hs⟩ : ∃ b : Int, L2[i2]? = some (1, d.a, b) := by have := HR.out; rw [Right, hk] at this; simpa using this
              rw [hs] at ht
              obtain ⟨rfl, rfl, rfl⟩ : (1 : Int) = tk ∧ d.a = ta ∧ bs = tb := by simpa using ht
              rw [hk] at y0
              clear HR ht hs hk
              go_upto_region 43 with (fail)
              clear y0 y1 y3 t0 t1 t2
              have hIa := hI2.next (below_new w24 (.cells #[.slice A2 9 c2] 23))
              have hOa := hIa.row
              have hPa := parts_new1 w24 (A2, c2, valL i2) 9 (valL_len i2)
              have hsa := hIa.bel.size
              have hps : ps.length + 1 ≤ 100000 := by have := hI2.vs.len; have := Hm.out; omega
              clear hIa
              as_aux_lemma =>
                go_wp2_with (at_builtin; refine app_parts rfl (.tmp 278) (.tmp 280) rfl w.heap.size PA m pc ps rfl hOa (some ⟨w24.heap.size, 0, none⟩) 1 1 [(A2, c2, valL i2)] rfl rfl hPa hps hsa ?_; intro A9 n9 c9 w9 hO9 hG9)
                go_roundw
                case rel =>
                  obtain ⟨z1, z2, z3⟩ := hI2.app2 hV2 Hm.out hi2 hL40 hO9 hG9
                  exact ⟨k + 1, n9, ns ++ [i2], L2, X2, F2, ps ++ [(A2, c2, valL i2)], A9, c9, hk1, by go_num, rfl, z1, z2, by omega, by omega, by omega⟩
                case measure => simp [intOf]; omega
            · obtain ⟨ms, hxs, hs⟩ : ∃ m : Nat, x = some m ∧ L2[i2]? = some ((2 : Int), (m : Int), (0 : Int)) := by have := HR.out; rw [Right, hk] at this; simpa using this
              obtain ⟨hnx2, rfl⟩ := nOf_some HNX.out HBX.out hxs
              rw [hs] at ht
              obtain ⟨rfl, rfl, rfl⟩ : (2 : Int) = tk ∧ (ms : Int) = ta ∧ (0 : Int) = tb := by simpa using ht
              rw [hk] at y0
              rw [hnx2]
              clear HR ht hs hk hnx2
              go_upto_region 43 with (fail)
              clear y0 y1 y3 t0 t1 t2
              have hIa := hI2.next (below_new w24 (.cells #[.slice A2 9 c2] 23))
              have hOa := hIa.row
              have hPa := parts_new1 w24 (A2, c2, valL i2) 9 (valL_len i2)
              have hsa := hIa.bel.size
              have hps : ps.length + 1 ≤ 100000 := by have := hI2.vs.len; have := Hm.out; omega
              clear hIa
              as_aux_lemma =>
                go_wp2_with (at_builtin; refine app_parts rfl (.tmp 278) (.tmp 280) rfl w.heap.size PA m pc ps rfl hOa (some ⟨w24.heap.size, 0, none⟩) 1 1 [(A2, c2, valL i2)] rfl rfl hPa hps hsa ?_; intro A9 n9 c9 w9 hO9 hG9)
                go_roundw
                case rel =>
                  obtain ⟨z1, z2, z3⟩ := hI2.app2 hV2 Hm.out hi2 hL40 hO9 hG9
                  exact ⟨k + 1, n9, ns ++ [i2], L2, X2, F2, ps ++ [(A2, c2, valL i2)], A9, c9, hk1, by go_num, rfl, z1, z2, by omega, by omega, by omega⟩
                case measure => simp [intOf]; omega
            · obtain ⟨ms, hxs, hs⟩ : ∃ m : Nat, x = some m ∧ L2[i2]? = some ((3 : Int), (m : Int), (0 : Int)) := by have := HR.out; rw [Right, hk] at this; simpa using this
              obtain ⟨hnx2, rfl⟩ := nOf_some HNX.out HBX.out hxs
              rw [hs] at ht
              obtain ⟨rfl, rfl, rfl⟩ : (3 : Int) = tk ∧ (ms : Int) = ta ∧ (0 : Int) = tb := by simpa using ht
              rw [hk] at y0
              rw [hnx2]
              clear HR ht hs hk hnx2
              go_upto_region 43 with (fail)
              clear y0 y1 y3 t0 t1 t2
              have hIa := hI2.next (below_new w24 (.cells #[.slice A2 9 c2] 23))
              have hOa := hIa.row
              have hPa := parts_new1 w24 (A2, c2, valL i2) 9 (valL_len i2)
              have hsa := hIa.bel.size
              have hps : ps.length + 1 ≤ 100000 := by have := hI2.vs.len; have := Hm.out; omega
              clear hIa
              as_aux_lemma =>
                go_wp2_with (at_builtin; refine app_parts rfl (.tmp 278) (.tmp 280) rfl w.heap.size PA m pc ps rfl hOa (some ⟨w24.heap.size, 0, none⟩) 1 1 [(A2, c2, valL i2)] rfl rfl hPa hps hsa ?_; intro A9 n9 c9 w9 hO9 hG9)
                go_roundw
                case rel =>
                  obtain ⟨z1, z2, z3⟩ := hI2.app2 hV2 Hm.out hi2 hL40 hO9 hG9
                  exact ⟨k + 1, n9, ns ++ [i2], L2, X2, F2, ps ++ [(A2, c2, valL i2)], A9, c9, hk1, by go_num, rfl, z1, z2, by omega, by omega, by omega⟩
                case measure => simp [intOf]; omega
            · obtain ⟨ms, hxs, hs⟩ : ∃ m : Nat, x = some m ∧ L2[i2]? = some ((6 : Int), (m : Int), (0 : Int)) := by have := HR.out; rw [Right, hk] at this; simpa using this
              obtain ⟨hnx2, rfl⟩ := nOf_some HNX.out HBX.out hxs
              rw [hs] at ht
              obtain ⟨rfl, rfl, rfl⟩ : (6 : Int) = tk ∧ (ms : Int) = ta ∧ (0 : Int) = tb := by simpa using ht
              rw [hk] at y0
              rw [hnx2]
              clear HR ht hs hk hnx2
              go_upto_region 43 with (fail)
              clear y0 y1 y3 t0 t1 t2
              have hIa := hI2.next (below_new w24 (.cells #[.slice A2 9 c2] 23))
              have hOa := hIa.row
              have hPa := parts_new1 w24 (A2, c2, valL i2) 9 (valL_len i2)
              have hsa := hIa.bel.size
              have hps : ps.length + 1 ≤ 100000 := by have := hI2.vs.len; have := Hm.out; omega
              clear hIa
              as_aux_lemma =>
                go_wp2_with (at_builtin; refine app_parts rfl (.tmp 278) (.tmp 280) rfl w.heap.size PA m pc ps rfl hOa (some ⟨w24.heap.size, 0, none⟩) 1 1 [(A2, c2, valL i2)] rfl rfl hPa hps hsa ?_; intro A9 n9 c9 w9 hO9 hG9)
                go_roundw
                case rel =>
                  obtain ⟨z1, z2, z3⟩ := hI2.app2 hV2 Hm.out hi2 hL40 hO9 hG9
                  exact ⟨k + 1, n9, ns ++ [i2], L2, X2, F2, ps ++ [(A2, c2, valL i2)], A9, c9, hk1, by go_num, rfl, z1, z2, by omega, by omega, by omega⟩
                case measure => simp [intOf]; omega
            · obtain ⟨ms, hxs, hs⟩ : ∃ m : Nat, x = some m ∧ L2[i2]? = some ((7 : Int), (m : Int), (0 : Int)) := by have := HR.out; rw [Right, hk] at this; simpa using this
              obtain ⟨hnx2, rfl⟩ := nOf_some HNX.out HBX.out hxs
              rw [hs] at ht
              obtain ⟨rfl, rfl, rfl⟩ : (7 : Int) = tk ∧ (ms : Int) = ta ∧ (0 : Int) = tb := by simpa using ht
              rw [hk] at y0
              rw [hnx2]
              clear HR ht hs hk hnx2
              go_upto_region 43 with (fail)
              clear y0 y1 y3 t0 t1 t2
              have hIa := hI2.next (below_new w24 (.cells #[.slice A2 9 c2] 23))
              have hOa := hIa.row
              have hPa := parts_new1 w24 (A2, c2, valL i2) 9 (valL_len i2)
              have hsa := hIa.bel.size
              have hps : ps.length + 1 ≤ 100000 := by have := hI2.vs.len; have := Hm.out; omega
              clear hIa
              as_aux_lemma =>
                go_wp2_with (at_builtin; refine app_parts rfl (.tmp 278) (.tmp 280) rfl w.heap.size PA m pc ps rfl hOa (some ⟨w24.heap.size, 0, none⟩) 1 1 [(A2, c2, valL i2)] rfl rfl hPa hps hsa ?_; intro A9 n9 c9 w9 hO9 hG9)
                go_roundw
                case rel =>
                  obtain ⟨z1, z2, z3⟩ := hI2.app2 hV2 Hm.out hi2 hL40 hO9 hG9
                  exact ⟨k + 1, n9, ns ++ [i2], L2, X2, F2, ps ++ [(A2, c2, valL i2)], A9, c9, hk1, by go_num, rfl, z1, z2, by omega, by omega, by omega⟩
                case measure => simp [intOf]; omega
            · obtain ⟨ms, ks, hxs, hys, hs⟩ : ∃ m k : Nat, x = some m ∧ y = some k ∧ L2[i2]? = some ((4 : Int), (m : Int), (k : Int)) := by have := HR.out; rw [Right, hk] at this; simpa using this
              obtain ⟨hnx2, rfl⟩ := nOf_some HNX.out HBX.out hxs
              obtain ⟨hny2, rfl⟩ := nOf_some HNY.out HBY.out hys
              rw [hs] at ht
              obtain ⟨rfl, rfl, rfl⟩ : (4 : Int) = tk ∧ (ms : Int) = ta ∧ (ks : Int) = tb := by simpa using ht
              rw [hk] at y0
              rw [hnx2, hny2]
              clear HR ht hs hk hnx2 hny2
              go_upto_region 43 with (fail)
              clear y0 y1 y3 t0 t1 t2
              have hIa := hI2.next (below_new w24 (.cells #[.slice A2 9 c2] 23))
              have hOa := hIa.row
              have hPa := parts_new1 w24 (A2, c2, valL i2) 9 (valL_len i2)
              have hsa := hIa.bel.size
              have hps : ps.length + 1 ≤ 100000 := by have := hI2.vs.len; have := Hm.out; omega
              clear hIa
              as_aux_lemma =>
                go_wp2_with (at_builtin; refine app_parts rfl (.tmp 278) (.tmp 280) rfl w.heap.size PA m pc ps rfl hOa (some ⟨w24.heap.size, 0, none⟩) 1 1 [(A2, c2, valL i2)] rfl rfl hPa hps hsa ?_; intro A9 n9 c9 w9 hO9 hG9)
                go_roundw
                case rel =>
                  obtain ⟨z1, z2, z3⟩ := hI2.app2 hV2 Hm.out hi2 hL40 hO9 hG9
                  exact ⟨k + 1, n9, ns ++ [i2], L2, X2, F2, ps ++ [(A2, c2, valL i2)], A9, c9, hk1, by go_num, rfl, z1, z2, by omega, by omega, by omega⟩
                case measure => simp [intOf]; omega
            · obtain ⟨ms, ks, hxs, hys, hs⟩ : ∃ m k : Nat, x = some m ∧ y = some k ∧ L2[i2]? = some ((5 : Int), (m : Int), (k : Int)) := by have := HR.out; rw [Right, hk] at this; simpa using this
              obtain ⟨hnx2, rfl⟩ := nOf_some HNX.out HBX.out hxs
              obtain ⟨hny2, rfl⟩ := nOf_some HNY.out HBY.out hys
              rw [hs] at ht
              obtain ⟨rfl, rfl, rfl⟩ : (5 : Int) = tk ∧ (ms : Int) = ta ∧ (ks : Int) = tb := by simpa using ht
              rw [hk] at y0
              rw [hnx2, hny2]
              clear HR ht hs hk hnx2 hny2
              go_upto_region 43 with (fail)
              clear y0 y1 y3 t0 t1 t2
              have hIa := hI2.next (below_new w24 (.cells #[.slice A2 9 c2] 23))
              have hOa := hIa.row
              have hPa := parts_new1 w24 (A2, c2, valL i2) 9 (valL_len i2)
              have hsa := hIa.bel.size
              have hps : ps.length + 1 ≤ 100000 := by have := hI2.vs.len; have := Hm.out; omega
              clear hIa
              as_aux_lemma =>
                go_wp2_with (at_builtin; refine app_parts rfl (.tmp 278) (.tmp 280) rfl w.heap.size PA m pc ps rfl hOa (some ⟨w24.heap.size, 0, none⟩) 1 1 [(A2, c2, valL i2)] rfl rfl hPa hps hsa ?_; intro A9 n9 c9 w9 hO9 hG9)
                go_roundw
                case rel =>
                  obtain ⟨z1, z2, z3⟩ := hI2.app2 hV2 Hm.out hi2 hL40 hO9 hG9
                  exact ⟨k + 1, n9, ns ++ [i2], L2, X2, F2, ps ++ [(A2, c2, valL i2)], A9, c9, hk1, by go_num, rfl, z1, z2, by omega, by omega, by omega⟩
                case measure => simp [intOf]; omega
            · obtain ⟨j, hj, hs⟩ : IsTx d.x L2 X2 i2 := by have := HR.out; rw [Right, hk] at this; simpa using this
              have hst : IsTx d.x L2 X2 i2 := ⟨j, hj, hs⟩
              rw [hs] at ht
              obtain ⟨rfl, rfl, rfl⟩ : (9 : Int) = tk ∧ (j : Int) = ta ∧ (0 : Int) = tb := by simpa using ht
              rw [hk] at y0
              clear HR ht hs hk hj
              go_upto_region 42 with (go_at_call 18; refine (suText_ok F2 q p L2 X2 _ i2 d.x _ hI2.su (hV2.vl (by omega)) hst hL40).mono ?_; rintro e w25 ⟨A8, c8, rfl, hb25, hN8⟩)
              rw [HDL.out]
              replace hI2 := hI2.next hb25
              replace hV2 := hV2.next hb25
              have y0 := cellB y0 hb25
              have y3 := cellB y3 hb25
              have t0 := cellB t0 hb25
              obtain ⟨_, _, hdA⟩ := (HA.out.next hI2.bel) k d HD0.out
              have hNd := hdA.nums hI2.bel.size
              have hdl1 : dl ≤ 1000 := by have := HX.out d (List.mem_of_getElem? HD0.out); have := HDL.out; omega
              clear hdA hst hb25
              go_upto_region 43 with (go_at_call 11; refine (same_dl HDL.out hdl1 hN8 hNd).mono ?_; rintro e w26 ⟨rfl, hb26⟩)
              replace hI2 := hI2.next hb26
              replace hV2 := hV2.next hb26
              clear hN8 hNd hb26
              have hIa := hI2.next (below_new w26 (.cells #[.slice A2 9 c2] 23))
              have hOa := hIa.row
              have hPa := parts_new1 w26 (A2, c2, valL i2) 9 (valL_len i2)
              have hsa := hIa.bel.size
              have hps : ps.length + 1 ≤ 100000 := by have := hI2.vs.len; have := Hm.out; omega
              clear hIa
              as_aux_lemma =>
                go_wp2_with (at_builtin; refine app_parts rfl (.tmp 278) (.tmp 280) rfl w.heap.size PA m pc ps rfl hOa (some ⟨w26.heap.size, 0, none⟩) 1 1 [(A2, c2, valL i2)] rfl rfl hPa hps hsa ?_; intro A9 n9 c9 w9 hO9 hG9)
                go_roundw
                case rel =>
                  obtain ⟨z1, z2, z3⟩ := hI2.app2 hV2 Hm.out hi2 hL40 hO9 hG9
                  exact ⟨k + 1, n9, ns ++ [i2], L2, X2, F2, ps ++ [(A2, c2, valL i2)], A9, c9, hk1, by go_num, rfl, z1, z2, by omega, by omega, by omega⟩
                case measure => simp [intOf]; omega
          · obtain ⟨is, hs, hst⟩ : IsDg d.x L2 X2 i2 := by have := HR.out; rw [Right, if_neg (by omega), if_neg (by omega), if_neg (by omega), if_neg h8, if_neg (by omega)] at this; exact this
            rw [hs] at ht
            obtain ⟨rfl, rfl, rfl⟩ : (10 : Int) = tk ∧ (is : Int) = ta ∧ (0 : Int) = tb := by simpa using ht
            clear HR ht hs
            refine region_spec2 9 286 (fun _ => false) [Is (Value.pointer (some ⟨q, 0, none⟩)), Is (Value.pointer (some ⟨p, 0, none⟩)), Is (Value.pointer (some ⟨w15.heap.size, 1, none⟩)), Is (Value.int .i64 is), (ByTx d.x), (ByTx d.x), (BySl d.x), AnyV, (BySl d.x)] [152, 153, 154, 155, 156, 151, 157, 158, 22] (by kernel_rfl) (by kernel_rfl) (by kernel_rfl) (Nat.le_of_eq rfl) (grows_cons (Is.grows _) (grows_cons (Is.grows _) (grows_cons (Is.grows _) (grows_cons (Is.grows _) (grows_cons (ByTx.grows d.x) (grows_cons (ByTx.grows d.x) (grows_cons (BySl.grows d.x) (grows_cons AnyV.grows (grows_cons (BySl.grows d.x) grows_nil)))))))))
              ⟨(step_ex _ rfl (.inl rfl) rfl (fun a ww hw hf hd => by
             have h3 : a.eval (.tmp 3) = Value.pointer (some ⟨q, 0, none⟩) := ((knows_out 3 (by kernel_rfl) rfl) : Knows _ _ _ _ _ _ 0 _ _) a ww hw hf hd
             revert h3
             generalize a.eval = ev
             intro h3
             unfold execOp
             simp only [h3]
             go_simp)),
               (step_cw rfl (.inl rfl) rfl cxT15 rfl (fun aa ww hw hf hd => ⟨_, (one_arg (knows_in 0 152 (by decide) (by kernel_rfl) rfl rfl)) aa ww hw hf hd, calls_q (store_is F2 q p L2 X2 ww (hI2.su.next hw))⟩)),
               (step_ex _ rfl (.inl rfl) rfl (fun a ww hw hf hd => by
             have h20 : a.eval (.tmp 20) = Value.pointer (some ⟨w15.heap.size, 0, none⟩) := ((knows_out 20 (by kernel_rfl) rfl) : Knows _ _ _ _ _ _ 2 _ _) a ww hw hf hd
             revert h20
             generalize a.eval = ev
             intro h20
             unfold execOp
             simp only [h20]
             go_simp)),
               (step_ex _ rfl (.inl rfl) rfl (fun a ww hw hf hd => by
             have h154 : a.eval (.tmp 154) = Value.pointer (some ⟨w15.heap.size, 1, none⟩) := ((knows_in 2 154 (by decide) (by kernel_rfl) rfl rfl) : Knows _ _ _ _ _ _ 3 _ _) a ww hw hf hd
             have f0 : ww.cell? ⟨w15.heap.size, 1, none⟩ = some (Value.int .i64 is) := (hBt.next hw).cell (i := 1) rfl
             revert h154
             generalize a.eval = ev
             intro h154
             unfold execOp
             simp only [h154]
             go_simp)),
               (step_callR rfl (.inl rfl) rfl cxT46 rfl (fun aa ww hw hf hd => ⟨_, (two_args (knows_in 1 153 (by decide) (by kernel_rfl) rfl rfl) (knows_in 3 155 (by decide) (by kernel_rfl) rfl rfl)) aa ww hw hf hd, bytes_tx F2 p L2 X2 is d.x ww (hI2.su.next hw).cs hst⟩)),
               (step_copyW rfl (.inl rfl) 4 156 (by first | exact .inl rfl | exact .inr rfl) rfl (by decide) (by kernel_rfl) rfl rfl),
               (step_ext0 rfl (.inl rfl) 5 151 rfl rfl (by decide) (by kernel_rfl) rfl rfl (ByTx.ext d.x)),
               (step_ext1 rfl (.inl rfl) 5 151 rfl rfl (by decide) (by kernel_rfl) rfl rfl (ByTx.ext1 d.x)),
               (step_copyW rfl (.inl rfl) 6 157 (by first | exact .inl rfl | exact .inr rfl) rfl (by decide) (by kernel_rfl) rfl rfl), trivial⟩ ?_
            intro val w23 hw hS _ _
            have e152 : val 152 = Value.pointer (some ⟨q, 0, none⟩) := hS 0 152 (by decide) rfl
            have e153 : val 153 = Value.pointer (some ⟨p, 0, none⟩) := hS 1 153 (by decide) rfl
            have e154 : val 154 = Value.pointer (some ⟨w15.heap.size, 1, none⟩) := hS 2 154 (by decide) rfl
            have e155 : val 155 = Value.int .i64 is := hS 3 155 (by decide) rfl
            have P22 := hS 8 22 (by decide) rfl
            simp only [putVals, List.foldl_cons, List.foldl_nil, List.drop_succ_cons, List.drop_zero, Act.put, List.setIfInBounds_toArray, List.set_cons_succ, List.set_cons_zero, e152, e153, e154, e155]
            clear e152 e153 e154 e155 hS
            generalize val 156 = g156 at *
            generalize val 151 = g151 at *
            generalize val 157 = g157 at *
            generalize val 158 = g158 at *
            generalize val 22 = g22 at *
            replace hI2 := hI2.next hw
            replace hBt := hBt.next hw
            replace hBk2 := hBk2.next hw
            replace hV2 := hV2.next hw
            clear hw
            go_upto_region 24 with (fail)
            refine region_spec2 9 286 (fun _ => false) [Is (Value.pointer (some ⟨q, 0, none⟩)), Is (Value.pointer (some ⟨p, 0, none⟩)), Is (Value.pointer (some ⟨w15.heap.size, 2, none⟩)), Is (Value.int .i64 0), AnyT, AnyT, AnyV, AnyV, AnyV] [160, 161, 162, 163, 164, 159, 165, 166, 24] (by kernel_rfl) (by kernel_rfl) (by kernel_rfl) (Nat.le_of_eq rfl) (grows_cons (Is.grows _) (grows_cons (Is.grows _) (grows_cons (Is.grows _) (grows_cons (Is.grows _) (grows_cons AnyT.grows (grows_cons AnyT.grows (grows_cons AnyV.grows (grows_cons AnyV.grows (grows_cons AnyV.grows grows_nil)))))))))
              ⟨(step_ex _ rfl (.inl rfl) rfl (fun a ww hw hf hd => by
             have h3 : a.eval (.tmp 3) = Value.pointer (some ⟨q, 0, none⟩) := ((knows_out 3 (by kernel_rfl) rfl) : Knows _ _ _ _ _ _ 0 _ _) a ww hw hf hd
             revert h3
             generalize a.eval = ev
             intro h3
             unfold execOp
             simp only [h3]
             go_simp)),
               (step_cw rfl (.inl rfl) rfl cxT15 rfl (fun aa ww hw hf hd => ⟨_, (one_arg (knows_in 0 160 (by decide) (by kernel_rfl) rfl rfl)) aa ww hw hf hd, calls_q (store_is F2 q p L2 X2 ww (hI2.su.next hw))⟩)),
               (step_ex _ rfl (.inl rfl) rfl (fun a ww hw hf hd => by
             have h20 : a.eval (.tmp 20) = Value.pointer (some ⟨w15.heap.size, 0, none⟩) := ((knows_out 20 (by kernel_rfl) rfl) : Knows _ _ _ _ _ _ 2 _ _) a ww hw hf hd
             revert h20
             generalize a.eval = ev
             intro h20
             unfold execOp
             simp only [h20]
             go_simp)),
               (step_ex _ rfl (.inl rfl) rfl (fun a ww hw hf hd => by
             have h162 : a.eval (.tmp 162) = Value.pointer (some ⟨w15.heap.size, 2, none⟩) := ((knows_in 2 162 (by decide) (by kernel_rfl) rfl rfl) : Knows _ _ _ _ _ _ 3 _ _) a ww hw hf hd
             have f0 : ww.cell? ⟨w15.heap.size, 2, none⟩ = some (Value.int .i64 0) := (hBt.next hw).cell (i := 2) rfl
             revert h162
             generalize a.eval = ev
             intro h162
             unfold execOp
             simp only [h162]
             go_simp)),
               (step_callR rfl (.inl rfl) rfl cxT46 rfl (fun aa ww hw hf hd => ⟨_, (two_args (knows_in 1 161 (by decide) (by kernel_rfl) rfl rfl) (knows_in 3 163 (by decide) (by kernel_rfl) rfl rfl)) aa ww hw hf hd, bytes_all F2 p L2 X2 0 ww (hI2.su.next hw).cs⟩)),
               (step_copyW rfl (.inl rfl) 4 164 (by first | exact .inl rfl | exact .inr rfl) rfl (by decide) (by kernel_rfl) rfl rfl),
               (step_ext0 rfl (.inl rfl) 5 159 rfl rfl (by decide) (by kernel_rfl) rfl rfl AnyT.ext),
               (step_ext1 rfl (.inl rfl) 5 159 rfl rfl (by decide) (by kernel_rfl) rfl rfl AnyT.ext1),
               (step_copyW rfl (.inl rfl) 6 165 (by first | exact .inl rfl | exact .inr rfl) rfl (by decide) (by kernel_rfl) rfl rfl), trivial⟩ ?_
            intro val w24 hw hS _ _
            have e160 : val 160 = Value.pointer (some ⟨q, 0, none⟩) := hS 0 160 (by decide) rfl
            have e161 : val 161 = Value.pointer (some ⟨p, 0, none⟩) := hS 1 161 (by decide) rfl
            have e162 : val 162 = Value.pointer (some ⟨w15.heap.size, 2, none⟩) := hS 2 162 (by decide) rfl
            have e163 : val 163 = Value.int .i64 0 := hS 3 163 (by decide) rfl
            simp only [putVals, List.foldl_cons, List.foldl_nil, List.drop_succ_cons, List.drop_zero, Act.put, List.setIfInBounds_toArray, List.set_cons_succ, List.set_cons_zero, e160, e161, e162, e163]
            clear e160 e161 e162 e163 hS
            generalize val 164 = g164 at *
            generalize val 159 = g159 at *
            generalize val 165 = g165 at *
            generalize val 166 = g166 at *
            generalize val 24 = g24 at *
            replace hI2 := hI2.next hw
            replace hBt := hBt.next hw
            replace hBk2 := hBk2.next hw
            replace hV2 := hV2.next hw
            replace P22 := BySl.grows _ _ _ _ P22 hw
            have y0 := hBk2.cell (i := 0) rfl
            have y1 := hBk2.cell (i := 1) rfl
            have y3 := hBk2.cell (i := 3) rfl
            have t0 := hBt.cell (i := 0) rfl
            have t1 := hBt.cell (i := 1) rfl
            have t2 := hBt.cell (i := 2) rfl
            clear hw hBk2 hBt
            obtain ⟨A8, c8, e8, hN8⟩ := P22
            rw [HDL.out] at e8
            subst e8
            obtain ⟨_, _, hdA⟩ := (HA.out.next hI2.bel) k d HD0.out
            have hNd := hdA.nums hI2.bel.size
            have hdl1 : dl ≤ 1000 := by have := HX.out d (List.mem_of_getElem? HD0.out); have := HDL.out; omega
            have k1 : (d.kind == 1) = false := beq_eq_false_iff_ne.2 (by omega)
            have k2 : (d.kind == 2) = false := beq_eq_false_iff_ne.2 (by omega)
            have k3 : (d.kind == 3) = false := beq_eq_false_iff_ne.2 (by omega)
            have k4 : (d.kind == 4) = false := beq_eq_false_iff_ne.2 (by omega)
            have k5 : (d.kind == 5) = false := beq_eq_false_iff_ne.2 (by omega)
            have k6 : (d.kind == 6) = false := beq_eq_false_iff_ne.2 (by omega)
            have k7 : (d.kind == 7) = false := beq_eq_false_iff_ne.2 (by omega)
            have k8 : (d.kind == 8) = false := beq_eq_false_iff_ne.2 (by omega)
            have k9 : (d.kind == 9) = false := beq_eq_false_iff_ne.2 (by omega)
            clear h8 h10 hdA hst
            go_upto_region 43 with (go_at_call 11; refine (same_dl HDL.out hdl1 hN8 hNd).mono ?_; rintro e w25 ⟨rfl, hb25⟩)
            replace hI2 := hI2.next hb25
            replace hV2 := hV2.next hb25
            clear y0 y1 y3 t0 t1 t2 hN8 hNd hb25 k1 k2 k3 k4 k5 k6 k7 k8 k9
            have hIa := hI2.next (below_new w25 (.cells #[.slice A2 9 c2] 23))
            have hOa := hIa.row
            have hPa := parts_new1 w25 (A2, c2, valL i2) 9 (valL_len i2)
            have hsa := hIa.bel.size
            have hps : ps.length + 1 ≤ 100000 := by have := hI2.vs.len; have := Hm.out; omega
            clear hIa
            as_aux_lemma =>
              go_wp2_with (at_builtin; refine app_parts rfl (.tmp 278) (.tmp 280) rfl w.heap.size PA m pc ps rfl hOa (some ⟨w25.heap.size, 0, none⟩) 1 1 [(A2, c2, valL i2)] rfl rfl hPa hps hsa ?_; intro A9 n9 c9 w9 hO9 hG9)
              go_roundw
              case rel =>
                obtain ⟨z1, z2, z3⟩ := hI2.app2 hV2 Hm.out hi2 hL40 hO9 hG9
                exact ⟨k + 1, n9, ns ++ [i2], L2, X2, F2, ps ++ [(A2, c2, valL i2)], A9, c9, hk1, by go_num, rfl, z1, z2, by omega, by omega, by omega⟩
              case measure => simp [intOf]; omega
      · have e : k = n := by omega
        subst e
        have h1 := hI.su
        have hbel := hI.bel
        clear hI
        go_wp2_with (go_at_call 14; refine (draws_is F q p L X _ h1).mono ?_; rintro e s9 ⟨rfl, rfl⟩)
        go_ret
        exact ⟨rfl, hbel⟩
  · have HF1 := hid (few_any w.heap.size n c A ds false w1 hn hn47 (hA.next hb1) hb1.size (hid (decide_eq_false hfew).symm))
    clear hfew hA hn hn47
    go_wp2_with (go_at_call 40; refine HF1.out.mono ?_; rintro e w2 ⟨rfl, hb2⟩)
    go_ret
    exact ⟨rfl, hb1.trans (Below.mono hb2 hb1.size)⟩
end Go.Proofs.YtpncohoonfahpaaGreatDoor
