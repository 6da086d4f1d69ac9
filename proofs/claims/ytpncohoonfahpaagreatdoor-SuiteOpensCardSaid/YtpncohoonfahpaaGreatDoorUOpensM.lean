/- SuiteOpens: the law's walk. -/
import Derived.Test.YtpncohoonfahpaaGreatDoorG27
import Derived.Test.YtpncohoonfahpaaGreatDoorG20
namespace Go.Proofs.YtpncohoonfahpaaGreatDoor
open Go Go.RowKit

set_option maxRecDepth 50000 in
theorem TI.startO {F : Nat → Prop} {w0 w : World} {q p : Nat} (h : Su F w q p [] []) (hb : Below w0.heap.size w0 w) (hF : ∀ b, F b → w0.heap.size ≤ b) (hq : w0.heap.size ≤ q) : TI F w0 q p [] [] [] (.slice none 0 0) [] w :=
  ⟨h, OwnsP.none_ w _, ⟨rfl, fun i q hi => by simp at hi⟩, fun m hm => by simp at hm, fun i s b hi => by simp at hi, hb, hF, hq, fun g hg => (by cases hg), fun pq hp => (by simp at hp)⟩
set_option maxRecDepth 50000 in
theorem infDoU : (Tryz.prog.info? 59).map (·.size) = some 4 := by kernel_rfl
set_option maxRecDepth 50000 in
theorem get_pv {F : Nat → Prop} {q p : Nat} {L : List T3} {X : List (List Int)} {n pk pa pb : Int} {bp : Bool} (hp : pOf L n = (pk, pa, pb)) (hb : decide (0 ≤ n ∧ n < L.length) = bp) (w : World) (h : Su F w q p L X) :
    Calls Tryz.prog 45 #[.pointer (some ⟨p, 0, none⟩), .int .i64 n] w fun e w' => e = .returned (.tuple #[.agg #[.int .i64 pk, .int .i64 pa, .int .i64 pb], .bool bp]) ∧ Below w.heap.size w w' := by
  have := get_p F p L X n w h.cs
  rw [hp, hb] at this
  exact this
set_option maxRecDepth 50000 in
theorem box3 (i0 i1 i2 : Int) (w : World) : ∃ W, w.alloc (.cells #[.int .i64 i0, .int .i64 i1, .int .i64 i2] 70) = W ∧ Blk W w.heap.size 70 [.int .i64 i0, .int .i64 i1, .int .i64 i2] ∧ Below w.heap.size w W :=
  ⟨_, rfl, Blk.new w 70 [.int .i64 i0, .int .i64 i1, .int .i64 i2], below_new w _⟩
set_option maxRecDepth 50000 in
theorem her_of {er : Int} (h : (er != 0) = true) : (er == 0) = false := by simpa using h
set_option maxRecDepth 50000 in
set_option maxHeartbeats 16000000 in
theorem opens_any (n c : Nat) (A : Option Addr) (ds : List DoS) (i0 i1 i2 : Int) (ul uc : Nat) (uA : Option Addr) (tx : List Int) (w : World) (hT : TabsH w) (hn : ds.length = n) (hn47 : n ≤ 9223372036854775807) (hA : DsRow w.heap.size w A ds) (hul : tx.length = ul) (htb : TByt tx) (hNu : Nums w .u8 uA tx) :
    Calls Tryz.prog 6 #[.slice A n c, .agg #[.int .i64 i0, .int .i64 i1, .int .i64 i2], .slice uA ul uc] w fun e w' => e = .returned (.bool true) ∧ Below w.heap.size w w' := by
  obtain ⟨W0, hW0, hBx, hb0⟩ := box3 i0 i1 i2 w
  have HW0 := hid hW0
  have hA0 := (hA.next hb0).more hb0.size
  replace hT := hT.next hb0
  have HB0 := hid hb0
  have HBX := hid hBx
  have HUL := hid hul
  have HTB := hid htb
  have HNU := hid (hNu.below hb0)
  clear hW0 hA hb0 hBx hul htb hNu
  go_enter Tryz.func6, Tryz.ntmps6
  go_upto_region 1 with (fail)
  rw [HW0.out]
  go_upto_region 3 with (go_at_call 8; refine (awake_any _ hT).mono ?_; rintro e w1 ⟨rfl, hb1⟩)
  clear hT
  by_cases hfew : (∀ d ∈ ds, d.x.length ≤ 100) ∧ n ≤ 20
  · have HF1 := hid (few_any W0.heap.size n c A ds true w1 hn hn47 (hA0.next hb1) hb1.size (hid (decide_eq_true hfew).symm))
    have HX := hid hfew.1
    have hn20 := hfew.2
    have HN := hid hn
    clear hfew hn hn47
    by_cases h100 : 100 < ul
    · have e1 : decide ((100 : Int) < ul) = true := decide_eq_true (by omega)
      clear h100
      go_wp2_with (go_at_call 40; refine HF1.out.mono ?_; rintro e w2 ⟨rfl, hb2⟩)
      go_ret
      exact ⟨rfl, HB0.out.trans (Below.mono (hb1.trans (Below.mono hb2 hb1.size)) HB0.out.size)⟩
    have e1 : decide ((100 : Int) < ul) = false := decide_eq_false (by omega)
    have hul1 : ul ≤ 1000 := by omega
    clear h100
    go_upto_region 6 with (first
      | (go_at_call 40; refine HF1.out.mono ?_; rintro e w2 ⟨rfl, hb2⟩)
      | (go_at_call 41; refine (terms_new _).mono ?_; rintro e w3 ⟨F, q, p, rfl, hb3, hS3, hF3, hq3⟩))
    have hb12 := hb1.trans (Below.mono hb2 hb1.size)
    have hTI := TI.startO hS3 (hb12.trans (Below.mono hb3 hb12.size)) (fun b hb => Nat.le_trans hb12.size (hF3 b hb)) (Nat.le_trans hb12.size hq3)
    have HA := hid hA0
    clear HF1 hb1 hb2 hb3 hS3 hF3 hq3 hb12 hA0 e1
    go_wp2
    go_loopw [52, 8] (fun iv rv wr => ∃ (k m : Nat) (ns : List Nat) (L : List T3) (X : List (List Int)) (F : Nat → Prop) (ps : List Part) (PA : Option Addr) (pc : Nat), k ≤ n ∧ iv = .int .i64 k ∧ rv = .slice PA m pc ∧ Hid (ns.length = m) ∧ TI F W0 q p ns L X (.slice PA m pc) ps wr ∧ L.length ≤ 2 * k ∧ X.length ≤ k ∧ m ≤ k) (fun v _ _ => n - (intOf v).toNat)
    case atStart => exact ⟨0, 0, [], [], [], F, [], none, 0, Nat.zero_le _, rfl, rfl, hid rfl, hTI, Nat.le_refl _, Nat.le_refl _, Nat.le_refl _⟩
    case round =>
      clear hTI F
      obtain ⟨k, m, ns, L, X, F, ps, PA, pc, hk, rfl, rfl, Hm, hI, hL2, hXk, hmk⟩ := hrel
      by_cases hlt : k < n
      · obtain ⟨d, hd⟩ : ∃ d, ds[k]? = some d := ⟨ds[k]'(by rw [HN.out]; exact hlt), by simp [HN.out, hlt]⟩
        obtain ⟨⟨g, o, rfl, hg, hr⟩, hdx, hdA⟩ := (HA.out.next hI.bel) k d hd
        have hx2 := HX.out d (List.mem_of_getElem? hd)
        have r0 := hr 0 _ rfl
        have r1 := hr 1 _ rfl
        have r2 := hr 2 _ rfl
        have r3 := hr 3 _ rfl
        simp only [Nat.add_zero] at r0
        obtain ⟨dl, hdl⟩ : ∃ dl, d.x.length = dl := ⟨_, rfl⟩
        rw [hdl] at r3
        obtain ⟨W, hW, hBk, hbW⟩ := ds_world d.kind d.a d.b d.A dl d.c wr
        have HW := hid hW
        have HDL := hid hdl
        have hkn : (k : Int) < n := by omega
        have hk0 : (0 : Int) ≤ k := by omega
        have hk1 : k + 1 ≤ n := by omega
        have hIW := hI.next hbW
        have hB0 : W0.heap.size ≤ wr.heap.size := hI.bel.size
        clear hr hW hd hlt hk
        go_upto_region 10 with (fail)
        rw [HW.out]
        clear r0 r1 r2 r3
        obtain ⟨x, hx⟩ : ∃ x, pickO ns d.a = x := ⟨_, rfl⟩
        obtain ⟨y, hy⟩ : ∃ y, pickO ns d.b = y := ⟨_, rfl⟩
        have hxl : ∀ n, x = some n → n < L.length := fun n e => hIW.pick n (hx.trans e)
        have hyl : ∀ n, y = some n → n < L.length := fun n e => hIW.pick n (hy.trans e)
        have HK1 := hid (fun ww (hw : Cl W ww) => hIW.pk Hm.out (by omega) hx hw)
        have HK2 := hid (fun ww (hw : Cl W ww) => hIW.pk Hm.out (by omega) hy hw)
        clear hx hy
        refine region_head 10 283 [Is (Value.pointer (some ⟨q, 0, none⟩)), Is (Value.agg [Value.int .i64 d.kind, Value.int .i64 d.a, Value.int .i64 d.b, Value.slice d.A dl d.c].toArray), Is (Value.slice PA m pc), Is (Value.pointer (some ⟨wr.heap.size, 1, none⟩)), Is (Value.int .i64 d.a), (fun v w => Vl w v x), Is (Value.slice PA m pc), Is (Value.pointer (some ⟨wr.heap.size, 2, none⟩)), Is (Value.int .i64 d.b), (fun v w => Vl w v y)] [57, 58, 59, 60, 61, 62, 63, 64, 65, 66] (by kernel_rfl) (by kernel_rfl) (by kernel_rfl) (Nat.le_of_eq rfl) (grows_cons (Is.grows _) (grows_cons (Is.grows _) (grows_cons (Is.grows _) (grows_cons (Is.grows _) (grows_cons (Is.grows _) (grows_cons (fun _ _ _ h hb => Vl.next h hb) (grows_cons (Is.grows _) (grows_cons (Is.grows _) (grows_cons (Is.grows _) (grows_cons (fun _ _ _ h hb => Vl.next h hb) grows_nil))))))))))
          ⟨(step_ex _ rfl (.inl rfl) rfl (fun a ww hw hf hd => by
         have h7 : a.eval (.tmp 7) = Value.pointer (some ⟨q, 0, none⟩) := ((knows_out 7 (by kernel_rfl) rfl) : Knows _ _ _ _ _ _ 0 _ _) a ww hw hf hd
         revert h7
         generalize a.eval = ev
         intro h7
         unfold execOp
         simp only [h7]
         go_simp)),
           (step_ldV rfl (.inl rfl) (fun _ hw => (hBk.next hw).rw.range) rfl Tryz.underlying59 rfl infDoU rfl (knows_out 10 (by kernel_rfl) rfl)),
           (step_ex _ rfl (.inl rfl) rfl (fun a ww hw hf hd => by
         have h8 : a.eval (.tmp 8) = Value.slice PA m pc := ((knows_out 8 (by kernel_rfl) rfl) : Knows _ _ _ _ _ _ 2 _ _) a ww hw hf hd
         revert h8
         generalize a.eval = ev
         intro h8
         unfold execOp
         simp only [h8]
         go_simp)),
           (step_ex _ rfl (.inl rfl) rfl (fun a ww hw hf hd => by
         have h10 : a.eval (.tmp 10) = Value.pointer (some ⟨wr.heap.size, 0, none⟩) := ((knows_out 10 (by kernel_rfl) rfl) : Knows _ _ _ _ _ _ 3 _ _) a ww hw hf hd
         revert h10
         generalize a.eval = ev
         intro h10
         unfold execOp
         simp only [h10]
         go_simp)),
           (step_ex _ rfl (.inl rfl) rfl (fun a ww hw hf hd => by
         have h60 : a.eval (.tmp 60) = Value.pointer (some ⟨wr.heap.size, 1, none⟩) := ((knows_in 3 60 (by decide) (by kernel_rfl) rfl rfl) : Knows _ _ _ _ _ _ 4 _ _) a ww hw hf hd
         have f0 : ww.cell? ⟨wr.heap.size, 1, none⟩ = some (Value.int .i64 d.a) := (hBk.next hw).cell (i := 1) rfl
         revert h60
         generalize a.eval = ev
         intro h60
         unfold execOp
         simp only [h60]
         go_simp)),
           (step_callR rfl (.inl rfl) rfl cxT42 rfl (fun aa ww hw hf hd => ⟨_, (two_args (knows_in 2 59 (by decide) (by kernel_rfl) rfl rfl) (knows_in 4 61 (by decide) (by kernel_rfl) rfl rfl)) aa ww hw hf hd, HK1.out ww hw⟩)),
           (step_ex _ rfl (.inl rfl) rfl (fun a ww hw hf hd => by
         have h8 : a.eval (.tmp 8) = Value.slice PA m pc := ((knows_out 8 (by kernel_rfl) rfl) : Knows _ _ _ _ _ _ 6 _ _) a ww hw hf hd
         revert h8
         generalize a.eval = ev
         intro h8
         unfold execOp
         simp only [h8]
         go_simp)),
           (step_ex _ rfl (.inl rfl) rfl (fun a ww hw hf hd => by
         have h10 : a.eval (.tmp 10) = Value.pointer (some ⟨wr.heap.size, 0, none⟩) := ((knows_out 10 (by kernel_rfl) rfl) : Knows _ _ _ _ _ _ 7 _ _) a ww hw hf hd
         revert h10
         generalize a.eval = ev
         intro h10
         unfold execOp
         simp only [h10]
         go_simp)),
           (step_ex _ rfl (.inl rfl) rfl (fun a ww hw hf hd => by
         have h64 : a.eval (.tmp 64) = Value.pointer (some ⟨wr.heap.size, 2, none⟩) := ((knows_in 7 64 (by decide) (by kernel_rfl) rfl rfl) : Knows _ _ _ _ _ _ 8 _ _) a ww hw hf hd
         have f0 : ww.cell? ⟨wr.heap.size, 2, none⟩ = some (Value.int .i64 d.b) := (hBk.next hw).cell (i := 2) rfl
         revert h64
         generalize a.eval = ev
         intro h64
         unfold execOp
         simp only [h64]
         go_simp)),
           (step_callR rfl (.inl rfl) rfl cxT42 rfl (fun aa ww hw hf hd => ⟨_, (two_args (knows_in 6 63 (by decide) (by kernel_rfl) rfl rfl) (knows_in 8 65 (by decide) (by kernel_rfl) rfl rfl)) aa ww hw hf hd, HK2.out ww hw⟩)), trivial⟩ ?_
        intro val w10 hw hS
        have e57 : val 57 = Value.pointer (some ⟨q, 0, none⟩) := hS 0 57 (by decide) rfl
        have e58 : val 58 = Value.agg [Value.int .i64 d.kind, Value.int .i64 d.a, Value.int .i64 d.b, Value.slice d.A dl d.c].toArray := hS 1 58 (by decide) rfl
        have e59 : val 59 = Value.slice PA m pc := hS 2 59 (by decide) rfl
        have e60 : val 60 = Value.pointer (some ⟨wr.heap.size, 1, none⟩) := hS 3 60 (by decide) rfl
        have e61 : val 61 = Value.int .i64 d.a := hS 4 61 (by decide) rfl
        have P62 := hS 5 62 (by decide) rfl
        have e63 : val 63 = Value.slice PA m pc := hS 6 63 (by decide) rfl
        have e64 : val 64 = Value.pointer (some ⟨wr.heap.size, 2, none⟩) := hS 7 64 (by decide) rfl
        have e65 : val 65 = Value.int .i64 d.b := hS 8 65 (by decide) rfl
        have P66 := hS 9 66 (by decide) rfl
        simp only [putVals, List.foldl_cons, List.foldl_nil, List.drop_succ_cons, List.drop_zero, Act.put, List.setIfInBounds_toArray, List.set_cons_succ, List.set_cons_zero, e57, e58, e59, e60, e61, e63, e64, e65]
        clear e57 e58 e59 e60 e61 e63 e64 e65 hS
        generalize val 62 = g62 at *
        generalize val 66 = g66 at *
        have h10 := hIW.next hw
        have hbr : Below wr.heap.size wr w10 := hbW.trans (Below.mono hw hbW.size)
        have HD := hid (h10.do_ P62 P66 hxl hyl HDL.out hdx hx2 (hdA.stay (Below.mono hbr hB0)) (by omega) (by omega))
        clear HK1 HK2 P62 P66 hxl hyl hdx hx2 hdA hbr hB0 hBk hbW hIW hI hw
        refine any_event 10 283 (by kernel_rfl) ⟨some 67, _, _, _, _, none⟩ rfl rfl ?_
        refine evt_call4 rfl cxT44 rfl rfl rfl rfl ?_
        refine HD.out.mono ?_
        rintro e w13 ⟨v, er, rfl, hP⟩
        refine ⟨_, rfl, ?_⟩
        simp only [Act.put, List.setIfInBounds_toArray, List.set_cons_succ, List.set_cons_zero]
        clear HD
        refine any_from 11 15 283 [AnyV, AnyV, AnyV, AnyV, AnyV, AnyV, AnyV, AnyV, AnyV, AnyV, Is (Value.tuple #[v, Value.int .i64 er]), Is (Value.tuple #[v, Value.int .i64 er]), Is (v), Is (Value.int .i64 er), Is (v)] [57, 58, 59, 60, 61, 62, 63, 64, 65, 66, 67, 56, 68, 69, 11] (by kernel_rfl) (by decide) (by kernel_rfl) (Nat.le_of_eq rfl) (grows_cons AnyV.grows (grows_cons AnyV.grows (grows_cons AnyV.grows (grows_cons AnyV.grows (grows_cons AnyV.grows (grows_cons AnyV.grows (grows_cons AnyV.grows (grows_cons AnyV.grows (grows_cons AnyV.grows (grows_cons AnyV.grows (grows_cons (Is.grows _) (grows_cons (Is.grows _) (grows_cons (Is.grows _) (grows_cons (Is.grows _) (grows_cons (Is.grows _) grows_nil)))))))))))))))
          (fun i d hi hd => by
            match i, hi with
            | 0, _ => exact trivial
            | 1, _ => exact trivial
            | 2, _ => exact trivial
            | 3, _ => exact trivial
            | 4, _ => exact trivial
            | 5, _ => exact trivial
            | 6, _ => exact trivial
            | 7, _ => exact trivial
            | 8, _ => exact trivial
            | 9, _ => exact trivial
            | 10, _ => (obtain rfl := Option.some.inj hd; exact rfl)
            | i + 11, hi => exact absurd hi (by omega))
          ⟨(step_ex _ rfl (.inl rfl) rfl (fun a ww hw hf hd => by
         have h67 : a.eval (.tmp 67) = Value.tuple #[v, Value.int .i64 er] := ((knows_in 10 67 (by decide) (by kernel_rfl) rfl rfl) : Knows _ _ _ _ _ _ 11 _ _) a ww hw hf hd
         revert h67
         generalize a.eval = ev
         intro h67
         unfold execOp
         simp only [h67]
         go_simp)),
           (step_ex _ rfl (.inl rfl) rfl (fun a ww hw hf hd => by
         have h56 : a.eval (.tmp 56) = Value.tuple #[v, Value.int .i64 er] := ((knows_in 11 56 (by decide) (by kernel_rfl) rfl rfl) : Knows _ _ _ _ _ _ 12 _ _) a ww hw hf hd
         revert h56
         generalize a.eval = ev
         intro h56
         unfold execOp
         simp only [h56]
         go_simp)),
           (step_ex _ rfl (.inl rfl) rfl (fun a ww hw hf hd => by
         have h56 : a.eval (.tmp 56) = Value.tuple #[v, Value.int .i64 er] := ((knows_in 11 56 (by decide) (by kernel_rfl) rfl rfl) : Knows _ _ _ _ _ _ 13 _ _) a ww hw hf hd
         revert h56
         generalize a.eval = ev
         intro h56
         unfold execOp
         simp only [h56]
         go_simp)),
           (step_ex _ rfl (.inl rfl) rfl (fun a ww hw hf hd => by
         have h68 : a.eval (.tmp 68) = v := ((knows_in 12 68 (by decide) (by kernel_rfl) rfl rfl) : Knows _ _ _ _ _ _ 14 _ _) a ww hw hf hd
         revert h68
         generalize a.eval = ev
         intro h68
         unfold execOp
         simp only [h68]
         go_simp)), trivial⟩ ?_
        intro val w14 hw hS
        have e67 : val 67 = Value.tuple #[v, Value.int .i64 er] := hS 10 67 (by decide) rfl
        have e56 : val 56 = Value.tuple #[v, Value.int .i64 er] := hS 11 56 (by decide) rfl
        have e68 : val 68 = v := hS 12 68 (by decide) rfl
        have e69 : val 69 = Value.int .i64 er := hS 13 69 (by decide) rfl
        have e11 : val 11 = v := hS 14 11 (by decide) rfl
        simp only [putVals, List.foldl_cons, List.foldl_nil, List.drop_succ_cons, List.drop_zero, Act.put, List.setIfInBounds_toArray, List.set_cons_succ, List.set_cons_zero, e67, e56, e68, e69, e11]
        clear e67 e56 e68 e69 e11 hS
        generalize val 57 = g57 at *
        generalize val 58 = g58 at *
        generalize val 59 = g59 at *
        generalize val 60 = g60 at *
        generalize val 61 = g61 at *
        generalize val 62 = g62 at *
        generalize val 63 = g63 at *
        generalize val 64 = g64 at *
        generalize val 65 = g65 at *
        generalize val 66 = g66 at *
        rcases hP with ⟨rfl, her, _, F2, hS2, hF2, hC2⟩ | ⟨rfl, A2, c2, i2, L2, X2, rfl, hM, _, hlL, hlX⟩
        · have hI2 := (h10.turn hS2 hF2 hC2 (Nat.le_refl _) h10.at').next hw
          have her2 := her_of her
          clear her hS2 hF2 hC2 h10 hw
          as_aux_lemma =>
            go_wp2
            go_roundw
            case rel => exact ⟨k + 1, m, ns, L, X, F2, ps, PA, pc, hk1, by go_num, rfl, Hm, hI2, by omega, by omega, by omega⟩
            case measure => simp [intOf]; omega
        · obtain ⟨F2, hI2, hV2, hi2⟩ := h10.made2 hM
          replace hI2 := hI2.next hw
          replace hV2 := hV2.next hw
          have hL40 : L2.length ≤ 40 := by omega
          have hIa := hI2.next (below_new w14 (.cells #[.slice A2 9 c2] 23))
          have hOa := hIa.row
          have hPa := parts_new1 w14 (A2, c2, valL i2) 9 (valL_len i2)
          have hsa := hIa.bel.size
          have hps : ps.length + 1 ≤ 100000 := by have := hI2.vs.len; have := Hm.out; omega
          clear hIa hM h10 hw
          as_aux_lemma =>
            go_wp2_with (at_builtin; refine app_parts rfl (.tmp 72) (.tmp 74) rfl W0.heap.size PA m pc ps rfl hOa (some ⟨w14.heap.size, 0, none⟩) 1 1 [(A2, c2, valL i2)] rfl rfl hPa hps hsa ?_; intro A9 n9 c9 w9 hO9 hG9)
            go_roundw
            case rel =>
              obtain ⟨z1, z2, z3⟩ := hI2.app2 hV2 Hm.out hi2 hL40 hO9 hG9
              exact ⟨k + 1, n9, ns ++ [i2], L2, X2, F2, ps ++ [(A2, c2, valL i2)], A9, c9, hk1, by go_num, rfl, z1, z2, by omega, by omega, by omega⟩
            case measure => simp [intOf]; omega
      · have e : k = n := by omega
        subst e
        clear hlt hk
        have hBx := HBX.out.next hI.bel
        have hNx := HNU.out.below hI.bel
        have hbf := HB0.out.trans (Below.mono hI.bel HB0.out.size)
        obtain ⟨x, hx⟩ : ∃ x, pickO ns i0 = x := ⟨_, rfl⟩
        obtain ⟨y, hy⟩ : ∃ y, pickO ns i1 = y := ⟨_, rfl⟩
        have hxl : ∀ n, x = some n → n < L.length := fun n e => hI.pick n (hx.trans e)
        have hyl : ∀ n, y = some n → n < L.length := fun n e => hI.pick n (hy.trans e)
        have HK1 := hid (fun ww (hw : Cl wr ww) => hI.pk Hm.out (by omega) hx hw)
        have HK2 := hid (fun ww (hw : Cl wr ww) => hI.pk Hm.out (by omega) hy hw)
        clear hx hy
        have hL40 : L.length ≤ 40 := by omega
        go_upto_region 14 with (fail)
        refine region_spec2 9 283 (fun _ => false) [Is (Value.slice PA m pc), Is (Value.pointer (some ⟨w.heap.size, 0, none⟩)), Is (Value.int .i64 i0), (fun v w => Vl w v x), Is (Value.slice PA m pc), Is (Value.pointer (some ⟨w.heap.size, 1, none⟩)), Is (Value.int .i64 i1), (fun v w => Vl w v y), (fun v w => Vl w v x)] [77, 78, 79, 80, 81, 82, 83, 84, 13] (by kernel_rfl) (by kernel_rfl) (by kernel_rfl) (Nat.le_of_eq rfl) (grows_cons (Is.grows _) (grows_cons (Is.grows _) (grows_cons (Is.grows _) (grows_cons (fun _ _ _ h hb => Vl.next h hb) (grows_cons (Is.grows _) (grows_cons (Is.grows _) (grows_cons (Is.grows _) (grows_cons (fun _ _ _ h hb => Vl.next h hb) (grows_cons (fun _ _ _ h hb => Vl.next h hb) grows_nil)))))))))
          ⟨(step_ex _ rfl (.inl rfl) rfl (fun a ww hw hf hd => by
         have h8 : a.eval (.tmp 8) = Value.slice PA m pc := ((knows_out 8 (by kernel_rfl) rfl) : Knows _ _ _ _ _ _ 0 _ _) a ww hw hf hd
         revert h8
         generalize a.eval = ev
         intro h8
         unfold execOp
         simp only [h8]
         go_simp)),
           (step_ex _ rfl (.inl rfl) rfl (fun a ww hw hf hd => by
         have h4 : a.eval (.tmp 4) = Value.pointer (some ⟨w.heap.size, 0, none⟩) := ((knows_out 4 (by kernel_rfl) rfl) : Knows _ _ _ _ _ _ 1 _ _) a ww hw hf hd
         have hc := ec a
         revert hc h4
         generalize a.eval = ev
         intro hc h4
         unfold execOp
         simp only [hc, h4]
         go_simp)),
           (step_ex _ rfl (.inl rfl) rfl (fun a ww hw hf hd => by
         have h78 : a.eval (.tmp 78) = Value.pointer (some ⟨w.heap.size, 0, none⟩) := ((knows_in 1 78 (by decide) (by kernel_rfl) rfl rfl) : Knows _ _ _ _ _ _ 2 _ _) a ww hw hf hd
         have f0 : ww.cell? ⟨w.heap.size, 0, none⟩ = some (Value.int .i64 i0) := (hBx.next hw).cell (i := 0) rfl
         revert h78
         generalize a.eval = ev
         intro h78
         unfold execOp
         simp only [h78]
         go_simp)),
           (step_callR rfl (.inl rfl) rfl cxT42 rfl (fun aa ww hw hf hd => ⟨_, (two_args (knows_in 0 77 (by decide) (by kernel_rfl) rfl rfl) (knows_in 2 79 (by decide) (by kernel_rfl) rfl rfl)) aa ww hw hf hd, HK1.out ww hw⟩)),
           (step_ex _ rfl (.inl rfl) rfl (fun a ww hw hf hd => by
         have h8 : a.eval (.tmp 8) = Value.slice PA m pc := ((knows_out 8 (by kernel_rfl) rfl) : Knows _ _ _ _ _ _ 4 _ _) a ww hw hf hd
         revert h8
         generalize a.eval = ev
         intro h8
         unfold execOp
         simp only [h8]
         go_simp)),
           (step_ex _ rfl (.inl rfl) rfl (fun a ww hw hf hd => by
         have h4 : a.eval (.tmp 4) = Value.pointer (some ⟨w.heap.size, 0, none⟩) := ((knows_out 4 (by kernel_rfl) rfl) : Knows _ _ _ _ _ _ 5 _ _) a ww hw hf hd
         have hc := ec a
         revert hc h4
         generalize a.eval = ev
         intro hc h4
         unfold execOp
         simp only [hc, h4]
         go_simp)),
           (step_ex _ rfl (.inl rfl) rfl (fun a ww hw hf hd => by
         have h82 : a.eval (.tmp 82) = Value.pointer (some ⟨w.heap.size, 1, none⟩) := ((knows_in 5 82 (by decide) (by kernel_rfl) rfl rfl) : Knows _ _ _ _ _ _ 6 _ _) a ww hw hf hd
         have f0 : ww.cell? ⟨w.heap.size, 1, none⟩ = some (Value.int .i64 i1) := (hBx.next hw).cell (i := 1) rfl
         revert h82
         generalize a.eval = ev
         intro h82
         unfold execOp
         simp only [h82]
         go_simp)),
           (step_callR rfl (.inl rfl) rfl cxT42 rfl (fun aa ww hw hf hd => ⟨_, (two_args (knows_in 4 81 (by decide) (by kernel_rfl) rfl rfl) (knows_in 6 83 (by decide) (by kernel_rfl) rfl rfl)) aa ww hw hf hd, HK2.out ww hw⟩)),
           (step_copyW rfl (.inl rfl) 3 80 (by first | exact .inl rfl | exact .inr rfl) rfl (by decide) (by kernel_rfl) rfl rfl), trivial⟩ ?_
        intro val w10 hw hS _ _
        have e77 : val 77 = Value.slice PA m pc := hS 0 77 (by decide) rfl
        have e78 : val 78 = Value.pointer (some ⟨w.heap.size, 0, none⟩) := hS 1 78 (by decide) rfl
        have e79 : val 79 = Value.int .i64 i0 := hS 2 79 (by decide) rfl
        have e81 : val 81 = Value.slice PA m pc := hS 4 81 (by decide) rfl
        have e82 : val 82 = Value.pointer (some ⟨w.heap.size, 1, none⟩) := hS 5 82 (by decide) rfl
        have e83 : val 83 = Value.int .i64 i1 := hS 6 83 (by decide) rfl
        have P84 := hS 7 84 (by decide) rfl
        have P13 := hS 8 13 (by decide) rfl
        simp only [putVals, List.foldl_cons, List.foldl_nil, List.drop_succ_cons, List.drop_zero, Act.put, List.setIfInBounds_toArray, List.set_cons_succ, List.set_cons_zero, e77, e78, e79, e81, e82, e83]
        clear e77 e78 e79 e81 e82 e83 hS
        generalize val 80 = g80 at *
        generalize val 84 = g84 at *
        generalize val 13 = g13 at *
        replace hI := hI.next hw
        replace hNx := hNx.below hw
        replace hbf := hbf.trans (Below.mono hw hbf.size)
        obtain ⟨nx, hnx⟩ : ∃ nx, nOf x = nx := ⟨_, rfl⟩
        obtain ⟨bx, hbx⟩ : ∃ bx, x.isSome = bx := ⟨_, rfl⟩
        obtain ⟨by_, hby⟩ : ∃ by_, y.isSome = by_ := ⟨_, rfl⟩
        obtain ⟨ny, hny⟩ : ∃ ny, nOf y = ny := ⟨_, rfl⟩
        have HN1 := hid (TI.num hI.su P13 hxl hL40 hnx hbx)
        have HN2 := hid (fun ww (hw : Below w10.heap.size w10 ww) => TI.num (hI.su.next hw) (P84.next hw) hyl hL40 hny hby)
        have HNX := hid hnx
        have HBX2 := hid hbx
        have HNY := hid hny
        have HBY := hid hby
        clear HK1 HK2 hnx hbx hby hny hw hBx
        go_upto_region 16 with (go_at_call 43; refine HN1.out.mono ?_; rintro e w11 ⟨rfl, hb11⟩)
        clear HN1
        go_upto_region 17 with (go_at_call 43; refine (HN2.out w11 hb11).mono ?_; rintro e w12 ⟨rfl, hb12⟩)
        clear HN2
        have hb02 := hb11.trans (Below.mono hb12 hb11.size)
        have h12 := hI.next hb02
        have P1 := P13.next hb02
        have P2 := P84.next hb02
        have hN12 := hNx.below hb02
        have hbf12 := hbf.trans (Below.mono hb02 hbf.size)
        clear hI hNx hbf hb02 hb11 hb12 P13 P84
        by_cases hxy : x = none ∨ y = none
        · have hU : ∀ w1, Below w12.heap.size w12 w1 → Calls Tryz.prog 36 #[.pointer (some ⟨q, 0, none⟩), g13, g84] w1 (BadQ w1 11) := fun w1 hb => both_bad.1 (h12.su.next hb) (P1.next hb) hxl (P2.next hb) hyl hxy hL40
          have hV : ∀ w1, Below w12.heap.size w12 w1 → Calls Tryz.prog 37 #[.pointer (some ⟨q, 0, none⟩), g13, g84] w1 (BadQ w1 11) := fun w1 hb => both_bad.2 (h12.su.next hb) (P1.next hb) hxl (P2.next hb) hyl hxy hL40
          have hC : ∀ w1, Below w12.heap.size w12 w1 → Calls Tryz.prog 31 #[.pointer (some ⟨q, 0, none⟩), g13, .slice uA ul uc, g84] w1 fun e w' => e = .returned (.int .i64 11) ∧ Below w1.heap.size w1 w' := fun w1 hb => check_of F q p L X 11 g13 _ g84 w1 (h12.su.next hb) (hid (compare_none F q p L X g13 _ g84 x y w1 (h12.su.next hb) (P1.next hb) hxl (P2.next hb) hyl hxy hL40))
          have hbb : bx = false ∨ by_ = false := by
            rcases hxy with e | e
            · left; rw [← HBX2.out, e]; rfl
            · right; rw [← HBY.out, e]; rfl
          have HU := hid hU
          have HV := hid hV
          have HC := hid hC
          clear hU hV hC hxy P1 P2 hN12 h12 hxl hyl
          as_aux_lemma =>
            go_upto_region 18 with (go_at_call 36; refine (HU.out w12 (Below.refl _ _)).mono ?_; rintro e w13 ⟨rfl, hb13⟩)
            clear HU
            go_upto_region 19 with (go_at_call 37; refine (HV.out w13 hb13).mono ?_; rintro e w14 ⟨rfl, hb14⟩)
            have hb24 := hb13.trans (Below.mono hb14 hb13.size)
            clear HV
            go_upto_region 20 with (go_at_call 31; refine (HC.out w14 hb24).mono ?_; rintro e w15 ⟨rfl, hb15⟩)
            have hb25 := hb24.trans (Below.mono hb15 hb24.size)
            have hbz := hbf12.trans (Below.mono hb25 hbf12.size)
            clear HC hb13 hb14 hb24 hb15 hb25 hbf12
            cases bx
            · go_wp2
              go_ret
              exact ⟨rfl, hbz⟩
            · obtain rfl : by_ = false := by
                rcases hbb with e | e
                · cases e
                · exact e
              go_wp2
              go_ret
              exact ⟨rfl, hbz⟩
        · obtain ⟨n1, m1, rfl, rfl⟩ : ∃ n1 m1, x = some n1 ∧ y = some m1 := by
            cases x with
            | none => exact absurd (.inl rfl) hxy
            | some n1 =>
              cases y with
              | none => exact absurd (.inr rfl) hxy
              | some m1 => exact ⟨n1, m1, rfl, rfl⟩
          obtain ⟨rfl, rfl⟩ := nOf_some HNX.out HBX2.out rfl
          obtain ⟨rfl, rfl⟩ := nOf_some HNY.out HBY.out rfl
          have hn1 := hxl n1 rfl
          have hm1 := hyl m1 rfl
          obtain ⟨⟨kk, ka, kb⟩, hkn⟩ : ∃ t, L[n1]? = some t := ⟨L[n1], by simp [hn1]⟩
          obtain ⟨⟨tk, ta, tb⟩, htn⟩ : ∃ t, L[m1]? = some t := ⟨L[m1], by simp [hm1]⟩
          obtain ⟨⟨pk, pa, pb⟩, hpp⟩ : ∃ t, pOf L ta = t := ⟨_, rfl⟩
          obtain ⟨bp, hbp⟩ : ∃ bp, decide (0 ≤ ta ∧ ta < L.length) = bp := ⟨_, rfl⟩
          obtain ⟨e1, l1, o1, ho1, hc1, hU⟩ := unwrap_any F q p L X g13 g84 n1 m1 tk ta tb w12 h12.su P1 hn1 P2 htn hL40
          obtain ⟨e2, l2, o2, ho2, hc2, hV⟩ := unlock_any F q p L X g13 g84 n1 m1 tk ta tb w12 h12.su P1 hn1 P2 htn hL40
          obtain ⟨yy, hyb, hyl2, hY⟩ := bytes_y F q p L X tb h12.su.cs.pure
          obtain ⟨e3, hc3, hC⟩ := check_any F q p L X g13 g84 n1 m1 ul uc uA kk ka kb tk ta tb tx yy w12 h12.su P1 hkn P2 htn hL40 HUL.out hul1 HTB.out hN12 hyb hY
          rw [hpp] at hc1
          have HU := hid hU
          have HV := hid hV
          have HC := hid hC
          have HY := hid hY
          have HGP := hid (get_pv (F := F) (q := q) (p := p) (X := X) hpp hbp)
          have HKN := hid hkn
          have HTN := hid htn
          have HO1 := hid ho1
          have HO2 := hid ho2
          have HC1 := hid hc1
          have HC2 := hid hc2
          have HC3 := hid hc3
          have HYB := hid hyb
          have HYL := hid hyl2
          clear hU hV hC hY hpp hbp hkn htn ho1 ho2 hc1 hc2 hc3 hyb hyl2 hxy P1 P2 hxl hyl
          go_upto_region 18 with (go_at_call 36; refine (HU.out w12 (Below.refl _ _)).mono ?_; rintro e w13 ⟨A1, c1, rfl, hv1, hb13⟩)
          clear HU
          go_upto_region 19 with (go_at_call 37; refine (HV.out w13 hb13).mono ?_; rintro e w14 ⟨A2, c2, rfl, hv2, hb14⟩)
          have hb24 := hb13.trans (Below.mono hb14 hb13.size)
          have hv1 := hv1.next hb14
          clear HV hb13 hb14
          go_upto_region 20 with (go_at_call 31; refine (HC.out w14 hb24).mono ?_; rintro e w15 ⟨rfl, hb15⟩)
          have hb25 := hb24.trans (Below.mono hb15 hb24.size)
          have hv1 := hv1.next hb15
          have hv2 := hv2.next hb15
          have hI := h12.next hb25
          have hbf := hbf12.trans (Below.mono hb25 hbf12.size)
          have hNx := hN12.below hb25
          clear HC hb24 hb15 hb25 h12 hbf12 hN12
          go_upto_region 23 with (first
            | (go_at_call 15; refine (store_is F q p L X _ hI.su).mono ?_; rintro e s14 ⟨rfl, rfl⟩)
            | (go_at_call 45; refine (get_t hI.su.cs HKN.out).mono ?_; rintro e w16 ⟨rfl, hb16⟩))
          obtain ⟨W3, hW3, _, _, _, hbW3, hBk⟩ := term_world (kk, ka, kb) w16
          have hW3 : w16.alloc (.cells #[.int .i64 kk, .int .i64 ka, .int .i64 kb] 65) = W3 := hW3
          have hBk : Blk W3 w16.heap.size 65 [.int .i64 kk, .int .i64 ka, .int .i64 kb] := hBk
          have hbs := hb16.trans (Below.mono hbW3 hb16.size)
          replace hI := hI.next hbs
          replace hv1 := hv1.next hbs
          replace hv2 := hv2.next hbs
          replace hNx := hNx.below hbs
          replace hbf := hbf.trans (Below.mono hbs hbf.size)
          rw [hW3]
          clear hW3 hbW3 hb16 hbs
          obtain ⟨bk, hbk⟩ : ∃ bk, w16.heap.size = bk := ⟨_, rfl⟩
          rw [hbk] at hBk
          rw [hbk]
          clear hbk
          go_upto_region 24 with (first
            | (go_at_call 15; refine (store_is F q p L X _ hI.su).mono ?_; rintro e s15 ⟨rfl, rfl⟩)
            | (go_at_call 45; refine (get_t hI.su.cs HTN.out).mono ?_; rintro e w17 ⟨rfl, hb17⟩))
          obtain ⟨W4, hW4, _, _, _, hbW4, hBt⟩ := term_world (tk, ta, tb) w17
          have hW4 : w17.alloc (.cells #[.int .i64 tk, .int .i64 ta, .int .i64 tb] 65) = W4 := hW4
          have hBt : Blk W4 w17.heap.size 65 [.int .i64 tk, .int .i64 ta, .int .i64 tb] := hBt
          have hbs := hb17.trans (Below.mono hbW4 hb17.size)
          replace hI := hI.next hbs
          replace hv1 := hv1.next hbs
          replace hv2 := hv2.next hbs
          replace hNx := hNx.below hbs
          replace hBk := hBk.next hbs
          replace hbf := hbf.trans (Below.mono hbs hbf.size)
          rw [hW4]
          clear hW4 hbW4 hb17 hbs
          obtain ⟨bt, hbt⟩ : ∃ bt, w17.heap.size = bt := ⟨_, rfl⟩
          rw [hbt] at hBt
          rw [hbt]
          clear hbt
          refine region_early 9 283 (fun i => i == 8) [Is (Value.pointer (some ⟨q, 0, none⟩)), Is (Value.pointer (some ⟨p, 0, none⟩)), Is (Value.pointer (some ⟨bt, 1, none⟩)), Is (Value.int .i64 ta), Is (Value.tuple #[Value.agg #[.int .i64 pk, .int .i64 pa, .int .i64 pb], Value.bool bp]), Is (Value.tuple #[Value.agg #[.int .i64 pk, .int .i64 pa, .int .i64 pb], Value.bool bp]), Is (Value.agg #[.int .i64 pk, .int .i64 pa, .int .i64 pb]), Is (Value.bool bp), IsZV W4.heap.size [.int .i64 0, .int .i64 0, .int .i64 0]] [155, 156, 157, 158, 159, 154, 160, 161, 28] (by kernel_rfl) (by kernel_rfl) (by kernel_rfl) (Nat.le_of_eq rfl) (grows_cons (Is.grows _) (grows_cons (Is.grows _) (grows_cons (Is.grows _) (grows_cons (Is.grows _) (grows_cons (Is.grows _) (grows_cons (Is.grows _) (grows_cons (Is.grows _) (grows_cons (Is.grows _) (grows_cons (IsZV.grows _ _) grows_nil)))))))))
            ⟨(step_ex _ rfl (.inl rfl) rfl (fun a ww hw hf hd => by
           have h7 : a.eval (.tmp 7) = Value.pointer (some ⟨q, 0, none⟩) := ((knows_out 7 (by kernel_rfl) rfl) : Knows _ _ _ _ _ _ 0 _ _) a ww hw hf hd
           revert h7
           generalize a.eval = ev
           intro h7
           unfold execOp
           simp only [h7]
           go_simp)),
             (step_cw rfl (.inl rfl) rfl cxT15 rfl (fun aa ww hw hf hd => ⟨_, (one_arg (knows_in 0 155 (by decide) (by kernel_rfl) rfl rfl)) aa ww hw hf hd, calls_q (store_is F q p L X ww (hI.su.next hw))⟩)),
             (step_ex _ rfl (.inl rfl) rfl (fun a ww hw hf hd => by
           have h26 : a.eval (.tmp 26) = Value.pointer (some ⟨bt, 0, none⟩) := ((knows_out 26 (by kernel_rfl) rfl) : Knows _ _ _ _ _ _ 2 _ _) a ww hw hf hd
           revert h26
           generalize a.eval = ev
           intro h26
           unfold execOp
           simp only [h26]
           go_simp)),
             (step_ex _ rfl (.inl rfl) rfl (fun a ww hw hf hd => by
           have h157 : a.eval (.tmp 157) = Value.pointer (some ⟨bt, 1, none⟩) := ((knows_in 2 157 (by decide) (by kernel_rfl) rfl rfl) : Knows _ _ _ _ _ _ 3 _ _) a ww hw hf hd
           have f0 : ww.cell? ⟨bt, 1, none⟩ = some (Value.int .i64 ta) := (hBt.next hw).cell (i := 1) rfl
           revert h157
           generalize a.eval = ev
           intro h157
           unfold execOp
           simp only [h157]
           go_simp)),
             (step_cw rfl (.inl rfl) rfl cxT45 rfl (fun aa ww hw hf hd => ⟨_, (two_args (knows_in 1 156 (by decide) (by kernel_rfl) rfl rfl) (knows_in 3 158 (by decide) (by kernel_rfl) rfl rfl)) aa ww hw hf hd, HGP.out ww (hI.su.next hw)⟩)),
             (step_ex _ rfl (.inl rfl) rfl (fun a ww hw hf hd => by
           have h159 : a.eval (.tmp 159) = Value.tuple #[Value.agg #[.int .i64 pk, .int .i64 pa, .int .i64 pb], Value.bool bp] := ((knows_in 4 159 (by decide) (by kernel_rfl) rfl rfl) : Knows _ _ _ _ _ _ 5 _ _) a ww hw hf hd
           revert h159
           generalize a.eval = ev
           intro h159
           unfold execOp
           simp only [h159]
           go_simp)),
             (step_ex _ rfl (.inl rfl) rfl (fun a ww hw hf hd => by
           have h154 : a.eval (.tmp 154) = Value.tuple #[Value.agg #[.int .i64 pk, .int .i64 pa, .int .i64 pb], Value.bool bp] := ((knows_in 5 154 (by decide) (by kernel_rfl) rfl rfl) : Knows _ _ _ _ _ _ 6 _ _) a ww hw hf hd
           revert h154
           generalize a.eval = ev
           intro h154
           unfold execOp
           simp only [h154]
           go_simp)),
             (step_ex _ rfl (.inl rfl) rfl (fun a ww hw hf hd => by
           have h154 : a.eval (.tmp 154) = Value.tuple #[Value.agg #[.int .i64 pk, .int .i64 pa, .int .i64 pb], Value.bool bp] := ((knows_in 5 154 (by decide) (by kernel_rfl) rfl rfl) : Knows _ _ _ _ _ _ 7 _ _) a ww hw hf hd
           revert h154
           generalize a.eval = ev
           intro h154
           unfold execOp
           simp only [h154]
           go_simp)),
             (step_allocV (.inl rfl) infT rfl rfl), trivial⟩
            65 28 160 #[.int .i64 pk, .int .i64 pa, .int .i64 pb] _ rfl rfl rfl rfl 8 6 (by decide) (by decide) rfl rfl (by kernel_rfl) (by kernel_rfl) (fun v w ⟨b, h1, h2, h3⟩ => ⟨b, h1, h2, h3.roomA (us := #[.int .i64 pk, .int .i64 pa, .int .i64 pb].toList) rfl⟩) (fun v w h => h) (tsz pk pa pb) (tone pk pa pb)
            (fun i o hi ho hf => by
              have hc : i = 0 ∨ i = 1 ∨ i = 2 ∨ i = 3 ∨ i = 4 ∨ i = 5 ∨ i = 6 ∨ i = 7 ∨ i = 8 := by omega
              rcases hc with e | e | e | e | e | e | e | e | e <;> subst e
              · exact (no_wait hf (by kernel_rfl)).elim
              · exact (no_wait hf (by kernel_rfl)).elim
              · exact (no_wait hf (by kernel_rfl)).elim
              · exact (no_wait hf (by kernel_rfl)).elim
              · exact (no_wait hf (by kernel_rfl)).elim
              · exact (no_wait hf (by kernel_rfl)).elim
              · exact (no_wait hf (by kernel_rfl)).elim
              · injection ho with ho; subst ho
                exact ⟨rfl, free_sndU rfl rfl rfl (knows_in 5 154 (by decide) (by kernel_rfl) rfl rfl)⟩
              · exact (no_wait hf (by kernel_rfl)).elim)
            (fun i j hi hj hf hw v w w' h => by
              have hc : i = 0 ∨ i = 1 ∨ i = 2 ∨ i = 3 ∨ i = 4 ∨ i = 5 ∨ i = 6 ∨ i = 7 ∨ i = 8 := by omega
              have hd : j = 0 ∨ j = 1 ∨ j = 2 ∨ j = 3 ∨ j = 4 ∨ j = 5 ∨ j = 6 ∨ j = 7 ∨ j = 8 := by omega
              rcases hc with e | e | e | e | e | e | e | e | e <;> subst e
              · exact (no_wait hf (by kernel_rfl)).elim
              · exact (no_wait hf (by kernel_rfl)).elim
              · exact (no_wait hf (by kernel_rfl)).elim
              · exact (no_wait hf (by kernel_rfl)).elim
              · exact (no_wait hf (by kernel_rfl)).elim
              · exact (no_wait hf (by kernel_rfl)).elim
              · exact (no_wait hf (by kernel_rfl)).elim
              · rcases hd with e | e | e | e | e | e | e | e | e <;> subst e
                · exact (no_wait2 hw (by kernel_rfl)).elim
                · exact (no_wait2 hw (by kernel_rfl)).elim
                · exact (no_wait2 hw (by kernel_rfl)).elim
                · exact (no_wait2 hw (by kernel_rfl)).elim
                · exact (no_wait2 hw (by kernel_rfl)).elim
                · exact h
                · exact (no_wait2 hw (by kernel_rfl)).elim
                · exact (no_wait2 hw (by kernel_rfl)).elim
                · exact (no_wait2 hw (by kernel_rfl)).elim
              · exact (no_wait hf (by kernel_rfl)).elim) ?_
          intro val w18 bq hw hS hap hla hbq
          have e155 : val 155 = Value.pointer (some ⟨q, 0, none⟩) := hS 0 155 (by decide) rfl
          have e156 : val 156 = Value.pointer (some ⟨p, 0, none⟩) := hS 1 156 (by decide) rfl
          have e157 : val 157 = Value.pointer (some ⟨bt, 1, none⟩) := hS 2 157 (by decide) rfl
          have e158 : val 158 = Value.int .i64 ta := hS 3 158 (by decide) rfl
          have e159 : val 159 = Value.tuple #[Value.agg #[.int .i64 pk, .int .i64 pa, .int .i64 pb], Value.bool bp] := hS 4 159 (by decide) rfl
          have e154 : val 154 = Value.tuple #[Value.agg #[.int .i64 pk, .int .i64 pa, .int .i64 pb], Value.bool bp] := hS 5 154 (by decide) rfl
          have e160 : val 160 = Value.agg #[.int .i64 pk, .int .i64 pa, .int .i64 pb] := hS 6 160 (by decide) rfl
          have e161 : val 161 = Value.bool bp := hS 7 161 (by decide) rfl
          obtain ⟨b28, e28, L28, Z28⟩ := hS 8 28 (by decide) rfl
          have eb : b28 = bq := by
            rw [e28] at hbq
            injection hbq with h
            injection h with h
            injection h
          subst eb
          clear hbq
          simp only [putVals, List.foldl_cons, List.foldl_nil, List.drop_succ_cons, List.drop_zero, Act.put, List.setIfInBounds_toArray, List.set_cons_succ, List.set_cons_zero, e155, e156, e157, e158, e159, e154, e160, e161, e28]
          clear e155 e156 e157 e158 e159 e154 e160 e161 e28 hS hap hla
          have hBp : Rw (w18.setCells b28 0 #[.int .i64 pk, .int .i64 pa, .int .i64 pb].toList) b28 0 [.int .i64 pk, .int .i64 pa, .int .i64 pb] := Z28.storedA (us := [.int .i64 pk, .int .i64 pa, .int .i64 pb]) rfl
          have hbs := Below.setCells hw L28 0 #[.int .i64 pk, .int .i64 pa, .int .i64 pb].toList
          generalize w18.setCells b28 0 #[.int .i64 pk, .int .i64 pa, .int .i64 pb].toList = w19 at *
          replace hI := hI.next hbs
          replace hv1 := hv1.next hbs
          replace hv2 := hv2.next hbs
          replace hNx := hNx.below hbs
          replace hBk := hBk.next hbs
          replace hBt := hBt.next hbs
          replace hbf := hbf.trans (Below.mono hbs hbf.size)
          clear hw L28 Z28 hbs HGP
          go_upto_region 25 with (fail)
          refine region_spec2 9 283 (fun _ => false) [Is (Value.pointer (some ⟨q, 0, none⟩)), Is (Value.pointer (some ⟨p, 0, none⟩)), Is (Value.pointer (some ⟨bt, 2, none⟩)), Is (Value.int .i64 tb), (ByTx yy), (ByTx yy), (BySl yy), AnyV, (BySl yy)] [163, 164, 165, 166, 167, 162, 168, 169, 30] (by kernel_rfl) (by kernel_rfl) (by kernel_rfl) (Nat.le_of_eq rfl) (grows_cons (Is.grows _) (grows_cons (Is.grows _) (grows_cons (Is.grows _) (grows_cons (Is.grows _) (grows_cons (ByTx.grows yy) (grows_cons (ByTx.grows yy) (grows_cons (BySl.grows yy) (grows_cons AnyV.grows (grows_cons (BySl.grows yy) grows_nil)))))))))
            ⟨(step_ex _ rfl (.inl rfl) rfl (fun a ww hw hf hd => by
           have h7 : a.eval (.tmp 7) = Value.pointer (some ⟨q, 0, none⟩) := ((knows_out 7 (by kernel_rfl) rfl) : Knows _ _ _ _ _ _ 0 _ _) a ww hw hf hd
           revert h7
           generalize a.eval = ev
           intro h7
           unfold execOp
           simp only [h7]
           go_simp)),
             (step_cw rfl (.inl rfl) rfl cxT15 rfl (fun aa ww hw hf hd => ⟨_, (one_arg (knows_in 0 163 (by decide) (by kernel_rfl) rfl rfl)) aa ww hw hf hd, calls_q (store_is F q p L X ww (hI.su.next hw))⟩)),
             (step_ex _ rfl (.inl rfl) rfl (fun a ww hw hf hd => by
           have h26 : a.eval (.tmp 26) = Value.pointer (some ⟨bt, 0, none⟩) := ((knows_out 26 (by kernel_rfl) rfl) : Knows _ _ _ _ _ _ 2 _ _) a ww hw hf hd
           revert h26
           generalize a.eval = ev
           intro h26
           unfold execOp
           simp only [h26]
           go_simp)),
             (step_ex _ rfl (.inl rfl) rfl (fun a ww hw hf hd => by
           have h165 : a.eval (.tmp 165) = Value.pointer (some ⟨bt, 2, none⟩) := ((knows_in 2 165 (by decide) (by kernel_rfl) rfl rfl) : Knows _ _ _ _ _ _ 3 _ _) a ww hw hf hd
           have f0 : ww.cell? ⟨bt, 2, none⟩ = some (Value.int .i64 tb) := (hBt.next hw).cell (i := 2) rfl
           revert h165
           generalize a.eval = ev
           intro h165
           unfold execOp
           simp only [h165]
           go_simp)),
             (step_callR rfl (.inl rfl) rfl cxT46 rfl (fun aa ww hw hf hd => ⟨_, (two_args (knows_in 1 164 (by decide) (by kernel_rfl) rfl rfl) (knows_in 3 166 (by decide) (by kernel_rfl) rfl rfl)) aa ww hw hf hd, HY.out ww (hI.su.next hw)⟩)),
             (step_copyW rfl (.inl rfl) 4 167 (by first | exact .inl rfl | exact .inr rfl) rfl (by decide) (by kernel_rfl) rfl rfl),
             (step_ext0 rfl (.inl rfl) 5 162 rfl rfl (by decide) (by kernel_rfl) rfl rfl (ByTx.ext yy)),
             (step_ext1 rfl (.inl rfl) 5 162 rfl rfl (by decide) (by kernel_rfl) rfl rfl (ByTx.ext1 yy)),
             (step_copyW rfl (.inl rfl) 6 168 (by first | exact .inl rfl | exact .inr rfl) rfl (by decide) (by kernel_rfl) rfl rfl), trivial⟩ ?_
          intro val w20 hw hS _ _
          have e163 : val 163 = Value.pointer (some ⟨q, 0, none⟩) := hS 0 163 (by decide) rfl
          have e164 : val 164 = Value.pointer (some ⟨p, 0, none⟩) := hS 1 164 (by decide) rfl
          have e165 : val 165 = Value.pointer (some ⟨bt, 2, none⟩) := hS 2 165 (by decide) rfl
          have e166 : val 166 = Value.int .i64 tb := hS 3 166 (by decide) rfl
          have P30 := hS 8 30 (by decide) rfl
          simp only [putVals, List.foldl_cons, List.foldl_nil, List.drop_succ_cons, List.drop_zero, Act.put, List.setIfInBounds_toArray, List.set_cons_succ, List.set_cons_zero, e163, e164, e165, e166]
          clear e163 e164 e165 e166 hS
          generalize val 167 = g167 at *
          generalize val 162 = g162 at *
          generalize val 168 = g168 at *
          generalize val 169 = g169 at *
          generalize val 30 = g30 at *
          replace hI := hI.next hw
          replace hv1 := hv1.next hw
          replace hv2 := hv2.next hw
          replace hNx := hNx.below hw
          replace hBk := hBk.next hw
          replace hBt := hBt.next hw
          replace hBp := hBp.next hw
          replace hbf := hbf.trans (Below.mono hw hbf.size)
          clear hw HY
          obtain ⟨A8, c8, e8, hN8⟩ := P30
          obtain ⟨yl, hyl⟩ : ∃ yl, yy.length = yl := ⟨_, rfl⟩
          rw [hyl] at e8
          subst e8
          obtain ⟨q1, hq1⟩ : ∃ q1, nOf o1 = q1 := ⟨_, rfl⟩
          obtain ⟨q2, hq2⟩ : ∃ q2, nOf o2 = q2 := ⟨_, rfl⟩
          obtain ⟨b1, hb1⟩ : ∃ b1, o1.isSome = b1 := ⟨_, rfl⟩
          obtain ⟨b2, hb2⟩ : ∃ b2, o2.isSome = b2 := ⟨_, rfl⟩
          have HN1 := hid (TI.num hI.su hv1 HO1.out hL40 hq1 hb1)
          have HN2 := hid (fun ww (hw : Below w20.heap.size w20 ww) => TI.num (hI.su.next hw) (hv2.next hw) HO2.out hL40 hq2 hb2)
          have HQ1 := hid hq1
          have HQ2 := hid hq2
          have HYLen := hid hyl
          clear hq1 hq2 hb1 hb2 hyl hv1 hv2
          go_upto_region 27 with (go_at_call 43; refine HN1.out.mono ?_; rintro e w21 ⟨rfl, hb21⟩)
          clear HN1
          go_upto_region 28 with (go_at_call 43; refine (HN2.out w21 hb21).mono ?_; rintro e w22 ⟨rfl, hb22⟩)
          have hbs := hb21.trans (Below.mono hb22 hb21.size)
          clear HN2 hb21 hb22
          have k0 := (hBk.next hbs).cell (i := 0) rfl
          have k1 := (hBk.next hbs).cell (i := 1) rfl
          have t0 := (hBt.next hbs).cell (i := 0) rfl
          have t1 := (hBt.next hbs).cell (i := 1) rfl
          have t2 := (hBt.next hbs).cell (i := 2) rfl
          have p1 := ((hBp.next hbs) 1 _ rfl).1
          have hN8 := hN8.below hbs
          have hNx := hNx.below hbs
          have hbf := hbf.trans (Below.mono hbs hbf.size)
          have HS := hid (fun g (hg : decide (yy = tx) = g) => rsame_any A8 uA yl ul c8 uc yy tx g w22 (by have := HYL.out; have := HYLen.out; omega) HYLen.out HUL.out hg hN8 hNx)
          have h1 := HC1.out
          have h2 := HC2.out
          have h3 := HC3.out
          rw [HQ1.out] at h1
          rw [HQ2.out] at h2
          have HBF := hid hbf
          clear hBk hBt hBp hbs hI hN8 hNx hbf HQ1 HQ2 HC1 HC2 HC3
          simp only [Nat.zero_add] at p1
          by_cases c4 : tk = 4
          · subst c4
            obtain ⟨rfl, rfl, rfl⟩ : e2 = 20 ∧ l2 = 0 ∧ q2 = 0 := by
              rcases h2 with ⟨a, _⟩ | ⟨_, b⟩
              · exact absurd a (by omega)
              · exact b
            obtain rfl : e3 = 22 := by
              rcases h3 with ⟨a, _⟩ | ⟨_, b⟩
              · exact absurd a (by omega)
              · exact b
            clear h2 h3 HS
            rcases h1 with ⟨_, a2, rfl, rfl, rfl⟩ | ⟨a1, rfl, rfl, rfl⟩
            · have a2 : pa = (n1 : Int) := a2
              subst a2
              as_aux_lemma =>
                go_wp2
                go_ret
                exact ⟨rfl, HBF.out⟩
            · have a1 : (pa == (n1 : Int)) = false := beq_eq_false_iff_ne.2 (fun e => a1 ⟨rfl, e⟩)
              as_aux_lemma =>
                go_wp2
                go_ret
                exact ⟨rfl, HBF.out⟩
          by_cases c5 : tk = 5
          · subst c5
            obtain ⟨rfl, rfl, rfl⟩ : e1 = 20 ∧ l1 = 0 ∧ q1 = 0 := by
              rcases h1 with ⟨a, _⟩ | ⟨_, b⟩
              · exact absurd a (by omega)
              · exact b
            obtain rfl : e3 = 22 := by
              rcases h3 with ⟨a, _⟩ | ⟨_, b⟩
              · exact absurd a (by omega)
              · exact b
            clear h1 h3 HS c4
            rcases h2 with ⟨_, a2, rfl, rfl, rfl⟩ | ⟨a1, rfl, rfl, rfl⟩
            · subst a2
              as_aux_lemma =>
                go_wp2
                go_ret
                exact ⟨rfl, HBF.out⟩
            · have a1 : (ta == (n1 : Int)) = false := beq_eq_false_iff_ne.2 (fun e => a1 ⟨rfl, e⟩)
              as_aux_lemma =>
                go_wp2
                go_ret
                exact ⟨rfl, HBF.out⟩
          obtain ⟨rfl, rfl, rfl⟩ : e1 = 20 ∧ l1 = 0 ∧ q1 = 0 := by
            rcases h1 with ⟨a, _⟩ | ⟨_, b⟩
            · exact absurd a (by omega)
            · exact b
          obtain ⟨rfl, rfl, rfl⟩ : e2 = 20 ∧ l2 = 0 ∧ q2 = 0 := by
            rcases h2 with ⟨a, _⟩ | ⟨_, b⟩
            · exact absurd a (by omega)
            · exact b
          have c4b : (tk == 4) = false := beq_eq_false_iff_ne.2 c4
          have c5b : (tk == 5) = false := beq_eq_false_iff_ne.2 c5
          clear h1 h2 c4 c5
          by_cases c8 : tk = 8
          · subst c8
            clear c4b c5b
            rcases h3 with ⟨_, rfl, rfl, hyx, rfl⟩ | ⟨a1, rfl⟩
            · have hg : decide (yy = tx) = true := decide_eq_true hyx
              clear hyx
              as_aux_lemma =>
                go_wp2_with (go_at_call 11; refine (HS.out true hg).mono ?_; rintro e w23 ⟨rfl, hb23⟩; have hbz := HBF.out.trans (Below.mono hb23 HBF.out.size))
                go_ret
                exact ⟨rfl, hbz⟩
            · by_cases d3 : kk = 3
              · subst d3
                by_cases d4 : ka = ta
                · subst d4
                  have hg : decide (yy = tx) = false := decide_eq_false (fun e => a1 ⟨rfl, rfl, rfl, e⟩)
                  clear a1
                  as_aux_lemma =>
                    go_wp2_with (go_at_call 11; refine (HS.out false hg).mono ?_; rintro e w23 ⟨rfl, hb23⟩; have hbz := HBF.out.trans (Below.mono hb23 HBF.out.size))
                    go_ret
                    exact ⟨rfl, hbz⟩
                · have d4b : (ka == ta) = false := beq_eq_false_iff_ne.2 d4
                  clear a1 d4 HS
                  as_aux_lemma =>
                    go_wp2
                    go_ret
                    exact ⟨rfl, HBF.out⟩
              · have d3b : (kk == 3) = false := beq_eq_false_iff_ne.2 d3
                clear a1 d3 HS
                as_aux_lemma =>
                  go_wp2
                  go_ret
                  exact ⟨rfl, HBF.out⟩
          · obtain rfl : e3 = 22 := by
              rcases h3 with ⟨a, _⟩ | ⟨_, b⟩
              · exact absurd a c8
              · exact b
            have c8b : (tk == 8) = false := beq_eq_false_iff_ne.2 c8
            clear h3 c8 HS
            as_aux_lemma =>
              go_wp2
              go_ret
              exact ⟨rfl, HBF.out⟩

  · have HF1 := hid (few_any W0.heap.size n c A ds false w1 hn hn47 (hA0.next hb1) hb1.size (hid (decide_eq_false hfew).symm))
    clear hfew hA0 hn hn47
    go_wp2_with (go_at_call 40; refine HF1.out.mono ?_; rintro e w2 ⟨rfl, hb2⟩)
    go_ret
    exact ⟨rfl, HB0.out.trans (Below.mono (hb1.trans (Below.mono hb2 hb1.size)) HB0.out.size)⟩
end Go.Proofs.YtpncohoonfahpaaGreatDoor
