/- What is done to a disk isn't seen in its clone. -/
import Derived.Test.YtdfalneiapeegaaLShare
import Derived.Test.YtdfalneiapeegaaLDoes
namespace Go.Proofs.Ytdfalneiapeegaa
open Go Go.RowKit Go.Maps

theorem dnew4 (w : World) : Calls Try.prog 8 #[.int .i64 4] w fun e w' => e = .returned (.tuple #[.pointer (some ⟨w.heap.size + 2, 0, none⟩), .int .i64 0]) ∧ DS (fun b => w.heap.size ≤ b ∧ b < w'.heap.size) w' (w.heap.size + 2) (newD 4) ∧ Below w.heap.size w w' := dnew_any 4 w (by decide) (by decide)
theorem rnew4 (w : World) : Calls Try.prog 11 #[.int .i64 4] w fun e w' => e = .returned (.pointer (some ⟨w.heap.size, 0, none⟩)) ∧ (∃ F B, RS F B w' w.heap.size (newD 4) ∧ (∀ b, F b → w.heap.size ≤ b ∧ b < w'.heap.size) ∧ (∀ b, B b → w.heap.size ≤ b ∧ b < w'.heap.size)) ∧ Below w.heap.size w w' := rnew_any 4 w (by decide)
/-- Two pairs, each left alone by what is done to the other. -/
def Far (Fd Fx B Fc Fy By : Nat → Prop) : Prop := (∀ b, Fd b ∨ Fx b → ¬ (Fc b ∨ Fy b ∨ By b)) ∧ (∀ b, Fc b ∨ Fy b → ¬ (Fd b ∨ Fx b ∨ B b))
theorem Far.step {Fd Fx B Fc Fy By Fd' Fx' B' : Nat → Prop} {z : Nat} (h : Far Fd Fx B Fc Fy By) (hs : ∀ b, (Fd' b ∨ Fx' b → Fd b ∨ Fx b ∨ z ≤ b) ∧ (B' b → B b ∨ z ≤ b)) (hin : ∀ b, Fc b ∨ Fy b ∨ By b → b < z) : Far Fd' Fx' B' Fc Fy By := by
  refine ⟨fun b hb hc => ?_, fun b hc hb => ?_⟩
  · have := hin b hc
    rcases (hs b).1 hb with h1 | h1 | h1
    · exact h.1 b (.inl h1) hc
    · exact h.1 b (.inr h1) hc
    · omega
  · have hz := hin b (by rcases hc with h1 | h1; exact .inl h1; exact .inr (.inl h1))
    rcases hb with h1 | h1 | h1
    · rcases (hs b).1 (.inl h1) with h2 | h2 | h2
      · exact h.2 b hc (.inl h2)
      · exact h.2 b hc (.inr (.inl h2))
      · omega
    · rcases (hs b).1 (.inr h1) with h2 | h2 | h2
      · exact h.2 b hc (.inl h2)
      · exact h.2 b hc (.inr (.inl h2))
      · omega
    · rcases (hs b).2 h1 with h2 | h2
      · exact h.2 b hc (.inr (.inr h2))
      · omega
theorem Far.flip {Fd Fx B Fc Fy By : Nat → Prop} (h : Far Fd Fx B Fc Fy By) : Far Fc Fy By Fd Fx B := ⟨h.2, h.1⟩
set_option maxHeartbeats 4000000 in
theorem apart_few (b1 b2 b3 : Bool) (n1 c1 : Nat) (A1 : Option Addr) (ds1 : List DoV) (n2 c2 : Nat) (A2 : Option Addr) (ds2 : List DoV) (n3 c3 : Nat) (A3 : Option Addr) (ds3 : List DoV) (w : World) (hn1 : ds1.length = n1) (hm1 : n1 ≤ 9223372036854775807) (hA1 : DoRow w.heap.size w A1 ds1) (hn2 : ds2.length = n2) (hm2 : n2 ≤ 9223372036854775807) (hA2 : DoRow w.heap.size w A2 ds2) (hn3 : ds3.length = n3) (hm3 : n3 ≤ 9223372036854775807) (hA3 : DoRow w.heap.size w A3 ds3) (Hb1 : Hid (b1 = decide ((∀ d ∈ ds1, d.x.length ≤ 100) ∧ n1 ≤ 40))) (Hb2 : Hid (b2 = decide ((∀ d ∈ ds2, d.x.length ≤ 100) ∧ n2 ≤ 40))) (Hb3 : Hid (b3 = decide ((∀ d ∈ ds3, d.x.length ≤ 100) ∧ n3 ≤ 40))) (hno : b1 = false ∨ b2 = false ∨ b3 = false) :
    Calls Try.prog 6 #[.slice A1 n1 c1, .slice A2 n2 c2, .slice A3 n3 c3] w fun e w' => e = .returned (.bool true) ∧ Below w.heap.size w w' := by
  have HA1 := hid hA1
  have Hn1 := hid hn1
  have Hm1 := hid hm1
  have HA2 := hid hA2
  have Hn2 := hid hn2
  have Hm2 := hid hm2
  have HA3 := hid hA3
  have Hn3 := hid hn3
  have Hm3 := hid hm3
  clear hA1 hA2 hA3 hn1 hn2 hn3 hm1 hm2 hm3
  cases b1 with
  | false =>
    clear hno
    go_enter Try.func6, Try.ntmps6
    go_wp2_with (first
      | (go_at_call 10; refine (few_any w.heap.size n1 c1 A1 ds1 false _ Hn1.out Hm1.out (HA1.out.next hbX1) hbX1.size Hb1).mono ?_; rintro e w3 ⟨rfl, hf1⟩; have hbX2 : Below w.heap.size w w3 := hbX1.trans (Below.mono hf1 hbX1.size))
      | (go_at_call 7; refine (awake_any _).mono ?_; rintro e w2 ⟨rfl, hbX1⟩))
    go_ret
    exact ⟨rfl, hbX2⟩
  | true =>
    cases b2 with
    | false =>
      clear hno
      go_enter Try.func6, Try.ntmps6
      go_wp2_with (first
        | (go_at_call 10; refine (few_any w.heap.size n2 c2 A2 ds2 false _ Hn2.out Hm2.out (HA2.out.next hbX2) hbX2.size Hb2).mono ?_; rintro e w4 ⟨rfl, hf2⟩; have hbX3 : Below w.heap.size w w4 := hbX2.trans (Below.mono hf2 hbX2.size))
        | (go_at_call 10; refine (few_any w.heap.size n1 c1 A1 ds1 true _ Hn1.out Hm1.out (HA1.out.next hbX1) hbX1.size Hb1).mono ?_; rintro e w3 ⟨rfl, hf1⟩; have hbX2 : Below w.heap.size w w3 := hbX1.trans (Below.mono hf1 hbX1.size))
        | (go_at_call 7; refine (awake_any _).mono ?_; rintro e w2 ⟨rfl, hbX1⟩))
      go_ret
      exact ⟨rfl, hbX3⟩
    | true =>
      obtain rfl : b3 = false := by rcases hno with h | h | h; cases h; cases h; exact h
      clear hno
      go_enter Try.func6, Try.ntmps6
      go_wp2_with (first
        | (go_at_call 10; refine (few_any w.heap.size n3 c3 A3 ds3 false _ Hn3.out Hm3.out (HA3.out.next hbX3) hbX3.size Hb3).mono ?_; rintro e w5 ⟨rfl, hf3⟩; have hbX4 : Below w.heap.size w w5 := hbX3.trans (Below.mono hf3 hbX3.size))
        | (go_at_call 10; refine (few_any w.heap.size n2 c2 A2 ds2 true _ Hn2.out Hm2.out (HA2.out.next hbX2) hbX2.size Hb2).mono ?_; rintro e w4 ⟨rfl, hf2⟩; have hbX3 : Below w.heap.size w w4 := hbX2.trans (Below.mono hf2 hbX2.size))
        | (go_at_call 10; refine (few_any w.heap.size n1 c1 A1 ds1 true _ Hn1.out Hm1.out (HA1.out.next hbX1) hbX1.size Hb1).mono ?_; rintro e w3 ⟨rfl, hf1⟩; have hbX2 : Below w.heap.size w w3 := hbX1.trans (Below.mono hf1 hbX1.size))
        | (go_at_call 7; refine (awake_any _).mono ?_; rintro e w2 ⟨rfl, hbX1⟩))
      go_ret
      exact ⟨rfl, hbX4⟩
set_option maxRecDepth 50000 in
set_option maxHeartbeats 16000000 in
theorem apart_go (n1 c1 : Nat) (A1 : Option Addr) (ds1 : List DoV) (n2 c2 : Nat) (A2 : Option Addr) (ds2 : List DoV) (n3 c3 : Nat) (A3 : Option Addr) (ds3 : List DoV) (w : World) (hn1 : ds1.length = n1) (hm1 : n1 ≤ 9223372036854775807) (hA1 : DoRow w.heap.size w A1 ds1) (hn2 : ds2.length = n2) (hm2 : n2 ≤ 9223372036854775807) (hA2 : DoRow w.heap.size w A2 ds2) (hn3 : ds3.length = n3) (hm3 : n3 ≤ 9223372036854775807) (hA3 : DoRow w.heap.size w A3 ds3) (Hb1 : Hid (true = decide ((∀ d ∈ ds1, d.x.length ≤ 100) ∧ n1 ≤ 40))) (Hb2 : Hid (true = decide ((∀ d ∈ ds2, d.x.length ≤ 100) ∧ n2 ≤ 40))) (Hb3 : Hid (true = decide ((∀ d ∈ ds3, d.x.length ≤ 100) ∧ n3 ≤ 40))) :
    Calls Try.prog 6 #[.slice A1 n1 c1, .slice A2 n2 c2, .slice A3 n3 c3] w fun e w' => e = .returned (.bool true) ∧ Below w.heap.size w w' := by
  have HA1 := hid hA1
  have Hn1 := hid hn1
  have Hm1 := hid hm1
  have hbd1 := of_decide_eq_true Hb1.out.symm
  have HX1 := hid hbd1.1
  have H401 := hid hbd1.2
  have hi1 : (n1 : Int) ≤ 40 := by have := hbd1.2; omega
  have HA2 := hid hA2
  have Hn2 := hid hn2
  have Hm2 := hid hm2
  have hbd2 := of_decide_eq_true Hb2.out.symm
  have HX2 := hid hbd2.1
  have H402 := hid hbd2.2
  have hi2 : (n2 : Int) ≤ 40 := by have := hbd2.2; omega
  have HA3 := hid hA3
  have Hn3 := hid hn3
  have Hm3 := hid hm3
  have hbd3 := of_decide_eq_true Hb3.out.symm
  have HX3 := hid hbd3.1
  have H403 := hid hbd3.2
  have hi3 : (n3 : Int) ≤ 40 := by have := hbd3.2; omega
  clear hA1 hA2 hA3 hn1 hn2 hn3 hm1 hm2 hm3 hbd1 hbd2 hbd3
  go_enter Try.func6, Try.ntmps6
  go_upto_region 8 with (first
    | (go_at_call 11; refine (rnew4 _).mono ?_; rintro e w7 ⟨rfl, ⟨F6, B6, hR6, hF6, hB6⟩, hb7⟩)
    | (go_at_call 8; refine (dnew4 _).mono ?_; rintro e w6 ⟨rfl, hD6, hb6⟩)
    | (go_at_call 10; refine (few_any w.heap.size n3 c3 A3 ds3 true _ Hn3.out Hm3.out (HA3.out.next hbX3) hbX3.size Hb3).mono ?_; rintro e w5 ⟨rfl, hf3⟩; have hbX4 : Below w.heap.size w w5 := hbX3.trans (Below.mono hf3 hbX3.size))
    | (go_at_call 10; refine (few_any w.heap.size n2 c2 A2 ds2 true _ Hn2.out Hm2.out (HA2.out.next hbX2) hbX2.size Hb2).mono ?_; rintro e w4 ⟨rfl, hf2⟩; have hbX3 : Below w.heap.size w w4 := hbX2.trans (Below.mono hf2 hbX2.size))
    | (go_at_call 10; refine (few_any w.heap.size n1 c1 A1 ds1 true _ Hn1.out Hm1.out (HA1.out.next hbX1) hbX1.size Hb1).mono ?_; rintro e w3 ⟨rfl, hf1⟩; have hbX2 : Below w.heap.size w w3 := hbX1.trans (Below.mono hf1 hbX1.size))
    | (go_at_call 7; refine (awake_any _).mono ?_; rintro e w2 ⟨rfl, hbX1⟩))
  obtain ⟨p, hp⟩ : ∃ p, w5.heap.size + 2 = p := ⟨_, rfl⟩
  obtain ⟨q, hq⟩ : ∃ q, w6.heap.size = q := ⟨_, rfl⟩
  have s5 := hbX4.size
  have s6 := hb6.size
  have s7 := hb7.size
  have hP0 : Prs w.heap.size (fun b => w5.heap.size ≤ b ∧ b < w6.heap.size) F6 B6 w7 p q (newD 4) := by
    rw [hp] at hD6
    rw [hq] at hR6
    refine ⟨hD6.next hb7, hR6, fun b hb => ⟨fun e => ?_, fun e => ?_⟩, fun b hb => ?_, by omega⟩
    · have := hF6 b e; omega
    · have := hB6 b e; omega
    · rcases hb with h | h | h
      · omega
      · have := hF6 b h; omega
      · have := hB6 b h; omega
  have hB0 : Below w.heap.size w w7 := (hbX4.trans (Below.mono hb6 s5)).trans (Below.mono hb7 (by omega))
  rw [hp, hq]
  have HP0 := hid hP0
  have HB0 := hid hB0
  have Hok := hid (newD_ok 4 (by decide))
  have HK4 : Hid ((newD 4).K.length = 4) := hid rfl
  clear hbX1 hbX2 hbX3 hbX4 hf1 hf2 hf3 hb6 hb7 hD6 hR6 hF6 hB6 s5 s6 s7 hP0 hB0 hp hq Hb1 Hb2 Hb3
  generalize w7 = w0 at *
  go_loopw [40] (fun v wr => ∃ k : Nat, k ≤ n1 ∧ v = .int .i64 k ∧ Hid (∃ Fd Fx B D, Prs w.heap.size Fd Fx B wr p q D ∧ Dok k D ∧ D.K.length = 4) ∧ Below w.heap.size w wr) (fun v _ => n1 - (intOf v).toNat)
  case atStart => exact ⟨0, Nat.zero_le _, rfl, hid ⟨_, _, _, _, HP0.out, Hok.out, HK4.out⟩, HB0.out⟩
  case round =>
    clear HP0 HB0 Hok HK4
    obtain ⟨k, hk, rfl, HP, hcl⟩ := hrel
    by_cases hlt : k < n1
    · skip
      obtain ⟨d, g, o, W, hd, rfl, r0, r1, r2, hW, hBk, hbW, hwf, hby, hnx⟩ := do_at HA1.out hcl Hn1.out hlt
      obtain ⟨Fd, Fx, B, D, hP, hD, hK⟩ := HP.out
      have y0 := hBk.cell (i := 0) rfl
      have y1 := hBk.cell (i := 1) rfl
      have y2 := hBk.cell (i := 2) rfl
      have hx1 := HX1.out d (List.mem_of_getElem? hd)
      have hk40 := H401.out
      have HO := one_any w.heap.size Fd Fx B p q k D d W (hP.next hbW) hD (by omega) hwf (hnx.stay (hbW.mono hcl.size)) hx1 hby
      unfold DoV.cells at HO
      have HW := hid hW
      have hkn : (k : Int) < n1 := by omega
      have hk0 : (0 : Int) ≤ k := by omega
      have HK := hid hlt
      have hclW := hcl.trans (Below.mono hbW hcl.size)
      have HbW := hid hbW
      have HP' := hid hP
      have HKL := hid hK
      clear HP hP hD hK
      clear hW hBk hd hlt hk hwf hby hnx hx1 hk40 hbW
      go_upto_region 10 with (fail)
      rw [HW.out]
      clear HW r0 r1 r2
      go_wp2_with (go_at_call 12; refine HO.mono ?_; rintro e w7 ⟨rfl, D', ⟨Fd', Fx', B', hP', hsub, hC'⟩, hD', hK'⟩)
      go_roundw
      case rel => exact ⟨k + 1, HK.out, by go_num, hid ⟨_, _, _, _, hP', hD', hK'.trans HKL.out⟩, hclW.trans (hC'.below (Nat.le_trans hcl.size HbW.out.size) (fun b hb => (HP'.out.inn b (by rcases hb with h | h; exact .inl h; exact .inr (.inl h))).1))⟩
      case measure => have := HK.out; simp [intOf]; omega
    · have hge : ¬ (k : Int) < n1 := by omega
      obtain ⟨Fd, Fx, B, D, hP, hD, hK4⟩ := HP.out
      have hk40 := H401.out
      have hD40 : Dok 40 D := hD.more (by omega)
      obtain ⟨AK, cK, AW, cW, ps, ws, f, hT, hf, hfF, hfB⟩ := hP.rs
      obtain ⟨n, hn⟩ : ∃ n, D.K.length = n := ⟨_, rfl⟩
      obtain ⟨l, hl⟩ : ∃ l, D.W.length = l := ⟨_, rfl⟩
      obtain ⟨off, hoff⟩ : ∃ off, D.off = off := ⟨_, rfl⟩
      obtain ⟨li, hli⟩ : ∃ li, D.li = li := ⟨_, rfl⟩
      rw [hn, hoff, hli] at hT
      have hl40 : l ≤ 40 := by rw [← hl]; exact hD40.w1
      have r2 := hT.blk.cell (i := 2) rfl
      have r3 := hT.blk.cell (i := 3) rfl
      have r4 := hT.blk.cell (i := 4) rfl
      have r0 := hT.blk.cell (i := 0) rfl
      have r1 := hT.blk.cell (i := 1) rfl
      rw [hl] at r1
      obtain ⟨gK, rfl⟩ := hT.row0 (by omega)
      obtain ⟨gK2, eK, hRp⟩ := row_range hT.rK (by omega)
      injection eK with eK
      injection eK with eK
      subst eK
      have hpl : ps.length = n * 1 := hT.rK.1
      have hp1 := hT.ps_one
      have hwl : ws.length = l * 2 := by rw [← hl]; exact hT.rW.1
      have hw1 := hT.ws_one
      have hn4 : n = 4 := by omega
      have HT := hid hT
      have Hf := hid hf
      have HP1 := hid hP
      have HD40 := hid hD40
      have Hn := hid hn
      have Hl := hid hl
      have Hoff := hid hoff
      have Hli := hid hli
      have hn1000 : n ≤ 1000 := by omega
      have HK4 := hid hK4
      have HrW : Hid (wr.ownsRow 0 73 2 (.slice AW l cW) l ws) := hid (by rw [← hl]; exact hT.rW)
      have hcl0 := hcl
      clear HP hP hD hk hlt hk40 hD40 hT hf hfF hfB hn hl hoff hli hK4 hn4
      generalize wr = w0 at *
      go_upto_region 13 with (fail)
      refine region_spec2 14 122 (fun _ => false) [Is (Value.pointer (some ⟨q, 0, none⟩)), Is (Value.pointer (some ⟨q, 0, none⟩)), Is (Value.pointer (some ⟨q, 2, none⟩)), Is (Value.int .i64 f), Is (Value.pointer (some ⟨q, 0, none⟩)), Is (Value.pointer (some ⟨q, 0, none⟩)), Is (Value.pointer (some ⟨q, 3, none⟩)), Is (Value.bool off), Is (Value.pointer (some ⟨q, 0, none⟩)), Is (Value.pointer (some ⟨q, 0, none⟩)), Is (Value.pointer (some ⟨q, 4, none⟩)), Is (Value.int .i64 li), Is (Value.agg [Value.slice none 0 0, Value.slice none 0 0, Value.int .i64 f, Value.bool off, Value.int .i64 li].toArray), IsBlk w0.heap.size 53 [Value.slice none 0 0, Value.slice none 0 0, Value.int .i64 f, Value.bool off, Value.int .i64 li]] [50, 51, 52, 53, 54, 55, 56, 57, 58, 59, 60, 61, 62, 63] (by kernel_rfl) (by kernel_rfl) (by kernel_rfl) (Nat.le_of_eq rfl) (grows_cons (Is.grows _) (grows_cons (Is.grows _) (grows_cons (Is.grows _) (grows_cons (Is.grows _) (grows_cons (Is.grows _) (grows_cons (Is.grows _) (grows_cons (Is.grows _) (grows_cons (Is.grows _) (grows_cons (Is.grows _) (grows_cons (Is.grows _) (grows_cons (Is.grows _) (grows_cons (Is.grows _) (grows_cons (Is.grows _) (grows_cons (IsBlk.grows _ _ _) grows_nil))))))))))))))
        ⟨(step_ex _ rfl (.inl rfl) rfl (fun a ww hw hf hd => by
       have h9 : a.eval (.tmp 9) = Value.pointer (some ⟨q, 0, none⟩) := ((knows_out 9 (by kernel_rfl) rfl) : Knows _ _ _ _ _ _ 0 _ _) a ww hw hf hd
       revert h9
       generalize a.eval = ev
       intro h9
       unfold execOp
       simp only [h9]
       go_simp)),
         (step_ex _ rfl (.inl rfl) rfl (fun a ww hw hf hd => by
       have h50 : a.eval (.tmp 50) = Value.pointer (some ⟨q, 0, none⟩) := ((knows_in 0 50 (by decide) (by kernel_rfl) rfl rfl) : Knows _ _ _ _ _ _ 1 _ _) a ww hw hf hd
       revert h50
       generalize a.eval = ev
       intro h50
       unfold execOp
       simp only [h50]
       go_simp)),
         (step_ex _ rfl (.inl rfl) rfl (fun a ww hw hf hd => by
       have h51 : a.eval (.tmp 51) = Value.pointer (some ⟨q, 0, none⟩) := ((knows_in 1 51 (by decide) (by kernel_rfl) rfl rfl) : Knows _ _ _ _ _ _ 2 _ _) a ww hw hf hd
       revert h51
       generalize a.eval = ev
       intro h51
       unfold execOp
       simp only [h51]
       go_simp)),
         (step_ex _ rfl (.inl rfl) rfl (fun a ww hw hf hd => by
       have h52 : a.eval (.tmp 52) = Value.pointer (some ⟨q, 2, none⟩) := ((knows_in 2 52 (by decide) (by kernel_rfl) rfl rfl) : Knows _ _ _ _ _ _ 3 _ _) a ww hw hf hd
       have f0 : ww.cell? ⟨q, 2, none⟩ = some (Value.int .i64 f) := cellB r2 hw
       revert h52
       generalize a.eval = ev
       intro h52
       unfold execOp
       simp only [h52]
       go_simp)),
         (step_ex _ rfl (.inl rfl) rfl (fun a ww hw hf hd => by
       have h9 : a.eval (.tmp 9) = Value.pointer (some ⟨q, 0, none⟩) := ((knows_out 9 (by kernel_rfl) rfl) : Knows _ _ _ _ _ _ 4 _ _) a ww hw hf hd
       revert h9
       generalize a.eval = ev
       intro h9
       unfold execOp
       simp only [h9]
       go_simp)),
         (step_ex _ rfl (.inl rfl) rfl (fun a ww hw hf hd => by
       have h54 : a.eval (.tmp 54) = Value.pointer (some ⟨q, 0, none⟩) := ((knows_in 4 54 (by decide) (by kernel_rfl) rfl rfl) : Knows _ _ _ _ _ _ 5 _ _) a ww hw hf hd
       revert h54
       generalize a.eval = ev
       intro h54
       unfold execOp
       simp only [h54]
       go_simp)),
         (step_ex _ rfl (.inl rfl) rfl (fun a ww hw hf hd => by
       have h55 : a.eval (.tmp 55) = Value.pointer (some ⟨q, 0, none⟩) := ((knows_in 5 55 (by decide) (by kernel_rfl) rfl rfl) : Knows _ _ _ _ _ _ 6 _ _) a ww hw hf hd
       revert h55
       generalize a.eval = ev
       intro h55
       unfold execOp
       simp only [h55]
       go_simp)),
         (step_ex _ rfl (.inl rfl) rfl (fun a ww hw hf hd => by
       have h56 : a.eval (.tmp 56) = Value.pointer (some ⟨q, 3, none⟩) := ((knows_in 6 56 (by decide) (by kernel_rfl) rfl rfl) : Knows _ _ _ _ _ _ 7 _ _) a ww hw hf hd
       have f0 : ww.cell? ⟨q, 3, none⟩ = some (Value.bool off) := cellB r3 hw
       revert h56
       generalize a.eval = ev
       intro h56
       unfold execOp
       simp only [h56]
       go_simp)),
         (step_ex _ rfl (.inl rfl) rfl (fun a ww hw hf hd => by
       have h9 : a.eval (.tmp 9) = Value.pointer (some ⟨q, 0, none⟩) := ((knows_out 9 (by kernel_rfl) rfl) : Knows _ _ _ _ _ _ 8 _ _) a ww hw hf hd
       revert h9
       generalize a.eval = ev
       intro h9
       unfold execOp
       simp only [h9]
       go_simp)),
         (step_ex _ rfl (.inl rfl) rfl (fun a ww hw hf hd => by
       have h58 : a.eval (.tmp 58) = Value.pointer (some ⟨q, 0, none⟩) := ((knows_in 8 58 (by decide) (by kernel_rfl) rfl rfl) : Knows _ _ _ _ _ _ 9 _ _) a ww hw hf hd
       revert h58
       generalize a.eval = ev
       intro h58
       unfold execOp
       simp only [h58]
       go_simp)),
         (step_ex _ rfl (.inl rfl) rfl (fun a ww hw hf hd => by
       have h59 : a.eval (.tmp 59) = Value.pointer (some ⟨q, 0, none⟩) := ((knows_in 9 59 (by decide) (by kernel_rfl) rfl rfl) : Knows _ _ _ _ _ _ 10 _ _) a ww hw hf hd
       revert h59
       generalize a.eval = ev
       intro h59
       unfold execOp
       simp only [h59]
       go_simp)),
         (step_ex _ rfl (.inl rfl) rfl (fun a ww hw hf hd => by
       have h60 : a.eval (.tmp 60) = Value.pointer (some ⟨q, 4, none⟩) := ((knows_in 10 60 (by decide) (by kernel_rfl) rfl rfl) : Knows _ _ _ _ _ _ 11 _ _) a ww hw hf hd
       have f0 : ww.cell? ⟨q, 4, none⟩ = some (Value.int .i64 li) := cellB r4 hw
       revert h60
       generalize a.eval = ev
       intro h60
       unfold execOp
       simp only [h60]
       go_simp)),
         (step_buildP (pv := [(2, .int .i64 f), (3, .bool off), (4, .int .i64 li)]) rfl (.inl rfl) rfl (by kernel_rfl) rfl (parts234 (knows_in 3 53 (by decide) (by kernel_rfl) rfl rfl) (knows_in 7 57 (by decide) (by kernel_rfl) rfl rfl) (knows_in 11 61 (by decide) (by kernel_rfl) rfl rfl))),
         (step_boxB (.inl rfl) rfl rfl (knows_in 12 62 (by decide) (by kernel_rfl) rfl rfl)), trivial⟩ ?_
      intro val W1 hw hS _ _
      have e50 : val 50 = Value.pointer (some ⟨q, 0, none⟩) := hS 0 50 (by decide) rfl
      have e51 : val 51 = Value.pointer (some ⟨q, 0, none⟩) := hS 1 51 (by decide) rfl
      have e52 : val 52 = Value.pointer (some ⟨q, 2, none⟩) := hS 2 52 (by decide) rfl
      have e53 : val 53 = Value.int .i64 f := hS 3 53 (by decide) rfl
      have e54 : val 54 = Value.pointer (some ⟨q, 0, none⟩) := hS 4 54 (by decide) rfl
      have e55 : val 55 = Value.pointer (some ⟨q, 0, none⟩) := hS 5 55 (by decide) rfl
      have e56 : val 56 = Value.pointer (some ⟨q, 3, none⟩) := hS 6 56 (by decide) rfl
      have e57 : val 57 = Value.bool off := hS 7 57 (by decide) rfl
      have e58 : val 58 = Value.pointer (some ⟨q, 0, none⟩) := hS 8 58 (by decide) rfl
      have e59 : val 59 = Value.pointer (some ⟨q, 0, none⟩) := hS 9 59 (by decide) rfl
      have e60 : val 60 = Value.pointer (some ⟨q, 4, none⟩) := hS 10 60 (by decide) rfl
      have e61 : val 61 = Value.int .i64 li := hS 11 61 (by decide) rfl
      have e62 : val 62 = Value.agg [Value.slice none 0 0, Value.slice none 0 0, Value.int .i64 f, Value.bool off, Value.int .i64 li].toArray := hS 12 62 (by decide) rfl
      obtain ⟨qy, e63, hqy, hBy⟩ := hS 13 63 (by decide) rfl
      simp only [putVals, List.foldl_cons, List.foldl_nil, List.drop_succ_cons, List.drop_zero, Act.put, List.setIfInBounds_toArray, List.set_cons_succ, List.set_cons_zero, e50, e51, e52, e53, e54, e55, e56, e57, e58, e59, e60, e61, e62, e63]
      clear e63 e50 e51 e52 e53 e54 e55 e56 e57 e58 e59 e60 e61 e62 hS
      have hRp1 := hRp.next hw
      have s0 := cellB r0 hw
      have s1 := cellB r1 hw
      have hB01 : Below w0.heap.size w0 W1 := hw
      have hRp := hRp1
      clear hRp1 r0 r1 r2 r3 r4 hw
      go_upto_region 14 with (fail)
      refine region_evt 10 9 122 [false, true, true, true, true, true, true, true, true, false] [Is (Value.pointer (some ⟨qy, 0, none⟩)), Is (Value.pointer (some ⟨qy, 0, none⟩)), Is (Value.pointer (some ⟨qy, 0, none⟩)), Is (Value.pointer (some ⟨qy, 0, none⟩)), Is (Value.slice none 0 0), Is (Value.pointer (some ⟨q, 0, none⟩)), Is (Value.pointer (some ⟨q, 0, none⟩)), Is (Value.pointer (some ⟨q, 0, none⟩)), Is (Value.slice (some ⟨gK, 0, none⟩) n cK), (fun _ _ => True)] [64, 65, 66, 67, 68, 69, 70, 71, 72, 73] (AppM 32 1 n ps) (by kernel_rfl) (by kernel_rfl) (by kernel_rfl) (Nat.le_of_eq rfl) (grows_cons (Is.grows _) (grows_cons (Is.grows _) (grows_cons (Is.grows _) (grows_cons (Is.grows _) (grows_cons (Is.grows _) (grows_cons (Is.grows _) (grows_cons (Is.grows _) (grows_cons (Is.grows _) (grows_cons (Is.grows _) (grows_cons (fun _ _ _ _ _ => trivial) grows_nil))))))))))
        ⟨.inr (.inr ⟨rfl, pure_ex (Value.pointer (some ⟨qy, 0, none⟩)) rfl rfl (fun a w0 ww hw hf hd => by
       have h12 : a.eval (.tmp 12) = Value.pointer (some ⟨qy, 0, none⟩) := ((knows_out 12 (by kernel_rfl) rfl) : Knows _ _ _ _ _ _ 0 _ _) a w0 hw hf hd
       revert h12
       generalize a.eval = ev
       intro h12
       unfold execOp
       simp only [h12]
       go_simp)⟩),
         .inr (.inl ⟨rfl, step_ex _ rfl (.inl rfl) rfl (fun a ww hw hf hd => by
       have h12 : a.eval (.tmp 12) = Value.pointer (some ⟨qy, 0, none⟩) := ((knows_out 12 (by kernel_rfl) rfl) : Knows _ _ _ _ _ _ 1 _ _) a ww hw hf hd
       revert h12
       generalize a.eval = ev
       intro h12
       unfold execOp
       simp only [h12]
       go_simp)⟩),
         .inr (.inl ⟨rfl, step_ex _ rfl (.inl rfl) rfl (fun a ww hw hf hd => by
       have h65 : a.eval (.tmp 65) = Value.pointer (some ⟨qy, 0, none⟩) := ((knows_in 1 65 (by decide) (by kernel_rfl) rfl rfl) : Knows _ _ _ _ _ _ 2 _ _) a ww hw hf hd
       revert h65
       generalize a.eval = ev
       intro h65
       unfold execOp
       simp only [h65]
       go_simp)⟩),
         .inr (.inl ⟨rfl, step_ex _ rfl (.inl rfl) rfl (fun a ww hw hf hd => by
       have h66 : a.eval (.tmp 66) = Value.pointer (some ⟨qy, 0, none⟩) := ((knows_in 2 66 (by decide) (by kernel_rfl) rfl rfl) : Knows _ _ _ _ _ _ 3 _ _) a ww hw hf hd
       revert h66
       generalize a.eval = ev
       intro h66
       unfold execOp
       simp only [h66]
       go_simp)⟩),
         .inr (.inl ⟨rfl, step_ex _ rfl (.inl rfl) rfl (fun a ww hw hf hd => by
       have h67 : a.eval (.tmp 67) = Value.pointer (some ⟨qy, 0, none⟩) := ((knows_in 3 67 (by decide) (by kernel_rfl) rfl rfl) : Knows _ _ _ _ _ _ 4 _ _) a ww hw hf hd
       have f0 : ww.cell? ⟨qy, 0, none⟩ = some (Value.slice none 0 0) := (hBy.next hw).cell (i := 0) rfl
       revert h67
       generalize a.eval = ev
       intro h67
       unfold execOp
       simp only [h67]
       go_simp)⟩),
         .inr (.inl ⟨rfl, step_ex _ rfl (.inl rfl) rfl (fun a ww hw hf hd => by
       have h9 : a.eval (.tmp 9) = Value.pointer (some ⟨q, 0, none⟩) := ((knows_out 9 (by kernel_rfl) rfl) : Knows _ _ _ _ _ _ 5 _ _) a ww hw hf hd
       revert h9
       generalize a.eval = ev
       intro h9
       unfold execOp
       simp only [h9]
       go_simp)⟩),
         .inr (.inl ⟨rfl, step_ex _ rfl (.inl rfl) rfl (fun a ww hw hf hd => by
       have h69 : a.eval (.tmp 69) = Value.pointer (some ⟨q, 0, none⟩) := ((knows_in 5 69 (by decide) (by kernel_rfl) rfl rfl) : Knows _ _ _ _ _ _ 6 _ _) a ww hw hf hd
       revert h69
       generalize a.eval = ev
       intro h69
       unfold execOp
       simp only [h69]
       go_simp)⟩),
         .inr (.inl ⟨rfl, step_ex _ rfl (.inl rfl) rfl (fun a ww hw hf hd => by
       have h70 : a.eval (.tmp 70) = Value.pointer (some ⟨q, 0, none⟩) := ((knows_in 6 70 (by decide) (by kernel_rfl) rfl rfl) : Knows _ _ _ _ _ _ 7 _ _) a ww hw hf hd
       revert h70
       generalize a.eval = ev
       intro h70
       unfold execOp
       simp only [h70]
       go_simp)⟩),
         .inr (.inl ⟨rfl, step_ex _ rfl (.inl rfl) rfl (fun a ww hw hf hd => by
       have h71 : a.eval (.tmp 71) = Value.pointer (some ⟨q, 0, none⟩) := ((knows_in 7 71 (by decide) (by kernel_rfl) rfl rfl) : Knows _ _ _ _ _ _ 8 _ _) a ww hw hf hd
       have f0 : ww.cell? ⟨q, 0, none⟩ = some (Value.slice (some ⟨gK, 0, none⟩) n cK) := cellB s0 hw
       revert h71
       generalize a.eval = ev
       intro h71
       unfold execOp
       simp only [h71]
       go_simp)⟩),
         .inl rfl, trivial⟩ _ rfl rfl ?_ ?_
      · intro a ww hw hf hd
        have hl : a.eval (.tmp 68) = Value.slice none 0 0 := hd 4 68 (by decide) (by kernel_rfl) rfl
        have hs : a.eval (.tmp 72) = Value.slice (some ⟨gK, 0, none⟩) n cK := hd 8 72 (by decide) (by kernel_rfl) rfl
        exact evt_appM rfl rfl Try.underlying40 infSlb rfl (by decide) (by decide) hl hs (hRp.next hw) hpl hp1 hn1000
      intro val W2 W3 hw hS hR
      have e64 : val 64 = Value.pointer (some ⟨qy, 0, none⟩) := hS 0 64 (by decide) (by decide) rfl
      have e65 : val 65 = Value.pointer (some ⟨qy, 0, none⟩) := hS 1 65 (by decide) (by decide) rfl
      have e66 : val 66 = Value.pointer (some ⟨qy, 0, none⟩) := hS 2 66 (by decide) (by decide) rfl
      have e67 : val 67 = Value.pointer (some ⟨qy, 0, none⟩) := hS 3 67 (by decide) (by decide) rfl
      have e68 : val 68 = Value.slice none 0 0 := hS 4 68 (by decide) (by decide) rfl
      have e69 : val 69 = Value.pointer (some ⟨q, 0, none⟩) := hS 5 69 (by decide) (by decide) rfl
      have e70 : val 70 = Value.pointer (some ⟨q, 0, none⟩) := hS 6 70 (by decide) (by decide) rfl
      have e71 : val 71 = Value.pointer (some ⟨q, 0, none⟩) := hS 7 71 (by decide) (by decide) rfl
      have e72 : val 72 = Value.slice (some ⟨gK, 0, none⟩) n cK := hS 8 72 (by decide) (by decide) rfl
      have hR := hR 73 rfl
      obtain ⟨A73, c73, e73, hr73, hg73, ho73⟩ := hR
      rw [e73] at hr73 ho73
      simp only [putVals, List.foldl_cons, List.foldl_nil, List.drop_succ_cons, List.drop_zero, Act.put, List.setIfInBounds_toArray, List.set_cons_succ, List.set_cons_zero, e64, e65, e66, e67, e68, e69, e70, e71, e72, e73]
      clear e64 e65 e66 e67 e68 e69 e70 e71 e72 e73 hS
      have hBy3 := (hBy.next hw).grown hg73 (by simp)
      have x0 := hBy3.free 0
      have c0 := hBy3.cell (i := 0) rfl
      have hB03 : Below w0.heap.size w0 W3 := (hB01.trans (Below.mono hw hB01.size)).grown hg73 (Nat.le_trans hB01.size hw.size) (fun g e => by cases e)
      have hBy2 := hBy3.set 0 (.slice A73 n c73)
      have hr2 := row_setC hr73 hBy3 (by decide) 0 (.slice A73 n c73)
      have hB04 : Below w0.heap.size w0 (W3.setCell ⟨qy, 0, none⟩ (.slice A73 n c73)) := ((Chg.of hB03 (fun _ => False)).setCell (p := ⟨qy, 0, none⟩) (.inr hqy) (.slice A73 n c73)).below (Nat.le_refl _) (fun _ h => h.elim)
      have hlo73 : ∀ b, (Value.slice A73 0 0).ownBlock = some b → w0.heap.size ≤ b := fun b hb => by
        have := ho73 b (by rw [← hb]; exact own00 _ _ _)
        have h1 := hB01.size
        have h2 := hw.size
        omega
      obtain ⟨W4, hW4⟩ : ∃ W4, W3.setCell ⟨qy, 0, none⟩ (.slice A73 n c73) = W4 := ⟨_, rfl⟩
      rw [hW4] at hBy2 hr2 hB04
      have HW4 := hid hW4
      have s1 := (HT.out.next hB04).blk.cell (i := 1) rfl
      rw [Hl.out] at s1
      have hrW4 := row_next HrW.out hB04
      have Hlo73 := hid hlo73
      have Hr2 := hid hr2
      have HB04 := hid hB04
      clear hBy hBy3 hB01 hB03 hg73 hr73 ho73 hw hW4 s0 hRp hlo73 hr2 hB04
      go_upto_region 15 with (fail)
      rw [HW4.out]
      clear HW4 x0 c0
      have HC : Hid (∀ (A' : Option Addr) (c' : Nat) (W5 W6 : World), Below W4.heap.size W4 W5 → W5.grownBy W6 none → W6.ownsRow 0 73 2 (.slice A' l c') l ws → (∀ g, (Value.slice A' l c').ownBlock = some g → W5.heap.size ≤ g) → Blk W6 qy 53 [.slice A73 n c73, .slice none 0 0, .int .i64 f, .bool off, .int .i64 li] ∧ ∀ W7, W6.setCell ⟨qy, 1, none⟩ (.slice A' l c') = W7 → Below w0.heap.size w0 W7 ∧ RT B W7 qy n A73 c73 A' c' ps ws D.K D.W f off li ∧ ∀ b, footR qy A73 A' b → w0.heap.size ≤ b) := hid (fun A' c' W5 W6 h45 hg hr ho => by
        have hb6 := (hBy2.next h45).grown hg (by simp)
        have hB06 : Below w0.heap.size w0 W6 := (HB04.out.trans (Below.mono h45 HB04.out.size)).grown hg (Nat.le_trans HB04.out.size h45.size) (fun g e => by cases e)
        have hrp6 := (row_next Hr2.out h45).kept hg (by cases (Value.slice A73 n c73).ownBlock <;> simp)
        refine ⟨hb6, fun W7 hW7 => ?_⟩
        subst hW7
        have hB07 : Below w0.heap.size w0 (W6.setCell ⟨qy, 1, none⟩ (.slice A' l c')) := ((Chg.of hB06 (fun _ => False)).setCell (p := ⟨qy, 1, none⟩) (.inr hqy) (.slice A' l c')).below (Nat.le_refl _) (fun _ h => h.elim)
        have hlo : ∀ b, footR qy A73 A' b → w0.heap.size ≤ b := fun b hb => by
          rcases hb with rfl | h | h
          · exact hqy
          · exact Hlo73.out b h
          · have h1 := ho b (by rw [← h]; exact own00 _ _ _)
            have h2 := HB04.out.size
            have h3 := h45.size
            omega
        exact ⟨hB07, HT.out.copy hB07 (by rw [Hl.out]; exact hb6.set 1 _) (row_setC hrp6 hb6 (by decide) 1 _) (by rw [Hl.out]; exact row_setC hr hb6 (by decide) 1 _) hlo, hlo⟩)
      have HFin : Hid (∀ (A' : Option Addr) (c' : Nat) (W7 : World), Below w0.heap.size w0 W7 → RT B W7 qy n A73 c73 A' c' ps ws D.K D.W f off li → (∀ b, footR qy A73 A' b → w0.heap.size ≤ b) → Prs w.heap.size Fd Fx B W7 p q D ∧ Dok 40 D ∧ D.K.length = 4 ∧ RS (footR qy A73 A') B W7 qy D ∧ (∀ b, footR qy A73 A' b → w0.heap.size ≤ b ∧ b < W7.heap.size) ∧ (∀ b, Fd b ∨ Fx b ∨ B b → b < w0.heap.size) ∧ (∀ b, Fd b ∨ Fx b → ¬ B b) ∧ Below w.heap.size w W7) := hid (fun A' c' W7 hB hT7 hlo => by
        refine ⟨HP1.out.next hB, HD40.out, HK4.out, ⟨A73, c73, A', c', ps, ws, f, ?_, fun e => Hf.out e, fun _ h => h, fun b hb => (hT7.dis b hb).1⟩, fun b hb => ⟨hlo b hb, hT7.lt b hb⟩, fun b hb => (HP1.out.inn b hb).2, fun b hb hb2 => ?_, hcl0.trans (Below.mono hB hcl0.size)⟩
        · rw [Hn.out, Hoff.out, Hli.out]; exact hT7
        · rcases hb with h | h
          · exact (HP1.out.ap b h).2 hb2
          · obtain ⟨_, _, _, _, _, _, _, _, _, _, h9⟩ := HP1.out.rs
            exact h9 b hb2 h)
      cases AW with
      | none =>
        have l0 : l = 0 := by
          rcases hrW4.2 with ⟨_, h⟩ | ⟨g, cap, cur, hv, _⟩
          · exact h
          · injection hv with h; cases h
        subst l0
        obtain rfl : cW = 0 := by
          rcases hrW4.2 with ⟨h, _⟩ | ⟨g, cap, cur, hv, _⟩
          · injection h
          · injection hv with h; cases h
        have hws : ws = [] := List.eq_nil_of_length_eq_zero (by have := hrW4.1; omega)
        subst hws
        refine region_spec2 12 122 (fun _ => false) [Is (Value.pointer (some ⟨qy, 0, none⟩)), Is (Value.pointer (some ⟨qy, 0, none⟩)), Is (Value.pointer (some ⟨qy, 0, none⟩)), Is (Value.pointer (some ⟨qy, 1, none⟩)), Is (Value.slice none 0 0), Is (Value.pointer (some ⟨q, 0, none⟩)), Is (Value.pointer (some ⟨q, 0, none⟩)), Is (Value.pointer (some ⟨q, 1, none⟩)), Is (Value.slice none 0 0), Is (Value.slice none 0 0), Is (Value.pointer (some ⟨qy, 0, none⟩)), Is (Value.pointer (some ⟨qy, 1, none⟩))] [76, 77, 78, 79, 80, 81, 82, 83, 84, 85, 86, 87] (by kernel_rfl) (by kernel_rfl) (by kernel_rfl) (Nat.le_of_eq rfl) (grows_cons (Is.grows _) (grows_cons (Is.grows _) (grows_cons (Is.grows _) (grows_cons (Is.grows _) (grows_cons (Is.grows _) (grows_cons (Is.grows _) (grows_cons (Is.grows _) (grows_cons (Is.grows _) (grows_cons (Is.grows _) (grows_cons (Is.grows _) (grows_cons (Is.grows _) (grows_cons (Is.grows _) grows_nil))))))))))))
          ⟨(step_ex _ rfl (.inl rfl) rfl (fun a ww hw hf hd => by
         have h12 : a.eval (.tmp 12) = Value.pointer (some ⟨qy, 0, none⟩) := ((knows_out 12 (by kernel_rfl) rfl) : Knows _ _ _ _ _ _ 0 _ _) a ww hw hf hd
         revert h12
         generalize a.eval = ev
         intro h12
         unfold execOp
         simp only [h12]
         go_simp)),
           (step_ex _ rfl (.inl rfl) rfl (fun a ww hw hf hd => by
         have h12 : a.eval (.tmp 12) = Value.pointer (some ⟨qy, 0, none⟩) := ((knows_out 12 (by kernel_rfl) rfl) : Knows _ _ _ _ _ _ 1 _ _) a ww hw hf hd
         revert h12
         generalize a.eval = ev
         intro h12
         unfold execOp
         simp only [h12]
         go_simp)),
           (step_ex _ rfl (.inl rfl) rfl (fun a ww hw hf hd => by
         have h77 : a.eval (.tmp 77) = Value.pointer (some ⟨qy, 0, none⟩) := ((knows_in 1 77 (by decide) (by kernel_rfl) rfl rfl) : Knows _ _ _ _ _ _ 2 _ _) a ww hw hf hd
         revert h77
         generalize a.eval = ev
         intro h77
         unfold execOp
         simp only [h77]
         go_simp)),
           (step_ex _ rfl (.inl rfl) rfl (fun a ww hw hf hd => by
         have h78 : a.eval (.tmp 78) = Value.pointer (some ⟨qy, 0, none⟩) := ((knows_in 2 78 (by decide) (by kernel_rfl) rfl rfl) : Knows _ _ _ _ _ _ 3 _ _) a ww hw hf hd
         revert h78
         generalize a.eval = ev
         intro h78
         unfold execOp
         simp only [h78]
         go_simp)),
           (step_ex _ rfl (.inl rfl) rfl (fun a ww hw hf hd => by
         have h79 : a.eval (.tmp 79) = Value.pointer (some ⟨qy, 1, none⟩) := ((knows_in 3 79 (by decide) (by kernel_rfl) rfl rfl) : Knows _ _ _ _ _ _ 4 _ _) a ww hw hf hd
         have f0 : ww.cell? ⟨qy, 1, none⟩ = some (Value.slice none 0 0) := (hBy2.next hw).cell (i := 1) rfl
         revert h79
         generalize a.eval = ev
         intro h79
         unfold execOp
         simp only [h79]
         go_simp)),
           (step_ex _ rfl (.inl rfl) rfl (fun a ww hw hf hd => by
         have h9 : a.eval (.tmp 9) = Value.pointer (some ⟨q, 0, none⟩) := ((knows_out 9 (by kernel_rfl) rfl) : Knows _ _ _ _ _ _ 5 _ _) a ww hw hf hd
         revert h9
         generalize a.eval = ev
         intro h9
         unfold execOp
         simp only [h9]
         go_simp)),
           (step_ex _ rfl (.inl rfl) rfl (fun a ww hw hf hd => by
         have h81 : a.eval (.tmp 81) = Value.pointer (some ⟨q, 0, none⟩) := ((knows_in 5 81 (by decide) (by kernel_rfl) rfl rfl) : Knows _ _ _ _ _ _ 6 _ _) a ww hw hf hd
         revert h81
         generalize a.eval = ev
         intro h81
         unfold execOp
         simp only [h81]
         go_simp)),
           (step_ex _ rfl (.inl rfl) rfl (fun a ww hw hf hd => by
         have h82 : a.eval (.tmp 82) = Value.pointer (some ⟨q, 0, none⟩) := ((knows_in 6 82 (by decide) (by kernel_rfl) rfl rfl) : Knows _ _ _ _ _ _ 7 _ _) a ww hw hf hd
         revert h82
         generalize a.eval = ev
         intro h82
         unfold execOp
         simp only [h82]
         go_simp)),
           (step_ex _ rfl (.inl rfl) rfl (fun a ww hw hf hd => by
         have h83 : a.eval (.tmp 83) = Value.pointer (some ⟨q, 1, none⟩) := ((knows_in 7 83 (by decide) (by kernel_rfl) rfl rfl) : Knows _ _ _ _ _ _ 8 _ _) a ww hw hf hd
         have f0 : ww.cell? ⟨q, 1, none⟩ = some (Value.slice none 0 0) := cellB s1 hw
         revert h83
         generalize a.eval = ev
         intro h83
         unfold execOp
         simp only [h83]
         go_simp)),
           (step_ex _ rfl (.inl rfl) rfl (fun a ww hw hf hd => by
         have h80 : a.eval (.tmp 80) = Value.slice none 0 0 := ((knows_in 4 80 (by decide) (by kernel_rfl) rfl rfl) : Knows _ _ _ _ _ _ 9 _ _) a ww hw hf hd
         have h84 : a.eval (.tmp 84) = Value.slice none 0 0 := ((knows_in 8 84 (by decide) (by kernel_rfl) rfl rfl) : Knows _ _ _ _ _ _ 9 _ _) a ww hw hf hd
         revert h80 h84
         generalize a.eval = ev
         intro h80 h84
         unfold execOp
         simp only [h80, h84]
         go_simp)),
           (step_ex _ rfl (.inl rfl) rfl (fun a ww hw hf hd => by
         have h76 : a.eval (.tmp 76) = Value.pointer (some ⟨qy, 0, none⟩) := ((knows_in 0 76 (by decide) (by kernel_rfl) rfl rfl) : Knows _ _ _ _ _ _ 10 _ _) a ww hw hf hd
         revert h76
         generalize a.eval = ev
         intro h76
         unfold execOp
         simp only [h76]
         go_simp)),
           (step_ex _ rfl (.inl rfl) rfl (fun a ww hw hf hd => by
         have h86 : a.eval (.tmp 86) = Value.pointer (some ⟨qy, 0, none⟩) := ((knows_in 10 86 (by decide) (by kernel_rfl) rfl rfl) : Knows _ _ _ _ _ _ 11 _ _) a ww hw hf hd
         revert h86
         generalize a.eval = ev
         intro h86
         unfold execOp
         simp only [h86]
         go_simp)), trivial⟩ ?_
        intro val W5 hw hS _ _
        have e76 : val 76 = Value.pointer (some ⟨qy, 0, none⟩) := hS 0 76 (by decide) rfl
        have e77 : val 77 = Value.pointer (some ⟨qy, 0, none⟩) := hS 1 77 (by decide) rfl
        have e78 : val 78 = Value.pointer (some ⟨qy, 0, none⟩) := hS 2 78 (by decide) rfl
        have e79 : val 79 = Value.pointer (some ⟨qy, 1, none⟩) := hS 3 79 (by decide) rfl
        have e80 : val 80 = Value.slice none 0 0 := hS 4 80 (by decide) rfl
        have e81 : val 81 = Value.pointer (some ⟨q, 0, none⟩) := hS 5 81 (by decide) rfl
        have e82 : val 82 = Value.pointer (some ⟨q, 0, none⟩) := hS 6 82 (by decide) rfl
        have e83 : val 83 = Value.pointer (some ⟨q, 1, none⟩) := hS 7 83 (by decide) rfl
        have e84 : val 84 = Value.slice none 0 0 := hS 8 84 (by decide) rfl
        have e85 : val 85 = Value.slice none 0 0 := hS 9 85 (by decide) rfl
        have e86 : val 86 = Value.pointer (some ⟨qy, 0, none⟩) := hS 10 86 (by decide) rfl
        have e87 : val 87 = Value.pointer (some ⟨qy, 1, none⟩) := hS 11 87 (by decide) rfl
        simp only [putVals, List.foldl_cons, List.foldl_nil, List.drop_succ_cons, List.drop_zero, Act.put, List.setIfInBounds_toArray, List.set_cons_succ, List.set_cons_zero, e76, e77, e78, e79, e80, e81, e82, e83, e84, e85, e86, e87]
        clear e76 e77 e78 e79 e80 e81 e82 e83 e84 e85 e86 e87 hS
        obtain ⟨hb6, hfin⟩ := HC.out none 0 W5 W5 hw ⟨rfl, rfl, rfl, Nat.le_refl _, fun _ _ _ => rfl⟩ (World.ownsRow_nil _ _ _ _) (fun g e => by cases e)
        have x1 := hb6.free 1
        have c1 := hb6.cell (i := 1) rfl
        obtain ⟨W7, hW7⟩ : ∃ W7, W5.setCell ⟨qy, 1, none⟩ (.slice none 0 0) = W7 := ⟨_, rfl⟩
        obtain ⟨hB07, hT7, hlo⟩ := hfin W7 hW7
        have HF := hid (HFin.out _ _ _ hB07 hT7 hlo)
        have HW7 := hid hW7
        clear hb6 hfin hW7 hB07 hT7 hlo hw s1
        go_upto_region 16 with (fail)
        rw [HW7.out]
        clear HW7 x1 c1
        obtain ⟨hP7, hD7, hK7, hR7, hFy, hlt7, hnB, hB7⟩ := HF.out
        generalize hFyd : footR qy A73 none = Fy at hR7 hFy
        have HCl := dclone_any Fd p 40 D W7 hP7.ds hD7 (by decide) (by omega)
        have HP7 := hid hP7
        have HD7 := hid hD7
        have HR7 := hid hR7
        have HFy := hid hFy
        have Hlt7 := hid hlt7
        have HnB := hid hnB
        have HB7 := hid hB7
        clear HF HFin HC hP7 hD7 hK7 hR7 hFy hlt7 hnB hB7 hFyd
        go_upto_region 18 with (go_at_call 21; refine HCl.mono ?_; rintro e w8 ⟨rfl, hD8, hb8⟩)
        obtain ⟨pc, hpc⟩ : ∃ pc, W7.heap.size = pc := ⟨_, rfl⟩
        have hlow := HP7.out.low
        have hs8 := hb8.size
        have hw07 : ∀ b, Fd b ∨ Fx b ∨ B b → b < W7.heap.size := fun b hb => (HP7.out.inn b hb).2
        have hQ8 : Prs w.heap.size (fun b => pc ≤ b ∧ b < w8.heap.size) Fy B w8 pc qy D := by
          rw [hpc] at hD8 hlow hs8
          refine ⟨hD8, HR7.out.next hb8, fun b hb => ⟨fun e => ?_, fun e => ?_⟩, fun b hb => ?_, by omega⟩
          · have := (HFy.out b e).2; omega
          · have := hw07 b (.inr (.inr e)); omega
          · have hw0 := hcl0.size
            rcases hb with h | h | h
            · omega
            · have := HFy.out b h; omega
            · have := HP7.out.inn b (.inr (.inr h)); omega
        have hFar : Far Fd Fx B (fun b => pc ≤ b ∧ b < w8.heap.size) Fy B := by
          have hww := hw07
          rw [hpc] at hww
          refine ⟨fun b hb hc => ?_, fun b hc hb => ?_⟩
          · have h1 := hww b (hb.elim .inl (fun e => .inr (.inl e)))
            have h2 := Hlt7.out b (hb.elim .inl (fun e => .inr (.inl e)))
            rcases hc with h | h | h
            · omega
            · have := (HFy.out b h).1; omega
            · exact HnB.out b hb h
          · have h1 := hww b hb
            have h2 := Hlt7.out b hb
            rcases hc with h | h
            · omega
            · have := (HFy.out b h).1; omega
        have HB8 := hid (HB7.out.trans (Below.mono hb8 HP7.out.low))
        have HP8 := hid (HP7.out.next hb8)
        have HQ8 := hid hQ8
        have HFar := hid hFar
        rw [hpc]
        clear hD8 hb8 hpc hlow hs8 hw07 hQ8 hFar HCl HP7 HR7 HFy Hlt7 HnB HB7
        generalize (fun b => pc ≤ b ∧ b < w8.heap.size) = Fc at *
        generalize w8 = w9 at *
        go_loopw [92] (fun v wr => ∃ k : Nat, k ≤ n2 ∧ v = .int .i64 k ∧ Hid (∃ Fd Fx B1 D1, Prs w.heap.size Fd Fx B1 wr p q D1 ∧ Dok (40 + k) D1 ∧ Prs w.heap.size Fc Fy B wr pc qy D ∧ Far Fd Fx B1 Fc Fy B) ∧ Below w.heap.size w wr) (fun v _ => n2 - (intOf v).toNat)
        case atStart => exact ⟨0, Nat.zero_le _, rfl, hid ⟨_, _, _, _, HP8.out, HD7.out, HQ8.out, HFar.out⟩, HB8.out⟩
        case round =>
          clear HP8 HQ8 HFar HB8 hcl hcl0
          obtain ⟨k, hk, rfl, HP, hcl⟩ := hrel
          by_cases hlt : k < n2
          · skip
            obtain ⟨d, g, o, W, hd, rfl, r0, r1, r2, hW, hBk, hbW, hwf, hby, hnx⟩ := do_at HA2.out hcl Hn2.out hlt
            obtain ⟨Fd, Fx, B1, D1, hP, hD, hQ, hFar⟩ := HP.out
            have y0 := hBk.cell (i := 0) rfl
            have y1 := hBk.cell (i := 1) rfl
            have y2 := hBk.cell (i := 2) rfl
            have hx1 := HX2.out d (List.mem_of_getElem? hd)
            have hk40 := H402.out
            have HO := one_any w.heap.size Fd Fx B1 p q (40 + k) D1 d W (hP.next hbW) hD (by omega) hwf (hnx.stay (hbW.mono hcl.size)) hx1 hby
            unfold DoV.cells at HO
            have HW := hid hW
            have hkn : (k : Int) < n2 := by omega
            have hk0 : (0 : Int) ≤ k := by omega
            have HK := hid hlt
            have hclW := hcl.trans (Below.mono hbW hcl.size)
            have HbW := hid hbW
            have HP' := hid hP
            have HQW := hid (hQ.next hbW)
            have HFr := hid hFar
            clear HP hP hD hQ hFar
            clear hW hBk hd hlt hk hwf hby hnx hx1 hk40 hbW
            go_upto_region 20 with (fail)
            rw [HW.out]
            clear HW r0 r1 r2
            go_wp2_with (go_at_call 12; refine HO.mono ?_; rintro e w7 ⟨rfl, D', ⟨Fd', Fx', B', hP', hsub, hC'⟩, hD', hK'⟩)
            go_roundw
            case rel => exact ⟨k + 1, HK.out, by go_num, hid ⟨_, _, _, _, hP', hD', HQW.out.chg hC' (fun b hb e => HFr.out.1 b e hb), HFr.out.step hsub (fun b hb => (HQW.out.inn b hb).2)⟩, hclW.trans (hC'.below (Nat.le_trans hcl.size HbW.out.size) (fun b hb => (HP'.out.inn b (by rcases hb with h | h; exact .inl h; exact .inr (.inl h))).1))⟩
            case measure => have := HK.out; simp [intOf]; omega
          · have hge : ¬ (k : Int) < n2 := by omega
            obtain ⟨Fd, Fx, B1, D1, hP, hD, hQ, hFar⟩ := HP.out
            have hk40 := H402.out
            have HP8 := hid hP
            have HD8 : Hid (Dok 80 D1) := hid (hD.more (by omega))
            have HQ8 := hid hQ
            have HFar := hid hFar.flip
            have HB8 := hid hcl
            clear hP hD hQ hFar HP hlt hk hk40
            generalize wr = w10 at *
            go_upto_region 24 with (fail)
            clear hge
            go_loopw [104] (fun v wr => ∃ k : Nat, k ≤ n3 ∧ v = .int .i64 k ∧ Hid (∃ Fc Fy B2 D2, Prs w.heap.size Fc Fy B2 wr pc qy D2 ∧ Dok (40 + k) D2 ∧ Prs w.heap.size Fd Fx B1 wr p q D1 ∧ Far Fc Fy B2 Fd Fx B1) ∧ Below w.heap.size w wr) (fun v _ => n3 - (intOf v).toNat)
            case atStart => exact ⟨0, Nat.zero_le _, rfl, hid ⟨_, _, _, _, HQ8.out, HD7.out, HP8.out, HFar.out⟩, HB8.out⟩
            case round =>
              clear HP8 HQ8 HFar HB8 hcl
              obtain ⟨k, hk, rfl, HP, hcl⟩ := hrel
              by_cases hlt : k < n3
              · skip
                obtain ⟨d, g, o, W, hd, rfl, r0, r1, r2, hW, hBk, hbW, hwf, hby, hnx⟩ := do_at HA3.out hcl Hn3.out hlt
                obtain ⟨Fc, Fy, B2, D2, hP, hD, hQ, hFar⟩ := HP.out
                have y0 := hBk.cell (i := 0) rfl
                have y1 := hBk.cell (i := 1) rfl
                have y2 := hBk.cell (i := 2) rfl
                have hx1 := HX3.out d (List.mem_of_getElem? hd)
                have hk40 := H403.out
                have HO := one_any w.heap.size Fc Fy B2 pc qy (40 + k) D2 d W (hP.next hbW) hD (by omega) hwf (hnx.stay (hbW.mono hcl.size)) hx1 hby
                unfold DoV.cells at HO
                have HW := hid hW
                have hkn : (k : Int) < n3 := by omega
                have hk0 : (0 : Int) ≤ k := by omega
                have HK := hid hlt
                have hclW := hcl.trans (Below.mono hbW hcl.size)
                have HbW := hid hbW
                have HP' := hid hP
                have HQW := hid (hQ.next hbW)
                have HFr := hid hFar
                clear HP hP hD hQ hFar
                clear hW hBk hd hlt hk hwf hby hnx hx1 hk40 hbW
                go_upto_region 26 with (fail)
                rw [HW.out]
                clear HW r0 r1 r2
                go_wp2_with (go_at_call 12; refine HO.mono ?_; rintro e w7 ⟨rfl, D', ⟨Fd', Fx', B', hP', hsub, hC'⟩, hD', hK'⟩)
                go_roundw
                case rel => exact ⟨k + 1, HK.out, by go_num, hid ⟨_, _, _, _, hP', hD', HQW.out.chg hC' (fun b hb e => HFr.out.1 b e hb), HFr.out.step hsub (fun b hb => (HQW.out.inn b hb).2)⟩, hclW.trans (hC'.below (Nat.le_trans hcl.size HbW.out.size) (fun b hb => (HP'.out.inn b (by rcases hb with h | h; exact .inl h; exact .inr (.inl h))).1))⟩
                case measure => have := HK.out; simp [intOf]; omega
              · have hge : ¬ (k : Int) < n3 := by omega
                obtain ⟨Fc, Fy, B2, D2, hP, hD, hQ, hFar⟩ := HP.out
                have hk40 := H403.out
                have HW1 := whole_any w.heap.size Fd Fx B1 p q 80 D1 wr hQ HD8.out (by decide)
                have HW2 : Hid (∀ ww, Below wr.heap.size wr ww → Calls Try.prog 13 #[.pointer (some ⟨pc, 0, none⟩), .pointer (some ⟨qy, 0, none⟩)] ww fun e w' => e = .returned (.bool true) ∧ Below ww.heap.size ww w') := hid (fun ww hw => whole_any w.heap.size Fc Fy B2 pc qy (40 + k) D2 ww (hP.next hw) hD (by omega))
                clear hP hD hQ hFar HP hlt hk hk40
                go_wp2_with (first
                  | (go_at_call 13; refine (HW2.out _ hb11).mono ?_; rintro e w12 ⟨rfl, hb12⟩)
                  | (go_at_call 13; refine HW1.mono ?_; rintro e w11 ⟨rfl, hb11⟩))
                go_ret
                exact ⟨rfl, (hcl.trans (Below.mono hb11 hcl.size)).trans (Below.mono hb12 (Nat.le_trans hcl.size hb11.size))⟩
      | some ad =>
        obtain ⟨gW, hgW, hRw⟩ : ∃ gW, ad = ⟨gW, 0, none⟩ ∧ Rw W4 gW 0 ws := by
          rcases Nat.eq_zero_or_pos l with h0 | h0
          · rcases hrW4.2 with ⟨hv, _⟩ | ⟨g, cap, cur, hv, _⟩
            · injection hv with h; cases h
            · injection hv with h
              injection h with h
              refine ⟨g, h, fun i v hi => ?_⟩
              have := (List.getElem?_eq_some_iff.1 hi).1
              omega
          · obtain ⟨g, e, hr⟩ := row_range hrW4 h0
            injection e with e
            exact ⟨g, e, hr⟩
        subst hgW
        refine region_evt 10 9 122 [false, true, true, true, true, true, true, true, true, false] [Is (Value.pointer (some ⟨qy, 0, none⟩)), Is (Value.pointer (some ⟨qy, 0, none⟩)), Is (Value.pointer (some ⟨qy, 0, none⟩)), Is (Value.pointer (some ⟨qy, 1, none⟩)), Is (Value.slice none 0 0), Is (Value.pointer (some ⟨q, 0, none⟩)), Is (Value.pointer (some ⟨q, 0, none⟩)), Is (Value.pointer (some ⟨q, 1, none⟩)), Is (Value.slice (some ⟨gW, 0, none⟩) l cW), (fun _ _ => True)] [76, 77, 78, 79, 80, 81, 82, 83, 84, 85] (AppM 73 2 l ws) (by kernel_rfl) (by kernel_rfl) (by kernel_rfl) (Nat.le_of_eq rfl) (grows_cons (Is.grows _) (grows_cons (Is.grows _) (grows_cons (Is.grows _) (grows_cons (Is.grows _) (grows_cons (Is.grows _) (grows_cons (Is.grows _) (grows_cons (Is.grows _) (grows_cons (Is.grows _) (grows_cons (Is.grows _) (grows_cons (fun _ _ _ _ _ => trivial) grows_nil))))))))))
          ⟨.inr (.inr ⟨rfl, pure_ex (Value.pointer (some ⟨qy, 0, none⟩)) rfl rfl (fun a w0 ww hw hf hd => by
         have h12 : a.eval (.tmp 12) = Value.pointer (some ⟨qy, 0, none⟩) := ((knows_out 12 (by kernel_rfl) rfl) : Knows _ _ _ _ _ _ 0 _ _) a w0 hw hf hd
         revert h12
         generalize a.eval = ev
         intro h12
         unfold execOp
         simp only [h12]
         go_simp)⟩),
           .inr (.inl ⟨rfl, step_ex _ rfl (.inl rfl) rfl (fun a ww hw hf hd => by
         have h12 : a.eval (.tmp 12) = Value.pointer (some ⟨qy, 0, none⟩) := ((knows_out 12 (by kernel_rfl) rfl) : Knows _ _ _ _ _ _ 1 _ _) a ww hw hf hd
         revert h12
         generalize a.eval = ev
         intro h12
         unfold execOp
         simp only [h12]
         go_simp)⟩),
           .inr (.inl ⟨rfl, step_ex _ rfl (.inl rfl) rfl (fun a ww hw hf hd => by
         have h77 : a.eval (.tmp 77) = Value.pointer (some ⟨qy, 0, none⟩) := ((knows_in 1 77 (by decide) (by kernel_rfl) rfl rfl) : Knows _ _ _ _ _ _ 2 _ _) a ww hw hf hd
         revert h77
         generalize a.eval = ev
         intro h77
         unfold execOp
         simp only [h77]
         go_simp)⟩),
           .inr (.inl ⟨rfl, step_ex _ rfl (.inl rfl) rfl (fun a ww hw hf hd => by
         have h78 : a.eval (.tmp 78) = Value.pointer (some ⟨qy, 0, none⟩) := ((knows_in 2 78 (by decide) (by kernel_rfl) rfl rfl) : Knows _ _ _ _ _ _ 3 _ _) a ww hw hf hd
         revert h78
         generalize a.eval = ev
         intro h78
         unfold execOp
         simp only [h78]
         go_simp)⟩),
           .inr (.inl ⟨rfl, step_ex _ rfl (.inl rfl) rfl (fun a ww hw hf hd => by
         have h79 : a.eval (.tmp 79) = Value.pointer (some ⟨qy, 1, none⟩) := ((knows_in 3 79 (by decide) (by kernel_rfl) rfl rfl) : Knows _ _ _ _ _ _ 4 _ _) a ww hw hf hd
         have f0 : ww.cell? ⟨qy, 1, none⟩ = some (Value.slice none 0 0) := (hBy2.next hw).cell (i := 1) rfl
         revert h79
         generalize a.eval = ev
         intro h79
         unfold execOp
         simp only [h79]
         go_simp)⟩),
           .inr (.inl ⟨rfl, step_ex _ rfl (.inl rfl) rfl (fun a ww hw hf hd => by
         have h9 : a.eval (.tmp 9) = Value.pointer (some ⟨q, 0, none⟩) := ((knows_out 9 (by kernel_rfl) rfl) : Knows _ _ _ _ _ _ 5 _ _) a ww hw hf hd
         revert h9
         generalize a.eval = ev
         intro h9
         unfold execOp
         simp only [h9]
         go_simp)⟩),
           .inr (.inl ⟨rfl, step_ex _ rfl (.inl rfl) rfl (fun a ww hw hf hd => by
         have h81 : a.eval (.tmp 81) = Value.pointer (some ⟨q, 0, none⟩) := ((knows_in 5 81 (by decide) (by kernel_rfl) rfl rfl) : Knows _ _ _ _ _ _ 6 _ _) a ww hw hf hd
         revert h81
         generalize a.eval = ev
         intro h81
         unfold execOp
         simp only [h81]
         go_simp)⟩),
           .inr (.inl ⟨rfl, step_ex _ rfl (.inl rfl) rfl (fun a ww hw hf hd => by
         have h82 : a.eval (.tmp 82) = Value.pointer (some ⟨q, 0, none⟩) := ((knows_in 6 82 (by decide) (by kernel_rfl) rfl rfl) : Knows _ _ _ _ _ _ 7 _ _) a ww hw hf hd
         revert h82
         generalize a.eval = ev
         intro h82
         unfold execOp
         simp only [h82]
         go_simp)⟩),
           .inr (.inl ⟨rfl, step_ex _ rfl (.inl rfl) rfl (fun a ww hw hf hd => by
         have h83 : a.eval (.tmp 83) = Value.pointer (some ⟨q, 1, none⟩) := ((knows_in 7 83 (by decide) (by kernel_rfl) rfl rfl) : Knows _ _ _ _ _ _ 8 _ _) a ww hw hf hd
         have f0 : ww.cell? ⟨q, 1, none⟩ = some (Value.slice (some ⟨gW, 0, none⟩) l cW) := cellB s1 hw
         revert h83
         generalize a.eval = ev
         intro h83
         unfold execOp
         simp only [h83]
         go_simp)⟩),
           .inl rfl, trivial⟩ _ rfl rfl ?_ ?_
        · intro a ww hw hf hd
          have hl : a.eval (.tmp 80) = Value.slice none 0 0 := hd 4 80 (by decide) (by kernel_rfl) rfl
          have hs : a.eval (.tmp 84) = Value.slice (some ⟨gW, 0, none⟩) l cW := hd 8 84 (by decide) (by kernel_rfl) rfl
          exact evt_appM rfl rfl Try.underlying51 infRwb rfl (by decide) (by decide) hl hs (hRw.next hw) hwl hw1 (by omega)
        intro val W2 W3 hw hS hR
        have e76 : val 76 = Value.pointer (some ⟨qy, 0, none⟩) := hS 0 76 (by decide) (by decide) rfl
        have e77 : val 77 = Value.pointer (some ⟨qy, 0, none⟩) := hS 1 77 (by decide) (by decide) rfl
        have e78 : val 78 = Value.pointer (some ⟨qy, 0, none⟩) := hS 2 78 (by decide) (by decide) rfl
        have e79 : val 79 = Value.pointer (some ⟨qy, 1, none⟩) := hS 3 79 (by decide) (by decide) rfl
        have e80 : val 80 = Value.slice none 0 0 := hS 4 80 (by decide) (by decide) rfl
        have e81 : val 81 = Value.pointer (some ⟨q, 0, none⟩) := hS 5 81 (by decide) (by decide) rfl
        have e82 : val 82 = Value.pointer (some ⟨q, 0, none⟩) := hS 6 82 (by decide) (by decide) rfl
        have e83 : val 83 = Value.pointer (some ⟨q, 1, none⟩) := hS 7 83 (by decide) (by decide) rfl
        have e84 : val 84 = Value.slice (some ⟨gW, 0, none⟩) l cW := hS 8 84 (by decide) (by decide) rfl
        have hR := hR 85 rfl
        obtain ⟨A85, c85, e85, hr85, hg85, ho85⟩ := hR
        rw [e85] at hr85 ho85
        simp only [putVals, List.foldl_cons, List.foldl_nil, List.drop_succ_cons, List.drop_zero, Act.put, List.setIfInBounds_toArray, List.set_cons_succ, List.set_cons_zero, e76, e77, e78, e79, e80, e81, e82, e83, e84, e85]
        clear e76 e77 e78 e79 e80 e81 e82 e83 e84 e85 hS
        obtain ⟨hb6, hfin⟩ := HC.out A85 c85 W2 W3 hw hg85 hr85 ho85
        have x1 := hb6.free 1
        have c1 := hb6.cell (i := 1) rfl
        obtain ⟨W7, hW7⟩ : ∃ W7, W3.setCell ⟨qy, 1, none⟩ (.slice A85 l c85) = W7 := ⟨_, rfl⟩
        obtain ⟨hB07, hT7, hlo⟩ := hfin W7 hW7
        have HF := hid (HFin.out _ _ _ hB07 hT7 hlo)
        have HW7 := hid hW7
        clear hb6 hfin hW7 hB07 hT7 hlo hw s1
        go_upto_region 16 with (fail)
        rw [HW7.out]
        clear HW7 x1 c1
        obtain ⟨hP7, hD7, hK7, hR7, hFy, hlt7, hnB, hB7⟩ := HF.out
        generalize hFyd : footR qy A73 A85 = Fy at hR7 hFy
        have HCl := dclone_any Fd p 40 D W7 hP7.ds hD7 (by decide) (by omega)
        have HP7 := hid hP7
        have HD7 := hid hD7
        have HR7 := hid hR7
        have HFy := hid hFy
        have Hlt7 := hid hlt7
        have HnB := hid hnB
        have HB7 := hid hB7
        clear HF HFin HC hP7 hD7 hK7 hR7 hFy hlt7 hnB hB7 hFyd
        go_upto_region 18 with (go_at_call 21; refine HCl.mono ?_; rintro e w8 ⟨rfl, hD8, hb8⟩)
        obtain ⟨pc, hpc⟩ : ∃ pc, W7.heap.size = pc := ⟨_, rfl⟩
        have hlow := HP7.out.low
        have hs8 := hb8.size
        have hw07 : ∀ b, Fd b ∨ Fx b ∨ B b → b < W7.heap.size := fun b hb => (HP7.out.inn b hb).2
        have hQ8 : Prs w.heap.size (fun b => pc ≤ b ∧ b < w8.heap.size) Fy B w8 pc qy D := by
          rw [hpc] at hD8 hlow hs8
          refine ⟨hD8, HR7.out.next hb8, fun b hb => ⟨fun e => ?_, fun e => ?_⟩, fun b hb => ?_, by omega⟩
          · have := (HFy.out b e).2; omega
          · have := hw07 b (.inr (.inr e)); omega
          · have hw0 := hcl0.size
            rcases hb with h | h | h
            · omega
            · have := HFy.out b h; omega
            · have := HP7.out.inn b (.inr (.inr h)); omega
        have hFar : Far Fd Fx B (fun b => pc ≤ b ∧ b < w8.heap.size) Fy B := by
          have hww := hw07
          rw [hpc] at hww
          refine ⟨fun b hb hc => ?_, fun b hc hb => ?_⟩
          · have h1 := hww b (hb.elim .inl (fun e => .inr (.inl e)))
            have h2 := Hlt7.out b (hb.elim .inl (fun e => .inr (.inl e)))
            rcases hc with h | h | h
            · omega
            · have := (HFy.out b h).1; omega
            · exact HnB.out b hb h
          · have h1 := hww b hb
            have h2 := Hlt7.out b hb
            rcases hc with h | h
            · omega
            · have := (HFy.out b h).1; omega
        have HB8 := hid (HB7.out.trans (Below.mono hb8 HP7.out.low))
        have HP8 := hid (HP7.out.next hb8)
        have HQ8 := hid hQ8
        have HFar := hid hFar
        rw [hpc]
        clear hD8 hb8 hpc hlow hs8 hw07 hQ8 hFar HCl HP7 HR7 HFy Hlt7 HnB HB7
        generalize (fun b => pc ≤ b ∧ b < w8.heap.size) = Fc at *
        generalize w8 = w9 at *
        go_loopw [92] (fun v wr => ∃ k : Nat, k ≤ n2 ∧ v = .int .i64 k ∧ Hid (∃ Fd Fx B1 D1, Prs w.heap.size Fd Fx B1 wr p q D1 ∧ Dok (40 + k) D1 ∧ Prs w.heap.size Fc Fy B wr pc qy D ∧ Far Fd Fx B1 Fc Fy B) ∧ Below w.heap.size w wr) (fun v _ => n2 - (intOf v).toNat)
        case atStart => exact ⟨0, Nat.zero_le _, rfl, hid ⟨_, _, _, _, HP8.out, HD7.out, HQ8.out, HFar.out⟩, HB8.out⟩
        case round =>
          clear HP8 HQ8 HFar HB8 hcl hcl0
          obtain ⟨k, hk, rfl, HP, hcl⟩ := hrel
          by_cases hlt : k < n2
          · skip
            obtain ⟨d, g, o, W, hd, rfl, r0, r1, r2, hW, hBk, hbW, hwf, hby, hnx⟩ := do_at HA2.out hcl Hn2.out hlt
            obtain ⟨Fd, Fx, B1, D1, hP, hD, hQ, hFar⟩ := HP.out
            have y0 := hBk.cell (i := 0) rfl
            have y1 := hBk.cell (i := 1) rfl
            have y2 := hBk.cell (i := 2) rfl
            have hx1 := HX2.out d (List.mem_of_getElem? hd)
            have hk40 := H402.out
            have HO := one_any w.heap.size Fd Fx B1 p q (40 + k) D1 d W (hP.next hbW) hD (by omega) hwf (hnx.stay (hbW.mono hcl.size)) hx1 hby
            unfold DoV.cells at HO
            have HW := hid hW
            have hkn : (k : Int) < n2 := by omega
            have hk0 : (0 : Int) ≤ k := by omega
            have HK := hid hlt
            have hclW := hcl.trans (Below.mono hbW hcl.size)
            have HbW := hid hbW
            have HP' := hid hP
            have HQW := hid (hQ.next hbW)
            have HFr := hid hFar
            clear HP hP hD hQ hFar
            clear hW hBk hd hlt hk hwf hby hnx hx1 hk40 hbW
            go_upto_region 20 with (fail)
            rw [HW.out]
            clear HW r0 r1 r2
            go_wp2_with (go_at_call 12; refine HO.mono ?_; rintro e w7 ⟨rfl, D', ⟨Fd', Fx', B', hP', hsub, hC'⟩, hD', hK'⟩)
            go_roundw
            case rel => exact ⟨k + 1, HK.out, by go_num, hid ⟨_, _, _, _, hP', hD', HQW.out.chg hC' (fun b hb e => HFr.out.1 b e hb), HFr.out.step hsub (fun b hb => (HQW.out.inn b hb).2)⟩, hclW.trans (hC'.below (Nat.le_trans hcl.size HbW.out.size) (fun b hb => (HP'.out.inn b (by rcases hb with h | h; exact .inl h; exact .inr (.inl h))).1))⟩
            case measure => have := HK.out; simp [intOf]; omega
          · have hge : ¬ (k : Int) < n2 := by omega
            obtain ⟨Fd, Fx, B1, D1, hP, hD, hQ, hFar⟩ := HP.out
            have hk40 := H402.out
            have HP8 := hid hP
            have HD8 : Hid (Dok 80 D1) := hid (hD.more (by omega))
            have HQ8 := hid hQ
            have HFar := hid hFar.flip
            have HB8 := hid hcl
            clear hP hD hQ hFar HP hlt hk hk40
            generalize wr = w10 at *
            go_upto_region 24 with (fail)
            clear hge
            go_loopw [104] (fun v wr => ∃ k : Nat, k ≤ n3 ∧ v = .int .i64 k ∧ Hid (∃ Fc Fy B2 D2, Prs w.heap.size Fc Fy B2 wr pc qy D2 ∧ Dok (40 + k) D2 ∧ Prs w.heap.size Fd Fx B1 wr p q D1 ∧ Far Fc Fy B2 Fd Fx B1) ∧ Below w.heap.size w wr) (fun v _ => n3 - (intOf v).toNat)
            case atStart => exact ⟨0, Nat.zero_le _, rfl, hid ⟨_, _, _, _, HQ8.out, HD7.out, HP8.out, HFar.out⟩, HB8.out⟩
            case round =>
              clear HP8 HQ8 HFar HB8 hcl
              obtain ⟨k, hk, rfl, HP, hcl⟩ := hrel
              by_cases hlt : k < n3
              · skip
                obtain ⟨d, g, o, W, hd, rfl, r0, r1, r2, hW, hBk, hbW, hwf, hby, hnx⟩ := do_at HA3.out hcl Hn3.out hlt
                obtain ⟨Fc, Fy, B2, D2, hP, hD, hQ, hFar⟩ := HP.out
                have y0 := hBk.cell (i := 0) rfl
                have y1 := hBk.cell (i := 1) rfl
                have y2 := hBk.cell (i := 2) rfl
                have hx1 := HX3.out d (List.mem_of_getElem? hd)
                have hk40 := H403.out
                have HO := one_any w.heap.size Fc Fy B2 pc qy (40 + k) D2 d W (hP.next hbW) hD (by omega) hwf (hnx.stay (hbW.mono hcl.size)) hx1 hby
                unfold DoV.cells at HO
                have HW := hid hW
                have hkn : (k : Int) < n3 := by omega
                have hk0 : (0 : Int) ≤ k := by omega
                have HK := hid hlt
                have hclW := hcl.trans (Below.mono hbW hcl.size)
                have HbW := hid hbW
                have HP' := hid hP
                have HQW := hid (hQ.next hbW)
                have HFr := hid hFar
                clear HP hP hD hQ hFar
                clear hW hBk hd hlt hk hwf hby hnx hx1 hk40 hbW
                go_upto_region 26 with (fail)
                rw [HW.out]
                clear HW r0 r1 r2
                go_wp2_with (go_at_call 12; refine HO.mono ?_; rintro e w7 ⟨rfl, D', ⟨Fd', Fx', B', hP', hsub, hC'⟩, hD', hK'⟩)
                go_roundw
                case rel => exact ⟨k + 1, HK.out, by go_num, hid ⟨_, _, _, _, hP', hD', HQW.out.chg hC' (fun b hb e => HFr.out.1 b e hb), HFr.out.step hsub (fun b hb => (HQW.out.inn b hb).2)⟩, hclW.trans (hC'.below (Nat.le_trans hcl.size HbW.out.size) (fun b hb => (HP'.out.inn b (by rcases hb with h | h; exact .inl h; exact .inr (.inl h))).1))⟩
                case measure => have := HK.out; simp [intOf]; omega
              · have hge : ¬ (k : Int) < n3 := by omega
                obtain ⟨Fc, Fy, B2, D2, hP, hD, hQ, hFar⟩ := HP.out
                have hk40 := H403.out
                have HW1 := whole_any w.heap.size Fd Fx B1 p q 80 D1 wr hQ HD8.out (by decide)
                have HW2 : Hid (∀ ww, Below wr.heap.size wr ww → Calls Try.prog 13 #[.pointer (some ⟨pc, 0, none⟩), .pointer (some ⟨qy, 0, none⟩)] ww fun e w' => e = .returned (.bool true) ∧ Below ww.heap.size ww w') := hid (fun ww hw => whole_any w.heap.size Fc Fy B2 pc qy (40 + k) D2 ww (hP.next hw) hD (by omega))
                clear hP hD hQ hFar HP hlt hk hk40
                go_wp2_with (first
                  | (go_at_call 13; refine (HW2.out _ hb11).mono ?_; rintro e w12 ⟨rfl, hb12⟩)
                  | (go_at_call 13; refine HW1.mono ?_; rintro e w11 ⟨rfl, hb11⟩))
                go_ret
                exact ⟨rfl, (hcl.trans (Below.mono hb11 hcl.size)).trans (Below.mono hb12 (Nat.le_trans hcl.size hb11.size))⟩
theorem apart_any (n1 c1 : Nat) (A1 : Option Addr) (ds1 : List DoV) (n2 c2 : Nat) (A2 : Option Addr) (ds2 : List DoV) (n3 c3 : Nat) (A3 : Option Addr) (ds3 : List DoV) (w : World) (hn1 : ds1.length = n1) (hm1 : n1 ≤ 9223372036854775807) (hA1 : DoRow w.heap.size w A1 ds1) (hn2 : ds2.length = n2) (hm2 : n2 ≤ 9223372036854775807) (hA2 : DoRow w.heap.size w A2 ds2) (hn3 : ds3.length = n3) (hm3 : n3 ≤ 9223372036854775807) (hA3 : DoRow w.heap.size w A3 ds3) :
    Calls Try.prog 6 #[.slice A1 n1 c1, .slice A2 n2 c2, .slice A3 n3 c3] w fun e w' => e = .returned (.bool true) ∧ Below w.heap.size w w' := by
  obtain ⟨b1, hb1⟩ : ∃ b, b = decide ((∀ d ∈ ds1, d.x.length ≤ 100) ∧ n1 ≤ 40) := ⟨_, rfl⟩
  obtain ⟨b2, hb2⟩ : ∃ b, b = decide ((∀ d ∈ ds2, d.x.length ≤ 100) ∧ n2 ≤ 40) := ⟨_, rfl⟩
  obtain ⟨b3, hb3⟩ : ∃ b, b = decide ((∀ d ∈ ds3, d.x.length ≤ 100) ∧ n3 ≤ 40) := ⟨_, rfl⟩
  by_cases h : b1 = false ∨ b2 = false ∨ b3 = false
  · exact apart_few b1 b2 b3 n1 c1 A1 ds1 n2 c2 A2 ds2 n3 c3 A3 ds3 w hn1 hm1 hA1 hn2 hm2 hA2 hn3 hm3 hA3 (hid hb1) (hid hb2) (hid hb3) h
  · obtain rfl : b1 = true := by cases b1; exact absurd (.inl rfl) h; rfl
    obtain rfl : b2 = true := by cases b2; exact absurd (.inr (.inl rfl)) h; rfl
    obtain rfl : b3 = true := by cases b3; exact absurd (.inr (.inr rfl)) h; rfl
    exact apart_go n1 c1 A1 ds1 n2 c2 A2 ds2 n3 c3 A3 ds3 w hn1 hm1 hA1 hn2 hm2 hA2 hn3 hm3 hA3 (hid hb1) (hid hb2) (hid hb3)
end Go.Proofs.Ytdfalneiapeegaa
