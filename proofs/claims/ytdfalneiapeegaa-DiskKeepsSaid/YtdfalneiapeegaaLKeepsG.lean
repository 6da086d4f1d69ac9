/- What was flushed is there behind any crash. -/
import Derived.Test.YtdfalneiapeegaaLKeepsM
import Derived.Test.YtdfalneiapeegaaLOneA
namespace Go.Proofs.Ytdfalneiapeegaa
open Go Go.RowKit Go.Maps

set_option maxHeartbeats 4000000 in
theorem keeps_few (b1 b2 : Bool) (n1 c1 : Nat) (A1 : Option Addr) (ds1 : List DoV) (n2 c2 : Nat) (A2 : Option Addr) (ds2 : List DoV) (n3 c3 : Nat) (A3 : Option Addr) (xs3 : List Int) (w : World) (hn1 : ds1.length = n1) (hm1 : n1 ≤ 9223372036854775807) (hA1 : DoRow w.heap.size w A1 ds1) (hn2 : ds2.length = n2) (hm2 : n2 ≤ 9223372036854775807) (hA2 : DoRow w.heap.size w A2 ds2) (hn3 : xs3.length = n3) (hm3 : n3 ≤ 9223372036854775807) (Hb1 : Hid (b1 = decide ((∀ d ∈ ds1, d.x.length ≤ 100) ∧ n1 ≤ 40))) (Hb2 : Hid (b2 = decide ((∀ d ∈ ds2, d.x.length ≤ 100) ∧ n2 ≤ 40))) (hno : b1 = false ∨ b2 = false ∨ 100 < n3) :
    Calls Try.prog 4 #[.slice A1 n1 c1, .slice A2 n2 c2, .slice A3 n3 c3] w fun e w' => e = .returned (.bool true) ∧ Below w.heap.size w w' := by
  have HA1 := hid hA1
  have Hn1 := hid hn1
  have Hm1 := hid hm1
  have HA2 := hid hA2
  have Hn2 := hid hn2
  have Hm2 := hid hm2
  have Hn3 := hid hn3
  have hm39 : (n3 : Int) ≤ 9223372036854775807 := by omega
  clear hA1 hA2 hn1 hn2 hn3 hm1 hm2 hm3
  cases b1 with
  | false =>
    clear hno
    go_enter Try.func4, Try.ntmps4
    go_wp2_with (first
      | (go_at_call 10; refine (few_any w.heap.size n1 c1 A1 ds1 false _ Hn1.out Hm1.out (HA1.out.next hbX1) hbX1.size Hb1).mono ?_; rintro e w3 ⟨rfl, hf1⟩; have hbX2 : Below w.heap.size w w3 := hbX1.trans (Below.mono hf1 hbX1.size))
      | (go_at_call 7; refine (awake_any _).mono ?_; rintro e w2 ⟨rfl, hbX1⟩))
    go_ret
    exact ⟨rfl, hbX2⟩
  | true =>
    cases b2 with
    | false =>
      clear hno
      go_enter Try.func4, Try.ntmps4
      go_wp2_with (first
        | (go_at_call 10; refine (few_any w.heap.size n2 c2 A2 ds2 false _ Hn2.out Hm2.out (HA2.out.next hbX2) hbX2.size Hb2).mono ?_; rintro e w4 ⟨rfl, hf2⟩; have hbX3 : Below w.heap.size w w4 := hbX2.trans (Below.mono hf2 hbX2.size))
        | (go_at_call 10; refine (few_any w.heap.size n1 c1 A1 ds1 true _ Hn1.out Hm1.out (HA1.out.next hbX1) hbX1.size Hb1).mono ?_; rintro e w3 ⟨rfl, hf1⟩; have hbX2 : Below w.heap.size w w3 := hbX1.trans (Below.mono hf1 hbX1.size))
        | (go_at_call 7; refine (awake_any _).mono ?_; rintro e w2 ⟨rfl, hbX1⟩))
      go_ret
      exact ⟨rfl, hbX3⟩
    | true =>
      have h3 : 100 < n3 := by rcases hno with h | h | h; cases h; cases h; exact h
      have h3i : (100 : Int) < n3 := by omega
      have e3 : decide ((100 : Int) < n3) = true := decide_eq_true h3i
      clear hno h3
      go_enter Try.func4, Try.ntmps4
      go_wp2_with (first
        | (go_at_call 10; refine (few_any w.heap.size n2 c2 A2 ds2 true _ Hn2.out Hm2.out (HA2.out.next hbX2) hbX2.size Hb2).mono ?_; rintro e w4 ⟨rfl, hf2⟩; have hbX3 : Below w.heap.size w w4 := hbX2.trans (Below.mono hf2 hbX2.size))
        | (go_at_call 10; refine (few_any w.heap.size n1 c1 A1 ds1 true _ Hn1.out Hm1.out (HA1.out.next hbX1) hbX1.size Hb1).mono ?_; rintro e w3 ⟨rfl, hf1⟩; have hbX2 : Below w.heap.size w w3 := hbX1.trans (Below.mono hf1 hbX1.size))
        | (go_at_call 7; refine (awake_any _).mono ?_; rintro e w2 ⟨rfl, hbX1⟩))
      go_ret
      exact ⟨rfl, hbX3⟩
theorem dl_new8 {lo : Nat} (w : World) (h : lo ≤ w.heap.size) : Calls Try.prog 8 #[.int .i64 8] w fun e w' => e = .returned (.tuple #[.pointer (some ⟨w.heap.size + 2, 0, none⟩), .int .i64 0]) ∧ DL lo w' (w.heap.size + 2) (newD 8) ∧ Below w.heap.size w w' :=
  (dnew_any 8 w (by decide) (by decide)).mono fun e w' ⟨he, h2, hb⟩ => ⟨he, ⟨h2.sub (fun b _ hb => Nat.le_trans h hb.1), Nat.le_trans h hb.size⟩, hb⟩
theorem newD_calm (n : Nat) : Calm (newD n) := ⟨rfl, rfl⟩
theorem calm_step {m : Nat} {D : DK} (h : Calm D ∧ Dok m D ∧ D.K.length = 8) (n : Int) (x : List Int) : Calm (writeR D n x).2 ∧ Dok (m + 1) (writeR D n x).2 ∧ (writeR D n x).2.K.length = 8 :=
  ⟨(calm_any h.1 n x).1, h.2.1.write n x, by rw [(calm_any h.1 n x).2.1]; exact h.2.2⟩
set_option maxRecDepth 50000 in
set_option maxHeartbeats 16000000 in
theorem keeps_go (n1 c1 : Nat) (A1 : Option Addr) (ds1 : List DoV) (n2 c2 : Nat) (A2 : Option Addr) (ds2 : List DoV) (n3 c3 : Nat) (A3 : Option Addr) (xs3 : List Int) (w : World) (hn1 : ds1.length = n1) (hm1 : n1 ≤ 9223372036854775807) (hA1 : DoRow w.heap.size w A1 ds1) (hn2 : ds2.length = n2) (hm2 : n2 ≤ 9223372036854775807) (hA2 : DoRow w.heap.size w A2 ds2) (hn3 : xs3.length = n3) (hm3 : n3 ≤ 9223372036854775807) (hA3 : NumsD w.heap.size w .u8 A3 xs3) (hx3 : Byts xs3) (h100 : n3 ≤ 100) (Hb1 : Hid (true = decide ((∀ d ∈ ds1, d.x.length ≤ 100) ∧ n1 ≤ 40))) (Hb2 : Hid (true = decide ((∀ d ∈ ds2, d.x.length ≤ 100) ∧ n2 ≤ 40))) :
    Calls Try.prog 4 #[.slice A1 n1 c1, .slice A2 n2 c2, .slice A3 n3 c3] w fun e w' => e = .returned (.bool true) ∧ Below w.heap.size w w' := by
  have hbd1 := of_decide_eq_true Hb1.out.symm
  have HX1 := hid hbd1.1
  have H401 := hid hbd1.2
  have hi1 : (n1 : Int) ≤ 40 := by have := hbd1.2; omega
  have hbd2 := of_decide_eq_true Hb2.out.symm
  have HX2 := hid hbd2.1
  have H402 := hid hbd2.2
  have hi2 : (n2 : Int) ≤ 40 := by have := hbd2.2; omega
  have HA1 := hid hA1
  have Hn1 := hid hn1
  have Hm1 := hid hm1
  have HA2 := hid hA2
  have Hn2 := hid hn2
  have Hm2 := hid hm2
  have Hn3 := hid hn3
  have hm39 : (n3 : Int) ≤ 9223372036854775807 := by omega
  clear hA1 hA2 hn1 hn2 hn3 hm1 hm2 hm3
  have HA3 := hid hA3
  have HX3 := hid hx3
  have h3i : ¬ (100 : Int) < n3 := by omega
  have e3 : decide ((100 : Int) < n3) = false := decide_eq_false h3i
  have h100i : (n3 : Int) ≤ 100 := by omega
  clear hA3 hx3 h100 hbd1 hbd2 hm39
  go_enter Try.func4, Try.ntmps4
  go_upto_region 7 with (first
    | (go_at_call 8; refine (dl_new8 _ hbX3.size).mono ?_; rintro e w6 ⟨rfl, hD6, hb6⟩)
    | (go_at_call 10; refine (few_any w.heap.size n2 c2 A2 ds2 true _ Hn2.out Hm2.out (HA2.out.next hbX2) hbX2.size Hb2).mono ?_; rintro e w4 ⟨rfl, hf2⟩; have hbX3 : Below w.heap.size w w4 := hbX2.trans (Below.mono hf2 hbX2.size))
    | (go_at_call 10; refine (few_any w.heap.size n1 c1 A1 ds1 true _ Hn1.out Hm1.out (HA1.out.next hbX1) hbX1.size Hb1).mono ?_; rintro e w3 ⟨rfl, hf1⟩; have hbX2 : Below w.heap.size w w3 := hbX1.trans (Below.mono hf1 hbX1.size))
    | (go_at_call 7; refine (awake_any _).mono ?_; rintro e w2 ⟨rfl, hbX1⟩))
  have HB0 := hid (hbX3.trans (Below.mono hb6 hbX3.size))
  obtain ⟨p, hp⟩ : ∃ p, w4.heap.size + 2 = p := ⟨_, rfl⟩
  rw [hp] at hD6
  rw [hp]
  have HD0 := hid hD6
  have HC0 := hid (And.intro (newD_calm 8) (And.intro (newD_ok 8 (by decide)) (show (newD 8).K.length = 8 from rfl)))
  clear hbX1 hbX2 hbX3 hf1 hf2 hb6 hD6 hp Hb1 Hb2 e3 h3i
  generalize w6 = w0 at *
  go_loopw [47] (fun v wr => ∃ k : Nat, k ≤ n1 ∧ v = .int .i64 k ∧ Hid (∃ D, DL w.heap.size wr p D ∧ Calm D ∧ Dok k D ∧ D.K.length = 8) ∧ Below w.heap.size w wr) (fun v _ => n1 - (intOf v).toNat)
  case atStart => exact ⟨0, Nat.zero_le _, rfl, hid ⟨_, HD0.out, HC0.out⟩, HB0.out⟩
  case round =>
    clear HD0 HC0 HB0
    obtain ⟨k, hk, rfl, HP, hcl⟩ := hrel
    by_cases hlt : k < n1
    · skip
      obtain ⟨d, g, o, W, hd, rfl, r0, r1, r2, hW, hBk, hbW, hwf, hby, hnx⟩ := do_at HA1.out hcl Hn1.out hlt
      obtain ⟨D, hD, hCD⟩ := HP.out
      have y1 := hBk.cell (i := 1) rfl
      have y2 := hBk.cell (i := 2) rfl
      obtain ⟨e0, D1, he⟩ : ∃ e0 D1, writeR D d.num d.x = (e0, D1) := ⟨_, _, rfl⟩
      have hC1 := calm_step hCD d.num d.x
      rw [he] at hC1
      have HC1 := hid hC1
      have hnW := hnx.stay (hbW.mono hcl.size)
      have hk40 := H401.out
      have HWr := dl_write (hD.next hbW) hCD.2.1 (by omega) d.num (c := d.c) (hnW.nums (Nat.le_trans hcl.size hbW.size)) rfl he
      have HW := hid hW
      have hkn : (k : Int) < n1 := by omega
      have hk0 : (0 : Int) ≤ k := by omega
      have HK := hid hlt
      have hclW := hcl.trans (Below.mono hbW hcl.size)
      clear HP hD hCD hC1 he hnW
      clear hW hBk hd hlt hk hwf hby hnx hk40 hbW
      go_upto_region 9 with (fail)
      rw [HW.out]
      clear HW r0 r1 r2
      go_wp2_with (go_at_call 14; refine HWr.mono ?_; rintro e w7 ⟨rfl, hD7, hb7⟩)
      go_roundw
      case rel => exact ⟨k + 1, HK.out, by go_num, hid ⟨_, hD7, HC1.out⟩, hclW.trans hb7⟩
      case measure => have := HK.out; simp [intOf]; omega
    · have hge : ¬ (k : Int) < n1 := by omega
      obtain ⟨D, hD, hCD⟩ := HP.out
      have hk40 := H401.out
      have hfl := calm_flush hCD.1
      have hok := hCD.2.1.flush
      rw [hfl] at hok
      have HF := dl_flush hD hCD.2.1 (by omega) hfl
      have HK8 : Hid ((pres D.K D.W).length = 8) := hid (by rw [pres_length]; exact hCD.2.2)
      have HOK : Hid (Dok 40 ⟨pres D.K D.W, [], -1, false, D.li⟩) := hid (hok.more (by omega))
      have HC8 : Hid (Calm ⟨pres D.K D.W, [], -1, false, D.li⟩) := hid ⟨rfl, rfl⟩
      have HB8 := hid hcl
      clear HP hD hCD hk hlt hk40 hfl hok hcl
      generalize pres D.K D.W = K at *
      generalize D.li = li at *
      go_upto_region 13 with (first
        | (go_at_call 16; refine (dl_wait hD8 (n := 0) rfl).mono ?_; rintro e w8' ⟨rfl, rfl⟩)
        | (go_at_call 15; refine HF.mono ?_; rintro e w8 ⟨rfl, hD8, hb8⟩))
      go_upto_region 15 with (fail)
      obtain ⟨W9, hW9⟩ : ∃ W9, w8.alloc (.cells #[.slice none 0 0, .slice none 0 0, .slice none 0 0, .slice none 0 0, .slice none 0 0, .slice none 0 0, .slice none 0 0, .slice none 0 0] 41) = W9 := ⟨_, rfl⟩
      have hMY : MY (fun b => w.heap.size ≤ b ∧ b < w8.heap.size) (fun b => b = w8.heap.size) w.heap.size W9 w8.heap.size nil8 (mayK K 0) := by rw [← hW9]; exact my_new K w8 hD8.2
      have hDS : DS (fun b => w.heap.size ≤ b ∧ b < w8.heap.size) W9 p ⟨K, [], -1, false, li⟩ := by rw [← hW9]; exact hD8.near.next (below_new w8 _)
      have hB9 : Below w.heap.size w W9 := by rw [← hW9]; exact (HB8.out.trans hb8).trans (Below.mono (below_new w8 _) hD8.2)
      rw [hW9]
      obtain ⟨z, hz⟩ : ∃ z, w8.heap.size = z := ⟨_, rfl⟩
      rw [hz] at hMY hDS ⊢
      have HP9 : Hid ((∃ R mv, MY (fun b => w.heap.size ≤ b ∧ b < z) R w.heap.size W9 z mv (mayK K 0)) ∧ DS (fun b => w.heap.size ≤ b ∧ b < z) W9 p ⟨K, [], -1, false, li⟩) := hid ⟨⟨_, _, hMY⟩, hDS⟩
      have HB9 := hid hB9
      clear hW9 hMY hDS hB9 hz HB8 hb8 hD8 HF
      generalize W9 = w9 at *
      go_loopw [66] (fun v wr => ∃ j : Nat, j ≤ 8 ∧ v = .int .i64 j ∧ Hid ((∃ R mv, MY (fun b => w.heap.size ≤ b ∧ b < z) R w.heap.size wr z mv (mayK K j)) ∧ DS (fun b => w.heap.size ≤ b ∧ b < z) wr p ⟨K, [], -1, false, li⟩) ∧ Below w.heap.size w wr) (fun v _ => 8 - (intOf v).toNat)
      case atStart => exact ⟨0, Nat.zero_le _, rfl, HP9, HB9.out⟩
      case round =>
        clear HP9 HB9
        obtain ⟨j, hj, rfl, HP, hcl⟩ := hrel
        by_cases hlt : j < 8
        · skip
          obtain ⟨⟨R, mv, hMY⟩, hDS⟩ := HP.out
          obtain ⟨s, hs⟩ : ∃ s, K[j]? = some s := ⟨_, List.getElem?_eq_getElem (by rw [HK8.out]; exact hlt)⟩
          have hs64 : s.length = 64 := HOK.out.sK s (List.mem_of_getElem? hs)
          have hrd : readR ⟨K, [], -1, false, li⟩ (j : Nat) = (0, s) := calm_read HC8.out (k := j) hs
          have HR := ds_read hDS HOK.out j hrd hs64
          have HJ := hid hlt
          have HMY := hid hMY
          have HDS := hid hDS
          have Hs := hid hs
          have H64 := hid hs64
          have hj8 : (j : Int) < 8 := by omega
          have hj0 : (0 : Int) ≤ j := by omega
          clear HP hMY hDS hs hs64 hrd hlt hj
          go_upto_region 20 with (go_at_call 17; refine HR.mono ?_; rintro e w3 ⟨⟨B3, c3, rfl, hF3⟩, hb3⟩)
          have hs3 := hb3.size
          have hzl := (HMY.out.inR z HMY.out.rma).2.1
          obtain ⟨W4, old, hW4, hc4, hf4, hput⟩ := my_lit (c := c3) (HMY.out.next hb3) (HDS.out.next hb3) (Nat.le_trans hcl.size hs3) (fun b hb => by have h : b < z := hb.2; omega) HJ.out H64.out (hF3.toS fun b h1 h2 => ⟨h2, fun e => by have h : b < z := e.2; omega, fun e => by have := (HMY.out.inR b e).2.1; omega⟩)
          subst hW4
          obtain ⟨W5, hW5⟩ : ∃ W5, World.setCell (w3.alloc (.cells #[.slice B3 64 c3] 32)) ⟨z, j, none⟩ (.slice (some ⟨w3.heap.size, 0, none⟩) 1 1) = W5 := ⟨_, rfl⟩
          obtain ⟨hM5, hD5, hb5⟩ := hput W5 hW5
          have eM : (mayK K j).set j [s] = mayK K (j + 1) := by rw [← mayK_set K HJ.out, getD_of Hs.out]
          rw [eM] at hM5
          have HP5 := hid (And.intro hM5 hD5)
          have HB5 := hid ((hcl.trans (Below.mono hb3 hcl.size)).trans hb5)
          have HW5 := hid hW5
          clear hput hW5 hM5 hD5 hb5 eM HMY HDS Hs H64 hF3 hb3 hs3 hzl HR
          go_upto_region 21 with (fail)
          rw [HW5.out]
          clear HW5 hc4 hf4
          go_wp2
          go_roundw
          case rel => exact ⟨j + 1, HJ.out, by go_num, HP5, HB5.out⟩
          case measure => have := HJ.out; simp [intOf]; omega
        · have hge8 : ¬ (j : Int) < 8 := by omega
          have ej : j = 8 := by omega
          obtain ⟨⟨R, mv, hMY⟩, hDS⟩ := HP.out
          rw [ej, mayK_all] at hMY
          clear ej
          have hzl := (hMY.inR z hMY.rma).2.1
          have HP0 : Hid (∃ F R mv D, MY F R w.heap.size wr z mv (mays D.K D.W) ∧ DS F wr p D ∧ (∀ b, F b → w.heap.size ≤ b ∧ b < wr.heap.size) ∧ Calm D ∧ Dok (40 + 0) D ∧ D.K.length = 8) := hid ⟨_, R, mv, _, hMY, hDS, fun b hb => ⟨hb.1, by have h : b < z := hb.2; omega⟩, HC8.out, HOK.out, HK8.out⟩
          have HB0 := hid hcl
          clear HP hMY hDS hzl hcl hlt hj HK8 HOK HC8
          generalize wr = w9 at *
          go_upto_region 23 with (fail)
          go_loopw [84] (fun v wr => ∃ k : Nat, k ≤ n2 ∧ v = .int .i64 k ∧ Hid (∃ F R mv D, MY F R w.heap.size wr z mv (mays D.K D.W) ∧ DS F wr p D ∧ (∀ b, F b → w.heap.size ≤ b ∧ b < wr.heap.size) ∧ Calm D ∧ Dok (40 + k) D ∧ D.K.length = 8) ∧ Below w.heap.size w wr) (fun v _ => n2 - (intOf v).toNat)
          case atStart => exact ⟨0, Nat.zero_le _, rfl, HP0, HB0.out⟩
          case round =>
            clear HP0 HB0
            obtain ⟨k, hk, rfl, HP, hcl⟩ := hrel
            by_cases hlt : k < n2
            · skip
              obtain ⟨d, g, o, W, hd, rfl, r0, r1, r2, hW, hBk, hbW, hwf, hby, hnx⟩ := do_at HA2.out hcl Hn2.out hlt
              obtain ⟨F, R, mv, D, hMY, hDS, hF, hCD⟩ := HP.out
              have y1 := hBk.cell (i := 1) rfl
              have y2 := hBk.cell (i := 2) rfl
              have hsW := hbW.size
              have hnW : NumsD w.heap.size W .u8 d.A d.x := hnx.stay (hbW.mono hcl.size)
              have hk40 := H402.out
              have hMW := hMY.next hbW
              have hDW := hDS.next hbW
              have HW := hid hW
              have hkn : (k : Int) < n2 := by omega
              have hk0 : (0 : Int) ≤ k := by omega
              have HK := hid hlt
              have hclW := hcl.trans (Below.mono hbW hcl.size)
              by_cases hno : (d.num < 0 ∨ (D.K.length : Int) ≤ d.num) ∨ d.x.length ≠ 64
              · obtain ⟨er, her, he⟩ := calm_no hCD.1 (x := d.x) hno
                have HWr := dwrite_len F p (40 + k) d.x.length D d.num d.A d.c d.x W hDW hCD.2.1 (by omega) (hnW.nums (Nat.le_trans hcl.size hsW)) rfl
                rw [he] at HWr
                have e94 : (er == 0) = false := beq_eq_false_iff_ne.2 her
                have HMW := hid hMW
                have HF := hid hF
                have HCD := hid hCD
                have hsW' := hid hsW
                clear HP hMY hDS hF hCD hMW hDW hnW he hno
                clear hW hBk hd hlt hk hwf hby hnx hk40 hbW hsW
                go_upto_region 25 with (fail)
                rw [HW.out]
                clear HW r0 r1 r2
                go_wp2_with (go_at_call 14; refine HWr.mono ?_; rintro e w7 ⟨rfl, hD7, hc7⟩)
                go_roundw
                case rel => exact ⟨k + 1, HK.out, by go_num, hid ⟨_, R, mv, D, HMW.out.chg hc7 (fun b hb => hb) (fun b hb => hb.imp id (fun h => h.1)), hD7, fun b hb => by
                  rcases hb with h | h
                  · have := HF.out b h; have := hsW'.out; have := hc7.size; omega
                  · have := hclW.size; omega, HCD.out.1, HCD.out.2.1.more (by omega), HCD.out.2.2⟩, hclW.trans (hc7.below hclW.size (fun b hb => (HF.out b hb).1))⟩
                case measure => have := HK.out; simp [intOf]; omega
              · have h1 : ¬ (d.num < 0 ∨ (D.K.length : Int) ≤ d.num) := fun e => hno (.inl e)
                have h64 : d.x.length = 64 := Decidable.byContradiction fun e => hno (.inr e)
                obtain ⟨N, hN⟩ : ∃ N : Nat, d.num = (N : Int) := ⟨d.num.toNat, by omega⟩
                have hNl : N < 8 := by have := hCD.2.2; omega
                have HRw : Hid (∀ b, R b → b < wr.heap.size) := hid (fun b hb => (hMY.inR b hb).2.1)
                have he := calm_ok hCD.1 h1 h64
                rw [hN] at he y1
                rw [h64] at y2
                have hte : (N : Int).toNat = N := rfl
                rw [hte] at he
                have hC1 := calm_step hCD (N : Int) d.x
                rw [he] at hC1
                have HWr := dwrite_len F p (40 + k) 64 D (N : Int) d.A d.c d.x W hDW hCD.2.1 (by omega) (hnW.nums (Nat.le_trans hcl.size hsW)) h64
                rw [he] at HWr
                obtain ⟨xA, hxA⟩ : ∃ xA, d.A = xA := ⟨_, rfl⟩
                obtain ⟨xc, hxc⟩ : ∃ xc, d.c = xc := ⟨_, rfl⟩
                obtain ⟨bx, hbx⟩ : ∃ bx, wr.heap.size = bx := ⟨_, rfl⟩
                have HMW := hid hMW
                have HF := hid hF
                have HC1 := hid hC1
                have HW1 := hid hCD.2.1.w1
                have hsW' := hid hsW
                have HnW := hid hnW
                have HN8 := hid hNl
                have H64 := hid h64
                have hN0 : (0 : Int) ≤ N := by omega
                have hN8 : (N : Int) < 8 := by omega
                have HY1 := hid y1
                have HY2 := hid y2
                have HbxW : Hid (bx < W.heap.size) := hid (by rw [← hbx]; exact hBk.lt)
                have Hbx := hid hbx
                have HxA := hid hxA
                have HxC := hid hxc
                clear HP hMY hDS hF hCD hMW hDW hnW he hno h1 hC1
                clear hW hBk hd hlt hk hwf hby hnx hk40 hbW hsW h64 hNl hN hbx hxA hxc
                go_upto_region 25 with (fail)
                rw [HW.out]
                clear HW r0 r1 r2
                go_upto_region 26 with (go_at_call 14; refine HWr.mono ?_; rintro e w7 ⟨rfl, hD7, hc7⟩)
                have hnF : ¬ F bx := fun e => by have := (HF.out bx e).2; rw [Hbx.out] at this; omega
                have hz1 : W.heap.size ≤ w7.heap.size := hc7.size
                have hblk := hc7.block bx HbxW.out hnF
                have hM7 := HMW.out.chg (F' := Grw F W w7) hc7 (fun b hb => hb) (fun b hb => hb.imp id (fun h => h.1))
                have hN7 : NumsD w.heap.size w7 .u8 xA d.x := by
                  rw [← HxA.out]
                  exact HnW.out.keep (fun b hb => hc7.block b (by have := hclW.size; omega) (fun e => by have := (HF.out b e).1; omega))
                have hB7 : Below w.heap.size w w7 := hclW.trans (hc7.below hclW.size (fun b hb => (HF.out b hb).1))
                have hF7 : ∀ b, Grw F W w7 b → w.heap.size ≤ b ∧ b < w7.heap.size := fun b hb => by
                  rcases hb with h | h
                  · have := HF.out b h; have := hsW'.out; omega
                  · have := hclW.size; omega
                obtain ⟨A, c, vs, hm, hRow, hvs⟩ := hM7.row N _ (mays_at D.K D.W HN8.out)
                obtain ⟨L, hL⟩ : ∃ L, (mayL D.K D.W N).length = L := ⟨_, rfl⟩
                rw [hL] at hm hRow
                have hL1000 : L ≤ 1000 := by have h1 := mayL_bound D.K D.W N; have h2 := HW1.out; have h3 := H402.out; have h4 := HK.out; omega
                have y1 := HY1.out
                have y2 := HY2.out
                rw [Hbx.out] at y1 y2
                rw [HxA.out, HxC.out] at y2
                have HBX : Hid (∀ ww, Below w7.heap.size w7 ww → ww.cell? ⟨bx, 1, none⟩ = some (.int .i64 (N : Nat))) := hid (fun ww hw => (hw.cell (p := ⟨bx, 1, none⟩) (by have := HbxW.out; show bx < _; omega)).trans ((cell_same hblk).trans y1))
                have HBx : Hid (∀ w0 ww, Below w7.heap.size w7 w0 → (ww = w0 ∨ ∃ u, AppR 32 1 (.slice A L c) L vs [.slice xA 64 xc] w0 u ww) → ww.cell? ⟨bx, 1, none⟩ = some (.int .i64 (N : Nat))) := hid (fun w0 ww hw hR => by
                  rcases hR with rfl | ⟨u, A', c', _, _, _, _, hg, _⟩
                  · exact HBX.out _ hw
                  · have hz0 := hw.size
                    refine (cell_same (hg.block bx (by have := HbxW.out; omega) (fun e => ?_))).trans (HBX.out _ hw)
                    have hRb := hM7.own N _ bx hm e.symm
                    have h3 := HRw.out bx hRb
                    have h4 := Hbx.out
                    omega)
                have HBy : Hid (∀ ww, Below w7.heap.size w7 ww → ww.cell? ⟨bx, 2, none⟩ = some (.slice xA 64 xc)) := hid (fun ww hw => (hw.cell (p := ⟨bx, 2, none⟩) (by have := HbxW.out; show bx < _; omega)).trans ((cell_same hblk).trans y2))
                have HBz : Hid (∀ ww, Below w7.heap.size w7 ww → ww.cell? ⟨z, N, none⟩ = some (.slice A L c)) := hid (fun ww hw => (hM7.blk.next hw).cell hm)
                have HRow : Hid (∀ ww, Below w7.heap.size w7 ww → ww.ownsRow 0 32 1 (.slice A L c) L vs) := hid (fun ww hw => row_next hRow hw)
                have HM7 := hid hM7
                have HD7 := hid hD7
                have HN7 := hid hN7
                have HB7 := hid hB7
                have HF7 := hid hF7
                have Hm := hid hm
                have HL := hid hL
                have Hvs := hid hvs
                have Hvl := hid hRow.1
                clear hnF hz1 hblk hM7 hN7 hB7 hF7 hm hRow hvs hL y1 y2 HBX hD7 hc7 HY1 HY2 HMW HnW HRw
                rw [Hbx.out]
                refine region_evtR 10 9 163 [false, false, true, true, true, true, true, true, true, false] [Is (Value.pointer (some ⟨bx, 1, none⟩)), Is (Value.int .i64 (N : Nat)), Is (Value.pointer (some ⟨bx, 1, none⟩)), Is (Value.int .i64 (N : Nat)), Is (Value.pointer (some ⟨z, N, none⟩)), Is (Value.slice A L c), Is (Value.pointer (some ⟨bx, 2, none⟩)), Is (Value.slice xA 64 xc), IsRowU (.slice xA 64 xc), (fun _ _ => True)] [95, 96, 97, 98, 99, 100, 101, 102, 103, 104] (AppR 32 1 (.slice A L c) L vs [.slice xA 64 xc]) (by kernel_rfl) (by kernel_rfl) (by kernel_rfl) (Nat.le_of_eq rfl) (grows_cons (Is.grows _) (grows_cons (Is.grows _) (grows_cons (Is.grows _) (grows_cons (Is.grows _) (grows_cons (Is.grows _) (grows_cons (Is.grows _) (grows_cons (Is.grows _) (grows_cons (Is.grows _) (grows_cons (IsRowU.grows _) (grows_cons (fun _ _ _ _ _ => trivial) grows_nil))))))))))
                  ⟨.inr (.inr ⟨rfl, pure_exR (Value.pointer (some ⟨bx, 1, none⟩)) rfl rfl (fun a w0 ww hw hR hf hd => by
                 have h16 : a.eval (.tmp 16) = Value.pointer (some ⟨bx, 0, none⟩) := ((knows_out 16 (by kernel_rfl) rfl) : Knows _ _ _ _ _ _ 0 _ _) a w0 hw hf hd
                 revert h16
                 generalize a.eval = ev
                 intro h16
                 unfold execOp
                 simp only [h16]
                 go_simp)⟩),
                   .inr (.inr ⟨rfl, pure_exR (Value.int .i64 (N : Nat)) rfl rfl (fun a w0 ww hw hR hf hd => by
                 have h95 : a.eval (.tmp 95) = Value.pointer (some ⟨bx, 1, none⟩) := ((knows_in 0 95 (by decide) (by kernel_rfl) rfl rfl) : Knows _ _ _ _ _ _ 1 _ _) a w0 hw hf hd
                 have f0 : ww.cell? ⟨bx, 1, none⟩ = some (Value.int .i64 (N : Nat)) := HBx.out w0 ww hw hR
                 revert h95
                 generalize a.eval = ev
                 intro h95
                 unfold execOp
                 simp only [h95]
                 go_simp)⟩),
                   .inr (.inl ⟨rfl, step_ex _ rfl (.inl rfl) rfl (fun a ww hw hf hd => by
                 have h16 : a.eval (.tmp 16) = Value.pointer (some ⟨bx, 0, none⟩) := ((knows_out 16 (by kernel_rfl) rfl) : Knows _ _ _ _ _ _ 2 _ _) a ww hw hf hd
                 revert h16
                 generalize a.eval = ev
                 intro h16
                 unfold execOp
                 simp only [h16]
                 go_simp)⟩),
                   .inr (.inl ⟨rfl, step_ex _ rfl (.inl rfl) rfl (fun a ww hw hf hd => by
                 have h97 : a.eval (.tmp 97) = Value.pointer (some ⟨bx, 1, none⟩) := ((knows_in 2 97 (by decide) (by kernel_rfl) rfl rfl) : Knows _ _ _ _ _ _ 3 _ _) a ww hw hf hd
                 have f0 : ww.cell? ⟨bx, 1, none⟩ = some (Value.int .i64 (N : Nat)) := HBx.out ww ww hw (.inl rfl)
                 revert h97
                 generalize a.eval = ev
                 intro h97
                 unfold execOp
                 simp only [h97]
                 go_simp)⟩),
                   .inr (.inl ⟨rfl, step_ex _ rfl (.inl rfl) rfl (fun a ww hw hf hd => by
                 have h11 : a.eval (.tmp 11) = Value.pointer (some ⟨z, 0, none⟩) := ((knows_out 11 (by kernel_rfl) rfl) : Knows _ _ _ _ _ _ 4 _ _) a ww hw hf hd
                 have h98 : a.eval (.tmp 98) = Value.int .i64 (N : Nat) := ((knows_in 3 98 (by decide) (by kernel_rfl) rfl rfl) : Knows _ _ _ _ _ _ 4 _ _) a ww hw hf hd
                 have f0 := hN0
                 have f1 := hN8
                 revert h11 h98
                 generalize a.eval = ev
                 intro h11 h98
                 unfold execOp
                 simp only [h11, h98]
                 go_simp)⟩),
                   .inr (.inl ⟨rfl, step_ex _ rfl (.inl rfl) rfl (fun a ww hw hf hd => by
                 have h99 : a.eval (.tmp 99) = Value.pointer (some ⟨z, N, none⟩) := ((knows_in 4 99 (by decide) (by kernel_rfl) rfl rfl) : Knows _ _ _ _ _ _ 5 _ _) a ww hw hf hd
                 have f0 : ww.cell? ⟨z, N, none⟩ = some (Value.slice A L c) := HBz.out ww hw
                 revert h99
                 generalize a.eval = ev
                 intro h99
                 unfold execOp
                 simp only [h99]
                 go_simp)⟩),
                   .inr (.inl ⟨rfl, step_ex _ rfl (.inl rfl) rfl (fun a ww hw hf hd => by
                 have h16 : a.eval (.tmp 16) = Value.pointer (some ⟨bx, 0, none⟩) := ((knows_out 16 (by kernel_rfl) rfl) : Knows _ _ _ _ _ _ 6 _ _) a ww hw hf hd
                 revert h16
                 generalize a.eval = ev
                 intro h16
                 unfold execOp
                 simp only [h16]
                 go_simp)⟩),
                   .inr (.inl ⟨rfl, step_ex _ rfl (.inl rfl) rfl (fun a ww hw hf hd => by
                 have h101 : a.eval (.tmp 101) = Value.pointer (some ⟨bx, 2, none⟩) := ((knows_in 6 101 (by decide) (by kernel_rfl) rfl rfl) : Knows _ _ _ _ _ _ 7 _ _) a ww hw hf hd
                 have f0 : ww.cell? ⟨bx, 2, none⟩ = some (Value.slice xA 64 xc) := HBy.out ww hw
                 revert h101
                 generalize a.eval = ev
                 intro h101
                 unfold execOp
                 simp only [h101]
                 go_simp)⟩),
                   .inr (.inl ⟨rfl, step_bslV (.inl rfl) rfl Try.underlying40 infSl (by decide) (by decide) (by kernel_rfl) rfl (knows_in 7 102 (by decide) (by kernel_rfl) rfl rfl)⟩),
                   .inl rfl, trivial⟩ _ rfl rfl ?_ ?_
                · intro a ww hw hf hd
                  have h100 : a.eval (.tmp 100) = Value.slice A L c := hd 5 100 (by decide) (by kernel_rfl) rfl
                  refine evt_app rfl rfl Try.underlying40 infSlb rfl (by decide) (by decide) (HRow.out ww hw) h100 ?_ rfl (by simp [Value.oneCell']) hL1000
                  exact hd 8 103 (by decide) (by kernel_rfl) rfl
                intro val W2 W3 hw hS hR
                have e95 : val 95 = Value.pointer (some ⟨bx, 1, none⟩) := hS 0 95 (by decide) (by decide) rfl
                have e96 : val 96 = Value.int .i64 (N : Nat) := hS 1 96 (by decide) (by decide) rfl
                have e97 : val 97 = Value.pointer (some ⟨bx, 1, none⟩) := hS 2 97 (by decide) (by decide) rfl
                have e98 : val 98 = Value.int .i64 (N : Nat) := hS 3 98 (by decide) (by decide) rfl
                have e99 : val 99 = Value.pointer (some ⟨z, N, none⟩) := hS 4 99 (by decide) (by decide) rfl
                have e100 : val 100 = Value.slice A L c := hS 5 100 (by decide) (by decide) rfl
                have e101 : val 101 = Value.pointer (some ⟨bx, 2, none⟩) := hS 6 101 (by decide) (by decide) rfl
                have e102 : val 102 = Value.slice xA 64 xc := hS 7 102 (by decide) (by decide) rfl
                have hR := hR 104 rfl
                obtain ⟨A104, c104, e104, hl104, hm104, hr104, hg104, ho104⟩ := hR
                rw [e104] at hr104 ho104
                simp only [putVals, List.foldl_cons, List.foldl_nil, List.drop_succ_cons, List.drop_zero, Act.put, List.setIfInBounds_toArray, List.set_cons_succ, List.set_cons_zero, e95, e96, e97, e98, e99, e100, e101, e102, e104]
                generalize val 103 = g103
                clear e95 e96 e97 e98 e99 e100 e101 e102 e104 hS
                obtain ⟨x1, x2, hput⟩ := my_app (HM7.out.next hw) (HD7.out.next hw) (Nat.le_trans HB7.out.size hw.size) (fun b hb => Nat.lt_of_lt_of_le (HF7.out b hb).2 hw.size) HN8.out (mays_at D.K D.W HN8.out) HL.out Hm.out (fun i s hi => by
                  obtain ⟨B, dd, h1, h2⟩ := Hvs.out i s hi
                  exact ⟨B, dd, h1, (h2.keep (fun b hb => hw.block b hb.1)).sub (fun b hb => ⟨Nat.lt_of_lt_of_le hb.1 hw.size, hb.2⟩)⟩) Hvl.out H64.out (((HN7.out.stay (hw.mono HB7.out.size)).sub (S' := fun b => b < W2.heap.size ∧ ¬ Grw F W w7 b ∧ ¬ R b) fun b hb => ⟨by have := HB7.out.size; have := hw.size; omega, fun e => by have := (HF7.out b e).1; omega, fun e => by have := (HM7.out.inR b e).1; omega⟩)) hr104 hg104 ho104
                obtain ⟨W4, hW4⟩ : ∃ W4, W3.setCell ⟨z, N, none⟩ (.slice A104 (L + 1) c104) = W4 := ⟨_, rfl⟩
                obtain ⟨hM4, hD4, hb4⟩ := hput W4 hW4
                rw [mays_app] at hM4
                have HP4 : Hid (∃ F R mv D, MY F R w.heap.size W4 z mv (mays D.K D.W) ∧ DS F W4 p D ∧ (∀ b, F b → w.heap.size ≤ b ∧ b < W4.heap.size) ∧ Calm D ∧ Dok (40 + (k + 1)) D ∧ D.K.length = 8) := hid (by
                  obtain ⟨R', mv', hM⟩ := hM4
                  exact ⟨_, R', mv', _, hM, hD4, fun b hb => ⟨(HF7.out b hb).1, Nat.lt_of_lt_of_le (HF7.out b hb).2 (Nat.le_trans hw.size (by rw [← hW4, setCell_size]; exact hg104.size))⟩, HC1.out⟩)
                have HB4 := hid ((HB7.out.trans (Below.mono hw HB7.out.size)).trans hb4)
                have HW4 := hid hW4
                clear hput hM4 hD4 hb4 hW4 hr104 hg104 ho104 hw HBx HBy HBz HRow HM7 HD7 HN7 HB7 HF7 Hm HL Hvs Hvl hl104 hm104
                go_upto_region 27 with (fail)
                rw [HW4.out]
                clear HW4 x1 x2
                go_wp2
                go_roundw
                case rel => exact ⟨k + 1, HK.out, by go_num, HP4, HB4.out⟩
                case measure => have := HK.out; simp [intOf]; omega
            · have hge : ¬ (k : Int) < n2 := by omega
              obtain ⟨F, R, mv, D, hMY, hDS, hF, hCD⟩ := HP.out
              have hk40 := H402.out
              have hCr := dcrash_any F p (40 + k) D A3 c3 xs3 wr hDS hCD.2.1 (by omega) (by have := Hn3.out; omega) HX3.out ((HA3.out.stay hcl).sub fun b hb => ⟨fun e => by have := (hF b e).1; omega, by have := hcl.size; omega⟩)
              rw [Hn3.out] at hCr
              have HMY := hid hMY
              have HF := hid hF
              have HCD := hid hCD
              have HB := hid hcl
              have HK := hid hk
              clear HP hMY hDS hF hCD hcl hk hlt hk40
              go_upto_region 29 with (go_at_call 18; refine hCr.mono ?_; rintro e w8 ⟨rfl, hD8, hc8⟩)
              have hMY8 := HMY.out.chg (F' := Grw F wr w8) hc8 (fun b hb => hb) (fun b hb => hb.imp id (fun h => h.1))
              have hrg : w8.rangeAt z 0 mv := fun j v hj => by rw [Nat.zero_add]; exact hMY8.blk.cell hj
              have hsz : (Try.prog.info? 41).map (·.size) = some mv.length := by rw [hMY8.len]; kernel_rfl
              have hB8 : Below w.heap.size w w8 := HB.out.trans (hc8.below HB.out.size (fun b hb => (HF.out b hb).1))
              obtain ⟨T, hT⟩ : ∃ T, tornN D.K D.W xs3 D.W.length = T := ⟨_, rfl⟩
              have hD8' : DS (Grw F wr w8) w8 p ⟨T, [], -1, false, D.li + 1⟩ := by rw [← hT]; exact hD8
              have hok8 : Dok (40 + k + 1) ⟨T, [], -1, false, D.li + 1⟩ := by rw [← hT]; exact HCD.out.2.1.crash xs3
              have hT8 : T.length = 8 := by rw [← hT, tornN_length]; exact HCD.out.2.2
              have hin := fun (q : Nat) (hq : q < 8) (i : Nat) => keeps_in xs3 HCD.out.2.1.sK HCD.out.2.1.wW (k := q) (by rw [HCD.out.2.2]; exact hq) i
              have hone := fun (q : Nat) => keeps_one (K := D.K) (W := D.W) xs3 (k := q)
              have hlen := fun (q : Nat) (hq : q < 8) => mayL_len HCD.out.2.1.sK HCD.out.2.1.wW (k := q) (by rw [HCD.out.2.2]; exact hq)
              rw [hT] at hin hone
              have HP8 : Hid (∃ F R, MY F R w.heap.size w8 z mv (mays D.K D.W) ∧ DS F w8 p ⟨T, [], -1, false, D.li + 1⟩) := hid ⟨_, R, hMY8, hD8'⟩
              have HOK8 := hid hok8
              have HT8 := hid hT8
              have HIN := hid hin
              have HONE := hid hone
              have HLEN := hid hlen
              have HB8 := hid hB8
              have HDK := hid HCD.out.2.2
              clear hMY8 hB8 hT hD8' hok8 hT8 hin hone hlen hD8 hc8 HMY HF HB hCr
              go_upto_region 30 with (with_reducible refine wpList_load_mid (op := ⟨some 110, .load 41 (.tmp 11), _, _, _, _⟩) rfl 41 (.tmp 11) rfl z 0 rfl mv _ hrg Try.underlying41 rfl hsz ?_; clear hrg)
              go_loopw [111] (fun v wr => ∃ q : Nat, q ≤ 8 ∧ v = .int .i64 q ∧ Below w8.heap.size w8 wr) (fun v _ => 8 - (intOf v).toNat)
              case atStart => exact ⟨0, Nat.zero_le _, rfl, Below.refl _ _⟩
              case round =>
                obtain ⟨q, hq, rfl, hc4⟩ := hrel
                by_cases hq8 : q < 8
                · skip
                  obtain ⟨F, R, hMY, hDS⟩ := HP8.out
                  obtain ⟨A, c, vs, hm, hRow, hvs⟩ := hMY.row q _ (mays_at D.K D.W hq8)
                  obtain ⟨L, hL⟩ : ∃ L, (mayL D.K D.W q).length = L := ⟨_, rfl⟩
                  rw [hL] at hm hRow
                  have hL1 : 0 < L := by rw [← hL]; simp [mayL]
                  have hL1000 : (L : Int) ≤ 1000 := by have h1 := mayL_bound D.K D.W q; have h2 := HCD.out.2.1.w1; have h3 := H402.out; have h4 := HK.out; omega
                  obtain ⟨gA, rfl, hRw⟩ := row_range hRow hL1
                  have hix : ∀ ww : World, (Instr.index 41 (.agg mv.toArray) (.int .i64 (q : Int))).run Try.prog ww = .ok (.slice (some ⟨gA, 0, none⟩) L c) ww := fun ww => run_index_row 41 40 8 mv .i64 q (.slice (some ⟨gA, 0, none⟩) L c) _ Try.underlying41 Try.underlying40 rfl (by kernel_rfl) hq8 hm
                  obtain ⟨s, hs⟩ : ∃ s, T[q]? = some s := ⟨_, List.getElem?_eq_getElem (by rw [HT8.out]; exact hq8)⟩
                  have hs64 : s.length = 64 := HOK8.out.sK s (List.mem_of_getElem? hs)
                  have hrd : readR ⟨T, [], -1, false, D.li + 1⟩ (q : Nat) = (0, s) := calm_read (D := ⟨T, [], -1, false, D.li + 1⟩) ⟨rfl, rfl⟩ (k := q) hs
                  have HR := ds_read (hDS.next hc4) HOK8.out q hrd hs64
                  have HQ := hid hq8
                  have HL := hid hL
                  have Hvs := hid hvs
                  have HRw := hid hRw
                  have Hs := hid (getD_of hs : T.getD q [] = s)
                  have Hs' := hid hs
                  have H64 := hid hs64
                  have Hin := hid (HIN.out q hq8)
                  have Hlen := hid (HLEN.out q hq8)
                  have Hc4 := hid hc4
                  have hq0 : (0 : Int) ≤ q := by omega
                  have hq9 : (q : Int) < 8 := by omega
                  clear hMY hDS hm hRow hvs hL hRw hs hs64 hrd hq8 hq hc4
                  go_upto_region 33 with (go_at_call 17; refine HR.mono ?_; rintro e w9 ⟨⟨B3, c3, rfl, hF3⟩, hb9⟩)
                  clear hix HR
                  obtain ⟨bB, oB, rfl, hbB, hbB2, hcB⟩ := hF3 (by rw [H64.out]; decide)
                  by_cases h1 : L = 1
                  · subst h1
                    obtain ⟨m, hm⟩ : ∃ m, (mayL D.K D.W q)[0]? = some m := ⟨_, List.getElem?_eq_getElem (by rw [HL.out]; decide)⟩
                    obtain ⟨Bm, dm, hv, hN⟩ := Hvs.out 0 m hm
                    have hm64 : m.length = 64 := Hlen.out m (List.mem_of_getElem? hm)
                    rw [hm64] at hv
                    have hbw9 : Below w8.heap.size w8 w9 := Hc4.out.trans (Below.mono hb9 Hc4.out.size)
                    have ra : w9.cell? ⟨gA, 0, none⟩ = some (.slice Bm 64 dm) := (((HRw.out).next hbw9) 0 _ hv).1
                    have hms : m = s := by
                      have h2 := HONE.out q HL.out
                      rw [Hs'.out] at h2
                      have h3 : (mayL D.K D.W q)[0]? = some (D.K.getD q []) := rfl
                      rw [h3, getD_of h2.symm] at hm
                      injection hm with hm
                      exact hm.symm
                    subst hms
                    have hN9 : Nums w9 .u8 Bm m := fun hp => by
                      obtain ⟨b, off, e, hb, hc⟩ := hN hp
                      exact ⟨b, off, e, Nat.lt_of_lt_of_le hb.1 hbw9.size, fun i hi => (hbw9.cell (p := ⟨b, off + i, none⟩) hb.1).trans (hc i hi)⟩
                    have HS := same64 (some ⟨bB, oB, none⟩) Bm c3 dm m w9 H64.out hF3.nums hN9
                    clear hm hv hN hm64 hN9
                    have Hb9 := hid hb9
                    have HbB := hid hbB2
                    have HcB := hid hcB
                    clear hF3 hbB hbB2 hcB hb9 hbw9
                    go_upto_region 35 with (go_at_call 19; refine HS.mono ?_; rintro e w10 ⟨rfl, hb10⟩)
                    have HBB : Hid (bB < w10.heap.size ∧ ∀ i, i < m.length → w10.cell? ⟨bB, oB + i, none⟩ = some (.int .u8 (m.getD i 0))) := hid ⟨Nat.lt_of_lt_of_le HbB.out hb10.size, fun i hi => (hb10.cell (p := ⟨bB, oB + i, none⟩) HbB.out).trans (HcB.out i hi)⟩
                    have HBw : Hid (Below w8.heap.size w8 w10) := hid ((Hc4.out.trans (Below.mono Hb9.out Hc4.out.size)).trans (Below.mono hb10 (Nat.le_trans Hc4.out.size Hb9.out.size)))
                    clear ra hb10 HcB HbB Hb9
                    go_upto_region 36 with (fail)
                    generalize w10 = w11 at *
                    go_loopw [138] (fun v wr => ∃ i : Nat, i ≤ 64 ∧ v = .int .i64 i ∧ Below w11.heap.size w11 wr) (fun v _ => 64 - (intOf v).toNat)
                    case atStart => exact ⟨0, Nat.zero_le _, rfl, Below.refl _ _⟩
                    case round =>
                      obtain ⟨i, hi, rfl, hc5⟩ := hrel
                      by_cases hi64 : i < 64
                      · skip
                        have hbs : bB < wr.heap.size := Nat.lt_of_lt_of_le HBB.out.1 hc5.size
                        have rs : wr.cell? ⟨bB, oB + i, none⟩ = some (.int .u8 (m.getD i 0)) := (hc5.cell (p := ⟨bB, oB + i, none⟩) HBB.out.1).trans (HBB.out.2 i (by rw [H64.out]; exact hi64))
                        obtain ⟨si, hsi⟩ : ∃ si, m.getD i 0 = si := ⟨_, rfl⟩
                        rw [hsi] at rs
                        have hi0 : (0 : Int) ≤ i := by omega
                        have hi6 : (i : Int) < 64 := by omega
                        have HI := hid hi64
                        have Hsi := hid hsi
                        have Hc5 := hid hc5
                        clear hi hi64 hsi hbs hc5
                        go_upto_region 40 with (fail)
                        clear rs
                        generalize wr = w12 at *
                        go_loopw [145, 23] (fun v f wr => ∃ (j : Nat) (b : Bool), j ≤ 1 ∧ v = .int .i64 j ∧ f = .bool b ∧ Hid (∀ (t : Nat) (x : List Int), t < j → (mayL D.K D.W q)[t]? = some x → x[i]? = m[i]? → b = true) ∧ Hid (Below w12.heap.size w12 wr)) (fun v _ _ => 1 - (intOf v).toNat)
                        case atStart => exact ⟨0, false, Nat.zero_le _, rfl, rfl, hid (fun t m ht => absurd ht (Nat.not_lt_zero _)), hid (Below.refl _ _)⟩
                        case round =>
                          obtain ⟨j, b, hj, rfl, rfl, Hb, Hc6⟩ := hrel
                          by_cases hjL : j < 1
                          · skip
                            obtain ⟨m1, hm⟩ : ∃ m1, (mayL D.K D.W q)[j]? = some m1 := ⟨_, List.getElem?_eq_getElem (by rw [HL.out]; exact hjL)⟩
                            obtain ⟨Bm, dm, hv, hN⟩ := Hvs.out j m1 hm
                            have hm64 : m1.length = 64 := Hlen.out m1 (List.mem_of_getElem? hm)
                            rw [hm64] at hv
                            obtain ⟨bm, om, rfl, hbm, hcm⟩ := hN (by rw [hm64]; decide)
                            have hbw : Below w8.heap.size w8 wr := HBw.out.trans (Below.mono ((Hc5.out.trans (Below.mono Hc6.out Hc5.out.size))) HBw.out.size)
                            have rm : wr.cell? ⟨bm, om + i, none⟩ = some (.int .u8 (m1.getD i 0)) := (hbw.cell (p := ⟨bm, om + i, none⟩) hbm.1).trans (hcm i (by rw [hm64]; exact HI.out))
                            have ra : wr.cell? ⟨gA, j, none⟩ = some (.slice (some ⟨bm, om, none⟩) 64 dm) := by
                              have h := (((HRw.out).next hbw) j _ hv).1
                              rwa [Nat.zero_add] at h
                            obtain ⟨mi, hmi⟩ : ∃ mi, m1.getD i 0 = mi := ⟨_, rfl⟩
                            rw [hmi] at rm
                            have hj0 : (0 : Int) ≤ j := by omega
                            have hjl : (j : Int) < 1 := by omega
                            have HJ := hid hjL
                            have hstep : ∀ t m', t < j + 1 → (mayL D.K D.W q)[t]? = some m' → m'[i]? = m[i]? → b = true ∨ mi = si := fun t m' ht h1 h2 => by
                              by_cases e : t = j
                              · subst e
                                rw [hm] at h1
                                injection h1 with h1
                                subst h1
                                right
                                rw [← hmi, ← Hsi.out, List.getD_eq_getElem?_getD, List.getD_eq_getElem?_getD, h2]
                              · exact .inl (Hb.out t m' (by omega) h1 h2)
                            have HS := hid hstep
                            clear hj hjL hm hv hN hcm hbw hmi hstep Hb hm64 hbm
                            cases b with
                            | true =>
                              go_wp2
                              go_roundw
                              case rel => exact ⟨j + 1, true, HJ.out, by go_num, rfl, hid (fun _ _ _ _ _ => rfl), Hc6⟩
                              case measure => have := HJ.out; simp [intOf]; omega
                            | false =>
                              by_cases e : mi = si
                              · subst e
                                go_wp2
                                go_roundw
                                case rel => exact ⟨j + 1, true, HJ.out, by go_num, by first | rfl | simp, hid (fun _ _ _ _ _ => rfl), Hc6⟩
                                case measure => have := HJ.out; simp [intOf]; omega
                              · have ed : (mi == si) = false := beq_eq_false_iff_ne.2 e
                                have He := hid e
                                clear e
                                go_wp2
                                go_roundw
                                case rel => exact ⟨j + 1, false, HJ.out, by go_num, by first | rfl | simp, hid (fun t m' h1 h2 h3 => by
                                  rcases HS.out t m' h1 h2 h3 with h4 | h4
                                  · exact h4
                                  · exact absurd h4 He.out), Hc6⟩
                                case measure => have := HJ.out; simp [intOf]; omega
                          · have hgL : ¬ (j : Int) < 1 := by omega
                            obtain rfl : b = true := by
                              obtain ⟨t, m1, h1, h2⟩ := Hin.out i
                              rw [Hs.out] at h2
                              exact Hb.out t m1 (by have h3 := (List.getElem?_eq_some_iff.1 h1).1; rw [HL.out] at h3; omega) h1 h2.symm
                            have hcc := Hc5.out.trans (Below.mono Hc6.out Hc5.out.size)
                            clear hj hjL Hb
                            go_wp2
                            go_roundw
                            case rel => exact ⟨i + 1, HI.out, by go_num, hcc⟩
                            case measure => have := HI.out; simp [intOf]; omega
                      · have hg64 : ¬ (i : Int) < 64 := by omega
                        have hcc := HBw.out.trans (Below.mono hc5 HBw.out.size)
                        clear hi hi64
                        go_wp2
                        go_roundw
                        case rel => exact ⟨q + 1, HQ.out, by go_num, hcc⟩
                        case measure => have := HQ.out; simp [intOf]; omega
                  · have e1 : ((L : Int) == 1) = false := beq_eq_false_iff_ne.2 (by omega)
                    clear h1
                    have HBB : Hid (bB < w9.heap.size ∧ ∀ i, i < s.length → w9.cell? ⟨bB, oB + i, none⟩ = some (.int .u8 (s.getD i 0))) := hid ⟨hbB2, hcB⟩
                    have HBw : Hid (Below w8.heap.size w8 w9) := hid (Hc4.out.trans (Below.mono hb9 Hc4.out.size))
                    clear hF3 hbB hbB2 hcB hb9
                    go_upto_region 35 with (fail)
                    clear e1
                    generalize w9 = w10 at *
                    go_upto_region 36 with (fail)
                    generalize w10 = w11 at *
                    go_loopw [138] (fun v wr => ∃ i : Nat, i ≤ 64 ∧ v = .int .i64 i ∧ Below w11.heap.size w11 wr) (fun v _ => 64 - (intOf v).toNat)
                    case atStart => exact ⟨0, Nat.zero_le _, rfl, Below.refl _ _⟩
                    case round =>
                      obtain ⟨i, hi, rfl, hc5⟩ := hrel
                      by_cases hi64 : i < 64
                      · skip
                        have hbs : bB < wr.heap.size := Nat.lt_of_lt_of_le HBB.out.1 hc5.size
                        have rs : wr.cell? ⟨bB, oB + i, none⟩ = some (.int .u8 (s.getD i 0)) := (hc5.cell (p := ⟨bB, oB + i, none⟩) HBB.out.1).trans (HBB.out.2 i (by rw [H64.out]; exact hi64))
                        obtain ⟨si, hsi⟩ : ∃ si, s.getD i 0 = si := ⟨_, rfl⟩
                        rw [hsi] at rs
                        have hi0 : (0 : Int) ≤ i := by omega
                        have hi6 : (i : Int) < 64 := by omega
                        have HI := hid hi64
                        have Hsi := hid hsi
                        have Hc5 := hid hc5
                        clear hi hi64 hsi hbs hc5
                        go_upto_region 40 with (fail)
                        clear rs
                        generalize wr = w12 at *
                        go_loopw [145, 23] (fun v f wr => ∃ (j : Nat) (b : Bool), j ≤ L ∧ v = .int .i64 j ∧ f = .bool b ∧ Hid (∀ (t : Nat) (m : List Int), t < j → (mayL D.K D.W q)[t]? = some m → m[i]? = s[i]? → b = true) ∧ Hid (Below w12.heap.size w12 wr)) (fun v _ _ => L - (intOf v).toNat)
                        case atStart => exact ⟨0, false, Nat.zero_le _, rfl, rfl, hid (fun t m ht => absurd ht (Nat.not_lt_zero _)), hid (Below.refl _ _)⟩
                        case round =>
                          obtain ⟨j, b, hj, rfl, rfl, Hb, Hc6⟩ := hrel
                          by_cases hjL : j < L
                          · skip
                            obtain ⟨m, hm⟩ : ∃ m, (mayL D.K D.W q)[j]? = some m := ⟨_, List.getElem?_eq_getElem (by rw [HL.out]; exact hjL)⟩
                            obtain ⟨Bm, dm, hv, hN⟩ := Hvs.out j m hm
                            have hm64 : m.length = 64 := Hlen.out m (List.mem_of_getElem? hm)
                            rw [hm64] at hv
                            obtain ⟨bm, om, rfl, hbm, hcm⟩ := hN (by rw [hm64]; decide)
                            have hbw : Below w8.heap.size w8 wr := HBw.out.trans (Below.mono ((Hc5.out.trans (Below.mono Hc6.out Hc5.out.size))) HBw.out.size)
                            have rm : wr.cell? ⟨bm, om + i, none⟩ = some (.int .u8 (m.getD i 0)) := (hbw.cell (p := ⟨bm, om + i, none⟩) hbm.1).trans (hcm i (by rw [hm64]; exact HI.out))
                            have ra : wr.cell? ⟨gA, j, none⟩ = some (.slice (some ⟨bm, om, none⟩) 64 dm) := by
                              have h := (((HRw.out).next hbw) j _ hv).1
                              rwa [Nat.zero_add] at h
                            obtain ⟨mi, hmi⟩ : ∃ mi, m.getD i 0 = mi := ⟨_, rfl⟩
                            rw [hmi] at rm
                            have hj0 : (0 : Int) ≤ j := by omega
                            have hjl : (j : Int) < L := by omega
                            have HJ := hid hjL
                            have hstep : ∀ t m', t < j + 1 → (mayL D.K D.W q)[t]? = some m' → m'[i]? = s[i]? → b = true ∨ mi = si := fun t m' ht h1 h2 => by
                              by_cases e : t = j
                              · subst e
                                rw [hm] at h1
                                injection h1 with h1
                                subst h1
                                right
                                rw [← hmi, ← Hsi.out, List.getD_eq_getElem?_getD, List.getD_eq_getElem?_getD, h2]
                              · exact .inl (Hb.out t m' (by omega) h1 h2)
                            have HS := hid hstep
                            clear hj hjL hm hv hN hcm hbw hmi hstep Hb hm64 hbm
                            cases b with
                            | true =>
                              go_wp2
                              go_roundw
                              case rel => exact ⟨j + 1, true, HJ.out, by go_num, rfl, hid (fun _ _ _ _ _ => rfl), Hc6⟩
                              case measure => have := HJ.out; simp [intOf]; omega
                            | false =>
                              by_cases e : mi = si
                              · subst e
                                go_wp2
                                go_roundw
                                case rel => exact ⟨j + 1, true, HJ.out, by go_num, by first | rfl | simp, hid (fun _ _ _ _ _ => rfl), Hc6⟩
                                case measure => have := HJ.out; simp [intOf]; omega
                              · have ed : (mi == si) = false := beq_eq_false_iff_ne.2 e
                                have He := hid e
                                clear e
                                go_wp2
                                go_roundw
                                case rel => exact ⟨j + 1, false, HJ.out, by go_num, by first | rfl | simp, hid (fun t m' h1 h2 h3 => by
                                  rcases HS.out t m' h1 h2 h3 with h4 | h4
                                  · exact h4
                                  · exact absurd h4 He.out), Hc6⟩
                                case measure => have := HJ.out; simp [intOf]; omega
                          · have hgL : ¬ (j : Int) < L := by omega
                            obtain rfl : b = true := by
                              obtain ⟨t, m, h1, h2⟩ := Hin.out i
                              rw [Hs.out] at h2
                              exact Hb.out t m (by have h3 := (List.getElem?_eq_some_iff.1 h1).1; rw [HL.out] at h3; omega) h1 h2.symm
                            have hcc := Hc5.out.trans (Below.mono Hc6.out Hc5.out.size)
                            clear hj hjL Hb
                            go_wp2
                            go_roundw
                            case rel => exact ⟨i + 1, HI.out, by go_num, hcc⟩
                            case measure => have := HI.out; simp [intOf]; omega
                      · have hg64 : ¬ (i : Int) < 64 := by omega
                        have hcc := HBw.out.trans (Below.mono hc5 HBw.out.size)
                        clear hi hi64
                        go_wp2
                        go_roundw
                        case rel => exact ⟨q + 1, HQ.out, by go_num, hcc⟩
                        case measure => have := HQ.out; simp [intOf]; omega
                · have hg8 : ¬ (q : Int) < 8 := by omega
                  have hcc := HB8.out.trans (Below.mono hc4 HB8.out.size)
                  go_wp2
                  go_ret
                  exact ⟨rfl, hcc⟩
end Go.Proofs.Ytdfalneiapeegaa
