/- The law of more given. -/
import Derived.Test.YtboofkmbjmnpeaaDLMAM
import Derived.Test.YtboofkmbjmnpeaaDLFromM
namespace Go.Proofs.Ytboofkmbjmnpeaa
open Go Go.RowKit Go.Maps

set_option maxRecDepth 50000 in
set_option maxHeartbeats 8000000 in
theorem lmore_any (n c : Nat) (A : Option Addr) (ds : List DoV) (B : Option Addr) (m d : Nat) (gs : List Int) (B2 : Option Addr) (m2 d2 : Nat) (hs : List Int) (w : World) (hn : ds.length = n) (hn47 : n ≤ 9223372036854775807) (hA : DoRow w.heap.size w A ds) (hm : m = gs.length) (hm47 : (m : Int) ≤ 9223372036854775807) (hB : Nums w .i64 B gs) (hm2 : m2 = hs.length) (hm247 : (m2 : Int) ≤ 9223372036854775807) (hB2 : Nums w .i64 B2 hs) :
    Calls Try.prog 4 #[.slice A n c, .slice B m d, .slice B2 m2 d2] w fun e w' => e = .returned (.bool true) ∧ Below w.heap.size w w' := by
  obtain ⟨fb, HF⟩ := few_split ds n
  have HM := hid hm
  have HM2 := hid hm2
  clear hm hm2
  cases fb with
  | false =>
    go_enter Try.func4, Try.ntmps4
    go_wp2_with (first
      | (go_at_call 6; refine (dawake_any _).mono ?_; rintro e w2 ⟨rfl, hb2⟩)
      | (go_at_call 16; refine (count_nil _).mono ?_; rintro e w3 ⟨rfl, rfl⟩)
      | (go_at_call 19; refine (more_nil none 0 0 _).mono ?_; rintro e w3 ⟨rfl, rfl⟩)
      | (go_at_call 14; refine (khas_nil 0 _).mono ?_; rintro e w3 ⟨rfl, rfl⟩)
      | (go_at_call 15; refine (kcan_nil 0 _).mono ?_; rintro e w3 ⟨rfl, rfl⟩)
      | (go_at_call 18; refine (list_nil _).mono ?_; rintro e w3 ⟨rfl, rfl⟩)
      | (go_at_call 8; refine (few_any w.heap.size n c A ds false _ hn hn47 (hA.next hb2) hb2.size HF).mono ?_; rintro e w4 ⟨rfl, hb4⟩))
    go_ret
    exact ⟨rfl, hb2.trans (Below.mono hb4 hb2.size)⟩
  | true =>
    obtain ⟨hx100, hn30⟩ := of_decide_eq_true HF.out.symm
    by_cases hm30 : (30 : Int) < m
    · go_enter Try.func4, Try.ntmps4
      go_wp2_with (first
        | (go_at_call 6; refine (dawake_any _).mono ?_; rintro e w2 ⟨rfl, hb2⟩)
        | (go_at_call 16; refine (count_nil _).mono ?_; rintro e w3 ⟨rfl, rfl⟩)
        | (go_at_call 19; refine (more_nil none 0 0 _).mono ?_; rintro e w3 ⟨rfl, rfl⟩)
        | (go_at_call 14; refine (khas_nil 0 _).mono ?_; rintro e w3 ⟨rfl, rfl⟩)
        | (go_at_call 15; refine (kcan_nil 0 _).mono ?_; rintro e w3 ⟨rfl, rfl⟩)
        | (go_at_call 18; refine (list_nil _).mono ?_; rintro e w3 ⟨rfl, rfl⟩)
        | (go_at_call 8; refine (few_any w.heap.size n c A ds true _ hn hn47 (hA.next hb2) hb2.size HF).mono ?_; rintro e w4 ⟨rfl, hb4⟩))
      go_ret
      exact ⟨rfl, hb2.trans (Below.mono hb4 hb2.size)⟩
    · by_cases hm230 : (30 : Int) < m2
      · have hmd : decide ((30 : Int) < (m : Int)) = false := decide_eq_false hm30
        go_enter Try.func4, Try.ntmps4
        go_wp2_with (first
          | (go_at_call 6; refine (dawake_any _).mono ?_; rintro e w2 ⟨rfl, hb2⟩)
          | (go_at_call 16; refine (count_nil _).mono ?_; rintro e w3 ⟨rfl, rfl⟩)
          | (go_at_call 19; refine (more_nil none 0 0 _).mono ?_; rintro e w3 ⟨rfl, rfl⟩)
          | (go_at_call 14; refine (khas_nil 0 _).mono ?_; rintro e w3 ⟨rfl, rfl⟩)
          | (go_at_call 15; refine (kcan_nil 0 _).mono ?_; rintro e w3 ⟨rfl, rfl⟩)
          | (go_at_call 18; refine (list_nil _).mono ?_; rintro e w3 ⟨rfl, rfl⟩)
          | (go_at_call 8; refine (few_any w.heap.size n c A ds true _ hn hn47 (hA.next hb2) hb2.size HF).mono ?_; rintro e w4 ⟨rfl, hb4⟩))
        go_ret
        exact ⟨rfl, hb2.trans (Below.mono hb4 hb2.size)⟩
      · have hgl : gs.length ≤ 30 := by have := HM.out; omega
        have hhl : hs.length ≤ 30 := by have := HM2.out; omega
        have hmd : decide ((30 : Int) < (m : Int)) = false := decide_eq_false hm30
        go_enter Try.func4, Try.ntmps4
        go_upto_region 9 with (first
          | (go_at_call 6; refine (dawake_any _).mono ?_; rintro e w2 ⟨rfl, hb2⟩)
          | (go_at_call 16; refine (count_nil _).mono ?_; rintro e w3 ⟨rfl, rfl⟩)
          | (go_at_call 19; refine (more_nil none 0 0 _).mono ?_; rintro e w3 ⟨rfl, rfl⟩)
          | (go_at_call 14; refine (khas_nil 0 _).mono ?_; rintro e w3 ⟨rfl, rfl⟩)
          | (go_at_call 15; refine (kcan_nil 0 _).mono ?_; rintro e w3 ⟨rfl, rfl⟩)
          | (go_at_call 18; refine (list_nil _).mono ?_; rintro e w3 ⟨rfl, rfl⟩)
          | (go_at_call 8; refine (few_any w.heap.size n c A ds true _ hn hn47 (hA.next hb2) hb2.size HF).mono ?_; rintro e w4 ⟨rfl, hb4⟩))
        have hb04 := hb2.trans (Below.mono hb4 hb2.size)
        have hA4 : DoRow w4.heap.size w4 A ds := fun i d hi => by
          obtain ⟨⟨g, o, e, hg, hr⟩, h1, h2, h3, h4⟩ := (hA.next hb04) i d hi
          exact ⟨⟨g, o, e, Nat.lt_of_lt_of_le hg hb04.size, hr⟩, h1, h2, h3, (h4.nums hb04.size).under⟩
        have HMd := hid (made_any n c A ds w4 hn hn30 hA4 hx100)
        have hB4 := hB.below hb04
        have hB24 := hB2.below hb04
        clear hA hA4 hx100 hn hn47 HF hb2 hb4 hB hB2 hmd
        go_upto_region 10 with (go_at_call 9; refine HMd.out.mono ?_; rintro e w5 ⟨p, AL, cL, L, X, Fc, rfl, hC, _, hW, hL30, hAL, hb5⟩)
        have hb05 := hb04.trans (Below.mono hb5 hb04.size)
        have hB5 := hB4.below hb5
        have hB25 := hB24.below hb5
        have HFr := hid (from_any Fc p L X B m d gs w5 hW hC HM.out hB5 hL30 (by omega))
        clear HMd hb04 hb5 hB4 hB24
        by_cases hr : ∀ x ∈ gs, 0 ≤ x ∧ x < L.length
        · have HF2 := hid (HFr.out.mono fun e w' h => fromQ_yes hr h)
          clear HFr
          go_upto_region 13 with (go_at_call 7; refine HF2.out.mono ?_; rintro e w6 ⟨pk, A1, c1, F1, rfl, hK, hf, hb6⟩)
          have hf1 : ∀ b, fblk A1 b → w5.heap.size ≤ b := fun b hb => hf b (.inr (.inl hb))
          obtain ⟨ws, hws⟩ : ∃ ws, fl (kF F1) L.length = ws := ⟨_, rfl⟩
          obtain ⟨nw, HNw⟩ : ∃ nw, Hid (nw = ws.length) := ⟨_, hid rfl⟩
          have hnw30 : nw ≤ 30 := by rw [HNw.out, ← hws]; have := fl_len (kF F1) L.length; omega
          have HLi := hid (list_kr hK hL30 hws HNw.out (Below.refl _ w6))
          have HWs := hid hws
          clear hws
          clear HF2 hf
          go_upto_region 14 with (go_at_call 18; refine HLi.out.mono ?_; rintro e w7 ⟨Aw, cw, rfl, hNw, hb7⟩)
          have hb57 := hb6.trans (Below.mono hb7 hb6.size)
          have hb07 := hb05.trans (Below.mono hb57 hb05.size)
          clear HLi
          by_cases hr2 : ∀ x ∈ hs, 0 ≤ x ∧ x < L.length
          · have HMo := hid (more_args (n := m2) (d := d2) hW (hK.next hb7) HM2.out hB25 hb57 hf1 hr2 hhl hL30)
            have hfA := hK.nofblk
            clear hK
            go_upto_region 15 with (go_at_call 19; refine HMo.out.mono ?_; rintro e w8 ⟨rfl, F2, hK2, hmo, hc8⟩)
            have hb58 : Below w5.heap.size w5 w8 := hb57.trans (hc8.below hb57.size fun b h => h.elim (hf1 b) (Nat.le_trans hb57.size))
            have hb08 := hb05.trans (Below.mono hb58 hb05.size)
            have hNw8 : NumsF w6.heap.size w8 .i64 Aw ws := hNw.chgF hc8 fun b h1 h2 h3 => by
              rcases h3 with h3 | h3
              · have := hfA b h3; omega
              · omega
            have HRi := hid (right_any AL L.length cL B2 m2 d2 hs true w8 HM2.out (hB25.below hb58) (decide_eq_true hr2) (by omega))
            obtain ⟨xs, hxs⟩ : ∃ xs, fl (kF F2) L.length = xs := ⟨_, rfl⟩
            obtain ⟨nk, HNk⟩ : ∃ nk, Hid (nk = xs.length) := ⟨_, hid rfl⟩
            have hnk30 : nk ≤ 30 := by rw [HNk.out, ← hxs]; have := fl_len (kF F2) L.length; omega
            have HL := hid (LM.mk hW (hC.next hb58) hL30 hK2 hxs hr hr2 hgl hhl)
            have hB8 := hB5.below hb58
            have hB28 := hB25.below hb58
            have HWk : Hid (∀ x ∈ ws, ∃ i : Nat, x = i ∧ kF F2 i = true) := hid fun x hx => by
              rw [← HWs.out] at hx
              obtain ⟨i, e, _, h1⟩ := fl_mem.1 hx
              exact ⟨i, e, hmo i h1⟩
            have hL30' : (L.length : Int) ≤ 30 := by omega
            clear HMo hfA hxs hW hC hL30 hK2 hr hr2 hgl hhl hmo hc8 hf1 hNw hb57 hb58 hb07 hb7 hb6 hb05 hB5 hB25 HWs hAL
            go_upto_region 19 with (go_at_call 11; refine HRi.out.mono ?_; rintro e w9 ⟨rfl, rfl⟩)
            clear HRi
            have hz0 : w8.heap.size ≤ (w8.alloc (.cells #[] 3)).heap.size := (below_new w8 _).size
            have hO0 : Owns (w8.alloc (.cells #[] 3)) w8.heap.size 3 .i64 (.slice (some ⟨w8.heap.size, 0, none⟩) 0 0) [] := Owns.new w8 w8.heap.size 3 .i64 [] (Nat.le_refl _) (by simp)
            have HB28 := hid (hB28.below (below_new w8 (.cells #[] 3)))
            have hl1 : (([] : List Int).length + hs.length) * 8 ≤ 140737488355328 := by have := HL.out.hl; simp; omega
            have hl2 : (hs.length + gs.length) * 8 ≤ 140737488355328 := by have := HL.out.hl; have := HL.out.gl; omega
            have HX := hid (show (∀ x ∈ hs ++ gs, 0 ≤ x ∧ x < L.length) ∧ (hs ++ gs).length ≤ 200 by
              refine ⟨fun x hx => ?_, by have := HL.out.hl; have := HL.out.gl; simp; omega⟩
              rcases List.mem_append.1 hx with h | h
              · exact HL.out.h x h
              · exact HL.out.g x h)
            go_upto_region 20 with (first
              | (at_builtin; refine app_nums rfl (.tmp 110) (.tmp 111) 23 rfl w8.heap.size 3 .i64 8 Try.underlying23 infIb (by decide) _ 0 0 [] rfl hO0 B2 d2 hs (congrArg (fun k => Value.slice B2 k d2) HM2.out) HB28.out hl1 hz0 ?_; intro A2 n2 c2 W2 hO2 hG2; rw [List.nil_append] at hO2; have hbW2 : Below w8.heap.size w8 W2 := (below_new w8 _).grown hG2.1 hz0 (fun q hq => (hO0.ge q hq).1); have hB2' := hB8.below hbW2)
              | (at_builtin; refine app_nums rfl (.tmp 112) (.tmp 113) 23 rfl w8.heap.size 3 .i64 8 Try.underlying23 infIb (by decide) A2 n2 c2 hs rfl hO2 B d gs (congrArg (fun k => Value.slice B k d) HM.out) hB2' hl2 hbW2.size ?_; intro A3 n3 c3 W3 hO3 hG3; have hbW3 : Below w8.heap.size w8 W3 := hbW2.grown hG3.1 hbW2.size (fun q hq => (hO2.ge q hq).1); have HFA := hid (from_kr (n := n3) (c := c3) (xs := hs ++ gs) HL.out.wf HL.out.cs HL.out.l30 hbW3 hO3.len3 hO3.nums HX.out.1 HX.out.2))
              | (go_at_call 7; refine HFA.out.mono ?_; rintro e wA ⟨pa, Aa, ca, Fg, rfl, hKa, _, hbA⟩))
            have hb8A : Below w8.heap.size w8 wA := hbW3.trans (Below.mono hbA hbW3.size)
            have HKa := hid (HL.out.kr.eq hKa (fun i => by simp [Wth, Gv, or_comm]))
            clear hz0 hO0 HB28 hl1 hl2 HX hO2 hG2 hbW2 hB2' hO3 hG3 hbW3 HFA hbA
            have HFB := hid (from_kr (n := 0) (c := 0) (B := none) (xs := []) HL.out.wf HL.out.cs HL.out.l30 hb8A rfl Nums.nil (by simp) (by simp))
            go_upto_region 21 with (go_at_call 7; refine HFB.out.mono ?_; rintro e wB ⟨pb, Ab, cb, Fb, rfl, hKb, hfb, hbB⟩)
            have hfb2 : ∀ b, fblk Ab b → wA.heap.size ≤ b := fun b hb => hfb b (.inr (.inl hb))
            have HFb := hid hfb2
            have hb8B := hb8A.trans (Below.mono hbB hb8A.size)
            clear HFB hfb hfb2
            have HKb0 : Hid (∃ F, KR L (fun i => (i : Int) ∈ gs.reverse.take 0) wB pb Ab cb F) := hid ⟨Fb, hKb.same fun i => by simp [Gv]⟩
            clear hKb
            go_upto_region 24 with (fail)
            go_loopw [131] (fun v wr => ∃ j : Nat, j ≤ m ∧ v = .int .i64 j ∧ Hid (∃ F, KR L (fun i => (i : Int) ∈ gs.reverse.take j) wr pb Ab cb F) ∧ Below wA.heap.size wA wr) (fun v _ => m - (intOf v).toNat)
            case atStart => exact ⟨0, Nat.zero_le _, rfl, HKb0, hbB⟩
            case round =>
              obtain ⟨j, hj, rfl, HKr, hbr⟩ := hrel
              clear HKb0 hbB hb8B
              by_cases hlt : j < m
              · obtain ⟨k, hk⟩ : ∃ k : Nat, j + k + 1 = m := ⟨m - 1 - j, by omega⟩
                have hb8r := hb8A.trans (Below.mono hbr hb8A.size)
                obtain ⟨b, off, x, rfl, _, hcell, hx⟩ := (hB8.below hb8r).get (i := k) (by rw [← HM.out]; omega)
                have HMo : Hid (Calls Try.prog 19 #[.pointer (some ⟨pb, 0, none⟩), .slice (some ⟨wr.heap.size, 0, none⟩) 1 1] (wr.alloc (.cells #[.int .i64 x] 3)) fun e w' => e = .returned (.int .i64 0) ∧ (∃ F2, KR L (fun i => (i : Int) ∈ gs.reverse.take (j + 1)) w' pb Ab cb F2) ∧ Below wA.heap.size wA w') := hid (by
                  obtain ⟨F0, hK0⟩ := HKr.out
                  exact more_one HL.out.wf hK0 (HL.out.g x (List.mem_of_getElem? hx.out)) HL.out.l30 hbr HFb.out (fun i => take_next (rev_at (by rw [← HM.out]; exact hk) hx.out) _))
                have hlt' : (j : Int) < m := by omega
                have j0 : (0 : Int) ≤ j := by omega
                have j1 : j + 1 ≤ m := by omega
                have k0 : (0 : Int) ≤ (m : Int) - 1 - j := by omega
                have k1 : (m : Int) - 1 - j < m := by omega
                have k2 : ((m : Int) - 1 - j).toNat = k := by omega
                clear hlt hj hk HKr hx
                go_upto_region 26 with (fail)
                go_wp2_with (go_at_call 19; refine HMo.out.mono ?_; rintro e w' ⟨rfl, hK2, hb2⟩; have HK2 := hid hK2; clear hK2)
                go_roundw
                case rel => exact ⟨j + 1, j1, by go_num, HK2, hb2⟩
                case measure => simp [intOf]; omega
              · obtain rfl : m = j := by omega
                have HK0 : Hid (∃ F, KR L (fun i => (i : Int) ∈ gs ∨ (i : Int) ∈ hs.take 0) wr pb Ab cb F) := hid (by
                  obtain ⟨F0, h0⟩ := HKr.out
                  exact ⟨F0, h0.same fun i => by rw [List.take_of_length_le (by rw [List.length_reverse, ← HM.out]; exact Nat.le_refl _)]; simp⟩)
                clear HKr hlt hj
                go_upto_region 29 with (fail)
                obtain ⟨wq, hwq⟩ : ∃ W, wr = W := ⟨_, rfl⟩
                subst hwq
                go_loopw [148] (fun v wr => ∃ j : Nat, j ≤ m2 ∧ v = .int .i64 j ∧ Hid (∃ F, KR L (fun i => (i : Int) ∈ gs ∨ (i : Int) ∈ hs.take j) wr pb Ab cb F) ∧ Below wA.heap.size wA wr) (fun v _ => m2 - (intOf v).toNat)
                case atStart => exact ⟨0, Nat.zero_le _, rfl, HK0, hbr⟩
                case round =>
                  clear HK0 hbr
                  obtain ⟨j, hj, rfl, HKr, hbr⟩ := hrel
                  have hb8r := hb8A.trans (Below.mono hbr hb8A.size)
                  by_cases hlt : j < m2
                  · obtain ⟨b, off, x, rfl, _, hcell, hx⟩ := (hB28.below hb8r).get (i := j) (by rw [← HM2.out]; omega)
                    have HMo : Hid (Calls Try.prog 19 #[.pointer (some ⟨pb, 0, none⟩), .slice (some ⟨wr.heap.size, 0, none⟩) 1 1] (wr.alloc (.cells #[.int .i64 x] 3)) fun e w' => e = .returned (.int .i64 0) ∧ (∃ F2, KR L (fun i => (i : Int) ∈ gs ∨ (i : Int) ∈ hs.take (j + 1)) w' pb Ab cb F2) ∧ Below wA.heap.size wA w') := hid (by
                      obtain ⟨F0, hK0⟩ := HKr.out
                      exact more_one HL.out.wf hK0 (HL.out.h x (List.mem_of_getElem? hx.out)) HL.out.l30 hbr HFb.out (fun i => by rw [← take_next hx.out, or_assoc]))
                    have hlt' : (j : Int) < m2 := by omega
                    have j0 : (0 : Int) ≤ j := by omega
                    have j1 : j + 1 ≤ m2 := by omega
                    clear hlt hj HKr hx
                    go_upto_region 31 with (fail)
                    go_wp2_with (go_at_call 19; refine HMo.out.mono ?_; rintro e w' ⟨rfl, hK2, hb2⟩; have HK2 := hid hK2; clear hK2)
                    go_roundw
                    case rel => exact ⟨j + 1, j1, by go_num, HK2, hb2⟩
                    case measure => simp [intOf]; omega
                  · obtain rfl : m2 = j := by omega
                    obtain ⟨F3, hK3⟩ := HKr.out
                    have HKb := hid (HL.out.kr.eq hK3 (fun i => by rw [List.take_of_length_le (by rw [← HM2.out]; exact Nat.le_refl _)]; simp [Wth, Gv]))
                    have HLk : Hid (∀ W, Below w8.heap.size w8 W → Calls Try.prog 18 #[.pointer (some ⟨pk, 0, none⟩)] W fun e w' => ∃ A3 c3, e = .returned (.slice A3 nk c3) ∧ NumsF W.heap.size w' .i64 A3 xs ∧ Below W.heap.size W w') := hid fun W hb => list_kr HL.out.kr HL.out.l30 HL.out.kx HNk.out hb
                    have HFC : Hid (∀ W A c, Below w8.heap.size w8 W → Nums W .i64 A xs → Calls Try.prog 7 #[.pointer (some ⟨p, 0, none⟩), .slice A nk c] W fun e w' => ∃ pc Ac cc Fc', e = .returned (.tuple #[.pointer (some ⟨pc, 0, none⟩), .int .i64 0]) ∧ KR L (Gv xs) w' pc Ac cc Fc' ∧ (∀ b, kfoot pc Ac Fc' b → W.heap.size ≤ b) ∧ Below W.heap.size W w') := hid fun W A c hb hN => from_kr HL.out.wf HL.out.cs HL.out.l30 hb HNk.out hN (fun x hx => by
                      rw [← HL.out.kx] at hx
                      obtain ⟨i, e, h1, _⟩ := fl_mem.1 hx
                      omega) (by rw [← HNk.out]; omega)
                    clear HKr hlt hj
                    go_upto_region 34 with (first
                      | (go_at_call 18; refine (HLk.out wr hb8r).mono ?_; rintro e wC ⟨A4, c4, rfl, hN4, hbC⟩; have hb8C := hb8r.trans (Below.mono hbC hb8r.size); have HFC2 := hid (HFC.out wC A4 c4 hb8C hN4.nums))
                      | (go_at_call 7; refine HFC2.out.mono ?_; rintro e wD ⟨pc, Ac, cc, Fc2, rfl, hKc, _, hbD⟩))
                    have hbCD := hbC.trans (Below.mono hbD hbC.size)
                    have hb8D := hb8r.trans (Below.mono hbCD hb8r.size)
                    have hbAD := hbr.trans (Below.mono hbCD hbr.size)
                    have HLa : Hid (∀ W, Below wD.heap.size wD W → Calls Try.prog 18 #[.pointer (some ⟨pa, 0, none⟩)] W fun e w' => ∃ A3 c3, e = .returned (.slice A3 nk c3) ∧ NumsF W.heap.size w' .i64 A3 xs ∧ Below W.heap.size W w') := hid fun W hb => list_kr (hKa.next hbAD) HL.out.l30 (by rw [← HKa.out]; exact HL.out.kx) HNk.out hb
                    have HLb : Hid (∀ W, Below wD.heap.size wD W → Calls Try.prog 18 #[.pointer (some ⟨pb, 0, none⟩)] W fun e w' => ∃ A3 c3, e = .returned (.slice A3 nk c3) ∧ NumsF W.heap.size w' .i64 A3 xs ∧ Below W.heap.size W w') := hid fun W hb => list_kr (hK3.next hbCD) HL.out.l30 (by rw [← HKb.out]; exact HL.out.kx) HNk.out hb
                    have HLc : Hid (∀ W, Below wD.heap.size wD W → Calls Try.prog 18 #[.pointer (some ⟨pc, 0, none⟩)] W fun e w' => ∃ A3 c3, e = .returned (.slice A3 nk c3) ∧ NumsF W.heap.size w' .i64 A3 xs ∧ Below W.heap.size W w') := hid fun W hb => list_kr hKc HL.out.l30 (by rw [HL.out.kr.again (by rw [HL.out.kx]; exact hKc)]; exact HL.out.kx) HNk.out hb
                    have HLk2 : Hid (∀ W, Below wD.heap.size wD W → Calls Try.prog 18 #[.pointer (some ⟨pk, 0, none⟩)] W fun e w' => ∃ A3 c3, e = .returned (.slice A3 nk c3) ∧ NumsF W.heap.size w' .i64 A3 xs ∧ Below W.heap.size W w') := hid fun W hb => HLk.out W (hb8D.trans (Below.mono hb hb8D.size))
                    have HIn : Hid (∀ (A3 A4 : Option Addr) (c3 c4 : Nat) (W : World), Nums W .i64 A3 xs → Nums W .i64 A4 xs → Calls Try.prog 17 #[.slice A3 nk c3, .slice A4 nk c4] W fun e w' => e = .returned (.bool true) ∧ Below W.heap.size W w') := hid fun A3 A4 c3 c4 W h1 h2 => ints_any A3 A4 nk nk c3 c4 xs xs true W (by omega) HNk.out HNk.out (decide_eq_true rfl) h1 h2
                    clear HKb hK3 hKc HKa hKa HLk HFC hbr hbCD hbAD HFb hN4 HFC2 hb8C hbC hbD hb8A hb8r
                    go_upto_region 37 with (first
                      | (go_at_call 18; refine (HLa.out wD (Below.refl _ _)).mono ?_; rintro e x1 ⟨L1, q1, rfl, hN1, hy1⟩; clear HLa)
                      | (go_at_call 18; refine (HLk2.out x1 hy1).mono ?_; rintro e x2 ⟨L2, q2, rfl, hN2, hx2⟩; have hy2 := hy1.trans (Below.mono hx2 hy1.size); have HI1 := hid (HIn.out L1 L2 q1 q2 x2 (hN1.nums.below hx2) hN2.nums); clear hN1 hN2 hx2 hy1)
                      | (go_at_call 17; refine HI1.out.mono ?_; rintro e x3 ⟨rfl, hx3⟩; have hy3 := hy2.trans (Below.mono hx3 hy2.size); clear HI1 hx3 hy2)
                      | (go_at_call 18; refine (HLb.out x3 hy3).mono ?_; rintro e x4 ⟨L4, q4, rfl, hN4, hx4⟩; have hy4 := hy3.trans (Below.mono hx4 hy3.size); clear hy3 hx4)
                      | (go_at_call 18; refine (HLk2.out x4 hy4).mono ?_; rintro e x5 ⟨L5, q5, rfl, hN5, hx5⟩; have hy5 := hy4.trans (Below.mono hx5 hy4.size); have HI2 := hid (HIn.out L4 L5 q4 q5 x5 (hN4.nums.below hx5) hN5.nums); clear hN4 hN5 hx5 hy4)
                      | (go_at_call 17; refine HI2.out.mono ?_; rintro e x6 ⟨rfl, hx6⟩; have hy6 := hy5.trans (Below.mono hx6 hy5.size); clear HI2 hx6 hy5)
                      | (go_at_call 18; refine (HLc.out x6 hy6).mono ?_; rintro e x7 ⟨L7, q7, rfl, hN7, hx7⟩; have hy7 := hy6.trans (Below.mono hx7 hy6.size); clear hy6 hx7)
                      | (go_at_call 18; refine (HLk2.out x7 hy7).mono ?_; rintro e x8 ⟨L8, q8, rfl, hN8, hx8⟩; have hy8 := hy7.trans (Below.mono hx8 hy7.size); have HI3 := hid (HIn.out L7 L8 q7 q8 x8 (hN7.nums.below hx8) hN8.nums); clear hN7 hN8 hx8 hy7)
                      | (go_at_call 17; refine HI3.out.mono ?_; rintro e x9 ⟨rfl, hx9⟩; have hy9 := hy8.trans (Below.mono hx9 hy8.size); clear HI3 hx9 hy8))
                    have hb89 := hb8D.trans (Below.mono hy9 hb8D.size)
                    have HHk : Hid (∀ x ∈ ws, ∀ W, Below w8.heap.size w8 W → Calls Try.prog 14 #[.pointer (some ⟨pk, 0, none⟩), .int .i64 x] W (fun e w' => e = .returned (.bool true) ∧ W = w') ∧ Calls Try.prog 15 #[.pointer (some ⟨pk, 0, none⟩), .int .i64 x] W (fun e w' => e = .returned (.bool true) ∧ W = w')) := hid fun x hx W hb => by
                      obtain ⟨i, rfl, hk⟩ := HWk.out x hx
                      exact ⟨khas_any pk c1 A1 F2 i true W (HL.out.kr.ks.next hb) (hid (by simp [hk])), kcan_any pk c1 A1 F2 i true W (HL.out.kr.ks.next hb) (hid (by simp [HL.out.kr.least.1.kc i hk]))⟩
                    have hNw9 := hNw8.nums
                    clear HWk hNw8 HLb HLc HLk2 HIn hy9 hb8D
                    go_loopw [192] (fun v wr => ∃ j : Nat, j ≤ nw ∧ v = .int .i64 j ∧ Below w8.heap.size w8 wr) (fun v _ => nw - (intOf v).toNat)
                    case atStart => exact ⟨0, Nat.zero_le _, rfl, hb89⟩
                    case round =>
                      clear hb89
                      obtain ⟨j, hj, rfl, hbr⟩ := hrel
                      by_cases hlt : j < nw
                      · obtain ⟨b, off, x, rfl, _, hcell, hx⟩ := (hNw9.below hbr).get (i := j) (by rw [← HNw.out]; omega)
                        have hH := HHk.out x (List.mem_of_getElem? hx.out) wr hbr
                        have H1 := hid hH.1
                        have H2 := hid hH.2
                        have hlt' : (j : Int) < nw := by omega
                        have j0 : (0 : Int) ≤ j := by omega
                        have j1 : j + 1 ≤ nw := by omega
                        clear hlt hj hx hH
                        go_wp2_with (first
                          | (go_at_call 14; refine H1.out.mono ?_; rintro e w' ⟨rfl, rfl⟩)
                          | (go_at_call 15; refine H2.out.mono ?_; rintro e w' ⟨rfl, rfl⟩))
                        go_roundw
                        case rel => exact ⟨j + 1, j1, by go_num, hbr⟩
                        case measure => simp [intOf]; omega
                      · obtain rfl : nw = j := by omega
                        go_wp2
                        go_ret
                        exact ⟨rfl, hb08.trans (Below.mono hbr hb08.size)⟩
          · have HNo := hid (more_no pk A1 c1 F1 B2 d2 m2 hs w7 (hK.ks.next hb7) HM2.out (hB25.below hb57) (by rw [hK.ok.len]; exact hr2) (by omega))
            have HRi := hid (right_any AL L.length cL B2 m2 d2 hs false w7 HM2.out (hB25.below hb57) (decide_eq_false hr2) (by omega))
            have HL2 := hid (list_kr hK hL30 HWs.out HNw.out hb7)
            have HIn : Hid (∀ (A3 : Option Addr) (c3 : Nat) (W : World), Nums W .i64 A3 ws → Nums W .i64 Aw ws → Calls Try.prog 17 #[.slice A3 nw c3, .slice Aw nw cw] W fun e w' => e = .returned (.bool true) ∧ Below W.heap.size W w') := hid fun A3 c3 W h1 h2 => ints_any A3 Aw nw nw c3 cw ws ws true W (by omega) HNw.out HNw.out (decide_eq_true rfl) h1 h2
            clear hK hf1 hr hr2 hC hW hAL
            go_wp2_with (first
              | (go_at_call 19; refine HNo.out.mono ?_; rintro e w8 ⟨rfl, rfl⟩)
              | (go_at_call 11; refine HRi.out.mono ?_; rintro e w9 ⟨rfl, rfl⟩)
              | (go_at_call 18; refine HL2.out.mono ?_; rintro e w10 ⟨A3, c3, rfl, hN3, hb10⟩; have HIX := hid (HIn.out A3 c3 w10 hN3.nums (hNw.nums.below hb10)))
              | (go_at_call 17; refine HIX.out.mono ?_; rintro e w11 ⟨rfl, hb11⟩))
            go_ret
            exact ⟨rfl, (hb07.trans (Below.mono hb10 hb07.size)).trans (Below.mono hb11 (Nat.le_trans hb07.size hb10.size))⟩
        · have HF2 := hid (HFr.out.mono fun e w' h => fromQ_no hr h)
          have HRi : Hid (∀ w6, Below w5.heap.size w5 w6 → Calls Try.prog 11 #[.slice AL L.length cL, .slice B m d] w6 fun e w' => e = .returned (.bool false) ∧ w6 = w') := hid fun w6 hb => right_any AL L.length cL B m d gs false w6 HM.out (hB5.below hb) (decide_eq_false hr) (by omega)
          clear HFr hC hr hL30 hW hAL
          go_wp2_with (first
            | (go_at_call 7; refine HF2.out.mono ?_; rintro e w6 ⟨rfl, hb6⟩)
            | (go_at_call 11; refine (HRi.out w6 hb6).mono ?_; rintro e w7 ⟨rfl, rfl⟩))
          go_ret
          exact ⟨rfl, hb05.trans (Below.mono hb6 hb05.size)⟩
end Go.Proofs.Ytboofkmbjmnpeaa
