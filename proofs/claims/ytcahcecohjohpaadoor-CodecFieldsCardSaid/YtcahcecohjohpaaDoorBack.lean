/- CodecBack returns true. -/
import Derived.Test.YtcahcecohjohpaaDoorDec
import Derived.Test.YtcahcecohjohpaaDoorParseBack
import Derived.Test.YtcahcecohjohpaaDoorEncodes
import Derived.Test.YtcahcecohjohpaaDoorCSame
import Derived.Test.YtcahcecohjohpaaDoorRefSame
namespace Go.Proofs.YtcahcecohjohpaaDoor
open Go.RowKit

theorem tameL_of : ∀ l : List V, (∀ x ∈ l, tameV x) → tameL l
  | [], _ => by simp [tameL]
  | x :: l, h => by rw [tameL]; exact ⟨h x (by simp), tameL_of l fun y hy => h y (by simp [hy])⟩
theorem tame_of (v : V) : pureV v = true → (bytesV v).length ≤ 1048576 → tameV v := by
  induction v using V.ind with
  | h k n b l ih =>
    intro hp hl
    rw [pureV, Bool.and_eq_true] at hp
    obtain ⟨hpl, hpL⟩ := hp
    rw [tameV]
    rcases plain_kinds hpl with ⟨rfl, hn0, hn1, hb0, hl0⟩ | ⟨rfl, hn0, hl0⟩ | ⟨rfl, hn0, hb0, hl0⟩
    · exact ⟨by omega, by omega, tameL_of l fun x hx => by rw [List.eq_nil_of_length_eq_zero hl0] at hx; cases hx⟩
    · refine ⟨?_, by omega, tameL_of l fun x hx => by rw [List.eq_nil_of_length_eq_zero hl0] at hx; cases hx⟩
      unfold bytesV at hl
      rw [if_neg (by decide), if_pos rfl, List.length_append] at hl
      omega
    · refine ⟨by omega, by omega, tameL_of l fun x hx => ih x hx (pureL_mem hpL hx) ?_⟩
      have := bytesL_mem hx
      unfold bytesV at hl
      rw [if_neg (by decide), if_neg (by decide), List.length_append] at hl
      omega

theorem byt_list : ∀ l : List V, (∀ x ∈ l, Byt (bytesV x)) → Byt (bytesL l)
  | [], _ => fun x hx => by simp [bytesL] at hx
  | y :: l, h => fun x hx => by
    rw [bytesL] at hx
    rcases List.mem_append.1 hx with hx | hx
    · exact h y (by simp) x hx
    · exact byt_list l (fun z hz => h z (by simp [hz])) x hx
theorem has_byt (v : V) : ∀ (D : Nat) (w : World) (A B : Option Addr), pureV v = true → Has D w v A B → Byt (bytesV v) := by
  induction v using V.ind with
  | h k n b l ih =>
    intro D w A B hp hH
    rw [pureV, Bool.and_eq_true] at hp
    obtain ⟨hpl, hpL⟩ := hp
    rcases plain_kinds hpl with ⟨rfl, hn0, hn1, hb0, hl0⟩ | ⟨rfl, hn0, hl0⟩ | ⟨rfl, hn0, hb0, hl0⟩
    · have h8 := nb_le n hn0 hn1
      unfold bytesV
      rw [if_pos rfl]
      intro x hx
      rcases List.mem_append.1 hx with hx | hx
      · simp at hx
        rcases hx with rfl | rfl <;> omega
      · split at hx
        · exact pbytes_byt _ _ _ x hx
        · cases hx
    · unfold bytesV
      rw [if_neg (by decide), if_pos rfl]
      intro x hx
      rcases List.mem_append.1 hx with hx | hx
      · rcases List.mem_append.1 hx with hx | hx
        · obtain rfl : x = 2 := by simpa using hx
          omega
        · exact pbytes_byt _ _ _ x hx
      · exact hH.bytes.2.1 x hx
    · have hL : ∀ x ∈ l, Byt (bytesV x) := fun x hx => by
        obtain ⟨i, hi, he⟩ := List.getElem_of_mem hx
        obtain ⟨g, off, k1, n1, b1, l1, A1, c1, B1, d1, _, _, _, hX, _, _, _, _, hHx⟩ := hH.item hi
        have hX2 := hX.out
        rw [List.getElem?_eq_getElem hi, he] at hX2
        obtain rfl := Option.some.inj hX2
        exact ih _ hx D w A1 B1 (pureL_mem hpL hx) hHx
      unfold bytesV
      rw [if_neg (by decide), if_neg (by decide)]
      intro x hx
      rcases List.mem_append.1 hx with hx | hx
      · rcases List.mem_append.1 hx with hx | hx
        · obtain rfl : x = 3 := by simpa using hx
          omega
        · exact pbytes_byt _ _ _ x hx
      · exact byt_list l hL x hx

theorem has_new {w w' : World} {v : V} {A B : Option Addr} (h : Holds (New w w') w' v A B) : Has w'.heap.size w' v A B := ⟨Nat.le_refl _, h.sub fun _ hb => hb.2⟩
theorem same_self {w : World} {k n : Int} {b : List Int} {l : List V} {k2 n2 : Int} {b2 : List Int} {l2 : List V} {D D' : Nat} {A B A' B' : Option Addr} {c d c' d' : Nat} (h : V.mk k n b l = .mk k2 n2 b2 l2) (hA : Has D w (.mk k n b l) A B) (hB : Has D' w (.mk k2 n2 b2 l2) A' B') :
    Calls Tryd.prog 16 #[.agg #[.int .i64 k, .int .i64 n, .slice A b.length c, .slice B l.length d], .agg #[.int .i64 k2, .int .i64 n2, .slice A' b2.length c', .slice B' l2.length d']] w (Says true w) := by
  have := same_ok (.mk k n b l) k n b l rfl k2 n2 b2 l2 D D' A B A' B' c d c' d' w hA hB
  rwa [← h, sameV_refl] at this
theorem refSame_self {w : World} {k n : Int} {b : List Int} {l : List V} {k2 n2 : Int} {b2 : List Int} {l2 : List V} {D D' : Nat} {A B A' B' : Option Addr} {c d c' d' : Nat} (h : V.mk k n b l = .mk k2 n2 b2 l2) (hA : Has D w (.mk k n b l) A B) (hB : Has D' w (.mk k2 n2 b2 l2) A' B') :
    Calls Tryd.prog 17 #[.agg #[.int .i64 k, .int .i64 n, .slice A b.length c, .slice B l.length d], .agg #[.int .i64 k2, .int .i64 n2, .slice A' b2.length c', .slice B' l2.length d']] w (Says true w) := by
  have := refSame_any (.mk k n b l) k n b l rfl k2 n2 b2 l2 D D' A B A' B' c d c' d' w hA hB
  rwa [← h, sameV_refl] at this

theorem same_zero (w : World) : Calls Tryd.prog 16 #[.agg #[.int .i64 0, .int .i64 0, .slice none 0 0, .slice none 0 0], .agg #[.int .i64 0, .int .i64 0, .slice none 0 0, .slice none 0 0]] w (Says true w) :=
  have h : Has w.heap.size w (.mk 0 0 [] []) none none := ⟨Nat.le_refl _, .nil (fun h => absurd h (by simp)) (fun x hx => by cases hx) (by simp)⟩
  have h2 := same_ok (.mk 0 0 [] []) 0 0 [] [] rfl 0 0 [] [] w.heap.size w.heap.size none none none none 0 0 0 0 w h h
  by rw [sameV_refl] at h2; exact h2

set_option maxHeartbeats 1000000 in
theorem back_fit (k n : Int) (b : List Int) (l : List V) (A B : Option Addr) (c d : Nat) (Q : Option Addr) (m : Nat) (bs : List Int) (w : World) (hfew : Hid (fewV (.mk k n b l) = true)) (ht : Tabs w) (hH : Has w.heap.size w (.mk k n b l) A B)
    (hlen : bs.length ≤ 3000) (hc : bs.length ≤ m) (hm : m ≤ maxLen) (hby : Byt bs) (hA : Nums w .u8 Q bs) (HF : Hid (Fit (.mk k n b l) 16 1048576)) (v : V) (HV : Hid (parse 16 bs = .ok (v, []))) :
    Calls Tryd.prog 4 #[.agg #[.int .i64 k, .int .i64 n, .slice A b.length c, .slice B l.length d], .slice Q bs.length m] w fun e w' => e = .returned (.bool true) ∧ Below w.heap.size w w' := by
  have hff := few_fine hfew.out
  have hx := Box4.start w (.int .i64 k) (.int .i64 n) (.slice A b.length c) (.slice B l.length d) 25
  have ht1 := ht.stay hx.below
  obtain ⟨htm, hle⟩ := hff.2
  clear hff
  have hD := ht.1
  have HLI : Hid ((bs.length : Int) ≤ 3000) := hid (by omega)
  have hlI := HLI.out
  have hfb : Fine bs := ⟨hby, by omega⟩
  have hl20 : bs.length ≤ 1048576 := by omega
  have HPB : Hid (parse 16 (bytesV (.mk k n b l)) = .ok (.mk k n b l, [])) := hid (by have := parse_back (.mk k n b l) 16 [] HF.out.1 htm HF.out.2.1; rwa [List.append_nil] at this)
  have HBY := has_byt (.mk k n b l) w.heap.size w A B HF.out.1 hH
  have HFB : ∀ ys, Hid (ys = bytesV (.mk k n b l)) → Fine ys ∧ ys.length ≤ 1048576 ∧ Hid (parse 16 ys = .ok (.mk k n b l, [])) := fun ys h => by rw [h.out]; exact ⟨⟨HBY, by omega⟩, by omega, HPB⟩
  obtain ⟨hv1, hv2, hv3, _⟩ := parse_forth 16 bs v [] hby HV.out
  rw [List.append_nil] at hv1
  have HVB : Hid (bytesV v = bs) := hid hv1.symm
  have hfv : Fit v 16 1048576 := ⟨hv2, hv3, by rw [HVB.out]; omega⟩
  have htv : tameV v := tame_of v hv2 (by rw [HVB.out]; omega)
  have hbm : bs.length ≤ maxLen := by unfold maxLen; omega
  have HFV := hid hfv
  have HHB : Hid (∀ ys : List Int, Hid (ys = bytesV v) → ys = bs ∧ ys.length ≤ maxLen) := hid fun ys h => by rw [h.out, HVB.out]; exact ⟨rfl, hbm⟩
  clear hv1 hv2 hv3 hfv
  go_enter Tryd.func4, Tryd.ntmps4
  go_wp2_with (first
    | (go_at_call 6; refine (awake_any _ ht1).mono ?_; rintro e w1 ⟨rfl, hb1⟩; have hx1 := hx.next hb1; have ht2 := ht1.stay hb1; obtain ⟨c0, c1, c2, c3⟩ := hx1.cells)
    | (go_at_call 7; refine (few_any k n b l w.heap.size A B c d _ (hH.stay hx1.below)).mono ?_; rintro e w2 ⟨rfl, hb2⟩; rw [hfew.out]; have hx2 := hx1.next hb2; have ht3 := ht2.stay hb2; obtain ⟨d0, d1, d2, d3⟩ := hx2.cells)
    | (go_at_call 14; refine (same_eq B8 Q d8 m ys8 bs _ HQ8.out.1 HQ8.out.2 hN8.nums (hA.below hx8.below)).mono ?_; rintro e w9 ⟨rfl, hb9⟩)
    | (go_at_call 9; refine ((encode_any k7 n7 b7 l7 w7.heap.size A7 B7 c7 d7 _ htv ((ht.stay hx7.below).stay (below_new _ _)) (ht.stay hx7.below).1 ((has_new hH7).stay (below_new _ _))).mono fun _ _ h => h.caps HFV.out).mono ?_; rintro e w8 ⟨B8, d8, ys8, rfl, HY8, hN8, HC8, hb8⟩; have hx8 := (hx7.next (below_new _ _)).next hb8; have HQ8 := hid (HHB.out ys8 HY8))
    | (go_at_call 15; refine ((decode_any Q m bs _ hfb hl20 hc hm (hA.below hx6.below) (ht.stay hx6.below)).mono fun _ _ h => h.yes HV.out).mono ?_; rintro e w7 ⟨k7, n7, b7, l7, A7, c7, B7, d7, rfl, rfl, hH7, hb7⟩; have hx7 := hx6.next hb7)
    | (go_at_call 17; refine (refSame_self rfl ((has_new hH4).stay hy5.below) (hH.stay hx5.below)).mono ?_; rintro e w6 ⟨rfl, hb6⟩; have hx6 := hx5.next hb6)
    | (go_at_call 16; refine (same_self rfl ((has_new hH4).stay (below_new _ _)) (hH.stay (hx4.next (below_new _ _)).below)).mono ?_; rintro e w5 ⟨rfl, hb5⟩; have hx5 := (hx4.next (below_new _ _)).next hb5; have hy5 := (Box4.start w4 (.int .i64 k) (.int .i64 n) (.slice A4 b.length c4) (.slice B4 l.length d4) 25).next hb5; obtain ⟨g0, g1, g2, g3⟩ := hx5.cells; obtain ⟨i0, i1, i2, i3⟩ := hy5.cells)
    | (go_at_call 15; refine ((decode_any B3 d3' ys3 _ hf3.1 hf3.2.1 HC3.out.1 HC3.out.2 hN3.nums ht4).mono fun _ _ h => h.yes hf3.2.2.out).mono ?_; rintro e w4 ⟨k4, n4, b4, l4, A4, c4, B4, d4, hv4, rfl, hH4, hb4⟩; injection hv4 with hv4 hv5 hv6 hv7; subst hv4; subst hv5; subst hv6; subst hv7; have hx4 := hx3.next hb4; have hl4 := hx4.lt; obtain ⟨f0, f1, f2, f3⟩ := hx4.cells)
    | (go_at_call 9; refine ((encode_any k n b l w.heap.size A B c d _ htm ht3 hD (hH.stay hx2.below)).mono fun _ _ h => h.caps HF.out).mono ?_; rintro e w3 ⟨B3, d3', ys3, rfl, HY3, hN3, HC3, hb3⟩; have hx3 := hx2.next hb3; have ht4 := ht3.stay hb3; obtain ⟨e0, e1, e2, e3⟩ := hx3.cells; have hf3 := HFB ys3 HY3))
  go_ret
  exact ⟨rfl, nextB hx8.below hb9⟩

set_option maxHeartbeats 1000000 in
theorem back_fit_bad (k n : Int) (b : List Int) (l : List V) (A B : Option Addr) (c d : Nat) (Q : Option Addr) (m : Nat) (bs : List Int) (w : World) (hfew : Hid (fewV (.mk k n b l) = true)) (ht : Tabs w) (hH : Has w.heap.size w (.mk k n b l) A B)
    (hlen : bs.length ≤ 3000) (hc : bs.length ≤ m) (hm : m ≤ maxLen) (hby : Byt bs) (hA : Nums w .u8 Q bs) (HF : Hid (Fit (.mk k n b l) 16 1048576)) (HV : Hid (∀ v, parse 16 bs ≠ .ok (v, []))) :
    Calls Tryd.prog 4 #[.agg #[.int .i64 k, .int .i64 n, .slice A b.length c, .slice B l.length d], .slice Q bs.length m] w fun e w' => e = .returned (.bool true) ∧ Below w.heap.size w w' := by
  have hff := few_fine hfew.out
  have hx := Box4.start w (.int .i64 k) (.int .i64 n) (.slice A b.length c) (.slice B l.length d) 25
  have ht1 := ht.stay hx.below
  obtain ⟨htm, hle⟩ := hff.2
  clear hff
  have hD := ht.1
  have HLI : Hid ((bs.length : Int) ≤ 3000) := hid (by omega)
  have hlI := HLI.out
  have hfb : Fine bs := ⟨hby, by omega⟩
  have hl20 : bs.length ≤ 1048576 := by omega
  have HPB : Hid (parse 16 (bytesV (.mk k n b l)) = .ok (.mk k n b l, [])) := hid (by have := parse_back (.mk k n b l) 16 [] HF.out.1 htm HF.out.2.1; rwa [List.append_nil] at this)
  have HBY := has_byt (.mk k n b l) w.heap.size w A B HF.out.1 hH
  have HFB : ∀ ys, Hid (ys = bytesV (.mk k n b l)) → Fine ys ∧ ys.length ≤ 1048576 ∧ Hid (parse 16 ys = .ok (.mk k n b l, [])) := fun ys h => by rw [h.out]; exact ⟨⟨HBY, by omega⟩, by omega, HPB⟩
  go_enter Tryd.func4, Tryd.ntmps4
  go_wp2_with (first
    | (go_at_call 6; refine (awake_any _ ht1).mono ?_; rintro e w1 ⟨rfl, hb1⟩; have hx1 := hx.next hb1; have ht2 := ht1.stay hb1; obtain ⟨c0, c1, c2, c3⟩ := hx1.cells)
    | (go_at_call 7; refine (few_any k n b l w.heap.size A B c d _ (hH.stay hx1.below)).mono ?_; rintro e w2 ⟨rfl, hb2⟩; rw [hfew.out]; have hx2 := hx1.next hb2; have ht3 := ht2.stay hb2; obtain ⟨d0, d1, d2, d3⟩ := hx2.cells)
    | (go_at_call 16; refine (same_zero (w7.alloc nilBox)).mono ?_; rintro e w8 ⟨rfl, hb8⟩)
    | (go_at_call 15; refine ((decode_any Q m bs _ hfb hl20 hc hm (hA.below hx6.below) (ht.stay hx6.below)).mono fun _ _ h => h.no HV.out).mono ?_; rintro e w7 ⟨er, he0, rfl, hb7⟩; have hE0 : (er != 0) = true := (by rw [bne_iff_ne]; exact he0); have hx7 := hx6.next hb7)
    | (go_at_call 17; refine (refSame_self rfl ((has_new hH4).stay hy5.below) (hH.stay hx5.below)).mono ?_; rintro e w6 ⟨rfl, hb6⟩; have hx6 := hx5.next hb6)
    | (go_at_call 16; refine (same_self rfl ((has_new hH4).stay (below_new _ _)) (hH.stay (hx4.next (below_new _ _)).below)).mono ?_; rintro e w5 ⟨rfl, hb5⟩; have hx5 := (hx4.next (below_new _ _)).next hb5; have hy5 := (Box4.start w4 (.int .i64 k) (.int .i64 n) (.slice A4 b.length c4) (.slice B4 l.length d4) 25).next hb5; obtain ⟨g0, g1, g2, g3⟩ := hx5.cells; obtain ⟨i0, i1, i2, i3⟩ := hy5.cells)
    | (go_at_call 15; refine ((decode_any B3 d3' ys3 _ hf3.1 hf3.2.1 HC3.out.1 HC3.out.2 hN3.nums ht4).mono fun _ _ h => h.yes hf3.2.2.out).mono ?_; rintro e w4 ⟨k4, n4, b4, l4, A4, c4, B4, d4, hv4, rfl, hH4, hb4⟩; injection hv4 with hv4 hv5 hv6 hv7; subst hv4; subst hv5; subst hv6; subst hv7; have hx4 := hx3.next hb4; have hl4 := hx4.lt; obtain ⟨f0, f1, f2, f3⟩ := hx4.cells)
    | (go_at_call 9; refine ((encode_any k n b l w.heap.size A B c d _ htm ht3 hD (hH.stay hx2.below)).mono fun _ _ h => h.caps HF.out).mono ?_; rintro e w3 ⟨B3, d3', ys3, rfl, HY3, hN3, HC3, hb3⟩; have hx3 := hx2.next hb3; have ht4 := ht3.stay hb3; obtain ⟨e0, e1, e2, e3⟩ := hx3.cells; have hf3 := HFB ys3 HY3))
  go_ret
  exact ⟨rfl, nextB (nextB hx7.below (below_new _ _)) hb8⟩

set_option maxHeartbeats 1000000 in
theorem back_not (k n : Int) (b : List Int) (l : List V) (A B : Option Addr) (c d : Nat) (Q : Option Addr) (m : Nat) (bs : List Int) (w : World) (hfew : Hid (fewV (.mk k n b l) = true)) (ht : Tabs w) (hH : Has w.heap.size w (.mk k n b l) A B)
    (hlen : bs.length ≤ 3000) (hc : bs.length ≤ m) (hm : m ≤ maxLen) (hby : Byt bs) (hA : Nums w .u8 Q bs) (HF : Hid (¬ Fit (.mk k n b l) 16 1048576)) (v : V) (HV : Hid (parse 16 bs = .ok (v, []))) :
    Calls Tryd.prog 4 #[.agg #[.int .i64 k, .int .i64 n, .slice A b.length c, .slice B l.length d], .slice Q bs.length m] w fun e w' => e = .returned (.bool true) ∧ Below w.heap.size w w' := by
  have hff := few_fine hfew.out
  have hx := Box4.start w (.int .i64 k) (.int .i64 n) (.slice A b.length c) (.slice B l.length d) 25
  have ht1 := ht.stay hx.below
  obtain ⟨htm, hle⟩ := hff.2
  clear hff
  have hD := ht.1
  have HLI : Hid ((bs.length : Int) ≤ 3000) := hid (by omega)
  have hlI := HLI.out
  have hfb : Fine bs := ⟨hby, by omega⟩
  have hl20 : bs.length ≤ 1048576 := by omega
  obtain ⟨hv1, hv2, hv3, _⟩ := parse_forth 16 bs v [] hby HV.out
  rw [List.append_nil] at hv1
  have HVB : Hid (bytesV v = bs) := hid hv1.symm
  have hfv : Fit v 16 1048576 := ⟨hv2, hv3, by rw [HVB.out]; omega⟩
  have htv : tameV v := tame_of v hv2 (by rw [HVB.out]; omega)
  have hbm : bs.length ≤ maxLen := by unfold maxLen; omega
  have HFV := hid hfv
  have HHB : Hid (∀ ys : List Int, Hid (ys = bytesV v) → ys = bs ∧ ys.length ≤ maxLen) := hid fun ys h => by rw [h.out, HVB.out]; exact ⟨rfl, hbm⟩
  clear hv1 hv2 hv3 hfv
  go_enter Tryd.func4, Tryd.ntmps4
  go_wp2_with (first
    | (go_at_call 6; refine (awake_any _ ht1).mono ?_; rintro e w1 ⟨rfl, hb1⟩; have hx1 := hx.next hb1; have ht2 := ht1.stay hb1; obtain ⟨c0, c1, c2, c3⟩ := hx1.cells)
    | (go_at_call 7; refine (few_any k n b l w.heap.size A B c d _ (hH.stay hx1.below)).mono ?_; rintro e w2 ⟨rfl, hb2⟩; rw [hfew.out]; have hx2 := hx1.next hb2; have ht3 := ht2.stay hb2; obtain ⟨d0, d1, d2, d3⟩ := hx2.cells)
    | (go_at_call 14; refine (same_eq B8 Q d8 m ys8 bs _ HQ8.out.1 HQ8.out.2 hN8.nums (hA.below hx8.below)).mono ?_; rintro e w9 ⟨rfl, hb9⟩)
    | (go_at_call 9; refine ((encode_any k7 n7 b7 l7 w7.heap.size A7 B7 c7 d7 _ htv ((ht.stay hx7.below).stay (below_new _ _)) (ht.stay hx7.below).1 ((has_new hH7).stay (below_new _ _))).mono fun _ _ h => h.caps HFV.out).mono ?_; rintro e w8 ⟨B8, d8, ys8, rfl, HY8, hN8, HC8, hb8⟩; have hx8 := (hx7.next (below_new _ _)).next hb8; have HQ8 := hid (HHB.out ys8 HY8))
    | (go_at_call 15; refine ((decode_any Q m bs _ hfb hl20 hc hm (hA.below hx6.below) (ht.stay hx6.below)).mono fun _ _ h => h.yes HV.out).mono ?_; rintro e w7 ⟨k7, n7, b7, l7, A7, c7, B7, d7, rfl, rfl, hH7, hb7⟩; have hx7 := hx6.next hb7)
    | (go_at_call 9; refine ((encode_any k n b l w.heap.size A B c d _ htm ht3 hD (hH.stay hx2.below)).mono fun _ _ h => h.no HF.out).mono ?_; rintro e w3 ⟨rfl, hb3⟩; have hx6 := hx2.next hb3))
  go_ret
  exact ⟨rfl, nextB hx8.below hb9⟩

set_option maxHeartbeats 1000000 in
theorem back_not_bad (k n : Int) (b : List Int) (l : List V) (A B : Option Addr) (c d : Nat) (Q : Option Addr) (m : Nat) (bs : List Int) (w : World) (hfew : Hid (fewV (.mk k n b l) = true)) (ht : Tabs w) (hH : Has w.heap.size w (.mk k n b l) A B)
    (hlen : bs.length ≤ 3000) (hc : bs.length ≤ m) (hm : m ≤ maxLen) (hby : Byt bs) (hA : Nums w .u8 Q bs) (HF : Hid (¬ Fit (.mk k n b l) 16 1048576)) (HV : Hid (∀ v, parse 16 bs ≠ .ok (v, []))) :
    Calls Tryd.prog 4 #[.agg #[.int .i64 k, .int .i64 n, .slice A b.length c, .slice B l.length d], .slice Q bs.length m] w fun e w' => e = .returned (.bool true) ∧ Below w.heap.size w w' := by
  have hff := few_fine hfew.out
  have hx := Box4.start w (.int .i64 k) (.int .i64 n) (.slice A b.length c) (.slice B l.length d) 25
  have ht1 := ht.stay hx.below
  obtain ⟨htm, hle⟩ := hff.2
  clear hff
  have hD := ht.1
  have HLI : Hid ((bs.length : Int) ≤ 3000) := hid (by omega)
  have hlI := HLI.out
  have hfb : Fine bs := ⟨hby, by omega⟩
  have hl20 : bs.length ≤ 1048576 := by omega
  go_enter Tryd.func4, Tryd.ntmps4
  go_wp2_with (first
    | (go_at_call 6; refine (awake_any _ ht1).mono ?_; rintro e w1 ⟨rfl, hb1⟩; have hx1 := hx.next hb1; have ht2 := ht1.stay hb1; obtain ⟨c0, c1, c2, c3⟩ := hx1.cells)
    | (go_at_call 7; refine (few_any k n b l w.heap.size A B c d _ (hH.stay hx1.below)).mono ?_; rintro e w2 ⟨rfl, hb2⟩; rw [hfew.out]; have hx2 := hx1.next hb2; have ht3 := ht2.stay hb2; obtain ⟨d0, d1, d2, d3⟩ := hx2.cells)
    | (go_at_call 16; refine (same_zero _).mono ?_; rintro e w8 ⟨rfl, hb8⟩)
    | (go_at_call 15; refine ((decode_any Q m bs _ hfb hl20 hc hm (hA.below hx6.below) (ht.stay hx6.below)).mono fun _ _ h => h.no HV.out).mono ?_; rintro e w7 ⟨er, he0, rfl, hb7⟩; have hE0 : (er != 0) = true := (by rw [bne_iff_ne]; exact he0); have hx7 := hx6.next hb7)
    | (go_at_call 9; refine ((encode_any k n b l w.heap.size A B c d _ htm ht3 hD (hH.stay hx2.below)).mono fun _ _ h => h.no HF.out).mono ?_; rintro e w3 ⟨rfl, hb3⟩; have hx6 := hx2.next hb3))
  go_ret
  exact ⟨rfl, nextB (nextB hx7.below (below_new _ _)) hb8⟩

set_option maxHeartbeats 1000000 in
theorem codecBack_walk (w : World) (ht : Tabs w) (k n : Int) (b : List Int) (l : List V) (A B : Option Addr) (c d : Nat) (hH : Has w.heap.size w (.mk k n b l) A B) (Q : Option Addr) (m : Nat) (bs : List Int) (hc : bs.length ≤ m) (hm : m ≤ maxLen) (hby : ∀ x ∈ bs, (Lit.int .u8 x).wf = true) (hA : Nums w .u8 Q bs) :
    Calls Tryd.prog 4 #[.agg #[.int .i64 k, .int .i64 n, .slice A b.length c, .slice B l.length d], .slice Q bs.length m] w fun e w' => e = .returned (.bool true) ∧ Below w.heap.size w w' := by
  have hbyt : Byt bs := fun x hx => by have h := hby x hx; have h1 : IntKind.u8.min = 0 := (by decide); have h2 : IntKind.u8.max = 255 := (by decide); simp [Lit.wf] at h; omega
  have hx := Box4.start w (.int .i64 k) (.int .i64 n) (.slice A b.length c) (.slice B l.length d) 25
  have ht1 := ht.stay hx.below
  cases hf : fewV (.mk k n b l) with
  | false =>
    have HF := hid hf
    clear hf
    go_enter Tryd.func4, Tryd.ntmps4
    go_wp2_with (first
      | (go_at_call 6; refine (awake_any _ ht1).mono ?_; rintro e w1 ⟨rfl, hb1⟩; have hx1 := hx.next hb1; obtain ⟨c0, c1, c2, c3⟩ := hx1.cells)
      | (go_at_call 7; refine (few_any k n b l _ A B c d _ (hH.stay hx1.below)).mono ?_; rintro e w2 ⟨rfl, hb2⟩; rw [HF.out]; have hx2 := hx1.next hb2))
    go_ret
    exact ⟨rfl, hx2.below⟩
  | true =>
    have HF := hid hf
    clear hf
    by_cases hlen : bs.length ≤ 3000
    · by_cases hfit : Fit (.mk k n b l) 16 1048576
      · by_cases hv : ∃ v, parse 16 bs = .ok (v, [])
        · obtain ⟨v, hv⟩ := hv
          exact back_fit k n b l A B c d Q m bs w HF ht hH hlen hc hm hbyt hA (hid hfit) v (hid hv)
        · exact back_fit_bad k n b l A B c d Q m bs w HF ht hH hlen hc hm hbyt hA (hid hfit) (hid fun v h => hv ⟨v, h⟩)
      · by_cases hv : ∃ v, parse 16 bs = .ok (v, [])
        · obtain ⟨v, hv⟩ := hv
          exact back_not k n b l A B c d Q m bs w HF ht hH hlen hc hm hbyt hA (hid hfit) v (hid hv)
        · exact back_not_bad k n b l A B c d Q m bs w HF ht hH hlen hc hm hbyt hA (hid hfit) (hid fun v h => hv ⟨v, h⟩)
    · have hbig : (3000 : Int) < bs.length := by omega
      go_enter Tryd.func4, Tryd.ntmps4
      go_wp2_with (first
        | (go_at_call 6; refine (awake_any _ ht1).mono ?_; rintro e w1 ⟨rfl, hb1⟩; have hx1 := hx.next hb1; obtain ⟨c0, c1, c2, c3⟩ := hx1.cells)
        | (go_at_call 7; refine (few_any k n b l _ A B c d _ (hH.stay hx1.below)).mono ?_; rintro e w2 ⟨rfl, hb2⟩; rw [HF.out]; have hx2 := hx1.next hb2))
      go_ret
      exact ⟨rfl, hx2.below⟩
end Go.Proofs.YtcahcecohjohpaaDoor
