/- What is sealed is opened, and what is opened is what is sealed so. -/
import Derived.Test.YtpiamcgienkhaaaDoorG14
namespace Go.Proofs.YtpiamcgienkhaaaDoor
open Go Go.RowKit

theorem back_long (w : World) (vs : Array Value) (bx : Nat) (key nonce be : List Int) (A0 A1 A2 : Option Addr) (lb c0 lt c1 ls c2 : Nat) (hbx : bx = w.heap.size) (hL : LawW (w.alloc (.cells vs 26)) bx key nonce be A0 lb c0) (h : 300 < lb ∨ 300 < lt ∨ 300 < ls) : Calls Tryd.prog 5 #[.agg vs, .slice A1 lt c1, .slice A2 ls c2] w fun e w' => e = .returned (.bool true) ∧ Below w.heap.size w w' := by
  have hb0 := below_new w (.cells vs 26)
  have hbw : w.heap.size ≤ (w.alloc (.cells vs 26)).heap.size := hb0.size
  subst hbx
  have hd : (300 : Int) < lb ∨ ((lb : Int) ≤ 300 ∧ (300 : Int) < lt) ∨ ((lb : Int) ≤ 300 ∧ (lt : Int) ≤ 300 ∧ (300 : Int) < ls) := by omega
  clear h
  rcases hd with h3 | ⟨h3, h4⟩ | ⟨h3, h4, h5⟩
  · have e0 : decide ((300 : Int) < lb) = true := decide_eq_true h3
    clear h3
    go_enter Tryd.func5, Tryd.ntmps5
    go_wp2_with (go_at_call 6; refine (a_awake _ hL.tb).mono ?_; rintro e w2 ⟨rfl, hb2⟩; have cb := (hL.next hb2).ce)
    go_ret
    exact ⟨rfl, hb0.trans (hb2.mono hbw)⟩
  · have e0 : decide ((300 : Int) < lb) = false := decide_eq_false (by omega)
    have e1 : decide ((300 : Int) < lt) = true := decide_eq_true h4
    clear h3 h4
    go_enter Tryd.func5, Tryd.ntmps5
    go_wp2_with (go_at_call 6; refine (a_awake _ hL.tb).mono ?_; rintro e w2 ⟨rfl, hb2⟩; have cb := (hL.next hb2).ce)
    go_ret
    exact ⟨rfl, hb0.trans (hb2.mono hbw)⟩
  · have e0 : decide ((300 : Int) < lb) = false := decide_eq_false (by omega)
    have e1 : decide ((300 : Int) < lt) = false := decide_eq_false (by omega)
    have e2 : decide ((300 : Int) < ls) = true := decide_eq_true h5
    clear h3 h4 h5
    go_enter Tryd.func5, Tryd.ntmps5
    go_wp2_with (go_at_call 6; refine (a_awake _ hL.tb).mono ?_; rintro e w2 ⟨rfl, hb2⟩; have cb := (hL.next hb2).ce)
    go_ret
    exact ⟨rfl, hb0.trans (hb2.mono hbw)⟩
set_option maxRecDepth 50000 in
set_option maxHeartbeats 4000000 in
theorem back_yes (w : World) (vs : Array Value) (bx : Nat) (key nonce be : List Int) (A0 A1 A2 : Option Addr) (lb c0 lt c1 ls c2 : Nat) (hbx : bx = w.heap.size) (hL : LawW (w.alloc (.cells vs 26)) bx key nonce be A0 lb c0) (t s b1 x : List Int) (g : Bool) (mx : Nat) (hA1 : Nums w .u8 A1 t) (hA2 : Nums w .u8 A2 s)
    (hk : Hid (key.length = 32)) (hn : Hid (nonce.length = 12)) (hkb : HByt key) (hnb : HByt nonce) (HTB : HByt t) (HSB : HByt s) (HB1B : HByt b1) (HXB : HByt x) (PB : Hid (PL lb be)) (PT : Hid (t.length = lt)) (PS : Hid (s.length = ls)) (HB1L : Hid (b1.length = lt + 16)) (HXL : Hid (x.length = mx)) (_HLB : Hid (lb ≤ 300)) (HLT : Hid (lt ≤ 300)) (HLS : Hid (ls ≤ 300)) (hlb : (lb : Int) ≤ 300) (hlt : (lt : Int) ≤ 300) (hls : (ls : Int) ≤ 300) (HCB : Hid (lb ≤ c0)) (_HCT : Hid (lt ≤ c1)) (HCS : Hid (ls ≤ c2))
    (HB1 : Hid (sealL key nonce be t = b1)) (HE1 : Hid (openE key nonce be b1 = 0)) (HX1 : Hid (openL key nonce be b1 = t)) (HG : Hid (decide (t = s) = g)) (HX : Hid (openL key nonce be s = x)) (HE : Hid (openE key nonce be s = 0)) (HSX : Hid (sealL key nonce be x = s)) (HMX : Hid (mx ≤ 300)) (HMS : Hid (mx + 16 = ls)) : Calls Tryd.prog 5 #[.agg vs, .slice A1 lt c1, .slice A2 ls c2] w fun e w' => e = .returned (.bool true) ∧ Below w.heap.size w w' := by
  have hb0 := below_new w (.cells vs 26)
  have hT1 := hA1.below hb0
  have hS1 := hA2.below hb0
  subst hbx
  have e0 : decide ((300 : Int) < lb) = false := decide_eq_false (by omega)
  have e1 : decide ((300 : Int) < lt) = false := decide_eq_false (by omega)
  have e2 : decide ((300 : Int) < ls) = false := decide_eq_false (by omega)
  have egg : (g != g) = false := by simp
  clear hlb hlt hls hA1 hA2
  have i32 : (Tryd.prog.info? 22).map (·.size) = some (ints .u8 key).length := szV inf41 (il hk.out)
  have i12 : (Tryd.prog.info? 23).map (·.size) = some (ints .u8 nonce).length := szV infNo (il hn.out)
  have hW1 := hb0
  have hL1 := hL
  clear hb0 hL
  go_enter Tryd.func5, Tryd.ntmps5
  go_wp2_with (first
    | (go_at_call 6; generalize w.alloc (.cells vs 26) = w1 at *; refine (a_awake _ hL1.tb).mono ?_; rintro e w2 ⟨rfl, hb2⟩
       have hL2 := hL1.next hb2
       have hT2 := hT1.below hb2
       have hS2 := hS1.below hb2
       have hW2 := hW1.trans (hb2.mono hW1.size)
       have c2 := hL2.ce
       have k2k := hL2.ky.range
       have k2n := hL2.no.range
       clear hb2 hL1 hT1 hS1 hW1)
    | (with_reducible refine wpList_load_mid (op := ⟨some 33, .load 22 (.tmp 32), _, _, _, _⟩) rfl 22 (.tmp 32) rfl w.heap.size 0 rfl (ints .u8 key) _ k2k Tryd.underlying22 rfl i32 ?_)
    | (with_reducible refine wpList_load_mid (op := ⟨some 35, .load 23 (.tmp 34), _, _, _, _⟩) rfl 23 (.tmp 34) rfl w.heap.size 32 rfl (ints .u8 nonce) _ k2n Tryd.underlying23 rfl i12 ?_)
    | (go_at_call 7; (with_reducible refine (aseal_any key nonce be t A0 A1 lb c0 lt c1 _ hL2.tb hk hn hkb hnb HTB PB PT (by have := HLT.out; omega) HCB.out hL2.bs hT2).mono ?_); rintro e w3 ⟨A3, d3, rfl, hd3, hN3, hb3⟩
       rw [HB1.out] at hN3
       have HD3 := hid hd3
       obtain ⟨m3, hm3⟩ : ∃ m, lt + 16 = m := ⟨_, rfl⟩
       rw [hm3]
       have HM3 := hid hm3
       have hL3 := hL2.next hb3
       have hT3 := hT2.below hb3
       have hS3 := hS2.below hb3
       have hW3 := hW2.trans (hb3.mono hW2.size)
       have c3 := hL3.ce
       have k3k := hL3.ky.range
       have k3n := hL3.no.range
       clear hb3 hL2 hT2 hS2 hW2 hd3 hm3 k2k k2n c2)
    | (with_reducible refine wpList_load_mid (op := ⟨some 44, .load 22 (.tmp 43), _, _, _, _⟩) rfl 22 (.tmp 43) rfl w.heap.size 0 rfl (ints .u8 key) _ k3k Tryd.underlying22 rfl i32 ?_)
    | (with_reducible refine wpList_load_mid (op := ⟨some 46, .load 23 (.tmp 45), _, _, _, _⟩) rfl 23 (.tmp 45) rfl w.heap.size 32 rfl (ints .u8 nonce) _ k3n Tryd.underlying23 rfl i12 ?_)
    | (go_at_call 13; (with_reducible refine (aopen_any key nonce be b1 A0 A3 lb c0 m3 d3 _ hL3.tb hk hn hkb hnb HB1B PB (hid (HB1L.out.trans HM3.out)) (by have := HLT.out; have := HM3.out; omega) HCB.out (by have := HD3.out; have := HM3.out; omega) hL3.bs hN3).mono ?_); rintro e w4 ⟨A4, m4, d4, rfl, hm4, hN4, hb4⟩
       rw [HE1.out]
       rw [HX1.out] at hm4 hN4
       have HM4 := hid hm4
       have hB4 := hN3.below hb4
       have hL4 := hL3.next hb4
       have hT4 := hT3.below hb4
       have hS4 := hS3.below hb4
       have hW4 := hW3.trans (hb4.mono hW3.size)
       clear hb4 hL3 hT3 hS3 hW3 hm4 hN3 k3k k3n c3)
    | (go_at_call 8; (with_reducible refine (rsame_any A4 A1 m4 lt d4 c1 t t true _ (by have := HLT.out; have := PT.out; have := HM4.out; omega) HM4.out PT.out (decide_eq_true rfl) hN4 hT4).mono ?_); rintro e w5 ⟨rfl, hb5⟩
       have hB5 := hB4.below hb5
       have hL5 := hL4.next hb5
       have hT5 := hT4.below hb5
       have hS5 := hS4.below hb5
       have hW5 := hW4.trans (hb5.mono hW4.size)
       clear hb5 hL4 hT4 hS4 hW4 hN4 hB4)
    | (go_at_call 15; (with_reducible refine (aequal_any A1 A2 lt ls c1 c2 t s g _ (by have := HLT.out; omega) PT.out PS.out HTB HSB HG.out hT5 hS5).mono ?_); rintro e w6 ⟨rfl, hb6⟩
       have hB6 := hB5.below hb6
       have hL6 := hL5.next hb6
       have hT6 := hT5.below hb6
       have hS6 := hS5.below hb6
       have hW6 := hW5.trans (hb6.mono hW5.size)
       clear hb6 hL5 hT5 hS5 hW5 hB5)
    | (go_at_call 8; (with_reducible refine (rsame_any A1 A2 lt ls c1 c2 t s g _ (by have := HLT.out; omega) PT.out PS.out HG.out hT6 hS6).mono ?_); rintro e w7 ⟨rfl, hb7⟩
       have hB7 := hB6.below hb7
       have hL7 := hL6.next hb7
       have hT7 := hT6.below hb7
       have hS7 := hS6.below hb7
       have hW7 := hW6.trans (hb7.mono hW6.size)
       clear hb7 hL6 hT6 hS6 hW6 hB6)
    | (go_at_call 15; (with_reducible refine (aequal_any A3 A3 m3 m3 d3 d3 b1 b1 true _ (by have := HLT.out; have := HM3.out; omega) (HB1L.out.trans HM3.out) (HB1L.out.trans HM3.out) HB1B HB1B (decide_eq_true rfl) hB7 hB7).mono ?_); rintro e w8 ⟨rfl, hb8⟩
       have hL8 := hL7.next hb8
       have hT8 := hT7.below hb8
       have hS8 := hS7.below hb8
       have hW8 := hW7.trans (hb8.mono hW7.size)
       have c8 := hL8.ce
       have k8k := hL8.ky.range
       have k8n := hL8.no.range
       clear hb8 hL7 hT7 hS7 hW7 hB7)
    | (with_reducible refine wpList_load_mid (op := ⟨some 82, .load 22 (.tmp 81), _, _, _, _⟩) rfl 22 (.tmp 81) rfl w.heap.size 0 rfl (ints .u8 key) _ k8k Tryd.underlying22 rfl i32 ?_)
    | (with_reducible refine wpList_load_mid (op := ⟨some 84, .load 23 (.tmp 83), _, _, _, _⟩) rfl 23 (.tmp 83) rfl w.heap.size 32 rfl (ints .u8 nonce) _ k8n Tryd.underlying23 rfl i12 ?_)
    | (go_at_call 13; (with_reducible refine (aopen_any key nonce be s A0 A2 lb c0 ls c2 _ hL8.tb hk hn hkb hnb HSB PB PS (by have := HLS.out; omega) HCB.out HCS.out hL8.bs hS8).mono ?_); rintro e w9 ⟨A9, m9, d9, rfl, hm9, hN9, hb9⟩
       rw [HE.out]
       rw [HX.out] at hm9 hN9
       obtain rfl := HXL.out.symm.trans hm9
       have hL9 := hL8.next hb9
       have hT9 := hT8.below hb9
       have hS9 := hS8.below hb9
       have hW9 := hW8.trans (hb9.mono hW8.size)
       have c9 := hL9.ce
       have k9k := hL9.ky.range
       have k9n := hL9.no.range
       clear hb9 hL8 hT8 hS8 hW8 k8k k8n c8)
    | (with_reducible refine wpList_load_mid (op := ⟨some 98, .load 22 (.tmp 97), _, _, _, _⟩) rfl 22 (.tmp 97) rfl w.heap.size 0 rfl (ints .u8 key) _ k9k Tryd.underlying22 rfl i32 ?_)
    | (with_reducible refine wpList_load_mid (op := ⟨some 100, .load 23 (.tmp 99), _, _, _, _⟩) rfl 23 (.tmp 99) rfl w.heap.size 32 rfl (ints .u8 nonce) _ k9n Tryd.underlying23 rfl i12 ?_)
    | (go_at_call 7; (with_reducible refine (aseal_any key nonce be x A0 A9 lb c0 mx d9 _ hL9.tb hk hn hkb hnb HXB PB HXL (by have := HMX.out; omega) HCB.out hL9.bs hN9).mono ?_); rintro e w10 ⟨A10, d10, rfl, _, hN10, hb10⟩
       rw [HSX.out] at hN10
       rw [HMS.out]
       have hL10 := hL9.next hb10
       have hT10 := hT9.below hb10
       have hS10 := hS9.below hb10
       have hW10 := hW9.trans (hb10.mono hW9.size)
       clear hb10 hL9 hT9 hS9 hW9 hN9 k9k k9n c9)
    | (go_at_call 8; (with_reducible refine (rsame_any A10 A2 ls ls d10 c2 s s true _ (by have := HLS.out; omega) PS.out PS.out (decide_eq_true rfl) hN10 hS10).mono ?_); rintro e w11 ⟨rfl, hb11⟩; have hW11 := hW10.trans (hb11.mono hW10.size)))
  go_ret
  exact ⟨rfl, hW11⟩
set_option maxRecDepth 50000 in
set_option maxHeartbeats 4000000 in
theorem back_no (w : World) (vs : Array Value) (bx : Nat) (key nonce be : List Int) (A0 A1 A2 : Option Addr) (lb c0 lt c1 ls c2 : Nat) (hbx : bx = w.heap.size) (hL : LawW (w.alloc (.cells vs 26)) bx key nonce be A0 lb c0) (t s b1 x : List Int) (g : Bool) (mx : Nat) (E : Int) (hA1 : Nums w .u8 A1 t) (hA2 : Nums w .u8 A2 s)
    (hk : Hid (key.length = 32)) (hn : Hid (nonce.length = 12)) (hkb : HByt key) (hnb : HByt nonce) (HTB : HByt t) (HSB : HByt s) (HB1B : HByt b1) (_HXB : HByt x) (PB : Hid (PL lb be)) (PT : Hid (t.length = lt)) (PS : Hid (s.length = ls)) (HB1L : Hid (b1.length = lt + 16)) (HXL : Hid (x.length = mx)) (_HLB : Hid (lb ≤ 300)) (HLT : Hid (lt ≤ 300)) (HLS : Hid (ls ≤ 300)) (hlb : (lb : Int) ≤ 300) (hlt : (lt : Int) ≤ 300) (hls : (ls : Int) ≤ 300) (HCB : Hid (lb ≤ c0)) (_HCT : Hid (lt ≤ c1)) (HCS : Hid (ls ≤ c2))
    (HB1 : Hid (sealL key nonce be t = b1)) (HE1 : Hid (openE key nonce be b1 = 0)) (HX1 : Hid (openL key nonce be b1 = t)) (HG : Hid (decide (t = s) = g)) (HX : Hid (openL key nonce be s = x)) (HE : Hid (openE key nonce be s = E)) (hE0 : E ≠ 0) (HX0 : mx = 0) : Calls Tryd.prog 5 #[.agg vs, .slice A1 lt c1, .slice A2 ls c2] w fun e w' => e = .returned (.bool true) ∧ Below w.heap.size w w' := by
  have hb0 := below_new w (.cells vs 26)
  have hT1 := hA1.below hb0
  have hS1 := hA2.below hb0
  subst hbx
  have e0 : decide ((300 : Int) < lb) = false := decide_eq_false (by omega)
  have e1 : decide ((300 : Int) < lt) = false := decide_eq_false (by omega)
  have e2 : decide ((300 : Int) < ls) = false := decide_eq_false (by omega)
  have egg : (g != g) = false := by simp
  have eE : (E != 0) = true := bne_iff_ne.2 hE0
  subst HX0
  clear hlb hlt hls hA1 hA2
  have i32 : (Tryd.prog.info? 22).map (·.size) = some (ints .u8 key).length := szV inf41 (il hk.out)
  have i12 : (Tryd.prog.info? 23).map (·.size) = some (ints .u8 nonce).length := szV infNo (il hn.out)
  have hW1 := hb0
  have hL1 := hL
  clear hb0 hL
  go_enter Tryd.func5, Tryd.ntmps5
  go_wp2_with (first
    | (go_at_call 6; generalize w.alloc (.cells vs 26) = w1 at *; refine (a_awake _ hL1.tb).mono ?_; rintro e w2 ⟨rfl, hb2⟩
       have hL2 := hL1.next hb2
       have hT2 := hT1.below hb2
       have hS2 := hS1.below hb2
       have hW2 := hW1.trans (hb2.mono hW1.size)
       have c2 := hL2.ce
       have k2k := hL2.ky.range
       have k2n := hL2.no.range
       clear hb2 hL1 hT1 hS1 hW1)
    | (with_reducible refine wpList_load_mid (op := ⟨some 33, .load 22 (.tmp 32), _, _, _, _⟩) rfl 22 (.tmp 32) rfl w.heap.size 0 rfl (ints .u8 key) _ k2k Tryd.underlying22 rfl i32 ?_)
    | (with_reducible refine wpList_load_mid (op := ⟨some 35, .load 23 (.tmp 34), _, _, _, _⟩) rfl 23 (.tmp 34) rfl w.heap.size 32 rfl (ints .u8 nonce) _ k2n Tryd.underlying23 rfl i12 ?_)
    | (go_at_call 7; (with_reducible refine (aseal_any key nonce be t A0 A1 lb c0 lt c1 _ hL2.tb hk hn hkb hnb HTB PB PT (by have := HLT.out; omega) HCB.out hL2.bs hT2).mono ?_); rintro e w3 ⟨A3, d3, rfl, hd3, hN3, hb3⟩
       rw [HB1.out] at hN3
       have HD3 := hid hd3
       obtain ⟨m3, hm3⟩ : ∃ m, lt + 16 = m := ⟨_, rfl⟩
       rw [hm3]
       have HM3 := hid hm3
       have hL3 := hL2.next hb3
       have hT3 := hT2.below hb3
       have hS3 := hS2.below hb3
       have hW3 := hW2.trans (hb3.mono hW2.size)
       have c3 := hL3.ce
       have k3k := hL3.ky.range
       have k3n := hL3.no.range
       clear hb3 hL2 hT2 hS2 hW2 hd3 hm3 k2k k2n c2)
    | (with_reducible refine wpList_load_mid (op := ⟨some 44, .load 22 (.tmp 43), _, _, _, _⟩) rfl 22 (.tmp 43) rfl w.heap.size 0 rfl (ints .u8 key) _ k3k Tryd.underlying22 rfl i32 ?_)
    | (with_reducible refine wpList_load_mid (op := ⟨some 46, .load 23 (.tmp 45), _, _, _, _⟩) rfl 23 (.tmp 45) rfl w.heap.size 32 rfl (ints .u8 nonce) _ k3n Tryd.underlying23 rfl i12 ?_)
    | (go_at_call 13; (with_reducible refine (aopen_any key nonce be b1 A0 A3 lb c0 m3 d3 _ hL3.tb hk hn hkb hnb HB1B PB (hid (HB1L.out.trans HM3.out)) (by have := HLT.out; have := HM3.out; omega) HCB.out (by have := HD3.out; have := HM3.out; omega) hL3.bs hN3).mono ?_); rintro e w4 ⟨A4, m4, d4, rfl, hm4, hN4, hb4⟩
       rw [HE1.out]
       rw [HX1.out] at hm4 hN4
       have HM4 := hid hm4
       have hB4 := hN3.below hb4
       have hL4 := hL3.next hb4
       have hT4 := hT3.below hb4
       have hS4 := hS3.below hb4
       have hW4 := hW3.trans (hb4.mono hW3.size)
       clear hb4 hL3 hT3 hS3 hW3 hm4 hN3 k3k k3n c3)
    | (go_at_call 8; (with_reducible refine (rsame_any A4 A1 m4 lt d4 c1 t t true _ (by have := HLT.out; have := PT.out; have := HM4.out; omega) HM4.out PT.out (decide_eq_true rfl) hN4 hT4).mono ?_); rintro e w5 ⟨rfl, hb5⟩
       have hB5 := hB4.below hb5
       have hL5 := hL4.next hb5
       have hT5 := hT4.below hb5
       have hS5 := hS4.below hb5
       have hW5 := hW4.trans (hb5.mono hW4.size)
       clear hb5 hL4 hT4 hS4 hW4 hN4 hB4)
    | (go_at_call 15; (with_reducible refine (aequal_any A1 A2 lt ls c1 c2 t s g _ (by have := HLT.out; omega) PT.out PS.out HTB HSB HG.out hT5 hS5).mono ?_); rintro e w6 ⟨rfl, hb6⟩
       have hB6 := hB5.below hb6
       have hL6 := hL5.next hb6
       have hT6 := hT5.below hb6
       have hS6 := hS5.below hb6
       have hW6 := hW5.trans (hb6.mono hW5.size)
       clear hb6 hL5 hT5 hS5 hW5 hB5)
    | (go_at_call 8; (with_reducible refine (rsame_any A1 A2 lt ls c1 c2 t s g _ (by have := HLT.out; omega) PT.out PS.out HG.out hT6 hS6).mono ?_); rintro e w7 ⟨rfl, hb7⟩
       have hB7 := hB6.below hb7
       have hL7 := hL6.next hb7
       have hT7 := hT6.below hb7
       have hS7 := hS6.below hb7
       have hW7 := hW6.trans (hb7.mono hW6.size)
       clear hb7 hL6 hT6 hS6 hW6 hB6)
    | (go_at_call 15; (with_reducible refine (aequal_any A3 A3 m3 m3 d3 d3 b1 b1 true _ (by have := HLT.out; have := HM3.out; omega) (HB1L.out.trans HM3.out) (HB1L.out.trans HM3.out) HB1B HB1B (decide_eq_true rfl) hB7 hB7).mono ?_); rintro e w8 ⟨rfl, hb8⟩
       have hL8 := hL7.next hb8
       have hT8 := hT7.below hb8
       have hS8 := hS7.below hb8
       have hW8 := hW7.trans (hb8.mono hW7.size)
       have c8 := hL8.ce
       have k8k := hL8.ky.range
       have k8n := hL8.no.range
       clear hb8 hL7 hT7 hS7 hW7 hB7)
    | (with_reducible refine wpList_load_mid (op := ⟨some 82, .load 22 (.tmp 81), _, _, _, _⟩) rfl 22 (.tmp 81) rfl w.heap.size 0 rfl (ints .u8 key) _ k8k Tryd.underlying22 rfl i32 ?_)
    | (with_reducible refine wpList_load_mid (op := ⟨some 84, .load 23 (.tmp 83), _, _, _, _⟩) rfl 23 (.tmp 83) rfl w.heap.size 32 rfl (ints .u8 nonce) _ k8n Tryd.underlying23 rfl i12 ?_)
    | (go_at_call 13; (with_reducible refine (aopen_any key nonce be s A0 A2 lb c0 ls c2 _ hL8.tb hk hn hkb hnb HSB PB PS (by have := HLS.out; omega) HCB.out HCS.out hL8.bs hS8).mono ?_); rintro e w9 ⟨A9, m9, d9, rfl, hm9, hN9, hb9⟩
       rw [HE.out]
       rw [HX.out] at hm9 hN9
       obtain rfl := HXL.out.symm.trans hm9
       have hL9 := hL8.next hb9
       have hT9 := hT8.below hb9
       have hS9 := hS8.below hb9
       have hW9 := hW8.trans (hb9.mono hW8.size)
       have c9 := hL9.ce
       have k9k := hL9.ky.range
       have k9n := hL9.no.range
       clear hb9 hL8 hT8 hS8 hW8 k8k k8n c8))
  go_ret
  exact ⟨rfl, hW9⟩
theorem back_any (w : World) (hT : Tabs w) (key nonce : List Int) (A0 : Option Addr) (c0 : Nat) (be : List Int) (hk : key.length = 32) (hn : nonce.length = 12) (hkx : ∀ x ∈ key, (Lit.int .u8 x).wf = true) (hnx : ∀ x ∈ nonce, (Lit.int .u8 x).wf = true) (hbc : be.length ≤ c0) (_hbm : c0 ≤ maxLen) (hbx : ∀ x ∈ be, (Lit.int .u8 x).wf = true) (hB : Nums w .u8 A0 be) (A1 : Option Addr) (c1 : Nat) (s1 : List Int) (hc1 : s1.length ≤ c1) (_hm1 : c1 ≤ maxLen) (hx1 : ∀ x ∈ s1, (Lit.int .u8 x).wf = true) (hA1 : Nums w .u8 A1 s1) (A2 : Option Addr) (c2 : Nat) (s2 : List Int) (hc2 : s2.length ≤ c2) (_hm2 : c2 ≤ maxLen) (hx2 : ∀ x ∈ s2, (Lit.int .u8 x).wf = true) (hA2 : Nums w .u8 A2 s2) :
    Calls Tryd.prog 5 #[.agg (caseA key nonce A0 be.length c0).toArray, .slice A1 s1.length c1, .slice A2 s2.length c2] w fun e w' => e = .returned (.bool true) ∧ Below w.heap.size w w' := by
  have hkb := byt_of_wf hkx
  have hnb := byt_of_wf hnx
  have hbb := byt_of_wf hbx
  have htb := byt_of_wf hx1
  have hsb := byt_of_wf hx2
  obtain ⟨lb, hlb⟩ : ∃ n, be.length = n := ⟨_, rfl⟩
  obtain ⟨lt, hlt⟩ : ∃ n, s1.length = n := ⟨_, rfl⟩
  obtain ⟨ls, hls⟩ : ∃ n, s2.length = n := ⟨_, rfl⟩
  have hL := LawW.new (A := A0) (n := be.length) (c := c0) hT hB hk hn
  rw [hlb] at hbc hL ⊢
  rw [hlt] at hc1 ⊢
  rw [hls] at hc2 ⊢
  generalize (caseA key nonce A0 lb c0).toArray = vs at *
  by_cases h : 300 < lb ∨ 300 < lt ∨ 300 < ls
  · exact back_long w vs _ key nonce be A0 A1 A2 lb c0 lt c1 ls c2 rfl hL h
  · have h1 : lb ≤ 300 := by omega
    have h2 : lt ≤ 300 := by omega
    have h3 : ls ≤ 300 := by omega
    have hos := open_seal (be := be) hk hn (show s1.length ≤ 900 by omega) htb
    have hsl : (sealL key nonce be s1).length = lt + 16 := by rw [sealL_len hk hn (by omega), hlt]
    have hxl := openL_len (be := be) hk hn (show s2.length ≤ 1000 by omega)
    rcases open_cases (be := be) hk hn (show s2.length ≤ 1000 by omega) hsb with ⟨hE, hsx, hmx⟩ | ⟨hE, hx⟩
    · exact back_yes w vs _ key nonce be A0 A1 A2 lb c0 lt c1 ls c2 rfl hL s1 s2 (sealL key nonce be s1) (openL key nonce be s2) _ _ hA1 hA2 (hid hk) (hid hn) hkb hnb htb hsb (sealL_byt htb) (openL_byt hsb) (hid ⟨hlb, by omega, hbb⟩) (hid hlt) (hid hls) (hid hsl) (hid rfl) (hid h1) (hid h2) (hid h3) (by omega) (by omega) (by omega) (hid hbc) (hid hc1) (hid hc2)
        (hid rfl) (hid hos.1) (hid hos.2) (hid rfl) (hid rfl) (hid hE) (hid hsx) (hid (by omega)) (hid (by omega))
    · exact back_no w vs _ key nonce be A0 A1 A2 lb c0 lt c1 ls c2 rfl hL s1 s2 (sealL key nonce be s1) (openL key nonce be s2) _ _ _ hA1 hA2 (hid hk) (hid hn) hkb hnb htb hsb (sealL_byt htb) (openL_byt hsb) (hid ⟨hlb, by omega, hbb⟩) (hid hlt) (hid hls) (hid hsl) (hid rfl) (hid h1) (hid h2) (hid h3) (by omega) (by omega) (by omega) (hid hbc) (hid hc1) (hid hc2)
        (hid rfl) (hid hos.1) (hid hos.2) (hid rfl) (hid rfl) (hid rfl) hE (by rw [hx]; rfl)
end Go.Proofs.YtpiamcgienkhaaaDoor
