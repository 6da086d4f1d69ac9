/- Any bytes are opened as the document opens them. -/
import Derived.Test.YtpiamcgienkhaaaDoorG14
import Derived.Test.YtpiamcgienkhaaaDoorG16
namespace Go.Proofs.YtpiamcgienkhaaaDoor
open Go Go.RowKit

theorem opens_long (w : World) (vs : Array Value) (bx : Nat) (key nonce be : List Int) (A0 A1 : Option Addr) (lb c0 ls c1 : Nat) (hbx : bx = w.heap.size) (hL : LawW (w.alloc (.cells vs 26)) bx key nonce be A0 lb c0) (h : 300 < lb ∨ 300 < ls) :
    Calls Tryd.prog 4 #[.agg vs, .slice A1 ls c1] w fun e w' => e = .returned (.bool true) ∧ Below w.heap.size w w' := by
  have hb0 := below_new w (.cells vs 26)
  have hbw : w.heap.size ≤ (w.alloc (.cells vs 26)).heap.size := hb0.size
  subst hbx
  have hd : (300 : Int) < lb ∨ (lb : Int) ≤ 300 ∧ (300 : Int) < ls := by omega
  clear h
  rcases hd with h3 | ⟨h3, h4⟩
  · have e0 : decide ((300 : Int) < lb) = true := decide_eq_true h3
    clear h3
    go_enter Tryd.func4, Tryd.ntmps4
    go_wp2_with (go_at_call 6; refine (a_awake _ hL.tb).mono ?_; rintro e w2 ⟨rfl, hb2⟩; have cb := (hL.next hb2).ce)
    go_ret
    exact ⟨rfl, hb0.trans (hb2.mono hbw)⟩
  · have e0 : decide ((300 : Int) < lb) = false := decide_eq_false (by omega)
    have e1 : decide ((300 : Int) < ls) = true := decide_eq_true h4
    clear h3 h4
    go_enter Tryd.func4, Tryd.ntmps4
    go_wp2_with (go_at_call 6; refine (a_awake _ hL.tb).mono ?_; rintro e w2 ⟨rfl, hb2⟩; have cb := (hL.next hb2).ce)
    go_ret
    exact ⟨rfl, hb0.trans (hb2.mono hbw)⟩
set_option maxRecDepth 50000 in
set_option maxHeartbeats 4000000 in
theorem opens_core (w : World) (vs : Array Value) (bx : Nat) (key nonce be s x : List Int) (E : Int) (A0 A1 : Option Addr) (lb c0 ls c1 : Nat) (hbx : bx = w.heap.size) (hL : LawW (w.alloc (.cells vs 26)) bx key nonce be A0 lb c0) (hA : Nums w .u8 A1 s)
    (hk : Hid (key.length = 32)) (hn : Hid (nonce.length = 12)) (hkb : HByt key) (hnb : HByt nonce) (HSB : HByt s) (PB : Hid (PL lb be)) (PS : Hid (s.length = ls)) (HLB : Hid (lb ≤ 300)) (HLS : Hid (ls ≤ 300)) (hlb : (lb : Int) ≤ 300) (hls : (ls : Int) ≤ 300) (HCB : Hid (lb ≤ c0)) (HCS : Hid (ls ≤ c1)) (HE : Hid (openE key nonce be s = E)) (HX : Hid (openL key nonce be s = x)) (HXL : Hid (x.length ≤ 1000)) :
    Calls Tryd.prog 4 #[.agg vs, .slice A1 ls c1] w fun e w' => e = .returned (.bool true) ∧ Below w.heap.size w w' := by
  have hb0 := below_new w (.cells vs 26)
  have hA1 := hA.below hb0
  subst hbx
  have e0 : decide ((300 : Int) < lb) = false := decide_eq_false (by omega)
  have e1 : decide ((300 : Int) < ls) = false := decide_eq_false (by omega)
  clear hlb hls hA
  have i32 : (Tryd.prog.info? 22).map (·.size) = some (ints .u8 key).length := szV inf41 (il hk.out)
  have i12 : (Tryd.prog.info? 23).map (·.size) = some (ints .u8 nonce).length := szV infNo (il hn.out)
  have hW := hb0
  clear hb0
  go_enter Tryd.func4, Tryd.ntmps4
  go_wp2_with (first
    | (go_at_call 6; generalize w.alloc (.cells vs 26) = w1 at *; refine (a_awake _ hL.tb).mono ?_; rintro e w2 ⟨rfl, hb2⟩
       have hL2 := hL.next hb2
       have hA2 := hA1.below hb2
       have hW2 := hW.trans (hb2.mono hW.size)
       have c2 := hL2.ce
       have k2k := hL2.ky.range
       have k2n := hL2.no.range
       clear hb2 hL hA1 hW)
    | (with_reducible refine wpList_load_mid (op := ⟨some 22, .load 22 (.tmp 21), _, _, _, _⟩) rfl 22 (.tmp 21) rfl w.heap.size 0 rfl (ints .u8 key) _ k2k Tryd.underlying22 rfl i32 ?_)
    | (with_reducible refine wpList_load_mid (op := ⟨some 24, .load 23 (.tmp 23), _, _, _, _⟩) rfl 23 (.tmp 23) rfl w.heap.size 32 rfl (ints .u8 nonce) _ k2n Tryd.underlying23 rfl i12 ?_)
    | (go_at_call 13; refine (aopen_any key nonce be s A0 A1 lb c0 ls c1 _ hL2.tb hk hn hkb hnb HSB PB PS (by have := HLS.out; omega) HCB.out HCS.out hL2.bs hA2).mono ?_; rintro e w3 ⟨A3, m3, d3, rfl, hm3, hN3, hb3⟩
       rw [HE.out]
       rw [HX.out] at hm3 hN3
       have HM3 := hid hm3
       have hL3 := hL2.next hb3
       have hA3 := hA2.below hb3
       have hW3 := hW2.trans (hb3.mono hW2.size)
       have c3 := hL3.ce
       have k3k := hL3.ky.range
       have k3n := hL3.no.range
       clear hb3 hL2 hA2 hW2 hm3 k2k k2n c2)
    | (with_reducible refine wpList_load_mid (op := ⟨some 33, .load 22 (.tmp 32), _, _, _, _⟩) rfl 22 (.tmp 32) rfl w.heap.size 0 rfl (ints .u8 key) _ k3k Tryd.underlying22 rfl i32 ?_)
    | (with_reducible refine wpList_load_mid (op := ⟨some 35, .load 23 (.tmp 34), _, _, _, _⟩) rfl 23 (.tmp 34) rfl w.heap.size 32 rfl (ints .u8 nonce) _ k3n Tryd.underlying23 rfl i12 ?_)
    | (go_at_call 14; refine (ropen_any key nonce be s A0 A1 lb c0 ls c1 _ hk hn hkb hnb HSB PB PS (by have := HLS.out; omega) (by have := HLB.out; omega) HCS.out hL3.bs hA3).mono ?_; rintro e w4 ⟨A4, m4, d4, rfl, hm4, hN4, hb4⟩
       rw [HE.out]
       rw [HX.out] at hm4 hN4
       have HM4 := hid hm4
       have hN34 := hN3.below hb4
       have hW4 := hW3.trans (hb4.mono hW3.size)
       clear hb4 hL3 hA3 hW3 hm4 hN3 k3k k3n c3)
    | (go_at_call 8; refine (rsame_any A3 A4 m3 m4 d3 d4 x x true _ (by have := HXL.out; have := HM3.out; omega) HM3.out HM4.out (decide_eq_true rfl) hN34 hN4).mono ?_; rintro e w5 ⟨rfl, hb5⟩))
  go_ret
  exact ⟨rfl, hW4.trans (hb5.mono hW4.size)⟩
theorem opens_any (w : World) (hT : Tabs w) (key nonce : List Int) (A0 : Option Addr) (c0 : Nat) (be : List Int) (hk : key.length = 32) (hn : nonce.length = 12) (hkx : ∀ x ∈ key, (Lit.int .u8 x).wf = true) (hnx : ∀ x ∈ nonce, (Lit.int .u8 x).wf = true) (hbc : be.length ≤ c0) (_hbm : c0 ≤ maxLen) (hbx : ∀ x ∈ be, (Lit.int .u8 x).wf = true) (hB : Nums w .u8 A0 be) (A1 : Option Addr) (c1 : Nat) (s1 : List Int) (hc1 : s1.length ≤ c1) (_hm1 : c1 ≤ maxLen) (hx1 : ∀ x ∈ s1, (Lit.int .u8 x).wf = true) (hA1 : Nums w .u8 A1 s1) :
    Calls Tryd.prog 4 #[.agg (caseA key nonce A0 be.length c0).toArray, .slice A1 s1.length c1] w fun e w' => e = .returned (.bool true) ∧ Below w.heap.size w w' := by
  have hkb := byt_of_wf hkx
  have hnb := byt_of_wf hnx
  have hbb := byt_of_wf hbx
  have hsb := byt_of_wf hx1
  obtain ⟨lb, hlb⟩ : ∃ n, be.length = n := ⟨_, rfl⟩
  obtain ⟨ls, hls⟩ : ∃ n, s1.length = n := ⟨_, rfl⟩
  have hL := LawW.new (A := A0) (n := be.length) (c := c0) hT hB hk hn
  rw [hlb] at hbc hL ⊢
  rw [hls] at hc1 ⊢
  generalize (caseA key nonce A0 lb c0).toArray = vs at *
  by_cases h : 300 < lb ∨ 300 < ls
  · exact opens_long w vs _ key nonce be A0 A1 lb c0 ls c1 rfl hL h
  · exact opens_core w vs _ key nonce be s1 _ _ A0 A1 lb c0 ls c1 rfl hL hA1 (hid hk) (hid hn) hkb hnb hsb (hid ⟨hlb, by omega, hbb⟩) (hid hls) (hid (by omega)) (hid (by omega)) (by omega) (by omega) (hid hbc) (hid hc1) (hid rfl) (hid rfl) (hid (Nat.le_trans (openL_len hk hn (by omega)) (by omega)))
end Go.Proofs.YtpiamcgienkhaaaDoor
