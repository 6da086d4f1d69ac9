/- Any bytes are hidden as the document hides them. -/
import Derived.Test.YtcbcahlgafngcaaDoorLCase
import Derived.Test.YtcbcahlgafngcaaDoorLZero
import Derived.Test.YtcbcahlgafngcaaDoorLGuard
import Derived.Deep.Cut
namespace Go.Proofs.YtcbcahlgafngcaaDoor
open Go Go.RowKit

set_option maxRecDepth 8000 in
set_option maxHeartbeats 4000000 in
theorem hides_any (w : World) (hT : Tabs w) (key nonce : List Int) (c : Int) (hk : key.length = 32) (hn : nonce.length = 12) (hkx : ∀ x ∈ key, (Lit.int .u8 x).wf = true) (hnx : ∀ x ∈ nonce, (Lit.int .u8 x).wf = true) (hcw : (Lit.int .u32 c).wf = true)
    (A : Option Addr) (cap : Nat) (b : List Int) (hbc : b.length ≤ cap) (hcm : cap ≤ maxLen) (hbx : ∀ x ∈ b, (Lit.int .u8 x).wf = true) (hA : Nums w .u8 A b) :
    Calls Tryd.prog 4 #[.agg (caseL key nonce c).toArray, .slice A b.length cap] w fun e w' => e = .returned (.bool true) ∧ Below w.heap.size w w' := by
  obtain ⟨c, rfl, hc⟩ := word_of_wf hcw
  have hkb := byt_of_wf hkx
  have hnb := byt_of_wf hnx
  have hbb := byt_of_wf hbx
  have HK := hid hk
  have HN := hid hn
  have hca := CaseAt.new w key nonce c hk hn
  obtain ⟨vs, hvs⟩ : ∃ v, (caseL key nonce c).toArray = v := ⟨_, rfl⟩
  rw [hvs] at hca ⊢
  have hB1 : Below w.heap.size w (w.alloc (.cells vs 26)) := (Below.refl _ w).alloc (Nat.le_refl _) _
  have hz1 : (w.alloc (.cells vs 26)).heap.size = w.heap.size + 1 := by simp
  obtain ⟨lb, hlb⟩ : ∃ n, b.length = n := ⟨_, rfl⟩
  have HL := hid hlb
  rw [hlb] at hbc ⊢
  clear hlb hvs hkx hnx hbx hcw hk hn
  have hlm : (lb : Int) ≤ 9223372036854775807 := by unfold maxLen at hcm; omega
  have hl0 : (0 : Int) ≤ lb := by omega
  obtain ⟨W1, hW1⟩ : ∃ W, w.alloc (.cells vs 26) = W := ⟨_, rfl⟩
  have HW1 := hid hW1
  rw [hW1] at hca hB1 hz1
  have HZ1 := hid hz1
  clear hW1 hz1
  have hz0 : w.heap.size ≤ W1.heap.size := by rw [HZ1.out]; omega
  have hT1 : Tabs W1 := hT.next hB1
  go_enter Tryd.func4, Tryd.ntmps4
  by_cases h5 : lb ≤ 500
  · have h5a : (lb : Int) ≤ 500 := by omega
    have hsub : (4294967296 : Int) - (c : Int) = ((4294967296 - c : Nat) : Int) := by omega
    obtain ⟨L, hL⟩ : ∃ L, 4294967296 - c = L := ⟨_, rfl⟩
    rw [hL] at hsub
    have HLL := hid hL
    clear hL
    have i22 : (Tryd.prog.info? 22).map (·.size) = some (ints .u8 key).length := by rw [ints_length, HK.out]; exact info22
    have i23 : (Tryd.prog.info? 23).map (·.size) = some (ints .u8 nonce).length := by rw [ints_length, HN.out]; exact info23
    have hc0 : (0 : Int) ≤ c := by omega
    have hc1 : (c : Int) < 4294967296 := by omega
    have hA1 := hA.below hB1
    have H5 := hid h5
    have e0 : decide ((500 : Int) < lb) = false := decide_eq_false (by omega)
    clear h5
    by_cases hg : lb ≤ 64 * L
    · have HQ := hid (show ((lb : Int) + 63) / 64 ≤ (4294967296 : Int) - c by omega)
      have H5a := hid h5a
      have HLM := hid hlm
      have HSUB := hid hsub
      have HG := hid hg
      obtain ⟨st, hst⟩ : ∃ s, strm key nonce c (4294967296 - c) = s := ⟨_, rfl⟩
      have hsl : st.length = 64 * L := by rw [← hst, strm_length HK.out HN.out, HLL.out]
      have HLEN : Hid ((hideL b st).length = lb) := hid (by rw [hideL_length (by rw [hsl, HL.out]; exact hg), HL.out])
      have hgood := fun w hT hA => hide_good key nonce b c lb cap A w hT HK HN hkb hnb hbb HL H5.out hc (by rw [HLL.out]; exact HG.out) hA
      have href := fun w hA => rhide_all key nonce b c (4294967296 - c) lb cap A w HK HN hkb hnb hbb HL H5.out (by omega) (by rw [HLL.out]; exact HG.out) hA
      rw [hst] at hgood href
      have e9 : lb ≤ maxLen := by unfold maxLen; omega
      have E9 := hid e9
      clear h5a hlm hl0 hsub hg hst hsl e9
      go_upto_region 7 with (first
        | (go_at_call 6; rw [HW1.out]; refine (awake_any _ hT1).mono ?_; rintro e w2 ⟨rfl, hb2⟩
           have hc2 := hca.below hb2
           have r2 := hc2.k.range
           have s2 := hc2.n.range
           have c2 := hc2.c)
        | (with_reducible refine wpList_load_mid (op := ⟨some 15, .load 22 (.tmp 14), _, _, _, _⟩) rfl 22 (.tmp 14) rfl w.heap.size 0 rfl (ints .u8 key) _ r2 Tryd.underlying22 rfl i22 ?_)
        | (with_reducible refine wpList_load_mid (op := ⟨some 17, .load 23 (.tmp 16), _, _, _, _⟩) rfl 23 (.tmp 16) rfl w.heap.size 32 rfl (ints .u8 nonce) _ s2 Tryd.underlying23 rfl i23 ?_)
        | (go_at_call 13; refine (hgood _ (hT1.next hb2) (hA1.below hb2)).mono ?_; rintro e w3 ⟨AX, dX, rfl, hNX, hb3, _⟩
           have hc3 := hc2.below hb3
           clear r2 s2 c2
           have r3 := hc3.k.range
           have s3 := hc3.n.range
           have c3 := hc3.c))
      have hlm2 := HLM.out
      have h5b := H5a.out
      have e1 : decide ((4294967296 : Int) - c < ((lb : Int) + 63) / 64) = false := decide_eq_false (Int.not_lt.2 HQ.out)
      clear hlm2
      have hl0 : (0 : Int) ≤ lb := by omega
      go_upto_region 9 with (fail)
      clear h5b hl0 e1 e0
      go_wp2_with (first
        | (refine wpList_load_g (op := ⟨some 46, .load 22 (.tmp 45), _, _, _, _⟩) (by kernel_rfl) 22 (.tmp 45) rfl w.heap.size 0 rfl (ints .u8 key) _ r3 Tryd.underlying22 rfl i22 ?_)
        | (refine wpList_load_g (op := ⟨some 48, .load 23 (.tmp 47), _, _, _, _⟩) (by kernel_rfl) 23 (.tmp 47) rfl w.heap.size 32 rfl (ints .u8 nonce) _ s3 Tryd.underlying23 rfl i23 ?_)
        | (go_at_call 14; refine (href _ ((hA1.below hb2).below hb3)).mono ?_; rintro e w4 ⟨AY, dY, rfl, hNY, hb4⟩)
        | (go_at_call 11; rw [← HLEN.out]; refine (same_eq _ _ _ _ _ _ _ rfl (by rw [HLEN.out]; exact E9.out) (hNX.nums.below hb4) hNY).mono ?_; rintro e w5 ⟨rfl, hb5⟩))
      go_ret
      have z2 := Nat.le_trans hz0 hb2.size
      have z3 := Nat.le_trans z2 hb3.size
      have z4 := Nat.le_trans z3 hb4.size
      exact ⟨rfl, hB1.trans ((hb2.mono hz0).trans ((hb3.mono z2).trans ((hb4.mono z3).trans (hb5.mono z4))))⟩
    · have hlim := hide_limit key nonce c lb cap A
      have HQ := hid (show (4294967296 : Int) - c < ((lb : Int) + 63) / 64 by omega)
      have H5a := hid h5a
      have HG := hid (show 64 * L < lb by omega)
      have HLM := hid hlm
      have HSUB := hid hsub
      clear h5a hlm hl0 hsub hg
      go_upto_region 7 with (first
        | (go_at_call 6; rw [HW1.out]; refine (awake_any _ hT1).mono ?_; rintro e w2 ⟨rfl, hb2⟩
           have hc2 := hca.below hb2
           have r2 := hc2.k.range
           have s2 := hc2.n.range
           have c2 := hc2.c)
        | (with_reducible refine wpList_load_mid (op := ⟨some 15, .load 22 (.tmp 14), _, _, _, _⟩) rfl 22 (.tmp 14) rfl w.heap.size 0 rfl (ints .u8 key) _ r2 Tryd.underlying22 rfl i22 ?_)
        | (with_reducible refine wpList_load_mid (op := ⟨some 17, .load 23 (.tmp 16), _, _, _, _⟩) rfl 23 (.tmp 16) rfl w.heap.size 32 rfl (ints .u8 nonce) _ s2 Tryd.underlying23 rfl i23 ?_)
        | (go_at_call 13; refine (hlim _ H5.out hc (by rw [HLL.out]; exact HG.out)).mono ?_; rintro e w3 ⟨rfl, hb3⟩
           have c3 := (hc2.below hb3).c))
      have hlm2 := HLM.out
      have h5b := H5a.out
      have e1 : decide ((4294967296 : Int) - c < ((lb : Int) + 63) / 64) = true := decide_eq_true HQ.out
      clear hlm2
      have hl0 : (0 : Int) ≤ lb := by omega
      clear r2 s2 c2
      go_wp2
      go_ret
      exact ⟨rfl, hB1.trans ((hb2.mono hz0).trans (hb3.mono (Nat.le_trans hz0 hb2.size)))⟩
  · have h5a : (500 : Int) < lb := by omega
    go_wp2_with (go_at_call 6; rw [HW1.out]; refine (awake_any _ hT1).mono ?_; rintro e w2 ⟨rfl, hb2⟩)
    go_ret
    exact ⟨rfl, hB1.trans (hb2.mono hz0)⟩
end Go.Proofs.YtcbcahlgafngcaaDoor
