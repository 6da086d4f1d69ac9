/- The size of a value. -/
import Derived.Test.YtcahcecohjohpaaDoorDeep
namespace Go.Proofs.YtcahcecohjohpaaDoor
open Go.RowKit

theorem pbytes_len {hi : Bool} {n s : Int} (h : Fits n s) : (pbytes hi n s).length = s.toNat := by
  unfold pbytes
  rw [if_pos h, splitB_length]
  simp
theorem nb_lt : ∀ (f : Nat) (n : Int), 0 ≤ n → n ≤ 4611686018427387904 → n.toNat ≤ f → n < 256 ^ nb n := by
  intro f
  induction f using Nat.strongRecOn with
  | _ f ih =>
    intro n h0 h1 hf
    by_cases hz : n = 0
    · subst hz; rw [nb_zero]; decide
    · have h := ih (n / 256).toNat (by omega) (n / 256) (by omega) (by omega) (Nat.le_refl _)
      rw [nb_step n (by omega) h1, Int.pow_succ]
      omega
theorem nb_le (n : Int) (h0 : 0 ≤ n) (h1 : n ≤ 4611686018427387904) : nb n ≤ 8 := by
  have := Lib.bitLen_le n.toNat 64 (by omega) (by omega)
  unfold nb; omega
theorem fits_nb {n : Int} (h0 : 0 < n) (h1 : n ≤ 4611686018427387904) : Fits n (nb n) := by
  have hl := nb_lt n.toNat n (by omega) h1 (Nat.le_refl _)
  have h8 := nb_le n (by omega) h1
  have hs := nb_step n h0 h1
  have hc : nb n = 1 ∨ nb n = 2 ∨ nb n = 3 ∨ nb n = 4 ∨ nb n = 5 ∨ nb n = 6 ∨ nb n = 7 ∨ nb n = 8 := by omega
  refine ⟨by omega, by omega, by omega, ?_⟩
  rw [Int.toNat_natCast]
  rcases hc with h | h | h | h | h | h | h | h <;> rw [h] at hl ⊢ <;> simp [grt] at hl ⊢ <;> omega
theorem fits_three {n : Nat} (h : n < 16777216) : Fits n 3 := by
  refine ⟨by omega, by omega, by omega, ?_⟩
  show (n : Int) ≤ grt 3
  simp [grt]; omega
theorem fits_two {n : Nat} (h : n < 65536) : Fits n 2 := by
  refine ⟨by omega, by omega, by omega, ?_⟩
  show (n : Int) ≤ grt 2
  simp [grt]; omega

theorem len_num (n : Int) (b : List Int) (l : List V) (h0 : 0 ≤ n) (h1 : n ≤ 4611686018427387904) : (bytesV (.mk 1 n b l)).length = 2 + nb n := by
  unfold bytesV
  rw [if_pos rfl]
  by_cases hz : 0 < nb n
  · have hn : 0 < n := by
      rcases Int.lt_or_le 0 n with h | h
      · exact h
      · have : n = 0 := by omega
        subst this; rw [nb_zero] at hz; omega
    rw [if_pos hz, List.length_append, pbytes_len (fits_nb hn h1)]
    simp
  · rw [if_neg hz]; simp; omega
theorem len_raw (n : Int) (b : List Int) (l : List V) (h : b.length < 16777216) : (bytesV (.mk 2 n b l)).length = 4 + b.length := by
  unfold bytesV
  rw [if_neg (by decide), if_pos rfl, List.length_append, List.length_append, pbytes_len (fits_three h)]
  rfl
theorem len_list (n : Int) (b : List Int) (l : List V) (h : l.length < 65536) : (bytesV (.mk 3 n b l)).length = 3 + (bytesL l).length := by
  unfold bytesV
  rw [if_neg (by decide), if_neg (by decide), List.length_append, List.length_append, pbytes_len (fits_two h)]
  rfl

def Fit (v : V) (lists : Nat) (room : Int) : Prop := pureV v = true ∧ deepV v ≤ lists ∧ ((bytesV v).length : Int) ≤ room

def SizePost (v : V) (lists : Nat) (room : Int) (w : World) (e : Ending) (w' : World) : Prop :=
  ((Fit v lists room ∧ e = .returned (.tuple #[.int .i64 (bytesV v).length, .bool true])) ∨ (¬ Fit v lists room ∧ e = .returned (.tuple #[.int .i64 0, .bool false]))) ∧ Below w.heap.size w w'
theorem SizePost.yes {v : V} {lists : Nat} {room : Int} {w w' : World} {e : Ending} (h : Fit v lists room) (he : e = .returned (.tuple #[.int .i64 (bytesV v).length, .bool true])) (hb : Below w.heap.size w w') : SizePost v lists room w e w' := ⟨.inl ⟨h, he⟩, hb⟩
theorem SizePost.no {v : V} {lists : Nat} {room : Int} {w w' : World} {e : Ending} (h : ¬ Fit v lists room) (he : e = .returned (.tuple #[.int .i64 0, .bool false])) (hb : Below w.heap.size w w') : SizePost v lists room w e w' := ⟨.inr ⟨h, he⟩, hb⟩

theorem SizePost.of_fit {v : V} {lists : Nat} {room : Int} {w w' : World} {e : Ending} (h : SizePost v lists room w e w') (hf : Fit v lists room) : e = .returned (.tuple #[.int .i64 (bytesV v).length, .bool true]) ∧ Below w.heap.size w w' := by
  rcases h with ⟨⟨_, he⟩ | ⟨hn, _⟩, hb⟩
  · exact ⟨he, hb⟩
  · exact absurd hf hn
theorem SizePost.of_not {v : V} {lists : Nat} {room : Int} {w w' : World} {e : Ending} (h : SizePost v lists room w e w') (hf : ¬ Fit v lists room) : e = .returned (.tuple #[.int .i64 0, .bool false]) ∧ Below w.heap.size w w' := by
  rcases h with ⟨⟨hy, _⟩ | ⟨_, he⟩, hb⟩
  · exact absurd hy hf
  · exact ⟨he, hb⟩

theorem not_plain {k n : Int} {b : List Int} {l : List V} {lists : Nat} {room : Int} (h : plainB k n b.length l.length = false) : ¬ Fit (.mk k n b l) lists room := fun hf => by
  have := hf.1
  rw [pureV, h] at this
  cases this

theorem plain_kinds {k n : Int} {b l : Nat} (h : plainB k n b l = true) : (k = 1 ∧ 0 ≤ n ∧ n ≤ 4611686018427387904 ∧ b = 0 ∧ l = 0) ∨ (k = 2 ∧ n = 0 ∧ l = 0) ∨ (k = 3 ∧ n = 0 ∧ b = 0 ∧ l ≤ 4096) := by
  unfold plainB at h
  split at h
  · rename_i h1; exact .inl ⟨h1, by simpa using h⟩
  · split at h
    · rename_i h1; exact .inr (.inl ⟨h1, by simpa using h⟩)
    · exact .inr (.inr (by simpa using h))

set_option maxHeartbeats 1000000 in
theorem size_any (v : V) : ∀ (k n : Int) (b : List Int) (l : List V), v = .mk k n b l → ∀ (D : Nat) (A B : Option Addr) (c d : Nat) (lists : Nat) (room : Int) (w : World), lists ≤ 16 → 3 * (lists : Int) - 48 ≤ room → room ≤ 1048576 → tameV (.mk k n b l) → Tabs w → Has D w (.mk k n b l) A B →
    Calls Tryd.prog 23 #[.agg #[.int .i64 k, .int .i64 n, .slice A b.length c, .slice B l.length d], .int .i64 lists, .int .i64 room] w (SizePost (.mk k n b l) lists room w) := by
  induction v using V.ind with
  | h k n b l ih =>
    intro k' n' b' l' heq D A B c d lists room w hls hr0 hr1 htm ht hH
    injection heq with e1 e2 e3 e4
    subst e1; subst e2; subst e3; subst e4
    have hll := hH.len
    have hbl := hH.bytes.2.2
    cases hpl : plainB k n b.length l.length with
    | false =>
      have HN := hid (not_plain (lists := lists) (room := room) hpl)
      have HPL := hid hpl
      clear hpl htm
      go_enter Tryd.func23, Tryd.ntmps23
      go_wp2_with (go_at_call 35; refine (plain_any k n b l A B c d _ hbl hll (ht.stay (below_new _ _))).mono ?_; rintro e w' ⟨rfl, hbb⟩; rw [HPL.out])
      go_ret2
      exact .no HN.out rfl (nextB (below_new _ _) hbb)
    | true =>
      have HPL := hid hpl
      rcases plain_kinds hpl with ⟨rfl, hn0, hn1, hb0, hl0⟩ | ⟨rfl, hn0, hl0⟩ | ⟨rfl, hn0, hb0, hl0⟩
      · have HL := hid (len_num n b l hn0 hn1)
        have hnb := nb_le n hn0 hn1
        have hpl2 : pureV (.mk 1 n b l) = true := by rw [pureV, hpl, pureL_nil hl0]; rfl
        have hdl : deepV (.mk 1 n b l) = 0 := by unfold deepV; rw [if_neg (by decide)]
        have HF : Hid (Fit (.mk 1 n b l) lists room ↔ ((2 + nb n : Nat) : Int) ≤ room) := hid ⟨fun h => by rw [← HL.out]; exact h.2.2, fun h => ⟨hpl2, by omega, by rw [HL.out]; exact h⟩⟩
        clear hpl htm hpl2 hdl hb0 hl0
        have hc := (Box4.start w (.int .i64 1) (.int .i64 n) (.slice A b.length c) (.slice B l.length d) 25)
        by_cases hroom : room < 2 + (nb n : Int)
        · have HNF : Hid (¬ Fit (.mk 1 n b l) lists room) := hid (fun h => by have := HF.out.1 h; omega)
          go_enter Tryd.func23, Tryd.ntmps23
          go_wp2_with (first
            | (go_at_call 35; refine (plain_any 1 n b l A B c d _ hbl hll (ht.stay (below_new _ _))).mono ?_; rintro e w1 ⟨rfl, hbb⟩; rw [HPL.out]; obtain ⟨hw1, ⟨g1, g2, g3⟩, _⟩ := (ht.stay (below_new _ _)).stay hbb; obtain ⟨b0, b1, b2, b3⟩ := (hc.next hbb).cells)
            | (go_at_call 36; refine (length_any n _ hn0 hn1).mono ?_; rintro e w' ⟨rfl, rfl⟩))
          go_ret2
          exact .no HNF.out rfl (nextB (below_new _ _) hbb)
        · have HYF : Hid (Fit (.mk 1 n b l) lists room) := hid (HF.out.2 (by omega))
          go_enter Tryd.func23, Tryd.ntmps23
          go_wp2_with (first
            | (go_at_call 35; refine (plain_any 1 n b l A B c d _ hbl hll (ht.stay (below_new _ _))).mono ?_; rintro e w1 ⟨rfl, hbb⟩; rw [HPL.out]; obtain ⟨hw1, ⟨g1, g2, g3⟩, _⟩ := (ht.stay (below_new _ _)).stay hbb; obtain ⟨b0, b1, b2, b3⟩ := (hc.next hbb).cells)
            | (go_at_call 36; refine (length_any n _ hn0 hn1).mono ?_; rintro e w' ⟨rfl, rfl⟩))
          go_ret2
          exact .yes HYF.out (by rw [HL.out]; rfl) (nextB (below_new _ _) hbb)
      · have hb1 : b.length ≤ 1048576 := by unfold tameV at htm; exact htm.1
        have HL := hid (len_raw n b l (by omega))
        have hpl2 : pureV (.mk 2 n b l) = true := by rw [pureV, hpl, pureL_nil hl0]; rfl
        have hdl : deepV (.mk 2 n b l) = 0 := by unfold deepV; rw [if_neg (by decide)]
        have HF : Hid (Fit (.mk 2 n b l) lists room ↔ ((4 + b.length : Nat) : Int) ≤ room) := hid ⟨fun h => by rw [← HL.out]; exact h.2.2, fun h => ⟨hpl2, by omega, by rw [HL.out]; exact h⟩⟩
        clear hpl htm hpl2 hdl hl0
        subst hn0
        have hc := (Box4.start w (.int .i64 2) (.int .i64 0) (.slice A b.length c) (.slice B l.length d) 25)
        by_cases hroom : room < 4 + (b.length : Int)
        · have HNF : Hid (¬ Fit (.mk 2 0 b l) lists room) := hid (fun h => by have := HF.out.1 h; omega)
          go_enter Tryd.func23, Tryd.ntmps23
          go_wp2_with (go_at_call 35; refine (plain_any 2 0 b l A B c d _ hbl hll (ht.stay (below_new _ _))).mono ?_; rintro e w1 ⟨rfl, hbb⟩; rw [HPL.out]; obtain ⟨hw1, ⟨g1, g2, g3⟩, _⟩ := (ht.stay (below_new _ _)).stay hbb; obtain ⟨b0, b1, b2, b3⟩ := (hc.next hbb).cells)
          go_ret2
          exact .no HNF.out rfl (nextB (below_new _ _) hbb)
        · have HYF : Hid (Fit (.mk 2 0 b l) lists room) := hid (HF.out.2 (by omega))
          go_enter Tryd.func23, Tryd.ntmps23
          go_wp2_with (go_at_call 35; refine (plain_any 2 0 b l A B c d _ hbl hll (ht.stay (below_new _ _))).mono ?_; rintro e w1 ⟨rfl, hbb⟩; rw [HPL.out]; obtain ⟨hw1, ⟨g1, g2, g3⟩, _⟩ := (ht.stay (below_new _ _)).stay hbb; obtain ⟨b0, b1, b2, b3⟩ := (hc.next hbb).cells)
          go_ret2
          exact .yes HYF.out (by rw [HL.out]; rfl) (nextB (below_new _ _) hbb)
      · have HTM : Hid (tameL l) := hid (by unfold tameV at htm; exact htm.2.2)
        have HL := hid (len_list n b l (by omega))
        have hpl2 : pureV (.mk 3 n b l) = pureL l := by rw [pureV, hpl]; rfl
        have hdl : deepV (.mk 3 n b l) = 1 + deepL l := by unfold deepV; rw [if_pos rfl]
        have HF : Hid (Fit (.mk 3 n b l) lists room ↔ (pureL l = true ∧ 1 + deepL l ≤ lists ∧ ((3 + (bytesL l).length : Nat) : Int) ≤ room)) := hid (by unfold Fit; rw [hpl2, hdl, HL.out])
        clear hpl htm hpl2 hdl hb0
        subst hn0
        have hc := (Box4.start w (.int .i64 3) (.int .i64 0) (.slice A b.length c) (.slice B l.length d) 25)
        by_cases h0 : lists = 0
        · subst h0
          have HNF : Hid (¬ Fit (.mk 3 0 b l) 0 room) := hid (fun h => by have := HF.out.1 h; omega)
          go_enter Tryd.func23, Tryd.ntmps23
          go_wp2_with (go_at_call 35; refine (plain_any 3 0 b l A B c d _ hbl hll (ht.stay (below_new _ _))).mono ?_; rintro e w1 ⟨rfl, hbb⟩; rw [HPL.out]; obtain ⟨hw1, ⟨g1, g2, g3⟩, _⟩ := (ht.stay (below_new _ _)).stay hbb; obtain ⟨b0, b1, b2, b3⟩ := (hc.next hbb).cells)
          go_ret2
          exact .no HNF.out rfl (nextB (below_new _ _) hbb)
        · obtain ⟨t, rfl⟩ : ∃ t, lists = t + 1 := ⟨lists - 1, by omega⟩
          have e1 : (((t + 1 : Nat) : Int) == 0) = false := by rw [beq_eq_false_iff_ne]; omega
          have e2 : ((t + 1 : Nat) : Int) - 1 = (t : Int) := by omega
          have h1 : (1 : Int) ≤ ((t + 1 : Nat) : Int) := by omega
          have h2 : ((t + 1 : Nat) : Int) ≤ 16 := by omega
          have hrt : 3 * (t : Int) - 45 ≤ room := by omega
          clear h0 hr0
          generalize hU : ((t + 1 : Nat) : Int) = U at e1 e2 h1 h2 ⊢
          have HU := hid hU
          clear hU
          go_enter Tryd.func23, Tryd.ntmps23
          go_wp2_with (go_at_call 35; refine (plain_any 3 0 b l A B c d _ hbl hll (ht.stay (below_new _ _))).mono ?_; rintro e w1 ⟨rfl, hbb⟩; rw [HPL.out]; obtain ⟨hw1, ⟨g1, g2, g3⟩, _⟩ := (ht.stay (below_new _ _)).stay hbb; obtain ⟨b0, b1, b2, b3⟩ := (hc.next hbb).cells)
          go_loopw [8, 44] (fun r i wr => ∃ (j q : Nat), j ≤ l.length ∧ r = .int .i64 q ∧ q ≤ 1048579 ∧ ((q : Int) ≤ room ∨ q = 3) ∧ i = .int .i64 j ∧ Hid (3 + (bytesL l).length = q + (bytesL (l.drop j)).length) ∧ Hid (pureL l = pureL (l.drop j)) ∧ Hid (deepL l ≤ t ↔ deepL (l.drop j) ≤ t) ∧ Below w.heap.size w wr) (fun _ i _ => l.length - (intOf i).toNat)
          case atStart => exact ⟨0, 3, Nat.zero_le _, rfl, by omega, .inr rfl, rfl, hid (by simp), hid (by simp), hid (by simp), nextB (below_new _ _) hbb⟩
          case round =>
            obtain ⟨j, q, hj, rfl, hq, hqr, rfl, HQ, HP, HE, hb⟩ := hrel
            by_cases hlt : j < l.length
            · obtain ⟨g, off, k1, n1, b1, l1, A1, c1, B1, d1, rfl, hg, _, HX, a0, a1, a2, a3, hX⟩ := (hH.stay hb).item hlt
              have hm := List.mem_of_getElem? HX.out
              have hj18 : (j : Int) < l.length := by omega
              have hrq : -9223372036854775808 ≤ room - (q : Int) := by omega
              by_cases hfx : Fit (.mk k1 n1 b1 l1) t (room - q)
              · have HFX := hid hfx
                clear hfx
                have hbq : ((bytesV (.mk k1 n1 b1 l1)).length : Int) ≤ room - q := HFX.out.2.2
                go_wp2_with (go_at_call 23; refine ((ih _ hm k1 n1 b1 l1 rfl D A1 B1 c1 d1 t (room - q) _ (by omega) (by omega) (by omega) (tameL_mem HTM.out hm) ((ht.stay hb).stay (below_new _ _)) (hX.stay (below_new _ _))).mono fun e w' hh => hh.of_fit HFX.out).mono ?_; rintro e w' ⟨rfl, hbb2⟩)
                go_roundw
                case rel =>
                  have hdr := drop_at HX.out
                  exact ⟨j + 1, q + (bytesV (.mk k1 n1 b1 l1)).length, by omega, by go_num, by omega, by omega, by go_num, hid (by rw [HQ.out, hdr, bytesL, List.length_append]; omega), hid (by rw [HP.out, hdr, pureL, HFX.out.1, Bool.true_and]), hid (by have := HFX.out.2.1; rw [HE.out, hdr, deepL]; omega), nextB (newB hb _) hbb2⟩
                case measure => simp [intOf]; omega
              · have HFX := hid hfx
                clear hfx
                have HNF : Hid (¬ Fit (.mk 3 0 b l) (t + 1) room) := hid (fun h => by
                  have h2 := HF.out.1 h
                  have hdr := drop_at HX.out
                  apply HFX.out
                  have p1 := h2.1
                  have p2 := HQ.out
                  have p3 := HE.out.1 (by omega)
                  rw [HP.out, hdr, pureL, Bool.and_eq_true] at p1
                  rw [hdr, bytesL, List.length_append] at p2
                  rw [hdr, deepL] at p3
                  exact ⟨p1.1, by omega, by omega⟩)
                go_wp2_with (go_at_call 23; refine ((ih _ hm k1 n1 b1 l1 rfl D A1 B1 c1 d1 t (room - q) _ (by omega) (by omega) (by omega) (tameL_mem HTM.out hm) ((ht.stay hb).stay (below_new _ _)) (hX.stay (below_new _ _))).mono fun e w' hh => hh.of_not HFX.out).mono ?_; rintro e w' ⟨rfl, hbb2⟩)
                go_ret2
                exact .no HNF.out rfl (nextB (newB hb _) hbb2)
            · have e : j = l.length := by omega
              subst e
              by_cases hroom : room < (q : Int)
              · go_wp2
                go_ret2
                exact .no (fun h => by have := HF.out.1 h; have := HQ.out; omega) rfl hb
              · go_wp2
                go_ret2
                have hq2 := HQ.out
                rw [List.drop_length, bytesL] at hq2
                refine .yes (HF.out.2 ⟨by rw [HP.out, List.drop_length, pureL], ?_, by simp at hq2; omega⟩) (by rw [HL.out]; simp at hq2; rw [hq2]; rfl) hb
                have h3 : deepL l ≤ t := HE.out.2 (by rw [List.drop_length, deepL]; omega)
                omega

theorem cSize_any (k n : Int) (b : List Int) (l : List V) (D : Nat) (A B : Option Addr) (c d : Nat) (w : World) (htm : tameV (.mk k n b l)) (ht : Tabs w) (hH : Has D w (.mk k n b l) A B) :
    Calls Tryd.prog 8 #[.agg #[.int .i64 k, .int .i64 n, .slice A b.length c, .slice B l.length d]] w (SizePost (.mk k n b l) 16 1048576 w) := by
  by_cases hf : Fit (.mk k n b l) 16 1048576
  · have HF := hid hf
    clear hf
    go_enter Tryd.func8, Tryd.ntmps8
    go_wp2_with (go_at_call 23; refine ((size_any _ k n b l rfl D A B c d 16 1048576 _ (by omega) (by omega) (by omega) htm (ht.stay (below_new _ _)) (hH.stay (below_new _ _))).mono fun e w' hh => hh.of_fit HF.out).mono ?_; rintro e w' ⟨rfl, hbb⟩)
    go_ret2
    exact .yes HF.out rfl (nextB (below_new _ _) hbb)
  · have HF := hid hf
    clear hf
    go_enter Tryd.func8, Tryd.ntmps8
    go_wp2_with (go_at_call 23; refine ((size_any _ k n b l rfl D A B c d 16 1048576 _ (by omega) (by omega) (by omega) htm (ht.stay (below_new _ _)) (hH.stay (below_new _ _))).mono fun e w' hh => hh.of_not HF.out).mono ?_; rintro e w' ⟨rfl, hbb⟩)
    go_ret2
    exact .no HF.out rfl (nextB (below_new _ _) hbb)
end Go.Proofs.YtcahcecohjohpaaDoor
