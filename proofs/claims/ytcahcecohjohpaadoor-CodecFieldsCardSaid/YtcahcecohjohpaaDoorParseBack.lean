/- The decoding inverts the encoding, and the other way round. No program is named. -/
import Derived.Test.YtcahcecohjohpaaDoorParse
import Derived.Test.YtcahcecohjohpaaDoorWriteB
namespace Go.Proofs.YtcahcecohjohpaaDoor
open Go.RowKit

theorem take_len {a b : List Int} {n : Nat} (h : a.length = n) : (a ++ b).take n = a := by subst h; exact List.take_left
theorem drop_len {a b : List Int} {n : Nat} (h : a.length = n) : (a ++ b).drop n = b := by subst h; exact List.drop_left

theorem headP_of {k : Int} {n lists : Nat} (hk : k = 1 ∨ k = 2 ∨ k = 3) (hf : Fits n (wid k)) (hm : (n : Int) ≤ mostP k) (hl : k = 3 → lists ≠ 0) (r : List Int) : headP lists ((k :: pbytes true n (wid k)) ++ r) = .ok ((k, n), r) := by
  have hw : (pbytes true n (wid k)).length = (wid k).toNat := pbytes_len hf
  have hv : hiv (pbytes true n (wid k)) = n := by
    obtain ⟨t, ht⟩ := Int.eq_ofNat_of_zero_le (show 0 ≤ wid k by have := hf.1; omega)
    rw [ht] at hf ⊢
    obtain ⟨a, b, c, d, e⟩ := fits_lt hf
    rw [pbytes, if_pos hf, Int.toNat_natCast, hiv_split t n a c]
  unfold headP
  have h0 : ¬ ((k :: pbytes true n (wid k)) ++ r).length = 0 := by simp
  have hg : ((k :: pbytes true n (wid k)) ++ r).getD 0 0 = k := rfl
  have h1 : ¬ (k < 1 ∨ 3 < k ∨ (k = 3 ∧ lists = 0)) := by
    rintro (h | h | ⟨h, h2⟩)
    · omega
    · omega
    · exact hl h h2
  have h2 : ¬ ((k :: pbytes true n (wid k)) ++ r).length - 1 < (wid k).toNat := by rw [List.cons_append, List.length_cons, List.length_append, hw]; omega
  have h3 : (((k :: pbytes true n (wid k)) ++ r).drop 1).take (wid k).toNat = pbytes true n (wid k) := by
    rw [List.cons_append, List.drop_succ_cons, List.drop_zero, ← hw, List.take_left]
  have h4 : ((k :: pbytes true n (wid k)) ++ r).drop (1 + (wid k).toNat) = r := by
    rw [Nat.add_comm, List.cons_append, List.drop_succ_cons, ← hw, List.drop_left]
  simp only [h0, if_false, hg, h1, h2, h3, hv, h4]
  rw [if_neg (by omega)]
  rfl

theorem plain_num {n : Int} {b : List Int} {l : List V} (h : plainB 1 n b.length l.length = true) : b = [] ∧ l = [] ∧ 0 ≤ n ∧ n ≤ 4611686018427387904 := by
  rcases plain_kinds h with ⟨_, h0, h1, h2, h3⟩ | ⟨h, _⟩ | ⟨h, _⟩
  · exact ⟨List.eq_nil_of_length_eq_zero h2, List.eq_nil_of_length_eq_zero h3, h0, h1⟩
  · cases h
  · cases h

theorem parseN_back {f : List Int → Res V} : ∀ (l : List V) (r : List Int), (∀ x ∈ l, ∀ r, f (bytesV x ++ r) = .ok (x, r)) → parseN f l.length (bytesL l ++ r) = .ok (l, r)
  | [], r, _ => rfl
  | x :: l, r, h => by
    rw [List.length_cons, parseN, bytesL, List.append_assoc, h x (by simp)]
    simp only
    rw [parseN_back l r (fun y hy => h y (by simp [hy]))]

theorem parse_back (v : V) : ∀ (lists : Nat) (r : List Int), pureV v = true → tameV v → deepV v ≤ lists → parse lists (bytesV v ++ r) = .ok (v, r) := by
  induction v using V.ind with
  | h k n b l ih =>
    intro lists r hp ht hd
    rw [pureV, Bool.and_eq_true] at hp
    obtain ⟨hpl, hpL⟩ := hp
    rw [tameV] at ht
    obtain ⟨hb, _, htL⟩ := ht
    rcases plain_kinds hpl with ⟨rfl, hn0, hn1, hb0, hl0⟩ | ⟨rfl, rfl, hl0⟩ | ⟨rfl, rfl, hb0, hl0⟩
    · obtain ⟨rfl, rfl, _, _⟩ := plain_num hpl
      have h8 := nb_le n hn0 hn1
      have hlen : (pbytes true n (nb n)).length = nb n := by
        by_cases hz : n = 0
        · subst hz; rw [nb_zero]; decide +kernel
        · rw [pbytes_len (fits_nb (by omega) hn1)]; simp
      have hh := headP_of (k := 1) (n := nb n) (lists := lists) (.inl rfl) ⟨by decide, by decide, by omega, by show (nb n : Int) ≤ grt 1; simp [grt]; omega⟩ (by show (nb n : Int) ≤ 8; omega) (fun h => by cases h) (pbytes true n (nb n) ++ r)
      rw [num_bytes n [] [] hn0 hn1, hlen, List.append_assoc]
      have hbody : bodyP 1 (nb n) (pbytes true n (nb n) ++ r) = .ok (.mk 1 n [] [], r) := by
        unfold bodyP
        have ht : (pbytes true n (nb n) ++ r).take (nb n) = pbytes true n (nb n) := take_len hlen
        have hdr : (pbytes true n (nb n) ++ r).drop (nb n) = r := drop_len hlen
        rw [if_neg (by rw [List.length_append, hlen]; omega), if_neg (by decide), ht, hdr, numP_back hn0 hn1]
      cases lists with
      | zero => rw [parse, hh]; exact hbody
      | succ t => rw [parse, hh]; simp only; rw [if_neg (by decide)]; exact hbody
    · obtain rfl := List.eq_nil_of_length_eq_zero hl0
      have hh := headP_of (k := 2) (n := b.length) (lists := lists) (.inr (.inl rfl)) (fits_three (by omega)) (by show (b.length : Int) ≤ 16777215; omega) (fun h => by cases h) (b ++ r)
      have hbt : bytesV (.mk 2 0 b []) = (2 :: pbytes true b.length (wid 2)) ++ b := by unfold bytesV; rw [if_neg (by decide), if_pos rfl]; rfl
      rw [hbt, List.append_assoc]
      have hbody : bodyP 2 b.length (b ++ r) = .ok (.mk 2 0 b [], r) := by
        unfold bodyP
        rw [if_neg (by rw [List.length_append]; omega), if_pos rfl, List.take_left, List.drop_left]
      cases lists with
      | zero => rw [parse, hh]; exact hbody
      | succ t => rw [parse, hh]; simp only; rw [if_neg (by decide)]; exact hbody
    · obtain rfl := List.eq_nil_of_length_eq_zero hb0
      have hdl : deepV (.mk 3 0 [] l) = 1 + deepL l := by unfold deepV; rw [if_pos rfl]
      obtain ⟨t, rfl⟩ : ∃ t, lists = t + 1 := ⟨lists - 1, by omega⟩
      have hh := headP_of (k := 3) (n := l.length) (lists := t + 1) (.inr (.inr rfl)) (fits_two (by omega)) (by show (l.length : Int) ≤ 4096; omega) (fun _ => by omega) (bytesL l ++ r)
      have hbt : bytesV (.mk 3 0 [] l) = (3 :: pbytes true l.length (wid 3)) ++ bytesL l := by unfold bytesV; rw [if_neg (by decide), if_neg (by decide)]; rfl
      rw [hbt, List.append_assoc, parse, hh]
      simp only
      rw [if_pos trivial, parseN_back l r (fun x hx r => ih x hx t r (pureL_mem hpL hx) (tameL_mem htL hx) (by have := deepL_mem hx; omega))]

theorem headP_forth {lists : Nat} {bs r : List Int} {k : Int} {n : Nat} (hb : Byt bs) (h : headP lists bs = .ok ((k, n), r)) :
    (k = 1 ∨ k = 2 ∨ k = 3) ∧ (k = 3 → lists ≠ 0) ∧ (n : Int) ≤ mostP k ∧ Fits n (wid k) ∧ bs = (k :: pbytes true n (wid k)) ++ r := by
  unfold headP at h
  split at h
  · cases h
  · rename_i h0
    cases bs with
    | nil => simp at h0
    | cons c bs =>
      simp only [List.getD_cons_zero, List.length_cons, Nat.add_sub_cancel, List.drop_succ_cons, List.drop_zero] at h
      split at h
      · cases h
      · rename_i h1
        split at h
        · cases h
        · rename_i h2
          split at h
          · cases h
          · rename_i h3
            injection h with h
            injection h with h4 h5
            injection h4 with h6 h7
            subst h6
            have hk : c = 1 ∨ c = 2 ∨ c = 3 := by omega
            have hbt : Byt (bs.take (wid c).toNat) := fun x hx => hb x (by simp [List.mem_of_mem_take hx])
            have htl : (bs.take (wid c).toNat).length = (wid c).toNat := by rw [List.length_take]; omega
            have hbd := hiv_bd _ hbt
            have hn : (n : Int) = hiv (bs.take (wid c).toNat) := by rw [← h7]; omega
            have hg : gerr (bs.take (wid c).toNat).length (bval true (bs.take (wid c).toNat)) = 0 := by
              unfold gerr
              have hv : bval true (bs.take (wid c).toNat) = hiv (bs.take (wid c).toNat) := rfl
              rw [htl, hv]
              rw [htl] at hbd
              rcases hk with rfl | rfl | rfl <;> simp [wid] at hbd ⊢ <;> omega
            obtain ⟨hf, hp⟩ := fits_back hbt hg
            have hgn : gnum (bs.take (wid c).toNat).length (bval true (bs.take (wid c).toNat)) = n := by
              rw [hn]
              unfold gnum
              have hv : bval true (bs.take (wid c).toNat) = hiv (bs.take (wid c).toNat) := rfl
              rw [htl, hv]
              rw [htl] at hbd
              rcases hk with rfl | rfl | rfl <;> simp [wid] at hbd ⊢ <;> omega
            have hw : (((bs.take (wid c).toNat).length : Nat) : Int) = wid c := by rw [htl]; rcases hk with rfl | rfl | rfl <;> rfl
            rw [hgn, hw] at hf hp
            refine ⟨hk, fun h3 h4 => h1 (.inr (.inr ⟨h3, h4⟩)), by omega, hf, ?_⟩
            rw [hp, List.cons_append, ← h5, Nat.add_comm, List.drop_succ_cons, List.take_append_drop]

theorem bodyP_forth {k : Int} {n : Nat} {bs r : List Int} {v : V} (hk : k = 1 ∨ k = 2) (hf : Fits n (wid k)) (hb : Byt bs) (h : bodyP k n bs = .ok (v, r)) : (k :: pbytes true n (wid k)) ++ bs = bytesV v ++ r ∧ pureV v = true ∧ deepV v = 0 ∧ Byt r := by
  unfold bodyP at h
  split at h
  · cases h
  · rename_i h0
    split at h
    · rename_i h2
      subst h2
      injection h with h
      injection h with h1 h3
      subst h1
      subst h3
      have hl : (bs.take n).length = n := by rw [List.length_take]; omega
      refine ⟨?_, by simp [pureV, plainB, pureL], by simp [deepV], hb.drop n⟩
      have hbt : bytesV (.mk 2 0 (bs.take n) []) = (2 :: pbytes true (bs.take n).length (wid 2)) ++ bs.take n := by unfold bytesV; rw [if_neg (by decide), if_pos rfl]; rfl
      rw [hbt, hl, List.append_assoc, List.take_append_drop]
    · rename_i h2
      obtain rfl : k = 1 := by omega
      cases hn : numP (bs.take n) with
      | error e => rw [hn] at h; cases h
      | ok v' =>
        rw [hn] at h
        injection h with h
        injection h with h1 h3
        subst h1
        subst h3
        obtain ⟨N, rfl, g0, g1, g2, g3⟩ := numP_forth (hb.take n) hn
        have hl : (bs.take n).length = n := by rw [List.length_take]; omega
        refine ⟨?_, by simp [pureV, plainB, pureL, g0, g1], by simp [deepV], hb.drop n⟩
        rw [num_bytes N [] [] g0 g1, g3, hl, List.append_assoc, List.take_append_drop]

theorem parseN_forth {f : List Int → Res V} {t : Nat} (hf : ∀ bs v r, Byt bs → f bs = .ok (v, r) → bs = bytesV v ++ r ∧ pureV v = true ∧ deepV v ≤ t ∧ Byt r) :
    ∀ (n : Nat) (bs : List Int) (l : List V) (r : List Int), Byt bs → parseN f n bs = .ok (l, r) → l.length = n ∧ bs = bytesL l ++ r ∧ pureL l = true ∧ deepL l ≤ t ∧ Byt r
  | 0, bs, l, r, hb, h => by
    injection h with h
    injection h with h1 h2
    subst h1; subst h2
    exact ⟨rfl, rfl, rfl, Nat.zero_le _, hb⟩
  | n + 1, bs, l, r, hb, h => by
    rw [parseN] at h
    cases hx : f bs with
    | error e => rw [hx] at h; cases h
    | ok p =>
      obtain ⟨x, r1⟩ := p
      rw [hx] at h
      simp only at h
      cases hl : parseN f n r1 with
      | error e => rw [hl] at h; cases h
      | ok p2 =>
        obtain ⟨l2, r2⟩ := p2
        rw [hl] at h
        injection h with h
        injection h with h1 h2
        subst h1; subst h2
        obtain ⟨a1, a2, a3, a4⟩ := hf bs x r1 hb hx
        obtain ⟨b1, b2, b3, b4, b5⟩ := parseN_forth hf n r1 l2 r2 a4 hl
        refine ⟨by rw [List.length_cons, b1], by rw [bytesL, List.append_assoc, ← b2]; exact a1, by rw [pureL, a2, b3]; rfl, by rw [deepL]; omega, b5⟩

theorem parse_forth : ∀ (lists : Nat) (bs : List Int) (v : V) (r : List Int), Byt bs → parse lists bs = .ok (v, r) → bs = bytesV v ++ r ∧ pureV v = true ∧ deepV v ≤ lists ∧ Byt r
  | 0, bs, v, r, hb, h => by
    rw [parse] at h
    cases hh : headP 0 bs with
    | error e => rw [hh] at h; cases h
    | ok p =>
      obtain ⟨⟨k, n⟩, r1⟩ := p
      rw [hh] at h
      simp only at h
      obtain ⟨hk, h3, hm, hf, rfl⟩ := headP_forth hb hh
      have hb1 : Byt r1 := fun x hx => hb x (List.mem_append_right _ hx)
      obtain ⟨a1, a2, a3, a4⟩ := bodyP_forth (by omega) hf hb1 h
      exact ⟨a1, a2, by omega, a4⟩
  | t + 1, bs, v, r, hb, h => by
    rw [parse] at h
    cases hh : headP (t + 1) bs with
    | error e => rw [hh] at h; cases h
    | ok p =>
      obtain ⟨⟨k, n⟩, r1⟩ := p
      rw [hh] at h
      simp only at h
      obtain ⟨hk, h3, hm, hf, rfl⟩ := headP_forth hb hh
      have hb1 : Byt r1 := fun x hx => hb x (List.mem_append_right _ hx)
      split at h
      · rename_i hk3
        subst hk3
        cases hl : parseN (parse t) n r1 with
        | error e => rw [hl] at h; cases h
        | ok p2 =>
          obtain ⟨l2, r2⟩ := p2
          rw [hl] at h
          injection h with h
          injection h with h1 h2
          subst h1; subst h2
          obtain ⟨b1, b2, b3, b4, b5⟩ := parseN_forth (fun bs v r hb h => parse_forth t bs v r hb h) n r1 l2 r2 hb1 hl
          have hm2 : (n : Int) ≤ 4096 := hm
          have hbt : bytesV (.mk 3 0 [] l2) = (3 :: pbytes true l2.length (wid 3)) ++ bytesL l2 := by unfold bytesV; rw [if_neg (by decide), if_neg (by decide)]; rfl
          refine ⟨by rw [hbt, b1, List.append_assoc, ← b2], ?_, ?_, b5⟩
          · rw [pureV, b3, Bool.and_true, b1]; simp [plainB]; omega
          · unfold deepV; rw [if_pos rfl]; omega
      · obtain ⟨a1, a2, a3, a4⟩ := bodyP_forth (by omega) hf hb1 h
        exact ⟨a1, a2, by omega, a4⟩
end Go.Proofs.YtcahcecohjohpaaDoor
