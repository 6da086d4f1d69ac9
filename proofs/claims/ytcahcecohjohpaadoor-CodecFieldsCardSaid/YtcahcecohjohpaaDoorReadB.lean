/- The reader: head. -/
import Derived.Test.YtcahcecohjohpaaDoorRead
namespace Go.Proofs.YtcahcecohjohpaaDoor
open Go.RowKit

def HeadPost (R D lists : Nat) (bs : List Int) (w : World) (e : Ending) (w' : World) : Prop :=
  ((∃ k n r, headP lists bs = .ok ((k, n), r) ∧ e = .returned (.tuple #[.int .i64 k, .int .i64 (n : Nat), .int .i64 0]) ∧ Rd R D w' r) ∨ (∃ er : Int, headP lists bs = .error er ∧ er ≠ 0 ∧ e = .returned (.tuple #[.int .i64 0, .int .i64 0, .int .i64 er]))) ∧ w.grownBy w' (some R)
theorem HeadPost.no {R D lists : Nat} {bs : List Int} {w w' : World} {er : Int} (h : headP lists bs = .error er) (h0 : er ≠ 0) (hg : w.grownBy w' (some R)) : HeadPost R D lists bs w (.returned (.tuple #[.int .i64 0, .int .i64 0, .int .i64 er])) w' := ⟨.inr ⟨er, h, h0, rfl⟩, hg⟩

theorem eq_le {a b c : Int} (h : a = b) (k : b ≤ c) : a ≤ c := h ▸ k
theorem hiv_one (c : Int) : hiv [c] = c := by simp [hiv]

theorem headP_bad {lists : Nat} {c : Int} {rest : List Int} (h : c < 1 ∨ 3 < c ∨ (c = 3 ∧ lists = 0)) : headP lists (c :: rest) = .error 11 := by
  unfold headP
  rw [if_neg (by simp)]
  simp only [List.getD_cons_zero]
  rw [if_pos h]
theorem headP_short {lists : Nat} {c : Int} {rest : List Int} (h : ¬ (c < 1 ∨ 3 < c ∨ (c = 3 ∧ lists = 0))) (hs : rest.length < (wid c).toNat) : headP lists (c :: rest) = .error 10 := by
  unfold headP
  rw [if_neg (by simp)]
  simp only [List.getD_cons_zero]
  rw [if_neg h, if_pos (by simpa using hs)]
theorem headP_much {lists : Nat} {c : Int} {rest : List Int} (h : ¬ (c < 1 ∨ 3 < c ∨ (c = 3 ∧ lists = 0))) (hs : ¬ rest.length < (wid c).toNat) (hm : mostP c < hiv (rest.take (wid c).toNat)) : headP lists (c :: rest) = .error 11 := by
  unfold headP
  rw [if_neg (by simp)]
  simp only [List.getD_cons_zero, List.drop_succ_cons, List.drop_zero]
  rw [if_neg h, if_neg (by simpa using hs), if_pos hm]
theorem headP_ok {lists : Nat} {c : Int} {rest : List Int} (h : ¬ (c < 1 ∨ 3 < c ∨ (c = 3 ∧ lists = 0))) (hs : ¬ rest.length < (wid c).toNat) (hm : ¬ mostP c < hiv (rest.take (wid c).toNat)) : headP lists (c :: rest) = .ok ((c, (hiv (rest.take (wid c).toNat)).toNat), rest.drop (wid c).toNat) := by
  unfold headP
  rw [if_neg (by simp)]
  simp only [List.getD_cons_zero, List.drop_succ_cons, List.drop_zero]
  rw [if_neg h, if_neg (by simpa using hs), if_neg hm, Nat.add_comm, List.drop_succ_cons]

theorem grown_below {R D : Nat} {w w' : World} (hg : w.grownBy w' (some R)) (h1 : D ≤ R) (h2 : D ≤ w.heap.size) : Below D w w' := (Below.refl _ _).grown hg h2 (fun k hk => by injection hk with hk; omega)
theorem Tabs.grown {R : Nat} {w w' : World} (h : Tabs w) (hg : w.grownBy w' (some R)) (hR : 1 < R) : Tabs w' := h.grow (grown_below hg (D := 2) hR h.1) (by omega)

set_option maxHeartbeats 1000000 in
theorem rhead_1 (R D lists : Nat) (rest : List Int) (w : World) (_hls : lists ≤ 16) (hb : Byt (1 :: rest)) (hbr : Byt rest) (ht : Tabs w) (h1R : 1 < R) (hR : Rd R D w (1 :: rest)) (hbad : ¬ ((1 : Int) < 1 ∨ 3 < (1 : Int) ∨ ((1 : Int) = 3 ∧ lists = 0))) :
    Calls Tryd.prog 41 #[.pointer (some ⟨R, 0, none⟩), .int .i64 lists] w (HeadPost R D lists (1 :: rest) w) := by
  have HW : Hid ((wid 1).toNat = 1) := hid rfl
  have HM : Hid (mostP 1 = 8) := hid rfl
  by_cases hs : rest.length < 1
  · have HP := hid (headP_short hbad (show rest.length < (wid 1).toNat from hs))
    clear hbad
    go_enter Tryd.func41, Tryd.ntmps41
    go_wp2_with (first
      | (go_at_call 47; refine (countI_no _ 1 rfl R D rest _ hR1 hs).mono ?_; rintro e w2 ⟨rfl, rfl⟩)
      | (go_at_call 47; refine (countI_yes _ 1 rfl R D (1 :: rest) _ hb hR (by decide) (by decide) (by simp)).mono ?_; rintro e w1 ⟨N, rfl, HN, hN0, hN1, hR1, hg1⟩; obtain rfl : N = 1 := HN.out.trans (hiv_one 1); have ht1 := ht.grown hg1 h1R; obtain ⟨_, ⟨t1, t2, t3⟩, _⟩ := ht.grown hg1 h1R))
    go_ret3
    exact .no HP.out (by decide) hg1
  · have hs1 := Nat.le_of_not_lt hs
    by_cases hm : 8 < hiv (rest.take 1)
    · have HP := hid (headP_much (rest := rest) hbad (show ¬ rest.length < (wid 1).toNat from hs) (show mostP 1 < hiv (rest.take (wid 1).toNat) from hm))
      have HMM := hid hm
      clear hbad hm
      go_enter Tryd.func41, Tryd.ntmps41
      go_wp2_with (first
        | (go_at_call 47; refine (countI_yes _ 1 rfl R D rest _ hbr hR1 (by decide) (by decide) hs1).mono ?_; rintro e w2 ⟨N2, rfl, HN2, hN20, hN21, hR2, hg2⟩; have hgt : 8 < N2 := (by rw [HN2.out]; exact HMM.out); obtain ⟨_, _, u1, u2, u3⟩ := ht1.grown hg2 h1R)
        | (go_at_call 47; refine (countI_yes _ 1 rfl R D (1 :: rest) _ hb hR (by decide) (by decide) (by simp)).mono ?_; rintro e w1 ⟨N, rfl, HN, hN0, hN1, hR1, hg1⟩; obtain rfl : N = 1 := HN.out.trans (hiv_one 1); have ht1 := ht.grown hg1 h1R; obtain ⟨_, ⟨t1, t2, t3⟩, _⟩ := ht.grown hg1 h1R))
      go_ret3
      exact .no HP.out (by decide) (hg1.trans hg2)
    · have HP := hid (headP_ok (rest := rest) hbad (show ¬ rest.length < (wid 1).toNat from hs) (show ¬ mostP 1 < hiv (rest.take (wid 1).toNat) from hm))
      have HMM : Hid (hiv (rest.take 1) ≤ 8) := hid (by omega)
      clear hbad hm
      go_enter Tryd.func41, Tryd.ntmps41
      go_wp2_with (first
        | (go_at_call 47; refine (countI_yes _ 1 rfl R D rest _ hbr hR1 (by decide) (by decide) hs1).mono ?_; rintro e w2 ⟨N2, rfl, HN2, hN20, hN21, hR2, hg2⟩; have hgt : N2 ≤ 8 := eq_le HN2.out HMM.out; obtain ⟨_, _, u1, u2, u3⟩ := ht1.grown hg2 h1R)
        | (go_at_call 47; refine (countI_yes _ 1 rfl R D (1 :: rest) _ hb hR (by decide) (by decide) (by simp)).mono ?_; rintro e w1 ⟨N, rfl, HN, hN0, hN1, hR1, hg1⟩; obtain rfl : N = 1 := HN.out.trans (hiv_one 1); have ht1 := ht.grown hg1 h1R; obtain ⟨_, ⟨t1, t2, t3⟩, _⟩ := ht.grown hg1 h1R))
      go_ret3
      have hN : ((hiv (rest.take 1)).toNat : Int) = N2 := by rw [← HN2.out]; omega
      exact ⟨.inl ⟨1, _, _, HP.out, by rw [show (wid 1).toNat = 1 from rfl, hN]; rfl, hR2⟩, hg1.trans hg2⟩
set_option maxHeartbeats 1000000 in
theorem rhead_2 (R D lists : Nat) (rest : List Int) (w : World) (_hls : lists ≤ 16) (hb : Byt (2 :: rest)) (hbr : Byt rest) (ht : Tabs w) (h1R : 1 < R) (hR : Rd R D w (2 :: rest)) (hbad : ¬ ((2 : Int) < 1 ∨ 3 < (2 : Int) ∨ ((2 : Int) = 3 ∧ lists = 0))) :
    Calls Tryd.prog 41 #[.pointer (some ⟨R, 0, none⟩), .int .i64 lists] w (HeadPost R D lists (2 :: rest) w) := by
  have HW : Hid ((wid 2).toNat = 3) := hid rfl
  have HM : Hid (mostP 2 = 16777215) := hid rfl
  by_cases hs : rest.length < 3
  · have HP := hid (headP_short hbad (show rest.length < (wid 2).toNat from hs))
    clear hbad
    go_enter Tryd.func41, Tryd.ntmps41
    go_wp2_with (first
      | (go_at_call 47; refine (countI_no _ 3 rfl R D rest _ hR1 hs).mono ?_; rintro e w2 ⟨rfl, rfl⟩)
      | (go_at_call 47; refine (countI_yes _ 1 rfl R D (2 :: rest) _ hb hR (by decide) (by decide) (by simp)).mono ?_; rintro e w1 ⟨N, rfl, HN, hN0, hN1, hR1, hg1⟩; obtain rfl : N = 2 := HN.out.trans (hiv_one 2); have ht1 := ht.grown hg1 h1R; obtain ⟨_, ⟨t1, t2, t3⟩, _⟩ := ht.grown hg1 h1R))
    go_ret3
    exact .no HP.out (by decide) hg1
  · have hs1 := Nat.le_of_not_lt hs
    by_cases hm : 16777215 < hiv (rest.take 3)
    · have HP := hid (headP_much (rest := rest) hbad (show ¬ rest.length < (wid 2).toNat from hs) (show mostP 2 < hiv (rest.take (wid 2).toNat) from hm))
      have HMM := hid hm
      clear hbad hm
      go_enter Tryd.func41, Tryd.ntmps41
      go_wp2_with (first
        | (go_at_call 47; refine (countI_yes _ 3 rfl R D rest _ hbr hR1 (by decide) (by decide) hs1).mono ?_; rintro e w2 ⟨N2, rfl, HN2, hN20, hN21, hR2, hg2⟩; have hgt : 16777215 < N2 := (by rw [HN2.out]; exact HMM.out); obtain ⟨_, _, u1, u2, u3⟩ := ht1.grown hg2 h1R)
        | (go_at_call 47; refine (countI_yes _ 1 rfl R D (2 :: rest) _ hb hR (by decide) (by decide) (by simp)).mono ?_; rintro e w1 ⟨N, rfl, HN, hN0, hN1, hR1, hg1⟩; obtain rfl : N = 2 := HN.out.trans (hiv_one 2); have ht1 := ht.grown hg1 h1R; obtain ⟨_, ⟨t1, t2, t3⟩, _⟩ := ht.grown hg1 h1R))
      go_ret3
      exact .no HP.out (by decide) (hg1.trans hg2)
    · have HP := hid (headP_ok (rest := rest) hbad (show ¬ rest.length < (wid 2).toNat from hs) (show ¬ mostP 2 < hiv (rest.take (wid 2).toNat) from hm))
      have HMM : Hid (hiv (rest.take 3) ≤ 16777215) := hid (by omega)
      clear hbad hm
      go_enter Tryd.func41, Tryd.ntmps41
      go_wp2_with (first
        | (go_at_call 47; refine (countI_yes _ 3 rfl R D rest _ hbr hR1 (by decide) (by decide) hs1).mono ?_; rintro e w2 ⟨N2, rfl, HN2, hN20, hN21, hR2, hg2⟩; have hgt : N2 ≤ 16777215 := eq_le HN2.out HMM.out; obtain ⟨_, _, u1, u2, u3⟩ := ht1.grown hg2 h1R)
        | (go_at_call 47; refine (countI_yes _ 1 rfl R D (2 :: rest) _ hb hR (by decide) (by decide) (by simp)).mono ?_; rintro e w1 ⟨N, rfl, HN, hN0, hN1, hR1, hg1⟩; obtain rfl : N = 2 := HN.out.trans (hiv_one 2); have ht1 := ht.grown hg1 h1R; obtain ⟨_, ⟨t1, t2, t3⟩, _⟩ := ht.grown hg1 h1R))
      go_ret3
      have hN : ((hiv (rest.take 3)).toNat : Int) = N2 := by rw [← HN2.out]; omega
      exact ⟨.inl ⟨2, _, _, HP.out, by rw [show (wid 2).toNat = 3 from rfl, hN]; rfl, hR2⟩, hg1.trans hg2⟩
set_option maxHeartbeats 1000000 in
theorem rhead_3 (R D lists : Nat) (rest : List Int) (w : World) (_hls : lists ≤ 16) (hb : Byt (3 :: rest)) (hbr : Byt rest) (ht : Tabs w) (h1R : 1 < R) (hR : Rd R D w (3 :: rest)) (hbad : ¬ ((3 : Int) < 1 ∨ 3 < (3 : Int) ∨ ((3 : Int) = 3 ∧ lists = 0))) (hl0 : ((lists : Int) == 0) = false) :
    Calls Tryd.prog 41 #[.pointer (some ⟨R, 0, none⟩), .int .i64 lists] w (HeadPost R D lists (3 :: rest) w) := by
  have HW : Hid ((wid 3).toNat = 2) := hid rfl
  have HM : Hid (mostP 3 = 4096) := hid rfl
  by_cases hs : rest.length < 2
  · have HP := hid (headP_short hbad (show rest.length < (wid 3).toNat from hs))
    clear hbad
    go_enter Tryd.func41, Tryd.ntmps41
    go_wp2_with (first
      | (go_at_call 47; refine (countI_no _ 2 rfl R D rest _ hR1 hs).mono ?_; rintro e w2 ⟨rfl, rfl⟩)
      | (go_at_call 47; refine (countI_yes _ 1 rfl R D (3 :: rest) _ hb hR (by decide) (by decide) (by simp)).mono ?_; rintro e w1 ⟨N, rfl, HN, hN0, hN1, hR1, hg1⟩; obtain rfl : N = 3 := HN.out.trans (hiv_one 3); have ht1 := ht.grown hg1 h1R; obtain ⟨_, ⟨t1, t2, t3⟩, _⟩ := ht.grown hg1 h1R))
    go_ret3
    exact .no HP.out (by decide) hg1
  · have hs1 := Nat.le_of_not_lt hs
    by_cases hm : 4096 < hiv (rest.take 2)
    · have HP := hid (headP_much (rest := rest) hbad (show ¬ rest.length < (wid 3).toNat from hs) (show mostP 3 < hiv (rest.take (wid 3).toNat) from hm))
      have HMM := hid hm
      clear hbad hm
      go_enter Tryd.func41, Tryd.ntmps41
      go_wp2_with (first
        | (go_at_call 47; refine (countI_yes _ 2 rfl R D rest _ hbr hR1 (by decide) (by decide) hs1).mono ?_; rintro e w2 ⟨N2, rfl, HN2, hN20, hN21, hR2, hg2⟩; have hgt : 4096 < N2 := (by rw [HN2.out]; exact HMM.out); obtain ⟨_, _, u1, u2, u3⟩ := ht1.grown hg2 h1R)
        | (go_at_call 47; refine (countI_yes _ 1 rfl R D (3 :: rest) _ hb hR (by decide) (by decide) (by simp)).mono ?_; rintro e w1 ⟨N, rfl, HN, hN0, hN1, hR1, hg1⟩; obtain rfl : N = 3 := HN.out.trans (hiv_one 3); have ht1 := ht.grown hg1 h1R; obtain ⟨_, ⟨t1, t2, t3⟩, _⟩ := ht.grown hg1 h1R))
      go_ret3
      exact .no HP.out (by decide) (hg1.trans hg2)
    · have HP := hid (headP_ok (rest := rest) hbad (show ¬ rest.length < (wid 3).toNat from hs) (show ¬ mostP 3 < hiv (rest.take (wid 3).toNat) from hm))
      have HMM : Hid (hiv (rest.take 2) ≤ 4096) := hid (by omega)
      clear hbad hm
      go_enter Tryd.func41, Tryd.ntmps41
      go_wp2_with (first
        | (go_at_call 47; refine (countI_yes _ 2 rfl R D rest _ hbr hR1 (by decide) (by decide) hs1).mono ?_; rintro e w2 ⟨N2, rfl, HN2, hN20, hN21, hR2, hg2⟩; have hgt : N2 ≤ 4096 := eq_le HN2.out HMM.out; obtain ⟨_, _, u1, u2, u3⟩ := ht1.grown hg2 h1R)
        | (go_at_call 47; refine (countI_yes _ 1 rfl R D (3 :: rest) _ hb hR (by decide) (by decide) (by simp)).mono ?_; rintro e w1 ⟨N, rfl, HN, hN0, hN1, hR1, hg1⟩; obtain rfl : N = 3 := HN.out.trans (hiv_one 3); have ht1 := ht.grown hg1 h1R; obtain ⟨_, ⟨t1, t2, t3⟩, _⟩ := ht.grown hg1 h1R))
      go_ret3
      have hN : ((hiv (rest.take 2)).toNat : Int) = N2 := by rw [← HN2.out]; omega
      exact ⟨.inl ⟨3, _, _, HP.out, by rw [show (wid 3).toNat = 2 from rfl, hN]; rfl, hR2⟩, hg1.trans hg2⟩

set_option maxHeartbeats 1000000 in
theorem rhead_any (R D lists : Nat) (bs : List Int) (w : World) (hls : lists ≤ 16) (hb : Byt bs) (ht : Tabs w) (hD : 1 < D) (hR : Rd R D w bs) :
    Calls Tryd.prog 41 #[.pointer (some ⟨R, 0, none⟩), .int .i64 lists] w (HeadPost R D lists bs w) := by
  have hlt := hR.lt
  cases bs with
  | nil =>
    have HP : Hid (headP lists [] = .error 10) := hid rfl
    go_enter Tryd.func41, Tryd.ntmps41
    go_wp2_with (go_at_call 47; refine (countI_no _ 1 rfl R D [] _ hR (by simp)).mono ?_; rintro e w1 ⟨rfl, rfl⟩)
    go_ret3
    exact .no HP.out (by decide) (World.grownBy.refl _ _)
  | cons c rest =>
    have hcb := hb c (by simp)
    have hbr : Byt rest := fun x hx => hb x (by simp [hx])
    by_cases hbad : c < 1 ∨ 3 < c ∨ (c = 3 ∧ lists = 0)
    · have HP := hid (headP_bad (rest := rest) hbad)
      have HBD := hid hbad
      clear hbad
      by_cases h1 : c < 1
      · go_enter Tryd.func41, Tryd.ntmps41
        go_wp2_with (go_at_call 47; refine (countI_yes _ 1 rfl R D (c :: rest) _ hb hR (by omega) (by omega) (by simp)).mono ?_; rintro e w1 ⟨N, rfl, HN, hN0, hN1, hR1, hg1⟩; obtain rfl : N = c := HN.out.trans (hiv_one c))
        go_ret3
        exact .no HP.out (by decide) hg1
      · by_cases h3 : 3 < c
        · go_enter Tryd.func41, Tryd.ntmps41
          go_wp2_with (go_at_call 47; refine (countI_yes _ 1 rfl R D (c :: rest) _ hb hR (by omega) (by omega) (by simp)).mono ?_; rintro e w1 ⟨N, rfl, HN, hN0, hN1, hR1, hg1⟩; obtain rfl : N = c := HN.out.trans (hiv_one c))
          go_ret3
          exact .no HP.out (by decide) hg1
        · obtain ⟨rfl, rfl⟩ : c = 3 ∧ lists = 0 := by have := HBD.out; omega
          go_enter Tryd.func41, Tryd.ntmps41
          go_wp2_with (go_at_call 47; refine (countI_yes _ 1 rfl R D (3 :: rest) _ hb hR (by omega) (by omega) (by simp)).mono ?_; rintro e w1 ⟨N, rfl, HN, hN0, hN1, hR1, hg1⟩; obtain rfl : N = 3 := HN.out.trans (hiv_one 3))
          go_ret3
          exact .no HP.out (by decide) hg1
    · have hc : c = 1 ∨ c = 2 ∨ c = 3 := by omega
      have h1R : 1 < R := by omega
      rcases hc with rfl | rfl | rfl
      · exact rhead_1 R D lists rest w hls hb hbr ht h1R hR hbad
      · exact rhead_2 R D lists rest w hls hb hbr ht h1R hR hbad
      · exact rhead_3 R D lists rest w hls hb hbr ht h1R hR hbad (by rw [beq_eq_false_iff_ne]; omega)
end Go.Proofs.YtcahcecohjohpaaDoor
