/- All quarter rounds of a round. -/
import Derived.Test.YtkblmdakejmmhaaDoorG23
namespace Go.Proofs.YtkblmdakejmmhaaDoor
open Go Go.RowKit

set_option maxRecDepth 4000 in
set_option maxHeartbeats 2000000 in
theorem mix_anyZ (b : Nat) (l0 : List Int) (w : World) (hT : Tabs w) (hb0 : 1 < b) (hl : Hid (l0.length = 16)) (hw0 : Hid (Wds l0)) (hA0 : Arr w b 0 .u32 l0) :
    Calls Tryd.prog 56 #[.pointer (some ⟨b, 0, none⟩)] w fun e w' => e = .returned (.tuple #[]) ∧ Arr w' b 0 .u32 (qk l0 8) ∧ Only b w w' := by
  have hTr := hT.2
  have hblt : b < w.heap.size := hA0.lt (by have := hl.out; omega)
  have hrl := @index61
  have hq61 := info61
  obtain ⟨qt, hqt⟩ : ∃ q, QT = q := ⟨_, rfl⟩
  rw [hqt] at hTr hrl hq61
  clear hqt
  go_enter Tryd.func56, Tryd.ntmps56
  go_wp2_with (with_reducible refine wpList_load_mid (op := ⟨some 8, .load 116 (.global 1), _, _, _, _⟩) rfl 116 (.global 1) rfl 1 0 rfl (ints .i64 qt) _ hTr Tryd.underlying116 rfl hq61 ?_)
  go_loopw [9] (fun i wr => ∃ k : Nat, k ≤ 8 ∧ i = .int .i64 k ∧ Arr wr b 0 .u32 (qk l0 k) ∧ Only b w wr) (fun i _ => 8 - (intOf i).toNat)
  case atStart => exact ⟨0, by omega, rfl, hA0, Only.refl _ _⟩
  case round =>
    obtain ⟨k, hk, rfl, hA1, hOn⟩ := hrel
    by_cases hlt : k < 8
    · obtain ⟨l1, hl1⟩ : ∃ l, qk l0 k = l := ⟨_, rfl⟩
      obtain ⟨ia, hia⟩ : ∃ n, (QI k).1 = n := ⟨_, rfl⟩
      obtain ⟨ib, hib⟩ : ∃ n, (QI k).2.1 = n := ⟨_, rfl⟩
      obtain ⟨ic, hic⟩ : ∃ n, (QI k).2.2.1 = n := ⟨_, rfl⟩
      obtain ⟨ie, hie⟩ : ∃ n, (QI k).2.2.2 = n := ⟨_, rfl⟩
      have hix := fun W => hrl k hlt W
      obtain ⟨q1, q2, q3, q4⟩ := QI_lt k
      rw [hia, hib, hic, hie] at hix
      rw [hia] at q1
      rw [hib] at q2
      rw [hic] at q3
      rw [hie] at q4
      have hlen : l1.length = 16 := by rw [← hl1, qk_length]; exact hl.out
      have hws : Wds l1 := by rw [← hl1]; exact qk_wds hw0.out k
      have ha0 : (0 : Int) ≤ ia := by omega
      have hb0' : (0 : Int) ≤ ib := by omega
      have hc0 : (0 : Int) ≤ ic := by omega
      have he0 : (0 : Int) ≤ ie := by omega
      have ha1 : (ia : Int) < 16 := by omega
      have hb1 : (ib : Int) < 16 := by omega
      have hc1 : (ic : Int) < 16 := by omega
      have he1 : (ie : Int) < 16 := by omega
      obtain ⟨xa, hxa⟩ : ∃ x, l1[ia]? = some x := ⟨l1[ia], by simp [hlen, q1]⟩
      obtain ⟨xb, hxb⟩ : ∃ x, l1[ib]? = some x := ⟨l1[ib], by simp [hlen, q2]⟩
      obtain ⟨xc, hxc⟩ : ∃ x, l1[ic]? = some x := ⟨l1[ic], by simp [hlen, q3]⟩
      obtain ⟨xd, hxd⟩ : ∃ x, l1[ie]? = some x := ⟨l1[ie], by simp [hlen, q4]⟩
      obtain ⟨ya, hya⟩ : ∃ y, qa xa xb xc xd = y := ⟨_, rfl⟩
      obtain ⟨yb, hyb⟩ : ∃ y, qb xa xb xc xd = y := ⟨_, rfl⟩
      obtain ⟨yc, hyc⟩ : ∃ y, qc xa xb xc xd = y := ⟨_, rfl⟩
      obtain ⟨yd, hyd⟩ : ∃ y, qd xa xb xc xd = y := ⟨_, rfl⟩
      have hnext : qk l0 (k + 1) = (((l1.set ia ya).set ib yb).set ic yc).set ie yd := by
        show qAt (qk l0 k) (QI k) = _
        unfold qAt
        rw [hl1, hia, hib, hic, hie]
        simp only [List.getD_eq_getElem?_getD, hxa, hxb, hxc, hxd, Option.getD_some, hya, hyb, hyc, hyd]
      have HN := hid hnext
      have Ga := hid hxa
      have Gb := hid hxb
      have Gc := hid hxc
      have Gd := hid hxd
      have Ya := hid hya
      have Yb := hid hyb
      have Yc := hid hyc
      have Yd := hid hyd
      have Wb := hid (hws.at_ hxb)
      have Wd_ := hid (hws.at_ hxd)
      have HL := hid hlen
      rw [hl1] at hA1
      have hblr : b < wr.heap.size := Nat.lt_of_lt_of_le hblt hOn.size
      clear hnext hxa hxb hxc hxd hya hyb hyc hyd hws hlen hl1 hia hib hic hie hrl hTr hA0
      go_wp2_with (with_reducible refine wpList_store_mid (op := ⟨none, .store 115 (.tmp 3) (.tmp 11), _, _, _, _⟩) rfl 115 (.tmp 3) (.tmp 11) rfl wr.heap.size 0 (ints .i64 [(ia : Int), (ib : Int), (ic : Int), (ie : Int)]).toArray rfl rfl ?_ ?_ (ints_all _ _) ?_)
      · exact (Arr.made wr .i64 [0, 0, 0, 0] 115).there
      · exact szA info60 rfl
      have hB : Below wr.heap.size wr ((wr.alloc (.cells #[.int .i64 0, .int .i64 0, .int .i64 0, .int .i64 0] 115)).setCells wr.heap.size 0 (ints .i64 [(ia : Int), (ib : Int), (ic : Int), (ie : Int)]).toArray.toList) := Below.setCells ((Below.refl _ _).alloc (Nat.le_refl _) _) (Nat.le_refl _) _ _
      have hC : Arr ((wr.alloc (.cells #[.int .i64 0, .int .i64 0, .int .i64 0, .int .i64 0] 115)).setCells wr.heap.size 0 (ints .i64 [(ia : Int), (ib : Int), (ic : Int), (ie : Int)]).toArray.toList) wr.heap.size 0 .i64 [(ia : Int), (ib : Int), (ic : Int), (ie : Int)] := (Arr.made wr .i64 [0, 0, 0, 0] 115).all rfl
      have hA2 := hA1.below hB hblr
      have hO2 := hOn.trans (Only.of hB b)
      clear hB hA1 hOn hix
      generalize ((wr.alloc (.cells #[.int .i64 0, .int .i64 0, .int .i64 0, .int .i64 0] 115)).setCells wr.heap.size 0 (ints .i64 [(ia : Int), (ib : Int), (ic : Int), (ie : Int)]).toArray.toList) = w1 at *
      obtain ⟨B, hBe⟩ : ∃ B, wr.heap.size = B := ⟨_, rfl⟩
      rw [hBe] at hC ⊢
      clear hBe
      have d0 : w1.cell? ⟨B, 0, none⟩ = some (.int .i64 (ia : Int)) := by have := hC.at_ (i := 0) (x := (ia : Int)) rfl; simpa using this
      have d1 : w1.cell? ⟨B, 1, none⟩ = some (.int .i64 (ib : Int)) := by have := hC.at_ (i := 1) (x := (ib : Int)) rfl; simpa using this
      have d2 : w1.cell? ⟨B, 2, none⟩ = some (.int .i64 (ic : Int)) := by have := hC.at_ (i := 2) (x := (ic : Int)) rfl; simpa using this
      have d3 : w1.cell? ⟨B, 3, none⟩ = some (.int .i64 (ie : Int)) := by have := hC.at_ (i := 3) (x := (ie : Int)) rfl; simpa using this
      go_wp2
      go_quiet (fail)
      have hA3 := hA2.drewN nq
      have hO3 := hO2.drewN nq
      generalize w1.drewN nq = w2 at *
      clear d0 d1 d2 d3 hA2 hO2 hC
      obtain ⟨up, hup⟩ : ∃ up : Nat → World → World, up = fun m ww => if m = 0 then ww.setCell ⟨b, ia, none⟩ (.int .u32 ya) else if m = 1 then ww.setCell ⟨b, ib, none⟩ (.int .u32 yb) else if m = 2 then ww.setCell ⟨b, ic, none⟩ (.int .u32 yc) else ww.setCell ⟨b, ie, none⟩ (.int .u32 yd) := ⟨_, rfl⟩
      have hu0 : ∀ ww, up 0 ww = ww.setCell ⟨b, ia, none⟩ (.int .u32 ya) := fun ww => by rw [hup]; rfl
      have hu1 : ∀ ww, up 1 ww = ww.setCell ⟨b, ib, none⟩ (.int .u32 yb) := fun ww => by rw [hup]; rfl
      have hu2 : ∀ ww, up 2 ww = ww.setCell ⟨b, ic, none⟩ (.int .u32 yc) := fun ww => by rw [hup]; rfl
      have hu3 : ∀ ww, up 3 ww = ww.setCell ⟨b, ie, none⟩ (.int .u32 yd) := fun ww => by rw [hup]; rfl
      clear hup
      have hbl2 : b < w2.heap.size := Nat.lt_of_lt_of_le hblt hO3.size
      have hS0 : ∀ ww, Cl w2 ww → Arr (behind up 0 ww) b 0 .u32 l1 := fun ww h => hA3.below h hbl2
      have hT0 : ∀ ww, Cl w2 ww → Only b w (behind up 0 ww) := fun ww h => hO3.trans (Only.of h b)
      have hS1 : ∀ ww, Cl w2 ww → Arr (behind up 1 ww) b 0 .u32 (l1.set ia ya) := fun ww h => by show Arr (up 0 (behind up 0 ww)) _ _ _ _; rw [hu0]; have := (hS0 ww h).set ia ya; rwa [Nat.zero_add] at this
      have hT1 : ∀ ww, Cl w2 ww → Only b w (behind up 1 ww) := fun ww h => by show Only b w (up 0 (behind up 0 ww)); rw [hu0]; exact (hT0 ww h).setCell (.inl rfl) _
      have hS2 : ∀ ww, Cl w2 ww → Arr (behind up 2 ww) b 0 .u32 ((l1.set ia ya).set ib yb) := fun ww h => by show Arr (up 1 (behind up 1 ww)) _ _ _ _; rw [hu1]; have := (hS1 ww h).set ib yb; rwa [Nat.zero_add] at this
      have hT2 : ∀ ww, Cl w2 ww → Only b w (behind up 2 ww) := fun ww h => by show Only b w (up 1 (behind up 1 ww)); rw [hu1]; exact (hT1 ww h).setCell (.inl rfl) _
      have hS3 : ∀ ww, Cl w2 ww → Arr (behind up 3 ww) b 0 .u32 (((l1.set ia ya).set ib yb).set ic yc) := fun ww h => by show Arr (up 2 (behind up 2 ww)) _ _ _ _; rw [hu2]; have := (hS2 ww h).set ic yc; rwa [Nat.zero_add] at this
      have hT3 : ∀ ww, Cl w2 ww → Only b w (behind up 3 ww) := fun ww h => by show Only b w (up 2 (behind up 2 ww)); rw [hu2]; exact (hT2 ww h).setCell (.inl rfl) _
      have hS4 : ∀ ww, Cl w2 ww → Arr (behind up 4 ww) b 0 .u32 ((((l1.set ia ya).set ib yb).set ic yc).set ie yd) := fun ww h => by show Arr (up 3 (behind up 3 ww)) _ _ _ _; rw [hu3]; have := (hS3 ww h).set ie yd; rwa [Nat.zero_add] at this
      have hT4 : ∀ ww, Cl w2 ww → Only b w (behind up 4 ww) := fun ww h => by show Only b w (up 3 (behind up 3 ww)); rw [hu3]; exact (hT3 ww h).setCell (.inl rfl) _
      go_wp2
      refine region_many 63 (tvOf [(21, (.pointer (some ⟨b, 0, none⟩))), (22, (.int .i64 (ia : Int))), (23, (.pointer (some ⟨b, 0, none⟩))), (24, (.int .i64 (ib : Int))), (25, (.pointer (some ⟨b, 0, none⟩))), (26, (.int .i64 (ic : Int))), (27, (.pointer (some ⟨b, 0, none⟩))), (28, (.int .i64 (ie : Int))), (29, (.pointer (some ⟨b, 0, none⟩))), (30, (.int .i64 (ia : Int))), (31, (.pointer (some ⟨b, 0, none⟩))), (32, (.pointer (some ⟨b, ia, none⟩))), (33, (.int .u32 xa)), (34, (.pointer (some ⟨b, 0, none⟩))), (35, (.int .i64 (ib : Int))), (36, (.pointer (some ⟨b, 0, none⟩))), (37, (.pointer (some ⟨b, ib, none⟩))), (38, (.int .u32 xb)), (39, (.pointer (some ⟨b, 0, none⟩))), (40, (.int .i64 (ic : Int))), (41, (.pointer (some ⟨b, 0, none⟩))), (42, (.pointer (some ⟨b, ic, none⟩))), (43, (.int .u32 xc)), (44, (.pointer (some ⟨b, 0, none⟩))), (45, (.int .i64 (ie : Int))), (46, (.pointer (some ⟨b, 0, none⟩))), (47, (.pointer (some ⟨b, ie, none⟩))), (48, (.int .u32 xd)), (49, (.tuple #[.int .u32 ya, .int .u32 yb, .int .u32 yc, .int .u32 yd])), (20, (.tuple #[.int .u32 ya, .int .u32 yb, .int .u32 yc, .int .u32 yd])), (50, (.int .u32 ya)), (51, (.int .u32 yb)), (52, (.int .u32 yc)), (53, (.int .u32 yd)), (54, (.pointer (some ⟨b, 0, none⟩))), (55, (.pointer (some ⟨b, ia, none⟩))), (56, (.pointer (some ⟨b, 0, none⟩))), (57, (.pointer (some ⟨b, ib, none⟩))), (58, (.pointer (some ⟨b, 0, none⟩))), (59, (.pointer (some ⟨b, ic, none⟩))), (60, (.pointer (some ⟨b, 0, none⟩))), (61, (.pointer (some ⟨b, ie, none⟩)))]) (kdOf [0, 0, 0, 0, 0, 0, 0, 0, 0, 0, 0, 0, 1, 0, 0, 0, 0, 1, 0, 0, 0, 0, 1, 0, 0, 0, 0, 1, 1, 0, 0, 0, 0, 0, 0, 0, 2, 0, 0, 3, 0, 0, 4, 0, 0, 5]) [36, 39, 42, 45] up [21, 22, 23, 24, 25, 26, 27, 28, 29, 30, 31, 32, 33, 34, 35, 36, 37, 38, 39, 40, 41, 42, 43, 44, 45, 46, 47, 48, 49, 20, 50, 51, 52, 53, 54, 55, 56, 57, 58, 59, 60, 61] (by kernel_rfl) (by kernel_rfl) (by kernel_rfl) (Nat.le_of_eq rfl)
        ⟨.pure rfl rfl 21 rfl fun a ww hf hd => show _ = Result.ok (Next.value ((.pointer (some ⟨b, 0, none⟩)))) ww by
           have h0 : a.eval (.tmp 0) = (.pointer (some ⟨b, 0, none⟩)) := (outM hf 0 (by kernel_rfl)).trans rfl
           revert h0
           generalize a.eval = ev
           intro h0
           unfold execOp
           simp only [h0]
           (try go_simp),
         .pure rfl rfl 22 rfl fun a ww hf hd => show _ = Result.ok (Next.value ((.int .i64 (ia : Int)))) ww by
           have h4 : a.eval (.tmp 4) = (.int .i64 (ia : Int)) := (outM hf 4 (by kernel_rfl)).trans rfl
           revert h4
           generalize a.eval = ev
           intro h4
           unfold execOp
           simp only [h4]
           (try go_simp),
         .pure rfl rfl 23 rfl fun a ww hf hd => show _ = Result.ok (Next.value ((.pointer (some ⟨b, 0, none⟩)))) ww by
           have h0 : a.eval (.tmp 0) = (.pointer (some ⟨b, 0, none⟩)) := (outM hf 0 (by kernel_rfl)).trans rfl
           revert h0
           generalize a.eval = ev
           intro h0
           unfold execOp
           simp only [h0]
           (try go_simp),
         .pure rfl rfl 24 rfl fun a ww hf hd => show _ = Result.ok (Next.value ((.int .i64 (ib : Int)))) ww by
           have h5 : a.eval (.tmp 5) = (.int .i64 (ib : Int)) := (outM hf 5 (by kernel_rfl)).trans rfl
           revert h5
           generalize a.eval = ev
           intro h5
           unfold execOp
           simp only [h5]
           (try go_simp),
         .pure rfl rfl 25 rfl fun a ww hf hd => show _ = Result.ok (Next.value ((.pointer (some ⟨b, 0, none⟩)))) ww by
           have h0 : a.eval (.tmp 0) = (.pointer (some ⟨b, 0, none⟩)) := (outM hf 0 (by kernel_rfl)).trans rfl
           revert h0
           generalize a.eval = ev
           intro h0
           unfold execOp
           simp only [h0]
           (try go_simp),
         .pure rfl rfl 26 rfl fun a ww hf hd => show _ = Result.ok (Next.value ((.int .i64 (ic : Int)))) ww by
           have h6 : a.eval (.tmp 6) = (.int .i64 (ic : Int)) := (outM hf 6 (by kernel_rfl)).trans rfl
           revert h6
           generalize a.eval = ev
           intro h6
           unfold execOp
           simp only [h6]
           (try go_simp),
         .pure rfl rfl 27 rfl fun a ww hf hd => show _ = Result.ok (Next.value ((.pointer (some ⟨b, 0, none⟩)))) ww by
           have h0 : a.eval (.tmp 0) = (.pointer (some ⟨b, 0, none⟩)) := (outM hf 0 (by kernel_rfl)).trans rfl
           revert h0
           generalize a.eval = ev
           intro h0
           unfold execOp
           simp only [h0]
           (try go_simp),
         .pure rfl rfl 28 rfl fun a ww hf hd => show _ = Result.ok (Next.value ((.int .i64 (ie : Int)))) ww by
           have h7 : a.eval (.tmp 7) = (.int .i64 (ie : Int)) := (outM hf 7 (by kernel_rfl)).trans rfl
           revert h7
           generalize a.eval = ev
           intro h7
           unfold execOp
           simp only [h7]
           (try go_simp),
         .pure rfl rfl 29 rfl fun a ww hf hd => show _ = Result.ok (Next.value ((.pointer (some ⟨b, 0, none⟩)))) ww by
           have h0 : a.eval (.tmp 0) = (.pointer (some ⟨b, 0, none⟩)) := (outM hf 0 (by kernel_rfl)).trans rfl
           revert h0
           generalize a.eval = ev
           intro h0
           unfold execOp
           simp only [h0]
           (try go_simp),
         .pure rfl rfl 30 rfl fun a ww hf hd => show _ = Result.ok (Next.value ((.int .i64 (ia : Int)))) ww by
           have h4 : a.eval (.tmp 4) = (.int .i64 (ia : Int)) := (outM hf 4 (by kernel_rfl)).trans rfl
           revert h4
           generalize a.eval = ev
           intro h4
           unfold execOp
           simp only [h4]
           (try go_simp),
         .pure rfl rfl 31 rfl fun a ww hf hd => show _ = Result.ok (Next.value ((.pointer (some ⟨b, 0, none⟩)))) ww by
           have h29 : a.eval (.tmp 29) = (.pointer (some ⟨b, 0, none⟩)) := hd 8 29 (by kernel_rfl) rfl
           revert h29
           generalize a.eval = ev
           intro h29
           unfold execOp
           simp only [h29]
           (try go_simp),
         .pure rfl rfl 32 rfl fun a ww hf hd => show _ = Result.ok (Next.value ((.pointer (some ⟨b, ia, none⟩)))) ww by
           have h31 : a.eval (.tmp 31) = (.pointer (some ⟨b, 0, none⟩)) := hd 10 31 (by kernel_rfl) rfl
           have h30 : a.eval (.tmp 30) = (.int .i64 (ia : Int)) := hd 9 30 (by kernel_rfl) rfl
           revert h31 h30
           generalize a.eval = ev
           intro h31 h30
           unfold execOp
           simp only [h31, h30]
           (try go_simp),
         .run rfl rfl 33 rfl fun a ww hw hf hd => show _ = Result.ok (Next.value ((.int .u32 xa))) ww by
           have h32 : a.eval (.tmp 32) = (.pointer (some ⟨b, ia, none⟩)) := hd 11 32 (by kernel_rfl) rfl
           have hcc := (hS0 ww hw).at_ Ga.out
           rw [Nat.zero_add] at hcc
           change ww.cell? _ = _ at hcc
           revert h32
           generalize a.eval = ev
           intro h32
           unfold execOp
           simp only [h32]
           (try go_simp),
         .pure rfl rfl 34 rfl fun a ww hf hd => show _ = Result.ok (Next.value ((.pointer (some ⟨b, 0, none⟩)))) ww by
           have h0 : a.eval (.tmp 0) = (.pointer (some ⟨b, 0, none⟩)) := (outM hf 0 (by kernel_rfl)).trans rfl
           revert h0
           generalize a.eval = ev
           intro h0
           unfold execOp
           simp only [h0]
           (try go_simp),
         .pure rfl rfl 35 rfl fun a ww hf hd => show _ = Result.ok (Next.value ((.int .i64 (ib : Int)))) ww by
           have h5 : a.eval (.tmp 5) = (.int .i64 (ib : Int)) := (outM hf 5 (by kernel_rfl)).trans rfl
           revert h5
           generalize a.eval = ev
           intro h5
           unfold execOp
           simp only [h5]
           (try go_simp),
         .pure rfl rfl 36 rfl fun a ww hf hd => show _ = Result.ok (Next.value ((.pointer (some ⟨b, 0, none⟩)))) ww by
           have h34 : a.eval (.tmp 34) = (.pointer (some ⟨b, 0, none⟩)) := hd 13 34 (by kernel_rfl) rfl
           revert h34
           generalize a.eval = ev
           intro h34
           unfold execOp
           simp only [h34]
           (try go_simp),
         .pure rfl rfl 37 rfl fun a ww hf hd => show _ = Result.ok (Next.value ((.pointer (some ⟨b, ib, none⟩)))) ww by
           have h36 : a.eval (.tmp 36) = (.pointer (some ⟨b, 0, none⟩)) := hd 15 36 (by kernel_rfl) rfl
           have h35 : a.eval (.tmp 35) = (.int .i64 (ib : Int)) := hd 14 35 (by kernel_rfl) rfl
           revert h36 h35
           generalize a.eval = ev
           intro h36 h35
           unfold execOp
           simp only [h36, h35]
           (try go_simp),
         .run rfl rfl 38 rfl fun a ww hw hf hd => show _ = Result.ok (Next.value ((.int .u32 xb))) ww by
           have h37 : a.eval (.tmp 37) = (.pointer (some ⟨b, ib, none⟩)) := hd 16 37 (by kernel_rfl) rfl
           have hcc := (hS0 ww hw).at_ Gb.out
           rw [Nat.zero_add] at hcc
           change ww.cell? _ = _ at hcc
           revert h37
           generalize a.eval = ev
           intro h37
           unfold execOp
           simp only [h37]
           (try go_simp),
         .pure rfl rfl 39 rfl fun a ww hf hd => show _ = Result.ok (Next.value ((.pointer (some ⟨b, 0, none⟩)))) ww by
           have h0 : a.eval (.tmp 0) = (.pointer (some ⟨b, 0, none⟩)) := (outM hf 0 (by kernel_rfl)).trans rfl
           revert h0
           generalize a.eval = ev
           intro h0
           unfold execOp
           simp only [h0]
           (try go_simp),
         .pure rfl rfl 40 rfl fun a ww hf hd => show _ = Result.ok (Next.value ((.int .i64 (ic : Int)))) ww by
           have h6 : a.eval (.tmp 6) = (.int .i64 (ic : Int)) := (outM hf 6 (by kernel_rfl)).trans rfl
           revert h6
           generalize a.eval = ev
           intro h6
           unfold execOp
           simp only [h6]
           (try go_simp),
         .pure rfl rfl 41 rfl fun a ww hf hd => show _ = Result.ok (Next.value ((.pointer (some ⟨b, 0, none⟩)))) ww by
           have h39 : a.eval (.tmp 39) = (.pointer (some ⟨b, 0, none⟩)) := hd 18 39 (by kernel_rfl) rfl
           revert h39
           generalize a.eval = ev
           intro h39
           unfold execOp
           simp only [h39]
           (try go_simp),
         .pure rfl rfl 42 rfl fun a ww hf hd => show _ = Result.ok (Next.value ((.pointer (some ⟨b, ic, none⟩)))) ww by
           have h41 : a.eval (.tmp 41) = (.pointer (some ⟨b, 0, none⟩)) := hd 20 41 (by kernel_rfl) rfl
           have h40 : a.eval (.tmp 40) = (.int .i64 (ic : Int)) := hd 19 40 (by kernel_rfl) rfl
           revert h41 h40
           generalize a.eval = ev
           intro h41 h40
           unfold execOp
           simp only [h41, h40]
           (try go_simp),
         .run rfl rfl 43 rfl fun a ww hw hf hd => show _ = Result.ok (Next.value ((.int .u32 xc))) ww by
           have h42 : a.eval (.tmp 42) = (.pointer (some ⟨b, ic, none⟩)) := hd 21 42 (by kernel_rfl) rfl
           have hcc := (hS0 ww hw).at_ Gc.out
           rw [Nat.zero_add] at hcc
           change ww.cell? _ = _ at hcc
           revert h42
           generalize a.eval = ev
           intro h42
           unfold execOp
           simp only [h42]
           (try go_simp),
         .pure rfl rfl 44 rfl fun a ww hf hd => show _ = Result.ok (Next.value ((.pointer (some ⟨b, 0, none⟩)))) ww by
           have h0 : a.eval (.tmp 0) = (.pointer (some ⟨b, 0, none⟩)) := (outM hf 0 (by kernel_rfl)).trans rfl
           revert h0
           generalize a.eval = ev
           intro h0
           unfold execOp
           simp only [h0]
           (try go_simp),
         .pure rfl rfl 45 rfl fun a ww hf hd => show _ = Result.ok (Next.value ((.int .i64 (ie : Int)))) ww by
           have h7 : a.eval (.tmp 7) = (.int .i64 (ie : Int)) := (outM hf 7 (by kernel_rfl)).trans rfl
           revert h7
           generalize a.eval = ev
           intro h7
           unfold execOp
           simp only [h7]
           (try go_simp),
         .pure rfl rfl 46 rfl fun a ww hf hd => show _ = Result.ok (Next.value ((.pointer (some ⟨b, 0, none⟩)))) ww by
           have h44 : a.eval (.tmp 44) = (.pointer (some ⟨b, 0, none⟩)) := hd 23 44 (by kernel_rfl) rfl
           revert h44
           generalize a.eval = ev
           intro h44
           unfold execOp
           simp only [h44]
           (try go_simp),
         .pure rfl rfl 47 rfl fun a ww hf hd => show _ = Result.ok (Next.value ((.pointer (some ⟨b, ie, none⟩)))) ww by
           have h46 : a.eval (.tmp 46) = (.pointer (some ⟨b, 0, none⟩)) := hd 25 46 (by kernel_rfl) rfl
           have h45 : a.eval (.tmp 45) = (.int .i64 (ie : Int)) := hd 24 45 (by kernel_rfl) rfl
           revert h46 h45
           generalize a.eval = ev
           intro h46 h45
           unfold execOp
           simp only [h46, h45]
           (try go_simp),
         .run rfl rfl 48 rfl fun a ww hw hf hd => show _ = Result.ok (Next.value ((.int .u32 xd))) ww by
           have h47 : a.eval (.tmp 47) = (.pointer (some ⟨b, ie, none⟩)) := hd 26 47 (by kernel_rfl) rfl
           have hcc := (hS0 ww hw).at_ Gd.out
           rw [Nat.zero_add] at hcc
           change ww.cell? _ = _ at hcc
           revert h47
           generalize a.eval = ev
           intro h47
           unfold execOp
           simp only [h47]
           (try go_simp),
         .call rfl rfl 49 rfl fun a ww hw hf hd => by
           have h33 : a.eval (.tmp 33) = (.int .u32 xa) := hd 12 33 (by kernel_rfl) rfl
           have h38 : a.eval (.tmp 38) = (.int .u32 xb) := hd 17 38 (by kernel_rfl) rfl
           have h43 : a.eval (.tmp 43) = (.int .u32 xc) := hd 22 43 (by kernel_rfl) rfl
           have h48 : a.eval (.tmp 48) = (.int .u32 xd) := hd 27 48 (by kernel_rfl) rfl
           have f7 : a.eval (.func 69) = .func (.func 69) #[] #[] := rfl
           refine ⟨69, #[(.int .u32 xa), (.int .u32 xb), (.int .u32 xc), (.int .u32 xd)], ?_, (quarter_any xa xb xc xd ww Wb Wd_).mono fun e w2 ⟨he, hw2⟩ => ⟨by rw [he, Ya, Yb, Yc, Yd]; rfl, by rw [← hw2]; exact Below.refl _ _⟩⟩
           revert h33 h38 h43 h48 f7
           generalize a.eval = ev
           intro h33 h38 h43 h48 f7
           unfold execOp
           simp only [h33, h38, h43, h48, f7]
           (try go_simp),
         .pure rfl rfl 20 rfl fun a ww hf hd => show _ = Result.ok (Next.value ((.tuple #[.int .u32 ya, .int .u32 yb, .int .u32 yc, .int .u32 yd]))) ww by
           have h49 : a.eval (.tmp 49) = (.tuple #[.int .u32 ya, .int .u32 yb, .int .u32 yc, .int .u32 yd]) := hd 28 49 (by kernel_rfl) rfl
           revert h49
           generalize a.eval = ev
           intro h49
           unfold execOp
           simp only [h49]
           (try go_simp),
         .pure rfl rfl 50 rfl fun a ww hf hd => show _ = Result.ok (Next.value ((.int .u32 ya))) ww by
           have h20 : a.eval (.tmp 20) = (.tuple #[.int .u32 ya, .int .u32 yb, .int .u32 yc, .int .u32 yd]) := hd 29 20 (by kernel_rfl) rfl
           revert h20
           generalize a.eval = ev
           intro h20
           unfold execOp
           simp only [h20]
           (try go_simp),
         .pure rfl rfl 51 rfl fun a ww hf hd => show _ = Result.ok (Next.value ((.int .u32 yb))) ww by
           have h20 : a.eval (.tmp 20) = (.tuple #[.int .u32 ya, .int .u32 yb, .int .u32 yc, .int .u32 yd]) := hd 29 20 (by kernel_rfl) rfl
           revert h20
           generalize a.eval = ev
           intro h20
           unfold execOp
           simp only [h20]
           (try go_simp),
         .pure rfl rfl 52 rfl fun a ww hf hd => show _ = Result.ok (Next.value ((.int .u32 yc))) ww by
           have h20 : a.eval (.tmp 20) = (.tuple #[.int .u32 ya, .int .u32 yb, .int .u32 yc, .int .u32 yd]) := hd 29 20 (by kernel_rfl) rfl
           revert h20
           generalize a.eval = ev
           intro h20
           unfold execOp
           simp only [h20]
           (try go_simp),
         .pure rfl rfl 53 rfl fun a ww hf hd => show _ = Result.ok (Next.value ((.int .u32 yd))) ww by
           have h20 : a.eval (.tmp 20) = (.tuple #[.int .u32 ya, .int .u32 yb, .int .u32 yc, .int .u32 yd]) := hd 29 20 (by kernel_rfl) rfl
           revert h20
           generalize a.eval = ev
           intro h20
           unfold execOp
           simp only [h20]
           (try go_simp),
         .pure rfl rfl 54 rfl fun a ww hf hd => show _ = Result.ok (Next.value ((.pointer (some ⟨b, 0, none⟩)))) ww by
           have h21 : a.eval (.tmp 21) = (.pointer (some ⟨b, 0, none⟩)) := hd 0 21 (by kernel_rfl) rfl
           revert h21
           generalize a.eval = ev
           intro h21
           unfold execOp
           simp only [h21]
           (try go_simp),
         .pure rfl rfl 55 rfl fun a ww hf hd => show _ = Result.ok (Next.value ((.pointer (some ⟨b, ia, none⟩)))) ww by
           have h54 : a.eval (.tmp 54) = (.pointer (some ⟨b, 0, none⟩)) := hd 34 54 (by kernel_rfl) rfl
           have h22 : a.eval (.tmp 22) = (.int .i64 (ia : Int)) := hd 1 22 (by kernel_rfl) rfl
           revert h54 h22
           generalize a.eval = ev
           intro h54 h22
           unfold execOp
           simp only [h54, h22]
           (try go_simp),
         .put 0 rfl rfl rfl ⟨b, ia, none⟩ (.int .u32 ya) hu0 fun a ww hw hf hd => by
           have h55 : a.eval (.tmp 55) = (.pointer (some ⟨b, ia, none⟩)) := hd 35 55 (by kernel_rfl) rfl
           have h50 : a.eval (.tmp 50) = (.int .u32 ya) := hd 30 50 (by kernel_rfl) rfl
           obtain ⟨z, hcc, hff, _⟩ := (hS0 ww hw).spot (i := ia) (by have := HL.out; simp [this]; omega)
           rw [Nat.zero_add] at hcc hff
           generalize behind up 0 ww = wb at *
           revert h55 h50
           generalize a.eval = ev
           intro h55 h50
           unfold execOp
           simp only [h55, h50]
           (try go_simp),
         .pure rfl rfl 56 rfl fun a ww hf hd => show _ = Result.ok (Next.value ((.pointer (some ⟨b, 0, none⟩)))) ww by
           have h23 : a.eval (.tmp 23) = (.pointer (some ⟨b, 0, none⟩)) := hd 2 23 (by kernel_rfl) rfl
           revert h23
           generalize a.eval = ev
           intro h23
           unfold execOp
           simp only [h23]
           (try go_simp),
         .pure rfl rfl 57 rfl fun a ww hf hd => show _ = Result.ok (Next.value ((.pointer (some ⟨b, ib, none⟩)))) ww by
           have h56 : a.eval (.tmp 56) = (.pointer (some ⟨b, 0, none⟩)) := hd 37 56 (by kernel_rfl) rfl
           have h24 : a.eval (.tmp 24) = (.int .i64 (ib : Int)) := hd 3 24 (by kernel_rfl) rfl
           revert h56 h24
           generalize a.eval = ev
           intro h56 h24
           unfold execOp
           simp only [h56, h24]
           (try go_simp),
         .put 1 rfl rfl rfl ⟨b, ib, none⟩ (.int .u32 yb) hu1 fun a ww hw hf hd => by
           have h57 : a.eval (.tmp 57) = (.pointer (some ⟨b, ib, none⟩)) := hd 38 57 (by kernel_rfl) rfl
           have h51 : a.eval (.tmp 51) = (.int .u32 yb) := hd 31 51 (by kernel_rfl) rfl
           obtain ⟨z, hcc, hff, _⟩ := (hS1 ww hw).spot (i := ib) (by have := HL.out; simp [this]; omega)
           rw [Nat.zero_add] at hcc hff
           generalize behind up 1 ww = wb at *
           revert h57 h51
           generalize a.eval = ev
           intro h57 h51
           unfold execOp
           simp only [h57, h51]
           (try go_simp),
         .pure rfl rfl 58 rfl fun a ww hf hd => show _ = Result.ok (Next.value ((.pointer (some ⟨b, 0, none⟩)))) ww by
           have h25 : a.eval (.tmp 25) = (.pointer (some ⟨b, 0, none⟩)) := hd 4 25 (by kernel_rfl) rfl
           revert h25
           generalize a.eval = ev
           intro h25
           unfold execOp
           simp only [h25]
           (try go_simp),
         .pure rfl rfl 59 rfl fun a ww hf hd => show _ = Result.ok (Next.value ((.pointer (some ⟨b, ic, none⟩)))) ww by
           have h58 : a.eval (.tmp 58) = (.pointer (some ⟨b, 0, none⟩)) := hd 40 58 (by kernel_rfl) rfl
           have h26 : a.eval (.tmp 26) = (.int .i64 (ic : Int)) := hd 5 26 (by kernel_rfl) rfl
           revert h58 h26
           generalize a.eval = ev
           intro h58 h26
           unfold execOp
           simp only [h58, h26]
           (try go_simp),
         .put 2 rfl rfl rfl ⟨b, ic, none⟩ (.int .u32 yc) hu2 fun a ww hw hf hd => by
           have h59 : a.eval (.tmp 59) = (.pointer (some ⟨b, ic, none⟩)) := hd 41 59 (by kernel_rfl) rfl
           have h52 : a.eval (.tmp 52) = (.int .u32 yc) := hd 32 52 (by kernel_rfl) rfl
           obtain ⟨z, hcc, hff, _⟩ := (hS2 ww hw).spot (i := ic) (by have := HL.out; simp [this]; omega)
           rw [Nat.zero_add] at hcc hff
           generalize behind up 2 ww = wb at *
           revert h59 h52
           generalize a.eval = ev
           intro h59 h52
           unfold execOp
           simp only [h59, h52]
           (try go_simp),
         .pure rfl rfl 60 rfl fun a ww hf hd => show _ = Result.ok (Next.value ((.pointer (some ⟨b, 0, none⟩)))) ww by
           have h27 : a.eval (.tmp 27) = (.pointer (some ⟨b, 0, none⟩)) := hd 6 27 (by kernel_rfl) rfl
           revert h27
           generalize a.eval = ev
           intro h27
           unfold execOp
           simp only [h27]
           (try go_simp),
         .pure rfl rfl 61 rfl fun a ww hf hd => show _ = Result.ok (Next.value ((.pointer (some ⟨b, ie, none⟩)))) ww by
           have h60 : a.eval (.tmp 60) = (.pointer (some ⟨b, 0, none⟩)) := hd 43 60 (by kernel_rfl) rfl
           have h28 : a.eval (.tmp 28) = (.int .i64 (ie : Int)) := hd 7 28 (by kernel_rfl) rfl
           revert h60 h28
           generalize a.eval = ev
           intro h60 h28
           unfold execOp
           simp only [h60, h28]
           (try go_simp),
         .put 3 rfl rfl rfl ⟨b, ie, none⟩ (.int .u32 yd) hu3 fun a ww hw hf hd => by
           have h61 : a.eval (.tmp 61) = (.pointer (some ⟨b, ie, none⟩)) := hd 44 61 (by kernel_rfl) rfl
           have h53 : a.eval (.tmp 53) = (.int .u32 yd) := hd 33 53 (by kernel_rfl) rfl
           obtain ⟨z, hcc, hff, _⟩ := (hS3 ww hw).spot (i := ie) (by have := HL.out; simp [this]; omega)
           rw [Nat.zero_add] at hcc hff
           generalize behind up 3 ww = wb at *
           revert h61 h53
           generalize a.eval = ev
           intro h61 h53
           unfold execOp
           simp only [h61, h53]
           (try go_simp), trivial⟩ ?_
      intro val w9 hv hw
      have e21 : val 21 = (.pointer (some ⟨b, 0, none⟩)) := hv 21
      have e22 : val 22 = (.int .i64 (ia : Int)) := hv 22
      have e23 : val 23 = (.pointer (some ⟨b, 0, none⟩)) := hv 23
      have e24 : val 24 = (.int .i64 (ib : Int)) := hv 24
      have e25 : val 25 = (.pointer (some ⟨b, 0, none⟩)) := hv 25
      have e26 : val 26 = (.int .i64 (ic : Int)) := hv 26
      have e27 : val 27 = (.pointer (some ⟨b, 0, none⟩)) := hv 27
      have e28 : val 28 = (.int .i64 (ie : Int)) := hv 28
      have e29 : val 29 = (.pointer (some ⟨b, 0, none⟩)) := hv 29
      have e30 : val 30 = (.int .i64 (ia : Int)) := hv 30
      have e31 : val 31 = (.pointer (some ⟨b, 0, none⟩)) := hv 31
      have e32 : val 32 = (.pointer (some ⟨b, ia, none⟩)) := hv 32
      have e33 : val 33 = (.int .u32 xa) := hv 33
      have e34 : val 34 = (.pointer (some ⟨b, 0, none⟩)) := hv 34
      have e35 : val 35 = (.int .i64 (ib : Int)) := hv 35
      have e36 : val 36 = (.pointer (some ⟨b, 0, none⟩)) := hv 36
      have e37 : val 37 = (.pointer (some ⟨b, ib, none⟩)) := hv 37
      have e38 : val 38 = (.int .u32 xb) := hv 38
      have e39 : val 39 = (.pointer (some ⟨b, 0, none⟩)) := hv 39
      have e40 : val 40 = (.int .i64 (ic : Int)) := hv 40
      have e41 : val 41 = (.pointer (some ⟨b, 0, none⟩)) := hv 41
      have e42 : val 42 = (.pointer (some ⟨b, ic, none⟩)) := hv 42
      have e43 : val 43 = (.int .u32 xc) := hv 43
      have e44 : val 44 = (.pointer (some ⟨b, 0, none⟩)) := hv 44
      have e45 : val 45 = (.int .i64 (ie : Int)) := hv 45
      have e46 : val 46 = (.pointer (some ⟨b, 0, none⟩)) := hv 46
      have e47 : val 47 = (.pointer (some ⟨b, ie, none⟩)) := hv 47
      have e48 : val 48 = (.int .u32 xd) := hv 48
      have e49 : val 49 = (.tuple #[.int .u32 ya, .int .u32 yb, .int .u32 yc, .int .u32 yd]) := hv 49
      have e20 : val 20 = (.tuple #[.int .u32 ya, .int .u32 yb, .int .u32 yc, .int .u32 yd]) := hv 20
      have e50 : val 50 = (.int .u32 ya) := hv 50
      have e51 : val 51 = (.int .u32 yb) := hv 51
      have e52 : val 52 = (.int .u32 yc) := hv 52
      have e53 : val 53 = (.int .u32 yd) := hv 53
      have e54 : val 54 = (.pointer (some ⟨b, 0, none⟩)) := hv 54
      have e55 : val 55 = (.pointer (some ⟨b, ia, none⟩)) := hv 55
      have e56 : val 56 = (.pointer (some ⟨b, 0, none⟩)) := hv 56
      have e57 : val 57 = (.pointer (some ⟨b, ib, none⟩)) := hv 57
      have e58 : val 58 = (.pointer (some ⟨b, 0, none⟩)) := hv 58
      have e59 : val 59 = (.pointer (some ⟨b, ic, none⟩)) := hv 59
      have e60 : val 60 = (.pointer (some ⟨b, 0, none⟩)) := hv 60
      have e61 : val 61 = (.pointer (some ⟨b, ie, none⟩)) := hv 61
      simp only [putVals, List.foldl_cons, List.foldl_nil, Act.put, List.setIfInBounds_toArray, List.set_cons_succ, List.set_cons_zero, e21, e22, e23, e24, e25, e26, e27, e28, e29, e30, e31, e32, e33, e34, e35, e36, e37, e38, e39, e40, e41, e42, e43, e44, e45, e46, e47, e48, e49, e20, e50, e51, e52, e53, e54, e55, e56, e57, e58, e59, e60, e61]
      clear hv e21 e22 e23 e24 e25 e26 e27 e28 e29 e30 e31 e32 e33 e34 e35 e36 e37 e38 e39 e40 e41 e42 e43 e44 e45 e46 e47 e48 e49 e20 e50 e51 e52 e53 e54 e55 e56 e57 e58 e59 e60 e61
      have hS := hS4 w9 hw
      have hT := hT4 w9 hw
      clear hS0 hS1 hS2 hS3 hS4 hT0 hT1 hT2 hT3 hT4 hu0 hu1 hu2 hu3
      change Arr (behind up [36, 39, 42, 45].length w9) _ _ _ _ at hS
      change Only b w (behind up [36, 39, 42, 45].length w9) at hT
      generalize behind up _ w9 = w10 at *
      go_wp2
      go_roundw
      case rel => exact ⟨k + 1, by omega, by go_num, by rw [HN.out]; exact hS, hT⟩
      case measure => simp [intOf]; omega
    · go_wp2
      go_end0
      have e : k = 8 := by omega
      subst e
      exact ⟨rfl, hA1, hOn⟩
end Go.Proofs.YtkblmdakejmmhaaDoor
