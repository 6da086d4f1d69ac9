/- Texts of this proof, laid together: UOps3, UAwake. -/
import Derived.Test.YtpncohoonfahpaaGreatDoorUOps2M
import Derived.Test.YtpncohoonfahpaaGreatDoorG16
import Derived.Test.YtpncohoonfahpaaGreatDoorG19
/- What a suite of terms does: digests, signatures, draws; its texts, its store. -/
namespace Go.Proofs.YtpncohoonfahpaaGreatDoor
open Go Go.RowKit

section
variable (F : Nat → Prop) (q p : Nat) (L : List T3) (X : List (List Int))
set_option maxRecDepth 50000 in
theorem tx_may {x : List Int} {L : List T3} {X : List (List Int)} {n : Nat} (h : IsTx x L X n) : n < L.length ∧ isB L (n : Int) 9 = true := by
  obtain ⟨j, _, hj⟩ := h
  have hl := get_lt hj
  have hg : L[n].1 = 9 := by rw [List.getElem?_eq_getElem hl] at hj; rw [Option.some.inj hj]
  exact ⟨hl, by simp [isB, hl, hg]⟩
set_option maxRecDepth 50000 in
theorem IsTx.old {x : List Int} {L L' : List T3} {X : List (List Int)} {n : Nat} (h : IsTx x L X n) (ho : ∀ (i : Nat) t, L[i]? = some t → L'[i]? = some t) : IsTx x L' X n := by
  obtain ⟨j, h1, h2⟩ := h
  exact ⟨j, h1, ho _ _ h2⟩
set_option maxRecDepth 50000 in
set_option maxHeartbeats 4000000 in
theorem digest_any (B : Nat) (A : Option Addr) (c : Nat) (x : List Int) (w : World) (h : Su F w q p L X) (hx : TByt x) (hx2 : x.length ≤ 100) (hA : NumsD B w .u8 A x) (hB : B ≤ w.heap.size) (hF : ∀ b, F b → B ≤ b) (hL : L.length ≤ 38) (hX : X.length ≤ 39) :
    Calls Tryz.prog 16 #[.pointer (some ⟨q, 0, none⟩), .slice A x.length c] w (TxQ F w q p L X x (IsDg x)) := by
  have HT := hid (textS F q p L X B A c x w h hx hx2 hA hB hF (by omega) hX)
  have t0 := h.is.tag
  have t3 := h.is.store
  have HS := hid h
  have HL := hid hL
  clear h hx hx2 hA hB hF hL hX
  go_enter Tryz.func16, Tryz.ntmps16
  go_wp2_with (first
    | (go_at_call 47; refine (su_is q 2 _ t0).mono ?_; rintro e w9 ⟨rfl, rfl⟩)
    | (go_at_call 53; refine HT.out.mono ?_; rintro e w1 ⟨n, L1, X1, rfl, hC, hG, hn, h1, h2, h3, h4, h5, h6⟩; have HC := hid hC; have HG := hid hG; have HN := hid hn; have H1 := hid h1; have H2 := hid h2; have H3 := hid h3; have H4 := hid h4; have H5 := hid h5; have H6 := hid h6; clear hC hG hn h1 h2 h3 h4 h5 h6)
    | (go_at_call 54; have hl := HL.out; have hl2 := H2.out; have hm := tx_may HN.out; refine (sput_any (Grw F w w1) q p L1 X1 10 n 0 w1 (HS.out.grw HC.out HG.out) (tw3 (by omega) (by omega) (by omega) (by omega) (by omega) (by omega)) (hid (by unfold mayB; simp [hm.2])) (hid (by decide)) (by omega)).mono ?_; rintro e w2 ⟨A2, c2, i, L', rfl, hM, hR, hlen⟩))
  go_ret2
  exact ⟨A2, c2, i, L', X1, rfl, hM.after HG.out H1.out H3.out H6.out H5.out, ⟨n, hR, IsTx.old HN.out hM.old⟩, by have := H2.out; omega, H4.out⟩
set_option maxRecDepth 50000 in
set_option maxHeartbeats 4000000 in
theorem sign_ok (B : Nat) (v : Value) (s : Nat) (A : Option Addr) (c : Nat) (x : List Int) (w : World) (h : Su F w q p L X) (hv : Vl w v (some s)) (hs : s < L.length) (hx : TByt x) (hx2 : x.length ≤ 100) (hA : NumsD B w .u8 A x) (hB : B ≤ w.heap.size) (hF : ∀ b, F b → B ≤ b) (hL : L.length ≤ 38) (hX : X.length ≤ 39) :
    Calls Tryz.prog 25 #[.pointer (some ⟨q, 0, none⟩), v, .slice A x.length c] w (TxQ F w q p L X x (IsSg s x)) := by
  have HNum := hid (number_yes F q p L X v s w h hv hs (by omega))
  have HT := hid (fun w0 (hb : Below w.heap.size w w0) => textS F q p L X B A c x w0 (h.next hb) hx hx2 (hA.stay (Below.mono hb hB)) (Nat.le_trans hB hb.size) hF (by omega) hX)
  have t0 := h.is.tag
  have HS := hid h
  have HL := hid hL
  have HSL := hid hs
  clear h hx hx2 hA hB hF hL hX hv hs
  go_enter Tryz.func25, Tryz.ntmps25
  go_wp2_with (first
    | (go_at_call 47; refine (su_is q 2 _ t0).mono ?_; rintro e w9 ⟨rfl, rfl⟩)
    | (go_at_call 43; refine HNum.out.mono ?_; rintro e w0 ⟨rfl, hb0⟩; have t3 := (HS.out.next hb0).is.store; have HB := hid hb0; clear hb0)
    | (go_at_call 53; refine (HT.out w0 HB.out).mono ?_; rintro e w1 ⟨n, L1, X1, rfl, hC, hG, hn, h1, h2, h3, h4, h5, h6⟩; have HC := hid hC; have HG := hid hG; have HN := hid hn; have H1 := hid h1; have H2 := hid h2; have H3 := hid h3; have H4 := hid h4; have H5 := hid h5; have H6 := hid h6; clear hC hG hn h1 h2 h3 h4 h5 h6)
    | (go_at_call 54; have hl := HL.out; have hl2 := H2.out; have hl3 := H1.out; have hs := HSL.out; have hm := tx_may HN.out; refine (sput_any (Grw F w0 w1) q p L1 X1 8 s n w1 ((HS.out.next HB.out).grw HC.out HG.out) (tw3 (by omega) (by omega) (by omega) (by omega) (by omega) (by omega)) (hid (by unfold mayB; simp [hm.2, hasB]; omega)) (hid (by decide)) (by omega)).mono ?_; rintro e w2 ⟨A2, c2, i, L', rfl, hM, hR, hlen⟩))
  go_ret2
  exact ⟨A2, c2, i, L', X1, rfl, (hM.after HG.out H1.out H3.out H6.out H5.out).back HB.out, ⟨n, hR, IsTx.old HN.out hM.old⟩, by have := H2.out; omega, H4.out⟩
set_option maxRecDepth 50000 in
set_option maxHeartbeats 2000000 in
theorem sign_bad (v u : Value) (w : World) (h : Su F w q p L X) (hv : Vl w v none) (hL : L.length ≤ 40) :
    Calls Tryz.prog 25 #[.pointer (some ⟨q, 0, none⟩), v, u] w (BadQ w 11) := by
  have HNum := hid (number_no F q p L X v w h hv hL)
  have t0 := h.is.tag
  clear h hv hL
  go_enter Tryz.func25, Tryz.ntmps25
  go_wp2_with (first
    | (go_at_call 47; refine (su_is q 2 _ t0).mono ?_; rintro e w9 ⟨rfl, rfl⟩)
    | (go_at_call 43; refine HNum.out.mono ?_; rintro e w0 ⟨rfl, hb0⟩))
  go_ret2
  exact ⟨rfl, hb0⟩
/-- What is drawn of a sort. -/
def DrwQ (F : Nat → Prop) (w : World) (q p : Nat) (L : List T3) (X : List (List Int)) (s : Int) (e : Ending) (w' : World) : Prop :=
  ∃ A c b L', e = .returned (.tuple #[.slice A 9 c, .int .i64 0]) ∧ Mv F w q p L L' X X A c L.length w' ∧ L' = L ++ [(1, s, b)]
set_option maxRecDepth 50000 in
set_option maxHeartbeats 2000000 in
theorem drawT_ok (s : Int) (w : World) (h : Su F w q p L X) (hs : 1 ≤ s ∧ s ≤ 4) (hat : Atoms L) (hL : L.length ≤ 39) (hX : X.length ≤ 40) :
    Calls Tryz.prog 10 #[.pointer (some ⟨q, 0, none⟩), .int .i64 s] w (DrwQ F w q p L X s) := by
  have hd : Calls Tryz.prog 50 #[.pointer (some ⟨p, 0, none⟩), .int .i64 s] w fun e w1 => ∃ (b : Int) (m : Nat), e = .returned (.tuple #[.int .i64 m, .int .i64 0]) ∧ m = L.length ∧ CS (Grw F w w1) w1 p (L ++ [(1, s, b)]) X ∧ Chg F w w1 ∧ b ≤ L.length := by
    refine (draw_any F p L X s w h.cs hL hX).mono ?_
    rintro e w1 ⟨n, er, L', rfl, hR, hC, hG⟩
    rcases hR with ⟨h1, _⟩ | ⟨_, ⟨i, b, h1, h2⟩, _⟩ | ⟨_, b, h1, h2, h3, h4, rfl, rfl, rfl⟩
    · exact absurd hs h1
    · have := hat i s b h1; have := get_lt h1; omega
    · refine ⟨b, L.length, rfl, rfl, hC, hG, ?_⟩
      rcases h2 with h2 | ⟨i, h2⟩
      · omega
      · have := hat i s _ h2; have := get_lt h2; omega
  have t0 := h.is.tag
  have t3 := h.is.store
  have HD := hid hd
  have HS := hid h
  have HL := hid hL
  clear hd h hs hat hL hX
  go_enter Tryz.func10, Tryz.ntmps10
  go_wp2_with (first
    | (go_at_call 47; refine (su_is q 2 _ t0).mono ?_; rintro e w9 ⟨rfl, rfl⟩)
    | (go_at_call 50; refine HD.out.mono ?_; rintro e w1 ⟨b, m, rfl, hm, hC, hG, hb⟩; have HC := hid hC; have HG := hid hG; have HBB := hid hb; have HM := hid hm; clear hC hG hb hm)
    | (go_at_call 49; refine (valueOf_ok m _ (by have := HM.out; have := HL.out; omega)).mono ?_; rintro e w2 ⟨A2, c2, rfl, hc2, hN2, hb2⟩))
  go_ret2
  have hm := HM.out
  subst hm
  exact ⟨A2, c2, b, _, rfl, Mv.of HS.out HC.out HG.out hb2 hc2 hN2 (by simp) (by simp) (Nat.le_refl _) (fun a => a.app (fun _ => HBB.out)) (fun _ _ h => get_old h), rfl⟩
set_option maxRecDepth 50000 in
set_option maxHeartbeats 2000000 in
theorem drawT_bad (s : Int) (w : World) (h : Su F w q p L X) (hs : ¬ (1 ≤ s ∧ s ≤ 4)) (hL : L.length ≤ 39) (hX : X.length ≤ 40) :
    Calls Tryz.prog 10 #[.pointer (some ⟨q, 0, none⟩), .int .i64 s] w fun e w' => e = .returned (.tuple #[.slice none 0 0, .int .i64 2]) ∧ Su (Grw F w w') w' q p L X ∧ Chg F w w' := by
  have hd : Calls Tryz.prog 50 #[.pointer (some ⟨p, 0, none⟩), .int .i64 s] w fun e w1 => e = .returned (.tuple #[.int .i64 0, .int .i64 2]) ∧ CS (Grw F w w1) w1 p L X ∧ Chg F w w1 := by
    refine (draw_any F p L X s w h.cs hL hX).mono ?_
    rintro e w1 ⟨n, er, L', rfl, hR, hC, hG⟩
    rcases hR with ⟨_, rfl, rfl, rfl⟩ | ⟨h1, _⟩ | ⟨h1, _⟩
    · exact ⟨rfl, hC, hG⟩
    · exact absurd h1 hs
    · exact absurd h1 hs
  have t0 := h.is.tag
  have t3 := h.is.store
  have HD := hid hd
  have HS := hid h
  clear hd h hs hL hX
  go_enter Tryz.func10, Tryz.ntmps10
  go_wp2_with (first
    | (go_at_call 47; refine (su_is q 2 _ t0).mono ?_; rintro e w9 ⟨rfl, rfl⟩)
    | (go_at_call 50; refine HD.out.mono ?_; rintro e w1 ⟨rfl, hC, hG⟩; have HC := hid hC; have HG := hid hG; clear hC hG)
    | (go_at_call 49; refine (valueOf_err 0 2 _ (by decide)).mono ?_; rintro e w2 ⟨rfl, rfl⟩))
  go_ret2
  exact ⟨rfl, HS.out.grw HC.out HG.out, HG.out⟩
set_option maxRecDepth 50000 in
set_option maxHeartbeats 2000000 in
theorem suText_ok (v : Value) (n : Nat) (x : List Int) (w : World) (h : Su F w q p L X) (hv : Vl w v (some n)) (hn : IsTx x L X n) (hL : L.length ≤ 40) :
    Calls Tryz.prog 18 #[.pointer (some ⟨q, 0, none⟩), v] w fun e w' => ∃ A c, e = .returned (.tuple #[.slice A x.length c, .int .i64 0]) ∧ Below w.heap.size w w' ∧ Nums w' .u8 A x := by
  have HNum := hid (number_yes F q p L X v n w h hv (tx_may hn).1 hL)
  have HN := hid hn
  have HS := hid h
  have t0 := h.is.tag
  clear h hv hn hL
  go_enter Tryz.func18, Tryz.ntmps18
  go_wp2_with (first
    | (go_at_call 47; refine (su_is q 2 _ t0).mono ?_; rintro e w9 ⟨rfl, rfl⟩)
    | (go_at_call 43; refine HNum.out.mono ?_; rintro e w0 ⟨rfl, hb0⟩; have t3 := (HS.out.next hb0).is.store; have HB := hid hb0; clear hb0)
    | (go_at_call 46; obtain ⟨j, hj, hi⟩ := HN.out; refine (bytes_yes F p L X n j x w0 (HS.out.next HB.out).cs hi hj).mono ?_; rintro e w2 ⟨A, c, rfl, hb2, hNx⟩; have H2 := hid (HB.out.trans (Below.mono hb2 HB.out.size)); have HX := hid hNx; clear hb2 hNx hj hi))
  go_ret2
  exact ⟨A, c, rfl, H2.out, HX.out⟩
set_option maxRecDepth 50000 in
theorem store_is (w : World) (h : Su F w q p L X) :
    Calls Tryz.prog 15 #[.pointer (some ⟨q, 0, none⟩)] w fun e w' => e = .returned (.pointer (some ⟨p, 0, none⟩)) ∧ w = w' := by
  have t0 := h.is.tag
  have t3 := h.is.store
  go_enter Tryz.func15, Tryz.ntmps15
  go_wp2_with (go_at_call 47; refine (su_is q 2 _ t0).mono ?_; rintro e w9 ⟨rfl, rfl⟩)
  go_ret
  exact ⟨rfl, rfl⟩
set_option maxRecDepth 50000 in
theorem draws_is (w : World) (h : Su F w q p L X) :
    Calls Tryz.prog 14 #[.pointer (some ⟨q, 0, none⟩)] w fun e w' => e = .returned (.int .i64 0) ∧ w = w' := by
  have t0 := h.is.tag
  have t2 := h.is.draws
  go_enter Tryz.func14, Tryz.ntmps14
  go_wp2_with (go_at_call 47; refine (su_is q 2 _ t0).mono ?_; rintro e w9 ⟨rfl, rfl⟩)
  go_ret
  exact ⟨rfl, rfl⟩
end
set_option maxRecDepth 50000 in
set_option maxHeartbeats 2000000 in
theorem terms_new (w : World) :
    Calls Tryz.prog 41 #[] w fun e w' => ∃ F q p, e = .returned (.pointer (some ⟨q, 0, none⟩)) ∧ Below w.heap.size w w' ∧ Su F w' q p [] [] ∧ (∀ b, F b → w.heap.size ≤ b) ∧ w.heap.size ≤ q := by
  go_enter Tryz.func41, Tryz.ntmps41
  go_wp2_with (go_at_call 92; refine (new_cs _).mono ?_; rintro e w1 ⟨rfl, hb1, hC⟩)
  go_ret
  refine ⟨_, _, _, rfl, hb1.trans (Below.mono (below_new w1 _) hb1.size), ⟨hC.next (below_new w1 _), ⟨?_, ?_, ?_⟩, fun h => Nat.lt_irrefl _ h.2, fun b h => Nat.lt_of_lt_of_le h.2 (below_new w1 _).size⟩, fun b h => h.1, hb1.size⟩
  all_goals (rw [World.cell?_alloc_new]; rfl)
end Go.Proofs.YtpncohoonfahpaaGreatDoor

/- A draw of a suite of bytes; the law's example; what is picked. -/
namespace Go.Proofs.YtpncohoonfahpaaGreatDoor
open Go Go.RowKit

set_option maxRecDepth 50000 in
set_option maxHeartbeats 4000000 in
theorem bDraw_core (seed r : List Int) (q n : Nat) (s : Int) (w : World) (h0 : w.cell? ⟨q, 0, none⟩ = some (.int .i64 1)) (hs1 : ¬ s < 1) (hs4 : ¬ 4 < s) (HRL : Hid (r.length = 32))
    (HD : Hid (Calls Tryz.prog 48 #[.pointer (some ⟨q, 0, none⟩)] w fun e w' => e = .returned (.agg (ints .u8 r).toArray) ∧ Chg (fun b => b = q) w w' ∧ IsB w' q seed (n + 1))) :
    Calls Tryz.prog 10 #[.pointer (some ⟨q, 0, none⟩), .int .i64 s] w fun e w' => ∃ b, e = .returned (.tuple #[.slice (some ⟨b, 0, none⟩) 32 32, .int .i64 0]) ∧ w.heap.size ≤ b ∧ Rw w' b 0 (ints .u8 r) ∧ Chg (fun b => b = q) w w' ∧ IsB w' q seed (n + 1) := by
  obtain ⟨z32, s32⟩ := zero_of_info infS32
  go_enter Tryz.func10, Tryz.ntmps10
  go_wp2_with (first
    | (go_at_call 47; refine (su_is q 1 _ h0).mono ?_; rintro e w9 ⟨rfl, rfl⟩)
    | (go_at_call 48; refine HD.out.mono ?_; rintro e w1 ⟨rfl, hC, hI⟩
       have R6 := (Rw.new w1 (ints .u8 (hzeros 32)) 22).roomA (us := ints .u8 r) ((il HRL.out).trans (il (hz_len 32)).symm)
       have X6 := (Rw.new w1 (ints .u8 (hzeros 32)) 22).storedA (us := ints .u8 r) ((il HRL.out).trans (il (hz_len 32)).symm)
       have hb := Below.setCells (below_new w1 (.cells (ints .u8 (hzeros 32)).toArray 22)) (Nat.le_refl _) 0 (ints .u8 r).toArray.toList
       have HC := hid (hC.next hb)
       have HI := hid (hI.next hb)
       have HZ := hid hC.size
       clear hC hI hb)
    | (with_reducible refine wpList_store_mid (op := ⟨none, .store 22 (.tmp 6) (.tmp 18), _, _, _, _⟩) rfl 22 (.tmp 6) (.tmp 18) rfl w1.heap.size 0 (ints .u8 r).toArray rfl rfl R6 (szA infS32 (il HRL.out)) (ints_all _ _) ?_
       generalize (w1.alloc (.cells (ints .u8 (hzeros 32)).toArray 22)).setCells w1.heap.size 0 (ints .u8 r).toArray.toList = w5 at *
       clear R6))
  go_ret2
  exact ⟨_, rfl, HZ.out, X6, HC.out, HI.out⟩
set_option maxRecDepth 50000 in
theorem bDraw_any (seed : List Int) (q n : Nat) (s : Int) (w : World) (hT : TabsH w) (hI : IsB w q seed n) (hl : seed.length = 32) (hb : HByt seed) (hn : n ≤ 1000) (hs : 1 ≤ s ∧ s ≤ 4) :
    Calls Tryz.prog 10 #[.pointer (some ⟨q, 0, none⟩), .int .i64 s] w fun e w' => ∃ b, e = .returned (.tuple #[.slice (some ⟨b, 0, none⟩) 32 32, .int .i64 0]) ∧ w.heap.size ≤ b ∧ Rw w' b 0 (ints .u8 (drawL seed n)) ∧ Chg (fun b => b = q) w w' ∧ IsB w' q seed (n + 1) :=
  bDraw_core seed (drawL seed n) q n s w hI.tag (by omega) (by omega) (hid (keyD_len _ _ _)) (hid (bdraw_any seed q n w hT hI hl hb hn))
def oneS : List Int := [1, 0, 0, 0, 0, 0, 0, 0, 0, 0, 0, 0, 0, 0, 0, 0, 0, 0, 0, 0, 0, 0, 0, 0, 0, 0, 0, 0, 0, 0, 0, 0]
set_option maxRecDepth 50000 in
theorem oneS_byt : HByt oneS := by
  intro x hx
  simp only [oneS, List.mem_cons, List.not_mem_nil, or_false] at hx
  rcases hx with rfl | rfl | rfl | rfl | rfl | rfl | rfl | rfl | rfl | rfl | rfl | rfl | rfl | rfl | rfl | rfl | rfl | rfl | rfl | rfl | rfl | rfl | rfl | rfl | rfl | rfl | rfl | rfl | rfl | rfl | rfl | rfl <;> exact ⟨by decide, by decide⟩
def nine : List Int := [247, 0, 0, 0, 0, 0, 0, 0, 0]
def nine9 : List Int := [247, 0, 0, 0, 0, 0, 0, 0, 99]
set_option maxRecDepth 50000 in
theorem valL_0 : valL 0 = nine := by decide
set_option maxRecDepth 50000 in
theorem valL_99 : valL 99 = nine9 := by decide
set_option maxRecDepth 50000 in
theorem nums_nine (w : World) : Nums (w.alloc (.cells #[.int .u8 247, .int .u8 0, .int .u8 0, .int .u8 0, .int .u8 0, .int .u8 0, .int .u8 0, .int .u8 0, .int .u8 0] 5)) .u8 (some ⟨w.heap.size, 0, none⟩) nine := (Owns.new w 0 5 .u8 nine (Nat.zero_le _) (by decide)).nums
set_option maxRecDepth 50000 in
theorem nums_nine9 (w : World) : Nums (w.alloc (.cells #[.int .u8 247, .int .u8 0, .int .u8 0, .int .u8 0, .int .u8 0, .int .u8 0, .int .u8 0, .int .u8 0, .int .u8 99] 5)) .u8 (some ⟨w.heap.size, 0, none⟩) nine9 := (Owns.new w 0 5 .u8 nine9 (Nat.zero_le _) (by decide)).nums
set_option maxRecDepth 50000 in
theorem built_one : Tryz.prog.built 22 [(0, .int .u8 1)] = some (ints .u8 oneS).toArray := by kernel_rfl
set_option maxRecDepth 50000 in
theorem first_term (w : World) (F : Nat → Prop) (q p : Nat) (B : Nat) (h : Su F w q p [] []) (hF : ∀ b, F b → B ≤ b) (hB : B ≤ w.heap.size) :
    Calls Tryz.prog 10 #[.pointer (some ⟨q, 0, none⟩), .int .i64 3] w fun e w' => ∃ A c, e = .returned (.tuple #[.slice A 9 c, .int .i64 0]) ∧ Below B w w' ∧ Nums w' .u8 A nine := by
  refine (drawT_ok F q p [] [] 3 w h (by decide) (fun i s b hi => by simp at hi) (by decide) (by decide)).mono ?_
  rintro e w' ⟨A, c, b, L', rfl, hM, rfl⟩
  have h1 := hM.num.nums
  have e0 : valL ([] : List T3).length = nine := valL_0
  rw [e0] at h1
  exact ⟨A, c, rfl, hM.chg.below hB hF, h1⟩
set_option maxRecDepth 50000 in
set_option maxHeartbeats 4000000 in
theorem awake_any (w : World) (hT : TabsH w) : Calls Tryz.prog 8 #[] w fun e w' => e = .returned (.bool true) ∧ Below w.heap.size w w' := by
  go_enter Tryz.func8, Tryz.ntmps8
  go_upto_region 2 with (first
    | (go_at_call 41; refine (terms_new _).mono ?_; rintro e w1 ⟨F, q, p, rfl, hb1, hS1, hF1, hq1⟩)
    | (go_at_call 10; refine (first_term w1 F q p w.heap.size hS1 hF1 hb1.size).mono ?_; rintro e w2 ⟨A, c, rfl, hb2, hN2⟩))
  have hb02 := hb1.trans hb2
  replace hT := hT.next hb02
  clear hb1 hb2 hS1 hF1 hq1
  go_upto_region 3 with (first
    | (refine wpList_build_eq (o := ⟨some 11, .build 22 #[(0, .const (.int .u8 1))], _, _, _, _⟩) rfl 22 #[(0, .const (.int .u8 1))] rfl (ints .u8 oneS).toArray ?hb ?_; (case hb => (simp only [List.map_toArray, List.map_cons, List.map_nil]; exact built_one)))
    | (go_at_call 9; refine (bytes_any oneS _ rfl).mono ?_; rintro e w3 ⟨q3, rfl, hb3, hI3, hq3⟩)
    | (go_at_call 10; refine (bDraw_any oneS q3 0 3 w3 (hT.next hb3) hI3 rfl oneS_byt (by decide) (by decide)).mono ?_; rintro e w4 ⟨b4, rfl, hs4, hR4, hC4, hI4⟩))
  have hb24 : Below w2.heap.size w2 w4 := hb3.trans (hC4.below hb3.size (fun b e => by subst e; exact hq3))
  have hN4 := hN2.below hb24
  have hb04 := hb02.trans (Below.mono hb24 hb02.size)
  clear hb3 hI3 hC4 hI4 hR4 hN2 hb02 hb24 hT hs4 hq3
  go_wp2_with (go_at_call 11; refine (same_eq A (some ⟨w4.heap.size, 0, none⟩) c 9 nine nine _ rfl (by decide) (hN4.below (below_new w4 _)) (nums_nine w4)).mono ?_; rintro e w5 ⟨rfl, hb5⟩)
  go_ret
  exact ⟨rfl, hb04.trans (Below.mono ((below_new w4 _).trans (Below.mono hb5 (below_new w4 _).size)) hb04.size)⟩
end Go.Proofs.YtpncohoonfahpaaGreatDoor
