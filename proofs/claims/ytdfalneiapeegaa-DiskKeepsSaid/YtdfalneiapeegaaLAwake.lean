/- A sector of one byte; the law's example. -/
import Derived.Test.YtdfalneiapeegaaLSame
import Derived.Test.YtdfalneiapeegaaLList
import Derived.Test.YtdfalneiapeegaaCRound
namespace Go.Proofs.Ytdfalneiapeegaa
open Go Go.RowKit Go.Maps

def fillL (c : Int) : List Int := List.replicate 64 c
theorem fillL_len (c : Int) : (fillL c).length = 64 := by simp [fillL]
set_option maxHeartbeats 2000000 in
theorem fill_any (c : Int) (w : World) :
    Calls Try.prog 20 #[.int .u8 c] w fun e w' => e = .returned (.slice (some ⟨w.heap.size, 0, none⟩) 64 64) ∧ NumsF w.heap.size w' .u8 (some ⟨w.heap.size, 0, none⟩) (fillL c) ∧ Below w.heap.size w w' ∧ w.heap.size < w'.heap.size := by
  have hmk := make64
  have hb1 := below_new w (.cells (ints .u8 Z64).toArray 5)
  have hq1 := Blk.new w 5 (ints .u8 Z64)
  obtain ⟨W1, hW1⟩ : ∃ W1, w.alloc (.cells (ints .u8 Z64).toArray 5) = W1 := ⟨_, rfl⟩
  rw [hW1] at hb1 hq1
  obtain ⟨S, hS⟩ : ∃ S, fillL c = S := ⟨_, rfl⟩
  have hS64 : S.length = 64 := by rw [← hS]; exact fillL_len c
  have HSj : Hid (∀ j, j < 64 → S[j]? = some c) := hid (fun j hj => by rw [← hS]; show (List.replicate 64 c)[j]? = _; rw [List.getElem?_replicate, if_pos hj])
  have HQ1 : Hid (Blk W1 w.heap.size 5 (ints .u8 (fillK S 0))) := hid (by rw [fill0 hS64]; exact hq1)
  have HB1 := hid hb1
  have HS64 := hid hS64
  have HW1 := hid hW1
  have HS := hid hS
  rw [hS]
  clear hb1 hq1 hS64 hW1 hS
  go_enter Try.func20, Try.ntmps20
  go_upto_region 3 with (fail)
  rw [HW1.out]
  clear HW1
  go_loopw [8] (fun v wr => ∃ j : Nat, j ≤ 64 ∧ v = .int .i64 j ∧ Hid (Blk wr w.heap.size 5 (ints .u8 (fillK S j))) ∧ Hid (Below w.heap.size w wr)) (fun v _ => 64 - (intOf v).toNat)
  case atStart => exact ⟨0, by decide, rfl, HQ1, HB1⟩
  case round =>
    clear HQ1 HB1
    obtain ⟨j, hj, rfl, HQ, HB⟩ := hrel
    by_cases hjl : j < 64
    · have c6 := HQ.out.cell (fill_cell HS64.out hjl)
      have x6 := HQ.out.free j
      have HQ2 : Hid (Blk (wr.setCell ⟨w.heap.size, j, none⟩ (.int .u8 c)) w.heap.size 5 (ints .u8 (fillK S (j + 1)))) := hid (by
        have h := HQ.out.setI j c
        rw [fillK_set S (HSj.out j hjl)] at h
        exact h)
      have HB2 := hid (clone_put HB.out (.int .u8 c) j)
      have hj0 : (0 : Int) ≤ j := by omega
      have hj64 : (j : Int) < 64 := by omega
      have HJ := hid hjl
      clear hj hjl HQ HB
      go_wp2
      go_roundw
      case rel => exact ⟨j + 1, by have := HJ.out; omega, by go_num, HQ2, HB2⟩
      case measure => have := HJ.out; simp [intOf]; omega
    · obtain rfl : j = 64 := by omega
      have hQ8 : Blk wr w.heap.size 5 (ints .u8 S) := by have h := HQ.out; rwa [fill64 HS64.out] at h
      have HF := hid (hQ8.rw.fresh (lo := w.heap.size) (Nat.le_refl _) hQ8.lt)
      have HL := hid hQ8.lt
      clear HQ hQ8 hj hjl
      go_wp2
      go_ret
      exact ⟨rfl, HF.out, HB.out, HL.out⟩
theorem dwrite_len (F : Nat → Prop) (p m l : Nat) (D : DK) (n : Int) (B : Option Addr) (cB : Nat) (xs : List Int) (w : World) (h : DS F w p D) (hD : Dok m D) (hm : m ≤ 900) (hB : Nums w .u8 B xs) (hl : xs.length = l) :
    Calls Try.prog 14 #[.pointer (some ⟨p, 0, none⟩), .int .i64 n, .slice B l cB] w fun e w' => e = .returned (.int .i64 (writeR D n xs).1) ∧ DS (Grw F w w') w' p (writeR D n xs).2 ∧ Chg F w w' := by
  subst hl
  exact dwrite_any F p m D n B cB xs w h hD hm hB
theorem newD_ok (n : Nat) (hn : n ≤ 16384) : Dok 0 (newD n) := ⟨sz_zero n, Wok.nil _, by show (-1 : Int) ≤ -1; decide, by show (-1 : Int) ≤ _; decide, by show (0 : Int) ≤ 0; decide, by show (0 : Int) ≤ 0; decide, Nat.le_refl _, by simp [newD]; exact hn⟩
def aw1 : DK := ⟨List.replicate 2 Z64, [(1, fillL 7)], -1, false, 0⟩
def aw2 : DK := crashD aw1 []
theorem aw_w : writeR (newD 2) 1 (fillL 7) = (0, aw1) := by
  simp [writeR, newD, fillL_len, errB, burnD, aw1]
theorem aw_r1 : readR aw1 1 = (0, fillL 7) := by
  simp [readR, aw1, pres]
theorem aw_r2 : readR aw2 1 = (0, fillL 0) := by
  have e : (fillL 0) = Z64 := rfl
  simp [readR, aw2, crashD, aw1, pres, tornN, ch, tearS, e]
theorem aw_ok1 : Dok 1 aw1 := by
  have h := (newD_ok 2 (by decide)).write 1 (fillL 7)
  rw [aw_w] at h
  exact h
theorem aw_ok2 : Dok 2 aw2 := aw_ok1.crash []
theorem NumsF.stayC {lo : Nat} {w w' : World} {k : IntKind} {A : Option Addr} {xs : List Int} {G : Nat → Prop} (h : NumsF lo w k A xs) (hc : Chg G w w') (hG : ∀ b, lo ≤ b → b < w.heap.size → ¬ G b) : NumsF lo w' k A xs := fun hp => by
  obtain ⟨b, off, e, h1, hlt, hcell⟩ := h hp
  exact ⟨b, off, e, h1, Nat.lt_of_lt_of_le hlt hc.size, fun i hi => (cell_same (hc.block b hlt (hG b h1 hlt))).trans (hcell i hi)⟩
/-- A disk whose blocks are all from block lo on. -/
def DL (lo : Nat) (w : World) (p : Nat) (D : DK) : Prop := DS (fun b => lo ≤ b) w p D ∧ lo ≤ w.heap.size
theorem DL.next {lo : Nat} {w w' : World} {p : Nat} {D : DK} (h : DL lo w p D) (hb : Below w.heap.size w w') : DL lo w' p D := ⟨h.1.next hb, Nat.le_trans h.2 hb.size⟩
theorem DL.of {lo : Nat} {w w' : World} {p : Nat} {D : DK} (h : DS (Grw (fun b => lo ≤ b) w w') w' p D) (hl : lo ≤ w.heap.size) (hc : w.heap.size ≤ w'.heap.size) : DL lo w' p D := ⟨h.sub (fun b _ hb => by
  rcases hb with h1 | h1
  · exact h1
  · exact Nat.le_trans hl h1.1), Nat.le_trans hl hc⟩
theorem chg_lo {lo : Nat} {w w' : World} (h : Chg (fun b => lo ≤ b) w w') (hl : lo ≤ w.heap.size) : Below lo w w' := h.below hl (fun _ h => h)
theorem aw_new (w : World) : Calls Try.prog 8 #[.int .i64 2] w fun e w' => e = .returned (.tuple #[.pointer (some ⟨w.heap.size + 2, 0, none⟩), .int .i64 0]) ∧ DL w.heap.size w' (w.heap.size + 2) (newD 2) ∧ Below w.heap.size w w' :=
  (dnew_any 2 w (by decide) (by decide)).mono fun e w' ⟨he, h, hb⟩ => ⟨he, ⟨h.sub (fun b _ hb => hb.1), hb.size⟩, hb⟩
section
variable {lo : Nat} {w : World} {p : Nat}
theorem aw_size (h : DL lo w p (newD 2)) : Calls Try.prog 9 #[.pointer (some ⟨p, 0, none⟩)] w fun e w' => e = .returned (.int .i64 2) ∧ w = w' := dsz h.1
theorem aw_write (h : DL lo w p (newD 2)) {B : Option Addr} {c : Nat} (hB : Nums w .u8 B (fillL 7)) : Calls Try.prog 14 #[.pointer (some ⟨p, 0, none⟩), .int .i64 1, .slice B 64 c] w fun e w' => e = .returned (.int .i64 0) ∧ DL lo w' p aw1 ∧ Below lo w w' :=
  (dwrite_len _ p 0 64 (newD 2) 1 B c (fillL 7) w h.1 (newD_ok 2 (by decide)) (by decide) hB (fillL_len 7)).mono fun e w' ⟨he, h2, hc⟩ => by
    rw [aw_w] at he h2
    exact ⟨he, DL.of h2 h.2 hc.size, chg_lo hc h.2⟩
theorem aw_read1 (h : DL lo w p aw1) : Calls Try.prog 17 #[.pointer (some ⟨p, 0, none⟩), .int .i64 1] w fun e w' => (∃ B c, e = .returned (.tuple #[.slice B 64 c, .int .i64 0]) ∧ NumsF w.heap.size w' .u8 B (fillL 7)) ∧ Below w.heap.size w w' :=
  (dread_any _ p 1 aw1 1 w h.1 aw_ok1).mono fun e w' ⟨B, c, he, h2, hb⟩ => by
    rw [aw_r1] at he h2
    exact ⟨⟨B, c, he, h2⟩, hb⟩
theorem aw_crash (h : DL lo w p aw1) : Calls Try.prog 18 #[.pointer (some ⟨p, 0, none⟩), .slice none 0 0] w fun e w' => e = .returned (.int .i64 0) ∧ DL lo w' p aw2 ∧ Below lo w w' :=
  (dcrash_any _ p 1 aw1 none 0 [] w h.1 aw_ok1 (by decide) (by decide) (fun b hb => by simp at hb) NumsS.nil).mono fun e w' ⟨he, h2, hc⟩ => ⟨he, DL.of h2 h.2 hc.size, chg_lo hc h.2⟩
theorem aw_read2 (h : DL lo w p aw2) : Calls Try.prog 17 #[.pointer (some ⟨p, 0, none⟩), .int .i64 1] w fun e w' => (∃ B c, e = .returned (.tuple #[.slice B 64 c, .int .i64 0]) ∧ NumsF w.heap.size w' .u8 B (fillL 0)) ∧ Below w.heap.size w w' :=
  (dread_any _ p 2 aw2 1 w h.1 aw_ok2).mono fun e w' ⟨B, c, he, h2, hb⟩ => by
    rw [aw_r2] at he h2
    exact ⟨⟨B, c, he, h2⟩, hb⟩
end
theorem same64 (A B : Option Addr) (c d : Nat) (xs : List Int) (w : World) (hx : xs.length = 64) (hA : Nums w .u8 A xs) (hB : Nums w .u8 B xs) :
    Calls Try.prog 19 #[.slice A 64 c, .slice B 64 d] w fun e w' => e = .returned (.bool true) ∧ Below w.heap.size w w' := rsame_any A B 64 64 c d xs xs true w (by decide) hx hx (decide_eq_true rfl) hA hB
set_option maxHeartbeats 2000000 in
theorem awake_any (w : World) : Calls Try.prog 7 #[] w fun e w' => e = .returned (.bool true) ∧ Below w.heap.size w w' := by
  go_enter Try.func7, Try.ntmps7
  go_upto_region 4 with (first
    | (go_at_call 14; refine (aw_write hD2' hF3.nums).mono ?_; rintro e w4 ⟨rfl, hD4, hb4⟩)
    | (go_at_call 20; refine (fill_any 7 _).mono ?_; rintro e w3 ⟨rfl, hF3, hb3, _⟩; have hD2' := hD2.next hb3)
    | (go_at_call 9; refine (aw_size hD2).mono ?_; rintro e w2' ⟨rfl, rfl⟩)
    | (go_at_call 8; refine (aw_new _).mono ?_; rintro e w2 ⟨rfl, hD2, hb2⟩))
  have hB4 : Below w.heap.size w w4 := (hb2.trans (Below.mono hb3 hb2.size)).trans hb4
  clear hD2 hD2' hb2 hb3 hb4 hF3
  go_upto_region 7 with (first
    | (go_at_call 18; refine (aw_crash hD7).mono ?_; rintro e w8 ⟨rfl, hD8, hb8⟩)
    | (go_at_call 19; refine (same64 _ _ _ _ (fillL 7) _ (fillL_len 7) hF5.nums hF6.nums).mono ?_; rintro e w7 ⟨rfl, hb7⟩; have hD7 := hD6.next hb7)
    | (go_at_call 20; refine (fill_any 7 _).mono ?_; rintro e w6 ⟨rfl, hF6, hb6, _⟩; have hD6 := hD5.next hb6; replace hF5 := hF5.stay hb6)
    | (go_at_call 17; refine (aw_read1 hD4).mono ?_; rintro e w5 ⟨⟨B5, c5, rfl, hF5⟩, hb5⟩; have hD5 := hD4.next hb5))
  have hB8 : Below w.heap.size w w8 := (hB4.trans (Below.mono ((hb5.trans (Below.mono hb6 hb5.size)).trans (Below.mono hb7 (Nat.le_trans hb5.size hb6.size))) hB4.size)).trans hb8
  clear hb5 hD5 hF5 hb6 hD6 hF6 hb7 hD7 hD4 hb8 hB4
  go_wp2_with (first
    | (go_at_call 19; refine (same64 _ _ _ _ (fillL 0) _ (fillL_len 0) hF9.nums hF10.nums).mono ?_; rintro e w11 ⟨rfl, hb11⟩)
    | (go_at_call 20; refine (fill_any 0 _).mono ?_; rintro e w10 ⟨rfl, hF10, hb10, _⟩; replace hF9 := hF9.stay hb10)
    | (go_at_call 17; refine (aw_read2 hD8).mono ?_; rintro e w9 ⟨⟨B9, c9, rfl, hF9⟩, hb9⟩))
  go_ret
  exact ⟨rfl, hB8.trans (Below.mono ((hb9.trans (Below.mono hb10 hb9.size)).trans (Below.mono hb11 (Nat.le_trans hb9.size hb10.size))) hB8.size)⟩
end Go.Proofs.Ytdfalneiapeegaa
