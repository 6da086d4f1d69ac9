/- DiskFuse's walk. -/
import Derived.Test.YtdfalneiapeegaaLFuse
namespace Go.Proofs.Ytdfalneiapeegaa
open Go Go.RowKit Go.Maps

theorem makeU (N : Nat) (h : N ≤ 1000) (w : World) : (Instr.makeSlice 32 (.int .i64 (N : Int)) (.int .i64 (N : Int))).run Try.prog w = .ok (.slice (some ⟨w.heap.size, 0, none⟩) N N) (w.alloc (.cells (ints .u8 (List.replicate N 0)).toArray 5)) := by
  have hi := infU8b
  cases hc : Try.prog.info? 5 with
  | none => rw [hc] at hi; simp at hi
  | some i =>
    rw [hc] at hi
    simp only [Option.map_some, Option.some.injEq, Prod.mk.injEq] at hi
    have h2 := run_make (P := Try.prog) w 32 5 i (.int .u8 0) (by kernel_rfl) hc hi.1 .i64 .i64 N N (by omega) (by omega) (by rw [hi.2.2]; omega) (by omega)
    rw [h2, hi.2.1]
    simp only [Int.toNat_natCast, Nat.mul_one]
    congr 3
    apply Array.toList_inj.1
    show (madeCells #[.int .u8 0] N).toList = _
    rw [toList_madeCells_one]
    simp [ints]
theorem dl_new1 {lo : Nat} (w : World) (h : lo ≤ w.heap.size) : Calls Try.prog 8 #[.int .i64 1] w fun e w' => e = .returned (.tuple #[.pointer (some ⟨w.heap.size + 2, 0, none⟩), .int .i64 0]) ∧ DL lo w' (w.heap.size + 2) (newD 1) ∧ Below w.heap.size w w' :=
  (dnew_any 1 w (by decide) (by decide)).mono fun e w' ⟨he, h2, hb⟩ => ⟨he, ⟨h2.sub (fun b _ hb => Nat.le_trans h hb.1), Nat.le_trans h hb.size⟩, hb⟩
theorem dl_off {lo : Nat} {w : World} {p : Nat} {D : DK} {b : Bool} (h : DL lo w p D) (ho : D.off = b) : Calls Try.prog 23 #[.pointer (some ⟨p, 0, none⟩)] w fun e w' => e = .returned (.bool b) ∧ w = w' := by
  subst ho
  exact dof h.1
theorem dl_wait {lo : Nat} {w : World} {p : Nat} {D : DK} {n : Nat} (h : DL lo w p D) (ho : D.W.length = n) : Calls Try.prog 16 #[.pointer (some ⟨p, 0, none⟩)] w fun e w' => e = .returned (.int .i64 (n : Nat)) ∧ w = w' := by
  subst ho
  exact dwt h.1
theorem DL.near {lo : Nat} {w : World} {p : Nat} {D : DK} (h : DL lo w p D) : DS (fun b => lo ≤ b ∧ b < w.heap.size) w p D := h.1.sub (fun b hb hl => ⟨hl, hb⟩)
theorem DL.far {lo : Nat} {w w' : World} {p z : Nat} {D : DK} (h : DS (fun b => lo ≤ b ∧ b < z) w p D) (hl : lo ≤ w.heap.size) (hc : Chg (fun b => b = z) w w') : DS (fun b => lo ≤ b ∧ b < z) w' p D ∧ lo ≤ w'.heap.size := ⟨h.chg hc (fun b hb e => by have h1 : lo ≤ b ∧ b < z := hb; have h2 : b = z := e; omega), Nat.le_trans hl hc.size⟩
theorem chg_one {lo z : Nat} {a w w' : World} (h : Below lo a w) (hc : Chg (fun b => b = z) w w') (hz : lo ≤ z) (hl : lo ≤ w.heap.size) : Below lo a w' := h.trans (hc.below hl (fun b e => by have h2 : b = z := e; omega))
theorem byts_rep (N : Nat) {cc : Int} (h : 0 ≤ cc ∧ cc ≤ 255) : Byts (List.replicate N cc) := fun b hb => by rw [List.eq_of_mem_replicate hb]; exact h
set_option maxRecDepth 50000 in
set_option maxHeartbeats 8000000 in
theorem fuse_any (N : Nat) (cc : Int) (w : World) (hN : N ≤ 255) (hc0 : 0 ≤ cc) (hc1 : cc ≤ 255) :
    Calls Try.prog 5 #[.int .u8 N, .int .u8 cc] w fun e w' => e = .returned (.bool true) ∧ Below w.heap.size w w' := by
  have hwN : IntKind.i64.wrap (N : Int) = N := IntWalk.i64_in _ ⟨by omega, by omega⟩
  have hwc : IntKind.i64.wrap cc = cc := IntWalk.i64_in _ ⟨by omega, by omega⟩
  have HN := hid hN
  have hN9 : (N : Int) ≤ 255 := by omega
  have Hcc := hid (And.intro hc0 hc1)
  clear hN hc0 hc1
  go_enter Try.func5, Try.ntmps5
  go_upto_region 9 with (first
    | (go_at_call 24; refine (dl_fuse hD4 N).mono ?_; rintro e w5 ⟨rfl, hD5, hb5⟩)
    | (go_at_call 8; refine (dl_new1 _ (Nat.le_trans hb2.size hb3.size)).mono ?_; rintro e w4 ⟨rfl, hD4, hb4⟩)
    | (go_at_call 23; refine (doff_nil _).mono ?_; rintro e w3' ⟨rfl, rfl⟩)
    | (go_at_call 22; refine (dlives_nil _).mono ?_; rintro e w3' ⟨rfl, rfl⟩)
    | (go_at_call 16; refine (dwait_nil _).mono ?_; rintro e w3' ⟨rfl, rfl⟩)
    | (go_at_call 9; refine (dsize_nil _).mono ?_; rintro e w3' ⟨rfl, rfl⟩)
    | (go_at_call 21; refine (dclone_nil _).mono ?_; rintro e w3' ⟨rfl, rfl⟩)
    | (go_at_call 18; refine (dcrash_nil _ _).mono ?_; rintro e w3' ⟨rfl, rfl⟩)
    | (go_at_call 15; refine (dflush_nil _).mono ?_; rintro e w3' ⟨rfl, rfl⟩)
    | (go_at_call 14; refine (dwrite_nil _ _ _).mono ?_; rintro e w3' ⟨rfl, rfl⟩)
    | (go_at_call 20; refine (fill_any 1 _).mono ?_; rintro e w3 ⟨rfl, _, hb3, _⟩)
    | (go_at_call 7; refine (awake_any _).mono ?_; rintro e w2 ⟨rfl, hb2⟩))
  obtain ⟨p, hp⟩ : ∃ p, w3.heap.size + 2 = p := ⟨_, rfl⟩
  have hB5 : Below w.heap.size w w5 := ((hb2.trans (Below.mono hb3 hb2.size)).trans (Below.mono hb4 (Nat.le_trans hb2.size hb3.size))).trans hb5
  rw [hp] at hD5 ⊢
  rw [dn_new] at hD5
  have HD5 := hid hD5
  have HB5 := hid hB5
  clear hb2 hb3 hb4 hb5 hD4 hD5 hp hB5
  generalize w5 = w0 at *
  go_loopw [63] (fun v wr => ∃ i : Nat, i ≤ N ∧ v = .int .i64 i ∧ Hid (DL w.heap.size wr p (Dn N i)) ∧ Hid (Below w.heap.size w wr)) (fun v _ => N - (intOf v).toNat)
  case atStart => exact ⟨0, Nat.zero_le _, rfl, HD5, HB5⟩
  case round =>
    clear HD5 HB5
    obtain ⟨i, hi, rfl, HD, HB⟩ := hrel
    by_cases hlt : i < N
    · have hiN : (i : Int) < N := by omega
      have hi0 : (0 : Int) ≤ i := by omega
      have hwi : IntKind.u8.wrap (i : Int) = i := IntWalk.u8_in _ (by have := HN.out; omega)
      have HI := hid hlt
      have hD := HD.out
      have hB := HB.out
      clear hlt hi HD HB
      go_wp2_with (first
        | (go_at_call 23; refine (dl_off (b := false) hD3 rfl).mono ?_; rintro e w4 ⟨rfl, rfl⟩)
        | (go_at_call 14; refine (dl_write hD2 (dn_ok HN.out (Nat.le_of_lt HI.out)) (by decide) 0 hF2.nums (fillL_len _) (dn_write HI.out)).mono ?_; rintro e w3 ⟨rfl, hD3, hb3⟩)
        | (go_at_call 20; refine (fill_any i _).mono ?_; rintro e w2 ⟨rfl, hF2, hb2, _⟩; have hD2 := hD.next hb2))
      go_roundw
      case rel => exact ⟨i + 1, HI.out, by go_num, hid hD3, hid ((hB.trans (Below.mono hb2 hB.size)).trans hb3)⟩
      case measure => have := HI.out; simp [intOf]; omega
    · have e : N = i := by omega
      subst e
      have hge : ¬ (N : Int) < N := by omega
      have hD := HD.out
      have hB := HB.out
      have hne : ((N : Int) != (N : Int)) = false := by simp
      have hmk := makeU N (by have := HN.out; omega)
      clear hlt hi HD HB
      go_upto_region 18 with (first
        | (go_at_call 16; refine (dl_wait hD7 (wrs_len N)).mono ?_; rintro e w8 ⟨rfl, rfl⟩)
        | (go_at_call 17; refine (dl_read hD6 (df_ok HN.out) 0 (df_read N) rfl).mono ?_; rintro e w7 ⟨⟨B7, c7, rfl, _⟩, hb7⟩; have hD7 := hD6.next hb7)
        | (go_at_call 15; refine (dl_flush hD5 (df_ok HN.out) (by decide) (df_flush N)).mono ?_; rintro e w6 ⟨rfl, hD6, hb6⟩)
        | (go_at_call 14; refine (dl_write hD4 (df_ok HN.out) (by decide) 0 hF4.nums (fillL_len 9) (df_write N _)).mono ?_; rintro e w5 ⟨rfl, hD5, hb5⟩)
        | (go_at_call 20; refine (fill_any 9 _).mono ?_; rintro e w4 ⟨rfl, hF4, hb4, _⟩; have hD4 := hD2.next hb4)
        | (go_at_call 23; refine (dl_off (b := true) hD2 rfl).mono ?_; rintro e w3 ⟨rfl, rfl⟩)
        | (go_at_call 15; refine (dl_flush hD (dn_ok HN.out (Nat.le_refl _)) (by decide) (dn_flush N)).mono ?_; rintro e w2 ⟨rfl, hD2, hb2⟩))
      have hq8 := Blk.new w7 5 (ints .u8 (List.replicate N 0))
      have hb8 := below_new w7 (.cells (ints .u8 (List.replicate N 0)).toArray 5)
      have hB7 : Below w.heap.size w w7 := ((((hB.trans hb2).trans (Below.mono hb4 hD2.2)).trans hb5).trans hb6).trans (Below.mono hb7 hD6.2)
      obtain ⟨w8, hw8⟩ : ∃ w8, w7.alloc (.cells (ints .u8 (List.replicate N 0)).toArray 5) = w8 := ⟨_, rfl⟩
      obtain ⟨z, hz⟩ : ∃ z, w7.heap.size = z := ⟨_, rfl⟩
      have hD8 : DS (fun b => w.heap.size ≤ b ∧ b < z) w8 p (Df N) := by
        have h := hD7.near
        rw [hz] at h
        rw [hw8] at hb8
        exact h.next hb8
      have hlz : w.heap.size ≤ z := by rw [← hz]; exact hD7.2
      rw [hw8] at hb8 hq8 ⊢
      rw [hz] at hq8 ⊢
      have hB8 : Below w.heap.size w w8 := hB7.trans (Below.mono hb8 hD7.2)
      have HQ0 : Hid (Blk w8 z 5 (ints .u8 (fillK (List.replicate N cc) 0))) := hid (by rw [fillK_zero, List.length_replicate]; exact hq8)
      have HD8 := hid hD8
      have HB8 := hid hB8
      have Hlz := hid hlz
      clear hq8 hb8 hB7 hw8 hz hD8 hlz hB8 hb2 hb4 hb5 hb6 hb7 hD hB hD2 hD4 hD5 hD6 hD7 hF4 hmk
      go_loopw [115] (fun v wr => ∃ j : Nat, j ≤ N ∧ v = .int .i64 j ∧ Hid (Blk wr z 5 (ints .u8 (fillK (List.replicate N cc) j))) ∧ Hid (DS (fun b => w.heap.size ≤ b ∧ b < z) wr p (Df N) ∧ Below w.heap.size w wr)) (fun v _ => N - (intOf v).toNat)
      case atStart => exact ⟨0, Nat.zero_le _, rfl, HQ0, hid ⟨HD8.out, HB8.out⟩⟩
      case round =>
        clear HQ0 HD8 HB8
        obtain ⟨j, hj, rfl, HQ, HP⟩ := hrel
        by_cases hjl : j < N
        · have c6 : wr.cell? ⟨z, j, none⟩ = some (.int .u8 0) := HQ.out.cell (by
            have e : (fillK (List.replicate N cc) j)[j]? = some 0 := by rw [fillK_get, if_pos (by simp; exact hjl), if_neg (Nat.lt_irrefl j)]
            simp [ints, e])
          have x6 := HQ.out.free j
          have HQ2 : Hid (Blk (wr.setCell ⟨z, j, none⟩ (.int .u8 cc)) z 5 (ints .u8 (fillK (List.replicate N cc) (j + 1)))) := hid (by
            have h := HQ.out.setI j cc
            rw [fillK_set _ (show (List.replicate N cc)[j]? = some cc by rw [List.getElem?_replicate, if_pos hjl])] at h
            exact h)
          have hC := (Chg.refl (fun b => b = z) wr).setCell (p := ⟨z, j, none⟩) (.inl rfl) (.int .u8 cc)
          have HP2 := hid (And.intro (DL.far HP.out.1 HP.out.2.size hC).1 (chg_one HP.out.2 hC Hlz.out HP.out.2.size))
          have hjN : (j : Int) < N := by omega
          have hj0 : (0 : Int) ≤ j := by omega
          have HJ := hid hjl
          clear hj hjl HQ HP hC
          go_wp2
          go_roundw
          case rel => exact ⟨j + 1, HJ.out, by go_num, HQ2, HP2⟩
          case measure => have := HJ.out; simp [intOf]; omega
        · have e : N = j := by omega
          subst e
          have hge : ¬ (N : Int) < N := by omega
          obtain ⟨hDS, hB⟩ := HP.out
          have hQ8 : Blk wr z 5 (ints .u8 (List.replicate N cc)) := by
            have h := HQ.out
            have e : fillK (List.replicate N cc) N = List.replicate N cc := by
              have := fillK_end (List.replicate N cc)
              rwa [List.length_replicate] at this
            rwa [e] at h
          have hNum : NumsF z wr .u8 (some ⟨z, 0, none⟩) (List.replicate N cc) := hQ8.rw.fresh (Nat.le_refl _) hQ8.lt
          have HCr := dl_crash (c := N) (l := N) hDS hB.size (df_ok HN.out) (by decide) hNum (by simp) (by have := HN.out; omega) (byts_rep N Hcc.out)
          rw [df_crash] at HCr
          obtain ⟨m, hm⟩ : ∃ m, min cc.toNat 64 = m := ⟨_, rfl⟩
          rw [hm] at HCr
          have hm64 : m ≤ 64 := by omega
          have Hm := hid hm
          have Hm64 := hid hm64
          have HOL : Hid ((outL N m).length = 64) := hid (outL_len N m hm64)
          have HB := hid hB
          clear hj hjl HQ HP hDS hB hQ8 hNum hm hm64
          go_upto_region 30 with (first
            | (go_at_call 20; refine (fillB_any 0 _).mono ?_; rintro e w4 ⟨rfl, hF4, hb4, hz4, hq4⟩)
            | (go_at_call 17; refine (dl_read hD2 (de_ok Hm64.out) 0 (de_read N m) HOL.out).mono ?_; rintro e w3 ⟨⟨B3, c3, rfl, hF3⟩, hb3⟩; have hD3 := hD2.next hb3)
            | (go_at_call 23; refine (dl_off (b := false) hD2 rfl).mono ?_; rintro e w2' ⟨rfl, rfl⟩)
            | (go_at_call 18; refine HCr.mono ?_; rintro e w2 ⟨rfl, hD2, hb2⟩))
          obtain ⟨bw, hbw⟩ : ∃ bw, w3.heap.size = bw := ⟨_, rfl⟩
          have hDS4 : DS (fun b => w.heap.size ≤ b ∧ b < bw) w4 p (De N m) := by
            have h := hD3.near
            rw [hbw] at h
            exact h.next hb4
          have hlb : w.heap.size ≤ bw := by rw [← hbw]; exact hD3.2
          have hB4 : Below w.heap.size w w4 := ((HB.out.trans hb2).trans (Below.mono hb3 hD2.2)).trans (Below.mono hb4 hD3.2)
          have hND : NumsD bw w4 .u8 B3 (outL N m) := by
            have h := hF3.nums.under
            rw [hbw] at h
            rw [hbw] at hb4
            exact h.stay hb4
          rw [hbw] at hq4 ⊢
          have HQ0 : Hid (Blk w4 bw 5 (ints .u8 (fillK (fillL ((N : Int) - 1)) 0))) := hid (by rw [fill0 (fillL_len _)]; exact hq4)
          have HP0 := hid (And.intro hDS4 (And.intro hND hB4))
          have Hlb := hid hlb
          obtain ⟨M, hM⟩ : ∃ M, (if N = 0 then 0 else m) = M := ⟨_, rfl⟩
          have HM := hid hM
          have hM64 : M ≤ 64 := by rw [← hM]; split; omega; exact Hm64.out
          have HM64 := hid hM64
          clear hb2 hb3 hb4 hD2 hD3 hF3 hF4 hz4 hq4 hbw hDS4 hlb hB4 hND hM hM64 HB
          go_loopw [16] (fun v wr => ∃ j : Nat, j ≤ M ∧ v = .int .i64 j ∧ Hid (Blk wr bw 5 (ints .u8 (fillK (fillL ((N : Int) - 1)) j))) ∧ Hid (DS (fun b => w.heap.size ≤ b ∧ b < bw) wr p (De N m) ∧ NumsD bw wr .u8 B3 (outL N m) ∧ Below w.heap.size w wr)) (fun v _ => 64 - (intOf v).toNat)
          case atStart => exact ⟨0, Nat.zero_le _, rfl, HQ0, HP0⟩
          case round =>
            clear HQ0 HP0
            obtain ⟨j, hj, rfl, HQ, HP⟩ := hrel
            obtain ⟨hDS, hND, hB⟩ := HP.out
            have hj0 : (0 : Int) ≤ j := by omega
            have hMM := HM64.out
            by_cases hjM : j < M
            · have hN0 : N ≠ 0 := fun e => by have := HM.out; rw [if_pos e] at this; omega
              have hMm : M = m := by have := HM.out; rw [if_neg hN0] at this; exact this.symm
              have hjc : (j : Int) < cc := by have := Hm.out; omega
              have hj64 : (j : Int) < 64 := by omega
              have hNp : (0 : Int) < N := by omega
              have hw1 : IntKind.u8.wrap ((N : Int) - 1) = (N : Int) - 1 := IntWalk.u8_in _ (by omega)
              have c6 : wr.cell? ⟨bw, j, none⟩ = some (.int .u8 0) := HQ.out.cell (fill_cell (fillL_len _) (by omega))
              have x6 := HQ.out.free j
              have HQ2 : Hid (Blk (wr.setCell ⟨bw, j, none⟩ (.int .u8 ((N : Int) - 1))) bw 5 (ints .u8 (fillK (fillL ((N : Int) - 1)) (j + 1)))) := hid (by
                have h := HQ.out.setI j ((N : Int) - 1)
                rw [fillK_set _ (show (fillL ((N : Int) - 1))[j]? = some ((N : Int) - 1) by show (List.replicate 64 _)[j]? = _; rw [List.getElem?_replicate, if_pos (by omega)])] at h
                exact h)
              have hC := (Chg.refl (fun b => b = bw) wr).setCell (p := ⟨bw, j, none⟩) (.inl rfl) (.int .u8 ((N : Int) - 1))
              have HP2 := hid (And.intro (DL.far hDS hB.size hC).1 (And.intro (hND.stay (hC.below (Nat.le_trans (Nat.le_refl bw) (Nat.le_of_lt HQ.out.lt)) (fun b e => Nat.le_of_eq (Eq.symm e)))) (chg_one hB hC Hlb.out hB.size)))
              have HJ := hid hjM
              clear hj hjM HQ HP hC hDS hND hB hN0 hMm
              go_wp2
              go_roundw
              case rel => exact ⟨j + 1, HJ.out, by go_num, HQ2, HP2⟩
              case measure => simp [intOf]; omega
            · have e : j = M := by omega
              subst e
              have hw4 : ∃ D, writeR (De N m) 0 (fillL 1) = (0, D) ∧ ∃ D', flushR D = (0, D') := de_write N m
              obtain ⟨D8, h8, D9, h9⟩ := hw4
              have hQ8 : Blk wr bw 5 (ints .u8 (outL N m)) := by
                have h := HQ.out
                rw [← HM.out, want_out Hm64.out] at h
                exact h
              have hNum := (hQ8.rw.fresh (lo := 0) (Nat.zero_le _) hQ8.lt).nums
              have HS := same64 B3 (some ⟨bw, 0, none⟩) c3 64 (outL N m) wr HOL.out (hND.nums (Nat.le_of_lt hQ8.lt)) hNum
              have hDL : DL w.heap.size wr p (De N m) := ⟨hDS.sub (fun b _ hb => hb.1), hB.size⟩
              have HDL := hid hDL
              have HB := hid hB
              have H8 := hid h8
              have H9 := hid h9
              have H8k : Hid (Dok 256 D8) := hid (by have h := (de_ok (N := N) Hm64.out).write 0 (fillL 1); rw [h8] at h; exact h)
              clear hDS hND hB HQ HP hQ8 hNum hDL h8 h9
              by_cases hjc : (j : Int) < 64 ∧ (j : Int) < cc
              · have hN0 : N = 0 := by
                  refine Classical.byContradiction fun h => ?_
                  have h1 := HM.out
                  rw [if_neg h] at h1
                  have h2 := Hm.out
                  omega
                have hNp : ¬ (0 : Int) < N := by omega
                obtain ⟨h64, hcj⟩ := hjc
                clear hj hjM hN0
                go_wp2_with (first
                  | (go_at_call 15; refine (dl_flush hD5 H8k.out (by decide) H9.out).mono ?_; rintro e w6 ⟨rfl, hD6, hb6⟩)
                  | (go_at_call 14; refine (dl_write hD4 (de_ok Hm64.out) (by decide) 0 hF4.nums (fillL_len 1) H8.out).mono ?_; rintro e w5 ⟨rfl, hD5, hb5⟩)
                  | (go_at_call 20; refine (fill_any 1 _).mono ?_; rintro e w4 ⟨rfl, hF4, hb4, _⟩; have hD4 := hD3.next hb4)
                  | (go_at_call 19; refine HS.mono ?_; rintro e w3 ⟨rfl, hb3⟩; have hD3 := HDL.out.next hb3))
                go_ret
                exact ⟨rfl, (((HB.out.trans (Below.mono hb3 HB.out.size)).trans (Below.mono hb4 hD3.2)).trans hb5).trans hb6⟩
              · by_cases h64 : (j : Int) < 64
                · have hcj : ¬ (j : Int) < cc := fun h => hjc ⟨h64, h⟩
                  clear hj hjM hjc
                  go_wp2_with (first
                    | (go_at_call 15; refine (dl_flush hD5 H8k.out (by decide) H9.out).mono ?_; rintro e w6 ⟨rfl, hD6, hb6⟩)
                    | (go_at_call 14; refine (dl_write hD4 (de_ok Hm64.out) (by decide) 0 hF4.nums (fillL_len 1) H8.out).mono ?_; rintro e w5 ⟨rfl, hD5, hb5⟩)
                    | (go_at_call 20; refine (fill_any 1 _).mono ?_; rintro e w4 ⟨rfl, hF4, hb4, _⟩; have hD4 := hD3.next hb4)
                    | (go_at_call 19; refine HS.mono ?_; rintro e w3 ⟨rfl, hb3⟩; have hD3 := HDL.out.next hb3))
                  go_ret
                  exact ⟨rfl, (((HB.out.trans (Below.mono hb3 HB.out.size)).trans (Below.mono hb4 hD3.2)).trans hb5).trans hb6⟩
                · have h64' : ¬ (j : Int) < 64 := h64
                  clear hj hjM hjc h64
                  go_wp2_with (first
                    | (go_at_call 15; refine (dl_flush hD5 H8k.out (by decide) H9.out).mono ?_; rintro e w6 ⟨rfl, hD6, hb6⟩)
                    | (go_at_call 14; refine (dl_write hD4 (de_ok Hm64.out) (by decide) 0 hF4.nums (fillL_len 1) H8.out).mono ?_; rintro e w5 ⟨rfl, hD5, hb5⟩)
                    | (go_at_call 20; refine (fill_any 1 _).mono ?_; rintro e w4 ⟨rfl, hF4, hb4, _⟩; have hD4 := hD3.next hb4)
                    | (go_at_call 19; refine HS.mono ?_; rintro e w3 ⟨rfl, hb3⟩; have hD3 := HDL.out.next hb3))
                  go_ret
                  exact ⟨rfl, (((HB.out.trans (Below.mono hb3 HB.out.size)).trans (Below.mono hb4 hD3.2)).trans hb5).trans hb6⟩
theorem fuse_walk (w : World) (n : Int) (hn : (Lit.int .u8 n).wf = true) (cc : Int) (hc : (Lit.int .u8 cc).wf = true) :
    Calls Try.prog 5 #[.int .u8 n, .int .u8 cc] w fun e w' => e = .returned (.bool true) ∧ Below w.heap.size w w' := by
  simp [Lit.wf, IntKind.min, IntKind.max, IntKind.bits, IntKind.signed] at hn hc
  obtain ⟨N, rfl⟩ : ∃ N : Nat, n = (N : Int) := ⟨n.toNat, by omega⟩
  exact fuse_any N cc w (by omega) hc.1 (by omega)
end Go.Proofs.Ytdfalneiapeegaa
