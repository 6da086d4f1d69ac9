/- Whatever is done to a disk, the answers are the document's. -/
import Derived.Test.YtdfalneiapeegaaLWhole
namespace Go.Proofs.Ytdfalneiapeegaa
open Go Go.RowKit Go.Maps

/-- A row of what is done, each with its box, in a world that grew. -/
theorem do_at {B n : Nat} {w wr : World} {A : Option Addr} {ds : List DoV} (hA : DoRow B w A ds) (hcl : Below B w wr) (hn : ds.length = n) {k : Nat} (hk : k < n) : ∃ d g o W, ds[k]? = some d ∧ A = some ⟨g, o, none⟩ ∧ wr.cell? ⟨g, o + k * 3, none⟩ = some (.int .i64 d.kind) ∧ wr.cell? ⟨g, o + k * 3 + 1, none⟩ = some (.int .i64 d.num) ∧ wr.cell? ⟨g, o + k * 3 + 2, none⟩ = some (.slice d.A d.x.length d.c) ∧ wr.alloc (.cells #[.int .i64 d.kind, .int .i64 d.num, .slice d.A d.x.length d.c] 34) = W ∧ Blk W wr.heap.size 34 d.cells ∧ Below wr.heap.size wr W ∧ (Lit.int .i64 d.num).wf = true ∧ Byts d.x ∧ NumsD B wr .u8 d.A d.x := by
  obtain ⟨d, hd⟩ : ∃ d, ds[k]? = some d := ⟨ds[k]'(by rw [hn]; exact hk), by simp [hn, hk]⟩
  obtain ⟨⟨g, o, e, hg, hr⟩, h2, h3, h4⟩ := (hA.next hcl) k d hd
  obtain ⟨W, hW, hBk, hbW⟩ := do_world d wr
  have r0 := hr 0 _ rfl
  simp only [Nat.add_zero] at r0
  exact ⟨d, g, o, W, hd, e, r0, hr 1 _ rfl, hr 2 _ rfl, hW, hBk, hbW, h2, h3, h4⟩
set_option maxHeartbeats 4000000 in
theorem does_any (size : Int) (n c : Nat) (A : Option Addr) (ds : List DoV) (w : World) (hn : ds.length = n) (hn47 : n ≤ 9223372036854775807) (hA : DoRow w.heap.size w A ds) :
    Calls Try.prog 3 #[.int .i64 size, .slice A n c] w fun e w' => e = .returned (.bool true) ∧ Below w.heap.size w w' := by
  by_cases hsz : size < 1 ∨ 16384 < size
  · have HB := hid hsz
    by_cases h1 : size < 1
    · have e1 : decide (size < 1) = true := decide_eq_true h1
      clear h1 hsz
      go_enter Try.func3, Try.ntmps3
      go_wp2_with (first
        | (go_at_call 8; refine (new_bad size _ HB.out).mono ?_; rintro e w3 ⟨rfl, rfl⟩)
        | (go_at_call 7; refine (awake_any _).mono ?_; rintro e w2 ⟨rfl, hb2⟩))
      go_ret
      exact ⟨rfl, hb2⟩
    · have e1 : decide (size < 1) = false := decide_eq_false h1
      have e2 : decide ((16384 : Int) < size) = true := decide_eq_true (by omega)
      clear h1 hsz
      go_enter Try.func3, Try.ntmps3
      go_wp2_with (first
        | (go_at_call 8; refine (new_bad size _ HB.out).mono ?_; rintro e w3 ⟨rfl, rfl⟩)
        | (go_at_call 7; refine (awake_any _).mono ?_; rintro e w2 ⟨rfl, hb2⟩))
      go_ret
      exact ⟨rfl, hb2⟩
  · obtain ⟨N, rfl⟩ : ∃ N : Nat, size = (N : Int) := ⟨size.toNat, by omega⟩
    have e1 : decide ((N : Int) < 1) = false := decide_eq_false (by omega)
    have e2 : decide ((16384 : Int) < N) = false := decide_eq_false (by omega)
    have hN1 : 1 ≤ N := by omega
    have hN2 : N ≤ 16384 := by omega
    have hne : ((N : Int) != (N : Int)) = false := by simp
    have HN1 := hid hN1
    have HN2 := hid hN2
    have hKL : (newD N).K.length = N := by simp [newD]
    have HKL := hid hKL
    have HA := hid hA
    have Hn := hid hn
    clear hsz hN1 hN2 hKL
    obtain ⟨b, hb⟩ : ∃ b, b = decide ((∀ d ∈ ds, d.x.length ≤ 100) ∧ n ≤ 40) := ⟨_, rfl⟩
    have Hb := hid hb
    have Hn47 := hid hn47
    clear hb hn hA hn47
    by_cases h40 : 40 < N
    · have e3 : decide ((40 : Int) < N) = true := decide_eq_true (by omega)
      clear h40
      go_enter Try.func3, Try.ntmps3
      go_wp2_with (first
        | (go_at_call 9; refine (dsz hD3).mono ?_; rintro e w4 ⟨rfl, rfl⟩; rw [HKL.out])
        | (go_at_call 8; refine (dnew_any N _ HN1.out HN2.out).mono ?_; rintro e w3 ⟨rfl, hD3, hb3⟩)
        | (go_at_call 7; refine (awake_any _).mono ?_; rintro e w2 ⟨rfl, hb2⟩))
      go_ret
      exact ⟨rfl, hb2.trans (Below.mono hb3 hb2.size)⟩
    · have e3 : decide ((40 : Int) < N) = false := decide_eq_false (by omega)
      have HN40 : Hid (N ≤ 40) := hid (by omega)
      clear h40
      cases b with
      | false =>
        go_enter Try.func3, Try.ntmps3
        go_wp2_with (first
          | (go_at_call 10; refine (few_any w.heap.size n c A ds false _ Hn.out Hn47.out (HA.out.next (hb2.trans (Below.mono hb3 hb2.size))) (Nat.le_trans hb2.size hb3.size) Hb).mono ?_; rintro e w5 ⟨rfl, hb5⟩)
          | (go_at_call 9; refine (dsz hD3).mono ?_; rintro e w4 ⟨rfl, rfl⟩; rw [HKL.out])
          | (go_at_call 8; refine (dnew_any N _ HN1.out HN2.out).mono ?_; rintro e w3 ⟨rfl, hD3, hb3⟩)
          | (go_at_call 7; refine (awake_any _).mono ?_; rintro e w2 ⟨rfl, hb2⟩))
        go_ret
        exact ⟨rfl, (hb2.trans (Below.mono hb3 hb2.size)).trans (Below.mono hb5 (Nat.le_trans hb2.size hb3.size))⟩
      | true =>
        have hbd := of_decide_eq_true Hb.out.symm
        have HX := hid hbd.1
        have Hn40 := hid hbd.2
        have hn2 : (n : Int) ≤ 9223372036854775807 := by have := Hn47.out; omega
        clear hbd
        go_enter Try.func3, Try.ntmps3
        go_upto_region 12 with (first
          | (go_at_call 11; refine (rnew_any N _ HN40.out).mono ?_; rintro e w6 ⟨rfl, ⟨F6, B6, hR6, hF6, hB6⟩, hb6⟩)
          | (go_at_call 10; refine (few_any w.heap.size n c A ds true _ Hn.out Hn47.out (HA.out.next (hb2.trans (Below.mono hb3 hb2.size))) (Nat.le_trans hb2.size hb3.size) Hb).mono ?_; rintro e w5 ⟨rfl, hb5⟩)
          | (go_at_call 9; refine (dsz hD3).mono ?_; rintro e w4 ⟨rfl, rfl⟩; rw [HKL.out])
          | (go_at_call 8; refine (dnew_any N _ HN1.out HN2.out).mono ?_; rintro e w3 ⟨rfl, hD3, hb3⟩)
          | (go_at_call 7; refine (awake_any _).mono ?_; rintro e w2 ⟨rfl, hb2⟩))
        obtain ⟨p, hp⟩ : ∃ p, w2.heap.size + 2 = p := ⟨_, rfl⟩
        obtain ⟨q, hq⟩ : ∃ q, w5.heap.size = q := ⟨_, rfl⟩
        have s2 := hb2.size
        have s3 := hb3.size
        have s5 := hb5.size
        have s6 := hb6.size
        have hP0 : Prs w.heap.size (fun b => w2.heap.size ≤ b ∧ b < w3.heap.size) F6 B6 w6 p q (newD N) := by
          rw [hp] at hD3
          rw [hq] at hR6
          refine ⟨(hD3.next hb5).next hb6, hR6, fun b hb => ⟨fun e => ?_, fun e => ?_⟩, fun b hb => ?_, by omega⟩
          · have := hF6 b e; omega
          · have := hB6 b e; omega
          · rcases hb with h | h | h
            · omega
            · have := hF6 b h; omega
            · have := hB6 b h; omega
        have hB0 : Below w.heap.size w w6 := ((hb2.trans (Below.mono hb3 hb2.size)).trans (Below.mono hb5 (by omega))).trans (Below.mono hb6 (by omega))
        rw [hp, hq]
        have HP0 := hid hP0
        have HB0 := hid hB0
        have Hok := hid (newD_ok N HN2.out)
        clear hb2 hb3 hb5 hb6 hD3 hR6 hF6 hB6 s2 s3 s5 s6 hP0 hB0 hp hq e1 e2 e3 hne
        generalize w6 = w0 at *
        go_loopw [48] (fun v wr => ∃ k : Nat, k ≤ n ∧ v = .int .i64 k ∧ Hid (∃ Fd Fx B D, Prs w.heap.size Fd Fx B wr p q D ∧ Dok k D) ∧ Below w.heap.size w wr) (fun v _ => n - (intOf v).toNat)
        case atStart => exact ⟨0, Nat.zero_le _, rfl, hid ⟨_, _, _, _, HP0.out, Hok.out⟩, HB0.out⟩
        case round =>
          clear HP0 HB0 Hok
          obtain ⟨k, hk, rfl, HP, hcl⟩ := hrel
          by_cases hlt : k < n
          · obtain ⟨d, g, o, W, hd, rfl, r0, r1, r2, hW, hBk, hbW, hwf, hby, hnx⟩ := do_at HA.out hcl Hn.out hlt
            obtain ⟨Fd, Fx, B, D, hP, hD⟩ := HP.out
            have y0 := hBk.cell (i := 0) rfl
            have y1 := hBk.cell (i := 1) rfl
            have y2 := hBk.cell (i := 2) rfl
            have hx1 := HX.out d (List.mem_of_getElem? hd)
            have hk40 := Hn40.out
            have HO := one_any w.heap.size Fd Fx B p q k D d W (hP.next hbW) hD (by omega) hwf (hnx.stay (hbW.mono hcl.size)) hx1 hby
            unfold DoV.cells at HO
            have HW := hid hW
            have hkn : (k : Int) < n := by omega
            have hk0 : (0 : Int) ≤ k := by omega
            have HK := hid hlt
            have HP' := hid hP
            have hclW := hcl.trans (Below.mono hbW hcl.size)
            have HbW := hid hbW
            clear hW hBk hd hlt hk HP hP hD hwf hby hnx hx1 hk40 hbW
            go_upto_region 14 with (fail)
            rw [HW.out]
            clear HW r0 r1 r2
            go_wp2_with (go_at_call 12; refine HO.mono ?_; rintro e w7 ⟨rfl, D', ⟨Fd', Fx', B', hP', hsub, hC'⟩, hD', hK'⟩)
            go_roundw
            case rel => exact ⟨k + 1, HK.out, by go_num, hid ⟨_, _, _, _, hP', hD'⟩, hclW.trans (hC'.below (Nat.le_trans hcl.size HbW.out.size) (fun b hb => (HP'.out.inn b (by rcases hb with h | h; exact .inl h; exact .inr (.inl h))).1))⟩
            case measure => have := HK.out; simp [intOf]; omega
          · have hge : ¬ (k : Int) < n := by omega
            obtain ⟨Fd, Fx, B, D, hP, hD⟩ := HP.out
            have hk40 := Hn40.out
            have HWh := whole_any w.heap.size Fd Fx B p q k D wr hP hD (by omega)
            clear hlt HP hP hD hk hk40
            go_wp2_with (go_at_call 13; refine HWh.mono ?_; rintro e w8 ⟨rfl, hb8⟩)
            go_ret
            exact ⟨rfl, hcl.trans (Below.mono hb8 hcl.size)⟩
end Go.Proofs.Ytdfalneiapeegaa
