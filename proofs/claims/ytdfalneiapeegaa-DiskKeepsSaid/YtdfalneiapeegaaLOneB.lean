/- One thing is done to a disk and to the document's: the other kinds. -/
import Derived.Test.YtdfalneiapeegaaLOneA
namespace Go.Proofs.Ytdfalneiapeegaa
open Go Go.RowKit Go.Maps

set_option maxHeartbeats 4000000 in
theorem one_read (lo : Nat) (Fd Fx B : Nat → Prop) (p q m : Nat) (D : DK) (d : DoV) (w : World) (h : Prs lo Fd Fx B w p q D) (hD : Dok m D) (hm : m ≤ 800) (hk : d.kind = 2) :
    Calls Try.prog 12 #[.pointer (some ⟨p, 0, none⟩), .pointer (some ⟨q, 0, none⟩), .agg d.cells.toArray] w fun e w' => e = .returned (.bool true) ∧ OneP lo Fd Fx B m w w' p q D := by
  obtain ⟨dk, dn, dA, dc, dx⟩ := d
  dsimp only at hk
  subst hk
  obtain ⟨W1, hW1, hBk, hb1⟩ := do_world ⟨2, dn, dA, dc, dx⟩ w
  have h1 := h.next hb1
  have x0 := hBk.cell (i := 0) rfl
  have x1 := hBk.cell (i := 1) rfl
  obtain ⟨er, her⟩ : ∃ er, (readR D dn).1 = er := ⟨_, rfl⟩
  obtain ⟨xs, hxs⟩ : ∃ xs, (readR D dn).2 = xs := ⟨_, rfl⟩
  have hxl : xs.length ≤ 4096 := by
    rw [← hxs]
    unfold readR
    split
    · simp
    · split
      · simp
      · show ((pres D.K D.W).getD dn.toNat []).length ≤ 4096
        cases hg : (pres D.K D.W)[dn.toNat]? with
        | none => simp [List.getD, hg]
        | some s => rw [getD_of hg, (pres_sz hD.wW hD.sK).get hg]; decide
  have HR1 := dread_any Fd p m D dn W1 h1.ds hD
  rw [her, hxs] at HR1
  have HW := hid hW1
  have HP := hid h
  have HP1 := hid h1
  have HDk := hid hD
  have Hb1 := hid hb1
  have HR2 : Hid (∀ ww, Below W1.heap.size W1 ww → Calls Try.prog 27 #[.pointer (some ⟨q, 0, none⟩), .int .i64 dn] ww fun e w' => ∃ A c, e = .returned (.tuple #[.slice A xs.length c, .int .i64 er]) ∧ NumsS B w' .u8 A xs ∧ Below ww.heap.size ww w') := hid (fun ww hw => by
    have := rread_any Fx B q m D dn ww (h1.rs.next hw) hD (by omega)
    rwa [her, hxs] at this)
  obtain ⟨dl, hdl⟩ : ∃ dl, dx.length = dl := ⟨_, rfl⟩
  obtain ⟨xl, hxl2⟩ : ∃ xl, xs.length = xl := ⟨_, rfl⟩
  have HXL := hid hxl2
  have HXM := hid hxl
  rw [hxl2] at HR1 HR2
  unfold DoV.cells
  dsimp only
  rw [hdl] at HW ⊢
  clear hW1 hBk hb1 h1 h hD hdl her hxs hxl hxl2
  go_enter Try.func12, Try.ntmps12
  go_upto_region 1 with (fail)
  rw [HW.out]
  clear HW
  go_upto_region 6 with (go_at_call 17; refine HR1.mono ?_; rintro e w2 ⟨A2, c2, rfl, hF2, hb2⟩)
  clear x0
  have x1 := cellB x1 hb2
  go_upto_region 7 with (go_at_call 27; refine (HR2.out _ hb2).mono ?_; rintro e w3 ⟨A3, c3, rfl, hN3, hb3⟩)
  have hF3 := (hF2.stay hb3).nums
  have hN3' : Nums w3 .u8 A3 xs := fun hp => by
    obtain ⟨b, off, e, _, hc⟩ := hN3 hp
    exact ⟨b, off, e, World.block_lt_of_cell? w3 _ (hc 0 hp), hc⟩
  have HS := rsame_any A2 A3 xl xl c2 c3 xs xs true w3 (by rw [← HXL.out]; exact HXM.out) HXL.out HXL.out (decide_eq_true rfl) hF3 hN3'
  have hb03 : Hid (Below w.heap.size w w3) := hid ((Hb1.out.trans (Below.mono hb2 Hb1.out.size)).trans (Below.mono hb3 (Nat.le_trans Hb1.out.size hb2.size)))
  clear x1 hF2 hN3 hF3 hN3' HR1 HR2 hb2 hb3
  go_wp2_with (go_at_call 19; refine HS.mono ?_; rintro e w4 ⟨rfl, hb4⟩)
  go_ret
  exact ⟨rfl, D, HP.out.stay (hb03.out.trans (Below.mono hb4 hb03.out.size)), HDk.out.more (Nat.le_succ m), rfl⟩
set_option maxHeartbeats 4000000 in
theorem one_flush (lo : Nat) (Fd Fx B : Nat → Prop) (p q m : Nat) (D : DK) (d : DoV) (w : World) (h : Prs lo Fd Fx B w p q D) (hD : Dok m D) (hm : m ≤ 800) (hk : d.kind = 3) :
    Calls Try.prog 12 #[.pointer (some ⟨p, 0, none⟩), .pointer (some ⟨q, 0, none⟩), .agg d.cells.toArray] w fun e w' => e = .returned (.bool true) ∧ OneP lo Fd Fx B m w w' p q D := by
  obtain ⟨dk, dn, dA, dc, dx⟩ := d
  dsimp only at hk
  subst hk
  obtain ⟨W1, hW1, hBk, hb1⟩ := do_world ⟨3, dn, dA, dc, dx⟩ w
  have h1 := h.next hb1
  have x0 := hBk.cell (i := 0) rfl
  obtain ⟨er, her⟩ : ∃ er, (flushR D).1 = er := ⟨_, rfl⟩
  obtain ⟨D1, hD1⟩ : ∃ D1, (flushR D).2 = D1 := ⟨_, rfl⟩
  have HR1 := dflush_any Fd p m D W1 h1.ds hD (by omega)
  rw [her, hD1] at HR1
  have HW := hid hW1
  have HP1 := hid h1
  have Hb1 := hid hb1
  have HDD : Hid (Dok (m + 1) D1 ∧ D1.K.length = D.K.length) := hid (by rw [← hD1]; exact ⟨hD.flush.more (Nat.le_succ m), flush_len D⟩)
  have HR2 : Hid (∀ ww, Chg Fd W1 ww → Calls Try.prog 28 #[.pointer (some ⟨q, 0, none⟩)] ww fun e w' => e = .returned (.int .i64 er) ∧ RSn Fx B ww w' q D1 ∧ Chg Fx ww w') := hid (fun ww hw => by
    have := rflush_any Fx B q m D ww (h1.mid hw) hD (by omega)
    rwa [her, hD1] at this)
  obtain ⟨dl, hdl⟩ : ∃ dl, dx.length = dl := ⟨_, rfl⟩
  unfold DoV.cells
  dsimp only
  rw [hdl] at HW ⊢
  clear hW1 hBk hb1 h1 h hD hdl her hD1
  go_enter Try.func12, Try.ntmps12
  go_upto_region 1 with (fail)
  rw [HW.out]
  clear HW
  go_wp2_with (first
    | (go_at_call 28; refine (HR2.out _ hc2).mono ?_; rintro e w3 ⟨rfl, hr3, hc3⟩)
    | (go_at_call 15; refine HR1.mono ?_; rintro e w2 ⟨rfl, hd2, hc2⟩))
  go_ret
  exact ⟨rfl, D1, (HP1.out.two hd2 hc2 hr3 hc3).from Hb1.out, HDD.out.1, HDD.out.2⟩
set_option maxHeartbeats 4000000 in
theorem one_fuse (lo : Nat) (Fd Fx B : Nat → Prop) (p q m : Nat) (D : DK) (d : DoV) (w : World) (h : Prs lo Fd Fx B w p q D) (hD : Dok m D) (hk : d.kind = 4) (hn : (Lit.int .i64 d.num).wf = true) :
    Calls Try.prog 12 #[.pointer (some ⟨p, 0, none⟩), .pointer (some ⟨q, 0, none⟩), .agg d.cells.toArray] w fun e w' => e = .returned (.bool true) ∧ OneP lo Fd Fx B m w w' p q D := by
  obtain ⟨dk, dn, dA, dc, dx⟩ := d
  dsimp only at hk hn
  subst hk
  obtain ⟨W1, hW1, hBk, hb1⟩ := do_world ⟨4, dn, dA, dc, dx⟩ w
  have h1 := h.next hb1
  have x0 := hBk.cell (i := 0) rfl
  have x1 := hBk.cell (i := 1) rfl
  have hn9 : dn ≤ 9223372036854775807 := by
    simp [Lit.wf, IntKind.min, IntKind.max, IntKind.bits, IntKind.signed] at hn
    omega
  obtain ⟨D1, hD1⟩ : ∃ D1, fuseD D dn = D1 := ⟨_, rfl⟩
  have HR1 := dfuse_any h1.ds dn
  rw [hD1] at HR1
  have HW := hid hW1
  have HP1 := hid h1
  have Hb1 := hid hb1
  have HDD : Hid (Dok (m + 1) D1 ∧ D1.K.length = D.K.length) := hid (by rw [← hD1]; exact ⟨(hD.fuse hn9).more (Nat.le_succ m), rfl⟩)
  have HR2 : Hid (∀ ww, Chg Fd W1 ww → Calls Try.prog 29 #[.pointer (some ⟨q, 0, none⟩), .int .i64 dn] ww fun e w' => e = .returned (.tuple #[]) ∧ RSn Fx B ww w' q D1 ∧ Chg Fx ww w') := hid (fun ww hw => by
    have := rfused_any Fx B q D dn ww (h1.mid hw)
    rwa [hD1] at this)
  have Hx : Hid (∀ ww, Chg Fd W1 ww → ww.cell? ⟨w.heap.size, 1, none⟩ = some (.int .i64 dn)) := hid (fun ww hw => (hBk.chg hw (fun e => by have := (h.inn _ (.inl e)).2; omega)).cell (i := 1) rfl)
  obtain ⟨dl, hdl⟩ : ∃ dl, dx.length = dl := ⟨_, rfl⟩
  unfold DoV.cells
  dsimp only
  rw [hdl] at HW ⊢
  clear hW1 hBk hb1 h1 h hD hdl hD1 hn hn9
  go_enter Try.func12, Try.ntmps12
  go_upto_region 1 with (fail)
  rw [HW.out]
  clear HW
  go_wp2_with (first
    | (go_at_call 29; refine (HR2.out _ hc2).mono ?_; rintro e w3 ⟨rfl, hr3, hc3⟩)
    | (go_at_call 24; refine HR1.mono ?_; rintro e w2 ⟨rfl, hd2, hc2⟩; have x1 := Hx.out _ hc2))
  go_ret
  exact ⟨rfl, D1, (HP1.out.two (hd2.sub (fun b _ hb => .inl hb)) hc2 hr3 hc3).from Hb1.out, HDD.out.1, HDD.out.2⟩
set_option maxHeartbeats 4000000 in
theorem one_crash (lo : Nat) (Fd Fx B : Nat → Prop) (p q m : Nat) (D : DK) (d : DoV) (w : World) (h : Prs lo Fd Fx B w p q D) (hD : Dok m D) (hm : m ≤ 800) (hk : d.kind = 5) (hb : NumsD lo w .u8 d.A d.x) (hx : d.x.length ≤ 100) (hy : Byts d.x) :
    Calls Try.prog 12 #[.pointer (some ⟨p, 0, none⟩), .pointer (some ⟨q, 0, none⟩), .agg d.cells.toArray] w fun e w' => e = .returned (.bool true) ∧ OneP lo Fd Fx B m w w' p q D := by
  obtain ⟨dk, dn, dA, dc, dx⟩ := d
  dsimp only at hk hb hx hy
  subst hk
  obtain ⟨W1, hW1, hBk, hb1⟩ := do_world ⟨5, dn, dA, dc, dx⟩ w
  have h1 := h.next hb1
  have hbx1 := hb.stay (hb1.mono h.low)
  have x0 := hBk.cell (i := 0) rfl
  have x2 := hBk.cell (i := 2) rfl
  obtain ⟨D1, hD1⟩ : ∃ D1, crashD D dx = D1 := ⟨_, rfl⟩
  have hin := h1.inn
  have hl47 : dx.length ≤ 9223372036854775807 := by omega
  have HR1 := dcrash_any Fd p m D dA dc dx W1 h1.ds hD (by omega) hl47 hy (doA_low hbx1 h1.low (fun b hb => (hin b (.inl hb)).1))
  rw [hD1] at HR1
  have HW := hid hW1
  have HP1 := hid h1
  have Hb1 := hid hb1
  have HDD : Hid (Dok (m + 1) D1 ∧ D1.K.length = D.K.length) := hid (by rw [← hD1]; exact ⟨hD.crash dx, crash_len D dx⟩)
  have HR2 : Hid (∀ ww, Chg Fd W1 ww → Calls Try.prog 30 #[.pointer (some ⟨q, 0, none⟩), .slice dA dx.length dc] ww fun e w' => e = .returned (.tuple #[]) ∧ RSn Fx B ww w' q D1 ∧ Chg Fx ww w') := hid (fun ww hw => by
    have hbw : NumsD lo ww .u8 dA dx := hbx1.stay (hw.below h1.low (fun b hb => (hin b (.inl hb)).1))
    have := rcrash_any Fx B q m D dA dc dx ww (h1.mid hw) hD (by omega) hl47 hy (doA_low hbw (Nat.le_trans h1.low hw.size) (fun b hb => (hin b (.inr (.inl hb))).1))
    rwa [hD1] at this)
  have Hx : Hid (∀ ww, Chg Fd W1 ww → ww.cell? ⟨w.heap.size, 2, none⟩ = some (.slice dA dx.length dc)) := hid (fun ww hw => (hBk.chg hw (fun e => by have := (h.inn _ (.inl e)).2; omega)).cell (i := 2) rfl)
  obtain ⟨dl, hdl⟩ : ∃ dl, dx.length = dl := ⟨_, rfl⟩
  unfold DoV.cells at x2 ⊢
  dsimp only at x2 ⊢
  rw [hdl] at HW HR1 HR2 Hx x2 ⊢
  clear hW1 hBk hb1 h1 h hD hdl hD1 hb hx hy hbx1 hin hl47
  go_enter Try.func12, Try.ntmps12
  go_upto_region 1 with (fail)
  rw [HW.out]
  clear HW
  go_wp2_with (first
    | (go_at_call 30; refine (HR2.out _ hc2).mono ?_; rintro e w3 ⟨rfl, hr3, hc3⟩)
    | (go_at_call 18; refine HR1.mono ?_; rintro e w2 ⟨rfl, hd2, hc2⟩; have x2 := Hx.out _ hc2))
  go_ret
  exact ⟨rfl, D1, (HP1.out.two hd2 hc2 hr3 hc3).from Hb1.out, HDD.out.1, HDD.out.2⟩
set_option maxHeartbeats 4000000 in
theorem one_none (lo : Nat) (Fd Fx B : Nat → Prop) (p q m : Nat) (D : DK) (d : DoV) (w : World) (h : Prs lo Fd Fx B w p q D) (hD : Dok m D) (hk : d.kind ≠ 1 ∧ d.kind ≠ 2 ∧ d.kind ≠ 3 ∧ d.kind ≠ 4 ∧ d.kind ≠ 5) :
    Calls Try.prog 12 #[.pointer (some ⟨p, 0, none⟩), .pointer (some ⟨q, 0, none⟩), .agg d.cells.toArray] w fun e w' => e = .returned (.bool true) ∧ OneP lo Fd Fx B m w w' p q D := by
  obtain ⟨dk, dn, dA, dc, dx⟩ := d
  dsimp only at hk
  obtain ⟨W1, hW1, hBk, hb1⟩ := do_world ⟨dk, dn, dA, dc, dx⟩ w
  have x0 := hBk.cell (i := 0) rfl
  have e1 : (dk == 1) = false := beq_false_of_ne hk.1
  have e2 : (dk == 2) = false := beq_false_of_ne hk.2.1
  have e3 : (dk == 3) = false := beq_false_of_ne hk.2.2.1
  have e4 : (dk == 4) = false := beq_false_of_ne hk.2.2.2.1
  have e5 : (dk == 5) = false := beq_false_of_ne hk.2.2.2.2
  have HW := hid hW1
  have HP := hid h
  have Hb1 := hid hb1
  have HDk := hid hD
  obtain ⟨dl, hdl⟩ : ∃ dl, dx.length = dl := ⟨_, rfl⟩
  unfold DoV.cells
  dsimp only
  rw [hdl] at HW ⊢
  clear hW1 hBk hb1 h hD hdl hk
  go_enter Try.func12, Try.ntmps12
  go_upto_region 1 with (fail)
  rw [HW.out]
  clear HW
  go_wp2
  go_ret
  exact ⟨rfl, D, HP.out.stay Hb1.out, HDk.out.more (Nat.le_succ m), rfl⟩
theorem one_any (lo : Nat) (Fd Fx B : Nat → Prop) (p q m : Nat) (D : DK) (d : DoV) (w : World) (h : Prs lo Fd Fx B w p q D) (hD : Dok m D) (hm : m ≤ 800) (hn : (Lit.int .i64 d.num).wf = true) (hb : NumsD lo w .u8 d.A d.x) (hx : d.x.length ≤ 100) (hy : Byts d.x) :
    Calls Try.prog 12 #[.pointer (some ⟨p, 0, none⟩), .pointer (some ⟨q, 0, none⟩), .agg d.cells.toArray] w fun e w' => e = .returned (.bool true) ∧ OneP lo Fd Fx B m w w' p q D := by
  by_cases h1 : d.kind = 1
  · exact one_write lo Fd Fx B p q m D d w h hD hm h1 hb
  · by_cases h2 : d.kind = 2
    · exact one_read lo Fd Fx B p q m D d w h hD hm h2
    · by_cases h3 : d.kind = 3
      · exact one_flush lo Fd Fx B p q m D d w h hD hm h3
      · by_cases h4 : d.kind = 4
        · exact one_fuse lo Fd Fx B p q m D d w h hD h4 hn
        · by_cases h5 : d.kind = 5
          · exact one_crash lo Fd Fx B p q m D d w h hD hm h5 hb hx hy
          · exact one_none lo Fd Fx B p q m D d w h hD ⟨h1, h2, h3, h4, h5⟩
end Go.Proofs.Ytdfalneiapeegaa
