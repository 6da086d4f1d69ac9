/- The reference's walk: which terms are known. -/
import Derived.Test.YtboofkmbjmnpeaaDRKnownM
namespace Go.Proofs.Ytboofkmbjmnpeaa
open Go Go.RowKit Go.Maps

theorem bat_repl (n i : Nat) : bat (List.replicate n false) i = false := by
  unfold bat
  simp only [List.getD_eq_getElem?_getD, List.getElem?_replicate]
  split <;> rfl
theorem KnI.zero (L : List T3) (gs : List Int) (j : Nat) (hs : List Bool) (hl : hs.length = L.length) (h1 : ∀ i : Nat, bat hs i = true ↔ (i : Int) ∈ gs.take j) (hj : gs.length ≤ j) : KnI L gs hs := by
  have e : gs.take j = gs := List.take_of_length_le hj
  rw [e] at h1
  exact ⟨hl, fun i hi => (h1 i).2 hi, fun k' c' hc i hi => hc.giv i ((h1 i).1 hi)⟩
set_option maxRecDepth 50000 in
set_option maxHeartbeats 8000000 in
theorem rknown_any (A : Option Addr) (c : Nat) (L : List T3) (B : Option Addr) (n c2 : Nat) (gs : List Int) (w : World) (hW : WF L) (hA : TRow w A L) (hB : Nums w .i64 B gs) (hn : n = gs.length) (hg : ∀ x ∈ gs, 0 ≤ x ∧ x < L.length) (hL : L.length ≤ 100) (hgl : gs.length ≤ 200) :
    Calls Try.prog 12 #[.slice A L.length c, .slice B n c2] w fun e w' => ∃ b hs, e = .returned (.slice (some ⟨b, 0, none⟩) L.length L.length) ∧ hs.length = L.length ∧ (∀ ms, MdI L hs L.length ms → Least L (Gv gs) (bat hs) (bat ms)) ∧ BB w' b hs ∧ w.heap.size ≤ b ∧ Below w.heap.size w w' := by
  have hmk := makeB L.length (by omega) w
  obtain ⟨W, hWm⟩ : ∃ W, w.alloc (.cells (bools (List.replicate L.length false)).toArray 4) = W := ⟨_, rfl⟩
  have hbW : Below w.heap.size w W := by rw [← hWm]; exact below_new w _
  have hB0 : BB W w.heap.size (List.replicate L.length false) := by rw [← hWm]; exact Blk.new w 4 _
  rw [hWm] at hmk
  have hL2 : (L.length : Int) ≤ 100 := by omega
  have hn1 : (n : Int) ≤ 200 := by omega
  have HN := hid hn
  have HG := hid hg
  have HL := hid hL
  clear hWm hn hg hL hgl
  go_enter Try.func12, Try.ntmps12
  go_upto_region 2 with (fail)
  clear hmk
  go_wp2
  go_loopw [6] (fun v wr => ∃ (j : Nat) (hs : List Bool), j ≤ n ∧ v = .int .i64 j ∧ Hid (hs.length = L.length ∧ ∀ i : Nat, bat hs i = true ↔ (i : Int) ∈ gs.take j) ∧ BB wr w.heap.size hs ∧ Below w.heap.size w wr) (fun v _ => n - (intOf v).toNat)
  case atStart => exact ⟨0, _, Nat.zero_le _, rfl, hid ⟨by simp, fun i => by rw [bat_repl]; simp⟩, hB0, hbW⟩
  case round =>
    obtain ⟨j, hs, hj, rfl, HI, hB1, hb⟩ := hrel
    clear hB0 hbW
    by_cases hlt : j < n
    · have hlt' : (j : Int) < n := by omega
      have j0 : (0 : Int) ≤ j := by omega
      have j1 : j + 1 ≤ n := by omega
      obtain ⟨b, off, x, rfl, hbl, hc, hx⟩ := hB.get (i := j) (by rw [← HN.out]; exact hlt)
      obtain ⟨s0, s1⟩ := HG.out x (List.mem_of_getElem? hx.out)
      obtain ⟨m, rfl⟩ : ∃ m : Nat, x = m := ⟨x.toNat, by omega⟩
      have y : wr.cell? ⟨b, off + j, none⟩ = some (.int .i64 (m : Int)) := (hb.cell (p := ⟨b, off + j, none⟩) hbl).trans hc
      have hml : m < hs.length := by rw [HI.out.1]; omega
      have t0 := hB1.cell hml
      have f0 := Blk.free hB1 m
      have HY : Hid ((hs.set m true).length = L.length ∧ ∀ i : Nat, bat (hs.set m true) i = true ↔ (i : Int) ∈ gs.take (j + 1)) := hid ⟨by rw [List.length_set]; exact HI.out.1, fun i => by
        rw [bat_set hml, List.take_add_one, hx.out]
        simp only [Option.toList_some, List.mem_append, List.mem_singleton]
        by_cases e : i = m
        · simp [e]
        · rw [if_neg e, HI.out.2 i]
          constructor
          · exact .inl
          · rintro (h | h)
            · exact h
            · omega⟩
      have hY2 := hB1.set m true
      have hY3 : Below w.heap.size w (wr.setCell ⟨w.heap.size, m, none⟩ (.bool true)) := hb.setCell (Nat.le_refl _) _
      have HYY := hid (And.intro hY2 hY3)
      clear hc hx hY2 hY3 hB1 hml HI hlt
      go_wp2
      go_roundw
      case rel => exact ⟨j + 1, _, j1, by go_num, HY, HYY.out.1, HYY.out.2⟩
      case measure => simp [intOf]; omega
    · obtain rfl : n = j := by omega
      have HK := hid (KnI.zero L gs n hs HI.out.1 HI.out.2 (by rw [HN.out]; exact Nat.le_refl _))
      clear HI hlt hB HG HN
      go_wp2
      clear hj
      go_loopg [] (cntF hs + 1) (fun g wy => ∃ (hs : List Bool), Hid (KnI L gs hs ∧ cntF hs < g) ∧ BB wy w.heap.size hs ∧ Below w.heap.size w wy)
      case atStart => exact ⟨hs, hid ⟨HK.out, Nat.lt_succ_self _⟩, hB1, hb⟩
      case round =>
        clear HK hB1 hb
        obtain ⟨hs, HK, hB1, hb⟩ := hrel
        have hA2 : TRow wr A L := fun hp => by
          obtain ⟨g, e, hg, hcell⟩ := hA hp
          refine ⟨g, e, Nat.lt_of_lt_of_le hg hb.size, fun i t hi => ?_⟩
          obtain ⟨x0, x1, x2⟩ := hcell i t hi
          exact ⟨(hb.cell (p := ⟨g, i * 3, none⟩) hg).trans x0, (hb.cell (p := ⟨g, i * 3 + 1, none⟩) hg).trans x1, (hb.cell (p := ⟨g, i * 3 + 2, none⟩) hg).trans x2⟩
        have HM := hid (rmade_any A c w.heap.size L.length L hs wr hW hA2 hB1 HK.out.1.len HL.out)
        go_upto_region 7 with (go_at_call 13; refine HM.out.mono ?_; rintro e w1 ⟨mb, ms, rfl, hMd, hBm, hmb, hb1⟩)
        have HMd := hid hMd
        have hBh := Blk.next hB1 hb1
        have hb2 := hb.trans (Below.mono hb1 hb.size)
        clear hMd HM hB1 hb hA2
        go_wp2
        go_loopw [8, 9] (fun u v wz => ∃ (j : Nat) (more : Int), j ≤ L.length ∧ u = .int .i64 more ∧ v = .int .i64 j ∧ Hid (w1 = wz) ∧ Hid (MoI L hs ms j more)) (fun _ v _ => L.length - (intOf v).toNat)
        case atStart => exact ⟨0, -1, Nat.zero_le _, rfl, rfl, by first | exact hid rfl | exact hid trivial, hid (.inl ⟨rfl, fun i t hi => absurd hi (Nat.not_lt_zero _)⟩)⟩
        case round =>
          obtain ⟨j, more, hj, rfl, rfl, HWW, HM⟩ := hrel
          obtain rfl := HWW.out
          clear HWW
          by_cases hlt : j < L.length
          · obtain ⟨⟨k, a, b⟩, ht⟩ : ∃ t, L[j]? = some t := ⟨L[j], by simp [hlt]⟩
            have hlt' : (j : Int) < L.length := by omega
            have j0 : (0 : Int) ≤ j := by omega
            have j1 : j + 1 ≤ L.length := by omega
            obtain ⟨g, rfl, hg, hcell⟩ := hA (by omega)
            have hcell1 : ∀ i t, L[i]? = some t → w1.cell? ⟨g, i * 3, none⟩ = some (.int .i64 t.1) ∧ w1.cell? ⟨g, i * 3 + 1, none⟩ = some (.int .i64 t.2.1) ∧ w1.cell? ⟨g, i * 3 + 2, none⟩ = some (.int .i64 t.2.2) := fun i t hi => by
              obtain ⟨x0, x1, x2⟩ := hcell i t hi
              exact ⟨(hb2.cell (p := ⟨g, i * 3, none⟩) hg).trans x0, (hb2.cell (p := ⟨g, i * 3 + 1, none⟩) hg).trans x1, (hb2.cell (p := ⟨g, i * 3 + 2, none⟩) hg).trans x2⟩
            obtain ⟨x0, x1, x2⟩ := hcell1 j _ ht
            dsimp only at x0 x1 x2
            have hhs : ∀ i, i < L.length → w1.cell? ⟨w.heap.size, i, none⟩ = some (.bool (bat hs i)) := fun i hi => BB.cell hBh (by rw [HK.out.1.len]; exact hi)
            have hms : ∀ i, i < L.length → w1.cell? ⟨mb, i, none⟩ = some (.bool (bat ms i)) := fun i hi => BB.cell hBm (by rw [HMd.out.len]; exact hi)
            have z := hhs j hlt
            have hwj := hW j _ ht
            have HT := hid ht
            cases hh : bat hs j with
            | false =>
              rw [hh] at z
              have HS := hid (HM.out.skip ht (.inl hh))
              clear hcell hcell1 hhs hms hwj ht hh x0 x1 x2 HM
              go_wp2
              go_roundw
              case rel => exact ⟨j + 1, more, j1, rfl, by go_num, by first | exact hid rfl | exact hid trivial, HS⟩
              case measure => simp [intOf]; omega
            | true =>
              rw [hh] at z
              by_cases h458 : k = 4 ∨ k = 5 ∨ k = 8
              · have htwo : isTwo k = true := by
                  simp only [isTwo, Bool.or_eq_true, beq_iff_eq]; omega
                obtain ⟨h1, h2, h3, h4, h5⟩ : 0 ≤ a ∧ a < j ∧ 0 ≤ b ∧ b < j ∧ (k = 4 → ∃ u, L[a.toNat]? = some u ∧ 0 ≤ u.2.1 ∧ u.2.1 < a) := by
                  rcases hwj with h | h | ⟨h, _⟩ | ⟨_, h⟩
                  · dsimp only at h; omega
                  · dsimp only at h; omega
                  · simp only [isOne, Bool.or_eq_true, beq_iff_eq] at h; omega
                  · exact h
                obtain ⟨n, rfl⟩ : ∃ n : Nat, a = n := ⟨a.toNat, by omega⟩
                obtain ⟨m, rfl⟩ : ∃ n : Nat, b = n := ⟨b.toNat, by omega⟩
                have hnl : (n : Int) < L.length := by omega
                have hml : (m : Int) < L.length := by omega
                have hm0 : (0 : Int) ≤ m := by omega
                have zb := hhs m (by omega)
                -- what the term's way of opening says
                have fin : ∀ o, shB (k, (n : Int), (m : Int)) (keyOf3 L (k, (n : Int), (m : Int))) (bat ms) = o → (o = false → MoI L hs ms (j + 1) more) ∧ (o = true → bat hs m = true → MoI L hs ms (j + 1) more) ∧ (o = true → bat hs m = false → MoI L hs ms (j + 1) (m : Int)) := fun o ho =>
                  ⟨fun e => HM.out.skip ht (.inr (.inl (ho.trans e))), fun _ e => HM.out.skip ht (.inr (.inr (by rw [Int.toNat_natCast]; exact e))), fun e e2 => MoI.take ht hh (ho.trans e) (by rw [Int.toNat_natCast]; exact e2) ⟨hm0, hml⟩⟩
                rcases h458 with rfl | rfl | rfl
                · obtain ⟨⟨uk, ua, ub⟩, hu, u0, u1⟩ := h5 rfl
                  rw [Int.toNat_natCast] at hu
                  dsimp only at u0 u1
                  obtain ⟨q, rfl⟩ : ∃ q : Nat, ua = q := ⟨ua.toNat, by omega⟩
                  obtain ⟨_, y1, _⟩ := hcell1 n _ hu
                  dsimp only at y1
                  have zq := hms q (by omega)
                  have hql : (q : Int) < L.length := by omega
                  have hsh : shB (4, (n : Int), (m : Int)) (keyOf3 L (4, (n : Int), (m : Int))) (bat ms) = bat ms q := by
                    simp [shB, keyOf3, hu]
                  obtain ⟨f1, f2, f3⟩ := fin _ hsh
                  have HF := hid (And.intro f1 (And.intro f2 f3))
                  obtain ⟨o, ho⟩ : ∃ o, bat ms q = o := ⟨_, rfl⟩
                  obtain ⟨o2, ho2⟩ : ∃ o, bat hs m = o := ⟨_, rfl⟩
                  rw [ho] at zq HF
                  rw [ho2] at zb HF
                  clear hcell hcell1 hhs hms hwj ht hh HM fin f1 f2 f3 hsh ho ho2 hu h5 h1 h2 h3 h4 u0 u1 htwo
                  cases o
                  · have HS := hid (HF.out.1 rfl)
                    clear HF zb
                    go_wp2
                    go_roundw
                    case rel => exact ⟨j + 1, more, j1, rfl, by go_num, by first | exact hid rfl | exact hid trivial, HS⟩
                    case measure => simp [intOf]; omega
                  · cases o2
                    · have HS := hid (HF.out.2.2 rfl rfl)
                      clear HF
                      go_wp2
                      go_roundw
                      case rel => exact ⟨j + 1, _, j1, rfl, by go_num, by first | exact hid rfl | exact hid trivial, HS⟩
                      case measure => simp [intOf]; omega
                    · have HS := hid (HF.out.2.1 rfl rfl)
                      clear HF
                      go_wp2
                      go_roundw
                      case rel => exact ⟨j + 1, more, j1, rfl, by go_num, by first | exact hid rfl | exact hid trivial, HS⟩
                      case measure => simp [intOf]; omega
                · have zq := hms n (by omega)
                  have hsh : shB (5, (n : Int), (m : Int)) (keyOf3 L (5, (n : Int), (m : Int))) (bat ms) = bat ms n := by
                    simp [shB, keyOf3]
                  obtain ⟨f1, f2, f3⟩ := fin _ hsh
                  have HF := hid (And.intro f1 (And.intro f2 f3))
                  obtain ⟨o, ho⟩ : ∃ o, bat ms n = o := ⟨_, rfl⟩
                  obtain ⟨o2, ho2⟩ : ∃ o, bat hs m = o := ⟨_, rfl⟩
                  rw [ho] at zq HF
                  rw [ho2] at zb HF
                  clear hcell hcell1 hhs hms hwj ht hh HM fin f1 f2 f3 hsh ho ho2 h5 h1 h2 h3 h4 htwo
                  cases o
                  · have HS := hid (HF.out.1 rfl)
                    clear HF zb
                    go_wp2
                    go_roundw
                    case rel => exact ⟨j + 1, more, j1, rfl, by go_num, by first | exact hid rfl | exact hid trivial, HS⟩
                    case measure => simp [intOf]; omega
                  · cases o2
                    · have HS := hid (HF.out.2.2 rfl rfl)
                      clear HF
                      go_wp2
                      go_roundw
                      case rel => exact ⟨j + 1, _, j1, rfl, by go_num, by first | exact hid rfl | exact hid trivial, HS⟩
                      case measure => simp [intOf]; omega
                    · have HS := hid (HF.out.2.1 rfl rfl)
                      clear HF
                      go_wp2
                      go_roundw
                      case rel => exact ⟨j + 1, more, j1, rfl, by go_num, by first | exact hid rfl | exact hid trivial, HS⟩
                      case measure => simp [intOf]; omega
                · have hsh : shB (8, (n : Int), (m : Int)) (keyOf3 L (8, (n : Int), (m : Int))) (bat ms) = true := by
                    simp [shB]
                  obtain ⟨f1, f2, f3⟩ := fin _ hsh
                  have HF := hid (And.intro f2 f3)
                  obtain ⟨o2, ho2⟩ : ∃ o, bat hs m = o := ⟨_, rfl⟩
                  rw [ho2] at zb HF
                  clear hcell hcell1 hhs hms hwj ht hh HM fin f1 f2 f3 hsh ho2 h5 h1 h2 h3 h4 htwo
                  cases o2
                  · have HS := hid (HF.out.2 rfl rfl)
                    clear HF
                    go_wp2
                    go_roundw
                    case rel => exact ⟨j + 1, _, j1, rfl, by go_num, by first | exact hid rfl | exact hid trivial, HS⟩
                    case measure => simp [intOf]; omega
                  · have HS := hid (HF.out.1 rfl rfl)
                    clear HF
                    go_wp2
                    go_roundw
                    case rel => exact ⟨j + 1, more, j1, rfl, by go_num, by first | exact hid rfl | exact hid trivial, HS⟩
                    case measure => simp [intOf]; omega
              · have e4 : (k == 4) = false := beq_false_of_ne (by omega)
                have e5 : (k == 5) = false := beq_false_of_ne (by omega)
                have e8 : (k == 8) = false := beq_false_of_ne (by omega)
                have HS := hid (HM.out.skip ht (.inr (.inl (by simp [shB, e4, e5, e8]))))
                clear hcell hcell1 hhs hms hwj ht hh x1 x2 HM h458
                go_wp2
                go_roundw
                case rel => exact ⟨j + 1, more, j1, rfl, by go_num, by first | exact hid rfl | exact hid trivial, HS⟩
                case measure => simp [intOf]; omega
          · obtain rfl : L.length = j := by omega
            by_cases hm : more < 0
            · obtain rfl : more = -1 := by
                rcases HM.out with ⟨h1, _⟩ | ⟨h1, _⟩
                · exact h1
                · omega
              have HD := hid (HK.out.1.done hW HMd.out HM.out)
              have HLn := hid HK.out.1.len
              clear HM hW HMd HK
              go_wp2
              go_ret
              exact ⟨w.heap.size, hs, rfl, HLn.out, HD.out, hBh, Nat.le_refl _, hb2⟩
            · obtain ⟨m, rfl⟩ : ∃ m : Nat, more = m := ⟨more.toNat, by omega⟩
              obtain ⟨h1, h2, h3⟩ := HK.out.1.next hW HMd.out HM.out (by omega)
              rw [Int.toNat_natCast] at h2 h3
              have hm0 : (0 : Int) ≤ m := by omega
              have zb := BB.cell hBh (i := m) (by rw [HK.out.1.len]; omega)
              have fb := Blk.free hBh m
              have H2 := hid h2
              have H3 := hid h3
              have HBS := hid (And.intro (BB.set (show BB w1 w.heap.size hs from hBh) m true) (hb2.setCell (p := ⟨w.heap.size, m, none⟩) (Nat.le_refl _) (.bool true)))
              clear h2 h3 HM
              go_wp2
              go_roundg (cntF hs)
              case measure => exact HK.out.2
              case rel => exact ⟨_, hid ⟨H2.out, H3.out⟩, HBS.out.1, HBS.out.2⟩
end Go.Proofs.Ytboofkmbjmnpeaa
