/- Draw on the reference's store. -/
import Derived.Test.YtechhbljjnffaaaTRPut
namespace Go.Proofs.Ytechhbljjnffaaa
open Go Go.RowKit Go.Maps

set_option maxRecDepth 50000 in
set_option maxHeartbeats 1000000 in
theorem rdraw_bad (B : Nat) (F : Nat → Prop) (q : Nat) (L : List T3) (X : List (List Int)) (s : Int) (w : World) (h : RS B F w q L X) (hs : ¬ (1 ≤ s ∧ s ≤ 4)) :
    Calls Try.prog 20 #[.pointer (some ⟨q, 0, none⟩), .int .i64 s] w fun e w' => ∃ n er L', e = .returned (.tuple #[.int .i64 n, .int .i64 er]) ∧ DrawR L s n er L' ∧ RS B (Grw F w w') w' q L' X ∧ Chg F w w' := by
  have HS := hid hs
  have hr : RS B (Grw F w w) w q L X := h.sub (fun b _ hb => .inl hb) (fun b hb => by
    obtain ⟨AL, cL, AX, cX, ps, hT, hF, hFB, hBw⟩ := h
    rcases hb with h1 | h1
    · exact hFB b h1
    · omega)
  by_cases h1 : 1 ≤ s
  · have e1 : decide (s < 1) = false := decide_eq_false (by omega)
    have e2 : decide (4 < s) = true := decide_eq_true (by omega)
    clear hs h1
    go_enter Try.func20, Try.ntmps20
    go_wp2
    go_ret2
    exact ⟨0, 2, L, rfl, .inl ⟨HS.out, rfl, rfl, rfl⟩, hr, Chg.refl F w⟩
  · have e1 : decide (s < 1) = true := decide_eq_true (by omega)
    clear hs h1
    go_enter Try.func20, Try.ntmps20
    go_wp2
    go_ret2
    exact ⟨0, 2, L, rfl, .inl ⟨HS.out, rfl, rfl, rfl⟩, hr, Chg.refl F w⟩
/-- What the loop has met. -/
def DrawI (L : List T3) (s v : Int) (k : Nat) : Prop := (∀ (j : Nat) (b : Int), j < k → L[j]? = some (1, s, b) → b < v) ∧ (v = 0 ∨ ∃ i : Nat, L[i]? = some (1, s, v - 1)) ∧ 0 ≤ v ∧ v ≤ 4611686018427387904
set_option maxRecDepth 50000 in
theorem DrawI.skip {L : List T3} {s v : Int} {k : Nat} {u : T3} (h : DrawI L s v k) (hu : L[k]? = some u) (hn : ¬ (u.1 = 1 ∧ u.2.1 = s ∧ v ≤ u.2.2)) : DrawI L s v (k + 1) :=
  ⟨fun j b hj hb => by
    by_cases e : j = k
    · subst e
      rw [hu] at hb; injection hb with hb
      subst hb
      refine Int.not_le.1 fun h => hn ⟨rfl, rfl, h⟩
    · exact h.1 j b (by omega) hb, h.2⟩
set_option maxRecDepth 50000 in
theorem DrawI.take {L : List T3} {s v b : Int} {k : Nat} (h : DrawI L s v k) (hu : L[k]? = some (1, s, b)) (h1 : v ≤ b) (h2 : b < 4611686018427387904) : DrawI L s (b + 1) (k + 1) :=
  ⟨fun j c hj hc => by
    by_cases e : j = k
    · subst e
      rw [hu] at hc; injection hc with hc
      injection hc with _ hc; injection hc with _ hc
      omega
    · have := h.1 j c (by omega) hc; omega, .inr ⟨k, by rw [hu, Int.add_sub_cancel]⟩, by have := h.2.2.1; omega, by omega⟩
set_option maxRecDepth 50000 in
set_option maxHeartbeats 4000000 in
theorem rdraw_ok (B : Nat) (F : Nat → Prop) (q : Nat) (L : List T3) (X : List (List Int)) (s : Int) (w : World) (h : RS B F w q L X) (hL : L.length ≤ 39) (hs : 1 ≤ s ∧ s ≤ 4) :
    Calls Try.prog 20 #[.pointer (some ⟨q, 0, none⟩), .int .i64 s] w fun e w' => ∃ n er L', e = .returned (.tuple #[.int .i64 n, .int .i64 er]) ∧ DrawR L s n er L' ∧ RS B (Grw F w w') w' q L' X ∧ Chg F w w' := by
  have hr0 := h
  obtain ⟨AL, cL, AX, cX, ps, hT, hF, hFB, hBw⟩ := h
  have hGB : ∀ w', w.heap.size ≤ w'.heap.size → ∀ b, Grw F w w' b → B ≤ b := fun w' hw b hb => by
    rcases hb with h | h
    · exact hFB b h
    · omega
  have c0 : w.cell? ⟨q, 0, none⟩ = some (.slice AL L.length cL) := hT.blk.cell (i := 0) rfl
  have hA := trow_of hT.rL
  have e1 : decide (s < 1) = false := decide_eq_false (by omega)
  have e2 : decide (4 < s) = false := decide_eq_false (by omega)
  have HS := hid hs
  have HL := hid hL
  have HR := hid (hr0.sub (G := Grw F w w) (fun b _ hb => .inl hb) (hGB w (Nat.le_refl _)))
  have hL2 : (L.length : Int) ≤ 39 := by omega
  clear hs hL hr0
  go_enter Try.func20, Try.ntmps20
  go_wp2
  clear e1 e2
  go_loopw [6, 7] (fun b v wr => ∃ (k : Nat) (x : Int), k ≤ L.length ∧ b = .int .i64 x ∧ v = .int .i64 k ∧ Hid (DrawI L s x k) ∧ Hid (w = wr)) (fun _ v _ => L.length - (intOf v).toNat)
  case atStart => exact ⟨0, 0, Nat.zero_le _, rfl, rfl, hid ⟨fun j b hj => absurd hj (Nat.not_lt_zero _), .inl rfl, by decide, by decide⟩, hid rfl⟩
  case round =>
    obtain ⟨k, x, hk, rfl, rfl, HI, HWR⟩ := hrel
    obtain rfl := HWR.out
    clear HWR
    by_cases hlt : k < L.length
    · obtain ⟨u, hu⟩ : ∃ u, L[k]? = some u := ⟨L[k], by simp [hlt]⟩
      obtain ⟨g, rfl, hg, hcell⟩ := hA (by omega)
      obtain ⟨x0, x1, x2⟩ := hcell k u hu
      have hkl : (k : Int) < L.length := by omega
      have hk0 : (0 : Int) ≤ k := by omega
      have hm : k + 1 ≤ L.length := by omega
      have HU := hid hu
      have hx0 := HI.out.2.2
      have HX0 := hid hx0
      clear hcell hu hlt hx0
      by_cases y0 : u.1 = 1
      · have z0 : (u.1 == 1) = true := by rw [y0]; rfl
        by_cases y1 : u.2.1 = s
        · have z1 : (u.2.1 == s) = true := by rw [y1]; exact beq_self_eq_true s
          by_cases y2 : x ≤ u.2.2
          · have z2 : decide (x ≤ u.2.2) = true := decide_eq_true y2
            obtain ⟨b, hb⟩ : ∃ b, u.2.2 = b := ⟨_, rfl⟩
            have hU2 : L[k]? = some (1, s, b) := by rw [HU.out, ← y0, ← y1, ← hb]
            rw [hb] at x2 y2 z2
            by_cases y3 : 4611686018427387904 ≤ b
            · have z3 : decide (4611686018427387904 ≤ b) = true := decide_eq_true y3
              have HD : Hid (∃ (i : Nat) (b : Int), L[i]? = some (1, s, b) ∧ 4611686018427387904 ≤ b) := hid ⟨k, b, hU2, y3⟩
              clear y0 y1 y2 y3 hb hU2 hk hm
              go_wp2
              go_ret2
              exact ⟨0, 3, L, rfl, .inr (.inl ⟨HS.out, HD.out, rfl, rfl, rfl⟩), HR.out, Chg.refl F w⟩
            · have z3 : decide (4611686018427387904 ≤ b) = false := decide_eq_false y3
              have hw3 : IntKind.i64.wrap (b + 1) = b + 1 := IntWalk.i64_in _ ⟨by have := HX0.out; omega, by omega⟩
              have HD := hid (HI.out.take hU2 y2 (by omega))
              clear y0 y1 y2 y3 hb hU2 hk
              go_wp2
              go_roundw
              case rel => exact ⟨k + 1, b + 1, hm, rfl, by go_num, HD, hid trivial⟩
              case measure => simp [intOf]; omega
          · have z2 : decide (x ≤ u.2.2) = false := decide_eq_false y2
            have HD := hid (HI.out.skip HU.out (fun h => y2 h.2.2))
            clear y0 y1 y2 hk
            go_wp2
            go_roundw
            case rel => exact ⟨k + 1, x, hm, rfl, by go_num, HD, hid trivial⟩
            case measure => simp [intOf]; omega
        · have z1 : (u.2.1 == s) = false := beq_false_of_ne y1
          have HD := hid (HI.out.skip HU.out (fun h => y1 h.2.1))
          clear y0 y1 hk
          go_wp2
          go_roundw
          case rel => exact ⟨k + 1, x, hm, rfl, by go_num, HD, hid trivial⟩
          case measure => simp [intOf]; omega
      · have z0 : (u.1 == 1) = false := beq_false_of_ne y0
        have HD := hid (HI.out.skip HU.out (fun h => y0 h.1))
        clear y0 hk
        go_wp2
        go_roundw
        case rel => exact ⟨k + 1, x, hm, rfl, by go_num, HD, hid trivial⟩
        case measure => simp [intOf]; omega
    · have hge : ¬ (k : Int) < L.length := by omega
      have e : k = L.length := by omega
      subst e
      obtain ⟨g1, g2, g3⟩ := HI.out
      have HD : Hid ((∀ (i : Nat) (b : Int), L[i]? = some (1, s, b) → b < x) ∧ (x = 0 ∨ ∃ i : Nat, L[i]? = some (1, s, x - 1)) ∧ 0 ≤ x ∧ x ≤ 4611686018427387904) := hid ⟨fun i b hb => g1 i b (get_lt hb) hb, g2, g3⟩
      have ht : Twf (1, s, x) := ⟨by show (Lit.int .i64 1).wf = true; decide, by show (Lit.int .i64 s).wf = true; exact WalkArith.wf_i64 (by have := HS.out; omega), by show (Lit.int .i64 x).wf = true; exact WalkArith.wf_i64 (by omega)⟩
      have hn0 := below_new w (.cells #[.int .i64 1, .int .i64 s, .int .i64 x] 33)
      have hT6 := hT.next hn0 hBw
      have HR6 : Rw (w.alloc (.cells #[.int .i64 1, .int .i64 s, .int .i64 x] 33)) w.heap.size 0 (tc (1, s, x)) := Rw.new w (tc (1, s, x)) 33
      obtain ⟨W6, hW6⟩ : ∃ W6, w.alloc (.cells #[.int .i64 1, .int .i64 s, .int .i64 x] 33) = W6 := ⟨_, rfl⟩
      rw [hW6] at hn0 hT6 HR6
      have HW6 := hid hW6
      have hL1000 : L.length ≤ 1000 := by have := HL.out; omega
      have hB6 : B ≤ W6.heap.size := Nat.le_trans hBw hn0.size
      clear g1 g2 g3 hk hlt hA HI hW6
      go_upto_region 12 with (at_builtin; rw [HW6.out]; refine wpList_app1 rfl (.tmp 78) (.tmp 82) 28 33 rfl Try.underlying28 infTb rfl (by decide) (by decide) hT6.rL rfl w.heap.size rfl HR6 rfl (tc_one _) hL1000 ?_; rintro u W7 ⟨A7, c7, rfl, hl7, hm7, hr7, hg7, ho7⟩; obtain ⟨hp, hT8, hC8, hf8⟩ := rt_app hT6 (fun b hb => hFB b (hF b hb)) hB6 hr7 hg7 ho7; have x0 := hp.cell (i := 0) rfl; have y0 := hp.free 0)
      obtain ⟨W8, hW8⟩ : ∃ W8, W7.setCell ⟨q, 0, none⟩ (.slice A7 (L.length + 1) c7) = W8 := ⟨_, rfl⟩
      rw [hW8] at hT8 hC8 ⊢
      have hl : (L ++ [(1, s, x)]).length = L.length + 1 := by simp
      have c08 : W8.cell? ⟨q, 0, none⟩ = some (.slice A7 (L.length + 1) c7) := by have := hT8.blk.cell (i := 0) rfl; rw [hl] at this; exact this
      have hC9 : Chg F w W8 := (Chg.of hn0 F).trans hC8 (fun b _ hb => hF b hb)
      have hwl : IntKind.i64.wrap ((L.length : Int) + 1 - 1) = L.length := by rw [show (L.length : Int) + 1 - 1 = L.length by omega]; exact IntWalk.i64_in _ ⟨by omega, by omega⟩
      clear hW8 hp x0 y0 hC8 hr7 hg7 ho7 hT6 HR6 c0 hT
      go_wp2
      go_ret2
      refine ⟨L.length, 0, ?_, L ++ [(1, s, x)], .inr (.inr ⟨HS.out, x, HD.out.1, HD.out.2.1, HD.out.2.2.1, HD.out.2.2.2, rfl, rfl, rfl⟩), ⟨_, _, _, _, _, hT8, fun b hb => ?_, hGB W8 hC9.size, Nat.le_trans hBw hC9.size⟩, hC9⟩
      · first | rfl | (simp; omega)
      · rcases hf8 b hb with h1 | h1
        · exact .inl (hF b h1)
        · exact .inr ⟨Nat.le_trans hn0.size h1, hT8.lt b hb⟩
set_option maxRecDepth 50000 in
theorem rdraw_any (B : Nat) (F : Nat → Prop) (q : Nat) (L : List T3) (X : List (List Int)) (s : Int) (w : World) (h : RS B F w q L X) (hL : L.length ≤ 39) :
    Calls Try.prog 20 #[.pointer (some ⟨q, 0, none⟩), .int .i64 s] w fun e w' => ∃ n er L', e = .returned (.tuple #[.int .i64 n, .int .i64 er]) ∧ DrawR L s n er L' ∧ RS B (Grw F w w') w' q L' X ∧ Chg F w w' := by
  by_cases hs : 1 ≤ s ∧ s ≤ 4
  · exact rdraw_ok B F q L X s w h hL hs
  · exact rdraw_bad B F q L X s w h hs
end Go.Proofs.Ytechhbljjnffaaa
