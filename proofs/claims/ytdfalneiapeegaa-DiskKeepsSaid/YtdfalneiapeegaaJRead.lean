/- What a sector has now, by the document. -/
import Derived.Test.YtdfalneiapeegaaJSmall
namespace Go.Proofs.Ytdfalneiapeegaa
open Go Go.RowKit Go.Maps

theorem NumsS.nil {S : Nat → Prop} {w : World} {k : IntKind} {A : Option Addr} : NumsS S w k A [] := fun h => absurd h (by simp)
theorem pres_back {K : List (List Int)} {W : List (Nat × List Int)} {j N : Nat} {x : Nat × List Int} (h : W[j]? = some x) (hn : N < K.length) : (pres K (W.take (j + 1)))[N]? = if x.1 = N then some x.2 else (pres K (W.take j))[N]? := by
  rw [pres_take h, set_get, pres_length]
  by_cases e : x.1 = N
  · rw [if_pos ⟨e, hn⟩, if_pos e]
  · rw [if_neg (fun h => e h.1), if_neg e]
set_option maxHeartbeats 4000000 in
theorem rat_core (B : Nat → Prop) (q n N : Nat) (AK : Option Addr) (cK : Nat) (AW : Option Addr) (cW : Nat) (ps ws : List Value) (K : List (List Int)) (W : List (Nat × List Int)) (f li : Int) (off : Bool) (s : List Int) (w : World)
    (hT : RT B w q n AK cK AW cW ps ws K W f off li) (hN : N < n) (hWl : W.length ≤ 900) (hn : n ≤ 16384) (hs : Hid ((pres K W)[N]? = some s)) :
    Calls Try.prog 31 #[.pointer (some ⟨q, 0, none⟩), .int .i64 N] w fun e w' => (∃ A c, e = .returned (.slice A 64 c) ∧ NumsS B w' .u8 A s) ∧ Below w.heap.size w w' := by
  have c0 := hT.blk.cell (i := 0) rfl
  have c1 := hT.blk.cell (i := 1) rfl
  obtain ⟨l, hl⟩ : ∃ l, W.length = l := ⟨_, rfl⟩
  have HL := hid hl
  rw [hl] at hWl c1
  have HT := hid hT
  have hN0 : (0 : Int) ≤ N := by omega
  have hN1 : (N : Int) < n := by omega
  have HN := hid hN
  have hw1 : IntKind.i64.wrap ((l : Int) - 1) = (l : Int) - 1 := IntWalk.i64_in _ ⟨by omega, by omega⟩
  clear hT hl hN
  go_enter Try.func31, Try.ntmps31
  go_wp2
  go_loopw [5] (fun v wr => ∃ k : Nat, k ≤ l ∧ v = .int .i64 ((k : Int) - 1) ∧ Hid ((pres K (W.take k))[N]? = some s) ∧ w = wr) (fun v _ => (intOf v + 1).toNat)
  case atStart => exact ⟨l, Nat.le_refl _, rfl, hid (by rw [List.take_of_length_le (by rw [HL.out]; exact Nat.le_refl _)]; exact hs.out), rfl⟩
  case round =>
    obtain ⟨k, hk, rfl, HP, rfl⟩ := hrel
    rcases Nat.eq_zero_or_pos k with rfl | hpos
    · have e : (((0 : Nat) : Int) - 1) = -1 := rfl
      rw [e]
      obtain ⟨gK, A, c, rfl, hc, _, hN⟩ := HT.out.kept (j := N) (s := s) HP.out
      have HNs := hid hN
      clear hN HP e hk
      go_wp2
      go_ret
      exact ⟨⟨A, c, rfl, HNs.out⟩, Below.refl _ _⟩
    · obtain ⟨j, rfl⟩ : ∃ j, k = j + 1 := ⟨k - 1, by omega⟩
      have e : (((j + 1 : Nat) : Int) - 1) = (j : Int) := by omega
      rw [e]
      obtain ⟨x, hx⟩ : ∃ x, W[j]? = some x := ⟨_, List.getElem?_eq_getElem (by rw [HL.out]; omega)⟩
      obtain ⟨xn, xd⟩ := x
      have hP2 := HP.out
      rw [pres_back hx (by rw [HT.out.nK]; exact HN.out)] at hP2
      obtain ⟨gW, A, c, rfl, hc, hc2, hNs⟩ := HT.out.wait hx
      have hjl : (j : Int) < l := by omega
      have hj0 : (0 : Int) ≤ j := by omega
      have hw2 : IntKind.i64.wrap ((j : Int) - 1) = (j : Int) - 1 := IntWalk.i64_in _ ⟨by omega, by omega⟩
      have HK := hid hk
      dsimp only at hP2 hc hNs
      by_cases hxn : xn = N
      · subst hxn
        rw [if_pos rfl] at hP2
        injection hP2 with hP2
        subst hP2
        have HNs := hid hNs
        clear hNs HP e hk hx hpos hw2
        go_wp2
        go_ret
        exact ⟨⟨A, c, rfl, HNs.out⟩, Below.refl _ _⟩
      · rw [if_neg hxn] at hP2
        have HP2 := hid hP2
        have hne : ((xn : Int) == (N : Int)) = false := beq_false_of_ne (by omega)
        have hne2 : decide ((xn : Int) = (N : Int)) = false := decide_eq_false (by omega)
        clear hNs HP e hk hx hpos hxn hP2
        go_wp2
        go_roundw
        case rel => exact ⟨j, by have := HK.out; omega, rfl, HP2, trivial⟩
        case measure => simp [intOf]
    all_goals skip
theorem rat_any (F B : Nat → Prop) (q m : Nat) (D : DK) (N : Nat) (s : List Int) (w : World) (h : RS F B w q D) (hD : Dok m D) (hm : m ≤ 900) (hs : (pres D.K D.W)[N]? = some s) :
    Calls Try.prog 31 #[.pointer (some ⟨q, 0, none⟩), .int .i64 N] w fun e w' => (∃ A c, e = .returned (.slice A 64 c) ∧ NumsS B w' .u8 A s) ∧ Below w.heap.size w w' := by
  obtain ⟨AK, cK, AW, cW, ps, ws, f, hT, hf, h1, h2⟩ := h
  exact rat_core B q D.K.length N AK cK AW cW ps ws D.K D.W f D.li D.off s w hT (by have := (List.getElem?_eq_some_iff.1 hs).1; rw [pres_length] at this; exact this) (Nat.le_trans hD.w1 hm) hD.k1 (hid hs)
set_option maxHeartbeats 2000000 in
theorem rread_any (F B : Nat → Prop) (q m : Nat) (D : DK) (n : Int) (w : World) (h : RS F B w q D) (hD : Dok m D) (hm : m ≤ 900) :
    Calls Try.prog 27 #[.pointer (some ⟨q, 0, none⟩), .int .i64 n] w fun e w' => ∃ A c, e = .returned (.tuple #[.slice A (readR D n).2.length c, .int .i64 (readR D n).1]) ∧ NumsS B w' .u8 A (readR D n).2 ∧ Below w.heap.size w w' := by
  obtain ⟨AK, cK, AW, cW, f, c0, c1, c2, c3, c4, x2⟩ := h.cells
  by_cases hoff : D.off = true
  · have e : readR D n = (30, []) := by unfold readR; rw [if_pos hoff]
    rw [e]
    rw [hoff] at c3
    clear h hD c0 c1 c2 c4 x2 e hoff
    go_enter Try.func27, Try.ntmps27
    go_wp2
    go_ret2
    first | exact ⟨none, 0, rfl, NumsS.nil, Below.refl _ _⟩ | exact ⟨none, ⟨0, rfl⟩, NumsS.nil, Below.refl _ _⟩
  · have hoff' : D.off = false := by simpa using hoff
    rw [hoff'] at c3
    by_cases hr : n < 0 ∨ (D.K.length : Int) ≤ n
    · have e : readR D n = (31, []) := by unfold readR; rw [if_neg hoff, if_pos hr]
      rw [e]
      by_cases hn : n < 0
      · have e0 : decide (n < 0) = true := decide_eq_true hn
        clear h hD c1 c2 c4 x2 e hoff hoff' hr hn
        go_enter Try.func27, Try.ntmps27
        go_wp2
        go_ret2
        first | exact ⟨none, 0, rfl, NumsS.nil, Below.refl _ _⟩ | exact ⟨none, ⟨0, rfl⟩, NumsS.nil, Below.refl _ _⟩
      · have e0 : decide (n < 0) = false := decide_eq_false hn
        have e1 : (D.K.length : Int) ≤ n := by omega
        have e2 : ¬ n < (D.K.length : Int) := by omega
        have e3 : decide ((D.K.length : Int) ≤ n) = true := decide_eq_true e1
        have e4 : decide (n < (D.K.length : Int)) = false := decide_eq_false e2
        clear h hD c1 c2 c4 x2 e hoff hoff' hr hn
        go_enter Try.func27, Try.ntmps27
        go_wp2
        go_ret2
        first | exact ⟨none, 0, rfl, NumsS.nil, Below.refl _ _⟩ | exact ⟨none, ⟨0, rfl⟩, NumsS.nil, Below.refl _ _⟩
    · obtain ⟨N, rfl⟩ : ∃ N : Nat, n = (N : Int) := ⟨n.toNat, by omega⟩
      have hNl : N < (pres D.K D.W).length := by rw [pres_length]; omega
      obtain ⟨s, hs⟩ : ∃ s, (pres D.K D.W)[N]? = some s := ⟨_, List.getElem?_eq_getElem hNl⟩
      have hs64 := (pres_sz hD.wW hD.sK).get hs
      have e : readR D N = (0, s) := by
        unfold readR
        rw [if_neg hoff, if_neg hr]
        show (0, (pres D.K D.W).getD N []) = _
        rw [getD_of hs]
      rw [e]
      dsimp only
      rw [hs64]
      have e0 : decide ((N : Int) < 0) = false := decide_eq_false (by omega)
      have e1 : ¬ (D.K.length : Int) ≤ N := by omega
      have e2 : (N : Int) < (D.K.length : Int) := by omega
      have HR := rat_any F B q m D N s w h hD hm hs
      clear h hD c1 c2 c4 x2 e hoff hoff' hr hs hNl
      go_enter Try.func27, Try.ntmps27
      go_wp2_with (go_at_call 31; refine HR.mono ?_; rintro e w2 ⟨⟨A, c, rfl, hN2⟩, hb2⟩)
      go_ret2
      first | exact ⟨A, c, rfl, hN2, hb2⟩ | exact ⟨A, ⟨c, rfl⟩, hN2, hb2⟩
end Go.Proofs.Ytdfalneiapeegaa
