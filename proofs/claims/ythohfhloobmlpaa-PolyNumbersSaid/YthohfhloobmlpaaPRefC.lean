/- The reference's Clamp. -/
import Derived.Test.YthohfhloobmlpaaPRef2
import Derived.Test.YthohfhloobmlpaaPTag
namespace Go.Proofs.Ythohfhloobmlpaa
open Go Go.RowKit

theorem clampL_at {bs : List Int} {k : Nat} {x : Int} (h : k < 16) (hx : bs[k]? = some x) : (clampL bs)[k]? = some (if k % 4 = 0 ∧ 4 ≤ k then (if k % 4 = 3 then x % 16 else x) / 4 * 4 else if k % 4 = 3 then x % 16 else x) := by
  have hg : bs.getD k 0 = x := by rw [List.getD_eq_getElem?_getD, hx]; rfl
  have h1 := K1_at bs 16 h
  rw [hg] at h1
  have h2 : (K1 bs 16).getD k 0 = if k % 4 = 3 then x % 16 else x := by
    rw [List.getD_eq_getElem?_getD, h1]
    show (if k % 4 = 3 ∧ k < 16 then x % 16 else x) = _
    by_cases h3 : k % 4 = 3
    · rw [if_pos ⟨h3, h⟩, if_pos h3]
    · rw [if_neg (fun h => h3 h.1), if_neg h3]
  unfold clampL
  rw [K2_at _ 16 h, h2]
  congr 1
  by_cases h3 : k % 4 = 0 ∧ 4 ≤ k
  · rw [if_pos ⟨h3.1, h3.2, h⟩, if_pos h3]
  · rw [if_neg (fun h => h3 ⟨h.1, h.2.1⟩), if_neg h3]
theorem take_snoc {l : List Int} {k : Nat} {v : Int} (h : l[k]? = some v) : l.take (k + 1) = l.take k ++ [v] := by rw [List.take_add_one, h]; rfl
set_option maxRecDepth 4000 in
set_option maxHeartbeats 4000000 in
theorem rclamp_core {A : Option Addr} {cA : Nat} {bs r : List Int} {w : World} (HL : Hid (bs.length = 16)) (HB : Hid (Byt bs)) (hA : Nums w .u8 A bs) (HR : Hid (clampL bs = r)) (HRL : Hid (r.length = 16)) :
    Calls Try.prog 17 #[.slice A 16 cA] w fun e w' => ∃ B d, e = .returned (.slice B 16 d) ∧ NumsF w.heap.size w' .u8 B r ∧ Below w.heap.size w w' := by
  have hA0 := hA
  clear hA
  go_enter Try.func17, Try.ntmps17
  go_wp2
  go_loopw [3, 4] (fun v i wr => ∃ (k : Nat) (R : Option Addr) (n d : Nat), k ≤ 16 ∧ v = .slice R n d ∧ i = .int .i64 (k : Int) ∧ Owns wr w.heap.size 5 .u8 (.slice R n d) (r.take k) ∧ Below w.heap.size w wr) (fun _ i _ => 16 - (intOf i).toNat)
  case atStart => exact ⟨0, none, 0, 0, Nat.zero_le _, rfl, rfl, Owns.none_ _ _ _ _, Below.refl _ _⟩
  case round =>
    obtain ⟨k, R, n, d, hk, rfl, rfl, hO, hb⟩ := hrel
    rename World => W1
    have hsz := hb.size
    by_cases hlt : k < 16
    · obtain ⟨g, o, rfl, _, cA⟩ := (hA0.below hb).num (by rw [HL.out]; omega)
      have hx := getD_some (l := bs) (i := k) (by rw [HL.out]; exact hlt)
      have cx := cA _ _ hx
      have hxb := HB.out.at_ hx
      have HV := hid (clampL_at hlt hx)
      rw [HR.out] at HV
      have HTL : Hid ((r.take k).length ≤ 16) := hid (by rw [List.length_take]; omega)
      have HW5 : Hid (∀ A' n' c' w2, Grew W1 w2 (Value.slice R n d) (Value.slice A' n' c') → Below w.heap.size w w2) := hid fun A' n' c' w2 hG => hb.trans (hG.below hsz (fun g hg => (hO.lt g hg).1))
      clear hx cA
      generalize bs.getD k 0 = x at *
      have k0 : (0 : Int) ≤ k := by omega
      have k16 : (k : Int) < 16 := by omega
      have hwk : IntKind.i64.wrap ((k : Int) + 1) = (k : Int) + 1 := IntWalk.i64_in _ (by omega)
      by_cases h3 : k % 4 = 3
      · rw [if_neg (by omega), if_pos h3] at HV
        have HT := hid (take_snoc HV.out)
        obtain ⟨y, hy⟩ : ∃ y, y = x % 16 := ⟨_, rfl⟩
        have y1 : x % 16 = y := hy.symm
        have y2 : Int.tmod x 16 = y := by rw [Int.tmod_eq_emod_of_nonneg (by omega), hy]
        have y3 : IntKind.u8.wrap y = y := IntWalk.u8_in _ (by omega)
        rw [← hy] at HT
        have e4 : ((k : Int) == 4) = false := by simp; omega
        have e8 : ((k : Int) == 8) = false := by simp; omega
        have e12 : ((k : Int) == 12) = false := by simp; omega
        have HXX := hid (And.intro hxb hy)
        by_cases c3 : k = 3
        · have e3 : ((k : Int) == 3) = true := by rw [beq_iff_eq]; omega
          clear hxb hy h3 c3
          go_wp2_with (at_builtin; refine app_oneG rfl (.tmp 43) (.tmp 45) 23 rfl w.heap.size 5 .u8 1 Try.underlying23 infB3 (by omega) R n d (r.take k) rfl hO _ 1 rfl (by have := HTL.out; omega) hsz ?_; intro A' n' c' w2 hO2 hG2)
          go_roundw
          case rel => exact ⟨k + 1, A', n', c', by omega, rfl, by go_num, by rw [HT.out]; exact hO2, HW5.out _ _ _ _ hG2⟩
          case measure => simp [intOf]; omega
        · have e3 : ((k : Int) == 3) = false := by simp; omega
          by_cases c7 : k = 7
          · have e7 : ((k : Int) == 7) = true := by rw [beq_iff_eq]; omega
            clear hxb hy h3 c3 c7
            go_wp2_with (at_builtin; refine app_oneG rfl (.tmp 43) (.tmp 45) 23 rfl w.heap.size 5 .u8 1 Try.underlying23 infB3 (by omega) R n d (r.take k) rfl hO _ 1 rfl (by have := HTL.out; omega) hsz ?_; intro A' n' c' w2 hO2 hG2)
            go_roundw
            case rel => exact ⟨k + 1, A', n', c', by omega, rfl, by go_num, by rw [HT.out]; exact hO2, HW5.out _ _ _ _ hG2⟩
            case measure => simp [intOf]; omega
          · have e7 : ((k : Int) == 7) = false := by simp; omega
            by_cases c11 : k = 11
            · have e11 : ((k : Int) == 11) = true := by rw [beq_iff_eq]; omega
              clear hxb hy h3 c3 c7 c11
              go_wp2_with (at_builtin; refine app_oneG rfl (.tmp 43) (.tmp 45) 23 rfl w.heap.size 5 .u8 1 Try.underlying23 infB3 (by omega) R n d (r.take k) rfl hO _ 1 rfl (by have := HTL.out; omega) hsz ?_; intro A' n' c' w2 hO2 hG2)
              go_roundw
              case rel => exact ⟨k + 1, A', n', c', by omega, rfl, by go_num, by rw [HT.out]; exact hO2, HW5.out _ _ _ _ hG2⟩
              case measure => simp [intOf]; omega
            · have e11 : ((k : Int) == 11) = false := by simp; omega
              have e15 : ((k : Int) == 15) = true := by rw [beq_iff_eq]; omega
              clear hxb hy h3 c3 c7 c11
              go_wp2_with (at_builtin; refine app_oneG rfl (.tmp 43) (.tmp 45) 23 rfl w.heap.size 5 .u8 1 Try.underlying23 infB3 (by omega) R n d (r.take k) rfl hO _ 1 rfl (by have := HTL.out; omega) hsz ?_; intro A' n' c' w2 hO2 hG2)
              go_roundw
              case rel => exact ⟨k + 1, A', n', c', by omega, rfl, by go_num, by rw [HT.out]; exact hO2, HW5.out _ _ _ _ hG2⟩
              case measure => simp [intOf]; omega
      · rw [if_neg h3] at HV
        have e3 : ((k : Int) == 3) = false := by simp; omega
        have e7 : ((k : Int) == 7) = false := by simp; omega
        have e11 : ((k : Int) == 11) = false := by simp; omega
        have e15 : ((k : Int) == 15) = false := by simp; omega
        by_cases h4 : k % 4 = 0 ∧ 4 ≤ k
        · rw [if_pos h4] at HV
          have HT := hid (take_snoc HV.out)
          obtain ⟨q, hq⟩ : ∃ q, q = x / 4 := ⟨_, rfl⟩
          have q1 : x / 4 = q := hq.symm
          have q2 : Int.tdiv x 4 = q := by rw [Int.tdiv_eq_ediv_of_nonneg (by omega), hq]
          have q3 : IntKind.u8.wrap q = q := IntWalk.u8_in _ (by omega)
          have y3 : IntKind.u8.wrap (q * 4) = q * 4 := IntWalk.u8_in _ (by omega)
          rw [← hq] at HT
          have HXX := hid (And.intro hxb (And.intro hq h4))
          by_cases c4 : k = 4
          · have e4 : ((k : Int) == 4) = true := by rw [beq_iff_eq]; omega
            clear hxb hq h3 h4 c4
            go_wp2_with (at_builtin; refine app_oneG rfl (.tmp 43) (.tmp 45) 23 rfl w.heap.size 5 .u8 1 Try.underlying23 infB3 (by omega) R n d (r.take k) rfl hO _ 1 rfl (by have := HTL.out; omega) hsz ?_; intro A' n' c' w2 hO2 hG2)
            go_roundw
            case rel => exact ⟨k + 1, A', n', c', by omega, rfl, by go_num, by rw [HT.out]; exact hO2, HW5.out _ _ _ _ hG2⟩
            case measure => simp [intOf]; omega
          · have e4 : ((k : Int) == 4) = false := by simp; omega
            by_cases c8 : k = 8
            · have e8 : ((k : Int) == 8) = true := by rw [beq_iff_eq]; omega
              clear hxb hq h3 h4 c4 c8
              go_wp2_with (at_builtin; refine app_oneG rfl (.tmp 43) (.tmp 45) 23 rfl w.heap.size 5 .u8 1 Try.underlying23 infB3 (by omega) R n d (r.take k) rfl hO _ 1 rfl (by have := HTL.out; omega) hsz ?_; intro A' n' c' w2 hO2 hG2)
              go_roundw
              case rel => exact ⟨k + 1, A', n', c', by omega, rfl, by go_num, by rw [HT.out]; exact hO2, HW5.out _ _ _ _ hG2⟩
              case measure => simp [intOf]; omega
            · have e8 : ((k : Int) == 8) = false := by simp; omega
              have e12 : ((k : Int) == 12) = true := by rw [beq_iff_eq]; omega
              clear hxb hq h3 h4 c4 c8
              go_wp2_with (at_builtin; refine app_oneG rfl (.tmp 43) (.tmp 45) 23 rfl w.heap.size 5 .u8 1 Try.underlying23 infB3 (by omega) R n d (r.take k) rfl hO _ 1 rfl (by have := HTL.out; omega) hsz ?_; intro A' n' c' w2 hO2 hG2)
              go_roundw
              case rel => exact ⟨k + 1, A', n', c', by omega, rfl, by go_num, by rw [HT.out]; exact hO2, HW5.out _ _ _ _ hG2⟩
              case measure => simp [intOf]; omega
        · rw [if_neg h4] at HV
          have HT := hid (take_snoc HV.out)
          have e4 : ((k : Int) == 4) = false := by simp; omega
          have e8 : ((k : Int) == 8) = false := by simp; omega
          have e12 : ((k : Int) == 12) = false := by simp; omega
          clear hxb h3 h4
          go_wp2_with (at_builtin; refine app_oneG rfl (.tmp 43) (.tmp 45) 23 rfl w.heap.size 5 .u8 1 Try.underlying23 infB3 (by omega) R n d (r.take k) rfl hO _ 1 rfl (by have := HTL.out; omega) hsz ?_; intro A' n' c' w2 hO2 hG2)
          go_roundw
          case rel => exact ⟨k + 1, A', n', c', by omega, rfl, by go_num, by rw [HT.out]; exact hO2, HW5.out _ _ _ _ hG2⟩
          case measure => simp [intOf]; omega
    · have e : k = 16 := by omega
      have hf : r.take k = r := List.take_of_length_le (by rw [HRL.out]; omega)
      rw [hf] at hO
      have hm := hO.len
      rw [HRL.out] at hm
      subst hm
      have hNF := hO.fresh
      have hk16 : ¬ (k : Int) < 16 := by omega
      clear hf e hO hlt hsz
      go_wp2
      go_ret
      exact ⟨R, ⟨d, rfl⟩, hNF, hb⟩
theorem rclamp_any {A : Option Addr} {cA : Nat} {bs : List Int} {w : World} (hl : bs.length = 16) (hb : Byt bs) (hA : Nums w .u8 A bs) :
    Calls Try.prog 17 #[.slice A 16 cA] w fun e w' => ∃ B d, e = .returned (.slice B 16 d) ∧ NumsF w.heap.size w' .u8 B (clampL bs) ∧ Below w.heap.size w w' :=
  rclamp_core (hid hl) (hid hb) hA (hid rfl) (hid (clampL_length bs))
end Go.Proofs.Ythohfhloobmlpaa
