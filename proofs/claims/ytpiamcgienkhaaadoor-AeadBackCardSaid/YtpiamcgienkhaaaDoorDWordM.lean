/- The reference's word of four bytes. -/
import Derived.Test.YtpiamcgienkhaaaDoorG6
import Derived.Test.YtpiamcgienkhaaaDoorG7
namespace Go.Proofs.YtpiamcgienkhaaaDoor
open Go.RowKit

set_option maxRecDepth 50000 in
set_option maxHeartbeats 400000 in
theorem turned_any (A : Option Addr) (c : Nat) (b : List Int) (w : World) (hn : b.length ≤ 4096) (hA : Nums w .u8 A b) :
    Calls Tryd.prog 49 #[.slice A b.length c] w fun e w' => ∃ B d ys, e = .returned (.slice B ys.length d) ∧ Hid (ys = b.reverse) ∧ NumsF w.heap.size w' .u8 B ys ∧ Below w.heap.size w w' := by
  go_enter Tryd.func49, Tryd.ntmps49
  go_wp2
  go_loopw [3, 4] (fun v i wr => ∃ (k : Nat) (B : Option Addr) (m d : Nat), k ≤ b.length ∧ i = .int .i64 ((k : Int) - 1) ∧ v = .slice B m d ∧ Owns wr w.heap.size 5 .u8 (.slice B m d) (b.drop k).reverse ∧ Below w.heap.size w wr) (fun _ i _ => (intOf i + 1).toNat)
  case atStart => exact ⟨b.length, none, 0, 0, Nat.le_refl _, rfl, rfl, by rw [List.drop_length]; exact Owns.none_ _ _ _ _, Below.refl _ _⟩
  case round =>
    obtain ⟨k, B, m, d, hk, rfl, rfl, hO, hb⟩ := hrel
    by_cases hlt : 0 < k
    · have hsz := hb.size
      obtain ⟨j, rfl⟩ : ∃ j, k = j + 1 := ⟨k - 1, by omega⟩
      have hl : (b.drop (j + 1)).reverse.length ≤ 4096 := by simp; omega
      have HL := hid hl
      clear hl
      obtain ⟨b1, o1, x, rfl, _, hc1, H1⟩ := (hA.below hb).get (i := j) (by omega)
      have e1 : ((j + 1 : Nat) : Int) - 1 = (j : Int) := by omega
      have hj0 : (0 : Int) ≤ j := by omega
      have hj1 : (j : Int) < b.length := by omega
      rw [e1]
      clear e1
      go_wp2_with (at_builtin; refine app_one _ rfl (.tmp 12) (.tmp 17) 24 rfl w.heap.size 5 .u8 1 Tryd.underlying24 Tryd.info5 B m d (b.drop (j + 1)).reverse rfl hO _ 1 rfl (by have := HL.out; omega) (by omega) hsz ?_; intro A' n' c' w2 hO2 hb2)
      go_roundw
      case rel =>
        have hd : b.drop j = x :: b.drop (j + 1) := by
          have h2 := H1.out
          obtain ⟨h3, h4⟩ := List.getElem?_eq_some_iff.1 h2
          rw [List.drop_eq_getElem_cons h3, h4]
        exact ⟨j, A', n', c', by omega, rfl, rfl, by rw [hd, List.reverse_cons]; exact hO2, hb.trans hb2⟩
      case measure => simp [intOf]
    · have e : k = 0 := by omega
      subst e
      have hm := hO.len
      rw [List.drop_zero] at hO hm
      subst hm
      go_wp2
      go_ret
      exact ⟨B, d, b.reverse, rfl, hid rfl, hO.fresh, hb⟩

set_option maxRecDepth 50000 in
theorem wide4 (A : Option Addr) (d : Nat) (b : List Int) (w : World) (h4 : b.length = 4) (hby : HByt b) (hA : Nums w .u8 A b) :
    Calls Tryd.prog 48 #[.slice A 4 d] w fun e w' => e = .returned (.int .u64 (hiv b)) ∧ Below w.heap.size w w' := by
  have h := wide_any A d b w (by omega) hby hA
  rw [h4] at h
  refine h.mono fun e w' ⟨v, he, hv, hb⟩ => ⟨by rw [he, hv.out], hb⟩
set_option maxRecDepth 50000 in
theorem turned4 (A : Option Addr) (c : Nat) (b : List Int) (w : World) (h4 : b.length = 4) (hA : Nums w .u8 A b) :
    Calls Tryd.prog 49 #[.slice A 4 c] w fun e w' => ∃ B d ys, e = .returned (.slice B 4 d) ∧ Hid (ys = b.reverse) ∧ Nums w' .u8 B ys ∧ Below w.heap.size w w' := by
  have h := turned_any A c b w (by omega) hA
  rw [h4] at h
  refine h.mono fun e w' ⟨B, d, ys, he, hY, hN, hb⟩ => ⟨B, d, ys, ?_, hY, hN.nums, hb⟩
  rw [he, hY.out, List.length_reverse, h4]
set_option maxRecDepth 50000 in
theorem word_any (A : Option Addr) (c : Nat) (b : List Int) (w : World) (h4 : Hid (b.length = 4)) (hby : HByt b) (hA : Nums w .u8 A b) :
    Calls Tryd.prog 34 #[.slice A 4 c] w fun e w' => e = .returned (.int .u32 (hiv b.reverse)) ∧ Below w.heap.size w w' := by
  have hv := hiv_bd b.reverse hby.rev
  have hl : b.reverse.length = 4 := by rw [List.length_reverse, h4.out]
  rw [hl] at hv
  have hv1 : hiv b.reverse % 4294967296 = hiv b.reverse := by have := hv.1; have := hv.2; simp at this; omega
  have HL := hid hl
  have HB := hid hby.rev
  obtain ⟨v, hve⟩ : ∃ v, hiv b.reverse = v := ⟨_, rfl⟩
  have HV := hid hve
  rw [hve] at hv1
  have hv2 : IntKind.u32.wrap v = v := by rw [IntKind.wrap_u32]; exact hv1
  clear hl hv hve
  go_enter Tryd.func34, Tryd.ntmps34
  go_wp2_with (first
    | (go_at_call 49; refine (turned4 _ _ b _ h4.out hA).mono ?_; rintro e w2 ⟨B, d, ys, rfl, HY, hN, hb2⟩)
    | (go_at_call 48; refine (wide4 _ _ ys _ (by rw [HY.out]; exact HL.out) (by rw [HY.out]; exact HB.out) hN).mono ?_; rintro e w3 ⟨rfl, hb3⟩; rw [HY.out, HV.out]))
  go_ret
  exact ⟨ret_int HV.out.symm, hb2.trans (hb3.mono hb2.size)⟩
end Go.Proofs.YtpiamcgienkhaaaDoor
