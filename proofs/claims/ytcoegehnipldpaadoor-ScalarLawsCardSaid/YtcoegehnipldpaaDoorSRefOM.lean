/- The reference's number of bytes, modulo the order. -/
import Derived.Test.YtcoegehnipldpaaDoorSRefMM
import Derived.Test.YtcoegehnipldpaaDoorRefFM
import Derived.Test.YtcoegehnipldpaaDoorG5
namespace Go.Proofs.YtcoegehnipldpaaDoor
open Go.RowKit

set_option maxRecDepth 4000 in
set_option maxHeartbeats 2000000 in
theorem rofq_walk (A : Option Addr) (L c : Nat) (bs : List Int) (w : World) (hl : bs.length = L) (hn : L ≤ 1000) (hb : Byt bs) (hA : Nums w .u8 A bs) : Calls Tryd.prog 14 #[.slice A L c] w fun e w' => e = .returned (.agg (ints .u8 (rbytes (bn bs % QN))).toArray) ∧ Below w.heap.size w w' := by
  obtain ⟨z22, s22⟩ := zero_of_info inf22
  have HL := hid hl
  have HB := hid hb
  obtain ⟨da, hda1, hda2, hda3, hda4⟩ := pr_nl hb
  have HDA := hid (And.intro hda1 (And.intro hda2 (And.intro hda3 hda4)))
  have HPL : Hid ((pr bs).length = (L + 1) / 2) := hid (by rw [pr_length, hl])
  have HBL := hid (rbytes_length (bn bs % QN))
  have hR := Arr.made w .u8 (zeros 32) 23
  have hW := below_new w (.cells (ints .u8 (zeros 32)).toArray 23)
  have hA0 := hA.below hW
  have hsz0 : (w.alloc (.cells (ints .u8 (zeros 32)).toArray 23)).heap.size = w.heap.size + 1 := by simp
  clear hl hb hda1 hda2 hda3 hda4 hA
  go_enter Tryd.func14, Tryd.ntmps14
  go_wp2
  generalize w.alloc (.cells (ints .u8 (zeros 32)).toArray 23) = W0 at *
  go_loopw [3, 4] (fun v i wr => ∃ (k : Nat) (R : Option Addr) (n d : Nat), k ≤ (L + 1) / 2 ∧ v = .slice R n d ∧ i = .int .i64 ((2 * k : Nat) : Int) ∧ Owns wr W0.heap.size 3 .i64 (.slice R n d) ((pr bs).take k) ∧ Below W0.heap.size W0 wr) (fun _ i _ => L + 1 - (intOf i).toNat)
  case atStart => exact ⟨0, none, 0, 0, Nat.zero_le _, rfl, rfl, Owns.none_ _ _ _ _, Below.refl _ _⟩
  case round =>
    obtain ⟨k, R, n, d, hk, rfl, rfl, hO, hb⟩ := hrel
    rename World => W1
    have hsz := hb.size
    by_cases hlt : 2 * k < L
    · have hlk : 2 * k < bs.length := by rw [HL.out]; exact hlt
      obtain ⟨g, o, rfl, _, cA⟩ := (hA0.below hb).num (by omega)
      have hx : bs[2 * k]? = some (bs.getD (2 * k) 0) := by rw [List.getD_eq_getElem?_getD, List.getElem?_eq_getElem hlk]; rfl
      have cx := cA _ _ hx
      have hxb := HB.out.at_ hx
      have HV := hid (pr_at bs k hlk)
      have HT : Hid ((pr bs).take (k + 1) = (pr bs).take k ++ [bs.getD (2 * k) 0 + 256 * bs.getD (2 * k + 1) 0]) := hid (by rw [List.take_add_one, HV.out]; rfl)
      have HTL : Hid (((pr bs).take k).length ≤ 1000) := hid (by rw [List.length_take, HPL.out]; omega)
      have HW5 : Hid (∀ A' n' c' w2, Grew W1 w2 (Value.slice R n d) (Value.slice A' n' c') → Below W0.heap.size W0 w2) := hid fun A' n' c' w2 hG => hb.trans (hG.below hsz (fun g hg => (hO.lt g hg).1))
      by_cases hlt2 : 2 * k + 1 < L
      · have hlk2 : 2 * k + 1 < bs.length := by rw [HL.out]; exact hlt2
        have hy : bs[2 * k + 1]? = some (bs.getD (2 * k + 1) 0) := by rw [List.getD_eq_getElem?_getD, List.getElem?_eq_getElem hlk2]; rfl
        have cy0 := cA _ _ hy
        have hyb := HB.out.at_ hy
        clear hx hy hlk hlk2 cA HV
        generalize bs.getD (2 * k) 0 = x at *
        generalize bs.getD (2 * k + 1) 0 = y at *
        obtain ⟨p, hp⟩ : ∃ p, p = 2 * k := ⟨_, rfl⟩
        obtain ⟨q, hq⟩ : ∃ q, q = 2 * k + 1 := ⟨_, rfl⟩
        have hwq : IntKind.i64.wrap ((p : Int) + 1) = (q : Int) := by rw [IntWalk.i64_in _ (by omega)]; omega
        have hw2 : IntKind.i64.wrap ((p : Int) + 2) = ((2 * (k + 1) : Nat) : Int) := by rw [IntWalk.i64_in _ (by omega)]; omega
        rw [← hp] at cx ⊢
        rw [← hq] at cy0
        have p0 : (0 : Int) ≤ p := by omega
        have pL : (p : Int) < L := by omega
        have q0 : (0 : Int) ≤ q := by omega
        have qL : (q : Int) < L := by omega
        have hx64 : IntKind.i64.wrap x = x := IntWalk.i64_in _ (by omega)
        have hy64 : IntKind.i64.wrap y = y := IntWalk.i64_in _ (by omega)
        have hs8 : IntKind.i64.wrap (256 * y) = 256 * y := by rw [IntWalk.i64_in _ (by omega)]
        have hsv : IntKind.i64.wrap (x + 256 * y) = x + 256 * y := by rw [IntWalk.i64_in _ (by omega)]
        have HPQ := hid (And.intro hp hq)
        clear hp hq
        go_wp2_with (at_builtin; refine app_oneG rfl (.tmp 31) (.tmp 33) 30 rfl W0.heap.size 3 .i64 8 Tryd.underlying30 Tryd.info3 (by omega) R n d ((pr bs).take k) rfl hO _ 1 rfl (by have := HTL.out; omega) hsz ?_; intro A' n' c' w2 hO2 hG2)
        go_roundw
        case rel =>
          rw [← HT.out] at hO2
          exact ⟨k + 1, A', n', c', by omega, rfl, by congr 1, hO2, HW5.out _ _ _ _ hG2⟩
        case measure => simp [intOf]; have := HPQ.out.1; omega
      · have hy0 : bs.getD (2 * k + 1) 0 = 0 := by rw [List.getD_eq_getElem?_getD, List.getElem?_eq_none (by rw [HL.out]; omega)]; rfl
        rw [hy0] at HT
        clear hx hy0 hlk cA HV
        generalize bs.getD (2 * k) 0 = x at *
        obtain ⟨p, hp⟩ : ∃ p, p = 2 * k := ⟨_, rfl⟩
        have hwq : IntKind.i64.wrap ((p : Int) + 1) = (p : Int) + 1 := IntWalk.i64_in _ (by omega)
        have hw2 : IntKind.i64.wrap ((p : Int) + 2) = ((2 * (k + 1) : Nat) : Int) := by rw [IntWalk.i64_in _ (by omega)]; omega
        rw [← hp] at cx ⊢
        have p0 : (0 : Int) ≤ p := by omega
        have pL : (p : Int) < L := by omega
        have qL : ¬ (p : Int) + 1 < L := by omega
        have hx64 : IntKind.i64.wrap x = x := IntWalk.i64_in _ (by omega)
        have HXV : Hid (x + 256 * 0 = x) := hid (by omega)
        rw [HXV.out] at HT
        have HPQ := hid hp
        clear hp
        go_wp2_with (at_builtin; refine app_oneG rfl (.tmp 31) (.tmp 33) 30 rfl W0.heap.size 3 .i64 8 Tryd.underlying30 Tryd.info3 (by omega) R n d ((pr bs).take k) rfl hO _ 1 rfl (by have := HTL.out; omega) hsz ?_; intro A' n' c' w2 hO2 hG2)
        go_roundw
        case rel =>
          rw [← HT.out] at hO2
          exact ⟨k + 1, A', n', c', by omega, rfl, by congr 1, hO2, HW5.out _ _ _ _ hG2⟩
        case measure => simp [intOf]; have := HPQ.out; omega
    · have e : k = (L + 1) / 2 := by omega
      have hf : (pr bs).take k = nl da := by rw [e, List.take_of_length_le (by rw [HPL.out]; omega), HDA.out.1]
      rw [hf] at hO
      have hm := hO.len
      rw [nl_length, HDA.out.2.1, HL.out] at hm
      have HM := hid hm
      obtain ⟨p, hp⟩ : ∃ p, p = 2 * k := ⟨_, rfl⟩
      have hpL : ¬ (p : Int) < L := by omega
      rw [← hp]
      have hR2 := hR.below hb (by omega)
      have hW2 := hW.trans (Below.mono hb (by omega))
      have hDV := HDA.out.2.2.2
      have hN := hO.nums
      obtain ⟨rs, hrs⟩ : ∃ rs, rbytes (bn bs % QN) = rs := ⟨_, rfl⟩
      rw [hrs] at HBL
      have HRS := hid hrs
      have hn1000 : n ≤ 1000 := by omega
      clear hm hf e hO hR hW hlt hp hsz hrs
      go_wp2_with (fail)
      refine (modq_walk R d n W1 da (by rw [HDA.out.2.1, HL.out, HM.out]) hn1000 HDA.out.2.2.1 hN).mono ?_
      rw [hDV]
      rintro e w2 ⟨A2, c2, ys, rfl, HY, hN2, hb2⟩
      have hR3 := hR2.below hb2 (hR2.lt (by rw [zeros_len]; omega))
      have hW3 := hW2.trans (Below.mono hb2 hW2.size)
      go_wp2_with (fail)
      refine (rbytes_out (cA := c2) HY.out hN2.nums).mono ?_
      rw [HRS.out]
      rintro e w3 ⟨rfl, hb3⟩
      have hR4 := hR3.below hb3 (hR3.lt (by rw [zeros_len]; omega))
      have hW4 := hW3.trans (Below.mono hb3 hW3.size)
      have hs1 : w3.there w.heap.size 0 (ints .u8 rs).toArray.size := hR4.room (by rw [zeros_len]; exact HBL.out)
      have hR5 := hR4.stored (l' := rs) (by rw [zeros_len]; exact HBL.out)
      have hW5 := Below.setCells hW4 (g := w.heap.size) (Nat.le_refl _) 0 (ints .u8 rs).toArray.toList
      clear hR2 hW2 hb2 hR3 hW3 hb3 hR4 hW4 hN hN2
      go_wp2_with (first
        | (with_reducible refine wpList_store_mid (op := ⟨none, .store 23 (.tmp 2) (.tmp 37), _, _, _, _⟩) rfl 23 (.tmp 2) (.tmp 37) rfl w.heap.size 0 (ints .u8 rs).toArray rfl rfl hs1 (a22 HBL.out) (ints_all _ _) ?_; generalize w3.setCells w.heap.size 0 (ints .u8 rs).toArray.toList = W5 at *))
      exact ret_rows rfl w.heap.size 0 rfl (ints .u8 rs) _ hR5.range Tryd.underlying23 rfl (l22 HBL.out) rfl ⟨by rw [HRS.out], hW5⟩
end Go.Proofs.YtcoegehnipldpaaDoor
