/- The reference's digits of bytes, and its number of bytes. -/
import Derived.Test.YtpaopdjbhmdfjaaDoorRefEM
import Derived.Test.YtpaopdjbhmdfjaaDoorG3
namespace Go.Proofs.YtpaopdjbhmdfjaaDoor
open Go.RowKit

theorem Arr.grew {w w' : World} {k : IntKind} {b : Nat} {xs : List Int} {v v' : Value} (h : Arr w b 0 k xs) (hG : Grew w w' v v') (hne : v.ownBlock ≠ some b) (hb : b < w.heap.size) : Arr w' b 0 k xs := by
  have hbl := hG.1.block b hb (fun e => hne e.symm)
  intro i x hi
  have h1 := h i x hi
  refine ⟨(World.cell?_of_block (a := ⟨b, 0 + i, none⟩) hbl).trans h1.1, ?_⟩
  have : w'.frozen? ⟨b, 0 + i, none⟩ = w.frozen? ⟨b, 0 + i, none⟩ := by unfold World.frozen?; rw [hbl]
  rw [this]; exact h1.2
set_option maxRecDepth 4000 in
set_option maxHeartbeats 1000000 in
theorem rdigits_walk {bs : List Int} {w : World} (hl : bs.length = 32) (hb : Byt bs) : Calls Tryd.prog 8 #[.agg (ints .u8 bs).toArray] w fun e w' => ∃ g c, e = .returned (.slice (some ⟨g, 0, none⟩) 16 c) ∧ Owns w' w.heap.size 3 .i64 (.slice (some ⟨g, 0, none⟩) 16 c) (dgs bs) ∧ Below w.heap.size w w' := by
  have HL := hid hl
  have HB := hid hb
  have hN := Arr.made w .u8 bs 22
  have hW := below_new w (.cells (ints .u8 bs).toArray 22)
  clear hl hb
  go_enter Tryd.func8, Tryd.ntmps8
  go_wp2
  generalize w.alloc (.cells (ints .u8 bs).toArray 22) = W0 at *
  go_loopw [3, 4] (fun v i wr => ∃ (k : Nat) (R : Option Addr) (n c : Nat), k ≤ 16 ∧ v = .slice R n c ∧ i = .int .i64 ((2 * k : Nat) : Int) ∧ Owns wr w.heap.size 3 .i64 (.slice R n c) ((dgs bs).take k) ∧ Hid ((Value.slice R n c).ownBlock ≠ some w.heap.size) ∧ Arr wr w.heap.size 0 .u8 bs ∧ Below w.heap.size w wr) (fun _ i _ => 32 - (intOf i).toNat)
  case atStart => exact ⟨0, none, 0, 0, Nat.zero_le _, rfl, rfl, Owns.none_ _ _ _ _, hid (by intro e; cases e), hN, hW⟩
  case round =>
    clear hN hW
    obtain ⟨k, R, n, c, hk, rfl, rfl, hO, HF, hN, hW⟩ := hrel
    rename World => W1
    have hsz := hW.size
    by_cases hlt : k < 16
    · obtain ⟨x, cx, fx, HX⟩ := hN.spot (i := 2 * k) (by rw [HL.out]; omega)
      obtain ⟨y, cy0, fy, HY⟩ := hN.spot (i := 2 * k + 1) (by rw [HL.out]; omega)
      rw [Nat.zero_add] at cx cy0
      have hx := HB.out.at_ HX.out
      have hy := HB.out.at_ HY.out
      have HV : Hid ((dgs bs)[k]? = some (x + 256 * y)) := hid (by rw [dgs_at bs hlt]; simp [List.getD, HX.out, HY.out])
      have HT : Hid ((dgs bs).take (k + 1) = (dgs bs).take k ++ [x + 256 * y]) := hid (by rw [List.take_add_one, HV.out]; rfl)
      have HTL : Hid (((dgs bs).take k).length ≤ 16) := hid (by rw [List.length_take, dgs_length]; omega)
      have hlb := hN.lt (by rw [HL.out]; omega)
      obtain ⟨p, hp⟩ : ∃ p, p = 2 * k := ⟨_, rfl⟩
      obtain ⟨q, hq⟩ : ∃ q, q = 2 * k + 1 := ⟨_, rfl⟩
      have hwq : IntKind.i64.wrap ((p : Int) + 1) = (q : Int) := by rw [IntWalk.i64_in _ (by omega)]; omega
      have hw2 : IntKind.i64.wrap ((p : Int) + 2) = ((2 * (k + 1) : Nat) : Int) := by rw [IntWalk.i64_in _ (by omega)]; omega
      rw [← hp] at cx ⊢
      rw [← hq] at cy0
      have p0 : (0 : Int) ≤ p := by omega
      have p32 : (p : Int) < 32 := by omega
      have q0 : (0 : Int) ≤ q := by omega
      have q32 : (q : Int) < 32 := by omega
      have hx64 : IntKind.i64.wrap x = x := IntWalk.i64_in _ (by omega)
      have hy64 : IntKind.i64.wrap y = y := IntWalk.i64_in _ (by omega)
      have hs8 : IntKind.i64.wrap (256 * y) = 256 * y := by rw [IntWalk.i64_in _ (by omega)]
      have hsv : IntKind.i64.wrap (x + 256 * y) = x + 256 * y := by rw [IntWalk.i64_in _ (by omega)]
      have HPQ := hid (And.intro hp hq)
      clear hp hq fx fy
      go_wp2
      refine region_quiet_tail_one 12 (fun w' => ∃ j, w' = W1.drewN j) (.slice R n c) (by kernel_rfl) (by kernel_rfl) (by kernel_rfl) (fun _ _ _ h => h) (Or.inl ⟨rfl, fun w => by go_simp⟩) ⟨1, rfl⟩ ?_
      simp only [List.take_succ_cons, List.take_zero, List.drop_succ_cons, List.drop_zero, Nat.reduceSub]
      go_simp
      repeat (quiet_step (fail))
      refine wpQuiet_nil ?_
      intro nq
      have hOd := hO.drewN nq
      have hNd : Arr (W1.drewN nq) w.heap.size 0 .u8 bs := hN
      have hWd : Below w.heap.size w (W1.drewN nq) := below_drewN hW nq
      have hlb2 : w.heap.size < (W1.drewN nq).heap.size := hlb
      clear cx cy0 hO hN hW hsz hlb
      generalize W1.drewN nq = W4 at *
      have hsz := hWd.size
      have hW5 : ∀ A' n' c' w2, Grew W4 w2 (Value.slice R n c) (Value.slice A' n' c') → Below w.heap.size w w2 := fun A' n' c' w2 hG => hWd.trans (hG.below hsz (fun g hg => (hOd.lt g hg).1))
      have HW5 := hid hW5
      clear hW5
      go_wp2_with (at_builtin; refine app_oneG rfl (.tmp 9) (.tmp 21) 32 rfl w.heap.size 3 .i64 8 Tryd.underlying32 Tryd.info3 (by omega) R n c ((dgs bs).take k) rfl hOd _ 1 rfl (by have := HTL.out; omega) hsz ?_; intro A' n' c' w2 hO2 hG2)
      go_roundw
      case rel =>
        rw [← HT.out] at hO2
        exact ⟨k + 1, A', n', c', by omega, rfl, by congr 1, hO2, hid (hG2.far HF.out hlb2), Arr.grew hNd hG2 HF.out hlb2, HW5.out _ _ _ _ hG2⟩
      case measure => simp [intOf]; have := HPQ.out.1; omega
    · have e : k = 16 := by omega
      subst e
      have hf : (dgs bs).take 16 = dgs bs := List.take_of_length_le (by rw [dgs_length]; omega)
      rw [hf] at hO
      have hm := hO.len
      rw [dgs_length] at hm
      subst hm
      obtain ⟨g, rfl, _⟩ := hO.block (by rw [dgs_length]; omega)
      clear hf
      go_wp2
      go_ret
      exact ⟨g, c, rfl, hO, hW⟩
end Go.Proofs.YtpaopdjbhmdfjaaDoor
