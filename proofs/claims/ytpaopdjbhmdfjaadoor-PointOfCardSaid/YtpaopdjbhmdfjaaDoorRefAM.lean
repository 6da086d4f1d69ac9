/- The reference's prime, comparison and difference. -/
import Derived.Test.YtpaopdjbhmdfjaaDoorG1
import Derived.Test.YtpaopdjbhmdfjaaDoorApp
import Derived.Test.YtpaopdjbhmdfjaaDoorDigMath
import Derived.Laws.OwnMore
namespace Go.Proofs.YtpaopdjbhmdfjaaDoor
open Go.RowKit

theorem Tryd.info3 : (Tryd.prog.info? 3).map (fun i => (i.zero, i.size, i.bytes)) = some (some (.int .i64 0), 1, 8) := by kernel_rfl
theorem Owns.block {w : World} {base : Nat} {e : TypeId} {k : IntKind} {A : Option Addr} {n c : Nat} {xs : List Int} (h : Owns w base e k (.slice A n c) xs) (hp : 0 < xs.length) : ∃ g, A = some ⟨g, 0, none⟩ ∧ base ≤ g := by
  rcases h.2 with ⟨hv, hn⟩ | ⟨g, cap, cur, hv, hg, _⟩
  · omega
  · injection hv with h1 h2 h3
    exact ⟨g, h1, hg⟩
def PD : List Nat := 65517 :: (List.replicate 14 65535 ++ [32767])
theorem pd_eq : (((nl (List.replicate 16 65535)).set 0 65517).set 15 32767) = nl PD := by decide
theorem nl_snoc (l : List Nat) (v : Nat) : nl l ++ [(v : Int)] = nl (l ++ [v]) := by simp [nl]
set_option maxHeartbeats 400000 in
theorem rp_any (w : World) : Calls Tryd.prog 15 #[] w fun e w' => ∃ A c, e = .returned (.slice A 16 c) ∧ NumsF w.heap.size w' .i64 A (nl PD) ∧ Below w.heap.size w w' := by
  go_enter Tryd.func15, Tryd.ntmps15
  go_wp2
  go_loopw [1, 2] (fun v i wr => ∃ (k : Nat) (A : Option Addr) (m c : Nat), k ≤ 16 ∧ v = .slice A m c ∧ i = .int .i64 k ∧ Owns wr w.heap.size 3 .i64 (.slice A m c) (nl (List.replicate k 65535)) ∧ Below w.heap.size w wr) (fun _ i _ => 16 - (intOf i).toNat)
  case atStart => exact ⟨0, none, 0, 0, Nat.zero_le _, rfl, rfl, Owns.none_ _ _ _ _, Below.refl _ _⟩
  case round =>
    obtain ⟨k, A, m, c, hk, rfl, rfl, hO, hb⟩ := hrel
    by_cases hlt : k < 16
    · have hsz := hb.size
      have HL : Hid ((nl (List.replicate k 65535)).length ≤ 16) := hid (by rw [nl_length]; simp; omega)
      go_wp2_with (at_builtin; refine app_one _ rfl (.tmp 7) (.tmp 8) 32 rfl w.heap.size 3 .i64 8 Tryd.underlying32 Tryd.info3 A m c (nl (List.replicate k 65535)) rfl hO _ 1 rfl (by have := HL.out; omega) (by omega) hsz ?_; intro A' n' c' w2 hO2 hb2)
      go_roundw
      case rel => exact ⟨k + 1, A', n', c', by omega, rfl, by go_num, by rw [List.replicate_succ', ← nl_snoc]; exact hO2, hb.trans hb2⟩
      case measure => simp [intOf]; omega
    · have e : k = 16 := by omega
      subst e
      obtain ⟨g, rfl, hg⟩ := hO.block (by rw [nl_length]; simp)
      have hm := hO.len
      rw [nl_length, List.length_replicate] at hm
      subst hm
      obtain ⟨x0, c0, f0, _⟩ := hO.spot (j := 0) (by rw [nl_length]; simp)
      have hO2 := hO.store 0 65517
      obtain ⟨x1, c1, f1, _⟩ := hO2.spot (j := 15) (by rw [List.length_set, nl_length]; simp)
      have hO3 := hO2.store 15 32767
      rw [pd_eq] at hO3
      have HO := hid hO3
      clear hO hO2 hO3
      go_wp2
      go_ret
      exact ⟨some ⟨g, 0, none⟩, c, rfl, HO.out.fresh, (hb.setCell hg _).setCell hg _⟩
theorem drop_step {l : List Nat} {i : Nat} (h : i < l.length) : l.drop i = l.getD i 0 :: l.drop (i + 1) := by
  rw [List.drop_eq_getElem_cons h]
  simp [h]
theorem dv_cut {l : List Nat} {i : Nat} (h : i < l.length) : dv l = dv (l.take i) + 65536 ^ i * (l.getD i 0 + 65536 * dv (l.drop (i + 1))) := by
  rw [dv_split l i (by omega), drop_step h, dv]
theorem cmp_at {l m : List Nat} {i : Nat} (hl : Digs l) (hm : Digs m) (h1 : i < l.length) (h2 : i < m.length) (he : l.drop (i + 1) = m.drop (i + 1)) (hne : l.getD i 0 ≠ m.getD i 0) : (dv m ≤ dv l ↔ m.getD i 0 < l.getD i 0) := by
  rw [dv_cut h1, dv_cut h2, he]
  have t1 := dv_lt (l.take i) (fun v hv => hl v (List.mem_of_mem_take hv))
  have t2 := dv_lt (m.take i) (fun v hv => hm v (List.mem_of_mem_take hv))
  rw [List.length_take, Nat.min_eq_left (by omega)] at t1 t2
  generalize l.getD i 0 = x at *
  generalize m.getD i 0 = y at *
  generalize dv (l.take i) = a at *
  generalize dv (m.take i) = b at *
  generalize 65536 * dv (m.drop (i + 1)) = D at *
  generalize 65536 ^ i = P at *
  constructor
  · intro h
    refine Nat.lt_of_not_le fun hle => ?_
    have : P * (x + D + 1) ≤ P * (y + D) := Nat.mul_le_mul_left _ (by omega)
    rw [Nat.mul_add] at this
    omega
  · intro h
    have : P * (y + D + 1) ≤ P * (x + D) := Nat.mul_le_mul_left _ (by omega)
    rw [Nat.mul_add] at this
    omega
theorem Nums.num {w : World} {k : IntKind} {A : Option Addr} {xs : List Int} (h : Nums w k A xs) (hp : 0 < xs.length) : ∃ g o, A = some ⟨g, o, none⟩ ∧ g < w.heap.size ∧ ∀ (i : Nat) x, xs[i]? = some x → w.cell? ⟨g, o + i, none⟩ = some (.int k x) := by
  obtain ⟨b, off, e, hlt, hc⟩ := h hp
  refine ⟨b, off, e, hlt, fun i x hx => ?_⟩
  obtain ⟨hi, hxe⟩ := List.getElem?_eq_some_iff.1 hx
  rw [hc i hi]
  simp [List.getD, hx]
/-- The same world behind some draws. -/
def Drawn (w w' : World) : Prop := ∃ n, w' = w.drewN n
theorem Drawn.refl (w : World) : Drawn w w := ⟨0, rfl⟩
theorem Drawn.more {w w' : World} (h : Drawn w w') (n : Nat) : Drawn w (w'.drewN n) := by
  obtain ⟨m, rfl⟩ := h
  exact ⟨m + n, by simp⟩
theorem Drawn.cell {w w' : World} (h : Drawn w w') {p : Addr} {v : Option Value} (hc : w.cell? p = v) : w'.cell? p = v := by
  obtain ⟨m, rfl⟩ := h
  exact hc
theorem Drawn.below {w w' : World} (h : Drawn w w') : Below w.heap.size w w' := by
  obtain ⟨m, rfl⟩ := h
  exact below_drewN (Below.refl _ _) m
theorem Nums.drewN {w : World} {k : IntKind} {A : Option Addr} {xs : List Int} (h : Nums w k A xs) (n : Nat) : Nums (w.drewN n) k A xs := h
set_option maxRecDepth 4000 in
set_option maxHeartbeats 1000000 in
theorem al_any (A B : Option Addr) (cA cB L : Nat) (l m : List Nat) (w : World) (hl : l.length = L) (hm : m.length = L) (hn : L ≤ 1000) (dl : Digs l) (dm : Digs m) (hA : Nums w .i64 A (nl l)) (hB : Nums w .i64 B (nl m)) :
    Calls Tryd.prog 14 #[.slice A L cA, .slice B L cB] w fun e w' => ∃ b, e = .returned (.bool b) ∧ Hid (b = decide (dv m ≤ dv l)) ∧ Drawn w w' := by
  have HL := hid hl
  have HM := hid hm
  have DL := hid dl
  have DM := hid dm
  clear dl dm hl hm
  have hlw : IntKind.i64.wrap ((L : Int) - 1) = (L : Int) - 1 := IntWalk.i64_in _ (by omega)
  go_enter Tryd.func14, Tryd.ntmps14
  go_wp2
  go_loopw [5] (fun i wr => ∃ j : Nat, j ≤ L ∧ i = .int .i64 ((j : Int) - 1) ∧ Hid (l.drop j = m.drop j) ∧ Drawn w wr) (fun i _ => (intOf i + 1).toNat)
  case atStart => exact ⟨L, by omega, rfl, hid (by rw [List.drop_of_length_le (by rw [HL.out]; omega), List.drop_of_length_le (by rw [HM.out]; omega)]), Drawn.refl _⟩
  case round =>
    obtain ⟨j, hj, rfl, HD, HW⟩ := hrel
    cases j with
    | zero =>
      have hz : ((0 : Nat) : Int) - 1 = -1 := by omega
      rw [hz]
      have HE : Hid (l = m) := HD
      go_wp2
      go_ret
      exact ⟨true, rfl, hid (by rw [HE.out]; simp), HW⟩
    | succ i =>
      have hz : ((i + 1 : Nat) : Int) - 1 = (i : Int) := by omega
      rw [hz]
      have hil : i < l.length := by rw [HL.out]; omega
      have him : i < m.length := by rw [HM.out]; omega
      obtain ⟨g, o, rfl, _, cA0⟩ := hA.num (by rw [nl_length, HL.out]; omega)
      obtain ⟨g2, o2, rfl, _, cB0⟩ := hB.num (by rw [nl_length, HM.out]; omega)
      have cl := HW.cell (cA0 i _ (nl_at hil))
      have cm := HW.cell (cB0 i _ (nl_at him))
      have HC : Hid (l.getD i 0 ≠ m.getD i 0 → (dv m ≤ dv l ↔ m.getD i 0 < l.getD i 0)) := hid fun h => cmp_at DL.out DM.out hil him HD.out h
      have HS : Hid (l.getD i 0 = m.getD i 0 → l.drop i = m.drop i) := hid fun h => by rw [drop_step hil, drop_step him, h, HD.out]
      clear cA0 cB0 hil him
      generalize l.getD i 0 = x at *
      generalize m.getD i 0 = y at *
      have i0 : (0 : Int) ≤ i := by omega
      have i1 : (i : Int) < L := by omega
      have iw : IntKind.i64.wrap ((i : Int) - 1) = (i : Int) - 1 := IntWalk.i64_in _ (by omega)
      by_cases hxy : x = y
      · have hne : ((x : Int) != (y : Int)) = false := by simp [hxy]
        have HT := hid (HS.out hxy)
        clear HC HS hz hxy
        go_wp2
        go_quiet (fail)
        go_wp2
        go_roundw
        case rel => exact ⟨i, by omega, rfl, HT, HW.more _⟩
        case measure => simp [intOf]
      · have hne : ((x : Int) != (y : Int)) = true := by simp only [bne_iff_ne]; omega
        have HT := hid (HC.out hxy)
        clear HC HS hz hxy
        go_wp2
        go_quiet (fail)
        go_wp2
        go_quiet (fail)
        go_wp2
        go_ret
        exact ⟨decide (y < x), by simp, hid (decide_eq_decide.2 HT.out).symm, (HW.more _).more _⟩
end Go.Proofs.YtpaopdjbhmdfjaaDoor
