/- The reference's difference. -/
import Derived.Test.YtpaopdjbhmdfjaaDoorRefAM
namespace Go.Proofs.YtpaopdjbhmdfjaaDoor
open Go.RowKit
theorem dv_snoc (l : List Nat) (v : Nat) : dv (l ++ [v]) = dv l + v * 65536 ^ l.length := by
  induction l with
  | nil => simp [dv]
  | cons a l ih =>
    simp only [List.cons_append, dv, ih, List.length_cons, Nat.pow_succ]
    have e : v * (65536 ^ l.length * 65536) = 65536 * (v * 65536 ^ l.length) := by rw [← Nat.mul_assoc, Nat.mul_comm]
    omega
theorem digs_snoc {l : List Nat} {v : Nat} (h : Digs l) (hv : v < 65536) : Digs (l ++ [v]) := fun x hx => by
  rcases List.mem_append.1 hx with h1 | h1
  · exact h x h1
  · simp at h1; omega
/-- What has been taken away, digit by digit. -/
def LessI (l m ys : List Nat) (bo k : Nat) : Prop := ys.length = k ∧ Digs ys ∧ bo ≤ 1 ∧ dv ys + dv (m.take k) = dv (l.take k) + bo * 65536 ^ k
theorem LessI.step {l m ys : List Nat} {bo k d bo' : Nat} (h : LessI l m ys bo k) (h1 : k < l.length) (h2 : k < m.length) (hd : d < 65536) (hb : bo' ≤ 1) (he : d + m.getD k 0 + bo = l.getD k 0 + 65536 * bo') : LessI l m (ys ++ [d]) bo' (k + 1) := by
  obtain ⟨a, b, c, e⟩ := h
  have g1 : l[k]? = some (l.getD k 0) := by rw [List.getD_eq_getElem?_getD, List.getElem?_eq_getElem h1]; rfl
  have g2 : m[k]? = some (m.getD k 0) := by rw [List.getD_eq_getElem?_getD, List.getElem?_eq_getElem h2]; rfl
  refine ⟨by simp [a], digs_snoc b hd, hb, ?_⟩
  rw [dv_snoc, a, dv_take_succ l k _ g1, dv_take_succ m k _ g2, Nat.pow_succ]
  generalize l.getD k 0 = x at *
  generalize m.getD k 0 = y at *
  generalize 65536 ^ k = P at *
  have h3 : (d + y + bo) * P = (x + 65536 * bo') * P := by rw [he]
  have h4 : bo' * (P * 65536) = 65536 * bo' * P := by rw [Nat.mul_comm P, ← Nat.mul_assoc, Nat.mul_comm bo']
  rw [Nat.add_mul, Nat.add_mul, Nat.add_mul] at h3
  rw [h4]
  omega
theorem LessI.end_ {l m ys : List Nat} {bo L : Nat} (h : LessI l m ys bo L) (hl : l.length = L) (hm : m.length = L) (hle : dv m ≤ dv l) : dv ys = dv l - dv m := by
  obtain ⟨a, b, c, e⟩ := h
  rw [List.take_of_length_le (by omega), List.take_of_length_le (by omega)] at e
  have := dv_lt ys b
  rw [a] at this
  have hb : bo = 0 ∨ bo = 1 := by omega
  rcases hb with rfl | rfl
  · omega
  · omega
set_option maxRecDepth 4000 in
set_option maxHeartbeats 1000000 in
theorem le_any (A B : Option Addr) (cA cB L : Nat) (l m : List Nat) (w : World) (hl : l.length = L) (hm : m.length = L) (hn : L ≤ 1000) (dl : Digs l) (dm : Digs m) (hle : dv m ≤ dv l) (hA : Nums w .i64 A (nl l)) (hB : Nums w .i64 B (nl m)) :
    Calls Tryd.prog 53 #[.slice A L cA, .slice B L cB] w fun e w' => ∃ A' c ys, e = .returned (.slice A' L c) ∧ Hid (ys.length = L ∧ Digs ys ∧ dv ys = dv l - dv m) ∧ NumsF w.heap.size w' .i64 A' (nl ys) ∧ Below w.heap.size w w' := by
  have HL := hid hl
  have HM := hid hm
  have DL := hid dl
  have DM := hid dm
  have HLE := hid hle
  clear dl dm hl hm hle
  go_enter Tryd.func53, Tryd.ntmps53
  go_wp2
  go_loopw [5, 6, 7] (fun v b i wr => ∃ (k : Nat) (ys : List Nat) (bo : Nat) (R : Option Addr) (n c : Nat), k ≤ L ∧ v = .slice R n c ∧ b = .int .i64 bo ∧ i = .int .i64 k ∧ Hid (LessI l m ys bo k) ∧ Owns wr w.heap.size 3 .i64 (.slice R n c) (nl ys) ∧ Below w.heap.size w wr) (fun _ _ i _ => L - (intOf i).toNat)
  case atStart => exact ⟨0, [], 0, none, 0, 0, Nat.zero_le _, rfl, rfl, rfl, hid ⟨rfl, fun v hv => by simp at hv, by omega, by simp [dv]⟩, Owns.none_ _ _ _ _, Below.refl _ _⟩
  case round =>
    obtain ⟨k, ys, bo, R, n, c, hk, rfl, rfl, rfl, HI, hO, hb⟩ := hrel
    by_cases hlt : k < L
    · have hsz := hb.size
      have hil : k < l.length := by rw [HL.out]; omega
      have him : k < m.length := by rw [HM.out]; omega
      obtain ⟨g, o, rfl, _, cA0⟩ := (hA.below hb).num (by rw [nl_length, HL.out]; omega)
      obtain ⟨g2, o2, rfl, _, cB0⟩ := (hB.below hb).num (by rw [nl_length, HM.out]; omega)
      have cl := cA0 k _ (nl_at hil)
      have cm := cB0 k _ (nl_at him)
      have hx := getD_dig DL.out k
      have hy := getD_dig DM.out k
      have hbo := HI.out.2.2.1
      have HS : Hid (∀ d bo', d < 65536 → bo' ≤ 1 → d + m.getD k 0 + bo = l.getD k 0 + 65536 * bo' → LessI l m (ys ++ [d]) bo' (k + 1)) := hid fun d bo' h1 h2 h3 => HI.out.step hil him h1 h2 h3
      have HY : Hid ((nl ys).length = k) := hid (by rw [nl_length]; exact HI.out.1)
      clear cA0 cB0 hil him
      generalize l.getD k 0 = x at *
      generalize m.getD k 0 = y at *
      have k0 : (0 : Int) ≤ k := by omega
      have k1 : (k : Int) < L := by omega
      have w1 : IntKind.i64.wrap ((x : Int) - y) = (x : Int) - y := IntWalk.i64_in _ (by omega)
      have w2 : IntKind.i64.wrap ((x : Int) - y - bo) = (x : Int) - y - bo := IntWalk.i64_in _ (by omega)
      by_cases hneg : x < y + bo
      · obtain ⟨d, hd⟩ : ∃ d : Nat, d = x + 65536 - (y + bo) := ⟨_, rfl⟩
        have hz : (x : Int) - y - bo = (d : Int) - 65536 := by omega
        have hdl : d < 65536 := by omega
        have HT := hid (HS.out d 1 hdl (by omega) (by omega))
        have hdn : (d : Int) - 65536 < 0 := by omega
        have hdw : IntKind.i64.wrap ((d : Int) - 65536 + 65536) = d := by rw [IntWalk.i64_in _ (by omega)]; omega
        rw [hz] at w2
        clear HS hneg hd hx hy hbo hdl
        go_wp2
        go_quiet (fail)
        clear w1 w2 hz
        go_wp2_with (at_builtin; refine app_one _ rfl (.tmp 30) (.tmp 32) 32 rfl w.heap.size 3 .i64 8 Tryd.underlying32 Tryd.info3 R n c (nl ys) rfl (hO.drewN _) _ 1 rfl (by rw [HY.out]; omega) (by omega) (by simpa using hsz) ?_; intro A' n' c' w2 hO2 hb2)
        go_roundw
        case rel => exact ⟨k + 1, ys ++ [d], 1, A', n', c', by omega, rfl, rfl, by go_num, HT, by rw [← nl_snoc]; exact hO2, (below_drewN hb nq).trans hb2⟩
        case measure => simp [intOf]; omega
      · obtain ⟨d, hd⟩ : ∃ d : Nat, d = x - (y + bo) := ⟨_, rfl⟩
        have hz : (x : Int) - y - bo = (d : Int) := by omega
        have hdl : d < 65536 := by omega
        have HT := hid (HS.out d 0 hdl (by omega) (by omega))
        have hdn : ¬ (d : Int) < 0 := by omega
        rw [hz] at w2
        clear HS hneg hd hx hy hbo hdl
        go_wp2
        go_quiet (fail)
        clear w1 w2 hz
        go_wp2_with (at_builtin; refine app_one _ rfl (.tmp 30) (.tmp 32) 32 rfl w.heap.size 3 .i64 8 Tryd.underlying32 Tryd.info3 R n c (nl ys) rfl (hO.drewN _) _ 1 rfl (by rw [HY.out]; omega) (by omega) (by simpa using hsz) ?_; intro A' n' c' w2 hO2 hb2)
        go_roundw
        case rel => exact ⟨k + 1, ys ++ [d], 0, A', n', c', by omega, rfl, rfl, by go_num, HT, by rw [← nl_snoc]; exact hO2, (below_drewN hb nq).trans hb2⟩
        case measure => simp [intOf]; omega
    · have e : k = L := by omega
      subst e
      have hm := hO.len
      rw [nl_length, HI.out.1] at hm
      subst hm
      have HE : Hid (dv ys = dv l - dv m) := hid (HI.out.end_ HL.out HM.out HLE.out)
      go_wp2
      go_ret
      exact ⟨R, c, ys, rfl, hid ⟨HI.out.1, HI.out.2.1, HE.out⟩, hO.fresh, hb⟩
end Go.Proofs.YtpaopdjbhmdfjaaDoor
