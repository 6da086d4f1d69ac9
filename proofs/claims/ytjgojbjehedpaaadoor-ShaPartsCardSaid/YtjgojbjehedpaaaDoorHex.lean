/- Hexadecimal digits. -/
import Derived.Test.YtjgojbjehedpaaaDoorApp
import Derived.Test.YtjgojbjehedpaaaDoorQTail
import Derived.Test.YtjgojbjehedpaaaDoorMath
import Derived.Test.YtjgojbjehedpaaaDoorRows
import Derived.Laws.BytesArg
namespace Go.Proofs.YtjgojbjehedpaaaDoor
open Go.RowKit

def DIG : List Int := [48, 49, 50, 51, 52, 53, 54, 55, 56, 57, 97, 98, 99, 100, 101, 102]
def DIGS : ByteArray := ⟨#[48, 49, 50, 51, 52, 53, 54, 55, 56, 57, 97, 98, 99, 100, 101, 102]⟩
def hexB (b : List Int) : List Int := b.flatMap fun c => [DIG.getD (c / 16).toNat 0, DIG.getD (c % 16).toNat 0]
theorem hexB_length (b : List Int) : (hexB b).length = 2 * b.length := by
  induction b with
  | nil => rfl
  | cons c b ih => rw [show hexB (c :: b) = [DIG.getD (c / 16).toNat 0, DIG.getD (c % 16).toNat 0] ++ hexB b from rfl, List.length_append, ih]; simp; omega
theorem hexB_app (a b : List Int) : hexB (a ++ b) = hexB a ++ hexB b := by simp [hexB]
theorem hexB_at (b : List Int) {i : Nat} {x : Int} (h : b[i]? = some x) : (hexB b)[2 * i]? = some (DIG.getD (x / 16).toNat 0) ∧ (hexB b)[2 * i + 1]? = some (DIG.getD (x % 16).toNat 0) := by
  have hi := (List.getElem?_eq_some_iff.1 h).1
  have e : b = b.take i ++ ([x] ++ b.drop (i + 1)) := by
    have h1 := take_succ_at h
    rw [← List.append_assoc, ← h1, List.take_append_drop]
  have hl : (hexB (b.take i)).length = 2 * i := by rw [hexB_length]; simp; omega
  rw [e, hexB_app, hexB_app]
  have e2 : hexB [x] = [DIG.getD (x / 16).toNat 0, DIG.getD (x % 16).toNat 0] := rfl
  rw [e2]
  constructor
  · rw [List.getElem?_append_right (by omega), hl, Nat.sub_self]; rfl
  · rw [List.getElem?_append_right (by omega), hl, Nat.add_sub_cancel_left]; rfl
theorem idx_dig (u : Int) (h0 : 0 ≤ u) (h1 : u < 16) (W : World) : (Instr.index 9 (.string DIGS) (.int .u8 u)).run Tryd.prog W = .ok (.int .u8 (DIG.getD u.toNat 0)) W := by
  have : u = 0 ∨ u = 1 ∨ u = 2 ∨ u = 3 ∨ u = 4 ∨ u = 5 ∨ u = 6 ∨ u = 7 ∨ u = 8 ∨ u = 9 ∨ u = 10 ∨ u = 11 ∨ u = 12 ∨ u = 13 ∨ u = 14 ∨ u = 15 := by omega
  rcases this with rfl | rfl | rfl | rfl | rfl | rfl | rfl | rfl | rfl | rfl | rfl | rfl | rfl | rfl | rfl | rfl <;> rfl
theorem and15 (x : Int) (h0 : 0 ≤ x) (h1 : x < 256) : bits .and .u8 x 15 = x % 16 := by
  have h := bits_mask .u8 8 (by decide) (fun n hn hn2 => IntWalk.u8_in _ (by omega)) 4 (by omega) x h0 (by omega)
  simpa using h
theorem Tryd.infoU8 : (Tryd.prog.info? 5).map (fun i => (i.zero, i.size, i.bytes)) = some (some (.int .u8 0), 1, 1) := by kernel_rfl

theorem conv_own {w : World} {base : Nat} {B : Option Addr} {n d : Nat} {xs : List Int} (h : Owns w base 5 .u8 (.slice B n d) xs) : (convert 22 9 (.slice B n d)).run Tryd.prog w = .ok (.string (strOfNums xs)) w := by
  have hn := h.len
  have hN := h.nums
  subst hn
  cases B with
  | none =>
    have h0 : xs = [] := by
      cases xs with
      | nil => rfl
      | cons x xs => obtain ⟨_, _, e, _⟩ := hN (by simp); cases e
    subst h0
    rw [run_convert_bytes_nil w 22 5 Tryd.underlying22 Tryd.underlying5 _ _ 9 Tryd.underlying9]
    rfl
  | some a =>
    obtain ⟨g, o, e⟩ : ∃ g o, a = ⟨g, o, none⟩ := by
      rcases h.2 with ⟨hv, _⟩ | ⟨g, cap, cur, hv, _⟩
      · injection hv with h1; cases h1
      · injection hv with h1; injection h1 with h1; exact ⟨g, 0, h1⟩
    subst e
    refine run_convert_bytes_arg w 22 5 Tryd.underlying22 Tryd.underlying5 g o xs.length d xs rfl (fun i hi => ?_) 9 Tryd.underlying9
    obtain ⟨b, off, e, _, hc⟩ := hN (by omega)
    injection e with e; injection e with e1 e2
    subst e1; subst e2
    exact hc i hi

set_option maxHeartbeats 1000000 in
theorem hex_any (A : Option Addr) (c : Nat) (b : List Int) (w : World) (hl : b.length ≤ 1000) (hby : Byt b) (hA : Nums w .u8 A b) :
    Calls Tryd.prog 12 #[.slice A b.length c] w fun e w' => e = .returned (.string (strOfNums (hexB b))) ∧ Below w.heap.size w w' := by
  obtain ⟨i0, hi0, hz0, hz1, hz2⟩ := info_parts Tryd.infoU8
  have HB2 : Hid (i0.bytes = 1) := hz2
  clear hz2
  go_enter Tryd.func12, Tryd.ntmps12
  go_wp2_with (at_make; refine wpList_make_own _ rfl _ _ 22 rfl w.heap.size 5 i0 _ 1 Tryd.underlying22 hi0 hz0 hz1 .i64 .i64 _ (2 * b.length) rfl rfl ?_ ?_ ?_ ?_ ?_)
  · omega
  · rw [HB2.out]; omega
  · unfold maxLen; omega
  · omega
  intro w1 hown hgrow
  have hb1 : Below w.heap.size w w1 := (Below.refl _ _).grown hgrow (Nat.le_refl _) (by simp)
  have hO : Owns w1 w.heap.size 5 .u8 (.slice (some ⟨w.heap.size, 0, none⟩) 0 (2 * b.length)) (hexB (b.take 0)) := hown
  clear hown hgrow
  go_wp2
  go_loopw [3, 12] (fun v i wr => ∃ (k : Nat) (B : Option Addr) (n d : Nat), k ≤ b.length ∧ i = .int .i64 k ∧ v = .slice B n d ∧ Owns wr w.heap.size 5 .u8 (.slice B n d) (hexB (b.take k)) ∧ Below w.heap.size w wr) (fun _ i _ => b.length - (intOf i).toNat)
  case atStart => exact ⟨0, _, _, _, Nat.zero_le _, rfl, rfl, hO, hb1⟩
  case round =>
    clear hb1 hO
    obtain ⟨k, B, n, d, hk, rfl, rfl, hO, hb⟩ := hrel
    by_cases hlt : k < b.length
    · obtain ⟨b1, o1, x, rfl, _, hc1, H1⟩ := (hA.below hb).get hlt
      have hxb := hby.at_ H1.out
      have hx0 := hxb.1
      have hx1 := hxb.2
      have hpos : (0 : Int) ≤ k := by omega
      have hlt' : (k : Int) < b.length := by omega
      have hxl : (hexB (b.take k)).length ≤ 2000 := by rw [hexB_length]; simp; omega
      have hi1 := idx_dig (x / 16) (by omega) (by omega)
      have hi2 := idx_dig (x % 16) (by omega) (by omega)
      have hnext : Hid (hexB (b.take (k + 1)) = hexB (b.take k) ++ [DIG.getD (x / 16).toNat 0, DIG.getD (x % 16).toNat 0]) := by show _ = _; rw [take_succ_at H1.out, hexB_app]; rfl
      have ha := and15 x hx0 hx1
      generalize DIG.getD (x / 16).toNat 0 = y1 at *
      generalize DIG.getD (x % 16).toNat 0 = y2 at *
      unfold DIGS at hi1 hi2
      go_wp2
      refine region_quiet_tail_one 7 (fun w' => ∃ j, w' = wr.drewN j) (.slice B n d) (by kernel_rfl) (by kernel_rfl) (by kernel_rfl) (fun _ _ _ h => h) (Or.inl ⟨rfl, fun w => by go_simp⟩) ⟨1, rfl⟩ ?_
      simp only [List.take_succ_cons, List.take_zero, List.drop_succ_cons, List.drop_zero, Nat.reduceSub]
      go_simp
      repeat (quiet_step (fail))
      refine wpQuiet_nil ?_
      intro nq
      replace hO := hO.drewN nq
      replace hb := below_drewN hb nq
      clear hc1
      generalize wr.drewN nq = wz at *
      go_wp2_with (at_builtin; refine app_nums rfl (.tmp 16) (.tmp 23) 22 rfl w.heap.size 5 .u8 1 Tryd.underlying22 Tryd.infoU8 (by omega) B n d (hexB (b.take k)) rfl (hO.alloc _) _ 2 [y1, y2] rfl (nums_two _ _ _ _ _) (by simp; omega) (by have := hb.size; simp; omega) ?_; intro A2 n2 c2 w2 hO2 hG2)
      go_roundw
      case rel =>
        rw [← hnext.out] at hO2
        exact ⟨k + 1, A2, n2, c2, by omega, by go_num, rfl, hO2, (hb.alloc hb.size _).trans (hG2.below (by have := hb.size; simp; omega) (fun g hg => (hO.lt g hg).1))⟩
      case measure => simp [intOf]; omega
    · have e : k = b.length := by omega
      rw [e, List.take_length] at hO
      have hn := hO.len
      subst hn
      have hbk : (b.length : Int) ≤ k := by omega
      have hcv := conv_own hO
      clear e hlt hk
      go_wp2
      go_ret
      exact ⟨rfl, hb⟩
end Go.Proofs.YtjgojbjehedpaaaDoor
