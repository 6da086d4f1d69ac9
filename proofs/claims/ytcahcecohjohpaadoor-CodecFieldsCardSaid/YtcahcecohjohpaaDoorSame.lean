/- Equality of bytes and of values. -/
import Derived.Test.YtcahcecohjohpaaDoorEncodes
import Derived.Laws.BytesArg
import Derived.Lib.Bytes
import Derived.StillTailTactics
namespace Go.Proofs.YtcahcecohjohpaaDoor
open Go.RowKit

set_option maxHeartbeats 400000 in
theorem wsame_any (A B : Option Addr) (c d : Nat) (xs ys : List Int) (w : World) (hm : xs.length ≤ maxLen) (hA : Nums w .u8 A xs) (hB : Nums w .u8 B ys) :
    Calls Tryd.prog 14 #[.slice A xs.length c, .slice B ys.length d] w fun e w' => e = .returned (.bool (decide (xs = ys))) ∧ Below w.heap.size w w' := by
  by_cases he : xs = ys
  · rw [decide_eq_true he]; exact same_eq A B c d xs ys w he hm hA hB
  have HE := hid he
  rw [decide_eq_false he]
  clear he
  unfold maxLen at hm
  by_cases hl : xs.length = ys.length
  · have hlb : ((xs.length : Int) != (ys.length : Int)) = false := by simp [hl]
    have HL := hid hl
    clear hl
    go_enter Tryd.func14, Tryd.ntmps14
    go_wp2
    go_loopw [5] (fun i wr => ∃ k : Nat, k ≤ xs.length ∧ i = .int .i64 k ∧ Hid (xs.take k = ys.take k) ∧ Below w.heap.size w wr) (fun i _ => xs.length - (intOf i).toNat)
    case atStart => exact ⟨0, Nat.zero_le _, rfl, hid rfl, Below.refl _ _⟩
    case round =>
      obtain ⟨k, hk, rfl, HT, hb⟩ := hrel
      by_cases hlt : k < xs.length
      · obtain ⟨b1, o1, x, rfl, _, hc1, H1⟩ := (hA.below hb).get hlt
        obtain ⟨b2, o2, y, rfl, _, hc2, H2⟩ := (hB.below hb).get (by rw [← HL.out]; exact hlt)
        have hpos : (0 : Int) ≤ k := by omega
        have hlt' : (k : Int) < xs.length := by omega
        have hlt2 : (k : Int) < ys.length := by rw [← HL.out]; exact hlt'
        by_cases hxy : x = y
        · have hxb : (x != y) = false := by simp [hxy]
          have HXY := hid hxy
          clear hxy
          go_wp2
          go_quiet (fail)
          go_wp2
          go_roundw
          case rel =>
            refine ⟨k + 1, by omega, by go_num, hid ?_, below_drewN hb _⟩
            rw [take_succ_at H1.out, take_succ_at H2.out, HT.out, HXY.out]
          case measure => simp [intOf]; omega
        · have hxb : (x != y) = true := by simp [hxy]
          clear hxy
          go_wp2
          go_quiet (fail)
          go_wp2
          go_ret
          exact ⟨rfl, below_drewN hb _⟩
      · exfalso
        have e : k = xs.length := by omega
        subst e
        have := HT.out
        rw [List.take_length, HL.out, List.take_length] at this
        exact HE.out this
  · have hlb : ((xs.length : Int) != (ys.length : Int)) = true := by
      simp; omega
    clear hl
    go_enter Tryd.func14, Tryd.ntmps14
    go_wp2
    go_ret
    exact ⟨rfl, Below.refl _ _⟩

theorem str_inj {xs ys : List Int} (hx : Byt xs) (hy : Byt ys) : ((strOfNums xs).toList == (strOfNums ys).toList) = decide (xs = ys) := by
  rw [Lib.strOfNums_toList, Lib.strOfNums_toList, Bool.eq_iff_iff, beq_iff_eq, decide_eq_true_iff]
  refine ⟨fun h => ?_, fun h => by rw [h]⟩
  have hl : xs.length = ys.length := by have := congrArg List.length h; simpa [Lib.bytesOf] using this
  apply List.ext_getElem hl
  intro i h1 h2
  have hi := congrArg (·[i]?) h
  simp [Lib.bytesOf, h1, h2] at hi
  have b1 := hx _ (List.getElem_mem h1)
  have b2 := hy _ (List.getElem_mem h2)
  have hn := congrArg UInt8.toNat hi
  simp only [UInt8.toNat_ofNat'] at hn
  omega
theorem conv_bytes (A : Option Addr) (c : Nat) (xs : List Int) (w : World) (hA : Nums w .u8 A xs) : (convert 22 9 (.slice A xs.length c)).run Tryd.prog w = .ok (.string (strOfNums xs)) w := by
  by_cases h0 : xs.length = 0
  · obtain rfl := List.eq_nil_of_length_eq_zero h0
    rw [List.length_nil, run_convert_bytes_string w 22 9 5 A 0 c Tryd.underlying22 Tryd.underlying5 Tryd.underlying9]
    cases A <;> simp [Conv.bytesToString, loadCells]
    all_goals rfl
  · obtain ⟨b, off, rfl, _, hc⟩ := hA (by omega)
    exact run_convert_bytes_arg (P := Tryd.prog) w 22 5 Tryd.underlying22 Tryd.underlying5 b off xs.length c xs rfl hc 9 Tryd.underlying9
theorem beq_any (A B : Option Addr) (c d : Nat) (xs ys : List Int) (w : World) (hx : Byt xs) (hy : Byt ys) (hA : Nums w .u8 A xs) (hB : Nums w .u8 B ys) :
    Calls Tryd.prog 29 #[.slice A xs.length c, .slice B ys.length d] w fun e w' => e = .returned (.bool (decide (xs = ys))) ∧ w = w' := by
  have h1 := conv_bytes A c xs w hA
  have h2 := conv_bytes B d ys w hB
  have HI := hid (str_inj hx hy)
  go_enter Tryd.func29, Tryd.ntmps29
  go_wp2
  go_ret
  exact ⟨ret_bool HI.out, rfl⟩

mutual
def sameV : V → V → Bool
  | .mk k n b l, .mk k' n' b' l' => decide (k = k') && decide (n = n') && decide (b = b') && sameL l l'
def sameL : List V → List V → Bool
  | [], [] => true
  | x :: l, y :: l' => sameV x y && sameL l l'
  | [], _ :: _ => false
  | _ :: _, [] => false
end
mutual
theorem sameV_refl : ∀ v : V, sameV v v = true
  | .mk k n b l => by rw [sameV, sameL_refl l]; simp
theorem sameL_refl : ∀ l : List V, sameL l l = true
  | [] => rfl
  | x :: l => by rw [sameL, sameV_refl x, sameL_refl l]; rfl
end
theorem sameL_len : ∀ (l l' : List V), l.length ≠ l'.length → sameL l l' = false
  | [], [], h => absurd rfl h
  | [], _ :: _, _ => rfl
  | _ :: _, [], _ => rfl
  | x :: l, y :: l', h => by rw [sameL, sameL_len l l' (fun e => h (by simp [e])), Bool.and_false]

theorem Box4.cells2 {w wr : World} {v0 v1 v2 v3 : Value} {t : TypeId} {o : Obj} (h : Box4 (w.alloc o) v0 v1 v2 v3 t wr) :
    wr.cell? ⟨w.heap.size + 1, 0, none⟩ = some v0 ∧ wr.cell? ⟨w.heap.size + 1, 1, none⟩ = some v1 ∧ wr.cell? ⟨w.heap.size + 1, 2, none⟩ = some v2 ∧ wr.cell? ⟨w.heap.size + 1, 3, none⟩ = some v3 ∧ w.heap.size + 1 < wr.heap.size := by
  have h1 := h.cells
  have h2 := h.lt
  have e : (w.alloc o).heap.size = w.heap.size + 1 := by simp
  rw [e] at h1 h2
  exact ⟨h1.1, h1.2.1, h1.2.2.1, h1.2.2.2, h2⟩

/-- What a boolean answer is, and that nothing old has turned. -/
def Says (r : Bool) (w : World) (e : Ending) (w' : World) : Prop := e = .returned (.bool r) ∧ Below w.heap.size w w'

end Go.Proofs.YtcahcecohjohpaaDoor
