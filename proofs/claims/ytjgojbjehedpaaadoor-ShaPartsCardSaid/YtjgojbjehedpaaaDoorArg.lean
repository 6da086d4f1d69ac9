/- The law of parts, for every argument; how an array of two words of 16 bits is opened. -/
import Derived.Test.YtjgojbjehedpaaaDoorParts
import Derived.Lib.LaidTab
import Derived.OpenShut
import Derived.WideShapes
namespace Go.Proofs.YtjgojbjehedpaaaDoor
open Go.RowKit

theorem okWide_row {P : Program} {w : World} {r : Reach} {base : Nat} {t e : TypeId} {n : Nat} {v : Value} (ht : P.underlying t = some (.array n e)) (h : Value.okWide P w r base t v) : ∃ cs, v = .agg cs ∧ cs.size = P.cellsOf t := by
  simp only [Value.okWide, ht] at h
  obtain ⟨cs, h1, h2, _⟩ := h
  exact ⟨cs, h1, h2⟩
theorem open_two {H : Type} {enc : TypeId × Value → H} {P : Program} {w : World} {base : Nat} {sp : Nat → Bool} {held : Bool} {fuel : Nat} {t e : TypeId} {k : IntKind} {cs : List Value} {x : DataW H × List MemPlace}
    (ht : P.underlying t = some (.array 2 e)) (he : P.underlying e = some (.int k)) (hce : P.cellsOf e = 1) (hct : P.cellsOf t = 2) (h : DataW.trod enc P w base sp held fuel t cs = some x) :
    ∃ a b, cs = [.int k a, .int k b] ∧ (Lit.int k a).wf = true ∧ (Lit.int k b).wf = true := by
  cases fuel with
  | zero => simp [DataW.trod] at h
  | succ fuel =>
    simp only [DataW.trod, ht, hce, hct, Nat.mul_one] at h
    split at h
    · rename_i hl
      obtain ⟨xs, hm, _⟩ := Option.map_eq_some_iff.1 h
      obtain ⟨y0, _, h0⟩ := Lib.mapM_at hm 0 0 rfl
      obtain ⟨y1, _, h1⟩ := Lib.mapM_at hm 1 1 rfl
      obtain ⟨a, ha, _, wa⟩ := DataW.trod_int he h0
      obtain ⟨b, hb, _, wb⟩ := DataW.trod_int he h1
      refine ⟨a, b, ?_, wa, wb⟩
      match cs, hl, ha, hb with
      | [c0, c1], _, ha, hb => simp at ha hb; rw [ha, hb]
    · cases h

theorem shaParts_walk (w : World) (ht : Tabs w) (A : Option Addr) (c : Nat) (b : List Int) (hc : b.length ≤ c) (_ : c ≤ maxLen) (hx : ∀ x ∈ b, (Lit.int .u8 x).wf = true) (hA : Nums w .u8 A b)
    (a0 a1 : Int) (w0 : (Lit.int .u16 a0).wf = true) (w1 : (Lit.int .u16 a1).wf = true) (n : Int) (_ : (Lit.int .i64 n).wf = true) :
    Calls Tryd.prog 4 #[.slice A b.length c, .agg #[.int .u16 a0, .int .u16 a1], .int .i64 n] w fun e w' => e = .returned (.bool true) ∧ Below w.heap.size w w' := by
  have h0 := bounds_u16 w0
  have h1 := bounds_u16 w1
  by_cases hl : 600 < b.length
  · have hb0 := below_new w (.cells #[.int .u16 a0, .int .u16 a1] 32)
    have ht0 := ht.next hb0
    go_enter Tryd.func4, Tryd.ntmps4
    go_wp2_with (go_at_call 7; refine (awake_any _ ht0).mono ?_; rintro e w0 ⟨rfl, hb1⟩)
    go_ret
    exact ⟨rfl, hb0.trans (hb1.mono (by simp))⟩
  · exact parts_in w ht A c b (by omega) hc (byt_of_wf hx) hA a0 a1 n h0.1 (by omega) h1.1 (by omega)
end Go.Proofs.YtjgojbjehedpaaaDoor
