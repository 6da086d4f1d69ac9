/- What the listed variables and the arguments give the walks. -/
import Derived.Test.YtihipgojeikdkaaDoorG7
import Derived.Test.YtihipgojeikdkaaDoorVTagsM
import Derived.Test.YtihipgojeikdkaaDoorVKeysM
import Derived.Test.YtihipgojeikdkaaDoorVBackMM
import Derived.Lib.LaidTab
import Derived.Deep.Matrix
import Derived.OpenShut
import Derived.WideShapes
namespace Go.Proofs.YtihipgojeikdkaaDoor
open Go.RowKit

theorem gFirst : Tryd.prog.globalNamed "bastille/sha.first" = some 0 := by kernel_rfl
theorem gKinds : Tryd.prog.globalNamed "bastille/sha.kinds" = some 1 := by kernel_rfl
theorem gFirstType : (Tryd.prog.globals[0]?).map (·.type) = some 64 := by kernel_rfl
theorem gKindsType : (Tryd.prog.globals[1]?).map (·.type) = some 79 := by kernel_rfl
theorem cellsFirst : Tryd.prog.cellsOf 64 = 8 := by kernel_rfl
theorem cellsKinds : Tryd.prog.cellsOf 79 = 80 := by kernel_rfl
theorem cellsWord : Tryd.prog.cellsOf 61 = 1 := by kernel_rfl
def tables : List (String × DataW Unit) := [("bastille/sha.first", Lib.tabData .u64 FIRST), ("bastille/sha.kinds", Lib.tabData .u64 KINDS)]
theorem tabs_of {W : World} (h : laidMet Tryd.prog tables W) : TabsH W := by
  have hw : Lib.TabIs Tryd.prog W "bastille/sha.first" .u64 FIRST := Lib.tabIs_of_head gFirst gFirstType Tryd.underlying64 Tryd.underlying61 cellsWord cellsFirst h
  have hm : Lib.TabIs Tryd.prog W "bastille/sha.kinds" .u64 KINDS := by
    obtain ⟨ps, ⟨_, _, _, _, _, _, _, _, _, _, ⟨g', t', cs, fuel, p, q, hg', ht', hvar, hd, _, _⟩, _⟩, _⟩ := h
    obtain rfl := Option.some.inj (gKinds.symm.trans hg')
    obtain rfl := Option.some.inj (gKindsType.symm.trans ht')
    unfold Lib.TabIs
    rw [hvar, ← Lib.cells_of_tab Tryd.underlying79 Tryd.underlying61 cellsWord cellsKinds hd]
  refine ⟨⟨?_, ?_⟩, fun i x hi => ?_, fun i x hi => ?_⟩
  · exact World.block_lt_of_cell? _ _ (hm.cell gKinds 0 (by decide))
  · exact World.block_lt_of_cell? _ _ (hw.cell gFirst 0 (by decide))
  · have hl := (List.getElem?_eq_some_iff.1 hi).1
    have := hm.cell gKinds i hl
    rw [this]
    simp [List.getD, hi]
  · have hl := (List.getElem?_eq_some_iff.1 hi).1
    have := hw.cell gFirst i hl
    rw [this]
    simp [List.getD, hi]
theorem tabs_tags {W : World} (h : laidMetH Tryd.prog Rows.deriveTagsRow.laid W) : TabsH W := tabs_of h
theorem tabs_keys {W : World} (h : laidMetH Tryd.prog Rows.deriveKeysRow.laid W) : TabsH W := tabs_of h
theorem tabs_back {W : World} (h : laidMetH Tryd.prog Rows.deriveBackRow.laid W) : TabsH W := tabs_of h
/-- Contexts that came in. -/
theorem open_parts {H : Type} {enc : TypeId × Value → H} {w : World} {base : Nat} {held : Bool} {fuel : Nat} {cs : List Value} {x : DataW H × List MemPlace} (h : DataW.trod enc Tryd.prog w base (fun _ => true) held fuel 29 cs = some x) :
    ∃ (PA : Option Addr) (pc : Nat) (ps : List Part), cs = [.slice PA ps.length pc] ∧ Parts w PA ps ∧ ∀ q ∈ ps, PartW w q := by
  rcases Deep.open_int_rows (t := 29) (e := 22) (q := 5) (k := .u8) (by kernel_rfl) (by kernel_rfl) (by kernel_rfl) (by kernel_rfl) (by kernel_rfl) h with ⟨hcs, _⟩ | ⟨a, len, cap, A, L, C, Z, hcs, _, hl, hm, _, hr⟩
  · exact ⟨none, 0, [], hcs, fun h => absurd h (by simp), fun q hq => absurd hq (by simp)⟩
  · have each : ∀ r, r < len → ∃ y : Part, w.cell? (a.add r) = some (.slice y.1 y.2.2.length y.2.1) ∧ PartW w y := fun r hlt => by
      obtain ⟨h1, h2, h3, h4, h5, h6, h7⟩ := hr r (by omega)
      cases hA : A r with
      | none =>
        have hc := h6 hA
        have hL : L r = 0 := by omega
        refine ⟨(none, 0, []), ?_, Nums.nil, Nat.zero_le _, fun x hx => absurd hx (by simp)⟩
        rw [h1, hA, hL, hc]
        rfl
      | some a' =>
        obtain ⟨xs, e1, e2, _, e4, e5⟩ := Nums.opened (k := .u8) h2 h3 h4 (fun i hi => (h7 a' hA).2 i (by omega)) h5
        refine ⟨(some a', C r, xs), ?_, e5, e2, hbyt_of_wf e4⟩
        rw [h1, hA, e1]
    obtain ⟨y, hy⟩ := Deep.choose_lt each
    refine ⟨some a, cap, (List.range len).map y, by rw [hcs]; simp, fun hp => ?_, fun q hq => ?_⟩
    · have hlen : 0 < len := by simpa using hp
      obtain ⟨b, off, spot⟩ := a
      have h0 := (hy 0 hlen).1
      have hspot : spot = none := by simpa [Addr.add] using World.cell?_spot h0
      subst hspot
      rw [Addr.add_mid, Nat.add_zero] at h0
      refine ⟨b, off, rfl, World.block_lt_of_cell? w _ h0, fun i q hi => ?_⟩
      have hil : i < len := by have := (List.getElem?_eq_some_iff.1 hi).1; simpa using this
      have h2 := (hy i hil).1
      rw [Addr.add_mid] at h2
      rw [List.getElem?_map, List.getElem?_range hil] at hi
      simp at hi
      rw [h2, hi]
    · obtain ⟨i, hi, rfl⟩ := List.mem_map.1 hq
      exact (hy i (List.mem_range.1 hi)).2
theorem deriveTags_walk (w : World) (ht : TabsH w) (A0 : Option Addr) (c0 : Nat) (b0 : List Int) (hc0 : b0.length ≤ c0) (_ : c0 ≤ maxLen) (hx0 : ∀ x ∈ b0, (Lit.int .u8 x).wf = true) (hA0 : Nums w .u8 A0 b0)
    (A1 : Option Addr) (c1 : Nat) (b1 : List Int) (hc1 : b1.length ≤ c1) (_ : c1 ≤ maxLen) (hx1 : ∀ x ∈ b1, (Lit.int .u8 x).wf = true) (hA1 : Nums w .u8 A1 b1) (a : Int) (ha : (Lit.int .u16 a).wf = true) :
    Calls Tryd.prog 3 #[.slice A0 b0.length c0, .slice A1 b1.length c1, .int .u16 a] w fun e w' => e = .returned (.bool true) ∧ Below w.heap.size w w' := by
  have h0 := bounds_u16 ha
  exact tags_any A0 A1 c0 c1 b0 b1 a w ht hc0 (hbyt_of_wf hx0) hA0 hc1 (hbyt_of_wf hx1) hA1 h0.1 (by omega)
theorem deriveKeys_walk (w : World) (ht : TabsH w) (A0 : Option Addr) (c0 : Nat) (b0 : List Int) (hc0 : b0.length ≤ c0) (_ : c0 ≤ maxLen) (hx0 : ∀ x ∈ b0, (Lit.int .u8 x).wf = true) (hA0 : Nums w .u8 A0 b0)
    (s : ByteArray) (_ : s.size ≤ maxLen) (A2 : Option Addr) (c2 : Nat) (ps : List Part) (hP : Parts w A2 ps) (hW : ∀ q ∈ ps, PartW w q) :
    Calls Tryd.prog 4 #[.slice A0 b0.length c0, .string s, .slice A2 ps.length c2] w fun e w' => e = .returned (.bool true) ∧ Below w.heap.size w w' :=
  keys_any b0 A0 A2 b0.length c0 ps.length c2 s ps w ht (hid rfl) hc0 (hbyt_of_wf hx0) hA0 hP (hid rfl) hW
theorem deriveBack_walk (w : World) (ht : TabsH w) (st : List Int) (hl : st.length = 32) (hx : ∀ x ∈ st, (Lit.int .u8 x).wf = true) (n : Int) (_ : (Lit.int .i64 n).wf = true) (k : Int) (_ : (Lit.int .i64 k).wf = true) :
    Calls Tryd.prog 5 #[.agg (ints .u8 st).toArray, .int .i64 n, .int .i64 k] w fun e w' => e = .returned (.bool true) ∧ Below w.heap.size w w' := by
  have hb := hbyt_of_wf hx
  by_cases g1 : 40 < n ∧ n ≤ 4096
  · exact back_long_a st n k w ht g1
  by_cases g2 : 40 < k ∧ k ≤ 4096
  · by_cases g3 : n ≤ 40
    · exact back_long_b st n k w ht ⟨g3, g2⟩
    · exact back_long_c st n k w ht ⟨by omega, g2⟩
  by_cases g3 : n < 0
  · by_cases g4 : k ≤ 40
    · exact back_bad_a st n k w ht (hid hl) ⟨g3, g4⟩
    · exact back_bad_b st n k w ht (hid hl) ⟨g3, by omega⟩
  by_cases g4 : 4096 < n
  · by_cases g5 : k ≤ 40
    · exact back_bad_c st n k w ht (hid hl) ⟨g4, g5⟩
    · exact back_bad_d st n k w ht (hid hl) ⟨g4, by omega⟩
  obtain ⟨N, rfl⟩ := Int.eq_ofNat_of_zero_le (show 0 ≤ n by omega)
  by_cases g5 : N = 0
  · subst g5
    by_cases g6 : k ≤ 40
    · exact back_zero_l st k w ht (hid hl) hb g6
    · exact back_zero_h st k w ht (hid hl) hb (by omega)
  · by_cases g6 : k ≤ 40
    · exact back_some_l st (backV st N) N k w ht (hid hl) hb (by omega) (by omega) g6 (hid rfl) (hid (backV_len hl N))
    · exact back_some_h st (backV st N) N k w ht (hid hl) hb (by omega) (by omega) (by omega) (hid rfl) (hid (backV_len hl N))
end Go.Proofs.YtihipgojeikdkaaDoor
