/- What the listed variable gives the walks; the case that comes in, opened. -/
import Derived.Test.YtpiamcgienkhaaaDoorG14
import Derived.Test.YtpiamcgienkhaaaDoorOpenArr
import Derived.Test.YtpiamcgienkhaaaDoorRows
import Derived.Lib.LaidTab
import Derived.OpenShut
namespace Go.Proofs.YtpiamcgienkhaaaDoor
open Go.RowKit Go.ChangeShapes Go.WideShapes

set_option maxRecDepth 50000 in
theorem fours {α : Type} (f : Nat → List α) : ∀ (m : Nat) (l : List α), l.length = 4 * m → (∀ i, i < m → (l.drop (i * 4)).take 4 = f i) → l = (List.range m).flatMap f
  | 0, l, h, _ => by simpa using h
  | m + 1, l, h, hf => by
    have h1 := fours (fun i => f (i + 1)) m (l.drop 4) (by rw [List.length_drop]; omega) (fun i hi => by
      have := hf (i + 1) (by omega)
      rw [List.drop_drop]
      rw [show 4 + i * 4 = (i + 1) * 4 by omega]
      exact this)
    have h0 := hf 0 (by omega)
    rw [Nat.zero_mul, List.drop_zero] at h0
    rw [List.range_succ_eq_map, List.flatMap_cons, ← h0, List.flatMap_map]
    have e : l = l.take 4 ++ l.drop 4 := (List.take_append_drop 4 l).symm
    rw [h1] at e
    exact e
set_option maxRecDepth 50000 in
theorem cells_of_tab2 {H : Type} {enc : TypeId × Value → H} {P : Program} {w : World} {base : Nat} {sp : Nat → Bool} {held : Bool} {fuel : Nat} {t u e m : TypeId} {cs : List Value} {k : IntKind} {rows : List (List Int)} {p : List MemPlace}
    (ht : P.underlying t = some (.array m u)) (hu : P.underlying u = some (.array 4 e)) (he : P.underlying e = some (.int k)) (hce : P.cellsOf e = 1) (hcu : P.cellsOf u = 4) (hct : P.cellsOf t = 4 * m)
    (h : DataW.trod enc P w base sp held fuel t cs = some (.agg (rows.map (Lib.tabData k)), p)) : cs = (List.range m).flatMap fun i => (rows.getD i []).map (Value.int k) := by
  obtain ⟨xs, n, rfl, hx, hl, hn, hall⟩ := DataW.trod_array ht h
  rw [hct] at hl
  injection hx with hx1 hx2
  injection hx1 with hx1
  refine fours _ m cs hl fun i hi => ?_
  have h1 := hall i hi
  rw [hcu] at h1
  have h2 : xs[i]? = some xs[i] := by simp
  rw [h2] at h1
  have h3 : (xs[i]).1 = Lib.tabData k (rows.getD i []) := by
    have e3 := congrArg (·[i]?) hx1
    simp only [List.getElem?_map, h2, Option.map_some] at e3
    cases hr : rows[i]? with
    | none => rw [hr] at e3; simp at e3
    | some r =>
      rw [hr] at e3
      simp only [Option.map_some, Option.some.injEq] at e3
      rw [List.getD_eq_getElem?_getD, hr]
      exact e3.symm
  have h4 : xs[i] = (Lib.tabData k (rows.getD i []), (xs[i]).2) := by rw [← h3]
  rw [h4] at h1
  exact Lib.cells_of_tab hu he hce hcu h1
def QROWS : List (List Int) := [[0, 4, 8, 12], [1, 5, 9, 13], [2, 6, 10, 14], [3, 7, 11, 15], [0, 5, 10, 15], [1, 6, 11, 12], [2, 7, 8, 13], [3, 4, 9, 14]]
set_option maxRecDepth 50000 in
theorem gQ : Tryd.prog.globalNamed "bastille/chacha.quarters" = some 0 := by kernel_rfl
set_option maxRecDepth 50000 in
theorem gQType : (Tryd.prog.globals[0]?).map (·.type) = some 79 := by kernel_rfl
set_option maxRecDepth 50000 in
theorem under61 : Tryd.prog.underlying 79 = some (.array 8 78) := by kernel_rfl
set_option maxRecDepth 50000 in
theorem under60 : Tryd.prog.underlying 78 = some (.array 4 3) := by kernel_rfl
set_option maxRecDepth 50000 in
theorem under3 : Tryd.prog.underlying 3 = some (.int .i64) := by kernel_rfl
set_option maxRecDepth 50000 in
theorem cells61 : Tryd.prog.cellsOf 79 = 4 * 8 := by kernel_rfl
set_option maxRecDepth 50000 in
theorem cells60 : Tryd.prog.cellsOf 78 = 4 := by kernel_rfl
set_option maxRecDepth 50000 in
theorem cells3 : Tryd.prog.cellsOf 3 = 1 := by kernel_rfl
set_option maxRecDepth 50000 in
theorem tabs_of {W : World} (h : laidMet Tryd.prog [("bastille/chacha.quarters", .agg (QROWS.map (Lib.tabData .i64)))] W) : Tabs W := by
  obtain ⟨ps, ⟨g0, t0, cs0, f0, p0, q0, hg0, ht0, hv0, hd0, _, _⟩, _⟩ := h
  obtain rfl := Option.some.inj (gQ.symm.trans hg0)
  obtain rfl := Option.some.inj (gQType.symm.trans ht0)
  have hm : Lib.TabIs Tryd.prog W "bastille/chacha.quarters" .i64 QT := by
    unfold Lib.TabIs
    have e := cells_of_tab2 under61 under60 under3 cells3 cells60 cells61 hd0
    rw [hv0]
    congr 1
    apply Array.toList_inj.1
    rw [e]
    kernel_rfl
  refine ⟨World.block_lt_of_cell? _ _ (hm.cell gQ 0 (by decide)), fun i x hi => ?_⟩
  have hl := (List.getElem?_eq_some_iff.1 hi).1
  rw [ints_length] at hl
  have := hm.cell gQ i hl
  rw [Nat.zero_add, this, ← hi]
  simp [ints, List.getD, hl]
set_option maxRecDepth 50000 in
theorem tabs_seals {W : World} (h : laidMetH Tryd.prog Rows.aeadSealsRow.laid W) : Tabs W := tabs_of h
set_option maxRecDepth 50000 in
theorem tabs_opens {W : World} (h : laidMetH Tryd.prog Rows.aeadOpensRow.laid W) : Tabs W := tabs_of h
set_option maxRecDepth 50000 in
theorem tabs_back {W : World} (h : laidMetH Tryd.prog Rows.aeadBackRow.laid W) : Tabs W := tabs_of h
set_option maxRecDepth 50000 in
theorem trod_ints {H : Type} {enc : TypeId × Value → H} {P : Program} {w : World} {base : Nat} {spare : Nat → Bool} {held : Bool} {t n e fuel : Nat} {k : IntKind} {cs : List Value} {d : DataW H × List MemPlace}
    (ht : P.underlying t = some (.array n e)) (he : P.underlying e = some (.int k)) (hce : P.cellsOf e = 1) (hct : P.cellsOf t = n) (hf : DataW.trod enc P w base spare held fuel t cs = some d) :
    ∃ xs : List Int, cs = ints k xs ∧ xs.length = n ∧ ∀ x ∈ xs, (Lit.int k x).wf = true := by
  obtain ⟨ys, m, rfl, _, hl, hn, hall⟩ := DataW.trod_array ht hf
  rw [hct] at hl
  have hall2 : ∀ i, i < n → ∃ z, cs[i]? = some (.int k z) ∧ (Lit.int k z).wf = true := fun i hi => by
    have h1 := hall i hi
    rw [hce, Nat.mul_one] at h1
    have h2 : ys[i]? = some ys[i] := by simp
    rw [h2] at h1
    obtain ⟨z, hc, _, hw⟩ := DataW.trod_int he h1
    refine ⟨z, ?_, hw⟩
    have := congrArg (·[0]?) hc
    simpa [List.getElem?_take, List.getElem?_drop] using this
  have key : ∀ l : List Value, (∀ i, i < l.length → ∃ z, l[i]? = some (.int k z) ∧ (Lit.int k z).wf = true) → ∃ xs : List Int, l = ints k xs ∧ ∀ x ∈ xs, (Lit.int k x).wf = true := by
    intro l
    induction l with
    | nil => exact fun _ => ⟨[], rfl, by simp⟩
    | cons y l ih =>
      intro h
      obtain ⟨z, hz, hw⟩ := h 0 (by simp)
      obtain ⟨xs, rfl, hx⟩ := ih (fun i hi => by have := h (i + 1) (by simp; omega); simpa using this)
      obtain rfl : y = .int k z := by simpa using hz
      exact ⟨z :: xs, rfl, fun x hx' => by
        rcases List.mem_cons.1 hx' with h | h
        · rw [h]; exact hw
        · exact hx x h⟩
  obtain ⟨xs, hxs, hx⟩ := key cs (fun i hi => hall2 i (by omega))
  exact ⟨xs, hxs, by rw [← hl, hxs]; simp [ints], hx⟩
set_option maxRecDepth 50000 in
theorem under5 : Tryd.prog.underlying 5 = some (.int .u8) := by kernel_rfl
set_option maxRecDepth 50000 in
theorem open_case {H : Type} {enc : TypeId × Value → H} {w : World} {base : Nat} {held : Bool} {r : Reach} {b0 : Nat} {v : Value} {d : DataW H} {ps : List MemPlace}
    (hval : Value.okWide Tryd.prog w r b0 26 v) (hd : DataW.Trod enc Tryd.prog w base (fun _ => true) held 26 v d ps) :
    ∃ (key nonce : List Int) (A : Option Addr) (c : Nat) (be : List Int), v = .agg (caseA key nonce A be.length c).toArray ∧ key.length = 32 ∧ nonce.length = 12 ∧ (∀ x ∈ key, (Lit.int .u8 x).wf = true) ∧ (∀ x ∈ nonce, (Lit.int .u8 x).wf = true) ∧ be.length ≤ c ∧ c ≤ maxLen ∧ (∀ x ∈ be, (Lit.int .u8 x).wf = true) ∧ Nums w .u8 A be := by
  obtain ⟨cs, rfl, hs⟩ := okWide_struct Tryd.underlying26 hval
  obtain ⟨fuel, hf⟩ := hd
  have hc : (Value.agg cs).cells.toList = cs.toList := by simp [Value.cells]
  rw [hc] at hf
  obtain ⟨ys, m, rfl, _, hl, hn, hall⟩ := DataW.trod_struct Tryd.underlying26 hf
  have c26 : Tryd.prog.cellsOf 26 = 45 := by kernel_rfl
  have c22 : Tryd.prog.cellsOf 22 = 32 := by kernel_rfl
  have c23 : Tryd.prog.cellsOf 23 = 12 := by kernel_rfl
  have c24 : Tryd.prog.cellsOf 24 = 1 := by kernel_rfl
  have c5 : Tryd.prog.cellsOf 5 = 1 := by kernel_rfl
  rw [c26] at hl
  have f0 : DataW.trod enc Tryd.prog w base (fun _ => true) held m 22 ((cs.toList.drop 0).take (Tryd.prog.cellsOf 22)) = ys[0]? := hall 0 _ rfl
  have f1 : DataW.trod enc Tryd.prog w base (fun _ => true) held m 23 ((cs.toList.drop 32).take (Tryd.prog.cellsOf 23)) = ys[1]? := hall 1 _ rfl
  have f2 : DataW.trod enc Tryd.prog w base (fun _ => true) held m 24 ((cs.toList.drop 44).take (Tryd.prog.cellsOf 24)) = ys[2]? := hall 2 _ rfl
  rw [c22] at f0
  rw [c23] at f1
  rw [c24] at f2
  have n3 : ys.length = 3 := hn
  have g0 : ys[0]? = some ys[0] := by simp
  have g1 : ys[1]? = some ys[1] := by simp
  have g2 : ys[2]? = some ys[2] := by simp
  rw [g0] at f0
  rw [g1] at f1
  rw [g2] at f2
  obtain ⟨key, hk, hkl, hkw⟩ := trod_ints Tryd.underlying22 under5 c5 c22 f0
  obtain ⟨nonce, hno, hnl, hnw⟩ := trod_ints Tryd.underlying23 under5 c5 c23 f1
  have e1 : cs.toList.drop 44 = (cs.toList.drop 32).drop 12 := by rw [List.drop_drop]
  have e2 : (cs.toList.drop 44).take 1 = cs.toList.drop 44 := List.take_of_length_le (by rw [List.length_drop]; omega)
  have key3 : ∀ (A : Option Addr) (l c : Nat), (cs.toList.drop 44).take 1 = [.slice A l c] → (Value.agg cs) = .agg (caseA key nonce A l c).toArray := fun A l c h => by
    congr 1
    apply Array.toList_inj.1
    unfold caseA
    rw [← hk, ← hno, ← h]
    show cs.toList = (((cs.toList.drop 0).take 32) ++ ((cs.toList.drop 32).take 12)) ++ ((cs.toList.drop 44).take 1)
    rw [e2, e1, List.append_assoc, List.take_append_drop, List.drop_zero, List.take_append_drop]
  rcases open_ints Tryd.underlying24 Tryd.underlying5 (by kernel_rfl) f2 with ⟨hcs, _⟩ | ⟨x, l, c, zs, hcs, _, hl, hm, hz, _, hcell, hwz⟩
  · exact ⟨key, nonce, none, 0, [], key3 none 0 0 hcs, hkl, hnl, hkw, hnw, Nat.zero_le _, by unfold maxLen; omega, by simp, Nums.nil⟩
  · obtain ⟨be, rfl, h1, h2, h3, h4⟩ := Nums.opened hl hm (by simpa using hz) hcell hwz
    exact ⟨key, nonce, some x, c, be, key3 (some x) be.length c hcs, hkl, hnl, hkw, hnw, h1, h2, h3, h4⟩
end Go.Proofs.YtpiamcgienkhaaaDoor
