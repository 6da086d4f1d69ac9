/- Texts of this proof, laid together: ULaid, UOpensW. -/
import Derived.Test.YtpncohoonfahpaaGreatDoorULawAM
import Derived.Test.YtpncohoonfahpaaGreatDoorRows
import Derived.Lib.LaidTab
import Derived.OpenShut
import Derived.WideShapes
import Derived.Deep.Slices
import Derived.Test.YtpncohoonfahpaaGreatDoorUOpensM
/- What the listed variables and the arguments give the walks. -/
namespace Go.Proofs.YtpncohoonfahpaaGreatDoor
open Go Go.RowKit

set_option maxRecDepth 50000 in
theorem tab_of {k : IntKind} {W : World} {name : String} {g g' : Nat} {t t' e m : TypeId} {zs : List Int} {cs : Array Value} {fuel : Nat} {p : List MemPlace} (hU : Tryz.prog.underlying t = some (.array m e)) (hE : Tryz.prog.underlying e = some (.int k)) (ce : Tryz.prog.cellsOf e = 1) (ct : Tryz.prog.cellsOf t = m)
    (hg : Tryz.prog.globalNamed name = some g) (hty : (Tryz.prog.globals[g]?).map (·.type) = some t) (hg' : Tryz.prog.globalNamed name = some g') (ht' : (Tryz.prog.globals[g']?).map (·.type) = some t') (hvar : W.var? Tryz.prog name = some cs)
    (hd : DataW.trod (fun _ => ()) Tryz.prog W 0 (fun _ => true) false fuel t' cs.toList = some (Lib.tabData k zs, p)) (hz : 0 < zs.length) : g < W.heap.size ∧ ∀ i x, zs[i]? = some x → W.cell? ⟨g, i, none⟩ = some (.int k x) := by
  obtain rfl := Option.some.inj (hg.symm.trans hg')
  obtain rfl := Option.some.inj (hty.symm.trans ht')
  have hm : Lib.TabIs Tryz.prog W name k zs := by
    unfold Lib.TabIs
    rw [hvar, ← Lib.cells_of_tab hU hE ce ct hd]
  refine ⟨World.block_lt_of_cell? _ _ (hm.cell hg 0 hz), fun i x hi => ?_⟩
  have hl := (List.getElem?_eq_some_iff.1 hi).1
  have := hm.cell hg i hl
  rw [this]
  simp [List.getD, hi]
def tables : List (String × DataW Unit) := [("bastille/point.d", Rows.laid_bastille_point_d), ("bastille/point.baseX", Rows.laid_bastille_point_baseX), ("bastille/point.baseY", Rows.laid_bastille_point_baseY), ("bastille/scalar.order", Rows.laid_bastille_scalar_order), ("bastille/sha.first", Lib.tabData .u64 FIRST), ("bastille/sha.kinds", Lib.tabData .u64 KINDS), ("bastille/chacha.quarters", Rows.laid_bastille_chacha_quarters)]
set_option maxRecDepth 50000 in
theorem tabs_of {W : World} (h : laidMet Tryz.prog tables W) : TabsH W := by
  obtain ⟨ps, ⟨g0, t0, cs0, f0, p0, q0, hg0, ht0, hv0, hd0, ⟨g1, t1, cs1, f1, p1, q1, hg1, ht1, hv1, hd1, ⟨g2, t2, cs2, f2, p2, q2, hg2, ht2, hv2, hd2, ⟨g3, t3, cs3, f3, p3, q3, hg3, ht3, hv3, hd3, ⟨g4, t4, cs4, f4, p4, q4, hg4, ht4, hv4, hd4, ⟨g5, t5, cs5, f5, p5, q5, hg5, ht5, hv5, hd5, _, _⟩, _⟩, _⟩, _⟩, _⟩, _⟩, _⟩ := h
  have x4 := tab_of (t := 175) (e := 89) (m := 8) (g := 0) (zs := FIRST) (by kernel_rfl) (by kernel_rfl) (by kernel_rfl) (by kernel_rfl) (by kernel_rfl) (by kernel_rfl) hg4 ht4 hv4 hd4 (by decide)
  have x5 := tab_of (t := 249) (e := 89) (m := 80) (g := 4) (zs := KINDS) (by kernel_rfl) (by kernel_rfl) (by kernel_rfl) (by kernel_rfl) (by kernel_rfl) (by kernel_rfl) hg5 ht5 hv5 hd5 (by decide)
  exact ⟨⟨x5.1, x4.1⟩, x5.2, x4.2⟩
set_option maxRecDepth 50000 in
theorem tabs_terms {W : World} (h : laidMetH Tryz.prog Rows.suiteTermsRow.laid W) : TabsH W := tabs_of h
set_option maxRecDepth 50000 in
theorem tabs_opens {W : World} (h : laidMetH Tryz.prog Rows.suiteOpensRow.laid W) : TabsH W := tabs_of h
instance : Inhabited DoS := ⟨⟨0, 0, 0, none, 0, []⟩⟩
set_option maxRecDepth 50000 in
theorem cDs : Tryz.prog.cellsOf 59 = 4 := by kernel_rfl
set_option maxRecDepth 50000 in
theorem cIntU : Tryz.prog.cellsOf 3 = 1 := by kernel_rfl
set_option maxRecDepth 50000 in
theorem cByU : Tryz.prog.cellsOf 23 = 1 := by kernel_rfl
set_option maxRecDepth 50000 in
theorem cBU : Tryz.prog.cellsOf 5 = 1 := by kernel_rfl
set_option maxRecDepth 50000 in
theorem fourU {α : Type} {l : List α} (h : l.length = 4) : ∃ a b c d, l = [a, b, c, d] := by
  match l, h with
  | [a, b, c, d], _ => exact ⟨a, b, c, d, rfl⟩
set_option maxRecDepth 50000 in
theorem tbytU {x : List Int} (h : ∀ b ∈ x, (Lit.int .u8 b).wf = true) : TByt x := fun b hb => by
  have := h b hb
  simp [Lit.wf, IntKind.min, IntKind.max, IntKind.bits, IntKind.signed] at this
  omega
section
variable {H : Type} {enc : TypeId × Value → H} {w : World} {held : Bool}
set_option maxRecDepth 50000 in
theorem open_oneU {n : Nat} {cs : List Value} {x : DataW H × List MemPlace} (h : DataW.trod enc Tryz.prog w 0 (fun _ => true) held n 59 cs = some x) :
    ∃ d : DoS, cs = d.cells ∧ TByt d.x ∧ NumsD w.heap.size w .u8 d.A d.x := by
  obtain ⟨xs, m, _, _, hl, hxl, hf⟩ := DataW.trod_struct Tryz.underlying59 h
  rw [cDs] at hl
  obtain ⟨v0, v1, v2, v3, rfl⟩ := fourU hl
  have h0 : DataW.trod enc Tryz.prog w 0 (fun _ => true) held m 3 (List.take (Tryz.prog.cellsOf 3) (List.drop 0 [v0, v1, v2, v3])) = xs[0]? := hf 0 _ rfl
  have h1 : DataW.trod enc Tryz.prog w 0 (fun _ => true) held m 3 (List.take (Tryz.prog.cellsOf 3) (List.drop 1 [v0, v1, v2, v3])) = xs[1]? := hf 1 _ rfl
  have h2 : DataW.trod enc Tryz.prog w 0 (fun _ => true) held m 3 (List.take (Tryz.prog.cellsOf 3) (List.drop 2 [v0, v1, v2, v3])) = xs[2]? := hf 2 _ rfl
  have h3 : DataW.trod enc Tryz.prog w 0 (fun _ => true) held m 23 (List.take (Tryz.prog.cellsOf 23) (List.drop 3 [v0, v1, v2, v3])) = xs[3]? := hf 3 _ rfl
  rw [cIntU] at h0 h1 h2
  rw [cByU] at h3
  have hx4 : xs.length = 4 := hxl
  rw [List.getElem?_eq_getElem (show 0 < xs.length by omega)] at h0
  rw [List.getElem?_eq_getElem (show 1 < xs.length by omega)] at h1
  rw [List.getElem?_eq_getElem (show 2 < xs.length by omega)] at h2
  rw [List.getElem?_eq_getElem (show 3 < xs.length by omega)] at h3
  obtain ⟨n0, e0, _, w0⟩ := DataW.trod_int Tryz.underlying3 h0
  obtain ⟨n1, e1, _, w1⟩ := DataW.trod_int Tryz.underlying3 h1
  obtain ⟨n2, e2, _, w2⟩ := DataW.trod_int Tryz.underlying3 h2
  simp at e0 e1 e2
  obtain ⟨a, c, zs, e5, hz, hN⟩ : ∃ (a : Option Addr) (c : Nat) (zs : List Int), v3 = .slice a zs.length c ∧ (∀ b ∈ zs, (Lit.int .u8 b).wf = true) ∧ Nums w .u8 a zs := by
    rcases ChangeShapes.open_ints Tryz.underlying23 Tryz.underlying5 cBU h3 with ⟨hcs, _⟩ | ⟨a, len, cap, zs, hcs, _, hl, hm, hz, _, hcell, hwz⟩
    · simp at hcs
      exact ⟨none, 0, [], hcs, by simp, Nums.nil⟩
    · simp at hcs
      obtain ⟨xs, rfl, _, _, hw, hN⟩ := Nums.opened hl hm (by simpa using hz) hcell hwz
      exact ⟨some a, cap, xs, hcs, hw, hN⟩
  subst e0 e1 e2 e5
  exact ⟨⟨n0, n1, n2, a, c, zs⟩, rfl, tbytU hz, hN.under⟩
set_option maxRecDepth 50000 in
theorem open_ds {n : Nat} {cs : List Value} {x : DataW H × List MemPlace} (h : DataW.trod enc Tryz.prog w 0 (fun _ => true) held n 54 cs = some x) :
    ∃ (A : Option Addr) (c : Nat) (ds : List DoS), cs = [.slice A ds.length c] ∧ ds.length ≤ 9223372036854775807 ∧ DsRow w.heap.size w A ds := by
  rcases Deep.open_slice Tryz.underlying54 h with ⟨hcs, _⟩ | ⟨a, len, cap, m, k, D, Pl, hcs, _, hl, hm, hmm, _, hr⟩
  · exact ⟨none, 0, [], hcs, Nat.zero_le _, fun i d hi => by simp at hi⟩
  · rw [cDs] at hr
    have each : ∀ i, i < len → ∃ d : DoS, (∀ j v, d.cells[j]? = some v → w.cell? ((a.add (i * 4)).add j) = some v) ∧ TByt d.x ∧ NumsD w.heap.size w .u8 d.A d.x := fun i hi => by
      obtain ⟨cs', hc, ht⟩ := hr i (by rw [hmm]; show i < (if true = true then cap else len); rw [if_pos rfl]; omega)
      obtain ⟨_, hlen, hat⟩ := World.cells?_some hc
      obtain ⟨d, rfl, h1⟩ := open_oneU ht
      refine ⟨d, fun j v hj => ?_, h1⟩
      rw [hat j (by have := get_lt hj; omega), hj]
    obtain ⟨f, hf⟩ := Deep.choose_lt each
    have hml : maxLen ≤ 9223372036854775807 := by unfold maxLen; omega
    refine ⟨some a, cap, (List.range len).map f, by rw [hcs]; simp, by simp; omega, fun i d hi => ?_⟩
    have hil : i < len := by have := get_lt hi; simpa using this
    have hd : d = f i := by
      rw [List.getElem?_map, List.getElem?_range hil] at hi
      exact (Option.some.inj hi).symm
    subst hd
    obtain ⟨hc, h2⟩ := hf i hil
    obtain ⟨b, off, spot⟩ := a
    have h0 := (hf 0 (by omega)).1 0 _ rfl
    have hspot : spot = none := by simpa [Addr.add] using World.cell?_spot h0
    subst hspot
    have hc' : ∀ j v, (f i).cells[j]? = some v → w.cell? ⟨b, off + i * 4 + j, none⟩ = some v := fun j v hj => by
      have := hc j v hj
      rwa [Addr.add_mid, Addr.add_mid] at this
    exact ⟨⟨b, off, rfl, World.block_lt_of_cell? w _ (hc' 0 _ rfl), hc'⟩, h2⟩
end
end Go.Proofs.YtpncohoonfahpaaGreatDoor

/- SuiteOpens's walk, as its card asks for it. -/
namespace Go.Proofs.YtpncohoonfahpaaGreatDoor
open Go Go.RowKit

set_option maxRecDepth 50000 in
theorem threeU {α : Type} {l : List α} (h : l.length = 3) : ∃ a b c, l = [a, b, c] := by
  match l, h with
  | [a, b, c], _ => exact ⟨a, b, c, rfl⟩
set_option maxRecDepth 50000 in
theorem suiteOpens_walk (w : World) (ht : TabsH w) (A : Option Addr) (c : Nat) (ds : List DoS) (hl : ds.length ≤ 9223372036854775807) (hD : DsRow w.heap.size w A ds) (xs : List Int) (hx : xs.length = 3) (_ : ∀ x ∈ xs, (Lit.int .i64 x).wf = true)
    (B : Option Addr) (d : Nat) (tx : List Int) (_ : tx.length ≤ d) (_ : d ≤ maxLen) (hw : ∀ x ∈ tx, (Lit.int .u8 x).wf = true) (hB : Nums w .u8 B tx) :
    Calls Tryz.prog 6 #[.slice A ds.length c, .agg (ints .i64 xs).toArray, .slice B tx.length d] w fun e w' => e = .returned (.bool true) ∧ Below w.heap.size w w' := by
  obtain ⟨i0, i1, i2, rfl⟩ := threeU hx
  exact opens_any ds.length c A ds i0 i1 i2 tx.length d B tx w ht rfl hl hD rfl (tbytU hw) hB
end Go.Proofs.YtpncohoonfahpaaGreatDoor
