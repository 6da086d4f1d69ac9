/- The reference: which terms can be made from those that are known. -/
import Derived.Test.YtboofkmbjmnpeaaG18
import Derived.Laws.MakeOwn
namespace Go.Proofs.Ytboofkmbjmnpeaa
open Go Go.RowKit Go.Maps

def bools (hs : List Bool) : List Value := hs.map Value.bool
/-- A block of bools. -/
def BB (w : World) (b : Nat) (hs : List Bool) : Prop := Blk w b 4 (bools hs)
theorem bools_len (hs : List Bool) : (bools hs).length = hs.length := by simp [bools]
theorem BB.cell {w : World} {b : Nat} {hs : List Bool} (h : BB w b hs) {i : Nat} (hi : i < hs.length) : w.cell? ⟨b, i, none⟩ = some (.bool (hs.getD i false)) := Blk.cell h (by simp [bools, hi])
theorem BB.set {w : World} {b : Nat} {hs : List Bool} (h : BB w b hs) (i : Nat) (u : Bool) : BB (w.setCell ⟨b, i, none⟩ (.bool u)) b (hs.set i u) := by
  have := Blk.set h i (.bool u)
  unfold BB bools
  rw [List.map_set]
  exact this
theorem infBo : (Try.prog.info? 4).map (fun i => (i.zero, i.size, i.bytes)) = some (some (.bool false), 1, 1) := by kernel_rfl
theorem makeB (n : Nat) (h : n ≤ 1000) (w : World) : (Instr.makeSlice 36 (.int .i64 (n : Int)) (.int .i64 (n : Int))).run Try.prog w = .ok (.slice (some ⟨w.heap.size, 0, none⟩) n n) (w.alloc (.cells (bools (List.replicate n false)).toArray 4)) := by
  have hi := infBo
  cases hc : Try.prog.info? 4 with
  | none => rw [hc] at hi; simp at hi
  | some i =>
    rw [hc] at hi
    simp only [Option.map_some, Option.some.injEq, Prod.mk.injEq] at hi
    have h2 := run_make (P := Try.prog) w 36 4 i (.bool false) (by kernel_rfl) hc hi.1 .i64 .i64 n n (by omega) (by omega) (by rw [hi.2.2]; omega) (by omega)
    rw [h2, hi.2.1]
    simp only [Int.toNat_natCast, Nat.mul_one]
    congr 3
    apply Array.toList_inj.1
    show (madeCells #[.bool false] n).toList = _
    rw [toList_madeCells_one]
    simp [bools]
def bat (hs : List Bool) (i : Nat) : Bool := hs.getD i false
/-- The first j are reckoned. -/
structure MdI (L : List T3) (has : List Bool) (j : Nat) (ms : List Bool) : Prop where
  len : ms.length = L.length
  hi : ∀ i, j ≤ i → bat ms i = false
  lo : ∀ (i : Nat) t, i < j → L[i]? = some t → bat ms i = (bat has i || mkB t (bat ms))
theorem bat_set {ms : List Bool} {j : Nat} {u : Bool} (hj : j < ms.length) (i : Nat) : bat (ms.set j u) i = if i = j then u else bat ms i := by
  unfold bat
  by_cases e : i = j
  · subst e; simp [hj]
  · simp only [List.getD_eq_getElem?_getD, List.getElem?_set_ne (Ne.symm e), if_neg e]
theorem MdI.step {L : List T3} {has ms : List Bool} {j : Nat} {t : T3} {u : Bool} (hW : WF L) (h : MdI L has j ms) (ht : L[j]? = some t) (hu : (bat has j || mkB t (bat ms)) = u) : MdI L has (j + 1) (ms.set j u) := by
  have hj : j < ms.length := by rw [h.len]; exact get_lt ht
  have hc : ∀ (i : Nat) s, i ≤ j → L[i]? = some s → mkB s (bat (ms.set j u)) = mkB s (bat ms) := fun i s hi hs => mkB_congr hW hs fun q hq => by rw [bat_set hj, if_neg (by omega)]
  refine ⟨by rw [List.length_set]; exact h.len, fun i hi => by rw [bat_set hj, if_neg (by omega)]; exact h.hi i (by omega), fun i s hi hs => ?_⟩
  rw [hc i s (by omega) hs, bat_set hj]
  by_cases e : i = j
  · subst e
    obtain rfl : t = s := Option.some.inj (ht.symm.trans hs)
    rw [if_pos rfl, hu]
  · rw [if_neg e]; exact h.lo i s (by omega) hs
theorem MdI.keep {L : List T3} {has ms : List Bool} {j : Nat} {t : T3} (hW : WF L) (h : MdI L has j ms) (ht : L[j]? = some t) (hu : (bat has j || mkB t (bat ms)) = false) : MdI L has (j + 1) ms := by
  have h2 := h.step hW ht hu
  have e : ms.set j false = ms := by
    have hj : j < ms.length := by rw [h.len]; exact get_lt ht
    refine List.ext_getElem? fun i => ?_
    by_cases e : i = j
    · subst e
      have := h.hi i (Nat.le_refl _)
      simp only [bat, List.getD_eq_getElem?_getD, List.getElem?_eq_getElem hj, Option.getD_some] at this
      rw [List.getElem?_set_self hj, List.getElem?_eq_getElem hj, this]
    · rw [List.getElem?_set_ne (Ne.symm e)]
  rw [e] at h2
  exact h2
set_option maxRecDepth 50000 in
set_option maxHeartbeats 4000000 in
theorem rmade_any (A : Option Addr) (c q c2 : Nat) (L : List T3) (has : List Bool) (w : World) (hW : WF L) (hA : TRow w A L) (hH : BB w q has) (hl : has.length = L.length) (hL : L.length ≤ 100) :
    Calls Try.prog 13 #[.slice A L.length c, .slice (some ⟨q, 0, none⟩) L.length c2] w fun e w' => ∃ b ms, e = .returned (.slice (some ⟨b, 0, none⟩) L.length L.length) ∧ MdI L has L.length ms ∧ BB w' b ms ∧ w.heap.size ≤ b ∧ Below w.heap.size w w' := by
  have hmk := makeB L.length (by omega) w
  obtain ⟨W, hWm⟩ : ∃ W, w.alloc (.cells (bools (List.replicate L.length false)).toArray 4) = W := ⟨_, rfl⟩
  have hbW : Below w.heap.size w W := by rw [← hWm]; exact below_new w _
  have hB0 : BB W w.heap.size (List.replicate L.length false) := by rw [← hWm]; exact Blk.new w 4 _
  rw [hWm] at hmk
  have hI0 : MdI L has 0 (List.replicate L.length false) := ⟨by simp, fun i _ => by
    unfold bat
    simp only [List.getD_eq_getElem?_getD, List.getElem?_replicate]
    split <;> rfl, fun i t hi => absurd hi (Nat.not_lt_zero _)⟩
  have HI0 := hid hI0
  have HHl := hid (show has.length = L.length ∧ q < w.heap.size from ⟨hl, Blk.lt hH⟩)
  have hL2 : (L.length : Int) ≤ 100 := by omega
  clear hWm hI0 hl hL
  go_enter Try.func13, Try.ntmps13
  go_upto_region 2 with (fail)
  clear hmk
  go_wp2
  go_loopw [6] (fun v wr => ∃ (j : Nat) (ms : List Bool), j ≤ L.length ∧ v = .int .i64 j ∧ Hid (MdI L has j ms) ∧ BB wr w.heap.size ms ∧ Below w.heap.size w wr) (fun v _ => L.length - (intOf v).toNat)
  case atStart => exact ⟨0, _, Nat.zero_le _, rfl, HI0, hB0, hbW⟩
  case round =>
    obtain ⟨j, ms, hj, rfl, HI, hB, hb⟩ := hrel
    clear HI0 hB0 hbW
    by_cases hlt : j < L.length
    · obtain ⟨⟨k, a, b⟩, ht⟩ : ∃ t, L[j]? = some t := ⟨L[j], by simp [hlt]⟩
      have hlt' : (j : Int) < L.length := by omega
      have j0 : (0 : Int) ≤ j := by omega
      have j1 : j + 1 ≤ L.length := by omega
      obtain ⟨g, rfl, hg, hcell⟩ := hA (by omega)
      obtain ⟨x0, x1, x2⟩ := hcell j _ ht
      have y0 : wr.cell? ⟨g, j * 3, none⟩ = some (.int .i64 k) := (hb.cell (p := ⟨g, j * 3, none⟩) hg).trans x0
      have y1 : wr.cell? ⟨g, j * 3 + 1, none⟩ = some (.int .i64 a) := (hb.cell (p := ⟨g, j * 3 + 1, none⟩) hg).trans x1
      have y2 : wr.cell? ⟨g, j * 3 + 2, none⟩ = some (.int .i64 b) := (hb.cell (p := ⟨g, j * 3 + 2, none⟩) hg).trans x2
      have z : wr.cell? ⟨q, j, none⟩ = some (.bool (bat has j)) := (hb.cell (p := ⟨q, j, none⟩) HHl.out.2).trans (hH.cell (by rw [HHl.out.1]; exact hlt))
      have t0 : wr.cell? ⟨w.heap.size, j, none⟩ = some (.bool (bat ms j)) := hB.cell (by rw [HI.out.len]; exact hlt)
      have f0 := Blk.free hB j
      have HY : Hid (∀ u, (bat has j || mkB (k, a, b) (bat ms)) = u → MdI L has (j + 1) (ms.set j u) ∧ BB (wr.setCell ⟨w.heap.size, j, none⟩ (.bool u)) w.heap.size (ms.set j u) ∧ Below w.heap.size w (wr.setCell ⟨w.heap.size, j, none⟩ (.bool u))) := hid fun u hu => ⟨HI.out.step hW ht hu, hB.set j u, hb.setCell (Nat.le_refl _) _⟩
      have hwj := hW j _ ht
      have HN : Hid ((bat has j || mkB (k, a, b) (bat ms)) = false → MdI L has (j + 1) ms) := hid fun hu => HI.out.keep hW ht hu
      have HC : Hid (∀ n : Nat, n < j → wr.cell? ⟨w.heap.size, n, none⟩ = some (.bool (bat ms n))) := hid fun n hn => hB.cell (by rw [HI.out.len]; omega)
      clear hcell x0 x1 x2 ht hW
      cases hh : bat has j with
      | true =>
        rw [hh] at z
        have HU := hid (show (bat has j || mkB (k, a, b) (bat ms)) = true by rw [hh]; rfl)
        clear HN HC hwj hh y1 y2
        go_wp2
        go_roundw
        case rel => exact ⟨j + 1, _, j1, by go_num, hid (HY.out _ HU.out).1, (HY.out _ HU.out).2.1, (HY.out _ HU.out).2.2⟩
        case measure => simp [intOf]; omega
      | false =>
        rw [hh] at z
        rcases hwj with h1 | h1 | ⟨h1, h2, h3⟩ | ⟨h1, h2, h3, h4, h5, _⟩
        · dsimp only at h1
          subst h1
          have HU := hid (show (bat has j || mkB (1, a, b) (bat ms)) = false by rw [hh]; rfl)
          clear HC hh y1 y2 t0 f0 HY
          go_wp2
          go_roundw
          case rel => exact ⟨j + 1, ms, j1, by go_num, hid (HN.out HU.out), hB, hb⟩
          case measure => simp [intOf]; omega
        · dsimp only at h1
          subst h1
          have HU := hid (show (bat has j || mkB (9, a, b) (bat ms)) = true by rw [hh]; rfl)
          clear HC hh y1 y2 HN
          go_wp2
          go_roundw
          case rel => exact ⟨j + 1, _, j1, by go_num, hid (HY.out _ HU.out).1, (HY.out _ HU.out).2.1, (HY.out _ HU.out).2.2⟩
          case measure => simp [intOf]; omega
        · dsimp only at h1 h2 h3
          obtain ⟨n, rfl⟩ : ∃ n : Nat, a = n := ⟨a.toNat, by omega⟩
          have c0 := HC.out n (by omega)
          have hnl : (n : Int) < L.length := by omega
          obtain ⟨u, hu⟩ : ∃ u, bat ms n = u := ⟨_, rfl⟩
          rw [hu] at c0
          have HU : Hid ((bat has j || mkB (k, (n : Int), b) (bat ms)) = u) := hid (by
            rw [hh, ← hu]
            simp only [isOne, Bool.or_eq_true, beq_iff_eq] at h1
            rcases h1 with (((rfl | rfl) | rfl) | rfl) | rfl <;> simp [mkB, isOne, isTwo])
          clear HC hh y2 HN hu hB h3
          simp only [isOne, Bool.or_eq_true, beq_iff_eq] at h1
          rcases h1 with (((rfl | rfl) | rfl) | rfl) | rfl
          all_goals
            go_wp2
            go_roundw
            case rel => exact ⟨j + 1, _, j1, by go_num, hid (HY.out _ HU.out).1, (HY.out _ HU.out).2.1, (HY.out _ HU.out).2.2⟩
            case measure => simp [intOf]; omega
        · dsimp only at h1 h2 h3 h4 h5
          obtain ⟨n, rfl⟩ : ∃ n : Nat, a = n := ⟨a.toNat, by omega⟩
          obtain ⟨m, rfl⟩ : ∃ n : Nat, b = n := ⟨b.toNat, by omega⟩
          have c0 := HC.out n (by omega)
          have c1 := HC.out m (by omega)
          have hnl : (n : Int) < L.length := by omega
          have hml : (m : Int) < L.length := by omega
          obtain ⟨u, hu⟩ : ∃ u, bat ms n = u := ⟨_, rfl⟩
          obtain ⟨v, hv⟩ : ∃ u, bat ms m = u := ⟨_, rfl⟩
          rw [hu] at c0
          rw [hv] at c1
          have HU : Hid ((bat has j || mkB (k, (n : Int), (m : Int)) (bat ms)) = (u && v)) := hid (by
            rw [hh, ← hu, ← hv]
            simp only [isTwo, Bool.or_eq_true, beq_iff_eq] at h1
            rcases h1 with (rfl | rfl) | rfl <;> simp [mkB, isOne, isTwo])
          clear HC hh HN hu hv hB h3 h5
          simp only [isTwo, Bool.or_eq_true, beq_iff_eq] at h1
          cases u
          all_goals
            simp only [Bool.false_and, Bool.true_and] at HU
            rcases h1 with (rfl | rfl) | rfl
          all_goals
            go_wp2
            go_roundw
            case rel => exact ⟨j + 1, _, j1, by go_num, hid (HY.out _ HU.out).1, (HY.out _ HU.out).2.1, (HY.out _ HU.out).2.2⟩
            case measure => simp [intOf]; omega
    · obtain rfl : L.length = j := by omega
      go_wp2
      go_ret
      exact ⟨w.heap.size, ms, rfl, HI.out, hB, Nat.le_refl _, hb⟩
end Go.Proofs.Ytboofkmbjmnpeaa
