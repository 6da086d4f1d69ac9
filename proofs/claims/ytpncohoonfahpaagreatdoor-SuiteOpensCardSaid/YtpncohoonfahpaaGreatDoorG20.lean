/- Texts of this proof, laid together: TAll, TTwo. -/
import Derived.Test.YtpncohoonfahpaaGreatDoorG19
import Derived.RangeFuncKeeps
import Derived.RangeFuncNested
import Derived.Sort.CutIn
import Derived.Test.YtpncohoonfahpaaGreatDoorTEvtM
/- All: the iterator over a store's terms, by its contract. -/
namespace Go.Proofs.YtpncohoonfahpaaGreatDoor
open Go Go.RowKit Go.Maps

attribute [local go_sem] Oper.semAt_some

/-- Block g lies as it lay. -/
def KpG (g : Option Nat) (W W' : World) : Prop := ∀ b, g = some b → W'.heap[b]? = W.heap[b]?
set_option maxRecDepth 50000 in
theorem KpG.t {g : Option Nat} {A B C : World} (h : KpG g A B) (k : KpG g B C) : KpG g A C := fun b e => (k b e).trans (h b e)
set_option maxRecDepth 50000 in
theorem KpG.b {g : Option Nat} {n : Nat} (hg : ∀ b, g = some b → b < n) (W : World) (l : Nat) (o o' : Obj) (hl : n ≤ l) : KpG g W (W.putObj l o') := fun b e => World.putObj_heap_other (by have := hg b e; omega)
/-- The terms of a row, as cells. -/
def TCells (W : World) (A : Option Addr) (L : List T3) : Prop := ∀ (i : Nat) t, L[i]? = some t → ∃ g, A = some ⟨g, 0, none⟩ ∧ W.rangeAt g (i * 3) (tc t)
set_option maxRecDepth 50000 in
theorem tcells_of {W : World} {A : Option Addr} {L : List T3} (h : TRow W A L) : TCells W A L := fun i t hi => by
  obtain ⟨g, e, hg, hc⟩ := h (by have := get_lt hi; omega)
  obtain ⟨x0, x1, x2⟩ := hc i t hi
  refine ⟨g, e, fun j v hj => ?_⟩
  match j, hj with
  | 0, hj => simp [tc] at hj; subst hj; exact x0
  | 1, hj => simp [tc] at hj; subst hj; exact x1
  | 2, hj => simp [tc] at hj; subst hj; exact x2
  | n + 3, hj => simp [tc] at hj
set_option maxRecDepth 50000 in
theorem TCells.next {W W' : World} {A : Option Addr} {L : List T3} (h : TCells W A L) (hb : Below W.heap.size W W') : TCells W' A L := fun i t hi => by
  obtain ⟨g, e, hr⟩ := h i t hi
  exact ⟨g, e, rng_next hr hb⟩
set_option maxRecDepth 50000 in
theorem TCells.kp {W W' : World} {A : Option Addr} {L : List T3} (h : TCells W A L) (hk : KpG (A.map (·.block)) W W') : TCells W' A L := fun i t hi => by
  obtain ⟨g, rfl, hr⟩ := h i t hi
  refine ⟨g, rfl, fun j v hj => ?_⟩
  rw [World.cell?_of_block (a := ⟨g, i * 3 + j, none⟩) (hk g rfl)]
  exact hr j v hj
/-- What a round is handed. -/
def encT (L : List T3) (x : Fin L.length) : Array Value := #[.int .i64 (x.val : Int), tv (L[x.val]'x.2)]
def upTo {n : Nat} (xs : List (Fin n)) : Prop := xs.map (·.val) = List.range xs.length

set_option maxRecDepth 50000 in
theorem upTo_snoc {n : Nat} {xs : List (Fin n)} {m : Nat} (h : upTo xs) (hm : xs.length = m) (hl : m < n) : upTo (xs ++ [⟨m, hl⟩]) := by
  unfold upTo at *
  rw [List.map_append, h, List.length_append, hm]
  simp [List.range_succ]
end Go.Proofs.YtpncohoonfahpaaGreatDoor

/- A region that draws its order, told in two parts: operations before one that turns memory, and operations behind it. No program is named. -/
namespace Go.Proofs.YtpncohoonfahpaaGreatDoor
open Go Go.RowKit

section
variable {P : Program} {ops : Array Oper} {md : Region.Mode} {W : World} {a0 : Act} {n : Nat} {S : Nat → Value → World → Prop}
/-- All that the kernel has to look at, for the first part: the operation n waits for those before it, all behind it wait for it. -/
def headB (md : Region.Mode) (ops : Array Oper) (n M : Nat) : Bool :=
  decide (n < ops.size) && sinkF md ops 0 n && backB md ops && dstB ops n M && (List.range ops.size).all (fun t => decide (t ≤ n) || (List.range t).any fun j => decide (n ≤ j) && Region.waitsFor md ops t j)
set_option maxRecDepth 50000 in
theorem only_n {listed : Array Bool} (hs : sinkF md ops 0 n = true) (hc : (List.range ops.size).all (fun t => decide (t ≤ n) || (List.range t).any fun j => decide (n ≤ j) && Region.waitsFor md ops t j) = true) (inv : HInv md ops 0 n listed) {i : Nat} (hi : i ∈ Region.ready md ops listed) (hin : ¬ i < n) : i = n ∧ ∀ j, j < n → listed.getD j false = true := by
  obtain ⟨hun, o, ho, hall⟩ := mem_ready.1 hi
  have hil : i < ops.size := (Array.getElem?_eq_some_iff.1 ho).1
  have hin2 : i = n := by
    refine Classical.byContradiction fun hne => ?_
    have h1 := List.all_eq_true.1 hc i (List.mem_range.2 hil)
    simp only [Bool.or_eq_true, decide_eq_true_eq] at h1
    rcases h1 with h1 | h1
    · omega
    · obtain ⟨j, hj, h2⟩ := List.any_eq_true.1 h1
      simp only [Bool.and_eq_true, decide_eq_true_eq] at h2
      have hjl := List.mem_range.1 hj
      have h3 := ready_waitsE hi h2.2
      rw [getD_both (inv.inv.tail j h2.1 (by omega))] at h3; cases h3
  subst hin2
  refine ⟨rfl, ?_⟩
  have key : ∀ d j, i - j = d → j < i → listed.getD j false = true := by
    intro d
    induction d using Nat.strongRecOn with
    | _ d ih =>
      intro j hd hj
      have h1 := List.all_eq_true.1 hs j (List.mem_range.2 hj)
      simp only [Bool.or_eq_true, decide_eq_true_eq, Nat.not_lt_zero, false_or] at h1
      obtain ⟨q, hq, h2⟩ := List.any_eq_true.1 h1
      simp only [Bool.and_eq_true, decide_eq_true_eq] at h2
      have hqn := List.mem_range.1 hq
      by_cases e : q = i
      · subst e; exact ready_waitsE hi h2.2
      · have h3 := ih (i - q) (by omega) q rfl (by omega)
        obtain ⟨o', ho', e', he, hb, hon⟩ := Region.waitsFor_spec h2.2
        rw [← hon]; exact inv.inv.closed q o' ho' h3 e' he hb
  exact fun j hj => key _ j rfl hj
set_option maxRecDepth 50000 in
theorem head_any {Q : Exit → Act → World → Prop} {M : Nat} (hB : headB md ops n M = true) (hM : M ≤ a0.tmps.size)
    (mono : ∀ i v w w', S i v w → Below w.heap.size w w' → S i v w') (hst : ∀ i o, i < n → ops[i]? = some o → StepOk P ops md W a0 n noAlE S Q i o)
    (hend : ∀ a w, St ops W a0 n noAlE S (headArr n ops.size) a w → wpAny P md ops Q (ops.size - n) (headArr n ops.size) a w) :
    ∀ (F : Nat) (listed : Array Bool) (a : Act) (w : World), lacking listed.toList = F → HInv md ops 0 n listed → St ops W a0 n noAlE S listed a w → wpAny P md ops Q F listed a w := by
  simp only [headB, Bool.and_eq_true, decide_eq_true_eq] at hB
  obtain ⟨⟨⟨⟨hn, hs⟩, hback⟩, hdst⟩, hc⟩ := hB
  have lackAt : ∀ (listed : Array Bool) (i : Nat), listed.getD i true = false → listed.toList[i]? = some false := fun listed i h => by
    rw [Array.getD_eq_getD_getElem?] at h
    rw [Array.getElem?_toList]
    cases h3 : listed[i]? with
    | none => rw [h3] at h; simp at h
    | some b => rw [h3] at h; simp at h; rw [h]
  intro F
  induction F with
  | zero =>
    intro listed a w hF inv _
    exfalso
    have := lacking_set _ n (lackAt listed n (inv.inv.tail n (Nat.le_refl _) hn))
    omega
  | succ F ih =>
    intro listed a w hF inv st
    have hsz := inv.inv.size
    by_cases hall : ∀ i, i < n → listed.getD i false = true
    · have e : listed = headArr n ops.size := by
        apply Array.ext (by simp [headArr]; omega)
        intro i h1 h2
        by_cases hi : i < n
        · have := hall i hi
          have h3 : (headArr n ops.size)[i] = true := by simp [headArr, List.getElem_append_left, hi]
          rw [h3]; simpa [h1] using this
        · have := inv.inv.tail i (by omega) (by omega)
          have h3 : (headArr n ops.size)[i] = false := by
            simp only [headArr, List.getElem_toArray]
            rw [List.getElem_append_right (by simp; omega)]
            simp
          rw [h3]; simpa [h1] using this
      subst e
      have hg : lacking (headArr n ops.size).toList = ops.size - n := lacking_head n _
      rw [← hF, hg]
      exact hend a w st
    · have hex : ∃ i, i < n ∧ listed.getD i false = false := by
        refine Classical.byContradiction fun hno => hall fun j hj => ?_
        cases h : listed.getD j false with
        | true => rfl
        | false => exact absurd ⟨j, hj, h⟩ hno
      obtain ⟨i0, hi0, hl0⟩ := hex
      obtain ⟨j0, _, hr0⟩ := first_ready (md := md) hback hsz i0 (by omega) hl0
      refine ⟨fun h => absurd hr0 (by rw [h]; simp), fun i hir => ?_⟩
      have hin : i < n := by
        refine Classical.byContradiction fun h => ?_
        have := (only_n hs hc inv hir h).2 i0 hi0
        rw [hl0] at this; cases this
      obtain ⟨hun, o, ho, hafter⟩ := mem_ready.1 hir
      have hFn : lacking (listed.setIfInBounds i true).toList = F := by
        have := lacking_set _ i (lackAt listed i hun)
        have e : (listed.setIfInBounds i true).toList = listed.toList.set i true := by simp
        rw [e]; omega
      have hil : i < listed.size := by
        have := (Array.getElem?_eq_some_iff.1 ho).1
        omega
      exact St.step hdst hM mono (hst i o hin ho) st hin ho hil (fun j hw => ready_waitsE hir hw) _ (fun a' w' st' => ih _ _ _ hFn (inv.set hir hin) st')
set_option maxRecDepth 50000 in
theorem headInv {m : Nat} (hb : backB md ops = true) (hmn : m ≤ n) (hn : n ≤ ops.size) : HInv md ops 0 n (headArr m ops.size) := by
  have hf : ∀ t, m ≤ t → t < ops.size → (headArr m ops.size).getD t true = false := fun t h1 h2 => by
    have h3 : (headArr m ops.size)[t]? = some false := by
      simp only [headArr, List.getElem?_toArray]
      rw [List.getElem?_append_right (by simpa using h1)]
      simp [List.getElem?_replicate]; omega
    rw [Array.getD_eq_getD_getElem?, h3]; rfl
  refine ⟨⟨headArr_size (by omega), fun j oj hj hl e he hbd => ?_, fun t h1 h2 => hf t (by omega) h2⟩, fun i hi => by omega⟩
  have hjl : j < ops.size := (Array.getElem?_eq_some_iff.1 hj).1
  have hjm : j < m := by
    refine Classical.byContradiction fun h => ?_
    rw [getD_both (hf j (by omega) hjl)] at hl; cases hl
  have h1 := List.all_eq_true.1 hb j (List.mem_range.2 hjl)
  rw [hj] at h1
  have h2 := Array.all_eq_true_iff_forall_mem.1 h1 e he
  rw [hbd] at h2
  exact head_true (by simp at h2; omega)
set_option maxRecDepth 50000 in
/-- The first part, with the act at its end written out. -/
theorem region_head {id : Nat} {Q : Exit → Act → World → Prop} {l : List Oper} (n M : Nat) (Ss : List (Value → World → Prop)) (ds : List Tmp) (hds : dstsOf l.toArray n = ds) (hm : P.follows .mixedOrders = true) (hB : headB .any l.toArray n M = true) (hM : M ≤ a0.tmps.size)
    (mono : ∀ S ∈ Ss, Grows S) (hst : Steps P l.toArray .any W a0 n noAlE (sAt Ss) Q n 0 l)
    (hend : ∀ (val : Tmp → Value) w, Cl W w → (∀ i d, i < n → dstOf l.toArray i = some d → sAt Ss i (val d) w) → wpAny P .any l.toArray Q (l.toArray.size - n) (headArr n l.toArray.size) (putVals ds val a0) w) : (Code.region id l.toArray true).wp P Q a0 W := by
  refine wp_region_any hm ?_
  have hrep : ∀ i, (Array.replicate l.toArray.size false).getD i false = false := fun i => getD_replicate_false _ _
  refine head_any (W := W) (a0 := a0) (S := sAt Ss) hB hM (fun i v w w' h1 h2 => grows_at mono i v w w' h1 h2) (fun i o hi ho => ?_) (fun a w st => ?_) _ _ _ _ ?_ ?_ ?_
  · have := Steps.at_ n 0 l hst i o hi (by simpa using ho)
    rwa [Nat.zero_add] at this
  · rw [st.act, hds]
    exact hend (fun d => a.eval (.tmp d)) w st.cl (fun i d hi hd => st.at_ i d hi hd)
  · have := lacking_new l.toArray.size
    simpa using this
  · refine ⟨⟨by simp, fun j oj _ hl _ _ _ => ?_, fun t _ hts => ?_⟩, fun i hi => by omega⟩
    · rw [hrep] at hl; cases hl
    · exact getD_in (by simpa using hts) (hrep t)
  · refine ⟨Cl.drew W, rfl, rfl, fun _ _ => rfl, fun i _ h => ?_, fun i _ h => ?_, fun i j _ _ h => ?_⟩ <;> (rw [hrep] at h; cases h)
set_option maxRecDepth 50000 in
/-- The operation between the parts. -/
theorem any_event {Q : Exit → Act → World → Prop} {l : List Oper} {a : Act} {w : World} (n M : Nat) (hB : headB .any l.toArray n M = true) (o : Oper) (ho : l.toArray[n]? = some o) (hg : o.guard = none)
    (h : o.wp P a w (fun a' w' => wpAny P .any l.toArray Q (l.toArray.size - (n + 1)) (headArr (n + 1) l.toArray.size) a' w') Q) : wpAny P .any l.toArray Q (l.toArray.size - n) (headArr n l.toArray.size) a w := by
  simp only [headB, Bool.and_eq_true, decide_eq_true_eq] at hB
  obtain ⟨⟨⟨⟨hn, hs⟩, hback⟩, hdst⟩, hc⟩ := hB
  have hF : l.toArray.size - n = (l.toArray.size - (n + 1)) + 1 := by omega
  have inv : HInv .any l.toArray 0 n (headArr n l.toArray.size) := headInv hback (Nat.le_refl _) (by omega)
  obtain ⟨j0, hj0, hr0⟩ := first_ready (md := .any) hback inv.inv.size n hn (by
    have := inv.inv.tail n (Nat.le_refl _) hn
    exact getD_both this)
  rw [hF]
  refine ⟨fun h0 => absurd hr0 (by rw [h0]; simp), fun i hir => ?_⟩
  have hin : ¬ i < n := fun hi => by
    have h1 := (mem_ready.1 hir).1
    have h2 := head_true (s := l.toArray.size) hi
    rw [getD_both h1] at h2; cases h2
  obtain ⟨rfl, _⟩ := only_n hs hc inv hir hin
  unfold wpOp
  simp only [ho]
  rw [if_pos (by simp [Region.wanted, hg]), headArr_set hn]
  exact .inl h
set_option maxRecDepth 50000 in
/-- The second part, with the act at its end written out. -/
theorem any_from {Q : Exit → Act → World → Prop} {l : List Oper} (m n M : Nat) (Ss : List (Value → World → Prop)) (ds : List Tmp) (hds : dstsOf l.toArray n = ds) (hmn : m ≤ n) (hB : specB .any l.toArray n M = true) (hM : M ≤ a0.tmps.size)
    (mono : ∀ S ∈ Ss, Grows S) (hval : ∀ i d, i < m → dstOf l.toArray i = some d → sAt Ss i (a0.eval (.tmp d)) W) (hst : Steps P l.toArray .any W a0 n noAlE (sAt Ss) Q (n - m) m (l.drop m))
    (hend : ∀ (val : Tmp → Value) w, Cl W w → (∀ i d, i < n → dstOf l.toArray i = some d → sAt Ss i (val d) w) → wpList P l.toArray Q (l.drop n) (putVals ds val a0) w) : wpAny P .any l.toArray Q (l.toArray.size - m) (headArr m l.toArray.size) a0 W := by
  have hB2 := hB
  simp only [specB, Bool.and_eq_true, decide_eq_true_eq] at hB2
  obtain ⟨⟨⟨⟨⟨hn, hs⟩, hc⟩, hback⟩, hdst⟩, hseq⟩ := hB2
  have hf : ∀ t, m ≤ t → t < l.toArray.size → (headArr m l.toArray.size).getD t false = false := fun t h1 h2 => by
    have h3 : (headArr m l.toArray.size)[t]? = some false := by
      simp only [headArr, List.getElem?_toArray]
      rw [List.getElem?_append_right (by simpa using h1)]
      simp [List.getElem?_replicate]; simp at h2; omega
    rw [Array.getD_eq_getD_getElem?, h3]; rfl
  have hat : ∀ i o, m ≤ i → i < n → l.toArray[i]? = some o → StepOk P l.toArray .any W a0 n noAlE (sAt Ss) Q i o := fun i o h1 h2 ho => by
    have := Steps.at_ (n - m) m (l.drop m) hst (i - m) o (by omega) (by
      rw [List.getElem?_drop, show m + (i - m) = i by omega]; simpa using ho)
    rwa [show m + (i - m) = i by omega] at this
  have hM' : ∀ i v w w', sAt Ss i v w → Below w.heap.size w w' → sAt Ss i v w' := fun i v w w' h1 h2 => grows_at mono i v w w' h1 h2
  have inv0 : HInv .any l.toArray 0 n (headArr m l.toArray.size) := headInv hback hmn (by omega)
  have key : ∀ (F : Nat) (listed : Array Bool) (a : Act) (w : World), lacking listed.toList = F → HInv .any l.toArray 0 n listed → (∀ i, i < m → listed.getD i false = true) → St l.toArray W a0 n noAlE (sAt Ss) listed a w → wpAny P .any l.toArray Q F listed a w := by
    have lackAt : ∀ (listed : Array Bool) (i : Nat), listed.getD i true = false → listed.toList[i]? = some false := fun listed i h => by
      rw [Array.getD_eq_getD_getElem?] at h
      rw [Array.getElem?_toList]
      cases h3 : listed[i]? with
      | none => rw [h3] at h; simp at h
      | some b => rw [h3] at h; simp at h; rw [h]
    intro F
    induction F with
    | zero =>
      intro listed a w hF inv _ _
      exfalso
      have := lacking_set _ n (lackAt listed n (inv.inv.tail n (Nat.le_refl _) hn))
      omega
    | succ F ih =>
      intro listed a w hF inv hlow st
      have hsz := inv.inv.size
      by_cases hall : ∀ i, i < n → listed.getD i false = true
      · have e : listed = headArr n l.toArray.size := by
          apply Array.ext (by rw [hsz, headArr_size (by omega)])
          intro i h1 h2
          by_cases hi : i < n
          · have := hall i hi
            have h3 : (headArr n l.toArray.size)[i] = true := by simp [headArr, List.getElem_append_left, hi]
            rw [h3]; simpa [h1] using this
          · have := inv.inv.tail i (by omega) (by omega)
            have h3 : (headArr n l.toArray.size)[i] = false := by
              simp only [headArr, List.getElem_toArray]
              rw [List.getElem_append_right (by simp; omega)]
              simp
            rw [h3]; simpa [h1] using this
        subst e
        have hg : lacking (headArr n l.toArray.size).toList = l.toArray.size - n := lacking_head n _
        have hlen : (l.drop n).length = l.toArray.size - n := by simp
        have h4 : wpList P l.toArray Q (l.drop n) a w := by
          rw [st.act, hds]
          exact hend (fun d => a.eval (.tmp d)) w st.cl (fun i d hi hd => st.at_ i d hi hd)
        have h3 := wpAny_of_seq (P := P) (ops := l.toArray) (md := .any) (Q' := Q) (l.drop n) n (headArr n l.toArray.size) a w (fun j => by simp [List.getElem?_drop]) (by rw [hlen]; exact hseq) h4
        rw [hlen, ← hg, hF] at h3
        exact h3
      · have hex : ∃ i, i < n ∧ listed.getD i false = false := by
          refine Classical.byContradiction fun hno => hall fun j hj => ?_
          cases h : listed.getD j false with
          | true => rfl
          | false => exact absurd ⟨j, hj, h⟩ hno
        obtain ⟨i0, hi0, hl0⟩ := hex
        obtain ⟨j0, _, hr0⟩ := first_ready (md := .any) hback hsz i0 (by omega) hl0
        refine ⟨fun h => absurd hr0 (by rw [h]; simp), fun i hir => ?_⟩
        have hin : i < n := Nat.lt_of_not_le fun h => tail_later hs hc inv _ i0 rfl hi0 (getD_in (by omega) hl0) i h hir
        obtain ⟨hun, o, ho, hafter⟩ := mem_ready.1 hir
        have him : m ≤ i := by
          refine Classical.byContradiction fun h => ?_
          have := hlow i (by omega)
          rw [getD_both hun] at this; cases this
        have hFn : lacking (listed.setIfInBounds i true).toList = F := by
          have := lacking_set _ i (lackAt listed i hun)
          have e : (listed.setIfInBounds i true).toList = listed.toList.set i true := by simp
          rw [e]; omega
        have hil : i < listed.size := by
          have := (Array.getElem?_eq_some_iff.1 ho).1
          omega
        exact St.step hdst hM hM' (hat i o him hin ho) st hin ho hil (fun j hw => ready_waitsE hir hw) _ (fun a' w' st' => ih _ _ _ hFn (inv.set hir hin) (fun j hj => getD_set_true (hlow j hj)) st')
  refine key _ _ _ _ (lacking_head m _) inv0 (fun i hi => head_true hi) ⟨Below.refl _ _, rfl, rfl, fun _ _ => rfl, fun i hi hl d hd => ?_, fun i _ _ h => (by cases h), fun i j _ _ _ _ h => (by cases h)⟩
  refine hval i d ?_ hd
  refine Classical.byContradiction fun h => ?_
  rw [hf i (by omega) (by omega)] at hl; cases hl
end
end Go.Proofs.YtpncohoonfahpaaGreatDoor
