/- A region that draws its order, at whose end new blocks are filled: what only reads may come up between these stores. No program is named. -/
import Derived.Test.YtdfalneiapeegaaMCopy
namespace Go.Proofs.Ytdfalneiapeegaa
open Go Go.RowKit

section
variable {P : Program} {ops : Array Oper} {md : Region.Mode} {W : World} {a0 : Act} {n : Nat} {al : Nat → Bool} {S : Nat → Value → World → Prop} {Q : Exit → Act → World → Prop}
theorem op_valS {i : Nat} {o : Oper} {K : Act → World → Prop} {a : Act} {w : World} (ho : ops[i]? = some o) (hg : o.guard = none) {v : Value} (hr : (execOp a.eval o).run P w = .ok (.value v) w) (h : K (a.put o.dst v) w) : wpOp P ops Q i K a w := by
  unfold wpOp
  simp only [ho]
  rw [if_pos (by simp [Region.wanted, hg])]
  left
  unfold Oper.wp
  rw [hr]; exact h
theorem op_storeS {i : Nat} {o : Oper} {K : Act → World → Prop} {a : Act} {w : World} (ho : ops[i]? = some o) (hg : o.guard = none) (ty : TypeId) (x y : Operand) (hop : o.op = .store ty x y) (b : Nat) (cells : Array Value) (hx : a.eval x = .pointer (some ⟨b, 0, none⟩)) (hy : a.eval y = .agg cells)
    (ht : w.there b 0 cells.size) (hi : (P.info? ty).map (·.size) = some cells.size) (h1 : cells.all (·.oneCell') = true) (h : K (a.put o.dst undef) (w.setCells b 0 cells.toList)) : wpOp P ops Q i K a w := by
  unfold wpOp
  simp only [ho]
  rw [if_pos (by simp [Region.wanted, hg])]
  exact .inl (wp_store_mid ty x y hop b 0 cells hx hy ht hi h1 h)
/-- An operation of the head comes up that changes no memory, wherever the world is by now. -/
theorem St.nextS {M : Nat} {listed : Array Bool} {a : Act} {w : World} {i : Nat} {o : Oper} (hdst : dstB ops n M = true) (hM : M ≤ a0.tmps.size)
    (mono : ∀ i v w w', S i v w → Below w.heap.size w w' → S i v w') (st : St ops W a0 n al S listed a w) (hin : i < n) (ho : ops[i]? = some o) (hil : i < listed.size)
    (v : Value) (hv : S i v w) (hna : al i = false) : St ops W a0 n al S (listed.setIfInBounds i true) (a.put o.dst v) w := by
  obtain ⟨d, hd, hdl, hdu⟩ := dst_spec hdst hM i hin
  have hod : o.dst = some d := by unfold dstOf at hd; rw [ho] at hd; exact hd
  have hset : ∀ j, (listed.setIfInBounds i true).getD j false = true → j = i ∨ listed.getD j false = true := fun j hj => by
    by_cases e : i = j
    · exact .inl e.symm
    · rw [getD_set_ne false e] at hj; exact .inr hj
  rw [hod]
  have same : (a.put (some d) v).eval (.tmp d) = v := by
    have h1 : d < a.tmps.size := by rw [st.size]; exact hdl
    simp [Act.put, Act.eval, Array.getD, h1]
  have other : ∀ dj, d ≠ dj → (a.put (some d) v).eval (.tmp dj) = a.eval (.tmp dj) := fun dj hne => by
    simp only [Act.put, Act.eval, Array.getD_eq_getD_getElem?]
    rw [Array.getElem?_setIfInBounds_ne hne]
  have dne : ∀ j dj, j < n → j ≠ i → dstOf ops j = some dj → d ≠ dj := fun j dj hj e hdj e2 => e (hdu j hj (by rw [hdj, e2])).symm
  have hni : ∀ j, al j = true → j ≠ i := fun j hj e => by rw [e, hna] at hj; cases hj
  refine ⟨st.cl, st.df, by simp [Act.put, st.size], fun t ht => ?_, fun j hj hlj dj hdj => ?_, fun j hj hlj hja dj hdj => ?_, fun j k hj hk hlj hlk hja hka hjk dj dk hdj hdk => ?_⟩
  · have hne : d ≠ t := fun e => ht i hin (by simp [hil]) (by rw [hd, e])
    show (a.tmps.setIfInBounds d v)[t]? = _
    rw [Array.getElem?_setIfInBounds_ne hne]
    exact st.frame t fun k hk hlk => ht k hk (getD_set_true hlk)
  · by_cases e : j = i
    · subst e
      obtain rfl : dj = d := Option.some.inj (hdj.symm.trans hd)
      rw [same]; exact hv
    · rw [other dj (dne j dj hj e hdj)]
      exact mono _ _ _ _ (st.vals j hj ((hset j hlj).resolve_left e) dj hdj) (Below.refl _ _)
  · have e := hni j hja
    rw [other dj (dne j dj hj e hdj)]
    exact st.laid j hj ((hset j hlj).resolve_left e) hja dj hdj
  · have e := hni j hja
    have e2 := hni k hka
    rw [other dj (dne j dj hj e hdj), other dk (dne k dk hk e2 hdk)]
    exact st.apart j k hj hk ((hset j hlj).resolve_left e) ((hset k hlk).resolve_left e2) hja hka hjk dj dk hdj hdk
/-- A store: where its block and its value come from, and what it lays. -/
structure Sto where
  ip : Nat
  p : Tmp
  iv : Nat
  v : Tmp
  cells : Array Value
def blkOf : Value → Nat
  | .pointer (some x) => x.block
  | _ => 0
/-- The world behind stores. -/
def aft (val : Tmp → Value) : List Sto → World → World
  | [], w => w
  | x :: r, w => aft val r (w.setCells (blkOf (val x.p)) 0 x.cells.toList)
theorem aft_snoc (val : Tmp → Value) (x : Sto) : ∀ (l : List Sto) (w : World), aft val (l ++ [x]) w = (aft val l w).setCells (blkOf (val x.p)) 0 x.cells.toList
  | [], _ => rfl
  | y :: l, w => aft_snoc val x l _
theorem aft_there (val : Tmp → Value) {b o k : Nat} : ∀ (l : List Sto) (w : World), w.there b o k → (aft val l w).there b o k
  | [], _, h => h
  | _ :: l, _, h => aft_there val l _ (World.there_setCells h _ _ _)
theorem aft_below (val : Tmp → Value) : ∀ (l : List Sto) (w : World), Cl W w → (∀ x ∈ l, W.heap.size ≤ blkOf (val x.p)) → Cl W (aft val l w)
  | [], _, h, _ => h
  | x :: l, w, h, hb => aft_below val l _ (Below.setCells h (hb x (by simp)) 0 _) (fun y hy => hb y (by simp [hy]))
theorem aft_eq {val val' : Tmp → Value} : ∀ (l : List Sto) (w : World), (∀ x ∈ l, val x.p = val' x.p) → aft val l w = aft val' l w
  | [], _, _ => rfl
  | x :: l, w, h => by
    unfold aft
    rw [h x (by simp)]
    exact aft_eq l _ (fun y hy => h y (by simp [hy]))
/-- What the region's tail is. -/
def StosAt (P : Program) (ops : Array Oper) (md : Region.Mode) (W : World) (n : Nat) (S : Nat → Value → World → Prop) (T : TypeId) : Nat → List Sto → Prop
  | _, [] => True
  | m, x :: r => ((∃ o, ops[n + m]? = some o ∧ o.op = .store T (.tmp x.p) (.tmp x.v) ∧ o.guard = none ∧ o.dst = none) ∧ x.ip < n ∧ x.iv < n ∧ dstOf ops x.ip = some x.p ∧ dstOf ops x.iv = some x.v ∧ Region.waitsFor md ops (n + m) x.ip = true ∧ Region.waitsFor md ops (n + m) x.iv = true
      ∧ (∀ v w, S x.ip v w → ∃ b, v = .pointer (some ⟨b, 0, none⟩) ∧ W.heap.size ≤ b ∧ w.there b 0 x.cells.size) ∧ (∀ v w, S x.iv v w → v = .agg x.cells) ∧ (P.info? T).map (·.size) = some x.cells.size ∧ x.cells.all (·.oneCell') = true) ∧ StosAt P ops md W n S T (m + 1) r
theorem StosAt.at_ {T : TypeId} : ∀ (m : Nat) (l : List Sto), StosAt P ops md W n S T m l → ∀ i x, l[i]? = some x → ((∃ o, ops[n + (m + i)]? = some o ∧ o.op = .store T (.tmp x.p) (.tmp x.v) ∧ o.guard = none ∧ o.dst = none) ∧ x.ip < n ∧ x.iv < n ∧ dstOf ops x.ip = some x.p ∧ dstOf ops x.iv = some x.v ∧ Region.waitsFor md ops (n + (m + i)) x.ip = true ∧ Region.waitsFor md ops (n + (m + i)) x.iv = true
      ∧ (∀ v w, S x.ip v w → ∃ b, v = .pointer (some ⟨b, 0, none⟩) ∧ W.heap.size ≤ b ∧ w.there b 0 x.cells.size) ∧ (∀ v w, S x.iv v w → v = .agg x.cells) ∧ (P.info? T).map (·.size) = some x.cells.size ∧ x.cells.all (·.oneCell') = true)
  | _, [], _, i, x, h => by simp at h
  | m, y :: l, h, 0, x, hx => by
    simp at hx; subst hx; exact h.1
  | m, y :: l, h, i + 1, x, hx => by
    have := StosAt.at_ (m + 1) l h.2 i x (by simpa using hx)
    rw [show m + (i + 1) = m + 1 + i by omega]; exact this
/-- All that the kernel has to look at. -/
def storesB (md : Region.Mode) (ops : Array Oper) (n k M : Nat) : Bool :=
  decide (n + k = ops.size) && decide (0 < k) && Region.chainB md ops n && backB md ops && dstB ops n M
/-- An operation that may come up behind a store: it only reads, and its value is told whatever the world. -/
def FreeS (P : Program) (ops : Array Oper) (md : Region.Mode) (W : World) (a0 : Act) (n : Nat) (S : Nat → Value → World → Prop) (i : Nat) (o : Oper) : Prop :=
  o.guard = none ∧ ∀ a w, Cl W w → Fr ops n a0 a → ∃ v, (execOp a.eval o).run P w = .ok (.value v) w ∧ ∀ w', S i v w'
/-- What stands when some have come up. -/
structure StS (md : Region.Mode) (ops : Array Oper) (W : World) (a0 : Act) (n : Nat) (al : Nat → Bool) (S : Nat → Value → World → Prop) (sts : List Sto) (listed : Array Bool) (a : Act) (w : World) : Prop where
  size : listed.size = ops.size
  closed : ∀ i j, listed.getD i false = true → Region.waitsFor md ops i j = true → listed.getD j false = true
  world : ∃ w0 j, j ≤ sts.length ∧ St ops W a0 n al S listed a w0 ∧ w = aft (fun t => a.eval (.tmp t)) (sts.take j) w0 ∧ ∀ m, m < sts.length → listed.getD (n + m) false = decide (m < j)
theorem ready_waitsS {listed : Array Bool} {i j : Nat} (hi : i ∈ Region.ready md ops listed) (hw : Region.waitsFor md ops i j = true) : listed.getD j false = true := by
  obtain ⟨_, o, ho, hall⟩ := mem_ready.1 hi
  obtain ⟨o', ho', e, he, hb, hon⟩ := Region.waitsFor_spec hw
  obtain rfl : o' = o := Option.some.inj (ho'.symm.trans ho)
  rw [← hon]; exact hall e he hb
theorem closed_set {listed : Array Bool} {i : Nat} (hs : listed.size = ops.size) (hc : ∀ i j, listed.getD i false = true → Region.waitsFor md ops i j = true → listed.getD j false = true) (hi : i ∈ Region.ready md ops listed) :
    (listed.setIfInBounds i true).size = ops.size ∧ ∀ k j, (listed.setIfInBounds i true).getD k false = true → Region.waitsFor md ops k j = true → (listed.setIfInBounds i true).getD j false = true := by
  refine ⟨by simp [hs], fun k j hk hw => ?_⟩
  by_cases e : i = k
  · subst e; exact getD_set_true (ready_waitsS hi hw)
  · rw [getD_set_ne false e] at hk
    exact getD_set_true (hc k j hk hw)
theorem stores_any {M k : Nat} {T : TypeId} {sts : List Sto} (hk : sts.length = k) (hB : storesB md ops n k M = true) (hM : M ≤ a0.tmps.size)
    (mono : ∀ i v w w', S i v w → Below w.heap.size w w' → S i v w') (hst : ∀ i o, i < n → ops[i]? = some o → StepOk P ops md W a0 n al S Q i o) (hsts : StosAt P ops md W n S T 0 sts)
    (hfree : ∀ i o, i < n → ops[i]? = some o → Region.waitsFor md ops n i = false → al i = false ∧ FreeS P ops md W a0 n S i o)
    (hend : ∀ a w0, St ops W a0 n al S (headArr n ops.size) a w0 → Q .normal a (aft (fun t => a.eval (.tmp t)) sts w0)) :
    ∀ (F : Nat) (listed : Array Bool) (a : Act) (w : World), lacking listed.toList = F → StS md ops W a0 n al S sts listed a w → wpAny P md ops Q F listed a w := by
  subst hk
  simp only [storesB, Bool.and_eq_true, decide_eq_true_eq] at hB
  obtain ⟨⟨⟨⟨hn, hk0⟩, hc⟩, hback⟩, hdst⟩ := hB
  have fin : ∀ listed a w, StS md ops W a0 n al S sts listed a w → (∀ i, i < ops.size → listed.getD i false = true) → Q .normal a w := fun listed a w st hall => by
    obtain ⟨w0, j, hj, h1, rfl, hm⟩ := st.world
    have e : j = sts.length := by
      rcases Nat.lt_or_ge j sts.length with h | h
      · have h2 := hm j h
        rw [hall _ (by omega)] at h2
        simp at h2
      · omega
    rw [e, List.take_length]
    refine hend a w0 ⟨h1.cl, h1.df, h1.size, fun t ht => h1.frame t fun i hi _ => ht i hi (head_true hi), fun i hi _ d hd => h1.vals i hi (hall i (by omega)) d hd, fun i hi _ ha d hd => h1.laid i hi (hall i (by omega)) ha d hd, fun i j hi hj _ _ ha hb hij d d' hd hd' => h1.apart i j hi hj (hall i (by omega)) (hall j (by omega)) ha hb hij d d' hd hd'⟩
  have lackAt : ∀ (listed : Array Bool) (i : Nat), listed.getD i true = false → listed.toList[i]? = some false := fun listed i h => by
    rw [Array.getD_eq_getD_getElem?] at h
    rw [Array.getElem?_toList]
    cases h3 : listed[i]? with
    | none => rw [h3] at h; simp at h
    | some b => rw [h3] at h; simp at h; rw [h]
  have lackSet : ∀ (listed : Array Bool) (i F : Nat), listed.getD i true = false → lacking listed.toList = F + 1 → lacking (listed.setIfInBounds i true).toList = F := fun listed i F h hF => by
    have := lacking_set _ i (lackAt listed i h)
    have e : (listed.setIfInBounds i true).toList = listed.toList.set i true := by simp
    rw [e]; omega
  have allOf : ∀ (listed : Array Bool), listed.size = ops.size → lacking listed.toList = 0 → ∀ i, i < ops.size → listed.getD i false = true := fun listed hs h0 i hi => by
    cases h : listed.getD i false with
    | true => rfl
    | false =>
      have := lacking_set _ i (lackAt listed i (getD_in (by omega) h))
      omega
  intro F
  induction F with
  | zero =>
    intro listed a w hF st
    have hall := allOf listed st.size hF
    refine ⟨?_, fin listed a w st hall⟩
    cases hr : Region.ready md ops listed with
    | nil => rfl
    | cons i r =>
      obtain ⟨h1, o, ho, _⟩ := mem_ready.1 (by rw [hr]; simp : i ∈ Region.ready md ops listed)
      have h2 := hall i (Array.getElem?_eq_some_iff.1 ho).1
      rw [getD_both h1] at h2; cases h2
  | succ F ih =>
    intro listed a w hF st
    refine ⟨fun hr => fin listed a w st fun i hi => ?_, fun i hir => ?_⟩
    · cases h : listed.getD i false with
      | true => rfl
      | false =>
        obtain ⟨j, _, hj⟩ := first_ready hback st.size i hi h
        rw [hr] at hj; cases hj
    · obtain ⟨hun, o, ho, hafter⟩ := mem_ready.1 hir
      have his : i < ops.size := (Array.getElem?_eq_some_iff.1 ho).1
      have hil : i < listed.size := by rw [st.size]; exact his
      have hunF := getD_both hun
      have hF2 := lackSet _ _ _ hun hF
      obtain ⟨hs2, hc2⟩ := closed_set st.size st.closed hir
      obtain ⟨w0, j, hj, h1, rfl, hm⟩ := st.world
      by_cases hin : i < n
      · have other : ∀ m, m < sts.length → (listed.setIfInBounds i true).getD (n + m) false = decide (m < j) := fun m h => by rw [getD_set_ne false (by omega)]; exact hm m h
        rcases Nat.eq_zero_or_pos j with e | e
        · subst e
          refine St.step hdst hM mono (hst i o hin ho) h1 hin ho hil (fun j hw => ready_waitsS hir hw) _ (fun a' w' st' => ih _ _ _ hF2 ⟨hs2, hc2, w', 0, Nat.zero_le _, st', rfl, other⟩)
        · have hfr : Region.waitsFor md ops n i = false := by
            cases h : Region.waitsFor md ops n i with
            | false => rfl
            | true =>
              have hn0 : listed.getD n false = true := by have := hm 0 hk0; rw [Nat.add_zero] at this; rw [this]; simpa using e
              have := st.closed n i hn0 h
              rw [hunF] at this; cases this
          obtain ⟨hna, hgd, hrun⟩ := hfree i o hin ho hfr
          have hcl : Cl W (aft (fun t => a.eval (.tmp t)) (sts.take j) w0) := aft_below _ _ _ h1.cl fun x hx => by
            obtain ⟨m, hmx⟩ := List.getElem?_of_mem hx
            have hmj : m < j := by have := (List.getElem?_eq_some_iff.1 hmx).1; rw [List.length_take] at this; omega
            rw [List.getElem?_take, if_pos hmj] at hmx
            obtain ⟨_, hp, _, hdp, _, hwp, _, hSp, _⟩ := StosAt.at_ 0 sts hsts m x hmx
            rw [Nat.zero_add] at hwp
            have hl := hm m (by omega)
            rw [decide_eq_true hmj] at hl
            obtain ⟨b, e1, e2, _⟩ := hSp _ _ (h1.vals _ hp (st.closed _ _ hl hwp) _ hdp)
            show W.heap.size ≤ blkOf (a.eval (.tmp x.p))
            rw [e1]; exact e2
          obtain ⟨v, hv1, hv2⟩ := hrun a _ hcl (fun t ht => h1.frame t (fun j hj _ => ht j hj))
          refine op_valS ho hgd hv1 ?_
          have st2 := St.nextS hdst hM mono h1 hin ho hil v (hv2 w0) hna
          obtain ⟨d, hdi, hdl, hdu⟩ := dst_spec hdst hM i hin
          have hod : o.dst = some d := by unfold dstOf at hdi; rw [ho] at hdi; exact hdi
          refine ih _ _ _ hF2 ⟨hs2, hc2, w0, j, hj, st2, aft_eq _ _ fun x hx => ?_, other⟩
          obtain ⟨m, hmx⟩ := List.getElem?_of_mem hx
          have hmj : m < j := by have := (List.getElem?_eq_some_iff.1 hmx).1; rw [List.length_take] at this; omega
          rw [List.getElem?_take, if_pos hmj] at hmx
          obtain ⟨_, hp, _, hdp, _, hwp, _⟩ := StosAt.at_ 0 sts hsts m x hmx
          rw [Nat.zero_add] at hwp
          have hl := hm m (by omega)
          rw [decide_eq_true hmj] at hl
          have hlp := st.closed _ _ hl hwp
          have hne : d ≠ x.p := fun e => by
            have e3 := hdu x.ip hp (by rw [hdp, e])
            rw [← e3, hunF] at hlp; cases hlp
          show a.eval (.tmp x.p) = (a.put o.dst v).eval (.tmp x.p)
          rw [hod]
          simp only [Act.put, Act.eval, Array.getD_eq_getD_getElem?]
          rw [Array.getElem?_setIfInBounds_ne hne]
      · obtain ⟨m, rfl⟩ : ∃ m, i = n + m := ⟨i - n, by omega⟩
        have hmk : m < sts.length := by omega
        have hmj : m = j := by
          have h2 := hm m hmk
          rw [hunF] at h2
          have h3 : j ≤ m := by simpa using h2.symm
          rcases Nat.lt_or_ge j m with h4 | h4
          · exfalso
            have h5 := List.all_eq_true.1 hc (n + m) (List.mem_range.2 his)
            simp only [Bool.or_eq_true, decide_eq_true_eq] at h5
            rcases h5 with h5 | h5
            · omega
            · have h6 := ready_waitsS hir h5
              have h7 := hm (m - 1) (by omega)
              rw [show n + (m - 1) = n + m - 1 by omega, h6] at h7
              have : m - 1 < j := by simpa using h7.symm
              omega
          · omega
        subst hmj
        obtain ⟨⟨o', ho', hop, hg, hd⟩, hp, hv, hdp, hdv, hwp, hwv, hSp, hSv, hi, hone⟩ := StosAt.at_ 0 sts hsts m sts[m] (by simp [hmk])
        rw [Nat.zero_add] at ho' hwp hwv
        obtain rfl : o' = o := Option.some.inj (ho'.symm.trans ho)
        obtain ⟨b, e1, e2, e3⟩ := hSp _ _ (h1.vals _ hp (ready_waitsS hir hwp) _ hdp)
        refine op_storeS ho hg T _ _ hop b _ e1 (hSv _ _ (h1.vals _ hv (ready_waitsS hir hwv) _ hdv)) (aft_there _ _ _ e3) hi hone ?_
        rw [hd]
        have et : sts.take (m + 1) = sts.take m ++ [sts[m]] := by rw [List.take_add_one, List.getElem?_eq_getElem hmk]; rfl
        refine ih _ _ _ hF2 ⟨hs2, hc2, w0, m + 1, by omega, ⟨h1.cl, h1.df, h1.size, fun t ht => h1.frame t fun i hi hl => ht i hi (getD_set_true hl), fun i hi hl => h1.vals i hi (by rwa [getD_set_ne false (by omega)] at hl), fun i hi hl => h1.laid i hi (by rwa [getD_set_ne false (by omega)] at hl), fun i j hi hj hl hl' => h1.apart i j hi hj (by rwa [getD_set_ne false (by omega)] at hl) (by rwa [getD_set_ne false (by omega)] at hl')⟩, ?_, fun m' hm' => ?_⟩
        · rw [et, aft_snoc]
          show _ = World.setCells _ (blkOf (a.eval (.tmp sts[m].p))) 0 _
          rw [e1]; rfl
        · by_cases e : m' = m
          · subst e
            rw [Array.getD_eq_getD_getElem?, Array.getElem?_setIfInBounds_self_of_lt hil]
            simp
          · rw [getD_set_ne false (by omega), hm m' hm']
            simp only [decide_eq_decide]
            omega
/-- The head's operations, each: the first store waits for it, or it only reads. -/
def Frees (P : Program) (ops : Array Oper) (md : Region.Mode) (W : World) (a0 : Act) (n : Nat) (al : Nat → Bool) (S : Nat → Value → World → Prop) : Nat → Nat → List Oper → Prop
  | 0, _, _ => True
  | _ + 1, _, [] => True
  | m + 1, k, o :: l => (Region.waitsFor md ops n k = true ∨ (al k = false ∧ FreeS P ops md W a0 n S k o)) ∧ Frees P ops md W a0 n al S m (k + 1) l
theorem Frees.at_ : ∀ (m k : Nat) (l : List Oper), Frees P ops md W a0 n al S m k l → ∀ i o, i < m → l[i]? = some o → Region.waitsFor md ops n (k + i) = true ∨ (al (k + i) = false ∧ FreeS P ops md W a0 n S (k + i) o)
  | 0, _, _, _, _, _, hi, _ => by omega
  | m + 1, k, [], _, i, o, _, ho => by simp at ho
  | m + 1, k, o' :: l, h, 0, o, _, ho => by
    simp at ho; subst ho; exact h.1
  | m + 1, k, o' :: l, h, i + 1, o, hi, ho => by
    have := Frees.at_ m (k + 1) l h.2 i o (by omega) (by simpa using ho)
    rw [show k + (i + 1) = k + 1 + i by omega]; exact this
theorem free_ldV {i : Nat} {o : Oper} (hg : o.guard = none) {T : TypeId} {t b f : Nat} {vs : List Value} {d : TypeDesc} (h : ∀ w, Cl W w → w.rangeAt b f vs) (ho : o.op = .load T (.tmp t)) (hU : P.underlying T = some d) (hR : d.isRow = true) (hs : (P.info? T).map (·.size) = some vs.length) (hS : S i = Is (.agg vs.toArray)) (hB : notDst ops n t = true) (hx : a0.eval (.tmp t) = .pointer (some ⟨b, f, none⟩)) : FreeS P ops md W a0 n S i o :=
  ⟨hg, fun a w hw hf => ⟨_, ex_load T (.tmp t) ho b f ((eval_out hf t hB).trans hx) vs d (h w hw) hU hR hs, fun _ => by rw [hS]; exact rfl⟩⟩
theorem sto_p {base : Nat} {zs : List Value} {cells : Array Value} {v : Value} {w : World} (h : IsZV base zs v w) (e : zs.length = cells.size) : ∃ b, v = .pointer (some ⟨b, 0, none⟩) ∧ base ≤ b ∧ w.there b 0 cells.size := by
  obtain ⟨b, h1, h0, h2⟩ := h
  exact ⟨b, h1, h0, by rw [← e]; exact h2.there⟩
/-- The region, with the act at the end written out; all stores are done. -/
theorem region_stores {id : Nat} {l : List Oper} (n M k : Nat) (al : Nat → Bool) (Ss : List (Value → World → Prop)) (ds : List Tmp) (T : TypeId) (sts : List Sto) (hk : sts.length = k) (hds : dstsOf l.toArray n = ds) (hm : P.follows .mixedOrders = true) (hB : storesB .any l.toArray n k M = true) (hM : M ≤ a0.tmps.size)
    (mono : ∀ S ∈ Ss, Grows S) (hst : Steps P l.toArray .any W a0 n al (sAt Ss) Q n 0 l) (hsts : StosAt P l.toArray .any W n (sAt Ss) T 0 sts)
    (hfree : Frees P l.toArray .any W a0 n al (sAt Ss) n 0 l)
    (hend : ∀ (val : Tmp → Value) w, Cl W w → (∀ i d, i < n → dstOf l.toArray i = some d → sAt Ss i (val d) w) →
      (∀ i j d d', i < n → j < n → al i = true → al j = true → i ≠ j → dstOf l.toArray i = some d → dstOf l.toArray j = some d' → home (val d) ≠ home (val d')) →
      (∀ i d, i < n → al i = true → dstOf l.toArray i = some d → ∃ b, home (val d) = some b ∧ W.heap.size ≤ b ∧ b < w.heap.size) → Q .normal (putVals ds val a0) (aft val sts w)) : (Code.region id l.toArray true).wp P Q a0 W := by
  refine wp_region_any hm ?_
  have hrep : ∀ i, (Array.replicate l.toArray.size false).getD i false = false := fun i => getD_replicate_false _ _
  refine stores_any (a0 := a0) (al := al) (S := sAt Ss) hk hB hM (fun i v w w' h1 h2 => grows_at mono i v w w' h1 h2) (fun i o hi ho => ?_) hsts (fun i o hi ho hw => ?_) (fun a w st => ?_) _ _ _ _ ?_ ?_
  · have := Steps.at_ n 0 l hst i o hi (by simpa using ho)
    rwa [Nat.zero_add] at this
  · have := Frees.at_ n 0 l hfree i o hi (by simpa using ho)
    rw [Nat.zero_add] at this
    rcases this with h | h
    · rw [hw] at h; cases h
    · exact h
  · have hl : ∀ i, i < n → (headArr n l.toArray.size).getD i false = true := fun i hi => head_true hi
    have h := hend (fun d => a.eval (.tmp d)) w st.cl (fun i d hi hd => st.at_ i d hi hd) (fun i j d d' hi hj hai haj hij hd hd' => st.apart i j hi hj (hl i hi) (hl j hj) hai haj hij d d' hd hd') (fun i d hi hai hd => st.laid i hi (hl i hi) hai d hd)
    rw [← hds, ← st.act] at h
    exact h
  · have := lacking_new l.toArray.size
    simpa using this
  · refine ⟨by simp, fun i j h => ?_, W.drew, 0, Nat.zero_le _, ⟨Cl.drew W, rfl, rfl, fun _ _ => rfl, fun i _ h => ?_, fun i _ h => ?_, fun i j _ _ h => ?_⟩, rfl, fun m _ => ?_⟩
    · rw [hrep] at h; cases h
    · rw [hrep] at h; cases h
    · rw [hrep] at h; cases h
    · rw [hrep] at h; cases h
    · rw [hrep]; simp
end
end Go.Proofs.Ytdfalneiapeegaa
