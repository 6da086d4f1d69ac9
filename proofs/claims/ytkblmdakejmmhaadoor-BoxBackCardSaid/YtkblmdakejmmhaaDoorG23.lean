/- Texts of this proof, laid together: CQuarter, Many, CTab. -/
import Derived.Test.YtkblmdakejmmhaaDoorG22
import Derived.Test.YtkblmdakejmmhaaDoorG10
import Derived.Test.YtkblmdakejmmhaaDoorG1
import Derived.Test.YtkblmdakejmmhaaDoorG18
/- Rotations of package bits, quarter rounds. -/
namespace Go.Proofs.YtkblmdakejmmhaaDoor
open Go.RowKit

set_option maxRecDepth 50000 in
theorem rl_16 (x y : Int) (w : World) (h : Hid (WdZ x)) (hy : Hid (rotZ x 16 = y)) :
    Calls Tryd.prog 77 #[.int .u32 x, .int .i64 16] w fun e w' => e = .returned (.int .u32 y) ∧ w = w' := by
  have k1 : bits .and .u64 16 31 = 16 := by kernel_rfl
  go_enter Tryd.func77, Tryd.ntmps77
  go_wp2
  go_ret
  exact ⟨ret_int (by rw [← hy.out]; have := rot_orZ (n := 16) (by omega) h.out; simpa using this), rfl⟩
set_option maxRecDepth 50000 in
theorem rl_12 (x y : Int) (w : World) (h : Hid (WdZ x)) (hy : Hid (rotZ x 20 = y)) :
    Calls Tryd.prog 77 #[.int .u32 x, .int .i64 12] w fun e w' => e = .returned (.int .u32 y) ∧ w = w' := by
  have k1 : bits .and .u64 12 31 = 12 := by kernel_rfl
  go_enter Tryd.func77, Tryd.ntmps77
  go_wp2
  go_ret
  exact ⟨ret_int (by rw [← hy.out]; have := rot_orZ (n := 20) (by omega) h.out; simpa using this), rfl⟩
set_option maxRecDepth 50000 in
theorem rl_8Z (x y : Int) (w : World) (h : Hid (WdZ x)) (hy : Hid (rotZ x 24 = y)) :
    Calls Tryd.prog 77 #[.int .u32 x, .int .i64 8] w fun e w' => e = .returned (.int .u32 y) ∧ w = w' := by
  have k1 : bits .and .u64 8 31 = 8 := by kernel_rfl
  go_enter Tryd.func77, Tryd.ntmps77
  go_wp2
  go_ret
  exact ⟨ret_int (by rw [← hy.out]; have := rot_orZ (n := 24) (by omega) h.out; simpa using this), rfl⟩
set_option maxRecDepth 50000 in
theorem rl_7 (x y : Int) (w : World) (h : Hid (WdZ x)) (hy : Hid (rotZ x 25 = y)) :
    Calls Tryd.prog 77 #[.int .u32 x, .int .i64 7] w fun e w' => e = .returned (.int .u32 y) ∧ w = w' := by
  have k1 : bits .and .u64 7 31 = 7 := by kernel_rfl
  go_enter Tryd.func77, Tryd.ntmps77
  go_wp2
  go_ret
  exact ⟨ret_int (by rw [← hy.out]; have := rot_orZ (n := 25) (by omega) h.out; simpa using this), rfl⟩

set_option maxRecDepth 50000 in
theorem results_tmp4 {fn : Func} {t u v x : Tmp} (h : fn.results = #[.tmp t, .tmp u, .tmp v, .tmp x]) (tmps : Array Value) (P : Program) (w : World) :
    (results fn tmps).run P w = .ok (.tuple #[tmps.getD t undef, tmps.getD u undef, tmps.getD v undef, tmps.getD x undef]) w := by
  simp [results, h]
set_option maxRecDepth 50000 in
set_option maxHeartbeats 400000 in
theorem quarter_any (a b c d : Int) (w : World) (hb : Hid (WdZ b)) (hd : Hid (WdZ d)) :
    Calls Tryd.prog 69 #[.int .u32 a, .int .u32 b, .int .u32 c, .int .u32 d] w fun e w' => e = .returned (.tuple #[.int .u32 (qa a b c d), .int .u32 (qb a b c d), .int .u32 (qc a b c d), .int .u32 (qd a b c d)]) ∧ w = w' := by
  obtain ⟨a1, e1⟩ : ∃ z, (a + b) % 4294967296 = z := ⟨_, rfl⟩
  obtain ⟨x1, f1⟩ : ∃ z, bits .xor .u32 d a1 = z := ⟨_, rfl⟩
  obtain ⟨d1, g1⟩ : ∃ z, rotZ x1 16 = z := ⟨_, rfl⟩
  obtain ⟨c1, e2⟩ : ∃ z, (c + d1) % 4294967296 = z := ⟨_, rfl⟩
  obtain ⟨x2, f2⟩ : ∃ z, bits .xor .u32 b c1 = z := ⟨_, rfl⟩
  obtain ⟨b1, g2⟩ : ∃ z, rotZ x2 20 = z := ⟨_, rfl⟩
  obtain ⟨a2, e3⟩ : ∃ z, (a1 + b1) % 4294967296 = z := ⟨_, rfl⟩
  obtain ⟨x3, f3⟩ : ∃ z, bits .xor .u32 d1 a2 = z := ⟨_, rfl⟩
  obtain ⟨d2, g3⟩ : ∃ z, rotZ x3 24 = z := ⟨_, rfl⟩
  obtain ⟨c2, e4⟩ : ∃ z, (c1 + d2) % 4294967296 = z := ⟨_, rfl⟩
  obtain ⟨x4, f4⟩ : ∃ z, bits .xor .u32 b1 c2 = z := ⟨_, rfl⟩
  obtain ⟨b2, g4⟩ : ∃ z, rotZ x4 25 = z := ⟨_, rfl⟩
  have r1 : qa a b c d = a2 := by subst e1 f1 g1 e2 f2 g2 e3; rfl
  have r2 : qb a b c d = b2 := by subst e1 f1 g1 e2 f2 g2 e3 f3 g3 e4 f4 g4; rfl
  have r3 : qc a b c d = c2 := by subst e1 f1 g1 e2 f2 g2 e3 f3 g3 e4; rfl
  have r4 : qd a b c d = d2 := by subst e1 f1 g1 e2 f2 g2 e3 f3 g3; rfl
  have h1 : Hid (WdZ x1) := hid (by rw [← f1]; exact xr_wdZ hd.out (by rw [← e1]; exact pl_wd _ _))
  have k1 : WdZ d1 := by rw [← g1]; exact rot_wdZ (by omega) h1.out
  have h2 : Hid (WdZ x2) := hid (by rw [← f2]; exact xr_wdZ hb.out (by rw [← e2]; exact pl_wd _ _))
  have k2 : WdZ b1 := by rw [← g2]; exact rot_wdZ (by omega) h2.out
  have h3 : Hid (WdZ x3) := hid (by rw [← f3]; exact xr_wdZ k1 (by rw [← e3]; exact pl_wd _ _))
  have h4 : Hid (WdZ x4) := hid (by rw [← f4]; exact xr_wdZ k2 (by rw [← e4]; exact pl_wd _ _))
  have G1 := hid g1
  have G2 := hid g2
  have G3 := hid g3
  have G4 := hid g4
  rw [r1, r2, r3, r4]
  clear r1 r2 r3 r4 g1 g2 g3 g4 k1 k2
  go_enter Tryd.func69, Tryd.ntmps69
  go_wp2_with (go_at_call 77; (first | (with_reducible refine (rl_16 x1 d1 _ h1 G1).mono ?_) | (with_reducible refine (rl_12 x2 b1 _ h2 G2).mono ?_) | (with_reducible refine (rl_8Z x3 d2 _ h3 G3).mono ?_) | (with_reducible refine (rl_7 x4 b2 _ h4 G4).mono ?_)); rintro e w' ⟨rfl, rfl⟩)
  (try simp only [Exit.inBlock, Exit.then])
  refine bodyPost_ret (results_tmp4 rfl _ _ _) rfl ?_
  exact ⟨rfl, rfl⟩
end Go.Proofs.YtkblmdakejmmhaaDoor

/- A region that draws its order, with several stores: what needs no memory may come up behind any of them. No program is named. -/
namespace Go.Proofs.YtkblmdakejmmhaaDoor
open Go Go.RowKit

section
variable {P : Program} {ops : Array Oper} {md : Region.Mode} {W : World} {a0 : Act} {tv : Tmp → Value} {kd : Nat → Nat} {up : Nat → World → World} {Q : Exit → Act → World → Prop}

/-- The world behind so many stores. -/
def behind (up : Nat → World → World) : Nat → World → World
  | 0, w => w
  | n + 1, w => up n (behind up n w)
/-- Slots that no operation fills are as they were. -/
def FrM (ops : Array Oper) (a0 a : Act) : Prop := ∀ t, (∀ j, dstOf ops j ≠ some t) → a.tmps[t]? = a0.tmps[t]?
/-- What an operation waits for is as it was told. -/
def DpM (ops : Array Oper) (md : Region.Mode) (tv : Tmp → Value) (i : Nat) (a : Act) : Prop := ∀ j d, Region.waitsFor md ops i j = true → dstOf ops j = some d → a.eval (.tmp d) = tv d
/-- An operation of a region: it needs no memory, or comes up before the first store, or is a store. -/
inductive StepM (P : Program) (ops : Array Oper) (md : Region.Mode) (W : World) (a0 : Act) (tv : Tmp → Value) (kd : Nat → Nat) (up : Nat → World → World) (Q : Exit → Act → World → Prop) (i : Nat) (o : Oper) : Prop
  | pure (hk : kd i = 0) (hg : o.guard = none) (d : Tmp) (hd : o.dst = some d) (h : ∀ a w, FrM ops a0 a → DpM ops md tv i a → (execOp a.eval o).run P w = .ok (.value (tv d)) w)
  | read (hk : kd i = 1) (hg : o.guard = none) (d : Tmp) (hd : o.dst = some d) (h : ∀ a w (K : Act → World → Prop), Cl W w → FrM ops a0 a → DpM ops md tv i a → (∀ w', Cl W w' → K (a.put (some d) (tv d)) w') → o.wp P a w K Q)
  | store (m : Nat) (hk : kd i = m + 2) (hg : o.guard = none) (hd : o.dst = none) (h : ∀ a w (K : Act → World → Prop), Cl W w → FrM ops a0 a → DpM ops md tv i a → K a (up m (behind up m w)) → o.wp P a (behind up m w) K Q)

def dstM (ops : Array Oper) (M : Nat) : Bool := (List.range ops.size).all fun i => match dstOf ops i with
  | some d => decide (d < M) && (List.range ops.size).all (fun j => decide (i = j) || !(dstOf ops j == some d))
  | none => true
/-- All that the kernel has to look at. -/
def manyB (md : Region.Mode) (ops : Array Oper) (kd : Nat → Nat) (ss : List Nat) (M : Nat) : Bool :=
  backB md ops && dstM ops M && (List.range ss.length).all (fun m => kd (ss.getD m 0) == m + 2 && decide (ss.getD m 0 < ops.size) && (m == 0 || Region.waitsFor md ops (ss.getD m 0) (ss.getD (m - 1) 0)))
    && (List.range ops.size).all (fun i => if kd i == 0 then true else if kd i == 1 then (ss.length == 0 || Region.waitsFor md ops (ss.getD 0 0) i) else decide (kd i - 2 < ss.length) && ss.getD (kd i - 2) 0 == i)
/-- What stands when some have come up. -/
structure StM (md : Region.Mode) (ops : Array Oper) (W : World) (a0 : Act) (tv : Tmp → Value) (up : Nat → World → World) (ss : List Nat) (listed : Array Bool) (a : Act) (w : World) : Prop where
  size : listed.size = ops.size
  closed : ∀ i j, listed.getD i false = true → Region.waitsFor md ops i j = true → listed.getD j false = true
  df : a.defers = a0.defers
  tmps : a.tmps.size = a0.tmps.size
  frame : ∀ t, (∀ i, listed.getD i false = true → dstOf ops i ≠ some t) → a.tmps[t]? = a0.tmps[t]?
  vals : ∀ i d, listed.getD i false = true → dstOf ops i = some d → a.eval (.tmp d) = tv d
  world : ∃ w0 j, Cl W w0 ∧ w = behind up j w0 ∧ j ≤ ss.length ∧ ∀ m, m < ss.length → listed.getD (ss.getD m 0) false = decide (m < j)

set_option maxRecDepth 50000 in
theorem dstM_spec {M : Nat} (h : dstM ops M = true) (hM : M ≤ a0.tmps.size) {i : Nat} {d : Tmp} (hd : dstOf ops i = some d) : d < a0.tmps.size ∧ ∀ j, dstOf ops j = some d → i = j := by
  have hi : ∀ {j}, dstOf ops j = some d → j < ops.size := fun {j} h => by
    rcases Nat.lt_or_ge j ops.size with h2 | h2
    · exact h2
    · unfold dstOf at h; rw [Array.getElem?_eq_none h2] at h; cases h
  have h1 := List.all_eq_true.1 h i (List.mem_range.2 (hi hd))
  rw [hd] at h1
  simp only [Bool.and_eq_true, decide_eq_true_eq] at h1
  refine ⟨Nat.lt_of_lt_of_le h1.1 hM, fun j hj => ?_⟩
  have h2 := List.all_eq_true.1 h1.2 j (List.mem_range.2 (hi hj))
  simp only [Bool.or_eq_true, decide_eq_true_eq, Bool.not_eq_true', hj] at h2
  rcases h2 with h2 | h2
  · exact h2
  · simp at h2

set_option maxRecDepth 50000 in
theorem lack_ready {listed : Array Bool} {i : Nat} (h : listed.getD i true = false) : listed.toList[i]? = some false := by
  rw [Array.getD_eq_getD_getElem?] at h
  rw [Array.getElem?_toList]
  cases h3 : listed[i]? with
  | none => rw [h3] at h; simp at h
  | some b => rw [h3] at h; simp at h; rw [h]
set_option maxRecDepth 50000 in
theorem lack_set {listed : Array Bool} {i F : Nat} (h : listed.getD i true = false) (hF : lacking listed.toList = F + 1) : lacking (listed.setIfInBounds i true).toList = F := by
  have := lacking_set _ i (lack_ready h)
  have e : (listed.setIfInBounds i true).toList = listed.toList.set i true := by simp
  rw [e]; omega
set_option maxRecDepth 50000 in
theorem lacking_none : ∀ (l : List Bool), lacking l = 0 → ∀ (i : Nat) (b : Bool), l[i]? = some b → b = true
  | [], _, i, b, h => by simp at h
  | true :: l, h0, 0, b, h => by simpa using h.symm
  | true :: l, h0, i + 1, b, h => lacking_none l h0 i b (by simpa using h)
  | false :: l, h0, _, _, _ => by simp [lacking] at h0
set_option maxRecDepth 50000 in
theorem ready_waitsM {listed : Array Bool} {i j : Nat} (hi : i ∈ Region.ready md ops listed) (hw : Region.waitsFor md ops i j = true) : listed.getD j false = true := by
  obtain ⟨_, o, ho, hall⟩ := mem_ready.1 hi
  obtain ⟨o', ho', e, he, hb, hon⟩ := Region.waitsFor_spec hw
  obtain rfl : o' = o := Option.some.inj (ho'.symm.trans ho)
  rw [← hon]; exact hall e he hb
set_option maxRecDepth 50000 in
theorem getD_eqM {l : Array Bool} {i : Nat} (h : i < l.size) : l.getD i true = l.getD i false := by
  rw [Array.getD_eq_getD_getElem?, Array.getD_eq_getD_getElem?, Array.getElem?_eq_getElem h]; rfl

set_option maxRecDepth 50000 in
theorem StM.next {M : Nat} {ss : List Nat} {listed : Array Bool} {a : Act} {w w' : World} {i : Nat} {o : Oper} (hdst : dstM ops M = true) (hM : M ≤ a0.tmps.size) (st : StM md ops W a0 tv up ss listed a w) (ho : ops[i]? = some o) (hil : i < listed.size)
    (hdeps : ∀ j, Region.waitsFor md ops i j = true → listed.getD j false = true) (v : Value) (hv : ∀ d, o.dst = some d → v = tv d)
    (hw : ∃ w0 j, Cl W w0 ∧ w' = behind up j w0 ∧ j ≤ ss.length ∧ ∀ m, m < ss.length → (listed.setIfInBounds i true).getD (ss.getD m 0) false = decide (m < j)) :
    StM md ops W a0 tv up ss (listed.setIfInBounds i true) (a.put o.dst v) w' := by
  have hod : dstOf ops i = o.dst := by unfold dstOf; rw [ho]; rfl
  have hset : ∀ j, (listed.setIfInBounds i true).getD j false = true → j = i ∨ listed.getD j false = true := fun j hj => by
    by_cases e : i = j
    · exact .inl e.symm
    · rw [getD_set_ne false e] at hj; exact .inr hj
  refine ⟨by simp [st.size], fun k j hk hwt => ?_, ?_, ?_, fun t ht => ?_, fun k d hk hd => ?_, hw⟩
  · rcases hset k hk with e | hk
    · subst e; exact getD_set_true (hdeps j hwt)
    · exact getD_set_true (st.closed k j hk hwt)
  · rw [← st.df]; cases o.dst <;> rfl
  · rw [← st.tmps]; cases o.dst <;> simp [Act.put]
  · have h1 := st.frame t fun k hk => ht k (getD_set_true hk)
    rw [← h1]
    cases hd : o.dst with
    | none => rfl
    | some d =>
      have hne : d ≠ t := fun e => ht i (by simp [hil]) (by rw [hod, hd, e])
      show (a.tmps.setIfInBounds d v)[t]? = _
      rw [Array.getElem?_setIfInBounds_ne hne]
  · cases hdo : o.dst with
    | none =>
      rcases hset k hk with e | hk
      · subst e; rw [hod, hdo] at hd; cases hd
      · exact st.vals k d hk hd
    | some di =>
      have hsp := dstM_spec hdst hM (i := i) (d := di) (by rw [hod, hdo])
      by_cases e : k = i
      · subst e
        obtain rfl : di = d := Option.some.inj (by rw [← hdo, ← hod, hd])
        have h1 : di < a.tmps.size := by rw [st.tmps]; exact hsp.1
        rw [← hv di hdo]
        simp [Act.put, Act.eval, Array.getD, h1]
      · have hne : di ≠ d := fun e2 => e (hsp.2 k (by rw [hd, e2])).symm
        rw [← st.vals k d ((hset k hk).resolve_left e) hd]
        simp only [Act.put, Act.eval, Array.getD_eq_getD_getElem?]
        rw [Array.getElem?_setIfInBounds_ne hne]

set_option maxRecDepth 50000 in
theorem many_any {M : Nat} {ss : List Nat} (hB : manyB md ops kd ss M = true) (hM : M ≤ a0.tmps.size) (hst : ∀ i o, ops[i]? = some o → StepM P ops md W a0 tv kd up Q i o)
    (hend : ∀ a w0, Cl W w0 → a.defers = a0.defers → a.tmps.size = a0.tmps.size → FrM ops a0 a → (∀ i d, dstOf ops i = some d → a.eval (.tmp d) = tv d) → Q .normal a (behind up ss.length w0)) :
    ∀ (F : Nat) (listed : Array Bool) (a : Act) (w : World), lacking listed.toList = F → StM md ops W a0 tv up ss listed a w → wpAny P md ops Q F listed a w := by
  simp only [manyB, Bool.and_eq_true] at hB
  obtain ⟨⟨⟨hback, hdst⟩, hss⟩, hkd⟩ := hB
  have hss' : ∀ m, m < ss.length → kd (ss.getD m 0) = m + 2 ∧ ss.getD m 0 < ops.size ∧ (m = 0 ∨ Region.waitsFor md ops (ss.getD m 0) (ss.getD (m - 1) 0) = true) := fun m hm => by
    have h := List.all_eq_true.1 hss m (List.mem_range.2 hm)
    simp only [Bool.and_eq_true, beq_iff_eq, decide_eq_true_eq, Bool.or_eq_true] at h
    exact ⟨h.1.1, h.1.2, h.2⟩
  have fin : ∀ listed a w, StM md ops W a0 tv up ss listed a w → (∀ i, i < ops.size → listed.getD i false = true) → Q .normal a w := fun listed a w st hall => by
    obtain ⟨w0, j, hw0, rfl, hj, hm⟩ := st.world
    have e : j = ss.length := by
      rcases Nat.lt_or_ge j ss.length with h | h
      · have h2 := hm j h
        rw [hall _ (hss' j h).2.1] at h2
        simp at h2
      · omega
    rw [e]
    refine hend a w0 hw0 st.df st.tmps (fun t ht => st.frame t fun i _ => ht i) fun i d hd => st.vals i d (hall i ?_) hd
    rcases Nat.lt_or_ge i ops.size with h2 | h2
    · exact h2
    · unfold dstOf at hd; rw [Array.getElem?_eq_none h2] at hd; cases hd
  intro F
  induction F with
  | zero =>
    intro listed a w hF st
    have hall : ∀ i, i < ops.size → listed.getD i false = true := fun i hi => by
      have hil : i < listed.size := by rw [st.size]; exact hi
      have h := lacking_none _ hF i listed[i] (by rw [Array.getElem?_toList]; simp [hil])
      rw [Array.getD_eq_getD_getElem?, Array.getElem?_eq_getElem (by rw [st.size]; exact hi), h]; rfl
    refine ⟨?_, fin listed a w st hall⟩
    cases hr : Region.ready md ops listed with
    | nil => rfl
    | cons i r =>
      obtain ⟨h1, o, ho, _⟩ := mem_ready.1 (by rw [hr]; simp : i ∈ Region.ready md ops listed)
      have h2 := hall i (Array.getElem?_eq_some_iff.1 ho).1
      rw [getD_eqM (by rw [st.size]; exact (Array.getElem?_eq_some_iff.1 ho).1), h2] at h1
      cases h1
  | succ F ih =>
    intro listed a w hF st
    refine ⟨fun hr => fin listed a w st fun i hi => ?_, fun i hir => ?_⟩
    · cases h : listed.getD i false with
      | true => rfl
      | false =>
        obtain ⟨j, _, hj⟩ := first_ready hback st.size i hi h
        rw [hr] at hj; cases hj
    · obtain ⟨hun, o, ho, hafter⟩ := mem_ready.1 hir
      have his : i < ops.size := (Array.getElem?_eq_some_iff.1 ho).1
      have hil : i < listed.size := by rw [st.size]; exact his
      have hdeps : ∀ j, Region.waitsFor md ops i j = true → listed.getD j false = true := fun j hw => ready_waitsM hir hw
      have hfr : FrM ops a0 a := fun t ht => st.frame t fun k _ => ht k
      have hdp : DpM ops md tv i a := fun j d hw hd => st.vals j d (hdeps j hw) hd
      have hunF : listed.getD i false = false := by rw [← getD_eqM hil]; exact hun
      have hki := List.all_eq_true.1 hkd i (List.mem_range.2 his)
      obtain ⟨w0, j, hw0, hw, hj, hm⟩ := st.world
      have other : ∀ m, m < ss.length → kd i < 2 → (listed.setIfInBounds i true).getD (ss.getD m 0) false = decide (m < j) := fun m h h2 => by
        have hne : i ≠ ss.getD m 0 := fun e => by have := (hss' m h).1; rw [← e] at this; omega
        rw [getD_set_ne false hne]; exact hm m h
      have hF2 := lack_set hun hF
      unfold wpOp
      simp only [ho]
      obtain ⟨hk, hg, d, hd, h⟩ | ⟨hk, hg, d, hd, h⟩ | ⟨m, hk, hg, hd, h⟩ := hst i o ho
      · rw [if_pos (by simp [Region.wanted, hg])]
        left
        unfold Oper.wp
        rw [h a w hfr hdp, Oper.upon_value]
        exact ih _ _ _ hF2 (st.next hdst hM ho hil hdeps (tv d) (fun d' e => by rw [hd] at e; injection e with e; rw [e]) ⟨w0, j, hw0, hw, hj, fun m h2 => other m h2 (by omega)⟩)
      · rw [if_pos (by simp [Region.wanted, hg])]
        left
        have hj0 : j = 0 := by
          rcases Nat.eq_zero_or_pos j with e | e
          · exact e
          · exfalso
            rw [hk, if_neg (by simp), if_pos (by simp), Bool.or_eq_true, beq_iff_eq] at hki
            have hpos : 0 < ss.length := by omega
            have hki : Region.waitsFor md ops (ss.getD 0 0) i = true := by
              rcases hki with e2 | e2
              · omega
              · exact e2
            have h1 : listed.getD (ss.getD 0 0) false = true := by rw [hm 0 hpos]; simp [e]
            have := st.closed _ i h1 hki
            rw [hunF] at this; cases this
        subst hj0
        rw [hw]
        refine h a w0 _ hw0 hfr hdp fun w' hw' => ?_
        have := st.next hdst hM ho hil hdeps (tv d) (fun d' e => by rw [hd] at e; injection e with e; rw [e]) (w' := w') ⟨w', 0, hw', rfl, hj, fun m h2 => other m h2 (by omega)⟩
        rw [hd] at this
        exact ih _ _ _ hF2 this
      · rw [if_pos (by simp [Region.wanted, hg])]
        left
        rw [hk] at hki
        have e2 : m + 2 - 2 = m := by omega
        simp only [e2] at hki
        rw [if_neg (by simp), if_neg (by simp)] at hki
        simp only [Bool.and_eq_true, decide_eq_true_eq, beq_iff_eq] at hki
        obtain ⟨hml, hmi⟩ := hki
        have h0 := hm m hml
        rw [hmi, hunF] at h0
        have h1 : j ≤ m := by simpa using h0.symm
        have hjm : j = m := by
          rcases Nat.eq_zero_or_pos m with e | e
          · omega
          · have h3 := (hss' m hml).2.2
            rcases h3 with h3 | h3
            · omega
            · rw [hmi] at h3
              have h4 := hdeps _ h3
              rw [hm (m - 1) (by omega)] at h4
              have : m - 1 < j := by simpa using h4
              omega
        subst hjm
        rw [hw]
        refine h a w0 _ hw0 hfr hdp ?_
        have := st.next hdst hM ho hil hdeps undef (fun d' e => by rw [hd] at e; cases e) (w' := up j (behind up j w0)) ⟨w0, j + 1, hw0, rfl, by omega, fun m' h2 => ?_⟩
        · rw [hd] at this
          exact ih _ _ _ hF2 this
        · by_cases e : m' = j
          · subst e
            rw [hmi]
            simp [hil]
          · have hne : i ≠ ss.getD m' 0 := fun e2 => by
              have h5 := (hss' m' h2).1
              rw [← e2, hk] at h5
              omega
            rw [getD_set_ne false hne, hm m' h2]
            simp only [decide_eq_decide]
            omega

/-- The steps of the text's order. -/
def StepsM (P : Program) (ops : Array Oper) (md : Region.Mode) (W : World) (a0 : Act) (tv : Tmp → Value) (kd : Nat → Nat) (up : Nat → World → World) (Q : Exit → Act → World → Prop) : Nat → List Oper → Prop
  | _, [] => True
  | k, o :: l => StepM P ops md W a0 tv kd up Q k o ∧ StepsM P ops md W a0 tv kd up Q (k + 1) l
set_option maxRecDepth 50000 in
theorem StepsM.at_ : ∀ (k : Nat) (l : List Oper), StepsM P ops md W a0 tv kd up Q k l → ∀ i o, l[i]? = some o → StepM P ops md W a0 tv kd up Q (k + i) o
  | _, [], _, i, o, ho => by simp at ho
  | k, o' :: l, h, 0, o, ho => by simp at ho; subst ho; exact h.1
  | k, o' :: l, h, i + 1, o, ho => by
    have := StepsM.at_ (k + 1) l h.2 i o (by simpa using ho)
    rw [show k + (i + 1) = k + 1 + i by omega]; exact this
set_option maxRecDepth 50000 in
/-- The act at the end. -/
theorem act_many {a : Act} {n : Nat} (hn : n = ops.size) (h1 : a.defers = a0.defers) (h2 : a.tmps.size = a0.tmps.size) (h3 : FrM ops a0 a) (h4 : ∀ i d, dstOf ops i = some d → a.eval (.tmp d) = tv d) : a = putVals (dstsOf ops n) tv a0 := by
  subst hn
  have e1 : a.tmps = (putVals (dstsOf ops ops.size) tv a0).tmps := by
    apply Array.ext'
    apply List.ext_getElem?
    intro t
    rw [Array.getElem?_toList, Array.getElem?_toList, putVals_at]
    by_cases h : t ∈ dstsOf ops ops.size ∧ t < a0.tmps.size
    · rw [if_pos h]
      obtain ⟨i, _, hi⟩ := List.mem_filterMap.1 h.1
      have hl : t < a.tmps.size := by rw [h2]; exact h.2
      have := h4 i t hi
      simp only [Act.eval, Array.getD, hl, dif_pos] at this
      rw [Array.getElem?_eq_getElem hl]
      exact congrArg some this
    · rw [if_neg h]
      by_cases hl : t < a0.tmps.size
      · refine h3 t fun i hd => h ⟨List.mem_filterMap.2 ⟨i, List.mem_range.2 ?_, hd⟩, hl⟩
        rcases Nat.lt_or_ge i ops.size with h5 | h5
        · exact h5
        · unfold dstOf at hd; rw [Array.getElem?_eq_none h5] at hd; cases hd
      · rw [Array.getElem?_eq_none (by rw [h2]; omega), Array.getElem?_eq_none (by omega)]
  have e2 := putVals_defers (dstsOf ops ops.size) tv a0
  obtain ⟨t, f⟩ := a
  cases hq : putVals (dstsOf ops ops.size) tv a0 with
  | mk t' f' =>
    rw [hq] at e1 e2
    dsimp only at e1 e2 h1
    rw [e1, e2, h1]
set_option maxRecDepth 50000 in
/-- The region. -/
theorem region_many {id : Nat} {l : List Oper} (M : Nat) (tv : Tmp → Value) (kd : Nat → Nat) (ss : List Nat) (up : Nat → World → World) (ds : List Tmp) (hds : dstsOf l.toArray l.toArray.size = ds) (hm : P.follows .mixedOrders = true) (hB : manyB .any l.toArray kd ss M = true) (hM : M ≤ a0.tmps.size)
    (hst : StepsM P l.toArray .any W a0 tv kd up Q 0 l) (hend : ∀ (val : Tmp → Value) w, (∀ d, val d = tv d) → Cl W w → Q .normal (putVals ds val a0) (behind up ss.length w)) : (Code.region id l.toArray true).wp P Q a0 W := by
  refine wp_region_any hm ?_
  have hrep : ∀ i, (Array.replicate l.toArray.size false).getD i false = false := fun i => getD_replicate_false _ _
  refine many_any (W := W) (tv := tv) (kd := kd) (up := up) (ss := ss) hB hM (fun i o ho => ?_) (fun a w0 hw h1 h2 h3 h4 => ?_) _ _ _ _ ?_ ?_
  · have := StepsM.at_ 0 l hst i o (by simpa using ho)
    rwa [Nat.zero_add] at this
  · rw [act_many rfl h1 h2 h3 h4, hds]
    exact hend tv w0 (fun _ => rfl) hw
  · have := lacking_new l.toArray.size
    simpa using this
  · refine ⟨by simp, fun i j h => ?_, rfl, rfl, fun _ _ => rfl, fun i d h => ?_, ⟨W.drew, 0, Cl.drew W, rfl, Nat.zero_le _, fun m _ => ?_⟩⟩
    · rw [hrep] at h; cases h
    · rw [hrep] at h; cases h
    · rw [hrep]; simp
def notDstM (ops : Array Oper) (t : Tmp) : Bool := (List.range ops.size).all fun j => !(dstOf ops j == some t)
set_option maxRecDepth 50000 in
theorem outM {a : Act} (hf : FrM ops a0 a) (t : Tmp) (hB : notDstM ops t = true) : a.eval (.tmp t) = a0.eval (.tmp t) := by
  have h := hf t fun j e => by
    have hj : j < ops.size := by
      rcases Nat.lt_or_ge j ops.size with h5 | h5
      · exact h5
      · unfold dstOf at e; rw [Array.getElem?_eq_none h5] at e; cases e
    have := List.all_eq_true.1 hB j (List.mem_range.2 hj)
    rw [e] at this
    simp at this
  simp only [Act.eval, Array.getD_eq_getD_getElem?, h]
set_option maxRecDepth 50000 in
theorem StepM.run {i : Nat} {o : Oper} (hk : kd i = 1) (hg : o.guard = none) (d : Tmp) (hd : o.dst = some d) (h : ∀ a w, Cl W w → FrM ops a0 a → DpM ops md tv i a → (execOp a.eval o).run P w = .ok (.value (tv d)) w) : StepM P ops md W a0 tv kd up Q i o :=
  .read hk hg d hd fun a w K hw hf hp hK => by
    unfold Oper.wp
    rw [h a w hw hf hp, Oper.upon_value, hd]
    exact hK w hw
set_option maxRecDepth 50000 in
theorem StepM.call {i : Nat} {o : Oper} (hk : kd i = 1) (hg : o.guard = none) (d : Tmp) (hd : o.dst = some d) (h : ∀ a w, Cl W w → FrM ops a0 a → DpM ops md tv i a →
    ∃ f args, (execOp a.eval o).run P w = .ok (.enter f args) w ∧ Calls P f args w fun e w' => e = .returned (tv d) ∧ Below w.heap.size w w') : StepM P ops md W a0 tv kd up Q i o :=
  .read hk hg d hd fun a w K hw hf hp hK => by
    obtain ⟨f, args, h1, h2⟩ := h a w hw hf hp
    unfold Oper.wp
    rw [h1, Oper.upon_enter]
    refine h2.mono fun e w' ⟨he, hb⟩ => ?_
    subst he
    rw [hd]
    exact hK w' (hw.next hb)
set_option maxRecDepth 50000 in
theorem StepM.put {i : Nat} {o : Oper} (m : Nat) (hk : kd i = m + 2) (hg : o.guard = none) (hd : o.dst = none) (p : Addr) (v : Value) (hu : ∀ w, up m w = w.setCell p v)
    (h : ∀ a w, Cl W w → FrM ops a0 a → DpM ops md tv i a → (execOp a.eval o).run P (behind up m w) = .ok .skip ((behind up m w).setCell p v)) : StepM P ops md W a0 tv kd up Q i o :=
  .store m hk hg hd fun a w K hw hf hp hK => by
    unfold Oper.wp
    rw [h a w hw hf hp, Oper.upon_skip, hd, ← hu]
    exact hK
/-- A table of slots. -/
def tvOf (ps : List (Tmp × Value)) (t : Tmp) : Value := (ps.lookup t).getD undef
def kdOf (ks : List Nat) (i : Nat) : Nat := ks.getD i 0
end
end Go.Proofs.YtkblmdakejmmhaaDoor

/- All quarter rounds of a round. -/
namespace Go.Proofs.YtkblmdakejmmhaaDoor
open Go Go.RowKit

def QT : List Int := [0, 4, 8, 12, 1, 5, 9, 13, 2, 6, 10, 14, 3, 7, 11, 15, 0, 5, 10, 15, 1, 6, 11, 12, 2, 7, 8, 13, 3, 4, 9, 14]
/-- What the table of quarters holds. -/
def Tabs (w : World) : Prop := 1 < w.heap.size ∧ w.rangeAt 1 0 (ints .i64 QT)
set_option maxRecDepth 50000 in
theorem Tabs.below {w w' : World} {B : Nat} (h : Tabs w) (hb : Below B w w') (hB : 1 < B) : Tabs w' :=
  ⟨Nat.lt_of_lt_of_le h.1 hb.size, fun j v hv => (cell_same (hb.block 1 hB)).trans (h.2 j v hv)⟩
set_option maxRecDepth 50000 in
theorem Tabs.next {w w' : World} (h : Tabs w) (hb : Below w.heap.size w w') : Tabs w' := h.below hb h.1
set_option maxRecDepth 50000 in
theorem Tabs.only {w w' : World} {b : Nat} (h : Tabs w) (hb : Only b w w') (h2 : 1 < b) : Tabs w' :=
  ⟨Nat.lt_of_lt_of_le h.1 hb.size, fun j v hv => (cell_same (hb.block 1 h.1 (by omega))).trans (h.2 j v hv)⟩
set_option maxRecDepth 50000 in
theorem info61 : (Tryd.prog.info? 116).map (·.size) = some (ints .i64 QT).length := by kernel_rfl
set_option maxRecDepth 50000 in
theorem info60 : (Tryd.prog.info? 115).map (fun i => (i.zero, i.size)) = some (some (.agg (ints .i64 [0, 0, 0, 0]).toArray), 4) := by kernel_rfl
set_option maxRecDepth 50000 in
theorem index61 (k : Nat) (hk : k < 8) (w : World) : (Instr.index 116 (.agg (ints .i64 QT).toArray) (.int .i64 (k : Int))).run Tryd.prog w = .ok (.agg (ints .i64 [((QI k).1 : Int), ((QI k).2.1 : Int), ((QI k).2.2.1 : Int), ((QI k).2.2.2 : Int)]).toArray) w := by
  have h : k = 0 ∨ k = 1 ∨ k = 2 ∨ k = 3 ∨ k = 4 ∨ k = 5 ∨ k = 6 ∨ k = 7 := by omega
  have hu : (underlying 116).run Tryd.prog w = .ok (.array 8 115) w := by go_simp
  have hs : (sizeOf 115).run Tryd.prog w = .ok 4 w := by go_simp
  rcases h with rfl | rfl | rfl | rfl | rfl | rfl | rfl | rfl <;> (simp [Instr.index, QI, QS, QT, ints]; go_simp)
set_option maxRecDepth 50000 in
theorem QI_lt (k : Nat) : (QI k).1 < 16 ∧ (QI k).2.1 < 16 ∧ (QI k).2.2.1 < 16 ∧ (QI k).2.2.2 < 16 := by
  by_cases h : k < 8
  · have h : k = 0 ∨ k = 1 ∨ k = 2 ∨ k = 3 ∨ k = 4 ∨ k = 5 ∨ k = 6 ∨ k = 7 := by omega
    rcases h with rfl | rfl | rfl | rfl | rfl | rfl | rfl | rfl <;> decide
  · have e : QI k = (0, 0, 0, 0) := by unfold QI; rw [List.getD_eq_getElem?_getD, List.getElem?_eq_none (by simp [QS]; omega)]; rfl
    rw [e]; decide
end Go.Proofs.YtkblmdakejmmhaaDoor
