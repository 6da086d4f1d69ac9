/- Texts of this proof, laid together: TLaid, DMath. -/
import Derived.Test.YtboofkmbjmnpeaaG10
import Derived.OpenShut
import Derived.WideShapes
import Derived.Deep.Slices
import Derived.Test.YtboofkmbjmnpeaaTPureM
/- What is done, as it comes in. -/
namespace Go.Proofs.Ytboofkmbjmnpeaa
open Go Go.RowKit Go.Maps

instance : Inhabited DoV := ⟨⟨0, 0, (0, 0, 0), none, 0, []⟩⟩
set_option maxRecDepth 50000 in
theorem cDo : Try.prog.cellsOf 66 = 6 := by kernel_rfl
set_option maxRecDepth 50000 in
theorem cInt : Try.prog.cellsOf 3 = 1 := by kernel_rfl
set_option maxRecDepth 50000 in
theorem cTm : Try.prog.cellsOf 50 = 3 := by kernel_rfl
set_option maxRecDepth 50000 in
theorem cBy : Try.prog.cellsOf 64 = 1 := by kernel_rfl
set_option maxRecDepth 50000 in
theorem cB : Try.prog.cellsOf 5 = 1 := by kernel_rfl
set_option maxRecDepth 50000 in
theorem six {α : Type} {l : List α} (h : l.length = 6) : ∃ a b c d e f, l = [a, b, c, d, e, f] := by
  match l, h with
  | [a, b, c, d, e, f], _ => exact ⟨a, b, c, d, e, f, rfl⟩
set_option maxRecDepth 50000 in
theorem tbyt_of {x : List Int} (h : ∀ b ∈ x, (Lit.int .u8 b).wf = true) : TByt x := fun b hb => by
  have := h b hb
  simp [Lit.wf, IntKind.min, IntKind.max, IntKind.bits, IntKind.signed] at this
  omega
section
variable {H : Type} {enc : TypeId × Value → H} {w : World} {held : Bool}
set_option maxRecDepth 50000 in
theorem open_one {n : Nat} {cs : List Value} {x : DataW H × List MemPlace} (h : DataW.trod enc Try.prog w 0 (fun _ => true) held n 66 cs = some x) :
    ∃ d : DoV, cs = d.cells ∧ Twf d.t ∧ (Lit.int .i64 d.num).wf = true ∧ TByt d.x ∧ NumsD w.heap.size w .u8 d.A d.x := by
  obtain ⟨xs, m, _, _, hl, hxl, hf⟩ := DataW.trod_struct Try.underlying66 h
  rw [cDo] at hl
  obtain ⟨v0, v1, v2, v3, v4, v5, rfl⟩ := six hl
  have h0 : DataW.trod enc Try.prog w 0 (fun _ => true) held m 3 (List.take (Try.prog.cellsOf 3) (List.drop 0 [v0, v1, v2, v3, v4, v5])) = xs[0]? := hf 0 _ rfl
  have h1 : DataW.trod enc Try.prog w 0 (fun _ => true) held m 3 (List.take (Try.prog.cellsOf 3) (List.drop 1 [v0, v1, v2, v3, v4, v5])) = xs[1]? := hf 1 _ rfl
  have h2 : DataW.trod enc Try.prog w 0 (fun _ => true) held m 50 (List.take (Try.prog.cellsOf 50) (List.drop 2 [v0, v1, v2, v3, v4, v5])) = xs[2]? := hf 2 _ rfl
  have h3 : DataW.trod enc Try.prog w 0 (fun _ => true) held m 64 (List.take (Try.prog.cellsOf 64) (List.drop 5 [v0, v1, v2, v3, v4, v5])) = xs[3]? := hf 3 _ rfl
  rw [cInt] at h0 h1
  rw [cTm] at h2
  rw [cBy] at h3
  have hx4 : xs.length = 4 := hxl
  rw [List.getElem?_eq_getElem (show 0 < xs.length by omega)] at h0
  rw [List.getElem?_eq_getElem (show 1 < xs.length by omega)] at h1
  rw [List.getElem?_eq_getElem (show 2 < xs.length by omega)] at h2
  rw [List.getElem?_eq_getElem (show 3 < xs.length by omega)] at h3
  obtain ⟨n0, e0, _, w0⟩ := DataW.trod_int Try.underlying3 h0
  obtain ⟨n1, e1, _, w1⟩ := DataW.trod_int Try.underlying3 h1
  simp at e0 e1
  obtain ⟨ys, m2, _, _, _, hyl, hg⟩ := DataW.trod_struct Try.underlying50 h2
  have hy3 : ys.length = 3 := hyl
  have g0 : DataW.trod enc Try.prog w 0 (fun _ => true) held m2 3 (List.take (Try.prog.cellsOf 3) (List.drop 0 (List.take 3 (List.drop 2 [v0, v1, v2, v3, v4, v5])))) = ys[0]? := hg 0 _ rfl
  have g1 : DataW.trod enc Try.prog w 0 (fun _ => true) held m2 3 (List.take (Try.prog.cellsOf 3) (List.drop 1 (List.take 3 (List.drop 2 [v0, v1, v2, v3, v4, v5])))) = ys[1]? := hg 1 _ rfl
  have g2 : DataW.trod enc Try.prog w 0 (fun _ => true) held m2 3 (List.take (Try.prog.cellsOf 3) (List.drop 2 (List.take 3 (List.drop 2 [v0, v1, v2, v3, v4, v5])))) = ys[2]? := hg 2 _ rfl
  rw [cInt] at g0 g1 g2
  rw [List.getElem?_eq_getElem (show 0 < ys.length by omega)] at g0
  rw [List.getElem?_eq_getElem (show 1 < ys.length by omega)] at g1
  rw [List.getElem?_eq_getElem (show 2 < ys.length by omega)] at g2
  obtain ⟨n2, e2, _, w2⟩ := DataW.trod_int Try.underlying3 g0
  obtain ⟨n3, e3, _, w3⟩ := DataW.trod_int Try.underlying3 g1
  obtain ⟨n4, e4, _, w4⟩ := DataW.trod_int Try.underlying3 g2
  simp at e2 e3 e4
  obtain ⟨a, c, zs, e5, hz, hN⟩ : ∃ (a : Option Addr) (c : Nat) (zs : List Int), v5 = .slice a zs.length c ∧ (∀ b ∈ zs, (Lit.int .u8 b).wf = true) ∧ Nums w .u8 a zs := by
    rcases ChangeShapes.open_ints Try.underlying64 Try.underlying5 cB h3 with ⟨hcs, _⟩ | ⟨a, len, cap, zs, hcs, _, hl, hm, hz, _, hcell, hwz⟩
    · simp at hcs
      exact ⟨none, 0, [], hcs, by simp, Nums.nil⟩
    · simp at hcs
      obtain ⟨xs, rfl, _, _, hw, hN⟩ := Nums.opened hl hm (by simpa using hz) hcell hwz
      exact ⟨some a, cap, xs, hcs, hw, hN⟩
  subst e0 e1 e2 e3 e4 e5
  exact ⟨⟨n0, n1, (n2, n3, n4), a, c, zs⟩, rfl, ⟨w2, w3, w4⟩, w1, tbyt_of hz, hN.under⟩
set_option maxRecDepth 50000 in
theorem open_do {n : Nat} {cs : List Value} {x : DataW H × List MemPlace} (h : DataW.trod enc Try.prog w 0 (fun _ => true) held n 22 cs = some x) :
    ∃ (A : Option Addr) (c : Nat) (ds : List DoV), cs = [.slice A ds.length c] ∧ ds.length ≤ 9223372036854775807 ∧ DoRow w.heap.size w A ds := by
  rcases Deep.open_slice Try.underlying22 h with ⟨hcs, _⟩ | ⟨a, len, cap, m, k, D, Pl, hcs, _, hl, hm, hmm, _, hr⟩
  · exact ⟨none, 0, [], hcs, Nat.zero_le _, fun i d hi => by simp at hi⟩
  · rw [cDo] at hr
    have each : ∀ i, i < len → ∃ d : DoV, (∀ j v, d.cells[j]? = some v → w.cell? ((a.add (i * 6)).add j) = some v) ∧ Twf d.t ∧ (Lit.int .i64 d.num).wf = true ∧ TByt d.x ∧ NumsD w.heap.size w .u8 d.A d.x := fun i hi => by
      obtain ⟨cs', hc, ht⟩ := hr i (by rw [hmm]; show i < (if true = true then cap else len); rw [if_pos rfl]; omega)
      obtain ⟨_, hlen, hat⟩ := World.cells?_some hc
      obtain ⟨d, rfl, h1⟩ := open_one ht
      refine ⟨d, fun j v hj => ?_, h1⟩
      rw [hat j (by have := get_lt hj; omega), hj]
    obtain ⟨f, hf⟩ := Deep.choose_lt each
    have hml : maxLen ≤ 9223372036854775807 := by unfold maxLen; omega
    refine ⟨some a, cap, (List.range len).map f, by rw [hcs]; simp, by simp; omega, fun i d hi => ?_⟩
    have hil : i < len := by have := get_lt hi; simpa using this
    have hd : d = f i := by
      rw [List.getElem?_map, List.getElem?_range hil] at hi
      exact (Option.some.inj hi).symm
    subst hd
    obtain ⟨hc, h2⟩ := hf i hil
    obtain ⟨b, off, spot⟩ := a
    have h0 := (hf 0 (by omega)).1 0 _ rfl
    have hspot : spot = none := by simpa [Addr.add] using World.cell?_spot h0
    subst hspot
    have hc' : ∀ j v, (f i).cells[j]? = some v → w.cell? ⟨b, off + i * 6 + j, none⟩ = some v := fun j v hj => by
      have := hc j v hj
      rwa [Addr.add_mid, Addr.add_mid] at this
    exact ⟨⟨b, off, rfl, World.block_lt_of_cell? w _ (hc' 0 _ rfl), hc'⟩, h2⟩
end
end Go.Proofs.Ytboofkmbjmnpeaa

/- What is known and what can be made, as least sets; facts and a list of what is still to be followed: plain mathematics, no program. -/
namespace Go.Proofs.Ytboofkmbjmnpeaa
open Go Go.RowKit Go.Maps

def isOne (k : Int) : Bool := k == 2 || k == 3 || k == 6 || k == 7 || k == 10
def isTwo (k : Int) : Bool := k == 4 || k == 5 || k == 8
/-- Can a term be made, if these can? -/
def mkB (t : T3) (c : Nat → Bool) : Bool := t.1 == 9 || (isOne t.1 && c t.2.1.toNat) || (isTwo t.1 && (c t.2.1.toNat && c t.2.2.toNat))
/-- Does a known term show its B? -/
def shB (t : T3) (key : Int) (c : Nat → Bool) : Bool := ((t.1 == 4 || t.1 == 5) && c key.toNat) || t.1 == 8
/-- What opens a term. -/
def keyOf3 (T : List T3) (t : T3) : Int := if t.1 = 4 then (T.getD t.2.1.toNat (0, 0, 0)).2.1 else if t.1 = 5 then t.2.1 else 0
/-- Terms that refer to earlier ones. -/
def WF (T : List T3) : Prop := ∀ (i : Nat) t, T[i]? = some t → t.1 = 1 ∨ t.1 = 9 ∨ (isOne t.1 = true ∧ 0 ≤ t.2.1 ∧ t.2.1 < i) ∨
  (isTwo t.1 = true ∧ 0 ≤ t.2.1 ∧ t.2.1 < i ∧ 0 ≤ t.2.2 ∧ t.2.2 < i ∧ (t.1 = 4 → ∃ u, T[t.2.1.toNat]? = some u ∧ 0 ≤ u.2.1 ∧ u.2.1 < t.2.1))

structure Closed (T : List T3) (G : Nat → Prop) (k c : Nat → Bool) : Prop where
  giv : ∀ i, G i → k i = true
  kc : ∀ i, k i = true → c i = true
  mak : ∀ (i : Nat) t, T[i]? = some t → mkB t c = true → c i = true
  sh : ∀ (i : Nat) t, T[i]? = some t → k i = true → shB t (keyOf3 T t) c = true → k t.2.2.toNat = true
/-- No more than what must be. -/
def SubK (T : List T3) (G : Nat → Prop) (k c : Nat → Bool) : Prop := ∀ k' c', Closed T G k' c' → (∀ i, k i = true → k' i = true) ∧ (∀ i, c i = true → c' i = true)
def Least (T : List T3) (G : Nat → Prop) (k c : Nat → Bool) : Prop := Closed T G k c ∧ SubK T G k c

theorem bool_eq_of {a b : Bool} (h : a = true → b = true) (k : b = true → a = true) : a = b := by
  cases a <;> cases b <;> simp_all
theorem Least.unique {T : List T3} {G : Nat → Prop} {k c k' c' : Nat → Bool} (h : Least T G k c) (h' : Least T G k' c') : k = k' ∧ c = c' := by
  obtain ⟨a1, a2⟩ := h.2 k' c' h'.1
  obtain ⟨b1, b2⟩ := h'.2 k c h.1
  exact ⟨funext fun i => bool_eq_of (a1 i) (b1 i), funext fun i => bool_eq_of (a2 i) (b2 i)⟩
theorem Closed.less {T : List T3} {G G' : Nat → Prop} {k c : Nat → Bool} (h : Closed T G k c) (hG : ∀ i, G' i → k i = true) : Closed T G' k c := ⟨hG, h.kc, h.mak, h.sh⟩
theorem Least.same {T : List T3} {G G' : Nat → Prop} {k c : Nat → Bool} (h : Least T G k c) (hG : ∀ i, G i ↔ G' i) : Least T G' k c :=
  ⟨h.1.less (fun i hi => h.1.giv i ((hG i).2 hi)), fun k' c' hc => h.2 k' c' (hc.less fun i hi => hc.giv i ((hG i).1 hi))⟩
/-- What is known from what is known is known. -/
theorem Least.again {T : List T3} {G : Nat → Prop} {k c : Nat → Bool} (h : Least T G k c) : Least T (fun i => k i = true) k c :=
  ⟨h.1.less (fun _ hi => hi), fun k' c' hc => h.2 k' c' (hc.less fun i hi => hc.giv i (h.1.giv i hi))⟩
/-- With more given no fewer are known. -/
theorem Least.more {T : List T3} {G G' : Nat → Prop} {k c k' c' : Nat → Bool} (h : Least T G k c) (h' : Least T G' k' c') (hG : ∀ i, G i → G' i) : (∀ i, k i = true → k' i = true) ∧ (∀ i, c i = true → c' i = true) :=
  h.2 k' c' (h'.1.less fun i hi => h'.1.giv i (hG i hi))
theorem mkB_mono {t : T3} {c c' : Nat → Bool} (h : ∀ i, c i = true → c' i = true) (hm : mkB t c = true) : mkB t c' = true := by
  unfold mkB at *
  simp only [Bool.or_eq_true, Bool.and_eq_true] at hm ⊢
  rcases hm with (h1 | ⟨h1, h2⟩) | ⟨h1, h2, h3⟩
  · exact .inl (.inl h1)
  · exact .inl (.inr ⟨h1, h _ h2⟩)
  · exact .inr ⟨h1, h _ h2, h _ h3⟩
theorem shB_mono {t : T3} {key : Int} {c c' : Nat → Bool} (h : ∀ i, c i = true → c' i = true) (hm : shB t key c = true) : shB t key c' = true := by
  unfold shB at *
  simp only [Bool.or_eq_true, Bool.and_eq_true] at hm ⊢
  rcases hm with ⟨h1, h2⟩ | h1
  · exact .inl ⟨h1, h _ h2⟩
  · exact .inr h1

/-! ### facts -/
/-- A fact: a term, what opens it, whether it is known, can be made, and the row of the terms that it is needed for. -/
structure Fa where
  t : T3
  key : Int
  kn : Bool
  ca : Bool
  A : Option Addr
  c : Nat
  sv : List Int
def kF (F : List Fa) (i : Nat) : Bool := match F[i]? with | some f => f.kn | none => false
def cF (F : List Fa) (i : Nat) : Bool := match F[i]? with | some f => f.ca | none => false
theorem kF_at {F : List Fa} {i : Nat} {f : Fa} (h : F[i]? = some f) : kF F i = f.kn := by simp [kF, h]
theorem cF_at {F : List Fa} {i : Nat} {f : Fa} (h : F[i]? = some f) : cF F i = f.ca := by simp [cF, h]
theorem kF_lt {F : List Fa} {i : Nat} (h : kF F i = true) : i < F.length := by
  unfold kF at h
  cases hq : F[i]? with
  | none => rw [hq] at h; cases h
  | some f => exact get_lt hq
theorem cF_lt {F : List Fa} {i : Nat} (h : cF F i = true) : i < F.length := by
  unfold cF at h
  cases hq : F[i]? with
  | none => rw [hq] at h; cases h
  | some f => exact get_lt hq
/-- The terms that a term's flags hang on. -/
def refs (T : List T3) (t : T3) (i : Nat) : Prop := (isOne t.1 = true ∧ t.2.1 = i) ∨ (isTwo t.1 = true ∧ (t.2.1 = i ∨ t.2.2 = i ∨ (t.1 ≠ 8 ∧ keyOf3 T t = i)))
/-- The facts of all terms. -/
structure FOK (T : List T3) (F : List Fa) : Prop where
  len : F.length = T.length
  tk : ∀ (i : Nat) f, F[i]? = some f → T[i]? = some f.t ∧ f.key = keyOf3 T f.t
  sv : ∀ (i : Nat) f, F[i]? = some f → (∀ s ∈ f.sv, 0 ≤ s ∧ s < T.length) ∧ f.sv.length ≤ 100
  all : ∀ (i m : Nat) f t, F[i]? = some f → T[m]? = some t → refs T t i → (m : Int) ∈ f.sv
/-- The same facts but for flags, none of which is taken back; those that have turned are listed. -/
structure Adv (S : (Nat → Bool) → (Nat → Bool) → Prop) (F F' : List Fa) (new : List Int) : Prop where
  len : F'.length = F.length
  same : ∀ (i : Nat) f, F[i]? = some f → ∃ k c, F'[i]? = some { f with kn := k, ca := c } ∧ (f.kn = true → k = true) ∧ (f.ca = true → c = true) ∧ ((k = f.kn ∧ c = f.ca) ∨ (i : Int) ∈ new)
  rng : ∀ s ∈ new, 0 ≤ s ∧ s < F.length
  kc : (∀ i, kF F i = true → cF F i = true) → ∀ i, kF F' i = true → cF F' i = true
  sound : (∀ k' c', S k' c' → (∀ i, kF F i = true → k' i = true) ∧ (∀ i, cF F i = true → c' i = true)) → ∀ k' c', S k' c' → (∀ i, kF F' i = true → k' i = true) ∧ (∀ i, cF F' i = true → c' i = true)
/-- How many flags are not set. -/
def unset : List Fa → Nat
  | [] => 0
  | f :: F => (if f.kn then 0 else 1) + (if f.ca then 0 else 1) + unset F
theorem unset_le : ∀ F : List Fa, unset F ≤ 2 * F.length
  | [] => Nat.le_refl _
  | f :: F => by
    have := unset_le F
    simp only [unset, List.length_cons]
    split <;> split <;> omega
theorem unset_set : ∀ (F : List Fa) (i : Nat) (f g : Fa), F[i]? = some f → unset (F.set i g) + ((if f.kn then 0 else 1) + (if f.ca then 0 else 1)) = unset F + ((if g.kn then 0 else 1) + (if g.ca then 0 else 1))
  | [], i, f, g, h => by simp at h
  | x :: F, 0, f, g, h => by
    simp at h; subst h
    simp only [List.set_cons_zero, unset]
    omega
  | x :: F, i + 1, f, g, h => by
    have := unset_set F i f g (by simpa using h)
    simp only [List.set_cons_succ, unset]
    omega
theorem Adv.refl (S : (Nat → Bool) → (Nat → Bool) → Prop) (F : List Fa) : Adv S F F [] :=
  ⟨rfl, fun i f h => ⟨f.kn, f.ca, h, id, id, .inl ⟨rfl, rfl⟩⟩, fun s h => by simp at h, id, id⟩
theorem Adv.trans {S : (Nat → Bool) → (Nat → Bool) → Prop} {F F1 F2 : List Fa} {a b : List Int} (h : Adv S F F1 a) (k : Adv S F1 F2 b) : Adv S F F2 (a ++ b) := by
  refine ⟨k.len.trans h.len, fun i f hf => ?_, fun s hs => ?_, fun h0 => k.kc (h.kc h0), fun h0 => k.sound (h.sound h0)⟩
  · obtain ⟨k1, c1, e1, m1, m2, m3⟩ := h.same i f hf
    obtain ⟨k2, c2, e2, n1, n2, n3⟩ := k.same i _ e1
    refine ⟨k2, c2, e2, fun e => n1 (m1 e), fun e => n2 (m2 e), ?_⟩
    rcases n3 with ⟨e3, e4⟩ | hb
    · rcases m3 with ⟨e5, e6⟩ | ha
      · exact .inl ⟨e3.trans e5, e4.trans e6⟩
      · exact .inr (List.mem_append_left _ ha)
    · exact .inr (List.mem_append_right _ hb)
  · rcases List.mem_append.1 hs with h1 | h1
    · exact h.rng s h1
    · have := k.rng s h1; rw [h.len] at this; exact this
theorem Adv.kmono {S : (Nat → Bool) → (Nat → Bool) → Prop} {F F' : List Fa} {new : List Int} (h : Adv S F F' new) {i : Nat} (hi : kF F i = true) : kF F' i = true := by
  obtain ⟨f, hf⟩ : ∃ f, F[i]? = some f := ⟨F[i]'(kF_lt hi), by simp [kF_lt hi]⟩
  obtain ⟨k, c, e, m1, _⟩ := h.same i f hf
  rw [kF_at hf] at hi
  rw [kF_at e]; exact m1 hi
theorem Adv.cmono {S : (Nat → Bool) → (Nat → Bool) → Prop} {F F' : List Fa} {new : List Int} (h : Adv S F F' new) {i : Nat} (hi : cF F i = true) : cF F' i = true := by
  obtain ⟨f, hf⟩ : ∃ f, F[i]? = some f := ⟨F[i]'(cF_lt hi), by simp [cF_lt hi]⟩
  obtain ⟨k, c, e, _, m2, _⟩ := h.same i f hf
  rw [cF_at hf] at hi
  rw [cF_at e]; exact m2 hi
theorem Adv.keep {S : (Nat → Bool) → (Nat → Bool) → Prop} {F F' : List Fa} {new : List Int} (h : Adv S F F' new) {i : Nat} (hi : ¬ (i : Int) ∈ new) : kF F' i = kF F i ∧ cF F' i = cF F i := by
  cases hq : F[i]? with
  | none =>
    have h2 : F'[i]? = none := by
      rw [List.getElem?_eq_none_iff] at hq ⊢
      rw [h.len]; exact hq
    simp [kF, cF, hq, h2]
  | some f =>
    obtain ⟨k, c, e, _, _, m3⟩ := h.same i f hq
    rw [kF_at e, cF_at e, kF_at hq, cF_at hq]
    exact m3.resolve_right hi
theorem Adv.nothing {S : (Nat → Bool) → (Nat → Bool) → Prop} {F F' : List Fa} (h : Adv S F F' []) : F' = F := by
  refine List.ext_getElem? fun i => ?_
  cases hq : F[i]? with
  | none =>
    rw [List.getElem?_eq_none_iff] at hq ⊢
    rw [h.len]; exact hq
  | some f =>
    obtain ⟨k, c, e, _, _, m3⟩ := h.same i f hq
    obtain ⟨e1, e2⟩ := m3.resolve_right (by simp)
    rw [e, e1, e2]
theorem FOK.adv {S : (Nat → Bool) → (Nat → Bool) → Prop} {T : List T3} {F F' : List Fa} {new : List Int} (hF : FOK T F) (h : Adv S F F' new) : FOK T F' := by
  have back : ∀ (i : Nat) f', F'[i]? = some f' → ∃ f, F[i]? = some f ∧ f'.t = f.t ∧ f'.key = f.key ∧ f'.sv = f.sv := fun i f' hi => by
    have hl : i < F.length := by rw [← h.len]; exact get_lt hi
    obtain ⟨k, c, e, _⟩ := h.same i F[i] (by simp [hl])
    rw [hi] at e
    injection e with e
    exact ⟨F[i], by simp [hl], by rw [e], by rw [e], by rw [e]⟩
  refine ⟨h.len.trans hF.len, fun i f' hi => ?_, fun i f' hi => ?_, fun i m f' t hi ht hr => ?_⟩
  · obtain ⟨f, hf, e1, e2, e3⟩ := back i f' hi
    rw [e1, e2]; exact hF.tk i f hf
  · obtain ⟨f, hf, e1, e2, e3⟩ := back i f' hi
    rw [e3]; exact hF.sv i f hf
  · obtain ⟨f, hf, e1, e2, e3⟩ := back i f' hi
    rw [e3]; exact hF.all i m f t hf ht hr
/-- One fact's flags are set. -/
theorem adv_set {S : (Nat → Bool) → (Nat → Bool) → Prop} {F : List Fa} {i : Nat} {f : Fa} {k c : Bool} (hf : F[i]? = some f) (h1 : f.kn = true → k = true) (h2 : f.ca = true → c = true) (h3 : k = true → c = true)
    (hs : (∀ k' c', S k' c' → (∀ i, kF F i = true → k' i = true) ∧ (∀ i, cF F i = true → c' i = true)) → ∀ k' c', S k' c' → (k = true → k' i = true) ∧ (c = true → c' i = true)) : Adv S F (F.set i { f with kn := k, ca := c }) [(i : Int)] := by
  have hl := get_lt hf
  have at_ : ∀ j, j ≠ i → (F.set i { f with kn := k, ca := c })[j]? = F[j]? := fun j hj => by rw [List.getElem?_set_ne (Ne.symm hj)]
  have self : (F.set i { f with kn := k, ca := c })[i]? = some { f with kn := k, ca := c } := by simp [hl]
  refine ⟨by simp, fun j g hg => ?_, fun s hs => ?_, fun h0 j hj => ?_, fun h0 k' c' hS => ⟨fun j hj => ?_, fun j hj => ?_⟩⟩
  · by_cases e : j = i
    · subst e
      obtain rfl : f = g := Option.some.inj (hf.symm.trans hg)
      exact ⟨k, c, self, h1, h2, .inr (by simp)⟩
    · exact ⟨g.kn, g.ca, (at_ j e).trans hg, id, id, .inl ⟨rfl, rfl⟩⟩
  · simp at hs; subst hs; omega
  · by_cases e : j = i
    · subst e
      rw [kF_at self] at hj
      rw [cF_at self]; exact h3 hj
    · have e1 : kF (F.set i { f with kn := k, ca := c }) j = kF F j := by simp only [kF, at_ j e]
      have e2 : cF (F.set i { f with kn := k, ca := c }) j = cF F j := by simp only [cF, at_ j e]
      rw [e1] at hj; rw [e2]; exact h0 j hj
  · by_cases e : j = i
    · subst e
      rw [kF_at self] at hj
      exact (hs h0 k' c' hS).1 hj
    · have e1 : kF (F.set i { f with kn := k, ca := c }) j = kF F j := by simp only [kF, at_ j e]
      rw [e1] at hj; exact (h0 k' c' hS).1 j hj
  · by_cases e : j = i
    · subst e
      rw [cF_at self] at hj
      exact (hs h0 k' c' hS).2 hj
    · have e2 : cF (F.set i { f with kn := k, ca := c }) j = cF F j := by simp only [cF, at_ j e]
      rw [e2] at hj; exact (h0 k' c' hS).2 j hj

/-- All that can be told from a term has been told. -/
def Clean (T : List T3) (F : List Fa) (m : Nat) : Prop := ∀ t, T[m]? = some t → (mkB t (cF F) = true → cF F m = true) ∧ (kF F m = true → shB t (keyOf3 T t) (cF F) = true → kF F t.2.2.toNat = true)
/-- A term is looked at when this one is followed. -/
def looks (F : List Fa) (j : Int) (m : Nat) : Prop := j = m ∨ ∃ f, F[j.toNat]? = some f ∧ (m : Int) ∈ f.sv
theorem looks_adv {S : (Nat → Bool) → (Nat → Bool) → Prop} {F F' : List Fa} {new : List Int} (h : Adv S F F' new) {j : Int} {m : Nat} (hl : looks F j m) : looks F' j m := by
  rcases hl with e | ⟨f, hf, hm⟩
  · exact .inl e
  · obtain ⟨k, c, e, _⟩ := h.same _ f hf
    exact .inr ⟨_, e, hm⟩
theorem wf_refs {T : List T3} (hW : WF T) {m : Nat} {t : T3} (ht : T[m]? = some t) : ((isOne t.1 = true → 0 ≤ t.2.1 ∧ t.2.1 < m)) ∧ (isTwo t.1 = true → 0 ≤ t.2.1 ∧ t.2.1 < m ∧ 0 ≤ t.2.2 ∧ t.2.2 < m ∧ 0 ≤ keyOf3 T t ∧ keyOf3 T t < m) := by
  have ho1 : isOne 1 = false := by decide
  have ho9 : isOne 9 = false := by decide
  have ht1 : isTwo 1 = false := by decide
  have ht9 : isTwo 9 = false := by decide
  rcases hW m t ht with h | h | ⟨h, h1, h2⟩ | ⟨h, h1, h2, h3, h4, h5⟩
  · rw [h]; simp [ho1, ht1]
  · rw [h]; simp [ho9, ht9]
  · refine ⟨fun _ => ⟨h1, h2⟩, fun h3 => ?_⟩
    exfalso
    simp only [isOne, isTwo, Bool.or_eq_true, beq_iff_eq] at h h3
    omega
  · refine ⟨fun h6 => ?_, fun _ => ⟨h1, h2, h3, h4, ?_⟩⟩
    · exfalso
      simp only [isOne, isTwo, Bool.or_eq_true, beq_iff_eq] at h h6
      omega
    · unfold keyOf3
      split
      · next h6 =>
        obtain ⟨u, hu, h7, h8⟩ := h5 h6
        simp only [List.getD_eq_getElem?_getD, hu, Option.getD_some]
        omega
      · split <;> omega
/-- A clean term stays so, or is looked at again. -/
theorem clean_adv {S : (Nat → Bool) → (Nat → Bool) → Prop} {T : List T3} {F F' : List Fa} {new : List Int} (hW : WF T) (hF : FOK T F) (h : Adv S F F' new) {m : Nat} (hc : Clean T F m) : Clean T F' m ∨ ∃ j ∈ new, looks F j m := by
  refine Classical.byContradiction fun hno => ?_
  have hn1 : ¬ Clean T F' m := fun e => hno (.inl e)
  have hn2 : ∀ j ∈ new, ¬ looks F j m := fun j hj hl => hno (.inr ⟨j, hj, hl⟩)
  refine hn1 fun t ht => ?_
  obtain ⟨c1, c2⟩ := hc t ht
  obtain ⟨r1, r2⟩ := wf_refs hW ht
  have hm : m < T.length := get_lt ht
  have self : kF F' m = kF F m ∧ cF F' m = cF F m := h.keep fun e => hn2 _ e (.inl rfl)
  have ref : ∀ i : Nat, refs T t i → i < m → cF F' i = cF F i := fun i hr hi => by
    refine (h.keep fun e => hn2 _ e (.inr ?_)).2
    have hl : i < F.length := by rw [hF.len]; omega
    exact ⟨F[i], by simp [hl], hF.all i m _ t (by simp [hl]) ht hr⟩
  constructor
  · intro hmk
    rw [self.2]
    refine c1 ?_
    unfold mkB at hmk ⊢
    simp only [Bool.or_eq_true, Bool.and_eq_true] at hmk ⊢
    rcases hmk with (h1 | ⟨h1, h2⟩) | ⟨h1, h2, h3⟩
    · exact .inl (.inl h1)
    · obtain ⟨a, b⟩ := r1 h1
      rw [ref t.2.1.toNat (.inl ⟨h1, by omega⟩) (by omega)] at h2
      exact .inl (.inr ⟨h1, h2⟩)
    · obtain ⟨a1, a2, a3, a4, a5, a6⟩ := r2 h1
      rw [ref t.2.1.toNat (.inr ⟨h1, .inl (by omega)⟩) (by omega)] at h2
      rw [ref t.2.2.toNat (.inr ⟨h1, .inr (.inl (by omega))⟩) (by omega)] at h3
      exact .inr ⟨h1, h2, h3⟩
  · intro hk hs
    rw [self.1] at hk
    refine h.kmono (c2 hk ?_)
    unfold shB at hs ⊢
    simp only [Bool.or_eq_true, Bool.and_eq_true] at hs ⊢
    rcases hs with ⟨h1, h2⟩ | h1
    · have h3 : isTwo t.1 = true := by
        simp only [isTwo, Bool.or_eq_true]
        rcases h1 with h1 | h1
        · exact .inl (.inl h1)
        · exact .inl (.inr h1)
      have h8 : t.1 ≠ 8 := by
        simp only [beq_iff_eq] at h1
        omega
      obtain ⟨a1, a2, a3, a4, a5, a6⟩ := r2 h3
      rw [ref (keyOf3 T t).toNat (.inr ⟨h3, .inr (.inr ⟨h8, by omega⟩)⟩) (by omega)] at h2
      exact .inl ⟨h1, h2⟩
    · exact .inr h1
/-- What is still to be followed makes all clean. -/
def Pend (T : List T3) (F : List Fa) (ps : List Int) : Prop := ∀ m, m < T.length → Clean T F m ∨ ∃ j ∈ ps, looks F j m
theorem Pend.clean {T : List T3} {F : List Fa} (h : Pend T F []) : ∀ m, m < T.length → Clean T F m := fun m hm => (h m hm).resolve_right (by rintro ⟨j, hj, _⟩; simp at hj)
theorem pend_adv {S : (Nat → Bool) → (Nat → Bool) → Prop} {T : List T3} {F F' : List Fa} {ps new : List Int} (hW : WF T) (hF : FOK T F) (h : Adv S F F' new) (hp : Pend T F ps) : Pend T F' (ps ++ new) := fun m hm => by
  rcases hp m hm with hc | ⟨j, hj, hl⟩
  · rcases clean_adv hW hF h hc with h1 | ⟨j, hj, hl⟩
    · exact .inl h1
    · exact .inr ⟨j, List.mem_append_right _ hj, looks_adv h hl⟩
  · exact .inr ⟨j, List.mem_append_left _ hj, looks_adv h hl⟩
/-- One has been followed. -/
theorem pend_next {S : (Nat → Bool) → (Nat → Bool) → Prop} {T : List T3} {F F' : List Fa} {p : Int} {ps new : List Int} (hW : WF T) (hF : FOK T F) (h : Adv S F F' new) (hp : Pend T F (p :: ps)) (hl : ∀ m, m < T.length → looks F p m → Clean T F' m ∨ ∃ j ∈ new, looks F j m) : Pend T F' (ps ++ new) := fun m hm => by
  rcases hp m hm with hc | ⟨j, hj, hk⟩
  · rcases clean_adv hW hF h hc with h1 | ⟨j, hj, hl⟩
    · exact .inl h1
    · exact .inr ⟨j, List.mem_append_right _ hj, looks_adv h hl⟩
  · rcases List.mem_cons.1 hj with rfl | hj
    · rcases hl m hm hk with h1 | ⟨j, hj, hl⟩
      · exact .inl h1
      · exact .inr ⟨j, List.mem_append_right _ hj, looks_adv h hl⟩
    · exact .inr ⟨j, List.mem_append_left _ hj, looks_adv h hk⟩
/-- All is clean: the flags are the least sets. -/
theorem least_of {T : List T3} {G : Nat → Prop} {F : List Fa} (hF : FOK T F) (hg : ∀ i, G i → kF F i = true) (hkc : ∀ i, kF F i = true → cF F i = true) (hc : ∀ m, m < T.length → Clean T F m) (hs : SubK T G (kF F) (cF F)) : Least T G (kF F) (cF F) :=
  ⟨⟨hg, hkc, fun i t ht hm => (hc i (get_lt ht) t ht).1 hm, fun i t ht hk hm => (hc i (get_lt ht) t ht).2 hk hm⟩, hs⟩
end Go.Proofs.Ytboofkmbjmnpeaa
