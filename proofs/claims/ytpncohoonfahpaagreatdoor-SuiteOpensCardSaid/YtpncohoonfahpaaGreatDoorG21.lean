/- Texts of this proof, laid together: CRound, LList, TLawA, TLawB. -/
import Derived.Test.YtpncohoonfahpaaGreatDoorMRowM
import Derived.RangeFuncNested
import Derived.RangeFuncCalls
import Derived.RangeFuncLeaves
import Derived.RangeFuncBox
import Derived.OwnWalkIn
import Derived.TacticsInMore
import Derived.LoopIn
import Derived.OrdersIn
import Derived.Test.YtpncohoonfahpaaGreatDoorG20
/- A region that draws its order in a round of a range over a function: as everywhere else. No program is named. -/
namespace Go.Proofs.YtpncohoonfahpaaGreatDoor
open Go Go.RowKit

section
variable {P : Program} {ops : Array Oper} {md : Region.Mode} {Q : Exit → Act → World → Prop} {l n : Nat}
set_option maxRecDepth 50000 in
theorem rowsIn_wide {m : Nat} {row : String} {args : Array Value} {w : World} {R : Value → World → Prop} (h : Rows P row args w R) : RowsIn (Fence.wide.inRound l) m P row args w R := fun c cs _ => by
  obtain ⟨v, w', r, s⟩ := h c cs
  exact ⟨v, w', r, stepsIn_wide.2 s⟩
set_option maxRecDepth 50000 in
theorem opIn_of_op {o : Oper} {a : Act} {w : World} {K : Act → World → Prop} (hnd : ∀ c, o.op ≠ .defer c) (h : o.wp P a w K Q) : o.wpIn (Fence.wide.inRound l) n P a w K Q := by
  unfold Oper.wpIn
  refine ⟨fun _ _ => trivial, ?_⟩
  rw [show (Fence.wide.inRound l).round = some l from rfl, Oper.semAt_some l _ _ hnd]
  unfold Oper.wp at h
  generalize (execOp a.eval o).run P w = r at *
  have hd : (Fence.wide.inRound l).depth.isSome = true → 1 ≤ n := fun h => by cases h
  cases r with
  | ok x w' =>
    cases x <;> simp only [Oper.upon] at h <;> simp only [Oper.uponIn]
    case value => exact h
    case skip => exact h
    case defer => exact h
    case enter f args => exact ⟨hd, CallsIn.inRound l (callsIn_wide.2 h)⟩
    case row => exact ⟨hd, rowsIn_wide h⟩
  | halt x w' =>
    cases x <;> simp only [Oper.upon] at h <;> simp only [Oper.uponIn]
    exact h
set_option maxRecDepth 50000 in
theorem anyIn_of_any (hnd : ∀ (i : Nat) (o : Oper), ops[i]? = some o → ∀ c, o.op ≠ .defer c) (hQ : ¬ LetsOut Q) : ∀ (F : Nat) (listed : Array Bool) (a : Act) (w : World), wpAny P md ops Q F listed a w → wpAnyIn (Fence.wide.inRound l) n P md ops Q F listed a w
  | 0, _, _, _, h => h
  | F + 1, listed, a, w, h => ⟨h.1, fun i hi => by
    have h1 := h.2 i hi
    unfold wpOp at h1
    unfold wpOpIn
    cases ho : ops[i]? with
    | none => simp only [ho] at h1 ⊢; exact anyIn_of_any hnd hQ F _ _ _ h1
    | some o =>
      simp only [ho] at h1 ⊢
      split
      · rename_i hw
        rw [if_pos hw] at h1
        rcases h1 with h1 | h1
        · exact Oper.wpIn_mono (fun a' w' h' => anyIn_of_any hnd hQ F _ _ _ h') (opIn_of_op (hnd i o ho) h1)
        · exact absurd h1.2 hQ
      · rename_i hw
        rw [if_neg hw] at h1
        exact ⟨fun _ _ => trivial, anyIn_of_any hnd hQ F _ _ _ h1⟩⟩
def noDefer (l : List Oper) : Bool := l.all fun o => match o.op with
  | .defer _ => false
  | _ => true
set_option maxRecDepth 50000 in
theorem noDefer_spec {l : List Oper} (h : noDefer l = true) : ∀ (i : Nat) (o : Oper), l.toArray[i]? = some o → ∀ c, o.op ≠ .defer c := fun i o ho c e => by
  have h1 := List.all_eq_true.1 h o (List.mem_of_getElem? (by simpa using ho))
  rw [e] at h1
  cases h1
end
section
variable {P : Program} {W : World} {a0 : Act}
set_option maxRecDepth 50000 in
/-- The law of regions, in a round. -/
theorem region_round {id k m : Nat} {Q : Exit → Act → World → Prop} {l : List Oper} (n M : Nat) (al : Nat → Bool) (Ss : List (Value → World → Prop)) (ds : List Tmp) (hds : dstsOf l.toArray n = ds) (hm : P.follows .mixedOrders = true) (hB : specB .any l.toArray n M = true) (hM : M ≤ a0.tmps.size) (hnd : noDefer l = true) (hQ : ¬ LetsOut Q)
    (mono : ∀ S ∈ Ss, Grows S) (hst : Steps P l.toArray .any W a0 n al (sAt Ss) Q n 0 l)
    (hend : ∀ (val : Tmp → Value) w, Cl W w → (∀ i d, i < n → dstOf l.toArray i = some d → sAt Ss i (val d) w) →
      (∀ i j d d', i < n → j < n → al i = true → al j = true → i ≠ j → dstOf l.toArray i = some d → dstOf l.toArray j = some d' → home (val d) ≠ home (val d')) →
      (∀ i d, i < n → al i = true → dstOf l.toArray i = some d → ∃ b, home (val d) = some b ∧ W.heap.size ≤ b ∧ b < w.heap.size) → wpList P l.toArray Q (l.drop n) (putVals ds val a0) w) : (Code.region id l.toArray true).wpIn (Fence.wide.inRound k) m P Q a0 W := by
  have hB2 := hB
  simp only [specB, Bool.and_eq_true, decide_eq_true_eq] at hB2
  obtain ⟨⟨⟨⟨⟨hn, hs⟩, hc⟩, hback⟩, hdst⟩, hseq⟩ := hB2
  refine wpIn_region_any hm (anyIn_of_any (noDefer_spec hnd) hQ _ _ _ _ ?_)
  have hrep : ∀ i, (Array.replicate l.toArray.size false).getD i false = false := fun i => getD_replicate_false _ _
  refine spec_any (W := W) (a0 := a0) (al := al) (S := sAt Ss) (l := l) rfl hB hM (fun i v w w' h1 h2 => grows_at mono i v w w' h1 h2) (fun i o hi ho => ?_) (fun a w st => ?_) _ _ _ _ ?_ ?_ ?_
  · have := Steps.at_ n 0 l hst i o hi (by simpa using ho)
    rwa [Nat.zero_add] at this
  · rw [st.act, hds]
    have hl : ∀ i, i < n → (headArr n l.toArray.size).getD i false = true := fun i hi => head_true hi
    exact hend (fun d => a.eval (.tmp d)) w st.cl (fun i d hi hd => st.at_ i d hi hd) (fun i j d d' hi hj hai haj hij hd hd' => st.apart i j hi hj (hl i hi) (hl j hj) hai haj hij d d' hd hd') (fun i d hi hai hd => st.laid i hi (hl i hi) hai d hd)
  · have := lacking_new l.toArray.size
    simpa using this
  · refine ⟨⟨by simp, fun j oj _ hl _ _ _ => ?_, fun t _ hts => ?_⟩, fun i hi => by omega⟩
    · rw [hrep] at hl; cases hl
    · exact getD_in (by simpa using hts) (hrep t)
  · refine ⟨Cl.drew W, rfl, rfl, fun _ _ => rfl, fun i _ h => ?_, fun i _ h => ?_, fun i j _ _ h => ?_⟩ <;> (rw [hrep] at h; cases h)
end
end Go.Proofs.YtpncohoonfahpaaGreatDoor

/- A list of operations in a round of a range over a function: as everywhere else. No program is named. -/
namespace Go.Proofs.YtpncohoonfahpaaGreatDoor
open Go Go.RowKit
section
variable {P : Program} {Q : Exit → Act → World → Prop} {k n : Nat} {ops : Array Oper}
set_option maxRecDepth 50000 in
theorem listIn_of_list (hQ : ¬ LetsOut Q) : ∀ (l : List Oper), (∀ o ∈ l, ∀ c, o.op ≠ .defer c) → ∀ (a : Act) (w : World), wpList P ops Q l a w → wpListIn (Fence.wide.inRound k) n P ops Q l a w
  | [], _, _, _, h => h
  | o :: rest, hnd, a, w, h => by
    unfold wpList at h
    unfold wpListIn
    split
    · rename_i hw
      rw [if_pos hw] at h
      rcases h with h | h
      · exact Oper.wpIn_mono (fun a' w' h' => listIn_of_list hQ rest (fun o ho => hnd o (List.mem_cons_of_mem _ ho)) a' w' h') (opIn_of_op (hnd o (List.mem_cons_self ..)) h)
      · exact absurd h.2 hQ
    · rename_i hw
      rw [if_neg hw] at h
      exact ⟨fun _ _ => trivial, listIn_of_list hQ rest (fun o ho => hnd o (List.mem_cons_of_mem _ ho)) _ w h⟩
set_option maxRecDepth 50000 in
theorem region_roundL {id : Nat} {a : Act} {w : World} {l : List Oper} (hnd : noDefer l = true) (hQ : ¬ LetsOut Q) (h : wpList P l.toArray Q l a w) : (Code.region id l.toArray false).wpIn (Fence.wide.inRound k) n P Q a w :=
  wpIn_region_list (listIn_of_list hQ _ (fun o ho c e => by
    have h1 := List.all_eq_true.1 hnd o (by simpa using ho)
    rw [e] at h1
    cases h1) _ _ (by simpa using h))
end
end Go.Proofs.YtpncohoonfahpaaGreatDoor

/- The law's example; what is done to a store, as the law is handed it; both stores together. -/
namespace Go.Proofs.YtpncohoonfahpaaGreatDoor
open Go Go.RowKit Go.Maps

set_option maxRecDepth 50000 in
/-- A new store. -/
theorem new_cs (w : World) : Calls Tryz.prog 92 #[] w fun e w' => e = .returned (.pointer (some ⟨w.heap.size + 2, 0, none⟩)) ∧ Below w.heap.size w w' ∧ CS (fun b => w.heap.size ≤ b ∧ b < w'.heap.size) w' (w.heap.size + 2) [] [] :=
  (new_any w).mono fun e w' ⟨he, hb, hT⟩ => ⟨he, hb, _, _, _, hT, PF.zero, fun b hf => (And.intro (by
    rcases hf with h | h | h | h | h | h
    · omega
    · exact Nat.le_of_eq h.symm
    · rw [h]; exact Nat.le_succ _
    · cases h
    · cases h
    · cases h) (hT.lt b hf)), by show w.heap.size + 1 ≠ w.heap.size; omega⟩
set_option maxRecDepth 50000 in
theorem Chg.belowG {G : Nat → Prop} {w w' : World} {B : Nat} (h : Chg G w w') (hB : B ≤ w.heap.size) (hG : ∀ b, b < w.heap.size → G b → B ≤ b) : Below B w w' :=
  ⟨h.os, h.tape, h.output, h.size, fun k hk => h.block k (by omega) (fun e => by have := hG k (by omega) e; omega)⟩
set_option maxRecDepth 50000 in
theorem put_first {F : Nat → Prop} {p : Nat} {w : World} (h : CS F w p [] []) : Calls Tryz.prog 106 #[.pointer (some ⟨p, 0, none⟩), tv (1, 3, 0)] w fun e w' => e = .returned (.tuple #[.int .i64 0, .int .i64 0]) ∧ CS (Grw F w w') w' p [(1, 3, 0)] [] ∧ Chg F w w' :=
  (put_any F p [] [] (1, 3, 0) w h ⟨by decide, by decide, by decide⟩ (by decide)).mono fun e w' ⟨n, er, L', he, hR, hC, hG⟩ => by
    rcases hR with ⟨hm, _⟩ | ⟨_, i, hi, _⟩ | ⟨_, _, rfl, rfl, rfl⟩
    · exact absurd hm (by decide)
    · simp at hi
    · exact ⟨he, hC, hG⟩
set_option maxRecDepth 50000 in
theorem put_second {F : Nat → Prop} {p : Nat} {w : World} (h : CS F w p [(1, 3, 0)] []) : Calls Tryz.prog 106 #[.pointer (some ⟨p, 0, none⟩), tv (1, 3, 0)] w fun e w' => e = .returned (.tuple #[.int .i64 0, .int .i64 0]) ∧ CS (Grw F w w') w' p [(1, 3, 0)] [] ∧ Chg F w w' :=
  (put_any F p [(1, 3, 0)] [] (1, 3, 0) w h ⟨by decide, by decide, by decide⟩ (by decide)).mono fun e w' ⟨n, er, L', he, hR, hC, hG⟩ => by
    rcases hR with ⟨hm, _⟩ | ⟨_, i, hi, rfl, rfl, rfl⟩ | ⟨_, hn, _⟩
    · exact absurd hm (by decide)
    · have : i = 0 := by have := get_lt hi; simpa using this
      subst this
      exact ⟨he, hC, hG⟩
    · exact absurd rfl (hn 0)
/-- What is done, as it lies in memory: kind, N, the term, a slice of bytes. -/
structure DoV where
  kind : Int
  num : Int
  t : T3
  A : Option Addr
  c : Nat
  x : List Int
def DoV.cells (d : DoV) : List Value := [.int .i64 d.kind, .int .i64 d.num, .int .i64 d.t.1, .int .i64 d.t.2.1, .int .i64 d.t.2.2, .slice d.A d.x.length d.c]
/-- The row of what is done; its bytes lie below block B. -/
def DoRow (B : Nat) (w : World) (A : Option Addr) (ds : List DoV) : Prop := ∀ (i : Nat) d, ds[i]? = some d → (∃ g o, A = some ⟨g, o, none⟩ ∧ g < B ∧ w.rangeAt g (o + i * 6) d.cells) ∧ Twf d.t ∧ (Lit.int .i64 d.num).wf = true ∧ TByt d.x ∧ NumsD B w .u8 d.A d.x
set_option maxRecDepth 50000 in
theorem DoRow.next {B : Nat} {w w' : World} {A : Option Addr} {ds : List DoV} (h : DoRow B w A ds) (hb : Below B w w') : DoRow B w' A ds := fun i d hi => by
  obtain ⟨⟨g, o, e, hg, hr⟩, h1, h2, h3, h4⟩ := h i d hi
  exact ⟨⟨g, o, e, hg, fun j v hj => (hb.cell (p := ⟨g, o + i * 6 + j, none⟩) hg).trans (hr j v hj)⟩, h1, h2, h3, h4.stay hb⟩
section
variable {B : Nat} {okb : Nat → Prop} {w w' : World} {p q : Nat} {L : List T3} {X : List (List Int)}
end
set_option maxRecDepth 50000 in
theorem putR_eq {L L1 L2 : List T3} {x : Nat} {t : T3} {n1 e1 n2 e2 : Int} (hnd : ∀ (i j : Nat) t, L[i]? = some t → L[j]? = some t → i = j) (h1 : PutR L x t n1 e1 L1) (h2 : PutR L x t n2 e2 L2) : n1 = n2 ∧ e1 = e2 ∧ L1 = L2 := by
  rcases h1 with ⟨a1, a2, a3, a4⟩ | ⟨a1, i, a2, a3, a4, a5⟩ | ⟨a1, a2, a3, a4, a5⟩
  · rcases h2 with ⟨b1, b2, b3, b4⟩ | ⟨b1, _⟩ | ⟨b1, _⟩
    · exact ⟨by rw [a2, b2], by rw [a3, b3], by rw [a4, b4]⟩
    · rw [a1] at b1; cases b1
    · rw [a1] at b1; cases b1
  · rcases h2 with ⟨b1, _⟩ | ⟨b1, j, b2, b3, b4, b5⟩ | ⟨b1, b2, _⟩
    · rw [a1] at b1; cases b1
    · have := hnd i j t a2 b2
      exact ⟨by rw [a3, b3, this], by rw [a4, b4], by rw [a5, b5]⟩
    · exact absurd a2 (b2 i)
  · rcases h2 with ⟨b1, _⟩ | ⟨b1, j, b2, b3, b4, b5⟩ | ⟨b1, b2, b3, b4, b5⟩
    · rw [a1] at b1; cases b1
    · exact absurd b2 (a2 j)
    · exact ⟨by rw [a3, b3], by rw [a4, b4], by rw [a5, b5]⟩
set_option maxRecDepth 50000 in
theorem drawR_eq {L L1 L2 : List T3} {s n1 e1 n2 e2 : Int} (h1 : DrawR L s n1 e1 L1) (h2 : DrawR L s n2 e2 L2) : n1 = n2 ∧ e1 = e2 ∧ L1 = L2 := by
  rcases h1 with ⟨a1, a2, a3, a4⟩ | ⟨a1, ⟨i, b, a2, a2'⟩, a3, a4, a5⟩ | ⟨a1, v, a2, a3, a4, a5, a6, a7, a8⟩
  · rcases h2 with ⟨b1, b2, b3, b4⟩ | ⟨b1, _⟩ | ⟨b1, _⟩
    · exact ⟨by rw [a2, b2], by rw [a3, b3], by rw [a4, b4]⟩
    · exact absurd b1 a1
    · exact absurd b1 a1
  · rcases h2 with ⟨b1, _⟩ | ⟨_, _, b3, b4, b5⟩ | ⟨_, v, b2, _, _, b5, _⟩
    · exact absurd a1 b1
    · exact ⟨by rw [a3, b3], by rw [a4, b4], by rw [a5, b5]⟩
    · have := b2 i b a2; omega
  · rcases h2 with ⟨b1, _⟩ | ⟨_, ⟨i, b, b2, b2'⟩, _⟩ | ⟨_, u, b2, b3, b4, b5, b6, b7, b8⟩
    · exact absurd a1 b1
    · have := a2 i b b2; omega
    · have e : v = u := by
        rcases a3 with a3 | ⟨i, a3⟩
        · rcases b3 with b3 | ⟨j, b3⟩
          · omega
          · have := a2 j _ b3; omega
        · have h3 := b2 i _ a3
          rcases b3 with b3 | ⟨j, b3⟩
          · omega
          · have := a2 j _ b3; omega
      exact ⟨by rw [a6, b6], by rw [a7, b7], by rw [a8, b8, e]⟩
set_option maxRecDepth 50000 in
theorem textR_eq {L L1 L2 : List T3} {X X1 X2 : List (List Int)} {x : List Int} {n1 n2 : Int} (hnd : ∀ (i j : Nat) t, L[i]? = some t → L[j]? = some t → i = j) (hxn : ∀ (i j : Nat) x, X[i]? = some x → X[j]? = some x → i = j) (h1 : TextR L X x n1 L1 X1) (h2 : TextR L X x n2 L2 X2) : n1 = n2 ∧ L1 = L2 ∧ X1 = X2 := by
  rcases h1 with ⟨j, i, a1, a2, a3, a4, a5⟩ | ⟨a1, a2, a3, a4⟩
  · rcases h2 with ⟨j', i', b1, b2, b3, b4, b5⟩ | ⟨b1, _⟩
    · have e1 := hxn j j' x a1 b1
      subst e1
      have e2 := hnd i i' _ a2 b2
      exact ⟨by rw [a3, b3, e2], by rw [a4, b4], by rw [a5, b5]⟩
    · exact absurd a1 (b1 j)
  · rcases h2 with ⟨j', i', b1, _⟩ | ⟨b1, b2, b3, b4⟩
    · exact absurd b1 (a1 j')
    · exact ⟨by rw [a2, b2], by rw [a3, b3], by rw [a4, b4]⟩
end Go.Proofs.YtpncohoonfahpaaGreatDoor

/- What both laws' walks need: the iterator, results in a box, comparisons. -/
namespace Go.Proofs.YtpncohoonfahpaaGreatDoor
open Go Go.RowKit Go.Maps
attribute [local go_sem] Oper.semAt_some

set_option maxRecDepth 50000 in
theorem cxT94 : ∀ vs w, (callFunc 94 vs).run Tryz.prog w = .ok (.enter 94 vs) w := enters_of Tryz.func94 (by kernel_rfl) rfl
set_option maxRecDepth 50000 in
theorem cxT11 : ∀ vs w, (callFunc 11 vs).run Tryz.prog w = .ok (.enter 11 vs) w := enters_of Tryz.func11 (by kernel_rfl) rfl
set_option maxRecDepth 50000 in
theorem evt_call3 {P : Program} {o : Oper} {a : Act} {w : World} {K : Act → World → Prop} {Q : Exit → Act → World → Prop} {f : FuncId} {x y z : Operand} {u v t : Value} {ts : Array TypeId} (hop : o.op = .call { callee := .value (.func f), args := #[x, y, z], argTypes := ts }) (hcf : ∀ vs w, (callFunc f vs).run P w = .ok (.enter f vs) w)
    (hx : a.eval x = u) (hy : a.eval y = v) (hz : a.eval z = t) (h : Calls P f #[u, v, t] w fun e w' => ∃ r, e = .returned r ∧ K (a.put o.dst r) w') : o.wp P a w K Q := by
  unfold Oper.wp
  rw [ex_fnP rfl hcf hop #[u, v, t] (by simp [hx, hy, hz]) w, Oper.upon_enter]
  refine h.mono fun e w' ⟨v, he, hk⟩ => ?_
  subst he
  exact hk
set_option maxRecDepth 50000 in
theorem keeps_chg {G : Nat → Prop} {B : Nat} {W W' : World} (h : Chg G W W') (hG : ∀ b, G b → b < B) : KeepsFrom B W W' :=
  ⟨h.size, fun k o hk ho _ => (h.block k (Array.getElem?_eq_some_iff.1 ho).1 (fun e => by have := hG k e; omega)).trans ho⟩
set_option maxRecDepth 50000 in
theorem withAct {F : Fence} {n : Nat} {P : Program} {C : Code} {Q : Exit → Act → World → Prop} {a : Act} {w : World} (h : ∀ aa, aa = a → C.wpIn F n P Q aa w) : C.wpIn F n P Q a w := h a rfl
set_option maxRecDepth 50000 in
theorem results_cell1 {P : Program} {fn : Func} {p : Tmp} {ty : TypeId} (h : fn.results = #[.cell p ty]) (tmps : Array Value) (w : World) (b o : Nat) (hp : tmps.getD p undef = .pointer (some ⟨b, o, none⟩)) (v : Value) (d : TypeDesc) (hc : w.cell? ⟨b, o, none⟩ = some v) (hu : P.underlying ty = some d) (hd : d.isRow = false) :
    (results fn tmps).run P w = .ok v w := by
  simp only [results, h]
  have hp2 : tmps[p]?.getD undef = .pointer (some ⟨b, o, none⟩) := by rw [← hp]; simp
  have hag : (isAgg ty).run P w = .ok false w := by
    unfold isAgg
    rw [Sem.run_bind, run_underlying hu w]
    cases d <;> simp_all
  simp [hp2, asAddr, loadVar, Sem.run_bind, hag, hc]
/-- What holds between the rounds of the range over the terms. -/
structure PutsR (t7 m : Nat) (wc W : World) : Prop where
  chg : Chg (fun b => b = t7) wc W
  b7 : Blk W t7 3 [.int .i64 m]
  lt : t7 < wc.heap.size
set_option maxRecDepth 50000 in
theorem PutsR.own {n t7 : Nat} {wc : World} {B : Nat} (hB : wc.heap.size ≤ B) : OwnFrom B (fun (pre : List (Fin n)) W => upTo pre ∧ PutsR t7 pre.length wc W) := fun s X Y row ⟨hu, hs⟩ hg hr =>
  ⟨hu, hs.chg.grown hg (fun g e => .inr (by have := (hr g e).1; omega)), hs.b7.grown hg (fun e => by have := (hr _ e.symm).1; have := hs.lt; omega), hs.lt⟩
set_option maxRecDepth 50000 in
theorem PutsR.next {t7 m : Nat} {wc W W' : World} (h : PutsR t7 m wc W) (hb : Below W.heap.size W W') : PutsR t7 m wc W' := ⟨h.chg.next hb, h.b7.next hb, h.lt⟩
set_option maxRecDepth 50000 in
theorem PutsR.step {t7 m : Nat} {wc W : World} (h : PutsR t7 m wc W) : PutsR t7 (m + 1) wc (W.setCell ⟨t7, 0, none⟩ (.int .i64 ((m + 1 : Nat) : Int))) :=
  ⟨h.chg.setCell (.inl rfl) _, h.b7.set 0 _, h.lt⟩
set_option maxRecDepth 50000 in
theorem upTo_last {n : Nat} {xs : List (Fin n)} {x : Fin n} (h : upTo (xs ++ [x])) : x.val = xs.length := by
  have h2 := congrArg (fun l => l[xs.length]?) h
  simpa using h2
set_option maxRecDepth 50000 in
theorem upTo_add {n : Nat} {xs : List (Fin n)} {x : Fin n} (h : upTo xs) (hx : x.val = xs.length) : upTo (xs ++ [x]) := by
  obtain ⟨i, hi⟩ := x
  dsimp only at hx
  subst hx
  exact upTo_snoc h rfl hi
/-- The variables of a round. -/
def AxP (aa : Act) (wc : World) (L : List T3) (s1 s2 s3 s4 : Nat) (x : Fin L.length) (a' : Act) (W : World) : Prop :=
  ∃ b, wc.heap.size ≤ b ∧ Blk W b 65 (tc (L[x.val]'x.2)) ∧
    a' = { tmps := (((aa.tmps.setIfInBounds s1 (.int .i64 (x.val : Int))).setIfInBounds s2 (tv (L[x.val]'x.2))).setIfInBounds s3 (.int .i64 (x.val : Int))).setIfInBounds s4 (.pointer (some ⟨b, 0, none⟩)), defers := [] }
set_option maxRecDepth 50000 in
theorem AxP.own {aa : Act} {wc : World} {L : List T3} {s1 s2 s3 s4 : Nat} {B : Nat} (x : Fin L.length) (a' : Act) : OwnFrom B (fun (_ : Unit) W => AxP aa wc L s1 s2 s3 s4 x a' W) := fun _ X Y row ⟨b, hb, hB, ha⟩ hg hr =>
  ⟨b, hb, hB.grown hg (fun e => by
    obtain ⟨_, o, ho, hc⟩ := hr b e.symm
    rw [show X.heap[b]? = _ from hB] at ho
    cases ho
    cases hc), ha⟩
set_option maxRecDepth 50000 in
theorem NumsD.apart {B : Nat} {F : Nat → Prop} {w : World} {k : IntKind} {A : Option Addr} {xs : List Int} (h : NumsD B w k A xs) (hF : ∀ b, F b → B ≤ b) : 0 < xs.length → ∀ g o sp, A = some ⟨g, o, sp⟩ → ¬ F g := fun hp g o sp e hf => by
  obtain ⟨b, off, e2, hlt, _⟩ := h hp
  rw [e] at e2
  injection e2 with e2
  injection e2 with e2
  have := hF g hf
  subst e2
  exact absurd hlt (Nat.not_lt.2 this)
set_option maxRecDepth 50000 in
theorem putR_len {L L' : List T3} {x : Nat} {t : T3} {n e : Int} (h : PutR L x t n e L') : L'.length ≤ L.length + 1 := by
  rcases h with ⟨_, _, _, rfl⟩ | ⟨_, _, _, _, _, rfl⟩ | ⟨_, _, _, _, rfl⟩ <;> simp
set_option maxRecDepth 50000 in
theorem drawR_len {L L' : List T3} {s n e : Int} (h : DrawR L s n e L') : L'.length ≤ L.length + 1 := by
  rcases h with ⟨_, _, _, rfl⟩ | ⟨_, _, _, _, rfl⟩ | ⟨_, _, _, _, _, _, _, _, rfl⟩ <;> simp
set_option maxRecDepth 50000 in
theorem textR_len {L L' : List T3} {X X' : List (List Int)} {x : List Int} {n : Int} (h : TextR L X x n L' X') : L'.length ≤ L.length + 1 ∧ X'.length ≤ X.length + 1 := by
  rcases h with ⟨_, _, _, _, _, rfl, rfl⟩ | ⟨_, _, rfl, rfl⟩ <;> simp
end Go.Proofs.YtpncohoonfahpaaGreatDoor
