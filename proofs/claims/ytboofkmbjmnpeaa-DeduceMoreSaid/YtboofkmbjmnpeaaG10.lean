/- Texts of this proof, laid together: CRound, LList, TLawA. -/
import Derived.Test.YtboofkmbjmnpeaaMRowM
import Derived.RangeFuncNested
import Derived.RangeFuncCalls
import Derived.RangeFuncLeaves
import Derived.RangeFuncBox
import Derived.OwnWalkIn
import Derived.TacticsInMore
import Derived.LoopIn
import Derived.OrdersIn
import Derived.Test.YtboofkmbjmnpeaaG9
/- A region that draws its order in a round of a range over a function: as everywhere else. No program is named. -/
namespace Go.Proofs.Ytboofkmbjmnpeaa
open Go Go.RowKit

section
variable {P : Program} {ops : Array Oper} {md : Region.Mode} {Q : Exit → Act → World → Prop} {l n : Nat}
theorem rowsIn_wide {m : Nat} {row : String} {args : Array Value} {w : World} {R : Value → World → Prop} (h : Rows P row args w R) : RowsIn (Fence.wide.inRound l) m P row args w R := fun c cs _ => by
  obtain ⟨v, w', r, s⟩ := h c cs
  exact ⟨v, w', r, stepsIn_wide.2 s⟩
theorem opIn_of_op {o : Oper} {a : Act} {w : World} {K : Act → World → Prop} (hnd : ∀ c, o.op ≠ .defer c) (h : o.wp P a w K Q) : o.wpIn (Fence.wide.inRound l) n P a w K Q := by
  unfold Oper.wpIn
  refine ⟨fun _ _ => trivial, ?_⟩
  rw [show (Fence.wide.inRound l).round = some l from rfl, Oper.semAt_some l _ _ hnd]
  unfold Oper.wp at h
  generalize (execOp a.eval o).run P w = r at *
  have hd : (Fence.wide.inRound l).depth.isSome = true → 1 ≤ n := fun h => by cases h
  cases r with
  | ok x w' =>
    cases x <;> simp only [Oper.upon] at h <;> simp only [Oper.uponIn]
    case value => exact h
    case skip => exact h
    case defer => exact h
    case enter f args => exact ⟨hd, CallsIn.inRound l (callsIn_wide.2 h)⟩
    case row => exact ⟨hd, rowsIn_wide h⟩
  | halt x w' =>
    cases x <;> simp only [Oper.upon] at h <;> simp only [Oper.uponIn]
    exact h
theorem anyIn_of_any (hnd : ∀ (i : Nat) (o : Oper), ops[i]? = some o → ∀ c, o.op ≠ .defer c) (hQ : ¬ LetsOut Q) : ∀ (F : Nat) (listed : Array Bool) (a : Act) (w : World), wpAny P md ops Q F listed a w → wpAnyIn (Fence.wide.inRound l) n P md ops Q F listed a w
  | 0, _, _, _, h => h
  | F + 1, listed, a, w, h => ⟨h.1, fun i hi => by
    have h1 := h.2 i hi
    unfold wpOp at h1
    unfold wpOpIn
    cases ho : ops[i]? with
    | none => simp only [ho] at h1 ⊢; exact anyIn_of_any hnd hQ F _ _ _ h1
    | some o =>
      simp only [ho] at h1 ⊢
      split
      · rename_i hw
        rw [if_pos hw] at h1
        rcases h1 with h1 | h1
        · exact Oper.wpIn_mono (fun a' w' h' => anyIn_of_any hnd hQ F _ _ _ h') (opIn_of_op (hnd i o ho) h1)
        · exact absurd h1.2 hQ
      · rename_i hw
        rw [if_neg hw] at h1
        exact ⟨fun _ _ => trivial, anyIn_of_any hnd hQ F _ _ _ h1⟩⟩
def noDefer (l : List Oper) : Bool := l.all fun o => match o.op with
  | .defer _ => false
  | _ => true
theorem noDefer_spec {l : List Oper} (h : noDefer l = true) : ∀ (i : Nat) (o : Oper), l.toArray[i]? = some o → ∀ c, o.op ≠ .defer c := fun i o ho c e => by
  have h1 := List.all_eq_true.1 h o (List.mem_of_getElem? (by simpa using ho))
  rw [e] at h1
  cases h1
end
section
variable {P : Program} {W : World} {a0 : Act}
/-- The law of regions, in a round. -/
theorem region_round {id k m : Nat} {Q : Exit → Act → World → Prop} {l : List Oper} (n M : Nat) (al : Nat → Bool) (Ss : List (Value → World → Prop)) (ds : List Tmp) (hds : dstsOf l.toArray n = ds) (hm : P.follows .mixedOrders = true) (hB : specB .any l.toArray n M = true) (hM : M ≤ a0.tmps.size) (hnd : noDefer l = true) (hQ : ¬ LetsOut Q)
    (mono : ∀ S ∈ Ss, Grows S) (hst : Steps P l.toArray .any W a0 n al (sAt Ss) Q n 0 l)
    (hend : ∀ (val : Tmp → Value) w, Cl W w → (∀ i d, i < n → dstOf l.toArray i = some d → sAt Ss i (val d) w) →
      (∀ i j d d', i < n → j < n → al i = true → al j = true → i ≠ j → dstOf l.toArray i = some d → dstOf l.toArray j = some d' → home (val d) ≠ home (val d')) →
      (∀ i d, i < n → al i = true → dstOf l.toArray i = some d → ∃ b, home (val d) = some b ∧ W.heap.size ≤ b ∧ b < w.heap.size) → wpList P l.toArray Q (l.drop n) (putVals ds val a0) w) : (Code.region id l.toArray true).wpIn (Fence.wide.inRound k) m P Q a0 W := by
  have hB2 := hB
  simp only [specB, Bool.and_eq_true, decide_eq_true_eq] at hB2
  obtain ⟨⟨⟨⟨⟨hn, hs⟩, hc⟩, hback⟩, hdst⟩, hseq⟩ := hB2
  refine wpIn_region_any hm (anyIn_of_any (noDefer_spec hnd) hQ _ _ _ _ ?_)
  have hrep : ∀ i, (Array.replicate l.toArray.size false).getD i false = false := fun i => getD_replicate_false _ _
  refine spec_any (W := W) (a0 := a0) (al := al) (S := sAt Ss) (l := l) rfl hB hM (fun i v w w' h1 h2 => grows_at mono i v w w' h1 h2) (fun i o hi ho => ?_) (fun a w st => ?_) _ _ _ _ ?_ ?_ ?_
  · have := Steps.at_ n 0 l hst i o hi (by simpa using ho)
    rwa [Nat.zero_add] at this
  · rw [st.act, hds]
    have hl : ∀ i, i < n → (headArr n l.toArray.size).getD i false = true := fun i hi => head_true hi
    exact hend (fun d => a.eval (.tmp d)) w st.cl (fun i d hi hd => st.at_ i d hi hd) (fun i j d d' hi hj hai haj hij hd hd' => st.apart i j hi hj (hl i hi) (hl j hj) hai haj hij d d' hd hd') (fun i d hi hai hd => st.laid i hi (hl i hi) hai d hd)
  · have := lacking_new l.toArray.size
    simpa using this
  · refine ⟨⟨by simp, fun j oj _ hl _ _ _ => ?_, fun t _ hts => ?_⟩, fun i hi => by omega⟩
    · rw [hrep] at hl; cases hl
    · exact getD_in (by simpa using hts) (hrep t)
  · refine ⟨Cl.drew W, rfl, rfl, fun _ _ => rfl, fun i _ h => ?_, fun i _ h => ?_, fun i j _ _ h => ?_⟩ <;> (rw [hrep] at h; cases h)
end
end Go.Proofs.Ytboofkmbjmnpeaa

/- A list of operations in a round of a range over a function: as everywhere else. No program is named. -/
namespace Go.Proofs.Ytboofkmbjmnpeaa
open Go Go.RowKit
section
variable {P : Program} {Q : Exit → Act → World → Prop} {k n : Nat} {ops : Array Oper}
theorem listIn_of_list (hQ : ¬ LetsOut Q) : ∀ (l : List Oper), (∀ o ∈ l, ∀ c, o.op ≠ .defer c) → ∀ (a : Act) (w : World), wpList P ops Q l a w → wpListIn (Fence.wide.inRound k) n P ops Q l a w
  | [], _, _, _, h => h
  | o :: rest, hnd, a, w, h => by
    unfold wpList at h
    unfold wpListIn
    split
    · rename_i hw
      rw [if_pos hw] at h
      rcases h with h | h
      · exact Oper.wpIn_mono (fun a' w' h' => listIn_of_list hQ rest (fun o ho => hnd o (List.mem_cons_of_mem _ ho)) a' w' h') (opIn_of_op (hnd o (List.mem_cons_self ..)) h)
      · exact absurd h.2 hQ
    · rename_i hw
      rw [if_neg hw] at h
      exact ⟨fun _ _ => trivial, listIn_of_list hQ rest (fun o ho => hnd o (List.mem_cons_of_mem _ ho)) _ w h⟩
theorem region_roundL {id : Nat} {a : Act} {w : World} {l : List Oper} (hnd : noDefer l = true) (hQ : ¬ LetsOut Q) (h : wpList P l.toArray Q l a w) : (Code.region id l.toArray false).wpIn (Fence.wide.inRound k) n P Q a w :=
  wpIn_region_list (listIn_of_list hQ _ (fun o ho c e => by
    have h1 := List.all_eq_true.1 hnd o (by simpa using ho)
    rw [e] at h1
    cases h1) _ _ (by simpa using h))
end
end Go.Proofs.Ytboofkmbjmnpeaa

/- The law's example; what is done to a store, as the law is handed it; both stores together. -/
namespace Go.Proofs.Ytboofkmbjmnpeaa
open Go Go.RowKit Go.Maps

set_option maxRecDepth 50000 in
/-- A new store. -/
theorem new_cs (w : World) : Calls Try.prog 21 #[] w fun e w' => e = .returned (.pointer (some ⟨w.heap.size + 2, 0, none⟩)) ∧ Below w.heap.size w w' ∧ CS (fun b => w.heap.size ≤ b ∧ b < w'.heap.size) w' (w.heap.size + 2) [] [] :=
  (new_any w).mono fun e w' ⟨he, hb, hT⟩ => ⟨he, hb, _, _, _, hT, PF.zero, fun b hf => (And.intro (by
    rcases hf with h | h | h | h | h | h
    · omega
    · exact Nat.le_of_eq h.symm
    · rw [h]; exact Nat.le_succ _
    · cases h
    · cases h
    · cases h) (hT.lt b hf)), by show w.heap.size + 1 ≠ w.heap.size; omega⟩
set_option maxRecDepth 50000 in
theorem Chg.belowG {G : Nat → Prop} {w w' : World} {B : Nat} (h : Chg G w w') (hB : B ≤ w.heap.size) (hG : ∀ b, b < w.heap.size → G b → B ≤ b) : Below B w w' :=
  ⟨h.os, h.tape, h.output, h.size, fun k hk => h.block k (by omega) (fun e => by have := hG k (by omega) e; omega)⟩
set_option maxRecDepth 50000 in
theorem put_first {F : Nat → Prop} {p : Nat} {w : World} (h : CS F w p [] []) : Calls Try.prog 23 #[.pointer (some ⟨p, 0, none⟩), tv (1, 3, 0)] w fun e w' => e = .returned (.tuple #[.int .i64 0, .int .i64 0]) ∧ CS (Grw F w w') w' p [(1, 3, 0)] [] ∧ Chg F w w' :=
  (put_any F p [] [] (1, 3, 0) w h ⟨by decide, by decide, by decide⟩ (by decide)).mono fun e w' ⟨n, er, L', he, hR, hC, hG⟩ => by
    rcases hR with ⟨hm, _⟩ | ⟨_, i, hi, _⟩ | ⟨_, _, rfl, rfl, rfl⟩
    · exact absurd hm (by decide)
    · simp at hi
    · exact ⟨he, hC, hG⟩
set_option maxRecDepth 50000 in
theorem put_second {F : Nat → Prop} {p : Nat} {w : World} (h : CS F w p [(1, 3, 0)] []) : Calls Try.prog 23 #[.pointer (some ⟨p, 0, none⟩), tv (1, 3, 0)] w fun e w' => e = .returned (.tuple #[.int .i64 0, .int .i64 0]) ∧ CS (Grw F w w') w' p [(1, 3, 0)] [] ∧ Chg F w w' :=
  (put_any F p [(1, 3, 0)] [] (1, 3, 0) w h ⟨by decide, by decide, by decide⟩ (by decide)).mono fun e w' ⟨n, er, L', he, hR, hC, hG⟩ => by
    rcases hR with ⟨hm, _⟩ | ⟨_, i, hi, rfl, rfl, rfl⟩ | ⟨_, hn, _⟩
    · exact absurd hm (by decide)
    · have : i = 0 := by have := get_lt hi; simpa using this
      subst this
      exact ⟨he, hC, hG⟩
    · exact absurd rfl (hn 0)
/-- What is done, as it lies in memory: kind, N, the term, a slice of bytes. -/
structure DoV where
  kind : Int
  num : Int
  t : T3
  A : Option Addr
  c : Nat
  x : List Int
def DoV.cells (d : DoV) : List Value := [.int .i64 d.kind, .int .i64 d.num, .int .i64 d.t.1, .int .i64 d.t.2.1, .int .i64 d.t.2.2, .slice d.A d.x.length d.c]
/-- The row of what is done; its bytes lie below block B. -/
def DoRow (B : Nat) (w : World) (A : Option Addr) (ds : List DoV) : Prop := ∀ (i : Nat) d, ds[i]? = some d → (∃ g o, A = some ⟨g, o, none⟩ ∧ g < B ∧ w.rangeAt g (o + i * 6) d.cells) ∧ Twf d.t ∧ (Lit.int .i64 d.num).wf = true ∧ TByt d.x ∧ NumsD B w .u8 d.A d.x
set_option maxRecDepth 50000 in
theorem DoRow.next {B : Nat} {w w' : World} {A : Option Addr} {ds : List DoV} (h : DoRow B w A ds) (hb : Below B w w') : DoRow B w' A ds := fun i d hi => by
  obtain ⟨⟨g, o, e, hg, hr⟩, h1, h2, h3, h4⟩ := h i d hi
  exact ⟨⟨g, o, e, hg, fun j v hj => (hb.cell (p := ⟨g, o + i * 6 + j, none⟩) hg).trans (hr j v hj)⟩, h1, h2, h3, h4.stay hb⟩
set_option maxRecDepth 50000 in
theorem do_world (d : DoV) (w : World) : ∃ W, w.alloc (.cells #[.int .i64 d.kind, .int .i64 d.num, .int .i64 d.t.1, .int .i64 d.t.2.1, .int .i64 d.t.2.2, .slice d.A d.x.length d.c] 66) = W ∧ Blk W w.heap.size 66 d.cells ∧ Below w.heap.size w W :=
  ⟨_, rfl, Blk.new w 66 d.cells, below_new w _⟩
set_option maxRecDepth 50000 in
set_option maxHeartbeats 2000000 in
theorem few_any (B n c : Nat) (A : Option Addr) (ds : List DoV) (b : Bool) (w : World) (hn : ds.length = n) (hn47 : n ≤ 9223372036854775807) (hA : DoRow B w A ds) (hB : B ≤ w.heap.size) (hb : Hid (b = decide ((∀ d ∈ ds, d.x.length ≤ 100) ∧ n ≤ 30))) :
    Calls Try.prog 8 #[.slice A n c] w fun e w' => e = .returned (.bool b) ∧ Below w.heap.size w w' := by
  have hn2 : (n : Int) ≤ 9223372036854775807 := by omega
  have HN := hid hn
  clear hn
  go_enter Try.func8, Try.ntmps8
  go_wp2
  go_loopw [7] (fun v wr => ∃ k : Nat, k ≤ n ∧ v = .int .i64 k ∧ Hid (∀ (i : Nat) d, i < k → ds[i]? = some d → d.x.length ≤ 100) ∧ Below w.heap.size w wr) (fun v _ => n - (intOf v).toNat)
  case atStart => exact ⟨0, Nat.zero_le _, rfl, hid (fun i d hi => absurd hi (Nat.not_lt_zero _)), Below.refl _ _⟩
  case round =>
    obtain ⟨k, hk, rfl, HI, hcl⟩ := hrel
    by_cases hlt : k < n
    · obtain ⟨d, hd⟩ : ∃ d, ds[k]? = some d := ⟨ds[k]'(by rw [HN.out]; exact hlt), by simp [HN.out, hlt]⟩
      obtain ⟨⟨g, o, rfl, hg, hr⟩, _, _, _, _⟩ := (hA.next (hcl.mono hB)) k d hd
      have r0 := hr 0 _ rfl
      have r1 := hr 1 _ rfl
      have r2 := hr 2 _ rfl
      have r3 := hr 3 _ rfl
      have r4 := hr 4 _ rfl
      have r5 := hr 5 _ rfl
      simp only [Nat.add_zero] at r0
      obtain ⟨W, hW, hBk, hbW⟩ := do_world d wr
      have y5 := hBk.cell (i := 5) rfl
      have HW := hid hW
      have HD := hid hd
      have hkn : (k : Int) < n := by omega
      have hk0 : (0 : Int) ≤ k := by omega
      have hk1 : k + 1 ≤ n := by omega
      clear hr hW hBk hd hlt hk
      by_cases hgt : (100 : Int) < d.x.length
      · have e1 : decide ((100 : Int) < d.x.length) = true := decide_eq_true hgt
        obtain rfl : b = false := by
          rw [hb.out]
          refine decide_eq_false fun h => ?_
          have := h.1 d (List.mem_of_getElem? HD.out)
          omega
        clear hgt
        go_upto_region 4 with (fail)
        rw [HW.out]
        go_wp2
        go_ret
        exact ⟨rfl, hcl.trans (Below.mono hbW hcl.size)⟩
      · have e1 : decide ((100 : Int) < d.x.length) = false := decide_eq_false hgt
        have HL := hid (show d.x.length ≤ 100 by omega)
        clear hgt
        go_upto_region 4 with (fail)
        rw [HW.out]
        go_wp2
        go_roundw
        case rel => exact ⟨k + 1, hk1, by go_num, hid (fun i d' hi hd' => by
          by_cases e : i = k
          · subst e; rw [HD.out] at hd'; injection hd' with hd'; rw [← hd']; exact HL.out
          · exact HI.out i d' (by omega) hd'), hcl.trans (Below.mono hbW hcl.size)⟩
        case measure => simp [intOf]; omega
    · have hge : ¬ (k : Int) < n := by omega
      have e : k = n := by omega
      subst e
      obtain ⟨q, hq⟩ : ∃ q, decide ((k : Int) ≤ 30) = q := ⟨_, rfl⟩
      obtain rfl : b = q := by
        rw [hb.out, ← hq, Bool.eq_iff_iff, decide_eq_true_iff, decide_eq_true_iff]
        refine ⟨fun h => by omega, fun h => ⟨fun d hd => ?_, by omega⟩⟩
        obtain ⟨i, hi⟩ := List.mem_iff_getElem?.1 hd
        exact HI.out i d (by rw [← HN.out]; exact get_lt hi) hi
      clear hb hk hlt
      go_wp2
      go_ret
      exact ⟨rfl, hcl⟩

/-- Both stores, of the same terms and texts; apart; their blocks are allowed ones. -/
def Both (B : Nat) (okb : Nat → Prop) (w : World) (p q : Nat) (L : List T3) (X : List (List Int)) : Prop :=
  ∃ Fc Fr, CS Fc w p L X ∧ RS B Fr w q L X ∧ (∀ b, Fc b → Fr b → False) ∧ (∀ b, Fc b → b < w.heap.size ∧ okb b) ∧ (∀ b, Fr b → b < w.heap.size ∧ okb b)
section
variable {B : Nat} {okb : Nat → Prop} {w w' : World} {p q : Nat} {L : List T3} {X : List (List Int)}
set_option maxRecDepth 50000 in
theorem Both.next (h : Both B okb w p q L X) (hb : Below w.heap.size w w') : Both B okb w' p q L X := by
  obtain ⟨Fc, Fr, h1, h2, h3, h4, h5⟩ := h
  exact ⟨Fc, Fr, h1.next hb, h2.next hb, h3, fun b hb' => ⟨Nat.lt_of_lt_of_le (h4 b hb').1 hb.size, (h4 b hb').2⟩, fun b hb' => ⟨Nat.lt_of_lt_of_le (h5 b hb').1 hb.size, (h5 b hb').2⟩⟩
set_option maxRecDepth 50000 in
theorem Both.chg {G : Nat → Prop} (h : Both B okb w p q L X) (hc : Chg G w w') (hG : ∀ b, okb b → ¬ G b) (hGB : ∀ b, G b → B ≤ b) : Both B okb w' p q L X := by
  obtain ⟨Fc, Fr, h1, h2, h3, h4, h5⟩ := h
  exact ⟨Fc, Fr, h1.chg hc (fun b hb => hG b (h4 b hb).2), h2.chg hc (fun b hb => hG b (h5 b hb).2) hGB, h3, fun b hb' => ⟨Nat.lt_of_lt_of_le (h4 b hb').1 hc.size, (h4 b hb').2⟩, fun b hb' => ⟨Nat.lt_of_lt_of_le (h5 b hb').1 hc.size, (h5 b hb').2⟩⟩
set_option maxRecDepth 50000 in
/-- The code's store is done to, then the reference's. -/
theorem Both.step {w1 w2 : World} {Fc Fr : Nat → Prop} {L1 : List T3} {X1 : List (List Int)} (h3 : ∀ b, Fc b → Fr b → False) (h4 : ∀ b, Fc b → b < w.heap.size ∧ okb b) (h5 : ∀ b, Fr b → b < w.heap.size ∧ okb b) (hok : ∀ b, w.heap.size ≤ b → okb b) (hokB : ∀ b, okb b → B ≤ b)
    (hc : CS (Grw Fc w w1) w1 p L1 X1) (hC1 : Chg Fc w w1) (hr : RS B (Grw Fr w1 w2) w2 q L1 X1) (hC2 : Chg Fr w1 w2) : Both B okb w2 p q L1 X1 ∧ Chg okb w w2 := by
  refine ⟨⟨Grw Fc w w1, Grw Fr w1 w2, hc.chg hC2 (fun b hb hf => ?_), hr, fun b hb hf => ?_, fun b hb => ?_, fun b hb => ?_⟩, (hC1.sub (fun b _ hb => (h4 b hb).2)).trans (hC2.sub (fun b _ hb => (h5 b hb).2)) (fun b _ hb => hb)⟩
  · rcases hb with h | h
    · exact h3 b h hf
    · have := (h5 b hf).1; omega
  · rcases hb with h | h
    · rcases hf with h' | h'
      · exact h3 b h h'
      · have := (h4 b h).1; have := hC1.size; omega
    · rcases hf with h' | h'
      · have := (h5 b h').1; omega
      · omega
  · have := hC1.size
    have := hC2.size
    rcases hb with h | h
    · exact ⟨by have := (h4 b h).1; omega, (h4 b h).2⟩
    · exact ⟨by omega, hok b h.1⟩
  · have := hC1.size
    have := hC2.size
    rcases hb with h | h
    · exact ⟨by have := (h5 b h).1; omega, (h5 b h).2⟩
    · exact ⟨by omega, hok b (by omega)⟩
end
set_option maxRecDepth 50000 in
theorem putR_eq {L L1 L2 : List T3} {x : Nat} {t : T3} {n1 e1 n2 e2 : Int} (hnd : ∀ (i j : Nat) t, L[i]? = some t → L[j]? = some t → i = j) (h1 : PutR L x t n1 e1 L1) (h2 : PutR L x t n2 e2 L2) : n1 = n2 ∧ e1 = e2 ∧ L1 = L2 := by
  rcases h1 with ⟨a1, a2, a3, a4⟩ | ⟨a1, i, a2, a3, a4, a5⟩ | ⟨a1, a2, a3, a4, a5⟩
  · rcases h2 with ⟨b1, b2, b3, b4⟩ | ⟨b1, _⟩ | ⟨b1, _⟩
    · exact ⟨by rw [a2, b2], by rw [a3, b3], by rw [a4, b4]⟩
    · rw [a1] at b1; cases b1
    · rw [a1] at b1; cases b1
  · rcases h2 with ⟨b1, _⟩ | ⟨b1, j, b2, b3, b4, b5⟩ | ⟨b1, b2, _⟩
    · rw [a1] at b1; cases b1
    · have := hnd i j t a2 b2
      exact ⟨by rw [a3, b3, this], by rw [a4, b4], by rw [a5, b5]⟩
    · exact absurd a2 (b2 i)
  · rcases h2 with ⟨b1, _⟩ | ⟨b1, j, b2, b3, b4, b5⟩ | ⟨b1, b2, b3, b4, b5⟩
    · rw [a1] at b1; cases b1
    · exact absurd b2 (a2 j)
    · exact ⟨by rw [a3, b3], by rw [a4, b4], by rw [a5, b5]⟩
set_option maxRecDepth 50000 in
theorem drawR_eq {L L1 L2 : List T3} {s n1 e1 n2 e2 : Int} (h1 : DrawR L s n1 e1 L1) (h2 : DrawR L s n2 e2 L2) : n1 = n2 ∧ e1 = e2 ∧ L1 = L2 := by
  rcases h1 with ⟨a1, a2, a3, a4⟩ | ⟨a1, ⟨i, b, a2, a2'⟩, a3, a4, a5⟩ | ⟨a1, v, a2, a3, a4, a5, a6, a7, a8⟩
  · rcases h2 with ⟨b1, b2, b3, b4⟩ | ⟨b1, _⟩ | ⟨b1, _⟩
    · exact ⟨by rw [a2, b2], by rw [a3, b3], by rw [a4, b4]⟩
    · exact absurd b1 a1
    · exact absurd b1 a1
  · rcases h2 with ⟨b1, _⟩ | ⟨_, _, b3, b4, b5⟩ | ⟨_, v, b2, _, _, b5, _⟩
    · exact absurd a1 b1
    · exact ⟨by rw [a3, b3], by rw [a4, b4], by rw [a5, b5]⟩
    · have := b2 i b a2; omega
  · rcases h2 with ⟨b1, _⟩ | ⟨_, ⟨i, b, b2, b2'⟩, _⟩ | ⟨_, u, b2, b3, b4, b5, b6, b7, b8⟩
    · exact absurd a1 b1
    · have := a2 i b b2; omega
    · have e : v = u := by
        rcases a3 with a3 | ⟨i, a3⟩
        · rcases b3 with b3 | ⟨j, b3⟩
          · omega
          · have := a2 j _ b3; omega
        · have h3 := b2 i _ a3
          rcases b3 with b3 | ⟨j, b3⟩
          · omega
          · have := a2 j _ b3; omega
      exact ⟨by rw [a6, b6], by rw [a7, b7], by rw [a8, b8, e]⟩
set_option maxRecDepth 50000 in
theorem textR_eq {L L1 L2 : List T3} {X X1 X2 : List (List Int)} {x : List Int} {n1 n2 : Int} (hnd : ∀ (i j : Nat) t, L[i]? = some t → L[j]? = some t → i = j) (hxn : ∀ (i j : Nat) x, X[i]? = some x → X[j]? = some x → i = j) (h1 : TextR L X x n1 L1 X1) (h2 : TextR L X x n2 L2 X2) : n1 = n2 ∧ L1 = L2 ∧ X1 = X2 := by
  rcases h1 with ⟨j, i, a1, a2, a3, a4, a5⟩ | ⟨a1, a2, a3, a4⟩
  · rcases h2 with ⟨j', i', b1, b2, b3, b4, b5⟩ | ⟨b1, _⟩
    · have e1 := hxn j j' x a1 b1
      subst e1
      have e2 := hnd i i' _ a2 b2
      exact ⟨by rw [a3, b3, e2], by rw [a4, b4], by rw [a5, b5]⟩
    · exact absurd a1 (b1 j)
  · rcases h2 with ⟨j', i', b1, _⟩ | ⟨b1, b2, b3, b4⟩
    · exact absurd b1 (a1 j')
    · exact ⟨by rw [a2, b2], by rw [a3, b3], by rw [a4, b4]⟩
end Go.Proofs.Ytboofkmbjmnpeaa
