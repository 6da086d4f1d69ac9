/- Texts of this proof, laid together: TR, TMay, AAny, TState, TSmall. -/
import Derived.Test.YtpncohoonfahpaaGreatDoorTTakesM
import Derived.Deep.Cut
import Derived.Test.YtpncohoonfahpaaGreatDoorStoresM
import Derived.Test.YtpncohoonfahpaaGreatDoorG5
import Derived.Test.YtpncohoonfahpaaGreatDoorTEvtM
import Derived.Shelf.Abstract
/- What the reference's store is asked: is there a term of a number, of a kind. -/
namespace Go.Proofs.YtpncohoonfahpaaGreatDoor
open Go Go.RowKit

end Go.Proofs.YtpncohoonfahpaaGreatDoor

/- Which terms the reference's store takes. -/
namespace Go.Proofs.YtpncohoonfahpaaGreatDoor
open Go Go.RowKit

end Go.Proofs.YtpncohoonfahpaaGreatDoor

/- Regions that draw their order, operation by operation, by hand. No program is named. -/
namespace Go.Proofs.YtpncohoonfahpaaGreatDoor
open Go Go.RowKit

section
variable {P : Program} {ops : Array Oper} {md : Region.Mode} {Q : Exit → Act → World → Prop}
set_option maxRecDepth 50000 in
theorem any_one {f i : Nat} {listed : Array Bool} {a : Act} {w : World} (hr : Region.ready md ops listed = [i]) (h : wpOp P ops Q i (wpAny P md ops Q f (listed.setIfInBounds i true)) a w) : wpAny P md ops Q (f + 1) listed a w :=
  ⟨fun h0 => (by rw [hr] at h0; cases h0), fun j hj => by
    rw [hr] at hj
    have : j = i := by simpa using hj
    subst this; exact h⟩
set_option maxRecDepth 50000 in
theorem any_two {f i k : Nat} {listed : Array Bool} {a : Act} {w : World} (hr : Region.ready md ops listed = [i, k]) (h : wpOp P ops Q i (wpAny P md ops Q f (listed.setIfInBounds i true)) a w) (h2 : wpOp P ops Q k (wpAny P md ops Q f (listed.setIfInBounds k true)) a w) : wpAny P md ops Q (f + 1) listed a w :=
  ⟨fun h0 => (by rw [hr] at h0; cases h0), fun j hj => by
    rw [hr] at hj
    have : j = i ∨ j = k := by simpa using hj
    rcases this with e | e
    · subst e; exact h
    · subst e; exact h2⟩
set_option maxRecDepth 50000 in
theorem any_done {listed : Array Bool} {a : Act} {w : World} (hr : Region.ready md ops listed = []) (h : Q .normal a w) : wpAny P md ops Q 0 listed a w := ⟨hr, h⟩
set_option maxRecDepth 50000 in
theorem op_wp {i : Nat} {o : Oper} {K : Act → World → Prop} {a : Act} {w : World} (ho : ops[i]? = some o) (hg : o.guard = none) (h : o.wp P a w K Q) : wpOp P ops Q i K a w := by
  unfold wpOp
  simp only [ho]
  rw [if_pos (by simp [Region.wanted, hg])]
  exact .inl h
set_option maxRecDepth 50000 in
theorem op_call {i : Nat} {o : Oper} {K : Act → World → Prop} {a : Act} {w : World} (ho : ops[i]? = some o) (hg : o.guard = none) (f : FuncId) (vs : Array Value) (hr : (execOp a.eval o).run P w = .ok (.enter f vs) w) (h : Calls P f vs w fun e w' => ∃ v, e = .returned v ∧ K (a.put o.dst v) w') : wpOp P ops Q i K a w := by
  refine op_wp ho hg ?_
  unfold Oper.wp
  rw [hr, Oper.upon_enter]
  refine h.mono fun e w' ⟨v, he, hk⟩ => ?_
  subst he
  exact hk
set_option maxRecDepth 50000 in
theorem op_call2 {i : Nat} {o : Oper} {K : Act → World → Prop} {a : Act} {w : World} (ho : ops[i]? = some o) (hg : o.guard = none) (f : FuncId) {x y : Operand} {u v : Value} {ts : Array TypeId} (hop : o.op = .call { callee := .value (.func f), args := #[x, y], argTypes := ts }) (hcf : ∀ vs w, (callFunc f vs).run P w = .ok (.enter f vs) w)
    (hx : a.eval x = u) (hy : a.eval y = v) (h : Calls P f #[u, v] w fun e w' => ∃ v, e = .returned v ∧ K (a.put o.dst v) w') : wpOp P ops Q i K a w :=
  op_call ho hg f #[u, v] (ex_fnP rfl hcf hop _ (by rw [map2, hx, hy]) w) h
end
end Go.Proofs.YtpncohoonfahpaaGreatDoor

/- The two stores of terms in memory, and what they hold; an append of one element. -/
namespace Go.Proofs.YtpncohoonfahpaaGreatDoor
open Go Go.RowKit Go.Maps

/-! ### steps -/
section
variable {P : Program} {ops : Array Oper} {md : Region.Mode} {W : World} {a0 : Act} {n : Nat} {al : Nat → Bool} {S : Nat → Value → World → Prop} {Q : Exit → Act → World → Prop} {i : Nat} {o : Oper}
set_option maxRecDepth 50000 in
theorem step_ex (v : Value) (hal : al i = false) (hg : GuardOn ops md n S i o) (hS : S i = Is v) (h : ∀ (a : Act) (w : World), Cl W w → Fr ops n a0 a → Dp ops md n S i a w → (execOp a.eval o).run P w = .ok (.value v) w) : StepOk P ops md W a0 n al S Q i o :=
  step_run hal hg fun a w hw hf hd => ⟨v, h a w hw hf hd, by rw [hS]; exact rfl⟩
set_option maxRecDepth 50000 in
theorem pure_ex (v : Value) (hg : o.guard = none) (hS : S i = Is v) (h : ∀ (a : Act) (w0 w : World), Cl W w0 → Fr ops n a0 a → Dp ops md n S i a w0 → (execOp a.eval o).run P w = .ok (.value v) w) : PureE P ops md W a0 n S i o :=
  ⟨hg, fun a w0 w hw hf hd => ⟨v, h a w0 w hw hf hd, by rw [hS]; exact rfl⟩⟩
set_option maxRecDepth 50000 in
theorem three_args {x y z : Operand} {u v t : Value} (hx : Knows ops md W a0 n S i x u) (hy : Knows ops md W a0 n S i y v) (hz : Knows ops md W a0 n S i z t) : ∀ (a : Act) (w : World), Cl W w → Fr ops n a0 a → Dp ops md n S i a w → #[x, y, z].map a.eval = #[u, v, t] := fun a w hw hf hd => by
  simp [hx a w hw hf hd, hy a w hw hf hd, hz a w hw hf hd]
set_option maxRecDepth 50000 in
theorem calls_q {f : FuncId} {vs : Array Value} {v : Value} {w : World} (h : Calls P f vs w fun e w' => e = .returned v ∧ w = w') : Calls P f vs w fun e w' => e = .returned v ∧ Below w.heap.size w w' :=
  h.mono fun _ _ ⟨he, hw⟩ => ⟨he, by subst hw; exact Below.refl _ _⟩
/-- What an append of one element leaves. -/
def AppR (e : TypeId) (size : Nat) (v : Value) (n : Nat) (xs news : List Value) (w : World) (u : Value) (w' : World) : Prop :=
  ∃ A' c', u = .slice A' (n + 1) c' ∧ n + 1 ≤ c' ∧ c' ≤ maxLen ∧ w'.ownsRow 0 e size u (n + 1) (xs ++ news) ∧ w.grownBy w' v.ownBlock ∧ (u.ownBlock = v.ownBlock ∨ u.ownBlock = some w.heap.size)
set_option maxRecDepth 50000 in
theorem info_partsT {P : Program} {e size bytes : Nat} {z : Value} (h : (P.info? e).map (fun i => (i.zero, i.size, i.bytes)) = some (some z, size, bytes)) : ∃ i, P.info? e = some i ∧ i.zero = some z ∧ i.size = size ∧ i.bytes = bytes := by
  cases hq : P.info? e with
  | none => rw [hq] at h; simp at h
  | some i =>
    rw [hq] at h
    simp only [Option.map_some, Option.some.injEq, Prod.mk.injEq] at h
    exact ⟨i, rfl, h.1, h.2.1, h.2.2⟩
set_option maxRecDepth 50000 in
theorem run_app1 {w : World} (t ty e : TypeId) {z : Value} {size bytes : Nat} (ht : P.underlying t = some (.slice e)) (hI : (P.info? e).map (fun i => (i.zero, i.size, i.bytes)) = some (some z, size, bytes)) (hzs : z.cells.size = size) (hsz : 0 < size) (hb0 : bytes ≤ 1000)
    {v : Value} {n : Nat} {xs news : List Value} (hown : w.ownsRow 0 e size v n xs) {b : Nat} (hx : Rw w b 0 news) (hl : news.length = size) (h1 : ∀ u ∈ news, u.oneCell' = true) (hn : n ≤ 1000) :
    ∃ u w', (Builtin.append_ #[t, t] ty #[v, .slice (some ⟨b, 0, none⟩) 1 1]).run P w = .ok u w' ∧ AppR e size v n xs news w u w' := by
  obtain ⟨i, hi, hz, hsize, hby⟩ := info_partsT hI
  obtain ⟨u, w', hrun, h2, h3, h4, h5⟩ := run_append_own_at (P := P) w 0 t ty e i z size bytes ht hi hz hsize hby hzs hsz v n xs hown ⟨b, 0, none⟩ 1 1 news (by omega)
    (fun j x hj => by
      have := (hx j x hj).1
      rw [Addr.add_mid]; exact this) h1 (by unfold maxLen; omega) (Nat.le_trans (Nat.mul_le_mul (show n + 1 ≤ 1001 by omega) hb0) (by decide)) (Nat.zero_le _)
  refine ⟨u, w', hrun, ?_⟩
  rcases h2.2 with ⟨hv, h0⟩ | ⟨g, cap, cur, hv, hb, hg, hc, hm, hs, htk⟩
  · omega
  · exact ⟨_, _, hv, hc, hm, h2, h3, h5⟩
set_option maxRecDepth 50000 in
theorem evt_app {a : Act} {w : World} (hg : o.guard = none) {s x : Operand} {t e : TypeId} {z : Value} {size bytes : Nat} (ho : o.op = .call { callee := .builtin .append, args := #[s, x], argTypes := #[t, t] }) (ht : P.underlying t = some (.slice e)) (hI : (P.info? e).map (fun i => (i.zero, i.size, i.bytes)) = some (some z, size, bytes)) (hzs : z.cells.size = size) (hsz : 0 < size) (hb0 : bytes ≤ 1000)
    {v : Value} {n : Nat} {xs news : List Value} (hown : w.ownsRow 0 e size v n xs) (hs : a.eval s = v) (hx : ∃ b, a.eval x = .slice (some ⟨b, 0, none⟩) 1 1 ∧ Rw w b 0 news) (hl : news.length = size) (h1 : ∀ u ∈ news, u.oneCell' = true) (hn : n ≤ 1000) :
    o.wp P a w (fun a' w' => ∃ u, a' = a.put o.dst u ∧ AppR e size v n xs news w u w') Q := by
  obtain ⟨b, hx1, hx2⟩ := hx
  obtain ⟨u, w', hrun, hR⟩ := run_app1 t o.type e ht hI hzs hsz hb0 hown hx2 hl h1 hn
  unfold Oper.wp execOp
  simp only [ho, resolve, invoke, builtin, Sem.run_bind, Sem.run_pure, Result.andThen_ok, List.map_toArray, List.map_cons, List.map_nil, hs, hx1, hrun]
  exact ⟨u, rfl, hR⟩
end
set_option maxRecDepth 50000 in
theorem cxT155 : ∀ vs w, (callFunc 155 vs).run Tryz.prog w = .ok (.enter 155 vs) w := enters_of Tryz.func155 (by kernel_rfl) rfl
set_option maxRecDepth 50000 in
theorem infT : (Tryz.prog.info? 65).map (fun i => (i.zero, i.size)) = some (some (.agg [.int .i64 0, .int .i64 0, .int .i64 0].toArray), 3) := by kernel_rfl
set_option maxRecDepth 50000 in
theorem infTb : (Tryz.prog.info? 65).map (fun i => (i.zero, i.size, i.bytes)) = some (some (.agg [.int .i64 0, .int .i64 0, .int .i64 0].toArray), 3, 24) := by kernel_rfl
set_option maxRecDepth 50000 in
theorem infI : (Tryz.prog.info? 3).map (fun i => (i.zero, i.size)) = some (some (.int .i64 0), 1) := by kernel_rfl
set_option maxRecDepth 50000 in
theorem infIb : (Tryz.prog.info? 3).map (fun i => (i.zero, i.size, i.bytes)) = some (some (.int .i64 0), 1, 8) := by kernel_rfl
set_option maxRecDepth 50000 in
theorem infSb : (Tryz.prog.info? 9).map (fun i => (i.zero, i.size, i.bytes)) = some (some (.string ByteArray.empty), 1, 16) := by kernel_rfl
set_option maxRecDepth 50000 in
theorem infBb : (Tryz.prog.info? 23).map (fun i => (i.zero, i.size, i.bytes)) = some (some (.slice none 0 0), 1, 24) := by kernel_rfl
set_option maxRecDepth 50000 in
theorem tc_len (t : T3) : (tc t).length = 3 := rfl
set_option maxRecDepth 50000 in
theorem tc_one (t : T3) : ∀ u ∈ tc t, u.oneCell' = true := by simp [tc, Value.oneCell']

/-! ### what lies apart -/
section
variable {w : World} {e e' b1 b2 s1 s2 n1 n2 : Nat} {v v' : Value} {xs xs' : List Value}
set_option maxRecDepth 50000 in
theorem row_ne (h : w.ownsRow b1 e s1 v n1 xs) (h' : w.ownsRow b2 e' s2 v' n2 xs') (hne : e ≠ e') : v.ownBlock = none ∨ v.ownBlock ≠ v'.ownBlock := by
  rcases h.2 with ⟨rfl, _⟩ | ⟨g, cap, cur, rfl, _, hg, _⟩
  · exact .inl rfl
  · rcases h'.2 with ⟨rfl, _⟩ | ⟨g', cap', cur', rfl, _, hg', _⟩
    · exact .inr (by simp [Value.ownBlock])
    · refine .inr fun e2 => ?_
      obtain rfl : g = g' := by simpa [Value.ownBlock] using e2
      rw [hg] at hg'; cases hg'; exact hne rfl
set_option maxRecDepth 50000 in
theorem blk_ne {b t : Nat} {cs : List Value} (h : Blk w b t cs) (h' : w.ownsRow b2 e' s2 v' n2 xs') (hne : t ≠ e') : some b ≠ v'.ownBlock := by
  rcases h'.2 with ⟨rfl, _⟩ | ⟨g', cap', cur', rfl, _, hg', _⟩
  · simp [Value.ownBlock]
  · intro e2
    obtain rfl : b = g' := by simpa [Value.ownBlock] using e2
    rw [show w.heap[b]? = _ from h] at hg'; cases hg'; exact hne rfl
set_option maxRecDepth 50000 in
theorem map_ne {H : Type} {P : Program} {k b n : Nat} {R : Value → Option (DataW H × List MemPlace)} {D : DataW H} (h : w.ownsMap P k R b n D) (h' : w.ownsRow b2 e' s2 v' n2 xs') : some b ≠ v'.ownBlock := by
  obtain ⟨es, clock, hb, _⟩ := h
  rcases h'.2 with ⟨rfl, _⟩ | ⟨g', cap', cur', rfl, _, hg', _⟩
  · simp [Value.ownBlock]
  · intro e2
    obtain rfl : b = g' := by simpa [Value.ownBlock] using e2
    rw [hb] at hg'; cases hg'
set_option maxRecDepth 50000 in
theorem blk_map {H : Type} {P : Program} {k b n p t : Nat} {cs : List Value} {R : Value → Option (DataW H × List MemPlace)} {D : DataW H} (h : w.ownsMap P k R b n D) (h' : Blk w p t cs) : b ≠ p := by
  obtain ⟨es, clock, hb, _⟩ := h
  rintro rfl
  rw [show w.heap[b]? = _ from h'] at hb; cases hb
set_option maxRecDepth 50000 in
theorem Blk.grown {w' : World} {b t : Nat} {cs : List Value} {row : Option Nat} (h : Blk w b t cs) (hg : w.grownBy w' row) (hne : some b ≠ row) : Blk w' b t cs := h.same (hg.block b h.lt hne)
set_option maxRecDepth 50000 in
theorem row_setC {b : Nat} {t : TypeId} {cs : List Value} (h : w.ownsRow b1 e s1 v n1 xs) (hp : Blk w b t cs) (hne : t ≠ e) (i : Nat) (u : Value) : (w.setCell ⟨b, i, none⟩ u).ownsRow b1 e s1 v n1 xs := by
  have h1 := blk_ne hp h hne
  refine ⟨h.1, ?_⟩
  rcases h.2 with h2 | ⟨g, cap, cur, rfl, hb, hg, r⟩
  · exact .inl h2
  · exact .inr ⟨g, cap, cur, rfl, hb, (Below.heap_setCell _ _ _ _ (by rintro rfl; exact h1 rfl)).trans hg, r⟩
set_option maxRecDepth 50000 in
theorem row_next {w' : World} (h : w.ownsRow b1 e s1 v n1 xs) (hb : Below w.heap.size w w') : w'.ownsRow b1 e s1 v n1 xs := row_chg h (Chg.of hb (fun _ => False)) (fun _ _ h => h)
end
set_option maxRecDepth 50000 in
theorem map_next {H : Type} {P : Program} {k b n : Nat} {R : Value → Option (DataW H × List MemPlace)} {D : DataW H} {w w' : World} (h : w.ownsMap P k R b n D) (hb : Below w.heap.size w w') : w'.ownsMap P k R b n D := map_chg h (Chg.of hb (fun _ => False)) (fun h => h)

/-! ### the code's store -/
structure Lay where
  AT : Option Addr
  cT : Nat
  AS : Option Addr
  cS : Nat
  mN : Nat
  AX : Option Addr
  cX : Nat
  mI : Nat
  nx : List Int
def Lay.vT (s : Lay) (n : Nat) : Value := .slice s.AT n s.cT
def Lay.vS (s : Lay) (n : Nat) : Value := .slice s.AS n s.cS
def Lay.vX (s : Lay) (n : Nat) : Value := .slice s.AX n s.cX
def Lay.cells (s : Lay) (nL nX : Nat) : List Value := [.bool true, s.vT nL, s.vS nL, .map (some s.mN), s.vX nX, .map (some s.mI)] ++ ints .i64 s.nx
/-- A text as a string. -/
def bstr (x : List Int) : ByteArray := ⟨(x.map fun n => UInt8.ofNat n.toNat).toArray⟩
abbrev D0 := DataW Unit
abbrev i64 (n : Int) : D0 := .lit (.int .i64 n)
structure TS (w : World) (p : Nat) (s : Lay) (zs : List Int) (DN DI : D0) (L : List T3) (X : List (List Int)) : Prop where
  blk : Blk w p 126 (s.cells L.length X.length)
  rT : w.ownsRow 0 65 3 (s.vT L.length) L.length (flatZ L)
  rS : w.ownsRow 0 3 1 (s.vS L.length) L.length (ints .i64 zs)
  rX : w.ownsRow 0 9 1 (s.vX X.length) X.length (X.map fun x => .string (bstr x))
  mN : w.ownsMap Tryz.prog 65 (plainElem Tryz.prog 3) s.mN L.length DN
  mI : w.ownsMap Tryz.prog 9 (plainElem Tryz.prog 3) s.mI X.length DI
def foot (p : Nat) (s : Lay) (b : Nat) : Prop := b = p ∨ b = s.mN ∨ b = s.mI ∨ (s.vT 0).ownBlock = some b ∨ (s.vS 0).ownBlock = some b ∨ (s.vX 0).ownBlock = some b
set_option maxRecDepth 50000 in
theorem own0 (A : Option Addr) (n c : Nat) : (Value.slice A n c).ownBlock = (Value.slice A 0 c).ownBlock := by cases A <;> rfl
section
variable {w w' : World} {p : Nat} {s : Lay} {zs : List Int} {DN DI : D0} {L : List T3} {X : List (List Int)}
set_option maxRecDepth 50000 in
theorem TS.chg {G : Nat → Prop} (h : TS w p s zs DN DI L X) (hc : Chg G w w') (hG : ∀ b, foot p s b → ¬ G b) : TS w' p s zs DN DI L X :=
  ⟨h.blk.chg hc (hG _ (.inl rfl)), row_chg h.rT hc fun g hg => hG g (.inr (.inr (.inr (.inl (by rw [← hg]; exact (own0 _ _ _).symm))))), row_chg h.rS hc fun g hg => hG g (.inr (.inr (.inr (.inr (.inl (by rw [← hg]; exact (own0 _ _ _).symm)))))),
   row_chg h.rX hc fun g hg => hG g (.inr (.inr (.inr (.inr (.inr (by rw [← hg]; exact (own0 _ _ _).symm)))))), map_chg h.mN hc (hG _ (.inr (.inl rfl))), map_chg h.mI hc (hG _ (.inr (.inr (.inl rfl))))⟩
set_option maxRecDepth 50000 in
theorem TS.next (h : TS w p s zs DN DI L X) (hb : Below w.heap.size w w') : TS w' p s zs DN DI L X := h.chg (Chg.of hb (fun _ => False)) (fun _ _ h => h)
set_option maxRecDepth 50000 in
theorem TS.lt (h : TS w p s zs DN DI L X) : ∀ b, foot p s b → b < w.heap.size := fun b hb => by
  rcases hb with rfl | rfl | rfl | e | e | e
  · exact h.blk.lt
  · exact h.mN.lt
  · exact h.mI.lt
  · exact rowlt h.rT b (by rw [← e]; exact own0 _ _ _)
  · exact rowlt h.rS b (by rw [← e]; exact own0 _ _ _)
  · exact rowlt h.rX b (by rw [← e]; exact own0 _ _ _)
set_option maxRecDepth 50000 in
theorem rowcap {e size n c : Nat} {A : Option Addr} {xs : List Value} (h : w.ownsRow 0 e size (.slice A n c) n xs) : n ≤ c ∧ c ≤ maxLen := by
  rcases h.2 with ⟨hv, hn⟩ | ⟨g, cap, cur, hv, _, _, hc, hm, _⟩
  · injection hv with h1 h2 h3; subst h3; exact ⟨by omega, Nat.zero_le _⟩
  · injection hv with h1 h2 h3; subst h3; exact ⟨hc, hm⟩
end
end Go.Proofs.YtpncohoonfahpaaGreatDoor

/- The term of a text; a new store; steps min and max. -/
namespace Go.Proofs.YtpncohoonfahpaaGreatDoor
open Go Go.RowKit

set_option maxRecDepth 50000 in
theorem new_any (w : World) :
    Calls Tryz.prog 92 #[] w fun e w' => e = .returned (.pointer (some ⟨w.heap.size + 2, 0, none⟩)) ∧ Below w.heap.size w w' ∧ TS w' (w.heap.size + 2) ⟨none, 0, none, 0, w.heap.size, none, 0, w.heap.size + 1, [0, 0, 0, 0, 0]⟩ [] (.map []) (.map []) [] [] := by
  have h1 := World.ownsMap_made w Tryz.prog 65 (plainElem (H := Unit) Tryz.prog 3)
  have h2 := World.ownsMap_made (w.alloc (.map #[] 0)) Tryz.prog 9 (plainElem (H := Unit) Tryz.prog 3)
  rw [World.size_alloc] at h2
  obtain ⟨W, hW⟩ : ∃ W, (w.alloc (.map #[] 0)).alloc (.map #[] 0) = W := ⟨_, rfl⟩
  have h1' := map_next h1 (below_new _ (.map #[] 0))
  rw [hW] at h2 h1'
  have hz : W.heap.size = w.heap.size + 2 := by rw [← hW]; simp
  have hB : Below w.heap.size w W := by rw [← hW]; exact ((Below.refl _ w).alloc (Nat.le_refl _) _).alloc (by simp) _
  have hTS : TS (W.alloc (.cells ((Lay.mk none 0 none 0 w.heap.size none 0 (w.heap.size + 1) [0, 0, 0, 0, 0]).cells 0 0).toArray 126)) (w.heap.size + 2) ⟨none, 0, none, 0, w.heap.size, none, 0, w.heap.size + 1, [0, 0, 0, 0, 0]⟩ [] (.map []) (.map []) [] [] :=
    ⟨by rw [← hz]; exact Blk.new W 126 _, World.ownsRow_nil _ _ _ _, World.ownsRow_nil _ _ _ _, World.ownsRow_nil _ _ _ _, map_next h1' (below_new _ _), map_next h2 (below_new _ _)⟩
  have hB2 := hB.alloc (by omega) (.cells ((Lay.mk none 0 none 0 w.heap.size none 0 (w.heap.size + 1) [0, 0, 0, 0, 0]).cells 0 0).toArray 126)
  have HT := hid hTS
  have HB2 := hid hB2
  rw [← hW] at HT HB2
  clear hTS hB2 hB h1 h2 h1' hz hW
  have hmm := @run_makeMap Tryz.prog
  go_enter Tryz.func92, Tryz.ntmps92
  go_wp2
  go_ret
  exact ⟨rfl, HB2.out, HT.out⟩
set_option maxRecDepth 50000 in
set_option maxHeartbeats 1000000 in
theorem textAt_any (i : Int) (w : World) :
    Calls Tryz.prog 105 #[.int .i64 i] w fun e w' => e = .returned (tv (9, i, 0)) ∧ Below w.heap.size w w' := by
  have hB := Blk.new w 65 [.int .i64 0, .int .i64 0, .int .i64 0]
  obtain ⟨W, hW⟩ : ∃ W, w.alloc (.cells #[.int .i64 0, .int .i64 0, .int .i64 0] 65) = W := ⟨_, rfl⟩
  have hb : Below w.heap.size w W := by rw [← hW]; exact below_new _ _
  have h2 : Blk W w.heap.size 65 [.int .i64 0, .int .i64 0, .int .i64 0] := by rw [← hW]; exact hB
  have hth : W.there w.heap.size 0 (#[.int .i64 9, .int .i64 i, .int .i64 0] : Array Value).size := h2.rw.there
  have hst : Rw (W.setCells w.heap.size 0 (#[.int .i64 9, .int .i64 i, .int .i64 0] : Array Value).toList) w.heap.size 0 [.int .i64 9, .int .i64 i, .int .i64 0] := h2.rw.stored (us := [.int .i64 9, .int .i64 i, .int .i64 0]) rfl
  have hbs : Below w.heap.size w (W.setCells w.heap.size 0 (#[.int .i64 9, .int .i64 i, .int .i64 0] : Array Value).toList) := Below.setCells hb (Nat.le_refl _) 0 _
  have hr := hst.range
  have hone : (#[.int .i64 9, .int .i64 i, .int .i64 0] : Array Value).all (·.oneCell') = true := by simp [Value.oneCell']
  have hsz : (Tryz.prog.info? 65).map (·.size) = some (#[.int .i64 9, .int .i64 i, .int .i64 0] : Array Value).size := szV infT (vs := tc (9, i, 0)) (tc_len _)
  have HW := hid hW
  have HBS := hid hbs
  clear hW hB h2 hb hst hbs
  go_enter Tryz.func105, Tryz.ntmps105
  go_upto_region 1 with (fail)
  rw [HW.out]
  go_wp2_with (with_reducible refine wpList_store_mid (op := ⟨none, .store 65 (.tmp 2) (.tmp 4), _, _, _, _⟩) rfl 65 (.tmp 2) (.tmp 4) rfl w.heap.size 0 #[.int .i64 9, .int .i64 i, .int .i64 0] rfl rfl hth hsz hone ?_)
  refine ret_rows rfl w.heap.size 0 rfl [.int .i64 9, .int .i64 i, .int .i64 0] _ hr Tryz.underlying65 rfl hsz rfl ?_
  exact ⟨rfl, HBS.out⟩
section
variable {P : Program} {ops : Array Oper} {md : Region.Mode} {W : World} {a0 : Act} {n : Nat} {al : Nat → Bool} {S : Nat → Value → World → Prop} {Q : Exit → Act → World → Prop} {i : Nat} {o : Oper}
set_option maxRecDepth 50000 in
theorem step_min (hal : al i = false) (hg : GuardOn ops md n S i o) {x y : Operand} {p q r : Int} {ts : Array TypeId} (ho : o.op = .call { callee := .builtin .min, args := #[x, y], argTypes := ts }) (hS : S i = Is (.int .i64 r)) (hr : (if q < p then q else p) = r) (hx : Knows ops md W a0 n S i x (.int .i64 p)) (hy : Knows ops md W a0 n S i y (.int .i64 q)) : StepOk P ops md W a0 n al S Q i o :=
  step_ex (.int .i64 r) hal hg hS fun a w hw hf hd => by
    have h1 := hx a w hw hf hd
    have h2 := hy a w hw hf hd
    unfold execOp
    simp only [ho, resolve, invoke, builtin, Sem.run_bind, Sem.run_pure, Result.andThen_ok, List.map_toArray, List.map_cons, List.map_nil, h1, h2, run_min_int2, hr]
end
end Go.Proofs.YtpncohoonfahpaaGreatDoor
