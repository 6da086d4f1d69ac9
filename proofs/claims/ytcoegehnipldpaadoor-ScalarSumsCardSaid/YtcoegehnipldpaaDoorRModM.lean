/- The reference's remainder. -/
import Derived.Test.YtcoegehnipldpaaDoorModMathM
import Derived.Test.YtcoegehnipldpaaDoorApp
namespace Go.Proofs.YtcoegehnipldpaaDoor
open Go.RowKit

theorem app_oneG {P : Program} {w : World} {ops : Array Oper} {rest : List Oper} {o : Oper} {a : Act} {Q : Exit → Act → World → Prop} (hgd : o.guard = none) (s x : Operand) (t : TypeId)
    (ho : o.op = .call { callee := .builtin .append, args := #[s, x], argTypes := #[t, t] }) (base : Nat) (e : TypeId) (k : IntKind) (bytes : Nat) (ht : P.underlying t = some (.slice e))
    (hinf : (P.info? e).map (fun i => (i.zero, i.size, i.bytes)) = some (some (.int k 0), 1, bytes)) (hbt : 0 < bytes) (A : Option Addr) (n c : Nat) (xs : List Int) (hs : a.eval s = .slice A n c)
    (hown : Owns w base e k (.slice A n c) xs) (y : Int) (m : Nat) (hx : a.eval x = .slice (some ⟨w.heap.size, 0, none⟩) 1 m) (h63 : (xs.length + 1) * bytes ≤ 140737488355328) (hbase : base ≤ w.heap.size)
    (h : ∀ A' n' c' w', Owns w' base e k (.slice A' n' c') (xs ++ [y]) → Grew w w' (.slice A n c) (.slice A' n' c') → wpList P ops Q rest (a.put o.dst (.slice A' n' c')) w') :
    wpList P ops Q (o :: rest) a (w.alloc (.cells #[.int k y] e)) :=
  app_nums hgd s x t ho base e k bytes ht hinf hbt A n c xs hs (hown.alloc _) (some ⟨w.heap.size, 0, none⟩) m [y] hx (nums_one w k y e) h63 (by simp; omega) fun A' n' c' w' h1 h2 => h A' n' c' w' h1 (Grew.after (below_new w _) h2)
theorem Nums.grew {w w' : World} {k : IntKind} {g o : Nat} {xs : List Int} {v v' : Value} (h : Nums w k (some ⟨g, o, none⟩) xs) (hG : Grew w w' v v') (hne : v.ownBlock ≠ some g) : Nums w' k (some ⟨g, o, none⟩) xs := fun hp => by
  obtain ⟨b, off, e, hlt, hc⟩ := h hp
  injection e with e
  injection e with e1 e2
  subst e1 e2
  exact ⟨g, o, rfl, Nat.lt_of_lt_of_le hlt hG.1.size, fun i hi => (hG.cell (p := ⟨g, o + i, none⟩) hlt hne).trans (hc i hi)⟩
theorem Grew.far {w w' : World} {v v' : Value} {g : Nat} (hG : Grew w w' v v') (hne : v.ownBlock ≠ some g) (hg : g < w.heap.size) : v'.ownBlock ≠ some g := fun e => by
  rcases hG.2 with h | h
  · exact hne (by rw [← h, e])
  · have := h g e; omega
theorem pd_digs : Digs PD := fun v hv => by
  have h : PD.all (fun v => decide (v < 65536)) = true := by decide
  exact of_decide_eq_true (List.all_eq_true.1 h v hv)
theorem Nums.setOff {w : World} {k : IntKind} {g o : Nat} {xs : List Int} (h : Nums w k (some ⟨g, o, none⟩) xs) {p : Addr} (v : Value) (hp : p.block ≠ g) : Nums (w.setCell p v) k (some ⟨g, o, none⟩) xs := fun hl => by
  obtain ⟨b, off, e, hb, hc⟩ := h hl
  injection e with e
  injection e with e1 e2
  subst e1 e2
  refine ⟨g, o, rfl, by simpa using hb, fun i hi => ?_⟩
  rw [World.cell?_setCell_other _ _ _ _ (by intro q; rw [q] at hp; exact hp rfl)]
  exact hc i hi
/-- The number that a row in memory makes. -/
def rowv (v : Value) (w : World) : Nat := match v with
  | .slice (some ⟨g, o, _⟩) n _ => dv ((List.range n).map fun i => match w.cell? ⟨g, o + i, none⟩ with
    | some (.int _ x) => x.toNat
    | _ => 0)
  | _ => 0
theorem rowv_of {w : World} {k : IntKind} {A : Option Addr} {n c : Nat} {l : List Nat} (h : Nums w k A (nl l)) (hn : l.length = n) : rowv (.slice A n c) w = dv l := by
  subst hn
  cases l with
  | nil =>
    cases A with
    | none => rfl
    | some p => obtain ⟨g, o, s⟩ := p; rfl
  | cons a r =>
    obtain ⟨g, o, rfl, _, hc⟩ := h.num (by simp [nl])
    unfold rowv
    dsimp only
    congr 1
    apply List.ext_getElem (by simp)
    intro i h1 h2
    have := hc i _ (nl_at (l := a :: r) h2)
    have e : (a :: r)[i]?.getD 0 = (a :: r)[i] := by rw [List.getElem?_eq_getElem h2]; rfl
    simp [this, List.getD, e]
theorem Nums.at0 {w : World} {k : IntKind} {g : Nat} {xs : List Int} (h : Nums w k (some ⟨g, 0, none⟩) xs) {i : Nat} {x : Int} (hx : xs[i]? = some x) : w.cell? ⟨g, i, none⟩ = some (.int k x) := by
  obtain ⟨hi, _⟩ := List.getElem?_eq_some_iff.1 hx
  obtain ⟨g2, o2, e, _, hc⟩ := h.num (by omega)
  injection e with e
  injection e with e1 e2
  subst e1 e2
  have := hc i x hx
  rwa [Nat.zero_add] at this
theorem Nums.lt0 {w : World} {k : IntKind} {g o : Nat} {xs : List Int} (h : Nums w k (some ⟨g, o, none⟩) xs) (hp : 0 < xs.length) : g < w.heap.size := by
  obtain ⟨g2, o2, e, hl, _⟩ := h.num hp
  injection e with e
  injection e with e1 e2
  subst e1; exact hl

end Go.Proofs.YtcoegehnipldpaaDoor
