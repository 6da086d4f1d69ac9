/- Numbers are copied into a row that may be written; operands that are slices of numbers. No program is named. -/
import Derived.Test.YtdfalneiapeegaaMApp
import Derived.Laws.IdiomCopy
namespace Go.Proofs.Ytdfalneiapeegaa
open Go Go.RowKit

theorem wpList_copyR {P : Program} {w : World} {ops : Array Oper} {rest : List Oper} {o : Oper} {a : Act} {Q : Exit → Act → World → Prop} (hgd : o.guard = none) (d s : Operand) (dT sT : TypeId) (ho : o.op = .call { callee := .builtin .copy, args := #[d, s], argTypes := #[dT, sT] }) {elem : TypeId} (hu : P.underlying dT = some (.slice elem)) (hs : (P.info? elem).map (·.size) = some 1)
    {b f m c c' : Nat} {A : Option Addr} {k : IntKind} {old : List Value} {xs : List Int} (hd : a.eval d = .slice (some ⟨b, f, none⟩) m c) (hsl : a.eval s = .slice A m c') (hR : Rw w b f old) (hl : old.length = m) (hx : xs.length = m) (hp : 0 < m) (hX : Nums w k A xs)
    (h : wpList P ops Q rest (a.put o.dst (.int .i64 (m : Int))) (w.setCells b f (ints k xs).toArray.toList)) : wpList P ops Q (o :: rest) a w := by
  obtain ⟨b2, f2, hA, hlt, hc⟩ := hX (by omega)
  subst hA
  have ht := hR.there
  have hrun := run_copy_cells (P := P) w dT sT o.type elem b f m c ⟨b2, f2, none⟩ m c' (ints k xs) hu hs (by rw [ints_length, hx]; exact (Nat.min_self m).symm) (fun j v hv => by
    simp only [ints, List.getElem?_map, Option.map_eq_some_iff] at hv
    obtain ⟨x, hxx, rfl⟩ := hv
    have hj := (List.getElem?_eq_some_iff.1 hxx).1
    rw [Addr.add_mid, hc j hj, List.getD_eq_getElem?_getD, hxx]; rfl) (fun j hj => (ht j (by rw [ints_length] at hj; omega)).1) (fun j hj => (ht j (by rw [ints_length] at hj; omega)).2) (ints_one k xs)
  rw [ints_length, hx] at hrun
  refine wpList_plain hgd fun K hK => ?_
  unfold Oper.wp execOp
  simp only [ho, resolve, invoke, builtin, Sem.run_bind, Sem.run_pure, Result.andThen_ok, List.map_toArray, List.map_cons, List.map_nil, hd, hsl, hrun]
  exact hK _ _ h
section
variable {P : Program} {ops : Array Oper} {md : Region.Mode} {W : World} {a0 : Act} {n : Nat} {S : Nat → Value → World → Prop} {i : Nat}
theorem Knows.nm {x : Operand} {A : Option Addr} {m c : Nat} {k : IntKind} {ys : List Int} (h : Knows ops md W a0 n S i x (.slice A m c)) (hl : ys.length = m) (hN : ∀ w, Cl W w → Nums w k A ys) : KnowsW ops md W a0 n S i x (fun v w => ∃ B c, v = .slice B ys.length c ∧ Nums w k B ys) := fun a w hw hf hd => ⟨A, c, by rw [h a w hw hf hd, hl], hN w hw⟩
end
end Go.Proofs.Ytdfalneiapeegaa
