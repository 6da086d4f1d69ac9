/- A row of values that a call fills. No program is named but by its types' numbers. -/
import Derived.Test.YtcahcecohjohpaaDoorReadC
namespace Go.Proofs.YtcahcecohjohpaaDoor
open Go.RowKit Go.WideShapes Go.ChangeShapes

/-- A value with where its parts lie. -/
structure Ent where
  v : V
  A : Option Addr
  c : Nat
  B : Option Addr
  d : Nat
def cells4 (e : Ent) : List Value := [.int .i64 e.v.k, .int .i64 e.v.n, .slice e.A e.v.b.length e.c, .slice e.B e.v.l.length e.d]
theorem flat_len : ∀ es : List Ent, (es.flatMap cells4).length = es.length * 4
  | [] => rfl
  | e :: es => by rw [List.flatMap_cons, List.length_append, flat_len es, List.length_cons]; simp [cells4]; omega
theorem flat_get : ∀ (es : List Ent) (i t : Nat) (e : Ent), es[i]? = some e → t < 4 → (es.flatMap cells4)[i * 4 + t]? = (cells4 e)[t]?
  | [], i, t, e, h, _ => by simp at h
  | x :: es, 0, t, e, h, ht => by
    simp at h
    subst h
    rw [List.flatMap_cons, List.getElem?_append_left (by simp [cells4]; omega)]
    simp
  | x :: es, i + 1, t, e, h, ht => by
    rw [List.flatMap_cons, List.getElem?_append_right (by simp [cells4]; omega)]
    have := flat_get es i t e (by simpa using h) ht
    rw [← this]
    congr 1
    simp [cells4]
    omega

/-- The row at A' holds the values of es, whose parts lie in the blocks S. -/
theorem rows_hold {S : Nat → Prop} {w : World} {base n c : Nat} {A' : Option Addr} {es : List Ent} (hO : w.ownsRow base 25 4 (.slice A' n c) es.length (es.flatMap cells4)) (hS : ∀ g, (Value.slice A' n c).ownBlock = some g → S g)
    (hm : es.length ≤ maxLen) (hh : ∀ e ∈ es, Holds S w e.v e.A e.B) (k2 n2 : Int) : n = es.length ∧ Holds S w (.mk k2 n2 [] (es.map (·.v))) none A' := by
  rcases hO.2 with ⟨hv, h0⟩ | ⟨g, cap, cur, hv, hg, hc, _⟩
  · injection hv with h1 h2 h3
    obtain rfl := List.eq_nil_of_length_eq_zero h0
    exact ⟨by rw [h2]; rfl, .nil (fun h => absurd h (by simp)) (fun x hx => by cases hx) (by simp)⟩
  · injection hv with h1 h2 h3
    subst h1; subst h2; subst h3
    refine ⟨rfl, ?_⟩
    have hcell := fun j u hu => hO.cells (g := g) rfl j u hu
    refine .items (fun i => ((es[i]?).map (·.A)).getD none) (fun i => ((es[i]?).map (·.B)).getD none) (fun i => ((es[i]?).map (·.c)).getD 0) (fun i => ((es[i]?).map (·.d)).getD 0) (fun h => absurd h (by simp)) (fun x hx => by cases hx) (by simp) (hS g rfl) (by rw [List.length_map]; exact hm) (fun i x hx => ?_) (fun i x hx => ?_)
    · rw [List.getElem?_map, Option.map_eq_some_iff] at hx
      obtain ⟨e, he, rfl⟩ := hx
      have at_ : ∀ t, t < 4 → w.cell? ⟨g, 0 + (i * 4 + t), none⟩ = (cells4 e)[t]? := fun t ht => by
        have h1 := flat_get es i t e he ht
        obtain ⟨u, hu⟩ : ∃ u, (cells4 e)[t]? = some u := ⟨_, List.getElem?_eq_getElem (by simpa [cells4] using ht)⟩
        rw [hu] at h1 ⊢
        have := hcell (i * 4 + t) u h1
        rwa [add_plain] at this
      simp only [he, Option.map_some, Option.getD_some]
      exact ⟨at_ 0 (by omega), by have := at_ 1 (by omega); rwa [← Nat.add_assoc] at this, by have := at_ 2 (by omega); rwa [← Nat.add_assoc] at this, by have := at_ 3 (by omega); rwa [← Nat.add_assoc] at this⟩
    · rw [List.getElem?_map, Option.map_eq_some_iff] at hx
      obtain ⟨e, he, rfl⟩ := hx
      simp only [he, Option.map_some, Option.getD_some]
      exact hh e (List.mem_of_getElem? he)

def joinL (vs : List V) : Res (List V) → Res (List V)
  | .error e => .error e
  | .ok (l, r) => .ok (vs ++ l, r)
theorem joinL_nil (x : Res (List V)) : joinL [] x = x := by cases x with
  | error e => rfl
  | ok p => rfl
theorem joinL_join (a b : List V) (x : Res (List V)) : joinL a (joinL b x) = joinL (a ++ b) x := by cases x with
  | error e => rfl
  | ok p => simp [joinL]
theorem parseN_step {f : List Int → Res V} {m : Nat} {bs r : List Int} {v : V} (h : f bs = .ok (v, r)) : parseN f (m + 1) bs = joinL [v] (parseN f m r) := by
  rw [parseN, h]
  simp only
  cases parseN f m r with
  | error e => rfl
  | ok p => rfl
theorem parseN_fail {f : List Int → Res V} {m : Nat} {bs : List Int} {er : Int} (h : f bs = .error er) : parseN f (m + 1) bs = .error er := by rw [parseN, h]
end Go.Proofs.YtcahcecohjohpaaDoor
