/- What is said of values: depth, purity, bytes, and bounds. No program is named. -/
import Derived.Test.YtcahcecohjohpaaDoorFew
import Derived.Test.YtcahcecohjohpaaDoorLen
import Derived.Test.YtcahcecohjohpaaDoorWPut
namespace Go.Proofs.YtcahcecohjohpaaDoor
open Go.RowKit

mutual
def deepV : V → Nat
  | .mk k _ _ l => if k = 3 then 1 + deepL l else 0
def deepL : List V → Nat
  | [] => 0
  | x :: l => max (deepV x) (deepL l)
end

/-- Has each field what its kind may have, the items left aside? -/
def plainB (k n : Int) (b l : Nat) : Bool :=
  if k = 1 then decide (0 ≤ n ∧ n ≤ 4611686018427387904 ∧ b = 0 ∧ l = 0)
  else if k = 2 then decide (n = 0 ∧ l = 0)
  else decide (k = 3 ∧ n = 0 ∧ b = 0 ∧ l ≤ 4096)

mutual
def pureV : V → Bool
  | .mk k n b l => plainB k n b.length l.length && pureL l
def pureL : List V → Bool
  | [] => true
  | x :: l => pureV x && pureL l
end

def wid (k : Int) : Int := if k = 1 then 1 else if k = 2 then 3 else 2

mutual
def bytesV : V → List Int
  | .mk k n b l => if k = 1 then [1, (nb n : Int)] ++ (if 0 < nb n then pbytes true n (nb n) else [])
      else if k = 2 then [2] ++ pbytes true b.length 3 ++ b
      else [3] ++ pbytes true l.length 2 ++ bytesL l
def bytesL : List V → List Int
  | [] => []
  | x :: l => bytesV x ++ bytesL l
end

mutual
/-- No part is longer than a million. -/
def tameV : V → Prop
  | .mk _ _ b l => b.length ≤ 1048576 ∧ l.length ≤ 1048576 ∧ tameL l
def tameL : List V → Prop
  | [] => True
  | x :: l => tameV x ∧ tameL l
end

theorem pureL_nil {l : List V} (h : l.length = 0) : pureL l = true := by
  rw [List.length_eq_zero_iff] at h; subst h; rfl

theorem tameL_mem {l : List V} (h : tameL l) {x : V} (hx : x ∈ l) : tameV x := by
  induction l with
  | nil => cases hx
  | cons y l ih =>
    rw [tameL] at h
    rcases List.mem_cons.1 hx with rfl | hx
    · exact h.1
    · exact ih h.2 hx
theorem deepL_mem {l : List V} {x : V} (hx : x ∈ l) : deepV x ≤ deepL l := by
  induction l with
  | nil => cases hx
  | cons y l ih =>
    rw [deepL]
    rcases List.mem_cons.1 hx with rfl | hx
    · omega
    · have := ih hx; omega
theorem pureL_mem {l : List V} (h : pureL l = true) {x : V} (hx : x ∈ l) : pureV x = true := by
  induction l with
  | nil => cases hx
  | cons y l ih =>
    rw [pureL, Bool.and_eq_true] at h
    rcases List.mem_cons.1 hx with rfl | hx
    · exact h.1
    · exact ih h.2 hx

mutual
theorem partsV_fine : ∀ (v : V) (room deep : Int), 0 ≤ room → room ≤ 1000 → 0 ≤ deep → 0 ≤ partsV v room deep →
    (deepV v : Int) ≤ deep ∧ tameV v ∧ ((bytesV v).length : Int) ≤ 2011 * (room - partsV v room deep) ∧ partsV v room deep ≤ room
  | .mk k n b l, room, deep, hr, hr2, hd, h => by
    unfold partsV at h ⊢
    split at h
    · omega
    · rename_i hc
      rw [if_neg hc]
      obtain ⟨h1, h2, h3, h4, h5⟩ := partsL_fine l (room - 1) (deep - 1) (by omega) (by omega) (by omega) h
      have hlen : ((bytesV (.mk k n b l)).length : Int) ≤ 2011 + (bytesL l).length := by
        unfold bytesV
        have p1 := pbytes_length true n (nb n)
        have p2 := pbytes_length true b.length 3
        have p3 := pbytes_length true l.length 2
        split
        · split <;> simp <;> omega
        · split <;> simp <;> omega
      refine ⟨?_, ?_, by omega, by omega⟩
      · unfold deepV; split <;> omega
      · unfold tameV; exact ⟨by omega, by omega, h2⟩
theorem partsL_fine : ∀ (l : List V) (room deep : Int), -1 ≤ room → room ≤ 1000 → 0 ≤ deep → 0 ≤ partsL l room deep →
    (deepL l : Int) ≤ deep ∧ tameL l ∧ ((bytesL l).length : Int) ≤ 2011 * (room - partsL l room deep) ∧ partsL l room deep ≤ room ∧ (l.length : Int) ≤ room - partsL l room deep
  | [], room, deep, hr, hr2, hd, h => by
    simp only [deepL, tameL, bytesL, partsL, List.length_nil]
    exact ⟨by omega, trivial, by omega, by omega, by omega⟩
  | x :: l, room, deep, hr, hr2, hd, h => by
    unfold partsL at h ⊢
    split at h
    · omega
    · rename_i hc
      rw [if_neg hc]
      have hb := partsV_bd x room deep (by omega)
      have hx0 : 0 ≤ partsV x room deep := by
        rcases Int.lt_or_le (partsV x room deep) 0 with hn | hn
        · exfalso
          cases l with
          | nil => simp only [partsL] at h; omega
          | cons y l => rw [partsL, if_pos hn] at h; omega
        · exact hn
      obtain ⟨a1, a2, a3, a4⟩ := partsV_fine x room deep (by omega) (by omega) hd hx0
      obtain ⟨b1, b2, b3, b4, b5⟩ := partsL_fine l (partsV x room deep) deep (by omega) (by omega) hd h
      have hstep : partsV x room deep ≤ room - 1 := by
        cases x with
        | mk k n b l' =>
          unfold partsV
          split
          · omega
          · have := partsL_bd l' (room - 1) (deep - 1) (by omega); omega
      simp only [deepL, tameL, bytesL, List.length_append, List.length_cons]
      exact ⟨by omega, ⟨a2, b2⟩, by omega, by omega, by omega⟩
end

/-- The two tables of the program, as they are written out. -/
def Tabs (w : World) : Prop :=
  1 < w.heap.size ∧ (w.cell? ⟨0, 1, none⟩ = some (.int .i64 1) ∧ w.cell? ⟨0, 2, none⟩ = some (.int .i64 3) ∧ w.cell? ⟨0, 3, none⟩ = some (.int .i64 2)) ∧
  (w.cell? ⟨1, 1, none⟩ = some (.int .i64 8) ∧ w.cell? ⟨1, 2, none⟩ = some (.int .i64 16777215) ∧ w.cell? ⟨1, 3, none⟩ = some (.int .i64 4096))
theorem Tabs.grow {D : Nat} {w w' : World} (h : Tabs w) (hb : Below D w w') (hD : 1 < D) : Tabs w' := by
  obtain ⟨h0, ⟨a1, a2, a3⟩, b1, b2, b3⟩ := h
  exact ⟨Nat.lt_of_lt_of_le h0 hb.size, ⟨(hb.cell (p := ⟨0, 1, none⟩) (by show 0 < D; omega)).trans a1, (hb.cell (p := ⟨0, 2, none⟩) (by show 0 < D; omega)).trans a2, (hb.cell (p := ⟨0, 3, none⟩) (by show 0 < D; omega)).trans a3⟩,
    (hb.cell (p := ⟨1, 1, none⟩) hD).trans b1, (hb.cell (p := ⟨1, 2, none⟩) hD).trans b2, (hb.cell (p := ⟨1, 3, none⟩) hD).trans b3⟩
theorem Tabs.stay {w w' : World} (h : Tabs w) (hb : Below w.heap.size w w') : Tabs w' := h.grow hb h.1

theorem few_fine {v : V} (h : fewV v = true) : deepV v ≤ 30 ∧ tameV v ∧ (bytesV v).length ≤ 402200 := by
  have h0 : 0 ≤ partsV v 200 30 := by unfold fewV at h; simpa using h
  obtain ⟨h1, h2, h3, h4⟩ := partsV_fine v 200 30 (by omega) (by omega) (by omega) h0
  exact ⟨by omega, h2, by omega⟩
end Go.Proofs.YtcahcecohjohpaaDoor
