/- The case that the laws are handed, laid into a box. -/
import Derived.Test.YtcbcahlgafngcaaDoorCAwake
import Derived.Test.YtcbcahlgafngcaaDoorCLimit
import Derived.Test.YtcbcahlgafngcaaDoorDHide
import Derived.Test.YtcbcahlgafngcaaDoorHWSame
namespace Go.Proofs.YtcbcahlgafngcaaDoor
open Go Go.RowKit

def caseL (key nonce : List Int) (c : Int) : List Value := (ints .u8 key ++ ints .u8 nonce) ++ [.int .u32 c]
structure CaseAt (w : World) (b : Nat) (key nonce : List Int) (c : Int) : Prop where
  k : Arr w b 0 .u8 key
  n : Arr w b 32 .u8 nonce
  c : w.cell? ⟨b, 44, none⟩ = some (.int .u32 c)
theorem CaseAt.lt {w : World} {b : Nat} {key nonce : List Int} {c : Int} (h : CaseAt w b key nonce c) : b < w.heap.size := World.block_lt_of_cell? w _ h.c
theorem CaseAt.below {w w' : World} {b : Nat} {key nonce : List Int} {c : Int} (h : CaseAt w b key nonce c) (hb : Below w.heap.size w w') : CaseAt w' b key nonce c :=
  ⟨h.k.below hb h.lt, h.n.below hb h.lt, (hb.cell (p := ⟨b, 44, none⟩) h.lt).trans h.c⟩
theorem CaseAt.new (w : World) (key nonce : List Int) (c : Int) (hk : key.length = 32) (hn : nonce.length = 12) : CaseAt (w.alloc (.cells (caseL key nonce c).toArray 26)) w.heap.size key nonce c := by
  have hr : Rw (w.alloc (.cells (caseL key nonce c).toArray 26)) w.heap.size 0 (caseL key nonce c) := Rw.new w _ 26
  refine ⟨fun i x hi => ?_, fun i x hi => ?_, ?_⟩
  · have := (List.getElem?_eq_some_iff.1 hi).1
    refine hr i (.int .u8 x) ?_
    unfold caseL
    rw [List.getElem?_append_left (by simp [ints]; omega), List.getElem?_append_left (by simp [ints]; omega)]
    simp [ints, hi]
  · have := (List.getElem?_eq_some_iff.1 hi).1
    have h := hr (32 + i) (.int .u8 x) (by
      unfold caseL
      rw [List.getElem?_append_left (by simp [ints]; omega), List.getElem?_append_right (by simp [ints]; omega)]
      have e : 32 + i - (ints .u8 key).length = i := by simp [ints, hk]
      rw [e]
      simp [ints, hi])
    rwa [Nat.zero_add] at h
  · have h := (hr 44 (.int .u32 c) (by
      unfold caseL
      rw [List.getElem?_append_right (by simp [ints, hk, hn])]
      simp [ints, hk, hn])).1
    rwa [Nat.zero_add] at h
theorem byt_of_wf {l : List Int} (h : ∀ x ∈ l, (Lit.int .u8 x).wf = true) : HByt l := fun x hx => by
  have := h x hx
  have e1 : IntKind.u8.min = 0 := by decide
  have e2 : IntKind.u8.max = 255 := by decide
  simp [Lit.wf, e1, e2] at this
  omega
theorem word_of_wf {c : Int} (h : (Lit.int .u32 c).wf = true) : ∃ n : Nat, c = n ∧ n < 4294967296 := by
  have e1 : IntKind.u32.min = 0 := by decide
  have e2 : IntKind.u32.max = 4294967295 := by decide
  simp [Lit.wf, e1, e2] at h
  exact ⟨c.toNat, by omega, by omega⟩
theorem tabs_of_laid {w : World} (h : Tabs w) {w' : World} (hb : Below w.heap.size w w') : Tabs w' := h.next hb
end Go.Proofs.YtcbcahlgafngcaaDoor
