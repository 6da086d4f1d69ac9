/- What is done to a disk, as the law is handed it; Few. -/
import Derived.Test.YtdfalneiapeegaaLAwake
namespace Go.Proofs.Ytdfalneiapeegaa
open Go Go.RowKit Go.Maps

/-- What is done, as it lies in memory: kind, N, a slice of bytes. -/
structure DoV where
  kind : Int
  num : Int
  A : Option Addr
  c : Nat
  x : List Int
def DoV.cells (d : DoV) : List Value := [.int .i64 d.kind, .int .i64 d.num, .slice d.A d.x.length d.c]
/-- The row of what is done; its bytes lie below block B. -/
def DoRow (B : Nat) (w : World) (A : Option Addr) (ds : List DoV) : Prop := ∀ (i : Nat) d, ds[i]? = some d → (∃ g o, A = some ⟨g, o, none⟩ ∧ g < B ∧ w.rangeAt g (o + i * 3) d.cells) ∧ (Lit.int .i64 d.num).wf = true ∧ Byts d.x ∧ NumsD B w .u8 d.A d.x
theorem DoRow.next {B : Nat} {w w' : World} {A : Option Addr} {ds : List DoV} (h : DoRow B w A ds) (hb : Below B w w') : DoRow B w' A ds := fun i d hi => by
  obtain ⟨⟨g, o, e, hg, hr⟩, h2, h3, h4⟩ := h i d hi
  exact ⟨⟨g, o, e, hg, fun j v hj => (hb.cell (p := ⟨g, o + i * 3 + j, none⟩) hg).trans (hr j v hj)⟩, h2, h3, h4.stay hb⟩
theorem do_world (d : DoV) (w : World) : ∃ W, w.alloc (.cells #[.int .i64 d.kind, .int .i64 d.num, .slice d.A d.x.length d.c] 34) = W ∧ Blk W w.heap.size 34 d.cells ∧ Below w.heap.size w W :=
  ⟨_, rfl, Blk.new w 34 d.cells, below_new w _⟩
set_option maxHeartbeats 2000000 in
theorem few_any (B n c : Nat) (A : Option Addr) (ds : List DoV) (b : Bool) (w : World) (hn : ds.length = n) (hn47 : n ≤ 9223372036854775807) (hA : DoRow B w A ds) (hB : B ≤ w.heap.size) (hb : Hid (b = decide ((∀ d ∈ ds, d.x.length ≤ 100) ∧ n ≤ 40))) :
    Calls Try.prog 10 #[.slice A n c] w fun e w' => e = .returned (.bool b) ∧ Below w.heap.size w w' := by
  have hn2 : (n : Int) ≤ 9223372036854775807 := by omega
  have HN := hid hn
  clear hn
  go_enter Try.func10, Try.ntmps10
  go_wp2
  go_loopw [7] (fun v wr => ∃ k : Nat, k ≤ n ∧ v = .int .i64 k ∧ Hid (∀ (i : Nat) d, i < k → ds[i]? = some d → d.x.length ≤ 100) ∧ Below w.heap.size w wr) (fun v _ => n - (intOf v).toNat)
  case atStart => exact ⟨0, Nat.zero_le _, rfl, hid (fun i d hi => absurd hi (Nat.not_lt_zero _)), Below.refl _ _⟩
  case round =>
    obtain ⟨k, hk, rfl, HI, hcl⟩ := hrel
    by_cases hlt : k < n
    · obtain ⟨d, hd⟩ : ∃ d, ds[k]? = some d := ⟨ds[k]'(by rw [HN.out]; exact hlt), by simp [HN.out, hlt]⟩
      obtain ⟨⟨g, o, rfl, hg, hr⟩, _, _, _⟩ := (hA.next (hcl.mono hB)) k d hd
      have r0 := hr 0 _ rfl
      have r1 := hr 1 _ rfl
      have r2 := hr 2 _ rfl
      simp only [Nat.add_zero] at r0
      obtain ⟨W, hW, hBk, hbW⟩ := do_world d wr
      have y2 := hBk.cell (i := 2) rfl
      have HW := hid hW
      have HD := hid hd
      have hkn : (k : Int) < n := by omega
      have hk0 : (0 : Int) ≤ k := by omega
      have hk1 : k + 1 ≤ n := by omega
      clear hr hW hBk hd hlt hk
      by_cases hgt : (100 : Int) < d.x.length
      · have e1 : decide ((100 : Int) < d.x.length) = true := decide_eq_true hgt
        obtain rfl : b = false := by
          rw [hb.out]
          refine decide_eq_false fun h => ?_
          have := h.1 d (List.mem_of_getElem? HD.out)
          omega
        clear hgt
        go_upto_region 4 with (fail)
        rw [HW.out]
        go_wp2
        go_ret
        exact ⟨rfl, hcl.trans (Below.mono hbW hcl.size)⟩
      · have e1 : decide ((100 : Int) < d.x.length) = false := decide_eq_false hgt
        have HL := hid (show d.x.length ≤ 100 by omega)
        clear hgt
        go_upto_region 4 with (fail)
        rw [HW.out]
        go_wp2
        go_roundw
        case rel => exact ⟨k + 1, hk1, by go_num, hid (fun i d' hi hd' => by
          by_cases e : i = k
          · subst e; rw [HD.out] at hd'; injection hd' with hd'; rw [← hd']; exact HL.out
          · exact HI.out i d' (by omega) hd'), hcl.trans (Below.mono hbW hcl.size)⟩
        case measure => simp [intOf]; omega
    · have hge : ¬ (k : Int) < n := by omega
      have e : k = n := by omega
      subst e
      obtain ⟨q, hq⟩ : ∃ q, decide ((k : Int) ≤ 40) = q := ⟨_, rfl⟩
      obtain rfl : b = q := by
        rw [hb.out, ← hq, Bool.eq_iff_iff, decide_eq_true_iff, decide_eq_true_iff]
        refine ⟨fun h => by omega, fun h => ⟨fun d hd => ?_, by omega⟩⟩
        obtain ⟨i, hi⟩ := List.mem_iff_getElem?.1 hd
        exact HI.out i d (by rw [← HN.out]; exact (List.getElem?_eq_some_iff.1 hi).1) hi
      clear hb hk hlt
      go_wp2
      go_ret
      exact ⟨rfl, hcl⟩
end Go.Proofs.Ytdfalneiapeegaa
