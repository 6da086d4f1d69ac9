/- A new disk. -/
import Derived.Test.YtdfalneiapeegaaKSmall
import Derived.BigRegion
namespace Go.Proofs.Ytdfalneiapeegaa
open Go Go.RowKit

def Z64 : List Int := List.replicate 64 0
theorem Z64_len : Z64.length = 64 := by simp [Z64]
theorem secs_zero (n : Nat) : secs (List.replicate n Z64) = List.replicate (n * 64) (.int .u8 0) := by
  have h : ints .u8 Z64 = List.replicate 64 (.int .u8 0) := by simp [Z64, ints]
  induction n with
  | zero => simp [secs]
  | succ n ih =>
    rw [List.replicate_succ]
    show ints .u8 Z64 ++ secs (List.replicate n Z64) = _
    rw [ih, h, Nat.succ_mul, Nat.add_comm (n * 64) 64]
    exact (List.replicate_append_replicate ..)
theorem sz_zero (n : Nat) : Sz (List.replicate n Z64) := fun s hs => by rw [List.eq_of_mem_replicate hs]; exact Z64_len
theorem infSec : (Try.prog.info? 66).map (fun i => (i.zero, i.size, i.bytes)) = some (some (.agg (Array.replicate 64 (.int .u8 0))), 64, 64) := by kernel_rfl
theorem makeS (n : Nat) (h : n ≤ 16384) (w : World) : (Instr.makeSlice 55 (.int .i64 (n : Int)) (.int .i64 (n : Int))).run Try.prog w = .ok (.slice (some ⟨w.heap.size, 0, none⟩) n n) (w.alloc (.cells (secs (List.replicate n Z64)).toArray 66)) := by
  have hi := infSec
  cases hc : Try.prog.info? 66 with
  | none => rw [hc] at hi; simp at hi
  | some i =>
    rw [hc] at hi
    simp only [Option.map_some, Option.some.injEq, Prod.mk.injEq] at hi
    have h2 := run_make (P := Try.prog) w 55 66 i (.agg (Array.replicate 64 (.int .u8 0))) (by kernel_rfl) hc hi.1 .i64 .i64 n n (by omega) (by omega) (by rw [hi.2.2]; omega) (by omega)
    rw [h2, hi.2.1]
    simp only [Int.toNat_natCast]
    congr 3
    apply Array.toList_inj.1
    rw [secs_zero]
    show (madeCells (Array.replicate 64 (.int .u8 0)) (n * 64)).toList = _
    apply List.ext_getElem
    · simp [madeCells]
    · intro j h1 h2
      have : j % 64 < 64 := Nat.mod_lt _ (by decide)
      simp [madeCells, this]
set_option maxHeartbeats 1000000 in
theorem new_bad (n : Int) (w : World) (h : n < 1 ∨ 16384 < n) :
    Calls Try.prog 8 #[.int .i64 n] w fun e w' => e = .returned (.tuple #[.pointer none, .int .i64 2]) ∧ w = w' := by
  by_cases hn : n < 1
  · have e0 : decide (n < 1) = true := decide_eq_true hn
    clear h hn
    go_enter Try.func8, Try.ntmps8
    go_wp2
    go_ret2
    exact ⟨rfl, rfl⟩
  · have e0 : decide (n < 1) = false := decide_eq_false hn
    have e1 : decide ((16384 : Int) < n) = true := decide_eq_true (by omega)
    clear h hn
    go_enter Try.func8, Try.ntmps8
    go_wp2
    go_ret2
    exact ⟨rfl, rfl⟩
def newD (n : Nat) : DK := ⟨List.replicate n Z64, [], -1, false, 0⟩
theorem new_dt (w : World) (n : Nat) (b1 b2 : Nat) (hb : (b1 = w.heap.size ∧ b2 = w.heap.size + 1) ∨ (b1 = w.heap.size + 1 ∧ b2 = w.heap.size)) (W : World)
    (hW : ((w.alloc (.cells (secs (List.replicate n Z64)).toArray 66)).alloc (.cells (secs (List.replicate n Z64)).toArray 66)).alloc (.cells #[.bool true, .slice (some ⟨b1, 0, none⟩) n n, .slice (some ⟨b2, 0, none⟩) n n, .slice none 0 0, .int .i64 (-1), .bool false, .int .i64 0] 58) = W) :
    DS (fun b => w.heap.size ≤ b ∧ b < W.heap.size) W (w.heap.size + 2) (newD n) ∧ Below w.heap.size w W := by
  subst hW
  have h1 : Rw (w.alloc (.cells (secs (List.replicate n Z64)).toArray 66)) w.heap.size 0 (secs (List.replicate n Z64)) := Rw.new w _ _
  have h2 := Rw.new (w.alloc (.cells (secs (List.replicate n Z64)).toArray 66)) (secs (List.replicate n Z64)) 66
  rw [World.size_alloc] at h2
  have h1' := h1.next (below_new _ (.cells (secs (List.replicate n Z64)).toArray 66))
  have hb3 := below_new ((w.alloc (.cells (secs (List.replicate n Z64)).toArray 66)).alloc (.cells (secs (List.replicate n Z64)).toArray 66)) (.cells #[.bool true, .slice (some ⟨b1, 0, none⟩) n n, .slice (some ⟨b2, 0, none⟩) n n, .slice none 0 0, .int .i64 (-1), .bool false, .int .i64 0] 58)
  have h3 := Blk.new ((w.alloc (.cells (secs (List.replicate n Z64)).toArray 66)).alloc (.cells (secs (List.replicate n Z64)).toArray 66)) 58 [.bool true, .slice (some ⟨b1, 0, none⟩) n n, .slice (some ⟨b2, 0, none⟩) n n, .slice none 0 0, .int .i64 (-1), .bool false, .int .i64 0]
  rw [World.size_alloc, World.size_alloc] at h3
  have k1 := h1'.next hb3
  have k2 := h2.next hb3
  have hB : Below w.heap.size w (((w.alloc (.cells (secs (List.replicate n Z64)).toArray 66)).alloc (.cells (secs (List.replicate n Z64)).toArray 66)).alloc (.cells #[.bool true, .slice (some ⟨b1, 0, none⟩) n n, .slice (some ⟨b2, 0, none⟩) n n, .slice none 0 0, .int .i64 (-1), .bool false, .int .i64 0] 58)) :=
    (((Below.refl _ w).alloc (Nat.le_refl _) _).alloc (by simp) _).alloc (by simp; omega) _
  refine ⟨⟨b1, b2, n, n, none, 0, -1, ⟨?_, ?_, ?_, World.ownsRow_nil _ _ _ _, ?_, ?_, ?_, by simp [Value.ownBlock], by simp [Value.ownBlock], rfl, by simp [newD, pres], sz_zero n, sz_zero n, Wok.nil _, fun _ => rfl, ?_, ?_⟩, fun _ => rfl, fun b hf => ?_⟩, hB⟩
  · have e : (newD n).K.length = n := by simp [newD]
    rw [e]
    exact h3
  · rcases hb with ⟨rfl, rfl⟩ | ⟨rfl, rfl⟩
    · exact k1
    · exact k2
  · rcases hb with ⟨rfl, rfl⟩ | ⟨rfl, rfl⟩
    · exact k2
    · exact k1
  · omega
  · omega
  · omega
  · simp; omega
  · simp; omega
  · have hz : w.heap.size ≤ b ∧ b ≤ w.heap.size + 2 := by
      rcases hf with rfl | rfl | rfl | h
      · omega
      · omega
      · omega
      · simp [Value.ownBlock] at h
    exact ⟨hz.1, by simp; omega⟩
set_option maxHeartbeats 2000000 in
theorem dnew_any (n : Nat) (w : World) (h1 : 1 ≤ n) (h2 : n ≤ 16384) :
    Calls Try.prog 8 #[.int .i64 n] w fun e w' => e = .returned (.tuple #[.pointer (some ⟨w.heap.size + 2, 0, none⟩), .int .i64 0]) ∧ DS (fun b => w.heap.size ≤ b ∧ b < w'.heap.size) w' (w.heap.size + 2) (newD n) ∧ Below w.heap.size w w' := by
  have HM := makeS n h2
  have e0 : decide ((n : Int) < 1) = false := decide_eq_false (by omega)
  have e1 : decide ((16384 : Int) < n) = false := decide_eq_false (by omega)
  obtain ⟨W1, hW1⟩ : ∃ W1, ((w.alloc (.cells (secs (List.replicate n Z64)).toArray 66)).alloc (.cells (secs (List.replicate n Z64)).toArray 66)).alloc (.cells #[.bool true, .slice (some ⟨w.heap.size, 0, none⟩) n n, .slice (some ⟨w.heap.size + 1, 0, none⟩) n n, .slice none 0 0, .int .i64 (-1), .bool false, .int .i64 0] 58) = W1 := ⟨_, rfl⟩
  obtain ⟨W2, hW2⟩ : ∃ W2, ((w.alloc (.cells (secs (List.replicate n Z64)).toArray 66)).alloc (.cells (secs (List.replicate n Z64)).toArray 66)).alloc (.cells #[.bool true, .slice (some ⟨w.heap.size + 1, 0, none⟩) n n, .slice (some ⟨w.heap.size, 0, none⟩) n n, .slice none 0 0, .int .i64 (-1), .bool false, .int .i64 0] 58) = W2 := ⟨_, rfl⟩
  have R1 := hid (new_dt w n _ _ (.inl ⟨rfl, rfl⟩) W1 hW1)
  have R2 := hid (new_dt w n _ _ (.inr ⟨rfl, rfl⟩) W2 hW2)
  have H1 := hid hW1
  have H2 := hid hW2
  clear h1 h2 hW1 hW2
  obtain ⟨cs, hcs⟩ : ∃ cs, (secs (List.replicate n Z64)).toArray = cs := ⟨_, rfl⟩
  rw [hcs] at H1 H2
  simp only [hcs] at HM
  clear hcs
  go_enter Try.func8, Try.ntmps8
  go_upto_region 3 with (fail)
  go_region
  · rw [H1.out]
    go_wp2
    go_ret2
    exact ⟨rfl, R1.out.1.next ((Below.refl _ _).drew), R1.out.2.drew⟩
  · rw [H2.out]
    go_wp2
    go_ret2
    exact ⟨rfl, R2.out.1.next ((Below.refl _ _).drew), R2.out.2.drew⟩
end Go.Proofs.Ytdfalneiapeegaa
