/- The chapter's example. -/
import Derived.Test.YtddjfhmkebhndaaBx2
import Derived.Test.YtddjfhmkebhndaaInvMod
import Derived.Test.YtddjfhmkebhndaaRoot
namespace Go.Proofs.Ytddjfhmkebhndaa
open Go.RowKit

theorem By.new (w : World) (l : List Int) (h : l.length = 32) : By (w.alloc (.cells (ints .u8 l).toArray 22)) w.heap.size l := ⟨Arr.made w .u8 l 22, h⟩
theorem CallsTo.on {f : FuncId} {args : Array Value} {v : Value} (h : CallsTo f args v) (w : World) : Calls Try.prog f args w fun e w' => e = .returned v ∧ Below w.heap.size w w' := h w
theorem six : byd (red (mulL (smallL 2) (smallL 3))) = 6 :: zeros 31 := by decide +kernel
theorem built22 : Try.prog.built 22 [(0, .int .u8 6)] = some (ints .u8 (6 :: zeros 31)).toArray := by kernel_rfl
set_option maxRecDepth 4000 in
set_option maxHeartbeats 1000000 in
theorem awake_any (w : World) : Calls Try.prog 8 #[] w fun e w' => e = .returned (.bool true) ∧ Below w.heap.size w w' := by
  obtain ⟨z22, s22⟩ := zero_of_info inf22
  have e2 : El (smallL 2) := el_set (small_dg 2)
  have e3 : El (smallL 3) := el_set (small_dg 3)
  have em := (mulL_el e2 e3).1
  have k2 : CallsTo 16 #[.int .i64 2] (.agg (ints .i64 (smallL 2)).toArray) := small_any 2
  have k3 : CallsTo 16 #[.int .i64 3] (.agg (ints .i64 (smallL 3)).toArray) := small_any 3
  have km : CallsTo 22 #[.agg (ints .i64 (smallL 2)).toArray, .agg (ints .i64 (smallL 3)).toArray] (.agg (ints .i64 (mulL (smallL 2) (smallL 3))).toArray) := fun w => mul_any _ _ w e2.len e3.len e2.bd e3.bd
  have kb : CallsTo 11 #[.agg (ints .i64 (mulL (smallL 2) (smallL 3))).toArray] (.agg (ints .u8 (6 :: zeros 31)).toArray) := fun w => by
    have h := bytes_any (mulL (smallL 2) (smallL 3)) w em.len (fun x hx => by have := em.bd x hx; omega)
    rw [six] at h
    exact h
  generalize smallL 2 = s2 at *
  generalize smallL 3 = s3 at *
  generalize mulL s2 s3 = m at *
  have HL : Hid ((6 :: zeros 31).length = 32) := hid rfl
  have heq : ∀ W, (Op.equalIn 10000 22 (.agg (ints .u8 (6 :: zeros 31)).toArray) (.agg ((ints .u8 (zeros 32)).set 0 (.int .u8 6)).toArray)).run Try.prog W = .ok true W := fun W => by
    have h := eq22 HL.out HL.out W
    have e : ((ints .u8 (zeros 32)).set 0 (.int .u8 6)) = ints .u8 (6 :: zeros 31) := rfl
    rw [e, h]; simp
  have heg := egt22
  clear e2 e3 em
  go_enter Try.func8, Try.ntmps8
  have hP : ∀ W : World, (W.alloc (.cells (ints .u8 (zeros 32)).toArray 22)).there W.heap.size 0 (ints .u8 (6 :: zeros 31)).toArray.size := fun W => (Arr.made W .u8 (zeros 32) 22).room rfl
  have hP2 : ∀ W : World, Arr ((W.alloc (.cells (ints .u8 (zeros 32)).toArray 22)).setCells W.heap.size 0 (ints .u8 (6 :: zeros 31)).toArray.toList) W.heap.size 0 .u8 (6 :: zeros 31) := fun W => (Arr.made W .u8 (zeros 32) 22).stored rfl
  have HP := hid hP
  have HP2 := hid hP2
  clear hP hP2
  go_wp2_with (first
    | (go_at_call 16; (with_reducible refine (k3.on _).mono ?_); rintro e w2 ⟨rfl, hb2⟩; have hw2 := hb1.trans (hb2.mono hb1.size))
    | (go_at_call 16; (with_reducible refine (k2.on _).mono ?_); rintro e w1 ⟨rfl, hb1⟩)
    | (go_at_call 22; refine (km.on _).mono ?_; rintro e w3 ⟨rfl, hb3⟩; have hw3 := hw2.trans (hb3.mono hw2.size))
    | (go_at_call 11; refine (kb.on _).mono ?_; rintro e w4 ⟨rfl, hb4⟩; have hw4 := hw3.trans (hb4.mono hw3.size); have hs := HP.out w4; have hA := HP2.out w4; have hw5 := Below.setCells (hw4.alloc hw4.size (.cells (ints .u8 (zeros 32)).toArray 22)) (g := w4.heap.size) hw4.size 0 (ints .u8 (6 :: zeros 31)).toArray.toList)
    | (with_reducible refine wpList_store_mid (op := ⟨none, .store 22 (.tmp 1) (.tmp 5), _, _, _, _⟩) rfl 22 (.tmp 1) (.tmp 5) rfl w4.heap.size 0 (ints .u8 (6 :: zeros 31)).toArray rfl rfl hs (a22 HL.out) (ints_all _ _) ?_; generalize ((w4.alloc (.cells (ints .u8 (zeros 32)).toArray 22)).setCells w4.heap.size 0 (ints .u8 (6 :: zeros 31)).toArray.toList) = W5 at *)
    | (with_reducible refine wpList_load_mid (op := ⟨some 6, .load 22 (.tmp 1), _, _, _, _⟩) rfl 22 (.tmp 1) rfl w4.heap.size 0 rfl (ints .u8 (6 :: zeros 31)) _ (hA.range) Try.underlying22 rfl (l22 HL.out) ?_))
  go_ret
  exact ⟨rfl, hw5⟩
end Go.Proofs.Ytddjfhmkebhndaa
