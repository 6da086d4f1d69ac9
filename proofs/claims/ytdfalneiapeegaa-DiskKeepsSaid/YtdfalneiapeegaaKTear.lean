/- The first bytes of a write are kept. -/
import Derived.Test.YtdfalneiapeegaaKFlush
import Derived.Laws.CopyOwn
namespace Go.Proofs.Ytdfalneiapeegaa
open Go Go.RowKit Go.Maps

theorem ex_slAt {P : Program} {o : Oper} {T : TypeId} (hT : P.underlying T = some (.array (P.arrayLen T) (P.elem T))) (hz : ∀ w, (sizeOf (P.elem T)).run P w = .ok 1 w) {m h : Nat} (hm : P.arrayLen T = m) (hh : h ≤ m) {x y : Operand} (ho : o.op = .slice T x none (some y) none) {b f : Nat} (ev : Operand → Value) (w : World) (hx : ev x = .pointer (some ⟨b, f, none⟩)) (hy : ev y = .int .i64 (h : Int)) : (execOp ev o).run P w = .ok (.value (.slice (some ⟨b, f, none⟩) h m)) w := by
  subst hm
  unfold execOp
  simp only [ho, hx, Option.map_none, Option.map_some, hy, Sem.run_bind, run_sliceAt_array_h w T ⟨b, f, none⟩ hT .i64 (h : Int) (by omega) (by omega), hz, Result.andThen_ok, Sem.run_pure]
  simp [slicedAt, Addr.add_mid]
theorem laidSec : Try.prog.underlying 66 = some (.array (Try.prog.arrayLen 66) (Try.prog.elem 66)) := by kernel_rfl
theorem arrSec : Try.prog.arrayLen 66 = 64 := by kernel_rfl
theorem sizeSec : ∀ w, (sizeOf (Try.prog.elem 66)).run Try.prog w = .ok 1 w := fun _ => by kernel_rfl
theorem infU8s : (Try.prog.info? 5).map (·.size) = some 1 := by kernel_rfl
theorem box_wrB (x : Nat × List Int) (w : World) : ∃ W, w.alloc (.cells (wc x).toArray 68) = W ∧ Rw W w.heap.size 0 (wc x) ∧ Below w.heap.size w W ∧ w.heap.size < W.heap.size :=
  ⟨_, rfl, Rw.new w _ _, below_new w _, by simp⟩
set_option maxHeartbeats 4000000 in
theorem dtear_any (p bk bq n ck cq : Nat) (A : Option Addr) (c : Nat) (K Q : List (List Int)) (W : List (Nat × List Int)) (f li F : Int) (off : Bool) (N m : Nat) (xd s : List Int) (w : World)
    (hT : DT w p bk bq n ck cq A c K Q W f off li) (hN : N < n) (hs : Hid (K[N]? = some s)) (HX : Hid (xd.length = 64)) (hF : 0 ≤ F) (hm : (min F 64).toNat = m) :
    Calls Try.prog 35 #[.pointer (some ⟨p, 0, none⟩), .agg (wc (N, xd)).toArray, .int .i64 F] w fun e w' => e = .returned (.tuple #[]) ∧ DT w' p bk bq n ck cq A c (K.set N (tearS xd s m)) Q W f off li ∧ Chg (fun b => b = bk) w w' := by
  have Hm : Hid ((if (64 : Int) < F then 64 else F) = (m : Int)) := hid (by split <;> omega)
  have Hm64 : Hid (m ≤ 64) := hid (by omega)
  have hN0 : (0 : Int) ≤ N := by omega
  have hN1 : (N : Int) < n := by omega
  obtain ⟨W1, hW1, hB1, hb1, hz1⟩ := box_wrB (N, xd) w
  have hT1 := hT.next hb1
  have hC1 : Chg (fun b => b = bk) w W1 := Chg.of hb1 _
  have HW1 := hid hW1
  have HN := hid hN
  clear hT hm hF hN hW1
  go_enter Try.func35, Try.ntmps35
  go_upto_region 1 with (fail)
  rw [HW1.out]
  clear HW1
  refine region_seq2 2 21 (fun _ => false) [Is (Value.int .i64 F), Is (Value.int .i64 (m : Nat))] [6, 7] (by kernel_rfl) (by kernel_rfl) (Nat.le_of_eq rfl) (grows_cons (Is.grows _) (grows_cons (Is.grows _) grows_nil))
    ⟨(step_ex _ rfl (.inl rfl) rfl (fun a ww hw hf hd => by
   have h2 : a.eval (.tmp 2) = Value.int .i64 F := ((knows_out 2 (by kernel_rfl) rfl) : Knows _ _ _ _ _ _ 0 _ _) a ww hw hf hd
   revert h2
   generalize a.eval = ev
   intro h2
   unfold execOp
   simp only [h2]
   go_simp)),
     (step_min rfl (.inl rfl) rfl rfl Hm.out (knows_in 0 6 (by decide) (by kernel_rfl) rfl rfl) (knows_const _)), trivial⟩ ?_
  intro val W2 hw hS _ _
  have e6 : val 6 = Value.int .i64 F := hS 0 6 (by decide) rfl
  have e7 : val 7 = Value.int .i64 (m : Nat) := hS 1 7 (by decide) rfl
  simp only [putVals, List.foldl_cons, List.foldl_nil, List.drop_succ_cons, List.drop_zero, Act.put, List.setIfInBounds_toArray, List.set_cons_succ, List.set_cons_zero, e6, e7]
  clear e6 e7 hS
  have hT2 := hT1.next hw
  have hB2 := hB1.next hw
  have hC2 := hC1.next hw
  clear hT1 hB1 hC1 hw hb1 hz1
  go_upto_region 2 with (fail)
  refine region_spec2 12 21 (fun _ => false) [Is (Value.pointer (some ⟨p, 0, none⟩)), Is (Value.pointer (some ⟨p, 0, none⟩)), Is (Value.pointer (some ⟨p, 1, none⟩)), Is (Value.slice (some ⟨bk, 0, none⟩) n ck), Is (Value.pointer (some ⟨w.heap.size, 0, none⟩)), Is (Value.int .i64 (N : Nat)), Is (Value.pointer (some ⟨bk, N * 64, none⟩)), Is (Value.int .i64 (m : Nat)), Is (Value.slice (some ⟨bk, N * 64, none⟩) m 64), Is (Value.pointer (some ⟨w.heap.size, 1, none⟩)), Is (Value.int .i64 (m : Nat)), Is (Value.slice (some ⟨w.heap.size, 1, none⟩) m 64)] [8, 9, 10, 11, 12, 13, 14, 15, 16, 17, 18, 19] (by kernel_rfl) (by kernel_rfl) (by kernel_rfl) (Nat.le_of_eq rfl) (grows_cons (Is.grows _) (grows_cons (Is.grows _) (grows_cons (Is.grows _) (grows_cons (Is.grows _) (grows_cons (Is.grows _) (grows_cons (Is.grows _) (grows_cons (Is.grows _) (grows_cons (Is.grows _) (grows_cons (Is.grows _) (grows_cons (Is.grows _) (grows_cons (Is.grows _) (grows_cons (Is.grows _) grows_nil))))))))))))
    ⟨(step_ex _ rfl (.inl rfl) rfl (fun a ww hw hf hd => by
   have h0 : a.eval (.tmp 0) = Value.pointer (some ⟨p, 0, none⟩) := ((knows_out 0 (by kernel_rfl) rfl) : Knows _ _ _ _ _ _ 0 _ _) a ww hw hf hd
   revert h0
   generalize a.eval = ev
   intro h0
   unfold execOp
   simp only [h0]
   go_simp)),
     (step_ex _ rfl (.inl rfl) rfl (fun a ww hw hf hd => by
   have h8 : a.eval (.tmp 8) = Value.pointer (some ⟨p, 0, none⟩) := ((knows_in 0 8 (by decide) (by kernel_rfl) rfl rfl) : Knows _ _ _ _ _ _ 1 _ _) a ww hw hf hd
   revert h8
   generalize a.eval = ev
   intro h8
   unfold execOp
   simp only [h8]
   go_simp)),
     (step_ex _ rfl (.inl rfl) rfl (fun a ww hw hf hd => by
   have h9 : a.eval (.tmp 9) = Value.pointer (some ⟨p, 0, none⟩) := ((knows_in 1 9 (by decide) (by kernel_rfl) rfl rfl) : Knows _ _ _ _ _ _ 2 _ _) a ww hw hf hd
   revert h9
   generalize a.eval = ev
   intro h9
   unfold execOp
   simp only [h9]
   go_simp)),
     (step_ex _ rfl (.inl rfl) rfl (fun a ww hw hf hd => by
   have h10 : a.eval (.tmp 10) = Value.pointer (some ⟨p, 1, none⟩) := ((knows_in 2 10 (by decide) (by kernel_rfl) rfl rfl) : Knows _ _ _ _ _ _ 3 _ _) a ww hw hf hd
   have f0 : ww.cell? ⟨p, 1, none⟩ = some (Value.slice (some ⟨bk, 0, none⟩) n ck) := (hT2.next hw).blk.cell (i := 1) rfl
   revert h10
   generalize a.eval = ev
   intro h10
   unfold execOp
   simp only [h10]
   go_simp)),
     (step_ex _ rfl (.inl rfl) rfl (fun a ww hw hf hd => by
   have h4 : a.eval (.tmp 4) = Value.pointer (some ⟨w.heap.size, 0, none⟩) := ((knows_out 4 (by kernel_rfl) rfl) : Knows _ _ _ _ _ _ 4 _ _) a ww hw hf hd
   revert h4
   generalize a.eval = ev
   intro h4
   unfold execOp
   simp only [h4]
   go_simp)),
     (step_ex _ rfl (.inl rfl) rfl (fun a ww hw hf hd => by
   have h12 : a.eval (.tmp 12) = Value.pointer (some ⟨w.heap.size, 0, none⟩) := ((knows_in 4 12 (by decide) (by kernel_rfl) rfl rfl) : Knows _ _ _ _ _ _ 5 _ _) a ww hw hf hd
   have f0 : ww.cell? ⟨w.heap.size, 0, none⟩ = some (Value.int .i64 (N : Nat)) := by have h := ((hB2.next hw) 0 _ rfl).1; exact h
   revert h12
   generalize a.eval = ev
   intro h12
   unfold execOp
   simp only [h12]
   go_simp)),
     (step_ex _ rfl (.inl rfl) rfl (fun a ww hw hf hd => by
   have h11 : a.eval (.tmp 11) = Value.slice (some ⟨bk, 0, none⟩) n ck := ((knows_in 3 11 (by decide) (by kernel_rfl) rfl rfl) : Knows _ _ _ _ _ _ 6 _ _) a ww hw hf hd
   have h13 : a.eval (.tmp 13) = Value.int .i64 (N : Nat) := ((knows_in 5 13 (by decide) (by kernel_rfl) rfl rfl) : Knows _ _ _ _ _ _ 6 _ _) a ww hw hf hd
   have f0 := hN0
   have f1 := hN1
   revert h11 h13
   generalize a.eval = ev
   intro h11 h13
   unfold execOp
   simp only [h11, h13]
   go_simp)),
     (step_ex _ rfl (.inl rfl) rfl (fun a ww hw hf hd => by
   have h2 : a.eval (.tmp 2) = Value.int .i64 (m : Nat) := ((knows_out 2 (by kernel_rfl) rfl) : Knows _ _ _ _ _ _ 7 _ _) a ww hw hf hd
   revert h2
   generalize a.eval = ev
   intro h2
   unfold execOp
   simp only [h2]
   go_simp)),
     (step_two rfl (.inl rfl) (fun ev w hx hy _ => ex_slAt laidSec sizeSec arrSec Hm64.out rfl ev w hx hy) rfl (knows_in 6 14 (by decide) (by kernel_rfl) rfl rfl) (knows_in 7 15 (by decide) (by kernel_rfl) rfl rfl)),
     (step_ex _ rfl (.inl rfl) rfl (fun a ww hw hf hd => by
   have h4 : a.eval (.tmp 4) = Value.pointer (some ⟨w.heap.size, 0, none⟩) := ((knows_out 4 (by kernel_rfl) rfl) : Knows _ _ _ _ _ _ 9 _ _) a ww hw hf hd
   revert h4
   generalize a.eval = ev
   intro h4
   unfold execOp
   simp only [h4]
   go_simp)),
     (step_ex _ rfl (.inl rfl) rfl (fun a ww hw hf hd => by
   have h2 : a.eval (.tmp 2) = Value.int .i64 (m : Nat) := ((knows_out 2 (by kernel_rfl) rfl) : Knows _ _ _ _ _ _ 10 _ _) a ww hw hf hd
   revert h2
   generalize a.eval = ev
   intro h2
   unfold execOp
   simp only [h2]
   go_simp)),
     (step_two rfl (.inl rfl) (fun ev w hx hy _ => ex_slAt laidSec sizeSec arrSec Hm64.out rfl ev w hx hy) rfl (knows_in 9 17 (by decide) (by kernel_rfl) rfl rfl) (knows_in 10 18 (by decide) (by kernel_rfl) rfl rfl)), trivial⟩ ?_
  intro val W5 hw hS _ _
  have e8 : val 8 = Value.pointer (some ⟨p, 0, none⟩) := hS 0 8 (by decide) rfl
  have e9 : val 9 = Value.pointer (some ⟨p, 0, none⟩) := hS 1 9 (by decide) rfl
  have e10 : val 10 = Value.pointer (some ⟨p, 1, none⟩) := hS 2 10 (by decide) rfl
  have e11 : val 11 = Value.slice (some ⟨bk, 0, none⟩) n ck := hS 3 11 (by decide) rfl
  have e12 : val 12 = Value.pointer (some ⟨w.heap.size, 0, none⟩) := hS 4 12 (by decide) rfl
  have e13 : val 13 = Value.int .i64 (N : Nat) := hS 5 13 (by decide) rfl
  have e14 : val 14 = Value.pointer (some ⟨bk, N * 64, none⟩) := hS 6 14 (by decide) rfl
  have e15 : val 15 = Value.int .i64 (m : Nat) := hS 7 15 (by decide) rfl
  have e16 : val 16 = Value.slice (some ⟨bk, N * 64, none⟩) m 64 := hS 8 16 (by decide) rfl
  have e17 : val 17 = Value.pointer (some ⟨w.heap.size, 1, none⟩) := hS 9 17 (by decide) rfl
  have e18 : val 18 = Value.int .i64 (m : Nat) := hS 10 18 (by decide) rfl
  have e19 : val 19 = Value.slice (some ⟨w.heap.size, 1, none⟩) m 64 := hS 11 19 (by decide) rfl
  simp only [putVals, List.foldl_cons, List.foldl_nil, List.drop_succ_cons, List.drop_zero, Act.put, List.setIfInBounds_toArray, List.set_cons_succ, List.set_cons_zero, e8, e9, e10, e11, e12, e13, e14, e15, e16, e17, e18, e19]
  clear e8 e9 e10 e11 e12 e13 e14 e15 e16 e17 e18 e19 hS
  have hT5 := hT2.next hw
  have hC5 := hC2.next hw
  have hl5 : N < K.length := by rw [hT5.nK]; exact HN.out
  have hs64 := hT5.sK.get hs.out
  by_cases hm0 : m = 0
  · subst hm0
    have e : K.set N (tearS xd s 0) = K := by
      rw [tearS_zero]
      apply List.ext_getElem?
      intro j
      rw [set_get]
      split
      · rename_i h; rw [← h.1, hs.out]
      · rfl
    have he := hid e
    clear e
    refine wpList_copy_nothing rfl _ _ 32 32 rfl 5 (by kernel_rfl) infU8s _ _ _ _ _ _ rfl rfl rfl ?_
    go_wp2
    first | (refine bodyPost_end (results_none rfl _ _ _) rfl ?_) | (refine bodyPost_ret (results_none rfl _ _ _) rfl ?_)
    exact ⟨rfl, by rw [he.out]; exact hT5, hC5⟩
  · have hB5 := hB2.next hw
    have hR : Rw W5 bk (N * 64) (ints .u8 (s.take m)) := by
      have h := hT5.rK.sec hT5.sK hs.out
      rw [← List.take_append_drop m s, ints_app] at h
      exact h.left
    have hX : Nums W5 .u8 (some ⟨w.heap.size, 1, none⟩) (xd.take m) := by
      have h : Rw W5 w.heap.size 1 (ints .u8 xd) := Rw.right (us := ints .u8 xd) (vs := [.int .i64 (N : Int)]) hB5 rfl
      rw [← List.take_append_drop m xd, ints_app] at h
      exact h.left.nums
    have hT6 := hT5.keep (hT5.rK.tearSec hT5.sK hs.out HX.out Hm64.out) (by simp [hT5.nK]) (hT5.sK.set (tearS_length HX.out hs64 Hm64.out) N)
    have hC6 := hC5.setCells (b := bk) (.inl rfl) (N * 64) (ints .u8 (xd.take m)).toArray.toList
    refine wpList_copyR (m := m) (c := 64) (c' := 64) rfl _ _ 32 32 rfl (elem := 5) (by kernel_rfl) infU8s rfl rfl hR (by rw [ints_length]; simp; have := Hm64.out; omega) (by simp; have := Hm64.out; have := HX.out; omega) (by omega) hX ?_
    generalize W5.setCells bk (N * 64) (ints .u8 (xd.take m)).toArray.toList = W6 at *
    clear hT5 hC5 hR hX hB5 hB2 hT2 hC2 hw
    go_wp2
    first | (refine bodyPost_end (results_none rfl _ _ _) rfl ?_) | (refine bodyPost_ret (results_none rfl _ _ _) rfl ?_)
    exact ⟨rfl, hT6, hC6⟩
end Go.Proofs.Ytdfalneiapeegaa
