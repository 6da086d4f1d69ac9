/- Whether a number of two words is at most a root. -/
import Derived.Test.YtjgojbjehedpaaaDoorMost
import Derived.Test.YtjgojbjehedpaaaDoorSum
namespace Go.Proofs.YtjgojbjehedpaaaDoor
open Go.RowKit
theorem built66 (a b : Int) : Tryd.prog.built 66 [(0, .int .u64 a), (1, .int .u64 b)] = some (ints .u64 [a, b, 0, 0]).toArray := by kernel_rfl
/-- Powers by the code's product: the first is the number. -/
def pw (x : List Nat) : Nat → List Nat
  | 0 => x
  | n + 1 => tms (pw x n) x
theorem pw_good (x : List Nat) (lx : x.length = 4) (hx : Words x) (n : Nat) : (pw x n).length = 4 ∧ Words (pw x n) := by
  induction n with
  | zero => exact ⟨lx, hx⟩
  | succ n ih => exact ⟨tms_length _ _, tms_words _ _ ih.2 hx⟩
theorem pw_val (x : List Nat) (lx : x.length = 4) (hx : Words x) (n : Nat) : val x ^ (n + 1) < 18446744073709551616 ^ 4 → 0 < val x → val (pw x n) = val x ^ (n + 1) := by
  induction n with
  | zero => intro _ _; simp [pw]
  | succ n ih =>
    intro h h0
    have h1 : val x ^ (n + 1) ≤ val x ^ (n + 2) := Nat.pow_le_pow_right h0 (by omega)
    have e := ih (Nat.lt_of_le_of_lt h1 h) h0
    obtain ⟨l1, w1⟩ := pw_good x lx hx n
    show val (tms (pw x n) x) = _
    rw [tms_val _ _ l1 lx w1 hx, e, ← Nat.pow_succ, Nat.mod_eq_of_lt h]
def two (whole part : Nat) : List Nat := [part, whole, 0, 0]
def lim (p k : Nat) : List Nat := [0, 0, 0, 0].set k p

theorem there4 (w : World) (l : List Int) (h : l.length = 4) : (w.alloc (.cells (ints .u64 (zeros 4)).toArray 66)).there w.heap.size 0 (ints .u64 l).toArray.size := by
  have := (Arr.made w .u64 (zeros 4) 66).there
  simpa [zeros, h] using this
theorem made4 (w : World) (l : List Int) (h : l.length = 4) : Arr ((w.alloc (.cells (ints .u64 (zeros 4)).toArray 66)).setCells w.heap.size 0 (ints .u64 l).toArray.toList) w.heap.size 0 .u64 l := by
  have h := (Arr.made w .u64 (zeros 4) 66).all (ys := l) (by simp [zeros, h])
  simpa using h
theorem Arr.there4 {w : World} {b : Nat} {l l' : List Int} (h : Arr w b 0 .u64 l) (e : l.length = 4) (e' : l'.length = 4) : w.there b 0 (ints .u64 l').toArray.size := by
  have := h.there
  simpa [e, e'] using this

set_option maxRecDepth 4000 in
set_option maxHeartbeats 1000000 in
theorem fits_walk (whole part p k : Nat) (w : World) (hw : whole < 18446744073709551616) (hpt : part < 18446744073709551616) (hp : p < 9223372036854775808) (hk : 2 ≤ k ∧ k ≤ 3) :
    Calls Tryd.prog 26 #[.int .u64 whole, .int .u64 part, .int .i64 p, .int .i64 k] w fun e w' => e = .returned (.bool (decide (val (pw (two whole part) (k - 1)) ≤ val (lim p k)))) ∧ Below w.heap.size w w' := by
  obtain ⟨z66, s66⟩ := zero_of_info Tryd.info66
  have HW : Hid (Words (two whole part)) := hid (by intro v hv; simp [two] at hv; omega)
  have HL : Hid ((two whole part).length = 4) := hid rfl
  have HB : ∀ q : List Int, q.length = 4 → (Tryd.prog.info? 66).map (·.size) = some (ints .u64 q).toArray.size := fun q hq => by rw [s66]; simp [hq]
  have HB2 : ∀ q : List Int, q.length = 4 → (Tryd.prog.info? 66).map (·.size) = some (ints .u64 q).length := fun q hq => by rw [s66]; simp [hq]
  have hzl : (zeros 4).length = 4 := rfl
  have hset : (((ints .u64 (zeros 4)).set 0 (.int .u64 (part : Int))).set 1 (.int .u64 (whole : Int))).toArray = (ints .u64 (nl (two whole part))).toArray := rfl
  have l4 : Hid ((nl (two whole part)).length = 4) := hid rfl
  have hA := made4 w (nl (two whole part)) l4.out
  have hBl : Below w.heap.size w ((w.alloc (.cells (ints .u64 (zeros 4)).toArray 66)).setCells w.heap.size 0 (ints .u64 (nl (two whole part))).toArray.toList) := Below.setCells (below_new _ _) (Nat.le_refl _) _ _
  generalize two whole part = x at *
  go_enter Tryd.func26, Tryd.ntmps26
  go_wp2_with (first
    | (with_reducible refine wpList_store_mid (op := ⟨none, .store 66 (.tmp 9) (.tmp 14), _, _, _, _⟩) rfl 66 (.tmp 9) (.tmp 14) rfl w.heap.size 0 (ints .u64 (nl x)).toArray rfl rfl (there4 _ _ l4.out) (HB _ l4.out) (ints_all _ _) ?_; generalize (w.alloc (.cells (ints .u64 (zeros 4)).toArray 66)).setCells w.heap.size 0 (ints .u64 (nl x)).toArray.toList = W1 at *)
    | (with_reducible refine wpList_load_mid (op := ⟨some 15, .load 66 (.tmp 9), _, _, _, _⟩) rfl 66 (.tmp 9) rfl w.heap.size 0 rfl (ints .u64 (nl x)) _ hA.range Tryd.underlying66 rfl (HB2 _ l4.out) ?_)
    | (with_reducible refine wpList_store_mid (op := ⟨none, .store 66 (.tmp 10) (.tmp 15), _, _, _, _⟩) rfl 66 (.tmp 10) (.tmp 15) rfl W1.heap.size 0 (ints .u64 (nl x)).toArray rfl rfl (there4 _ _ l4.out) (HB _ l4.out) (ints_all _ _) ?_))
  have hx0 : w.heap.size < W1.heap.size := hA.lt (by rw [l4.out]; omega)
  have hA1 := (hA.alloc (.cells (ints .u64 (zeros 4)).toArray 66)).past (b' := W1.heap.size) (o' := 0) (ints .u64 (nl x)).toArray.toList (.inl (by omega))
  have hY := made4 W1 (nl x) l4.out
  have hB1 := Below.setCells (hBl.alloc (by omega) (.cells (ints .u64 (zeros 4)).toArray 66)) (g := W1.heap.size) (by omega) 0 (ints .u64 (nl x)).toArray.toList
  generalize ((W1.alloc (.cells (ints .u64 (zeros 4)).toArray 66)).setCells W1.heap.size 0 (ints .u64 (nl x)).toArray.toList) = W2 at *
  obtain ⟨g, hg⟩ : ∃ g, g = W1.heap.size := ⟨_, rfl⟩
  rw [← hg] at hY hx0 ⊢
  clear hg hA hBl
  have hkw : IntKind.i64.wrap ((k : Int) - 1) = (k : Int) - 1 := IntWalk.i64_in _ (by omega)
  go_wp2
  go_loopw [18] (fun i wr => ∃ j : Nat, j + 1 ≤ k ∧ i = .int .i64 j ∧ Below w.heap.size w wr ∧ Arr wr w.heap.size 0 .u64 (nl x) ∧ Arr wr g 0 .u64 (nl (pw x j))) (fun i _ => 4 - (intOf i).toNat)
  case atStart => exact ⟨0, by omega, rfl, hB1, hA1, hY⟩
  case round =>
    obtain ⟨j, hj, rfl, hB, hA, hY⟩ := hrel
    by_cases hlt : j + 1 < k
    · have hjk : (j : Int) < k - 1 := by omega
      have hp4 := hid (pw_good x HL.out HW.out j)
      have hP' : Hid (pw x (j + 1) = tms (pw x j) x) := hid rfl
      generalize pw x j = y at *
      have ly : Hid ((nl y).length = 4) := hid (by rw [nl_length]; exact hp4.out.1)
      have lt : Hid ((nl (tms y x)).length = 4) := hid (by rw [nl_length, tms_length])
      rename World => W3
      go_wp2_with (first
        | (with_reducible refine wpList_load_mid (op := ⟨some 20, .load 66 (.tmp 10), _, _, _, _⟩) rfl 66 (.tmp 10) rfl g 0 rfl (ints .u64 (nl y)) _ hY.range Tryd.underlying66 rfl (HB2 _ ly.out) ?_)
        | (with_reducible refine wpList_load_mid (op := ⟨some 21, .load 66 (.tmp 9), _, _, _, _⟩) rfl 66 (.tmp 9) rfl w.heap.size 0 rfl (ints .u64 (nl x)) _ hA.range Tryd.underlying66 rfl (HB2 _ l4.out) ?_)
        | (go_at_call 31; refine (times_any y x _ hp4.out.1 HL.out hp4.out.2 HW.out).mono ?_; rintro e w4 ⟨rfl, hb4⟩; have hg4 := hY.lt (by rw [ly.out]; omega); replace hA := hA.below hb4 (by omega); replace hY := hY.below hb4 hg4; replace hB := hB.trans (hb4.mono (by have := hB.size; omega)))
        | (with_reducible refine wpList_store_mid (op := ⟨none, .store 66 (.tmp 10) (.tmp 22), _, _, _, _⟩) rfl 66 (.tmp 10) (.tmp 22) rfl g 0 (ints .u64 (nl (tms y x))).toArray rfl rfl (hY.there4 ly.out lt.out) (HB _ lt.out) (ints_all _ _) ?_))
      go_roundw
      case rel =>
        refine ⟨j + 1, by omega, by go_num, Below.setCells hB (by omega) _ _, hA.past _ (.inl (by omega)), ?_⟩
        have h := hY.all (ys := nl (tms y x)) (by rw [lt.out, ly.out])
        rw [hP'.out]
        exact h
      case measure => simp [intOf]; omega
    · have e : j = k - 1 := by omega
      have hjk : ¬ (j : Int) < k - 1 := by omega
      subst e
      have hp4 := hid (pw_good x HL.out HW.out (k - 1))
      generalize hyy : pw x (k - 1) = y at *
      have HYY := hid hyy
      clear hyy
      have ly : Hid ((nl y).length = 4) := hid (by rw [nl_length]; exact hp4.out.1)
      have hcv : IntKind.u64.wrap (p : Int) = p := IntWalk.u64_in _ (by omega)
      have hk0 : (0 : Int) ≤ k := by omega
      have hk4 : (k : Int) < 4 := by omega
      have ez : (ints .u64 (zeros 4)).set k (.int .u64 (p : Int)) = ints .u64 (nl (lim p k)) := by
        have : k = 2 ∨ k = 3 := by omega
        rcases this with rfl | rfl <;> rfl
      obtain ⟨cz, hcz, hfz, _⟩ := (Arr.made wr .u64 (zeros 4) 66).spot (i := k) (by rw [hzl]; omega)
      rw [Nat.zero_add] at hcz hfz
      have hgl := hY.lt (by rw [ly.out]; omega)
      have ll : Hid ((lim p k).length = 4) := hid (by simp [lim])
      have lz : Hid ((nl (lim p k)).length = 4) := hid (by simp [ll.out])
      have wz : Hid (Words (lim p k)) := hid (by
        have : k = 2 ∨ k = 3 := by omega
        intro v hv
        rcases this with rfl | rfl <;> (simp [lim] at hv; omega))
      have hkn : k < (zeros 4).length := by rw [hzl]; omega
      generalize hlm : lim p k = lm at *
      have HLM := hid hlm
      clear hlm
      have hZ1 := Arr.made wr .u64 (nl lm) 66
      have hY1 := hY.alloc (.cells (ints .u64 (nl lm)).toArray 66)
      have hBz := hB.alloc hB.size (.cells (ints .u64 (nl lm)).toArray 66)
      clear hA hA1 hB1 hY
      go_wp2_with (first
        | (with_reducible refine wpList_load_mid (op := ⟨some 28, .load 66 (.tmp 10), _, _, _, _⟩) rfl 66 (.tmp 10) rfl g 0 rfl (ints .u64 (nl y)) _ hY1.range Tryd.underlying66 rfl (HB2 _ ly.out) ?_)
        | (with_reducible refine wpList_load_mid (op := ⟨some 29, .load 66 (.tmp 11), _, _, _, _⟩) rfl 66 (.tmp 11) rfl wr.heap.size 0 rfl (ints .u64 (nl lm)) _ hZ1.range Tryd.underlying66 rfl (HB2 _ lz.out) ?_)
        | (go_at_call 32; refine (most_any y lm _ hp4.out.1 ll.out hp4.out.2 wz.out).mono ?_; rintro e w4 ⟨rfl, hb4⟩))
      go_ret
      exact ⟨by show Ending.returned (.bool (decide (val y ≤ val lm))) = _; rw [HYY.out, HLM.out], hBz.trans (hb4.mono (by simp; have := hB.size; omega))⟩

theorem fits_any (whole part p k : Nat) (w : World) (hw : whole < 18446744073709551616) (hpt : part < 18446744073709551616) (hp : p < 9223372036854775808) (hk : 2 ≤ k ∧ k ≤ 3) (h0 : 0 < whole * 18446744073709551616 + part) (hn : (whole * 18446744073709551616 + part) ^ k < 18446744073709551616 ^ 4) :
    Calls Tryd.prog 26 #[.int .u64 whole, .int .u64 part, .int .i64 p, .int .i64 k] w fun e w' => e = .returned (.bool (decide ((whole * 18446744073709551616 + part) ^ k ≤ p * 18446744073709551616 ^ k))) ∧ Below w.heap.size w w' := by
  have e1 : val (two whole part) = whole * 18446744073709551616 + part := by simp [two, val]; omega
  have e2 : val (pw (two whole part) (k - 1)) = (whole * 18446744073709551616 + part) ^ k := by
    rw [← e1] at hn h0 ⊢
    have ek : k - 1 + 1 = k := by omega
    rw [pw_val _ rfl (by intro v hv; simp [two] at hv; omega) (k - 1) (by rw [ek]; exact hn) h0, ek]
  have e3 : val (lim p k) = p * 18446744073709551616 ^ k := by
    have : k = 2 ∨ k = 3 := by omega
    rcases this with rfl | rfl <;> (simp [lim, val]; omega)
  have h := fits_walk whole part p k w hw hpt hp hk
  rw [e2, e3] at h
  exact h
end Go.Proofs.YtjgojbjehedpaaaDoor
