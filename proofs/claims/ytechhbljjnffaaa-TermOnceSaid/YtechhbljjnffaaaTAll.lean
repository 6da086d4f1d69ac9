/- All: the iterator over a store's terms, by its contract. -/
import Derived.Test.YtechhbljjnffaaaTRSize
import Derived.RangeFuncKeeps
import Derived.RangeFuncNested
import Derived.Sort.CutIn
namespace Go.Proofs.Ytechhbljjnffaaa
open Go Go.RowKit Go.Maps

attribute [local go_sem] Oper.semAt_some

/-- Block g lies as it lay. -/
def KpG (g : Option Nat) (W W' : World) : Prop := ∀ b, g = some b → W'.heap[b]? = W.heap[b]?
set_option maxRecDepth 50000 in
theorem KpG.t {g : Option Nat} {A B C : World} (h : KpG g A B) (k : KpG g B C) : KpG g A C := fun b e => (k b e).trans (h b e)
set_option maxRecDepth 50000 in
theorem KpG.b {g : Option Nat} {n : Nat} (hg : ∀ b, g = some b → b < n) (W : World) (l : Nat) (o o' : Obj) (hl : n ≤ l) : KpG g W (W.putObj l o') := fun b e => World.putObj_heap_other (by have := hg b e; omega)
/-- The terms of a row, as cells. -/
def TCells (W : World) (A : Option Addr) (L : List T3) : Prop := ∀ (i : Nat) t, L[i]? = some t → ∃ g, A = some ⟨g, 0, none⟩ ∧ W.rangeAt g (i * 3) (tc t)
set_option maxRecDepth 50000 in
theorem tcells_of {W : World} {A : Option Addr} {L : List T3} (h : TRow W A L) : TCells W A L := fun i t hi => by
  obtain ⟨g, e, hg, hc⟩ := h (by have := get_lt hi; omega)
  obtain ⟨x0, x1, x2⟩ := hc i t hi
  refine ⟨g, e, fun j v hj => ?_⟩
  match j, hj with
  | 0, hj => simp [tc] at hj; subst hj; exact x0
  | 1, hj => simp [tc] at hj; subst hj; exact x1
  | 2, hj => simp [tc] at hj; subst hj; exact x2
  | n + 3, hj => simp [tc] at hj
set_option maxRecDepth 50000 in
theorem TCells.next {W W' : World} {A : Option Addr} {L : List T3} (h : TCells W A L) (hb : Below W.heap.size W W') : TCells W' A L := fun i t hi => by
  obtain ⟨g, e, hr⟩ := h i t hi
  exact ⟨g, e, rng_next hr hb⟩
set_option maxRecDepth 50000 in
theorem TCells.kp {W W' : World} {A : Option Addr} {L : List T3} (h : TCells W A L) (hk : KpG (A.map (·.block)) W W') : TCells W' A L := fun i t hi => by
  obtain ⟨g, rfl, hr⟩ := h i t hi
  refine ⟨g, rfl, fun j v hj => ?_⟩
  rw [World.cell?_of_block (a := ⟨g, i * 3 + j, none⟩) (hk g rfl)]
  exact hr j v hj
/-- What a round is handed. -/
def encT (L : List T3) (x : Fin L.length) : Array Value := #[.int .i64 (x.val : Int), tv (L[x.val]'x.2)]
def upTo {n : Nat} (xs : List (Fin n)) : Prop := xs.map (·.val) = List.range xs.length

set_option maxRecDepth 50000 in
set_option maxHeartbeats 1000000 in
theorem all_any (p n c : Nat) (A : Option Addr) (w : World) (c0 : w.cell? ⟨p, 0, none⟩ = some (.bool true)) (c1 : w.cell? ⟨p, 1, none⟩ = some (.slice A n c)) :
    Calls Try.prog 10 #[.pointer (some ⟨p, 0, none⟩)] w fun e w' => e = .returned (.func (.func 23) #[] #[.pointer (some ⟨w.heap.size, 0, none⟩)]) ∧ Blk w' w.heap.size 28 [.slice A n c] ∧ Below w.heap.size w w' := by
  obtain ⟨W, hW⟩ : ∃ W, w.alloc (.cells #[.slice none 0 0] 28) = W := ⟨_, rfl⟩
  have hn0 := below_new w (.cells #[.slice none 0 0] 28)
  have hB0 := Blk.new w 28 [.slice none 0 0]
  have e0 : w.alloc (.cells [Value.slice none 0 0].toArray 28) = W := hW
  rw [hW] at hn0
  rw [e0] at hB0
  have d0 := cellB c0 hn0
  have d1 := cellB c1 hn0
  have b0 := hB0.cell (i := 0) rfl
  have b1 := hB0.free 0
  have hB1 := hB0.set 0 (.slice A n c)
  have hb1 : Below w.heap.size w (W.setCell ⟨w.heap.size, 0, none⟩ (.slice A n c)) := hn0.setCell (Nat.le_refl _) _
  have HW := hid hW
  have HB := hid hb1
  have HB1 := hid hB1
  clear c0 c1 hW e0 hB0 hn0 hB1 hb1
  go_enter Try.func10, Try.ntmps10
  go_upto_region 2 with (fail)
  rw [HW.out]
  go_wp2_with (go_at_call 22; refine (exists_any p _ d0).mono ?_; rintro e w2 ⟨rfl, rfl⟩)
  go_ret
  exact ⟨rfl, HB1.out, HB.out⟩
set_option maxRecDepth 50000 in
set_option maxHeartbeats 1000000 in
theorem all_nil (w : World) :
    Calls Try.prog 10 #[.pointer none] w fun e w' => e = .returned (.func (.func 23) #[] #[.pointer (some ⟨w.heap.size, 0, none⟩)]) ∧ w' = w.alloc (.cells #[.slice none 0 0] 28) := by
  go_enter Try.func10, Try.ntmps10
  go_wp2_with (go_at_call 22; refine (exists_nil _).mono ?_; rintro e w2 ⟨rfl, rfl⟩)
  go_ret
  exact ⟨rfl, rfl⟩
set_option maxRecDepth 50000 in
theorem upTo_snoc {n : Nat} {xs : List (Fin n)} {m : Nat} (h : upTo xs) (hm : xs.length = m) (hl : m < n) : upTo (xs ++ [⟨m, hl⟩]) := by
  unfold upTo at *
  rw [List.map_append, h, List.length_append, hm]
  simp [List.range_succ]
set_option maxRecDepth 50000 in
set_option maxHeartbeats 4000000 in
theorem all1_in (n : Nat) (hn1 : 1 ≤ n) (l b c : Nat) (A : Option Addr) (L : List T3) (J Jx : List (Fin L.length) → World → Prop) (W0 : World) (hL : L.length ≤ 40)
    (hJ : AbidesFrom W0.heap.size J)
    (hY : ∀ pre x W, J pre W → pre.length < L.length → YieldAt Fence.wide (n - 1) Try.prog l (encT L x) W fun e W' =>
      (e = .returned (.bool true) ∧ J (pre ++ [x]) W' ∧ KpG (A.map (·.block)) W W') ∨ (e = .returned (.bool false) ∧ Jx (pre ++ [x]) W'))
    (hcc : W0.cell? ⟨b, 0, none⟩ = some (.slice A L.length c)) (hA : TCells W0 A L) (hJ0 : J [] W0) :
    Calls Try.prog 23 #[.func (.yield l) #[] #[], .pointer (some ⟨b, 0, none⟩)] W0 fun e W' => (∃ v, e = .returned v) ∧
      ((∃ xs, (xs.length = L.length ∧ upTo xs) ∧ J xs W') ∨ (∃ pre, upTo pre ∧ Jx pre W')) := by
  have hJn : ∀ pre A B, J pre A → Below A.heap.size A B → J pre B := fun pre A B h hb => hJ pre A B none h (grown_of_below hb none) (fun r e => by cases e)
  have hL2 : (L.length : Int) ≤ 40 := by omega
  clear hJ hL
  go_enter Try.func23, Try.ntmps23
  go_wp2
  refine (wpIn_wide (n := n)).1 ?_
  gi_loopw [7] (fun v wr => ∃ (m : Nat) (pre : List (Fin L.length)), m ≤ L.length ∧ v = .int .i64 m ∧ pre.length = m ∧ Hid (upTo pre) ∧ J pre wr ∧ TCells wr A L) (fun i _ => L.length - (intOf i).toNat)
  case atStart => exact ⟨0, [], Nat.zero_le _, rfl, rfl, hid rfl, hJ0, hA⟩
  case round =>
    clear hJ0 hcc hA
    obtain ⟨m, pre, hm, rfl, hpl, HU, hJr, hAr⟩ := hrel
    by_cases hlt : m < L.length
    · have hlt' : (m : Int) < L.length := by omega
      have hm0 : (0 : Int) ≤ m := by omega
      have hm1 : m + 1 ≤ L.length := by omega
      obtain ⟨g, rfl, hr⟩ := hAr m (L[m]'hlt) (by simp [hlt])
      obtain ⟨k, a, bb, htt⟩ : ∃ k a bb, L[m]'hlt = (k, a, bb) := ⟨_, _, _, rfl⟩
      have x0 : wr.cell? ⟨g, m * 3, none⟩ = some (.int .i64 k) := by have := hr 0 (.int .i64 (L[m]'hlt).1) rfl; rw [htt] at this; exact this
      have x1 : wr.cell? ⟨g, m * 3 + 1, none⟩ = some (.int .i64 a) := by have := hr 1 (.int .i64 (L[m]'hlt).2.1) rfl; rw [htt] at this; exact this
      have x2 : wr.cell? ⟨g, m * 3 + 2, none⟩ = some (.int .i64 bb) := by have := hr 2 (.int .i64 (L[m]'hlt).2.2) rfl; rw [htt] at this; exact this
      obtain ⟨W5, hW5, y0, y1, y2, hb5, hB5⟩ := term_world (k, a, bb) wr
      dsimp only at hW5 y0 y1 y2
      have HW5 := hid hW5
      have hJ5 := hJn pre wr W5 hJr hb5
      have hA5 := hAr.next hb5
      obtain ⟨fn, tmps, assign, body, hyl, hR⟩ := hY pre ⟨m, hlt⟩ W5 hJ5 (by omega)
      unfold encT at hyl
      dsimp only at hyl
      rw [htt] at hyl
      unfold tv at hyl
      dsimp only at hyl
      have HU2 := hid (upTo_snoc HU.out hpl hlt)
      have hpl2 : (pre ++ [(⟨m, hlt⟩ : Fin L.length)]).length = m + 1 := by simp [hpl]
      clear hr hW5 hJr hAr hb5 hB5 hJ5 htt hm hpl
      gi_upto_region 3 with (fail)
      rw [HW5.out]
      clear x0 x1 x2 HW5
      gi_wp2
      refine hR.mono ?_
      rintro e W3 (⟨rfl, hJ3, hk3⟩ | ⟨rfl, hJx3⟩)
      · have hA3 := hA5.kp hk3
        clear hR hyl y0 y1 y2 hk3 hA5
        gi_wp2
        go_roundw
        case rel => exact ⟨m + 1, pre ++ [⟨m, hlt⟩], hm1, by go_num, hpl2, HU2, hJ3, hA3⟩
        case measure => simp [intOf]; omega
      · clear hR hyl y0 y1 y2 hA5
        gi_wp2
        refine bodyPost_ret (results_none rfl _ _ _) rfl ?_
        exact ⟨⟨_, rfl⟩, .inr ⟨_, HU2.out, hJx3⟩⟩
    · have hge : ¬ (m : Int) < L.length := by omega
      have e : pre.length = L.length := by omega
      have HE := hid e
      clear e hpl hm hlt
      gi_wp2
      first | go_end0 | (refine bodyPost_end (results_none rfl _ _ _) rfl ?_)
      exact ⟨⟨_, rfl⟩, .inl ⟨pre, ⟨HE.out, HU.out⟩, hJr⟩⟩
end Go.Proofs.Ytechhbljjnffaaa
