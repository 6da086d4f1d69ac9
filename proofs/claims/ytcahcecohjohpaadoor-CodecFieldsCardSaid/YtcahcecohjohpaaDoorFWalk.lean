/- A list's items by their kinds; made values: the walk. -/
import Derived.Test.YtcahcecohjohpaaDoorFNo
import Derived.Test.YtcahcecohjohpaaDoorLaid
namespace Go.Proofs.YtcahcecohjohpaaDoor
open Go Go.RowKit

set_option maxHeartbeats 1000000 in
set_option maxRecDepth 100000 in
theorem fields_many (k n : Int) (b : List Int) (l : List V) (A B : Option Addr) (c d : Nat) (k' n' : Int) (b' : List Int) (l' : List V) (A' B' : Option Addr) (c' d' : Nat) (K : Option Addr) (m : Nat) (ks : List Int) (w : World) (ht : Tabs w) (hf1 : Hid (fewV (.mk k n b l) = false)) (hH : Has w.heap.size w (.mk k n b l) A B) :
    Calls Tryd.prog 5 #[.agg #[.int .i64 k, .int .i64 n, .slice A b.length c, .slice B l.length d], .agg #[.int .i64 k', .int .i64 n', .slice A' b'.length c', .slice B' l'.length d'], .slice K ks.length m] w fun e w' => e = .returned (.bool true) ∧ Below w.heap.size w w' := by
  have hx := Box4.start w (.int .i64 k) (.int .i64 n) (.slice A b.length c) (.slice B l.length d) 25
  have hy := Box4.start (w.alloc (.cells #[.int .i64 k, .int .i64 n, .slice A b.length c, .slice B l.length d] 25)) (.int .i64 k') (.int .i64 n') (.slice A' b'.length c') (.slice B' l'.length d') 25
  have hx0 : Box4 w (.int .i64 k) (.int .i64 n) (.slice A b.length c) (.slice B l.length d) 25 ((w.alloc (.cells #[.int .i64 k, .int .i64 n, .slice A b.length c, .slice B l.length d] 25)).alloc (.cells #[.int .i64 k', .int .i64 n', .slice A' b'.length c', .slice B' l'.length d'] 25)) := hx.next (below_new _ _)
  have ht0 := ht.stay hx0.below
  go_enter Tryd.func5, Tryd.ntmps5
  go_wp2_with (first
    | (go_at_call 6; refine (awake_any _ ht0).mono ?_; rintro e w1 ⟨rfl, hb1⟩; have hx1 := hx0.next hb1; have hy1 := hy.next hb1; obtain ⟨c0, c1, c2, c3⟩ := hx1.cells; obtain ⟨c4, c5, c6, c7, c8⟩ := hy1.cells2)
    | (go_at_call 7; refine (few_any k n b l w.heap.size A B c d _ (hH.stay hx1.below)).mono ?_; rintro e w2 ⟨rfl, hb2⟩; rw [hf1.out]; have hx2 := hx1.next hb2; have hy2 := hy1.next hb2; obtain ⟨d0, d1, d2, d3⟩ := hx2.cells; obtain ⟨d4, d5, d6, d7, d8⟩ := hy2.cells2))
  go_ret
  exact ⟨rfl, hx2.below⟩
set_option maxHeartbeats 1000000 in
set_option maxRecDepth 100000 in
theorem fields_many2 (k n : Int) (b : List Int) (l : List V) (A B : Option Addr) (c d : Nat) (k' n' : Int) (b' : List Int) (l' : List V) (A' B' : Option Addr) (c' d' : Nat) (K : Option Addr) (m : Nat) (ks : List Int) (w : World) (ht : Tabs w) (hf1 : Hid (fewV (.mk k n b l) = true)) (hf2 : Hid (fewV (.mk k' n' b' l') = false)) (hH : Has w.heap.size w (.mk k n b l) A B) (hH' : Has w.heap.size w (.mk k' n' b' l') A' B') :
    Calls Tryd.prog 5 #[.agg #[.int .i64 k, .int .i64 n, .slice A b.length c, .slice B l.length d], .agg #[.int .i64 k', .int .i64 n', .slice A' b'.length c', .slice B' l'.length d'], .slice K ks.length m] w fun e w' => e = .returned (.bool true) ∧ Below w.heap.size w w' := by
  have hx := Box4.start w (.int .i64 k) (.int .i64 n) (.slice A b.length c) (.slice B l.length d) 25
  have hy := Box4.start (w.alloc (.cells #[.int .i64 k, .int .i64 n, .slice A b.length c, .slice B l.length d] 25)) (.int .i64 k') (.int .i64 n') (.slice A' b'.length c') (.slice B' l'.length d') 25
  have hx0 : Box4 w (.int .i64 k) (.int .i64 n) (.slice A b.length c) (.slice B l.length d) 25 ((w.alloc (.cells #[.int .i64 k, .int .i64 n, .slice A b.length c, .slice B l.length d] 25)).alloc (.cells #[.int .i64 k', .int .i64 n', .slice A' b'.length c', .slice B' l'.length d'] 25)) := hx.next (below_new _ _)
  have ht0 := ht.stay hx0.below
  go_enter Tryd.func5, Tryd.ntmps5
  go_wp2_with (first
    | (go_at_call 6; refine (awake_any _ ht0).mono ?_; rintro e w1 ⟨rfl, hb1⟩; have hx1 := hx0.next hb1; have hy1 := hy.next hb1; obtain ⟨c0, c1, c2, c3⟩ := hx1.cells; obtain ⟨c4, c5, c6, c7, c8⟩ := hy1.cells2)
    | (go_at_call 7; refine (few_any k' n' b' l' w.heap.size A' B' c' d' _ (hH'.stay hx2.below)).mono ?_; rintro e w3 ⟨rfl, hb3⟩; rw [hf2.out]; have hx3 := hx2.next hb3)
    | (go_at_call 7; refine (few_any k n b l w.heap.size A B c d _ (hH.stay hx1.below)).mono ?_; rintro e w2 ⟨rfl, hb2⟩; rw [hf1.out]; have hx2 := hx1.next hb2; have hy2 := hy1.next hb2; obtain ⟨d0, d1, d2, d3⟩ := hx2.cells; obtain ⟨d4, d5, d6, d7, d8⟩ := hy2.cells2))
  go_ret
  exact ⟨rfl, hx3.below⟩
set_option maxHeartbeats 1000000 in
set_option maxRecDepth 100000 in
theorem fields_long (k n : Int) (b : List Int) (l : List V) (A B : Option Addr) (c d : Nat) (k' n' : Int) (b' : List Int) (l' : List V) (A' B' : Option Addr) (c' d' : Nat) (K : Option Addr) (m : Nat) (ks : List Int) (w : World) (ht : Tabs w) (hf1 : Hid (fewV (.mk k n b l) = true)) (hf2 : Hid (fewV (.mk k' n' b' l') = true)) (hH : Has w.heap.size w (.mk k n b l) A B) (hH' : Has w.heap.size w (.mk k' n' b' l') A' B') (hl : 20 < ks.length) :
    Calls Tryd.prog 5 #[.agg #[.int .i64 k, .int .i64 n, .slice A b.length c, .slice B l.length d], .agg #[.int .i64 k', .int .i64 n', .slice A' b'.length c', .slice B' l'.length d'], .slice K ks.length m] w fun e w' => e = .returned (.bool true) ∧ Below w.heap.size w w' := by
  have hli : (20 : Int) < ks.length := by omega
  have hx := Box4.start w (.int .i64 k) (.int .i64 n) (.slice A b.length c) (.slice B l.length d) 25
  have hy := Box4.start (w.alloc (.cells #[.int .i64 k, .int .i64 n, .slice A b.length c, .slice B l.length d] 25)) (.int .i64 k') (.int .i64 n') (.slice A' b'.length c') (.slice B' l'.length d') 25
  have hx0 : Box4 w (.int .i64 k) (.int .i64 n) (.slice A b.length c) (.slice B l.length d) 25 ((w.alloc (.cells #[.int .i64 k, .int .i64 n, .slice A b.length c, .slice B l.length d] 25)).alloc (.cells #[.int .i64 k', .int .i64 n', .slice A' b'.length c', .slice B' l'.length d'] 25)) := hx.next (below_new _ _)
  have ht0 := ht.stay hx0.below
  go_enter Tryd.func5, Tryd.ntmps5
  go_wp2_with (first
    | (go_at_call 6; refine (awake_any _ ht0).mono ?_; rintro e w1 ⟨rfl, hb1⟩; have hx1 := hx0.next hb1; have hy1 := hy.next hb1; obtain ⟨c0, c1, c2, c3⟩ := hx1.cells; obtain ⟨c4, c5, c6, c7, c8⟩ := hy1.cells2)
    | (go_at_call 7; refine (few_any k' n' b' l' w.heap.size A' B' c' d' _ (hH'.stay hx2.below)).mono ?_; rintro e w3 ⟨rfl, hb3⟩; rw [hf2.out]; have hx3 := hx2.next hb3)
    | (go_at_call 7; refine (few_any k n b l w.heap.size A B c d _ (hH.stay hx1.below)).mono ?_; rintro e w2 ⟨rfl, hb2⟩; rw [hf1.out]; have hx2 := hx1.next hb2; have hy2 := hy1.next hb2; obtain ⟨d0, d1, d2, d3⟩ := hx2.cells; obtain ⟨d4, d5, d6, d7, d8⟩ := hy2.cells2))
  go_ret
  exact ⟨rfl, hx3.below⟩
theorem codecFields_walk (w : World) (ht : Tabs w) (k n : Int) (b : List Int) (l : List V) (A B : Option Addr) (c d : Nat) (hH : Has w.heap.size w (.mk k n b l) A B) (k' n' : Int) (b' : List Int) (l' : List V) (A' B' : Option Addr) (c' d' : Nat) (hH' : Has w.heap.size w (.mk k' n' b' l') A' B')
    (K : Option Addr) (m : Nat) (ks : List Int) (_ : ks.length ≤ m) (_ : m ≤ maxLen) (_ : ∀ x ∈ ks, (Lit.int .i64 x).wf = true) (hK : Nums w .i64 K ks) :
    Calls Tryd.prog 5 #[.agg #[.int .i64 k, .int .i64 n, .slice A b.length c, .slice B l.length d], .agg #[.int .i64 k', .int .i64 n', .slice A' b'.length c', .slice B' l'.length d'], .slice K ks.length m] w fun e w' => e = .returned (.bool true) ∧ Below w.heap.size w w' := by
  cases hf1 : fewV (.mk k n b l) with
  | false => exact fields_many k n b l A B c d k' n' b' l' A' B' c' d' K m ks w ht (hid hf1) hH
  | true =>
    cases hf2 : fewV (.mk k' n' b' l') with
    | false => exact fields_many2 k n b l A B c d k' n' b' l' A' B' c' d' K m ks w ht (hid hf1) (hid hf2) hH hH'
    | true =>
      by_cases hl : 20 < ks.length
      · exact fields_long k n b l A B c d k' n' b' l' A' B' c' d' K m ks w ht (hid hf1) (hid hf2) hH hH' hl
      · by_cases hy : k = 3 ∧ kindsB l ks = true
        · exact fields_yes k n b l A B c d k' n' b' l' A' B' c' d' K m ks w ht (hid hf1) (hid hf2) hH hH' (by omega) hK hy.1 (hid hy.2)
        · exact fields_no k n b l A B c d k' n' b' l' A' B' c' d' K m ks w ht (hid hf1) (hid hf2) hH hH' (by omega) hK (hid hy) _ _ rfl rfl
theorem tabs_rowF {W : World} (h : laidMetH Tryd.prog Rows.codecFieldsRow.laid W) : Tabs W := tabs_of h
end Go.Proofs.YtcahcecohjohpaaDoor
