/- The head of a value's bytes is written. -/
import Derived.Test.YtcahcecohjohpaaDoorApp
import Derived.Test.YtcahcecohjohpaaDoorSize
import Derived.Test.YtcahcecohjohpaaDoorWPubPut
namespace Go.Proofs.YtcahcecohjohpaaDoor
open Go.RowKit

/-- What is behind a call that adds ys to the row (A, n, c) of the call's own, which held xs. -/
def Adds (base : Nat) (A : Option Addr) (n c : Nat) (xs ys : List Int) (w : World) (e : Ending) (w' : World) : Prop :=
  ∃ A' n' c', e = .returned (.slice A' n' c') ∧ Owns w' base 5 .u8 (.slice A' n' c') (xs ++ ys) ∧ Grew w w' (.slice A n c) (.slice A' n' c')

set_option maxHeartbeats 400000 in
theorem head_any (k : Int) (A : Option Addr) (m c : Nat) (xs : List Int) (n : Int) (base : Nat) (w : World) (hk : k = 1 ∨ k = 2 ∨ k = 3) (ht : Tabs w) (hbase : base ≤ w.heap.size) (hO : Owns w base 5 .u8 (.slice A m c) xs) (hx : xs.length ≤ 2000000) :
    Calls Tryd.prog 38 #[.slice A m c, .int .i64 k, .int .i64 n] w (Adds base A m c xs (k :: pbytes true n (wid k)) w) := by
  obtain ⟨hw1, ⟨g1, g2, g3⟩, _⟩ := ht
  have hpl := pbytes_length true n (wid k)
  have hm := hO.len
  have HM := hid hm
  clear hm
  clear hpl
  rcases hk with rfl | rfl | rfl
  · have HW : Hid (wid 1 = 1) := hid rfl
    go_enter Tryd.func38, Tryd.ntmps38
    go_wp2_with (first
      | (go_at_call 37; refine (wPut_any n 1 _).mono ?_; rintro e w1 ⟨B1, d1, ys1, E1, rfl, HY1, HE1, hN1, hb1⟩; have hy8 : ys1.length ≤ 8 := (by rw [HY1.out]; exact pbytes_length _ _ _); have hO1 := hO.stay hb1; have hbs := hb1.size)
      | (at_builtin; refine app_nums rfl (.tmp 21) (.tmp 22) 22 rfl base 5 .u8 1 Tryd.underlying22 Tryd.info5 (by omega) A2 n2 c2 (xs ++ [1]) rfl hO2 B1 d1 ys1 rfl hN2 (by simp; omega) hbase2 ?_; intro A3 n3 c3 w3 hO3 hG3)
      | (at_builtin; refine app_nums rfl (.tmp 17) (.tmp 20) 22 rfl base 5 .u8 1 Tryd.underlying22 Tryd.info5 (by omega) A m c xs rfl (hO1.alloc _) _ 1 [1] rfl (nums_one _ _ _ _) (by simp; omega) (by simp; omega) ?_; intro A2 n2 c2 w2 hO2 hG2; have hN2 : Nums w2 .u8 B1 ys1 := (hN1.far (fun g hg => (hO.lt g hg).2) (newB (Below.refl _ _) _) hG2).nums; have hbase2 : base ≤ w2.heap.size := (by have := hG2.1.size; simp at this; omega)))
    go_ret
    refine ⟨A3, n3, c3, rfl, ?_, ?_⟩
    · rw [List.append_assoc, HY1.out] at hO3; exact hO3
    · exact (Grew.after (newB hb1 _) hG2).trans hG3
  · have HW : Hid (wid 2 = 3) := hid rfl
    go_enter Tryd.func38, Tryd.ntmps38
    go_wp2_with (first
      | (go_at_call 37; refine (wPut_any n 3 _).mono ?_; rintro e w1 ⟨B1, d1, ys1, E1, rfl, HY1, HE1, hN1, hb1⟩; have hy8 : ys1.length ≤ 8 := (by rw [HY1.out]; exact pbytes_length _ _ _); have hO1 := hO.stay hb1; have hbs := hb1.size)
      | (at_builtin; refine app_nums rfl (.tmp 21) (.tmp 22) 22 rfl base 5 .u8 1 Tryd.underlying22 Tryd.info5 (by omega) A2 n2 c2 (xs ++ [2]) rfl hO2 B1 d1 ys1 rfl hN2 (by simp; omega) hbase2 ?_; intro A3 n3 c3 w3 hO3 hG3)
      | (at_builtin; refine app_nums rfl (.tmp 17) (.tmp 20) 22 rfl base 5 .u8 1 Tryd.underlying22 Tryd.info5 (by omega) A m c xs rfl (hO1.alloc _) _ 1 [2] rfl (nums_one _ _ _ _) (by simp; omega) (by simp; omega) ?_; intro A2 n2 c2 w2 hO2 hG2; have hN2 : Nums w2 .u8 B1 ys1 := (hN1.far (fun g hg => (hO.lt g hg).2) (newB (Below.refl _ _) _) hG2).nums; have hbase2 : base ≤ w2.heap.size := (by have := hG2.1.size; simp at this; omega)))
    go_ret
    refine ⟨A3, n3, c3, rfl, ?_, ?_⟩
    · rw [List.append_assoc, HY1.out] at hO3; exact hO3
    · exact (Grew.after (newB hb1 _) hG2).trans hG3
  · have HW : Hid (wid 3 = 2) := hid rfl
    go_enter Tryd.func38, Tryd.ntmps38
    go_wp2_with (first
      | (go_at_call 37; refine (wPut_any n 2 _).mono ?_; rintro e w1 ⟨B1, d1, ys1, E1, rfl, HY1, HE1, hN1, hb1⟩; have hy8 : ys1.length ≤ 8 := (by rw [HY1.out]; exact pbytes_length _ _ _); have hO1 := hO.stay hb1; have hbs := hb1.size)
      | (at_builtin; refine app_nums rfl (.tmp 21) (.tmp 22) 22 rfl base 5 .u8 1 Tryd.underlying22 Tryd.info5 (by omega) A2 n2 c2 (xs ++ [3]) rfl hO2 B1 d1 ys1 rfl hN2 (by simp; omega) hbase2 ?_; intro A3 n3 c3 w3 hO3 hG3)
      | (at_builtin; refine app_nums rfl (.tmp 17) (.tmp 20) 22 rfl base 5 .u8 1 Tryd.underlying22 Tryd.info5 (by omega) A m c xs rfl (hO1.alloc _) _ 1 [3] rfl (nums_one _ _ _ _) (by simp; omega) (by simp; omega) ?_; intro A2 n2 c2 w2 hO2 hG2; have hN2 : Nums w2 .u8 B1 ys1 := (hN1.far (fun g hg => (hO.lt g hg).2) (newB (Below.refl _ _) _) hG2).nums; have hbase2 : base ≤ w2.heap.size := (by have := hG2.1.size; simp at this; omega)))
    go_ret
    refine ⟨A3, n3, c3, rfl, ?_, ?_⟩
    · rw [List.append_assoc, HY1.out] at hO3; exact hO3
    · exact (Grew.after (newB hb1 _) hG2).trans hG3
end Go.Proofs.YtcahcecohjohpaaDoor
