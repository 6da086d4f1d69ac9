/- Num, an empty Of, and the chapter's examples. -/
import Derived.Test.YtcahcecohjohpaaDoorEnc
import Derived.Test.YtcahcecohjohpaaDoorWSame
import Derived.Lib.SliceRun
namespace Go.Proofs.YtcahcecohjohpaaDoor
open Go.RowKit

theorem num_any (n : Int) (w : World) : Calls Tryd.prog 20 #[.int .i64 n] w fun e w' => e = .returned (.agg #[.int .i64 1, .int .i64 n, .slice none 0 0, .slice none 0 0]) ∧ Below w.heap.size w w' := by
  go_enter Tryd.func20, Tryd.ntmps20
  go_wp2
  exact bodyPost_ret (v := .agg #[.int .i64 1, .int .i64 n, .slice none 0 0, .slice none 0 0]) (by simp [results, Tryd.results20, go_sem]) rfl ⟨rfl, below_new _ _⟩
theorem clone_nil (w : World) : Calls Tryd.prog 33 #[.slice none 0 0] w fun e w' => e = .returned (.slice none 0 0) ∧ w = w' := by
  have q := fun (w : World) => Lib.run_eql_slice_nil (P := Tryd.prog) w 23 25 none 0 0 0 0 Tryd.underlying23
  go_enter Tryd.func33, Tryd.ntmps33
  go_wp2
  go_ret
  exact ⟨rfl, rfl⟩
theorem of_nil (w : World) : Calls Tryd.prog 19 #[.slice none 0 0] w fun e w' => e = .returned (.agg #[.int .i64 3, .int .i64 0, .slice none 0 0, .slice none 0 0]) ∧ Below w.heap.size w w' := by
  go_enter Tryd.func19, Tryd.ntmps19
  go_wp2_with (go_at_call 33; refine (clone_nil _).mono ?_; rintro e w1 ⟨rfl, rfl⟩)
  refine bodyPost_ret (v := .agg #[.int .i64 3, .int .i64 0, .slice none 0 0, .slice none 0 0]) (by simp [results, Tryd.results19, go_sem]) rfl ⟨rfl, ?_⟩
  exact below_new _ _
theorem has_leaf (k n : Int) (w : World) : Has w.heap.size w (.mk k n [] []) none none := ⟨Nat.le_refl _, .nil (fun h => absurd h (by simp)) (fun x hx => by cases hx) (by simp)⟩
theorem tame_leaf (k n : Int) : tameV (.mk k n [] []) := by simp [tameV, tameL]

theorem enc_num : Hid (Fit (.mk 1 258 [] []) 16 1048576 ∧ bytesV (.mk 1 258 [] []) = [1, 2, 1, 2]) := by
  have h : bytesV (.mk 1 258 [] []) = [1, 2, 1, 2] := by decide +kernel
  exact hid ⟨⟨by decide +kernel, by decide +kernel, by rw [h]; decide⟩, h⟩
theorem enc_list : Hid (Fit (.mk 3 0 [] []) 16 1048576 ∧ bytesV (.mk 3 0 [] []) = [3, 0, 0]) := by
  have h : bytesV (.mk 3 0 [] []) = [3, 0, 0] := by decide +kernel
  exact hid ⟨⟨by decide +kernel, by decide +kernel, by rw [h]; decide⟩, h⟩

theorem EncPost.yes {v : V} {w w' : World} {e : Ending} (h : EncPost v w e w') (hf : Fit v 16 1048576) : ∃ B d ys, e = .returned (.tuple #[.slice B ys.length d, .int .i64 0]) ∧ Hid (ys = bytesV v) ∧ NumsF w.heap.size w' .u8 B ys ∧ Below w.heap.size w w' := by
  rcases h with ⟨⟨_, B, d, ys, he, hy, hn, _⟩ | ⟨hn, _⟩, hb⟩
  · exact ⟨B, d, ys, he, hy, hn, hb⟩
  · exact absurd hf hn
theorem EncPost.caps {v : V} {w w' : World} {e : Ending} (h : EncPost v w e w') (hf : Fit v 16 1048576) : ∃ B d ys, e = .returned (.tuple #[.slice B ys.length d, .int .i64 0]) ∧ Hid (ys = bytesV v) ∧ NumsF w.heap.size w' .u8 B ys ∧ Hid (ys.length ≤ d ∧ d ≤ maxLen) ∧ Below w.heap.size w w' := by
  rcases h with ⟨⟨_, B, d, ys, he, hy, hn, hc⟩ | ⟨hn, _⟩, hb⟩
  · exact ⟨B, d, ys, he, hy, hn, hc, hb⟩
  · exact absurd hf hn
theorem EncPost.no {v : V} {w w' : World} {e : Ending} (h : EncPost v w e w') (hf : ¬ Fit v 16 1048576) : e = .returned (.tuple #[.slice none 0 0, .int .i64 2]) ∧ Below w.heap.size w w' := by
  rcases h with ⟨⟨hy, _⟩ | ⟨_, he⟩, hb⟩
  · exact absurd hy hf
  · exact ⟨he, hb⟩

theorem same_lit (A : Option Addr) (c : Nat) (xs ys : List Int) (n : Nat) (w : World) (hn : n = ys.length) (he : xs = ys) (hm : xs.length ≤ 100) (hA : Nums w .u8 A xs) :
    Calls Tryd.prog 14 #[.slice A xs.length c, .slice (some ⟨w.heap.size, 0, none⟩) n n] (w.alloc (.cells (ys.map (Value.int .u8)).toArray 5)) fun e w' => e = .returned (.bool true) ∧ Below w.heap.size w w' := by
  subst hn
  have hO := Owns.new w 0 5 .u8 ys (Nat.zero_le _) (by rw [← he]; unfold maxLen; omega)
  exact (same_eq A _ c ys.length xs ys _ he (by unfold maxLen; omega) (hA.below (below_new w _)) hO.nums).mono fun e w' ⟨h1, h2⟩ => ⟨h1, nextB (below_new w _) h2⟩

set_option maxHeartbeats 1000000 in
theorem awake_any (w : World) (ht : Tabs w) : Calls Tryd.prog 6 #[] w fun e w' => e = .returned (.bool true) ∧ Below w.heap.size w w' := by
  have h1 := ht.1
  go_enter Tryd.func6, Tryd.ntmps6
  go_wp2_with (first
    | (go_at_call 20; refine (num_any 258 _).mono ?_; rintro e w1 ⟨rfl, hb1⟩; have ht1 := ht.stay hb1)
    | (go_at_call 9; refine ((encode_any 3 0 [] [] _ none none 0 0 w3 (tame_leaf _ _) ht3 ht3.1 (has_leaf _ _ _)).mono fun _ _ h => h.yes enc_list.out.1).mono ?_; rintro e w4 ⟨B4, d4, ys4, rfl, HY4, hN4, hb4⟩)
    | (go_at_call 9; refine ((encode_any 1 258 [] [] _ none none 0 0 w1 (tame_leaf _ _) ht1 ht1.1 (has_leaf _ _ _)).mono fun _ _ h => h.yes enc_num.out.1).mono ?_; rintro e w2 ⟨B2, d2, ys2, rfl, HY2, hN2, hb2⟩; have ht2 := ht1.stay hb2)
    | (go_at_call 19; refine (of_nil _).mono ?_; rintro e w3 ⟨rfl, hb3⟩; have ht3 := ht2.stay hb3)
    | (go_at_call 14; refine (same_lit B4 d4 ys4 [3, 0, 0] 3 w5 rfl (HY4.out.trans enc_list.out.2) (by rw [HY4.out, enc_list.out.2]; decide) (hN4.stay hb5).nums).mono ?_; rintro e w6 ⟨rfl, hb6⟩)
    | (go_at_call 14; refine (same_lit B2 d2 ys2 [1, 2, 1, 2] 4 w4 rfl (HY2.out.trans enc_num.out.2) (by rw [HY2.out, enc_num.out.2]; decide) ((hN2.stay hb3).stay hb4).nums).mono ?_; rintro e w5 ⟨rfl, hb5⟩))
  go_ret
  exact ⟨rfl, nextB (nextB (nextB (nextB (nextB hb1 hb2) hb3) hb4) hb5) hb6⟩
end Go.Proofs.YtcahcecohjohpaaDoor
