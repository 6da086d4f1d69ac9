/- The public calls Put, Low, Get, GetLow of layer 1, the reference's Put, and the chapter's examples. -/
import Derived.Test.YtjbldpajolmfhaaWalkA
import Derived.Test.YtjbldpajolmfhaaWalkF
namespace Go.Proofs.Ytjbldpajolmfhaa
open Go.RowKit

instance (n s : Int) : Decidable (Fits n s) := by unfold Fits; infer_instance
def perr (n s : Int) : Int := if Fits n s then 0 else 2
def pbytes (hi : Bool) (n s : Int) : List Int := if Fits n s then splitB hi s.toNat [n] else []
theorem pbytes_length (hi : Bool) (n s : Int) : (pbytes hi n s).length ≤ 8 := by
  unfold pbytes
  split
  · rename_i h
    rw [splitB_length]
    have := h.2.1
    simp
    omega
  · simp
theorem pbytes_byt (hi : Bool) (n s : Int) : Byt (pbytes hi n s) := by
  unfold pbytes
  split
  · exact splitB_byt _ _ _
  · intro x hx; cases hx
theorem split_rev (s : Nat) (n : Int) : (splitB false s [n]).reverse = splitB true s [n] := by
  apply List.ext_getElem?
  intro i
  have hl : (splitB false s [n]).length = s := by rw [splitB_length]; simp
  have hl2 : (splitB true s [n]).length = s := by rw [splitB_length]; simp
  by_cases hi : i < s
  · rw [List.getElem?_reverse (by rw [hl]; exact hi), hl, split_one _ _ _ (by omega), split_one _ _ _ hi]
    rfl
  · rw [List.getElem?_eq_none (by rw [List.length_reverse, hl]; omega), List.getElem?_eq_none (by rw [hl2]; omega)]
theorem pbytes_rev (n s : Int) : (pbytes false n s).reverse = pbytes true n s := by
  unfold pbytes
  split
  · exact split_rev _ _
  · rfl

def PutPost2 (hi : Bool) (n s : Int) (w : World) (e : Ending) (w' : World) : Prop :=
  ∃ B d ys E, e = .returned (.tuple #[.slice B ys.length d, .int .i64 E]) ∧ Hid (ys = pbytes hi n s) ∧ Hid (E = perr n s) ∧ Nums w' .u8 B ys ∧ Below w.heap.size w w'
theorem PutPost.two {hi : Bool} {n s : Int} {w : World} {e : Ending} {w' : World} (h : PutPost hi n s w e w') : PutPost2 hi n s w e w' := by
  rcases h with ⟨hf, B, d, ys, he, hy, hN, hb⟩ | ⟨hf, he, hb⟩
  · exact ⟨B, d, ys, 0, he, by show _ = _; rw [hy.out, pbytes, if_pos hf], by show _ = _; rw [perr, if_pos hf], hN, hb⟩
  · exact ⟨none, 0, [], 2, he, by show _ = _; rw [pbytes, if_neg hf], by show _ = _; rw [perr, if_neg hf], Nums.nil, hb⟩
theorem put2_any (hi : Bool) (n s : Int) (w : World) : Calls Try.prog 22 #[.int .i64 n, .int .i64 s, .int .i64 (ordN hi)] w (PutPost2 hi n s w) := (put_any hi n s w).mono fun _ _ h => h.two
theorem refLow2_any (n s : Int) (w : World) : Calls Try.prog 11 #[.int .i64 n, .int .i64 s] w (PutPost2 false n s w) := (refLow_any n s w).mono fun _ _ h => h.two

theorem wPut_any (n s : Int) (w : World) : Calls Try.prog 8 #[.int .i64 n, .int .i64 s] w (PutPost2 true n s w) := by
  go_enter Try.func8, Try.ntmps8
  go_wp2_with (go_at_call 22; refine (put2_any true n s _).mono ?_; rintro e w' ⟨B, d, ys, E, rfl, HY, HE, hN, hb⟩)
  go_ret2
  exact ⟨B, d, ys, E, rfl, HY, HE, hN, hb⟩
theorem wLow_any (n s : Int) (w : World) : Calls Try.prog 9 #[.int .i64 n, .int .i64 s] w (PutPost2 false n s w) := by
  go_enter Try.func9, Try.ntmps9
  go_wp2_with (go_at_call 22; refine (put2_any false n s _).mono ?_; rintro e w' ⟨B, d, ys, E, rfl, HY, HE, hN, hb⟩)
  go_ret2
  exact ⟨B, d, ys, E, rfl, HY, HE, hN, hb⟩
theorem refPut_any (n s : Int) (w : World) : Calls Try.prog 10 #[.int .i64 n, .int .i64 s] w (PutPost2 true n s w) := by
  go_enter Try.func10, Try.ntmps10
  go_wp2_with (first | (go_at_call 11; refine (refLow2_any n s _).mono ?_; rintro e w1 ⟨B, d, ys, E, rfl, HY, HE, hN, hb⟩) | (go_at_call 16; refine (turned_any B d ys _ (by have := pbytes_length false n s; rw [← HY.out] at this; omega) hN).mono ?_; rintro e w2 ⟨B2, d2, ys2, rfl, HY2, hN2, hb2⟩))
  go_ret2
  exact ⟨B2, d2, ys2, E, rfl, by show _ = _; rw [HY2.out, HY.out, pbytes_rev], HE, hN2, hb.trans (hb2.mono hb.size)⟩

theorem wGet_any (A : Option Addr) (c : Nat) (b : List Int) (w : World) (hn : b.length ≤ 4096) (hby : Byt b) (hA : Nums w .u8 A b) : Calls Try.prog 13 #[.slice A b.length c] w (GetPost true b w) := by
  go_enter Try.func13, Try.ntmps13
  go_wp2_with (go_at_call 23; refine (get_any true A c b _ hn hby hA).mono ?_; rintro e w' ⟨rfl, hb⟩)
  go_ret2
  exact ⟨rfl, hb⟩
theorem wGetLow_any (A : Option Addr) (c : Nat) (b : List Int) (w : World) (hn : b.length ≤ 4096) (hby : Byt b) (hA : Nums w .u8 A b) : Calls Try.prog 14 #[.slice A b.length c] w (GetPost false b w) := by
  go_enter Try.func14, Try.ntmps14
  go_wp2_with (go_at_call 23; refine (get_any false A c b _ hn hby hA).mono ?_; rintro e w' ⟨rfl, hb⟩)
  go_ret2
  exact ⟨rfl, hb⟩

theorem same_new (A : Option Addr) (c : Nat) (xs : List Int) (g : Nat) (x y z : Int) (w : World) (he : xs = [x, y, z]) (hA : Nums w .u8 A xs) (hg : g < w.heap.size)
    (h0 : w.cell? ⟨g, 0, none⟩ = some (.int .u8 x)) (h1 : w.cell? ⟨g, 1, none⟩ = some (.int .u8 y)) (h2 : w.cell? ⟨g, 2, none⟩ = some (.int .u8 z)) :
    Calls Try.prog 12 #[.slice A xs.length c, .slice (some ⟨g, 0, none⟩) 3 3] w fun e w' => e = .returned (.bool true) ∧ Below w.heap.size w w' := by
  have := same_eq A (some ⟨g, 0, none⟩) c 3 xs [x, y, z] w he (by rw [he]; simp [maxLen]) hA (fun _ => ⟨g, 0, rfl, hg, fun i hi => by
    have : i = 0 ∨ i = 1 ∨ i = 2 := by simp at hi; omega
    rcases this with rfl | rfl | rfl
    · exact h0
    · exact h1
    · exact h2⟩)
  exact this


theorem awake_any (w : World) : Calls Try.prog 7 #[] w fun e w' => e = .returned (.bool true) ∧ Below w.heap.size w w' := by
  have k1 : pbytes true 258 3 = [0, 1, 2] := by decide +kernel
  have k2 : pbytes false 258 3 = [2, 1, 0] := by decide +kernel
  have K1 := hid k1
  have K2 := hid k2
  clear k1 k2
  go_enter Try.func7, Try.ntmps7
  go_wp2_with (first
    | (go_at_call 8; refine (wPut_any 258 3 _).mono ?_; rintro e w1 ⟨B, d, ys, E, rfl, HY, HE, hN, hb⟩; obtain rfl : E = 0 := HE.out.trans (by decide))
    | (go_at_call 9; refine (wLow_any 258 3 _).mono ?_; rintro e w2 ⟨B2, d2, ys2, E2, rfl, HY2, HE2, hN2, hb2⟩; obtain rfl : E2 = 0 := HE2.out.trans (by decide)))
  have hN1 := (hN.below hb2).below (below_new w2 (.cells #[.int .u8 0, .int .u8 1, .int .u8 2] 5))
  have hy1 := HY.out.trans K1.out
  refine (same_new B d ys w2.heap.size 0 1 2 _ hy1 hN1 (by simp) (by go_simp) (by go_simp) (by go_simp)).mono ?_
  clear hy1
  rintro e w3 ⟨rfl, hb3⟩
  have hbb : Below w2.heap.size w2 w3 := (below_new w2 _).trans (hb3.mono (by simp))
  have hz3 : w2.heap.size < w3.heap.size := by have := hb3.size; simp at this; omega
  go_wp2_with fail
  have hN2 := (hN2.below hbb).below (below_new w3 (.cells #[.int .u8 2, .int .u8 1, .int .u8 0] 5))
  have hy2 := HY2.out.trans K2.out
  refine (same_new B2 d2 ys2 w3.heap.size 2 1 0 _ hy2 hN2 (by simp) (by go_simp) (by go_simp) (by go_simp)).mono ?_
  clear hy2
  rintro e w4 ⟨rfl, hb4⟩
  go_wp2
  go_ret
  exact ⟨rfl, nextB (newB (nextB (newB (nextB hb hb2) _) hb3) _) hb4⟩

/-- WordPuts returns true. -/
theorem wordPuts_walk (w : World) (n : Int) (_ : (Lit.int .i64 n).wf = true) (s : Int) (_ : (Lit.int .i64 s).wf = true) : Calls Try.prog 3 #[.int .i64 n, .int .i64 s] w fun e w' => e = .returned (.bool true) ∧ Below w.heap.size w w' := by
  go_enter Try.func3, Try.ntmps3
  go_wp2_with (first
    | (go_at_call 7; refine (awake_any _).mono ?_; rintro e w0 ⟨rfl, hb0⟩)
    | (go_at_call 8; refine (wPut_any n s _).mono ?_; rintro e w1 ⟨B1, d1, ys1, E1, rfl, HY1, HE1, hN1, hb1⟩)
    | (go_at_call 9; refine (wLow_any n s _).mono ?_; rintro e w2 ⟨B2, d2, ys2, E2, rfl, HY2, HE2, hN2, hb2⟩)
    | (go_at_call 10; refine (refPut_any n s _).mono ?_; rintro e w3 ⟨B3, d3, ys3, E3, rfl, HY3, HE3, hN3, hb3⟩; obtain rfl : E3 = E1 := HE3.out.trans HE1.out.symm)
    | (go_at_call 11; refine (refLow2_any n s _).mono ?_; rintro e w4 ⟨B4, d4, ys4, E4, rfl, HY4, HE4, hN4, hb4⟩; obtain rfl : E4 = E2 := HE4.out.trans HE2.out.symm))
  have hN1' := (hN1.below hb2).below (nextB hb3 hb4)
  have hq1 := HY1.out.trans HY3.out.symm
  have hl1 : ys1.length ≤ maxLen := by rw [HY1.out]; have := pbytes_length true n s; unfold maxLen; omega
  refine (same_eq B1 B3 d1 d3 ys1 ys3 _ hq1 hl1 hN1' (hN3.below hb4)).mono ?_
  clear hq1 hl1
  rintro e w5 ⟨rfl, hb5⟩
  go_wp2_with fail
  have hN2' := (hN2.below (nextB hb3 hb4)).below hb5
  have hq2 := HY2.out.trans HY4.out.symm
  have hl2 : ys2.length ≤ maxLen := by rw [HY2.out]; have := pbytes_length false n s; unfold maxLen; omega
  refine (same_eq B2 B4 d2 d4 ys2 ys4 _ hq2 hl2 hN2' (hN4.below hb5)).mono ?_
  clear hq2 hl2
  rintro e w6 ⟨rfl, hb6⟩
  go_wp2
  go_ret
  exact ⟨rfl, nextB (nextB (nextB (nextB (nextB (nextB hb0 hb1) hb2) hb3) hb4) hb5) hb6⟩
end Go.Proofs.Ytjbldpajolmfhaa
