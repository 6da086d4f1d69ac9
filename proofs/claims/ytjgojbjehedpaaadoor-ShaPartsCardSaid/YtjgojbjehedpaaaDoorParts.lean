/- The law of parts, of padding and of digits. -/
import Derived.Test.YtjgojbjehedpaaaDoorLaw
import Derived.Test.YtjgojbjehedpaaaDoorHex
import Derived.Deep.RegionWith
namespace Go.Proofs.YtjgojbjehedpaaaDoor
open Go.RowKit

theorem str_at (xs : List Int) (hb : Byt xs) {j : Nat} {x : Int} (hx : xs[j]? = some x) (i : Int) (hi : i = j) (W : World) : (Instr.index 9 (.string (strOfNums xs)) (.int .i64 i)).run Tryd.prog W = .ok (.int .u8 x) W := by
  subst hi
  have hj := (List.getElem?_eq_some_iff.1 hx).1
  have hxb := hb.at_ hx
  rw [run_index_string W 9 _ .i64 (j : Int) Tryd.underlying9, dif_pos ⟨by omega, by rw [strOfNums_size]; omega⟩]
  congr 2
  have e : (strOfNums xs)[(j : Int).toNat]'(by rw [strOfNums_size]; omega) = UInt8.ofNat x.toNat := by
    have h1 : (strOfNums xs).data[j]'(by simpa [strOfNums] using hj) = UInt8.ofNat x.toNat := by
      have : xs[j] = x := by rw [List.getElem?_eq_getElem hj] at hx; injection hx
      simp [strOfNums, this]
    exact h1
  rw [e]
  simp
  omega

theorem hex_byt (b : List Int) : Byt (hexB b) := by
  intro x hx
  simp only [hexB, List.mem_flatMap] at hx
  obtain ⟨c, _, hx⟩ := hx
  have key : ∀ n : Nat, 0 ≤ DIG.getD n 0 ∧ DIG.getD n 0 < 256 := by
    intro n
    rcases Nat.lt_or_ge n 16 with h | h
    · have : n = 0 ∨ n = 1 ∨ n = 2 ∨ n = 3 ∨ n = 4 ∨ n = 5 ∨ n = 6 ∨ n = 7 ∨ n = 8 ∨ n = 9 ∨ n = 10 ∨ n = 11 ∨ n = 12 ∨ n = 13 ∨ n = 14 ∨ n = 15 := by omega
      rcases this with rfl | rfl | rfl | rfl | rfl | rfl | rfl | rfl | rfl | rfl | rfl | rfl | rfl | rfl | rfl | rfl <;> decide
    · have hl : DIG.length = 16 := rfl
      rw [List.getD_eq_getElem?_getD, List.getElem?_eq_none (by omega)]
      exact ⟨by simp, by simp⟩
  simp only [List.mem_cons, List.not_mem_nil, or_false] at hx
  rcases hx with rfl | rfl
  · exact key _
  · exact key _

/-- A piece of a row, as a slice expression gives it. -/
theorem piece {w : World} {k : IntKind} {A : Option Addr} {xs : List Int} (h : Nums w k A xs) {lo hi c : Nat} (h1 : lo ≤ hi) (h2 : hi ≤ xs.length) (h3 : xs.length ≤ c) :
    ∃ A', sliced A lo hi c 1 = .slice A' (hi - lo) (c - lo) ∧ Nums w k A' ((xs.drop lo).take (hi - lo)) := by
  refine ⟨_, rfl, fun hp => ?_⟩
  have hl : ((xs.drop lo).take (hi - lo)).length = hi - lo := by simp; omega
  obtain ⟨b, off, rfl, hlt, hc⟩ := h (by omega)
  have hcl : ¬ c = lo := by omega
  refine ⟨b, off + lo, ?_, hlt, fun i hi2 => ?_⟩
  · rw [if_neg hcl, Nat.mul_one]
    simp only [Option.map_some, Addr.add_mid]
  · rw [hl] at hi2
    rw [Nat.add_assoc, hc (lo + i) (by omega)]
    simp [List.getD, hi2]
theorem size5 (W : World) : (sizeOf (Tryd.prog.elem 22)).run Tryd.prog W = .ok 1 W := by kernel_rfl
theorem elem22 : Tryd.prog.underlying 22 = some (.slice (Tryd.prog.elem 22)) := by kernel_rfl
theorem cut_h (A : Option Addr) (n c i : Nat) (A' : Option Addr) (h : i ≤ c) (hs : sliced A 0 i c 1 = .slice A' (i - 0) (c - 0)) (W : World) : (Instr.slice 22 (.slice A n c) none (some (.int .i64 (i : Int))) none).run Tryd.prog W = .ok (.slice A' i c) W := by
  rw [run_slice_h W 22 A n c elem22 .i64 (i : Int) (by omega) (by omega), size5]
  simp only [Result.andThen, Int.toNat_natCast, hs, Nat.sub_zero]
theorem cut_lh (A : Option Addr) (n c i k : Nat) (K : Int) (hK : K = k) (A' : Option Addr) (h1 : i ≤ k) (h : k ≤ c) (hs : sliced A i k c 1 = .slice A' (k - i) (c - i)) (W : World) : (Instr.slice 22 (.slice A n c) (some (.int .i64 (i : Int))) (some (.int .i64 K)) none).run Tryd.prog W = .ok (.slice A' (k - i) (c - i)) W := by
  subst hK
  rw [run_slice_lh W 22 A n c elem22 .i64 .i64 (i : Int) (k : Int) (by omega) (by omega) (by omega), size5]
  simp only [Result.andThen, Int.toNat_natCast, hs]
theorem cut_l (A : Option Addr) (n c k : Nat) (K : Int) (hK : K = k) (A' : Option Addr) (h : k ≤ n) (hs : sliced A k n c 1 = .slice A' (n - k) (c - k)) (W : World) : (Instr.slice 22 (.slice A n c) (some (.int .i64 K)) none none).run Tryd.prog W = .ok (.slice A' (n - k) (c - k)) W := by
  subst hK
  rw [run_slice_l W 22 A n c elem22 .i64 (k : Int) (by omega) (by omega), size5]
  simp only [Result.andThen, Int.toNat_natCast, hs]
/-- Four parts at the row of four elements. -/
theorem sum_four (g : Nat) (A0 A1 A2 A3 : Option Addr) (c0 c1 c2 c3 : Nat) (b0 b1 b2 b3 b : List Int) (w : World) (ht : Tabs w)
    (k0 : w.cell? ⟨g, 0, none⟩ = some (.slice A0 b0.length c0)) (k1 : w.cell? ⟨g, 1, none⟩ = some (.slice A1 b1.length c1)) (k2 : w.cell? ⟨g, 2, none⟩ = some (.slice A2 b2.length c2)) (k3 : w.cell? ⟨g, 3, none⟩ = some (.slice A3 b3.length c3))
    (p0 : PartOk w (A0, c0, b0)) (p1 : PartOk w (A1, c1, b1)) (p2 : PartOk w (A2, c2, b2)) (p3 : PartOk w (A3, c3, b3)) (hb : b = b0 ++ (b1 ++ (b2 ++ b3))) (hl : b.length ≤ 1000) :
    Calls Tryd.prog 8 #[.slice (some ⟨g, 0, none⟩) 4 4] w fun e w' => ∃ ys, e = .returned (.agg (ints .u8 ys).toArray) ∧ Hid (ys = hash b) ∧ Hid (ys.length = 64) ∧ Below w.heap.size w w' := by
  have hf : flat [(A0, c0, b0), (A1, c1, b1), (A2, c2, b2), (A3, c3, b3)] = b := by rw [hb]; simp [flat]
  have hP : Parts w (some ⟨g, 0, none⟩) [(A0, c0, b0), (A1, c1, b1), (A2, c2, b2), (A3, c3, b3)] := fun _ => ⟨g, 0, rfl, World.block_lt_of_cell? w _ k0, fun i q hi => by
    match i, hi with
    | 0, hi => simp at hi; subst hi; exact k0
    | 1, hi => simp at hi; subst hi; exact k1
    | 2, hi => simp at hi; subst hi; exact k2
    | 3, hi => simp at hi; subst hi; exact k3⟩
  have := sum_any (some ⟨g, 0, none⟩) 4 [(A0, c0, b0), (A1, c1, b1), (A2, c2, b2), (A3, c3, b3)] w ht hP (fun q hq => by
    simp only [List.mem_cons, List.not_mem_nil, or_false] at hq
    rcases hq with rfl | rfl | rfl | rfl
    · exact p0
    · exact p1
    · exact p2
    · exact p3) (by rw [hf]; omega) (by simp)
  rw [hf] at this
  exact this

/-- The cut string and the whole one, each at its row, in whatever world that keeps the old memory. -/
theorem sum_cut (b hh : List Int) (i j c : Nat) (A1 A2 A3 : Option Addr) (w0 w : World) (g : Nat) (hH : Hid (hh = hash b)) (hw : Below w0.heap.size w0 w) (ht : Tabs w0) (hl : b.length ≤ 600) (hc : b.length ≤ c) (hby : Byt b) (hij : i + j ≤ b.length)
    (n1 : Nums w0 .u8 A1 ((b.drop 0).take (i - 0))) (n2 : Nums w0 .u8 A2 ((b.drop i).take j)) (n3 : Nums w0 .u8 A3 ((b.drop (i + j)).take (b.length - (i + j))))
    (k0 : w.cell? ⟨g, 0, none⟩ = some (.slice A1 i c)) (k1 : w.cell? ⟨g, 1, none⟩ = some (.slice A2 j (c - i))) (k2 : w.cell? ⟨g, 2, none⟩ = some (.slice none 0 0)) (k3 : w.cell? ⟨g, 3, none⟩ = some (.slice A3 (b.length - (i + j)) (c - (i + j)))) :
    Calls Tryd.prog 8 #[.slice (some ⟨g, 0, none⟩) 4 4] w fun e w' => e = .returned (.agg (ints .u8 hh).toArray) ∧ Below w.heap.size w w' := by
  have l1 : ((b.drop 0).take (i - 0)).length = i := by simp; omega
  have l2 : ((b.drop i).take j).length = j := by simp; omega
  have l3 : ((b.drop (i + j)).take (b.length - (i + j))).length = b.length - (i + j) := by simp
  have hb : b = (b.drop 0).take (i - 0) ++ ((b.drop i).take j ++ ([] ++ (b.drop (i + j)).take (b.length - (i + j)))) := by
    have e3 : (b.drop (i + j)).take (b.length - (i + j)) = b.drop (i + j) := List.take_of_length_le (by simp)
    have e2 : (b.drop i).take j ++ b.drop (i + j) = b.drop i := by rw [← List.drop_drop, List.take_append_drop]
    rw [e3, List.nil_append, e2, List.drop_zero, Nat.sub_zero, List.take_append_drop]
  refine (sum_four g A1 A2 none A3 c (c - i) 0 (c - (i + j)) ((b.drop 0).take (i - 0)) ((b.drop i).take j) [] ((b.drop (i + j)).take (b.length - (i + j))) b w (ht.next hw)
    (by rw [l1]; exact k0) (by rw [l2]; exact k1) k2 (by rw [l3]; exact k3) ⟨n1.below hw, by show _ ≤ c; rw [l1]; omega, by show _ ≤ 1000; rw [l1]; omega, (hby.drop _).take _⟩ ⟨n2.below hw, by show _ ≤ c - i; rw [l2]; omega, by show _ ≤ 1000; rw [l2]; omega, (hby.drop _).take _⟩
    ⟨Nums.nil, Nat.le_refl _, Nat.zero_le _, fun x hx => by cases hx⟩ ⟨n3.below hw, by show _ ≤ c - (i + j); rw [l3]; omega, by show _ ≤ 1000; rw [l3]; omega, (hby.drop _).take _⟩ hb (by omega)).mono fun e w' ⟨ys, he, hy, _, hbw⟩ => ⟨by rw [he, hy.out, hH.out], hbw⟩
theorem sum_whole (b hh : List Int) (c : Nat) (A : Option Addr) (w0 w : World) (g : Nat) (hH : Hid (hh = hash b)) (hw : Below w0.heap.size w0 w) (ht : Tabs w0) (hl : b.length ≤ 600) (hc : b.length ≤ c) (hby : Byt b) (hA : Nums w0 .u8 A b) (k0 : w.cell? ⟨g, 0, none⟩ = some (.slice A b.length c)) :
    Calls Tryd.prog 8 #[.slice (some ⟨g, 0, none⟩) 1 1] w fun e w' => e = .returned (.agg (ints .u8 hh).toArray) ∧ Below w.heap.size w w' :=
  (sum_one g A c b w (ht.next hw) ⟨k0, hA.below hw, hc, by omega, hby⟩).mono fun e w' ⟨ys, he, hy, _, hbw⟩ => ⟨by rw [he, hy.out, hH.out], hbw⟩

set_option maxRecDepth 10000 in
set_option maxHeartbeats 4000000 in
theorem parts_in (w : World) (ht : Tabs w) (A : Option Addr) (c : Nat) (b : List Int) (hl : b.length ≤ 600) (hc : b.length ≤ c) (hby : Byt b) (hA : Nums w .u8 A b) (a0 a1 n : Int) (h00 : 0 ≤ a0) (h01 : a0 < 65536) (h10 : 0 ≤ a1) (h11 : a1 < 65536) :
    Calls Tryd.prog 4 #[.slice A b.length c, .agg #[.int .u16 a0, .int .u16 a1], .int .i64 n] w fun e w' => e = .returned (.bool true) ∧ Below w.heap.size w w' := by
  obtain ⟨i, hi⟩ : ∃ i : Nat, a0 % ((b.length : Int) + 1) = i := ⟨(a0 % ((b.length : Int) + 1)).toNat, by rw [Int.toNat_of_nonneg (Int.emod_nonneg _ (by omega))]⟩
  have hil : i ≤ b.length := by have := Int.emod_lt_of_pos a0 (show (0 : Int) < (b.length : Int) + 1 by omega); omega
  obtain ⟨j, hj⟩ : ∃ j : Nat, a1 % ((b.length : Int) - i + 1) = j := ⟨(a1 % ((b.length : Int) - i + 1)).toNat, by rw [Int.toNat_of_nonneg (Int.emod_nonneg _ (by omega))]⟩
  have hjl : i + j ≤ b.length := by have := Int.emod_lt_of_pos a1 (show (0 : Int) < (b.length : Int) - i + 1 by omega); omega
  have e1 : (0 : Int) < (b.length : Int) + 1 := by omega
  have e2 : (1 : Int) ≤ (b.length : Int) - i + 1 := by omega
  have e3 : ¬ (b.length : Int) + 1 = 0 := by omega
  have e4 : ¬ (b.length : Int) - i + 1 = 0 := by omega
  have ew : IntKind.i64.wrap ((b.length : Int) - i) = (b.length : Int) - i := IntWalk.i64_in _ (by omega)
  have ew2 : IntKind.i64.wrap ((b.length : Int) - i + 1) = (b.length : Int) - i + 1 := IntWalk.i64_in _ (by omega)
  have ti : IntKind.i64.wrap (a0.tmod ((b.length : Int) + 1)) = (i : Int) := by rw [Int.tmod_eq_emod_of_nonneg h00, hi]; exact IntWalk.i64_in _ (by omega)
  have tj : IntKind.i64.wrap (a1.tmod ((b.length : Int) - i + 1)) = (j : Int) := by rw [Int.tmod_eq_emod_of_nonneg h10, hj]; exact IntWalk.i64_in _ (by omega)
  have tk : IntKind.i64.wrap ((i : Int) + j) = ((i + j : Nat) : Int) := by rw [IntWalk.i64_in _ (by omega)]; omega
  go_enter Tryd.func4, Tryd.ntmps4
  go_wp2_with (go_at_call 7; refine (awake_any _ (ht.next (below_new w (.cells #[.int .u16 a0, .int .u16 a1] 32)))).mono ?_; rintro e w0 ⟨rfl, hb0⟩; have hx0 := (below_new w (.cells #[.int .u16 a0, .int .u16 a1] 32)).trans (hb0.mono (by simp)); have q0 : w0.cell? ⟨w.heap.size, 0, none⟩ = some (.int .u16 a0) := (hb0.cell (p := ⟨w.heap.size, 0, none⟩) (by simp)).trans (by go_simp); have q1 : w0.cell? ⟨w.heap.size, 1, none⟩ = some (.int .u16 a1) := (hb0.cell (p := ⟨w.heap.size, 1, none⟩) (by simp)).trans (by go_simp))
  simp only [hi, hj]
  have hA0 := hA.below hx0
  obtain ⟨A1, s1, n1⟩ := piece hA0 (lo := 0) (hi := i) (c := c) (by omega) hil hc
  obtain ⟨A2, s2, n2⟩ := piece hA0 (lo := i) (hi := i + j) (c := c) (by omega) hjl hc
  obtain ⟨A3, s3, n3⟩ := piece hA0 (lo := i + j) (hi := b.length) (c := c) hjl (Nat.le_refl _) hc
  have r1 := cut_h A b.length c i A1 (by omega) s1
  have r2 := cut_lh A b.length c i (i + j) ((i : Int) + j) (by omega) A2 (by omega) (by omega) s2
  have r3 := cut_l A b.length c (i + j) ((i : Int) + j) (by omega) A3 (by omega) s3
  rw [Nat.add_sub_cancel_left] at r2 n2
  clear s1 s2 s3 hi hj e1 e2 e3 e4 ew ew2 ti tj
  have ht0 := ht.next hx0
  obtain ⟨hh, hhe⟩ : ∃ hh, hh = hash b := ⟨_, rfl⟩
  have HH := hid hhe
  have hhl : hh.length = 64 := by rw [hhe]; unfold hash; rw [splitB_length]; rfl
  have heg : Tryd.prog.eqGuardType Tryd.prog.depth 24 = false := by kernel_rfl
  have heq := eq64 hh hhl
  clear hhe hhl
  have C1 := sum_cut b hh i j c A1 A2 A3 w0 (w0.alloc (.cells #[.slice A1 i c, .slice A2 j (c - i), .slice none 0 0, .slice A3 (b.length - (i + j)) (c - (i + j))] 22)).drew w0.heap.size HH ((below_new _ _).drew) ht0 hl hc hby hjl n1 n2 n3 (by go_simp) (by go_simp) (by go_simp) (by go_simp)
  have C2 := sum_cut b hh i j c A1 A2 A3 w0 ((w0.alloc (.cells #[.slice A1 i c, .slice A2 j (c - i), .slice none 0 0, .slice A3 (b.length - (i + j)) (c - (i + j))] 22)).alloc (.cells #[.slice A b.length c] 22)).drew w0.heap.size HH (((below_new _ _).alloc (by simp) _).drew) ht0 hl hc hby hjl n1 n2 n3 (by go_simp) (by go_simp) (by go_simp) (by go_simp)
  have C3 := sum_cut b hh i j c A1 A2 A3 w0 ((w0.alloc (.cells #[.slice A b.length c] 22)).alloc (.cells #[.slice A1 i c, .slice A2 j (c - i), .slice none 0 0, .slice A3 (b.length - (i + j)) (c - (i + j))] 22)).drew (w0.heap.size + 1) HH (((below_new _ _).alloc (by simp) _).drew) ht0 hl hc hby hjl n1 n2 n3 (by go_simp) (by go_simp) (by go_simp) (by go_simp)
  have HC1 := hid C1
  have HC2 := hid C2
  have HC3 := hid C3
  clear C1 C2 C3
  have hX4 := (below_new w0 (.cells #[.slice A1 i c, .slice A2 j (c - i), .slice none 0 0, .slice A3 (b.length - (i + j)) (c - (i + j))] 22))
  have hX41 := hX4.alloc (by simp) (.cells #[.slice A b.length c] 22)
  have hX14 := (below_new w0 (.cells #[.slice A b.length c] 22)).alloc (by simp) (.cells #[.slice A1 i c, .slice A2 j (c - i), .slice none 0 0, .slice A3 (b.length - (i + j)) (c - (i + j))] 22)
  go_region_with (first
    | (go_at_call 8; (with_reducible refine (Hid.out HC1).mono ?_); rintro e w1 ⟨rfl, hb1⟩; have hw1 := hX4.drew.trans (hb1.mono (by simp)); have D1 := hid (sum_whole b hh c A w0 (w1.alloc (.cells #[.slice A b.length c] 22)) w1.heap.size HH (hw1.alloc hw1.size _) ht0 hl hc hby hA0 (by go_simp)))
    | (go_at_call 8; (with_reducible refine (Hid.out D1).mono ?_); rintro e w2 ⟨rfl, hb2⟩; have hw2 := (hw1.alloc hw1.size (.cells #[.slice A b.length c] 22)).trans (hb2.mono (by have := hw1.size; simp; omega)))
    | (go_at_call 8; (with_reducible refine (Hid.out HC2).mono ?_); rintro e w1 ⟨rfl, hb1⟩; have hw1 := hX41.drew.trans (hb1.mono (by simp; omega)); have D2 := hid (sum_whole b hh c A w0 w1 (w0.heap.size + 1) HH hw1 ht0 hl hc hby hA0 ((hb1.cell (p := ⟨w0.heap.size + 1, 0, none⟩) (by simp)).trans (by go_simp))))
    | (go_at_call 8; (with_reducible refine (Hid.out HC3).mono ?_); rintro e w1 ⟨rfl, hb1⟩; have hw1 := hX14.drew.trans (hb1.mono (by simp; omega)); have D2 := hid (sum_whole b hh c A w0 w1 w0.heap.size HH hw1 ht0 hl hc hby hA0 ((hb1.cell (p := ⟨w0.heap.size, 0, none⟩) (by simp; omega)).trans (by go_simp))))
    | (go_at_call 8; (with_reducible refine (Hid.out D2).mono ?_); rintro e w2 ⟨rfl, hb2⟩; have hw2 := hw1.trans (hb2.mono hw1.size)))
  all_goals
    have hz := hx0.trans (hw2.mono hx0.size)
    have hA2 := hA.below hz
    have hsz : (strOfNums (hexB b)).size = 2 * b.length := by rw [strOfNums_size, hexB_length]
    clear hb1 hb2 hw1 hw2 HC1 HC2 HC3 heq heg r1 r2 r3 n1 n2 n3 hX4 hX41 hX14 hA0 ht0 q0 q1 hb0
    go_simp
    go_wp2_with (go_at_call 12; refine (hex_any A c b _ (by omega) hby hA2).mono ?_; rintro e w3 ⟨rfl, hb3⟩; have hz3 := nextB hz hb3)
    go_loopw [62] (fun v wr => ∃ t : Nat, t ≤ b.length ∧ v = .int .i64 t ∧ Below w.heap.size w wr) (fun v _ => b.length - (intOf v).toNat)
    case atStart => exact ⟨0, Nat.zero_le _, rfl, hz3⟩
    case round =>
      obtain ⟨t, htl, rfl, hbr⟩ := hrel
      have hAr := hA.below hbr
      by_cases hlt : t < b.length
      · obtain ⟨g1, o1, x, rfl, _, hc1, H1⟩ := hAr.get hlt
        have hxb := hby.at_ H1.out
        have hx0' := hxb.1
        have hx1' := hxb.2
        have t0 : (0 : Int) ≤ t := by omega
        have t1 : (t : Int) < b.length := by omega
        obtain ⟨hq1, hq2⟩ := hexB_at b H1.out
        have hi1 := idx_dig (x / 16) (by omega) (by omega)
        have hi2 := idx_dig (x % 16) (by omega) (by omega)
        have hs1 := str_at (hexB b) (hex_byt b) hq1 (2 * (t : Int)) (by omega)
        have hs2 := str_at (hexB b) (hex_byt b) hq2 (2 * (t : Int) + 1) (by omega)
        unfold DIGS at hi1 hi2
        clear hq1 hq2 hxb
        generalize DIG.getD (x / 16).toNat 0 = y1 at *
        generalize DIG.getD (x % 16).toNat 0 = y2 at *
        go_wp2
        go_quiet (fail)
        go_wp2
        go_roundw
        case rel => exact ⟨t + 1, by omega, by go_num, below_drewN hbr _⟩
        case measure => simp [intOf]; omega
      · have hti : (b.length : Int) ≤ t := by omega
        by_cases hn1 : n < 0
        · have hd : decide (n < 0) = true := by simpa using hn1
          go_wp2_with (go_at_call 13; refine (pad_no n _ (.inl hn1)).mono ?_; rintro e w4 ⟨rfl, rfl⟩)
          go_ret
          exact ⟨rfl, hbr⟩
        · have hd : decide (n < 0) = false := by simpa using hn1
          by_cases hn2 : 1099511627776 < n
          · go_wp2_with (go_at_call 13; refine (pad_no n _ (.inr hn2)).mono ?_; rintro e w4 ⟨rfl, rfl⟩)
            go_ret
            exact ⟨rfl, hbr⟩
          · obtain ⟨m, rfl⟩ := Int.eq_ofNat_of_zero_le (show 0 ≤ n by omega)
            have hm : m ≤ 1099511627776 := by omega
            go_wp2_with (first
              | (go_at_call 13; refine (pad_yes m _ hm).mono ?_; rintro e w4 ⟨A4, c4, y4, rfl, HY4, hc4, hN4, hb4⟩; have hbx4 := nextB hbr hb4; have hmod : ((m : Int) + (y4.length : Int)) % 128 = 0 := (by rw [HY4.out, padB_length]; omega); have hle : (y4.length : Int) ≤ 144 := (by rw [HY4.out, padB_length]; omega); have hy4m : y4.length ≤ maxLen := (by unfold maxLen; omega))
              | (go_at_call 14; refine (rpad_any m _ hm).mono ?_; rintro e w5 ⟨A5, c5, y5, rfl, HY5, hN5, hb5⟩; have hbx5 := nextB hbx4 hb5; have hN4' := hN4.nums.below hb5)
              | (go_at_call 11; refine (same_eq A4 A5 c4 c5 y4 y5 _ (HY4.out.trans HY5.out.symm) hy4m hN4' hN5.nums).mono ?_; rintro e w6 ⟨rfl, hb6⟩; have hbx6 := nextB hbx5 hb6))
            go_ret
            exact ⟨rfl, hbx6⟩
end Go.Proofs.YtjgojbjehedpaaaDoor
