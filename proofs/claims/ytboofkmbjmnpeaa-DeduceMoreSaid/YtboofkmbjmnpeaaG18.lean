/- Texts of this proof, laid together: DOpens, DSmall, DRange. -/
import Derived.Test.YtboofkmbjmnpeaaG17
import Derived.Test.YtboofkmbjmnpeaaG9
import Derived.RangeFuncBox
import Derived.RangeFuncNested
/- By what a term is opened, and what is in it; is a store one. -/
namespace Go.Proofs.Ytboofkmbjmnpeaa
open Go Go.RowKit Go.Maps

set_option maxRecDepth 50000 in
set_option maxHeartbeats 2000000 in
theorem opens_wrap (Fp : Nat → Prop) (p : Nat) (L : List T3) (X : List (List Int)) (n a : Nat) (b uk ua ub : Int) (w : World) (h : CS Fp w p L X) (hn : L[n]? = some (4, (a : Int), b)) (hu : L[a]? = some (uk, ua, ub)) :
    Calls Try.prog 20 #[.pointer (some ⟨p, 0, none⟩), .int .i64 n] w fun e w' => e = .returned (.tuple #[.int .i64 ua, .int .i64 b, .bool true]) ∧ Below w.heap.size w w' := by
  have H1 := hid (get_yes Fp p L X n 4 a b w h hn)
  have H2 : Hid (∀ ww, Below w.heap.size w ww → Calls Try.prog 36 #[.pointer (some ⟨p, 0, none⟩), .int .i64 a] ww fun e w' => e = .returned (.tuple #[tv (uk, ua, ub), .bool true]) ∧ Below ww.heap.size ww w') := hid fun ww hw => get_yes Fp p L X a uk ua ub ww (h.next hw) hu
  unfold tv at H1 H2
  dsimp only at H1 H2
  clear h hn hu
  go_enter Try.func20, Try.ntmps20
  go_upto_region 2 with (go_at_call 36; refine H1.out.mono ?_; rintro e w1 ⟨rfl, hb1⟩; obtain ⟨W1, hW1, d0, d1, d2, hbW1, hB1⟩ := term_world (4, a, b) w1; dsimp only at hW1 d0 d1 d2; have HW1 := hid hW1; clear hW1)
  rw [HW1.out]
  have hb2 := hb1.trans (Below.mono hbW1 hb1.size)
  clear HW1 H1 hbW1
  go_upto_region 5 with (go_at_call 36; refine (H2.out _ hb2).mono ?_; rintro e w3 ⟨rfl, hb3⟩; obtain ⟨W3, hW3, e0, e1, e2, hbW3, hB3⟩ := term_world (uk, ua, ub) w3; dsimp only at hW3 e0 e1 e2; have HW3 := hid hW3; clear hW3; have hb4 := hb3.trans (Below.mono hbW3 hb3.size); have d2' := cellB d2 hb4)
  rw [HW3.out]
  clear HW3 d0 d1 d2
  go_quiet (fail)
  go_wp2
  go_ret3
  exact ⟨rfl, below_drewN (hb2.trans (Below.mono hb4 hb2.size)) _⟩
set_option maxRecDepth 50000 in
set_option maxHeartbeats 2000000 in
theorem opens_lock (Fp : Nat → Prop) (p : Nat) (L : List T3) (X : List (List Int)) (n : Nat) (a b : Int) (w : World) (h : CS Fp w p L X) (hn : L[n]? = some (5, a, b)) :
    Calls Try.prog 20 #[.pointer (some ⟨p, 0, none⟩), .int .i64 n] w fun e w' => e = .returned (.tuple #[.int .i64 a, .int .i64 b, .bool true]) ∧ Below w.heap.size w w' := by
  have H1 := hid (get_yes Fp p L X n 5 a b w h hn)
  unfold tv at H1
  dsimp only at H1
  clear h hn
  go_enter Try.func20, Try.ntmps20
  go_upto_region 2 with (go_at_call 36; refine H1.out.mono ?_; rintro e w1 ⟨rfl, hb1⟩; obtain ⟨W1, hW1, d0, d1, d2, hbW1, hB1⟩ := term_world (5, a, b) w1; dsimp only at hW1 d0 d1 d2; have HW1 := hid hW1; clear hW1)
  rw [HW1.out]
  have hb2 := hb1.trans (Below.mono hbW1 hb1.size)
  clear HW1 H1 hbW1
  go_upto_region 7 with (fail)
  go_quiet (fail)
  go_wp2
  go_ret3
  exact ⟨rfl, below_drewN hb2 _⟩
set_option maxRecDepth 50000 in
set_option maxHeartbeats 2000000 in
theorem opens_none (Fp : Nat → Prop) (p : Nat) (L : List T3) (X : List (List Int)) (n : Int) (w : World) (h : CS Fp w p L X) (hn : ¬ (0 ≤ n ∧ n < L.length)) :
    Calls Try.prog 20 #[.pointer (some ⟨p, 0, none⟩), .int .i64 n] w fun e w' => e = .returned (.tuple #[.int .i64 0, .int .i64 0, .bool false]) ∧ Below w.heap.size w w' := by
  have H1 := hid (get_no Fp p L X n w h hn)
  unfold tv at H1
  dsimp only at H1
  clear h hn
  go_enter Try.func20, Try.ntmps20
  go_upto_region 2 with (go_at_call 36; refine H1.out.mono ?_; rintro e w1 ⟨rfl, hb1⟩; obtain ⟨W1, hW1, d0, d1, d2, hbW1, hB1⟩ := term_world (0, 0, 0) w1; dsimp only at hW1 d0 d1 d2; have HW1 := hid hW1; clear hW1)
  rw [HW1.out]
  have hb2 := hb1.trans (Below.mono hbW1 hb1.size)
  clear HW1 H1 hbW1
  go_wp2
  go_ret3
  exact ⟨rfl, hb2⟩
set_option maxRecDepth 50000 in
set_option maxHeartbeats 2000000 in
theorem opens_other (Fp : Nat → Prop) (p : Nat) (L : List T3) (X : List (List Int)) (n : Nat) (k a b : Int) (w : World) (h : CS Fp w p L X) (hn : L[n]? = some (k, a, b)) (h4 : (k == 4) = false) (h5 : (k == 5) = false) :
    Calls Try.prog 20 #[.pointer (some ⟨p, 0, none⟩), .int .i64 n] w fun e w' => e = .returned (.tuple #[.int .i64 0, .int .i64 0, .bool false]) ∧ Below w.heap.size w w' := by
  have H1 := hid (get_yes Fp p L X n k a b w h hn)
  unfold tv at H1
  dsimp only at H1
  clear h hn
  go_enter Try.func20, Try.ntmps20
  go_upto_region 2 with (go_at_call 36; refine H1.out.mono ?_; rintro e w1 ⟨rfl, hb1⟩; obtain ⟨W1, hW1, d0, d1, d2, hbW1, hB1⟩ := term_world (k, a, b) w1; dsimp only at hW1 d0 d1 d2; have HW1 := hid hW1; clear hW1)
  rw [HW1.out]
  have hb2 := hb1.trans (Below.mono hbW1 hb1.size)
  clear HW1 H1 hbW1
  go_wp2
  go_ret3
  exact ⟨rfl, hb2⟩
theorem opens_key (Fp : Nat → Prop) (p : Nat) (L : List T3) (X : List (List Int)) (n : Nat) (t : T3) (w : World) (h : CS Fp w p L X) (hW : WF L) (hn : L[n]? = some t) :
    Calls Try.prog 20 #[.pointer (some ⟨p, 0, none⟩), .int .i64 n] w fun e w' => (∃ y z, e = .returned (.tuple #[.int .i64 (keyOf3 L t), .int .i64 y, .bool z]) ∧ ((t.1 = 4 ∨ t.1 = 5) → y = t.2.2 ∧ z = true) ∧ (¬ (t.1 = 4 ∨ t.1 = 5) → y = 0 ∧ z = false)) ∧ Below w.heap.size w w' := by
  obtain ⟨k, a, b⟩ := t
  by_cases h4 : k = 4
  · subst h4
    have ho1 : isOne 4 = false := by decide
    rcases hW n _ hn with h1 | h1 | ⟨h1, _⟩ | ⟨_, h2, h3, _, _, h6⟩
    · exact absurd h1 (by simp)
    · exact absurd h1 (by simp)
    · rw [ho1] at h1; cases h1
    · obtain ⟨⟨uk, ua, ub⟩, hu, _⟩ := h6 rfl
      dsimp only at hu h2 h3
      obtain ⟨m, rfl⟩ : ∃ m : Nat, a = m := ⟨a.toNat, by omega⟩
      rw [Int.toNat_natCast] at hu
      have e : keyOf3 L (4, (m : Int), b) = ua := by simp [keyOf3, hu]
      rw [e]
      refine (opens_wrap Fp p L X n m b uk ua ub w h hn hu).mono ?_
      rintro e w' ⟨rfl, hb⟩
      exact ⟨⟨b, true, rfl, fun _ => ⟨rfl, rfl⟩, fun h => absurd (.inl rfl) h⟩, hb⟩
  · by_cases h5 : k = 5
    · subst h5
      have e : keyOf3 L (5, a, b) = a := by simp [keyOf3]
      rw [e]
      refine (opens_lock Fp p L X n a b w h hn).mono ?_
      rintro e w' ⟨rfl, hb⟩
      exact ⟨⟨b, true, rfl, fun _ => ⟨rfl, rfl⟩, fun h => absurd (.inr rfl) h⟩, hb⟩
    · have e : keyOf3 L (k, a, b) = 0 := by simp [keyOf3, h4, h5]
      rw [e]
      refine (opens_other Fp p L X n k a b w h hn (beq_false_of_ne h4) (beq_false_of_ne h5)).mono ?_
      rintro e w' ⟨rfl, hb⟩
      exact ⟨⟨0, false, rfl, fun h => by rcases h with h | h <;> contradiction, fun _ => ⟨rfl, rfl⟩⟩, hb⟩
set_option maxRecDepth 50000 in
set_option maxHeartbeats 4000000 in
theorem put_badB (F : Nat → Prop) (p : Nat) (L : List T3) (X : List (List Int)) (t : T3) (w : World) (h : CS F w p L X) (hm : mayB L X.length t = false) :
    Calls Try.prog 23 #[.pointer (some ⟨p, 0, none⟩), tv t] w fun e w' => e = .returned (.tuple #[.int .i64 0, .int .i64 2]) ∧ Below w.heap.size w w' := by
  obtain ⟨s, DN, DI, hT, hP, hF, hN⟩ := h
  obtain ⟨W, hW, d0, d1, d2, hB, hB3⟩ := term_world t w
  have hT1 := hT.next hB
  have c0 : W.cell? ⟨p, 0, none⟩ = some (.bool true) := hT1.blk.cell (i := 0) rfl
  have c1 : W.cell? ⟨p, 1, none⟩ = some (.slice s.AT L.length s.cT) := hT1.blk.cell (i := 1) rfl
  have c4 : W.cell? ⟨p, 4, none⟩ = some (.slice s.AX X.length s.cX) := hT1.blk.cell (i := 4) rfl
  have hA := trow_of hT1.rT
  have hcp := rowcap hT1.rT
  have HW := hid hW
  have HM := hid hm
  clear hW hT hm
  unfold tv
  go_enter Try.func23, Try.ntmps23
  go_upto_region 1 with (fail)
  rw [HW.out]
  go_wp2_with (first
    | (go_at_call 31; refine (exists_any p _ c0).mono ?_; rintro e w2 ⟨rfl, rfl⟩)
    | (go_at_call 39; refine (takes_any p s.cT s.cX X.length s.AT s.AX L t _ hcp.1 hcp.2 c0 c1 c4 hA).mono ?_; rintro e W2 ⟨rfl, hB2⟩; rw [HM.out]))
  go_ret2
  exact ⟨rfl, hB.trans (hB2.mono hB.size)⟩
set_option maxRecDepth 50000 in
set_option maxHeartbeats 2000000 in
theorem isStore_yes (Fp : Nat → Prop) (p : Nat) (L : List T3) (X : List (List Int)) (w : World) (h : CS Fp w p L X) :
    Calls Try.prog 24 #[.pointer (some ⟨p, 0, none⟩)] w fun e w' => e = .returned (.bool true) ∧ Below w.heap.size w w' := by
  have H1 := hid (put_badB Fp p L X (0, 0, 0) w h (by simp [mayB]))
  unfold tv at H1
  dsimp only at H1
  clear h
  go_enter Try.func24, Try.ntmps24
  go_wp2_with (go_at_call 23; refine H1.out.mono ?_; rintro e w1 ⟨rfl, hb⟩)
  go_ret
  exact ⟨rfl, hb⟩
set_option maxRecDepth 50000 in
set_option maxHeartbeats 2000000 in
theorem isStore_nil (w : World) :
    Calls Try.prog 24 #[.pointer none] w fun e w' => e = .returned (.bool false) ∧ Below w.heap.size w w' := by
  have H1 := hid (put_nil (0, 0, 0) w)
  unfold tv at H1
  dsimp only at H1
  go_enter Try.func24, Try.ntmps24
  go_wp2_with (go_at_call 23; refine H1.out.mono ?_; rintro e w1 ⟨rfl, hb⟩)
  go_ret
  exact ⟨rfl, hb⟩
end Go.Proofs.Ytboofkmbjmnpeaa

/- Are numbers those of terms; are two rows of numbers the same. -/
namespace Go.Proofs.Ytboofkmbjmnpeaa
open Go Go.RowKit Go.Maps

set_option maxRecDepth 50000 in
set_option maxHeartbeats 2000000 in
theorem right_any (A : Option Addr) (m c : Nat) (B : Option Addr) (n d : Nat) (gs : List Int) (r : Bool) (w : World) (hn : n = gs.length) (hB : Nums w .i64 B gs) (hr : decide (∀ x ∈ gs, 0 ≤ x ∧ x < m) = r) (hgl : gs.length ≤ 200) :
    Calls Try.prog 11 #[.slice A m c, .slice B n d] w fun e w' => e = .returned (.bool r) ∧ w = w' := by
  have hn1 : (n : Int) ≤ 200 := by omega
  have HN := hid hn
  have HR := hid hr
  clear hn hr hgl
  go_enter Try.func11, Try.ntmps11
  go_wp2
  go_loopw [9] (fun v wr => ∃ j : Nat, j ≤ n ∧ v = .int .i64 j ∧ Hid (w = wr) ∧ Hid (∀ x ∈ gs.take j, 0 ≤ x ∧ x < m)) (fun v _ => n - (intOf v).toNat)
  case atStart => exact ⟨0, Nat.zero_le _, rfl, by first | exact hid rfl | exact hid trivial, hid fun x hx => by simp at hx⟩
  case round =>
    obtain ⟨j, hj, rfl, HWW, HJ⟩ := hrel
    obtain rfl := HWW.out
    clear HWW
    by_cases hlt : j < n
    · obtain ⟨b, off, x, rfl, _, hcell, hx⟩ := hB.get (i := j) (by rw [← HN.out]; exact hlt)
      have hlt' : (j : Int) < n := by omega
      have j0 : (0 : Int) ≤ j := by omega
      have j1 : j + 1 ≤ n := by omega
      by_cases hd : 0 ≤ x ∧ x < m
      · obtain ⟨d0, d1⟩ := hd
        have d2 : ¬ x < 0 := by omega
        have d3 : decide ((m : Int) ≤ x) = false := decide_eq_false (by omega)
        have HJ2 : Hid (∀ x ∈ gs.take (j + 1), 0 ≤ x ∧ x < m) := hid fun y hy => by
          rw [List.take_add_one, hx.out] at hy
          simp only [Option.toList_some, List.mem_append, List.mem_singleton] at hy
          rcases hy with h1 | h1
          · exact HJ.out y h1
          · rw [h1]; exact ⟨d0, d1⟩
        clear hlt hj HJ hx
        go_wp2
        go_roundw
        case rel => exact ⟨j + 1, j1, by go_num, by first | exact hid rfl | exact hid trivial, HJ2⟩
        case measure => simp [intOf]; omega
      · have hf : r = false := by
          rw [← HR.out]
          exact decide_eq_false fun h => hd (h x (List.mem_of_getElem? hx.out))
        subst hf
        by_cases h0 : x < 0
        · clear hlt hj HJ hx hd
          go_wp2
          go_ret
          exact ⟨rfl, rfl⟩
        · have d1 : (m : Int) ≤ x := by omega
          have d2 : 0 ≤ x := by omega
          have d3 : decide ((m : Int) ≤ x) = true := decide_eq_true d1
          clear hlt hj HJ hx hd
          go_wp2
          go_ret
          exact ⟨rfl, rfl⟩
    · obtain rfl : n = j := by omega
      have ht : r = true := by
        rw [← HR.out]
        refine decide_eq_true ?_
        have := HJ.out
        rwa [List.take_of_length_le (by rw [HN.out]; exact Nat.le_refl _)] at this
      subst ht
      go_wp2
      go_ret
      exact ⟨rfl, rfl⟩
set_option maxRecDepth 50000 in
theorem ints_ne (A B : Option Addr) (n m c d : Nat) (w : World) (h : n ≠ m) :
    Calls Try.prog 17 #[.slice A n c, .slice B m d] w fun e w' => e = .returned (.bool false) ∧ Below w.heap.size w w' := by
  have h1 : (n : Int) ≠ (m : Int) := by omega
  have hne : decide ((n : Int) = (m : Int)) = false := decide_eq_false h1
  go_enter Try.func17, Try.ntmps17
  go_wp2
  go_ret
  exact ⟨rfl, Below.refl _ _⟩
set_option maxRecDepth 50000 in
set_option maxHeartbeats 1000000 in
theorem ints_len (A B : Option Addr) (n c d : Nat) (xs ys : List Int) (g : Bool) (w : World) (hn : n ≤ 4096) (hx : Hid (xs.length = n)) (hy : Hid (ys.length = n)) (hg : Hid (decide (xs = ys) = g)) (hA : Nums w .i64 A xs) (hB : Nums w .i64 B ys) :
    Calls Try.prog 17 #[.slice A n c, .slice B n d] w fun e w' => e = .returned (.bool g) ∧ Below w.heap.size w w' := by
  have hn1 : (n : Int) ≤ 4096 := by omega
  clear hn
  go_enter Try.func17, Try.ntmps17
  go_wp2
  go_loopw [5] (fun i wr => ∃ k : Nat, k ≤ n ∧ i = .int .i64 k ∧ Hid (xs.take k = ys.take k) ∧ Below w.heap.size w wr) (fun i _ => n - (intOf i).toNat)
  case atStart => exact ⟨0, Nat.zero_le _, rfl, hid rfl, Below.refl _ _⟩
  case round =>
    obtain ⟨k, hk, rfl, HT, hb⟩ := hrel
    by_cases hlt : k < n
    · obtain ⟨b1, o1, x, rfl, _, hc1, H1⟩ := (hA.below hb).get (i := k) (by rw [hx.out]; exact hlt)
      obtain ⟨b2, o2, y, rfl, _, hc2, H2⟩ := (hB.below hb).get (i := k) (by rw [hy.out]; exact hlt)
      have hpos : (0 : Int) ≤ k := by omega
      have hlt' : (k : Int) < n := by omega
      by_cases hxy : x = y
      · have HT2 : Hid (xs.take (k + 1) = ys.take (k + 1)) := hid (by rw [take_succ_at H1.out, take_succ_at H2.out, HT.out, hxy])
        have hdb : (x != y) = false := by rw [hxy]; simp
        go_wp2
        go_quiet (fail)
        go_wp2
        go_roundw
        case rel => exact ⟨k + 1, by omega, by go_num, HT2, below_drewN hb _⟩
        case measure => simp [intOf]; omega
      · have hdb : (x != y) = true := bne_iff_ne.2 hxy
        have hgf : g = false := by
          rw [← hg.out]
          refine decide_eq_false fun e => hxy ?_
          have h1 := H1.out
          rw [e, H2.out] at h1
          injection h1 with h1
          exact h1.symm
        subst hgf
        go_wp2
        go_quiet (fail)
        go_wp2
        go_ret
        exact ⟨rfl, below_drewN hb _⟩
    · have e : n = k := by omega
      subst e
      have hgt : g = true := by
        rw [← hg.out]
        refine decide_eq_true ?_
        have := HT.out
        rwa [List.take_of_length_le (by rw [hx.out]; omega), List.take_of_length_le (by rw [hy.out]; omega)] at this
      subst hgt
      go_wp2
      go_ret
      exact ⟨rfl, hb⟩
set_option maxRecDepth 50000 in
theorem ints_any (A B : Option Addr) (n m c d : Nat) (xs ys : List Int) (g : Bool) (w : World) (hn : n ≤ 4096) (hx : n = xs.length) (hy : m = ys.length) (hg : decide (xs = ys) = g) (hA : Nums w .i64 A xs) (hB : Nums w .i64 B ys) :
    Calls Try.prog 17 #[.slice A n c, .slice B m d] w fun e w' => e = .returned (.bool g) ∧ Below w.heap.size w w' := by
  by_cases h : n = m
  · subst h
    exact ints_len A B n c d xs ys g w hn (hid hx.symm) (hid hy.symm) (hid hg) hA hB
  · have e : g = false := by
      rw [← hg]
      exact decide_eq_false fun e => h (by rw [hx, hy, e])
    subst e
    exact ints_ne A B n m c d w h
end Go.Proofs.Ytboofkmbjmnpeaa

/- A range over a function whose elements are known to come one after another in order, and whose rounds all end where they began. -/
namespace Go.Proofs.Ytboofkmbjmnpeaa
open Go Go.RowKit Go.Maps
attribute [local go_sem] Oper.semAt_some

/-- The loop's record l in this state, and the block k for what its rounds put off. -/
def Bk (r : Loop) (l k : Nat) (W : World) : Prop := W.heap[l]? = some (.loop r) ∧ W.heap[k]? = some (.deferred (some []))
theorem Bk.turn {r r' : Loop} {l k : Nat} {W : World} (h : Bk r l k W) (hne : k ≠ l) : Bk r' l k (W.putObj l (.loop r')) :=
  ⟨World.putObj_heap_same (Array.getElem?_eq_some_iff.1 h.1).1, (World.putObj_heap_other hne).trans h.2⟩
/-- Whoever keeps what is no cells keeps both. -/
theorem Bk.keep {r : Loop} {l k B : Nat} {W W' : World} (h : Bk r l k W) (hl : B ≤ l) (hk : B ≤ k) (hK : KeepsFrom B W W') : Bk r l k W' := ⟨hK.same l _ hl h.1 rfl, hK.same k _ hk h.2 rfl⟩
theorem range_inorder {P : Program} {n : Nat} {g : Operand} {ps : Array Tmp} {assign body : Code} {Q : Exit → Act → World → Prop} {a : Act} {w : World} (hn : 1 ≤ n) {gf : Nat} {lb : Array Value} (hg : a.eval g = .func (.func gf) #[] lb) (eg : ∀ args w, (callFunc gf args).run P w = .ok (.enter gf args) w)
    (N : Nat) (enc : Nat → Array Value) (hps : ∀ m, m < N → (enc m).size = ps.size) (Kp : World → World → Prop) (hKt : ∀ A B C, Kp A B → Kp B C → Kp A C) (hKb : ∀ (W : World) (l : Nat) (o' : Obj), w.heap.size ≤ l → Kp W (W.putObj l o'))
    (hseq : ∀ (l : Nat) (J : Nat → World → Prop) (W : World), Below w.heap.size w W → AbidesFrom W.heap.size J → (∀ m W1, m < N → J m W1 → YieldAt Fence.wide (n - 1 - 1) P l (enc m) W1 fun e W' => e = .returned (.bool true) ∧ J (m + 1) W' ∧ Kp W1 W') → J 0 W →
      CallsIn Fence.wide (n - 1) P gf (#[.func (.yield l) #[] #[]] ++ lb) W fun e W' => (∃ v, e = .returned v) ∧ J N W')
    (I : Nat → World → Prop) (hI : OwnFrom w.heap.size I) (h0 : I 0 w) (Ax : Nat → Act → World → Prop) (hAx : ∀ m a', OwnFrom w.heap.size (fun (_ : Unit) W => Ax m a' W))
    (hassign : ∀ (l m : Nat) (W : World) (K : Act → World → Prop), m < N → I m W → (∀ a' W', KeepsFrom w.heap.size W W' → Kp W W' → I m W' → Ax m a' W' → K a' W') →
      assign.wpIn (Fence.wide.inRound l) (n - 1 - 1) P (Exit.then K (fun _ _ _ => False)) { tmps := (ps.zip (enc m)).foldl (fun t (p, v) => t.setIfInBounds p v) a.tmps, defers := [] } W)
    (hbody : ∀ (l m : Nat) (a' : Act) (W : World), w.heap.size ≤ l → m < N → I m W → Ax m a' W → body.wpIn (Fence.wide.inRound l) (n - 1 - 1) P (fun e _ W' => e = .normal ∧ KeepsFrom w.heap.size W W' ∧ Kp W W' ∧ I (m + 1) W') a' W)
    (hdone : ∀ (D : Nat) (W : World), w.heap.size ≤ D → I N W → W.heap[D]? = some (.deferred (some [])) → Q .normal { a with defers := { target := .collected D, args := #[] } :: a.defers } W) :
    (Code.rangeFunc g ps assign body).wpIn Fence.wide n P Q a w := by
  refine wpIn_rangeFunc fun fn hfn => ?_
  -- the record as it is laid, and the world behind
  let r0 : Loop := { state := .ready, pending := none, fn, tmps := a.tmps, params := ps, assign, body, defers := w.heap.size }
  have hk0 : (w.alloc (.deferred (some []))).heap.size = w.heap.size + 1 := by simp
  have hB1 : Below w.heap.size w ((w.alloc (.deferred (some []))).alloc (.loop r0)) := ((Below.refl _ w).alloc (Nat.le_refl _) _).alloc (by simp) _
  have hbk : Bk r0 (w.heap.size + 1) w.heap.size ((w.alloc (.deferred (some []))).alloc (.loop r0)) := by
    refine ⟨?_, (Below.heap_alloc _ _ _ (by simp)).trans (World.alloc_heap_new w _)⟩
    have := World.alloc_heap_new (w.alloc (.deferred (some []))) (.loop r0)
    rwa [hk0] at this
  have hI1 : I 0 ((w.alloc (.deferred (some []))).alloc (.loop r0)) := hI.alloc _ (hI.alloc _ h0)
  have hs1 : ((w.alloc (.deferred (some []))).alloc (.loop r0)).heap.size = w.heap.size + 2 := by simp
  refine ⟨w.heap.size + 1, [{ target := .collected w.heap.size, args := #[] }], (w.alloc (.deferred (some []))).alloc (.loop r0), { target := .fn (.func gf) lb, args := #[.func (.yield (w.heap.size + 1)) #[] #[]] }, _, gf, #[.func (.yield (w.heap.size + 1)) #[] #[]] ++ lb, _, run_enterLoop_outer _ _ _ _ _, by simp only [resolve, hg]; simp [go_sem]; rfl, fun _ _ => trivial, by simp [invoke, go_sem, eg]; rfl, fun _ => hn, ?_⟩
  generalize hW1 : (w.alloc (.deferred (some []))).alloc (.loop r0) = W1 at hB1 hbk hI1 hs1
  refine (hseq (w.heap.size + 1) (fun m W => I m W ∧ Bk r0 (w.heap.size + 1) w.heap.size W) W1 hB1 ?_ ?_ ⟨hI1, hbk⟩).mono ?_
  · -- it abides the steps of the iterator
    intro m A B row hm hgr hrow
    have hcell : ∀ (k : Nat) (o : Obj), A.heap[k]? = some o → o.isWalk = false → B.heap[k]? = some o := fun k o ho hw => (grownBy_keeps hgr (fun r e => (hrow r e).2) ho hw).trans ho
    refine ⟨hI m A B row hm.1 hgr fun q e => ?_, hcell _ _ hm.2.1 rfl, hcell _ _ hm.2.2 rfl⟩
    obtain ⟨h1, o, ho, hw⟩ := hrow q e
    exact ⟨by omega, o, ho, Obj.not_cells_of_walk hw⟩
  · -- one round
    rintro m W hm ⟨hi, hk⟩
    have hy := run_yield (P := P) (args := enc m) hk.1 (hps m hm)
    refine ⟨fn, _, assign, body, hy, roundIn_of_wpIn hfn (hassign _ m W _ hm hi ?_)⟩
    intro a' W2 hK2 hp2 hi2 hax2
    have hk2 := hk.keep (by omega) (Nat.le_refl _) hK2
    refine ⟨_, run_beginRound hk2.1 rfl, ?_⟩
    have hk3 : Bk { r0 with state := .busy } (w.heap.size + 1) w.heap.size (W2.putObj (w.heap.size + 1) (.loop { r0 with state := .busy })) := hk2.turn (by omega)
    refine wpIn_mono (hbody _ m a' _ (by omega) hm (hI.putObj _ hi2 (by omega) hk2.1 rfl) ((hAx m a').putObj (s := ()) _ hax2 (by omega) hk2.1 rfl)) ?_
    rintro e a3 W3 ⟨rfl, hK3, hp3, hi3⟩
    have hk4 := hk3.keep (by omega) (Nat.le_refl _) hK3
    have hk5 : Bk r0 (w.heap.size + 1) w.heap.size (W3.putObj (w.heap.size + 1) (.loop r0)) := hk4.turn (by omega)
    exact ⟨_, _, run_endRound (P := P) none hk4.1, rfl, ⟨hI.putObj _ hi3 (by omega) hk4.1 rfl, hk5⟩, hKt _ _ _ (hKt _ _ _ (hKt _ _ _ hp2 (hKb _ _ _ (by omega))) hp3) (hKb _ _ _ (by omega))⟩
  · -- behind the iterator
    rintro e W ⟨⟨v, rfl⟩, hi, hk⟩
    have hk2 : Bk { r0 with state := .exhausted } (w.heap.size + 1) w.heap.size (W.putObj (w.heap.size + 1) (.loop { r0 with state := .exhausted })) := hk.turn (by omega)
    exact ⟨none, _, run_endLoop (P := P) hk.1 (by simp [r0]), hdone _ _ (Nat.le_refl _) (hI.putObj _ hi (by omega) hk.1 rfl) hk2.2⟩
/-- What a round is handed. -/
def encN (L : List T3) (m : Nat) : Array Value := #[.int .i64 (m : Int), tv (L.getD m (0, 0, 0))]
theorem encN_at {L : List T3} {m : Nat} {t : T3} (h : L[m]? = some t) : encN L m = #[.int .i64 (m : Int), tv t] := by simp [encN, h]
set_option maxRecDepth 50000 in
set_option maxHeartbeats 4000000 in
theorem allO_in (n : Nat) (hn1 : 1 ≤ n) (l b c : Nat) (A : Option Addr) (L : List T3) (J : Nat → World → Prop) (W0 : World) (hL : L.length ≤ 40)
    (hJ : AbidesFrom W0.heap.size J)
    (hY : ∀ m W, m < L.length → J m W → YieldAt Fence.wide (n - 1) Try.prog l (encN L m) W fun e W' => e = .returned (.bool true) ∧ J (m + 1) W' ∧ KpG (A.map (·.block)) W W')
    (hcc : W0.cell? ⟨b, 0, none⟩ = some (.slice A L.length c)) (hA : TCells W0 A L) (hJ0 : J 0 W0) :
    Calls Try.prog 40 #[.func (.yield l) #[] #[], .pointer (some ⟨b, 0, none⟩)] W0 fun e W' => (∃ v, e = .returned v) ∧
      J L.length W' := by
  have hJn : ∀ m A B, J m A → Below A.heap.size A B → J m B := fun m A B h hb => hJ m A B none h (grown_of_below hb none) (fun r e => by cases e)
  have hL2 : (L.length : Int) ≤ 40 := by omega
  clear hJ hL
  go_enter Try.func40, Try.ntmps40
  go_wp2
  refine (wpIn_wide (n := n)).1 ?_
  gi_loopw [7] (fun v wr => ∃ (m : Nat), m ≤ L.length ∧ v = .int .i64 m ∧ J m wr ∧ TCells wr A L) (fun i _ => L.length - (intOf i).toNat)
  case atStart => exact ⟨0, Nat.zero_le _, rfl, hJ0, hA⟩
  case round =>
    clear hJ0 hcc hA
    obtain ⟨m, hm, rfl, hJr, hAr⟩ := hrel
    by_cases hlt : m < L.length
    · have hlt' : (m : Int) < L.length := by omega
      have hm0 : (0 : Int) ≤ m := by omega
      have hm1 : m + 1 ≤ L.length := by omega
      obtain ⟨g, rfl, hr⟩ := hAr m (L[m]'hlt) (by simp [hlt])
      obtain ⟨k, a, bb, htt⟩ : ∃ k a bb, L[m]'hlt = (k, a, bb) := ⟨_, _, _, rfl⟩
      have x0 : wr.cell? ⟨g, m * 3, none⟩ = some (.int .i64 k) := by have := hr 0 (.int .i64 (L[m]'hlt).1) rfl; rw [htt] at this; exact this
      have x1 : wr.cell? ⟨g, m * 3 + 1, none⟩ = some (.int .i64 a) := by have := hr 1 (.int .i64 (L[m]'hlt).2.1) rfl; rw [htt] at this; exact this
      have x2 : wr.cell? ⟨g, m * 3 + 2, none⟩ = some (.int .i64 bb) := by have := hr 2 (.int .i64 (L[m]'hlt).2.2) rfl; rw [htt] at this; exact this
      obtain ⟨W5, hW5, y0, y1, y2, hb5, hB5⟩ := term_world (k, a, bb) wr
      dsimp only at hW5 y0 y1 y2
      have HW5 := hid hW5
      have hJ5 := hJn m wr W5 hJr hb5
      have hA5 := hAr.next hb5
      obtain ⟨fn, tmps, assign, body, hyl, hR⟩ := hY m W5 hlt hJ5
      rw [encN_at (t := (k, a, bb)) (by simp [hlt, htt])] at hyl
      unfold tv at hyl
      dsimp only at hyl
      clear hr hW5 hJr hAr hb5 hB5 hJ5 htt hm
      gi_upto_region 3 with (fail)
      rw [HW5.out]
      clear x0 x1 x2 HW5
      gi_wp2
      refine hR.mono ?_
      rintro e W3 ⟨rfl, hJ3, hk3⟩
      · have hA3 := hA5.kp hk3
        clear hR hyl y0 y1 y2 hk3 hA5
        gi_wp2
        go_roundw
        case rel => exact ⟨m + 1, hm1, by go_num, hJ3, hA3⟩
        case measure => simp [intOf]; omega
    · have hge : ¬ (m : Int) < L.length := by omega
      obtain rfl : L.length = m := by omega
      clear hm hlt
      gi_wp2
      first | go_end0 | (refine bodyPost_end (results_none rfl _ _ _) rfl ?_)
      exact ⟨⟨_, rfl⟩, hJr⟩
end Go.Proofs.Ytboofkmbjmnpeaa
