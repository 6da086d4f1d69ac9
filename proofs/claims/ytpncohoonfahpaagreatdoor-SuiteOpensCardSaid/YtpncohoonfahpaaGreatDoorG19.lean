/- Texts of this proof, laid together: UState, UFun, HWSame, TRef, TRPut, TRDraw, TRText. -/
import Derived.Test.YtpncohoonfahpaaGreatDoorG10
import Derived.Test.YtpncohoonfahpaaGreatDoorG18
import Derived.Test.YtpncohoonfahpaaGreatDoorG11
import Derived.Test.YtpncohoonfahpaaGreatDoorRows
import Derived.Test.YtpncohoonfahpaaGreatDoorBase
import Derived.BigQuiet
import Derived.Deep.QuietTactic
import Derived.DeepKeys
/- A suite of terms in memory; its values. -/
namespace Go.Proofs.YtpncohoonfahpaaGreatDoor
open Go Go.RowKit

section
variable {F G : Nat → Prop} {w w' : World} {q p : Nat} {L L' : List T3} {X X' : List (List Int)}
/-- A suite of terms at q, whose store is at p. -/
structure IsT (w : World) (q p : Nat) : Prop where
  tag : w.cell? ⟨q, 0, none⟩ = some (.int .i64 2)
  draws : w.cell? ⟨q, 33, none⟩ = some (.int .i64 0)
  store : w.cell? ⟨q, 34, none⟩ = some (.pointer (some ⟨p, 0, none⟩))
set_option maxRecDepth 50000 in
theorem IsT.lt (h : IsT w q p) : q < w.heap.size := World.block_lt_of_cell? w _ h.tag
set_option maxRecDepth 50000 in
theorem IsT.next (h : IsT w q p) (hb : Below w.heap.size w w') : IsT w' q p :=
  ⟨(hb.cell (p := ⟨q, 0, none⟩) h.lt).trans h.tag, (hb.cell (p := ⟨q, 33, none⟩) h.lt).trans h.draws, (hb.cell (p := ⟨q, 34, none⟩) h.lt).trans h.store⟩
set_option maxRecDepth 50000 in
theorem Chg.cell (hc : Chg G w w') {a : Addr} (hl : a.block < w.heap.size) (hG : ¬ G a.block) : w'.cell? a = w.cell? a := by
  unfold World.cell?
  rw [hc.block a.block hl hG]
set_option maxRecDepth 50000 in
theorem IsT.chg (h : IsT w q p) (hc : Chg G w w') (hG : ¬ G q) : IsT w' q p :=
  ⟨(hc.cell (a := ⟨q, 0, none⟩) h.lt hG).trans h.tag, (hc.cell (a := ⟨q, 33, none⟩) h.lt hG).trans h.draws, (hc.cell (a := ⟨q, 34, none⟩) h.lt hG).trans h.store⟩
/-- A suite and its store; the store's blocks are in F, the suite's is not. -/
structure Su (F : Nat → Prop) (w : World) (q p : Nat) (L : List T3) (X : List (List Int)) : Prop where
  cs : CS F w p L X
  is : IsT w q p
  ap : ¬ F q
  bd : ∀ b, F b → b < w.heap.size
set_option maxRecDepth 50000 in
theorem Su.next (h : Su F w q p L X) (hb : Below w.heap.size w w') : Su F w' q p L X := ⟨h.cs.next hb, h.is.next hb, h.ap, fun b hf => Nat.lt_of_lt_of_le (h.bd b hf) hb.size⟩
set_option maxRecDepth 50000 in
theorem Su.chg (h : Su F w q p L X) (hc : Chg G w w') (hG : ∀ b, F b → ¬ G b) (hq : ¬ G q) : Su F w' q p L X := ⟨h.cs.chg hc hG, h.is.chg hc hq, h.ap, fun b hf => Nat.lt_of_lt_of_le (h.bd b hf) hc.size⟩
set_option maxRecDepth 50000 in
theorem Su.grw (h : Su F w q p L X) (hC : CS (Grw F w w') w' p L' X') (hc : Chg F w w') : Su (Grw F w w') w' q p L' X' :=
  ⟨hC, h.is.chg hc h.ap, fun e => by
    rcases e with e | e
    · exact h.ap e
    · have := h.is.lt; omega, fun b hf => by
    rcases hf with e | e
    · exact Nat.lt_of_lt_of_le (h.bd b e) hc.size
    · exact e.2⟩
set_option maxRecDepth 50000 in
theorem Grw.two {w1 w2 : World} {b : Nat} (h1 : Chg F w w1) (h2 : Below w1.heap.size w1 w2) (h : Grw F w w1 b) : Grw F w w2 b := by
  rcases h with h | h
  · exact .inl h
  · exact .inr ⟨h.1, Nat.lt_of_lt_of_le h.2 h2.size⟩
/-- A value, which stands for the term of a number, or for none. -/
def Vl (w : World) (v : Value) : Option Nat → Prop
  | some n => n ≤ 40 ∧ ∃ A c, v = .slice A 9 c ∧ 9 ≤ c ∧ Nums w .u8 A (valL n)
  | none => v = .slice none 0 0 ∨ ∃ A c, v = .slice A 9 c ∧ 9 ≤ c ∧ Nums w .u8 A (valL 99)
set_option maxRecDepth 50000 in
theorem Vl.next {v : Value} {o : Option Nat} (h : Vl w v o) (hb : Below w.heap.size w w') : Vl w' v o := by
  cases o with
  | some n => obtain ⟨h0, A, c, h1, h2, h3⟩ := h; exact ⟨h0, A, c, h1, h2, h3.below hb⟩
  | none =>
    rcases h with h | ⟨A, c, h1, h2, h3⟩
    · exact .inl h
    · exact .inr ⟨A, c, h1, h2, h3.below hb⟩
end
end Go.Proofs.YtpncohoonfahpaaGreatDoor

/- What a suite is; the number of a value; the value of a number; put. -/
namespace Go.Proofs.YtpncohoonfahpaaGreatDoor
open Go Go.RowKit

set_option maxRecDepth 50000 in
theorem su_is (q : Nat) (k : Int) (w : World) (c0 : w.cell? ⟨q, 0, none⟩ = some (.int .i64 k)) :
    Calls Tryz.prog 47 #[.pointer (some ⟨q, 0, none⟩)] w fun e w' => e = .returned (.int .i64 k) ∧ w = w' := by
  go_enter Tryz.func47, Tryz.ntmps47
  go_wp2
  go_ret
  exact ⟨rfl, rfl⟩
set_option maxRecDepth 50000 in
theorem val_parts {w : World} {A : Option Addr} {n : Nat} (h : Nums w .u8 A (valL n)) : ∃ b o, A = some ⟨b, o, none⟩ ∧ w.cell? ⟨b, o, none⟩ = some (.int .u8 247) ∧ Nums w .u8 (some ⟨b, o + 1, none⟩) (splitB true 8 [(n : Int)]) := by
  obtain ⟨b, o, rfl, hb, hc⟩ := h (by rw [valL_len]; omega)
  exact ⟨b, o, rfl, hc 0 (by rw [valL_len]; omega), Nums.from (xs := [247]) h rfl⟩
set_option maxRecDepth 50000 in
set_option maxHeartbeats 2000000 in
theorem number_val (F : Nat → Prop) (q p : Nat) (L : List T3) (X : List (List Int)) (A : Option Addr) (c n : Nat) (b : Bool) (w : World) (h : Su F w q p L X) (hn : n ≤ 1000) (hc : 9 ≤ c) (hN : Nums w .u8 A (valL n)) (hb : Hid (b = decide (n < L.length))) :
    Calls Tryz.prog 43 #[.pointer (some ⟨q, 0, none⟩), .slice A 9 c] w fun e w' => e = .returned (.tuple #[.int .i64 (if b then n else 0), .bool b]) ∧ Below w.heap.size w w' := by
  obtain ⟨g, o, rfl, x0, hT⟩ := val_parts hN
  have t0 := h.is.tag
  have HT := hid hT
  have hl2 : (9 : Int) ≤ c := by omega
  clear hN hT
  by_cases hlt : n < L.length
  · obtain rfl : b = true := by rw [hb.out]; exact decide_eq_true hlt
    have e1 : ¬ L.length ≤ n := by omega
    clear hlt hb
    go_enter Tryz.func43, Tryz.ntmps43
    go_wp2_with (first
      | (go_at_call 47; refine (su_is q 2 _ t0).mono ?_; rintro e w2 ⟨rfl, rfl⟩)
      | (go_at_call 94; refine (len_any p L.length cL AL _ s0 s1).mono ?_; rintro e w3 ⟨rfl, rfl⟩)
      | (go_at_call 93; refine (get8_any n _ _ _ (by omega) HT.out).mono ?_; rintro e w1 ⟨rfl, hb1⟩; have h1 := h.next hb1; obtain ⟨AL, cL, AX, cX, s0, s1, _⟩ := h1.cs.cells; have t3 := h1.is.store; have HB := hid hb1; clear hb1 h1))
    go_ret2
    exact ⟨rfl, HB.out⟩
  · obtain rfl : b = false := by rw [hb.out]; exact decide_eq_false hlt
    have e1 : L.length ≤ n := by omega
    clear hlt hb
    go_enter Tryz.func43, Tryz.ntmps43
    go_wp2_with (first
      | (go_at_call 47; refine (su_is q 2 _ t0).mono ?_; rintro e w2 ⟨rfl, rfl⟩)
      | (go_at_call 94; refine (len_any p L.length cL AL _ s0 s1).mono ?_; rintro e w3 ⟨rfl, rfl⟩)
      | (go_at_call 93; refine (get8_any n _ _ _ (by omega) HT.out).mono ?_; rintro e w1 ⟨rfl, hb1⟩; have h1 := h.next hb1; obtain ⟨AL, cL, AX, cX, s0, s1, _⟩ := h1.cs.cells; have t3 := h1.is.store; have HB := hid hb1; clear hb1 h1))
    go_ret2
    exact ⟨rfl, HB.out⟩
set_option maxRecDepth 50000 in
theorem number_nil (F : Nat → Prop) (q p : Nat) (L : List T3) (X : List (List Int)) (w : World) (h : Su F w q p L X) :
    Calls Tryz.prog 43 #[.pointer (some ⟨q, 0, none⟩), .slice none 0 0] w fun e w' => e = .returned (.tuple #[.int .i64 0, .bool false]) ∧ w = w' := by
  have t0 := h.is.tag
  go_enter Tryz.func43, Tryz.ntmps43
  go_wp2_with (go_at_call 47; refine (su_is q 2 _ t0).mono ?_; rintro e w2 ⟨rfl, rfl⟩)
  go_ret2
  exact ⟨rfl, rfl⟩
/-- The number of a value. -/
def nOf : Option Nat → Int
  | some n => n
  | none => 0
set_option maxRecDepth 50000 in
theorem number_any (F : Nat → Prop) (q p : Nat) (L : List T3) (X : List (List Int)) (v : Value) (x : Option Nat) (w : World) (h : Su F w q p L X) (hv : Vl w v x) (hx : ∀ n, x = some n → n < L.length) (hL : L.length ≤ 40) :
    Calls Tryz.prog 43 #[.pointer (some ⟨q, 0, none⟩), v] w fun e w' => e = .returned (.tuple #[.int .i64 (nOf x), .bool x.isSome]) ∧ Below w.heap.size w w' := by
  cases x with
  | some n =>
    obtain ⟨h0, A, c, rfl, hc, hN⟩ := hv
    exact number_val F q p L X A c n true w h (by omega) hc hN (hid (decide_eq_true (hx n rfl)).symm)
  | none =>
    rcases hv with rfl | ⟨A, c, rfl, hc, hN⟩
    · exact (number_nil F q p L X w h).mono fun e w' ⟨he, hw⟩ => ⟨he, by subst hw; exact Below.refl _ _⟩
    · exact number_val F q p L X A c 99 false w h (by omega) hc hN (hid (decide_eq_false (by omega)).symm)
set_option maxRecDepth 50000 in
set_option maxHeartbeats 2000000 in
theorem valueOf_ok (n : Nat) (w : World) (hn : n ≤ 1000) :
    Calls Tryz.prog 49 #[.int .i64 n, .int .i64 0] w fun e w' => ∃ A c, e = .returned (.tuple #[.slice A 9 c, .int .i64 0]) ∧ 9 ≤ c ∧ NumsF w.heap.size w' .u8 A (valL n) ∧ Below w.heap.size w w' := by
  have HL := hid (split_len true 8 n)
  go_enter Tryz.func49, Tryz.ntmps49
  go_wp2_with (first
    | (go_at_call 97; refine (wput_any n 8 _ (by omega) (by omega) (fits8 (by omega))).mono ?_; rintro e w1 ⟨B, d, rfl, hd, hN, hb⟩
       have hO := Owns.new w1 w.heap.size 5 .u8 [247] hb.size (by unfold maxLen; decide)
       have hb2 := hb.trans (Below.mono (below_new w1 (.cells (([247] : List Int).map (Value.int .u8)).toArray 5)) hb.size)
       have hN2 := hN.nums.below (below_new w1 (.cells (([247] : List Int).map (Value.int .u8)).toArray 5)))
    | (at_builtin; refine app_nums rfl (.tmp 16) (.tmp 17) 23 rfl w.heap.size 5 .u8 1 Tryz.underlying23 Tryz.info5 (by omega) (some ⟨w1.heap.size, 0, none⟩) 1 1 [247] rfl hO B d (splitB true 8 [(n : Int)]) (by rw [split_len]; rfl) hN2 (by rw [split_len]; decide) hb2.size ?_; intro A3 n3 c3 w3 hO3 hG3))
  have hl := hO3.len
  rw [List.length_append, split_len] at hl
  have hl9 : n3 = 9 := hl
  have hcap : n3 ≤ c3 := by
    obtain ⟨g, _, h2⟩ := hO3.addr (by rw [List.length_append, split_len]; decide)
    exact h2
  have hb3 : Below w.heap.size w w3 := hb2.trans (hG3.below hb2.size (fun g hg => (hO.lt g hg).1))
  subst hl9
  go_ret2
  exact ⟨A3, c3, rfl, hcap, hO3.fresh, hb3⟩
set_option maxRecDepth 50000 in
theorem valueOf_err (n k : Int) (w : World) (hk : (k != 0) = true) :
    Calls Tryz.prog 49 #[.int .i64 n, .int .i64 k] w fun e w' => e = .returned (.tuple #[.slice none 0 0, .int .i64 k]) ∧ w = w' := by
  go_enter Tryz.func49, Tryz.ntmps49
  go_wp2
  go_ret2
  exact ⟨rfl, rfl⟩
end Go.Proofs.YtpncohoonfahpaaGreatDoor

/- The reference functions of layer 1 on rows of bytes. No condition. -/
namespace Go.Proofs.YtpncohoonfahpaaGreatDoor
open Go.RowKit


set_option maxRecDepth 50000 in
set_option maxHeartbeats 400000 in
theorem same_eq (A B : Option Addr) (c d : Nat) (xs ys : List Int) (w : World) (he : xs = ys) (hm : xs.length ≤ maxLen) (hA : Nums w .u8 A xs) (hB : Nums w .u8 B ys) :
    Calls Tryz.prog 11 #[.slice A xs.length c, .slice B ys.length d] w fun e w' => e = .returned (.bool true) ∧ Below w.heap.size w w' := by
  subst he
  unfold maxLen at hm
  go_enter Tryz.func11, Tryz.ntmps11
  go_wp2
  go_loopw [5] (fun i wr => ∃ k : Nat, k ≤ xs.length ∧ i = .int .i64 k ∧ Below w.heap.size w wr) (fun i _ => xs.length - (intOf i).toNat)
  case atStart => exact ⟨0, Nat.zero_le _, rfl, Below.refl _ _⟩
  case round =>
    obtain ⟨k, hk, rfl, hb⟩ := hrel
    by_cases hlt : k < xs.length
    · obtain ⟨b1, o1, x, rfl, _, hc1, H1⟩ := (hA.below hb).get hlt
      obtain ⟨b2, o2, y, rfl, _, hc2, H2⟩ := (hB.below hb).get hlt
      have hxy : x = y := by have := H1.out.symm.trans H2.out; injection this
      subst hxy
      have hpos : (0 : Int) ≤ k := by omega
      have hlt' : (k : Int) < xs.length := by omega
      go_wp2
      go_quiet (fail)
      go_wp2
      go_roundw
      case rel => exact ⟨k + 1, by omega, by go_num, below_drewN hb _⟩
      case measure => simp [intOf]; omega
    · go_wp2
      go_ret
      exact ⟨rfl, hb⟩
end Go.Proofs.YtpncohoonfahpaaGreatDoor

/- Same of any two rows; two terms compared; the reference's store in memory; Find. -/
namespace Go.Proofs.YtpncohoonfahpaaGreatDoor
open Go Go.RowKit Go.Maps

set_option maxRecDepth 50000 in
theorem take_succ_atZ {l : List Int} {k : Nat} {x : Int} (h : l[k]? = some x) : l.take (k + 1) = l.take k ++ [x] := by
  obtain ⟨hl, e⟩ := List.getElem?_eq_some_iff.1 h
  rw [List.take_succ_eq_append_getElem hl, e]
set_option maxRecDepth 50000 in
theorem rsame_ne (A B : Option Addr) (n m c d : Nat) (w : World) (h : n ≠ m) :
    Calls Tryz.prog 11 #[.slice A n c, .slice B m d] w fun e w' => e = .returned (.bool false) ∧ Below w.heap.size w w' := by
  have h1 : (n : Int) ≠ (m : Int) := by omega
  have hne : decide ((n : Int) = (m : Int)) = false := decide_eq_false h1
  go_enter Tryz.func11, Tryz.ntmps11
  go_wp2
  go_ret
  exact ⟨rfl, Below.refl _ _⟩
set_option maxRecDepth 50000 in
set_option maxHeartbeats 1000000 in
theorem rsame_len (A B : Option Addr) (n c d : Nat) (xs ys : List Int) (g : Bool) (w : World) (hn : n ≤ 4096) (hx : Hid (xs.length = n)) (hy : Hid (ys.length = n)) (hg : Hid (decide (xs = ys) = g)) (hA : Nums w .u8 A xs) (hB : Nums w .u8 B ys) :
    Calls Tryz.prog 11 #[.slice A n c, .slice B n d] w fun e w' => e = .returned (.bool g) ∧ Below w.heap.size w w' := by
  have hn1 : (n : Int) ≤ 4096 := by omega
  clear hn
  go_enter Tryz.func11, Tryz.ntmps11
  go_wp2
  go_loopw [5] (fun i wr => ∃ k : Nat, k ≤ n ∧ i = .int .i64 k ∧ Hid (xs.take k = ys.take k) ∧ Below w.heap.size w wr) (fun i _ => n - (intOf i).toNat)
  case atStart => exact ⟨0, Nat.zero_le _, rfl, hid rfl, Below.refl _ _⟩
  case round =>
    obtain ⟨k, hk, rfl, HT, hb⟩ := hrel
    by_cases hlt : k < n
    · obtain ⟨b1, o1, x, rfl, _, hc1, H1⟩ := (hA.below hb).get (i := k) (by rw [hx.out]; exact hlt)
      obtain ⟨b2, o2, y, rfl, _, hc2, H2⟩ := (hB.below hb).get (i := k) (by rw [hy.out]; exact hlt)
      have hpos : (0 : Int) ≤ k := by omega
      have hlt' : (k : Int) < n := by omega
      by_cases hxy : x = y
      · have HT2 : Hid (xs.take (k + 1) = ys.take (k + 1)) := hid (by rw [take_succ_atZ H1.out, take_succ_atZ H2.out, HT.out, hxy])
        have hdb : (x != y) = false := by rw [hxy]; simp
        go_wp2
        go_quiet (fail)
        go_wp2
        go_roundw
        case rel => exact ⟨k + 1, by omega, by go_num, HT2, below_drewN hb _⟩
        case measure => simp [intOf]; omega
      · have hdb : (x != y) = true := bne_iff_ne.2 hxy
        have hgf : g = false := by
          rw [← hg.out]
          refine decide_eq_false fun e => hxy ?_
          have h1 := H1.out
          rw [e, H2.out] at h1
          injection h1 with h1
          exact h1.symm
        subst hgf
        go_wp2
        go_quiet (fail)
        go_wp2
        go_ret
        exact ⟨rfl, below_drewN hb _⟩
    · have e : n = k := by omega
      subst e
      have hgt : g = true := by
        rw [← hg.out]
        refine decide_eq_true ?_
        have := HT.out
        rwa [List.take_of_length_le (by rw [hx.out]; omega), List.take_of_length_le (by rw [hy.out]; omega)] at this
      subst hgt
      go_wp2
      go_ret
      exact ⟨rfl, hb⟩
set_option maxRecDepth 50000 in
theorem rsame_any (A B : Option Addr) (n m c d : Nat) (xs ys : List Int) (g : Bool) (w : World) (hn : n ≤ 4096) (hx : xs.length = n) (hy : ys.length = m) (hg : decide (xs = ys) = g) (hA : Nums w .u8 A xs) (hB : Nums w .u8 B ys) :
    Calls Tryz.prog 11 #[.slice A n c, .slice B m d] w fun e w' => e = .returned (.bool g) ∧ Below w.heap.size w w' := by
  by_cases h : n = m
  · subst h
    exact rsame_len A B n c d xs ys g w hn (hid hx) (hid hy) (hid hg) hA hB
  · have e : g = false := by
      rw [← hg]
      exact decide_eq_false fun e => h (by rw [← hx, ← hy, e])
    subst e
    exact rsame_ne A B n m c d w h

set_option maxRecDepth 50000 in
theorem eq_term {t u : T3} {b : Bool} (ht : Twf t) (hu : Twf u) (hb : decide (t = u) = b) (w : World) : (binOp .eql 65 (.agg (tc t).toArray) (.agg (tc u).toArray)).run Tryz.prog w = .ok (.bool b) w := by
  obtain ⟨r, hr, hiff⟩ := run_equal_deep (P := Tryz.prog) w (m := 3) (by decide) (k := 65) (by kernel_rfl) wideT (key_of t ht) (key_of u hu)
  have hr2 : (Op.equal 65 (.agg (tc t).toArray) (.agg (tc u).toArray)).run Tryz.prog w = .ok r w := hr
  have e : r = b := by
    rw [← hb, Bool.eq_iff_iff, decide_eq_true_iff]
    exact ⟨fun h => tk_inj ht hu (hiff.1 h), fun h => hiff.2 (by rw [h])⟩
  subst e
  unfold binOp
  dsimp only
  simp only [Sem.run_bind, hr2, Result.andThen_ok, Sem.run_pure]
set_option maxRecDepth 50000 in
theorem ne_term {t u : T3} {b : Bool} (ht : Twf t) (hu : Twf u) (hb : decide (t = u) = b) (w : World) : (binOp .neq 65 (.agg (tc t).toArray) (.agg (tc u).toArray)).run Tryz.prog w = .ok (.bool (!b)) w := by
  obtain ⟨r, hr, hiff⟩ := run_equal_deep (P := Tryz.prog) w (m := 3) (by decide) (k := 65) (by kernel_rfl) wideT (key_of t ht) (key_of u hu)
  have hr2 : (Op.equal 65 (.agg (tc t).toArray) (.agg (tc u).toArray)).run Tryz.prog w = .ok r w := hr
  have e : r = b := by
    rw [← hb, Bool.eq_iff_iff, decide_eq_true_iff]
    exact ⟨fun h => tk_inj ht hu (hiff.1 h), fun h => hiff.2 (by rw [h])⟩
  subst e
  unfold binOp
  dsimp only
  simp only [Sem.run_bind, hr2, Result.andThen_ok, Sem.run_pure]

set_option maxRecDepth 50000 in
theorem rng_next {w w' : World} {b o : Nat} {cs : List Value} (h : w.rangeAt b o cs) (hb : Below w.heap.size w w') : w'.rangeAt b o cs := fun j v hj => cellB (h j v hj) hb
set_option maxRecDepth 50000 in
theorem hegT : Tryz.prog.eqGuardType Tryz.prog.depth 65 = false := by kernel_rfl
set_option maxRecDepth 50000 in
theorem guard_eqT (k : BinOp) (x y : Operand) (t u : T3) (w : World) : (eqGuard k 65 x y (.agg (tc t).toArray) (.agg (tc u).toArray)).run Tryz.prog w = .ok () w := run_eqGuard_agg w k _ x y _ _ hegT
set_option maxRecDepth 50000 in
theorem exec_eqT {ev : Operand → Value} {op : Oper} {x y : Operand} (ho : op.op = .binOp .eql 65 x y 65) {t u : T3} {b : Bool} (hx : ev x = .agg (tc t).toArray) (hy : ev y = .agg (tc u).toArray) (ht : Twf t) (hu : Twf u) (hb : decide (t = u) = b) (w : World) : (execOp ev op).run Tryz.prog w = .ok (.value (.bool b)) w := by
  unfold execOp
  simp only [ho, hx, hy, Sem.run_bind, guard_eqT, Result.andThen_ok, eq_term ht hu hb, Sem.run_pure]
set_option maxRecDepth 50000 in
theorem exec_neT {ev : Operand → Value} {op : Oper} {x y : Operand} (ho : op.op = .binOp .neq 65 x y 65) {t u : T3} {b : Bool} (hx : ev x = .agg (tc t).toArray) (hy : ev y = .agg (tc u).toArray) (ht : Twf t) (hu : Twf u) (hb : decide (t = u) = b) (w : World) : (execOp ev op).run Tryz.prog w = .ok (.value (.bool (!b))) w := by
  unfold execOp
  simp only [ho, hx, hy, Sem.run_bind, guard_eqT, Result.andThen_ok, ne_term ht hu hb, Sem.run_pure]
set_option maxRecDepth 50000 in
theorem wpList_eqT {ops : Array Oper} {rest : List Oper} {op : Oper} {a : Act} {w : World} {Q : Exit → Act → World → Prop} (hgd : op.guard = none) (x y : Operand) (ho : op.op = .binOp .eql 65 x y 65) {t u : T3} {b : Bool} (hx : a.eval x = .agg (tc t).toArray) (hy : a.eval y = .agg (tc u).toArray) (ht : Twf t) (hu : Twf u) (hb : decide (t = u) = b)
    (h : wpList Tryz.prog ops Q rest (a.put op.dst (.bool b)) w) : wpList Tryz.prog ops Q (op :: rest) a w := by
  refine wpList_plain hgd fun _ hK => ?_
  unfold Oper.wp
  rw [exec_eqT ho hx hy ht hu hb, Oper.upon_value]
  exact hK _ _ h
/-- Texts as slices of bytes that lie below block B. -/
def TXs (B : Nat) (w : World) (ps : List Value) (X : List (List Int)) : Prop := ∀ (j : Nat) x, X[j]? = some x → ∃ A c, ps[j]? = some (.slice A x.length c) ∧ NumsD B w .u8 A x
def footR (q : Nat) (AL AX : Option Addr) (b : Nat) : Prop := b = q ∨ (Value.slice AL 0 0).ownBlock = some b ∨ (Value.slice AX 0 0).ownBlock = some b
set_option maxRecDepth 50000 in
theorem own00 (A : Option Addr) (n c : Nat) : (Value.slice A n c).ownBlock = (Value.slice A 0 0).ownBlock := by cases A <;> rfl
section
variable {B : Nat} {F G : Nat → Prop} {w w' : World} {q : Nat} {L : List T3} {X : List (List Int)} {AL AX : Option Addr} {cL cX : Nat} {ps : List Value}
set_option maxRecDepth 50000 in
theorem TXs.chg (h : TXs B w ps X) (hc : Chg G w w') (hG : ∀ b, G b → B ≤ b) (hB : B ≤ w.heap.size) : TXs B w' ps X := fun j x hj => by
  obtain ⟨A, c, h1, h2⟩ := h j x hj
  refine ⟨A, c, h1, h2.stay (hc.below hB hG)⟩
end
end Go.Proofs.YtpncohoonfahpaaGreatDoor

/- Put and Draw on the reference's store. -/
namespace Go.Proofs.YtpncohoonfahpaaGreatDoor
open Go Go.RowKit Go.Maps

end Go.Proofs.YtpncohoonfahpaaGreatDoor

/- Draw on the reference's store. -/
namespace Go.Proofs.YtpncohoonfahpaaGreatDoor
open Go Go.RowKit Go.Maps

/-- What the loop has met. -/
def DrawI (L : List T3) (s v : Int) (k : Nat) : Prop := (∀ (j : Nat) (b : Int), j < k → L[j]? = some (1, s, b) → b < v) ∧ (v = 0 ∨ ∃ i : Nat, L[i]? = some (1, s, v - 1)) ∧ 0 ≤ v ∧ v ≤ 4611686018427387904
set_option maxRecDepth 50000 in
theorem DrawI.skip {L : List T3} {s v : Int} {k : Nat} {u : T3} (h : DrawI L s v k) (hu : L[k]? = some u) (hn : ¬ (u.1 = 1 ∧ u.2.1 = s ∧ v ≤ u.2.2)) : DrawI L s v (k + 1) :=
  ⟨fun j b hj hb => by
    by_cases e : j = k
    · subst e
      rw [hu] at hb; injection hb with hb
      subst hb
      refine Int.not_le.1 fun h => hn ⟨rfl, rfl, h⟩
    · exact h.1 j b (by omega) hb, h.2⟩
set_option maxRecDepth 50000 in
theorem DrawI.take {L : List T3} {s v b : Int} {k : Nat} (h : DrawI L s v k) (hu : L[k]? = some (1, s, b)) (h1 : v ≤ b) (h2 : b < 4611686018427387904) : DrawI L s (b + 1) (k + 1) :=
  ⟨fun j c hj hc => by
    by_cases e : j = k
    · subst e
      rw [hu] at hc; injection hc with hc
      injection hc with _ hc; injection hc with _ hc
      omega
    · have := h.1 j c (by omega) hc; omega, .inr ⟨k, by rw [hu, Int.add_sub_cancel]⟩, by have := h.2.2.1; omega, by omega⟩
end Go.Proofs.YtpncohoonfahpaaGreatDoor

/- Text on the reference's store. -/
namespace Go.Proofs.YtpncohoonfahpaaGreatDoor
open Go Go.RowKit Go.Maps

set_option maxRecDepth 50000 in
theorem row_cell {w : World} {base e n c : Nat} {A : Option Addr} {xs : List Value} (h : w.ownsRow base e 1 (.slice A n c) n xs) {j : Nat} {v : Value} (hj : xs[j]? = some v) : ∃ g, A = some ⟨g, 0, none⟩ ∧ w.cell? ⟨g, j, none⟩ = some v := by
  have hl := h.1
  have hjl := get_lt hj
  rcases h.2 with ⟨hv, hn⟩ | ⟨g, cap, cur, hv, hb, hg, hn, hm, hs, ht⟩
  · omega
  · injection hv with h1 h2 h3
    refine ⟨g, h1, ?_⟩
    have e : cur[j]? = some v := by
      rw [← ht, List.getElem?_take, if_pos (by omega)] at hj
      simpa using hj
    simp [World.cell?, hg, e]
end Go.Proofs.YtpncohoonfahpaaGreatDoor
