/- What a suite of terms does: each function. -/
import Derived.Test.YtpncohoonfahpaaGreatDoorG22
import Derived.Test.YtpncohoonfahpaaGreatDoorG21
namespace Go.Proofs.YtpncohoonfahpaaGreatDoor
open Go Go.RowKit

section
variable (F : Nat → Prop) (q p : Nat) (L : List T3) (X : List (List Int))
set_option maxRecDepth 50000 in
theorem public_ok (v : Value) (n : Nat) (w : World) (h : Su F w q p L X) (hv : Vl w v (some n)) (hn : n < L.length) (hL : L.length ≤ 39) :
    Calls Tryz.prog 21 #[.pointer (some ⟨q, 0, none⟩), v] w (PutQ F w q p L X (2, (n : Int), 0)) := by
  have HC := hid (fun f => convert_ok F q p L X v f 2 n w h hv hn (by decide) hL)
  clear h hv hn hL
  go_enter Tryz.func21, Tryz.ntmps21
  go_wp2_with (go_at_call 62; refine (HC.out _).mono ?_; rintro e w1 ⟨A, c, i, L', rfl, hM, hR⟩)
  go_ret2
  exact ⟨A, c, i, L', rfl, hM, hR⟩
set_option maxRecDepth 50000 in
theorem public_bad (v : Value) (w : World) (h : Su F w q p L X) (hv : Vl w v none) (hL : L.length ≤ 40) :
    Calls Tryz.prog 21 #[.pointer (some ⟨q, 0, none⟩), v] w (BadQ w 11) := by
  have HC := hid (fun f => convert_bad F q p L X v f 2 w h hv hL)
  clear h hv hL
  go_enter Tryz.func21, Tryz.ntmps21
  go_wp2_with (go_at_call 62; refine (HC.out _).mono ?_; rintro e w1 ⟨rfl, hb⟩)
  go_ret2
  exact ⟨rfl, hb⟩
set_option maxRecDepth 50000 in
theorem verifier_ok (v : Value) (n : Nat) (w : World) (h : Su F w q p L X) (hv : Vl w v (some n)) (hn : n < L.length) (hL : L.length ≤ 39) :
    Calls Tryz.prog 22 #[.pointer (some ⟨q, 0, none⟩), v] w (PutQ F w q p L X (3, (n : Int), 0)) := by
  have HC := hid (fun f => convert_ok F q p L X v f 3 n w h hv hn (by decide) hL)
  clear h hv hn hL
  go_enter Tryz.func22, Tryz.ntmps22
  go_wp2_with (go_at_call 62; refine (HC.out _).mono ?_; rintro e w1 ⟨A, c, i, L', rfl, hM, hR⟩)
  go_ret2
  exact ⟨A, c, i, L', rfl, hM, hR⟩
set_option maxRecDepth 50000 in
theorem verifier_bad (v : Value) (w : World) (h : Su F w q p L X) (hv : Vl w v none) (hL : L.length ≤ 40) :
    Calls Tryz.prog 22 #[.pointer (some ⟨q, 0, none⟩), v] w (BadQ w 11) := by
  have HC := hid (fun f => convert_bad F q p L X v f 3 w h hv hL)
  clear h hv hL
  go_enter Tryz.func22, Tryz.ntmps22
  go_wp2_with (go_at_call 62; refine (HC.out _).mono ?_; rintro e w1 ⟨rfl, hb⟩)
  go_ret2
  exact ⟨rfl, hb⟩
set_option maxRecDepth 50000 in
theorem next_ok (v : Value) (n : Nat) (w : World) (h : Su F w q p L X) (hv : Vl w v (some n)) (hn : n < L.length) (hL : L.length ≤ 39) :
    Calls Tryz.prog 23 #[.pointer (some ⟨q, 0, none⟩), v] w (PutQ F w q p L X (6, (n : Int), 0)) := by
  have HC := hid (fun f => convert_ok F q p L X v f 6 n w h hv hn (by decide) hL)
  clear h hv hn hL
  go_enter Tryz.func23, Tryz.ntmps23
  go_wp2_with (go_at_call 62; refine (HC.out _).mono ?_; rintro e w1 ⟨A, c, i, L', rfl, hM, hR⟩)
  go_ret2
  exact ⟨A, c, i, L', rfl, hM, hR⟩
set_option maxRecDepth 50000 in
theorem next_bad (v : Value) (w : World) (h : Su F w q p L X) (hv : Vl w v none) (hL : L.length ≤ 40) :
    Calls Tryz.prog 23 #[.pointer (some ⟨q, 0, none⟩), v] w (BadQ w 11) := by
  have HC := hid (fun f => convert_bad F q p L X v f 6 w h hv hL)
  clear h hv hL
  go_enter Tryz.func23, Tryz.ntmps23
  go_wp2_with (go_at_call 62; refine (HC.out _).mono ?_; rintro e w1 ⟨rfl, hb⟩)
  go_ret2
  exact ⟨rfl, hb⟩
set_option maxRecDepth 50000 in
theorem item_ok (v : Value) (n : Nat) (w : World) (h : Su F w q p L X) (hv : Vl w v (some n)) (hn : n < L.length) (hL : L.length ≤ 39) :
    Calls Tryz.prog 24 #[.pointer (some ⟨q, 0, none⟩), v] w (PutQ F w q p L X (7, (n : Int), 0)) := by
  have HC := hid (fun f => convert_ok F q p L X v f 7 n w h hv hn (by decide) hL)
  clear h hv hn hL
  go_enter Tryz.func24, Tryz.ntmps24
  go_wp2_with (go_at_call 62; refine (HC.out _).mono ?_; rintro e w1 ⟨A, c, i, L', rfl, hM, hR⟩)
  go_ret2
  exact ⟨A, c, i, L', rfl, hM, hR⟩
set_option maxRecDepth 50000 in
theorem item_bad (v : Value) (w : World) (h : Su F w q p L X) (hv : Vl w v none) (hL : L.length ≤ 40) :
    Calls Tryz.prog 24 #[.pointer (some ⟨q, 0, none⟩), v] w (BadQ w 11) := by
  have HC := hid (fun f => convert_bad F q p L X v f 7 w h hv hL)
  clear h hv hL
  go_enter Tryz.func24, Tryz.ntmps24
  go_wp2_with (go_at_call 62; refine (HC.out _).mono ?_; rintro e w1 ⟨rfl, hb⟩)
  go_ret2
  exact ⟨rfl, hb⟩
set_option maxRecDepth 50000 in
theorem lock_ok (v u : Value) (n m : Nat) (w : World) (h : Su F w q p L X) (hv : Vl w v (some n)) (hu : Vl w u (some m)) (hn : n < L.length) (hm : m < L.length) (hL : L.length ≤ 39) :
    Calls Tryz.prog 33 #[.pointer (some ⟨q, 0, none⟩), v, u] w (PutQ F w q p L X (5, (n : Int), (m : Int))) := by
  have HC := hid (enclose_ok F q p L X v u 5 n m w h hv hu hn hm (by decide) (by unfold mayB; simp [hasB, hn, hm]) hL)
  have t0 := h.is.tag
  clear h hv hu hn hm hL
  go_enter Tryz.func33, Tryz.ntmps33
  go_wp2_with (first
    | (go_at_call 47; refine (su_is q 2 _ t0).mono ?_; rintro e w9 ⟨rfl, rfl⟩)
    | (go_at_call 83; refine HC.out.mono ?_; rintro e w1 ⟨A, c, i, L', rfl, hM, hR⟩))
  go_ret2
  exact ⟨A, c, i, L', rfl, hM, hR⟩
set_option maxRecDepth 50000 in
theorem lock_bad (v u : Value) (x y : Option Nat) (w : World) (h : Su F w q p L X) (hv : Vl w v x) (hu : Vl w u y) (hn : ∀ n, x = some n → n < L.length) (hm : ∀ n, y = some n → n < L.length) (hxy : x = none ∨ y = none) (hL : L.length ≤ 40) :
    Calls Tryz.prog 33 #[.pointer (some ⟨q, 0, none⟩), v, u] w (BadQ w 11) := by
  have HC := hid (enclose_bad F q p L X v u 5 x y w h hv hu hn hm hxy hL)
  have t0 := h.is.tag
  clear h hv hu hn hm hL hxy
  go_enter Tryz.func33, Tryz.ntmps33
  go_wp2_with (first
    | (go_at_call 47; refine (su_is q 2 _ t0).mono ?_; rintro e w9 ⟨rfl, rfl⟩)
    | (go_at_call 83; refine HC.out.mono ?_; rintro e w1 ⟨rfl, hb⟩))
  go_ret2
  exact ⟨rfl, hb⟩
set_option maxRecDepth 50000 in
set_option maxHeartbeats 2000000 in
theorem wrap_ok (v u : Value) (n m : Nat) (a b : Int) (w : World) (h : Su F w q p L X) (hv : Vl w v (some n)) (hu : Vl w u (some m)) (hn : L[n]? = some (2, a, b)) (hm : m < L.length) (hL : L.length ≤ 39) :
    Calls Tryz.prog 32 #[.pointer (some ⟨q, 0, none⟩), v, u] w (PutQ F w q p L X (4, (n : Int), (m : Int))) := by
  have HT := hid (termOf_yes F q p L X v n 2 a b w h hv hn (by omega))
  have HC := hid (fun w1 (hb : Below w.heap.size w w1) => enclose_ok F q p L X v u 4 n m w1 (h.next hb) (hv.next hb) (hu.next hb) (get_lt hn) hm (by decide) (by
    have hl := get_lt hn
    have hg : L[n].1 = 2 := by rw [List.getElem?_eq_getElem hl] at hn; rw [Option.some.inj hn]
    unfold mayB; simp [isB, hasB, hl, hm, hg]) hL)
  have t0 := h.is.tag
  clear h hv hu hn hm hL
  go_enter Tryz.func32, Tryz.ntmps32
  go_wp2_with (first
    | (go_at_call 47; refine (su_is q 2 _ t0).mono ?_; rintro e w9 ⟨rfl, rfl⟩)
    | (go_at_call 82; refine HT.out.mono ?_; rintro e w1 ⟨rfl, hb1⟩; have H1 := hid (hb1.trans (Below.mono (below_new w1 (.cells #[.int .i64 2, .int .i64 a, .int .i64 b] 65)) hb1.size)); clear hb1)
    | (go_at_call 83; refine (HC.out _ H1.out).mono ?_; rintro e w2 ⟨A, c, i, L', rfl, hM, hR⟩))
  go_ret2
  exact ⟨A, c, i, L', rfl, hM.back H1.out, hR⟩
set_option maxRecDepth 50000 in
set_option maxHeartbeats 2000000 in
theorem wrap_else (v u : Value) (n : Nat) (k a b : Int) (w : World) (h : Su F w q p L X) (hv : Vl w v (some n)) (hn : L[n]? = some (k, a, b)) (hk : (k != 2) = true) (hL : L.length ≤ 40) :
    Calls Tryz.prog 32 #[.pointer (some ⟨q, 0, none⟩), v, u] w (BadQ w 11) := by
  have HT := hid (termOf_yes F q p L X v n k a b w h hv hn hL)
  have t0 := h.is.tag
  clear h hv hn hL
  go_enter Tryz.func32, Tryz.ntmps32
  go_wp2_with (first
    | (go_at_call 47; refine (su_is q 2 _ t0).mono ?_; rintro e w9 ⟨rfl, rfl⟩)
    | (go_at_call 82; refine HT.out.mono ?_; rintro e w1 ⟨rfl, hb1⟩; have H1 := hid (hb1.trans (Below.mono (below_new w1 (.cells #[.int .i64 k, .int .i64 a, .int .i64 b] 65)) hb1.size)); clear hb1))
  go_ret2
  exact ⟨rfl, H1.out⟩
set_option maxRecDepth 50000 in
set_option maxHeartbeats 2000000 in
theorem wrap_none (v u : Value) (w : World) (h : Su F w q p L X) (hv : Vl w v none) (hL : L.length ≤ 40) :
    Calls Tryz.prog 32 #[.pointer (some ⟨q, 0, none⟩), v, u] w (BadQ w 11) := by
  have HT := hid (termOf_no F q p L X v w h hv hL)
  have t0 := h.is.tag
  clear h hv hL
  go_enter Tryz.func32, Tryz.ntmps32
  go_wp2_with (first
    | (go_at_call 47; refine (su_is q 2 _ t0).mono ?_; rintro e w9 ⟨rfl, rfl⟩)
    | (go_at_call 82; refine HT.out.mono ?_; rintro e w1 ⟨rfl, hb1⟩; have H1 := hid (hb1.trans (Below.mono (below_new w1 (.cells #[.int .i64 0, .int .i64 0, .int .i64 0] 65)) hb1.size)); clear hb1))
  go_ret2
  exact ⟨rfl, H1.out⟩
set_option maxRecDepth 50000 in
set_option maxHeartbeats 2000000 in
theorem wrap_in (v u : Value) (n : Nat) (a b : Int) (w : World) (h : Su F w q p L X) (hv : Vl w v (some n)) (hu : Vl w u none) (hn : L[n]? = some (2, a, b)) (hL : L.length ≤ 40) :
    Calls Tryz.prog 32 #[.pointer (some ⟨q, 0, none⟩), v, u] w (BadQ w 11) := by
  have HT := hid (termOf_yes F q p L X v n 2 a b w h hv hn hL)
  have HC := hid (fun w1 (hb : Below w.heap.size w w1) => enclose_bad F q p L X v u 4 (some n) none w1 (h.next hb) (hv.next hb) (hu.next hb) (fun m e => by injection e with e; subst e; exact get_lt hn) (fun m e => by cases e) (.inr rfl) hL)
  have t0 := h.is.tag
  clear h hv hu hn hL
  go_enter Tryz.func32, Tryz.ntmps32
  go_wp2_with (first
    | (go_at_call 47; refine (su_is q 2 _ t0).mono ?_; rintro e w9 ⟨rfl, rfl⟩)
    | (go_at_call 82; refine HT.out.mono ?_; rintro e w1 ⟨rfl, hb1⟩; have H1 := hid (hb1.trans (Below.mono (below_new w1 (.cells #[.int .i64 2, .int .i64 a, .int .i64 b] 65)) hb1.size)); clear hb1)
    | (go_at_call 83; refine (HC.out _ H1.out).mono ?_; rintro e w2 ⟨rfl, hb2⟩))
  go_ret2
  exact ⟨rfl, H1.out.trans (Below.mono hb2 H1.out.size)⟩
/-- What Text on the store leaves. -/
def TextS (F : Nat → Prop) (w : World) (p : Nat) (L : List T3) (X : List (List Int)) (x : List Int) (e : Ending) (w1 : World) : Prop :=
  ∃ (n : Nat) (L1 : List T3) (X1 : List (List Int)), e = .returned (.tuple #[.int .i64 n, .int .i64 0]) ∧ CS (Grw F w w1) w1 p L1 X1 ∧ Chg F w w1 ∧ (∃ j : Nat, X1[j]? = some x ∧ L1[n]? = some (9, (j : Int), 0)) ∧ L.length ≤ L1.length ∧ L1.length ≤ L.length + 1 ∧ X.length ≤ X1.length ∧ X1.length ≤ X.length + 1 ∧ (∀ i : Nat, ∀ t, L[i]? = some t → L1[i]? = some t) ∧ (Atoms L → Atoms L1)
set_option maxRecDepth 50000 in
theorem textS (B : Nat) (A : Option Addr) (c : Nat) (x : List Int) (w : World) (h : Su F w q p L X) (hx : TByt x) (hx2 : x.length ≤ 100) (hA : NumsD B w .u8 A x) (hB : B ≤ w.heap.size) (hF : ∀ b, F b → B ≤ b) (hL : L.length ≤ 39) (hX : X.length ≤ 39) :
    Calls Tryz.prog 53 #[.pointer (some ⟨p, 0, none⟩), .slice A x.length c] w (TextS F w p L X x) := by
  refine (text_any F p L X A c x w h.cs hx hx2 (hA.nums hB) (hA.apart hF) hL hX).mono ?_
  rintro e w1 ⟨n, L1, X1, rfl, hR, hC, hG⟩
  rcases hR with ⟨j, i, h1, h2, rfl, rfl, rfl⟩ | ⟨_, rfl, rfl, rfl⟩
  · exact ⟨i, _, _, rfl, hC, hG, ⟨j, h1, h2⟩, Nat.le_refl _, Nat.le_succ _, Nat.le_refl _, Nat.le_succ _, fun _ _ h => h, fun h => h⟩
  · exact ⟨L.length, _, _, rfl, hC, hG, ⟨X.length, get_new X x, get_new L _⟩, by simp, by simp, by simp, by simp, fun _ _ h => get_old h, fun h => h.app (fun e => by cases e)⟩
/-- What is made of a text: the value of the term n. -/
def TxQ (F : Nat → Prop) (w : World) (q p : Nat) (L : List T3) (X : List (List Int)) (x : List Int) (P : List T3 → List (List Int) → Nat → Prop) (e : Ending) (w' : World) : Prop :=
  ∃ A c n L' X', e = .returned (.tuple #[.slice A 9 c, .int .i64 0]) ∧ Mv F w q p L L' X X' A c n w' ∧ P L' X' n ∧ L'.length ≤ L.length + 2 ∧ X'.length ≤ X.length + 1
/-- The term n is the text x. -/
def IsTx (x : List Int) (L : List T3) (X : List (List Int)) (n : Nat) : Prop := ∃ j : Nat, X[j]? = some x ∧ L[n]? = some (9, (j : Int), 0)
set_option maxRecDepth 50000 in
set_option maxHeartbeats 2000000 in
theorem data_any (B : Nat) (A : Option Addr) (c : Nat) (x : List Int) (w : World) (h : Su F w q p L X) (hx : TByt x) (hx2 : x.length ≤ 100) (hA : NumsD B w .u8 A x) (hB : B ≤ w.heap.size) (hF : ∀ b, F b → B ≤ b) (hL : L.length ≤ 38) (hX : X.length ≤ 39) :
    Calls Tryz.prog 17 #[.pointer (some ⟨q, 0, none⟩), .slice A x.length c] w (TxQ F w q p L X x (IsTx x)) := by
  have HT := hid (textS F q p L X B A c x w h hx hx2 hA hB hF (by omega) hX)
  have t0 := h.is.tag
  have t3 := h.is.store
  have HS := hid h
  have HL := hid hL
  clear h hx hx2 hA hB hF hL hX
  go_enter Tryz.func17, Tryz.ntmps17
  go_wp2_with (first
    | (go_at_call 47; refine (su_is q 2 _ t0).mono ?_; rintro e w9 ⟨rfl, rfl⟩)
    | (go_at_call 53; refine HT.out.mono ?_; rintro e w1 ⟨n, L1, X1, rfl, hC, hG, hn, h1, h2, h3, h4, h5, h6⟩; have HC := hid hC; have HG := hid hG; have HN := hid hn; have H1 := hid h1; have H2 := hid h2; have H3 := hid h3; have H4 := hid h4; have H6 := hid h6; have H5 := hid h5; clear hC hG hn h1 h2 h3 h4 h5 h6)
    | (go_at_call 49; refine (valueOf_ok n _ (by obtain ⟨j, _, hj⟩ := HN.out; have := get_lt hj; have := H2.out; have := HL.out; omega)).mono ?_; rintro e w2 ⟨A2, c2, rfl, hc2, hN2, hb2⟩))
  go_ret2
  refine ⟨A2, c2, n, L1, X1, rfl, Mv.of HS.out HC.out HG.out hb2 hc2 hN2 ?_ H1.out H3.out H6.out H5.out, HN.out, Nat.le_succ_of_le H2.out, H4.out⟩
  obtain ⟨j, _, hj⟩ := HN.out
  exact get_lt hj
/-- The term n is the digest of the text x. -/
def IsDg (x : List Int) (L : List T3) (X : List (List Int)) (n : Nat) : Prop := ∃ i : Nat, L[n]? = some (10, (i : Int), 0) ∧ IsTx x L X i
/-- The term n is the signature of the text x with s. -/
def IsSg (s : Nat) (x : List Int) (L : List T3) (X : List (List Int)) (n : Nat) : Prop := ∃ i : Nat, L[n]? = some (8, (s : Int), (i : Int)) ∧ IsTx x L X i
end
end Go.Proofs.YtpncohoonfahpaaGreatDoor
