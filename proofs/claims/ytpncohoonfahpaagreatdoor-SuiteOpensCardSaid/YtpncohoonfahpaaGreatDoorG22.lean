/- Texts of this proof, laid together: UPut, UOps. -/
import Derived.Test.YtpncohoonfahpaaGreatDoorG19
import Derived.Test.YtpncohoonfahpaaGreatDoorTDrawM
import Derived.Test.YtpncohoonfahpaaGreatDoorG18
import Derived.Test.YtpncohoonfahpaaGreatDoorG21
/- What makes a value: put; of one value alone, of two; of a text. -/
namespace Go.Proofs.YtpncohoonfahpaaGreatDoor
open Go Go.RowKit

/-- Drawn atoms have small numbers. -/
def Atoms (L : List T3) : Prop := ∀ (i : Nat) (s b : Int), L[i]? = some (1, s, b) → b ≤ i
set_option maxRecDepth 50000 in
theorem Atoms.app {L : List T3} {t : T3} (h : Atoms L) (ht : t.1 = 1 → t.2.2 ≤ L.length) : Atoms (L ++ [t]) := fun i s b hi => by
  rcases get_app hi with h1 | ⟨rfl, rfl⟩
  · exact h i s b h1
  · exact ht rfl
/-- The value of the term n of L', made in w; the store is that of w, gone on. -/
structure Mv (F : Nat → Prop) (w : World) (q p : Nat) (L L' : List T3) (X X' : List (List Int)) (A : Option Addr) (c n : Nat) (w' : World) : Prop where
  cap : 9 ≤ c
  num : NumsF w.heap.size w' .u8 A (valL n)
  lt : n < L'.length
  up : ∃ F', Su F' w' q p L' X' ∧ (∀ b, F' b → Grw F w w' b) ∧ (∀ g o s, A = some ⟨g, o, s⟩ → ¬ F' g)
  chg : Chg F w w'
  more : L.length ≤ L'.length
  moreX : X.length ≤ X'.length
  at' : Atoms L → Atoms L'
  old : ∀ (i : Nat) t, L[i]? = some t → L'[i]? = some t
section
variable {F : Nat → Prop} {w w1 w' : World} {q p : Nat} {L L' L1 : List T3} {X X' X1 : List (List Int)} {A : Option Addr} {c n : Nat}
set_option maxRecDepth 50000 in
theorem Mv.of (h : Su F w q p L X) (hC : CS (Grw F w w1) w1 p L' X') (hG : Chg F w w1) (hb : Below w1.heap.size w1 w') (hc : 9 ≤ c) (hN : NumsF w1.heap.size w' .u8 A (valL n)) (hn : n < L'.length) (hL : L.length ≤ L'.length) (hX : X.length ≤ X'.length) (ha : Atoms L → Atoms L') (ho : ∀ (i : Nat) t, L[i]? = some t → L'[i]? = some t) : Mv F w q p L L' X X' A c n w' :=
  ⟨hc, hN.less hG.size, hn, ⟨Grw F w w1, (h.grw hC hG).next hb, fun b hb2 => Grw.two hG hb hb2, fun g o s e hf => by
    obtain ⟨b, o2, e2, hlo, _⟩ := hN (by rw [valL_len]; omega)
    rw [e2] at e
    injection e with e
    injection e with e1 _ _
    subst e1
    rcases hf with hf | hf
    · have := h.bd _ hf; have := hG.size; omega
    · omega⟩, hG.next hb, hL, hX, ha, ho⟩
end

set_option maxRecDepth 50000 in
theorem tnum {n : Int} (h0 : -1000 ≤ n) (h1 : n ≤ 1000) : (Lit.int .i64 n).wf = true := WalkArith.wf_i64 (by omega)
/-- What put hands back. -/
def PutQ (F : Nat → Prop) (w : World) (q p : Nat) (L : List T3) (X : List (List Int)) (t : T3) (e : Ending) (w' : World) : Prop :=
  ∃ A c n L', e = .returned (.tuple #[.slice A 9 c, .int .i64 0]) ∧ Mv F w q p L L' X X A c n w' ∧ L'[n]? = some t ∧ L'.length ≤ L.length + 1
set_option maxRecDepth 50000 in
set_option maxHeartbeats 2000000 in
theorem sput_any (F : Nat → Prop) (q p : Nat) (L : List T3) (X : List (List Int)) (k a b : Int) (w : World) (h : Su F w q p L X) (ht : Twf (k, a, b)) (hm : Hid (mayB L X.length (k, a, b) = true)) (hk : Hid (k ≠ 1)) (hL : L.length ≤ 39) :
    Calls Tryz.prog 54 #[.pointer (some ⟨q, 0, none⟩), .int .i64 k, .int .i64 a, .int .i64 b] w (PutQ F w q p L X (k, a, b)) := by
  have hp : Calls Tryz.prog 106 #[.pointer (some ⟨p, 0, none⟩), .agg #[.int .i64 k, .int .i64 a, .int .i64 b]] w fun e w1 => ∃ (n : Nat) (L' : List T3), e = .returned (.tuple #[.int .i64 n, .int .i64 0]) ∧ CS (Grw F w w1) w1 p L' X ∧ Chg F w w1 ∧ L'[n]? = some (k, a, b) ∧ L.length ≤ L'.length ∧ L'.length ≤ L.length + 1 ∧ (Atoms L → Atoms L') ∧ (∀ (i : Nat) t, L[i]? = some t → L'[i]? = some t) := by
    refine (put_any F p L X (k, a, b) w h.cs ht hL).mono ?_
    rintro e w1 ⟨n, er, L', rfl, hR, hC, hG⟩
    rcases hR with ⟨h1, _⟩ | ⟨_, i, hi, rfl, rfl, rfl⟩ | ⟨_, _, rfl, rfl, rfl⟩
    · rw [hm.out] at h1; cases h1
    · exact ⟨i, _, rfl, hC, hG, hi, Nat.le_refl _, Nat.le_succ _, fun h => h, fun _ _ h => h⟩
    · exact ⟨L.length, _, rfl, hC, hG, get_new L _, by simp, by simp, fun h => h.app (fun e => absurd e hk.out), fun _ _ h => get_old h⟩
  have t3 := h.is.store
  have HP := hid hp
  clear hp
  go_enter Tryz.func54, Tryz.ntmps54
  go_wp2_with (first
    | (go_at_call 106; refine HP.out.mono ?_; rintro e w1 ⟨n, L', rfl, hC, hG, hn, hL1, hL2, ha, ho⟩; have HO := hid ho; have HC := hid hC; have HG := hid hG; have HN := hid hn; have H1 := hid hL1; have H2 := hid hL2; have HA := hid ha; clear hC hG hn hL1 hL2 ha ho)
    | (go_at_call 49; refine (valueOf_ok n _ (by have := get_lt HN.out; have := H2.out; omega)).mono ?_; rintro e w2 ⟨A, c, rfl, hc, hN2, hb2⟩))
  go_ret2
  exact ⟨A, c, n, L', rfl, Mv.of h HC.out HG.out hb2 hc hN2 (get_lt HN.out) H1.out (Nat.le_refl _) HA.out HO.out, HN.out, H2.out⟩
end Go.Proofs.YtpncohoonfahpaaGreatDoor

/- What a suite of terms does: of one value, of two, of a text; draws. -/
namespace Go.Proofs.YtpncohoonfahpaaGreatDoor
open Go Go.RowKit

set_option maxRecDepth 50000 in
theorem tw3 {k a b : Int} (h1 : -1000 ≤ k) (h2 : k ≤ 1000) (h3 : -1000 ≤ a) (h4 : a ≤ 1000) (h5 : -1000 ≤ b) (h6 : b ≤ 1000) : Twf (k, a, b) := ⟨tnum h1 h2, tnum h3 h4, tnum h5 h6⟩
/-- What comes of an error. -/
def BadQ (w : World) (k : Int) (e : Ending) (w' : World) : Prop := e = .returned (.tuple #[.slice none 0 0, .int .i64 k]) ∧ Below w.heap.size w w'
section
variable {F : Nat → Prop} {w w1 w' : World} {q p : Nat} {L L' L1 : List T3} {X X' X1 : List (List Int)} {A : Option Addr} {c n : Nat}
set_option maxRecDepth 50000 in
theorem Mv.back (hb : Below w.heap.size w w1) (h : Mv F w1 q p L L' X X' A c n w') : Mv F w q p L L' X X' A c n w' := by
  obtain ⟨h1, h2, h3, ⟨F', h4, h5, h6⟩, h7, h8, h9, h10, h11⟩ := h
  refine ⟨h1, h2.less hb.size, h3, ⟨F', h4, fun b hf => ?_, h6⟩, (Chg.of hb F).trans h7 (fun _ _ h => h), h8, h9, h10, h11⟩
  rcases h5 b hf with e | e
  · exact .inl e
  · exact .inr ⟨Nat.le_trans hb.size e.1, e.2⟩
set_option maxRecDepth 50000 in
theorem Mv.after (hG : Chg F w w1) (h : Mv (Grw F w w1) w1 q p L1 L' X1 X' A c n w') (hL : L.length ≤ L1.length) (hX : X.length ≤ X1.length) (ha : Atoms L → Atoms L1) (ho : ∀ (i : Nat) t, L[i]? = some t → L1[i]? = some t) : Mv F w q p L L' X X' A c n w' := by
  obtain ⟨h1, h2, h3, ⟨F', h4, h5, h6⟩, h7, h8, h9, h10, h11⟩ := h
  refine ⟨h1, h2.less hG.size, h3, ⟨F', h4, fun b hf => ?_, h6⟩, hG.trans h7 (fun b hb e => ?_), Nat.le_trans hL h8, Nat.le_trans hX h9, fun a => h10 (ha a), fun i t hi => h11 i t (ho i t hi)⟩
  · have hs : w1.heap.size ≤ w'.heap.size := h7.size
    have := hG.size
    rcases h5 b hf with e | e
    · rcases e with e | e
      · exact .inl e
      · exact .inr ⟨e.1, by omega⟩
    · exact .inr ⟨by omega, e.2⟩
  · rcases e with e | e
    · exact e
    · omega
set_option maxRecDepth 50000 in
theorem PutQ.back {t : T3} {e : Ending} (hb : Below w.heap.size w w1) (h : PutQ F w1 q p L X t e w') : PutQ F w q p L X t e w' := by
  obtain ⟨A, c, n, L', h1, h2, h3⟩ := h
  exact ⟨A, c, n, L', h1, h2.back hb, h3⟩
set_option maxRecDepth 50000 in
theorem BadQ.back {k : Int} {e : Ending} (hb : Below w.heap.size w w1) (h : BadQ w1 k e w') : BadQ w k e w' := ⟨h.1, hb.trans (Below.mono h.2 hb.size)⟩
end
section
variable (F : Nat → Prop) (q p : Nat) (L : List T3) (X : List (List Int))
set_option maxRecDepth 50000 in
theorem number_yes (v : Value) (n : Nat) (w : World) (h : Su F w q p L X) (hv : Vl w v (some n)) (hn : n < L.length) (hL : L.length ≤ 40) :
    Calls Tryz.prog 43 #[.pointer (some ⟨q, 0, none⟩), v] w fun e w' => e = .returned (.tuple #[.int .i64 n, .bool true]) ∧ Below w.heap.size w w' :=
  number_any F q p L X v (some n) w h hv (fun m e => by injection e with e; subst e; exact hn) hL
set_option maxRecDepth 50000 in
theorem number_no (v : Value) (w : World) (h : Su F w q p L X) (hv : Vl w v none) (hL : L.length ≤ 40) :
    Calls Tryz.prog 43 #[.pointer (some ⟨q, 0, none⟩), v] w fun e w' => e = .returned (.tuple #[.int .i64 0, .bool false]) ∧ Below w.heap.size w w' :=
  number_any F q p L X v none w h hv (fun m e => by cases e) hL
set_option maxRecDepth 50000 in
set_option maxHeartbeats 2000000 in
theorem termOf_yes (v : Value) (n : Nat) (k a b : Int) (w : World) (h : Su F w q p L X) (hv : Vl w v (some n)) (hn : L[n]? = some (k, a, b)) (hL : L.length ≤ 40) :
    Calls Tryz.prog 82 #[.pointer (some ⟨q, 0, none⟩), v] w fun e w' => e = .returned (.tuple #[.agg #[.int .i64 k, .int .i64 a, .int .i64 b], .bool true]) ∧ Below w.heap.size w w' := by
  obtain ⟨W, hW, hB, hB4⟩ := zero_world w
  have hS := h.next hB
  have HNum := hid (number_yes F q p L X v n W hS (hv.next hB) (get_lt hn) hL)
  have HG := hid (fun w1 (h1 : Su F w1 q p L X) => (get_yes F p L X n k a b w1 h1.cs hn : Calls Tryz.prog 45 #[.pointer (some ⟨p, 0, none⟩), .int .i64 n] w1 fun e w' => e = .returned (.tuple #[.agg #[.int .i64 k, .int .i64 a, .int .i64 b], .bool true]) ∧ Below w1.heap.size w1 w'))
  have hsz := tsz k a b
  have hone := tone k a b
  have HW := hid hW
  have HS := hid hS
  have HB := hid hB
  have HB4 := hid hB4
  clear hW hB hB4 hS h hn hv
  go_enter Tryz.func82, Tryz.ntmps82
  go_upto_region 1 with (fail)
  rw [HW.out]
  go_wp2_with (first
    | (go_at_call 43; refine HNum.out.mono ?_; rintro e w1 ⟨rfl, hb1⟩; have t3 := (HS.out.next hb1).is.store; have H1 := hid hb1; clear hb1)
    | (go_at_call 45; refine (HG.out w1 (HS.out.next H1.out)).mono ?_; rintro e w2 ⟨rfl, hb2⟩
       have hbb := H1.out.trans (Below.mono hb2 H1.out.size)
       obtain ⟨t1, t2, t4⟩ := tstore (HB4.out.next hbb) rfl (Below.refl w.heap.size w2) (Nat.le_refl _) k a b
       have H5 := hid ((HB.out.trans (Below.mono hbb HB.out.size)).trans t4)
       clear hbb t4 hb2)
    | (with_reducible refine wpList_store_mid (op := ⟨none, .store 65 (.tmp 4) (.tmp 23), _, _, _, _⟩) rfl 65 (.tmp 4) (.tmp 23) rfl w.heap.size 0 #[.int .i64 k, .int .i64 a, .int .i64 b] rfl rfl t1 hsz hone ?_))
  refine ret_row_tmp rfl w.heap.size 0 rfl [.int .i64 k, .int .i64 a, .int .i64 b] _ t2 Tryz.underlying65 rfl hsz rfl ?_
  exact ⟨rfl, H5.out⟩
set_option maxRecDepth 50000 in
set_option maxHeartbeats 2000000 in
theorem termOf_no (v : Value) (w : World) (h : Su F w q p L X) (hv : Vl w v none) (hL : L.length ≤ 40) :
    Calls Tryz.prog 82 #[.pointer (some ⟨q, 0, none⟩), v] w fun e w' => e = .returned (.tuple #[.agg #[.int .i64 0, .int .i64 0, .int .i64 0], .bool false]) ∧ Below w.heap.size w w' := by
  obtain ⟨W, hW, hB, hB4⟩ := zero_world w
  have hS := h.next hB
  have HNum := hid (number_no F q p L X v W hS (hv.next hB) hL)
  have hsz := tsz 0 0 0
  have hone := tone 0 0 0
  have HW := hid hW
  have HB := hid hB
  have HB4 := hid hB4
  clear hW hB hB4 hS h hv
  go_enter Tryz.func82, Tryz.ntmps82
  go_upto_region 1 with (fail)
  rw [HW.out]
  go_wp2_with (first
    | (go_at_call 43; refine HNum.out.mono ?_; rintro e w1 ⟨rfl, hb1⟩
       obtain ⟨t1, t2, t4⟩ := tstore (HB4.out.next hb1) rfl (Below.refl w.heap.size w1) (Nat.le_refl _) 0 0 0
       have H5 := hid ((HB.out.trans (Below.mono hb1 HB.out.size)).trans t4)
       clear hb1 t4)
    | (with_reducible refine wpList_store_mid (op := ⟨none, .store 65 (.tmp 4) (.tmp 16), _, _, _, _⟩) rfl 65 (.tmp 4) (.tmp 16) rfl w.heap.size 0 #[.int .i64 0, .int .i64 0, .int .i64 0] rfl rfl t1 hsz hone ?_))
  refine ret_row_tmp rfl w.heap.size 0 rfl [.int .i64 0, .int .i64 0, .int .i64 0] _ t2 Tryz.underlying65 rfl hsz rfl ?_
  exact ⟨rfl, H5.out⟩
set_option maxRecDepth 50000 in
set_option maxHeartbeats 2000000 in
theorem convert_ok (v f : Value) (k : Int) (n : Nat) (w : World) (h : Su F w q p L X) (hv : Vl w v (some n)) (hn : n < L.length) (hk : k = 2 ∨ k = 3 ∨ k = 6 ∨ k = 7) (hL : L.length ≤ 39) :
    Calls Tryz.prog 62 #[.pointer (some ⟨q, 0, none⟩), v, f, .int .i64 k] w (PutQ F w q p L X (k, (n : Int), 0)) := by
  have HNum := hid (number_yes F q p L X v n w h hv hn (by omega))
  have HP := hid (fun w1 (h1 : Su F w1 q p L X) => sput_any F q p L X k n 0 w1 h1 (tw3 (by omega) (by omega) (by omega) (by omega) (by omega) (by omega)) (hid (by
    unfold mayB
    rw [if_neg (by show ¬ k = 1; omega), if_pos (by exact hk)]
    simp [hasB, hn])) (hid (by omega)) hL)
  have t0 := h.is.tag
  have HS := hid h
  clear h hv hn hk hL
  go_enter Tryz.func62, Tryz.ntmps62
  go_wp2_with (first
    | (go_at_call 47; refine (su_is q 2 _ t0).mono ?_; rintro e w9 ⟨rfl, rfl⟩)
    | (go_at_call 43; refine HNum.out.mono ?_; rintro e w1 ⟨rfl, hb1⟩; have H1 := hid hb1; clear hb1)
    | (go_at_call 54; refine (HP.out w1 (HS.out.next H1.out)).mono ?_; rintro e w2 ⟨A, c, m, L', rfl, hM, hR⟩))
  go_ret2
  exact ⟨A, c, m, L', rfl, hM.back H1.out, hR⟩
set_option maxRecDepth 50000 in
set_option maxHeartbeats 2000000 in
theorem convert_bad (v f : Value) (k : Int) (w : World) (h : Su F w q p L X) (hv : Vl w v none) (hL : L.length ≤ 40) :
    Calls Tryz.prog 62 #[.pointer (some ⟨q, 0, none⟩), v, f, .int .i64 k] w (BadQ w 11) := by
  have HNum := hid (number_no F q p L X v w h hv hL)
  have t0 := h.is.tag
  clear h hv hL
  go_enter Tryz.func62, Tryz.ntmps62
  go_wp2_with (first
    | (go_at_call 47; refine (su_is q 2 _ t0).mono ?_; rintro e w9 ⟨rfl, rfl⟩)
    | (go_at_call 43; refine HNum.out.mono ?_; rintro e w1 ⟨rfl, hb1⟩))
  go_ret2
  exact ⟨rfl, hb1⟩
set_option maxRecDepth 50000 in
set_option maxHeartbeats 2000000 in
theorem enclose_ok (v u : Value) (k : Int) (n m : Nat) (w : World) (h : Su F w q p L X) (hv : Vl w v (some n)) (hu : Vl w u (some m)) (hn : n < L.length) (hm : m < L.length) (hk : k = 4 ∨ k = 5) (hmay : mayB L X.length (k, (n : Int), (m : Int)) = true) (hL : L.length ≤ 39) :
    Calls Tryz.prog 83 #[.pointer (some ⟨q, 0, none⟩), .int .i64 k, v, u] w (PutQ F w q p L X (k, (n : Int), (m : Int))) := by
  have HNum := hid (number_yes F q p L X v n w h hv hn (by omega))
  have HNum2 := hid (fun w1 (hb : Below w.heap.size w w1) => number_yes F q p L X u m w1 (h.next hb) (hu.next hb) hm (by omega))
  have HP := hid (fun w1 (h1 : Su F w1 q p L X) => sput_any F q p L X k n m w1 h1 (tw3 (by omega) (by omega) (by omega) (by omega) (by omega) (by omega)) (hid hmay) (hid (by omega)) hL)
  have HS := hid h
  clear h hv hu hn hm hk hL hmay
  go_enter Tryz.func83, Tryz.ntmps83
  go_upto_region 2 with (go_at_call 43; refine HNum.out.mono ?_; rintro e w1 ⟨rfl, hb1⟩; have H1 := hid hb1; clear hb1)
  clear HNum
  go_wp2_with (first
    | (go_at_call 43; refine (HNum2.out w1 H1.out).mono ?_; rintro e w2 ⟨rfl, hb2⟩; have H2 := hid (H1.out.trans (Below.mono hb2 H1.out.size)); clear hb2)
    | (go_at_call 54; refine (HP.out w2 (HS.out.next H2.out)).mono ?_; rintro e w3 ⟨A, c, i, L', rfl, hM, hR⟩))
  go_ret2
  exact ⟨A, c, i, L', rfl, hM.back H2.out, hR⟩
set_option maxRecDepth 50000 in
set_option maxHeartbeats 2000000 in
theorem enclose_bad (v u : Value) (k : Int) (x y : Option Nat) (w : World) (h : Su F w q p L X) (hv : Vl w v x) (hu : Vl w u y) (hn : ∀ n, x = some n → n < L.length) (hm : ∀ n, y = some n → n < L.length) (hxy : x = none ∨ y = none) (hL : L.length ≤ 40) :
    Calls Tryz.prog 83 #[.pointer (some ⟨q, 0, none⟩), .int .i64 k, v, u] w (BadQ w 11) := by
  obtain ⟨i, hi⟩ : ∃ i, nOf x = i := ⟨_, rfl⟩
  obtain ⟨j, hj⟩ : ∃ j, nOf y = j := ⟨_, rfl⟩
  obtain ⟨b, hb⟩ : ∃ b, x.isSome = b := ⟨_, rfl⟩
  obtain ⟨d, hd⟩ : ∃ d, y.isSome = d := ⟨_, rfl⟩
  have hn1 := number_any F q p L X v x w h hv hn hL
  have hn2 := fun w1 (hb : Below w.heap.size w w1) => number_any F q p L X u y w1 (h.next hb) (hu.next hb) hm hL
  rw [hi, hb] at hn1
  rw [hj, hd] at hn2
  have hbd : b = false ∨ d = false := by
    rcases hxy with e | e
    · left; rw [← hb, e]; rfl
    · right; rw [← hd, e]; rfl
  have HNum := hid hn1
  have HNum2 := hid hn2
  clear h hv hu hn hm hxy hL hn1 hn2 hi hj hb hd
  go_enter Tryz.func83, Tryz.ntmps83
  go_upto_region 2 with (go_at_call 43; refine HNum.out.mono ?_; rintro e w1 ⟨rfl, hb1⟩; have H1 := hid hb1; clear hb1)
  clear HNum
  cases b with
  | false =>
    clear hbd
    go_wp2_with (go_at_call 43; refine (HNum2.out w1 H1.out).mono ?_; rintro e w2 ⟨rfl, hb2⟩; have H2 := hid (H1.out.trans (Below.mono hb2 H1.out.size)); clear hb2)
    go_ret2
    exact ⟨rfl, H2.out⟩
  | true =>
    obtain rfl : d = false := by
      rcases hbd with e | e
      · cases e
      · exact e
    clear hbd
    go_wp2_with (go_at_call 43; refine (HNum2.out w1 H1.out).mono ?_; rintro e w2 ⟨rfl, hb2⟩; have H2 := hid (H1.out.trans (Below.mono hb2 H1.out.size)); clear hb2)
    go_ret2
    exact ⟨rfl, H2.out⟩
end
end Go.Proofs.YtpncohoonfahpaaGreatDoor
