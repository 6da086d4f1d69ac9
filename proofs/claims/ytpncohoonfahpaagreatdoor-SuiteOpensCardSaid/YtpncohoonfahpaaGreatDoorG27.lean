/- Texts of this proof, laid together: UOpen3, UOpen4. -/
import Derived.Test.YtpncohoonfahpaaGreatDoorG26
/- Unwrap, Unlock and Check of a suite of terms. -/
namespace Go.Proofs.YtpncohoonfahpaaGreatDoor
open Go Go.RowKit

set_option maxRecDepth 50000 in
theorem equal_yes {A B : Option Addr} {c d n : Nat} {x : List Int} {w : World} (hn : x.length = n) (hx : TByt x) (hA : Nums w .u8 A x) (hB : Nums w .u8 B x) :
    Calls Tryz.prog 139 #[.slice A n c, .slice B n d] w fun e w' => e = .returned (.bool true) ∧ w = w' := by
  have h1 := conv_any (c := c) hx hA
  have h2 := conv_any (c := d) hx hB
  rw [hn] at h1 h2
  generalize bstr x = s at *
  clear hA hB hx hn
  go_enter Tryz.func139, Tryz.ntmps139
  go_wp2
  go_ret
  exact ⟨rfl, rfl⟩
set_option maxRecDepth 50000 in
theorem equal_no {A B : Option Addr} {c d n m : Nat} {x y : List Int} {w : World} (hn : x.length = n) (hm : y.length = m) (hx : TByt x) (hy : TByt y) (hA : Nums w .u8 A x) (hB : Nums w .u8 B y) (hne : x ≠ y) :
    Calls Tryz.prog 139 #[.slice A n c, .slice B m d] w fun e w' => e = .returned (.bool false) ∧ w = w' := by
  have h1 := conv_any (c := c) hx hA
  have h2 := conv_any (c := d) hy hB
  rw [hn] at h1
  rw [hm] at h2
  have h3 : bstr x ≠ bstr y := fun e => hne (bstr_inj hx hy e)
  generalize bstr x = s at *
  generalize bstr y = t at *
  have h4 : (s.toList == t.toList) = false := by
    rw [ByteArray.toList_eq, ByteArray.toList_eq]
    exact beq_eq_false_iff_ne.2 (fun e => h3 (Go.WideShapes.bytes_inj e))
  clear hA hB hx hy hn hm hne
  go_enter Tryz.func139, Tryz.ntmps139
  go_wp2
  go_ret
  exact ⟨rfl, rfl⟩
section
variable (F : Nat → Prop) (q p : Nat) (L : List T3) (X : List (List Int))
set_option maxRecDepth 50000 in
set_option maxHeartbeats 2000000 in
theorem unwrap_bad (er : Int) (v u : Value) (w : World) (h : Su F w q p L X) (HO : Hid (Calls Tryz.prog 90 #[.pointer (some ⟨q, 0, none⟩), .int .i64 4, v, u] w (BadQ w er))) :
    Calls Tryz.prog 36 #[.pointer (some ⟨q, 0, none⟩), v, u] w (BadQ w er) := by
  have t0 := h.is.tag
  clear h
  go_enter Tryz.func36, Tryz.ntmps36
  go_wp2_with (first
    | (go_at_call 47; refine (su_is q 2 _ t0).mono ?_; rintro e w9 ⟨rfl, rfl⟩)
    | (go_at_call 90; refine HO.out.mono ?_; rintro e w1 ⟨rfl, hb1⟩))
  go_ret2
  exact ⟨rfl, hb1⟩
set_option maxRecDepth 50000 in
set_option maxHeartbeats 2000000 in
theorem unwrap_hit (j : Nat) (v u : Value) (w : World) (h : Su F w q p L X) (HO : Hid (Calls Tryz.prog 90 #[.pointer (some ⟨q, 0, none⟩), .int .i64 4, v, u] w (InQ w j))) :
    Calls Tryz.prog 36 #[.pointer (some ⟨q, 0, none⟩), v, u] w (InQ w j) := by
  have t0 := h.is.tag
  clear h
  go_enter Tryz.func36, Tryz.ntmps36
  go_wp2_with (first
    | (go_at_call 47; refine (su_is q 2 _ t0).mono ?_; rintro e w9 ⟨rfl, rfl⟩)
    | (go_at_call 90; refine HO.out.mono ?_; rintro e w1 ⟨A, c, rfl, h1, h2, h3⟩))
  go_ret2
  exact ⟨A, c, rfl, h1, h2, h3⟩
set_option maxRecDepth 50000 in
set_option maxHeartbeats 2000000 in
theorem unlock_bad (er : Int) (v u : Value) (w : World) (h : Su F w q p L X) (HO : Hid (Calls Tryz.prog 90 #[.pointer (some ⟨q, 0, none⟩), .int .i64 5, v, u] w (BadQ w er))) :
    Calls Tryz.prog 37 #[.pointer (some ⟨q, 0, none⟩), v, u] w (BadQ w er) := by
  have t0 := h.is.tag
  clear h
  go_enter Tryz.func37, Tryz.ntmps37
  go_wp2_with (first
    | (go_at_call 47; refine (su_is q 2 _ t0).mono ?_; rintro e w9 ⟨rfl, rfl⟩)
    | (go_at_call 90; refine HO.out.mono ?_; rintro e w1 ⟨rfl, hb1⟩))
  go_ret2
  exact ⟨rfl, hb1⟩
set_option maxRecDepth 50000 in
set_option maxHeartbeats 2000000 in
theorem unlock_hit (j : Nat) (v u : Value) (w : World) (h : Su F w q p L X) (HO : Hid (Calls Tryz.prog 90 #[.pointer (some ⟨q, 0, none⟩), .int .i64 5, v, u] w (InQ w j))) :
    Calls Tryz.prog 37 #[.pointer (some ⟨q, 0, none⟩), v, u] w (InQ w j) := by
  have t0 := h.is.tag
  clear h
  go_enter Tryz.func37, Tryz.ntmps37
  go_wp2_with (first
    | (go_at_call 47; refine (su_is q 2 _ t0).mono ?_; rintro e w9 ⟨rfl, rfl⟩)
    | (go_at_call 90; refine HO.out.mono ?_; rintro e w1 ⟨A, c, rfl, h1, h2, h3⟩))
  go_ret2
  exact ⟨A, c, rfl, h1, h2, h3⟩
set_option maxRecDepth 50000 in
set_option maxHeartbeats 2000000 in
theorem check_of (er : Int) (v u s : Value) (w : World) (h : Su F w q p L X) (HO : Hid (Calls Tryz.prog 80 #[.pointer (some ⟨q, 0, none⟩), v, u, s] w fun e w' => e = .returned (.int .i64 er) ∧ Below w.heap.size w w')) :
    Calls Tryz.prog 31 #[.pointer (some ⟨q, 0, none⟩), v, u, s] w fun e w' => e = .returned (.int .i64 er) ∧ Below w.heap.size w w' := by
  have t0 := h.is.tag
  clear h
  go_enter Tryz.func31, Tryz.ntmps31
  go_wp2_with (first
    | (go_at_call 47; refine (su_is q 2 _ t0).mono ?_; rintro e w9 ⟨rfl, rfl⟩)
    | (go_at_call 80; refine HO.out.mono ?_; rintro e w1 ⟨rfl, hb1⟩))
  go_ret
  exact ⟨rfl, hb1⟩
set_option maxRecDepth 50000 in
/-- What termOf hands back. -/
theorem termOf_t (v : Value) (x : Option Nat) (w : World) (h : Su F w q p L X) (hv : Vl w v x) (hx : ∀ n, x = some n → n < L.length) (hL : L.length ≤ 40) :
    ∃ k a b : Int, (∀ n, x = some n → L[n]? = some (k, a, b)) ∧ (x = none → (k, a, b) = (0, 0, 0)) ∧ ∀ w1, Below w.heap.size w w1 → Calls Tryz.prog 82 #[.pointer (some ⟨q, 0, none⟩), v] w1 fun e w' => e = .returned (.tuple #[.agg #[.int .i64 k, .int .i64 a, .int .i64 b], .bool x.isSome]) ∧ Below w1.heap.size w1 w' := by
  cases x with
  | none => exact ⟨0, 0, 0, (fun n e => by cases e), (fun _ => rfl), fun w1 hb => termOf_no F q p L X v w1 (h.next hb) (hv.next hb) hL⟩
  | some n =>
    have hn := hx n rfl
    obtain ⟨⟨k, a, b⟩, ht⟩ : ∃ t, L[n]? = some t := ⟨L[n], by simp [hn]⟩
    exact ⟨k, a, b, (fun m e => by injection e with e; subst e; exact ht), (fun e => by cases e), fun w1 hb => termOf_yes F q p L X v n k a b w1 (h.next hb) (hv.next hb) ht hL⟩
set_option maxRecDepth 50000 in
set_option maxHeartbeats 4000000 in
theorem compare_none (v u s : Value) (x y : Option Nat) (w : World) (h : Su F w q p L X) (hv : Vl w v x) (hx : ∀ n, x = some n → n < L.length) (hs : Vl w s y) (hy : ∀ n, y = some n → n < L.length) (hxy : x = none ∨ y = none) (hL : L.length ≤ 40) :
    Calls Tryz.prog 80 #[.pointer (some ⟨q, 0, none⟩), v, u, s] w fun e w' => e = .returned (.int .i64 11) ∧ Below w.heap.size w w' := by
  obtain ⟨k1, a1, b1, _, _, hT⟩ := termOf_t F q p L X v x w h hv hx hL
  obtain ⟨k2, a2, b2, _, _, hT2⟩ := termOf_t F q p L X s y w h hs hy hL
  obtain ⟨bx, hbx⟩ : ∃ bx, x.isSome = bx := ⟨_, rfl⟩
  obtain ⟨by_, hby⟩ : ∃ by_, y.isSome = by_ := ⟨_, rfl⟩
  have hbb : bx = false ∨ by_ = false := by
    rcases hxy with e | e
    · left; rw [← hbx, e]; rfl
    · right; rw [← hby, e]; rfl
  rw [hbx] at hT
  rw [hby] at hT2
  have HT := hid (hT w (Below.refl _ _))
  have HT2 := hid hT2
  clear h hv hx hs hy hxy hL hT hT2 hbx hby
  go_enter Tryz.func80, Tryz.ntmps80
  go_upto_region 2 with (go_at_call 82; refine HT.out.mono ?_; rintro e w1 ⟨rfl, hb1⟩)
  have hb2 := hb1.trans (Below.mono (below_new w1 (.cells #[.int .i64 k1, .int .i64 a1, .int .i64 b1] 65)) hb1.size)
  clear HT hb1
  go_upto_region 3 with (go_at_call 82; refine (HT2.out _ hb2).mono ?_; rintro e w3 ⟨rfl, hb3⟩)
  have hb4 := hb2.trans (Below.mono hb3 hb2.size)
  have hb5 := hb4.trans (Below.mono (below_new w3 (.cells #[.int .i64 k2, .int .i64 a2, .int .i64 b2] 65)) hb4.size)
  clear HT2 hb2 hb3 hb4
  cases bx
  · clear hbb
    go_wp2
    go_ret
    exact ⟨rfl, hb5⟩
  · obtain rfl : by_ = false := by
      rcases hbb with e | e
      · cases e
      · exact e
    clear hbb
    go_wp2
    go_ret
    exact ⟨rfl, hb5⟩
set_option maxRecDepth 50000 in
set_option maxHeartbeats 4000000 in
theorem compare_kind (v s : Value) (n m ul uc : Nat) (uA : Option Addr) (k1 a1 b1 tk ta tb : Int) (w : World) (h : Su F w q p L X) (hv : Vl w v (some n)) (hn : L[n]? = some (k1, a1, b1)) (hs : Vl w s (some m)) (hm : L[m]? = some (tk, ta, tb)) (hL : L.length ≤ 40) (hl : ul ≤ 1000)
    (hk : (tk != 8) = true) :
    Calls Tryz.prog 80 #[.pointer (some ⟨q, 0, none⟩), v, .slice uA ul uc, s] w fun e w' => e = .returned (.int .i64 22) ∧ Below w.heap.size w w' := by
  have HT := hid (termOf_yes F q p L X v n k1 a1 b1 w h hv hn hL)
  have HT2 := hid (fun w1 (hb : Below w.heap.size w w1) => termOf_yes F q p L X s m tk ta tb w1 (h.next hb) (hs.next hb) hm hL)
  have hl2 : ¬ (1048576 : Int) < ul := by omega
  have e1 : decide ((1048576 : Int) < ul) = false := decide_eq_false hl2
  clear h hv hs hn hm hL hl hl2
  go_enter Tryz.func80, Tryz.ntmps80
  go_upto_region 2 with (go_at_call 82; refine HT.out.mono ?_; rintro e w1 ⟨rfl, hb1⟩)
  have hb2 := hb1.trans (Below.mono (below_new w1 (.cells #[.int .i64 k1, .int .i64 a1, .int .i64 b1] 65)) hb1.size)
  clear HT hb1
  go_upto_region 3 with (go_at_call 82; refine (HT2.out _ hb2).mono ?_; rintro e w3 ⟨rfl, hb3⟩)
  have hb4 := hb2.trans (Below.mono hb3 hb2.size)
  have hb5 := hb4.trans (Below.mono (below_new w3 (.cells #[.int .i64 tk, .int .i64 ta, .int .i64 tb] 65)) hb4.size)
  clear HT2 hb2 hb3 hb4
  go_wp2
  go_ret
  exact ⟨rfl, hb5⟩
set_option maxRecDepth 50000 in
set_option maxHeartbeats 4000000 in
theorem compare_key (v s : Value) (n m ul uc : Nat) (uA : Option Addr) (k1 a1 b1 ta tb : Int) (w : World) (h : Su F w q p L X) (hv : Vl w v (some n)) (hn : L[n]? = some (k1, a1, b1)) (hs : Vl w s (some m)) (hm : L[m]? = some (8, ta, tb)) (hL : L.length ≤ 40) (hl : ul ≤ 1000)
    (hk : ¬ (k1 = 3 ∧ a1 = ta ∧ b1 = 0)) :
    Calls Tryz.prog 80 #[.pointer (some ⟨q, 0, none⟩), v, .slice uA ul uc, s] w fun e w' => e = .returned (.int .i64 22) ∧ Below w.heap.size w w' := by
  have HT := hid (termOf_yes F q p L X v n k1 a1 b1 w h hv hn hL)
  have HT2 := hid (fun w1 (hb : Below w.heap.size w w1) => termOf_yes F q p L X s m 8 ta tb w1 (h.next hb) (hs.next hb) hm hL)
  have hl2 : ¬ (1048576 : Int) < ul := by omega
  have e1 : decide ((1048576 : Int) < ul) = false := decide_eq_false hl2
  clear h hv hs hn hm hL hl hl2
  go_enter Tryz.func80, Tryz.ntmps80
  go_upto_region 2 with (go_at_call 82; refine HT.out.mono ?_; rintro e w1 ⟨rfl, hb1⟩)
  have hb2 := hb1.trans (Below.mono (below_new w1 (.cells #[.int .i64 k1, .int .i64 a1, .int .i64 b1] 65)) hb1.size)
  clear HT
  obtain ⟨W1, hW1, x0, x1, x2, hbW1, hB1⟩ := term_world (k1, a1, b1) w1
  have hW1 : w1.alloc (.cells #[.int .i64 k1, .int .i64 a1, .int .i64 b1] 65) = W1 := hW1
  dsimp only at x0 x1 x2
  rw [hW1]
  rw [hW1] at hb2
  clear hW1 hb1
  go_upto_region 3 with (go_at_call 82; refine (HT2.out _ hb2).mono ?_; rintro e w3 ⟨rfl, hb3⟩)
  have hb4 := hb2.trans (Below.mono hb3 hb2.size)
  obtain ⟨W3, hW3, y0, y1, y2, hbW3, hB3⟩ := term_world (8, ta, tb) w3
  have hW3 : w3.alloc (.cells #[.int .i64 8, .int .i64 ta, .int .i64 tb] 65) = W3 := hW3
  dsimp only at y0 y1 y2
  have x0 := cellB (cellB x0 hb3) hbW3
  have x1 := cellB (cellB x1 hb3) hbW3
  have x2 := cellB (cellB x2 hb3) hbW3
  have hb5 := hb4.trans (Below.mono hbW3 hb4.size)
  rw [hW3]
  clear HT2 hb2 hb3 hb4 hW3 hbW3 hB1 hB3 hbW1
  have hc : ¬ k1 = 3 ∨ (k1 = 3 ∧ ¬ a1 = ta) ∨ (k1 = 3 ∧ a1 = ta ∧ ¬ b1 = 0) := by omega
  clear hk
  rcases hc with h1 | ⟨rfl, h1⟩ | ⟨rfl, rfl, h1⟩
  all_goals
    go_wp2
    go_ret
    exact ⟨rfl, hb5⟩
set_option maxRecDepth 50000 in
set_option maxHeartbeats 4000000 in
theorem compare_yes (v s : Value) (n m ul uc : Nat) (uA : Option Addr) (ta tb : Int) (x y : List Int) (w : World) (h : Su F w q p L X) (hv : Vl w v (some n)) (hn : L[n]? = some (3, ta, 0)) (hs : Vl w s (some m)) (hm : L[m]? = some (8, ta, tb)) (hL : L.length ≤ 40) (hl : ul ≤ 1000)
    (hx : x.length = ul) (hxb : TByt x) (hA : Nums w .u8 uA x) (HY : Hid (∀ ww, Su F ww q p L X → Calls Tryz.prog 46 #[.pointer (some ⟨p, 0, none⟩), .int .i64 tb] ww fun e w' => ∃ v, e = .returned v ∧ ByTx y v w' ∧ Below ww.heap.size ww w')) (hyb : TByt y) (hxy : y = x) :
    Calls Tryz.prog 80 #[.pointer (some ⟨q, 0, none⟩), v, .slice uA ul uc, s] w fun e w' => e = .returned (.int .i64 0) ∧ Below w.heap.size w w' := by
  have HT := hid (termOf_yes F q p L X v n 3 ta 0 w h hv hn hL)
  have HT2 := hid (fun w1 (hb : Below w.heap.size w w1) => termOf_yes F q p L X s m 8 ta tb w1 (h.next hb) (hs.next hb) hm hL)
  have hl2 : ¬ (1048576 : Int) < ul := by omega
  have e1 : decide ((1048576 : Int) < ul) = false := decide_eq_false hl2
  have HXL := hid hx
  have HA := hid hA
  have HS := hid h
  clear h hv hs hn hm hL hl hl2 hx hA
  go_enter Tryz.func80, Tryz.ntmps80
  go_upto_region 2 with (go_at_call 82; refine HT.out.mono ?_; rintro e w1 ⟨rfl, hb1⟩)
  have hb2 := hb1.trans (Below.mono (below_new w1 (.cells #[.int .i64 3, .int .i64 ta, .int .i64 0] 65)) hb1.size)
  clear HT
  obtain ⟨W1, hW1, x0, x1, x2, hbW1, hB1⟩ := term_world (3, ta, 0) w1
  have hW1 : w1.alloc (.cells #[.int .i64 3, .int .i64 ta, .int .i64 0] 65) = W1 := hW1
  dsimp only at x0 x1 x2
  rw [hW1]
  rw [hW1] at hb2
  clear hW1 hb1
  go_upto_region 3 with (go_at_call 82; refine (HT2.out _ hb2).mono ?_; rintro e w3 ⟨rfl, hb3⟩)
  have hb4 := hb2.trans (Below.mono hb3 hb2.size)
  obtain ⟨W3, hW3, y0, y1, y2, hbW3, hB3⟩ := term_world (8, ta, tb) w3
  have hW3 : w3.alloc (.cells #[.int .i64 8, .int .i64 ta, .int .i64 tb] 65) = W3 := hW3
  have hB2 : Blk W3 w3.heap.size 65 [.int .i64 8, .int .i64 ta, .int .i64 tb] := hB3
  dsimp only at y0 y1 y2
  have x0 := cellB (cellB x0 hb3) hbW3
  have x1 := cellB (cellB x1 hb3) hbW3
  have x2 := cellB (cellB x2 hb3) hbW3
  have hb5 := hb4.trans (Below.mono hbW3 hb4.size)
  have hS := HS.out.next hb5
  rw [hW3]
  clear HT2 hb2 hb3 hb4 hW3 hbW3 hB1 hB3 hbW1
  go_upto_region 9 with (fail)
  refine region_spec2 11 60 (fun _ => false) [Is (Value.pointer (some ⟨q, 0, none⟩)), Is (Value.pointer (some ⟨q, 0, none⟩)), Is (Value.pointer (some ⟨q, 34, none⟩)), Is (Value.pointer (some ⟨p, 0, none⟩)), Is (Value.pointer (some ⟨w3.heap.size, 2, none⟩)), Is (Value.int .i64 tb), (ByTx y), (ByTx y), (BySl y), AnyV, (BySl y)] [47, 48, 49, 50, 51, 52, 53, 46, 54, 55, 13] (by kernel_rfl) (by kernel_rfl) (by kernel_rfl) (Nat.le_of_eq rfl) (grows_cons (Is.grows _) (grows_cons (Is.grows _) (grows_cons (Is.grows _) (grows_cons (Is.grows _) (grows_cons (Is.grows _) (grows_cons (Is.grows _) (grows_cons (ByTx.grows y) (grows_cons (ByTx.grows y) (grows_cons (BySl.grows y) (grows_cons AnyV.grows (grows_cons (BySl.grows y) grows_nil)))))))))))
    ⟨(step_ex _ rfl (.inl rfl) rfl (fun a ww hw hf hd => by
   have h0 : a.eval (.tmp 0) = Value.pointer (some ⟨q, 0, none⟩) := ((knows_out 0 (by kernel_rfl) rfl) : Knows _ _ _ _ _ _ 0 _ _) a ww hw hf hd
   revert h0
   generalize a.eval = ev
   intro h0
   unfold execOp
   simp only [h0]
   go_simp)),
     (step_ex _ rfl (.inl rfl) rfl (fun a ww hw hf hd => by
   have h47 : a.eval (.tmp 47) = Value.pointer (some ⟨q, 0, none⟩) := ((knows_in 0 47 (by decide) (by kernel_rfl) rfl rfl) : Knows _ _ _ _ _ _ 1 _ _) a ww hw hf hd
   revert h47
   generalize a.eval = ev
   intro h47
   unfold execOp
   simp only [h47]
   go_simp)),
     (step_ex _ rfl (.inl rfl) rfl (fun a ww hw hf hd => by
   have h48 : a.eval (.tmp 48) = Value.pointer (some ⟨q, 0, none⟩) := ((knows_in 1 48 (by decide) (by kernel_rfl) rfl rfl) : Knows _ _ _ _ _ _ 2 _ _) a ww hw hf hd
   revert h48
   generalize a.eval = ev
   intro h48
   unfold execOp
   simp only [h48]
   go_simp)),
     (step_ex _ rfl (.inl rfl) rfl (fun a ww hw hf hd => by
   have h49 : a.eval (.tmp 49) = Value.pointer (some ⟨q, 34, none⟩) := ((knows_in 2 49 (by decide) (by kernel_rfl) rfl rfl) : Knows _ _ _ _ _ _ 3 _ _) a ww hw hf hd
   have f0 : ww.cell? ⟨q, 34, none⟩ = some (Value.pointer (some ⟨p, 0, none⟩)) := (hS.next hw).is.store
   revert h49
   generalize a.eval = ev
   intro h49
   unfold execOp
   simp only [h49]
   go_simp)),
     (step_ex _ rfl (.inl rfl) rfl (fun a ww hw hf hd => by
   have h11 : a.eval (.tmp 11) = Value.pointer (some ⟨w3.heap.size, 0, none⟩) := ((knows_out 11 (by kernel_rfl) rfl) : Knows _ _ _ _ _ _ 4 _ _) a ww hw hf hd
   revert h11
   generalize a.eval = ev
   intro h11
   unfold execOp
   simp only [h11]
   go_simp)),
     (step_ex _ rfl (.inl rfl) rfl (fun a ww hw hf hd => by
   have h51 : a.eval (.tmp 51) = Value.pointer (some ⟨w3.heap.size, 2, none⟩) := ((knows_in 4 51 (by decide) (by kernel_rfl) rfl rfl) : Knows _ _ _ _ _ _ 5 _ _) a ww hw hf hd
   have f0 : ww.cell? ⟨w3.heap.size, 2, none⟩ = some (Value.int .i64 tb) := (hB2.next hw).cell (i := 2) rfl
   revert h51
   generalize a.eval = ev
   intro h51
   unfold execOp
   simp only [h51]
   go_simp)),
     (step_callR rfl (.inl rfl) rfl cxT46 rfl (fun aa ww hw hf hd => ⟨_, (two_args (knows_in 3 50 (by decide) (by kernel_rfl) rfl rfl) (knows_in 5 52 (by decide) (by kernel_rfl) rfl rfl)) aa ww hw hf hd, HY.out ww (hS.next hw)⟩)),
     (step_copyW rfl (.inl rfl) 6 53 (by first | exact .inl rfl | exact .inr rfl) rfl (by decide) (by kernel_rfl) rfl rfl),
     (step_ext0 rfl (.inl rfl) 7 46 rfl rfl (by decide) (by kernel_rfl) rfl rfl (ByTx.ext y)),
     (step_ext1 rfl (.inl rfl) 7 46 rfl rfl (by decide) (by kernel_rfl) rfl rfl (ByTx.ext1 y)),
     (step_copyW rfl (.inl rfl) 8 54 (by first | exact .inl rfl | exact .inr rfl) rfl (by decide) (by kernel_rfl) rfl rfl), trivial⟩ ?_
  intro val w9 hw hS _ _
  have e47 : val 47 = Value.pointer (some ⟨q, 0, none⟩) := hS 0 47 (by decide) rfl
  have e48 : val 48 = Value.pointer (some ⟨q, 0, none⟩) := hS 1 48 (by decide) rfl
  have e49 : val 49 = Value.pointer (some ⟨q, 34, none⟩) := hS 2 49 (by decide) rfl
  have e50 : val 50 = Value.pointer (some ⟨p, 0, none⟩) := hS 3 50 (by decide) rfl
  have e51 : val 51 = Value.pointer (some ⟨w3.heap.size, 2, none⟩) := hS 4 51 (by decide) rfl
  have e52 : val 52 = Value.int .i64 tb := hS 5 52 (by decide) rfl
  have P13 := hS 10 13 (by decide) rfl
  simp only [putVals, List.foldl_cons, List.foldl_nil, List.drop_succ_cons, List.drop_zero, Act.put, List.setIfInBounds_toArray, List.set_cons_succ, List.set_cons_zero, e47, e48, e49, e50, e51, e52]
  clear e47 e48 e49 e50 e51 e52 hS
  generalize val 53 = g53 at *
  generalize val 46 = g46 at *
  generalize val 54 = g54 at *
  generalize val 55 = g55 at *
  generalize val 13 = g13 at *
  obtain ⟨A8, c8, rfl, hN8⟩ := P13
  have hb9 := hb5.trans (Below.mono hw hb5.size)
  have hNx := HA.out.below hb9
  clear x0 x1 x2 y0 y1 y2 hS hB2 hb5 hw e1
  subst hxy
  rw [HXL.out]
  go_wp2_with (go_at_call 139; refine (equal_yes HXL.out hyb hN8 hNx).mono ?_; rintro e s5 ⟨rfl, rfl⟩)
  go_ret
  exact ⟨rfl, hb9⟩
set_option maxRecDepth 50000 in
set_option maxHeartbeats 4000000 in
theorem compare_no (v s : Value) (n m ul uc : Nat) (uA : Option Addr) (ta tb : Int) (x y : List Int) (w : World) (h : Su F w q p L X) (hv : Vl w v (some n)) (hn : L[n]? = some (3, ta, 0)) (hs : Vl w s (some m)) (hm : L[m]? = some (8, ta, tb)) (hL : L.length ≤ 40) (hl : ul ≤ 1000)
    (hx : x.length = ul) (hxb : TByt x) (hA : Nums w .u8 uA x) (HY : Hid (∀ ww, Su F ww q p L X → Calls Tryz.prog 46 #[.pointer (some ⟨p, 0, none⟩), .int .i64 tb] ww fun e w' => ∃ v, e = .returned v ∧ ByTx y v w' ∧ Below ww.heap.size ww w')) (hyb : TByt y) (hxy : y ≠ x) :
    Calls Tryz.prog 80 #[.pointer (some ⟨q, 0, none⟩), v, .slice uA ul uc, s] w fun e w' => e = .returned (.int .i64 22) ∧ Below w.heap.size w w' := by
  have HT := hid (termOf_yes F q p L X v n 3 ta 0 w h hv hn hL)
  have HT2 := hid (fun w1 (hb : Below w.heap.size w w1) => termOf_yes F q p L X s m 8 ta tb w1 (h.next hb) (hs.next hb) hm hL)
  have hl2 : ¬ (1048576 : Int) < ul := by omega
  have e1 : decide ((1048576 : Int) < ul) = false := decide_eq_false hl2
  have HXL := hid hx
  have HA := hid hA
  have HS := hid h
  clear h hv hs hn hm hL hl hl2 hx hA
  go_enter Tryz.func80, Tryz.ntmps80
  go_upto_region 2 with (go_at_call 82; refine HT.out.mono ?_; rintro e w1 ⟨rfl, hb1⟩)
  have hb2 := hb1.trans (Below.mono (below_new w1 (.cells #[.int .i64 3, .int .i64 ta, .int .i64 0] 65)) hb1.size)
  clear HT
  obtain ⟨W1, hW1, x0, x1, x2, hbW1, hB1⟩ := term_world (3, ta, 0) w1
  have hW1 : w1.alloc (.cells #[.int .i64 3, .int .i64 ta, .int .i64 0] 65) = W1 := hW1
  dsimp only at x0 x1 x2
  rw [hW1]
  rw [hW1] at hb2
  clear hW1 hb1
  go_upto_region 3 with (go_at_call 82; refine (HT2.out _ hb2).mono ?_; rintro e w3 ⟨rfl, hb3⟩)
  have hb4 := hb2.trans (Below.mono hb3 hb2.size)
  obtain ⟨W3, hW3, y0, y1, y2, hbW3, hB3⟩ := term_world (8, ta, tb) w3
  have hW3 : w3.alloc (.cells #[.int .i64 8, .int .i64 ta, .int .i64 tb] 65) = W3 := hW3
  have hB2 : Blk W3 w3.heap.size 65 [.int .i64 8, .int .i64 ta, .int .i64 tb] := hB3
  dsimp only at y0 y1 y2
  have x0 := cellB (cellB x0 hb3) hbW3
  have x1 := cellB (cellB x1 hb3) hbW3
  have x2 := cellB (cellB x2 hb3) hbW3
  have hb5 := hb4.trans (Below.mono hbW3 hb4.size)
  have hS := HS.out.next hb5
  rw [hW3]
  clear HT2 hb2 hb3 hb4 hW3 hbW3 hB1 hB3 hbW1
  go_upto_region 9 with (fail)
  refine region_spec2 11 60 (fun _ => false) [Is (Value.pointer (some ⟨q, 0, none⟩)), Is (Value.pointer (some ⟨q, 0, none⟩)), Is (Value.pointer (some ⟨q, 34, none⟩)), Is (Value.pointer (some ⟨p, 0, none⟩)), Is (Value.pointer (some ⟨w3.heap.size, 2, none⟩)), Is (Value.int .i64 tb), (ByTx y), (ByTx y), (BySl y), AnyV, (BySl y)] [47, 48, 49, 50, 51, 52, 53, 46, 54, 55, 13] (by kernel_rfl) (by kernel_rfl) (by kernel_rfl) (Nat.le_of_eq rfl) (grows_cons (Is.grows _) (grows_cons (Is.grows _) (grows_cons (Is.grows _) (grows_cons (Is.grows _) (grows_cons (Is.grows _) (grows_cons (Is.grows _) (grows_cons (ByTx.grows y) (grows_cons (ByTx.grows y) (grows_cons (BySl.grows y) (grows_cons AnyV.grows (grows_cons (BySl.grows y) grows_nil)))))))))))
    ⟨(step_ex _ rfl (.inl rfl) rfl (fun a ww hw hf hd => by
   have h0 : a.eval (.tmp 0) = Value.pointer (some ⟨q, 0, none⟩) := ((knows_out 0 (by kernel_rfl) rfl) : Knows _ _ _ _ _ _ 0 _ _) a ww hw hf hd
   revert h0
   generalize a.eval = ev
   intro h0
   unfold execOp
   simp only [h0]
   go_simp)),
     (step_ex _ rfl (.inl rfl) rfl (fun a ww hw hf hd => by
   have h47 : a.eval (.tmp 47) = Value.pointer (some ⟨q, 0, none⟩) := ((knows_in 0 47 (by decide) (by kernel_rfl) rfl rfl) : Knows _ _ _ _ _ _ 1 _ _) a ww hw hf hd
   revert h47
   generalize a.eval = ev
   intro h47
   unfold execOp
   simp only [h47]
   go_simp)),
     (step_ex _ rfl (.inl rfl) rfl (fun a ww hw hf hd => by
   have h48 : a.eval (.tmp 48) = Value.pointer (some ⟨q, 0, none⟩) := ((knows_in 1 48 (by decide) (by kernel_rfl) rfl rfl) : Knows _ _ _ _ _ _ 2 _ _) a ww hw hf hd
   revert h48
   generalize a.eval = ev
   intro h48
   unfold execOp
   simp only [h48]
   go_simp)),
     (step_ex _ rfl (.inl rfl) rfl (fun a ww hw hf hd => by
   have h49 : a.eval (.tmp 49) = Value.pointer (some ⟨q, 34, none⟩) := ((knows_in 2 49 (by decide) (by kernel_rfl) rfl rfl) : Knows _ _ _ _ _ _ 3 _ _) a ww hw hf hd
   have f0 : ww.cell? ⟨q, 34, none⟩ = some (Value.pointer (some ⟨p, 0, none⟩)) := (hS.next hw).is.store
   revert h49
   generalize a.eval = ev
   intro h49
   unfold execOp
   simp only [h49]
   go_simp)),
     (step_ex _ rfl (.inl rfl) rfl (fun a ww hw hf hd => by
   have h11 : a.eval (.tmp 11) = Value.pointer (some ⟨w3.heap.size, 0, none⟩) := ((knows_out 11 (by kernel_rfl) rfl) : Knows _ _ _ _ _ _ 4 _ _) a ww hw hf hd
   revert h11
   generalize a.eval = ev
   intro h11
   unfold execOp
   simp only [h11]
   go_simp)),
     (step_ex _ rfl (.inl rfl) rfl (fun a ww hw hf hd => by
   have h51 : a.eval (.tmp 51) = Value.pointer (some ⟨w3.heap.size, 2, none⟩) := ((knows_in 4 51 (by decide) (by kernel_rfl) rfl rfl) : Knows _ _ _ _ _ _ 5 _ _) a ww hw hf hd
   have f0 : ww.cell? ⟨w3.heap.size, 2, none⟩ = some (Value.int .i64 tb) := (hB2.next hw).cell (i := 2) rfl
   revert h51
   generalize a.eval = ev
   intro h51
   unfold execOp
   simp only [h51]
   go_simp)),
     (step_callR rfl (.inl rfl) rfl cxT46 rfl (fun aa ww hw hf hd => ⟨_, (two_args (knows_in 3 50 (by decide) (by kernel_rfl) rfl rfl) (knows_in 5 52 (by decide) (by kernel_rfl) rfl rfl)) aa ww hw hf hd, HY.out ww (hS.next hw)⟩)),
     (step_copyW rfl (.inl rfl) 6 53 (by first | exact .inl rfl | exact .inr rfl) rfl (by decide) (by kernel_rfl) rfl rfl),
     (step_ext0 rfl (.inl rfl) 7 46 rfl rfl (by decide) (by kernel_rfl) rfl rfl (ByTx.ext y)),
     (step_ext1 rfl (.inl rfl) 7 46 rfl rfl (by decide) (by kernel_rfl) rfl rfl (ByTx.ext1 y)),
     (step_copyW rfl (.inl rfl) 8 54 (by first | exact .inl rfl | exact .inr rfl) rfl (by decide) (by kernel_rfl) rfl rfl), trivial⟩ ?_
  intro val w9 hw hS _ _
  have e47 : val 47 = Value.pointer (some ⟨q, 0, none⟩) := hS 0 47 (by decide) rfl
  have e48 : val 48 = Value.pointer (some ⟨q, 0, none⟩) := hS 1 48 (by decide) rfl
  have e49 : val 49 = Value.pointer (some ⟨q, 34, none⟩) := hS 2 49 (by decide) rfl
  have e50 : val 50 = Value.pointer (some ⟨p, 0, none⟩) := hS 3 50 (by decide) rfl
  have e51 : val 51 = Value.pointer (some ⟨w3.heap.size, 2, none⟩) := hS 4 51 (by decide) rfl
  have e52 : val 52 = Value.int .i64 tb := hS 5 52 (by decide) rfl
  have P13 := hS 10 13 (by decide) rfl
  simp only [putVals, List.foldl_cons, List.foldl_nil, List.drop_succ_cons, List.drop_zero, Act.put, List.setIfInBounds_toArray, List.set_cons_succ, List.set_cons_zero, e47, e48, e49, e50, e51, e52]
  clear e47 e48 e49 e50 e51 e52 hS
  generalize val 53 = g53 at *
  generalize val 46 = g46 at *
  generalize val 54 = g54 at *
  generalize val 55 = g55 at *
  generalize val 13 = g13 at *
  obtain ⟨A8, c8, rfl, hN8⟩ := P13
  have hb9 := hb5.trans (Below.mono hw hb5.size)
  have hNx := HA.out.below hb9
  clear x0 x1 x2 y0 y1 y2 hS hB2 hb5 hw e1
  obtain ⟨yl, hyl⟩ : ∃ yl, y.length = yl := ⟨_, rfl⟩
  rw [hyl]
  go_wp2_with (go_at_call 139; refine (equal_no hyl HXL.out hyb hxb hN8 hNx hxy).mono ?_; rintro e s5 ⟨rfl, rfl⟩)
  go_ret
  exact ⟨rfl, hb9⟩
end
end Go.Proofs.YtpncohoonfahpaaGreatDoor

/- What Unwrap, Unlock and Check hand back, whatever the terms. -/
namespace Go.Proofs.YtpncohoonfahpaaGreatDoor
open Go Go.RowKit

/-- The term of a number, or none. -/
def pOf (L : List T3) (n : Int) : T3 := if 0 ≤ n ∧ n < L.length then L.getD n.toNat (0, 0, 0) else (0, 0, 0)
set_option maxRecDepth 50000 in
theorem pOf_at {L : List T3} {i : Nat} {t : T3} (h : L[i]? = some t) : pOf L (i : Int) = t := by
  have hl := get_lt h
  rw [pOf, if_pos (by omega), Int.toNat_natCast, List.getD_eq_getElem?_getD, h]
  rfl
section
variable (F : Nat → Prop) (q p : Nat) (L : List T3) (X : List (List Int))
set_option maxRecDepth 50000 in
theorem get_p (n : Int) (w : World) (h : CS F w p L X) :
    Calls Tryz.prog 45 #[.pointer (some ⟨p, 0, none⟩), .int .i64 n] w fun e w' => e = .returned (.tuple #[.agg #[.int .i64 (pOf L n).1, .int .i64 (pOf L n).2.1, .int .i64 (pOf L n).2.2], .bool (decide (0 ≤ n ∧ n < L.length))]) ∧ Below w.heap.size w w' := by
  by_cases hn : 0 ≤ n ∧ n < L.length
  · obtain ⟨m, rfl⟩ : ∃ m : Nat, n = m := ⟨n.toNat, by omega⟩
    obtain ⟨t, ht⟩ : ∃ t, L[m]? = some t := ⟨L[m]'(by omega), by simp⟩
    rw [pOf_at ht, decide_eq_true hn]
    exact get_yes F p L X m t.1 t.2.1 t.2.2 w h ht
  · rw [pOf, if_neg hn, decide_eq_false hn]
    exact get_no F p L X n w h hn
set_option maxRecDepth 50000 in
theorem bytes_y (n : Int) (hP : ∃ nx DN DI, PF nx DN DI L X) : ∃ y : List Int, TByt y ∧ y.length ≤ 100 ∧ ∀ ww, Su F ww q p L X → Calls Tryz.prog 46 #[.pointer (some ⟨p, 0, none⟩), .int .i64 n] ww fun e w' => ∃ v, e = .returned v ∧ ByTx y v w' ∧ Below ww.heap.size ww w' := by
  obtain ⟨nx, DN, DI, hP⟩ := hP
  by_cases hx : ∃ (m : Nat) (t : T3), n = m ∧ L[m]? = some t ∧ t.1 = 9
  · obtain ⟨m, ⟨k, a, b⟩, rfl, ht, hk⟩ := hx
    have hw := (hP.wf m _ ht).2
    have hk : k = 9 := hk
    subst hk
    rcases hw with ⟨h1, _⟩ | ⟨h1, _⟩ | ⟨h1, _⟩ | ⟨_, h2, h3, h4⟩
    · exact absurd h1 (by simp)
    · exact absurd h1 (by simp)
    · exact absurd h1 (by simp)
    · have h2 : 0 ≤ a := h2
      have h3 : a < X.length := h3
      have h4 : b = 0 := h4
      obtain ⟨j, rfl⟩ : ∃ j : Nat, a = j := ⟨a.toNat, by omega⟩
      subst h4
      have hj : j < X.length := by omega
      have hb := hP.xb X[j] (List.getElem_mem hj)
      exact ⟨X[j], hb.1, hb.2, fun ww h => bytes_tx F p L X m X[j] ww h.cs ⟨j, by simp [hj], ht⟩⟩
  · exact ⟨[], fun b hb => by simp at hb, by simp, fun ww h => (bytes_no F p L X n ww h.cs (fun m t e ht hk => hx ⟨m, t, e, ht, hk⟩)).mono fun e w' ⟨he, hw⟩ => ⟨_, he, ⟨_, _, rfl, none, 0, rfl, Nums.nil⟩, by subst hw; exact Below.refl _ _⟩⟩
/-- What Unwrap and Unlock hand back: a value, or nothing. -/
def UnQ (e1 : Int) (l1 : Nat) (o1 : Option Nat) (w : World) (e : Ending) (w' : World) : Prop := ∃ A c, e = .returned (.tuple #[.slice A l1 c, .int .i64 e1]) ∧ Vl w' (.slice A l1 c) o1 ∧ Below w.heap.size w w'
set_option maxRecDepth 50000 in
theorem UnQ.bad {w : World} {er : Int} {e : Ending} {w' : World} (h : BadQ w er e w') : UnQ er 0 none w e w' := ⟨none, 0, h.1, .inl rfl, h.2⟩
set_option maxRecDepth 50000 in
theorem UnQ.hit {w : World} {j : Nat} (hj : j ≤ 40) {e : Ending} {w' : World} (h : InQ w j e w') : UnQ 0 9 (some j) w e w' := by
  obtain ⟨A, c, h1, h2, h3, h4⟩ := h
  exact ⟨A, c, h1, ⟨hj, A, c, rfl, h2, h3⟩, h4⟩
set_option maxRecDepth 50000 in
theorem two_wf {L : List T3} {X : List (List Int)} (hP : ∃ nx DN DI, PF nx DN DI L X) {m : Nat} {k a b : Int} (hk : k = 4 ∨ k = 5) (h : L[m]? = some (k, a, b)) : ∃ i j : Nat, a = i ∧ b = j ∧ i < L.length ∧ j < L.length := by
  obtain ⟨nx, DN, DI, hP⟩ := hP
  have hl := get_lt h
  rcases (hP.wf m _ h).2 with ⟨h1, _⟩ | ⟨h1, _⟩ | ⟨_, h2, h3, h4, h5⟩ | ⟨h1, _⟩
  · have h1 : k = 1 := h1; omega
  · have h1 : k = 2 ∨ k = 3 ∨ k = 6 ∨ k = 7 ∨ k = 10 := h1; omega
  · have h2 : 0 ≤ a := h2; have h3 : a < m := h3; have h4 : 0 ≤ b := h4; have h5 : b < m := h5
    exact ⟨a.toNat, b.toNat, by omega, by omega, by omega, by omega⟩
  · have h1 : k = 9 := h1; omega
set_option maxRecDepth 50000 in
/-- Unwrap of two values that stand for terms. -/
theorem unwrap_any (v u : Value) (n m : Nat) (tk ta tb : Int) (w : World) (h : Su F w q p L X) (hv : Vl w v (some n)) (hn : n < L.length) (hu : Vl w u (some m)) (hm : L[m]? = some (tk, ta, tb)) (hL : L.length ≤ 40) :
    ∃ (e1 : Int) (l1 : Nat) (o1 : Option Nat), (∀ k, o1 = some k → k < L.length) ∧ ((tk = 4 ∧ (pOf L ta).2.1 = (n : Int) ∧ e1 = 0 ∧ l1 = 9 ∧ nOf o1 = tb) ∨ (¬ (tk = 4 ∧ (pOf L ta).2.1 = (n : Int)) ∧ e1 = 20 ∧ l1 = 0 ∧ nOf o1 = 0)) ∧
      ∀ w1, Below w.heap.size w w1 → Calls Tryz.prog 36 #[.pointer (some ⟨q, 0, none⟩), v, u] w1 (UnQ e1 l1 o1 w1) := by
  by_cases hk : tk = 4
  · subst hk
    obtain ⟨i, j, rfl, rfl, hi, hj⟩ := two_wf h.cs.pure (.inl rfl) hm
    obtain ⟨⟨ka, aa, ab⟩, ht⟩ : ∃ t, L[i]? = some t := ⟨L[i], by simp [hi]⟩
    have hp := pOf_at ht
    have HO := fun w1 (hb : Below w.heap.size w w1) => hid (fun W (hW : Below w1.heap.size w1 W) => opener_wrap F q p L X i j ka aa ab W ((h.next hb).next hW) ht)
    by_cases he : aa = (n : Int)
    · subst he
      exact ⟨0, 9, some j, (fun k e => by injection e with e; omega), .inl ⟨rfl, by rw [hp], rfl, rfl, rfl⟩, fun w1 hb => (unwrap_hit F q p L X j v u w1 (h.next hb) (hid (open_hit F q p L X 4 v u n m j i w1 (h.next hb) (hv.next hb) hn (hu.next hb) hm (by omega) hL (HO w1 hb)))).mono fun e w' hh => UnQ.hit (by omega) hh⟩
    · exact ⟨20, 0, none, (fun k e => by cases e), .inr ⟨fun e => he (by rw [← e.2, hp]), rfl, rfl, rfl⟩, fun w1 hb => (unwrap_bad F q p L X 20 v u w1 (h.next hb) (hid (open_miss F q p L X 4 v u n m i j aa w1 (h.next hb) (hv.next hb) hn (hu.next hb) hm hL (bne_iff_ne.2 he) (HO w1 hb)))).mono fun e w' hh => UnQ.bad hh⟩
  · exact ⟨20, 0, none, (fun k e => by cases e), .inr ⟨fun e => hk e.1, rfl, rfl, rfl⟩, fun w1 hb => (unwrap_bad F q p L X 20 v u w1 (h.next hb) (hid (open_other F q p L X 4 v u n m tk ta tb w1 (h.next hb) (hv.next hb) hn (hu.next hb) hm hL (bne_iff_ne.2 hk)))).mono fun e w' hh => UnQ.bad hh⟩
set_option maxRecDepth 50000 in
/-- Unlock of two values that stand for terms. -/
theorem unlock_any (v u : Value) (n m : Nat) (tk ta tb : Int) (w : World) (h : Su F w q p L X) (hv : Vl w v (some n)) (hn : n < L.length) (hu : Vl w u (some m)) (hm : L[m]? = some (tk, ta, tb)) (hL : L.length ≤ 40) :
    ∃ (e1 : Int) (l1 : Nat) (o1 : Option Nat), (∀ k, o1 = some k → k < L.length) ∧ ((tk = 5 ∧ ta = (n : Int) ∧ e1 = 0 ∧ l1 = 9 ∧ nOf o1 = tb) ∨ (¬ (tk = 5 ∧ ta = (n : Int)) ∧ e1 = 20 ∧ l1 = 0 ∧ nOf o1 = 0)) ∧
      ∀ w1, Below w.heap.size w w1 → Calls Tryz.prog 37 #[.pointer (some ⟨q, 0, none⟩), v, u] w1 (UnQ e1 l1 o1 w1) := by
  by_cases hk : tk = 5
  · subst hk
    obtain ⟨i, j, rfl, rfl, hi, hj⟩ := two_wf h.cs.pure (.inr rfl) hm
    have HO := fun w1 (hb : Below w.heap.size w w1) => hid (fun W (hW : Below w1.heap.size w1 W) => opener_lock q i j W)
    by_cases he : (i : Int) = (n : Int)
    · obtain rfl : i = n := by omega
      exact ⟨0, 9, some j, (fun k e => by injection e with e; omega), .inl ⟨rfl, rfl, rfl, rfl, rfl⟩, fun w1 hb => (unlock_hit F q p L X j v u w1 (h.next hb) (hid (open_hit F q p L X 5 v u i m j i w1 (h.next hb) (hv.next hb) hn (hu.next hb) hm (by omega) hL (HO w1 hb)))).mono fun e w' hh => UnQ.hit (by omega) hh⟩
    · exact ⟨20, 0, none, (fun k e => by cases e), .inr ⟨fun e => he e.2, rfl, rfl, rfl⟩, fun w1 hb => (unlock_bad F q p L X 20 v u w1 (h.next hb) (hid (open_miss F q p L X 5 v u n m i j i w1 (h.next hb) (hv.next hb) hn (hu.next hb) hm hL (bne_iff_ne.2 he) (HO w1 hb)))).mono fun e w' hh => UnQ.bad hh⟩
  · exact ⟨20, 0, none, (fun k e => by cases e), .inr ⟨fun e => hk e.1, rfl, rfl, rfl⟩, fun w1 hb => (unlock_bad F q p L X 20 v u w1 (h.next hb) (hid (open_other F q p L X 5 v u n m tk ta tb w1 (h.next hb) (hv.next hb) hn (hu.next hb) hm hL (bne_iff_ne.2 hk)))).mono fun e w' hh => UnQ.bad hh⟩
set_option maxRecDepth 50000 in
/-- Check of two values that stand for terms. -/
theorem check_any (v s : Value) (n m ul uc : Nat) (uA : Option Addr) (kk ka kb tk ta tb : Int) (x y : List Int) (w : World) (h : Su F w q p L X) (hv : Vl w v (some n)) (hn : L[n]? = some (kk, ka, kb)) (hs : Vl w s (some m)) (hm : L[m]? = some (tk, ta, tb)) (hL : L.length ≤ 40)
    (hx : x.length = ul) (hl : ul ≤ 1000) (hxb : TByt x) (hA : Nums w .u8 uA x) (hyb : TByt y) (HY : ∀ ww, Su F ww q p L X → Calls Tryz.prog 46 #[.pointer (some ⟨p, 0, none⟩), .int .i64 tb] ww fun e w' => ∃ v, e = .returned v ∧ ByTx y v w' ∧ Below ww.heap.size ww w') :
    ∃ e3 : Int, ((tk = 8 ∧ kk = 3 ∧ ka = ta ∧ y = x ∧ e3 = 0) ∨ (¬ (tk = 8 ∧ kk = 3 ∧ ka = ta ∧ y = x) ∧ e3 = 22)) ∧
      ∀ w1, Below w.heap.size w w1 → Calls Tryz.prog 31 #[.pointer (some ⟨q, 0, none⟩), v, .slice uA ul uc, s] w1 fun e w' => e = .returned (.int .i64 e3) ∧ Below w1.heap.size w1 w' := by
  by_cases hk : tk = 8
  · subst hk
    by_cases hkk : kk = 3 ∧ ka = ta
    · obtain ⟨rfl, rfl⟩ := hkk
      obtain rfl : kb = 0 := by
        obtain ⟨nx, DN, DI, hP⟩ := h.cs.pure
        rcases (hP.wf n _ hn).2 with ⟨h1, _⟩ | ⟨_, _, _, h2⟩ | ⟨h1, _⟩ | ⟨h1, _⟩
        · exact absurd h1 (by simp)
        · exact h2
        · exact absurd h1 (by simp)
        · exact absurd h1 (by simp)
      by_cases hxy : y = x
      · exact ⟨0, .inl ⟨rfl, rfl, rfl, hxy, rfl⟩, fun w1 hb => check_of F q p L X 0 v _ s w1 (h.next hb) (hid (compare_yes F q p L X v s n m ul uc uA ka tb x y w1 (h.next hb) (hv.next hb) hn (hs.next hb) hm hL hl hx hxb (hA.below hb) (hid HY) hyb hxy))⟩
      · exact ⟨22, .inr ⟨fun e => hxy e.2.2.2, rfl⟩, fun w1 hb => check_of F q p L X 22 v _ s w1 (h.next hb) (hid (compare_no F q p L X v s n m ul uc uA ka tb x y w1 (h.next hb) (hv.next hb) hn (hs.next hb) hm hL hl hx hxb (hA.below hb) (hid HY) hyb hxy))⟩
    · exact ⟨22, .inr ⟨fun e => hkk ⟨e.2.1, e.2.2.1⟩, rfl⟩, fun w1 hb => check_of F q p L X 22 v _ s w1 (h.next hb) (hid (compare_key F q p L X v s n m ul uc uA kk ka kb ta tb w1 (h.next hb) (hv.next hb) hn (hs.next hb) hm hL hl (fun e => hkk ⟨e.1, e.2.1⟩)))⟩
  · exact ⟨22, .inr ⟨fun e => hk e.1, rfl⟩, fun w1 hb => check_of F q p L X 22 v _ s w1 (h.next hb) (hid (compare_kind F q p L X v s n m ul uc uA kk ka kb tk ta tb w1 (h.next hb) (hv.next hb) hn (hs.next hb) hm hL hl (bne_iff_ne.2 hk)))⟩
end
set_option maxRecDepth 50000 in
theorem both_bad {F : Nat → Prop} {q p : Nat} {L : List T3} {X : List (List Int)} {v u : Value} {x y : Option Nat} {w : World} :
    (Su F w q p L X → Vl w v x → (∀ n, x = some n → n < L.length) → Vl w u y → (∀ n, y = some n → n < L.length) → (x = none ∨ y = none) → L.length ≤ 40 → Calls Tryz.prog 36 #[.pointer (some ⟨q, 0, none⟩), v, u] w (BadQ w 11)) ∧
    (Su F w q p L X → Vl w v x → (∀ n, x = some n → n < L.length) → Vl w u y → (∀ n, y = some n → n < L.length) → (x = none ∨ y = none) → L.length ≤ 40 → Calls Tryz.prog 37 #[.pointer (some ⟨q, 0, none⟩), v, u] w (BadQ w 11)) := by
  have hO : ∀ k, Su F w q p L X → Vl w v x → (∀ n, x = some n → n < L.length) → Vl w u y → (∀ n, y = some n → n < L.length) → (x = none ∨ y = none) → L.length ≤ 40 → Calls Tryz.prog 90 #[.pointer (some ⟨q, 0, none⟩), .int .i64 k, v, u] w (BadQ w 11) := fun k h hv hx hu hy hxy hL => by
    cases y with
    | none => exact open_none F q p L X k v u x w h hv hx hu hL
    | some m =>
      obtain rfl : x = none := by
        rcases hxy with e | e
        · exact e
        · cases e
      have hm := hy m rfl
      obtain ⟨⟨tk, ta, tb⟩, ht⟩ : ∃ t, L[m]? = some t := ⟨L[m], by simp [hm]⟩
      exact open_nil F q p L X k v u m tk ta tb w h hv hu ht hL
  exact ⟨fun h hv hx hu hy hxy hL => unwrap_bad F q p L X 11 v u w h (hid (hO 4 h hv hx hu hy hxy hL)), fun h hv hx hu hy hxy hL => unlock_bad F q p L X 11 v u w h (hid (hO 5 h hv hx hu hy hxy hL))⟩
set_option maxRecDepth 50000 in
theorem evt_call4 {P : Program} {o : Oper} {a : Act} {w : World} {K : Act → World → Prop} {Q : Exit → Act → World → Prop} {f : FuncId} {x y z r : Operand} {u v t s : Value} {ts : Array TypeId} (hop : o.op = .call { callee := .value (.func f), args := #[x, y, z, r], argTypes := ts }) (hcf : ∀ vs w, (callFunc f vs).run P w = .ok (.enter f vs) w)
    (hx : a.eval x = u) (hy : a.eval y = v) (hz : a.eval z = t) (hr : a.eval r = s) (h : Calls P f #[u, v, t, s] w fun e w' => ∃ r, e = .returned r ∧ K (a.put o.dst r) w') : o.wp P a w K Q := by
  unfold Oper.wp
  rw [ex_fnP rfl hcf hop #[u, v, t, s] (by simp [hx, hy, hz, hr]) w, Oper.upon_enter]
  refine h.mono fun e w' ⟨v, he, hk⟩ => ?_
  subst he
  exact hk
set_option maxRecDepth 50000 in
theorem DsRow.more {B B' : Nat} {w : World} {A : Option Addr} {ds : List DoS} (h : DsRow B w A ds) (hB : B ≤ B') : DsRow B' w A ds := fun i d hi => by
  obtain ⟨⟨g, o, e, hg, hr⟩, h3, h4⟩ := h i d hi
  exact ⟨⟨g, o, e, Nat.lt_of_lt_of_le hg hB, hr⟩, h3, h4.more hB⟩
end Go.Proofs.YtpncohoonfahpaaGreatDoor
