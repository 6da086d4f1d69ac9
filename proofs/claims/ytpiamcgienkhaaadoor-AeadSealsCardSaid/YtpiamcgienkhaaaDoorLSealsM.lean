/- Any text, sealed, is the document's. -/
import Derived.Test.YtpiamcgienkhaaaDoorG14
import Derived.Test.YtpiamcgienkhaaaDoorG16
namespace Go.Proofs.YtpiamcgienkhaaaDoor
open Go Go.RowKit

theorem cxRSeal (vs : Array Value) (w : World) : (callFunc 9 vs).run Tryd.prog w = .ok (.enter 9 vs) w := by go_simp
theorem cxSize (vs : Array Value) (w : World) : (callFunc 12 vs).run Tryd.prog w = .ok (.enter 12 vs) w := by go_simp
theorem fldC0 (b : Nat) : ∀ w, (Instr.fieldAt 26 (.pointer (some ⟨b, 0, none⟩)) 0).run Tryd.prog w = .ok (.pointer (some ⟨b, 0, none⟩)) w := fun w => by go_simp
theorem fldC1 (b : Nat) : ∀ w, (Instr.fieldAt 26 (.pointer (some ⟨b, 0, none⟩)) 1).run Tryd.prog w = .ok (.pointer (some ⟨b, 32, none⟩)) w := fun w => by go_simp
theorem fldC2 (b : Nat) : ∀ w, (Instr.fieldAt 26 (.pointer (some ⟨b, 0, none⟩)) 2).run Tryd.prog w = .ok (.pointer (some ⟨b, 44, none⟩)) w := fun w => by go_simp
theorem seals_long (w : World) (vs : Array Value) (bx : Nat) (key nonce be : List Int) (A0 A1 : Option Addr) (lb c0 lt c1 : Nat) (n : Int) (hbx : bx = w.heap.size) (hL : LawW (w.alloc (.cells vs 26)) bx key nonce be A0 lb c0) (h : 300 < lb ∨ 300 < lt) : Calls Tryd.prog 3 #[.agg vs, .slice A1 lt c1, .int .i64 n] w fun e w' => e = .returned (.bool true) ∧ Below w.heap.size w w' := by
  have hb0 := below_new w (.cells vs 26)
  have hbw : w.heap.size ≤ (w.alloc (.cells vs 26)).heap.size := hb0.size
  subst hbx
  have hd : (300 : Int) < lb ∨ ((lb : Int) ≤ 300 ∧ (300 : Int) < lt) := by omega
  clear h
  rcases hd with h3 | ⟨h3, h4⟩
  · have e0 : decide ((300 : Int) < lb) = true := decide_eq_true h3
    clear h3
    go_enter Tryd.func3, Tryd.ntmps3
    go_wp2_with (go_at_call 6; refine (a_awake _ hL.tb).mono ?_; rintro e w2 ⟨rfl, hb2⟩; have cb := (hL.next hb2).ce)
    go_ret
    exact ⟨rfl, hb0.trans (hb2.mono hbw)⟩
  · have e0 : decide ((300 : Int) < lb) = false := decide_eq_false (by omega)
    have e1 : decide ((300 : Int) < lt) = true := decide_eq_true h4
    clear h3 h4
    go_enter Tryd.func3, Tryd.ntmps3
    go_wp2_with (go_at_call 6; refine (a_awake _ hL.tb).mono ?_; rintro e w2 ⟨rfl, hb2⟩; have cb := (hL.next hb2).ce)
    go_ret
    exact ⟨rfl, hb0.trans (hb2.mono hbw)⟩
set_option maxRecDepth 50000 in
set_option maxHeartbeats 4000000 in
theorem seals_neg (w : World) (vs : Array Value) (bx : Nat) (key nonce be : List Int) (A0 A1 : Option Addr) (lb c0 lt c1 : Nat) (n : Int) (hbx : bx = w.heap.size) (hL : LawW (w.alloc (.cells vs 26)) bx key nonce be A0 lb c0) (t q r : List Int) (m7 : Nat) (hA : Nums w .u8 A1 t) (hk : Hid (key.length = 32)) (hn : Hid (nonce.length = 12)) (hlb : (lb : Int) ≤ 300) (hlt : (lt : Int) ≤ 300) (HRL : Hid (r.length = 16)) (HQL : Hid (q.length = m7)) (HM7 : Hid (m7 ≤ 1000))
    (HSE : Hid (∀ w, LawW w bx key nonce be A0 lb c0 → Nums w .u8 A1 t → Calls Tryd.prog 7 #[.agg (ints .u8 key).toArray, .agg (ints .u8 nonce).toArray, .slice A0 lb c0, .slice A1 lt c1] w fun e w' => ∃ A d, e = .returned (.tuple #[.slice A m7 d, .int .i64 0]) ∧ Nums w' .u8 A q ∧ Below w.heap.size w w'))
    (HRS : Hid (∀ w, LawW w bx key nonce be A0 lb c0 → Nums w .u8 A1 t → Calls Tryd.prog 9 #[.agg (ints .u8 key).toArray, .agg (ints .u8 nonce).toArray, .slice A0 lb c0, .slice A1 lt c1] w fun e w' => ∃ v, e = .returned v ∧ IsRw .u8 m7 q v w' ∧ Below w.heap.size w w'))
    (HTG : Hid (∀ w, LawW w bx key nonce be A0 lb c0 → Nums w .u8 A1 t → Calls Tryd.prog 10 #[.agg (ints .u8 key).toArray, .agg (ints .u8 nonce).toArray, .slice A0 lb c0, .slice A1 lt c1] w fun e w' => e = .returned (.agg (ints .u8 r).toArray) ∧ Below w.heap.size w w'))
    (HRT : Hid (∀ w, LawW w bx key nonce be A0 lb c0 → Nums w .u8 A1 t → Calls Tryd.prog 11 #[.agg (ints .u8 key).toArray, .agg (ints .u8 nonce).toArray, .slice A0 lb c0, .slice A1 lt c1] w fun e w' => e = .returned (.agg (ints .u8 r).toArray) ∧ Below w.heap.size w w'))
    (HSZ : Hid (∀ w, Calls Tryd.prog 12 #[.int .i64 n] w fun e w' => e = .returned (.int .i64 0) ∧ Below w.heap.size w w'))
    (HSL : Hid (∀ w, Calls Tryd.prog 12 #[.int .i64 (lt : Nat)] w fun e w' => e = .returned (.int .i64 (m7 : Nat)) ∧ Below w.heap.size w w')) (hn0 : n < 0) : Calls Tryd.prog 3 #[.agg vs, .slice A1 lt c1, .int .i64 n] w fun e w' => e = .returned (.bool true) ∧ Below w.heap.size w w' := by
  have hb0 := below_new w (.cells vs 26)
  have hA1 := hA.below hb0
  subst hbx
  have e0 : decide ((300 : Int) < lb) = false := decide_eq_false (by omega)
  have e1 : decide ((300 : Int) < lt) = false := decide_eq_false (by omega)
  clear hlb hlt hA
  have i32 : (Tryd.prog.info? 22).map (·.size) = some (ints .u8 key).length := szV inf41 (il hk.out)
  have i12 : (Tryd.prog.info? 23).map (·.size) = some (ints .u8 nonce).length := szV infNo (il hn.out)
  have hW1 := hb0
  have hL1 := hL
  clear hb0 hL
  go_enter Tryd.func3, Tryd.ntmps3
  go_upto_region 9 with (first
    | (go_at_call 6; generalize w.alloc (.cells vs 26) = w1 at *; refine (a_awake _ hL1.tb).mono ?_; rintro e w2 ⟨rfl, hb2⟩
       have hL2 := hL1.next hb2
       have hA2 := hA1.below hb2
       have hW2 := hW1.trans (hb2.mono hW1.size)
       have c2 := hL2.ce
       have k2k := hL2.ky.range
       have k2n := hL2.no.range
       clear hb2 hL1 hA1 hW1)
    | (with_reducible refine wpList_load_mid (op := ⟨some 23, .load 22 (.tmp 22), _, _, _, _⟩) rfl 22 (.tmp 22) rfl w.heap.size 0 rfl (ints .u8 key) _ k2k Tryd.underlying22 rfl i32 ?_)
    | (with_reducible refine wpList_load_mid (op := ⟨some 25, .load 23 (.tmp 24), _, _, _, _⟩) rfl 23 (.tmp 24) rfl w.heap.size 32 rfl (ints .u8 nonce) _ k2n Tryd.underlying23 rfl i12 ?_)
    | (go_at_call 7; (with_reducible refine (HSE.out _ hL2 hA2).mono ?_); rintro e w3 ⟨A7, d7, rfl, hN7, hb3⟩
       have hL := hL2.next hb3
       have hA := hA2.below hb3
       have hW := hW2.trans (hb3.mono hW2.size)
       clear hb3 hL2 hA2 hW2 k2k k2n c2))
  have s3 := hW.size
  refine region_spec2 47 87 (fun _ => false) [Is (.int .i64 0), Is (.bool true), Is (.bool true), Is (.slice A7 m7 d7), Is (.pointer (some ⟨w.heap.size, 0, none⟩)), Is (.agg (ints .u8 key).toArray), Is (.pointer (some ⟨w.heap.size, 32, none⟩)), Is (.agg (ints .u8 nonce).toArray), Is (.pointer (some ⟨w.heap.size, 44, none⟩)), Is (.slice A0 lb c0), Is (.slice A1 lt c1), IsRw .u8 m7 q, Is (.bool true), Is (.bool true), Is (.bool true), Is (.pointer (some ⟨w.heap.size, 0, none⟩)), Is (.agg (ints .u8 key).toArray), Is (.pointer (some ⟨w.heap.size, 32, none⟩)), Is (.agg (ints .u8 nonce).toArray), Is (.pointer (some ⟨w.heap.size, 44, none⟩)), Is (.slice A0 lb c0), Is (.slice A1 lt c1), Is (.agg (ints .u8 r).toArray), Is (.pointer (some ⟨w.heap.size, 0, none⟩)), Is (.agg (ints .u8 key).toArray), Is (.pointer (some ⟨w.heap.size, 32, none⟩)), Is (.agg (ints .u8 nonce).toArray), Is (.pointer (some ⟨w.heap.size, 44, none⟩)), Is (.slice A0 lb c0), Is (.slice A1 lt c1), Is (.agg (ints .u8 r).toArray), Is (.bool true), Is (.bool true), Is (.bool true), Is (.int .i64 n), Is (.int .i64 0), Is (.int .i64 0), Is (.bool true), Is (.bool true), Is (.bool true), Is (.slice A7 m7 d7), Is (.int .i64 (m7 : Nat)), Is (.slice A1 lt c1), Is (.int .i64 (lt : Nat)), Is (.int .i64 (m7 : Nat)), Is (.bool true), Is (.bool true)] [40, 41, 42, 43, 44, 45, 46, 47, 48, 49, 50, 51, 52, 53, 54, 55, 56, 57, 58, 59, 60, 61, 62, 63, 64, 65, 66, 67, 68, 69, 70, 71, 72, 73, 74, 75, 76, 77, 78, 79, 80, 81, 82, 83, 84, 85, 86] (by kernel_rfl) (by kernel_rfl) (by kernel_rfl) (Nat.le_of_eq rfl) (grows_cons (Is.grows _) (grows_cons (Is.grows _) (grows_cons (Is.grows _) (grows_cons (Is.grows _) (grows_cons (Is.grows _) (grows_cons (Is.grows _) (grows_cons (Is.grows _) (grows_cons (Is.grows _) (grows_cons (Is.grows _) (grows_cons (Is.grows _) (grows_cons (Is.grows _) (grows_cons (IsRw.grows _ _ _) (grows_cons (Is.grows _) (grows_cons (Is.grows _) (grows_cons (Is.grows _) (grows_cons (Is.grows _) (grows_cons (Is.grows _) (grows_cons (Is.grows _) (grows_cons (Is.grows _) (grows_cons (Is.grows _) (grows_cons (Is.grows _) (grows_cons (Is.grows _) (grows_cons (Is.grows _) (grows_cons (Is.grows _) (grows_cons (Is.grows _) (grows_cons (Is.grows _) (grows_cons (Is.grows _) (grows_cons (Is.grows _) (grows_cons (Is.grows _) (grows_cons (Is.grows _) (grows_cons (Is.grows _) (grows_cons (Is.grows _) (grows_cons (Is.grows _) (grows_cons (Is.grows _) (grows_cons (Is.grows _) (grows_cons (Is.grows _) (grows_cons (Is.grows _) (grows_cons (Is.grows _) (grows_cons (Is.grows _) (grows_cons (Is.grows _) (grows_cons (Is.grows _) (grows_cons (Is.grows _) (grows_cons (Is.grows _) (grows_cons (Is.grows _) (grows_cons (Is.grows _) (grows_cons (Is.grows _) (grows_cons (Is.grows _) grows_nil)))))))))))))))))))))))))))))))))))))))))))))))
    ⟨step_mvP rfl (.inl rfl) rfl rfl (knows_out 8 (by kernel_rfl) rfl),
     step_eqC rfl (.inl rfl) rfl Tryd.underlying28 rfl (by decide) (knows_in 0 40 (by decide) (by kernel_rfl) rfl rfl),
     step_mvP rfl (.inl rfl) rfl rfl (knows_in 1 41 (by decide) (by kernel_rfl) rfl rfl),
     step_mvP rfl (.inr ⟨2, true, 42, rfl, by decide, by kernel_rfl, rfl, fun _ _ h => h⟩) rfl rfl (knows_out 7 (by kernel_rfl) rfl),
     step_one rfl (.inr ⟨2, true, 42, rfl, by decide, by kernel_rfl, rfl, fun _ _ h => h⟩) (fun ev w h hc => ex_fld (P := Tryd.prog) rfl (fldC0 _) ev w h hc) rfl (knows_out 3 (by kernel_rfl) rfl),
     step_ldV rfl (.inr ⟨2, true, 42, rfl, by decide, by kernel_rfl, rfl, fun _ _ h => h⟩) (fun _ hw => (((hL.next hw).ky.rw)).range) rfl Tryd.underlying22 rfl (szV inf41 (il hk.out)) rfl (knows_in 4 44 (by decide) (by kernel_rfl) rfl rfl),
     step_one rfl (.inr ⟨2, true, 42, rfl, by decide, by kernel_rfl, rfl, fun _ _ h => h⟩) (fun ev w h hc => ex_fld (P := Tryd.prog) rfl (fldC1 _) ev w h hc) rfl (knows_out 3 (by kernel_rfl) rfl),
     step_ldV rfl (.inr ⟨2, true, 42, rfl, by decide, by kernel_rfl, rfl, fun _ _ h => h⟩) (fun _ hw => (((hL.next hw).no.rw)).range) rfl Tryd.underlying23 rfl (szV infNo (il hn.out)) rfl (knows_in 6 46 (by decide) (by kernel_rfl) rfl rfl),
     step_one rfl (.inr ⟨2, true, 42, rfl, by decide, by kernel_rfl, rfl, fun _ _ h => h⟩) (fun ev w h hc => ex_fld (P := Tryd.prog) rfl (fldC2 _) ev w h hc) rfl (knows_out 3 (by kernel_rfl) rfl),
     (step_ex (.slice A0 lb c0) rfl (.inr ⟨2, true, 42, rfl, by decide, by kernel_rfl, rfl, fun _ _ h => h⟩) rfl fun a ww hw hf hd => by
         have h0 : a.eval (.tmp 48) = (.pointer (some ⟨w.heap.size, 44, none⟩)) := ((knows_in 8 48 (by decide) (by kernel_rfl) rfl rfl) : Knows _ _ w3 _ 47 _ 9 _ (.pointer (some ⟨w.heap.size, 44, none⟩))) a ww hw hf hd
         have hcc := (hL.next hw).ce
         revert h0
         generalize a.eval = ev
         intro h0
         unfold execOp
         simp only [h0]
         go_simp),
     step_mvP rfl (.inr ⟨2, true, 42, rfl, by decide, by kernel_rfl, rfl, fun _ _ h => h⟩) rfl rfl (knows_out 1 (by kernel_rfl) rfl),
     step_callR rfl (.inr ⟨2, true, 42, rfl, by decide, by kernel_rfl, rfl, fun _ _ h => h⟩) rfl cxRSeal rfl (fun aa ww hw hf hd => ⟨_, (four_args (knows_in 5 45 (by decide) (by kernel_rfl) rfl rfl) (knows_in 7 47 (by decide) (by kernel_rfl) rfl rfl) (knows_in 9 49 (by decide) (by kernel_rfl) rfl rfl) (knows_in 10 50 (by decide) (by kernel_rfl) rfl rfl)) aa ww hw hf hd, HRS.out ww (hL.next hw) (hA.below hw)⟩),
     step_sam rfl (.inr ⟨2, true, 42, rfl, by decide, by kernel_rfl, rfl, fun _ _ h => h⟩) rfl HQL.out HM7.out rfl ((knows_in 3 43 (by decide) (by kernel_rfl) rfl rfl).rw (fun w hw => hN7.below hw)) (knowsW_in 11 51 (by decide) (by kernel_rfl) rfl rfl),
     step_pick rfl (.inl rfl) (b := true) rfl rfl (knows_in 2 42 (by decide) (by kernel_rfl) rfl rfl) (knows_in 12 52 (by decide) (by kernel_rfl) rfl rfl),
     step_mvP rfl (.inl rfl) rfl rfl (knows_in 13 53 (by decide) (by kernel_rfl) rfl rfl),
     step_one rfl (.inr ⟨14, true, 54, rfl, by decide, by kernel_rfl, rfl, fun _ _ h => h⟩) (fun ev w h hc => ex_fld (P := Tryd.prog) rfl (fldC0 _) ev w h hc) rfl (knows_out 3 (by kernel_rfl) rfl),
     step_ldV rfl (.inr ⟨14, true, 54, rfl, by decide, by kernel_rfl, rfl, fun _ _ h => h⟩) (fun _ hw => (((hL.next hw).ky.rw)).range) rfl Tryd.underlying22 rfl (szV inf41 (il hk.out)) rfl (knows_in 15 55 (by decide) (by kernel_rfl) rfl rfl),
     step_one rfl (.inr ⟨14, true, 54, rfl, by decide, by kernel_rfl, rfl, fun _ _ h => h⟩) (fun ev w h hc => ex_fld (P := Tryd.prog) rfl (fldC1 _) ev w h hc) rfl (knows_out 3 (by kernel_rfl) rfl),
     step_ldV rfl (.inr ⟨14, true, 54, rfl, by decide, by kernel_rfl, rfl, fun _ _ h => h⟩) (fun _ hw => (((hL.next hw).no.rw)).range) rfl Tryd.underlying23 rfl (szV infNo (il hn.out)) rfl (knows_in 17 57 (by decide) (by kernel_rfl) rfl rfl),
     step_one rfl (.inr ⟨14, true, 54, rfl, by decide, by kernel_rfl, rfl, fun _ _ h => h⟩) (fun ev w h hc => ex_fld (P := Tryd.prog) rfl (fldC2 _) ev w h hc) rfl (knows_out 3 (by kernel_rfl) rfl),
     (step_ex (.slice A0 lb c0) rfl (.inr ⟨14, true, 54, rfl, by decide, by kernel_rfl, rfl, fun _ _ h => h⟩) rfl fun a ww hw hf hd => by
         have h0 : a.eval (.tmp 59) = (.pointer (some ⟨w.heap.size, 44, none⟩)) := ((knows_in 19 59 (by decide) (by kernel_rfl) rfl rfl) : Knows _ _ w3 _ 47 _ 20 _ (.pointer (some ⟨w.heap.size, 44, none⟩))) a ww hw hf hd
         have hcc := (hL.next hw).ce
         revert h0
         generalize a.eval = ev
         intro h0
         unfold execOp
         simp only [h0]
         go_simp),
     step_mvP rfl (.inr ⟨14, true, 54, rfl, by decide, by kernel_rfl, rfl, fun _ _ h => h⟩) rfl rfl (knows_out 1 (by kernel_rfl) rfl),
     step_cw rfl (.inr ⟨14, true, 54, rfl, by decide, by kernel_rfl, rfl, fun _ _ h => h⟩) rfl cxTag rfl (fun aa ww hw hf hd => ⟨_, (four_args (knows_in 16 56 (by decide) (by kernel_rfl) rfl rfl) (knows_in 18 58 (by decide) (by kernel_rfl) rfl rfl) (knows_in 20 60 (by decide) (by kernel_rfl) rfl rfl) (knows_in 21 61 (by decide) (by kernel_rfl) rfl rfl)) aa ww hw hf hd, HTG.out ww (hL.next hw) (hA.below hw)⟩),
     step_one rfl (.inr ⟨14, true, 54, rfl, by decide, by kernel_rfl, rfl, fun _ _ h => h⟩) (fun ev w h hc => ex_fld (P := Tryd.prog) rfl (fldC0 _) ev w h hc) rfl (knows_out 3 (by kernel_rfl) rfl),
     step_ldV rfl (.inr ⟨14, true, 54, rfl, by decide, by kernel_rfl, rfl, fun _ _ h => h⟩) (fun _ hw => (((hL.next hw).ky.rw)).range) rfl Tryd.underlying22 rfl (szV inf41 (il hk.out)) rfl (knows_in 23 63 (by decide) (by kernel_rfl) rfl rfl),
     step_one rfl (.inr ⟨14, true, 54, rfl, by decide, by kernel_rfl, rfl, fun _ _ h => h⟩) (fun ev w h hc => ex_fld (P := Tryd.prog) rfl (fldC1 _) ev w h hc) rfl (knows_out 3 (by kernel_rfl) rfl),
     step_ldV rfl (.inr ⟨14, true, 54, rfl, by decide, by kernel_rfl, rfl, fun _ _ h => h⟩) (fun _ hw => (((hL.next hw).no.rw)).range) rfl Tryd.underlying23 rfl (szV infNo (il hn.out)) rfl (knows_in 25 65 (by decide) (by kernel_rfl) rfl rfl),
     step_one rfl (.inr ⟨14, true, 54, rfl, by decide, by kernel_rfl, rfl, fun _ _ h => h⟩) (fun ev w h hc => ex_fld (P := Tryd.prog) rfl (fldC2 _) ev w h hc) rfl (knows_out 3 (by kernel_rfl) rfl),
     (step_ex (.slice A0 lb c0) rfl (.inr ⟨14, true, 54, rfl, by decide, by kernel_rfl, rfl, fun _ _ h => h⟩) rfl fun a ww hw hf hd => by
         have h0 : a.eval (.tmp 67) = (.pointer (some ⟨w.heap.size, 44, none⟩)) := ((knows_in 27 67 (by decide) (by kernel_rfl) rfl rfl) : Knows _ _ w3 _ 47 _ 28 _ (.pointer (some ⟨w.heap.size, 44, none⟩))) a ww hw hf hd
         have hcc := (hL.next hw).ce
         revert h0
         generalize a.eval = ev
         intro h0
         unfold execOp
         simp only [h0]
         go_simp),
     step_mvP rfl (.inr ⟨14, true, 54, rfl, by decide, by kernel_rfl, rfl, fun _ _ h => h⟩) rfl rfl (knows_out 1 (by kernel_rfl) rfl),
     step_cw rfl (.inr ⟨14, true, 54, rfl, by decide, by kernel_rfl, rfl, fun _ _ h => h⟩) rfl cxRTag rfl (fun aa ww hw hf hd => ⟨_, (four_args (knows_in 24 64 (by decide) (by kernel_rfl) rfl rfl) (knows_in 26 66 (by decide) (by kernel_rfl) rfl rfl) (knows_in 28 68 (by decide) (by kernel_rfl) rfl rfl) (knows_in 29 69 (by decide) (by kernel_rfl) rfl rfl)) aa ww hw hf hd, HRT.out ww (hL.next hw) (hA.below hw)⟩),
     step_eqA rfl (.inr ⟨14, true, 54, rfl, by decide, by kernel_rfl, rfl, fun _ _ h => h⟩) rfl eqt33 HRL.out HRL.out (decide_eq_true rfl) rfl (knows_in 22 62 (by decide) (by kernel_rfl) rfl rfl) (knows_in 30 70 (by decide) (by kernel_rfl) rfl rfl),
     step_pick rfl (.inl rfl) (b := true) rfl rfl (knows_in 14 54 (by decide) (by kernel_rfl) rfl rfl) (knows_in 31 71 (by decide) (by kernel_rfl) rfl rfl),
     step_mvP rfl (.inl rfl) rfl rfl (knows_in 32 72 (by decide) (by kernel_rfl) rfl rfl),
     step_mvP rfl (.inr ⟨33, true, 73, rfl, by decide, by kernel_rfl, rfl, fun _ _ h => h⟩) rfl rfl (knows_out 2 (by kernel_rfl) rfl),
     step_cw rfl (.inr ⟨33, true, 73, rfl, by decide, by kernel_rfl, rfl, fun _ _ h => h⟩) rfl cxSize rfl (fun aa ww hw hf hd => ⟨_, (one_arg (knows_in 34 74 (by decide) (by kernel_rfl) rfl rfl)) aa ww hw hf hd, HSZ.out ww⟩),
     step_mvP rfl (.inr ⟨33, true, 73, rfl, by decide, by kernel_rfl, rfl, fun _ _ h => h⟩) rfl rfl (knows_out 9 (by kernel_rfl) rfl),
     (step_ex (.bool true) rfl (.inr ⟨33, true, 73, rfl, by decide, by kernel_rfl, rfl, fun _ _ h => h⟩) rfl fun a ww hw hf hd => by
         have h0 : a.eval (.tmp 75) = (.int .i64 0) := ((knows_in 35 75 (by decide) (by kernel_rfl) rfl rfl) : Knows _ _ w3 _ 47 _ 37 _ (.int .i64 0)) a ww hw hf hd
         have h1 : a.eval (.tmp 76) = (.int .i64 0) := ((knows_in 36 76 (by decide) (by kernel_rfl) rfl rfl) : Knows _ _ w3 _ 47 _ 37 _ (.int .i64 0)) a ww hw hf hd
         revert h0 h1
         generalize a.eval = ev
         intro h0 h1
         unfold execOp
         simp only [h0, h1]
         go_simp),
     step_pick rfl (.inl rfl) (b := true) rfl rfl (knows_in 33 73 (by decide) (by kernel_rfl) rfl rfl) (knows_in 37 77 (by decide) (by kernel_rfl) rfl rfl),
     step_mvP rfl (.inl rfl) rfl rfl (knows_in 38 78 (by decide) (by kernel_rfl) rfl rfl),
     step_mvP rfl (.inr ⟨39, true, 79, rfl, by decide, by kernel_rfl, rfl, fun _ _ h => h⟩) rfl rfl (knows_out 7 (by kernel_rfl) rfl),
     step_len rfl (.inr ⟨39, true, 79, rfl, by decide, by kernel_rfl, rfl, fun _ _ h => h⟩) ua23 rfl rfl (knows_in 40 80 (by decide) (by kernel_rfl) rfl rfl),
     step_mvP rfl (.inr ⟨39, true, 79, rfl, by decide, by kernel_rfl, rfl, fun _ _ h => h⟩) rfl rfl (knows_out 1 (by kernel_rfl) rfl),
     step_len rfl (.inr ⟨39, true, 79, rfl, by decide, by kernel_rfl, rfl, fun _ _ h => h⟩) ua23 rfl rfl (knows_in 42 82 (by decide) (by kernel_rfl) rfl rfl),
     step_cw rfl (.inr ⟨39, true, 79, rfl, by decide, by kernel_rfl, rfl, fun _ _ h => h⟩) rfl cxSize rfl (fun aa ww hw hf hd => ⟨_, (one_arg (knows_in 43 83 (by decide) (by kernel_rfl) rfl rfl)) aa ww hw hf hd, HSL.out ww⟩),
     (step_ex (.bool true) rfl (.inr ⟨39, true, 79, rfl, by decide, by kernel_rfl, rfl, fun _ _ h => h⟩) rfl fun a ww hw hf hd => by
         have h0 : a.eval (.tmp 81) = (.int .i64 (m7 : Nat)) := ((knows_in 41 81 (by decide) (by kernel_rfl) rfl rfl) : Knows _ _ w3 _ 47 _ 45 _ (.int .i64 (m7 : Nat))) a ww hw hf hd
         have h1 : a.eval (.tmp 84) = (.int .i64 (m7 : Nat)) := ((knows_in 44 84 (by decide) (by kernel_rfl) rfl rfl) : Knows _ _ w3 _ 47 _ 45 _ (.int .i64 (m7 : Nat))) a ww hw hf hd
         revert h0 h1
         generalize a.eval = ev
         intro h0 h1
         unfold execOp
         simp only [h0, h1]
         go_simp),
     step_pick rfl (.inl rfl) (b := true) rfl rfl (knows_in 39 79 (by decide) (by kernel_rfl) rfl rfl) (knows_in 45 85 (by decide) (by kernel_rfl) rfl rfl), trivial⟩ ?_
  intro val w4 hw hS hap hla
  have e40 : val 40 = (.int .i64 0) := hS 0 40 (by decide) rfl
  have e41 : val 41 = (.bool true) := hS 1 41 (by decide) rfl
  have e42 : val 42 = (.bool true) := hS 2 42 (by decide) rfl
  have e43 : val 43 = (.slice A7 m7 d7) := hS 3 43 (by decide) rfl
  have e44 : val 44 = (.pointer (some ⟨w.heap.size, 0, none⟩)) := hS 4 44 (by decide) rfl
  have e45 : val 45 = (.agg (ints .u8 key).toArray) := hS 5 45 (by decide) rfl
  have e46 : val 46 = (.pointer (some ⟨w.heap.size, 32, none⟩)) := hS 6 46 (by decide) rfl
  have e47 : val 47 = (.agg (ints .u8 nonce).toArray) := hS 7 47 (by decide) rfl
  have e48 : val 48 = (.pointer (some ⟨w.heap.size, 44, none⟩)) := hS 8 48 (by decide) rfl
  have e49 : val 49 = (.slice A0 lb c0) := hS 9 49 (by decide) rfl
  have e50 : val 50 = (.slice A1 lt c1) := hS 10 50 (by decide) rfl
  have e52 : val 52 = (.bool true) := hS 12 52 (by decide) rfl
  have e53 : val 53 = (.bool true) := hS 13 53 (by decide) rfl
  have e54 : val 54 = (.bool true) := hS 14 54 (by decide) rfl
  have e55 : val 55 = (.pointer (some ⟨w.heap.size, 0, none⟩)) := hS 15 55 (by decide) rfl
  have e56 : val 56 = (.agg (ints .u8 key).toArray) := hS 16 56 (by decide) rfl
  have e57 : val 57 = (.pointer (some ⟨w.heap.size, 32, none⟩)) := hS 17 57 (by decide) rfl
  have e58 : val 58 = (.agg (ints .u8 nonce).toArray) := hS 18 58 (by decide) rfl
  have e59 : val 59 = (.pointer (some ⟨w.heap.size, 44, none⟩)) := hS 19 59 (by decide) rfl
  have e60 : val 60 = (.slice A0 lb c0) := hS 20 60 (by decide) rfl
  have e61 : val 61 = (.slice A1 lt c1) := hS 21 61 (by decide) rfl
  have e62 : val 62 = (.agg (ints .u8 r).toArray) := hS 22 62 (by decide) rfl
  have e63 : val 63 = (.pointer (some ⟨w.heap.size, 0, none⟩)) := hS 23 63 (by decide) rfl
  have e64 : val 64 = (.agg (ints .u8 key).toArray) := hS 24 64 (by decide) rfl
  have e65 : val 65 = (.pointer (some ⟨w.heap.size, 32, none⟩)) := hS 25 65 (by decide) rfl
  have e66 : val 66 = (.agg (ints .u8 nonce).toArray) := hS 26 66 (by decide) rfl
  have e67 : val 67 = (.pointer (some ⟨w.heap.size, 44, none⟩)) := hS 27 67 (by decide) rfl
  have e68 : val 68 = (.slice A0 lb c0) := hS 28 68 (by decide) rfl
  have e69 : val 69 = (.slice A1 lt c1) := hS 29 69 (by decide) rfl
  have e70 : val 70 = (.agg (ints .u8 r).toArray) := hS 30 70 (by decide) rfl
  have e71 : val 71 = (.bool true) := hS 31 71 (by decide) rfl
  have e72 : val 72 = (.bool true) := hS 32 72 (by decide) rfl
  have e73 : val 73 = (.bool true) := hS 33 73 (by decide) rfl
  have e74 : val 74 = (.int .i64 n) := hS 34 74 (by decide) rfl
  have e75 : val 75 = (.int .i64 0) := hS 35 75 (by decide) rfl
  have e76 : val 76 = (.int .i64 0) := hS 36 76 (by decide) rfl
  have e77 : val 77 = (.bool true) := hS 37 77 (by decide) rfl
  have e78 : val 78 = (.bool true) := hS 38 78 (by decide) rfl
  have e79 : val 79 = (.bool true) := hS 39 79 (by decide) rfl
  have e80 : val 80 = (.slice A7 m7 d7) := hS 40 80 (by decide) rfl
  have e81 : val 81 = (.int .i64 (m7 : Nat)) := hS 41 81 (by decide) rfl
  have e82 : val 82 = (.slice A1 lt c1) := hS 42 82 (by decide) rfl
  have e83 : val 83 = (.int .i64 (lt : Nat)) := hS 43 83 (by decide) rfl
  have e84 : val 84 = (.int .i64 (m7 : Nat)) := hS 44 84 (by decide) rfl
  have e85 : val 85 = (.bool true) := hS 45 85 (by decide) rfl
  have e86 : val 86 = (.bool true) := hS 46 86 (by decide) rfl
  simp only [putVals, List.foldl_cons, List.foldl_nil, List.drop_succ_cons, List.drop_zero, Act.put, List.setIfInBounds_toArray, List.set_cons_succ, List.set_cons_zero, e40, e41, e42, e43, e44, e45, e46, e47, e48, e49, e50, e52, e53, e54, e55, e56, e57, e58, e59, e60, e61, e62, e63, e64, e65, e66, e67, e68, e69, e70, e71, e72, e73, e74, e75, e76, e77, e78, e79, e80, e81, e82, e83, e84, e85, e86]
  generalize val 51 = g51
  clear hS hap hla e40 e41 e42 e43 e44 e45 e46 e47 e48 e49 e50 e52 e53 e54 e55 e56 e57 e58 e59 e60 e61 e62 e63 e64 e65 e66 e67 e68 e69 e70 e71 e72 e73 e74 e75 e76 e77 e78 e79 e80 e81 e82 e83 e84 e85 e86 
  replace hW := hW.trans (Below.mono hw hW.size)
  clear hw
  go_wp2_with (fail)
  go_ret
  exact ⟨rfl, hW⟩
set_option maxRecDepth 50000 in
set_option maxHeartbeats 4000000 in
theorem seals_mid (w : World) (vs : Array Value) (bx : Nat) (key nonce be : List Int) (A0 A1 : Option Addr) (lb c0 lt c1 : Nat) (n : Int) (hbx : bx = w.heap.size) (hL : LawW (w.alloc (.cells vs 26)) bx key nonce be A0 lb c0) (t q r : List Int) (m7 : Nat) (hA : Nums w .u8 A1 t) (hk : Hid (key.length = 32)) (hn : Hid (nonce.length = 12)) (hlb : (lb : Int) ≤ 300) (hlt : (lt : Int) ≤ 300) (HRL : Hid (r.length = 16)) (HQL : Hid (q.length = m7)) (HM7 : Hid (m7 ≤ 1000))
    (HSE : Hid (∀ w, LawW w bx key nonce be A0 lb c0 → Nums w .u8 A1 t → Calls Tryd.prog 7 #[.agg (ints .u8 key).toArray, .agg (ints .u8 nonce).toArray, .slice A0 lb c0, .slice A1 lt c1] w fun e w' => ∃ A d, e = .returned (.tuple #[.slice A m7 d, .int .i64 0]) ∧ Nums w' .u8 A q ∧ Below w.heap.size w w'))
    (HRS : Hid (∀ w, LawW w bx key nonce be A0 lb c0 → Nums w .u8 A1 t → Calls Tryd.prog 9 #[.agg (ints .u8 key).toArray, .agg (ints .u8 nonce).toArray, .slice A0 lb c0, .slice A1 lt c1] w fun e w' => ∃ v, e = .returned v ∧ IsRw .u8 m7 q v w' ∧ Below w.heap.size w w'))
    (HTG : Hid (∀ w, LawW w bx key nonce be A0 lb c0 → Nums w .u8 A1 t → Calls Tryd.prog 10 #[.agg (ints .u8 key).toArray, .agg (ints .u8 nonce).toArray, .slice A0 lb c0, .slice A1 lt c1] w fun e w' => e = .returned (.agg (ints .u8 r).toArray) ∧ Below w.heap.size w w'))
    (HRT : Hid (∀ w, LawW w bx key nonce be A0 lb c0 → Nums w .u8 A1 t → Calls Tryd.prog 11 #[.agg (ints .u8 key).toArray, .agg (ints .u8 nonce).toArray, .slice A0 lb c0, .slice A1 lt c1] w fun e w' => e = .returned (.agg (ints .u8 r).toArray) ∧ Below w.heap.size w w'))
    (HSZ : Hid (∀ w, Calls Tryd.prog 12 #[.int .i64 n] w fun e w' => e = .returned (.int .i64 (n + 16)) ∧ Below w.heap.size w w'))
    (HSL : Hid (∀ w, Calls Tryd.prog 12 #[.int .i64 (lt : Nat)] w fun e w' => e = .returned (.int .i64 (m7 : Nat)) ∧ Below w.heap.size w w')) (hn0 : 0 ≤ n) (hn1 : n ≤ 1048560) : Calls Tryd.prog 3 #[.agg vs, .slice A1 lt c1, .int .i64 n] w fun e w' => e = .returned (.bool true) ∧ Below w.heap.size w w' := by
  have hb0 := below_new w (.cells vs 26)
  have hA1 := hA.below hb0
  subst hbx
  have e0 : decide ((300 : Int) < lb) = false := decide_eq_false (by omega)
  have e1 : decide ((300 : Int) < lt) = false := decide_eq_false (by omega)
  clear hlb hlt hA
  have i32 : (Tryd.prog.info? 22).map (·.size) = some (ints .u8 key).length := szV inf41 (il hk.out)
  have i12 : (Tryd.prog.info? 23).map (·.size) = some (ints .u8 nonce).length := szV infNo (il hn.out)
  have hW1 := hb0
  have hL1 := hL
  clear hb0 hL
  go_enter Tryd.func3, Tryd.ntmps3
  go_upto_region 9 with (first
    | (go_at_call 6; generalize w.alloc (.cells vs 26) = w1 at *; refine (a_awake _ hL1.tb).mono ?_; rintro e w2 ⟨rfl, hb2⟩
       have hL2 := hL1.next hb2
       have hA2 := hA1.below hb2
       have hW2 := hW1.trans (hb2.mono hW1.size)
       have c2 := hL2.ce
       have k2k := hL2.ky.range
       have k2n := hL2.no.range
       clear hb2 hL1 hA1 hW1)
    | (with_reducible refine wpList_load_mid (op := ⟨some 23, .load 22 (.tmp 22), _, _, _, _⟩) rfl 22 (.tmp 22) rfl w.heap.size 0 rfl (ints .u8 key) _ k2k Tryd.underlying22 rfl i32 ?_)
    | (with_reducible refine wpList_load_mid (op := ⟨some 25, .load 23 (.tmp 24), _, _, _, _⟩) rfl 23 (.tmp 24) rfl w.heap.size 32 rfl (ints .u8 nonce) _ k2n Tryd.underlying23 rfl i12 ?_)
    | (go_at_call 7; (with_reducible refine (HSE.out _ hL2 hA2).mono ?_); rintro e w3 ⟨A7, d7, rfl, hN7, hb3⟩
       have hL := hL2.next hb3
       have hA := hA2.below hb3
       have hW := hW2.trans (hb3.mono hW2.size)
       clear hb3 hL2 hA2 hW2 k2k k2n c2))
  have s3 := hW.size
  refine region_spec2 47 87 (fun _ => false) [Is (.int .i64 0), Is (.bool true), Is (.bool true), Is (.slice A7 m7 d7), Is (.pointer (some ⟨w.heap.size, 0, none⟩)), Is (.agg (ints .u8 key).toArray), Is (.pointer (some ⟨w.heap.size, 32, none⟩)), Is (.agg (ints .u8 nonce).toArray), Is (.pointer (some ⟨w.heap.size, 44, none⟩)), Is (.slice A0 lb c0), Is (.slice A1 lt c1), IsRw .u8 m7 q, Is (.bool true), Is (.bool true), Is (.bool true), Is (.pointer (some ⟨w.heap.size, 0, none⟩)), Is (.agg (ints .u8 key).toArray), Is (.pointer (some ⟨w.heap.size, 32, none⟩)), Is (.agg (ints .u8 nonce).toArray), Is (.pointer (some ⟨w.heap.size, 44, none⟩)), Is (.slice A0 lb c0), Is (.slice A1 lt c1), Is (.agg (ints .u8 r).toArray), Is (.pointer (some ⟨w.heap.size, 0, none⟩)), Is (.agg (ints .u8 key).toArray), Is (.pointer (some ⟨w.heap.size, 32, none⟩)), Is (.agg (ints .u8 nonce).toArray), Is (.pointer (some ⟨w.heap.size, 44, none⟩)), Is (.slice A0 lb c0), Is (.slice A1 lt c1), Is (.agg (ints .u8 r).toArray), Is (.bool true), Is (.bool true), Is (.bool true), Is (.int .i64 n), Is (.int .i64 (n + 16)), Is (.int .i64 (n + 16)), Is (.bool true), Is (.bool true), Is (.bool true), Is (.slice A7 m7 d7), Is (.int .i64 (m7 : Nat)), Is (.slice A1 lt c1), Is (.int .i64 (lt : Nat)), Is (.int .i64 (m7 : Nat)), Is (.bool true), Is (.bool true)] [40, 41, 42, 43, 44, 45, 46, 47, 48, 49, 50, 51, 52, 53, 54, 55, 56, 57, 58, 59, 60, 61, 62, 63, 64, 65, 66, 67, 68, 69, 70, 71, 72, 73, 74, 75, 76, 77, 78, 79, 80, 81, 82, 83, 84, 85, 86] (by kernel_rfl) (by kernel_rfl) (by kernel_rfl) (Nat.le_of_eq rfl) (grows_cons (Is.grows _) (grows_cons (Is.grows _) (grows_cons (Is.grows _) (grows_cons (Is.grows _) (grows_cons (Is.grows _) (grows_cons (Is.grows _) (grows_cons (Is.grows _) (grows_cons (Is.grows _) (grows_cons (Is.grows _) (grows_cons (Is.grows _) (grows_cons (Is.grows _) (grows_cons (IsRw.grows _ _ _) (grows_cons (Is.grows _) (grows_cons (Is.grows _) (grows_cons (Is.grows _) (grows_cons (Is.grows _) (grows_cons (Is.grows _) (grows_cons (Is.grows _) (grows_cons (Is.grows _) (grows_cons (Is.grows _) (grows_cons (Is.grows _) (grows_cons (Is.grows _) (grows_cons (Is.grows _) (grows_cons (Is.grows _) (grows_cons (Is.grows _) (grows_cons (Is.grows _) (grows_cons (Is.grows _) (grows_cons (Is.grows _) (grows_cons (Is.grows _) (grows_cons (Is.grows _) (grows_cons (Is.grows _) (grows_cons (Is.grows _) (grows_cons (Is.grows _) (grows_cons (Is.grows _) (grows_cons (Is.grows _) (grows_cons (Is.grows _) (grows_cons (Is.grows _) (grows_cons (Is.grows _) (grows_cons (Is.grows _) (grows_cons (Is.grows _) (grows_cons (Is.grows _) (grows_cons (Is.grows _) (grows_cons (Is.grows _) (grows_cons (Is.grows _) (grows_cons (Is.grows _) (grows_cons (Is.grows _) (grows_cons (Is.grows _) grows_nil)))))))))))))))))))))))))))))))))))))))))))))))
    ⟨step_mvP rfl (.inl rfl) rfl rfl (knows_out 8 (by kernel_rfl) rfl),
     step_eqC rfl (.inl rfl) rfl Tryd.underlying28 rfl (by decide) (knows_in 0 40 (by decide) (by kernel_rfl) rfl rfl),
     step_mvP rfl (.inl rfl) rfl rfl (knows_in 1 41 (by decide) (by kernel_rfl) rfl rfl),
     step_mvP rfl (.inr ⟨2, true, 42, rfl, by decide, by kernel_rfl, rfl, fun _ _ h => h⟩) rfl rfl (knows_out 7 (by kernel_rfl) rfl),
     step_one rfl (.inr ⟨2, true, 42, rfl, by decide, by kernel_rfl, rfl, fun _ _ h => h⟩) (fun ev w h hc => ex_fld (P := Tryd.prog) rfl (fldC0 _) ev w h hc) rfl (knows_out 3 (by kernel_rfl) rfl),
     step_ldV rfl (.inr ⟨2, true, 42, rfl, by decide, by kernel_rfl, rfl, fun _ _ h => h⟩) (fun _ hw => (((hL.next hw).ky.rw)).range) rfl Tryd.underlying22 rfl (szV inf41 (il hk.out)) rfl (knows_in 4 44 (by decide) (by kernel_rfl) rfl rfl),
     step_one rfl (.inr ⟨2, true, 42, rfl, by decide, by kernel_rfl, rfl, fun _ _ h => h⟩) (fun ev w h hc => ex_fld (P := Tryd.prog) rfl (fldC1 _) ev w h hc) rfl (knows_out 3 (by kernel_rfl) rfl),
     step_ldV rfl (.inr ⟨2, true, 42, rfl, by decide, by kernel_rfl, rfl, fun _ _ h => h⟩) (fun _ hw => (((hL.next hw).no.rw)).range) rfl Tryd.underlying23 rfl (szV infNo (il hn.out)) rfl (knows_in 6 46 (by decide) (by kernel_rfl) rfl rfl),
     step_one rfl (.inr ⟨2, true, 42, rfl, by decide, by kernel_rfl, rfl, fun _ _ h => h⟩) (fun ev w h hc => ex_fld (P := Tryd.prog) rfl (fldC2 _) ev w h hc) rfl (knows_out 3 (by kernel_rfl) rfl),
     (step_ex (.slice A0 lb c0) rfl (.inr ⟨2, true, 42, rfl, by decide, by kernel_rfl, rfl, fun _ _ h => h⟩) rfl fun a ww hw hf hd => by
         have h0 : a.eval (.tmp 48) = (.pointer (some ⟨w.heap.size, 44, none⟩)) := ((knows_in 8 48 (by decide) (by kernel_rfl) rfl rfl) : Knows _ _ w3 _ 47 _ 9 _ (.pointer (some ⟨w.heap.size, 44, none⟩))) a ww hw hf hd
         have hcc := (hL.next hw).ce
         revert h0
         generalize a.eval = ev
         intro h0
         unfold execOp
         simp only [h0]
         go_simp),
     step_mvP rfl (.inr ⟨2, true, 42, rfl, by decide, by kernel_rfl, rfl, fun _ _ h => h⟩) rfl rfl (knows_out 1 (by kernel_rfl) rfl),
     step_callR rfl (.inr ⟨2, true, 42, rfl, by decide, by kernel_rfl, rfl, fun _ _ h => h⟩) rfl cxRSeal rfl (fun aa ww hw hf hd => ⟨_, (four_args (knows_in 5 45 (by decide) (by kernel_rfl) rfl rfl) (knows_in 7 47 (by decide) (by kernel_rfl) rfl rfl) (knows_in 9 49 (by decide) (by kernel_rfl) rfl rfl) (knows_in 10 50 (by decide) (by kernel_rfl) rfl rfl)) aa ww hw hf hd, HRS.out ww (hL.next hw) (hA.below hw)⟩),
     step_sam rfl (.inr ⟨2, true, 42, rfl, by decide, by kernel_rfl, rfl, fun _ _ h => h⟩) rfl HQL.out HM7.out rfl ((knows_in 3 43 (by decide) (by kernel_rfl) rfl rfl).rw (fun w hw => hN7.below hw)) (knowsW_in 11 51 (by decide) (by kernel_rfl) rfl rfl),
     step_pick rfl (.inl rfl) (b := true) rfl rfl (knows_in 2 42 (by decide) (by kernel_rfl) rfl rfl) (knows_in 12 52 (by decide) (by kernel_rfl) rfl rfl),
     step_mvP rfl (.inl rfl) rfl rfl (knows_in 13 53 (by decide) (by kernel_rfl) rfl rfl),
     step_one rfl (.inr ⟨14, true, 54, rfl, by decide, by kernel_rfl, rfl, fun _ _ h => h⟩) (fun ev w h hc => ex_fld (P := Tryd.prog) rfl (fldC0 _) ev w h hc) rfl (knows_out 3 (by kernel_rfl) rfl),
     step_ldV rfl (.inr ⟨14, true, 54, rfl, by decide, by kernel_rfl, rfl, fun _ _ h => h⟩) (fun _ hw => (((hL.next hw).ky.rw)).range) rfl Tryd.underlying22 rfl (szV inf41 (il hk.out)) rfl (knows_in 15 55 (by decide) (by kernel_rfl) rfl rfl),
     step_one rfl (.inr ⟨14, true, 54, rfl, by decide, by kernel_rfl, rfl, fun _ _ h => h⟩) (fun ev w h hc => ex_fld (P := Tryd.prog) rfl (fldC1 _) ev w h hc) rfl (knows_out 3 (by kernel_rfl) rfl),
     step_ldV rfl (.inr ⟨14, true, 54, rfl, by decide, by kernel_rfl, rfl, fun _ _ h => h⟩) (fun _ hw => (((hL.next hw).no.rw)).range) rfl Tryd.underlying23 rfl (szV infNo (il hn.out)) rfl (knows_in 17 57 (by decide) (by kernel_rfl) rfl rfl),
     step_one rfl (.inr ⟨14, true, 54, rfl, by decide, by kernel_rfl, rfl, fun _ _ h => h⟩) (fun ev w h hc => ex_fld (P := Tryd.prog) rfl (fldC2 _) ev w h hc) rfl (knows_out 3 (by kernel_rfl) rfl),
     (step_ex (.slice A0 lb c0) rfl (.inr ⟨14, true, 54, rfl, by decide, by kernel_rfl, rfl, fun _ _ h => h⟩) rfl fun a ww hw hf hd => by
         have h0 : a.eval (.tmp 59) = (.pointer (some ⟨w.heap.size, 44, none⟩)) := ((knows_in 19 59 (by decide) (by kernel_rfl) rfl rfl) : Knows _ _ w3 _ 47 _ 20 _ (.pointer (some ⟨w.heap.size, 44, none⟩))) a ww hw hf hd
         have hcc := (hL.next hw).ce
         revert h0
         generalize a.eval = ev
         intro h0
         unfold execOp
         simp only [h0]
         go_simp),
     step_mvP rfl (.inr ⟨14, true, 54, rfl, by decide, by kernel_rfl, rfl, fun _ _ h => h⟩) rfl rfl (knows_out 1 (by kernel_rfl) rfl),
     step_cw rfl (.inr ⟨14, true, 54, rfl, by decide, by kernel_rfl, rfl, fun _ _ h => h⟩) rfl cxTag rfl (fun aa ww hw hf hd => ⟨_, (four_args (knows_in 16 56 (by decide) (by kernel_rfl) rfl rfl) (knows_in 18 58 (by decide) (by kernel_rfl) rfl rfl) (knows_in 20 60 (by decide) (by kernel_rfl) rfl rfl) (knows_in 21 61 (by decide) (by kernel_rfl) rfl rfl)) aa ww hw hf hd, HTG.out ww (hL.next hw) (hA.below hw)⟩),
     step_one rfl (.inr ⟨14, true, 54, rfl, by decide, by kernel_rfl, rfl, fun _ _ h => h⟩) (fun ev w h hc => ex_fld (P := Tryd.prog) rfl (fldC0 _) ev w h hc) rfl (knows_out 3 (by kernel_rfl) rfl),
     step_ldV rfl (.inr ⟨14, true, 54, rfl, by decide, by kernel_rfl, rfl, fun _ _ h => h⟩) (fun _ hw => (((hL.next hw).ky.rw)).range) rfl Tryd.underlying22 rfl (szV inf41 (il hk.out)) rfl (knows_in 23 63 (by decide) (by kernel_rfl) rfl rfl),
     step_one rfl (.inr ⟨14, true, 54, rfl, by decide, by kernel_rfl, rfl, fun _ _ h => h⟩) (fun ev w h hc => ex_fld (P := Tryd.prog) rfl (fldC1 _) ev w h hc) rfl (knows_out 3 (by kernel_rfl) rfl),
     step_ldV rfl (.inr ⟨14, true, 54, rfl, by decide, by kernel_rfl, rfl, fun _ _ h => h⟩) (fun _ hw => (((hL.next hw).no.rw)).range) rfl Tryd.underlying23 rfl (szV infNo (il hn.out)) rfl (knows_in 25 65 (by decide) (by kernel_rfl) rfl rfl),
     step_one rfl (.inr ⟨14, true, 54, rfl, by decide, by kernel_rfl, rfl, fun _ _ h => h⟩) (fun ev w h hc => ex_fld (P := Tryd.prog) rfl (fldC2 _) ev w h hc) rfl (knows_out 3 (by kernel_rfl) rfl),
     (step_ex (.slice A0 lb c0) rfl (.inr ⟨14, true, 54, rfl, by decide, by kernel_rfl, rfl, fun _ _ h => h⟩) rfl fun a ww hw hf hd => by
         have h0 : a.eval (.tmp 67) = (.pointer (some ⟨w.heap.size, 44, none⟩)) := ((knows_in 27 67 (by decide) (by kernel_rfl) rfl rfl) : Knows _ _ w3 _ 47 _ 28 _ (.pointer (some ⟨w.heap.size, 44, none⟩))) a ww hw hf hd
         have hcc := (hL.next hw).ce
         revert h0
         generalize a.eval = ev
         intro h0
         unfold execOp
         simp only [h0]
         go_simp),
     step_mvP rfl (.inr ⟨14, true, 54, rfl, by decide, by kernel_rfl, rfl, fun _ _ h => h⟩) rfl rfl (knows_out 1 (by kernel_rfl) rfl),
     step_cw rfl (.inr ⟨14, true, 54, rfl, by decide, by kernel_rfl, rfl, fun _ _ h => h⟩) rfl cxRTag rfl (fun aa ww hw hf hd => ⟨_, (four_args (knows_in 24 64 (by decide) (by kernel_rfl) rfl rfl) (knows_in 26 66 (by decide) (by kernel_rfl) rfl rfl) (knows_in 28 68 (by decide) (by kernel_rfl) rfl rfl) (knows_in 29 69 (by decide) (by kernel_rfl) rfl rfl)) aa ww hw hf hd, HRT.out ww (hL.next hw) (hA.below hw)⟩),
     step_eqA rfl (.inr ⟨14, true, 54, rfl, by decide, by kernel_rfl, rfl, fun _ _ h => h⟩) rfl eqt33 HRL.out HRL.out (decide_eq_true rfl) rfl (knows_in 22 62 (by decide) (by kernel_rfl) rfl rfl) (knows_in 30 70 (by decide) (by kernel_rfl) rfl rfl),
     step_pick rfl (.inl rfl) (b := true) rfl rfl (knows_in 14 54 (by decide) (by kernel_rfl) rfl rfl) (knows_in 31 71 (by decide) (by kernel_rfl) rfl rfl),
     step_mvP rfl (.inl rfl) rfl rfl (knows_in 32 72 (by decide) (by kernel_rfl) rfl rfl),
     step_mvP rfl (.inr ⟨33, true, 73, rfl, by decide, by kernel_rfl, rfl, fun _ _ h => h⟩) rfl rfl (knows_out 2 (by kernel_rfl) rfl),
     step_cw rfl (.inr ⟨33, true, 73, rfl, by decide, by kernel_rfl, rfl, fun _ _ h => h⟩) rfl cxSize rfl (fun aa ww hw hf hd => ⟨_, (one_arg (knows_in 34 74 (by decide) (by kernel_rfl) rfl rfl)) aa ww hw hf hd, HSZ.out ww⟩),
     step_mvP rfl (.inr ⟨33, true, 73, rfl, by decide, by kernel_rfl, rfl, fun _ _ h => h⟩) rfl rfl (knows_out 9 (by kernel_rfl) rfl),
     (step_ex (.bool true) rfl (.inr ⟨33, true, 73, rfl, by decide, by kernel_rfl, rfl, fun _ _ h => h⟩) rfl fun a ww hw hf hd => by
         have h0 : a.eval (.tmp 75) = (.int .i64 (n + 16)) := ((knows_in 35 75 (by decide) (by kernel_rfl) rfl rfl) : Knows _ _ w3 _ 47 _ 37 _ (.int .i64 (n + 16))) a ww hw hf hd
         have h1 : a.eval (.tmp 76) = (.int .i64 (n + 16)) := ((knows_in 36 76 (by decide) (by kernel_rfl) rfl rfl) : Knows _ _ w3 _ 47 _ 37 _ (.int .i64 (n + 16))) a ww hw hf hd
         revert h0 h1
         generalize a.eval = ev
         intro h0 h1
         unfold execOp
         simp only [h0, h1]
         go_simp),
     step_pick rfl (.inl rfl) (b := true) rfl rfl (knows_in 33 73 (by decide) (by kernel_rfl) rfl rfl) (knows_in 37 77 (by decide) (by kernel_rfl) rfl rfl),
     step_mvP rfl (.inl rfl) rfl rfl (knows_in 38 78 (by decide) (by kernel_rfl) rfl rfl),
     step_mvP rfl (.inr ⟨39, true, 79, rfl, by decide, by kernel_rfl, rfl, fun _ _ h => h⟩) rfl rfl (knows_out 7 (by kernel_rfl) rfl),
     step_len rfl (.inr ⟨39, true, 79, rfl, by decide, by kernel_rfl, rfl, fun _ _ h => h⟩) ua23 rfl rfl (knows_in 40 80 (by decide) (by kernel_rfl) rfl rfl),
     step_mvP rfl (.inr ⟨39, true, 79, rfl, by decide, by kernel_rfl, rfl, fun _ _ h => h⟩) rfl rfl (knows_out 1 (by kernel_rfl) rfl),
     step_len rfl (.inr ⟨39, true, 79, rfl, by decide, by kernel_rfl, rfl, fun _ _ h => h⟩) ua23 rfl rfl (knows_in 42 82 (by decide) (by kernel_rfl) rfl rfl),
     step_cw rfl (.inr ⟨39, true, 79, rfl, by decide, by kernel_rfl, rfl, fun _ _ h => h⟩) rfl cxSize rfl (fun aa ww hw hf hd => ⟨_, (one_arg (knows_in 43 83 (by decide) (by kernel_rfl) rfl rfl)) aa ww hw hf hd, HSL.out ww⟩),
     (step_ex (.bool true) rfl (.inr ⟨39, true, 79, rfl, by decide, by kernel_rfl, rfl, fun _ _ h => h⟩) rfl fun a ww hw hf hd => by
         have h0 : a.eval (.tmp 81) = (.int .i64 (m7 : Nat)) := ((knows_in 41 81 (by decide) (by kernel_rfl) rfl rfl) : Knows _ _ w3 _ 47 _ 45 _ (.int .i64 (m7 : Nat))) a ww hw hf hd
         have h1 : a.eval (.tmp 84) = (.int .i64 (m7 : Nat)) := ((knows_in 44 84 (by decide) (by kernel_rfl) rfl rfl) : Knows _ _ w3 _ 47 _ 45 _ (.int .i64 (m7 : Nat))) a ww hw hf hd
         revert h0 h1
         generalize a.eval = ev
         intro h0 h1
         unfold execOp
         simp only [h0, h1]
         go_simp),
     step_pick rfl (.inl rfl) (b := true) rfl rfl (knows_in 39 79 (by decide) (by kernel_rfl) rfl rfl) (knows_in 45 85 (by decide) (by kernel_rfl) rfl rfl), trivial⟩ ?_
  intro val w4 hw hS hap hla
  have e40 : val 40 = (.int .i64 0) := hS 0 40 (by decide) rfl
  have e41 : val 41 = (.bool true) := hS 1 41 (by decide) rfl
  have e42 : val 42 = (.bool true) := hS 2 42 (by decide) rfl
  have e43 : val 43 = (.slice A7 m7 d7) := hS 3 43 (by decide) rfl
  have e44 : val 44 = (.pointer (some ⟨w.heap.size, 0, none⟩)) := hS 4 44 (by decide) rfl
  have e45 : val 45 = (.agg (ints .u8 key).toArray) := hS 5 45 (by decide) rfl
  have e46 : val 46 = (.pointer (some ⟨w.heap.size, 32, none⟩)) := hS 6 46 (by decide) rfl
  have e47 : val 47 = (.agg (ints .u8 nonce).toArray) := hS 7 47 (by decide) rfl
  have e48 : val 48 = (.pointer (some ⟨w.heap.size, 44, none⟩)) := hS 8 48 (by decide) rfl
  have e49 : val 49 = (.slice A0 lb c0) := hS 9 49 (by decide) rfl
  have e50 : val 50 = (.slice A1 lt c1) := hS 10 50 (by decide) rfl
  have e52 : val 52 = (.bool true) := hS 12 52 (by decide) rfl
  have e53 : val 53 = (.bool true) := hS 13 53 (by decide) rfl
  have e54 : val 54 = (.bool true) := hS 14 54 (by decide) rfl
  have e55 : val 55 = (.pointer (some ⟨w.heap.size, 0, none⟩)) := hS 15 55 (by decide) rfl
  have e56 : val 56 = (.agg (ints .u8 key).toArray) := hS 16 56 (by decide) rfl
  have e57 : val 57 = (.pointer (some ⟨w.heap.size, 32, none⟩)) := hS 17 57 (by decide) rfl
  have e58 : val 58 = (.agg (ints .u8 nonce).toArray) := hS 18 58 (by decide) rfl
  have e59 : val 59 = (.pointer (some ⟨w.heap.size, 44, none⟩)) := hS 19 59 (by decide) rfl
  have e60 : val 60 = (.slice A0 lb c0) := hS 20 60 (by decide) rfl
  have e61 : val 61 = (.slice A1 lt c1) := hS 21 61 (by decide) rfl
  have e62 : val 62 = (.agg (ints .u8 r).toArray) := hS 22 62 (by decide) rfl
  have e63 : val 63 = (.pointer (some ⟨w.heap.size, 0, none⟩)) := hS 23 63 (by decide) rfl
  have e64 : val 64 = (.agg (ints .u8 key).toArray) := hS 24 64 (by decide) rfl
  have e65 : val 65 = (.pointer (some ⟨w.heap.size, 32, none⟩)) := hS 25 65 (by decide) rfl
  have e66 : val 66 = (.agg (ints .u8 nonce).toArray) := hS 26 66 (by decide) rfl
  have e67 : val 67 = (.pointer (some ⟨w.heap.size, 44, none⟩)) := hS 27 67 (by decide) rfl
  have e68 : val 68 = (.slice A0 lb c0) := hS 28 68 (by decide) rfl
  have e69 : val 69 = (.slice A1 lt c1) := hS 29 69 (by decide) rfl
  have e70 : val 70 = (.agg (ints .u8 r).toArray) := hS 30 70 (by decide) rfl
  have e71 : val 71 = (.bool true) := hS 31 71 (by decide) rfl
  have e72 : val 72 = (.bool true) := hS 32 72 (by decide) rfl
  have e73 : val 73 = (.bool true) := hS 33 73 (by decide) rfl
  have e74 : val 74 = (.int .i64 n) := hS 34 74 (by decide) rfl
  have e75 : val 75 = (.int .i64 (n + 16)) := hS 35 75 (by decide) rfl
  have e76 : val 76 = (.int .i64 (n + 16)) := hS 36 76 (by decide) rfl
  have e77 : val 77 = (.bool true) := hS 37 77 (by decide) rfl
  have e78 : val 78 = (.bool true) := hS 38 78 (by decide) rfl
  have e79 : val 79 = (.bool true) := hS 39 79 (by decide) rfl
  have e80 : val 80 = (.slice A7 m7 d7) := hS 40 80 (by decide) rfl
  have e81 : val 81 = (.int .i64 (m7 : Nat)) := hS 41 81 (by decide) rfl
  have e82 : val 82 = (.slice A1 lt c1) := hS 42 82 (by decide) rfl
  have e83 : val 83 = (.int .i64 (lt : Nat)) := hS 43 83 (by decide) rfl
  have e84 : val 84 = (.int .i64 (m7 : Nat)) := hS 44 84 (by decide) rfl
  have e85 : val 85 = (.bool true) := hS 45 85 (by decide) rfl
  have e86 : val 86 = (.bool true) := hS 46 86 (by decide) rfl
  simp only [putVals, List.foldl_cons, List.foldl_nil, List.drop_succ_cons, List.drop_zero, Act.put, List.setIfInBounds_toArray, List.set_cons_succ, List.set_cons_zero, e40, e41, e42, e43, e44, e45, e46, e47, e48, e49, e50, e52, e53, e54, e55, e56, e57, e58, e59, e60, e61, e62, e63, e64, e65, e66, e67, e68, e69, e70, e71, e72, e73, e74, e75, e76, e77, e78, e79, e80, e81, e82, e83, e84, e85, e86]
  generalize val 51 = g51
  clear hS hap hla e40 e41 e42 e43 e44 e45 e46 e47 e48 e49 e50 e52 e53 e54 e55 e56 e57 e58 e59 e60 e61 e62 e63 e64 e65 e66 e67 e68 e69 e70 e71 e72 e73 e74 e75 e76 e77 e78 e79 e80 e81 e82 e83 e84 e85 e86 
  replace hW := hW.trans (Below.mono hw hW.size)
  clear hw
  go_wp2_with (fail)
  go_ret
  exact ⟨rfl, hW⟩
set_option maxRecDepth 50000 in
set_option maxHeartbeats 4000000 in
theorem seals_big (w : World) (vs : Array Value) (bx : Nat) (key nonce be : List Int) (A0 A1 : Option Addr) (lb c0 lt c1 : Nat) (n : Int) (hbx : bx = w.heap.size) (hL : LawW (w.alloc (.cells vs 26)) bx key nonce be A0 lb c0) (t q r : List Int) (m7 : Nat) (hA : Nums w .u8 A1 t) (hk : Hid (key.length = 32)) (hn : Hid (nonce.length = 12)) (hlb : (lb : Int) ≤ 300) (hlt : (lt : Int) ≤ 300) (HRL : Hid (r.length = 16)) (HQL : Hid (q.length = m7)) (HM7 : Hid (m7 ≤ 1000))
    (HSE : Hid (∀ w, LawW w bx key nonce be A0 lb c0 → Nums w .u8 A1 t → Calls Tryd.prog 7 #[.agg (ints .u8 key).toArray, .agg (ints .u8 nonce).toArray, .slice A0 lb c0, .slice A1 lt c1] w fun e w' => ∃ A d, e = .returned (.tuple #[.slice A m7 d, .int .i64 0]) ∧ Nums w' .u8 A q ∧ Below w.heap.size w w'))
    (HRS : Hid (∀ w, LawW w bx key nonce be A0 lb c0 → Nums w .u8 A1 t → Calls Tryd.prog 9 #[.agg (ints .u8 key).toArray, .agg (ints .u8 nonce).toArray, .slice A0 lb c0, .slice A1 lt c1] w fun e w' => ∃ v, e = .returned v ∧ IsRw .u8 m7 q v w' ∧ Below w.heap.size w w'))
    (HTG : Hid (∀ w, LawW w bx key nonce be A0 lb c0 → Nums w .u8 A1 t → Calls Tryd.prog 10 #[.agg (ints .u8 key).toArray, .agg (ints .u8 nonce).toArray, .slice A0 lb c0, .slice A1 lt c1] w fun e w' => e = .returned (.agg (ints .u8 r).toArray) ∧ Below w.heap.size w w'))
    (HRT : Hid (∀ w, LawW w bx key nonce be A0 lb c0 → Nums w .u8 A1 t → Calls Tryd.prog 11 #[.agg (ints .u8 key).toArray, .agg (ints .u8 nonce).toArray, .slice A0 lb c0, .slice A1 lt c1] w fun e w' => e = .returned (.agg (ints .u8 r).toArray) ∧ Below w.heap.size w w'))
    (HSZ : Hid (∀ w, Calls Tryd.prog 12 #[.int .i64 n] w fun e w' => e = .returned (.int .i64 0) ∧ Below w.heap.size w w'))
    (HSL : Hid (∀ w, Calls Tryd.prog 12 #[.int .i64 (lt : Nat)] w fun e w' => e = .returned (.int .i64 (m7 : Nat)) ∧ Below w.heap.size w w')) (hn0 : 0 ≤ n) (hn1 : 1048560 < n) : Calls Tryd.prog 3 #[.agg vs, .slice A1 lt c1, .int .i64 n] w fun e w' => e = .returned (.bool true) ∧ Below w.heap.size w w' := by
  have hb0 := below_new w (.cells vs 26)
  have hA1 := hA.below hb0
  subst hbx
  have e0 : decide ((300 : Int) < lb) = false := decide_eq_false (by omega)
  have e1 : decide ((300 : Int) < lt) = false := decide_eq_false (by omega)
  clear hlb hlt hA
  have i32 : (Tryd.prog.info? 22).map (·.size) = some (ints .u8 key).length := szV inf41 (il hk.out)
  have i12 : (Tryd.prog.info? 23).map (·.size) = some (ints .u8 nonce).length := szV infNo (il hn.out)
  have hW1 := hb0
  have hL1 := hL
  clear hb0 hL
  go_enter Tryd.func3, Tryd.ntmps3
  go_upto_region 9 with (first
    | (go_at_call 6; generalize w.alloc (.cells vs 26) = w1 at *; refine (a_awake _ hL1.tb).mono ?_; rintro e w2 ⟨rfl, hb2⟩
       have hL2 := hL1.next hb2
       have hA2 := hA1.below hb2
       have hW2 := hW1.trans (hb2.mono hW1.size)
       have c2 := hL2.ce
       have k2k := hL2.ky.range
       have k2n := hL2.no.range
       clear hb2 hL1 hA1 hW1)
    | (with_reducible refine wpList_load_mid (op := ⟨some 23, .load 22 (.tmp 22), _, _, _, _⟩) rfl 22 (.tmp 22) rfl w.heap.size 0 rfl (ints .u8 key) _ k2k Tryd.underlying22 rfl i32 ?_)
    | (with_reducible refine wpList_load_mid (op := ⟨some 25, .load 23 (.tmp 24), _, _, _, _⟩) rfl 23 (.tmp 24) rfl w.heap.size 32 rfl (ints .u8 nonce) _ k2n Tryd.underlying23 rfl i12 ?_)
    | (go_at_call 7; (with_reducible refine (HSE.out _ hL2 hA2).mono ?_); rintro e w3 ⟨A7, d7, rfl, hN7, hb3⟩
       have hL := hL2.next hb3
       have hA := hA2.below hb3
       have hW := hW2.trans (hb3.mono hW2.size)
       clear hb3 hL2 hA2 hW2 k2k k2n c2))
  have s3 := hW.size
  refine region_spec2 47 87 (fun _ => false) [Is (.int .i64 0), Is (.bool true), Is (.bool true), Is (.slice A7 m7 d7), Is (.pointer (some ⟨w.heap.size, 0, none⟩)), Is (.agg (ints .u8 key).toArray), Is (.pointer (some ⟨w.heap.size, 32, none⟩)), Is (.agg (ints .u8 nonce).toArray), Is (.pointer (some ⟨w.heap.size, 44, none⟩)), Is (.slice A0 lb c0), Is (.slice A1 lt c1), IsRw .u8 m7 q, Is (.bool true), Is (.bool true), Is (.bool true), Is (.pointer (some ⟨w.heap.size, 0, none⟩)), Is (.agg (ints .u8 key).toArray), Is (.pointer (some ⟨w.heap.size, 32, none⟩)), Is (.agg (ints .u8 nonce).toArray), Is (.pointer (some ⟨w.heap.size, 44, none⟩)), Is (.slice A0 lb c0), Is (.slice A1 lt c1), Is (.agg (ints .u8 r).toArray), Is (.pointer (some ⟨w.heap.size, 0, none⟩)), Is (.agg (ints .u8 key).toArray), Is (.pointer (some ⟨w.heap.size, 32, none⟩)), Is (.agg (ints .u8 nonce).toArray), Is (.pointer (some ⟨w.heap.size, 44, none⟩)), Is (.slice A0 lb c0), Is (.slice A1 lt c1), Is (.agg (ints .u8 r).toArray), Is (.bool true), Is (.bool true), Is (.bool true), Is (.int .i64 n), Is (.int .i64 0), Is (.int .i64 0), Is (.bool true), Is (.bool true), Is (.bool true), Is (.slice A7 m7 d7), Is (.int .i64 (m7 : Nat)), Is (.slice A1 lt c1), Is (.int .i64 (lt : Nat)), Is (.int .i64 (m7 : Nat)), Is (.bool true), Is (.bool true)] [40, 41, 42, 43, 44, 45, 46, 47, 48, 49, 50, 51, 52, 53, 54, 55, 56, 57, 58, 59, 60, 61, 62, 63, 64, 65, 66, 67, 68, 69, 70, 71, 72, 73, 74, 75, 76, 77, 78, 79, 80, 81, 82, 83, 84, 85, 86] (by kernel_rfl) (by kernel_rfl) (by kernel_rfl) (Nat.le_of_eq rfl) (grows_cons (Is.grows _) (grows_cons (Is.grows _) (grows_cons (Is.grows _) (grows_cons (Is.grows _) (grows_cons (Is.grows _) (grows_cons (Is.grows _) (grows_cons (Is.grows _) (grows_cons (Is.grows _) (grows_cons (Is.grows _) (grows_cons (Is.grows _) (grows_cons (Is.grows _) (grows_cons (IsRw.grows _ _ _) (grows_cons (Is.grows _) (grows_cons (Is.grows _) (grows_cons (Is.grows _) (grows_cons (Is.grows _) (grows_cons (Is.grows _) (grows_cons (Is.grows _) (grows_cons (Is.grows _) (grows_cons (Is.grows _) (grows_cons (Is.grows _) (grows_cons (Is.grows _) (grows_cons (Is.grows _) (grows_cons (Is.grows _) (grows_cons (Is.grows _) (grows_cons (Is.grows _) (grows_cons (Is.grows _) (grows_cons (Is.grows _) (grows_cons (Is.grows _) (grows_cons (Is.grows _) (grows_cons (Is.grows _) (grows_cons (Is.grows _) (grows_cons (Is.grows _) (grows_cons (Is.grows _) (grows_cons (Is.grows _) (grows_cons (Is.grows _) (grows_cons (Is.grows _) (grows_cons (Is.grows _) (grows_cons (Is.grows _) (grows_cons (Is.grows _) (grows_cons (Is.grows _) (grows_cons (Is.grows _) (grows_cons (Is.grows _) (grows_cons (Is.grows _) (grows_cons (Is.grows _) (grows_cons (Is.grows _) (grows_cons (Is.grows _) grows_nil)))))))))))))))))))))))))))))))))))))))))))))))
    ⟨step_mvP rfl (.inl rfl) rfl rfl (knows_out 8 (by kernel_rfl) rfl),
     step_eqC rfl (.inl rfl) rfl Tryd.underlying28 rfl (by decide) (knows_in 0 40 (by decide) (by kernel_rfl) rfl rfl),
     step_mvP rfl (.inl rfl) rfl rfl (knows_in 1 41 (by decide) (by kernel_rfl) rfl rfl),
     step_mvP rfl (.inr ⟨2, true, 42, rfl, by decide, by kernel_rfl, rfl, fun _ _ h => h⟩) rfl rfl (knows_out 7 (by kernel_rfl) rfl),
     step_one rfl (.inr ⟨2, true, 42, rfl, by decide, by kernel_rfl, rfl, fun _ _ h => h⟩) (fun ev w h hc => ex_fld (P := Tryd.prog) rfl (fldC0 _) ev w h hc) rfl (knows_out 3 (by kernel_rfl) rfl),
     step_ldV rfl (.inr ⟨2, true, 42, rfl, by decide, by kernel_rfl, rfl, fun _ _ h => h⟩) (fun _ hw => (((hL.next hw).ky.rw)).range) rfl Tryd.underlying22 rfl (szV inf41 (il hk.out)) rfl (knows_in 4 44 (by decide) (by kernel_rfl) rfl rfl),
     step_one rfl (.inr ⟨2, true, 42, rfl, by decide, by kernel_rfl, rfl, fun _ _ h => h⟩) (fun ev w h hc => ex_fld (P := Tryd.prog) rfl (fldC1 _) ev w h hc) rfl (knows_out 3 (by kernel_rfl) rfl),
     step_ldV rfl (.inr ⟨2, true, 42, rfl, by decide, by kernel_rfl, rfl, fun _ _ h => h⟩) (fun _ hw => (((hL.next hw).no.rw)).range) rfl Tryd.underlying23 rfl (szV infNo (il hn.out)) rfl (knows_in 6 46 (by decide) (by kernel_rfl) rfl rfl),
     step_one rfl (.inr ⟨2, true, 42, rfl, by decide, by kernel_rfl, rfl, fun _ _ h => h⟩) (fun ev w h hc => ex_fld (P := Tryd.prog) rfl (fldC2 _) ev w h hc) rfl (knows_out 3 (by kernel_rfl) rfl),
     (step_ex (.slice A0 lb c0) rfl (.inr ⟨2, true, 42, rfl, by decide, by kernel_rfl, rfl, fun _ _ h => h⟩) rfl fun a ww hw hf hd => by
         have h0 : a.eval (.tmp 48) = (.pointer (some ⟨w.heap.size, 44, none⟩)) := ((knows_in 8 48 (by decide) (by kernel_rfl) rfl rfl) : Knows _ _ w3 _ 47 _ 9 _ (.pointer (some ⟨w.heap.size, 44, none⟩))) a ww hw hf hd
         have hcc := (hL.next hw).ce
         revert h0
         generalize a.eval = ev
         intro h0
         unfold execOp
         simp only [h0]
         go_simp),
     step_mvP rfl (.inr ⟨2, true, 42, rfl, by decide, by kernel_rfl, rfl, fun _ _ h => h⟩) rfl rfl (knows_out 1 (by kernel_rfl) rfl),
     step_callR rfl (.inr ⟨2, true, 42, rfl, by decide, by kernel_rfl, rfl, fun _ _ h => h⟩) rfl cxRSeal rfl (fun aa ww hw hf hd => ⟨_, (four_args (knows_in 5 45 (by decide) (by kernel_rfl) rfl rfl) (knows_in 7 47 (by decide) (by kernel_rfl) rfl rfl) (knows_in 9 49 (by decide) (by kernel_rfl) rfl rfl) (knows_in 10 50 (by decide) (by kernel_rfl) rfl rfl)) aa ww hw hf hd, HRS.out ww (hL.next hw) (hA.below hw)⟩),
     step_sam rfl (.inr ⟨2, true, 42, rfl, by decide, by kernel_rfl, rfl, fun _ _ h => h⟩) rfl HQL.out HM7.out rfl ((knows_in 3 43 (by decide) (by kernel_rfl) rfl rfl).rw (fun w hw => hN7.below hw)) (knowsW_in 11 51 (by decide) (by kernel_rfl) rfl rfl),
     step_pick rfl (.inl rfl) (b := true) rfl rfl (knows_in 2 42 (by decide) (by kernel_rfl) rfl rfl) (knows_in 12 52 (by decide) (by kernel_rfl) rfl rfl),
     step_mvP rfl (.inl rfl) rfl rfl (knows_in 13 53 (by decide) (by kernel_rfl) rfl rfl),
     step_one rfl (.inr ⟨14, true, 54, rfl, by decide, by kernel_rfl, rfl, fun _ _ h => h⟩) (fun ev w h hc => ex_fld (P := Tryd.prog) rfl (fldC0 _) ev w h hc) rfl (knows_out 3 (by kernel_rfl) rfl),
     step_ldV rfl (.inr ⟨14, true, 54, rfl, by decide, by kernel_rfl, rfl, fun _ _ h => h⟩) (fun _ hw => (((hL.next hw).ky.rw)).range) rfl Tryd.underlying22 rfl (szV inf41 (il hk.out)) rfl (knows_in 15 55 (by decide) (by kernel_rfl) rfl rfl),
     step_one rfl (.inr ⟨14, true, 54, rfl, by decide, by kernel_rfl, rfl, fun _ _ h => h⟩) (fun ev w h hc => ex_fld (P := Tryd.prog) rfl (fldC1 _) ev w h hc) rfl (knows_out 3 (by kernel_rfl) rfl),
     step_ldV rfl (.inr ⟨14, true, 54, rfl, by decide, by kernel_rfl, rfl, fun _ _ h => h⟩) (fun _ hw => (((hL.next hw).no.rw)).range) rfl Tryd.underlying23 rfl (szV infNo (il hn.out)) rfl (knows_in 17 57 (by decide) (by kernel_rfl) rfl rfl),
     step_one rfl (.inr ⟨14, true, 54, rfl, by decide, by kernel_rfl, rfl, fun _ _ h => h⟩) (fun ev w h hc => ex_fld (P := Tryd.prog) rfl (fldC2 _) ev w h hc) rfl (knows_out 3 (by kernel_rfl) rfl),
     (step_ex (.slice A0 lb c0) rfl (.inr ⟨14, true, 54, rfl, by decide, by kernel_rfl, rfl, fun _ _ h => h⟩) rfl fun a ww hw hf hd => by
         have h0 : a.eval (.tmp 59) = (.pointer (some ⟨w.heap.size, 44, none⟩)) := ((knows_in 19 59 (by decide) (by kernel_rfl) rfl rfl) : Knows _ _ w3 _ 47 _ 20 _ (.pointer (some ⟨w.heap.size, 44, none⟩))) a ww hw hf hd
         have hcc := (hL.next hw).ce
         revert h0
         generalize a.eval = ev
         intro h0
         unfold execOp
         simp only [h0]
         go_simp),
     step_mvP rfl (.inr ⟨14, true, 54, rfl, by decide, by kernel_rfl, rfl, fun _ _ h => h⟩) rfl rfl (knows_out 1 (by kernel_rfl) rfl),
     step_cw rfl (.inr ⟨14, true, 54, rfl, by decide, by kernel_rfl, rfl, fun _ _ h => h⟩) rfl cxTag rfl (fun aa ww hw hf hd => ⟨_, (four_args (knows_in 16 56 (by decide) (by kernel_rfl) rfl rfl) (knows_in 18 58 (by decide) (by kernel_rfl) rfl rfl) (knows_in 20 60 (by decide) (by kernel_rfl) rfl rfl) (knows_in 21 61 (by decide) (by kernel_rfl) rfl rfl)) aa ww hw hf hd, HTG.out ww (hL.next hw) (hA.below hw)⟩),
     step_one rfl (.inr ⟨14, true, 54, rfl, by decide, by kernel_rfl, rfl, fun _ _ h => h⟩) (fun ev w h hc => ex_fld (P := Tryd.prog) rfl (fldC0 _) ev w h hc) rfl (knows_out 3 (by kernel_rfl) rfl),
     step_ldV rfl (.inr ⟨14, true, 54, rfl, by decide, by kernel_rfl, rfl, fun _ _ h => h⟩) (fun _ hw => (((hL.next hw).ky.rw)).range) rfl Tryd.underlying22 rfl (szV inf41 (il hk.out)) rfl (knows_in 23 63 (by decide) (by kernel_rfl) rfl rfl),
     step_one rfl (.inr ⟨14, true, 54, rfl, by decide, by kernel_rfl, rfl, fun _ _ h => h⟩) (fun ev w h hc => ex_fld (P := Tryd.prog) rfl (fldC1 _) ev w h hc) rfl (knows_out 3 (by kernel_rfl) rfl),
     step_ldV rfl (.inr ⟨14, true, 54, rfl, by decide, by kernel_rfl, rfl, fun _ _ h => h⟩) (fun _ hw => (((hL.next hw).no.rw)).range) rfl Tryd.underlying23 rfl (szV infNo (il hn.out)) rfl (knows_in 25 65 (by decide) (by kernel_rfl) rfl rfl),
     step_one rfl (.inr ⟨14, true, 54, rfl, by decide, by kernel_rfl, rfl, fun _ _ h => h⟩) (fun ev w h hc => ex_fld (P := Tryd.prog) rfl (fldC2 _) ev w h hc) rfl (knows_out 3 (by kernel_rfl) rfl),
     (step_ex (.slice A0 lb c0) rfl (.inr ⟨14, true, 54, rfl, by decide, by kernel_rfl, rfl, fun _ _ h => h⟩) rfl fun a ww hw hf hd => by
         have h0 : a.eval (.tmp 67) = (.pointer (some ⟨w.heap.size, 44, none⟩)) := ((knows_in 27 67 (by decide) (by kernel_rfl) rfl rfl) : Knows _ _ w3 _ 47 _ 28 _ (.pointer (some ⟨w.heap.size, 44, none⟩))) a ww hw hf hd
         have hcc := (hL.next hw).ce
         revert h0
         generalize a.eval = ev
         intro h0
         unfold execOp
         simp only [h0]
         go_simp),
     step_mvP rfl (.inr ⟨14, true, 54, rfl, by decide, by kernel_rfl, rfl, fun _ _ h => h⟩) rfl rfl (knows_out 1 (by kernel_rfl) rfl),
     step_cw rfl (.inr ⟨14, true, 54, rfl, by decide, by kernel_rfl, rfl, fun _ _ h => h⟩) rfl cxRTag rfl (fun aa ww hw hf hd => ⟨_, (four_args (knows_in 24 64 (by decide) (by kernel_rfl) rfl rfl) (knows_in 26 66 (by decide) (by kernel_rfl) rfl rfl) (knows_in 28 68 (by decide) (by kernel_rfl) rfl rfl) (knows_in 29 69 (by decide) (by kernel_rfl) rfl rfl)) aa ww hw hf hd, HRT.out ww (hL.next hw) (hA.below hw)⟩),
     step_eqA rfl (.inr ⟨14, true, 54, rfl, by decide, by kernel_rfl, rfl, fun _ _ h => h⟩) rfl eqt33 HRL.out HRL.out (decide_eq_true rfl) rfl (knows_in 22 62 (by decide) (by kernel_rfl) rfl rfl) (knows_in 30 70 (by decide) (by kernel_rfl) rfl rfl),
     step_pick rfl (.inl rfl) (b := true) rfl rfl (knows_in 14 54 (by decide) (by kernel_rfl) rfl rfl) (knows_in 31 71 (by decide) (by kernel_rfl) rfl rfl),
     step_mvP rfl (.inl rfl) rfl rfl (knows_in 32 72 (by decide) (by kernel_rfl) rfl rfl),
     step_mvP rfl (.inr ⟨33, true, 73, rfl, by decide, by kernel_rfl, rfl, fun _ _ h => h⟩) rfl rfl (knows_out 2 (by kernel_rfl) rfl),
     step_cw rfl (.inr ⟨33, true, 73, rfl, by decide, by kernel_rfl, rfl, fun _ _ h => h⟩) rfl cxSize rfl (fun aa ww hw hf hd => ⟨_, (one_arg (knows_in 34 74 (by decide) (by kernel_rfl) rfl rfl)) aa ww hw hf hd, HSZ.out ww⟩),
     step_mvP rfl (.inr ⟨33, true, 73, rfl, by decide, by kernel_rfl, rfl, fun _ _ h => h⟩) rfl rfl (knows_out 9 (by kernel_rfl) rfl),
     (step_ex (.bool true) rfl (.inr ⟨33, true, 73, rfl, by decide, by kernel_rfl, rfl, fun _ _ h => h⟩) rfl fun a ww hw hf hd => by
         have h0 : a.eval (.tmp 75) = (.int .i64 0) := ((knows_in 35 75 (by decide) (by kernel_rfl) rfl rfl) : Knows _ _ w3 _ 47 _ 37 _ (.int .i64 0)) a ww hw hf hd
         have h1 : a.eval (.tmp 76) = (.int .i64 0) := ((knows_in 36 76 (by decide) (by kernel_rfl) rfl rfl) : Knows _ _ w3 _ 47 _ 37 _ (.int .i64 0)) a ww hw hf hd
         revert h0 h1
         generalize a.eval = ev
         intro h0 h1
         unfold execOp
         simp only [h0, h1]
         go_simp),
     step_pick rfl (.inl rfl) (b := true) rfl rfl (knows_in 33 73 (by decide) (by kernel_rfl) rfl rfl) (knows_in 37 77 (by decide) (by kernel_rfl) rfl rfl),
     step_mvP rfl (.inl rfl) rfl rfl (knows_in 38 78 (by decide) (by kernel_rfl) rfl rfl),
     step_mvP rfl (.inr ⟨39, true, 79, rfl, by decide, by kernel_rfl, rfl, fun _ _ h => h⟩) rfl rfl (knows_out 7 (by kernel_rfl) rfl),
     step_len rfl (.inr ⟨39, true, 79, rfl, by decide, by kernel_rfl, rfl, fun _ _ h => h⟩) ua23 rfl rfl (knows_in 40 80 (by decide) (by kernel_rfl) rfl rfl),
     step_mvP rfl (.inr ⟨39, true, 79, rfl, by decide, by kernel_rfl, rfl, fun _ _ h => h⟩) rfl rfl (knows_out 1 (by kernel_rfl) rfl),
     step_len rfl (.inr ⟨39, true, 79, rfl, by decide, by kernel_rfl, rfl, fun _ _ h => h⟩) ua23 rfl rfl (knows_in 42 82 (by decide) (by kernel_rfl) rfl rfl),
     step_cw rfl (.inr ⟨39, true, 79, rfl, by decide, by kernel_rfl, rfl, fun _ _ h => h⟩) rfl cxSize rfl (fun aa ww hw hf hd => ⟨_, (one_arg (knows_in 43 83 (by decide) (by kernel_rfl) rfl rfl)) aa ww hw hf hd, HSL.out ww⟩),
     (step_ex (.bool true) rfl (.inr ⟨39, true, 79, rfl, by decide, by kernel_rfl, rfl, fun _ _ h => h⟩) rfl fun a ww hw hf hd => by
         have h0 : a.eval (.tmp 81) = (.int .i64 (m7 : Nat)) := ((knows_in 41 81 (by decide) (by kernel_rfl) rfl rfl) : Knows _ _ w3 _ 47 _ 45 _ (.int .i64 (m7 : Nat))) a ww hw hf hd
         have h1 : a.eval (.tmp 84) = (.int .i64 (m7 : Nat)) := ((knows_in 44 84 (by decide) (by kernel_rfl) rfl rfl) : Knows _ _ w3 _ 47 _ 45 _ (.int .i64 (m7 : Nat))) a ww hw hf hd
         revert h0 h1
         generalize a.eval = ev
         intro h0 h1
         unfold execOp
         simp only [h0, h1]
         go_simp),
     step_pick rfl (.inl rfl) (b := true) rfl rfl (knows_in 39 79 (by decide) (by kernel_rfl) rfl rfl) (knows_in 45 85 (by decide) (by kernel_rfl) rfl rfl), trivial⟩ ?_
  intro val w4 hw hS hap hla
  have e40 : val 40 = (.int .i64 0) := hS 0 40 (by decide) rfl
  have e41 : val 41 = (.bool true) := hS 1 41 (by decide) rfl
  have e42 : val 42 = (.bool true) := hS 2 42 (by decide) rfl
  have e43 : val 43 = (.slice A7 m7 d7) := hS 3 43 (by decide) rfl
  have e44 : val 44 = (.pointer (some ⟨w.heap.size, 0, none⟩)) := hS 4 44 (by decide) rfl
  have e45 : val 45 = (.agg (ints .u8 key).toArray) := hS 5 45 (by decide) rfl
  have e46 : val 46 = (.pointer (some ⟨w.heap.size, 32, none⟩)) := hS 6 46 (by decide) rfl
  have e47 : val 47 = (.agg (ints .u8 nonce).toArray) := hS 7 47 (by decide) rfl
  have e48 : val 48 = (.pointer (some ⟨w.heap.size, 44, none⟩)) := hS 8 48 (by decide) rfl
  have e49 : val 49 = (.slice A0 lb c0) := hS 9 49 (by decide) rfl
  have e50 : val 50 = (.slice A1 lt c1) := hS 10 50 (by decide) rfl
  have e52 : val 52 = (.bool true) := hS 12 52 (by decide) rfl
  have e53 : val 53 = (.bool true) := hS 13 53 (by decide) rfl
  have e54 : val 54 = (.bool true) := hS 14 54 (by decide) rfl
  have e55 : val 55 = (.pointer (some ⟨w.heap.size, 0, none⟩)) := hS 15 55 (by decide) rfl
  have e56 : val 56 = (.agg (ints .u8 key).toArray) := hS 16 56 (by decide) rfl
  have e57 : val 57 = (.pointer (some ⟨w.heap.size, 32, none⟩)) := hS 17 57 (by decide) rfl
  have e58 : val 58 = (.agg (ints .u8 nonce).toArray) := hS 18 58 (by decide) rfl
  have e59 : val 59 = (.pointer (some ⟨w.heap.size, 44, none⟩)) := hS 19 59 (by decide) rfl
  have e60 : val 60 = (.slice A0 lb c0) := hS 20 60 (by decide) rfl
  have e61 : val 61 = (.slice A1 lt c1) := hS 21 61 (by decide) rfl
  have e62 : val 62 = (.agg (ints .u8 r).toArray) := hS 22 62 (by decide) rfl
  have e63 : val 63 = (.pointer (some ⟨w.heap.size, 0, none⟩)) := hS 23 63 (by decide) rfl
  have e64 : val 64 = (.agg (ints .u8 key).toArray) := hS 24 64 (by decide) rfl
  have e65 : val 65 = (.pointer (some ⟨w.heap.size, 32, none⟩)) := hS 25 65 (by decide) rfl
  have e66 : val 66 = (.agg (ints .u8 nonce).toArray) := hS 26 66 (by decide) rfl
  have e67 : val 67 = (.pointer (some ⟨w.heap.size, 44, none⟩)) := hS 27 67 (by decide) rfl
  have e68 : val 68 = (.slice A0 lb c0) := hS 28 68 (by decide) rfl
  have e69 : val 69 = (.slice A1 lt c1) := hS 29 69 (by decide) rfl
  have e70 : val 70 = (.agg (ints .u8 r).toArray) := hS 30 70 (by decide) rfl
  have e71 : val 71 = (.bool true) := hS 31 71 (by decide) rfl
  have e72 : val 72 = (.bool true) := hS 32 72 (by decide) rfl
  have e73 : val 73 = (.bool true) := hS 33 73 (by decide) rfl
  have e74 : val 74 = (.int .i64 n) := hS 34 74 (by decide) rfl
  have e75 : val 75 = (.int .i64 0) := hS 35 75 (by decide) rfl
  have e76 : val 76 = (.int .i64 0) := hS 36 76 (by decide) rfl
  have e77 : val 77 = (.bool true) := hS 37 77 (by decide) rfl
  have e78 : val 78 = (.bool true) := hS 38 78 (by decide) rfl
  have e79 : val 79 = (.bool true) := hS 39 79 (by decide) rfl
  have e80 : val 80 = (.slice A7 m7 d7) := hS 40 80 (by decide) rfl
  have e81 : val 81 = (.int .i64 (m7 : Nat)) := hS 41 81 (by decide) rfl
  have e82 : val 82 = (.slice A1 lt c1) := hS 42 82 (by decide) rfl
  have e83 : val 83 = (.int .i64 (lt : Nat)) := hS 43 83 (by decide) rfl
  have e84 : val 84 = (.int .i64 (m7 : Nat)) := hS 44 84 (by decide) rfl
  have e85 : val 85 = (.bool true) := hS 45 85 (by decide) rfl
  have e86 : val 86 = (.bool true) := hS 46 86 (by decide) rfl
  simp only [putVals, List.foldl_cons, List.foldl_nil, List.drop_succ_cons, List.drop_zero, Act.put, List.setIfInBounds_toArray, List.set_cons_succ, List.set_cons_zero, e40, e41, e42, e43, e44, e45, e46, e47, e48, e49, e50, e52, e53, e54, e55, e56, e57, e58, e59, e60, e61, e62, e63, e64, e65, e66, e67, e68, e69, e70, e71, e72, e73, e74, e75, e76, e77, e78, e79, e80, e81, e82, e83, e84, e85, e86]
  generalize val 51 = g51
  clear hS hap hla e40 e41 e42 e43 e44 e45 e46 e47 e48 e49 e50 e52 e53 e54 e55 e56 e57 e58 e59 e60 e61 e62 e63 e64 e65 e66 e67 e68 e69 e70 e71 e72 e73 e74 e75 e76 e77 e78 e79 e80 e81 e82 e83 e84 e85 e86 
  replace hW := hW.trans (Below.mono hw hW.size)
  clear hw
  go_wp2_with (fail)
  go_ret
  exact ⟨rfl, hW⟩
theorem seals_any (w : World) (hT : Tabs w) (key nonce : List Int) (A0 : Option Addr) (c0 : Nat) (be : List Int) (hk : key.length = 32) (hn : nonce.length = 12) (hkx : ∀ x ∈ key, (Lit.int .u8 x).wf = true) (hnx : ∀ x ∈ nonce, (Lit.int .u8 x).wf = true) (hbc : be.length ≤ c0) (_hbm : c0 ≤ maxLen) (hbx : ∀ x ∈ be, (Lit.int .u8 x).wf = true) (hB : Nums w .u8 A0 be) (A1 : Option Addr) (c1 : Nat) (s1 : List Int) (hc1 : s1.length ≤ c1) (_hm1 : c1 ≤ maxLen) (hx1 : ∀ x ∈ s1, (Lit.int .u8 x).wf = true) (hA1 : Nums w .u8 A1 s1) (n : Int) (hnw : (Lit.int .i64 n).wf = true) :
    Calls Tryd.prog 3 #[.agg (caseA key nonce A0 be.length c0).toArray, .slice A1 s1.length c1, .int .i64 n] w fun e w' => e = .returned (.bool true) ∧ Below w.heap.size w w' := by
  have hkb := byt_of_wf hkx
  have hnb := byt_of_wf hnx
  have hbb := byt_of_wf hbx
  have htb := byt_of_wf hx1
  have hnn : -9223372036854775808 ≤ n ∧ n < 9223372036854775808 := by
    have e1 : IntKind.i64.min = -9223372036854775808 := by decide
    have e2 : IntKind.i64.max = 9223372036854775807 := by decide
    simp [Lit.wf, e1, e2] at hnw
    omega
  obtain ⟨lb, hlb⟩ : ∃ n, be.length = n := ⟨_, rfl⟩
  obtain ⟨lt, hlt⟩ : ∃ n, s1.length = n := ⟨_, rfl⟩
  have hL := LawW.new (A := A0) (n := be.length) (c := c0) hT hB hk hn
  rw [hlb] at hbc hL ⊢
  rw [hlt] at hc1 ⊢
  generalize (caseA key nonce A0 lb c0).toArray = vs at *
  by_cases h : 300 < lb ∨ 300 < lt
  · exact seals_long w vs _ key nonce be A0 A1 lb c0 lt c1 n rfl hL h
  · have h1 : lb ≤ 300 := by omega
    have h2 : lt ≤ 300 := by omega
    have PB : Hid (PL lb be) := hid ⟨hlb, by omega, hbb⟩
    have PT : Hid (PL lt s1) := hid ⟨hlt, by omega, htb⟩
    have hql : (sealL key nonce be s1).length = lt + 16 := by rw [sealL_len hk hn (by omega), hlt]
    have i1 : (lb : Int) ≤ 300 := by omega
    have i2 : (lt : Int) ≤ 300 := by omega
    have f1 : ∀ w', LawW w' w.heap.size key nonce be A0 lb c0 → Nums w' .u8 A1 s1 → Calls Tryd.prog 7 #[.agg (ints .u8 key).toArray, .agg (ints .u8 nonce).toArray, .slice A0 lb c0, .slice A1 lt c1] w' fun e w'' => ∃ A d, e = .returned (.tuple #[.slice A (lt + 16) d, .int .i64 0]) ∧ Nums w'' .u8 A (sealL key nonce be s1) ∧ Below w'.heap.size w' w'' := fun w' hL hA =>
      (aseal_any key nonce be s1 A0 A1 lb c0 lt c1 w' hL.tb (hid hk) (hid hn) hkb hnb htb PB (hid hlt) (by omega) hbc hL.bs hA).mono fun e w'' ⟨A, d, he, _, hN, hb⟩ => ⟨A, d, he, hN, hb⟩
    have f2 : ∀ w', LawW w' w.heap.size key nonce be A0 lb c0 → Nums w' .u8 A1 s1 → Calls Tryd.prog 9 #[.agg (ints .u8 key).toArray, .agg (ints .u8 nonce).toArray, .slice A0 lb c0, .slice A1 lt c1] w' fun e w'' => ∃ v, e = .returned v ∧ IsRw .u8 (lt + 16) (sealL key nonce be s1) v w'' ∧ Below w'.heap.size w' w'' := fun w' hL hA =>
      (rseal_any key nonce be s1 A0 A1 lb c0 lt c1 w' (hid hk) (hid hn) hkb hnb htb PB (hid hlt) (hid (by omega)) (hid (by omega)) hL.bs hA).mono fun e w'' ⟨A, m, d, he, hm, hN, hb⟩ => ⟨_, he, ⟨A, d, by rw [← hm, hql], hN⟩, hb⟩
    have f3 : ∀ w', LawW w' w.heap.size key nonce be A0 lb c0 → Nums w' .u8 A1 s1 → Calls Tryd.prog 10 #[.agg (ints .u8 key).toArray, .agg (ints .u8 nonce).toArray, .slice A0 lb c0, .slice A1 lt c1] w' fun e w'' => e = .returned (.agg (ints .u8 (atag key nonce be s1)).toArray) ∧ Below w'.heap.size w' w'' := fun w' hL hA =>
      atag_any key nonce be s1 A0 A1 lb c0 lt c1 w' hL.tb (hid hk) (hid hn) hkb hnb PB PT hbc hc1 hL.bs hA
    have f4 : ∀ w', LawW w' w.heap.size key nonce be A0 lb c0 → Nums w' .u8 A1 s1 → Calls Tryd.prog 11 #[.agg (ints .u8 key).toArray, .agg (ints .u8 nonce).toArray, .slice A0 lb c0, .slice A1 lt c1] w' fun e w'' => e = .returned (.agg (ints .u8 (atag key nonce be s1)).toArray) ∧ Below w'.heap.size w' w'' := fun w' hL hA =>
      rtag11_any key nonce be s1 A0 A1 lb c0 lt c1 w' (hid hk) (hid hn) hkb hnb PB PT (by omega) (by omega) hL.bs hA
    have f6 : ∀ w' : World, Calls Tryd.prog 12 #[.int .i64 (lt : Nat)] w' fun e w'' => e = .returned (.int .i64 ((lt + 16 : Nat) : Int)) ∧ Below w'.heap.size w' w'' := fun w' => by
      have e : sizeN (lt : Int) = ((lt + 16 : Nat) : Int) := by unfold sizeN; rw [if_pos (by omega)]; omega
      rw [← e]
      exact asize_any lt w' (by omega) (by omega)
    by_cases n0 : n < 0
    · have e : sizeN n = 0 := by unfold sizeN; rw [if_neg (by omega)]
      exact seals_neg w vs _ key nonce be A0 A1 lb c0 lt c1 n rfl hL s1 _ _ (lt + 16) hA1 (hid hk) (hid hn) i1 i2 (hid (atag_len _ _ _ _)) (hid hql) (hid (by omega)) (hid f1) (hid f2) (hid f3) (hid f4) (hid fun w' => by have := asize_any n w' hnn.1 hnn.2; rwa [e] at this) (hid f6) n0
    · by_cases n1 : n ≤ 1048560
      · have e : sizeN n = n + 16 := by unfold sizeN; rw [if_pos (by omega)]
        exact seals_mid w vs _ key nonce be A0 A1 lb c0 lt c1 n rfl hL s1 _ _ (lt + 16) hA1 (hid hk) (hid hn) i1 i2 (hid (atag_len _ _ _ _)) (hid hql) (hid (by omega)) (hid f1) (hid f2) (hid f3) (hid f4) (hid fun w' => by have := asize_any n w' hnn.1 hnn.2; rwa [e] at this) (hid f6) (by omega) n1
      · have e : sizeN n = 0 := by unfold sizeN; rw [if_neg (by omega)]
        exact seals_big w vs _ key nonce be A0 A1 lb c0 lt c1 n rfl hL s1 _ _ (lt + 16) hA1 (hid hk) (hid hn) i1 i2 (hid (atag_len _ _ _ _)) (hid hql) (hid (by omega)) (hid f1) (hid f2) (hid f3) (hid f4) (hid fun w' => by have := asize_any n w' hnn.1 hnn.2; rwa [e] at this) (hid f6) (by omega) (by omega)
end Go.Proofs.YtpiamcgienkhaaaDoor
