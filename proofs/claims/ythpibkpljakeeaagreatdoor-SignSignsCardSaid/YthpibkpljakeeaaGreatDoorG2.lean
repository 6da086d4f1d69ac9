/- Texts laid together. -/
import Derived.Test.YthpibkpljakeeaaGreatDoorG1
import Derived.Test.YthpibkpljakeeaaGreatDoorQsM
namespace Go.Proofs.YthpibkpljakeeaaGreatDoor
open Go.RowKit
set_option maxRecDepth 4000 in
set_option maxHeartbeats 1000000 in
theorem equal_any (xs ys : List Int) (w : World) (hl : xs.length = 16) (hl2 : ys.length = 16) (hb : Bd 100000000000000000 xs) (hb2 : Bd 100000000000000000 ys) :
   Calls Tryz.prog 63 #[.agg (ints .i64 xs).toArray, .agg (ints .i64 ys).toArray] w fun e w' => e = .returned (.bool (decide (red xs = red ys))) ∧ Below w.heap.size w w' := by
 have HL := hid hl
 have HL2 := hid hl2
 have h1 : ∀ w, Calls Tryz.prog 74 #[.agg (ints .i64 xs).toArray] w fun e w' => e = .returned (.agg (ints .i64 (red xs)).toArray) ∧ Below w.heap.size w w' := fun w => reduced_any xs w hl (fun x hx => by have := hb x hx; omega)
 have h2 : ∀ w, Calls Tryz.prog 74 #[.agg (ints .i64 ys).toArray] w fun e w' => e = .returned (.agg (ints .i64 (red ys)).toArray) ∧ Below w.heap.size w w' := fun w => reduced_any ys w hl2 (fun x hx => by have := hb2 x hx; omega)
 have H1 := hid h1
 have H2 := hid h2
 have he : ∀ W, (Op.equalIn 10000 42 (.agg (ints .i64 (red xs)).toArray) (.agg (ints .i64 (red ys)).toArray)).run Tryz.prog W = .ok (decide (red xs = red ys)) W := fun W => eq24 (by rw [red_length, hl]) (by rw [red_length, hl2]) W
 have hN := (Arr.made w .i64 xs 44).alloc (.cells (ints .i64 ys).toArray 44)
 have hM := Arr.made (w.alloc (.cells (ints .i64 xs).toArray 44)) .i64 ys 44
 rw [World.size_alloc] at hM
 have hW := (below_new w (.cells (ints .i64 xs).toArray 44)).alloc (by simp) (.cells (ints .i64 ys).toArray 44)
 have hsz : ((w.alloc (.cells (ints .i64 xs).toArray 44)).alloc (.cells (ints .i64 ys).toArray 44)).heap.size = w.heap.size + 2 := by simp
 have HSZ := hid hsz
 clear hl hl2 hb hb2 h1 h2 hsz
 have heg := egt24
 go_enter Tryz.func63, Tryz.ntmps63
 go_wp2_with (fail)
 generalize ((w.alloc (.cells (ints .i64 xs).toArray 44)).alloc (.cells (ints .i64 ys).toArray 44)) = W at *
 refine region_quiet_in (Cl W) (by kernel_rfl) (by kernel_rfl) (Cl.drew W) ?_
 refine qs_read (.agg (ints .i64 xs).toArray) rfl (fun w' hw' => ex_load 44 (.tmp 2) rfl w.heap.size 0 rfl (ints .i64 xs) _ (hN.below hw' (by rw [HSZ.out]; omega)).range Tryz.underlying44 rfl (l26 HL.out)) ?_
 refine qs_callB (.agg (ints .i64 (red xs)).toArray) 74 #[.agg (ints .i64 xs).toArray] rfl (fun w' => by go_simp) (fun w' => H1.out w') ?_
 refine qs_read (.agg (ints .i64 ys).toArray) rfl (fun w' hw' => ex_load 44 (.tmp 3) rfl (w.heap.size + 1) 0 rfl (ints .i64 ys) _ (hM.below hw' (by rw [HSZ.out]; omega)).range Tryz.underlying44 rfl (l26 HL2.out)) ?_
 refine qs_callB (.agg (ints .i64 (red ys)).toArray) 74 #[.agg (ints .i64 ys).toArray] rfl (fun w' => by go_simp) (fun w' => H2.out w') ?_
 refine qs_pure (.bool (decide (red xs = red ys))) rfl (fun w' => by go_simp) ?_
 refine qs_pure (.bool (decide (red xs = red ys))) rfl (fun w' => by go_simp) ?_
 go_simp
 refine wpQuiet_nil ?_
 intro w' hw'
 go_wp2
 go_ret
 exact ⟨rfl, hW.trans (Below.mono hw' (by rw [HSZ.out]; omega))⟩
set_option maxHeartbeats 1000000
set_option maxRecDepth 4000
open Go.RowKit
def onesL (a b : Int) : List Int := a :: (List.replicate 30 255 ++ [b])
theorem onesL_length (a b : Int) : (onesL a b).length = 32 := by simp [onesL]
def full : List Int := List.replicate 32 255
theorem ones_any (a b : Int) (w : World) : Calls Tryz.prog 72 #[.int .u8 a, .int .u8 b] w fun e w' => e = .returned (.agg (ints .u8 (onesL a b)).toArray) ∧ Below w.heap.size w w' := by
 obtain ⟨z22, s22⟩ := zero_of_info inf22
 have hR := (Arr.made w .u8 (zeros 32) 22).alloc (.cells (ints .u8 (zeros 32)).toArray 22)
 have hD := Arr.made (w.alloc (.cells (ints .u8 (zeros 32)).toArray 22)) .u8 (zeros 32) 22
 have hW := (below_new w (.cells (ints .u8 (zeros 32)).toArray 22)).alloc (by simp) (.cells (ints .u8 (zeros 32)).toArray 22)
 rw [World.size_alloc] at hD
 have HFL : Hid (full.length = 32) := hid rfl
 have HZ : Hid (zeros 32 = fillK full 0) := hid (by rw [fillK_zero]; rfl)
 have HA : Hid (∀ i, i < 32 → full[i]? = some 255) := hid fun i h => by rw [full, List.getElem?_replicate, if_pos h]
 have HO : Hid ((full.set 0 a).set 31 b = onesL a b) := hid rfl
 have HOL := hid (onesL_length a b)
 generalize hfl : full = fl at *
 have HFULL := hid hfl
 clear hfl
 go_enter Tryz.func72, Tryz.ntmps72
 go_wp2
 generalize ((w.alloc (.cells (ints .u8 (zeros 32)).toArray 22)).alloc (.cells (ints .u8 (zeros 32)).toArray 22)) = W0 at *
 rw [HZ.out] at hD
 go_loopw [7] (fun i wr => ∃ k : Nat, k ≤ 32 ∧ i = .int .i64 k ∧ Arr wr w.heap.size 0 .u8 (zeros 32) ∧ Arr wr (w.heap.size + 1) 0 .u8 (fillK fl k) ∧ Below w.heap.size w wr) (fun i _ => 32 - (intOf i).toNat)
 case atStart => exact ⟨0, by omega, rfl, hR, hD, hW⟩
 case round =>
   clear hR hD hW
   obtain ⟨k, hk, rfl, hR, hD, hW⟩ := hrel
   rename World => W1
   by_cases hlt : k < 32
   · obtain ⟨z, cz, fz, _⟩ := hD.spot (i := k) (by rw [fillK_length, HFL.out]; exact hlt)
     rw [Nat.zero_add] at cz fz
     have hD1 := hD.set k 255
     rw [Nat.zero_add, fillK_set _ (HA.out k hlt)] at hD1
     have k0 : (0 : Int) ≤ k := by omega
     have k32 : (k : Int) < 32 := by omega
     have hwk : IntKind.i64.wrap ((k : Int) + 1) = (k : Int) + 1 := IntWalk.i64_in _ (by omega)
     go_wp2
     go_roundw
     case rel => exact ⟨k + 1, by omega, by go_num, hR.apart _ (.inl (by show w.heap.size + 1 ≠ w.heap.size; omega)), hD1, hW.setCell (by show w.heap.size ≤ w.heap.size + 1; omega) _⟩
     case measure => simp [intOf]; omega
   · have e : k = 32 := by omega
     have hk32 : ¬ (k : Int) < 32 := by omega
     have HE : Hid (fillK fl 32 = fl) := hid (by have h := fillK_end fl; rw [HFL.out] at h; exact h)
     rw [e, HE.out] at hD
     clear e
     obtain ⟨z, cz, fz, _⟩ := hD.spot (i := 0) (by rw [HFL.out]; omega)
     obtain ⟨z2, cz2, fz2, _⟩ := hD.spot (i := 31) (by rw [HFL.out]; omega)
     rw [Nat.zero_add] at cz fz cz2 fz2
     have hD1 := (hD.set 0 a).set 31 b
     rw [Nat.zero_add, Nat.zero_add, HO.out] at hD1
     have hR1 := (hR.apart (p := ⟨w.heap.size + 1, 0, none⟩) (.int .u8 a) (.inl (by show w.heap.size + 1 ≠ w.heap.size; omega))).apart (p := ⟨w.heap.size + 1, 31, none⟩) (.int .u8 b) (.inl (by show w.heap.size + 1 ≠ w.heap.size; omega))
     have hW1 := (hW.setCell (p := ⟨w.heap.size + 1, 0, none⟩) (by show w.heap.size ≤ w.heap.size + 1; omega) (.int .u8 a)).setCell (p := ⟨w.heap.size + 1, 31, none⟩) (by show w.heap.size ≤ w.heap.size + 1; omega) (.int .u8 b)
     generalize hos : onesL a b = os at *
     have HOS := hid hos
     clear hos
     have hs1 := hR1.room (l' := os) (k' := .u8) (by rw [zeros_len]; exact HOL.out)
     have hR2 := hR1.stored (l' := os) (by rw [zeros_len]; exact HOL.out)
     have hW2 := Below.setCells hW1 (g := w.heap.size) (by omega) 0 (ints .u8 os).toArray.toList
     go_wp2_with (first
       | (with_reducible refine wpList_load_mid (op := ⟨some 17, .load 22 (.tmp 5), _, _, _, _⟩) rfl 22 (.tmp 5) rfl (w.heap.size + 1) 0 rfl (ints .u8 os) _ (hD1.range) Tryz.underlying22 rfl (l22 HOL.out) ?_)
       | (with_reducible refine wpList_store_mid (op := ⟨none, .store 22 (.tmp 4) (.tmp 17), _, _, _, _⟩) rfl 22 (.tmp 4) (.tmp 17) rfl w.heap.size 0 (ints .u8 os).toArray rfl rfl hs1 (a22 HOL.out) (ints_all _ _) ?_))
     refine ret_rows rfl w.heap.size 0 rfl (ints .u8 os) _ hR2.range Tryz.underlying22 rfl (l22 HOL.out) rfl ⟨?_, hW2⟩
     rw [HOS.out]
def invL (xs : List Int) : List Int := powL xs (onesL 235 127) 256
theorem onesL_byt {a b : Int} (ha : 0 ≤ a ∧ a < 256) (hb : 0 ≤ b ∧ b < 256) : Byt (onesL a b) := fun x hx => by
 simp only [onesL, List.mem_cons, List.mem_append, List.mem_replicate, List.not_mem_nil, or_false] at hx
 rcases hx with rfl | ⟨_, rfl⟩ | rfl <;> omega
theorem invL_el {xs : List Int} (hx : El xs) : El (invL xs) := powL_el hx 256
theorem inverse_walk (xs m : List Int) (w : World) (HM : Hid (invL xs = m)) (hx : El xs) :
   Calls Tryz.prog 40 #[.agg (ints .i64 xs).toArray] w fun e w' => e = .returned (.agg (ints .i64 m).toArray) ∧ Below w.heap.size w w' := by
 obtain ⟨z26, s26⟩ := zero_of_info inf26
 have HX := hid hx
 have HXL := hid hx.len
 have HML : Hid (m.length = 16) := hid (by rw [← HM.out]; exact (invL_el hx).len)
 have HP : Hid (powL xs (onesL 235 127) 256 = m) := HM
 clear hx
 have HOB : Hid (Byt (onesL 235 127)) := hid (onesL_byt (by omega) (by omega))
 have HOL := hid (onesL_length 235 127)
 have HO1 : Hid (∀ w, Calls Tryz.prog 72 #[.int .u8 235, .int .u8 127] w fun e w' => e = .returned (.agg (ints .u8 (onesL 235 127)).toArray) ∧ Below w.heap.size w w') := hid (ones_any 235 127)
 generalize onesL 235 127 = os at *
 have hN := (Arr.made w .i64 xs 44).alloc (.cells (ints .i64 (zeros 16)).toArray 44)
 have hR := Arr.made (w.alloc (.cells (ints .i64 xs).toArray 44)) .i64 (zeros 16) 44
 have hW := (below_new w (.cells (ints .i64 xs).toArray 44)).alloc (by simp) (.cells (ints .i64 (zeros 16)).toArray 44)
 have hsz : w.heap.size + 1 < ((w.alloc (.cells (ints .i64 xs).toArray 44)).alloc (.cells (ints .i64 (zeros 16)).toArray 44)).heap.size := by simp
 rw [World.size_alloc] at hR
 go_enter Tryz.func40, Tryz.ntmps40
 go_wp2_with (fail)
 generalize ((w.alloc (.cells (ints .i64 xs).toArray 44)).alloc (.cells (ints .i64 (zeros 16)).toArray 44)) = W at *
 refine region_quiet_tail 3 (Cl W) (by kernel_rfl) (by kernel_rfl) (Cl.drew W) ?_
 simp only [List.take_succ_cons, List.take_zero, List.drop_succ_cons, List.drop_zero]
 refine qs_read (.agg (ints .i64 xs).toArray) rfl (fun w' hw' => ex_load 44 (.tmp 1) rfl w.heap.size 0 rfl (ints .i64 xs) _ (hN.below hw' (by omega)).range Tryz.underlying44 rfl (l26 HXL.out)) ?_
 refine qs_callB (.agg (ints .u8 os).toArray) 72 #[.int .u8 235, .int .u8 127] rfl (fun w' => by go_simp) (fun w' => HO1.out w') ?_
 refine qs_callB (.agg (ints .i64 m).toArray) 71 #[.agg (ints .i64 xs).toArray, .agg (ints .u8 os).toArray] rfl (fun w' => by go_simp) (fun w' => power_walk xs os m w' HP HX.out HOL.out HOB.out) ?_
 refine wpQuiet_nil ?_
 intro w' hw'
 have hR1 := hR.below hw' hsz
 have hs1 : w'.there (w.heap.size + 1) 0 (ints .i64 m).toArray.size := hR1.room (by rw [zeros_len]; exact HML.out)
 have hR2 := hR1.stored (l' := m) (by rw [zeros_len]; exact HML.out)
 have hW2 := Below.setCells (hW.trans (Below.mono hw' hW.size)) (g := w.heap.size + 1) (by omega) 0 (ints .i64 m).toArray.toList
 go_wp2_with (first
   | (with_reducible refine wpList_store_mid (op := ⟨none, .store 44 (.tmp 2) (.tmp 5), _, _, _, _⟩) rfl 44 (.tmp 2) (.tmp 5) rfl (w.heap.size + 1) 0 (ints .i64 m).toArray rfl rfl hs1 (a26 HML.out) (ints_all _ _) ?_))
 exact ret_rows rfl (w.heap.size + 1) 0 rfl (ints .i64 m) _ hR2.range Tryz.underlying44 rfl (l26 HML.out) rfl ⟨rfl, hW2⟩
theorem inverse_any (xs : List Int) (w : World) (hx : El xs) : Calls Tryz.prog 40 #[.agg (ints .i64 xs).toArray] w fun e w' => e = .returned (.agg (ints .i64 (invL xs)).toArray) ∧ Below w.heap.size w w' := inverse_walk xs _ w (hid rfl) hx
open Go.RowKit
def CallsTo (f : FuncId) (args : Array Value) (v : Value) : Prop := ∀ w, Calls Tryz.prog f args w fun e w' => e = .returned v ∧ Below w.heap.size w w'
def Bx (w : World) (b : Nat) (l : List Int) : Prop := Arr w b 0 .i64 l ∧ l.length = 16
def By (w : World) (b : Nat) (l : List Int) : Prop := Arr w b 0 .u8 l ∧ l.length = 32
section
variable {w w' W : World} {b : Nat} {l : List Int}
theorem Bx.lt (h : Bx w b l) : b < w.heap.size := h.1.lt (by rw [h.2]; omega)
theorem By.lt (h : By w b l) : b < w.heap.size := h.1.lt (by rw [h.2]; omega)
theorem Bx.next (h : Bx w b l) (hb : Below w.heap.size w w') : Bx w' b l := ⟨h.1.below hb h.lt, h.2⟩
theorem By.next (h : By w b l) (hb : Below w.heap.size w w') : By w' b l := ⟨h.1.below hb h.lt, h.2⟩
theorem Bx.range (h : Bx w b l) : w.rangeAt b 0 (ints .i64 l) := h.1.range
theorem By.range (h : By w b l) : w.rangeAt b 0 (ints .u8 l) := h.1.range
theorem Bx.room (h : Bx w b l) {l' : List Int} (e : l'.length = 16) : w.there b 0 (ints .i64 l').toArray.size := h.1.room (by rw [e, h.2])
theorem Bx.stored (h : Bx w b l) {l' : List Int} (e : l'.length = 16) : Bx (w.setCells b 0 (ints .i64 l').toArray.toList) b l' := ⟨h.1.stored (by rw [e, h.2]), e⟩
theorem Bx.past (h : Bx w b l) {b' : Nat} (vs : List Value) (hb : b' ≠ b) : Bx (w.setCells b' 0 vs) b l := ⟨h.1.past vs (.inl hb), h.2⟩
end
theorem put_new (w : World) (l : List Int) (hl : l.length = 16) :
   (w.alloc (.cells (ints .i64 (zeros 16)).toArray 44)).there w.heap.size 0 (ints .i64 l).toArray.size ∧ Bx ((w.alloc (.cells (ints .i64 (zeros 16)).toArray 44)).setCells w.heap.size 0 (ints .i64 l).toArray.toList) w.heap.size l ∧
   Below w.heap.size w ((w.alloc (.cells (ints .i64 (zeros 16)).toArray 44)).setCells w.heap.size 0 (ints .i64 l).toArray.toList) := by
 have hP := Arr.made w .i64 (zeros 16) 44
 exact ⟨hP.room (by rw [zeros_len]; exact hl), ⟨hP.stored (by rw [zeros_len]; exact hl), hl⟩, Below.setCells (below_new _ _) (Nat.le_refl _) _ _⟩
theorem qs_el {ops : Array Oper} {W : World} {Q : Act → Prop} {a : Act} {o : Oper} {rest : List Oper} {b : Nat} {l : List Int} (h : Bx W b l) (x : Operand) (hw : Region.wanted o (yielded ops a.tmps) = true) (ho : o.op = .load 44 x) (hx : a.eval x = .pointer (some ⟨b, 0, none⟩))
   (hk : wpQuiet Tryz.prog ops (Cl W) Q rest (a.put o.dst (.agg (ints .i64 l).toArray))) : wpQuiet Tryz.prog ops (Cl W) Q (o :: rest) a :=
 qs_read (.agg (ints .i64 l).toArray) hw (fun _ hw' => ex_load 44 x ho b 0 hx (ints .i64 l) _ (h.next hw').range Tryz.underlying44 rfl (l26 h.2)) hk
theorem qs_to {ops : Array Oper} {W : World} {Q : Act → Prop} {a : Act} {o : Oper} {rest : List Oper} {f : FuncId} {args : Array Value} {v : Value} (h : CallsTo f args v) (hw : Region.wanted o (yielded ops a.tmps) = true) (hr : ∀ w, (execOp a.eval o).run Tryz.prog w = .ok (.enter f args) w)
   (hk : wpQuiet Tryz.prog ops (Cl W) Q rest (a.put o.dst v)) : wpQuiet Tryz.prog ops (Cl W) Q (o :: rest) a := qs_callB v f args hw hr (fun w => h w) hk
end Go.Proofs.YthpibkpljakeeaaGreatDoor
