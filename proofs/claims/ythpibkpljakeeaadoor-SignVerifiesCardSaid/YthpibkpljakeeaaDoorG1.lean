/- Texts laid together. -/
import Derived.Test.YthpibkpljakeeaaDoorArr
import Derived.Test.YthpibkpljakeeaaDoorFe
import Derived.Test.YthpibkpljakeeaaDoorBits
import Derived.Test.YthpibkpljakeeaaDoorProg
import Derived.StillTailTactics
import Derived.Deep.QuietTactic
import Derived.BigQuiet
namespace Go.Proofs.YthpibkpljakeeaaDoor
open Go.RowKit
set_option maxRecDepth 4000 in
set_option maxHeartbeats 1000000 in
theorem carry_any (b : Nat) (xs : List Int) (w : World) (hl : xs.length = 16) (hb : Bd 1152921504606846976 xs) (hA : Arr w b 0 .i64 xs) :
   Calls Tryd.prog 73 #[.pointer (some ⟨b, 0, none⟩)] w fun e w' => e = .returned (.tuple #[]) ∧ Arr w' b 0 .i64 (cy xs) ∧ Only b w w' := by
 have HL := hid hl
 have HB := hid hb
 clear hb hl
 go_enter Tryd.func73, Tryd.ntmps73
 go_wp2
 go_loopw [2, 5] (fun o i wr => ∃ k : Nat, k ≤ 15 ∧ i = .int .i64 k ∧ o = .int .i64 (cl xs k).2 ∧ Arr wr b 0 .i64 (cl xs k).1 ∧ Only b w wr) (fun _ i _ => 15 - (intOf i).toNat)
 case atStart => exact ⟨0, by omega, rfl, rfl, hA, Only.refl _ _⟩
 case round =>
   clear hA
   obtain ⟨k, hk, rfl, rfl, hA, hO⟩ := hrel
   rename World => W1
   have HS := hid (cl_small xs HB.out k (by rw [HL.out]; omega))
   by_cases hlt : k < 15
   · have HLL : Hid (k < (cl xs k).1.length) := hid (by rw [cl_length, HL.out]; omega)
     have HX0 : Hid ((cl xs k).1.getD k 0 = xs.getD k 0) := hid (by simp only [List.getD, cl_above xs k k (Nat.le_refl _)])
     have HXB : Hid (-1152921504606846976 ≤ xs.getD k 0 ∧ xs.getD k 0 ≤ 1152921504606846976) := hid (HB.out.at_ (getD_some (by rw [HL.out]; omega)))
     have HN : Hid (cl xs (k + 1) = ((cl xs k).1.set k (((cl xs k).1.getD k 0 + (cl xs k).2) % 65536), ((cl xs k).1.getD k 0 + (cl xs k).2) / 65536)) := hid rfl
     generalize hc : cl xs k = st at *
     have HC := hid hc
     clear hc
     rcases st with ⟨zs, o⟩
     dsimp only at *
     obtain ⟨x, cx, fx, HX⟩ := (hA.spot (i := k) HLL.out)
     rw [Nat.zero_add] at cx fx
     have HXE : Hid (zs.getD k 0 = x) := hid (by simp [List.getD, HX.out])
     obtain ⟨t, ht⟩ : ∃ t, t = x + o := ⟨_, rfl⟩
     have hwt : IntKind.i64.wrap (x + o) = t := by rw [IntWalk.i64_in _ (by have h1 := HXB.out; have h2 := HS.out; rw [← HX0.out, HXE.out] at h1; omega), ht]
     rw [HXE.out, ← ht] at HN
     have HT := hid ht
     clear ht
     have k0 : (0 : Int) ≤ k := by omega
     have k15 : (k : Int) < 15 := by omega
     have k16 : (k : Int) < 16 := by omega
     have hkw : IntKind.i64.wrap ((k : Int) + 1) = (k : Int) + 1 := IntWalk.i64_in _ (by omega)
     have hmk := mask16 t
     go_wp2
     go_still_tail 9, (by kernel_rfl)
     change wpList _ _ _ _ _ W1.drew
     have hA1 : Arr (W1.drew.setCell ⟨b, k, none⟩ (.int .i64 t)) b 0 .i64 (zs.set k t) := by have h := hA.drew.set k t; rw [Nat.zero_add] at h; exact h
     have hO1 : Only b w (W1.drew.setCell ⟨b, k, none⟩ (.int .i64 t)) := hO.drew.setCell (.inl rfl) _
     have hz : (zs.set k t)[k]? = some t := List.getElem?_set_self HLL.out
     have c1 := hA1.at_ hz
     have f1 := hA1.free (i := k) (by rw [List.length_set]; exact HLL.out)
     rw [Nat.zero_add] at c1 f1
     have cx1 : W1.drew.cell? ⟨b, k, none⟩ = some (.int .i64 x) := cx
     have fx1 : W1.drew.frozen? ⟨b, k, none⟩ = false := fx
     clear cx fx hz hA hO
     generalize W1.drew = W2 at *
     go_wp2
     generalize (W2.setCell ⟨b, k, none⟩ (.int .i64 t)) = W3 at *
     clear cx1 fx1
     go_still_tail 8, (by kernel_rfl)
     change wpList _ _ _ _ _ W3.drew
     have hA2 : Arr (W3.drew.setCell ⟨b, k, none⟩ (.int .i64 (t % 65536))) b 0 .i64 (zs.set k (t % 65536)) := by
       have h := hA1.drew.set k (t % 65536)
       rw [Nat.zero_add, List.set_set] at h; exact h
     have hO2 : Only b w (W3.drew.setCell ⟨b, k, none⟩ (.int .i64 (t % 65536))) := hO1.drew.setCell (.inl rfl) _
     have cx2 : W3.drew.cell? ⟨b, k, none⟩ = some (.int .i64 t) := c1
     have fx2 : W3.drew.frozen? ⟨b, k, none⟩ = false := f1
     clear c1 f1 hA1 hO1
     generalize W3.drew = W4 at *
     go_wp2
     go_roundw
     case rel => exact ⟨k + 1, by omega, by go_num, by rw [HN.out], by rw [HN.out]; exact hA2, hO2⟩
     case measure => simp [intOf]; omega
   · have e : k = 15 := by omega
     subst e
     have HLL : Hid ((cl xs 15).1.length = 16) := hid (by rw [cl_length, HL.out])
     have HX0 : Hid ((cl xs 15).1.getD 15 0 = xs.getD 15 0) := hid (by simp only [List.getD, cl_above xs 15 15 (Nat.le_refl _)])
     have HXB : Hid (-1152921504606846976 ≤ xs.getD 15 0 ∧ xs.getD 15 0 ≤ 1152921504606846976) := hid (HB.out.at_ (getD_some (by rw [HL.out]; omega)))
     have HLA : Hid (lastOf xs = (cl xs 15).1.getD 15 0 + (cl xs 15).2) := hid rfl
     have HCA : Hid (cyA xs = (cl xs 15).1.set 15 (lastOf xs % 32768)) := hid rfl
     have HCY : Hid (cy xs = (cyA xs).set 0 ((cyA xs).getD 0 0 + 19 * (lastOf xs / 32768))) := hid rfl
     generalize hc : cl xs 15 = st at *
     have HC := hid hc
     clear hc
     rcases st with ⟨zs, o⟩
     dsimp only at *
     obtain ⟨x, cx, fx, HX⟩ := (hA.spot (i := 15) (by rw [HLL.out]; omega))
     rw [Nat.zero_add] at cx fx
     have HXE : Hid (zs.getD 15 0 = x) := hid (by simp [List.getD, HX.out])
     obtain ⟨t, ht⟩ : ∃ t, t = x + o := ⟨_, rfl⟩
     have htb : -1152940000000000000 ≤ t ∧ t ≤ 1152940000000000000 := by have h1 := HXB.out; have h2 := HS.out; rw [← HX0.out, HXE.out] at h1; omega
     have hwt : IntKind.i64.wrap (x + o) = t := by rw [IntWalk.i64_in _ (by omega), ht]
     rw [HXE.out, ← ht] at HLA
     rw [HLA.out] at HCA HCY
     have HT := hid ht
     have HTB := hid htb
     clear ht htb
     have hmk := mask15 t
     have hA1 : Arr (W1.setCell ⟨b, 15, none⟩ (.int .i64 (t % 32768))) b 0 .i64 (cyA xs) := by have h := hA.set 15 (t % 32768); rw [Nat.zero_add] at h; rw [HCA.out]; exact h
     have hO1 : Only b w (W1.setCell ⟨b, 15, none⟩ (.int .i64 (t % 32768))) := hO.setCell (.inl rfl) _
     obtain ⟨y, cy0, fy0, HY⟩ := hA1.spot (i := 0) (by rw [HCA.out]; simp [HLL.out])
     have HYE : Hid ((cyA xs).getD 0 0 = y) := hid (by simp [List.getD, HY.out])
     have HYB : Hid (-1152921504606846976 ≤ y ∧ y ≤ 1152921504606846976) := hid (by
       have h := cl_below xs 15 0 y (by omega) (by rw [HC.out]; have h := HY.out; rw [HCA.out, List.getElem?_set_ne (by omega)] at h; exact h)
       omega)
     rw [Nat.zero_add] at cy0 fy0
     obtain ⟨q, hq⟩ : ∃ q, q = t / 32768 := ⟨_, rfl⟩
     have hq1 : t / 32768 = q := hq.symm
     have HQ : Hid (-35190000000000 ≤ q ∧ q ≤ 35190000000000) := hid (by have := HTB.out; omega)
     have w1 : IntKind.i64.wrap (19 * q) = 19 * q := IntWalk.i64_in _ (by have := HQ.out; omega)
     have w2 : IntKind.i64.wrap (y + 19 * q) = y + 19 * q := IntWalk.i64_in _ (by have := HQ.out; have := HYB.out; omega)
     rw [hq1, HYE.out] at HCY
     have HQ1 := hid hq
     clear hq
     go_wp2
     generalize (W1.setCell ⟨b, 15, none⟩ (.int .i64 (t % 32768))) = W2 at *
     clear cx fx hA hO
     go_still_tail 10, (by kernel_rfl)
     change wpList _ _ _ _ _ W2.drew
     have hA2 : Arr (W2.drew.setCell ⟨b, 0, none⟩ (.int .i64 (y + 19 * q))) b 0 .i64 (cy xs) := by
       have h := hA1.drew.set 0 (y + 19 * q)
       rw [Nat.zero_add] at h; rw [HCY.out]; exact h
     have hO2 : Only b w (W2.drew.setCell ⟨b, 0, none⟩ (.int .i64 (y + 19 * q))) := hO1.drew.setCell (.inl rfl) _
     have cx2 : W2.drew.cell? ⟨b, 0, none⟩ = some (.int .i64 y) := cy0
     have fx2 : W2.drew.frozen? ⟨b, 0, none⟩ = false := fy0
     clear cy0 fy0 hA1 hO1
     generalize W2.drew = W4 at *
     go_wp2
     go_end0
     exact ⟨rfl, hA2, hO2⟩
open Go.RowKit
def zeros (n : Nat) : List Int := List.replicate n 0
theorem zeros_len (n : Nat) : (zeros n).length = n := by simp [zeros]
theorem inf24 : (Tryd.prog.info? 27).map (fun i => (i.zero, i.size)) = some (some (.agg (ints .i64 (zeros 16)).toArray), 16) := by kernel_rfl
theorem inf26 : (Tryd.prog.info? 29).map (fun i => (i.zero, i.size)) = some (some (.agg (ints .i64 (zeros 16)).toArray), 16) := by kernel_rfl
theorem inf22 : (Tryd.prog.info? 22).map (fun i => (i.zero, i.size)) = some (some (.agg (ints .u8 (zeros 32)).toArray), 32) := by kernel_rfl
theorem inf55 : (Tryd.prog.info? 93).map (fun i => (i.zero, i.size)) = some (some (.agg (ints .i64 (zeros 32)).toArray), 32) := by kernel_rfl
theorem siz {T n : Nat} {z : Value} {q : List Int} {k : IntKind} (h : (Tryd.prog.info? T).map (fun i => (i.zero, i.size)) = some (some z, n)) (hq : q.length = n) : (Tryd.prog.info? T).map (·.size) = some (ints k q).length ∧ (Tryd.prog.info? T).map (·.size) = some (ints k q).toArray.size := by
 cases hc : Tryd.prog.info? T with
 | none => rw [hc] at h; simp at h
 | some i =>
   rw [hc] at h
   simp only [Option.map_some, Option.some.injEq, Prod.mk.injEq] at h
   simp [h.2, hq]
theorem l24 {q : List Int} (h : q.length = 16) : (Tryd.prog.info? 27).map (·.size) = some (ints .i64 q).length := (siz inf24 h).1
theorem a24 {q : List Int} (h : q.length = 16) : (Tryd.prog.info? 27).map (·.size) = some (ints .i64 q).toArray.size := (siz inf24 h).2
theorem l26 {q : List Int} (h : q.length = 16) : (Tryd.prog.info? 29).map (·.size) = some (ints .i64 q).length := (siz inf26 h).1
theorem a26 {q : List Int} (h : q.length = 16) : (Tryd.prog.info? 29).map (·.size) = some (ints .i64 q).toArray.size := (siz inf26 h).2
theorem l22 {q : List Int} (h : q.length = 32) : (Tryd.prog.info? 22).map (·.size) = some (ints .u8 q).length := (siz inf22 h).1
theorem a22 {q : List Int} (h : q.length = 32) : (Tryd.prog.info? 22).map (·.size) = some (ints .u8 q).toArray.size := (siz inf22 h).2
theorem Arr.room {w : World} {b o : Nat} {k k' : IntKind} {l l' : List Int} (h : Arr w b o k l) (e : l'.length = l.length) : w.there b o (ints k' l').toArray.size := by
 have := h.there
 simpa [e] using this
theorem Arr.stored {w : World} {b o : Nat} {k : IntKind} {l l' : List Int} (h : Arr w b o k l) (e : l'.length = l.length) : Arr (w.setCells b o (ints k l').toArray.toList) b o k l' := by
 have := h.all e
 simpa using this
theorem cy_length (xs : List Int) : (cy xs).length = xs.length := by simp [cy, cyA, cl_length]
theorem Bd.set {b : Int} {xs : List Int} (h : Bd b xs) (i : Nat) (x : Int) (hx : -b ≤ x ∧ x ≤ b) : Bd b (xs.set i x) := fun y hy => by
 rcases List.mem_or_eq_of_mem_set hy with h1 | h1
 · exact h y h1
 · rw [h1]; exact hx
def red (xs : List Int) : List Int := cy ((cy (xs.set 0 (xs.getD 0 0 + 19))).set 0 ((cy (xs.set 0 (xs.getD 0 0 + 19))).getD 0 0 - 19))
theorem red_length (xs : List Int) : (red xs).length = xs.length := by simp [red, cy_length]
theorem cy_small (xs : List Int) (hl : xs.length = 16) (h : Bd 1152921504606846976 xs) : Bd 700000000000000 (cy xs) := by
 have h1 := cl_small xs h 15 (by omega)
 have h2 := h.at_ (getD_some (l := xs) (i := 15) (by omega))
 have e : (cl xs 15).1.getD 15 0 = xs.getD 15 0 := by simp only [List.getD, cl_above xs 15 15 (Nat.le_refl _)]
 have h3 : Bd 65536 (cyA xs) := fun x hx => by
   obtain ⟨i, hi⟩ := List.getElem?_of_mem hx
   by_cases e15 : 15 = i
   · subst e15
     rw [cyA, List.getElem?_set_self (by rw [cl_length]; omega)] at hi
     injection hi with hi; omega
   · rw [cyA, List.getElem?_set_ne e15] at hi
     have hi2 := (List.getElem?_eq_some_iff.1 hi).1
     rw [cl_length] at hi2
     have := cl_below xs 15 i x (by omega) hi
     omega
 have h4 := h3.at_ (getD_some (l := cyA xs) (i := 0) (by simp [cyA, cl_length]; omega))
 refine Bd.set (fun y hy => ?_) 0 _ ?_
 · have := h3 y hy; omega
 · unfold lastOf; rw [e]; omega
def rowA (x : Int) (ys : List Int) (i : Nat) (z : List Int) : Nat → List Int
 | 0 => z
 | j + 1 => (rowA x ys i z j).set (i + j) ((rowA x ys i z j).getD (i + j) 0 + x * ys.getD j 0)
def colA (xs ys : List Int) : Nat → List Int
 | 0 => zeros 32
 | i + 1 => rowA (xs.getD i 0) ys i (colA xs ys i) 16
def foldL (z : List Int) : List Int := (List.range 16).map fun i => z.getD i 0 + 38 * z.getD (i + 16) 0
def mulL (xs ys : List Int) : List Int := cy (cy (foldL (colA xs ys 16)))
theorem foldL_length (z : List Int) : (foldL z).length = 16 := by simp [foldL]
theorem foldL_at {z : List Int} {i : Nat} {x y : Int} (h : i < 16) (hx : z[i]? = some x) (hy : z[i + 16]? = some y) : (foldL z)[i]? = some (x + 38 * y) := by simp [foldL, h, List.getD, hx, hy]
theorem rowA_length (x : Int) (ys : List Int) (i : Nat) (z : List Int) (j : Nat) : (rowA x ys i z j).length = z.length := by
 induction j with
 | zero => rfl
 | succ j ih => simp [rowA, ih]
theorem colA_length (xs ys : List Int) (i : Nat) : (colA xs ys i).length = 32 := by
 induction i with
 | zero => simp [colA, zeros_len]
 | succ i ih => simp [colA, rowA_length, ih]
theorem rowA_past (x : Int) (ys : List Int) (i : Nat) (z : List Int) (j k : Nat) (h : i + j ≤ k) : (rowA x ys i z j)[k]? = z[k]? := by
 induction j with
 | zero => rfl
 | succ j ih => simp only [rowA]; rw [List.getElem?_set_ne (by omega), ih (by omega)]
theorem mul_bd {x y b : Int} (hx : -b ≤ x ∧ x ≤ b) (hy : -b ≤ y ∧ y ≤ b) : -(b * b) ≤ x * y ∧ x * y ≤ b * b := by
 have hb : 0 ≤ b := by omega
 have h := Int.natAbs_mul x y
 have h1 : x.natAbs ≤ b.natAbs := by omega
 have h2 : y.natAbs ≤ b.natAbs := by omega
 have h3 := Nat.mul_le_mul h1 h2
 have h4 : ((b.natAbs * b.natAbs : Nat) : Int) = b * b := by rw [Int.natCast_mul, Int.natAbs_of_nonneg hb]
 omega
theorem rowA_bd (x : Int) (ys : List Int) (i : Nat) (z : List Int) (B : Int) (hz : Bd B z) (hx : -70000 ≤ x ∧ x ≤ 70000) (hy : Bd 70000 ys) (hl : ys.length = 16) (j : Nat) (hj : j ≤ 16) : Bd (B + 4900000000) (rowA x ys i z j) := by
 induction j with
 | zero => exact fun v hv => by have := hz v hv; omega
 | succ j ih =>
   simp only [rowA]
   intro v hv
   rcases List.mem_or_eq_of_mem_set hv with h1 | h1
   · exact ih (by omega) v h1
   · have hyj := hy.at_ (getD_some (l := ys) (i := j) (by omega))
     have hp := mul_bd hx hyj
     by_cases hk : i + j < z.length
     · have h0 := hz.at_ (getD_some (l := z) (i := i + j) hk)
       have e : (rowA x ys i z j).getD (i + j) 0 = z.getD (i + j) 0 := by simp only [List.getD, rowA_past x ys i z j (i + j) (by omega)]
       rw [e] at h1
       omega
     · rw [List.set_eq_of_length_le (by rw [rowA_length]; omega)] at hv
       exact ih (by omega) v hv
theorem colA_bd (xs ys : List Int) (hx : Bd 70000 xs) (hy : Bd 70000 ys) (hl : xs.length = 16) (hl2 : ys.length = 16) (i : Nat) (hi : i ≤ 16) : Bd (4900000000 * i) (colA xs ys i) := by
 induction i with
 | zero => exact fun v hv => by have := List.eq_of_mem_replicate hv; omega
 | succ i ih =>
   have h := rowA_bd (xs.getD i 0) ys i (colA xs ys i) _ (ih (by omega)) (hx.at_ (getD_some (by omega))) hy hl2 16 (by omega)
   intro v hv
   have := h v hv
   omega
theorem foldL_bd (z : List Int) (hz : Bd 80000000000 z) (hl : z.length = 32) : Bd 4000000000000 (foldL z) := fun v hv => by
 obtain ⟨i, hi⟩ := List.getElem?_of_mem hv
 have h16 := (List.getElem?_eq_some_iff.1 hi).1
 rw [foldL_length] at h16
 have hx := getD_some (l := z) (i := i) (by omega)
 have hy := getD_some (l := z) (i := i + 16) (by omega)
 rw [foldL_at h16 hx hy] at hi
 injection hi with hi
 have h1 := hz.at_ hx
 have h2 := hz.at_ hy
 omega
theorem rowA_ev (x : Int) (ys : List Int) (i : Nat) (z : List Int) (j : Nat) (hj : j ≤ ys.length) (hz : i + j ≤ z.length) : ev (rowA x ys i z j) = ev z + x * ev (ys.take j) * 65536 ^ i := by
 induction j with
 | zero => simp [rowA, ev]
 | succ j ih =>
   have h1 := ih (by omega) (by omega)
   simp only [rowA]
   rw [ev_set _ _ _ _ (getD_some (by rw [rowA_length]; omega)), h1]
   have e : ev (ys.take (j + 1)) = ev (ys.take j) + ys.getD j 0 * 65536 ^ j := by
     have hj2 := getD_some (l := ys) (i := j) (by omega)
     rw [List.take_add_one, hj2, ev_append]
     simp only [Option.toList_some, ev, List.length_take]
     rw [show min j ys.length = j by omega]
     simp only [Int.mul_zero, Int.add_zero]
     rw [Int.mul_comm (ys.getD j 0)]
   rw [e, Int.pow_add]
   have e2 : (rowA x ys i z j).getD (i + j) 0 + x * ys.getD j 0 - (rowA x ys i z j).getD (i + j) 0 = x * ys.getD j 0 := by omega
   rw [e2, Int.mul_add, Int.add_mul]
   have e3 : x * ys.getD j 0 * (65536 ^ i * 65536 ^ j) = x * (ys.getD j 0 * 65536 ^ j) * 65536 ^ i := by
     rw [← Int.mul_assoc x, Int.mul_assoc (x * ys.getD j 0), Int.mul_comm (65536 ^ i)]
   rw [e3]; omega
theorem take_ev (xs : List Int) (i : Nat) (h : i < xs.length) : ev (xs.take (i + 1)) = ev (xs.take i) + xs.getD i 0 * 65536 ^ i := by
 rw [List.take_add_one, getD_some h, ev_append]
 simp only [Option.toList_some, ev, List.length_take]
 rw [show min i xs.length = i by omega]
 simp only [Int.mul_zero, Int.add_zero]
 rw [Int.mul_comm (xs.getD i 0)]
theorem ev_zeros (n : Nat) : ev (zeros n) = 0 := by
 induction n with
 | zero => rfl
 | succ n ih => simp only [zeros, List.replicate_succ, ev] at ih ⊢; rw [ih]; rfl
theorem colA_ev (xs ys : List Int) (hl : xs.length = 16) (hl2 : ys.length = 16) (i : Nat) (hi : i ≤ 16) : ev (colA xs ys i) = ev (xs.take i) * ev ys := by
 induction i with
 | zero => simp [colA, ev_zeros, ev]
 | succ i ih =>
   have h1 := rowA_ev (xs.getD i 0) ys i (colA xs ys i) 16 (by omega) (by rw [colA_length]; omega)
   rw [List.take_of_length_le (i := 16) (l := ys) (by omega)] at h1
   refine Eq.trans (show ev (colA xs ys (i + 1)) = _ from h1) ?_
   rw [ih (by omega), take_ev xs i (by omega), Int.add_mul]
   rw [Int.mul_assoc (xs.getD i 0), Int.mul_assoc (xs.getD i 0), Int.mul_comm (ev ys)]
theorem ev_zip (n : Nat) (c : Int) : ∀ (a b d : List Int), a.length = n → b.length = n → d.length = n → (∀ (i : Nat) (x y : Int), a[i]? = some x → b[i]? = some y → d[i]? = some (x + c * y)) → ev d = ev a + c * ev b := by
 induction n with
 | zero =>
   intro a b d h1 h2 h3 _
   obtain rfl := List.length_eq_zero_iff.1 h1
   obtain rfl := List.length_eq_zero_iff.1 h2
   obtain rfl := List.length_eq_zero_iff.1 h3
   simp [ev]
 | succ n ih =>
   intro a b d h1 h2 h3 h
   match a, b, d, h1, h2, h3 with
   | x :: a, y :: b, z :: d, h1, h2, h3 =>
     have h0 := h 0 x y rfl rfl
     simp at h0
     have hr := ih a b d (by simpa using h1) (by simpa using h2) (by simpa using h3) (fun i u v hu hv => by simpa using h (i + 1) u v (by simpa using hu) (by simpa using hv))
     simp only [ev, hr, h0, Int.mul_add]
     rw [← Int.mul_assoc, ← Int.mul_assoc, Int.mul_comm c 65536]
     omega
theorem foldL_ev (z : List Int) (hl : z.length = 32) : ev (foldL z) = ev (z.take 16) + 38 * ev (z.drop 16) :=
 ev_zip 16 38 _ _ _ (by simp; omega) (by simp; omega) (foldL_length z) (fun i x y hx hy => by
   have hi : i < 16 := by
     have := (List.getElem?_eq_some_iff.1 hx).1
     simp at this; omega
   refine foldL_at hi ?_ ?_
   · rw [List.getElem?_take, if_pos hi] at hx; exact hx
   · rw [List.getElem?_drop, Nat.add_comm] at hy; exact hy)
open Go.RowKit
set_option maxRecDepth 4000 in
set_option maxHeartbeats 1000000 in
theorem reduced_any (xs : List Int) (w : World) (hl : xs.length = 16) (hb : Bd 1000000000000000000 xs) :
   Calls Tryd.prog 58 #[.agg (ints .i64 xs).toArray] w fun e w' => e = .returned (.agg (ints .i64 (red xs)).toArray) ∧ Below w.heap.size w w' := by
 obtain ⟨z24, s24⟩ := zero_of_info inf24
 have HL := hid hl
 have HX0 : Hid (-1000000000000000000 ≤ xs.getD 0 0 ∧ xs.getD 0 0 ≤ 1000000000000000000) := hid (hb.at_ (getD_some (by omega)))
 have HR : Hid (red xs = cy ((cy (xs.set 0 (xs.getD 0 0 + 19))).set 0 ((cy (xs.set 0 (xs.getD 0 0 + 19))).getD 0 0 - 19))) := hid rfl
 have H1 : Hid (Bd 1152921504606846976 (xs.set 0 (xs.getD 0 0 + 19))) := hid (Bd.set (fun y hy => by have := hb y hy; omega) _ _ (by have := HX0.out; omega))
 have h2 : Bd 700000000000000 (cy (xs.set 0 (xs.getD 0 0 + 19))) := cy_small _ (by simp [hl]) H1.out
 have HX1 : Hid (-700000000000000 ≤ (cy (xs.set 0 (xs.getD 0 0 + 19))).getD 0 0 ∧ (cy (xs.set 0 (xs.getD 0 0 + 19))).getD 0 0 ≤ 700000000000000) := hid (h2.at_ (getD_some (by rw [cy_length]; simp [hl])))
 have H2 : Hid (Bd 1152921504606846976 ((cy (xs.set 0 (xs.getD 0 0 + 19))).set 0 ((cy (xs.set 0 (xs.getD 0 0 + 19))).getD 0 0 - 19))) := hid (Bd.set (fun y hy => by have := h2 y hy; omega) _ _ (by have := HX1.out; omega))
 have HLy : Hid ((cy (xs.set 0 (xs.getD 0 0 + 19))).length = 16) := hid (by rw [cy_length]; simp [hl])
 clear hb h2 hl
 have HX00 : Hid (xs[0]? = some (xs.getD 0 0)) := hid (getD_some (by rw [HL.out]; omega))
 generalize hxx : xs.getD 0 0 = x at *
 have HXX := hid hxx
 have hx19 : IntKind.i64.wrap (x + 19) = x + 19 := IntWalk.i64_in _ (by have := HX0.out; omega)
 have HLs : Hid ((xs.set 0 (x + 19)).length = 16) := hid (by simp [HL.out])
 generalize hxs : xs.set 0 (x + 19) = xs1 at *
 have HXS := hid hxs
 clear hxs hxx
 have HY00 : Hid ((cy xs1)[0]? = some ((cy xs1).getD 0 0)) := hid (getD_some (by rw [HLy.out]; omega))
 have HLy1 : Hid ((cy xs1).length = 16) := HLy
 have HY1 : Hid (cy xs1 = cy xs1) := hid rfl
 generalize hys : cy xs1 = ys at *
 have HYS := hid hys
 clear hys HY1 HLy1
 generalize hyy : ys.getD 0 0 = y at *
 have hy19 : IntKind.i64.wrap (y - 19) = y - 19 := IntWalk.i64_in _ (by have := HX1.out; omega)
 have HLs2 : Hid ((ys.set 0 (y - 19)).length = 16) := hid (by simp [HLy.out])
 generalize hzs : ys.set 0 (y - 19) = zs at *
 have HZS := hid hzs
 have HYY := hid hyy
 clear hzs hyy
 have hN0 : Arr (w.alloc (.cells (ints .i64 xs).toArray 29)) w.heap.size 0 .i64 xs := Arr.made w .i64 xs 29
 have hB0 := (below_new w (.cells (ints .i64 xs).toArray 29)).alloc (by simp) (.cells (ints .i64 (zeros 16)).toArray 27)
 have hR0 := Arr.made (w.alloc (.cells (ints .i64 xs).toArray 29)) .i64 (zeros 16) 27
 rw [World.size_alloc] at hR0
 have hD0 := Arr.made ((w.alloc (.cells (ints .i64 xs).toArray 29)).alloc (.cells (ints .i64 (zeros 16)).toArray 27)) .i64 (zeros 16) 27
 rw [World.size_alloc, World.size_alloc] at hD0
 have hN1 := hN0.alloc (.cells (ints .i64 (zeros 16)).toArray 27)
 have hR1 := hR0.alloc (.cells (ints .i64 (zeros 16)).toArray 27)
 have hB1 := hB0.alloc (by simp; omega) (.cells (ints .i64 (zeros 16)).toArray 27)
 have hD1 := hD0.stored (l' := xs) (by rw [zeros_len]; exact HL.out)
 have hR2 := hR1.past (b' := w.heap.size + 1 + 1) (o' := 0) (ints .i64 xs).toArray.toList (.inl (by omega))
 have hB2 := Below.setCells hB1 (g := w.heap.size + 1 + 1) (by omega) 0 (ints .i64 xs).toArray.toList
 have c0 := hD1.at_ HX00.out
 have f0 := hD1.free (i := 0) (by rw [HL.out]; omega)
 have hs1 : (((w.alloc (.cells (ints .i64 xs).toArray 29)).alloc (.cells (ints .i64 (zeros 16)).toArray 27)).alloc (.cells (ints .i64 (zeros 16)).toArray 27)).there (w.heap.size + 1 + 1) 0 (ints .i64 xs).toArray.size := hD0.room (by rw [zeros_len]; exact HL.out)
 clear hN0 hR0 hD0 hR1 hB0 hB1
 go_enter Tryd.func58, Tryd.ntmps58
 go_wp2_with (first
   | (with_reducible refine wpList_load_mid (op := ⟨some 5, .load 27 (.tmp 4), _, _, _, _⟩) rfl 27 (.tmp 4) rfl w.heap.size 0 rfl (ints .i64 xs) _ (hN1.range) Tryd.underlying27 rfl (l24 HL.out) ?_)
   | (with_reducible refine wpList_store_mid (op := ⟨none, .store 27 (.tmp 3) (.tmp 5), _, _, _, _⟩) rfl 27 (.tmp 3) (.tmp 5) rfl (w.heap.size + 1 + 1) 0 (ints .i64 xs).toArray rfl rfl hs1 (a24 HL.out) (ints_all _ _) ?_))
 have hA1 := hD1.set 0 (x + 19)
 rw [Nat.add_zero, HXS.out] at hA1
 have hR3 := hR2.apart (p := ⟨w.heap.size + 1 + 1, 0, none⟩) (.int .i64 (x + 19)) (.inl (by show w.heap.size + 1 + 1 ≠ w.heap.size + 1; omega))
 have hB3 := hB2.setCell (p := ⟨w.heap.size + 1 + 1, 0, none⟩) (by show w.heap.size ≤ w.heap.size + 1 + 1; omega) (.int .i64 (x + 19))
 clear hs1 c0 f0 hN1 hD1 hR2 hB2
 refine (carry_any _ _ _ HLs.out H1.out hA1).mono ?_
 rintro e w1 ⟨rfl, hA2, hO2⟩
 rw [HYS.out] at hA2
 have hR4 := hR3.only hO2 (by omega)
 have hB4 := hB3.trans (hO2.below (B := w.heap.size) (by omega) hB3.size)
 clear hA1 hR3 hB3 hO2
 have c0 := hA2.at_ HY00.out
 have f0 := hA2.free (i := 0) (by rw [HLy.out]; omega)
 have hA3 := hA2.set 0 (y - 19)
 rw [Nat.add_zero, HZS.out] at hA3
 have hR5 := hR4.apart (p := ⟨w.heap.size + 1 + 1, 0, none⟩) (.int .i64 (y - 19)) (.inl (by show w.heap.size + 1 + 1 ≠ w.heap.size + 1; omega))
 have hB5 := hB4.setCell (p := ⟨w.heap.size + 1 + 1, 0, none⟩) (by show w.heap.size ≤ w.heap.size + 1 + 1; omega) (.int .i64 (y - 19))
 clear hA2 hR4 hB4
 go_wp2_with (fail)
 refine (carry_any _ _ _ HLs2.out H2.out hA3).mono ?_
 rintro e w2 ⟨rfl, hA6, hO6⟩
 rw [← HR.out] at hA6
 have hR6 := hR5.only hO6 (by omega)
 have hB6 := hB5.trans (hO6.below (B := w.heap.size) (by omega) hB5.size)
 have HLR : Hid ((red xs).length = 16) := hid (by rw [red_length]; exact HL.out)
 have hs6 : w2.there (w.heap.size + 1) 0 (ints .i64 (red xs)).toArray.size := hR6.room (by rw [zeros_len]; exact HLR.out)
 have hR7 := hR6.stored (l' := red xs) (by rw [zeros_len]; exact HLR.out)
 have hB7 := Below.setCells hB6 (g := w.heap.size + 1) (by omega) 0 (ints .i64 (red xs)).toArray.toList
 clear hA3 hR5 hB5 hO6
 go_wp2_with (first
   | (with_reducible refine wpList_load_mid (op := ⟨some 16, .load 27 (.tmp 3), _, _, _, _⟩) rfl 27 (.tmp 3) rfl (w.heap.size + 1 + 1) 0 rfl (ints .i64 (red xs)) _ (hA6.range) Tryd.underlying27 rfl (l24 HLR.out) ?_)
   | (with_reducible refine wpList_store_mid (op := ⟨none, .store 27 (.tmp 2) (.tmp 16), _, _, _, _⟩) rfl 27 (.tmp 2) (.tmp 16) rfl (w.heap.size + 1) 0 (ints .i64 (red xs)).toArray rfl rfl hs6 (a24 HLR.out) (ints_all _ _) ?_))
 exact ret_rows rfl (w.heap.size + 1) 0 rfl (ints .i64 (red xs)) _ hR7.range Tryd.underlying27 rfl (l24 HLR.out) rfl ⟨rfl, hB7⟩
open Go.RowKit
def dgs (bs : List Int) : List Int := (List.range 16).map fun i => bs.getD (2 * i) 0 + 256 * bs.getD (2 * i + 1) 0
theorem dgs_length (bs : List Int) : (dgs bs).length = 16 := by simp [dgs]
theorem dgs_at (bs : List Int) {i : Nat} (h : i < 16) : (dgs bs)[i]? = some (bs.getD (2 * i) 0 + 256 * bs.getD (2 * i + 1) 0) := by simp [dgs, h]
def byd (ds : List Int) : List Int := (List.range 32).map fun i => ds.getD (i / 2) 0 / 256 ^ (i % 2) % 256
theorem byd_length (ds : List Int) : (byd ds).length = 32 := by simp [byd]
theorem byd_even (ds : List Int) {i : Nat} (h : i < 16) : (byd ds)[2 * i]? = some (ds.getD i 0 % 256) := by
 have e1 : 2 * i / 2 = i := by omega
 have e2 : 2 * i % 2 = 0 := by omega
 unfold byd
 rw [List.getElem?_map, List.getElem?_range (by omega)]
 simp [e1, e2]
theorem byd_odd (ds : List Int) {i : Nat} (h : i < 16) : (byd ds)[2 * i + 1]? = some (ds.getD i 0 / 256 % 256) := by
 have e1 : (2 * i + 1) / 2 = i := by omega
 have e2 : (2 * i + 1) % 2 = 1 := by omega
 unfold byd
 rw [List.getElem?_map, List.getElem?_range (by omega)]
 simp [e1, e2]
def Byt (l : List Int) : Prop := ∀ x ∈ l, 0 ≤ x ∧ x < 256
theorem Byt.at_ {l : List Int} (h : Byt l) {i : Nat} {x : Int} (hx : l[i]? = some x) : 0 ≤ x ∧ x < 256 := h x (List.mem_of_getElem? hx)
def ofL (bs : List Int) : List Int := (dgs bs).set 15 ((dgs bs).getD 15 0 % 32768)
theorem ofL_length (bs : List Int) : (ofL bs).length = 16 := by simp [ofL, dgs_length]
set_option maxRecDepth 4000 in
set_option maxHeartbeats 1000000 in
theorem of_any (bs : List Int) (w : World) (hl : bs.length = 32) (hb : Byt bs) :
   Calls Tryd.prog 22 #[.agg (ints .u8 bs).toArray] w fun e w' => e = .returned (.agg (ints .i64 (ofL bs)).toArray) ∧ Below w.heap.size w w' := by
 obtain ⟨z24, s24⟩ := zero_of_info inf24
 obtain ⟨z26, s26⟩ := zero_of_info inf26
 have HL := hid hl
 have HB := hid hb
 clear hl hb
 have hN := ((Arr.made w .u8 bs 22).alloc (.cells (ints .i64 (zeros 16)).toArray 29)).alloc (.cells (ints .i64 (zeros 16)).toArray 29)
 have hR := (Arr.made (w.alloc (.cells (ints .u8 bs).toArray 22)) .i64 (zeros 16) 29).alloc (.cells (ints .i64 (zeros 16)).toArray 29)
 have hD := Arr.made ((w.alloc (.cells (ints .u8 bs).toArray 22)).alloc (.cells (ints .i64 (zeros 16)).toArray 29)) .i64 (zeros 16) 29
 have hW := ((below_new w (.cells (ints .u8 bs).toArray 22)).alloc (by simp) (.cells (ints .i64 (zeros 16)).toArray 29)).alloc (by simp; omega) (.cells (ints .i64 (zeros 16)).toArray 29)
 rw [World.size_alloc] at hR
 rw [World.size_alloc, World.size_alloc] at hD
 have HZ : Hid (zeros 16 = fillK (dgs bs) 0) := hid (by rw [fillK_zero, dgs_length]; rfl)
 go_enter Tryd.func22, Tryd.ntmps22
 go_wp2
 generalize (((w.alloc (.cells (ints .u8 bs).toArray 22)).alloc (.cells (ints .i64 (zeros 16)).toArray 29)).alloc (.cells (ints .i64 (zeros 16)).toArray 29)) = W0 at *
 rw [HZ.out] at hD
 go_loopw [5] (fun i wr => ∃ k : Nat, k ≤ 16 ∧ i = .int .i64 k ∧ Arr wr w.heap.size 0 .u8 bs ∧ Arr wr (w.heap.size + 1) 0 .i64 (zeros 16) ∧ Arr wr (w.heap.size + 1 + 1) 0 .i64 (fillK (dgs bs) k) ∧ Below w.heap.size w wr) (fun i _ => 16 - (intOf i).toNat)
 case atStart => exact ⟨0, by omega, rfl, hN, hR, hD, hW⟩
 case round =>
   clear hN hR hD hW
   obtain ⟨k, hk, rfl, hN, hR, hD, hW⟩ := hrel
   rename World => W1
   by_cases hlt : k < 16
   · obtain ⟨x, cx, fx, HX⟩ := hN.spot (i := 2 * k) (by rw [HL.out]; omega)
     obtain ⟨y, cy0, fy, HY⟩ := hN.spot (i := 2 * k + 1) (by rw [HL.out]; omega)
     obtain ⟨z, cz, fz, HZ2⟩ := hD.spot (i := k) (by rw [fillK_length, dgs_length]; omega)
     rw [Nat.zero_add] at cx fx cy0 fy cz fz
     have hx := HB.out.at_ HX.out
     have hy := HB.out.at_ HY.out
     have HV : Hid ((dgs bs)[k]? = some (x + 256 * y)) := hid (by rw [dgs_at bs hlt]; simp [List.getD, HX.out, HY.out])
     obtain ⟨p, hp⟩ : ∃ p, p = 2 * k := ⟨_, rfl⟩
     obtain ⟨q, hq⟩ : ∃ q, q = 2 * k + 1 := ⟨_, rfl⟩
     have hwp : IntKind.i64.wrap (2 * (k : Int)) = (p : Int) := by rw [IntWalk.i64_in _ (by omega)]; omega
     have hwq : IntKind.i64.wrap ((p : Int) + 1) = (q : Int) := by rw [IntWalk.i64_in _ (by omega)]; omega
     have hwk : IntKind.i64.wrap ((k : Int) + 1) = (k : Int) + 1 := IntWalk.i64_in _ (by omega)
     rw [← hp] at cx fx
     rw [← hq] at cy0 fy
     have k0 : (0 : Int) ≤ k := by omega
     have k16 : (k : Int) < 16 := by omega
     have p0 : (0 : Int) ≤ p := by omega
     have p32 : (p : Int) < 32 := by omega
     have q0 : (0 : Int) ≤ q := by omega
     have q32 : (q : Int) < 32 := by omega
     have hx64 : IntKind.i64.wrap x = x := IntWalk.i64_in _ (by omega)
     have hy64 : IntKind.i64.wrap y = y := IntWalk.i64_in _ (by omega)
     have hs8 : IntKind.i64.wrap (y * 256) = 256 * y := by rw [IntWalk.i64_in _ (by omega)]; omega
     obtain ⟨v, hv⟩ : ∃ v, v = x + 256 * y := ⟨_, rfl⟩
     have hor : bits .or .i64 x (256 * y) = v := by rw [or16 x y hx hy, hv]
     rw [← hv] at HV
     have HPQ := hid (And.intro hp (And.intro hq hv))
     clear hp hq fx fy hv
     go_wp2
     go_still_tail 16, (by kernel_rfl)
     change wpList _ _ _ _ _ W1.drew
     have hN1 : Arr (W1.drew.setCell ⟨w.heap.size + 1 + 1, k, none⟩ (.int .i64 v)) w.heap.size 0 .u8 bs := hN.drew.apart _ (.inl (by show w.heap.size + 1 + 1 ≠ w.heap.size; omega))
     have hR1 : Arr (W1.drew.setCell ⟨w.heap.size + 1 + 1, k, none⟩ (.int .i64 v)) (w.heap.size + 1) 0 .i64 (zeros 16) := hR.drew.apart _ (.inl (by show w.heap.size + 1 + 1 ≠ w.heap.size + 1; omega))
     have hD1 : Arr (W1.drew.setCell ⟨w.heap.size + 1 + 1, k, none⟩ (.int .i64 v)) (w.heap.size + 1 + 1) 0 .i64 (fillK (dgs bs) (k + 1)) := by
       have h := hD.drew.set k v
       rw [Nat.zero_add, fillK_set _ HV.out] at h; exact h
     have hW1 : Below w.heap.size w (W1.drew.setCell ⟨w.heap.size + 1 + 1, k, none⟩ (.int .i64 v)) := hW.drew.setCell (by show w.heap.size ≤ w.heap.size + 1 + 1; omega) _
     have cz1 : W1.drew.cell? ⟨w.heap.size + 1 + 1, k, none⟩ = some (.int .i64 z) := cz
     have fz1 : W1.drew.frozen? ⟨w.heap.size + 1 + 1, k, none⟩ = false := fz
     clear cz fz cx cy0 hN hR hD hW
     generalize W1.drew = W4 at *
     go_wp2
     go_roundw
     case rel => exact ⟨k + 1, by omega, by go_num, hN1, hR1, hD1, hW1⟩
     case measure => simp [intOf]; omega
   · have e : k = 16 := by omega
     subst e
     have HF : Hid (fillK (dgs bs) 16 = dgs bs) := hid (by have := fillK_end (dgs bs); rw [dgs_length] at this; exact this)
     rw [HF.out] at hD
     have HDL := hid (dgs_length bs)
     have HOL := hid (ofL_length bs)
     have HO : Hid (ofL bs = (dgs bs).set 15 ((dgs bs).getD 15 0 % 32768)) := hid rfl
     generalize hds : dgs bs = ds at *
     have HDS := hid hds
     clear hds
     obtain ⟨x, cx, fx, HX⟩ := hD.spot (i := 15) (by rw [HDL.out]; omega)
     rw [Nat.zero_add] at cx fx
     have HXE : Hid (ds.getD 15 0 = x) := hid (by simp [List.getD, HX.out])
     rw [HXE.out] at HO
     have hmk := mask15 x
     have hD1 := hD.set 15 (x % 32768)
     rw [Nat.zero_add, ← HO.out] at hD1
     have hR1 := hR.apart (p := ⟨w.heap.size + 1 + 1, 15, none⟩) (.int .i64 (x % 32768)) (.inl (by show w.heap.size + 1 + 1 ≠ w.heap.size + 1; omega))
     have hW1 := hW.setCell (p := ⟨w.heap.size + 1 + 1, 15, none⟩) (by show w.heap.size ≤ w.heap.size + 1 + 1; omega) (.int .i64 (x % 32768))
     have hs1 : (W1.setCell ⟨w.heap.size + 1 + 1, 15, none⟩ (.int .i64 (x % 32768))).there (w.heap.size + 1) 0 (ints .i64 (ofL bs)).toArray.size := hR1.room (by rw [zeros_len]; exact HOL.out)
     have hR2 := hR1.stored (l' := ofL bs) (by rw [zeros_len]; exact HOL.out)
     have hW2 := Below.setCells hW1 (g := w.heap.size + 1) (by omega) 0 (ints .i64 (ofL bs)).toArray.toList
     clear hD hR hW hN
     go_wp2_with (first
       | (with_reducible refine wpList_load_mid (op := ⟨some 31, .load 29 (.tmp 3), _, _, _, _⟩) rfl 29 (.tmp 3) rfl (w.heap.size + 1 + 1) 0 rfl (ints .i64 (ofL bs)) _ (hD1.range) Tryd.underlying29 rfl (l26 HOL.out) ?_)
       | (with_reducible refine wpList_store_mid (op := ⟨none, .store 29 (.tmp 2) (.tmp 31), _, _, _, _⟩) rfl 29 (.tmp 2) (.tmp 31) rfl (w.heap.size + 1) 0 (ints .i64 (ofL bs)).toArray rfl rfl hs1 (a26 HOL.out) (ints_all _ _) ?_))
     exact ret_rows rfl (w.heap.size + 1) 0 rfl (ints .i64 (ofL bs)) _ hR2.range Tryd.underlying29 rfl (l26 HOL.out) rfl ⟨rfl, hW2⟩
open Go.RowKit
def smallL (n : Int) : List Int := if 0 ≤ n ∧ n ≤ 65535 then n :: zeros 15 else zeros 16
theorem smallL_length (n : Int) : (smallL n).length = 16 := by unfold smallL; split <;> simp [zeros]
set_option maxRecDepth 4000 in
set_option maxHeartbeats 1000000 in
theorem small_any (n : Int) (w : World) : Calls Tryd.prog 26 #[.int .i64 n] w fun e w' => e = .returned (.agg (ints .i64 (smallL n)).toArray) ∧ Below w.heap.size w w' := by
 obtain ⟨z24, s24⟩ := zero_of_info inf24
 obtain ⟨z26, s26⟩ := zero_of_info inf26
 have hR := Arr.made w .i64 (zeros 16) 29
 have hW := below_new w (.cells (ints .i64 (zeros 16)).toArray 29)
 by_cases h : 0 ≤ n ∧ n ≤ 65535
 · have e : smallL n = n :: zeros 15 := by unfold smallL; rw [if_pos h]
   have h0 : decide (n < 0) = false := by simp; omega
   have h1 : decide (65535 < n) = false := by simp; omega
   have hs := hR.room (l' := n :: zeros 15) (k' := .i64) rfl
   have hR2 := hR.stored (l' := n :: zeros 15) rfl
   have hW2 := Below.setCells hW (g := w.heap.size) (by omega) 0 (ints .i64 (n :: zeros 15)).toArray.toList
   rw [e]
   clear e h
   have HQ : Hid ((n :: zeros 15).length = 16) := hid rfl
   go_enter Tryd.func26, Tryd.ntmps26
   go_wp2_with (first
     | ((with_reducible refine wpList_store_mid (op := ⟨none, .store 29 (.tmp 2) (.tmp 12), _, _, _, _⟩) rfl 29 (.tmp 2) (.tmp 12) rfl w.heap.size 0 (ints .i64 (n :: zeros 15)).toArray rfl ?_ hs (a26 HQ.out) (ints_all _ _) ?_); focus (kernel_rfl)))
   exact ret_rows rfl w.heap.size 0 rfl (ints .i64 (n :: zeros 15)) _ hR2.range Tryd.underlying29 rfl (l26 HQ.out) rfl ⟨rfl, hW2⟩
 · have e : smallL n = zeros 16 := by unfold smallL; rw [if_neg h]
   have hs := hR.room (l' := zeros 16) (k' := .i64) rfl
   have hR2 := hR.stored (l' := zeros 16) rfl
   have hW2 := Below.setCells hW (g := w.heap.size) (by omega) 0 (ints .i64 (zeros 16)).toArray.toList
   rw [e]
   have HQ : Hid ((zeros 16).length = 16) := hid rfl
   by_cases h2 : n < 0
   · have h0 : decide (n < 0) = true := by simp; omega
     clear e h
     go_enter Tryd.func26, Tryd.ntmps26
     go_wp2_with (first
       | ((with_reducible refine wpList_store_mid (op := ⟨none, .store 29 (.tmp 2) (.tmp 9), _, _, _, _⟩) rfl 29 (.tmp 2) (.tmp 9) rfl w.heap.size 0 (ints .i64 (zeros 16)).toArray rfl ?_ hs (a26 HQ.out) (ints_all _ _) ?_); focus (kernel_rfl)))
     exact ret_rows rfl w.heap.size 0 rfl (ints .i64 (zeros 16)) _ hR2.range Tryd.underlying29 rfl (l26 HQ.out) rfl ⟨rfl, hW2⟩
   · have h0 : decide (n < 0) = false := by simp; omega
     have h1 : decide (65535 < n) = true := by simp; omega
     clear e h h2
     go_enter Tryd.func26, Tryd.ntmps26
     go_wp2_with (first
       | ((with_reducible refine wpList_store_mid (op := ⟨none, .store 29 (.tmp 2) (.tmp 9), _, _, _, _⟩) rfl 29 (.tmp 2) (.tmp 9) rfl w.heap.size 0 (ints .i64 (zeros 16)).toArray rfl ?_ hs (a26 HQ.out) (ints_all _ _) ?_); focus (kernel_rfl)))
     exact ret_rows rfl w.heap.size 0 rfl (ints .i64 (zeros 16)) _ hR2.range Tryd.underlying29 rfl (l26 HQ.out) rfl ⟨rfl, hW2⟩
set_option maxHeartbeats 1000000
set_option maxRecDepth 4000
open Go.RowKit
theorem index24 {ds : List Int} {k : Nat} {d : Int} (h : ds[k]? = some d) (hk : k < 16) (w : World) : (Instr.index 27 (.agg (ints .i64 ds).toArray) (.int .i64 (k : Int))).run Tryd.prog w = .ok (.int .i64 d) w :=
 run_index_row 27 2 16 (ints .i64 ds) .i64 k (.int .i64 d) (.int .i64) Tryd.underlying27 Tryd.underlying2 rfl (by kernel_rfl) hk (by simp [ints, h])
theorem odd_any (xs : List Int) (d : Int) (w : World) (hl : xs.length = 16) (hb : Bd 1000000000000000000 xs) (HD0 : Hid ((red xs)[0]? = some d)) :
   Calls Tryd.prog 51 #[.agg (ints .i64 xs).toArray] w fun e w' => e = .returned (.bool (d % 2 == 1)) ∧ Below w.heap.size w w' := by
 have HL := hid hl
 have HB := hid hb
 clear hl hb
 have hN := Arr.made w .i64 xs 29
 have hW := below_new w (.cells (ints .i64 xs).toArray 29)
 have hix : ∀ w, (Instr.index 27 (.agg (ints .i64 (red xs)).toArray) (.int .i64 0)).run Tryd.prog w = .ok (.int .i64 d) w := fun w => index24 HD0.out (by omega) w
 have hmk := mask1 d
 go_enter Tryd.func51, Tryd.ntmps51
 go_wp2_with (first
   | (with_reducible refine wpList_load_mid (op := ⟨some 3, .load 29 (.tmp 1), _, _, _, _⟩) rfl 29 (.tmp 1) rfl w.heap.size 0 rfl (ints .i64 xs) _ (hN.range) Tryd.underlying29 rfl (l26 HL.out) ?_)
   | (go_at_call 58; refine (reduced_any xs _ HL.out HB.out).mono ?_; rintro e w1 ⟨rfl, hb1⟩))
 go_ret
 exact ⟨rfl, hW.trans (hb1.mono hW.size)⟩
theorem bytes_any (xs : List Int) (w : World) (hl : xs.length = 16) (hb : Bd 1000000000000000000 xs) :
   Calls Tryd.prog 23 #[.agg (ints .i64 xs).toArray] w fun e w' => e = .returned (.agg (ints .u8 (byd (red xs))).toArray) ∧ Below w.heap.size w w' := by
 obtain ⟨z22, s22⟩ := zero_of_info inf22
 have HL := hid hl
 have HB := hid hb
 clear hl hb
 have hN := ((Arr.made w .i64 xs 29).alloc (.cells (ints .u8 (zeros 32)).toArray 22)).alloc (.cells (ints .u8 (zeros 32)).toArray 22)
 have hR := (Arr.made (w.alloc (.cells (ints .i64 xs).toArray 29)) .u8 (zeros 32) 22).alloc (.cells (ints .u8 (zeros 32)).toArray 22)
 have hD := Arr.made ((w.alloc (.cells (ints .i64 xs).toArray 29)).alloc (.cells (ints .u8 (zeros 32)).toArray 22)) .u8 (zeros 32) 22
 have hW := ((below_new w (.cells (ints .i64 xs).toArray 29)).alloc (by simp) (.cells (ints .u8 (zeros 32)).toArray 22)).alloc (by simp; omega) (.cells (ints .u8 (zeros 32)).toArray 22)
 rw [World.size_alloc] at hR
 rw [World.size_alloc, World.size_alloc] at hD
 have HRL : Hid ((red xs).length = 16) := hid (by rw [red_length]; exact HL.out)
 have HZ : Hid (zeros 32 = fillK (byd (red xs)) 0) := hid (by rw [fillK_zero, byd_length]; rfl)
 rw [HZ.out] at hD
 go_enter Tryd.func23, Tryd.ntmps23
 go_wp2_with (first
   | (with_reducible refine wpList_load_mid (op := ⟨some 6, .load 29 (.tmp 1), _, _, _, _⟩) rfl 29 (.tmp 1) rfl w.heap.size 0 rfl (ints .i64 xs) _ (hN.range) Tryd.underlying29 rfl (l26 HL.out) ?_)
   | (go_at_call 58; refine (reduced_any xs _ HL.out HB.out).mono ?_; rintro e w1 ⟨rfl, hb1⟩))
 have hN1 := hN.below hb1 (by simp; omega)
 have hR1 := hR.below hb1 (by simp)
 have hD1 := hD.below hb1 (by simp)
 have hW1 := hW.trans (hb1.mono (by simp; omega))
 clear hN hR hD hW hb1
 have HBL := hid (byd_length (red xs))
 have HE : Hid (∀ i, i < 16 → (byd (red xs))[2 * i]? = some ((red xs).getD i 0 % 256)) := hid fun i h => byd_even _ h
 have HO : Hid (∀ i, i < 16 → (byd (red xs))[2 * i + 1]? = some ((red xs).getD i 0 / 256 % 256)) := hid fun i h => byd_odd _ h
 go_loopw [8] (fun i wr => ∃ k : Nat, k ≤ 16 ∧ i = .int .i64 k ∧ Arr wr (w.heap.size + 1) 0 .u8 (zeros 32) ∧ Arr wr (w.heap.size + 1 + 1) 0 .u8 (fillK (byd (red xs)) (2 * k)) ∧ Below w.heap.size w wr) (fun i _ => 16 - (intOf i).toNat)
 case atStart => exact ⟨0, by omega, rfl, hR1, hD1, hW1⟩
 case round =>
   clear hN1 hR1 hD1 hW1
   obtain ⟨k, hk, rfl, hR, hD, hW⟩ := hrel
   rename World => W1
   by_cases hlt : k < 16
   · have hx : (red xs)[k]? = some ((red xs).getD k 0) := getD_some (by rw [HRL.out]; exact hlt)
     have hix := fun w => index24 hx hlt w
     have HX := hid hx
     clear hx
     obtain ⟨z, cz, fz, _⟩ := hD.spot (i := 2 * k) (by rw [fillK_length, HBL.out]; omega)
     obtain ⟨z2, cz2, fz2, _⟩ := hD.spot (i := 2 * k + 1) (by rw [fillK_length, HBL.out]; omega)
     rw [Nat.zero_add] at cz fz cz2 fz2
     have HV1 := hid (HE.out k hlt)
     have HV2 := hid (HO.out k hlt)
     generalize (red xs).getD k 0 = d at *
     obtain ⟨p, hp⟩ : ∃ p, p = 2 * k := ⟨_, rfl⟩
     obtain ⟨q, hq⟩ : ∃ q, q = p + 1 := ⟨_, rfl⟩
     have hwp : IntKind.i64.wrap (2 * (k : Int)) = (p : Int) := by rw [IntWalk.i64_in _ (by omega)]; omega
     have hwq : IntKind.i64.wrap ((p : Int) + 1) = (q : Int) := by rw [IntWalk.i64_in _ (by omega)]; omega
     have hwk : IntKind.i64.wrap ((k : Int) + 1) = (k : Int) + 1 := IntWalk.i64_in _ (by omega)
     rw [← hp] at cz fz cz2 fz2 HV1 HV2 hD
     rw [← hq] at cz2 fz2 HV2
     have k0 : (0 : Int) ≤ k := by omega
     have k16 : (k : Int) < 16 := by omega
     have p0 : (0 : Int) ≤ p := by omega
     have p32 : (p : Int) < 32 := by omega
     have q0 : (0 : Int) ≤ q := by omega
     have q32 : (q : Int) < 32 := by omega
     have pq : p ≠ q := by omega
     have HPQ := hid (And.intro hp hq)
     clear hp hq
     have hD1 := (hD.set p (d % 256)).set q (d / 256 % 256)
     rw [Nat.zero_add, Nat.zero_add, fillK_set _ HV1.out, ← HPQ.out.2, fillK_set _ HV2.out, show q + 1 = 2 * (k + 1) by have := HPQ.out; omega] at hD1
     go_wp2
     go_roundw
     case rel => exact ⟨k + 1, by omega, by go_num, (hR.apart _ (.inl (by show w.heap.size + 1 + 1 ≠ w.heap.size + 1; omega))).apart _ (.inl (by show w.heap.size + 1 + 1 ≠ w.heap.size + 1; omega)), hD1, (hW.setCell (by show w.heap.size ≤ w.heap.size + 1 + 1; omega) _).setCell (by show w.heap.size ≤ w.heap.size + 1 + 1; omega) _⟩
     case measure => simp [intOf]; omega
   · have e : k = 16 := by omega
     subst e
     have HF : Hid (fillK (byd (red xs)) 32 = byd (red xs)) := hid (by have := fillK_end (byd (red xs)); rw [HBL.out] at this; exact this)
     rw [show 2 * 16 = 32 from rfl, HF.out] at hD
     have hs1 : W1.there (w.heap.size + 1) 0 (ints .u8 (byd (red xs))).toArray.size := hR.room (by rw [zeros_len]; exact HBL.out)
     have hR2 := hR.stored (l' := byd (red xs)) (by rw [zeros_len]; exact HBL.out)
     have hW2 := Below.setCells hW (g := w.heap.size + 1) (by omega) 0 (ints .u8 (byd (red xs))).toArray.toList
     go_wp2_with (first
       | (with_reducible refine wpList_load_mid (op := ⟨some 25, .load 22 (.tmp 3), _, _, _, _⟩) rfl 22 (.tmp 3) rfl (w.heap.size + 1 + 1) 0 rfl (ints .u8 (byd (red xs))) _ (hD.range) Tryd.underlying22 rfl (l22 HBL.out) ?_)
       | (with_reducible refine wpList_store_mid (op := ⟨none, .store 22 (.tmp 2) (.tmp 25), _, _, _, _⟩) rfl 22 (.tmp 2) (.tmp 25) rfl (w.heap.size + 1) 0 (ints .u8 (byd (red xs))).toArray rfl rfl hs1 (a22 HBL.out) (ints_all _ _) ?_))
     exact ret_rows rfl (w.heap.size + 1) 0 rfl (ints .u8 (byd (red xs))) _ hR2.range Tryd.underlying22 rfl (l22 HBL.out) rfl ⟨rfl, hW2⟩
set_option maxHeartbeats 1000000
set_option maxRecDepth 4000
open Go.RowKit
def plus (xs ys : List Int) : List Int := (List.range 16).map fun i => xs.getD i 0 + ys.getD i 0
def minus (xs ys : List Int) : List Int := (List.range 16).map fun i => xs.getD i 0 - ys.getD i 0
def mixK (S xs : List Int) (k : Nat) : List Int := S.take k ++ xs.drop k
theorem mixK_set {S xs : List Int} {k : Nat} {x : Int} (hl : S.length = xs.length) (h : S[k]? = some x) : (mixK S xs k).set k x = mixK S xs (k + 1) := by
 have hk := (List.getElem?_eq_some_iff.1 h).1
 apply List.ext_getElem?
 intro i
 unfold mixK
 rw [List.getElem?_set]
 have l1 : (S.take k ++ xs.drop k).length = xs.length := by simp; omega
 by_cases e : k = i
 · subst e
   rw [if_pos rfl, if_pos (by rw [l1]; omega), List.getElem?_append_left (by simp; omega), List.getElem?_take, if_pos (by omega), h]
 · rw [if_neg e]
   by_cases h1 : i < k
   · rw [List.getElem?_append_left (by simp; omega), List.getElem?_append_left (by simp; omega), List.getElem?_take, List.getElem?_take, if_pos h1, if_pos (by omega)]
   · rw [List.getElem?_append_right (by simp; omega), List.getElem?_append_right (by simp; omega), List.getElem?_drop, List.getElem?_drop]
     congr 1; simp; omega
theorem mixK_at {S xs : List Int} {k : Nat} (hl : S.length = xs.length) (h : k < xs.length) : (mixK S xs k)[k]? = xs[k]? := by
 unfold mixK
 rw [List.getElem?_append_right (by simp; omega), List.getElem?_drop]
 congr 1; simp; omega
theorem mixK_zero (S xs : List Int) : mixK S xs 0 = xs := by simp [mixK]
theorem mixK_end (S xs : List Int) (hl : S.length = xs.length) : mixK S xs xs.length = S := by simp [mixK, ← hl]
theorem plus_length (xs ys : List Int) : (plus xs ys).length = 16 := by simp [plus]
theorem minus_length (xs ys : List Int) : (minus xs ys).length = 16 := by simp [minus]
theorem plus_at {xs ys : List Int} {i : Nat} {x y : Int} (h : i < 16) (hx : xs[i]? = some x) (hy : ys[i]? = some y) : (plus xs ys)[i]? = some (x + y) := by simp [plus, h, List.getD, hx, hy]
theorem minus_at {xs ys : List Int} {i : Nat} {x y : Int} (h : i < 16) (hx : xs[i]? = some x) (hy : ys[i]? = some y) : (minus xs ys)[i]? = some (x - y) := by simp [minus, h, List.getD, hx, hy]
theorem add_any (xs ys : List Int) (w : World) (hl : xs.length = 16) (hl2 : ys.length = 16) (hb : Bd 100000000000000000 xs) (hb2 : Bd 100000000000000000 ys) :
   Calls Tryd.prog 44 #[.agg (ints .i64 xs).toArray, .agg (ints .i64 ys).toArray] w fun e w' => e = .returned (.agg (ints .i64 (cy (plus xs ys))).toArray) ∧ Below w.heap.size w w' := by
 obtain ⟨z26, s26⟩ := zero_of_info inf26
 have HL := hid hl
 have HL2 := hid hl2
 have HB := hid hb
 have HB2 := hid hb2
 have HPL : Hid ((plus xs ys).length = xs.length) := hid (by rw [plus_length]; exact hl.symm)
 clear hl hb hl2 hb2
 have hD := ((Arr.made w .i64 xs 29).alloc (.cells (ints .i64 ys).toArray 29)).alloc (.cells (ints .i64 (zeros 16)).toArray 29)
 have hN := (Arr.made (w.alloc (.cells (ints .i64 xs).toArray 29)) .i64 ys 29).alloc (.cells (ints .i64 (zeros 16)).toArray 29)
 have hR := Arr.made ((w.alloc (.cells (ints .i64 xs).toArray 29)).alloc (.cells (ints .i64 ys).toArray 29)) .i64 (zeros 16) 29
 have hW := ((below_new w (.cells (ints .i64 xs).toArray 29)).alloc (by simp) (.cells (ints .i64 ys).toArray 29)).alloc (by simp; omega) (.cells (ints .i64 (zeros 16)).toArray 29)
 rw [World.size_alloc] at hN
 rw [World.size_alloc, World.size_alloc] at hR
 have HZ : Hid (xs = mixK (plus xs ys) xs 0) := hid (mixK_zero _ _).symm
 go_enter Tryd.func44, Tryd.ntmps44
 go_wp2_with (first
   | (with_reducible refine wpList_load_mid (op := ⟨some 8, .load 27 (.tmp 7), _, _, _, _⟩) rfl 27 (.tmp 7) rfl (w.heap.size + 1) 0 rfl (ints .i64 ys) _ (hN.range) Tryd.underlying27 rfl (l24 HL2.out) ?_))
 generalize (((w.alloc (.cells (ints .i64 xs).toArray 29)).alloc (.cells (ints .i64 ys).toArray 29)).alloc (.cells (ints .i64 (zeros 16)).toArray 29)) = W0 at *
 go_loopw [9] (fun i wr => ∃ k : Nat, k ≤ 16 ∧ i = .int .i64 k ∧ Arr wr (w.heap.size + 1 + 1) 0 .i64 (zeros 16) ∧ Arr wr w.heap.size 0 .i64 (mixK (plus xs ys) xs k) ∧ Below w.heap.size w wr) (fun i _ => 16 - (intOf i).toNat)
 case atStart => exact ⟨0, by omega, rfl, hR, by rw [← HZ.out]; exact hD, hW⟩
 case round =>
   clear hN hR hD hW
   obtain ⟨k, hk, rfl, hR, hD, hW⟩ := hrel
   rename World => W1
   by_cases hlt : k < 16
   · have HY : Hid (ys[k]? = some (ys.getD k 0)) := hid (getD_some (by rw [HL2.out]; exact hlt))
     have HX : Hid (xs[k]? = some (xs.getD k 0)) := hid (getD_some (by rw [HL.out]; exact hlt))
     generalize ys.getD k 0 = y at *
     generalize xs.getD k 0 = x at *
     have hx := HB.out.at_ HX.out
     have hy := HB2.out.at_ HY.out
     have hix := fun w => index24 HY.out hlt w
     have HM : Hid ((mixK (plus xs ys) xs k)[k]? = some x) := hid (by rw [mixK_at HPL.out (by rw [HL.out]; exact hlt)]; exact HX.out)
     have cz := hD.at_ HM.out
     have fz := hD.free (i := k) (List.getElem?_eq_some_iff.1 HM.out).1
     rw [Nat.zero_add] at cz fz
     obtain ⟨v, hv⟩ : ∃ v, v = x + y := ⟨_, rfl⟩
     have hwv : IntKind.i64.wrap (x + y) = v := by rw [IntWalk.i64_in _ (by omega), hv]
     have HV := hid hv
     clear hv
     have hD1 := hD.set k v
     rw [Nat.zero_add, mixK_set HPL.out (by rw [plus_at hlt HX.out HY.out, HV.out])] at hD1
     have hwk : IntKind.i64.wrap ((k : Int) + 1) = (k : Int) + 1 := IntWalk.i64_in _ (by omega)
     have k0 : (0 : Int) ≤ k := by omega
     have k16 : (k : Int) < 16 := by omega
     go_wp2
     go_roundw
     case rel => exact ⟨k + 1, by omega, by go_num, hR.apart _ (.inl (by show w.heap.size ≠ w.heap.size + 1 + 1; omega)), hD1, hW.setCell (by show w.heap.size ≤ w.heap.size; omega) _⟩
     case measure => simp [intOf]; omega
   · have e : k = 16 := by omega
     subst e
     have HE : Hid (mixK (plus xs ys) xs 16 = plus xs ys) := hid (by have h := mixK_end (plus xs ys) xs HPL.out; rw [HL.out] at h; exact h)
     rw [HE.out] at hD
     have HPB : Hid (Bd 1152921504606846976 (plus xs ys)) := hid fun v hv => by
       obtain ⟨i, hi⟩ := List.getElem?_of_mem hv
       have h16 := (List.getElem?_eq_some_iff.1 hi).1
       rw [plus_length] at h16
       have hx := getD_some (l := xs) (i := i) (by rw [HL.out]; exact h16)
       have hy := getD_some (l := ys) (i := i) (by rw [HL2.out]; exact h16)
       rw [plus_at h16 hx hy] at hi
       injection hi with hi
       have h1 := HB.out.at_ hx
       have h2 := HB2.out.at_ hy
       omega
     have HCL : Hid ((cy (plus xs ys)).length = 16) := hid (by rw [cy_length, plus_length])
     go_wp2_with (fail)
     refine (carry_any _ _ _ (plus_length _ _) HPB.out hD).mono ?_
     rintro e w1 ⟨rfl, hA2, hO2⟩
     have hR1 := hR.only hO2 (by omega)
     have hW1 := hW.trans (hO2.below (B := w.heap.size) (by omega) hW.size)
     have hs1 : w1.there (w.heap.size + 1 + 1) 0 (ints .i64 (cy (plus xs ys))).toArray.size := hR1.room (by rw [zeros_len]; exact HCL.out)
     have hR2 := hR1.stored (l' := cy (plus xs ys)) (by rw [zeros_len]; exact HCL.out)
     have hW2 := Below.setCells hW1 (g := w.heap.size + 1 + 1) (by omega) 0 (ints .i64 (cy (plus xs ys))).toArray.toList
     clear hD hR hW hO2
     go_wp2_with (first
       | (with_reducible refine wpList_load_mid (op := ⟨some 24, .load 29 (.tmp 2), _, _, _, _⟩) rfl 29 (.tmp 2) rfl w.heap.size 0 rfl (ints .i64 (cy (plus xs ys))) _ (hA2.range) Tryd.underlying29 rfl (l26 HCL.out) ?_)
       | (with_reducible refine wpList_store_mid (op := ⟨none, .store 29 (.tmp 4) (.tmp 24), _, _, _, _⟩) rfl 29 (.tmp 4) (.tmp 24) rfl (w.heap.size + 1 + 1) 0 (ints .i64 (cy (plus xs ys))).toArray rfl rfl hs1 (a26 HCL.out) (ints_all _ _) ?_))
     exact ret_rows rfl (w.heap.size + 1 + 1) 0 rfl (ints .i64 (cy (plus xs ys))) _ hR2.range Tryd.underlying29 rfl (l26 HCL.out) rfl ⟨rfl, hW2⟩
theorem sub_any (xs ys : List Int) (w : World) (hl : xs.length = 16) (hl2 : ys.length = 16) (hb : Bd 100000000000000000 xs) (hb2 : Bd 100000000000000000 ys) :
   Calls Tryd.prog 42 #[.agg (ints .i64 xs).toArray, .agg (ints .i64 ys).toArray] w fun e w' => e = .returned (.agg (ints .i64 (cy (minus xs ys))).toArray) ∧ Below w.heap.size w w' := by
 obtain ⟨z26, s26⟩ := zero_of_info inf26
 have HL := hid hl
 have HL2 := hid hl2
 have HB := hid hb
 have HB2 := hid hb2
 have HPL : Hid ((minus xs ys).length = xs.length) := hid (by rw [minus_length]; exact hl.symm)
 clear hl hb hl2 hb2
 have hD := ((Arr.made w .i64 xs 29).alloc (.cells (ints .i64 ys).toArray 29)).alloc (.cells (ints .i64 (zeros 16)).toArray 29)
 have hN := (Arr.made (w.alloc (.cells (ints .i64 xs).toArray 29)) .i64 ys 29).alloc (.cells (ints .i64 (zeros 16)).toArray 29)
 have hR := Arr.made ((w.alloc (.cells (ints .i64 xs).toArray 29)).alloc (.cells (ints .i64 ys).toArray 29)) .i64 (zeros 16) 29
 have hW := ((below_new w (.cells (ints .i64 xs).toArray 29)).alloc (by simp) (.cells (ints .i64 ys).toArray 29)).alloc (by simp; omega) (.cells (ints .i64 (zeros 16)).toArray 29)
 rw [World.size_alloc] at hN
 rw [World.size_alloc, World.size_alloc] at hR
 have HZ : Hid (xs = mixK (minus xs ys) xs 0) := hid (mixK_zero _ _).symm
 go_enter Tryd.func42, Tryd.ntmps42
 go_wp2_with (first
   | (with_reducible refine wpList_load_mid (op := ⟨some 8, .load 27 (.tmp 7), _, _, _, _⟩) rfl 27 (.tmp 7) rfl (w.heap.size + 1) 0 rfl (ints .i64 ys) _ (hN.range) Tryd.underlying27 rfl (l24 HL2.out) ?_))
 generalize (((w.alloc (.cells (ints .i64 xs).toArray 29)).alloc (.cells (ints .i64 ys).toArray 29)).alloc (.cells (ints .i64 (zeros 16)).toArray 29)) = W0 at *
 go_loopw [9] (fun i wr => ∃ k : Nat, k ≤ 16 ∧ i = .int .i64 k ∧ Arr wr (w.heap.size + 1 + 1) 0 .i64 (zeros 16) ∧ Arr wr w.heap.size 0 .i64 (mixK (minus xs ys) xs k) ∧ Below w.heap.size w wr) (fun i _ => 16 - (intOf i).toNat)
 case atStart => exact ⟨0, by omega, rfl, hR, by rw [← HZ.out]; exact hD, hW⟩
 case round =>
   clear hN hR hD hW
   obtain ⟨k, hk, rfl, hR, hD, hW⟩ := hrel
   rename World => W1
   by_cases hlt : k < 16
   · have HY : Hid (ys[k]? = some (ys.getD k 0)) := hid (getD_some (by rw [HL2.out]; exact hlt))
     have HX : Hid (xs[k]? = some (xs.getD k 0)) := hid (getD_some (by rw [HL.out]; exact hlt))
     generalize ys.getD k 0 = y at *
     generalize xs.getD k 0 = x at *
     have hx := HB.out.at_ HX.out
     have hy := HB2.out.at_ HY.out
     have hix := fun w => index24 HY.out hlt w
     have HM : Hid ((mixK (minus xs ys) xs k)[k]? = some x) := hid (by rw [mixK_at HPL.out (by rw [HL.out]; exact hlt)]; exact HX.out)
     have cz := hD.at_ HM.out
     have fz := hD.free (i := k) (List.getElem?_eq_some_iff.1 HM.out).1
     rw [Nat.zero_add] at cz fz
     obtain ⟨v, hv⟩ : ∃ v, v = x - y := ⟨_, rfl⟩
     have hwv : IntKind.i64.wrap (x - y) = v := by rw [IntWalk.i64_in _ (by omega), hv]
     have HV := hid hv
     clear hv
     have hD1 := hD.set k v
     rw [Nat.zero_add, mixK_set HPL.out (by rw [minus_at hlt HX.out HY.out, HV.out])] at hD1
     have hwk : IntKind.i64.wrap ((k : Int) + 1) = (k : Int) + 1 := IntWalk.i64_in _ (by omega)
     have k0 : (0 : Int) ≤ k := by omega
     have k16 : (k : Int) < 16 := by omega
     go_wp2
     go_roundw
     case rel => exact ⟨k + 1, by omega, by go_num, hR.apart _ (.inl (by show w.heap.size ≠ w.heap.size + 1 + 1; omega)), hD1, hW.setCell (by show w.heap.size ≤ w.heap.size; omega) _⟩
     case measure => simp [intOf]; omega
   · have e : k = 16 := by omega
     subst e
     have HE : Hid (mixK (minus xs ys) xs 16 = minus xs ys) := hid (by have h := mixK_end (minus xs ys) xs HPL.out; rw [HL.out] at h; exact h)
     rw [HE.out] at hD
     have HPB : Hid (Bd 1152921504606846976 (minus xs ys)) := hid fun v hv => by
       obtain ⟨i, hi⟩ := List.getElem?_of_mem hv
       have h16 := (List.getElem?_eq_some_iff.1 hi).1
       rw [minus_length] at h16
       have hx := getD_some (l := xs) (i := i) (by rw [HL.out]; exact h16)
       have hy := getD_some (l := ys) (i := i) (by rw [HL2.out]; exact h16)
       rw [minus_at h16 hx hy] at hi
       injection hi with hi
       have h1 := HB.out.at_ hx
       have h2 := HB2.out.at_ hy
       omega
     have HCL : Hid ((cy (minus xs ys)).length = 16) := hid (by rw [cy_length, minus_length])
     go_wp2_with (fail)
     refine (carry_any _ _ _ (minus_length _ _) HPB.out hD).mono ?_
     rintro e w1 ⟨rfl, hA2, hO2⟩
     have hR1 := hR.only hO2 (by omega)
     have hW1 := hW.trans (hO2.below (B := w.heap.size) (by omega) hW.size)
     have hs1 : w1.there (w.heap.size + 1 + 1) 0 (ints .i64 (cy (minus xs ys))).toArray.size := hR1.room (by rw [zeros_len]; exact HCL.out)
     have hR2 := hR1.stored (l' := cy (minus xs ys)) (by rw [zeros_len]; exact HCL.out)
     have hW2 := Below.setCells hW1 (g := w.heap.size + 1 + 1) (by omega) 0 (ints .i64 (cy (minus xs ys))).toArray.toList
     clear hD hR hW hO2
     go_wp2_with (first
       | (with_reducible refine wpList_load_mid (op := ⟨some 24, .load 29 (.tmp 2), _, _, _, _⟩) rfl 29 (.tmp 2) rfl w.heap.size 0 rfl (ints .i64 (cy (minus xs ys))) _ (hA2.range) Tryd.underlying29 rfl (l26 HCL.out) ?_)
       | (with_reducible refine wpList_store_mid (op := ⟨none, .store 29 (.tmp 4) (.tmp 24), _, _, _, _⟩) rfl 29 (.tmp 4) (.tmp 24) rfl (w.heap.size + 1 + 1) 0 (ints .i64 (cy (minus xs ys))).toArray rfl rfl hs1 (a26 HCL.out) (ints_all _ _) ?_))
     exact ret_rows rfl (w.heap.size + 1 + 1) 0 rfl (ints .i64 (cy (minus xs ys))) _ hR2.range Tryd.underlying29 rfl (l26 HCL.out) rfl ⟨rfl, hW2⟩
open Go.RowKit
theorem zeros_bd (n : Nat) (b : Int) (h : 0 ≤ b) : Bd b (zeros n) := fun x hx => by
 have := List.eq_of_mem_replicate hx
 omega
set_option maxRecDepth 4000 in
set_option maxHeartbeats 1000000 in
theorem neg_walk (xs m : List Int) (w : World) (HM : Hid (cy (minus (zeros 16) xs) = m)) (hl : xs.length = 16) (hb : Bd 100000000000000000 xs) :
   Calls Tryd.prog 27 #[.agg (ints .i64 xs).toArray] w fun e w' => e = .returned (.agg (ints .i64 (m)).toArray) ∧ Below w.heap.size w w' := by
 obtain ⟨z26, s26⟩ := zero_of_info inf26
 have HL := hid hl
 have HB := hid hb
 clear hl hb
 have hN := (Arr.made w .i64 xs 29).alloc (.cells (ints .i64 (zeros 16)).toArray 29)
 have hR := Arr.made (w.alloc (.cells (ints .i64 xs).toArray 29)) .i64 (zeros 16) 29
 have hW := (below_new w (.cells (ints .i64 xs).toArray 29)).alloc (by simp) (.cells (ints .i64 (zeros 16)).toArray 29)
 rw [World.size_alloc] at hR
 have HCL : Hid ((m).length = 16) := hid (by rw [← HM.out, cy_length, minus_length])
 have hs : ∀ w1, Below (w.heap.size + 1 + 1) ((w.alloc (.cells (ints .i64 xs).toArray 29)).alloc (.cells (ints .i64 (zeros 16)).toArray 29)) w1 → w1.there (w.heap.size + 1) 0 (ints .i64 (m)).toArray.size := fun w1 h => (hR.below h (by omega)).room (by rw [zeros_len]; exact HCL.out)
 go_enter Tryd.func27, Tryd.ntmps27
 go_wp2_with (first
   | (with_reducible refine wpList_load_mid (op := ⟨some 4, .load 29 (.tmp 1), _, _, _, _⟩) rfl 29 (.tmp 1) rfl w.heap.size 0 rfl (ints .i64 xs) _ (hN.range) Tryd.underlying29 rfl (l26 HL.out) ?_)
   | (go_at_call 42; refine (sub_any (zeros 16) xs _ rfl HL.out (zeros_bd _ _ (by omega)) HB.out).mono ?_; rw [HM.out]; rintro e w1 ⟨rfl, hb1⟩)
   | (with_reducible refine wpList_store_mid (op := ⟨none, .store 29 (.tmp 2) (.tmp 5), _, _, _, _⟩) rfl 29 (.tmp 2) (.tmp 5) rfl (w.heap.size + 1) 0 (ints .i64 (m)).toArray rfl rfl (hs w1 (by simpa using hb1)) (a26 HCL.out) (ints_all _ _) ?_))
 have hbb : Below (w.heap.size + 1 + 1) ((w.alloc (.cells (ints .i64 xs).toArray 29)).alloc (.cells (ints .i64 (zeros 16)).toArray 29)) w1 := by simpa using hb1
 have hR1 := (hR.below hbb (by omega)).stored (l' := m) (by rw [zeros_len]; exact HCL.out)
 have hW1 := Below.setCells (hW.trans (hbb.mono (by omega))) (g := w.heap.size + 1) (by omega) 0 (ints .i64 (m)).toArray.toList
 exact ret_rows rfl (w.heap.size + 1) 0 rfl (ints .i64 (m)) _ hR1.range Tryd.underlying29 rfl (l26 HCL.out) rfl ⟨rfl, hW1⟩
theorem neg_any (xs : List Int) (w : World) (hl : xs.length = 16) (hb : Bd 100000000000000000 xs) :
   Calls Tryd.prog 27 #[.agg (ints .i64 xs).toArray] w fun e w' => e = .returned (.agg (ints .i64 (cy (minus (zeros 16) xs))).toArray) ∧ Below w.heap.size w w' := neg_walk xs _ w (hid rfl) hl hb
open Go.RowKit
theorem alen55 : Tryd.prog.arrayLen 93 = 32 := by kernel_rfl
theorem ael55 : Tryd.prog.underlying 93 = some (.array (Tryd.prog.arrayLen 93) (Tryd.prog.elem 93)) := by kernel_rfl
theorem esz55 (W : World) : (sizeOf (Tryd.prog.elem 93)).run Tryd.prog W = .ok 1 W := by
 have e : Tryd.prog.elem 93 = 2 := by kernel_rfl
 have h : (Tryd.prog.info? 2).map (·.size) = some 1 := by kernel_rfl
 rw [e]
 cases hq : Tryd.prog.info? 2 with
 | none => simp [hq] at h
 | some j =>
   have hj : j.size = 1 := by simpa [hq] using h
   simp [sizeOf, typeInfo, hq, hj]
theorem slice55 (b k : Nat) (hk : k < 16) (W : World) : (Instr.sliceAt 93 (.pointer (some ⟨b, 0, none⟩)) (some (.int .i64 (k : Int))) (some (.int .i64 ((k : Int) + 16))) none).run Tryd.prog W = .ok (.slice (some ⟨b, k, none⟩) 16 (32 - k)) W := by
 rw [run_sliceAt_array_lh W 93 ⟨b, 0, none⟩ ael55 .i64 .i64 (k : Int) ((k : Int) + 16) (by omega) (by omega) (by rw [alen55]; omega), esz55, alen55]
 have e1 : ((k : Int) + 16).toNat = k + 16 := by omega
 have e2 : ¬ (32 = k) := by omega
 have e3 : k + 16 - k = 16 := by omega
 have e4 : (⟨b, 0, none⟩ : Addr).add k = ⟨b, k, none⟩ := by have h := Addr.add_mid b 0 k; rw [Nat.zero_add] at h; exact h
 simp [Result.andThen, slicedAt, e1, e2, e3, e4]
set_option maxRecDepth 4000 in
set_option maxHeartbeats 2000000 in
theorem mul_walk (xs ys m : List Int) (w : World) (HM : Hid (mulL xs ys = m)) (hl : xs.length = 16) (hl2 : ys.length = 16) (hb : Bd 70000 xs) (hb2 : Bd 70000 ys) :
   Calls Tryd.prog 43 #[.agg (ints .i64 xs).toArray, .agg (ints .i64 ys).toArray] w fun e w' => e = .returned (.agg (ints .i64 m).toArray) ∧ Below w.heap.size w w' := by
 obtain ⟨z26, s26⟩ := zero_of_info inf26
 obtain ⟨z55, s55⟩ := zero_of_info inf55
 have HL := hid hl
 have HL2 := hid hl2
 have HB := hid hb
 have HB2 := hid hb2
 have HCB : Hid (∀ i : Nat, i ≤ 16 → Bd (4900000000 * i) (colA xs ys i)) := hid fun i hi => colA_bd xs ys hb hb2 hl hl2 i hi
 clear hl hb hl2 hb2
 have hN := (((Arr.made w .i64 xs 29).alloc (.cells (ints .i64 ys).toArray 29)).alloc (.cells (ints .i64 (zeros 16)).toArray 29)).alloc (.cells (ints .i64 (zeros 32)).toArray 93)
 have hY := ((Arr.made (w.alloc (.cells (ints .i64 xs).toArray 29)) .i64 ys 29).alloc (.cells (ints .i64 (zeros 16)).toArray 29)).alloc (.cells (ints .i64 (zeros 32)).toArray 93)
 have hR := (Arr.made ((w.alloc (.cells (ints .i64 xs).toArray 29)).alloc (.cells (ints .i64 ys).toArray 29)) .i64 (zeros 16) 29).alloc (.cells (ints .i64 (zeros 32)).toArray 93)
 have hD := Arr.made (((w.alloc (.cells (ints .i64 xs).toArray 29)).alloc (.cells (ints .i64 ys).toArray 29)).alloc (.cells (ints .i64 (zeros 16)).toArray 29)) .i64 (zeros 32) 93
 have hW := (((below_new w (.cells (ints .i64 xs).toArray 29)).alloc (by simp) (.cells (ints .i64 ys).toArray 29)).alloc (by simp; omega) (.cells (ints .i64 (zeros 16)).toArray 29)).alloc (by simp; omega) (.cells (ints .i64 (zeros 32)).toArray 93)
 rw [World.size_alloc] at hY
 rw [World.size_alloc, World.size_alloc] at hR
 rw [World.size_alloc, World.size_alloc, World.size_alloc] at hD
 go_enter Tryd.func43, Tryd.ntmps43
 go_wp2_with (first
   | (with_reducible refine wpList_load_mid (op := ⟨some 13, .load 27 (.tmp 12), _, _, _, _⟩) rfl 27 (.tmp 12) rfl w.heap.size 0 rfl (ints .i64 xs) _ (hN.range) Tryd.underlying27 rfl (l24 HL.out) ?_))
 generalize ((((w.alloc (.cells (ints .i64 xs).toArray 29)).alloc (.cells (ints .i64 ys).toArray 29)).alloc (.cells (ints .i64 (zeros 16)).toArray 29)).alloc (.cells (ints .i64 (zeros 32)).toArray 93)) = W0 at *
 have hD0 : Arr W0 (w.heap.size + 1 + 1 + 1) 0 .i64 (colA xs ys 0) := hD
 clear hD hN
 go_loopw [14] (fun i wr => ∃ k : Nat, k ≤ 16 ∧ i = .int .i64 k ∧ Arr wr (w.heap.size + 1) 0 .i64 ys ∧ Arr wr (w.heap.size + 1 + 1) 0 .i64 (zeros 16) ∧ Arr wr (w.heap.size + 1 + 1 + 1) 0 .i64 (colA xs ys k) ∧ Below w.heap.size w wr) (fun i _ => 16 - (intOf i).toNat)
 case atStart => exact ⟨0, by omega, rfl, hY, hR, hD0, hW⟩
 case round =>
   clear hY hR hD0 hW
   obtain ⟨k, hk, rfl, hY, hR, hD, hW⟩ := hrel
   rename World => W1
   by_cases hlt : k < 16
   · have HX : Hid (xs[k]? = some (xs.getD k 0)) := hid (getD_some (by rw [HL.out]; exact hlt))
     have HXB := hid (HB.out.at_ HX.out)
     have hix := fun w => index24 HX.out hlt w
     have HCN : Hid (colA xs ys (k + 1) = rowA (xs.getD k 0) ys k (colA xs ys k) 16) := hid rfl
     have HZB := hid (HCB.out k hk)
     have HZL := hid (colA_length xs ys k)
     generalize colA xs ys k = z at *
     generalize xs.getD k 0 = x at *
     have hD0 : Arr W1 (w.heap.size + 1 + 1 + 1) 0 .i64 (rowA x ys k z 0) := hD
     clear hD
     have k0 : (0 : Int) ≤ k := by omega
     have k16 : (k : Int) < 16 := by omega
     have hwk : IntKind.i64.wrap ((k : Int) + 16) = (k : Int) + 16 := IntWalk.i64_in _ (by omega)
     have hsl := fun W => slice55 (w.heap.size + 1 + 1 + 1) k hlt W
     go_wp2
     go_loopw [24] (fun j wr => ∃ m : Nat, m ≤ 16 ∧ j = .int .i64 m ∧ Arr wr (w.heap.size + 1) 0 .i64 ys ∧ Arr wr (w.heap.size + 1 + 1) 0 .i64 (zeros 16) ∧ Arr wr (w.heap.size + 1 + 1 + 1) 0 .i64 (rowA x ys k z m) ∧ Below w.heap.size w wr) (fun j _ => 16 - (intOf j).toNat)
     case atStart => exact ⟨0, by omega, rfl, hY, hR, hD0, hW⟩
     case round =>
       clear hY hR hD0 hW
       obtain ⟨m, hm, rfl, hY, hR, hD, hW⟩ := hrel
       rename World => W2
       by_cases hlt2 : m < 16
       · have HY : Hid (ys[m]? = some (ys.getD m 0)) := hid (getD_some (by rw [HL2.out]; exact hlt2))
         have HYB := hid (HB2.out.at_ HY.out)
         have HZ0 : Hid (z[k + m]? = some (z.getD (k + m) 0)) := hid (getD_some (by rw [HZL.out]; omega))
         have HZV := hid (HZB.out.at_ HZ0.out)
         have HRZ : Hid ((rowA x ys k z m)[k + m]? = some (z.getD (k + m) 0)) := hid (by rw [rowA_past _ _ _ _ _ _ (Nat.le_refl _)]; exact HZ0.out)
         have HRG : Hid ((rowA x ys k z m).getD (k + m) 0 = z.getD (k + m) 0) := hid (by simp only [List.getD, rowA_past _ _ _ _ _ _ (Nat.le_refl _)])
         have HRN : Hid (rowA x ys k z (m + 1) = (rowA x ys k z m).set (k + m) ((rowA x ys k z m).getD (k + m) 0 + x * ys.getD m 0)) := hid rfl
         rw [HRG.out] at HRN
         have HMB := hid (mul_bd HXB.out HYB.out)
         have cy0 := hY.at_ HY.out
         have cz := hD.at_ HRZ.out
         have fz := hD.free (i := k + m) (List.getElem?_eq_some_iff.1 HRZ.out).1
         rw [Nat.zero_add] at cy0 cz fz
         generalize z.getD (k + m) 0 = zz at *
         generalize ys.getD m 0 = y at *
         obtain ⟨p, hp⟩ : ∃ p, p = x * y := ⟨_, rfl⟩
         rw [← hp] at HRN HMB
         have hwp : IntKind.i64.wrap (x * y) = p := by rw [← hp]; exact IntWalk.i64_in _ (by have := HMB.out; omega)
         obtain ⟨v, hv⟩ : ∃ v, v = zz + p := ⟨_, rfl⟩
         rw [← hv] at HRN
         have hwv : IntKind.i64.wrap (zz + p) = v := by rw [← hv]; exact IntWalk.i64_in _ (by have := HMB.out; have := HZV.out; omega)
         have HPV := hid (And.intro hp hv)
         clear hp hv
         have hD1 := hD.drew.set (k + m) v
         rw [Nat.zero_add, ← HRN.out] at hD1
         have m0 : (0 : Int) ≤ m := by omega
         have m16 : (m : Int) < 16 := by omega
         have hwm : IntKind.i64.wrap ((m : Int) + 1) = (m : Int) + 1 := IntWalk.i64_in _ (by omega)
         go_wp2
         go_still_tail 12, (by kernel_rfl)
         change wpList _ _ _ _ _ W2.drew
         have hY1 : Arr (W2.drew.setCell ⟨w.heap.size + 1 + 1 + 1, k + m, none⟩ (.int .i64 v)) (w.heap.size + 1) 0 .i64 ys := hY.drew.apart _ (.inl (by show w.heap.size + 1 + 1 + 1 ≠ w.heap.size + 1; omega))
         have hR1 : Arr (W2.drew.setCell ⟨w.heap.size + 1 + 1 + 1, k + m, none⟩ (.int .i64 v)) (w.heap.size + 1 + 1) 0 .i64 (zeros 16) := hR.drew.apart _ (.inl (by show w.heap.size + 1 + 1 + 1 ≠ w.heap.size + 1 + 1; omega))
         have hW1 : Below w.heap.size w (W2.drew.setCell ⟨w.heap.size + 1 + 1 + 1, k + m, none⟩ (.int .i64 v)) := hW.drew.setCell (by show w.heap.size ≤ w.heap.size + 1 + 1 + 1; omega) _
         have cz1 : W2.drew.cell? ⟨w.heap.size + 1 + 1 + 1, k + m, none⟩ = some (.int .i64 zz) := cz
         have fz1 : W2.drew.frozen? ⟨w.heap.size + 1 + 1 + 1, k + m, none⟩ = false := fz
         clear cz fz cy0 hY hR hD hW
         generalize W2.drew = W4 at *
         go_wp2
         go_roundw
         case rel => exact ⟨m + 1, by omega, by go_num, hY1, hR1, hD1, hW1⟩
         case measure => simp [intOf]; omega
       · have e : m = 16 := by omega
         subst e
         rw [← HCN.out] at hD
         go_wp2
         go_roundw
         case rel => exact ⟨k + 1, by omega, by go_num, hY, hR, hD, hW⟩
         case measure => simp [intOf]; omega
   · have e : k = 16 := by omega
     rw [e] at hD
     have hk16 : ¬ (k : Int) < 16 := by omega
     clear e
     have HZL := hid (colA_length xs ys 16)
     have HZB : Hid (Bd 80000000000 (colA xs ys 16)) := hid fun v hv => by have := HCB.out 16 (by omega) v hv; omega
     have HML : Hid (mulL xs ys = cy (cy (foldL (colA xs ys 16)))) := hid rfl
     generalize colA xs ys 16 = z at *
     have HFL := hid (foldL_length z)
     have HFB : Hid (Bd 1152921504606846976 (foldL z)) := hid fun v hv => by have := foldL_bd z HZB.out HZL.out v hv; omega
     have HFA : Hid (∀ (i : Nat) (x y : Int), i < 16 → z[i]? = some x → z[i + 16]? = some y → (foldL z)[i]? = some (x + 38 * y)) := hid fun i x y h hx hy => foldL_at h hx hy
     generalize foldL z = fs at *
     have HC1 := hid (cy_small fs HFL.out HFB.out)
     have HC1L : Hid ((cy fs).length = 16) := hid (by rw [cy_length]; exact HFL.out)
     have HC1B : Hid (Bd 1152921504606846976 (cy fs)) := hid fun v hv => by have := HC1.out v hv; omega
     generalize hcf : cy fs = cf at *
     have HCF := hid hcf
     clear hcf
     have HM2 : Hid (cy cf = m) := hid (by rw [← HML.out]; exact HM.out)
     have HMLen : Hid (m.length = 16) := hid (by rw [← HM2.out, cy_length]; exact HC1L.out)
     have hsz : w.heap.size + 1 + 1 + 1 < W1.heap.size := hD.lt (by rw [HZL.out]; omega)
     obtain ⟨B, hB⟩ : ∃ B, B = W1.heap.size := ⟨_, rfl⟩
     have hP := Arr.made W1 .i64 (zeros 16) 29
     have hR1 := hR.alloc (.cells (ints .i64 (zeros 16)).toArray 29)
     have hD1 := hD.alloc (.cells (ints .i64 (zeros 16)).toArray 29)
     have hW1 := hW.alloc hW.size (.cells (ints .i64 (zeros 16)).toArray 29)
     have HF0 : Hid (zeros 16 = fillK fs 0) := hid (by rw [fillK_zero, HFL.out]; rfl)
     go_wp2
     rw [← hB] at hP hsz ⊢
     have HBW := hid hB
     clear hY hR hD hW hB
     generalize W1.alloc (.cells (ints .i64 (zeros 16)).toArray 29) = W2 at *
     rw [HF0.out] at hP
     go_loopw [41] (fun j wr => ∃ m : Nat, m ≤ 16 ∧ j = .int .i64 m ∧ Arr wr (w.heap.size + 1 + 1) 0 .i64 (zeros 16) ∧ Arr wr (w.heap.size + 1 + 1 + 1) 0 .i64 z ∧ Arr wr B 0 .i64 (fillK fs m) ∧ Below w.heap.size w wr) (fun j _ => 16 - (intOf j).toNat)
     case atStart => exact ⟨0, by omega, rfl, hR1, hD1, hP, hW1⟩
     case round =>
       clear hP hR1 hD1 hW1
       obtain ⟨j, hj, rfl, hR, hD, hP, hW⟩ := hrel
       rename World => W3
       by_cases hlt2 : j < 16
       · have HX : Hid (z[j]? = some (z.getD j 0)) := hid (getD_some (by rw [HZL.out]; omega))
         have HY : Hid (z[j + 16]? = some (z.getD (j + 16) 0)) := hid (getD_some (by rw [HZL.out]; omega))
         have HXB := hid (HZB.out.at_ HX.out)
         have HYB := hid (HZB.out.at_ HY.out)
         have HFj := hid (HFA.out j _ _ hlt2 HX.out HY.out)
         have cx := hD.at_ HX.out
         have cy0 := hD.at_ HY.out
         obtain ⟨u, cz, fz, _⟩ := hP.spot (i := j) (by rw [fillK_length, HFL.out]; exact hlt2)
         rw [Nat.zero_add] at cx cy0 cz fz
         generalize z.getD (j + 16) 0 = y at *
         generalize z.getD j 0 = x at *
         obtain ⟨q, hq⟩ : ∃ q, q = j + 16 := ⟨_, rfl⟩
         rw [← hq] at cy0
         have hwq : IntKind.i64.wrap ((j : Int) + 16) = (q : Int) := by rw [IntWalk.i64_in _ (by omega)]; omega
         have q0 : (0 : Int) ≤ q := by omega
         have q32 : (q : Int) < 32 := by omega
         have HQ := hid hq
         clear hq
         obtain ⟨v, hv⟩ : ∃ v, v = x + 38 * y := ⟨_, rfl⟩
         rw [← hv] at HFj
         have hw1 : IntKind.i64.wrap (38 * y) = 38 * y := IntWalk.i64_in _ (by have := HYB.out; omega)
         have hw2 : IntKind.i64.wrap (x + 38 * y) = v := by rw [IntWalk.i64_in _ (by have := HXB.out; have := HYB.out; omega), hv]
         have HV := hid hv
         clear hv
         have j0 : (0 : Int) ≤ j := by omega
         have j16 : (j : Int) < 16 := by omega
         have j32 : (j : Int) < 32 := by omega
         have hwj : IntKind.i64.wrap ((j : Int) + 1) = (j : Int) + 1 := IntWalk.i64_in _ (by omega)
         have hP1 := hP.drew.set j v
         rw [Nat.zero_add, fillK_set _ HFj.out] at hP1
         go_wp2
         go_still_tail 12, (by kernel_rfl)
         change wpList _ _ _ _ _ W3.drew
         have hR1 : Arr (W3.drew.setCell ⟨B, j, none⟩ (.int .i64 v)) (w.heap.size + 1 + 1) 0 .i64 (zeros 16) := hR.drew.apart _ (.inl (by show B ≠ w.heap.size + 1 + 1; omega))
         have hD1 : Arr (W3.drew.setCell ⟨B, j, none⟩ (.int .i64 v)) (w.heap.size + 1 + 1 + 1) 0 .i64 z := hD.drew.apart _ (.inl (by show B ≠ w.heap.size + 1 + 1 + 1; omega))
         have hW1 : Below w.heap.size w (W3.drew.setCell ⟨B, j, none⟩ (.int .i64 v)) := hW.drew.setCell (by show w.heap.size ≤ B; omega) _
         have cz1 : W3.drew.cell? ⟨B, j, none⟩ = some (.int .i64 u) := cz
         have fz1 : W3.drew.frozen? ⟨B, j, none⟩ = false := fz
         clear cz fz cx cy0 hR hD hP hW
         generalize W3.drew = W4 at *
         go_wp2
         go_roundw
         case rel => exact ⟨j + 1, by omega, by go_num, hR1, hD1, hP1, hW1⟩
         case measure => simp [intOf]; omega
       · have e : j = 16 := by omega
         subst e
         have HE : Hid (fillK fs 16 = fs) := hid (by have h := fillK_end fs; rw [HFL.out] at h; exact h)
         rw [HE.out] at hP
         go_wp2_with (fail)
         refine (carry_any _ _ _ HFL.out HFB.out hP).mono ?_
         rintro e w1 ⟨rfl, hP2, hO2⟩
         rw [HCF.out] at hP2
         have hR2 := hR.only hO2 (by omega)
         have hW2 := hW.trans (hO2.below (B := w.heap.size) (by omega) hW.size)
         clear hR hD hP hW hO2
         go_wp2_with (fail)
         refine (carry_any _ _ _ HC1L.out HC1B.out hP2).mono ?_
         rintro e w2 ⟨rfl, hP3, hO3⟩
         rw [HM2.out] at hP3
         have hR3 := hR2.only hO3 (by omega)
         have hW3 := hW2.trans (hO3.below (B := w.heap.size) (by omega) hW2.size)
         have hs1 : w2.there (w.heap.size + 1 + 1) 0 (ints .i64 m).toArray.size := hR3.room (by rw [zeros_len]; exact HMLen.out)
         have hR4 := hR3.stored (l' := m) (by rw [zeros_len]; exact HMLen.out)
         have hW4 := Below.setCells hW3 (g := w.heap.size + 1 + 1) (by omega) 0 (ints .i64 m).toArray.toList
         clear hR2 hP2 hW2 hO3
         go_wp2_with (first
           | (with_reducible refine wpList_load_mid (op := ⟨some 61, .load 29 (.tmp 10), _, _, _, _⟩) rfl 29 (.tmp 10) rfl B 0 rfl (ints .i64 m) _ (hP3.range) Tryd.underlying29 rfl (l26 HMLen.out) ?_)
           | (with_reducible refine wpList_store_mid (op := ⟨none, .store 29 (.tmp 4) (.tmp 61), _, _, _, _⟩) rfl 29 (.tmp 4) (.tmp 61) rfl (w.heap.size + 1 + 1) 0 (ints .i64 m).toArray rfl rfl hs1 (a26 HMLen.out) (ints_all _ _) ?_))
         exact ret_rows rfl (w.heap.size + 1 + 1) 0 rfl (ints .i64 m) _ hR4.range Tryd.underlying29 rfl (l26 HMLen.out) rfl ⟨rfl, hW4⟩
theorem mul_any (xs ys : List Int) (w : World) (hl : xs.length = 16) (hl2 : ys.length = 16) (hb : Bd 70000 xs) (hb2 : Bd 70000 ys) :
   Calls Tryd.prog 43 #[.agg (ints .i64 xs).toArray, .agg (ints .i64 ys).toArray] w fun e w' => e = .returned (.agg (ints .i64 (mulL xs ys)).toArray) ∧ Below w.heap.size w w' := mul_walk xs ys _ w (hid rfl) hl hl2 hb hb2
def Dg (l : List Int) : Prop := l.length = 16 ∧ ∀ (i : Nat) (x : Int), l[i]? = some x → 0 ≤ x ∧ x < 65536 ∧ (i = 15 → x < 32768)
def sg : Nat → Int
 | 0 => 0
 | n + 1 => 1 + 65536 * sg n
theorem ev_bd (b : Int) : ∀ l : List Int, Bd b l → -(b * sg l.length) ≤ ev l ∧ ev l ≤ b * sg l.length
 | [], _ => by simp [ev, sg]
 | x :: l, h => by
   have h1 := ev_bd b l (fun y hy => h y (by simp [hy]))
   have h2 := h x (by simp)
   simp only [ev, List.length_cons, sg, Int.mul_add, Int.mul_one]
   have e : b * (65536 * sg l.length) = 65536 * (b * sg l.length) := by rw [← Int.mul_assoc, Int.mul_comm b, Int.mul_assoc]
   rw [e]; omega
theorem ev_digits : ∀ l : List Int, (∀ x ∈ l, 0 ≤ x ∧ x < 65536) → 0 ≤ ev l ∧ ev l < 65536 ^ l.length
 | [], _ => by simp [ev]
 | x :: l, h => by
   have h1 := ev_digits l (fun y hy => h y (by simp [hy]))
   have h2 := h x (by simp)
   simp only [ev, List.length_cons, Int.pow_succ]
   omega
def Q : Int := 57896044618658097711785492504343953926634992332820282019728792003956564819968
def P : Int := 57896044618658097711785492504343953926634992332820282019728792003956564819949
theorem Dg.split {l : List Int} (h : Dg l) : ∃ d m, l[0]? = some d ∧ 0 ≤ d ∧ d < 65536 ∧ ev l = d + 65536 * m ∧ 0 ≤ m ∧ 65536 * m + 65536 ≤ Q := by
 obtain ⟨hl, hd⟩ := h
 match l, hl with
 | d :: l, hl =>
   have h0 := hd 0 d rfl
   refine ⟨d, ev l, rfl, h0.1, h0.2.1, rfl, ?_⟩
   have hl15 : l.length = 15 := by simpa using hl
   obtain ⟨a, b, rfl⟩ : ∃ a b, l = a ++ [b] := ⟨l.dropLast, l.getLast (by intro e; rw [e] at hl15; simp at hl15), (List.dropLast_concat_getLast _).symm⟩
   have ha : a.length = 14 := by simpa using hl15
   have hb := hd 15 b (by simp [ha])
   have hda := ev_digits a (fun y hy => by
     obtain ⟨i, hi⟩ := List.getElem?_of_mem hy
     have hil := (List.getElem?_eq_some_iff.1 hi).1
     have := hd (i + 1) y (by simp [List.getElem?_append_left hil, hi])
     omega)
   rw [ev_append, ha]
   rw [ha] at hda
   have e14 : (65536 : Int) ^ 14 = 26959946667150639794667015087019630673637144422540572481103610249216 := by decide
   rw [e14] at hda ⊢
   have hb3 := hb.2.2 rfl
   simp only [ev]
   unfold Q
   omega
theorem Dg.bd {l : List Int} (h : Dg l) : 0 ≤ ev l ∧ ev l < Q := by
 obtain ⟨d, m, _, h1, h2, h3, h4, h5⟩ := h.split
 omega
theorem cyA_dg {xs : List Int} (hl : xs.length = 16) : Dg (cyA xs) := by
 refine ⟨by simp [cyA, cl_length, hl], fun i x hi => ?_⟩
 by_cases e : 15 = i
 · subst e
   rw [cyA, List.getElem?_set_self (by rw [cl_length]; omega)] at hi
   injection hi with hi; omega
 · rw [cyA, List.getElem?_set_ne e] at hi
   have hi2 := (List.getElem?_eq_some_iff.1 hi).1
   rw [cl_length] at hi2
   have := cl_below xs 15 i x (by omega) hi
   omega
theorem cyA_ev {xs : List Int} (hl : xs.length = 16) : ev (cyA xs) + Q * (lastOf xs / 32768) = ev xs := by
 have h1 := cl_ev xs 15 (by omega)
 have hs := ev_set (cl xs 15).1 15 (lastOf xs % 32768) _ (getD_some (by rw [cl_length]; omega))
 unfold cyA
 rw [hs]
 have e15 : (65536 : Int) ^ 15 = 1766847064778384329583297500742918515827483896875618958121606201292619776 := by decide
 rw [e15] at h1 ⊢
 unfold lastOf Q
 omega
theorem cy_q {xs : List Int} (hl : xs.length = 16) : lastOf xs / 32768 = ev xs / Q := by
 have h1 := cyA_ev hl
 have h2 := (cyA_dg hl).bd
 unfold Q at *
 omega
theorem cy_set {xs : List Int} (hl : xs.length = 16) {d : Int} (hd : (cyA xs)[0]? = some d) : cy xs = (cyA xs).set 0 (d + 19 * (ev xs / Q)) := by
 unfold cy
 rw [cy_q hl]
 simp [List.getD, hd]
theorem cy_ev {xs : List Int} (hl : xs.length = 16) : ev (cy xs) = ev xs - P * (ev xs / Q) := by
 obtain ⟨d, m, hd, _⟩ := (cyA_dg hl).split
 have h1 := cyA_ev hl
 rw [cy_q hl] at h1
 rw [cy_set hl hd, ev_set _ _ _ _ hd]
 unfold P
 unfold Q at *
 omega
def El (a : List Int) : Prop := a.length = 16 ∧ ∃ l q, Dg l ∧ ∃ d, l[0]? = some d ∧ a = l.set 0 (d + q) ∧ -19 ≤ d + q ∧ d + q ≤ 65554
theorem El.len {a : List Int} (h : El a) : a.length = 16 := h.1
theorem El.bd {a : List Int} (h : El a) : Bd 70000 a := by
 obtain ⟨_, l, q, hl, d, hd, rfl, h1, h2⟩ := h
 refine Bd.set (fun x hx => ?_) 0 _ (by omega)
 obtain ⟨i, hi⟩ := List.getElem?_of_mem hx
 have := hl.2 i x hi
 omega
theorem El.ev {a : List Int} (h : El a) : -19 ≤ ev a ∧ ev a ≤ Q + 18 := by
 obtain ⟨_, l, q, hl, d, hd, rfl, h1, h2⟩ := h
 obtain ⟨d', m, hd', b1, b2, b3, b4, b5⟩ := hl.split
 obtain rfl : d = d' := Option.some.inj (hd.symm.trans hd')
 rw [ev_set _ _ _ _ hd, b3]
 omega
theorem cy_el {xs : List Int} (hl : xs.length = 16) (h1 : -(Q + 1000) ≤ ev xs) (h2 : ev xs ≤ 2 * Q + 1000) : El (cy xs) := by
 obtain ⟨d, m, hd, b1, b2, b3, b4, b5⟩ := (cyA_dg hl).split
 have h3 := cyA_ev hl
 rw [cy_q hl] at h3
 refine ⟨by rw [cy_length]; exact hl, cyA xs, 19 * (Proofs.YthpibkpljakeeaaDoor.ev xs / Q), cyA_dg hl, d, hd, cy_set hl hd, ?_⟩
 have hq : Proofs.YthpibkpljakeeaaDoor.ev xs / Q = -2 ∨ Proofs.YthpibkpljakeeaaDoor.ev xs / Q = -1 ∨ Proofs.YthpibkpljakeeaaDoor.ev xs / Q = 0 ∨ Proofs.YthpibkpljakeeaaDoor.ev xs / Q = 1 ∨ Proofs.YthpibkpljakeeaaDoor.ev xs / Q = 2 := by unfold Q at *; omega
 rcases hq with e | e | e | e | e <;> rw [e] at h3 ⊢ <;> omega
theorem plus_ev {a b : List Int} (ha : a.length = 16) (hb : b.length = 16) {d : List Int} (hd : d.length = 16) {c : Int} (h : ∀ (i : Nat) (x y : Int), a[i]? = some x → b[i]? = some y → d[i]? = some (x + c * y)) : ev d = ev a + c * ev b := ev_zip 16 c a b d ha hb hd h
theorem mod_sub_mul (x q : Int) : (x - P * q) % P = x % P := by
 rw [Int.sub_eq_add_neg, ← Int.mul_neg, Int.add_mul_emod_self_left]
theorem cy_mod {xs : List Int} (hl : xs.length = 16) : ev (cy xs) % P = ev xs % P := by rw [cy_ev hl, mod_sub_mul]
theorem mulL_el {xs ys : List Int} (hx : El xs) (hy : El ys) : El (mulL xs ys) ∧ ev (mulL xs ys) % P = ev xs * ev ys % P := by
 have hz := colA_bd xs ys hx.bd hy.bd hx.len hy.len 16 (by omega)
 have hzl := colA_length xs ys 16
 have he := colA_ev xs ys hx.len hy.len 16 (by omega)
 rw [List.take_of_length_le (by rw [hx.len]; omega)] at he
 have hf := foldL_bd (colA xs ys 16) (fun v hv => by have := hz v hv; omega) hzl
 have hfl := foldL_length (colA xs ys 16)
 have hfe := foldL_ev (colA xs ys 16) hzl
 have hsp : ev (colA xs ys 16) = ev ((colA xs ys 16).take 16) + 65536 ^ 16 * ev ((colA xs ys 16).drop 16) := by
   have h := ev_append ((colA xs ys 16).take 16) ((colA xs ys 16).drop 16)
   rw [List.take_append_drop, List.length_take, hzl] at h
   exact h
 have hfb := ev_bd _ _ hf
 rw [hfl] at hfb
 unfold mulL
 generalize foldL (colA xs ys 16) = fs at *
 generalize colA xs ys 16 = z at *
 have h1 := cy_ev hfl
 have hcl : (cy fs).length = 16 := by rw [cy_length]; exact hfl
 have e16 : (65536 : Int) ^ 16 = 2 * Q := by decide
 have hs : 4000000000000 * sg 16 ≤ 130000000 * Q := by decide
 refine ⟨cy_el hcl ?_ ?_, ?_⟩
 · rw [h1]; unfold Q P at *; omega
 · rw [h1]; unfold Q P at *; omega
 · rw [cy_mod hcl, cy_mod hfl, hfe, ← he, hsp, e16]
   have e : ev (z.take 16) + 2 * Q * ev (z.drop 16) = ev (z.take 16) + 38 * ev (z.drop 16) - P * (-2 * ev (z.drop 16)) := by
     have : 2 * Q * ev (z.drop 16) = 38 * ev (z.drop 16) - P * (-2 * ev (z.drop 16)) := by
       generalize ev (z.drop 16) = t
       unfold Q P; omega
     omega
   rw [e, mod_sub_mul]
theorem addL_el {xs ys : List Int} (hx : El xs) (hy : El ys) : El (cy (plus xs ys)) ∧ ev (cy (plus xs ys)) % P = (ev xs + ev ys) % P := by
 have e : ev (plus xs ys) = ev xs + 1 * ev ys := plus_ev hx.len hy.len (plus_length xs ys) (fun i x y h1 h2 => by
   have hi := (List.getElem?_eq_some_iff.1 h1).1
   rw [hx.len] at hi
   rw [plus_at hi h1 h2]; congr 1; omega)
 have h1 := hx.ev
 have h2 := hy.ev
 refine ⟨cy_el (plus_length _ _) ?_ ?_, ?_⟩
 · unfold Q at *; omega
 · unfold Q at *; omega
 · rw [cy_mod (plus_length _ _), e, Int.one_mul]
theorem subL_el {xs ys : List Int} (hx : El xs) (hy : El ys) : El (cy (minus xs ys)) ∧ ev (cy (minus xs ys)) % P = (ev xs - ev ys) % P := by
 have e : ev (minus xs ys) = ev xs + (-1) * ev ys := plus_ev hx.len hy.len (minus_length xs ys) (fun i x y h1 h2 => by
   have hi := (List.getElem?_eq_some_iff.1 h1).1
   rw [hx.len] at hi
   rw [minus_at hi h1 h2]; congr 1; omega)
 have h1 := hx.ev
 have h2 := hy.ev
 refine ⟨cy_el (minus_length _ _) ?_ ?_, ?_⟩
 · unfold Q at *; omega
 · unfold Q at *; omega
 · rw [cy_mod (minus_length _ _), e]; congr 1; omega
theorem el_set {l : List Int} (h : Dg l) : El l := by
 obtain ⟨d, m, hd, b1, b2, _⟩ := h.split
 refine ⟨h.1, l, 0, h, d, hd, ?_, by omega, by omega⟩
 apply List.ext_getElem?
 intro i
 rw [List.getElem?_set]
 split
 · rename_i e; subst e
   rw [hd]; simp
   intro e; rw [e] at hd; simp at hd
 · rfl
theorem zeros_dg : Dg (zeros 16) := ⟨rfl, fun i x hi => by
 have := List.eq_of_mem_replicate (List.mem_of_getElem? hi)
 omega⟩
theorem zeros_el : El (zeros 16) := el_set zeros_dg
theorem negL_el {xs : List Int} (hx : El xs) : El (cy (minus (zeros 16) xs)) ∧ ev (cy (minus (zeros 16) xs)) % P = (- ev xs) % P := by
 have h := subL_el zeros_el hx
 rw [ev_zeros, Int.zero_sub] at h
 exact h
theorem small_dg (n : Int) : Dg (smallL n) := by
 unfold smallL
 split
 · rename_i h
   refine ⟨rfl, fun i x hi => ?_⟩
   cases i with
   | zero => simp at hi; omega
   | succ i =>
     have := List.eq_of_mem_replicate (List.mem_of_getElem? (show (zeros 15)[i]? = some x by simpa using hi))
     omega
 · exact zeros_dg
theorem small_ev (n : Int) (h : 0 ≤ n ∧ n ≤ 65535) : ev (smallL n) = n := by
 unfold smallL
 rw [if_pos h]
 simp only [ev, ev_zeros]; omega
theorem red_dg {xs : List Int} (hx : El xs) : Dg (red xs) ∧ ev (red xs) = ev xs % P := by
 have hb := hx.ev
 have hl := hx.len
 have hx0 : xs[0]? = some (xs.getD 0 0) := getD_some (by omega)
 have l1 : (xs.set 0 (xs.getD 0 0 + 19)).length = 16 := by simp [hl]
 have e1 : ev (xs.set 0 (xs.getD 0 0 + 19)) = ev xs + 19 := by rw [ev_set _ _ _ _ hx0]; omega
 unfold red
 generalize xs.set 0 (xs.getD 0 0 + 19) = x1 at *
 have l2 : (cy x1).length = 16 := by rw [cy_length]; exact l1
 have e2 := cy_ev l1
 have hy0 : (cy x1)[0]? = some ((cy x1).getD 0 0) := getD_some (by omega)
 have l3 : ((cy x1).set 0 ((cy x1).getD 0 0 - 19)).length = 16 := by simp [l2]
 have e3 : ev ((cy x1).set 0 ((cy x1).getD 0 0 - 19)) = ev (cy x1) - 19 := by rw [ev_set _ _ _ _ hy0]; omega
 generalize (cy x1).set 0 ((cy x1).getD 0 0 - 19) = x2 at *
 have e4 := cy_ev l3
 obtain ⟨d, m, hd, b1, b2, b3, b4, b5⟩ := (cyA_dg l3).split
 have e5 := cyA_ev l3
 rw [cy_q l3] at e5
 have hZ : ev x2 = ev xs - P * ((ev xs + 19) / Q) := by rw [e3, e2, e1]; omega
 have hmod : ev (cy x2) % P = ev xs % P := by rw [cy_mod l3, hZ, mod_sub_mul]
 have hq : (ev xs + 19) / Q = 0 ∨ (ev xs + 19) / Q = 1 := by unfold Q at *; omega
 have hz : -19 ≤ ev x2 ∧ ev x2 < P := by
   rcases hq with h | h
   · rw [hZ, h]; unfold Q P at *; omega
   · rw [hZ, h]; unfold Q P at *; omega
 have hq2 : (ev x2 / Q = -1 ∧ ev x2 < 0) ∨ (ev x2 / Q = 0 ∧ 0 ≤ ev x2) := by unfold Q P at *; omega
 have hr : 0 ≤ ev (cy x2) ∧ ev (cy x2) < P := by
   rcases hq2 with h | h
   · rw [e4, h.1]; unfold P at *; omega
   · rw [e4, h.1]; omega
 have hd1 : 0 ≤ d + 19 * (ev x2 / Q) ∧ d + 19 * (ev x2 / Q) < 65536 := by
   rcases hq2 with h | h
   · rw [h.1] at e5 ⊢; omega
   · rw [h.1]; omega
 refine ⟨?_, ?_⟩
 · rw [cy_set l3 hd]
   refine ⟨by simp [cyA, cl_length, l3], fun i x hi => ?_⟩
   by_cases e0 : 0 = i
   · subst e0
     rw [List.getElem?_set_self (by rw [(cyA_dg l3).1]; omega)] at hi
     rw [← Option.some.inj hi]
     exact ⟨hd1.1, hd1.2, fun h => by omega⟩
   · rw [List.getElem?_set_ne e0] at hi
     exact (cyA_dg l3).2 i x hi
 · rw [← hmod]
   exact (Int.emod_eq_of_lt hr.1 hr.2).symm
theorem digits_inj : ∀ (a b : List Int), a.length = b.length → (∀ x ∈ a, 0 ≤ x ∧ x < 65536) → (∀ x ∈ b, 0 ≤ x ∧ x < 65536) → ev a = ev b → a = b
 | [], [], _, _, _, _ => rfl
 | x :: a, y :: b, hl, ha, hb, he => by
   have h1 := ha x (by simp)
   have h2 := hb y (by simp)
   simp only [ev] at he
   have e1 : x = y := by omega
   have e2 : ev a = ev b := by omega
   rw [e1, digits_inj a b (by simpa using hl) (fun v hv => ha v (by simp [hv])) (fun v hv => hb v (by simp [hv])) e2]
 | [], y :: b, hl, _, _, _ => by simp at hl
 | x :: a, [], hl, _, _, _ => by simp at hl
theorem Dg.all {l : List Int} (h : Dg l) : ∀ x ∈ l, 0 ≤ x ∧ x < 65536 := fun x hx => by
 obtain ⟨i, hi⟩ := List.getElem?_of_mem hx
 have := h.2 i x hi
 omega
theorem Dg.inj {a b : List Int} (ha : Dg a) (hb : Dg b) (h : ev a = ev b) : a = b := digits_inj a b (by rw [ha.1, hb.1]) ha.all hb.all h
theorem red_eq {xs ys : List Int} (hx : El xs) (hy : El ys) : red xs = red ys ↔ ev xs % P = ev ys % P := by
 have h1 := red_dg hx
 have h2 := red_dg hy
 exact ⟨fun h => by rw [← h1.2, ← h2.2, h], fun h => h1.1.inj h2.1 (by rw [h1.2, h2.2, h])⟩
open Go.RowKit
def bitAt (bs : List Int) (i : Nat) : Int := bs.getD (i / 8) 0 / 2 ^ (i % 8) % 2
def powL (xs bs : List Int) : Nat → List Int
 | 0 => smallL 1
 | k + 1 => if bitAt bs (255 - k) = 1 then mulL (mulL (powL xs bs k) (powL xs bs k)) xs else mulL (powL xs bs k) (powL xs bs k)
theorem powL_el {xs bs : List Int} (hx : El xs) (k : Nat) : El (powL xs bs k) := by
 induction k with
 | zero => exact el_set (small_dg 1)
 | succ k ih =>
   simp only [powL]
   split
   · exact (mulL_el (mulL_el ih ih).1 hx).1
   · exact (mulL_el ih ih).1
theorem mask1_u8 (x : Int) (h : 0 ≤ x ∧ x < 256) : bits .and .u8 x 1 = x % 2 := by
 have key : ∀ n : Fin 256, bits .and .u8 (n.val : Int) 1 = (n.val : Int) % 2 := by decide +kernel
 have := key ⟨x.toNat, by omega⟩
 simp only [Int.toNat_of_nonneg h.1] at this
 exact this
set_option maxRecDepth 4000 in
set_option maxHeartbeats 2000000 in
theorem power_walk (xs bs m : List Int) (w : World) (HM : Hid (powL xs bs 256 = m)) (hx : El xs) (hl : bs.length = 32) (hb : Byt bs) :
   Calls Tryd.prog 75 #[.agg (ints .i64 xs).toArray, .agg (ints .u8 bs).toArray] w fun e w' => e = .returned (.agg (ints .i64 m).toArray) ∧ Below w.heap.size w w' := by
 obtain ⟨z26, s26⟩ := zero_of_info inf26
 have HL := hid hl
 have HB := hid hb
 have HX := hid hx
 have HXL := hid hx.len
 have HPE : Hid (∀ k, El (powL xs bs k)) := hid fun k => powL_el hx k
 have H1 : Hid (powL xs bs 0 = smallL 1) := hid rfl
 have H1L : Hid ((smallL 1).length = 16) := hid (smallL_length 1)
 clear hl hb hx
 have hN := ((Arr.made w .i64 xs 29).alloc (.cells (ints .u8 bs).toArray 22)).alloc (.cells (ints .i64 (zeros 16)).toArray 29)
 have hY := (Arr.made (w.alloc (.cells (ints .i64 xs).toArray 29)) .u8 bs 22).alloc (.cells (ints .i64 (zeros 16)).toArray 29)
 have hR := Arr.made ((w.alloc (.cells (ints .i64 xs).toArray 29)).alloc (.cells (ints .u8 bs).toArray 22)) .i64 (zeros 16) 29
 have hW := ((below_new w (.cells (ints .i64 xs).toArray 29)).alloc (by simp) (.cells (ints .u8 bs).toArray 22)).alloc (by simp; omega) (.cells (ints .i64 (zeros 16)).toArray 29)
 rw [World.size_alloc] at hY
 rw [World.size_alloc, World.size_alloc] at hR
 go_enter Tryd.func75, Tryd.ntmps75
 go_wp2_with (fail)
 generalize (((w.alloc (.cells (ints .i64 xs).toArray 29)).alloc (.cells (ints .u8 bs).toArray 22)).alloc (.cells (ints .i64 (zeros 16)).toArray 29)) = W0 at *
 refine (small_any 1 _).mono ?_
 generalize smallL 1 = one at *
 rintro e w1 ⟨rfl, hb1⟩
 have hR1 := hR.below hb1 (hR.lt (by rw [zeros_len]; omega))
 have hN1 := hN.below hb1 (hN.lt (by rw [HXL.out]; omega))
 have hY1 := hY.below hb1 (hY.lt (by rw [HL.out]; omega))
 have hW1 := hW.trans (hb1.mono hW.size)
 have hz2 := hR1.lt (by rw [zeros_len]; omega)
 have hP := Arr.made w1 .i64 (zeros 16) 29
 have hs1 : (w1.alloc (.cells (ints .i64 (zeros 16)).toArray 29)).there w1.heap.size 0 (ints .i64 one).toArray.size := hP.room (by rw [zeros_len]; exact H1L.out)
 have hP2 := hP.stored (l' := one) (by rw [zeros_len]; exact H1L.out)
 have hR2 := (hR1.alloc (.cells (ints .i64 (zeros 16)).toArray 29)).past (b' := w1.heap.size) (o' := 0) (ints .i64 one).toArray.toList (.inl (by omega))
 have hN2 := (hN1.alloc (.cells (ints .i64 (zeros 16)).toArray 29)).past (b' := w1.heap.size) (o' := 0) (ints .i64 one).toArray.toList (.inl (by omega))
 have hY2 := (hY1.alloc (.cells (ints .i64 (zeros 16)).toArray 29)).past (b' := w1.heap.size) (o' := 0) (ints .i64 one).toArray.toList (.inl (by omega))
 have hW2 := Below.setCells (hW1.alloc hW1.size (.cells (ints .i64 (zeros 16)).toArray 29)) (g := w1.heap.size) hW1.size 0 (ints .i64 one).toArray.toList
 clear hR hN hY hW hb1 hR1 hN1 hY1 hW1 hP
 go_wp2_with (first
   | (with_reducible refine wpList_store_mid (op := ⟨none, .store 29 (.tmp 5) (.tmp 7), _, _, _, _⟩) rfl 29 (.tmp 5) (.tmp 7) rfl w1.heap.size 0 (ints .i64 one).toArray rfl rfl hs1 (a26 H1L.out) (ints_all _ _) ?_))
 obtain ⟨B, hB⟩ : ∃ B, B = w1.heap.size := ⟨_, rfl⟩
 have hP3 : Arr ((w1.alloc (.cells (ints .i64 (zeros 16)).toArray 29)).setCells w1.heap.size 0 (ints .i64 one)) w1.heap.size 0 .i64 (powL xs bs 0) := by rw [H1.out]; simpa using hP2
 have hR3 : Arr ((w1.alloc (.cells (ints .i64 (zeros 16)).toArray 29)).setCells w1.heap.size 0 (ints .i64 one)) (w.heap.size + 1 + 1) 0 .i64 (zeros 16) := by simpa using hR2
 have hN3 : Arr ((w1.alloc (.cells (ints .i64 (zeros 16)).toArray 29)).setCells w1.heap.size 0 (ints .i64 one)) w.heap.size 0 .i64 xs := by simpa using hN2
 have hY3 : Arr ((w1.alloc (.cells (ints .i64 (zeros 16)).toArray 29)).setCells w1.heap.size 0 (ints .i64 one)) (w.heap.size + 1) 0 .u8 bs := by simpa using hY2
 have hW3 : Below w.heap.size w ((w1.alloc (.cells (ints .i64 (zeros 16)).toArray 29)).setCells w1.heap.size 0 (ints .i64 one)) := by simpa using hW2
 clear hP2 hR2 hN2 hY2 hW2 hs1
 generalize ((w1.alloc (.cells (ints .i64 (zeros 16)).toArray 29)).setCells w1.heap.size 0 (ints .i64 one)) = W2 at *
 rw [← hB] at hP3 hz2 ⊢
 clear hB
 go_loopw [6] (fun i wr => ∃ (k : Nat) (b : Int), k ≤ 256 ∧ i = .int .i64 b ∧ Hid (b = 255 - k) ∧ Arr wr (w.heap.size + 1 + 1) 0 .i64 (zeros 16) ∧ Arr wr w.heap.size 0 .i64 xs ∧ Arr wr (w.heap.size + 1) 0 .u8 bs ∧ Arr wr B 0 .i64 (powL xs bs k) ∧ Below w.heap.size w wr) (fun i _ => (intOf i + 1).toNat)
 case atStart => exact ⟨0, 255, by omega, rfl, hid rfl, hR3, hN3, hY3, hP3, hW3⟩
 case round =>
   clear hR3 hN3 hY3 hP3 hW3
   obtain ⟨k, b, hk, rfl, HBK, hR, hN, hY, hP, hW⟩ := hrel
   rename World => W3
   by_cases hlt : k < 256
   · have HKN : Hid (powL xs bs (k + 1) = if bitAt bs (255 - k) = 1 then mulL (mulL (powL xs bs k) (powL xs bs k)) xs else mulL (powL xs bs k) (powL xs bs k)) := hid rfl
     have HPk := hid (HPE.out k)
     generalize powL xs bs k = p at *
     have HPL := hid HPk.out.len
     have HMM := hid (mulL_el HPk.out HPk.out).1
     have HMML := hid HMM.out.len
     have HM2 := hid (mulL_el HMM.out HX.out).1
     have HM2L := hid HM2.out.len
     obtain ⟨n, rfl⟩ : ∃ n : Nat, b = n := ⟨(255 - k : Nat), by have := HBK.out; omega⟩
     have HNK : Hid (255 - k = n) := hid (by have := HBK.out; omega)
     have hn : (n : Int) ≤ 255 := by have := HBK.out; omega
     have n0 : (0 : Int) ≤ n := by omega
     obtain ⟨q, hq⟩ : ∃ q, q = n / 8 := ⟨_, rfl⟩
     obtain ⟨r, hr⟩ : ∃ r, r = n % 8 := ⟨_, rfl⟩
     have hqi : (n : Int) / 8 = (q : Int) := by omega
     have hri : (n : Int) % 8 = (r : Int) := by omega
     have q0 : (0 : Int) ≤ q := by omega
     have q32 : (q : Int) < 32 := by omega
     have r0 : (0 : Int) ≤ r := by omega
     have r8 : (r : Int) ≤ 8 := by omega
     obtain ⟨x, cx, _, HXq⟩ := hY.spot (i := q) (by rw [HL.out]; omega)
     rw [Nat.zero_add] at cx
     have hxb := HB.out.at_ HXq.out
     obtain ⟨s, hs⟩ : ∃ s, s = x / 2 ^ r := ⟨_, rfl⟩
     have hp2 : (0 : Int) < 2 ^ r := Int.pow_pos (by omega)
     have hsb : 0 ≤ s ∧ s < 256 := by
       have h1 := Int.ediv_nonneg hxb.1 (Int.le_of_lt hp2)
       have h2 := Int.ediv_le_self (2 ^ r) hxb.1
       rw [hs]; omega
     have hmk := mask1_u8 s hsb
     have HBIT : Hid (bitAt bs (255 - k) = s % 2) := hid (by rw [HNK.out, hs, hr]; unfold bitAt; rw [← hq]; simp [List.getD, HXq.out])
     have hsx : x / 2 ^ r = s := hs.symm
     have HQR := hid (And.intro hq hr)
     clear hq hr hs hp2
     have hwn : IntKind.i64.wrap ((n : Int) - 1) = (n : Int) - 1 := IntWalk.i64_in _ (by omega)
     go_wp2_with (first
       | (with_reducible refine wpList_load_mid (op := ⟨some 12, .load 29 (.tmp 5), _, _, _, _⟩) rfl 29 (.tmp 5) rfl B 0 rfl (ints .i64 p) _ (hP.range) Tryd.underlying29 rfl (l26 HPL.out) ?_)
       | (with_reducible refine wpList_load_mid (op := ⟨some 13, .load 29 (.tmp 5), _, _, _, _⟩) rfl 29 (.tmp 5) rfl B 0 rfl (ints .i64 p) _ (hP.range) Tryd.underlying29 rfl (l26 HPL.out) ?_))
     refine (mul_any p p _ HPL.out HPL.out HPk.out.bd HPk.out.bd).mono ?_
     rintro e w4 ⟨rfl, hb4⟩
     have hR1 := hR.below hb4 (hR.lt (by rw [zeros_len]; omega))
     have hN1 := hN.below hb4 (hN.lt (by rw [HXL.out]; omega))
     have hY1 := hY.below hb4 (hY.lt (by rw [HL.out]; omega))
     have hP1 := hP.below hb4 (hP.lt (by rw [HPL.out]; omega))
     have hW1 := hW.trans (hb4.mono hW.size)
     clear hR hN hY hP hW hb4 cx
     generalize hmm : mulL p p = pp at *
     have HPP := hid hmm
     clear hmm
     have hs1 : w4.there B 0 (ints .i64 pp).toArray.size := hP1.room (by rw [HPL.out]; exact HMML.out)
     have hP2 := hP1.stored (l' := pp) (by rw [HPL.out]; exact HMML.out)
     have hR2 := hR1.past (b' := B) (o' := 0) (ints .i64 pp).toArray.toList (.inl (by omega))
     have hN2 := hN1.past (b' := B) (o' := 0) (ints .i64 pp).toArray.toList (.inl (by omega))
     have hY2 := hY1.past (b' := B) (o' := 0) (ints .i64 pp).toArray.toList (.inl (by omega))
     have hW2 := Below.setCells hW1 (g := B) (by omega) 0 (ints .i64 pp).toArray.toList
     have cx := hY2.at_ HXq.out
     rw [Nat.zero_add] at cx
     clear hR1 hN1 hY1 hP1 hW1
     by_cases hbit : s % 2 = 1
     · have hz : (s % 2 == 1) = true := by simpa using hbit
       have HK2 : Hid (powL xs bs (k + 1) = mulL pp xs) := hid (by rw [HKN.out, if_pos (by rw [HBIT.out]; exact hbit)])
       clear hbit
       go_wp2_with (first
         | (with_reducible refine wpList_store_mid (op := ⟨none, .store 29 (.tmp 5) (.tmp 14), _, _, _, _⟩) rfl 29 (.tmp 5) (.tmp 14) rfl B 0 (ints .i64 pp).toArray rfl rfl hs1 (a26 HMML.out) (ints_all _ _) ?_; generalize (w4.setCells B 0 (ints .i64 pp).toArray.toList) = W5 at *)
         | (with_reducible refine wpList_load_mid (op := ⟨some 24, .load 29 (.tmp 5), _, _, _, _⟩) rfl 29 (.tmp 5) rfl B 0 rfl (ints .i64 pp) _ (hP2.range) Tryd.underlying29 rfl (l26 HMML.out) ?_)
         | (with_reducible refine wpList_load_mid (op := ⟨some 25, .load 29 (.tmp 2), _, _, _, _⟩) rfl 29 (.tmp 2) rfl w.heap.size 0 rfl (ints .i64 xs) _ (hN2.range) Tryd.underlying29 rfl (l26 HXL.out) ?_))
       refine (mul_any pp xs _ HMML.out HXL.out HMM.out.bd HX.out.bd).mono ?_
       rintro e w6 ⟨rfl, hb6⟩
       have hR3 := hR2.below hb6 (hR2.lt (by rw [zeros_len]; omega))
       have hN3 := hN2.below hb6 (hN2.lt (by rw [HXL.out]; omega))
       have hY3 := hY2.below hb6 (hY2.lt (by rw [HL.out]; omega))
       have hP3 := hP2.below hb6 (hP2.lt (by rw [HMML.out]; omega))
       have hW3 := hW2.trans (hb6.mono hW2.size)
       clear hR2 hN2 hY2 hP2 hW2 hb6 cx hs1
       generalize hm2 : mulL pp xs = pq at *
       have HPQ := hid hm2
       clear hm2
       have hs2 : w6.there B 0 (ints .i64 pq).toArray.size := hP3.room (by rw [HMML.out]; exact HM2L.out)
       have hP4 := hP3.stored (l' := pq) (by rw [HMML.out]; exact HM2L.out)
       have hR4 := hR3.past (b' := B) (o' := 0) (ints .i64 pq).toArray.toList (.inl (by omega))
       have hN4 := hN3.past (b' := B) (o' := 0) (ints .i64 pq).toArray.toList (.inl (by omega))
       have hY4 := hY3.past (b' := B) (o' := 0) (ints .i64 pq).toArray.toList (.inl (by omega))
       have hW4 := Below.setCells hW3 (g := B) (by omega) 0 (ints .i64 pq).toArray.toList
       clear hR3 hN3 hY3 hP3 hW3
       go_wp2_with (first
         | (with_reducible refine wpList_store_mid (op := ⟨none, .store 29 (.tmp 5) (.tmp 26), _, _, _, _⟩) rfl 29 (.tmp 5) (.tmp 26) rfl B 0 (ints .i64 pq).toArray rfl rfl hs2 (a26 HM2L.out) (ints_all _ _) ?_; generalize (w6.setCells B 0 (ints .i64 pq).toArray.toList) = W7 at *))
       go_roundw
       case rel => exact ⟨k + 1, (n : Int) - 1, by omega, rfl, hid (by have := HBK.out; omega), hR4, hN4, hY4, by rw [HK2.out]; exact hP4, hW4⟩
       case measure => simp [intOf]
     · have hz : (s % 2 == 1) = false := by simpa using hbit
       have HK2 : Hid (powL xs bs (k + 1) = pp) := hid (by rw [HKN.out, if_neg (by rw [HBIT.out]; exact hbit)])
       clear hbit
       go_wp2_with (first
         | (with_reducible refine wpList_store_mid (op := ⟨none, .store 29 (.tmp 5) (.tmp 14), _, _, _, _⟩) rfl 29 (.tmp 5) (.tmp 14) rfl B 0 (ints .i64 pp).toArray rfl rfl hs1 (a26 HMML.out) (ints_all _ _) ?_; generalize (w4.setCells B 0 (ints .i64 pp).toArray.toList) = W5 at *))
       go_roundw
       case rel => exact ⟨k + 1, (n : Int) - 1, by omega, rfl, hid (by have := HBK.out; omega), hR2, hN2, hY2, by rw [HK2.out]; exact hP2, hW2⟩
       case measure => simp [intOf]
   · have e : k = 256 := by omega
     have hb0 : b < 0 := by have := HBK.out; omega
     rw [e, HM.out] at hP
     have HML : Hid (m.length = 16) := hid (by rw [← HM.out]; exact (HPE.out 256).len)
     clear e
     have hs1 : W3.there (w.heap.size + 1 + 1) 0 (ints .i64 m).toArray.size := hR.room (by rw [zeros_len]; exact HML.out)
     have hR4 := hR.stored (l' := m) (by rw [zeros_len]; exact HML.out)
     have hW4 := Below.setCells hW (g := w.heap.size + 1 + 1) (by omega) 0 (ints .i64 m).toArray.toList
     go_wp2_with (first
       | (with_reducible refine wpList_load_mid (op := ⟨some 27, .load 29 (.tmp 5), _, _, _, _⟩) rfl 29 (.tmp 5) rfl B 0 rfl (ints .i64 m) _ (hP.range) Tryd.underlying29 rfl (l26 HML.out) ?_)
       | (with_reducible refine wpList_store_mid (op := ⟨none, .store 29 (.tmp 4) (.tmp 27), _, _, _, _⟩) rfl 29 (.tmp 4) (.tmp 27) rfl (w.heap.size + 1 + 1) 0 (ints .i64 m).toArray rfl rfl hs1 (a26 HML.out) (ints_all _ _) ?_))
     exact ret_rows rfl (w.heap.size + 1 + 1) 0 rfl (ints .i64 m) _ hR4.range Tryd.underlying29 rfl (l26 HML.out) rfl ⟨rfl, hW4⟩
end Go.Proofs.YthpibkpljakeeaaDoor
