/- Texts laid together. -/
import Derived.Test.YthpibkpljakeeaaGreatDoorG1
import Derived.Test.YthpibkpljakeeaaGreatDoorApp
import Derived.Test.YthpibkpljakeeaaGreatDoorDigMath
import Derived.Laws.OwnMore
import Derived.Test.YthpibkpljakeeaaGreatDoorG3
namespace Go.Proofs.YthpibkpljakeeaaGreatDoor
set_option maxHeartbeats 1000000
open Go.RowKit
theorem Tryz.info3 : (Tryz.prog.info? 3).map (fun i => (i.zero, i.size, i.bytes)) = some (some (.int .i64 0), 1, 8) := by kernel_rfl
theorem Owns.block {w : World} {base : Nat} {e : TypeId} {k : IntKind} {A : Option Addr} {n c : Nat} {xs : List Int} (h : Owns w base e k (.slice A n c) xs) (hp : 0 < xs.length) : ∃ g, A = some ⟨g, 0, none⟩ ∧ base ≤ g := by
 rcases h.2 with ⟨hv, hn⟩ | ⟨g, cap, cur, hv, hg, _⟩
 · omega
 · injection hv with h1 h2 h3
   exact ⟨g, h1, hg⟩
def PD : List Nat := 65517 :: (List.replicate 14 65535 ++ [32767])
theorem pd_eq : (((nl (List.replicate 16 65535)).set 0 65517).set 15 32767) = nl PD := by decide
theorem nl_snoc (l : List Nat) (v : Nat) : nl l ++ [(v : Int)] = nl (l ++ [v]) := by simp [nl]
theorem rp_any (w : World) : Calls Tryz.prog 87 #[] w fun e w' => ∃ A c, e = .returned (.slice A 16 c) ∧ NumsF w.heap.size w' .i64 A (nl PD) ∧ Below w.heap.size w w' := by
 go_enter Tryz.func87, Tryz.ntmps87
 go_wp2
 go_loopw [1, 2] (fun v i wr => ∃ (k : Nat) (A : Option Addr) (m c : Nat), k ≤ 16 ∧ v = .slice A m c ∧ i = .int .i64 k ∧ Owns wr w.heap.size 3 .i64 (.slice A m c) (nl (List.replicate k 65535)) ∧ Below w.heap.size w wr) (fun _ i _ => 16 - (intOf i).toNat)
 case atStart => exact ⟨0, none, 0, 0, Nat.zero_le _, rfl, rfl, Owns.none_ _ _ _ _, Below.refl _ _⟩
 case round =>
   obtain ⟨k, A, m, c, hk, rfl, rfl, hO, hb⟩ := hrel
   by_cases hlt : k < 16
   · have hsz := hb.size
     have HL : Hid ((nl (List.replicate k 65535)).length ≤ 16) := hid (by rw [nl_length]; simp; omega)
     go_wp2_with (at_builtin; refine app_one _ rfl (.tmp 7) (.tmp 8) 55 rfl w.heap.size 3 .i64 8 Tryz.underlying55 Tryz.info3 A m c (nl (List.replicate k 65535)) rfl hO _ 1 rfl (by have := HL.out; omega) (by omega) hsz ?_; intro A' n' c' w2 hO2 hb2)
     go_roundw
     case rel => exact ⟨k + 1, A', n', c', by omega, rfl, by go_num, by rw [List.replicate_succ', ← nl_snoc]; exact hO2, hb.trans hb2⟩
     case measure => simp [intOf]; omega
   · have e : k = 16 := by omega
     subst e
     obtain ⟨g, rfl, hg⟩ := hO.block (by rw [nl_length]; simp)
     have hm := hO.len
     rw [nl_length, List.length_replicate] at hm
     subst hm
     obtain ⟨x0, c0, f0, _⟩ := hO.spot (j := 0) (by rw [nl_length]; simp)
     have hO2 := hO.store 0 65517
     obtain ⟨x1, c1, f1, _⟩ := hO2.spot (j := 15) (by rw [List.length_set, nl_length]; simp)
     have hO3 := hO2.store 15 32767
     rw [pd_eq] at hO3
     have HO := hid hO3
     clear hO hO2 hO3
     go_wp2
     go_ret
     exact ⟨some ⟨g, 0, none⟩, c, rfl, HO.out.fresh, (hb.setCell hg _).setCell hg _⟩
theorem drop_step {l : List Nat} {i : Nat} (h : i < l.length) : l.drop i = l.getD i 0 :: l.drop (i + 1) := by
 rw [List.drop_eq_getElem_cons h]
 simp [h]
theorem dv_cut {l : List Nat} {i : Nat} (h : i < l.length) : dv l = dv (l.take i) + 65536 ^ i * (l.getD i 0 + 65536 * dv (l.drop (i + 1))) := by
 rw [dv_split l i (by omega), drop_step h, dv]
theorem cmp_at {l m : List Nat} {i : Nat} (hl : Digs l) (hm : Digs m) (h1 : i < l.length) (h2 : i < m.length) (he : l.drop (i + 1) = m.drop (i + 1)) (hne : l.getD i 0 ≠ m.getD i 0) : (dv m ≤ dv l ↔ m.getD i 0 < l.getD i 0) := by
 rw [dv_cut h1, dv_cut h2, he]
 have t1 := dv_lt (l.take i) (fun v hv => hl v (List.mem_of_mem_take hv))
 have t2 := dv_lt (m.take i) (fun v hv => hm v (List.mem_of_mem_take hv))
 rw [List.length_take, Nat.min_eq_left (by omega)] at t1 t2
 generalize l.getD i 0 = x at *
 generalize m.getD i 0 = y at *
 generalize dv (l.take i) = a at *
 generalize dv (m.take i) = b at *
 generalize 65536 * dv (m.drop (i + 1)) = D at *
 generalize 65536 ^ i = P at *
 constructor
 · intro h
   refine Nat.lt_of_not_le fun hle => ?_
   have : P * (x + D + 1) ≤ P * (y + D) := Nat.mul_le_mul_left _ (by omega)
   rw [Nat.mul_add] at this
   omega
 · intro h
   have : P * (y + D + 1) ≤ P * (x + D) := Nat.mul_le_mul_left _ (by omega)
   rw [Nat.mul_add] at this
   omega
theorem Nums.num {w : World} {k : IntKind} {A : Option Addr} {xs : List Int} (h : Nums w k A xs) (hp : 0 < xs.length) : ∃ g o, A = some ⟨g, o, none⟩ ∧ g < w.heap.size ∧ ∀ (i : Nat) x, xs[i]? = some x → w.cell? ⟨g, o + i, none⟩ = some (.int k x) := by
 obtain ⟨b, off, e, hlt, hc⟩ := h hp
 refine ⟨b, off, e, hlt, fun i x hx => ?_⟩
 obtain ⟨hi, hxe⟩ := List.getElem?_eq_some_iff.1 hx
 rw [hc i hi]
 simp [List.getD, hx]
def Drawn (w w' : World) : Prop := ∃ n, w' = w.drewN n
theorem Drawn.refl (w : World) : Drawn w w := ⟨0, rfl⟩
theorem Drawn.more {w w' : World} (h : Drawn w w') (n : Nat) : Drawn w (w'.drewN n) := by
 obtain ⟨m, rfl⟩ := h
 exact ⟨m + n, by simp⟩
theorem Drawn.cell {w w' : World} (h : Drawn w w') {p : Addr} {v : Option Value} (hc : w.cell? p = v) : w'.cell? p = v := by
 obtain ⟨m, rfl⟩ := h
 exact hc
theorem Drawn.below {w w' : World} (h : Drawn w w') : Below w.heap.size w w' := by
 obtain ⟨m, rfl⟩ := h
 exact below_drewN (Below.refl _ _) m
theorem Nums.drewN {w : World} {k : IntKind} {A : Option Addr} {xs : List Int} (h : Nums w k A xs) (n : Nat) : Nums (w.drewN n) k A xs := h
set_option maxRecDepth 4000 in
theorem al_any (A B : Option Addr) (cA cB L : Nat) (l m : List Nat) (w : World) (hl : l.length = L) (hm : m.length = L) (hn : L ≤ 1000) (dl : Digs l) (dm : Digs m) (hA : Nums w .i64 A (nl l)) (hB : Nums w .i64 B (nl m)) :
   Calls Tryz.prog 92 #[.slice A L cA, .slice B L cB] w fun e w' => ∃ b, e = .returned (.bool b) ∧ Hid (b = decide (dv m ≤ dv l)) ∧ Drawn w w' := by
 have HL := hid hl
 have HM := hid hm
 have DL := hid dl
 have DM := hid dm
 clear dl dm hl hm
 have hlw : IntKind.i64.wrap ((L : Int) - 1) = (L : Int) - 1 := IntWalk.i64_in _ (by omega)
 go_enter Tryz.func92, Tryz.ntmps92
 go_wp2
 go_loopw [5] (fun i wr => ∃ j : Nat, j ≤ L ∧ i = .int .i64 ((j : Int) - 1) ∧ Hid (l.drop j = m.drop j) ∧ Drawn w wr) (fun i _ => (intOf i + 1).toNat)
 case atStart => exact ⟨L, by omega, rfl, hid (by rw [List.drop_of_length_le (by rw [HL.out]; omega), List.drop_of_length_le (by rw [HM.out]; omega)]), Drawn.refl _⟩
 case round =>
   obtain ⟨j, hj, rfl, HD, HW⟩ := hrel
   cases j with
   | zero =>
     have hz : ((0 : Nat) : Int) - 1 = -1 := by omega
     rw [hz]
     have HE : Hid (l = m) := HD
     go_wp2
     go_ret
     exact ⟨true, rfl, hid (by rw [HE.out]; simp), HW⟩
   | succ i =>
     have hz : ((i + 1 : Nat) : Int) - 1 = (i : Int) := by omega
     rw [hz]
     have hil : i < l.length := by rw [HL.out]; omega
     have him : i < m.length := by rw [HM.out]; omega
     obtain ⟨g, o, rfl, _, cA0⟩ := hA.num (by rw [nl_length, HL.out]; omega)
     obtain ⟨g2, o2, rfl, _, cB0⟩ := hB.num (by rw [nl_length, HM.out]; omega)
     have cl := HW.cell (cA0 i _ (nl_at hil))
     have cm := HW.cell (cB0 i _ (nl_at him))
     have HC : Hid (l.getD i 0 ≠ m.getD i 0 → (dv m ≤ dv l ↔ m.getD i 0 < l.getD i 0)) := hid fun h => cmp_at DL.out DM.out hil him HD.out h
     have HS : Hid (l.getD i 0 = m.getD i 0 → l.drop i = m.drop i) := hid fun h => by rw [drop_step hil, drop_step him, h, HD.out]
     clear cA0 cB0 hil him
     generalize l.getD i 0 = x at *
     generalize m.getD i 0 = y at *
     have i0 : (0 : Int) ≤ i := by omega
     have i1 : (i : Int) < L := by omega
     have iw : IntKind.i64.wrap ((i : Int) - 1) = (i : Int) - 1 := IntWalk.i64_in _ (by omega)
     by_cases hxy : x = y
     · have hne : ((x : Int) != (y : Int)) = false := by simp [hxy]
       have HT := hid (HS.out hxy)
       clear HC HS hz hxy
       go_wp2
       go_quiet (fail)
       go_wp2
       go_roundw
       case rel => exact ⟨i, by omega, rfl, HT, HW.more _⟩
       case measure => simp [intOf]
     · have hne : ((x : Int) != (y : Int)) = true := by simp only [bne_iff_ne]; omega
       have HT := hid (HC.out hxy)
       clear HC HS hz hxy
       go_wp2
       go_quiet (fail)
       go_wp2
       go_quiet (fail)
       go_wp2
       go_ret
       exact ⟨decide (y < x), by simp, hid (decide_eq_decide.2 HT.out).symm, (HW.more _).more _⟩
open Go.RowKit
theorem dv_snoc (l : List Nat) (v : Nat) : dv (l ++ [v]) = dv l + v * 65536 ^ l.length := by
 induction l with
 | nil => simp [dv]
 | cons a l ih =>
   simp only [List.cons_append, dv, ih, List.length_cons, Nat.pow_succ]
   have e : v * (65536 ^ l.length * 65536) = 65536 * (v * 65536 ^ l.length) := by rw [← Nat.mul_assoc, Nat.mul_comm]
   omega
theorem digs_snoc {l : List Nat} {v : Nat} (h : Digs l) (hv : v < 65536) : Digs (l ++ [v]) := fun x hx => by
 rcases List.mem_append.1 hx with h1 | h1
 · exact h x h1
 · simp at h1; omega
def LessI (l m ys : List Nat) (bo k : Nat) : Prop := ys.length = k ∧ Digs ys ∧ bo ≤ 1 ∧ dv ys + dv (m.take k) = dv (l.take k) + bo * 65536 ^ k
theorem LessI.step {l m ys : List Nat} {bo k d bo' : Nat} (h : LessI l m ys bo k) (h1 : k < l.length) (h2 : k < m.length) (hd : d < 65536) (hb : bo' ≤ 1) (he : d + m.getD k 0 + bo = l.getD k 0 + 65536 * bo') : LessI l m (ys ++ [d]) bo' (k + 1) := by
 obtain ⟨a, b, c, e⟩ := h
 have g1 : l[k]? = some (l.getD k 0) := by rw [List.getD_eq_getElem?_getD, List.getElem?_eq_getElem h1]; rfl
 have g2 : m[k]? = some (m.getD k 0) := by rw [List.getD_eq_getElem?_getD, List.getElem?_eq_getElem h2]; rfl
 refine ⟨by simp [a], digs_snoc b hd, hb, ?_⟩
 rw [dv_snoc, a, dv_take_succ l k _ g1, dv_take_succ m k _ g2, Nat.pow_succ]
 generalize l.getD k 0 = x at *
 generalize m.getD k 0 = y at *
 generalize 65536 ^ k = P at *
 have h3 : (d + y + bo) * P = (x + 65536 * bo') * P := by rw [he]
 have h4 : bo' * (P * 65536) = 65536 * bo' * P := by rw [Nat.mul_comm P, ← Nat.mul_assoc, Nat.mul_comm bo']
 rw [Nat.add_mul, Nat.add_mul, Nat.add_mul] at h3
 rw [h4]
 omega
theorem LessI.end_ {l m ys : List Nat} {bo L : Nat} (h : LessI l m ys bo L) (hl : l.length = L) (hm : m.length = L) (hle : dv m ≤ dv l) : dv ys = dv l - dv m := by
 obtain ⟨a, b, c, e⟩ := h
 rw [List.take_of_length_le (by omega), List.take_of_length_le (by omega)] at e
 have := dv_lt ys b
 rw [a] at this
 have hb : bo = 0 ∨ bo = 1 := by omega
 rcases hb with rfl | rfl
 · omega
 · omega
set_option maxRecDepth 4000 in
set_option maxHeartbeats 1000000 in
theorem le_any (A B : Option Addr) (cA cB L : Nat) (l m : List Nat) (w : World) (hl : l.length = L) (hm : m.length = L) (hn : L ≤ 1000) (dl : Digs l) (dm : Digs m) (hle : dv m ≤ dv l) (hA : Nums w .i64 A (nl l)) (hB : Nums w .i64 B (nl m)) :
   Calls Tryz.prog 86 #[.slice A L cA, .slice B L cB] w fun e w' => ∃ A' c ys, e = .returned (.slice A' L c) ∧ Hid (ys.length = L ∧ Digs ys ∧ dv ys = dv l - dv m) ∧ NumsF w.heap.size w' .i64 A' (nl ys) ∧ Below w.heap.size w w' := by
 have HL := hid hl
 have HM := hid hm
 have DL := hid dl
 have DM := hid dm
 have HLE := hid hle
 clear dl dm hl hm hle
 go_enter Tryz.func86, Tryz.ntmps86
 go_wp2
 go_loopw [5, 6, 7] (fun v b i wr => ∃ (k : Nat) (ys : List Nat) (bo : Nat) (R : Option Addr) (n c : Nat), k ≤ L ∧ v = .slice R n c ∧ b = .int .i64 bo ∧ i = .int .i64 k ∧ Hid (LessI l m ys bo k) ∧ Owns wr w.heap.size 3 .i64 (.slice R n c) (nl ys) ∧ Below w.heap.size w wr) (fun _ _ i _ => L - (intOf i).toNat)
 case atStart => exact ⟨0, [], 0, none, 0, 0, Nat.zero_le _, rfl, rfl, rfl, hid ⟨rfl, fun v hv => by simp at hv, by omega, by simp [dv]⟩, Owns.none_ _ _ _ _, Below.refl _ _⟩
 case round =>
   obtain ⟨k, ys, bo, R, n, c, hk, rfl, rfl, rfl, HI, hO, hb⟩ := hrel
   by_cases hlt : k < L
   · have hsz := hb.size
     have hil : k < l.length := by rw [HL.out]; omega
     have him : k < m.length := by rw [HM.out]; omega
     obtain ⟨g, o, rfl, _, cA0⟩ := (hA.below hb).num (by rw [nl_length, HL.out]; omega)
     obtain ⟨g2, o2, rfl, _, cB0⟩ := (hB.below hb).num (by rw [nl_length, HM.out]; omega)
     have cl := cA0 k _ (nl_at hil)
     have cm := cB0 k _ (nl_at him)
     have hx := getD_dig DL.out k
     have hy := getD_dig DM.out k
     have hbo := HI.out.2.2.1
     have HS : Hid (∀ d bo', d < 65536 → bo' ≤ 1 → d + m.getD k 0 + bo = l.getD k 0 + 65536 * bo' → LessI l m (ys ++ [d]) bo' (k + 1)) := hid fun d bo' h1 h2 h3 => HI.out.step hil him h1 h2 h3
     have HY : Hid ((nl ys).length = k) := hid (by rw [nl_length]; exact HI.out.1)
     clear cA0 cB0 hil him
     generalize l.getD k 0 = x at *
     generalize m.getD k 0 = y at *
     have k0 : (0 : Int) ≤ k := by omega
     have k1 : (k : Int) < L := by omega
     have w1 : IntKind.i64.wrap ((x : Int) - y) = (x : Int) - y := IntWalk.i64_in _ (by omega)
     have w2 : IntKind.i64.wrap ((x : Int) - y - bo) = (x : Int) - y - bo := IntWalk.i64_in _ (by omega)
     by_cases hneg : x < y + bo
     · obtain ⟨d, hd⟩ : ∃ d : Nat, d = x + 65536 - (y + bo) := ⟨_, rfl⟩
       have hz : (x : Int) - y - bo = (d : Int) - 65536 := by omega
       have hdl : d < 65536 := by omega
       have HT := hid (HS.out d 1 hdl (by omega) (by omega))
       have hdn : (d : Int) - 65536 < 0 := by omega
       have hdw : IntKind.i64.wrap ((d : Int) - 65536 + 65536) = d := by rw [IntWalk.i64_in _ (by omega)]; omega
       rw [hz] at w2
       clear HS hneg hd hx hy hbo hdl
       go_wp2
       go_quiet (fail)
       clear w1 w2 hz
       go_wp2_with (at_builtin; refine app_one _ rfl (.tmp 30) (.tmp 32) 55 rfl w.heap.size 3 .i64 8 Tryz.underlying55 Tryz.info3 R n c (nl ys) rfl (hO.drewN _) _ 1 rfl (by rw [HY.out]; omega) (by omega) (by simpa using hsz) ?_; intro A' n' c' w2 hO2 hb2)
       go_roundw
       case rel => exact ⟨k + 1, ys ++ [d], 1, A', n', c', by omega, rfl, rfl, by go_num, HT, by rw [← nl_snoc]; exact hO2, (below_drewN hb nq).trans hb2⟩
       case measure => simp [intOf]; omega
     · obtain ⟨d, hd⟩ : ∃ d : Nat, d = x - (y + bo) := ⟨_, rfl⟩
       have hz : (x : Int) - y - bo = (d : Int) := by omega
       have hdl : d < 65536 := by omega
       have HT := hid (HS.out d 0 hdl (by omega) (by omega))
       have hdn : ¬ (d : Int) < 0 := by omega
       rw [hz] at w2
       clear HS hneg hd hx hy hbo hdl
       go_wp2
       go_quiet (fail)
       clear w1 w2 hz
       go_wp2_with (at_builtin; refine app_one _ rfl (.tmp 30) (.tmp 32) 55 rfl w.heap.size 3 .i64 8 Tryz.underlying55 Tryz.info3 R n c (nl ys) rfl (hO.drewN _) _ 1 rfl (by rw [HY.out]; omega) (by omega) (by simpa using hsz) ?_; intro A' n' c' w2 hO2 hb2)
       go_roundw
       case rel => exact ⟨k + 1, ys ++ [d], 0, A', n', c', by omega, rfl, rfl, by go_num, HT, by rw [← nl_snoc]; exact hO2, (below_drewN hb nq).trans hb2⟩
       case measure => simp [intOf]; omega
   · have e : k = L := by omega
     subst e
     have hm := hO.len
     rw [nl_length, HI.out.1] at hm
     subst hm
     have HE : Hid (dv ys = dv l - dv m) := hid (HI.out.end_ HL.out HM.out HLE.out)
     go_wp2
     go_ret
     exact ⟨R, c, ys, rfl, hid ⟨HI.out.1, HI.out.2.1, HE.out⟩, hO.fresh, hb⟩
def hiL : List Nat → List Nat
 | [] => []
 | a :: r => (a / 32768 + r.getD 0 0 % 32768 * 2) :: hiL r
theorem hiL_length : ∀ l : List Nat, (hiL l).length = l.length
 | [] => rfl
 | a :: r => by simp [hiL, hiL_length r]
theorem hiL_at : ∀ (l : List Nat) (i : Nat), i < l.length → (hiL l)[i]? = some (l.getD i 0 / 32768 + l.getD (i + 1) 0 % 32768 * 2)
 | [], i, h => by simp at h
 | a :: r, 0, _ => by simp [hiL]
 | a :: r, i + 1, h => by
   have := hiL_at r i (by simpa using h)
   simpa [hiL] using this
theorem hiL_digs : ∀ l : List Nat, Digs l → Digs (hiL l)
 | [], _ => fun v hv => by simp [hiL] at hv
 | a :: r, h => fun v hv => by
   have ha := h a (by simp)
   rcases List.mem_cons.1 hv with rfl | h2
   · omega
   · exact hiL_digs r (fun v hv => h v (by simp [hv])) v h2
theorem hiL_dv : ∀ l : List Nat, dv l = l.getD 0 0 % 32768 + 32768 * dv (hiL l)
 | [] => rfl
 | a :: r => by
   have := hiL_dv r
   simp only [dv, hiL, List.getD_cons_zero]
   omega
def lows (xs : List Nat) : List Nat := xs.take 15 ++ [xs.getD 15 0 % 32768]
def highs (xs : List Nat) : List Nat := hiL (xs.drop 15)
theorem lows_length {xs : List Nat} (h : 16 ≤ xs.length) : (lows xs).length = 16 := by simp [lows]; omega
theorem lows_digs {xs : List Nat} (h : Digs xs) : Digs (lows xs) := fun v hv => by
 rcases List.mem_append.1 hv with h1 | h1
 · exact h v (List.mem_of_mem_take h1)
 · simp at h1; omega
theorem highs_length (xs : List Nat) : (highs xs).length = xs.length - 15 := by simp [highs, hiL_length]
theorem highs_digs {xs : List Nat} (h : Digs xs) : Digs (highs xs) := hiL_digs _ (fun v hv => h v (List.mem_of_mem_drop hv))
theorem highs_at {xs : List Nat} {i : Nat} (h : 15 + i < xs.length) : (highs xs)[i]? = some (xs.getD (15 + i) 0 / 32768 + xs.getD (15 + i + 1) 0 % 32768 * 2) := by
 unfold highs
 rw [hiL_at _ _ (by simp; omega)]
 simp [List.getD_eq_getElem?_getD, List.getElem?_drop, Nat.add_assoc]
def Q255 : Nat := 57896044618658097711785492504343953926634992332820282019728792003956564819968
theorem split255 {xs : List Nat} (h : 16 ≤ xs.length) : dv xs = dv (lows xs) + Q255 * dv (highs xs) := by
 rw [dv_split xs 15 (by omega), hiL_dv (xs.drop 15)]
 unfold lows highs
 rw [dv_snoc, List.length_take, Nat.min_eq_left (by omega)]
 have e : (xs.drop 15).getD 0 0 = xs.getD 15 0 := by simp [List.getD_eq_getElem?_getD]
 have e15 : 65536 ^ 15 = 1766847064778384329583297500742918515827483896875618958121606201292619776 := by decide
 rw [e, e15]
 unfold Q255
 omega
theorem lows_lt {xs : List Nat} (h : Digs xs) (hl : 16 ≤ xs.length) : dv (lows xs) < Q255 := by
 unfold lows
 rw [dv_snoc, List.length_take, Nat.min_eq_left (by omega)]
 have t := dv_lt (xs.take 15) (fun v hv => h v (List.mem_of_mem_take hv))
 rw [List.length_take, Nat.min_eq_left (by omega)] at t
 have e15 : 65536 ^ 15 = 1766847064778384329583297500742918515827483896875618958121606201292619776 := by decide
 rw [e15] at *
 unfold Q255
 omega
theorem dv_zero_of {l : List Nat} (h : ∀ v ∈ l, v = 0) : dv l = 0 := by
 induction l with
 | nil => rfl
 | cons a l ih =>
   rw [dv, ih (fun v hv => h v (by simp [hv])), h a (by simp)]
theorem dv_pos_of {l : List Nat} {v : Nat} (h : v ∈ l) (hv : 0 < v) : 0 < dv l := by
 induction l with
 | nil => simp at h
 | cons a l ih =>
   rw [dv]
   rcases List.mem_cons.1 h with rfl | h2
   · omega
   · have := ih h2; omega
theorem dv_zeros (l : List Nat) (n : Nat) : dv (l ++ List.replicate n 0) = dv l := by
 induction n with
 | zero => simp
 | succ n ih => rw [List.replicate_succ', ← List.append_assoc, dv_snoc, ih]; omega
def AddI (low hs zs : List Nat) (cy i : Nat) : Prop := zs.length = low.length ∧ Digs zs ∧ cy ≤ 20 ∧ dv zs + cy * 65536 ^ i = dv low + 19 * dv (hs.take i)
theorem AddI.step {low hs zs : List Nat} {cy i n : Nat} (h : AddI low hs zs cy i) (hh : Digs hs) (h1 : i < low.length) (hn : n = zs.getD i 0 + cy + (if i < hs.length then 19 * hs.getD i 0 else 0)) : AddI low hs (zs.set i (n % 65536)) (n / 65536) (i + 1) := by
 obtain ⟨a, b, c, e⟩ := h
 have hz := getD_dig b i
 have hp : zs[i]? = some (zs.getD i 0) := by rw [List.getD_eq_getElem?_getD, List.getElem?_eq_getElem (by omega)]; rfl
 have hx := getD_dig hh i
 refine ⟨by simp [a], set_digs b _ _ (Nat.mod_lt _ (by omega)), ?_, ?_⟩
 · split at hn <;> omega
 · have hs' : dv (hs.take (i + 1)) = dv (hs.take i) + (if i < hs.length then hs.getD i 0 else 0) * 65536 ^ i := by
     split
     · rename_i hi
       exact dv_take_succ hs i _ (by rw [List.getD_eq_getElem?_getD, List.getElem?_eq_getElem hi]; rfl)
     · rename_i hi
       rw [List.take_of_length_le (by omega), List.take_of_length_le (by omega)]; simp
   have h2 := dv_set zs i (n % 65536) _ hp
   have hdm := Nat.div_add_mod n 65536
   have hn2 : n = zs.getD i 0 + cy + 19 * (if i < hs.length then hs.getD i 0 else 0) := by rw [hn]; split <;> rfl
   rw [hs', Nat.pow_succ]
   generalize (if i < hs.length then hs.getD i 0 else 0) = y at *
   generalize zs.getD i 0 = x at *
   generalize n % 65536 = r at *
   generalize n / 65536 = q at *
   generalize 65536 ^ i = P at *
   have h3 : (65536 * q + r) * P = (x + cy + 19 * y) * P := by rw [hdm, hn2]
   have h4 : q * (P * 65536) = 65536 * q * P := by rw [Nat.mul_comm P, ← Nat.mul_assoc, Nat.mul_comm q]
   rw [Nat.add_mul, Nat.add_mul, Nat.add_mul, Nat.mul_assoc 19] at h3
   rw [h4, Nat.mul_add]
   omega
theorem AddI.end_ {low hs zs : List Nat} {cy : Nat} (h : AddI low hs zs cy low.length) (hl : hs.length ≤ low.length) : dv (zs ++ [cy]) = dv low + 19 * dv hs := by
 obtain ⟨a, b, c, e⟩ := h
 rw [List.take_of_length_le hl] at e
 rw [dv_snoc, a, e]
open Go.RowKit
theorem app_oneG {P : Program} {w : World} {ops : Array Oper} {rest : List Oper} {o : Oper} {a : Act} {Q : Exit → Act → World → Prop} (hgd : o.guard = none) (s x : Operand) (t : TypeId)
   (ho : o.op = .call { callee := .builtin .append, args := #[s, x], argTypes := #[t, t] }) (base : Nat) (e : TypeId) (k : IntKind) (bytes : Nat) (ht : P.underlying t = some (.slice e))
   (hinf : (P.info? e).map (fun i => (i.zero, i.size, i.bytes)) = some (some (.int k 0), 1, bytes)) (hbt : 0 < bytes) (A : Option Addr) (n c : Nat) (xs : List Int) (hs : a.eval s = .slice A n c)
   (hown : Owns w base e k (.slice A n c) xs) (y : Int) (m : Nat) (hx : a.eval x = .slice (some ⟨w.heap.size, 0, none⟩) 1 m) (h63 : (xs.length + 1) * bytes ≤ 140737488355328) (hbase : base ≤ w.heap.size)
   (h : ∀ A' n' c' w', Owns w' base e k (.slice A' n' c') (xs ++ [y]) → Grew w w' (.slice A n c) (.slice A' n' c') → wpList P ops Q rest (a.put o.dst (.slice A' n' c')) w') :
   wpList P ops Q (o :: rest) a (w.alloc (.cells #[.int k y] e)) :=
 app_nums hgd s x t ho base e k bytes ht hinf hbt A n c xs hs (hown.alloc _) (some ⟨w.heap.size, 0, none⟩) m [y] hx (nums_one w k y e) h63 (by simp; omega) fun A' n' c' w' h1 h2 => h A' n' c' w' h1 (Grew.after (below_new w _) h2)
theorem Nums.grew {w w' : World} {k : IntKind} {g o : Nat} {xs : List Int} {v v' : Value} (h : Nums w k (some ⟨g, o, none⟩) xs) (hG : Grew w w' v v') (hne : v.ownBlock ≠ some g) : Nums w' k (some ⟨g, o, none⟩) xs := fun hp => by
 obtain ⟨b, off, e, hlt, hc⟩ := h hp
 injection e with e
 injection e with e1 e2
 subst e1 e2
 exact ⟨g, o, rfl, Nat.lt_of_lt_of_le hlt hG.1.size, fun i hi => (hG.cell (p := ⟨g, o + i, none⟩) hlt hne).trans (hc i hi)⟩
theorem Grew.far {w w' : World} {v v' : Value} {g : Nat} (hG : Grew w w' v v') (hne : v.ownBlock ≠ some g) (hg : g < w.heap.size) : v'.ownBlock ≠ some g := fun e => by
 rcases hG.2 with h | h
 · exact hne (by rw [← h, e])
 · have := h g e; omega
theorem pd_digs : Digs PD := fun v hv => by
 have h : PD.all (fun v => decide (v < 65536)) = true := by decide
 exact of_decide_eq_true (List.all_eq_true.1 h v hv)
theorem Nums.setOff {w : World} {k : IntKind} {g o : Nat} {xs : List Int} (h : Nums w k (some ⟨g, o, none⟩) xs) {p : Addr} (v : Value) (hp : p.block ≠ g) : Nums (w.setCell p v) k (some ⟨g, o, none⟩) xs := fun hl => by
 obtain ⟨b, off, e, hb, hc⟩ := h hl
 injection e with e
 injection e with e1 e2
 subst e1 e2
 refine ⟨g, o, rfl, by simpa using hb, fun i hi => ?_⟩
 rw [World.cell?_setCell_other _ _ _ _ (by intro q; rw [q] at hp; exact hp rfl)]
 exact hc i hi
def rowv (v : Value) (w : World) : Nat := match v with
 | .slice (some ⟨g, o, _⟩) n _ => dv ((List.range n).map fun i => match w.cell? ⟨g, o + i, none⟩ with
   | some (.int _ x) => x.toNat
   | _ => 0)
 | _ => 0
theorem rowv_of {w : World} {k : IntKind} {A : Option Addr} {n c : Nat} {l : List Nat} (h : Nums w k A (nl l)) (hn : l.length = n) : rowv (.slice A n c) w = dv l := by
 subst hn
 cases l with
 | nil =>
   cases A with
   | none => rfl
   | some p => obtain ⟨g, o, s⟩ := p; rfl
 | cons a r =>
   obtain ⟨g, o, rfl, _, hc⟩ := h.num (by simp [nl])
   unfold rowv
   dsimp only
   congr 1
   apply List.ext_getElem (by simp)
   intro i h1 h2
   have := hc i _ (nl_at (l := a :: r) h2)
   have e : (a :: r)[i]?.getD 0 = (a :: r)[i] := by rw [List.getElem?_eq_getElem h2]; rfl
   simp [this, List.getD, e]
theorem Nums.at0 {w : World} {k : IntKind} {g : Nat} {xs : List Int} (h : Nums w k (some ⟨g, 0, none⟩) xs) {i : Nat} {x : Int} (hx : xs[i]? = some x) : w.cell? ⟨g, i, none⟩ = some (.int k x) := by
 obtain ⟨hi, _⟩ := List.getElem?_eq_some_iff.1 hx
 obtain ⟨g2, o2, e, _, hc⟩ := h.num (by omega)
 injection e with e
 injection e with e1 e2
 subst e1 e2
 have := hc i x hx
 rwa [Nat.zero_add] at this
theorem Nums.lt0 {w : World} {k : IntKind} {g o : Nat} {xs : List Int} (h : Nums w k (some ⟨g, o, none⟩) xs) (hp : 0 < xs.length) : g < w.heap.size := by
 obtain ⟨g2, o2, e, hl, _⟩ := h.num hp
 injection e with e
 injection e with e1 e2
 subst e1; exact hl
set_option maxRecDepth 4000 in
set_option maxHeartbeats 4000000 in
theorem rmod_any (A : Option Addr) (cA L : Nat) (l : List Nat) (w : World) (hl : l.length = L) (hL1 : 16 ≤ L) (hn : L ≤ 50) (dl : Digs l) (hA : Nums w .i64 A (nl l)) :
   Calls Tryz.prog 88 #[.slice A L cA] w fun e w' => ∃ A' c ys, e = .returned (.slice A' 16 c) ∧ Hid (ys.length = 16 ∧ Digs ys ∧ dv ys = dv l % NT.PN) ∧ NumsF w.heap.size w' .i64 A' (nl ys) ∧ Below w.heap.size w w' := by
 have HL := hid hl
 have HN : Hid ((nl l).length = L) := hid (by rw [nl_length]; exact hl)
 have DL := hid dl
 clear dl hl
 go_enter Tryz.func88, Tryz.ntmps88
 go_wp2_with (at_builtin; refine app_nums rfl (.tmp 14) (.tmp 15) 55 rfl w.heap.size 3 .i64 8 Tryz.underlying55 Tryz.info3 (by omega) none 0 0 [] rfl (Owns.none_ _ _ _ _) A cA (nl l) (by rw [HN.out]; rfl) hA (by rw [HN.out]; simp; omega) (by omega) ?_; intro A1 n1 c1 w1 hO1 hG1)
 rw [List.nil_append] at hO1
 have hb1 : Below w.heap.size w w1 := hG1.below (by omega) (fun g hg => by cases hg)
 have hn1 := hO1.len
 rw [HN.out] at hn1
 subst hn1
 clear hG1 hA
 go_loopw [3] (fun v wr => ∃ (xs : List Nat) (B : Option Addr) (n c : Nat), v = .slice B n c ∧ Hid (Digs xs ∧ xs.length = n ∧ dv xs % NT.PN = dv l % NT.PN) ∧ 16 ≤ n ∧ n ≤ 50 ∧ Owns wr w.heap.size 3 .i64 (.slice B n c) (nl xs) ∧ Below w.heap.size w wr) (fun v wr => rowv v wr)
 case atStart => exact ⟨l, A1, n1, c1, rfl, hid ⟨DL.out, HL.out, rfl⟩, by omega, by omega, hO1, hb1⟩
 case round =>
   clear hb1 hO1
   obtain ⟨xs, B, n, c, rfl, HX, hn16, hn100, hO, hb⟩ := hrel
   have HV : Hid (rowv (.slice B n c) wr = dv xs) := hid (rowv_of hO.nums HX.out.2.1)
   rename World => W1
   go_wp2
   go_loopw [3] (fun v wr => ∃ (zs : List Nat) (B : Option Addr) (n c : Nat), v = .slice B n c ∧ Hid (Digs zs ∧ zs.length = n ∧ dv zs = dv xs) ∧ 16 ≤ n ∧ n ≤ 50 ∧ Owns wr w.heap.size 3 .i64 (.slice B n c) (nl zs) ∧ Below w.heap.size w wr) (fun v _ => match v with | .slice _ n _ => 17 - n | _ => 0)
   case atStart => exact ⟨xs, B, n, c, rfl, hid ⟨HX.out.1, HX.out.2.1, rfl⟩, hn16, hn100, hO, hb⟩
   case round =>
     clear hO hb hn16 hn100
     obtain ⟨zs, B, n, c, rfl, HZ, hn16, hn100, hO, hb⟩ := hrel
     have HZL : Hid ((nl zs).length = n) := hid (by rw [nl_length]; exact HZ.out.2.1)
     by_cases hlt : n < 17
     · have hsz := hb.size
       go_wp2_with (at_builtin; refine app_oneG rfl (.tmp 20) (.tmp 21) 55 rfl w.heap.size 3 .i64 8 Tryz.underlying55 Tryz.info3 (by omega) B n c (nl zs) rfl hO _ 1 rfl (by rw [HZL.out]; omega) hsz ?_; intro A' n' c' w2 hO2 hG2)
       have hn' := hO2.len
       rw [List.length_append, HZL.out, List.length_singleton] at hn'
       subst hn'
       go_roundw
       case rel =>
         refine ⟨zs ++ [0], A', n + 1, c', rfl, hid ⟨digs_snoc HZ.out.1 (by omega), by simp [HZ.out.2.1], ?_⟩, by omega, by omega, ?_, hb.trans (hG2.below hsz (fun g hg => (hO.lt g hg).1))⟩
         · rw [dv_snoc, HZ.out.2.2]; omega
         · rw [← nl_snoc]; exact hO2
       case measure => show 17 - (n + 1) < 17 - n; omega
     · obtain ⟨gx, rfl, hgx⟩ := hO.block (by rw [HZL.out]; omega)
       have hX := hO.nums
       have hgl := hX.lt0 (by rw [HZL.out]; omega)
       clear hO
       rename World => W2
       have HH : Hid ((nl (highs zs)).length = n - 15) := hid (by rw [nl_length, highs_length, HZ.out.2.1])
       go_wp2
       go_loopw [4, 5] (fun v i wr => ∃ (k : Nat) (ps : List Nat) (R : Option Addr) (m d : Nat), 15 ≤ k ∧ k ≤ n ∧ i = .int .i64 k ∧ v = .slice R m d ∧ Hid (ps = (highs zs).take (k - 15)) ∧ Owns wr w.heap.size 3 .i64 (.slice R m d) (nl ps) ∧ Nums wr .i64 (some ⟨gx, 0, none⟩) (nl zs) ∧ Hid ((Value.slice R m d).ownBlock ≠ some gx) ∧ gx < wr.heap.size ∧ Below w.heap.size w wr) (fun _ i _ => n - (intOf i).toNat)
       case atStart => exact ⟨15, [], none, 0, 0, by omega, by omega, rfl, rfl, hid (by simp), Owns.none_ _ _ _ _, hX, hid (by intro e; cases e), hgl, hb⟩
       case round =>
         clear hX hgl hb
         obtain ⟨k, ps, R, m, d, hk15, hkn, rfl, rfl, HP, hO, hX, HF, hgl, hb⟩ := hrel
         have HPL : Hid ((nl ps).length ≤ 50) := hid (by rw [nl_length, HP.out, List.length_take]; omega)
         by_cases hlt2 : k < n
         · have hsz := hb.size
           have hkz : k < zs.length := by rw [HZ.out.2.1]; exact hlt2
           have ck := hX.at0 (nl_at hkz)
           have HE : Hid ((highs zs).take (k + 1 - 15) = ps ++ [zs.getD k 0 / 32768 + zs.getD (k + 1) 0 % 32768 * 2]) := hid (by
             have h1 := highs_at (xs := zs) (i := k - 15) (by omega)
             have e1 : 15 + (k - 15) = k := by omega
             rw [e1] at h1
             rw [HP.out, show k + 1 - 15 = (k - 15) + 1 by omega, List.take_add_one, h1]; rfl)
           have hx := getD_dig HZ.out.1 k
           have k0 : (0 : Int) ≤ k := by omega
           have k1 : (k : Int) < n := by omega
           by_cases hlt3 : k + 1 < n
           · have hkz2 : k + 1 < zs.length := by rw [HZ.out.2.1]; exact hlt3
             have ck2 := hX.at0 (nl_at hkz2)
             have hy := getD_dig HZ.out.1 (k + 1)
             have k2 : (k : Int) + 1 < n := by omega
             have k2n : ((k : Int) + 1).toNat = k + 1 := by omega
             clear hkz hkz2
             generalize zs.getD k 0 = x at *
             generalize zs.getD (k + 1) 0 = y at *
             have hv : ((x / 32768 + y % 32768 * 2 : Nat) : Int) = (x : Int) / 32768 + (y : Int) % 32768 * 2 := by omega
             have HV2 := hid hv
             clear hv
             go_wp2_with (at_builtin; refine app_oneG rfl (.tmp 48) (.tmp 50) 55 rfl w.heap.size 3 .i64 8 Tryz.underlying55 Tryz.info3 (by omega) R m d (nl ps) rfl hO _ 1 rfl (by have := HPL.out; omega) hsz ?_; intro A' n' c' w2 hO2 hG2)
             go_roundw
             case rel =>
               rw [← HV2.out, nl_snoc] at hO2
               exact ⟨k + 1, _, A', n', c', by omega, by omega, by go_num, rfl, hid HE.out.symm, hO2, hX.grew hG2 HF.out, hid (hG2.far HF.out hgl), Nat.lt_of_lt_of_le hgl hG2.1.size, hb.trans (hG2.below hsz (fun g hg => (hO.lt g hg).1))⟩
             case measure => simp [intOf]; omega
           · have hz0 : zs.getD (k + 1) 0 = 0 := by rw [List.getD_eq_getElem?_getD, List.getElem?_eq_none (by rw [HZ.out.2.1]; omega)]; rfl
             have k2 : ¬ (k : Int) + 1 < n := by omega
             rw [hz0] at HE
             clear hkz hz0
             generalize zs.getD k 0 = x at *
             have hv : ((x / 32768 + 0 % 32768 * 2 : Nat) : Int) = (x : Int) / 32768 := by omega
             have HV2 := hid hv
             clear hv
             go_wp2_with (at_builtin; refine app_oneG rfl (.tmp 48) (.tmp 50) 55 rfl w.heap.size 3 .i64 8 Tryz.underlying55 Tryz.info3 (by omega) R m d (nl ps) rfl hO _ 1 rfl (by have := HPL.out; omega) hsz ?_; intro A' n' c' w2 hO2 hG2)
             go_roundw
             case rel =>
               rw [← HV2.out, nl_snoc] at hO2
               exact ⟨k + 1, _, A', n', c', by omega, by omega, by go_num, rfl, hid HE.out.symm, hO2, hX.grew hG2 HF.out, hid (hG2.far HF.out hgl), Nat.lt_of_lt_of_le hgl hG2.1.size, hb.trans (hG2.below hsz (fun g hg => (hO.lt g hg).1))⟩
             case measure => simp [intOf]; omega
         · have e : k = n := by omega
           have HPH : Hid (ps = highs zs) := hid (by rw [HP.out, e, List.take_of_length_le (by rw [highs_length, HZ.out.2.1]; omega)])
           obtain ⟨hs, hhs⟩ : ∃ hs, hs = highs zs := ⟨_, rfl⟩
           obtain rfl : ps = hs := by rw [hhs, HPH.out]
           have hm := hO.len
           have hpl : (nl ps).length = n - 15 := by rw [hhs]; exact HH.out
           rw [hpl] at hm
           obtain ⟨gh, rfl, hgh⟩ := hO.block (by rw [hpl]; omega)
           have hH := hO.nums
           have hgl2 := hH.lt0 (by rw [hpl]; omega)
           subst hm
           have HS : Hid (ps = highs zs) := HPH
           have HHL : Hid (ps.length = n - 15) := hid (by rw [nl_length] at hpl; exact hpl)
           clear e HPH hhs hpl hO HP HF HPL hk15 hkn HH
           generalize hlhe : n - 15 = lh at *
           have HLH : Hid (n - 15 = lh) := hid hlhe
           have hlh2 : lh ≤ 35 := by omega
           have hlh1 : 2 ≤ lh := by omega
           clear hlhe
           rename World => W3
           go_wp2
           go_loop [7, 8] (fun b i => ∃ (k : Nat) (bb : Bool), k ≤ lh ∧ i = .int .i64 k ∧ b = .bool bb ∧ Hid (bb = true ↔ ∀ v ∈ ps.take k, v = 0)) (fun _ i => lh - (intOf i).toNat)
           case atStart => exact ⟨0, true, by omega, rfl, rfl, hid (by simp)⟩
           case round =>
             clear hlt2
             obtain ⟨k, bb, hk, rfl, rfl, HB⟩ := hrel
             by_cases hlt2 : k < lh
             · have hkp : k < ps.length := by rw [HHL.out]; exact hlt2
               have ck := hH.at0 (nl_at hkp)
               have k0 : (0 : Int) ≤ k := by omega
               have k1 : (k : Int) < lh := by omega
               have HT : Hid (ps.take (k + 1) = ps.take k ++ [ps.getD k 0]) := hid (by rw [List.take_add_one, List.getElem?_eq_getElem hkp]; simp [List.getD, hkp])
               generalize ps.getD k 0 = x at *
               clear hkp
               cases x with
               | zero =>
                 have HC : Hid (bb = true ↔ ∀ v ∈ ps.take (k + 1), v = 0) := hid (by
                   rw [HT.out, HB.out]
                   exact ⟨fun h v hv => by
                     rcases List.mem_append.1 hv with h1 | h1
                     · exact h v h1
                     · simpa using h1, fun h v hv => h v (List.mem_append_left _ hv)⟩)
                 clear HT HB
                 go_wp2
                 go_round
                 case rel => exact ⟨k + 1, bb, by omega, by go_num, rfl, HC⟩
                 case measure => simp [intOf]; omega
               | succ x =>
                 have HC : Hid (false = true ↔ ∀ v ∈ ps.take (k + 1), v = 0) := hid (by
                   rw [HT.out]
                   refine ⟨fun h => (by cases h), fun h => ?_⟩
                   have := h (x + 1) (by simp)
                   omega)
                 have dpos : (0 : Int) < ((x + 1 : Nat) : Int) := by omega
                 clear HT HB
                 go_wp2
                 go_round
                 case rel => exact ⟨k + 1, false, by omega, by go_num, rfl, HC⟩
                 case measure => simp [intOf]; omega
             · have HB2 : Hid (bb = true ↔ ∀ v ∈ ps, v = 0) := hid (by have := HB.out; rwa [List.take_of_length_le (by rw [HHL.out]; omega)] at this)
               clear HB hk
               go_wp2
               go_loopw [9, 10] (fun v i wr => ∃ (k : Nat) (R : Option Addr) (m e : Nat), k ≤ 15 ∧ i = .int .i64 k ∧ v = .slice R m e ∧ Owns wr w.heap.size 3 .i64 (.slice R m e) (nl (zs.take k)) ∧ Nums wr .i64 (some ⟨gx, 0, none⟩) (nl zs) ∧ Hid ((Value.slice R m e).ownBlock ≠ some gx) ∧ gx < wr.heap.size ∧ Nums wr .i64 (some ⟨gh, 0, none⟩) (nl ps) ∧ Hid ((Value.slice R m e).ownBlock ≠ some gh) ∧ gh < wr.heap.size ∧ Below w.heap.size w wr) (fun _ i _ => 15 - (intOf i).toNat)
               case atStart => exact ⟨0, none, 0, 0, by omega, rfl, rfl, Owns.none_ _ _ _ _, hX, hid (by intro e; cases e), hgl, hH, hid (by intro e; cases e), hgl2, hb⟩
               case round =>
                 clear hX hgl hb hH hgl2 hlt2
                 obtain ⟨k, R, m, e, hk, rfl, rfl, hO, hX, HF, hgl, hH, HF2, hgl2, hb⟩ := hrel
                 have hsz := hb.size
                 by_cases hlt2 : k < 15
                 · have hkz : k < zs.length := by rw [HZ.out.2.1]; omega
                   have ck := hX.at0 (nl_at hkz)
                   have HPL : Hid ((nl (zs.take k)).length ≤ 50) := hid (by rw [nl_length, List.length_take]; omega)
                   have HT : Hid (nl (zs.take (k + 1)) = nl (zs.take k) ++ [((zs.getD k 0 : Nat) : Int)]) := hid (by rw [nl_snoc, List.take_add_one, List.getElem?_eq_getElem hkz]; simp [List.getD, hkz])
                   generalize zs.getD k 0 = x at *
                   have k0 : (0 : Int) ≤ k := by omega
                   have k1 : (k : Int) < n := by omega
                   clear hkz
                   go_wp2_with (at_builtin; refine app_oneG rfl (.tmp 67) (.tmp 72) 55 rfl w.heap.size 3 .i64 8 Tryz.underlying55 Tryz.info3 (by omega) R m e (nl (zs.take k)) rfl hO _ 1 rfl (by have := HPL.out; omega) hsz ?_; intro A' n' c' w2 hO2 hG2)
                   go_roundw
                   case rel =>
                     rw [← HT.out] at hO2
                     exact ⟨k + 1, A', n', c', by omega, by go_num, rfl, hO2, hX.grew hG2 HF.out, hid (hG2.far HF.out hgl), Nat.lt_of_lt_of_le hgl hG2.1.size, hH.grew hG2 HF2.out, hid (hG2.far HF2.out hgl2), Nat.lt_of_lt_of_le hgl2 hG2.1.size, hb.trans (hG2.below hsz (fun g hg => (hO.lt g hg).1))⟩
                   case measure => simp [intOf]; omega
                 · have e1 : k = 15 := by omega
                   subst e1
                   have hkz : 15 < zs.length := by rw [HZ.out.2.1]; omega
                   have ck := hX.at0 (nl_at hkz)
                   have HPL : Hid ((nl (zs.take 15)).length ≤ 50) := hid (by rw [nl_length, List.length_take]; omega)
                   have HT : Hid (nl (lows zs) = nl (zs.take 15) ++ [((zs.getD 15 0 % 32768 : Nat) : Int)]) := hid (by unfold lows; rw [nl_snoc])
                   generalize zs.getD 15 0 = x at *
                   have hv : ((x % 32768 : Nat) : Int) = (x : Int) % 32768 := by omega
                   have k1 : (15 : Int) < n := by omega
                   have HV3 := hid hv
                   clear hkz hv
                   have hzl : 16 ≤ zs.length := by rw [HZ.out.2.1]; exact hn16
                   have HD : Hid (Digs (lows zs) ∧ (lows zs).length = 16 ∧ dv (lows zs) < Q255 ∧ dv zs = dv (lows zs) + Q255 * dv ps) := hid ⟨lows_digs HZ.out.1, lows_length hzl, lows_lt HZ.out.1 hzl, by rw [HS.out]; exact split255 hzl⟩
                   clear hzl
                   generalize lows zs = lo at *
                   cases bb
                   · have HPOS : Hid (0 < dv ps) := hid (by
                       refine Nat.pos_of_ne_zero fun e0 => ?_
                       have h1 : ∀ v ∈ ps, v = 0 := fun v hv => by
                         rcases Nat.eq_zero_or_pos v with h | h
                         · exact h
                         · have := dv_pos_of hv h; omega
                       exact absurd (HB2.out.2 h1) (by decide))
                     clear HB2
                     have HPD2 : Hid (Digs ps) := hid (by rw [HS.out]; exact highs_digs HZ.out.1)
                     go_wp2_with (at_builtin; refine app_oneG rfl (.tmp 74) (.tmp 79) 55 rfl w.heap.size 3 .i64 8 Tryz.underlying55 Tryz.info3 (by omega) R m e (nl (zs.take 15)) rfl hO _ 1 rfl (by have := HPL.out; omega) hsz ?_; intro A' n' c' w2 hO2 hG2)
                     rw [← HV3.out, ← HT.out] at hO2
                     have hm2 := hO2.len
                     rw [nl_length, HD.out.2.1] at hm2
                     subst hm2
                     replace hb := hb.trans (hG2.below hsz (fun g hg => (hO.lt g hg).1))
                     replace hH := hH.grew hG2 HF2.out
                     replace HF2 : Hid ((Value.slice A' 16 c').ownBlock ≠ some gh) := hid (hG2.far HF2.out hgl2)
                     replace hgl2 := Nat.lt_of_lt_of_le hgl2 hG2.1.size
                     clear hX hgl HF hG2 hO HT HV3 HPL
                     go_loopw [9] (fun v wr => ∃ (qs : List Nat) (R : Option Addr) (m e : Nat), v = .slice R m e ∧ Hid (Digs qs ∧ qs.length = m ∧ dv qs = dv lo) ∧ 16 ≤ m ∧ m ≤ 36 ∧ Owns wr w.heap.size 3 .i64 (.slice R m e) (nl qs) ∧ Nums wr .i64 (some ⟨gh, 0, none⟩) (nl ps) ∧ Hid ((Value.slice R m e).ownBlock ≠ some gh) ∧ gh < wr.heap.size ∧ Below w.heap.size w wr) (fun v _ => match v with | .slice _ m _ => lh + 1 - m | _ => 0)
                     case atStart => exact ⟨lo, A', 16, c', rfl, hid ⟨HD.out.1, HD.out.2.1, rfl⟩, by omega, by omega, hO2, hH, HF2, hgl2, hb⟩
                     case round =>
                       clear hO2 hH HF2 hgl2 hb hlt2 hsz
                       obtain ⟨qs, R, m, e, rfl, HQ, hm16, hm36, hO, hH, HF2, hgl2, hb⟩ := hrel
                       have hsz := hb.size
                       have HQL : Hid ((nl qs).length = m) := hid (by rw [nl_length]; exact HQ.out.2.1)
                       by_cases hlt2 : m < lh + 1
                       · have hlt2i : (m : Int) < (lh : Int) + 1 := by omega
                         go_wp2_with (at_builtin; refine app_oneG rfl (.tmp 95) (.tmp 96) 55 rfl w.heap.size 3 .i64 8 Tryz.underlying55 Tryz.info3 (by omega) R m e (nl qs) rfl hO _ 1 rfl (by rw [HQL.out]; omega) hsz ?_; intro A' n' c' w2 hO2 hG2)
                         have hn' := hO2.len
                         rw [List.length_append, HQL.out, List.length_singleton] at hn'
                         subst hn'
                         go_roundw
                         case rel =>
                           refine ⟨qs ++ [0], A', m + 1, c', rfl, hid ⟨digs_snoc HQ.out.1 (by omega), by simp [HQ.out.2.1], ?_⟩, by omega, by omega, ?_, hH.grew hG2 HF2.out, hid (hG2.far HF2.out hgl2), Nat.lt_of_lt_of_le hgl2 hG2.1.size, hb.trans (hG2.below hsz (fun g hg => (hO.lt g hg).1))⟩
                           · rw [dv_snoc, HQ.out.2.2]; omega
                           · rw [← nl_snoc]; exact hO2
                         case measure => show lh + 1 - (m + 1) < lh + 1 - m; omega
                       · have hlt2i : ¬ (m : Int) < (lh : Int) + 1 := by omega
                         obtain ⟨gl, rfl, hgl⟩ := hO.block (by rw [HQL.out]; omega)
                         have hlm : lh + 1 ≤ m := by omega
                         have HNE : Hid (gl ≠ gh) := hid (fun e0 => HF2.out (by rw [e0]; rfl))
                         clear HF2
                         go_wp2
                         go_loopw [11, 12] (fun v i wr => ∃ (k cy : Nat) (ts : List Nat), k ≤ m ∧ i = .int .i64 k ∧ v = .int .i64 cy ∧ Hid (AddI qs ps ts cy k) ∧ cy ≤ 20 ∧ Owns wr w.heap.size 3 .i64 (.slice (some ⟨gl, 0, none⟩) m e) (nl ts) ∧ Nums wr .i64 (some ⟨gh, 0, none⟩) (nl ps) ∧ Below w.heap.size w wr) (fun _ i _ => m - (intOf i).toNat)
                         case atStart => exact ⟨0, 0, qs, by omega, rfl, rfl, hid ⟨rfl, HQ.out.1, by omega, by simp [dv]⟩, by omega, hO, hH, hb⟩
                         case round =>
                           clear hO hH hb hgl2 hsz hlt2 hlt2i
                           obtain ⟨k, cy, ts, hk, rfl, rfl, HI, hcy, hO, hH, hb⟩ := hrel
                           by_cases hlt2 : k < m
                           · have hkt : k < (nl ts).length := by rw [nl_length, HI.out.1, HQ.out.2.1]; exact hlt2
                             obtain ⟨x', cx, fx, HXX⟩ := hO.spot hkt
                             have hx' := (nl_at (l := ts) (i := k) (by simpa using hkt)).symm.trans HXX.out
                             injection hx' with hx'
                             rw [← hx'] at cx
                             clear hx' HXX hkt x'
                             have hx := getD_dig HI.out.2.1 k
                             have HST : Hid (∀ n, n = ts.getD k 0 + cy + (if k < ps.length then 19 * ps.getD k 0 else 0) → AddI qs ps (ts.set k (n % 65536)) (n / 65536) (k + 1)) := hid fun n hn0 => HI.out.step HPD2.out (by rw [HQ.out.2.1]; exact hlt2) hn0
                             have hOS : ∀ v : Nat, Owns (World.setCell _ ⟨gl, k, none⟩ (.int .i64 (v : Int))) w.heap.size 3 .i64 (.slice (some ⟨gl, 0, none⟩) m e) (nl (ts.set k v)) := fun v => by rw [← nl_set]; exact hO.store k (v : Int)
                             have HOS := hid hOS
                             clear hOS
                             generalize ts.getD k 0 = x at *
                             have k0 : (0 : Int) ≤ k := by omega
                             have k1 : (k : Int) < m := by omega
                             by_cases hlt3 : k < lh
                             · have hkp : k < ps.length := by rw [HHL.out]; exact hlt3
                               have cy2 := hH.at0 (nl_at hkp)
                               have hy := getD_dig HPD2.out k
                               have HST2 := hid (HST.out (x + cy + 19 * ps.getD k 0) (by rw [if_pos hkp]))
                               clear HST hkp
                               generalize ps.getD k 0 = y at *
                               have k2 : (k : Int) < lh := by omega
                               have e1 : (((x + cy + 19 * y) % 65536 : Nat) : Int) = ((x : Int) + cy + 19 * y) % 65536 := by omega
                               have e2 : Value.int .i64 (((x : Int) + cy + 19 * y) / 65536) = Value.int .i64 (((x + cy + 19 * y) / 65536 : Nat) : Int) := by congr 1
                               have E1 := hid e1
                               have E2 := hid e2
                               clear e1 e2
                               go_wp2
                               go_roundw
                               case rel =>
                                 have h := HOS.out ((x + cy + 19 * y) % 65536)
                                 rw [E1.out] at h
                                 exact ⟨k + 1, (x + cy + 19 * y) / 65536, _, by omega, by go_num, E2.out, HST2, by omega, h, hH.setOff _ (by exact HNE.out), hb.setCell hgl _⟩
                               case measure => simp [intOf]; omega
                             · have hkp : ¬ k < ps.length := by rw [HHL.out]; exact hlt3
                               have HST2 := hid (HST.out (x + cy) (by rw [if_neg hkp]; rfl))
                               clear HST hkp
                               have k2 : ¬ (k : Int) < lh := by omega
                               have e1 : (((x + cy) % 65536 : Nat) : Int) = ((x : Int) + cy) % 65536 := by omega
                               have e2 : Value.int .i64 (((x : Int) + cy) / 65536) = Value.int .i64 (((x + cy) / 65536 : Nat) : Int) := by congr 1
                               have E1 := hid e1
                               have E2 := hid e2
                               clear e1 e2
                               go_wp2
                               go_roundw
                               case rel =>
                                 have h := HOS.out ((x + cy) % 65536)
                                 rw [E1.out] at h
                                 exact ⟨k + 1, (x + cy) / 65536, _, by omega, by go_num, E2.out, HST2, by omega, h, hH.setOff _ (by exact HNE.out), hb.setCell hgl _⟩
                               case measure => simp [intOf]; omega
                           · have e0 : k = m := by omega
                             have HI2 : Hid (AddI qs ps ts cy qs.length) := hid (by rw [HQ.out.2.1, ← e0]; exact HI.out)
                             have HE := hid (HI2.out.end_ (by rw [HHL.out, HQ.out.2.1]; omega))
                             have HTL : Hid (Digs ts ∧ ts.length = m) := hid ⟨HI.out.2.1, by rw [HI.out.1, HQ.out.2.1]⟩
                             clear e0 HI
                             have hsz := hb.size
                             have HTN : Hid ((nl ts).length = m) := hid (by rw [nl_length]; exact HTL.out.2)
                             have HFIN : Hid (∀ N : Nat, N = dv qs + 19 * dv ps → N % NT.PN = dv l % NT.PN ∧ N < dv xs) := hid fun N hN => by
                               have h1 := HD.out.2.2.2
                               have h2 := HPOS.out
                               rw [HZ.out.2.2] at h1
                               rw [← HX.out.2.2, h1, hN, HQ.out.2.2]
                               have e : dv lo + Q255 * dv ps = dv lo + 19 * dv ps + NT.PN * dv ps := by
                                 generalize dv ps = t
                                 unfold Q255 NT.PN
                                 omega
                               rw [e, Nat.add_mul_mod_self_left]
                               refine ⟨rfl, ?_⟩
                               generalize dv ps = t at *
                               unfold NT.PN
                               omega
                             cases cy with
                             | zero =>
                               go_wp2
                               go_roundw
                               case rel =>
                                 have h := HE.out
                                 rw [dv_snoc, Nat.zero_mul, Nat.add_zero] at h
                                 exact ⟨ts, some ⟨gl, 0, none⟩, m, e, rfl, hid ⟨HTL.out.1, HTL.out.2, (HFIN.out _ h).1⟩, by omega, by omega, hO, hb⟩
                               case measure =>
                                 have h := HE.out
                                 rw [dv_snoc, Nat.zero_mul, Nat.add_zero] at h
                                 rw [rowv_of hO.nums HTL.out.2, HV.out]
                                 exact (HFIN.out _ h).2
                             | succ cy =>
                               have dpos : (0 : Int) < ((cy + 1 : Nat) : Int) := by omega
                               go_wp2_with (at_builtin; refine app_oneG rfl (.tmp 130) (.tmp 132) 55 rfl w.heap.size 3 .i64 8 Tryz.underlying55 Tryz.info3 (by omega) (some ⟨gl, 0, none⟩) m e (nl ts) rfl hO _ 1 rfl (by rw [HTN.out]; omega) hsz ?_; intro A' n' c' w2 hO2 hG2)
                               have hn' := hO2.len
                               rw [List.length_append, HTN.out, List.length_singleton] at hn'
                               subst hn'
                               have hO3 : Owns w2 w.heap.size 3 .i64 (.slice A' (m + 1) c') (nl (ts ++ [cy + 1])) := by rw [← nl_snoc]; exact hO2
                               go_roundw
                               case rel =>
                                 exact ⟨ts ++ [cy + 1], A', m + 1, c', rfl, hid ⟨digs_snoc HTL.out.1 (by omega), by simp [HTL.out.2], (HFIN.out _ HE.out).1⟩, by omega, by omega, hO3, hb.trans (hG2.below hsz (fun g hg => (hO.lt g hg).1))⟩
                               case measure =>
                                 rw [rowv_of hO3.nums (by simp [HTL.out.2]), HV.out]
                                 exact (HFIN.out _ HE.out).2
                   · have HE : Hid (dv zs = dv lo) := hid (by rw [HD.out.2.2.2, dv_zero_of (HB2.out.1 rfl)]; omega)
                     clear HB2
                     go_wp2_with (at_builtin; refine app_oneG rfl (.tmp 74) (.tmp 79) 55 rfl w.heap.size 3 .i64 8 Tryz.underlying55 Tryz.info3 (by omega) R m e (nl (zs.take 15)) rfl hO _ 1 rfl (by have := HPL.out; omega) hsz ?_; intro A' n' c' w2 hO2 hG2)
                     rw [← HV3.out, ← HT.out] at hO2
                     have hm2 := hO2.len
                     rw [nl_length, HD.out.2.1] at hm2
                     subst hm2
                     replace hb := hb.trans (hG2.below hsz (fun g hg => (hO.lt g hg).1))
                     clear hX hgl hH hgl2 HF HF2 hG2 hO
                     have hsz2 := hb.size
                     refine (rp_any _).mono ?_
                     rintro e3 w3 ⟨A3, c3, rfl, hN3, hb3⟩
                     replace hO2 := hO2.stay hb3
                     replace hb := hb.trans (hb3.mono hsz2)
                     have hsz3 := hb.size
                     go_wp2_with (fail)
                     refine (al_any _ _ _ _ 16 lo PD _ HD.out.2.1 (by decide) (by omega) HD.out.1 pd_digs hO2.nums hN3.nums).mono ?_
                     rintro e4 w4 ⟨b, rfl, HBB, hw4⟩
                     have hb4 := hw4.below
                     replace hO2 := hO2.stay hb4
                     replace hb := hb.trans (hb4.mono hsz3)
                     have hsz4 := hb.size
                     clear hw4 hb4 hN3 hb3
                     have HPD : Hid (dv PD = NT.PN) := hid (by decide)
                     cases b
                     · have hlt4 : Hid (dv lo < NT.PN) := hid (by have := of_decide_eq_false HBB.out.symm; rw [HPD.out] at this; omega)
                       go_wp2
                       go_ret
                       refine ⟨A', c', lo, rfl, hid ⟨HD.out.2.1, HD.out.1, ?_⟩, hO2.fresh, hb⟩
                       rw [← HX.out.2.2, ← HZ.out.2.2, HE.out, Nat.mod_eq_of_lt hlt4.out]
                     · have hge4 : Hid (dv PD ≤ dv lo) := hid (of_decide_eq_true HBB.out.symm)
                       go_wp2_with (fail)
                       refine (rp_any _).mono ?_
                       rintro e5 w5 ⟨A5, c5, rfl, hN5, hb5⟩
                       replace hO2 := hO2.stay hb5
                       replace hb := hb.trans (hb5.mono hsz4)
                       have hsz5 := hb.size
                       go_wp2_with (fail)
                       refine (le_any _ _ _ _ 16 lo PD _ HD.out.2.1 (by decide) (by omega) HD.out.1 pd_digs hge4.out hO2.nums hN5.nums).mono ?_
                       rintro e6 w6 ⟨A6, c6, ys, rfl, HYS, hN6, hb6⟩
                       go_wp2
                       go_ret
                       refine ⟨A6, c6, ys, rfl, hid ⟨HYS.out.1, HYS.out.2.1, ?_⟩, hN6.less hsz5, hb.trans (hb6.mono hsz5)⟩
                       have h1 := HD.out.2.2.1
                       have h2 := hge4.out
                       rw [← HX.out.2.2, ← HZ.out.2.2, HE.out, HYS.out.2.2, HPD.out]
                       rw [HPD.out] at h2
                       rw [Nat.mod_eq_sub_mod h2, Nat.mod_eq_of_lt]
                       unfold NT.PN Q255 at *
                       omega
set_option maxHeartbeats 400000
open Go.RowKit
def Rp (l : List Nat) (n : Nat) : Prop := l.length = 16 ∧ Digs l ∧ dv l = n
def ROut (n : Nat) (w : World) (e : Ending) (w' : World) : Prop := ∃ A c ys, e = .returned (.slice A 16 c) ∧ Hid (Rp ys n) ∧ NumsF w.heap.size w' .i64 A (nl ys) ∧ Below w.heap.size w w'
theorem ROut.mk {n : Nat} {w w' : World} {A : Option Addr} {c : Nat} {ys : List Nat} (h : Rp ys n) (hN : NumsF w.heap.size w' .i64 A (nl ys)) (hb : Below w.heap.size w w') : ROut n w (.returned (.slice A 16 c)) w' := ⟨A, c, ys, rfl, h, hN, hb⟩
theorem pd_rp : Rp PD NT.PN := ⟨by decide, pd_digs, by decide⟩
theorem rp_out (w : World) : Calls Tryz.prog 87 #[] w (ROut NT.PN w) := (rp_any w).mono fun _ _ ⟨A, c, he, hN, hb⟩ => ⟨A, c, PD, he, pd_rp, hN, hb⟩
theorem rmod_out (A : Option Addr) (cA L n : Nat) (l : List Nat) (w : World) (hl : l.length = L) (hL1 : 16 ≤ L) (hn : L ≤ 50) (dl : Digs l) (hA : Nums w .i64 A (nl l)) (hv : dv l = n) : Calls Tryz.prog 88 #[.slice A L cA] w (ROut (n % NT.PN) w) := by
 subst hv
 exact (rmod_any A cA L l w hl hL1 hn dl hA).mono fun e w' ⟨A, c, ys, he, hy, hN, hb⟩ => ⟨A, c, ys, he, hy, hN, hb⟩
theorem rless_out {A B : Option Addr} {cA cB m n : Nat} {a b : List Nat} {w : World} (ha : Rp a m) (hb : Rp b n) (h : n ≤ m) (hA : Nums w .i64 A (nl a)) (hB : Nums w .i64 B (nl b)) : Calls Tryz.prog 86 #[.slice A 16 cA, .slice B 16 cB] w (ROut (m - n) w) :=
 (le_any A B cA cB 16 a b w ha.1 hb.1 (by omega) ha.2.1 hb.2.1 (by rw [ha.2.2, hb.2.2]; exact h) hA hB).mono fun e w' ⟨A, c, ys, he, hy, hN, hbl⟩ => ⟨A, c, ys, he, ⟨hy.1, hy.2.1, by rw [hy.2.2, ha.2.2, hb.2.2]⟩, hN, hbl⟩
theorem ral_out {A B : Option Addr} {cA cB m n : Nat} {a b : List Nat} {w : World} (ha : Rp a m) (hb : Rp b n) (hA : Nums w .i64 A (nl a)) (hB : Nums w .i64 B (nl b)) : Calls Tryz.prog 92 #[.slice A 16 cA, .slice B 16 cB] w fun e w' => e = .returned (.bool (decide (n ≤ m))) ∧ Below w.heap.size w w' :=
 (al_any A B cA cB 16 a b w ha.1 hb.1 (by omega) ha.2.1 hb.2.1 hA hB).mono fun e w' ⟨x, he, hy, hw⟩ => ⟨by rw [he, hy.out, ha.2.2, hb.2.2], hw.below⟩
set_option maxRecDepth 50000 in
theorem make28 (n : Nat) (h : n ≤ 1000) (w : World) : (Instr.makeSlice 55 (.int .i64 (n : Int)) (.int .i64 (n : Int))).run Tryz.prog w = .ok (.slice (some ⟨w.heap.size, 0, none⟩) n n) (w.alloc (.cells (ints .i64 (nl (List.replicate n 0))).toArray 3)) := by
 have hi := Tryz.info3
 cases hc : Tryz.prog.info? 3 with
 | none => rw [hc] at hi; simp at hi
 | some i =>
   rw [hc] at hi
   simp only [Option.map_some, Option.some.injEq, Prod.mk.injEq] at hi
   have h2 := run_make (P := Tryz.prog) w 55 3 i (.int .i64 0) (by kernel_rfl) hc hi.1 .i64 .i64 n n (by omega) (by omega) (by rw [hi.2.2]; omega) (by omega)
   rw [h2, hi.2.1]
   simp only [Int.toNat_natCast, Nat.mul_one]
   congr 3
   apply Array.toList_inj.1
   show (madeCells #[.int .i64 0] n).toList = _
   rw [toList_madeCells_one]
   simp [ints, nl]
theorem small_rp {n : Nat} (h : n < 65536) : Rp ((List.replicate 16 0).set 0 n) n := by
 refine ⟨by simp, set_digs (fun v hv => by have := List.eq_of_mem_replicate hv; omega) _ _ h, ?_⟩
 have e : (List.replicate 16 0).set 0 n = n :: List.replicate 15 0 := rfl
 have h0 := dv_zeros [] 15
 rw [List.nil_append] at h0
 rw [e, dv, h0]
 simp [dv]
theorem rsmall_out (n : Nat) (h : n < 65536) (w : World) : Calls Tryz.prog 56 #[.int .i64 n] w (ROut n w) := by
 have HR := hid (small_rp h)
 have hmk : ∀ w : World, (Instr.makeSlice 55 (.int .i64 16) (.int .i64 16)).run Tryz.prog w = .ok (.slice (some ⟨w.heap.size, 0, none⟩) 16 16) (w.alloc (.cells (ints .i64 (nl (List.replicate 16 0))).toArray 3)) := fun w => make28 16 (by omega) w
 have hO := Owns.new w w.heap.size 3 .i64 (nl (List.replicate 16 0)) (Nat.le_refl _) (by rw [nl_length]; simp [maxLen])
 have e : ((nl (List.replicate 16 0)).map (Value.int .i64)).toArray = (ints .i64 (nl (List.replicate 16 0))).toArray := rfl
 rw [e] at hO
 have hb := below_new w (.cells (ints .i64 (nl (List.replicate 16 0))).toArray 3)
 have hl : (nl (List.replicate 16 0)).length = 16 := by rw [nl_length]; simp
 rw [hl] at hO
 obtain ⟨x, c0, f0, _⟩ := hO.spot (j := 0) (by rw [hl]; omega)
 have hO2 := Owns.new w w.heap.size 3 .i64 (nl ((List.replicate 16 0).set 0 n)) (Nat.le_refl _) (by rw [nl_length]; simp [maxLen])
 have e2 : ((nl ((List.replicate 16 0).set 0 n)).map (Value.int .i64)).toArray = (ints .i64 (nl (List.replicate 16 0))).toArray.setIfInBounds 0 (.int .i64 (n : Int)) := by
   rw [← nl_set]; simp [ints]
 have hl2 : (nl ((List.replicate 16 0).set 0 n)).length = 16 := by rw [nl_length]; simp
 rw [e2, hl2] at hO2
 have HO := hid hO2
 have hb2 := below_new w (.cells ((ints .i64 (nl (List.replicate 16 0))).toArray.setIfInBounds 0 (.int .i64 (n : Int))) 3)
 have HB := hid hb2
 clear hl e e2 hl2 hO hO2 hb hb2
 go_enter Tryz.func56, Tryz.ntmps56
 generalize hZ : (ints .i64 (nl (List.replicate 16 0))).toArray = Z at *
 go_wp2
 go_ret
 exact ROut.mk HR.out HO.out.fresh HB.out
theorem sub_mod {m n : Nat} (hn : n < NT.PN) (h : ¬ n ≤ m) : NT.PN - (n - m) = (m + NT.PN - n) % NT.PN := by
 rw [Nat.mod_eq_of_lt (by omega)]; omega
theorem sub_mod' {m n : Nat} (hm : m < NT.PN) (h : n ≤ m) : m - n = (m + NT.PN - n) % NT.PN := by
 rw [show m + NT.PN - n = (m - n) + NT.PN by omega, Nat.add_mod_right, Nat.mod_eq_of_lt (by omega)]
theorem rsub_walk {A B : Option Addr} {cA cB m n : Nat} {a b : List Nat} {w : World} (ha : Rp a m) (hb : Rp b n) (hm : m < NT.PN) (hn : n < NT.PN) (hA : Nums w .i64 A (nl a)) (hB : Nums w .i64 B (nl b)) : Calls Tryz.prog 89 #[.slice A 16 cA, .slice B 16 cB] w (ROut ((m + NT.PN - n) % NT.PN) w) := by
 have HA := hid ha
 have HB := hid hb
 have HM := hid (And.intro hm hn)
 have c1 := ral_out (cA := cA) (cB := cB) ha hb hA hB
 clear ha hb hm hn
 by_cases hle : n ≤ m
 · rw [decide_eq_true hle] at c1
   have C1 := hid c1
   have HE := hid (sub_mod' HM.out.1 hle)
   have HLE := hid hle
   clear c1 hle
   rw [← HE.out]
   go_enter Tryz.func89, Tryz.ntmps89
   go_wp2_with (fail)
   refine C1.out.mono ?_
   rintro e w1 ⟨rfl, hb1⟩
   go_wp2_with (fail)
   refine (rless_out HA.out HB.out HLE.out (hA.below hb1) (hB.below hb1)).mono ?_
   rintro e w2 ⟨R, c, ys, rfl, HY, hN, hb2⟩
   go_wp2
   go_ret
   exact ROut.mk HY.out (hN.less hb1.size) (hb1.trans (hb2.mono hb1.size))
 · rw [decide_eq_false hle] at c1
   have C1 := hid c1
   have HE := hid (sub_mod HM.out.2 hle)
   have HLE := hid hle
   have HLP : Hid (n - m ≤ NT.PN) := hid (by have := HM.out.2; omega)
   clear c1 hle
   rw [← HE.out]
   go_enter Tryz.func89, Tryz.ntmps89
   go_wp2_with (fail)
   refine C1.out.mono ?_
   rintro e w1 ⟨rfl, hb1⟩
   go_wp2_with (fail)
   refine (rp_out _).mono ?_
   rintro e w2 ⟨R, c, ys, rfl, HY, hN, hb2⟩
   replace hb2 := hb1.trans (hb2.mono hb1.size)
   go_wp2_with (fail)
   refine (rless_out HB.out HA.out (Nat.le_of_not_le HLE.out) (hB.below hb2) (hA.below hb2)).mono ?_
   rintro e w3 ⟨R3, c3, ys3, rfl, HY3, hN3, hb3⟩
   go_wp2_with (fail)
   refine (rless_out HY.out HY3.out HLP.out (hN.stay hb3).nums hN3.nums).mono ?_
   rintro e w4 ⟨R4, c4, ys4, rfl, HY4, hN4, hb4⟩
   go_wp2
   go_ret
   have h3 := hb2.trans (hb3.mono hb2.size)
   exact ROut.mk HY4.out (hN4.less h3.size) (h3.trans (hb4.mono h3.size))
open Go.RowKit
def SumI (l m ys : List Nat) (cy k : Nat) : Prop := ys.length = k ∧ Digs ys ∧ cy ≤ 1 ∧ dv ys + cy * 65536 ^ k = dv (l.take k) + dv (m.take k)
theorem SumI.step {l m ys : List Nat} {cy k : Nat} (h : SumI l m ys cy k) (h1 : k < l.length) (h2 : k < m.length) (dl : Digs l) (dm : Digs m) : SumI l m (ys ++ [(l.getD k 0 + m.getD k 0 + cy) % 65536]) ((l.getD k 0 + m.getD k 0 + cy) / 65536) (k + 1) := by
 obtain ⟨a, b, c, e⟩ := h
 have g1 : l[k]? = some (l.getD k 0) := by rw [List.getD_eq_getElem?_getD, List.getElem?_eq_getElem h1]; rfl
 have g2 : m[k]? = some (m.getD k 0) := by rw [List.getD_eq_getElem?_getD, List.getElem?_eq_getElem h2]; rfl
 have hx := getD_dig dl k
 have hy := getD_dig dm k
 refine ⟨by simp [a], digs_snoc b (Nat.mod_lt _ (by omega)), by omega, ?_⟩
 rw [dv_snoc, a, dv_take_succ l k _ g1, dv_take_succ m k _ g2, Nat.pow_succ]
 generalize l.getD k 0 = x at *
 generalize m.getD k 0 = y at *
 have hdm := Nat.div_add_mod (x + y + cy) 65536
 generalize (x + y + cy) % 65536 = r at *
 generalize (x + y + cy) / 65536 = q at *
 generalize 65536 ^ k = P at *
 have h3 : (65536 * q + r) * P = (x + y + cy) * P := by rw [hdm]
 have h4 : q * (P * 65536) = 65536 * q * P := by rw [Nat.mul_comm P, ← Nat.mul_assoc, Nat.mul_comm q]
 rw [Nat.add_mul, Nat.add_mul, Nat.add_mul] at h3
 rw [h4]
 omega
set_option maxRecDepth 4000 in
set_option maxHeartbeats 1000000 in
theorem radd_walk {A B : Option Addr} {cA cB m n : Nat} {a b : List Nat} {w : World} (ha : Rp a m) (hb : Rp b n) (hA : Nums w .i64 A (nl a)) (hB : Nums w .i64 B (nl b)) : Calls Tryz.prog 90 #[.slice A 16 cA, .slice B 16 cB] w (ROut ((m + n) % NT.PN) w) := by
 have HA := hid ha
 have HB := hid hb
 clear ha hb
 go_enter Tryz.func90, Tryz.ntmps90
 go_wp2
 go_loopw [5, 6, 7] (fun v b' i wr => ∃ (k : Nat) (ys : List Nat) (cy : Nat) (R : Option Addr) (n c : Nat), k ≤ 16 ∧ v = .slice R n c ∧ b' = .int .i64 cy ∧ i = .int .i64 k ∧ Hid (SumI a b ys cy k) ∧ Owns wr w.heap.size 3 .i64 (.slice R n c) (nl ys) ∧ Below w.heap.size w wr) (fun _ _ i _ => 16 - (intOf i).toNat)
 case atStart => exact ⟨0, [], 0, none, 0, 0, Nat.zero_le _, rfl, rfl, rfl, hid ⟨rfl, fun v hv => by simp at hv, by omega, by simp [dv]⟩, Owns.none_ _ _ _ _, Below.refl _ _⟩
 case round =>
   obtain ⟨k, ys, cy, R, n', c, hk, rfl, rfl, rfl, HI, hO, hbl⟩ := hrel
   have hsz := hbl.size
   have HY : Hid ((nl ys).length = k) := hid (by rw [nl_length]; exact HI.out.1)
   have hcy := HI.out.2.2.1
   by_cases hlt : k < 16
   · have hil : k < a.length := by rw [HA.out.1]; omega
     have him : k < b.length := by rw [HB.out.1]; omega
     obtain ⟨g, o, rfl, _, cA0⟩ := (hA.below hbl).num (by rw [nl_length, HA.out.1]; omega)
     obtain ⟨g2, o2, rfl, _, cB0⟩ := (hB.below hbl).num (by rw [nl_length, HB.out.1]; omega)
     have cl := cA0 k _ (nl_at hil)
     have cm := cB0 k _ (nl_at him)
     have hx := getD_dig HA.out.2.1 k
     have hy := getD_dig HB.out.2.1 k
     have HS := hid (HI.out.step hil him HA.out.2.1 HB.out.2.1)
     clear cA0 cB0 hil him
     generalize a.getD k 0 = x at *
     generalize b.getD k 0 = y at *
     have k0 : (0 : Int) ≤ k := by omega
     have k1 : (k : Int) < 16 := by omega
     obtain ⟨t, ht⟩ : ∃ t, t = x + y + cy := ⟨_, rfl⟩
     have w1 : IntKind.i64.wrap ((x : Int) + y) = (x : Int) + y := IntWalk.i64_in _ (by omega)
     have w2 : IntKind.i64.wrap ((x : Int) + y + cy) = t := by rw [IntWalk.i64_in _ (by omega)]; omega
     have htl : t < 200000 := by omega
     rw [← ht] at HS
     clear ht
     have e1 : ((t % 65536 : Nat) : Int) = (t : Int) % 65536 := by omega
     have e2 : Value.int .i64 ((t : Int) / 65536) = Value.int .i64 ((t / 65536 : Nat) : Int) := by congr 1
     have E1 := hid e1
     have E2 := hid e2
     clear e1 e2
     go_wp2
     go_quiet (fail)
     clear w1 w2
     go_wp2_with (at_builtin; refine app_one _ rfl (.tmp 24) (.tmp 27) 55 rfl w.heap.size 3 .i64 8 Tryz.underlying55 Tryz.info3 R n' c (nl ys) rfl (hO.drewN _) _ 1 rfl (by rw [HY.out]; omega) (by omega) (by simpa using hsz) ?_; intro A' n2 c' w2 hO2 hb2)
     go_roundw
     case rel => exact ⟨k + 1, _, t / 65536, A', n2, c', by omega, rfl, E2.out, by go_num, HS, by rw [← nl_snoc, E1.out]; exact hO2, (below_drewN hbl nq).trans hb2⟩
     case measure => simp [intOf]; omega
   · have e : k = 16 := by omega
     subst e
     have HE : Hid (dv (ys ++ [cy]) = m + n) := hid (by
       have h := HI.out.2.2.2
       rw [List.take_of_length_le (by rw [HA.out.1]; omega), List.take_of_length_le (by rw [HB.out.1]; omega), HA.out.2.2, HB.out.2.2] at h
       rw [dv_snoc, HI.out.1]; exact h)
     go_wp2_with (at_builtin; refine app_one _ rfl (.tmp 31) (.tmp 33) 55 rfl w.heap.size 3 .i64 8 Tryz.underlying55 Tryz.info3 R n' c (nl ys) rfl hO _ 1 rfl (by rw [HY.out]; omega) (by omega) hsz ?_; intro A' n2 c' w2 hO2 hb2)
     rw [nl_snoc] at hO2
     have hn2 := hO2.len
     rw [nl_length, List.length_append, HI.out.1] at hn2
     subst hn2
     replace hb2 := hbl.trans hb2
     refine (rmod_out A' c' 17 (m + n) (ys ++ [cy]) _ (by simp [HI.out.1]) (by omega) (by omega) (digs_snoc HI.out.2.1 (by omega)) hO2.nums HE.out).mono ?_
     rintro e3 w3 ⟨A3, c3, ys3, rfl, HY3, hN3, hb3⟩
     go_wp2
     go_ret
     exact ROut.mk HY3.out (hN3.less hb2.size) (hb2.trans (hb3.mono hb2.size))
open Go.RowKit
set_option maxRecDepth 4000 in
set_option maxHeartbeats 1000000 in
theorem rbytes_walk {A : Option Addr} {cA m : Nat} {a : List Nat} {w : World} (ha : Rp a m) (hA : Nums w .i64 A (nl a)) : Calls Tryz.prog 53 #[.slice A 16 cA] w fun e w' => e = .returned (.agg (ints .u8 (byd (nl a))).toArray) ∧ Below w.heap.size w w' := by
 obtain ⟨z22, s22⟩ := zero_of_info inf22
 have HA := hid ha
 have hR := (Arr.made w .u8 (zeros 32) 22).alloc (.cells (ints .u8 (zeros 32)).toArray 22)
 have hD := Arr.made (w.alloc (.cells (ints .u8 (zeros 32)).toArray 22)) .u8 (zeros 32) 22
 have hW := (below_new w (.cells (ints .u8 (zeros 32)).toArray 22)).alloc (by simp) (.cells (ints .u8 (zeros 32)).toArray 22)
 rw [World.size_alloc] at hD
 have hAl : (nl a).length = 16 := by rw [nl_length]; exact ha.1
 obtain ⟨g, o, rfl, hg, hc⟩ := hA.num (by omega)
 obtain ⟨ds, hds⟩ : ∃ ds, ds = nl a := ⟨_, rfl⟩
 have HD0 : Hid (∀ i, i < 16 → ∃ d : Nat, ds[i]? = some (d : Int) ∧ d < 65536 ∧ ds.getD i 0 = d) := hid fun i hi => by
   refine ⟨a.getD i 0, ?_, getD_dig ha.2.1 i, ?_⟩
   · rw [hds]; exact nl_at (by rw [ha.1]; exact hi)
   · rw [hds]
     have := nl_at (l := a) (i := i) (by rw [ha.1]; exact hi)
     rw [List.getD_eq_getElem?_getD, this]; rfl
 rw [← hds] at hA hAl hc ⊢
 have hN := hA.below hW
 clear ha hc hds hA hAl
 have HZ : Hid (zeros 32 = fillK (byd ds) 0) := hid (by rw [fillK_zero, byd_length]; rfl)
 rw [HZ.out] at hD
 have HBL := hid (byd_length ds)
 have HE : Hid (∀ i, i < 16 → (byd ds)[2 * i]? = some (ds.getD i 0 % 256)) := hid fun i h => byd_even _ h
 have HO : Hid (∀ i, i < 16 → (byd ds)[2 * i + 1]? = some (ds.getD i 0 / 256 % 256)) := hid fun i h => byd_odd _ h
 go_enter Tryz.func53, Tryz.ntmps53
 go_wp2
 go_loopw [4] (fun i wr => ∃ k : Nat, k ≤ 16 ∧ i = .int .i64 k ∧ Nums wr .i64 (some ⟨g, o, none⟩) ds ∧ Arr wr w.heap.size 0 .u8 (zeros 32) ∧ Arr wr (w.heap.size + 1) 0 .u8 (fillK (byd ds) (2 * k)) ∧ Below w.heap.size w wr) (fun i _ => 16 - (intOf i).toNat)
 case atStart => exact ⟨0, by omega, rfl, hN, hR, hD, hW⟩
 case round =>
   clear hN hR hD hW
   obtain ⟨k, hk, rfl, hN, hR, hD, hW⟩ := hrel
   rename World => W1
   by_cases hlt : k < 16
   · obtain ⟨d, hx, hd, hgd⟩ := HD0.out k hlt
     have hck : W1.cell? ⟨g, o + k, none⟩ = some (.int .i64 (d : Int)) := by
       obtain ⟨g2, o2, e2, _, hc⟩ := hN.num (by have := (List.getElem?_eq_some_iff.1 hx).1; omega)
       injection e2 with e2
       injection e2 with e2 e3
       subst e2 e3
       exact hc k _ hx
     have hv1 := HE.out k hlt
     have hv2 := HO.out k hlt
     rw [hgd] at hv1 hv2
     have HV1 := hid hv1
     have HV2 := hid hv2
     obtain ⟨z, cz, fz, _⟩ := hD.spot (i := 2 * k) (by rw [fillK_length, HBL.out]; omega)
     obtain ⟨z2, cz2, fz2, _⟩ := hD.spot (i := 2 * k + 1) (by rw [fillK_length, HBL.out]; omega)
     rw [Nat.zero_add] at cz fz cz2 fz2
     clear hv1 hv2 hx hgd
     obtain ⟨p, hp⟩ : ∃ p, p = 2 * k := ⟨_, rfl⟩
     obtain ⟨q, hq⟩ : ∃ q, q = p + 1 := ⟨_, rfl⟩
     have hwp : IntKind.i64.wrap (2 * (k : Int)) = (p : Int) := by rw [IntWalk.i64_in _ (by omega)]; omega
     have hwq : IntKind.i64.wrap ((p : Int) + 1) = (q : Int) := by rw [IntWalk.i64_in _ (by omega)]; omega
     have hwk : IntKind.i64.wrap ((k : Int) + 1) = (k : Int) + 1 := IntWalk.i64_in _ (by omega)
     rw [← hp] at cz fz cz2 fz2 HV1 HV2 hD
     rw [← hq] at cz2 fz2 HV2
     have k0 : (0 : Int) ≤ k := by omega
     have k16 : (k : Int) < 16 := by omega
     have p0 : (0 : Int) ≤ p := by omega
     have p32 : (p : Int) < 32 := by omega
     have q0 : (0 : Int) ≤ q := by omega
     have q32 : (q : Int) < 32 := by omega
     have pq : p ≠ q := by omega
     have HPQ := hid (And.intro hp hq)
     have hgn : g ≠ w.heap.size + 1 := by omega
     have hm1 : IntKind.u8.wrap ((d : Int) % 256) = (d : Int) % 256 := IntWalk.u8_in _ (by omega)
     have hm2 : IntKind.u8.wrap ((d : Int) / 256) = (d : Int) / 256 % 256 := by rw [IntWalk.u8_in _ (by omega)]; omega
     clear hp hq
     have hD1 := (hD.set p ((d : Int) % 256)).set q ((d : Int) / 256 % 256)
     rw [Nat.zero_add, Nat.zero_add, fillK_set _ HV1.out, ← HPQ.out.2, fillK_set _ HV2.out, show q + 1 = 2 * (k + 1) by have := HPQ.out; omega] at hD1
     go_wp2
     go_roundw
     case rel =>
       refine ⟨k + 1, by omega, by go_num, (hN.setOff _ (by show w.heap.size + 1 ≠ g; omega)).setOff _ (by show w.heap.size + 1 ≠ g; omega), (hR.apart _ (.inl (by show w.heap.size + 1 ≠ w.heap.size; omega))).apart _ (.inl (by show w.heap.size + 1 ≠ w.heap.size; omega)), hD1, (hW.setCell (by show w.heap.size ≤ w.heap.size + 1; omega) _).setCell (by show w.heap.size ≤ w.heap.size + 1; omega) _⟩
     case measure => simp [intOf]; omega
   · have e : k = 16 := by omega
     subst e
     have HF : Hid (fillK (byd ds) 32 = byd ds) := hid (by have := fillK_end (byd ds); rw [HBL.out] at this; exact this)
     rw [show 2 * 16 = 32 from rfl, HF.out] at hD
     have hs1 : W1.there w.heap.size 0 (ints .u8 (byd ds)).toArray.size := hR.room (by rw [zeros_len]; exact HBL.out)
     have hR2 := hR.stored (l' := byd ds) (by rw [zeros_len]; exact HBL.out)
     have hW2 := Below.setCells hW (g := w.heap.size) (by omega) 0 (ints .u8 (byd ds)).toArray.toList
     clear hN hR HE HO HD0
     go_wp2_with (first
       | (with_reducible refine wpList_load_mid (op := ⟨some 28, .load 22 (.tmp 3), _, _, _, _⟩) rfl 22 (.tmp 3) rfl (w.heap.size + 1) 0 rfl (ints .u8 (byd ds)) _ (hD.range) Tryz.underlying22 rfl (l22 HBL.out) ?_)
       | (with_reducible refine wpList_store_mid (op := ⟨none, .store 22 (.tmp 2) (.tmp 28), _, _, _, _⟩) rfl 22 (.tmp 2) (.tmp 28) rfl w.heap.size 0 (ints .u8 (byd ds)).toArray rfl rfl hs1 (a22 HBL.out) (ints_all _ _) ?_; generalize W1.setCells w.heap.size 0 (ints .u8 (byd ds)).toArray.toList = W5 at *))
     exact ret_rows rfl w.heap.size 0 rfl (ints .u8 (byd ds)) _ hR2.range Tryz.underlying22 rfl (l22 HBL.out) rfl ⟨rfl, hW2⟩
end Go.Proofs.YthpibkpljakeeaaGreatDoor
