/- Texts laid together. -/
import Derived.Test.YthpibkpljakeeaaGreatDoorG22
import Derived.Test.YthpibkpljakeeaaGreatDoorG20
import Derived.Test.YthpibkpljakeeaaGreatDoorG6
namespace Go.Proofs.YthpibkpljakeeaaGreatDoor
open Go.RowKit
theorem Owns.lessB {w : World} {base base' : Nat} {e : TypeId} {k : IntKind} {v : Value} {xs : List Int} (h : Owns w base e k v xs) (hb : base' ≤ base) : Owns w base' e k v xs := by
 refine ⟨h.1, ?_⟩
 rcases h.2 with h2 | ⟨g, cap, cur, hv, hg, r⟩
 · exact .inl h2
 · exact .inr ⟨g, cap, cur, hv, Nat.le_trans hb hg, r⟩
theorem Owns.capL {w : World} {base : Nat} {e : TypeId} {k : IntKind} {A : Option Addr} {n c : Nat} {xs : List Int} (h : Owns w base e k (.slice A n c) xs) : n ≤ c ∧ c ≤ maxLen := by
 rcases h.2 with ⟨hv, hn⟩ | ⟨g, cap, cur, hv, hg, hh, h1, h2, _⟩
 · injection hv with h1 h2 h3; subst h2 h3; exact ⟨Nat.le_refl _, by unfold maxLen; omega⟩
 · injection hv with h3 h4 h5; subst h5; exact ⟨by omega, h2⟩
theorem lt17 {x b : Nat} (hx : x < QN) (hb : b < 2) : 2 * x + b < 65536 ^ 17 := by
 have h1 := qn_lt
 have h2 : 65536 ^ 17 = 65536 * 65536 ^ 16 := by rw [Nat.pow_succ, Nat.mul_comm]
 omega
theorem cell_same_of {W w : World} {b o : Nat} {v : Option Value} (h : Below W.heap.size W w) (hb : b < W.heap.size) (hc : W.cell? ⟨b, o, none⟩ = v) : w.cell? ⟨b, o, none⟩ = v := (h.cell (p := ⟨b, o, none⟩) hb).trans hc
def R17 (l : List Nat) (m : Nat) : Prop := l.length = 17 ∧ Digs l ∧ dv l = m
theorem q17_r : R17 (dgN QN 16 ++ [0]) QN := by
 obtain ⟨h1, h2, h3⟩ := dgN_rp 16 QN qn_lt
 exact ⟨by simp [h1], digs_snoc h2 (by omega), by rw [dv_snoc, h3]; simp⟩
theorem R17.low {l : List Nat} {m : Nat} (h : R17 l m) (hm : m < QN) : Rp (l.take 16) m := by
 obtain ⟨h1, h2, h3⟩ := h
 have h4 := dv_take_succ l 16 (l.getD 16 0) (by rw [List.getD_eq_getElem?_getD, List.getElem?_eq_getElem (by omega)]; rfl)
 rw [List.take_of_length_le (by omega), h3] at h4
 have h5 := qn_lt
 refine ⟨by rw [List.length_take, h1]; omega, fun v hv => h2 v (List.mem_of_mem_take hv), ?_⟩
 generalize l.getD 16 0 = x at *
 cases x with
 | zero => omega
 | succ x =>
   have : 65536 ^ 16 ≤ (x + 1) * 65536 ^ 16 := Nat.le_mul_of_pos_left _ (by omega)
   omega
theorem rem_step (X b : Nat) : (if QN ≤ 2 * (X % QN) + b then 2 * (X % QN) + b - QN else 2 * (X % QN) + b) = (2 * X + b) % QN ∨ 1 < b := by
 by_cases hb : 1 < b
 · exact .inr hb
 · left
   rw [← mod_step]
   have h := Nat.mod_lt X qn_pos
   generalize X % QN = x at *
   by_cases hq : QN ≤ 2 * x + b
   · rw [if_pos hq, Nat.mod_eq_sub_mod hq, Nat.mod_eq_of_lt (by unfold QN at *; omega)]
   · rw [if_neg hq, Nat.mod_eq_of_lt (by omega)]
theorem dig_at {l : List Nat} (hd : Digs l) {i : Nat} (h : i < l.length) : dv l / 65536 ^ i % 65536 = l.getD i 0 := by
 have h1 := dv_split l i (by omega)
 have h2 := dv_lt (l.take i) (fun v hv => hd v (List.mem_of_mem_take hv))
 rw [List.length_take, Nat.min_eq_left (by omega)] at h2
 have h3 := drop_step h
 have h4 := getD_dig hd i
 rw [h3, dv] at h1
 have hp : 0 < 65536 ^ i := Nat.pow_pos (by omega)
 rw [h1, Nat.add_mul_div_left _ _ hp, Nat.div_eq_of_lt h2]
 omega
theorem bit_of (X t d : Nat) (ht : t < 16) (hd : X % 65536 = d) : X / 2 ^ t % 2 = d / 2 ^ t % 2 := by
 rw [← hd]
 have : t = 0 ∨ t = 1 ∨ t = 2 ∨ t = 3 ∨ t = 4 ∨ t = 5 ∨ t = 6 ∨ t = 7 ∨ t = 8 ∨ t = 9 ∨ t = 10 ∨ t = 11 ∨ t = 12 ∨ t = 13 ∨ t = 14 ∨ t = 15 := by omega
 rcases this with rfl | rfl | rfl | rfl | rfl | rfl | rfl | rfl | rfl | rfl | rfl | rfl | rfl | rfl | rfl | rfl <;> simp only [Nat.reducePow, Nat.div_one] <;> omega
def bt (t : Nat) : Nat := 2 ^ t / 2
theorem bt_succ (t : Nat) : bt (t + 1) = 2 ^ t := by unfold bt; rw [Nat.pow_succ]; omega
theorem bt_half (t : Nat) : bt (t + 1) / 2 = bt t := by rw [bt_succ]; rfl
set_option maxRecDepth 4000 in
set_option maxHeartbeats 2000000 in
theorem modq_walk (A : Option Addr) (c L : Nat) (w : World) (l : List Nat) (hl : l.length = L) (hn : L ≤ 1000) (hd : Digs l) (hA : Nums w .i64 A (nl l)) : Calls Tryz.prog 61 #[.slice A L c] w (ROut (dv l % QN) w) := by
 have HL := hid hl
 have HD := hid hd
 have HM0 : Hid (dv l / 65536 ^ L % QN = 0) := hid (by
   have := dv_lt l hd
   rw [hl] at this
   rw [Nat.div_eq_of_lt this]; rfl)
 obtain ⟨z17, hz⟩ : ∃ z, z = List.replicate 17 0 := ⟨_, rfl⟩
 have hmk : ∀ w : World, (Instr.makeSlice 55 (.int .i64 17) (.int .i64 17)).run Tryz.prog w = .ok (.slice (some ⟨w.heap.size, 0, none⟩) 17 17) (w.alloc (.cells (ints .i64 (nl z17)).toArray 3)) := by rw [hz]; exact make28 17 (by omega)
 have HO0 : Hid (∀ w : World, Owns (w.alloc (.cells (ints .i64 (nl z17)).toArray 3)) w.heap.size 3 .i64 (.slice (some ⟨w.heap.size, 0, none⟩) 17 17) (nl z17)) := by
   rw [hz]; exact hid fun w => Owns.new w w.heap.size 3 .i64 (nl (List.replicate 17 0)) (Nat.le_refl _) (by simp [maxLen])
 have HZ0 : Hid (R17 z17 0) := by
   rw [hz]; exact hid ⟨by simp, fun v hv => by have := List.eq_of_mem_replicate hv; omega, by have := dv_zeros [] 17; rw [List.nil_append] at this; rw [this]; rfl⟩
 have HQ := hid q17_r
 have HQ16 := hid (show (nl (dgN QN 16)).length = 16 by rw [nl_length, dgN_length])
 have HQS : Hid (nl (dgN QN 16) ++ [((0 : Nat) : Int)] = nl (dgN QN 16 ++ [0])) := hid (nl_snoc _ _)
 clear hl hd hz
 have hlw : IntKind.i64.wrap ((L : Int) - 1) = (L : Int) - 1 := IntWalk.i64_in _ (by omega)
 go_enter Tryz.func61, Tryz.ntmps61
 go_wp2_with (fail)
 refine (q_walk w).mono ?_
 rintro e w1 ⟨gq, cq, rfl, hQ, hb1⟩
 have hbq : w.heap.size ≤ w1.heap.size := hb1.size
 generalize dgN QN 16 ++ [0] = q17 at *
 generalize dgN QN 16 = q16 at *
 go_wp2_with (at_builtin; refine app_oneG rfl (.tmp 11) (.tmp 12) 55 rfl w.heap.size 3 .i64 8 Tryz.underlying55 Tryz.info3 (by omega) (some ⟨gq, 0, none⟩) 16 cq (nl q16) rfl hQ _ 1 rfl (by rw [HQ16.out]; omega) hbq ?_; intro A' n' c' w2 hO2 hG2)
 have hb2 : Below w.heap.size w w2 := hb1.trans (hG2.below hbq (fun g hg => (hQ.lt g hg).1))
 have hA2 := hA.below hb2
 have hn' := hO2.len
 rw [List.length_append, HQ16.out, List.length_singleton] at hn'
 have hn17 : n' = 17 := by omega
 subst hn17
 have hQ2 : Nums w2 .i64 A' (nl q17) := by have := hO2.nums; rw [← HQS.out]; exact this
 have hO := HO0.out w2
 have hbD := below_new w2 (.cells (ints .i64 (nl z17)).toArray 3)
 have HW2 := hid hb2
 clear hn' hb1 hbq hO2 hG2 hQ HQ16 HQS hA hb2 hmk
 generalize w2.alloc (.cells (ints .i64 (nl z17)).toArray 3) = W0 at *
 go_loopw [4, 5] (fun v i wr => ∃ (j g cr : Nat) (rs : List Nat), j ≤ L ∧ i = .int .i64 ((j : Int) - 1) ∧ v = .slice (some ⟨g, 0, none⟩) 17 cr ∧ Hid (R17 rs (dv l / 65536 ^ j % QN)) ∧ Owns wr w2.heap.size 3 .i64 (.slice (some ⟨g, 0, none⟩) 17 cr) (nl rs) ∧ Below w2.heap.size w2 wr) (fun _ i _ => (intOf i + 1).toNat)
 case atStart => exact ⟨L, w2.heap.size, 17, z17, Nat.le_refl _, rfl, rfl, (by rw [HM0.out]; exact HZ0), hO, hbD⟩
 case round =>
   clear hO hbD HZ0 HO0 HM0
   obtain ⟨j, g, cr, rs, hj, rfl, rfl, HR, hO, hB⟩ := hrel
   rename World => W1
   cases j with
   | zero =>
     have hz : ((0 : Nat) : Int) - 1 = -1 := by omega
     rw [hz]
     have HR0 : Hid (R17 rs (dv l % QN)) := hid (by have := HR.out; rwa [Nat.pow_zero, Nat.div_one] at this)
     have HRL := hid (HR0.out.low (Nat.mod_lt _ qn_pos))
     have hcap := hO.capL
     have hNF : NumsF w.heap.size W1 .i64 (some ⟨g, 0, none⟩) (nl (rs.take 16)) := fun hp => by
       obtain ⟨b, off, e, h1, h2, h3⟩ := hO.fresh (by rw [nl_length, HR0.out.1]; omega)
       have hs := HW2.out.size
       refine ⟨b, off, e, by omega, h2, fun i hi => ?_⟩
       have hi2 : i < 16 := by rw [nl_length, HRL.out.1] at hi; exact hi
       rw [h3 i (by rw [nl_length, HR0.out.1]; omega)]
       have e1 : (nl (rs.take 16)).getD i 0 = (nl rs).getD i 0 := by
         unfold nl
         rw [List.getD_eq_getElem?_getD, List.getD_eq_getElem?_getD, List.getElem?_map, List.getElem?_map, List.getElem?_take, if_pos hi2]
       rw [e1]
     have hBW : Below w.heap.size w W1 := HW2.out.trans (Below.mono hB HW2.out.size)
     have hcap1 : (16 : Int) ≤ (cr : Int) := by omega
     clear hO hB hA2 hQ2 hz HR hcap
     go_wp2
     go_ret
     exact ROut.mk HRL.out hNF hBW
   | succ i =>
     have hz : ((i + 1 : Nat) : Int) - 1 = (i : Int) := by omega
     rw [hz]
     have HRT : Hid (R17 rs (dv l / 65536 ^ i / 2 ^ 16 % QN)) := hid (by have := HR.out; rw [Nat.pow_succ, ← Nat.div_div_eq_div_mul] at this; exact this)
     have hil : i < l.length := by rw [HL.out]; omega
     have HDI := hid (dig_at HD.out hil)
     have hdl := getD_dig HD.out i
     obtain ⟨gA, oA, rfl, hgA, cA⟩ := hA2.num (by rw [nl_length, HL.out]; omega)
     have cd := cA i _ (nl_at hil)
     clear cA hil HR
     generalize l.getD i 0 = d at *
     have HX : Hid (dv l / 65536 ^ i = dv l / 65536 ^ i) := hid rfl
     have i0 : (0 : Int) ≤ i := by omega
     have iL : (i : Int) < L := by omega
     have iw : IntKind.i64.wrap ((i : Int) - 1) = (i : Int) - 1 := IntWalk.i64_in _ (by omega)
     go_wp2
     go_loopw [4, 6] (fun v b wr => ∃ (t g cr : Nat) (rs : List Nat), t ≤ 16 ∧ b = .int .i64 (bt t : Int) ∧ v = .slice (some ⟨g, 0, none⟩) 17 cr ∧ Hid (R17 rs (dv l / 65536 ^ i / 2 ^ t % QN)) ∧ Owns wr w2.heap.size 3 .i64 (.slice (some ⟨g, 0, none⟩) 17 cr) (nl rs) ∧ Below w2.heap.size w2 wr) (fun _ b _ => (intOf b).toNat)
     case atStart => exact ⟨16, g, cr, rs, by omega, (by rw [show bt 16 = 32768 from rfl]; rfl), rfl, HRT, hO, hB⟩
     case round =>
       clear hO hB HRT
       obtain ⟨t, g, cr, rs, ht, rfl, rfl, HR, hO, hB⟩ := hrel
       rename World => W2
       cases t with
       | zero =>
         have hb0 : ((bt 0 : Nat) : Int) = 0 := rfl
         rw [hb0]
         have HR0 : Hid (R17 rs (dv l / 65536 ^ i % QN)) := hid (by have := HR.out; rwa [Nat.pow_zero, Nat.div_one] at this)
         clear HR
         go_wp2
         go_roundw
         case rel => exact ⟨i, g, cr, rs, by omega, by go_num, rfl, HR0, hO, hB⟩
         case measure => simp [intOf]
       | succ t =>
         obtain ⟨p, hp⟩ : ∃ p, bt (t + 1) = p := ⟨_, rfl⟩
         have HPT := hid (show p = 2 ^ t by rw [← hp, bt_succ])
         have HPH := hid (show p / 2 = bt t by rw [← hp, bt_half])
         rw [hp]
         have hpp : 0 < p := by rw [HPT.out]; exact Nat.pow_pos (by omega)
         have hpl : p ≤ 32768 := by
           rw [HPT.out]
           exact Nat.le_trans (Nat.pow_le_pow_right (by omega) (show t ≤ 15 by omega)) (by decide)
         obtain ⟨e, he⟩ : ∃ e, d / p = e := ⟨_, rfl⟩
         obtain ⟨b, hb⟩ : ∃ b, e % 2 = b := ⟨_, rfl⟩
         have HST : Hid ((if QN ≤ 2 * (dv l / 65536 ^ i / 2 ^ (t + 1) % QN) + b then 2 * (dv l / 65536 ^ i / 2 ^ (t + 1) % QN) + b - QN else 2 * (dv l / 65536 ^ i / 2 ^ (t + 1) % QN) + b) = dv l / 65536 ^ i / 2 ^ t % QN) := hid (by
           have h1 := bit_of (dv l / 65536 ^ i) t d (by omega) HDI.out
           rw [← HPT.out, he, hb] at h1
           have h2 := half_step (dv l / 65536 ^ i) t
           rw [← HPT.out, h1] at h2
           rcases rem_step (dv l / 65536 ^ i / 2 ^ (t + 1)) b with h | h
           · rw [h, h2, HPT.out]
           · omega)
         have HXL : Hid (dv l / 65536 ^ i / 2 ^ (t + 1) % QN < QN) := hid (Nat.mod_lt _ qn_pos)
         have hel : e ≤ 65535 := by rw [← he]; exact Nat.le_trans (Nat.div_le_self _ _) (by omega)
         have hei : (d : Int) / (p : Int) = (e : Int) := by rw [← he]; simp
         have het : Int.tdiv (d : Int) (p : Int) = (e : Int) := by rw [Int.tdiv_eq_ediv_of_nonneg (by omega)]; exact hei
         have hew : IntKind.i64.wrap (e : Int) = (e : Int) := IntWalk.i64_in _ (by omega)
         have hbi : (e : Int) % 2 = (b : Int) := by omega
         have hbt : Int.tmod (e : Int) 2 = (b : Int) := by rw [Int.tmod_eq_emod_of_nonneg (by omega)]; omega
         have hp0 : ¬ (p : Int) = 0 := by omega
         have hp1 : (0 : Int) < (p : Int) := by omega
         have hph : (p : Int) / 2 = ((p / 2 : Nat) : Int) := by omega
         have hpht : Int.tdiv (p : Int) 2 = ((p / 2 : Nat) : Int) := by rw [Int.tdiv_eq_ediv_of_nonneg (by omega)]; omega
         have hphw : IntKind.i64.wrap ((p / 2 : Nat) : Int) = ((p / 2 : Nat) : Int) := IntWalk.i64_in _ (by omega)
         have HBL : Hid (b < 2) := hid (by omega)
         rw [HPH.out] at hph hpht hphw
         have HBT : Hid (bt t < p) := hid (by rw [← HPH.out]; omega)
         have hcd := cell_same_of hB hgA cd
         have HEB := hid (And.intro he hb)
         generalize dv l / 65536 ^ i / 2 ^ (t + 1) % QN = x at *
         obtain ⟨btt, hbtt⟩ : ∃ q, bt t = q := ⟨_, rfl⟩
         rw [hbtt] at hph hpht hphw HBT
         have HBTT := hid hbtt
         have HMI := hid (MulI.start (m := 2) (c := b) HR.out.2.1 HBL.out)
         clear hp hpl he hb hel hpp HPH HPT hbtt
         go_wp2
         go_loopw [7, 8] (fun cv kv wr => ∃ (m cy : Nat) (zs : List Nat), m ≤ 17 ∧ kv = .int .i64 m ∧ cv = .int .i64 cy ∧ Hid (MulI 2 b rs zs cy m) ∧ Owns wr w2.heap.size 3 .i64 (.slice (some ⟨g, 0, none⟩) 17 cr) (nl zs) ∧ Below w2.heap.size w2 wr) (fun _ kv _ => 17 - (intOf kv).toNat)
         case atStart => exact ⟨0, b, rs, by omega, rfl, rfl, HMI, hO, hB⟩
         case round =>
           clear hO hB HMI hcd
           obtain ⟨m, cy, zs, hm, rfl, rfl, HI, hO, hB⟩ := hrel
           rename World => W3
           by_cases hlt2 : m < 17
           · have hzl : (nl zs).length = 17 := by rw [nl_length, HI.out.1]; exact HR.out.1
             have hzm : zs[m]? = some (rs.getD m 0) := by rw [HI.out.2.2.2.2 m (Nat.le_refl _), List.getD_eq_getElem?_getD, List.getElem?_eq_getElem (by rw [HR.out.1]; exact hlt2)]; rfl
             obtain ⟨y, cy0, fy0, HY⟩ := hO.spot (j := m) (by rw [hzl]; exact hlt2)
             have hyx : y = ((rs.getD m 0 : Nat) : Int) := by
               have h := HY.out
               unfold nl at h
               rw [List.getElem?_map, hzm] at h
               exact (Option.some.inj h).symm
             subst hyx
             have hdx := getD_dig HR.out.2.1 m
             have hcy := HI.out.2.2.1
             obtain ⟨n, hn2⟩ : ∃ n, n = 2 * rs.getD m 0 + cy := ⟨_, rfl⟩
             have HN := hid (HI.out.step HR.out.2.1 (by rw [HR.out.1]; exact hlt2) hn2)
             generalize rs.getD m 0 = x0 at *
             have w1 : IntKind.i64.wrap (2 * (x0 : Int)) = 2 * (x0 : Int) := IntWalk.i64_in _ (by omega)
             have w2' : IntKind.i64.wrap (2 * (x0 : Int) + cy) = (n : Int) := by rw [IntWalk.i64_in _ (by omega)]; omega
             have hnm : (n : Int) % 65536 = ((n % 65536 : Nat) : Int) := by omega
             have hnd : (n : Int) / 65536 = ((n / 65536 : Nat) : Int) := by omega
             have hnt : Int.tmod (n : Int) 65536 = ((n % 65536 : Nat) : Int) := by rw [Int.tmod_eq_emod_of_nonneg (by omega)]; omega
             have hnq : Int.tdiv (n : Int) 65536 = ((n / 65536 : Nat) : Int) := by rw [Int.tdiv_eq_ediv_of_nonneg (by omega)]; omega
             have HNB : Hid (n / 65536 < 2) := hid (by omega)
             have hO9 := hO.store m ((n % 65536 : Nat) : Int)
             have hgD := (hO.lt g rfl).1
             rw [nl_set] at hO9
             generalize n % 65536 = r at *
             generalize n / 65536 = q at *
             have hqw : IntKind.i64.wrap (q : Int) = (q : Int) := IntWalk.i64_in _ (by have := HNB.out; omega)
             have hB9 := hB.setCell (p := ⟨g, m, none⟩) hgD (.int .i64 (r : Int))
             have m0 : (0 : Int) ≤ m := by omega
             have m16 : (m : Int) < 17 := by omega
             clear hn2 HY hdx hcy hzl hzm HI hO hB hgD
             go_wp2
             go_roundw
             case rel => exact ⟨m + 1, q, zs.set m r, by omega, by go_num, rfl, HN, hO9, hB9⟩
             case measure => simp [intOf]; omega
           · have e : m = 17 := by omega
             subst e
             have HZ : Hid (R17 zs (2 * x + b)) := hid (by
               have h := HI.out.end_ HR.out.1 (by rw [HR.out.2.2]; exact lt17 HXL.out HBL.out)
               rw [HR.out.2.2] at h
               exact h)
             have hQ3 := hQ2.below hB
             clear HI
             go_wp2_with (fail)
             refine (al_any (some ⟨g, 0, none⟩) A' cr c' 17 zs q17 W3 HZ.out.1 HQ.out.1 (by omega) HZ.out.2.1 HQ.out.2.1 hO.nums hQ3).mono ?_
             rintro e2 w4 ⟨bb, rfl, HBB, nd, rfl⟩
             rw [HZ.out.2.2, HQ.out.2.2] at HBB
             have hO4 := hO.drewN nd
             have hB4 := below_drewN hB nd
             have hQ4 : Nums (W3.drewN nd) .i64 A' (nl q17) := hQ3
             clear hO hB hQ3
             generalize W3.drewN nd = W4 at *
             by_cases hge : QN ≤ 2 * x + b
             · have hbb : bb = true := by rw [HBB.out]; exact decide_eq_true hge
               subst hbb
               have HS2 := HST.out
               rw [if_pos hge] at HS2
               replace HS2 := hid HS2
               have HGE := hid hge
               clear hge HST
               go_wp2_with (fail)
               refine (le_own (some ⟨g, 0, none⟩) A' cr c' 17 zs q17 W4 HZ.out.1 HQ.out.1 (by omega) HZ.out.2.1 HQ.out.2.1 (by rw [HZ.out.2.2, HQ.out.2.2]; exact HGE.out) hO4.nums hQ4).mono ?_
               rintro e3 w5 ⟨A5, c5, ys, rfl, HY, hO5, hb5⟩
               obtain ⟨g5, rfl, _⟩ := hO5.block (by rw [nl_length, HY.out.1]; omega)
               have hO6 := hO5.lessB hB4.size
               have hB6 := hB4.trans (Below.mono hb5 hB4.size)
               have HR6 : Hid (R17 ys (dv l / 65536 ^ i / 2 ^ t % QN)) := hid ⟨HY.out.1, HY.out.2.1, by rw [HY.out.2.2, HZ.out.2.2, HQ.out.2.2, HS2.out]⟩
               clear hO4 hB4 hQ4 hO5 hb5
               go_wp2
               go_roundw
               case rel => exact ⟨t, g5, c5, ys, by omega, by rw [HBTT.out], rfl, HR6, hO6, hB6⟩
               case measure => have := HBT.out; simp [intOf]; omega
             · have hbb : bb = false := by rw [HBB.out]; exact decide_eq_false hge
               subst hbb
               have HS2 := HST.out
               rw [if_neg hge] at HS2
               rw [HS2] at HZ
               clear hge HST HS2
               go_wp2
               go_roundw
               case rel => exact ⟨t, g, cr, zs, by omega, by rw [HBTT.out], rfl, HZ, hO4, hB4⟩
               case measure => have := HBT.out; simp [intOf]; omega
open Go.RowKit
set_option maxRecDepth 4000 in
set_option maxHeartbeats 2000000 in
theorem rofq_walk (A : Option Addr) (L c : Nat) (bs : List Int) (w : World) (hl : bs.length = L) (hn : L ≤ 1000) (hb : Byt bs) (hA : Nums w .u8 A bs) : Calls Tryz.prog 58 #[.slice A L c] w fun e w' => e = .returned (.agg (ints .u8 (rbytes (bn bs % QN))).toArray) ∧ Below w.heap.size w w' := by
 obtain ⟨z22, s22⟩ := zero_of_info inf22
 have HL := hid hl
 have HB := hid hb
 obtain ⟨da, hda1, hda2, hda3, hda4⟩ := pr_nl hb
 have HDA := hid (And.intro hda1 (And.intro hda2 (And.intro hda3 hda4)))
 have HPL : Hid ((pr bs).length = (L + 1) / 2) := hid (by rw [pr_length, hl])
 have HBL := hid (rbytes_length (bn bs % QN))
 have hR := Arr.made w .u8 (zeros 32) 22
 have hW := below_new w (.cells (ints .u8 (zeros 32)).toArray 22)
 have hA0 := hA.below hW
 have hsz0 : (w.alloc (.cells (ints .u8 (zeros 32)).toArray 22)).heap.size = w.heap.size + 1 := by simp
 clear hl hb hda1 hda2 hda3 hda4 hA
 go_enter Tryz.func58, Tryz.ntmps58
 go_wp2
 generalize w.alloc (.cells (ints .u8 (zeros 32)).toArray 22) = W0 at *
 go_loopw [3, 4] (fun v i wr => ∃ (k : Nat) (R : Option Addr) (n d : Nat), k ≤ (L + 1) / 2 ∧ v = .slice R n d ∧ i = .int .i64 ((2 * k : Nat) : Int) ∧ Owns wr W0.heap.size 3 .i64 (.slice R n d) ((pr bs).take k) ∧ Below W0.heap.size W0 wr) (fun _ i _ => L + 1 - (intOf i).toNat)
 case atStart => exact ⟨0, none, 0, 0, Nat.zero_le _, rfl, rfl, Owns.none_ _ _ _ _, Below.refl _ _⟩
 case round =>
   obtain ⟨k, R, n, d, hk, rfl, rfl, hO, hb⟩ := hrel
   rename World => W1
   have hsz := hb.size
   by_cases hlt : 2 * k < L
   · have hlk : 2 * k < bs.length := by rw [HL.out]; exact hlt
     obtain ⟨g, o, rfl, _, cA⟩ := (hA0.below hb).num (by omega)
     have hx : bs[2 * k]? = some (bs.getD (2 * k) 0) := by rw [List.getD_eq_getElem?_getD, List.getElem?_eq_getElem hlk]; rfl
     have cx := cA _ _ hx
     have hxb := HB.out.at_ hx
     have HV := hid (pr_at bs k hlk)
     have HT : Hid ((pr bs).take (k + 1) = (pr bs).take k ++ [bs.getD (2 * k) 0 + 256 * bs.getD (2 * k + 1) 0]) := hid (by rw [List.take_add_one, HV.out]; rfl)
     have HTL : Hid (((pr bs).take k).length ≤ 1000) := hid (by rw [List.length_take, HPL.out]; omega)
     have HW5 : Hid (∀ A' n' c' w2, Grew W1 w2 (Value.slice R n d) (Value.slice A' n' c') → Below W0.heap.size W0 w2) := hid fun A' n' c' w2 hG => hb.trans (hG.below hsz (fun g hg => (hO.lt g hg).1))
     by_cases hlt2 : 2 * k + 1 < L
     · have hlk2 : 2 * k + 1 < bs.length := by rw [HL.out]; exact hlt2
       have hy : bs[2 * k + 1]? = some (bs.getD (2 * k + 1) 0) := by rw [List.getD_eq_getElem?_getD, List.getElem?_eq_getElem hlk2]; rfl
       have cy0 := cA _ _ hy
       have hyb := HB.out.at_ hy
       clear hx hy hlk hlk2 cA HV
       generalize bs.getD (2 * k) 0 = x at *
       generalize bs.getD (2 * k + 1) 0 = y at *
       obtain ⟨p, hp⟩ : ∃ p, p = 2 * k := ⟨_, rfl⟩
       obtain ⟨q, hq⟩ : ∃ q, q = 2 * k + 1 := ⟨_, rfl⟩
       have hwq : IntKind.i64.wrap ((p : Int) + 1) = (q : Int) := by rw [IntWalk.i64_in _ (by omega)]; omega
       have hw2 : IntKind.i64.wrap ((p : Int) + 2) = ((2 * (k + 1) : Nat) : Int) := by rw [IntWalk.i64_in _ (by omega)]; omega
       rw [← hp] at cx ⊢
       rw [← hq] at cy0
       have p0 : (0 : Int) ≤ p := by omega
       have pL : (p : Int) < L := by omega
       have q0 : (0 : Int) ≤ q := by omega
       have qL : (q : Int) < L := by omega
       have hx64 : IntKind.i64.wrap x = x := IntWalk.i64_in _ (by omega)
       have hy64 : IntKind.i64.wrap y = y := IntWalk.i64_in _ (by omega)
       have hs8 : IntKind.i64.wrap (256 * y) = 256 * y := by rw [IntWalk.i64_in _ (by omega)]
       have hsv : IntKind.i64.wrap (x + 256 * y) = x + 256 * y := by rw [IntWalk.i64_in _ (by omega)]
       have HPQ := hid (And.intro hp hq)
       clear hp hq
       go_wp2_with (at_builtin; refine app_oneG rfl (.tmp 31) (.tmp 33) 55 rfl W0.heap.size 3 .i64 8 Tryz.underlying55 Tryz.info3 (by omega) R n d ((pr bs).take k) rfl hO _ 1 rfl (by have := HTL.out; omega) hsz ?_; intro A' n' c' w2 hO2 hG2)
       go_roundw
       case rel =>
         rw [← HT.out] at hO2
         exact ⟨k + 1, A', n', c', by omega, rfl, by congr 1, hO2, HW5.out _ _ _ _ hG2⟩
       case measure => simp [intOf]; have := HPQ.out.1; omega
     · have hy0 : bs.getD (2 * k + 1) 0 = 0 := by rw [List.getD_eq_getElem?_getD, List.getElem?_eq_none (by rw [HL.out]; omega)]; rfl
       rw [hy0] at HT
       clear hx hy0 hlk cA HV
       generalize bs.getD (2 * k) 0 = x at *
       obtain ⟨p, hp⟩ : ∃ p, p = 2 * k := ⟨_, rfl⟩
       have hwq : IntKind.i64.wrap ((p : Int) + 1) = (p : Int) + 1 := IntWalk.i64_in _ (by omega)
       have hw2 : IntKind.i64.wrap ((p : Int) + 2) = ((2 * (k + 1) : Nat) : Int) := by rw [IntWalk.i64_in _ (by omega)]; omega
       rw [← hp] at cx ⊢
       have p0 : (0 : Int) ≤ p := by omega
       have pL : (p : Int) < L := by omega
       have qL : ¬ (p : Int) + 1 < L := by omega
       have hx64 : IntKind.i64.wrap x = x := IntWalk.i64_in _ (by omega)
       have HXV : Hid (x + 256 * 0 = x) := hid (by omega)
       rw [HXV.out] at HT
       have HPQ := hid hp
       clear hp
       go_wp2_with (at_builtin; refine app_oneG rfl (.tmp 31) (.tmp 33) 55 rfl W0.heap.size 3 .i64 8 Tryz.underlying55 Tryz.info3 (by omega) R n d ((pr bs).take k) rfl hO _ 1 rfl (by have := HTL.out; omega) hsz ?_; intro A' n' c' w2 hO2 hG2)
       go_roundw
       case rel =>
         rw [← HT.out] at hO2
         exact ⟨k + 1, A', n', c', by omega, rfl, by congr 1, hO2, HW5.out _ _ _ _ hG2⟩
       case measure => simp [intOf]; have := HPQ.out; omega
   · have e : k = (L + 1) / 2 := by omega
     have hf : (pr bs).take k = nl da := by rw [e, List.take_of_length_le (by rw [HPL.out]; omega), HDA.out.1]
     rw [hf] at hO
     have hm := hO.len
     rw [nl_length, HDA.out.2.1, HL.out] at hm
     have HM := hid hm
     obtain ⟨p, hp⟩ : ∃ p, p = 2 * k := ⟨_, rfl⟩
     have hpL : ¬ (p : Int) < L := by omega
     rw [← hp]
     have hR2 := hR.below hb (by omega)
     have hW2 := hW.trans (Below.mono hb (by omega))
     have hDV := HDA.out.2.2.2
     have hN := hO.nums
     obtain ⟨rs, hrs⟩ : ∃ rs, rbytes (bn bs % QN) = rs := ⟨_, rfl⟩
     rw [hrs] at HBL
     have HRS := hid hrs
     have hn1000 : n ≤ 1000 := by omega
     clear hm hf e hO hR hW hlt hp hsz hrs
     go_wp2_with (fail)
     refine (modq_walk R d n W1 da (by rw [HDA.out.2.1, HL.out, HM.out]) hn1000 HDA.out.2.2.1 hN).mono ?_
     rw [hDV]
     rintro e w2 ⟨A2, c2, ys, rfl, HY, hN2, hb2⟩
     have hR3 := hR2.below hb2 (hR2.lt (by rw [zeros_len]; omega))
     have hW3 := hW2.trans (Below.mono hb2 hW2.size)
     go_wp2_with (fail)
     refine (rbytes_out (cA := c2) HY.out hN2.nums).mono ?_
     rw [HRS.out]
     rintro e w3 ⟨rfl, hb3⟩
     have hR4 := hR3.below hb3 (hR3.lt (by rw [zeros_len]; omega))
     have hW4 := hW3.trans (Below.mono hb3 hW3.size)
     have hs1 : w3.there w.heap.size 0 (ints .u8 rs).toArray.size := hR4.room (by rw [zeros_len]; exact HBL.out)
     have hR5 := hR4.stored (l' := rs) (by rw [zeros_len]; exact HBL.out)
     have hW5 := Below.setCells hW4 (g := w.heap.size) (Nat.le_refl _) 0 (ints .u8 rs).toArray.toList
     clear hR2 hW2 hb2 hR3 hW3 hb3 hR4 hW4 hN hN2
     go_wp2_with (first
       | (with_reducible refine wpList_store_mid (op := ⟨none, .store 22 (.tmp 2) (.tmp 37), _, _, _, _⟩) rfl 22 (.tmp 2) (.tmp 37) rfl w.heap.size 0 (ints .u8 rs).toArray rfl rfl hs1 (a22 HBL.out) (ints_all _ _) ?_; generalize w3.setCells w.heap.size 0 (ints .u8 rs).toArray.toList = W5 at *))
     exact ret_rows rfl w.heap.size 0 rfl (ints .u8 rs) _ hR5.range Tryz.underlying22 rfl (l22 HBL.out) rfl ⟨by rw [HRS.out], hW5⟩
open Go.RowKit
theorem rdig_out {b : List Int} {w : World} (hl : b.length = 32) (hb : Byt b) : Calls Tryz.prog 60 #[.agg (ints .u8 b).toArray] w (ROut (bn b) w) := by
 obtain ⟨a, ha, hr⟩ := digits_of hl hb
 refine (rdigits_walk hl hb).mono fun e w' ⟨g, c, he, hO, hB⟩ => ⟨some ⟨g, 0, none⟩, c, a, he, hr, ?_, hB⟩
 rw [ha]
 exact hO.fresh
theorem SumI.end_ {l m ys : List Nat} {cy : Nat} (h : SumI l m ys cy 16) (hl : l.length = 16) (hm : m.length = 16) : (ys ++ [cy]).length = 17 ∧ Digs (ys ++ [cy]) ∧ dv (ys ++ [cy]) = dv l + dv m := by
 obtain ⟨a, b, c, e⟩ := h
 rw [List.take_of_length_le (by omega), List.take_of_length_le (by omega)] at e
 exact ⟨by simp [a], digs_snoc b (by omega), by rw [dv_snoc, a, e]⟩
set_option maxRecDepth 4000 in
set_option maxHeartbeats 2000000 in
theorem raddq_walk {al bl : List Int} {w : World} (la : al.length = 32) (lb : bl.length = 32) (ya : Byt al) (yb : Byt bl) : Calls Tryz.prog 28 #[.agg (ints .u8 al).toArray, .agg (ints .u8 bl).toArray] w fun e w' => e = .returned (.agg (ints .u8 (rbytes ((bn al + bn bl) % QN))).toArray) ∧ Below w.heap.size w w' := by
 obtain ⟨z22, s22⟩ := zero_of_info inf22
 have HBL := hid (rbytes_length ((bn al + bn bl) % QN))
 obtain ⟨rs, hrs⟩ : ∃ rs, rbytes ((bn al + bn bl) % QN) = rs := ⟨_, rfl⟩
 rw [hrs] at HBL
 have HRS := hid hrs
 have HKA := hid (fun w0 => rdig_out (w := w0) la ya)
 have HKB := hid (fun w0 => rdig_out (w := w0) lb yb)
 have h1 := ((Arr.made w .u8 al 22).alloc (.cells (ints .u8 bl).toArray 22)).alloc (.cells (ints .u8 (zeros 32)).toArray 22)
 have h2 := (Arr.made (w.alloc (.cells (ints .u8 al).toArray 22)) .u8 bl 22).alloc (.cells (ints .u8 (zeros 32)).toArray 22)
 have h3 := Arr.made ((w.alloc (.cells (ints .u8 al).toArray 22)).alloc (.cells (ints .u8 bl).toArray 22)) .u8 (zeros 32) 22
 simp only [World.size_alloc] at h2 h3
 have hW := ((below_new w (.cells (ints .u8 al).toArray 22)).alloc (by simp) (.cells (ints .u8 bl).toArray 22)).alloc (by simp; omega) (.cells (ints .u8 (zeros 32)).toArray 22)
 clear ya yb hrs
 go_enter Tryz.func28, Tryz.ntmps28
 go_wp2_with (first
   | (with_reducible refine wpList_load_mid (op := ⟨some 11, .load 22 (.tmp 2), _, _, _, _⟩) rfl 22 (.tmp 2) rfl w.heap.size 0 rfl (ints .u8 al) _ h1.range Tryz.underlying22 rfl (l22 la) ?_))
 generalize ((w.alloc (.cells (ints .u8 al).toArray 22)).alloc (.cells (ints .u8 bl).toArray 22)).alloc (.cells (ints .u8 (zeros 32)).toArray 22) = W0 at *
 refine (HKA.out _).mono ?_
 rintro e w1 ⟨AX, cx, xs, rfl, HX, hX, hb1⟩
 replace h2 := h2.below hb1 (h2.lt (by rw [lb]; omega))
 replace h3 := h3.below hb1 (h3.lt (by rw [zeros_len]; omega))
 replace hW := hW.trans (Below.mono hb1 hW.size)
 go_wp2_with (first
   | (with_reducible refine wpList_load_mid (op := ⟨some 13, .load 22 (.tmp 3), _, _, _, _⟩) rfl 22 (.tmp 3) rfl (w.heap.size + 1) 0 rfl (ints .u8 bl) _ h2.range Tryz.underlying22 rfl (l22 lb) ?_))
 refine (HKB.out _).mono ?_
 rintro e w2 ⟨AY, cy, ys, rfl, HY, hY, hb2⟩
 replace h3 := h3.below hb2 (h3.lt (by rw [zeros_len]; omega))
 replace hW := hW.trans (Below.mono hb2 hW.size)
 have hX2 := hX.nums.below hb2
 have hY2 := hY.nums
 have hR := h3
 clear h1 h2 h3 hX hY hb1 hb2 HKA HKB
 have HXL := hid HX.out.1
 have HYL := hid HY.out.1
 have HSE : Hid (∀ ys' cy', SumI xs ys ys' cy' 16 → (ys' ++ [cy']).length = 17 ∧ Digs (ys' ++ [cy']) ∧ dv (ys' ++ [cy']) = bn al + bn bl) := hid fun ys' cy' h => by
   have := h.end_ HX.out.1 HY.out.1
   rwa [HX.out.2.2, HY.out.2.2] at this
 go_wp2_with (fail)
 go_loopw [7, 8, 9] (fun v cv i wr => ∃ (k cyy : Nat) (zs : List Nat) (R : Option Addr) (n d : Nat), k ≤ 16 ∧ v = .slice R n d ∧ cv = .int .i64 cyy ∧ i = .int .i64 k ∧ Hid (SumI xs ys zs cyy k) ∧ Owns wr w2.heap.size 3 .i64 (.slice R n d) (nl zs) ∧ Below w2.heap.size w2 wr) (fun _ _ i _ => 16 - (intOf i).toNat)
 case atStart => exact ⟨0, 0, [], none, 0, 0, by omega, rfl, rfl, rfl, hid ⟨rfl, fun v hv => by simp at hv, by omega, by simp [dv]⟩, Owns.none_ _ _ _ _, Below.refl _ _⟩
 case round =>
   obtain ⟨k, cyy, zs, R, n, d, hk, rfl, rfl, rfl, HI, hO, hb⟩ := hrel
   rename World => W1
   have hsz := hb.size
   by_cases hlt : k < 16
   · obtain ⟨g, o, rfl, _, cA⟩ := (hX2.below hb).num (by rw [nl_length, HXL.out]; omega)
     obtain ⟨g2, o2, rfl, _, cB⟩ := (hY2.below hb).num (by rw [nl_length, HYL.out]; omega)
     have cx0 := cA k _ (nl_at (by rw [HXL.out]; exact hlt))
     have cy0 := cB k _ (nl_at (by rw [HYL.out]; exact hlt))
     have hxd := getD_dig HX.out.2.1 k
     have hyd := getD_dig HY.out.2.1 k
     have HN := hid (HI.out.step (by rw [HXL.out]; exact hlt) (by rw [HYL.out]; exact hlt) HX.out.2.1 HY.out.2.1)
     have hcy := HI.out.2.2.1
     have HZL : Hid ((nl zs).length = k) := hid (by rw [nl_length]; exact HI.out.1)
     have HW5 : Hid (∀ A' n' c' w2', Grew (W1) w2' (Value.slice R n d) (Value.slice A' n' c') → Below w2.heap.size w2 w2') := hid fun A' n' c' w2' hG => hb.trans (hG.below hsz (fun g hg => (hO.lt g hg).1))
     clear cA cB HI
     generalize xs.getD k 0 = x at *
     generalize ys.getD k 0 = y at *
     obtain ⟨t, ht⟩ : ∃ t, x + y + cyy = t := ⟨_, rfl⟩
     rw [ht] at HN
     have w1' : IntKind.i64.wrap ((x : Int) + y) = (x : Int) + y := IntWalk.i64_in _ (by omega)
     have w2' : IntKind.i64.wrap ((x : Int) + y + cyy) = (t : Int) := by rw [IntWalk.i64_in _ (by omega)]; omega
     have hnm : (t : Int) % 65536 = ((t % 65536 : Nat) : Int) := by omega
     have hnd : (t : Int) / 65536 = ((t / 65536 : Nat) : Int) := by omega
     have hnt : Int.tmod (t : Int) 65536 = ((t % 65536 : Nat) : Int) := by rw [Int.tmod_eq_emod_of_nonneg (by omega)]; omega
     have hnq : Int.tdiv (t : Int) 65536 = ((t / 65536 : Nat) : Int) := by rw [Int.tdiv_eq_ediv_of_nonneg (by omega)]; omega
     have HNB : Hid (t / 65536 ≤ 1) := hid (by omega)
     generalize t % 65536 = r at *
     generalize t / 65536 = q at *
     have hqw : IntKind.i64.wrap (q : Int) = (q : Int) := IntWalk.i64_in _ (by have := HNB.out; omega)
     have k0 : (0 : Int) ≤ k := by omega
     have k16 : (k : Int) < 16 := by omega
     clear ht hxd hyd hcy
     go_wp2
     go_quiet (fail)
     have hO1 := hO.drewN nq
     have hb1 := below_drewN hb nq
     have hsz1 : w2.heap.size ≤ (W1.drewN nq).heap.size := hsz
     clear cx0 cy0 hO hb hsz HW5
     generalize W1.drewN nq = W4 at *
     have HW5 : Hid (∀ A' n' c' w2', Grew W4 w2' (Value.slice R n d) (Value.slice A' n' c') → Below w2.heap.size w2 w2') := hid fun A' n' c' w2' hG => hb1.trans (hG.below hsz1 (fun g hg => (hO1.lt g hg).1))
     go_wp2_with (at_builtin; refine app_oneG rfl (.tmp 30) (.tmp 33) 55 rfl w2.heap.size 3 .i64 8 Tryz.underlying55 Tryz.info3 (by omega) R n d (nl zs) rfl hO1 _ 1 rfl (by rw [HZL.out]; omega) hsz1 ?_; intro A' n' c' w5 hO2 hG2)
     go_roundw
     case rel => exact ⟨k + 1, q, zs ++ [r], A', n', c', by omega, rfl, rfl, by go_num, HN, by rw [← nl_snoc]; exact hO2, HW5.out _ _ _ _ hG2⟩
     case measure => simp [intOf]; omega
   · have e : k = 16 := by omega
     subst e
     have HE := hid (HSE.out zs cyy HI.out)
     have HZL : Hid ((nl zs).length = 16) := hid (by rw [nl_length]; exact HI.out.1)
     have HCY : Hid (nl zs ++ [(cyy : Int)] = nl (zs ++ [cyy])) := hid (nl_snoc _ _)
     have HW5 : Hid (∀ A' n' c' w2', Grew W1 w2' (Value.slice R n d) (Value.slice A' n' c') → Below w2.heap.size w2 w2') := hid fun A' n' c' w2' hG => hb.trans (hG.below hsz (fun g hg => (hO.lt g hg).1))
     clear HI HSE HX HY hlt
     go_wp2_with (at_builtin; refine app_oneG rfl (.tmp 37) (.tmp 39) 55 rfl w2.heap.size 3 .i64 8 Tryz.underlying55 Tryz.info3 (by omega) R n d (nl zs) rfl hO _ 1 rfl (by rw [HZL.out]; omega) hsz ?_; intro A' n' c' w5 hO2 hG2; rw [HCY.out] at hO2)
     have hn := hO2.len
     rw [nl_length, HE.out.1] at hn
     subst hn
     have hb5 := HW5.out _ _ _ _ hG2
     have hR5 := hR.below hb5 (hR.lt (by rw [zeros_len]; omega))
     have hW5 := hW.trans (Below.mono hb5 hW.size)
     refine (modq_walk A' c' 17 w5 (zs ++ [cyy]) HE.out.1 (by omega) HE.out.2.1 hO2.nums).mono ?_
     rw [HE.out.2.2]
     rintro e w6 ⟨A2, c2, ys2, rfl, HY, hN2, hb6⟩
     have hR3 := hR5.below hb6 (hR5.lt (by rw [zeros_len]; omega))
     have hW3 := hW5.trans (Below.mono hb6 hW5.size)
     clear hR5 hW5 hb6 hO2 hG2 hb5 hR hW hX2 hY2 hO hb hsz
     go_wp2_with (fail)
     refine (rbytes_out (cA := c2) HY.out hN2.nums).mono ?_
     rw [HRS.out]
     rintro e w9 ⟨rfl, hb9⟩
     have hR9 := hR3.below hb9 (hR3.lt (by rw [zeros_len]; omega))
     have hW9 := hW3.trans (Below.mono hb9 hW3.size)
     have hs1 : w9.there (w.heap.size + 1 + 1) 0 (ints .u8 rs).toArray.size := hR9.room (by rw [zeros_len]; exact HBL.out)
     have hR5 := hR9.stored (l' := rs) (by rw [zeros_len]; exact HBL.out)
     have hW5 := Below.setCells hW9 (g := w.heap.size + 1 + 1) (by omega) 0 (ints .u8 rs).toArray.toList
     clear hR3 hW3 hb9 hR9 hW9 hN2
     go_wp2_with (first
       | (with_reducible refine wpList_store_mid (op := ⟨none, .store 22 (.tmp 4) (.tmp 42), _, _, _, _⟩) rfl 22 (.tmp 4) (.tmp 42) rfl (w.heap.size + 1 + 1) 0 (ints .u8 rs).toArray rfl rfl hs1 (a22 HBL.out) (ints_all _ _) ?_; generalize w9.setCells (w.heap.size + 1 + 1) 0 (ints .u8 rs).toArray.toList = W5 at *))
     exact ret_rows rfl (w.heap.size + 1 + 1) 0 rfl (ints .u8 rs) _ hR5.range Tryz.underlying22 rfl (l22 HBL.out) rfl ⟨by rw [HRS.out], hW5⟩
open Go.RowKit
set_option maxRecDepth 4000 in
set_option maxHeartbeats 2000000 in
theorem rmulq_walk {al bl : List Int} {w : World} (la : al.length = 32) (lb : bl.length = 32) (ya : Byt al) (yb : Byt bl) : Calls Tryz.prog 29 #[.agg (ints .u8 al).toArray, .agg (ints .u8 bl).toArray] w fun e w' => e = .returned (.agg (ints .u8 (rbytes (bn al * bn bl % QN))).toArray) ∧ Below w.heap.size w w' := by
 obtain ⟨z22, s22⟩ := zero_of_info inf22
 have HBL := hid (rbytes_length (bn al * bn bl % QN))
 obtain ⟨rs, hrs⟩ : ∃ rs, rbytes (bn al * bn bl % QN) = rs := ⟨_, rfl⟩
 rw [hrs] at HBL
 have HRS := hid hrs
 have HKA := hid (fun w0 => rdig_out (w := w0) la ya)
 have HKB := hid (fun w0 => rdig_out (w := w0) lb yb)
 have h1 := ((Arr.made w .u8 al 22).alloc (.cells (ints .u8 bl).toArray 22)).alloc (.cells (ints .u8 (zeros 32)).toArray 22)
 have h2 := (Arr.made (w.alloc (.cells (ints .u8 al).toArray 22)) .u8 bl 22).alloc (.cells (ints .u8 (zeros 32)).toArray 22)
 have h3 := Arr.made ((w.alloc (.cells (ints .u8 al).toArray 22)).alloc (.cells (ints .u8 bl).toArray 22)) .u8 (zeros 32) 22
 simp only [World.size_alloc] at h2 h3
 have hW := ((below_new w (.cells (ints .u8 al).toArray 22)).alloc (by simp) (.cells (ints .u8 bl).toArray 22)).alloc (by simp; omega) (.cells (ints .u8 (zeros 32)).toArray 22)
 clear ya yb hrs
 go_enter Tryz.func29, Tryz.ntmps29
 go_wp2_with (first
   | (with_reducible refine wpList_load_mid (op := ⟨some 12, .load 22 (.tmp 2), _, _, _, _⟩) rfl 22 (.tmp 2) rfl w.heap.size 0 rfl (ints .u8 al) _ h1.range Tryz.underlying22 rfl (l22 la) ?_))
 generalize ((w.alloc (.cells (ints .u8 al).toArray 22)).alloc (.cells (ints .u8 bl).toArray 22)).alloc (.cells (ints .u8 (zeros 32)).toArray 22) = W0 at *
 refine (HKA.out _).mono ?_
 rintro e w1 ⟨AX, cx, xs, rfl, HX, hX, hb1⟩
 replace h2 := h2.below hb1 (h2.lt (by rw [lb]; omega))
 replace h3 := h3.below hb1 (h3.lt (by rw [zeros_len]; omega))
 replace hW := hW.trans (Below.mono hb1 hW.size)
 go_wp2_with (first
   | (with_reducible refine wpList_load_mid (op := ⟨some 14, .load 22 (.tmp 3), _, _, _, _⟩) rfl 22 (.tmp 3) rfl (w.heap.size + 1) 0 rfl (ints .u8 bl) _ h2.range Tryz.underlying22 rfl (l22 lb) ?_))
 refine (HKB.out _).mono ?_
 rintro e w2 ⟨AY, cy, ys, rfl, HY, hY, hb2⟩
 replace h3 := h3.below hb2 (h3.lt (by rw [zeros_len]; omega))
 replace hW := hW.trans (Below.mono hb2 hW.size)
 have hX2 := hX.nums.below hb2
 have hY2 := hY.nums
 have hR := h3
 clear h1 h2 h3 hX hY hb1 hb2 HKA HKB
 have HXL := hid HX.out.1
 have HYL := hid HY.out.1
 have HXD := hid HX.out.2.1
 have HYD := hid HY.out.2.1
 have HDE : Hid ((digs xs ys).length = 32 ∧ Digs (digs xs ys) ∧ dv (digs xs ys) = bn al * bn bl) := hid ⟨by rw [digs_length, HXL.out, HYL.out], digs_digs xs ys HXD.out HYD.out, by rw [digs_dv, HX.out.2.2, HY.out.2.2]⟩
 have HDC : Hid (digs xs ys = colD xs ys 16) := hid (by unfold digs; rw [HXL.out])
 obtain ⟨z0, hz0⟩ : ∃ z, z = colD xs ys 0 := ⟨_, rfl⟩
 have hmk : ∀ w : World, (Instr.makeSlice 55 (.int .i64 32) (.int .i64 32)).run Tryz.prog w = .ok (.slice (some ⟨w.heap.size, 0, none⟩) 32 32) (w.alloc (.cells (ints .i64 (nl z0)).toArray 3)) := by
   have e : colD xs ys 0 = List.replicate 32 0 := by rw [colD, HXL.out, HYL.out]
   rw [hz0, e]; exact make28 32 (by omega)
 have HZ0 := hid hz0
 clear hz0 HX HY
 go_wp2
 have hB := below_new w2 (.cells (ints .i64 (nl z0)).toArray 3)
 have hZ : Arr (w2.alloc (.cells (ints .i64 (nl z0)).toArray 3)) w2.heap.size 0 .i64 (nl (colD xs ys 0)) := by have := Arr.made w2 .i64 (nl z0) 3; rw [HZ0.out] at this ⊢; exact this
 have hr2 := hR.lt (by rw [zeros_len]; omega)
 clear hmk
 generalize w2.alloc (.cells (ints .i64 (nl z0)).toArray 3) = W0 at *
 go_loopw [8] (fun i wr => ∃ k : Nat, k ≤ 16 ∧ i = .int .i64 k ∧ Below w2.heap.size w2 wr ∧ Arr wr w2.heap.size 0 .i64 (nl (colD xs ys k))) (fun i _ => 16 - (intOf i).toNat)
 case atStart => exact ⟨0, by omega, rfl, hB, hZ⟩
 case round =>
   clear hB hZ
   obtain ⟨k, hk, rfl, hB, hZ⟩ := hrel
   by_cases hlt : k < 16
   · have HXi : Hid (xs.getD k 0 < 65536) := hid (getD_dig HXD.out k)
     have hnx := nl_at (l := xs) (i := k) (by rw [HXL.out]; exact hlt)
     obtain ⟨gx, ox, rfl, hgx, cA⟩ := hX2.num (by rw [nl_length, HXL.out]; omega)
     have cx0 := cA k _ hnx
     have HZL : Hid ((colD xs ys k).length = 32) := hid (by rw [colD_length, HXL.out, HYL.out])
     have HZW := hid (colD_digs xs ys HXD.out HYD.out k)
     have HCN : Hid (colD xs ys (k + 1) = (rowD (xs.getD k 0) ys k (colD xs ys k) 16).1.set (k + 16) ((rowD (xs.getD k 0) ys k (colD xs ys k) 16).1.getD (k + 16) 0 + (rowD (xs.getD k 0) ys k (colD xs ys k) 16).2)) := hid (by rw [colD, HYL.out])
     have HCP : Hid ((rowD (xs.getD k 0) ys k (colD xs ys k) 16).1.getD (k + 16) 0 = 0) := hid (by rw [rowD_past _ _ _ _ _ _ (Nat.le_refl _), colD_past _ _ _ _ (by rw [HYL.out]; exact Nat.le_refl _)])
     clear cA hnx
     generalize colD xs ys k = z at *
     generalize xs.getD k 0 = xi at *
     have hZ0 : Arr wr w2.heap.size 0 .i64 (nl (rowD xi ys k z 0).1) := hZ
     clear hZ
     have k0 : (0 : Int) ≤ k := by omega
     have k4 : (k : Int) < 16 := by omega
     rename World => W1
     go_wp2
     go_loopw [9, 10] (fun c j wr => ∃ m : Nat, m ≤ 16 ∧ j = .int .i64 m ∧ c = .int .i64 ((rowD xi ys k z m).2 : Nat) ∧ Below w2.heap.size w2 wr ∧ Arr wr w2.heap.size 0 .i64 (nl (rowD xi ys k z m).1)) (fun _ j _ => 16 - (intOf j).toNat)
     case atStart => exact ⟨0, by omega, rfl, rfl, hB, hZ0⟩
     case round =>
       clear hB hZ0
       obtain ⟨m, hm, rfl, rfl, hB, hZ⟩ := hrel
       by_cases hlt2 : m < 16
       · rename World => W2
         have HYM : Hid (ys.getD m 0 < 65536) := hid (getD_dig HYD.out m)
         have cx1 := cell_same_of hB hgx cx0
         obtain ⟨gy, oy, rfl, hgy, cB⟩ := (hY2.below hB).num (by rw [nl_length, HYL.out]; omega)
         have cy0 := cB m _ (nl_at (by rw [HYL.out]; exact hlt2))
         have HRN : Hid (rowD xi ys k z (m + 1) = stepD xi (ys.getD m 0) (k + m) (rowD xi ys k z m)) := hid rfl
         have HRL := hid (rowD_length xi ys k z m)
         have HRW := hid (rowD_digsL xi ys k z HXi.out HYD.out HZW.out m)
         clear cB
         generalize ys.getD m 0 = yj at *
         generalize rowD xi ys k z m = st at *
         rcases st with ⟨zz, cc⟩
         dsimp only at *
         have hzz : k + m < zz.length := by rw [HRL.out, HZL.out]; omega
         have cz := hZ.at_ (i := k + m) (nl_at hzz)
         have fz := hZ.free (i := k + m) (by rw [nl_length]; exact hzz)
         rw [Nat.zero_add] at cz fz
         have HP : Hid (zz.getD (k + m) 0 < 65536) := hid (getD_dig HRW.out.1 _)
         have HS : Hid (stepD xi yj (k + m) (zz, cc) = (zz.set (k + m) ((xi * yj + cc + zz.getD (k + m) 0) % 65536), (xi * yj + cc + zz.getD (k + m) 0) / 65536)) := hid rfl
         generalize zz.getD (k + m) 0 = q at *
         have HC : Hid (cc < 65536) := hid HRW.out.2
         have HT : Hid (xi * yj ≤ 4294836225) := hid (Nat.mul_le_mul (Nat.le_pred_of_lt HXi.out) (Nat.le_pred_of_lt HYM.out))
         have w1 : IntKind.i64.wrap ((xi : Int) * yj) = ((xi * yj : Nat) : Int) := by have := HT.out; rw [IntWalk.i64_in _ (by omega)]; omega
         generalize xi * yj = P at *
         have w2 : IntKind.i64.wrap ((q : Int) + P) = ((q + P : Nat) : Int) := by rw [IntWalk.i64_in _ (by have := HT.out; have := HP.out; omega)]; omega
         have w3 : IntKind.i64.wrap (((q + P : Nat) : Int) + cc) = ((P + cc + q : Nat) : Int) := by rw [IntWalk.i64_in _ (by have := HT.out; have := HP.out; have := HC.out; omega)]; omega
         have HQ : Hid (P + cc + q < 4294967296) := hid (by have := HT.out; have := HP.out; have := HC.out; omega)
         generalize q + P = q1 at *
         generalize P + cc + q = T at *
         have HE : Hid (rowD xi ys k z (m + 1) = (zz.set (k + m) (T % 65536), T / 65536)) := hid (by rw [HRN.out, HS.out])
         have hT0 : (0 : Int) ≤ T := by omega
         have km0 : (0 : Int) ≤ (k : Int) + m := by omega
         have kmw : IntKind.i64.wrap ((k : Int) + m) = (k : Int) + m := IntWalk.i64_in _ (by omega)
         have kmn : ((k : Int) + m).toNat = k + m := by omega
         have kml : (k : Int) + m < 32 := by omega
         have m0 : (0 : Int) ≤ m := by omega
         have m4 : (m : Int) < 16 := by omega
         go_wp2
         go_quiet (fail)
         replace hZ := hZ.drewN nq
         replace hB := below_drewN hB nq
         replace cz : (W2.drewN nq).cell? _ = _ := cz
         replace fz : (W2.drewN nq).frozen? _ = _ := fz
         clear cx1 cy0
         generalize W2.drewN nq = W3 at *
         go_wp2
         go_roundw
         case rel =>
           refine ⟨m + 1, by omega, by go_num, by rw [HE.out, e64 T HQ.out], hB.setCell (Nat.le_refl _) _, ?_⟩
           have h := hZ.set (k + m) ((T % 65536 : Nat) : Int)
           rw [nl_set, Nat.zero_add] at h
           rw [HE.out]
           exact h
         case measure => simp [intOf]; omega
       · have e : m = 16 := by omega
         subst e
         have HRL := hid (rowD_length xi ys k z 16)
         have HRW := hid (rowD_digsL xi ys k z HXi.out HYD.out HZW.out 16)
         rw [HCP.out, Nat.zero_add] at HCN
         generalize rowD xi ys k z 16 = st at *
         rcases st with ⟨zz, cc⟩
         dsimp only at *
         have hzz : k + 16 < zz.length := by rw [HRL.out, HZL.out]; omega
         have cz := hZ.at_ (i := k + 16) (nl_at hzz)
         have fz := hZ.free (i := k + 16) (by rw [nl_length]; exact hzz)
         rw [HCP.out] at cz
         rw [Nat.zero_add] at cz fz
         have kmw : IntKind.i64.wrap ((k : Int) + 16) = (k : Int) + 16 := IntWalk.i64_in _ (by omega)
         have kmn : ((k : Int) + 16).toNat = k + 16 := by omega
         have km0 : (0 : Int) ≤ (k : Int) + 16 := by omega
         have kml : (k : Int) + 16 < 32 := by omega
         have hcw : IntKind.i64.wrap (cc : Int) = cc := IntWalk.i64_in _ (by have := HRW.out.2; omega)
         clear hlt2
         go_wp2
         go_roundw
         case rel =>
           refine ⟨k + 1, by omega, by go_num, hB.setCell (Nat.le_refl _) _, ?_⟩
           have h := hZ.set (k + 16) ((cc : Nat) : Int)
           rw [nl_set, Nat.zero_add] at h
           rw [HCN.out]
           exact h
         case measure => simp [intOf]; omega
   · have e : k = 16 := by omega
     rw [e, ← HDC.out] at hZ
     have hk16 : ¬ (k : Int) < 16 := by omega
     have hNZ : Nums wr .i64 (some ⟨w2.heap.size, 0, none⟩) (nl (digs xs ys)) := hZ.nums
     have hR5 := hR.below hB hr2
     have hW5 := hW.trans (Below.mono hB hW.size)
     generalize digs xs ys = ds at *
     clear hZ hlt e HDC HXD HYD
     go_wp2_with (fail)
     refine (modq_walk (some ⟨w2.heap.size, 0, none⟩) 32 32 _ ds HDE.out.1 (by omega) HDE.out.2.1 hNZ).mono ?_
     rw [HDE.out.2.2]
     rintro e w6 ⟨A2, c2, ys2, rfl, HY, hN2, hb6⟩
     have hR3 := hR5.below hb6 (hR5.lt (by rw [zeros_len]; omega))
     have hW3 := hW5.trans (Below.mono hb6 hW5.size)
     clear hR5 hW5 hb6 hNZ hB hR hW hX2 hY2
     go_wp2_with (fail)
     refine (rbytes_out (cA := c2) HY.out hN2.nums).mono ?_
     rw [HRS.out]
     rintro e w9 ⟨rfl, hb9⟩
     have hR9 := hR3.below hb9 (hR3.lt (by rw [zeros_len]; omega))
     have hW9 := hW3.trans (Below.mono hb9 hW3.size)
     have hs1 : w9.there (w.heap.size + 1 + 1) 0 (ints .u8 rs).toArray.size := hR9.room (by rw [zeros_len]; exact HBL.out)
     have hR5 := hR9.stored (l' := rs) (by rw [zeros_len]; exact HBL.out)
     have hW5 := Below.setCells hW9 (g := w.heap.size + 1 + 1) (by omega) 0 (ints .u8 rs).toArray.toList
     clear hR3 hW3 hb9 hR9 hW9 hN2
     go_wp2_with (first
       | (with_reducible refine wpList_store_mid (op := ⟨none, .store 22 (.tmp 4) (.tmp 65), _, _, _, _⟩) rfl 22 (.tmp 4) (.tmp 65) rfl (w.heap.size + 1 + 1) 0 (ints .u8 rs).toArray rfl rfl hs1 (a22 HBL.out) (ints_all _ _) ?_; generalize w9.setCells (w.heap.size + 1 + 1) 0 (ints .u8 rs).toArray.toList = W5 at *))
     exact ret_rows rfl (w.heap.size + 1 + 1) 0 rfl (ints .u8 rs) _ hR5.range Tryz.underlying22 rfl (l22 HBL.out) rfl ⟨by rw [HRS.out], hW5⟩
end Go.Proofs.YthpibkpljakeeaaGreatDoor
