/- Texts laid together. -/
import Derived.Test.YthpibkpljakeeaaDoorG22
import Derived.Test.YthpibkpljakeeaaDoorG20
import Derived.Test.YthpibkpljakeeaaDoorG6
namespace Go.Proofs.YthpibkpljakeeaaDoor
open Go.RowKit
theorem Owns.lessB {w : World} {base base' : Nat} {e : TypeId} {k : IntKind} {v : Value} {xs : List Int} (h : Owns w base e k v xs) (hb : base' ≤ base) : Owns w base' e k v xs := by
 refine ⟨h.1, ?_⟩
 rcases h.2 with h2 | ⟨g, cap, cur, hv, hg, r⟩
 · exact .inl h2
 · exact .inr ⟨g, cap, cur, hv, Nat.le_trans hb hg, r⟩
theorem Owns.capL {w : World} {base : Nat} {e : TypeId} {k : IntKind} {A : Option Addr} {n c : Nat} {xs : List Int} (h : Owns w base e k (.slice A n c) xs) : n ≤ c ∧ c ≤ maxLen := by
 rcases h.2 with ⟨hv, hn⟩ | ⟨g, cap, cur, hv, hg, hh, h1, h2, _⟩
 · injection hv with h1 h2 h3; subst h2 h3; exact ⟨Nat.le_refl _, by unfold maxLen; omega⟩
 · injection hv with h3 h4 h5; subst h5; exact ⟨by omega, h2⟩
theorem lt17 {x b : Nat} (hx : x < QN) (hb : b < 2) : 2 * x + b < 65536 ^ 17 := by
 have h1 := qn_lt
 have h2 : 65536 ^ 17 = 65536 * 65536 ^ 16 := by rw [Nat.pow_succ, Nat.mul_comm]
 omega
theorem cell_same_of {W w : World} {b o : Nat} {v : Option Value} (h : Below W.heap.size W w) (hb : b < W.heap.size) (hc : W.cell? ⟨b, o, none⟩ = v) : w.cell? ⟨b, o, none⟩ = v := (h.cell (p := ⟨b, o, none⟩) hb).trans hc
def R17 (l : List Nat) (m : Nat) : Prop := l.length = 17 ∧ Digs l ∧ dv l = m
theorem q17_r : R17 (dgN QN 16 ++ [0]) QN := by
 obtain ⟨h1, h2, h3⟩ := dgN_rp 16 QN qn_lt
 exact ⟨by simp [h1], digs_snoc h2 (by omega), by rw [dv_snoc, h3]; simp⟩
theorem R17.low {l : List Nat} {m : Nat} (h : R17 l m) (hm : m < QN) : Rp (l.take 16) m := by
 obtain ⟨h1, h2, h3⟩ := h
 have h4 := dv_take_succ l 16 (l.getD 16 0) (by rw [List.getD_eq_getElem?_getD, List.getElem?_eq_getElem (by omega)]; rfl)
 rw [List.take_of_length_le (by omega), h3] at h4
 have h5 := qn_lt
 refine ⟨by rw [List.length_take, h1]; omega, fun v hv => h2 v (List.mem_of_mem_take hv), ?_⟩
 generalize l.getD 16 0 = x at *
 cases x with
 | zero => omega
 | succ x =>
   have : 65536 ^ 16 ≤ (x + 1) * 65536 ^ 16 := Nat.le_mul_of_pos_left _ (by omega)
   omega
theorem rem_step (X b : Nat) : (if QN ≤ 2 * (X % QN) + b then 2 * (X % QN) + b - QN else 2 * (X % QN) + b) = (2 * X + b) % QN ∨ 1 < b := by
 by_cases hb : 1 < b
 · exact .inr hb
 · left
   rw [← mod_step]
   have h := Nat.mod_lt X qn_pos
   generalize X % QN = x at *
   by_cases hq : QN ≤ 2 * x + b
   · rw [if_pos hq, Nat.mod_eq_sub_mod hq, Nat.mod_eq_of_lt (by unfold QN at *; omega)]
   · rw [if_neg hq, Nat.mod_eq_of_lt (by omega)]
theorem dig_at {l : List Nat} (hd : Digs l) {i : Nat} (h : i < l.length) : dv l / 65536 ^ i % 65536 = l.getD i 0 := by
 have h1 := dv_split l i (by omega)
 have h2 := dv_lt (l.take i) (fun v hv => hd v (List.mem_of_mem_take hv))
 rw [List.length_take, Nat.min_eq_left (by omega)] at h2
 have h3 := drop_step h
 have h4 := getD_dig hd i
 rw [h3, dv] at h1
 have hp : 0 < 65536 ^ i := Nat.pow_pos (by omega)
 rw [h1, Nat.add_mul_div_left _ _ hp, Nat.div_eq_of_lt h2]
 omega
theorem bit_of (X t d : Nat) (ht : t < 16) (hd : X % 65536 = d) : X / 2 ^ t % 2 = d / 2 ^ t % 2 := by
 rw [← hd]
 have : t = 0 ∨ t = 1 ∨ t = 2 ∨ t = 3 ∨ t = 4 ∨ t = 5 ∨ t = 6 ∨ t = 7 ∨ t = 8 ∨ t = 9 ∨ t = 10 ∨ t = 11 ∨ t = 12 ∨ t = 13 ∨ t = 14 ∨ t = 15 := by omega
 rcases this with rfl | rfl | rfl | rfl | rfl | rfl | rfl | rfl | rfl | rfl | rfl | rfl | rfl | rfl | rfl | rfl <;> simp only [Nat.reducePow, Nat.div_one] <;> omega
def bt (t : Nat) : Nat := 2 ^ t / 2
theorem bt_succ (t : Nat) : bt (t + 1) = 2 ^ t := by unfold bt; rw [Nat.pow_succ]; omega
theorem bt_half (t : Nat) : bt (t + 1) / 2 = bt t := by rw [bt_succ]; rfl
set_option maxRecDepth 4000 in
set_option maxHeartbeats 2000000 in
theorem modq_walk (A : Option Addr) (c L : Nat) (w : World) (l : List Nat) (hl : l.length = L) (hn : L ≤ 1000) (hd : Digs l) (hA : Nums w .i64 A (nl l)) : Calls Tryd.prog 60 #[.slice A L c] w (ROut (dv l % QN) w) := by
 have HL := hid hl
 have HD := hid hd
 have HM0 : Hid (dv l / 65536 ^ L % QN = 0) := hid (by
   have := dv_lt l hd
   rw [hl] at this
   rw [Nat.div_eq_of_lt this]; rfl)
 obtain ⟨z17, hz⟩ : ∃ z, z = List.replicate 17 0 := ⟨_, rfl⟩
 have hmk : ∀ w : World, (Instr.makeSlice 36 (.int .i64 17) (.int .i64 17)).run Tryd.prog w = .ok (.slice (some ⟨w.heap.size, 0, none⟩) 17 17) (w.alloc (.cells (ints .i64 (nl z17)).toArray 3)) := by rw [hz]; exact make28 17 (by omega)
 have HO0 : Hid (∀ w : World, Owns (w.alloc (.cells (ints .i64 (nl z17)).toArray 3)) w.heap.size 3 .i64 (.slice (some ⟨w.heap.size, 0, none⟩) 17 17) (nl z17)) := by
   rw [hz]; exact hid fun w => Owns.new w w.heap.size 3 .i64 (nl (List.replicate 17 0)) (Nat.le_refl _) (by simp [maxLen])
 have HZ0 : Hid (R17 z17 0) := by
   rw [hz]; exact hid ⟨by simp, fun v hv => by have := List.eq_of_mem_replicate hv; omega, by have := dv_zeros [] 17; rw [List.nil_append] at this; rw [this]; rfl⟩
 have HQ := hid q17_r
 have HQ16 := hid (show (nl (dgN QN 16)).length = 16 by rw [nl_length, dgN_length])
 have HQS : Hid (nl (dgN QN 16) ++ [((0 : Nat) : Int)] = nl (dgN QN 16 ++ [0])) := hid (nl_snoc _ _)
 clear hl hd hz
 have hlw : IntKind.i64.wrap ((L : Int) - 1) = (L : Int) - 1 := IntWalk.i64_in _ (by omega)
 go_enter Tryd.func60, Tryd.ntmps60
 go_wp2_with (fail)
 refine (q_walk w).mono ?_
 rintro e w1 ⟨gq, cq, rfl, hQ, hb1⟩
 have hbq : w.heap.size ≤ w1.heap.size := hb1.size
 generalize dgN QN 16 ++ [0] = q17 at *
 generalize dgN QN 16 = q16 at *
 go_wp2_with (at_builtin; refine app_oneG rfl (.tmp 11) (.tmp 12) 36 rfl w.heap.size 3 .i64 8 Tryd.underlying36 Tryd.info3 (by omega) (some ⟨gq, 0, none⟩) 16 cq (nl q16) rfl hQ _ 1 rfl (by rw [HQ16.out]; omega) hbq ?_; intro A' n' c' w2 hO2 hG2)
 have hb2 : Below w.heap.size w w2 := hb1.trans (hG2.below hbq (fun g hg => (hQ.lt g hg).1))
 have hA2 := hA.below hb2
 have hn' := hO2.len
 rw [List.length_append, HQ16.out, List.length_singleton] at hn'
 have hn17 : n' = 17 := by omega
 subst hn17
 have hQ2 : Nums w2 .i64 A' (nl q17) := by have := hO2.nums; rw [← HQS.out]; exact this
 have hO := HO0.out w2
 have hbD := below_new w2 (.cells (ints .i64 (nl z17)).toArray 3)
 have HW2 := hid hb2
 clear hn' hb1 hbq hO2 hG2 hQ HQ16 HQS hA hb2 hmk
 generalize w2.alloc (.cells (ints .i64 (nl z17)).toArray 3) = W0 at *
 go_loopw [4, 5] (fun v i wr => ∃ (j g cr : Nat) (rs : List Nat), j ≤ L ∧ i = .int .i64 ((j : Int) - 1) ∧ v = .slice (some ⟨g, 0, none⟩) 17 cr ∧ Hid (R17 rs (dv l / 65536 ^ j % QN)) ∧ Owns wr w2.heap.size 3 .i64 (.slice (some ⟨g, 0, none⟩) 17 cr) (nl rs) ∧ Below w2.heap.size w2 wr) (fun _ i _ => (intOf i + 1).toNat)
 case atStart => exact ⟨L, w2.heap.size, 17, z17, Nat.le_refl _, rfl, rfl, (by rw [HM0.out]; exact HZ0), hO, hbD⟩
 case round =>
   clear hO hbD HZ0 HO0 HM0
   obtain ⟨j, g, cr, rs, hj, rfl, rfl, HR, hO, hB⟩ := hrel
   rename World => W1
   cases j with
   | zero =>
     have hz : ((0 : Nat) : Int) - 1 = -1 := by omega
     rw [hz]
     have HR0 : Hid (R17 rs (dv l % QN)) := hid (by have := HR.out; rwa [Nat.pow_zero, Nat.div_one] at this)
     have HRL := hid (HR0.out.low (Nat.mod_lt _ qn_pos))
     have hcap := hO.capL
     have hNF : NumsF w.heap.size W1 .i64 (some ⟨g, 0, none⟩) (nl (rs.take 16)) := fun hp => by
       obtain ⟨b, off, e, h1, h2, h3⟩ := hO.fresh (by rw [nl_length, HR0.out.1]; omega)
       have hs := HW2.out.size
       refine ⟨b, off, e, by omega, h2, fun i hi => ?_⟩
       have hi2 : i < 16 := by rw [nl_length, HRL.out.1] at hi; exact hi
       rw [h3 i (by rw [nl_length, HR0.out.1]; omega)]
       have e1 : (nl (rs.take 16)).getD i 0 = (nl rs).getD i 0 := by
         unfold nl
         rw [List.getD_eq_getElem?_getD, List.getD_eq_getElem?_getD, List.getElem?_map, List.getElem?_map, List.getElem?_take, if_pos hi2]
       rw [e1]
     have hBW : Below w.heap.size w W1 := HW2.out.trans (Below.mono hB HW2.out.size)
     have hcap1 : (16 : Int) ≤ (cr : Int) := by omega
     clear hO hB hA2 hQ2 hz HR hcap
     go_wp2
     go_ret
     exact ROut.mk HRL.out hNF hBW
   | succ i =>
     have hz : ((i + 1 : Nat) : Int) - 1 = (i : Int) := by omega
     rw [hz]
     have HRT : Hid (R17 rs (dv l / 65536 ^ i / 2 ^ 16 % QN)) := hid (by have := HR.out; rw [Nat.pow_succ, ← Nat.div_div_eq_div_mul] at this; exact this)
     have hil : i < l.length := by rw [HL.out]; omega
     have HDI := hid (dig_at HD.out hil)
     have hdl := getD_dig HD.out i
     obtain ⟨gA, oA, rfl, hgA, cA⟩ := hA2.num (by rw [nl_length, HL.out]; omega)
     have cd := cA i _ (nl_at hil)
     clear cA hil HR
     generalize l.getD i 0 = d at *
     have HX : Hid (dv l / 65536 ^ i = dv l / 65536 ^ i) := hid rfl
     have i0 : (0 : Int) ≤ i := by omega
     have iL : (i : Int) < L := by omega
     have iw : IntKind.i64.wrap ((i : Int) - 1) = (i : Int) - 1 := IntWalk.i64_in _ (by omega)
     go_wp2
     go_loopw [4, 6] (fun v b wr => ∃ (t g cr : Nat) (rs : List Nat), t ≤ 16 ∧ b = .int .i64 (bt t : Int) ∧ v = .slice (some ⟨g, 0, none⟩) 17 cr ∧ Hid (R17 rs (dv l / 65536 ^ i / 2 ^ t % QN)) ∧ Owns wr w2.heap.size 3 .i64 (.slice (some ⟨g, 0, none⟩) 17 cr) (nl rs) ∧ Below w2.heap.size w2 wr) (fun _ b _ => (intOf b).toNat)
     case atStart => exact ⟨16, g, cr, rs, by omega, (by rw [show bt 16 = 32768 from rfl]; rfl), rfl, HRT, hO, hB⟩
     case round =>
       clear hO hB HRT
       obtain ⟨t, g, cr, rs, ht, rfl, rfl, HR, hO, hB⟩ := hrel
       rename World => W2
       cases t with
       | zero =>
         have hb0 : ((bt 0 : Nat) : Int) = 0 := rfl
         rw [hb0]
         have HR0 : Hid (R17 rs (dv l / 65536 ^ i % QN)) := hid (by have := HR.out; rwa [Nat.pow_zero, Nat.div_one] at this)
         clear HR
         go_wp2
         go_roundw
         case rel => exact ⟨i, g, cr, rs, by omega, by go_num, rfl, HR0, hO, hB⟩
         case measure => simp [intOf]
       | succ t =>
         obtain ⟨p, hp⟩ : ∃ p, bt (t + 1) = p := ⟨_, rfl⟩
         have HPT := hid (show p = 2 ^ t by rw [← hp, bt_succ])
         have HPH := hid (show p / 2 = bt t by rw [← hp, bt_half])
         rw [hp]
         have hpp : 0 < p := by rw [HPT.out]; exact Nat.pow_pos (by omega)
         have hpl : p ≤ 32768 := by
           rw [HPT.out]
           exact Nat.le_trans (Nat.pow_le_pow_right (by omega) (show t ≤ 15 by omega)) (by decide)
         obtain ⟨e, he⟩ : ∃ e, d / p = e := ⟨_, rfl⟩
         obtain ⟨b, hb⟩ : ∃ b, e % 2 = b := ⟨_, rfl⟩
         have HST : Hid ((if QN ≤ 2 * (dv l / 65536 ^ i / 2 ^ (t + 1) % QN) + b then 2 * (dv l / 65536 ^ i / 2 ^ (t + 1) % QN) + b - QN else 2 * (dv l / 65536 ^ i / 2 ^ (t + 1) % QN) + b) = dv l / 65536 ^ i / 2 ^ t % QN) := hid (by
           have h1 := bit_of (dv l / 65536 ^ i) t d (by omega) HDI.out
           rw [← HPT.out, he, hb] at h1
           have h2 := half_step (dv l / 65536 ^ i) t
           rw [← HPT.out, h1] at h2
           rcases rem_step (dv l / 65536 ^ i / 2 ^ (t + 1)) b with h | h
           · rw [h, h2, HPT.out]
           · omega)
         have HXL : Hid (dv l / 65536 ^ i / 2 ^ (t + 1) % QN < QN) := hid (Nat.mod_lt _ qn_pos)
         have hel : e ≤ 65535 := by rw [← he]; exact Nat.le_trans (Nat.div_le_self _ _) (by omega)
         have hei : (d : Int) / (p : Int) = (e : Int) := by rw [← he]; simp
         have het : Int.tdiv (d : Int) (p : Int) = (e : Int) := by rw [Int.tdiv_eq_ediv_of_nonneg (by omega)]; exact hei
         have hew : IntKind.i64.wrap (e : Int) = (e : Int) := IntWalk.i64_in _ (by omega)
         have hbi : (e : Int) % 2 = (b : Int) := by omega
         have hbt : Int.tmod (e : Int) 2 = (b : Int) := by rw [Int.tmod_eq_emod_of_nonneg (by omega)]; omega
         have hp0 : ¬ (p : Int) = 0 := by omega
         have hp1 : (0 : Int) < (p : Int) := by omega
         have hph : (p : Int) / 2 = ((p / 2 : Nat) : Int) := by omega
         have hpht : Int.tdiv (p : Int) 2 = ((p / 2 : Nat) : Int) := by rw [Int.tdiv_eq_ediv_of_nonneg (by omega)]; omega
         have hphw : IntKind.i64.wrap ((p / 2 : Nat) : Int) = ((p / 2 : Nat) : Int) := IntWalk.i64_in _ (by omega)
         have HBL : Hid (b < 2) := hid (by omega)
         rw [HPH.out] at hph hpht hphw
         have HBT : Hid (bt t < p) := hid (by rw [← HPH.out]; omega)
         have hcd := cell_same_of hB hgA cd
         have HEB := hid (And.intro he hb)
         generalize dv l / 65536 ^ i / 2 ^ (t + 1) % QN = x at *
         obtain ⟨btt, hbtt⟩ : ∃ q, bt t = q := ⟨_, rfl⟩
         rw [hbtt] at hph hpht hphw HBT
         have HBTT := hid hbtt
         have HMI := hid (MulI.start (m := 2) (c := b) HR.out.2.1 HBL.out)
         clear hp hpl he hb hel hpp HPH HPT hbtt
         go_wp2
         go_loopw [7, 8] (fun cv kv wr => ∃ (m cy : Nat) (zs : List Nat), m ≤ 17 ∧ kv = .int .i64 m ∧ cv = .int .i64 cy ∧ Hid (MulI 2 b rs zs cy m) ∧ Owns wr w2.heap.size 3 .i64 (.slice (some ⟨g, 0, none⟩) 17 cr) (nl zs) ∧ Below w2.heap.size w2 wr) (fun _ kv _ => 17 - (intOf kv).toNat)
         case atStart => exact ⟨0, b, rs, by omega, rfl, rfl, HMI, hO, hB⟩
         case round =>
           clear hO hB HMI hcd
           obtain ⟨m, cy, zs, hm, rfl, rfl, HI, hO, hB⟩ := hrel
           rename World => W3
           by_cases hlt2 : m < 17
           · have hzl : (nl zs).length = 17 := by rw [nl_length, HI.out.1]; exact HR.out.1
             have hzm : zs[m]? = some (rs.getD m 0) := by rw [HI.out.2.2.2.2 m (Nat.le_refl _), List.getD_eq_getElem?_getD, List.getElem?_eq_getElem (by rw [HR.out.1]; exact hlt2)]; rfl
             obtain ⟨y, cy0, fy0, HY⟩ := hO.spot (j := m) (by rw [hzl]; exact hlt2)
             have hyx : y = ((rs.getD m 0 : Nat) : Int) := by
               have h := HY.out
               unfold nl at h
               rw [List.getElem?_map, hzm] at h
               exact (Option.some.inj h).symm
             subst hyx
             have hdx := getD_dig HR.out.2.1 m
             have hcy := HI.out.2.2.1
             obtain ⟨n, hn2⟩ : ∃ n, n = 2 * rs.getD m 0 + cy := ⟨_, rfl⟩
             have HN := hid (HI.out.step HR.out.2.1 (by rw [HR.out.1]; exact hlt2) hn2)
             generalize rs.getD m 0 = x0 at *
             have w1 : IntKind.i64.wrap (2 * (x0 : Int)) = 2 * (x0 : Int) := IntWalk.i64_in _ (by omega)
             have w2' : IntKind.i64.wrap (2 * (x0 : Int) + cy) = (n : Int) := by rw [IntWalk.i64_in _ (by omega)]; omega
             have hnm : (n : Int) % 65536 = ((n % 65536 : Nat) : Int) := by omega
             have hnd : (n : Int) / 65536 = ((n / 65536 : Nat) : Int) := by omega
             have hnt : Int.tmod (n : Int) 65536 = ((n % 65536 : Nat) : Int) := by rw [Int.tmod_eq_emod_of_nonneg (by omega)]; omega
             have hnq : Int.tdiv (n : Int) 65536 = ((n / 65536 : Nat) : Int) := by rw [Int.tdiv_eq_ediv_of_nonneg (by omega)]; omega
             have HNB : Hid (n / 65536 < 2) := hid (by omega)
             have hO9 := hO.store m ((n % 65536 : Nat) : Int)
             have hgD := (hO.lt g rfl).1
             rw [nl_set] at hO9
             generalize n % 65536 = r at *
             generalize n / 65536 = q at *
             have hqw : IntKind.i64.wrap (q : Int) = (q : Int) := IntWalk.i64_in _ (by have := HNB.out; omega)
             have hB9 := hB.setCell (p := ⟨g, m, none⟩) hgD (.int .i64 (r : Int))
             have m0 : (0 : Int) ≤ m := by omega
             have m16 : (m : Int) < 17 := by omega
             clear hn2 HY hdx hcy hzl hzm HI hO hB hgD
             go_wp2
             go_roundw
             case rel => exact ⟨m + 1, q, zs.set m r, by omega, by go_num, rfl, HN, hO9, hB9⟩
             case measure => simp [intOf]; omega
           · have e : m = 17 := by omega
             subst e
             have HZ : Hid (R17 zs (2 * x + b)) := hid (by
               have h := HI.out.end_ HR.out.1 (by rw [HR.out.2.2]; exact lt17 HXL.out HBL.out)
               rw [HR.out.2.2] at h
               exact h)
             have hQ3 := hQ2.below hB
             clear HI
             go_wp2_with (fail)
             refine (al_any (some ⟨g, 0, none⟩) A' cr c' 17 zs q17 W3 HZ.out.1 HQ.out.1 (by omega) HZ.out.2.1 HQ.out.2.1 hO.nums hQ3).mono ?_
             rintro e2 w4 ⟨bb, rfl, HBB, nd, rfl⟩
             rw [HZ.out.2.2, HQ.out.2.2] at HBB
             have hO4 := hO.drewN nd
             have hB4 := below_drewN hB nd
             have hQ4 : Nums (W3.drewN nd) .i64 A' (nl q17) := hQ3
             clear hO hB hQ3
             generalize W3.drewN nd = W4 at *
             by_cases hge : QN ≤ 2 * x + b
             · have hbb : bb = true := by rw [HBB.out]; exact decide_eq_true hge
               subst hbb
               have HS2 := HST.out
               rw [if_pos hge] at HS2
               replace HS2 := hid HS2
               have HGE := hid hge
               clear hge HST
               go_wp2_with (fail)
               refine (le_own (some ⟨g, 0, none⟩) A' cr c' 17 zs q17 W4 HZ.out.1 HQ.out.1 (by omega) HZ.out.2.1 HQ.out.2.1 (by rw [HZ.out.2.2, HQ.out.2.2]; exact HGE.out) hO4.nums hQ4).mono ?_
               rintro e3 w5 ⟨A5, c5, ys, rfl, HY, hO5, hb5⟩
               obtain ⟨g5, rfl, _⟩ := hO5.block (by rw [nl_length, HY.out.1]; omega)
               have hO6 := hO5.lessB hB4.size
               have hB6 := hB4.trans (Below.mono hb5 hB4.size)
               have HR6 : Hid (R17 ys (dv l / 65536 ^ i / 2 ^ t % QN)) := hid ⟨HY.out.1, HY.out.2.1, by rw [HY.out.2.2, HZ.out.2.2, HQ.out.2.2, HS2.out]⟩
               clear hO4 hB4 hQ4 hO5 hb5
               go_wp2
               go_roundw
               case rel => exact ⟨t, g5, c5, ys, by omega, by rw [HBTT.out], rfl, HR6, hO6, hB6⟩
               case measure => have := HBT.out; simp [intOf]; omega
             · have hbb : bb = false := by rw [HBB.out]; exact decide_eq_false hge
               subst hbb
               have HS2 := HST.out
               rw [if_neg hge] at HS2
               rw [HS2] at HZ
               clear hge HST HS2
               go_wp2
               go_roundw
               case rel => exact ⟨t, g, cr, zs, by omega, by rw [HBTT.out], rfl, HZ, hO4, hB4⟩
               case measure => have := HBT.out; simp [intOf]; omega
open Go.RowKit
set_option maxRecDepth 4000 in
set_option maxHeartbeats 2000000 in
theorem rofq_walk (A : Option Addr) (L c : Nat) (bs : List Int) (w : World) (hl : bs.length = L) (hn : L ≤ 1000) (hb : Byt bs) (hA : Nums w .u8 A bs) : Calls Tryd.prog 32 #[.slice A L c] w fun e w' => e = .returned (.agg (ints .u8 (rbytes (bn bs % QN))).toArray) ∧ Below w.heap.size w w' := by
 obtain ⟨z22, s22⟩ := zero_of_info inf22
 have HL := hid hl
 have HB := hid hb
 obtain ⟨da, hda1, hda2, hda3, hda4⟩ := pr_nl hb
 have HDA := hid (And.intro hda1 (And.intro hda2 (And.intro hda3 hda4)))
 have HPL : Hid ((pr bs).length = (L + 1) / 2) := hid (by rw [pr_length, hl])
 have HBL := hid (rbytes_length (bn bs % QN))
 have hR := Arr.made w .u8 (zeros 32) 22
 have hW := below_new w (.cells (ints .u8 (zeros 32)).toArray 22)
 have hA0 := hA.below hW
 have hsz0 : (w.alloc (.cells (ints .u8 (zeros 32)).toArray 22)).heap.size = w.heap.size + 1 := by simp
 clear hl hb hda1 hda2 hda3 hda4 hA
 go_enter Tryd.func32, Tryd.ntmps32
 go_wp2
 generalize w.alloc (.cells (ints .u8 (zeros 32)).toArray 22) = W0 at *
 go_loopw [3, 4] (fun v i wr => ∃ (k : Nat) (R : Option Addr) (n d : Nat), k ≤ (L + 1) / 2 ∧ v = .slice R n d ∧ i = .int .i64 ((2 * k : Nat) : Int) ∧ Owns wr W0.heap.size 3 .i64 (.slice R n d) ((pr bs).take k) ∧ Below W0.heap.size W0 wr) (fun _ i _ => L + 1 - (intOf i).toNat)
 case atStart => exact ⟨0, none, 0, 0, Nat.zero_le _, rfl, rfl, Owns.none_ _ _ _ _, Below.refl _ _⟩
 case round =>
   obtain ⟨k, R, n, d, hk, rfl, rfl, hO, hb⟩ := hrel
   rename World => W1
   have hsz := hb.size
   by_cases hlt : 2 * k < L
   · have hlk : 2 * k < bs.length := by rw [HL.out]; exact hlt
     obtain ⟨g, o, rfl, _, cA⟩ := (hA0.below hb).num (by omega)
     have hx : bs[2 * k]? = some (bs.getD (2 * k) 0) := by rw [List.getD_eq_getElem?_getD, List.getElem?_eq_getElem hlk]; rfl
     have cx := cA _ _ hx
     have hxb := HB.out.at_ hx
     have HV := hid (pr_at bs k hlk)
     have HT : Hid ((pr bs).take (k + 1) = (pr bs).take k ++ [bs.getD (2 * k) 0 + 256 * bs.getD (2 * k + 1) 0]) := hid (by rw [List.take_add_one, HV.out]; rfl)
     have HTL : Hid (((pr bs).take k).length ≤ 1000) := hid (by rw [List.length_take, HPL.out]; omega)
     have HW5 : Hid (∀ A' n' c' w2, Grew W1 w2 (Value.slice R n d) (Value.slice A' n' c') → Below W0.heap.size W0 w2) := hid fun A' n' c' w2 hG => hb.trans (hG.below hsz (fun g hg => (hO.lt g hg).1))
     by_cases hlt2 : 2 * k + 1 < L
     · have hlk2 : 2 * k + 1 < bs.length := by rw [HL.out]; exact hlt2
       have hy : bs[2 * k + 1]? = some (bs.getD (2 * k + 1) 0) := by rw [List.getD_eq_getElem?_getD, List.getElem?_eq_getElem hlk2]; rfl
       have cy0 := cA _ _ hy
       have hyb := HB.out.at_ hy
       clear hx hy hlk hlk2 cA HV
       generalize bs.getD (2 * k) 0 = x at *
       generalize bs.getD (2 * k + 1) 0 = y at *
       obtain ⟨p, hp⟩ : ∃ p, p = 2 * k := ⟨_, rfl⟩
       obtain ⟨q, hq⟩ : ∃ q, q = 2 * k + 1 := ⟨_, rfl⟩
       have hwq : IntKind.i64.wrap ((p : Int) + 1) = (q : Int) := by rw [IntWalk.i64_in _ (by omega)]; omega
       have hw2 : IntKind.i64.wrap ((p : Int) + 2) = ((2 * (k + 1) : Nat) : Int) := by rw [IntWalk.i64_in _ (by omega)]; omega
       rw [← hp] at cx ⊢
       rw [← hq] at cy0
       have p0 : (0 : Int) ≤ p := by omega
       have pL : (p : Int) < L := by omega
       have q0 : (0 : Int) ≤ q := by omega
       have qL : (q : Int) < L := by omega
       have hx64 : IntKind.i64.wrap x = x := IntWalk.i64_in _ (by omega)
       have hy64 : IntKind.i64.wrap y = y := IntWalk.i64_in _ (by omega)
       have hs8 : IntKind.i64.wrap (256 * y) = 256 * y := by rw [IntWalk.i64_in _ (by omega)]
       have hsv : IntKind.i64.wrap (x + 256 * y) = x + 256 * y := by rw [IntWalk.i64_in _ (by omega)]
       have HPQ := hid (And.intro hp hq)
       clear hp hq
       go_wp2_with (at_builtin; refine app_oneG rfl (.tmp 31) (.tmp 33) 36 rfl W0.heap.size 3 .i64 8 Tryd.underlying36 Tryd.info3 (by omega) R n d ((pr bs).take k) rfl hO _ 1 rfl (by have := HTL.out; omega) hsz ?_; intro A' n' c' w2 hO2 hG2)
       go_roundw
       case rel =>
         rw [← HT.out] at hO2
         exact ⟨k + 1, A', n', c', by omega, rfl, by congr 1, hO2, HW5.out _ _ _ _ hG2⟩
       case measure => simp [intOf]; have := HPQ.out.1; omega
     · have hy0 : bs.getD (2 * k + 1) 0 = 0 := by rw [List.getD_eq_getElem?_getD, List.getElem?_eq_none (by rw [HL.out]; omega)]; rfl
       rw [hy0] at HT
       clear hx hy0 hlk cA HV
       generalize bs.getD (2 * k) 0 = x at *
       obtain ⟨p, hp⟩ : ∃ p, p = 2 * k := ⟨_, rfl⟩
       have hwq : IntKind.i64.wrap ((p : Int) + 1) = (p : Int) + 1 := IntWalk.i64_in _ (by omega)
       have hw2 : IntKind.i64.wrap ((p : Int) + 2) = ((2 * (k + 1) : Nat) : Int) := by rw [IntWalk.i64_in _ (by omega)]; omega
       rw [← hp] at cx ⊢
       have p0 : (0 : Int) ≤ p := by omega
       have pL : (p : Int) < L := by omega
       have qL : ¬ (p : Int) + 1 < L := by omega
       have hx64 : IntKind.i64.wrap x = x := IntWalk.i64_in _ (by omega)
       have HXV : Hid (x + 256 * 0 = x) := hid (by omega)
       rw [HXV.out] at HT
       have HPQ := hid hp
       clear hp
       go_wp2_with (at_builtin; refine app_oneG rfl (.tmp 31) (.tmp 33) 36 rfl W0.heap.size 3 .i64 8 Tryd.underlying36 Tryd.info3 (by omega) R n d ((pr bs).take k) rfl hO _ 1 rfl (by have := HTL.out; omega) hsz ?_; intro A' n' c' w2 hO2 hG2)
       go_roundw
       case rel =>
         rw [← HT.out] at hO2
         exact ⟨k + 1, A', n', c', by omega, rfl, by congr 1, hO2, HW5.out _ _ _ _ hG2⟩
       case measure => simp [intOf]; have := HPQ.out; omega
   · have e : k = (L + 1) / 2 := by omega
     have hf : (pr bs).take k = nl da := by rw [e, List.take_of_length_le (by rw [HPL.out]; omega), HDA.out.1]
     rw [hf] at hO
     have hm := hO.len
     rw [nl_length, HDA.out.2.1, HL.out] at hm
     have HM := hid hm
     obtain ⟨p, hp⟩ : ∃ p, p = 2 * k := ⟨_, rfl⟩
     have hpL : ¬ (p : Int) < L := by omega
     rw [← hp]
     have hR2 := hR.below hb (by omega)
     have hW2 := hW.trans (Below.mono hb (by omega))
     have hDV := HDA.out.2.2.2
     have hN := hO.nums
     obtain ⟨rs, hrs⟩ : ∃ rs, rbytes (bn bs % QN) = rs := ⟨_, rfl⟩
     rw [hrs] at HBL
     have HRS := hid hrs
     have hn1000 : n ≤ 1000 := by omega
     clear hm hf e hO hR hW hlt hp hsz hrs
     go_wp2_with (fail)
     refine (modq_walk R d n W1 da (by rw [HDA.out.2.1, HL.out, HM.out]) hn1000 HDA.out.2.2.1 hN).mono ?_
     rw [hDV]
     rintro e w2 ⟨A2, c2, ys, rfl, HY, hN2, hb2⟩
     have hR3 := hR2.below hb2 (hR2.lt (by rw [zeros_len]; omega))
     have hW3 := hW2.trans (Below.mono hb2 hW2.size)
     go_wp2_with (fail)
     refine (rbytes_out (cA := c2) HY.out hN2.nums).mono ?_
     rw [HRS.out]
     rintro e w3 ⟨rfl, hb3⟩
     have hR4 := hR3.below hb3 (hR3.lt (by rw [zeros_len]; omega))
     have hW4 := hW3.trans (Below.mono hb3 hW3.size)
     have hs1 : w3.there w.heap.size 0 (ints .u8 rs).toArray.size := hR4.room (by rw [zeros_len]; exact HBL.out)
     have hR5 := hR4.stored (l' := rs) (by rw [zeros_len]; exact HBL.out)
     have hW5 := Below.setCells hW4 (g := w.heap.size) (Nat.le_refl _) 0 (ints .u8 rs).toArray.toList
     clear hR2 hW2 hb2 hR3 hW3 hb3 hR4 hW4 hN hN2
     go_wp2_with (first
       | (with_reducible refine wpList_store_mid (op := ⟨none, .store 22 (.tmp 2) (.tmp 37), _, _, _, _⟩) rfl 22 (.tmp 2) (.tmp 37) rfl w.heap.size 0 (ints .u8 rs).toArray rfl rfl hs1 (a22 HBL.out) (ints_all _ _) ?_; generalize w3.setCells w.heap.size 0 (ints .u8 rs).toArray.toList = W5 at *))
     exact ret_rows rfl w.heap.size 0 rfl (ints .u8 rs) _ hR5.range Tryd.underlying22 rfl (l22 HBL.out) rfl ⟨by rw [HRS.out], hW5⟩
end Go.Proofs.YthpibkpljakeeaaDoor
