/- The reference's prime and its remainder. -/
import Derived.Test.YthohfhloobmlpaaPRef0
namespace Go.Proofs.Ythohfhloobmlpaa
open Go Go.RowKit

def PD : List Nat := [65531, 65535, 65535, 65535, 65535, 65535, 65535, 65535, 3, 0]
/-- Ten digits of a number. -/
def R10 (l : List Nat) (m : Nat) : Prop := l.length = 10 ∧ Digs l ∧ dv l = m
theorem pd_r : R10 PD PN := ⟨rfl, fun v hv => by
  have h : PD.all (fun v => decide (v < 65536)) = true := by decide
  exact of_decide_eq_true (List.all_eq_true.1 h v hv), by decide⟩
/-- A call returns new digits of a number. -/
def ROut (n : Nat) (w : World) (e : Ending) (w' : World) : Prop := ∃ A c ys, e = .returned (.slice A 10 c) ∧ Hid (R10 ys n) ∧ NumsF w.heap.size w' .i64 A (nl ys) ∧ Below w.heap.size w w'
theorem ROut.mk {n : Nat} {w w' : World} {A : Option Addr} {c : Nat} {ys : List Nat} (h : R10 ys n) (hN : NumsF w.heap.size w' .i64 A (nl ys)) (hb : Below w.heap.size w w') : ROut n w (.returned (.slice A 10 c)) w' := ⟨A, c, ys, rfl, h, hN, hb⟩
set_option maxRecDepth 4000 in
theorem p_any (w : World) : Calls Try.prog 22 #[] w fun e w' => ∃ g, e = .returned (.slice (some ⟨g, 0, none⟩) 10 10) ∧ Owns w' w.heap.size 3 .i64 (.slice (some ⟨g, 0, none⟩) 10 10) (nl PD) ∧ Below w.heap.size w w' := by
  have hO := Owns.new w w.heap.size 3 .i64 (nl PD) (Nat.le_refl _) (by unfold maxLen; decide)
  have hW := below_new w (.cells ((nl PD).map (Value.int .i64)).toArray 3)
  go_enter Try.func22, Try.ntmps22
  go_wp2
  go_ret
  exact ⟨w.heap.size, rfl, hO, hW⟩
theorem pmod_step (X b : Nat) : (2 * (X % PN) + b) % PN = (2 * X + b) % PN := by
  rw [Nat.add_mod, Nat.mul_mod, Nat.mod_mod, ← Nat.mul_mod, ← Nat.add_mod]
theorem prem_step (X b : Nat) : (if PN ≤ 2 * (X % PN) + b then 2 * (X % PN) + b - PN else 2 * (X % PN) + b) = (2 * X + b) % PN ∨ 1 < b := by
  by_cases hb : 1 < b
  · exact .inr hb
  · left
    rw [← pmod_step]
    have h := Nat.mod_lt X pn_pos
    generalize X % PN = x at *
    by_cases hq : PN ≤ 2 * x + b
    · rw [if_pos hq, Nat.mod_eq_sub_mod hq, Nat.mod_eq_of_lt (by unfold PN at *; omega)]
    · rw [if_neg hq, Nat.mod_eq_of_lt (by omega)]
theorem lt10 {x b : Nat} (hx : x < PN) (hb : b < 2) : 2 * x + b < 65536 ^ 10 := by
  have h2 : 65536 ^ 10 = 1461501637330902918203684832716283019655932542976 := by decide
  rw [h2]
  unfold PN at hx
  omega
set_option maxRecDepth 4000 in
set_option maxHeartbeats 2000000 in
theorem mod_walk (A : Option Addr) (c L : Nat) (w : World) (l : List Nat) (hl : l.length = L) (hn : L ≤ 1000) (hd : Digs l) (hA : Nums w .i64 A (nl l)) : Calls Try.prog 7 #[.slice A L c] w (ROut (dv l % PN) w) := by
  have HL := hid hl
  have HD := hid hd
  have HM0 : Hid (dv l / 65536 ^ L % PN = 0) := hid (by
    have := dv_lt l hd
    rw [hl] at this
    rw [Nat.div_eq_of_lt this]; rfl)
  obtain ⟨z10, hz⟩ : ∃ z, z = List.replicate 10 0 := ⟨_, rfl⟩
  have hmk : ∀ w : World, (Instr.makeSlice 26 (.int .i64 10) (.int .i64 10)).run Try.prog w = .ok (.slice (some ⟨w.heap.size, 0, none⟩) 10 10) (w.alloc (.cells (ints .i64 (nl z10)).toArray 3)) := by rw [hz]; exact make28 10 (by omega)
  have HO0 : Hid (∀ w : World, Owns (w.alloc (.cells (ints .i64 (nl z10)).toArray 3)) w.heap.size 3 .i64 (.slice (some ⟨w.heap.size, 0, none⟩) 10 10) (nl z10)) := by
    rw [hz]; exact hid fun w => Owns.new w w.heap.size 3 .i64 (nl (List.replicate 10 0)) (Nat.le_refl _) (by simp [maxLen])
  have HZ0 : Hid (R10 z10 0) := by
    rw [hz]; exact hid ⟨by simp, fun v hv => by have := List.eq_of_mem_replicate hv; omega, by have := dv_zeros [] 10; rw [List.nil_append] at this; rw [this]; rfl⟩
  have HQ := hid pd_r
  clear hl hd hz
  have hlw : IntKind.i64.wrap ((L : Int) - 1) = (L : Int) - 1 := IntWalk.i64_in _ (by omega)
  have hO := HO0.out w
  have hbD := below_new w (.cells (ints .i64 (nl z10)).toArray 3)
  go_enter Try.func7, Try.ntmps7
  go_wp2
  clear hmk
  generalize w.alloc (.cells (ints .i64 (nl z10)).toArray 3) = W0 at *
  have hA2 := hA
  go_loopw [3, 4] (fun v i wr => ∃ (j g cr : Nat) (rs : List Nat), j ≤ L ∧ i = .int .i64 ((j : Int) - 1) ∧ v = .slice (some ⟨g, 0, none⟩) 10 cr ∧ Hid (R10 rs (dv l / 65536 ^ j % PN)) ∧ Owns wr w.heap.size 3 .i64 (.slice (some ⟨g, 0, none⟩) 10 cr) (nl rs) ∧ Below w.heap.size w wr) (fun _ i _ => (intOf i + 1).toNat)
  case atStart => exact ⟨L, w.heap.size, 10, z10, Nat.le_refl _, rfl, rfl, (by rw [HM0.out]; exact HZ0), hO, hbD⟩
  case round =>
    clear hO hbD HZ0 HO0 HM0
    obtain ⟨j, g, cr, rs, hj, rfl, rfl, HR, hO, hB⟩ := hrel
    rename World => W1
    cases j with
    | zero =>
      have hz : ((0 : Nat) : Int) - 1 = -1 := by omega
      rw [hz]
      have HR0 : Hid (R10 rs (dv l % PN)) := hid (by have := HR.out; rwa [Nat.pow_zero, Nat.div_one] at this)
      have hNF := hO.fresh
      clear hO hA2 hA hz HR
      go_wp2
      go_ret
      exact ROut.mk HR0.out hNF hB
    | succ i =>
      have hz : ((i + 1 : Nat) : Int) - 1 = (i : Int) := by omega
      rw [hz]
      have HRT : Hid (R10 rs (dv l / 65536 ^ i / 2 ^ 16 % PN)) := hid (by have := HR.out; rw [Nat.pow_succ, ← Nat.div_div_eq_div_mul] at this; exact this)
      have hil : i < l.length := by rw [HL.out]; omega
      have HDI := hid (dig_at HD.out hil)
      have hdl := getD_dig HD.out i
      obtain ⟨gA, oA, rfl, hgA, cA⟩ := hA2.num (by rw [nl_length, HL.out]; omega)
      have cd := cA i _ (nl_at hil)
      clear cA hil HR
      generalize l.getD i 0 = d at *
      have i0 : (0 : Int) ≤ i := by omega
      have iL : (i : Int) < L := by omega
      have iw : IntKind.i64.wrap ((i : Int) - 1) = (i : Int) - 1 := IntWalk.i64_in _ (by omega)
      go_wp2
      go_loopw [3, 5] (fun v b wr => ∃ (t g cr : Nat) (rs : List Nat), t ≤ 16 ∧ b = .int .i64 (bt t : Int) ∧ v = .slice (some ⟨g, 0, none⟩) 10 cr ∧ Hid (R10 rs (dv l / 65536 ^ i / 2 ^ t % PN)) ∧ Owns wr w.heap.size 3 .i64 (.slice (some ⟨g, 0, none⟩) 10 cr) (nl rs) ∧ Below w.heap.size w wr) (fun _ b _ => (intOf b).toNat)
      case atStart => exact ⟨16, g, cr, rs, by omega, (by rw [show bt 16 = 32768 from rfl]; rfl), rfl, HRT, hO, hB⟩
      case round =>
        clear hO hB HRT
        obtain ⟨t, g, cr, rs, ht, rfl, rfl, HR, hO, hB⟩ := hrel
        rename World => W2
        cases t with
        | zero =>
          have hb0 : ((bt 0 : Nat) : Int) = 0 := rfl
          rw [hb0]
          have HR0 : Hid (R10 rs (dv l / 65536 ^ i % PN)) := hid (by have := HR.out; rwa [Nat.pow_zero, Nat.div_one] at this)
          clear HR
          go_wp2
          go_roundw
          case rel => exact ⟨i, g, cr, rs, by omega, by go_num, rfl, HR0, hO, hB⟩
          case measure => simp [intOf]
        | succ t =>
          obtain ⟨p, hp⟩ : ∃ p, bt (t + 1) = p := ⟨_, rfl⟩
          have HPT := hid (show p = 2 ^ t by rw [← hp, bt_succ])
          have HPH := hid (show p / 2 = bt t by rw [← hp, bt_half])
          rw [hp]
          have hpp : 0 < p := by rw [HPT.out]; exact Nat.pow_pos (by omega)
          have hpl : p ≤ 32768 := by
            rw [HPT.out]
            exact Nat.le_trans (Nat.pow_le_pow_right (by omega) (show t ≤ 15 by omega)) (by decide)
          obtain ⟨e, he⟩ : ∃ e, d / p = e := ⟨_, rfl⟩
          obtain ⟨b, hb⟩ : ∃ b, e % 2 = b := ⟨_, rfl⟩
          have HST : Hid ((if PN ≤ 2 * (dv l / 65536 ^ i / 2 ^ (t + 1) % PN) + b then 2 * (dv l / 65536 ^ i / 2 ^ (t + 1) % PN) + b - PN else 2 * (dv l / 65536 ^ i / 2 ^ (t + 1) % PN) + b) = dv l / 65536 ^ i / 2 ^ t % PN) := hid (by
            have h1 := bit_of (dv l / 65536 ^ i) t d (by omega) HDI.out
            rw [← HPT.out, he, hb] at h1
            have h2 := half_step (dv l / 65536 ^ i) t
            rw [← HPT.out, h1] at h2
            rcases prem_step (dv l / 65536 ^ i / 2 ^ (t + 1)) b with h | h
            · rw [h, h2, HPT.out]
            · omega)
          have HXL : Hid (dv l / 65536 ^ i / 2 ^ (t + 1) % PN < PN) := hid (Nat.mod_lt _ pn_pos)
          have hel : e ≤ 65535 := by rw [← he]; exact Nat.le_trans (Nat.div_le_self _ _) (by omega)
          have hei : (d : Int) / (p : Int) = (e : Int) := by rw [← he]; simp
          have het : Int.tdiv (d : Int) (p : Int) = (e : Int) := by rw [Int.tdiv_eq_ediv_of_nonneg (by omega)]; exact hei
          have hew : IntKind.i64.wrap (e : Int) = (e : Int) := IntWalk.i64_in _ (by omega)
          have hbi : (e : Int) % 2 = (b : Int) := by omega
          have hbt : Int.tmod (e : Int) 2 = (b : Int) := by rw [Int.tmod_eq_emod_of_nonneg (by omega)]; omega
          have hp0 : ¬ (p : Int) = 0 := by omega
          have hp1 : (0 : Int) < (p : Int) := by omega
          have hph : (p : Int) / 2 = ((p / 2 : Nat) : Int) := by omega
          have hpht : Int.tdiv (p : Int) 2 = ((p / 2 : Nat) : Int) := by rw [Int.tdiv_eq_ediv_of_nonneg (by omega)]; omega
          have hphw : IntKind.i64.wrap ((p / 2 : Nat) : Int) = ((p / 2 : Nat) : Int) := IntWalk.i64_in _ (by omega)
          have HBL : Hid (b < 2) := hid (by omega)
          rw [HPH.out] at hph hpht hphw
          have HBT : Hid (bt t < p) := hid (by rw [← HPH.out]; omega)
          have hcd := cell_same_of hB hgA cd
          have HEB := hid (And.intro he hb)
          generalize dv l / 65536 ^ i / 2 ^ (t + 1) % PN = x at *
          obtain ⟨btt, hbtt⟩ : ∃ q, bt t = q := ⟨_, rfl⟩
          rw [hbtt] at hph hpht hphw HBT
          have HBTT := hid hbtt
          have HMI := hid (MulI.start (m := 2) (c := b) HR.out.2.1 HBL.out)
          clear hp hpl he hb hel hpp HPH HPT hbtt
          go_wp2
          go_loopw [6, 7] (fun cv kv wr => ∃ (m cy : Nat) (zs : List Nat), m ≤ 10 ∧ kv = .int .i64 m ∧ cv = .int .i64 cy ∧ Hid (MulI 2 b rs zs cy m) ∧ Owns wr w.heap.size 3 .i64 (.slice (some ⟨g, 0, none⟩) 10 cr) (nl zs) ∧ Below w.heap.size w wr) (fun _ kv _ => 10 - (intOf kv).toNat)
          case atStart => exact ⟨0, b, rs, by omega, rfl, rfl, HMI, hO, hB⟩
          case round =>
            clear hO hB HMI hcd
            obtain ⟨m, cy, zs, hm, rfl, rfl, HI, hO, hB⟩ := hrel
            rename World => W3
            by_cases hlt2 : m < 10
            · have hzl : (nl zs).length = 10 := by rw [nl_length, HI.out.1]; exact HR.out.1
              have hzm : zs[m]? = some (rs.getD m 0) := by rw [HI.out.2.2.2.2 m (Nat.le_refl _), List.getD_eq_getElem?_getD, List.getElem?_eq_getElem (by rw [HR.out.1]; exact hlt2)]; rfl
              obtain ⟨y, cy0, fy0, HY⟩ := hO.spot (j := m) (by rw [hzl]; exact hlt2)
              have hyx : y = ((rs.getD m 0 : Nat) : Int) := by
                have h := HY.out
                unfold nl at h
                rw [List.getElem?_map, hzm] at h
                exact (Option.some.inj h).symm
              subst hyx
              have hdx := getD_dig HR.out.2.1 m
              have hcy := HI.out.2.2.1
              obtain ⟨n, hn2⟩ : ∃ n, n = 2 * rs.getD m 0 + cy := ⟨_, rfl⟩
              have HN := hid (HI.out.step HR.out.2.1 (by rw [HR.out.1]; exact hlt2) hn2)
              generalize rs.getD m 0 = x0 at *
              have w1 : IntKind.i64.wrap (2 * (x0 : Int)) = 2 * (x0 : Int) := IntWalk.i64_in _ (by omega)
              have w2' : IntKind.i64.wrap (2 * (x0 : Int) + cy) = (n : Int) := by rw [IntWalk.i64_in _ (by omega)]; omega
              have hnm : (n : Int) % 65536 = ((n % 65536 : Nat) : Int) := by omega
              have hnd : (n : Int) / 65536 = ((n / 65536 : Nat) : Int) := by omega
              have hnt : Int.tmod (n : Int) 65536 = ((n % 65536 : Nat) : Int) := by rw [Int.tmod_eq_emod_of_nonneg (by omega)]; omega
              have hnq : Int.tdiv (n : Int) 65536 = ((n / 65536 : Nat) : Int) := by rw [Int.tdiv_eq_ediv_of_nonneg (by omega)]; omega
              have HNB : Hid (n / 65536 < 2) := hid (by omega)
              have hO9 := hO.store m ((n % 65536 : Nat) : Int)
              have hgD := (hO.lt g rfl).1
              rw [nl_set] at hO9
              generalize n % 65536 = r at *
              generalize n / 65536 = q at *
              have hqw : IntKind.i64.wrap (q : Int) = (q : Int) := IntWalk.i64_in _ (by have := HNB.out; omega)
              have hB9 := hB.setCell (p := ⟨g, m, none⟩) hgD (.int .i64 (r : Int))
              have m0 : (0 : Int) ≤ m := by omega
              have m16 : (m : Int) < 10 := by omega
              clear hn2 HY hdx hcy hzl hzm HI hO hB hgD
              go_wp2
              go_roundw
              case rel => exact ⟨m + 1, q, zs.set m r, by omega, by go_num, rfl, HN, hO9, hB9⟩
              case measure => simp [intOf]; omega
            · have e : m = 10 := by omega
              subst e
              have HZ : Hid (R10 zs (2 * x + b)) := hid (by
                have h := HI.out.end_ HR.out.1 (by rw [HR.out.2.2]; exact lt10 HXL.out HBL.out)
                rw [HR.out.2.2] at h
                exact h)
              clear HI
              go_wp2_with (fail)
              refine (p_any _).mono ?_
              rintro e2 w4 ⟨g4, rfl, hQ4, hb4⟩
              have hO4 := hO.stay hb4
              have hB4 := hB.trans (Below.mono hb4 hB.size)
              clear hO hB hb4
              go_wp2_with (fail)
              refine (al_any (some ⟨g, 0, none⟩) (some ⟨g4, 0, none⟩) cr 10 10 zs PD w4 HZ.out.1 HQ.out.1 (by omega) HZ.out.2.1 HQ.out.2.1 hO4.nums hQ4.nums).mono ?_
              rintro e2 w5 ⟨bb, rfl, HBB, nd, rfl⟩
              rw [HZ.out.2.2, HQ.out.2.2] at HBB
              have hO5 := hO4.drewN nd
              have hB5 := below_drewN hB4 nd
              clear hO4 hB4 hQ4
              generalize w4.drewN nd = W4 at *
              by_cases hge : PN ≤ 2 * x + b
              · have hbb : bb = true := by rw [HBB.out]; exact decide_eq_true hge
                subst hbb
                have HS2 := HST.out
                rw [if_pos hge] at HS2
                replace HS2 := hid HS2
                have HGE := hid hge
                clear hge HST
                go_wp2_with (fail)
                refine (p_any _).mono ?_
                rintro e2 w6 ⟨g6, rfl, hQ6, hb6⟩
                have hO6 := hO5.stay hb6
                have hB6 := hB5.trans (Below.mono hb6 hB5.size)
                clear hO5 hB5 hb6
                go_wp2_with (fail)
                refine (le_own (some ⟨g, 0, none⟩) (some ⟨g6, 0, none⟩) cr 10 10 zs PD w6 HZ.out.1 HQ.out.1 (by omega) HZ.out.2.1 HQ.out.2.1 (by rw [HZ.out.2.2, HQ.out.2.2]; exact HGE.out) hO6.nums hQ6.nums).mono ?_
                rintro e3 w7 ⟨A7, c7, ys, rfl, HY, hO7, hb7⟩
                obtain ⟨g7, rfl, _⟩ := hO7.block (by rw [nl_length, HY.out.1]; omega)
                have hO8 := hO7.lessB hB6.size
                have hB8 := hB6.trans (Below.mono hb7 hB6.size)
                have HR8 : Hid (R10 ys (dv l / 65536 ^ i / 2 ^ t % PN)) := hid ⟨HY.out.1, HY.out.2.1, by rw [HY.out.2.2, HZ.out.2.2, HQ.out.2.2, HS2.out]⟩
                clear hO6 hB6 hQ6 hO7 hb7
                go_wp2
                go_roundw
                case rel => exact ⟨t, g7, c7, ys, by omega, by rw [HBTT.out], rfl, HR8, hO8, hB8⟩
                case measure => have := HBT.out; simp [intOf]; omega
              · have hbb : bb = false := by rw [HBB.out]; exact decide_eq_false hge
                subst hbb
                have HS2 := HST.out
                rw [if_neg hge] at HS2
                rw [HS2] at HZ
                clear hge HST HS2
                go_wp2
                go_roundw
                case rel => exact ⟨t, g, cr, zs, by omega, by rw [HBTT.out], rfl, HZ, hO5, hB5⟩
                case measure => have := HBT.out; simp [intOf]; omega
end Go.Proofs.Ythohfhloobmlpaa
