/- The reference's order; its difference, as a row of the call's own; digits times a small number. -/
import Derived.Test.YtpaopdjbhmdfjaaDoorSMathM
namespace Go.Proofs.YtpaopdjbhmdfjaaDoor
open Go.RowKit

set_option maxRecDepth 4000 in
set_option maxHeartbeats 1000000 in
theorem le_own (A B : Option Addr) (cA cB L : Nat) (l m : List Nat) (w : World) (hl : l.length = L) (hm : m.length = L) (hn : L ≤ 1000) (dl : Digs l) (dm : Digs m) (hle : dv m ≤ dv l) (hA : Nums w .i64 A (nl l)) (hB : Nums w .i64 B (nl m)) :
    Calls Tryd.prog 53 #[.slice A L cA, .slice B L cB] w fun e w' => ∃ A' c ys, e = .returned (.slice A' L c) ∧ Hid (ys.length = L ∧ Digs ys ∧ dv ys = dv l - dv m) ∧ Owns w' w.heap.size 3 .i64 (.slice A' L c) (nl ys) ∧ Below w.heap.size w w' := by
  have HL := hid hl
  have HM := hid hm
  have DL := hid dl
  have DM := hid dm
  have HLE := hid hle
  clear dl dm hl hm hle
  go_enter Tryd.func53, Tryd.ntmps53
  go_wp2
  go_loopw [5, 6, 7] (fun v b i wr => ∃ (k : Nat) (ys : List Nat) (bo : Nat) (R : Option Addr) (n c : Nat), k ≤ L ∧ v = .slice R n c ∧ b = .int .i64 bo ∧ i = .int .i64 k ∧ Hid (LessI l m ys bo k) ∧ Owns wr w.heap.size 3 .i64 (.slice R n c) (nl ys) ∧ Below w.heap.size w wr) (fun _ _ i _ => L - (intOf i).toNat)
  case atStart => exact ⟨0, [], 0, none, 0, 0, Nat.zero_le _, rfl, rfl, rfl, hid ⟨rfl, fun v hv => by simp at hv, by omega, by simp [dv]⟩, Owns.none_ _ _ _ _, Below.refl _ _⟩
  case round =>
    obtain ⟨k, ys, bo, R, n, c, hk, rfl, rfl, rfl, HI, hO, hb⟩ := hrel
    by_cases hlt : k < L
    · have hsz := hb.size
      have hil : k < l.length := by rw [HL.out]; omega
      have him : k < m.length := by rw [HM.out]; omega
      obtain ⟨g, o, rfl, _, cA0⟩ := (hA.below hb).num (by rw [nl_length, HL.out]; omega)
      obtain ⟨g2, o2, rfl, _, cB0⟩ := (hB.below hb).num (by rw [nl_length, HM.out]; omega)
      have cl := cA0 k _ (nl_at hil)
      have cm := cB0 k _ (nl_at him)
      have hx := getD_dig DL.out k
      have hy := getD_dig DM.out k
      have hbo := HI.out.2.2.1
      have HS : Hid (∀ d bo', d < 65536 → bo' ≤ 1 → d + m.getD k 0 + bo = l.getD k 0 + 65536 * bo' → LessI l m (ys ++ [d]) bo' (k + 1)) := hid fun d bo' h1 h2 h3 => HI.out.step hil him h1 h2 h3
      have HY : Hid ((nl ys).length = k) := hid (by rw [nl_length]; exact HI.out.1)
      clear cA0 cB0 hil him
      generalize l.getD k 0 = x at *
      generalize m.getD k 0 = y at *
      have k0 : (0 : Int) ≤ k := by omega
      have k1 : (k : Int) < L := by omega
      have w1 : IntKind.i64.wrap ((x : Int) - y) = (x : Int) - y := IntWalk.i64_in _ (by omega)
      have w2 : IntKind.i64.wrap ((x : Int) - y - bo) = (x : Int) - y - bo := IntWalk.i64_in _ (by omega)
      by_cases hneg : x < y + bo
      · obtain ⟨d, hd⟩ : ∃ d : Nat, d = x + 65536 - (y + bo) := ⟨_, rfl⟩
        have hz : (x : Int) - y - bo = (d : Int) - 65536 := by omega
        have hdl : d < 65536 := by omega
        have HT := hid (HS.out d 1 hdl (by omega) (by omega))
        have hdn : (d : Int) - 65536 < 0 := by omega
        have hdw : IntKind.i64.wrap ((d : Int) - 65536 + 65536) = d := by rw [IntWalk.i64_in _ (by omega)]; omega
        rw [hz] at w2
        clear HS hneg hd hx hy hbo hdl
        go_wp2
        go_quiet (fail)
        clear w1 w2 hz
        go_wp2_with (at_builtin; refine app_one _ rfl (.tmp 30) (.tmp 32) 32 rfl w.heap.size 3 .i64 8 Tryd.underlying32 Tryd.info3 R n c (nl ys) rfl (hO.drewN _) _ 1 rfl (by rw [HY.out]; omega) (by omega) (by simpa using hsz) ?_; intro A' n' c' w2 hO2 hb2)
        go_roundw
        case rel => exact ⟨k + 1, ys ++ [d], 1, A', n', c', by omega, rfl, rfl, by go_num, HT, by rw [← nl_snoc]; exact hO2, (below_drewN hb nq).trans hb2⟩
        case measure => simp [intOf]; omega
      · obtain ⟨d, hd⟩ : ∃ d : Nat, d = x - (y + bo) := ⟨_, rfl⟩
        have hz : (x : Int) - y - bo = (d : Int) := by omega
        have hdl : d < 65536 := by omega
        have HT := hid (HS.out d 0 hdl (by omega) (by omega))
        have hdn : ¬ (d : Int) < 0 := by omega
        rw [hz] at w2
        clear HS hneg hd hx hy hbo hdl
        go_wp2
        go_quiet (fail)
        clear w1 w2 hz
        go_wp2_with (at_builtin; refine app_one _ rfl (.tmp 30) (.tmp 32) 32 rfl w.heap.size 3 .i64 8 Tryd.underlying32 Tryd.info3 R n c (nl ys) rfl (hO.drewN _) _ 1 rfl (by rw [HY.out]; omega) (by omega) (by simpa using hsz) ?_; intro A' n' c' w2 hO2 hb2)
        go_roundw
        case rel => exact ⟨k + 1, ys ++ [d], 0, A', n', c', by omega, rfl, rfl, by go_num, HT, by rw [← nl_snoc]; exact hO2, (below_drewN hb nq).trans hb2⟩
        case measure => simp [intOf]; omega
    · have e : k = L := by omega
      subst e
      have hm := hO.len
      rw [nl_length, HI.out.1] at hm
      subst hm
      have HE : Hid (dv ys = dv l - dv m) := hid (HI.out.end_ HL.out HM.out HLE.out)
      go_wp2
      go_ret
      exact ⟨R, c, ys, rfl, hid ⟨HI.out.1, HI.out.2.1, HE.out⟩, hO, hb⟩
/-- Digits times m and a number below m, digit by digit. -/
def MulI (m c : Nat) (xs zs : List Nat) (cy j : Nat) : Prop := zs.length = xs.length ∧ Digs zs ∧ cy < m ∧ dv zs + cy * 65536 ^ j + dv (xs.take j) = dv xs + m * dv (xs.take j) + c ∧ ∀ i, j ≤ i → zs[i]? = xs[i]?
theorem MulI.start {m c : Nat} {xs : List Nat} (hx : Digs xs) (hc : c < m) : MulI m c xs xs c 0 := ⟨rfl, hx, hc, by simp [dv], fun _ _ => rfl⟩
theorem MulI.step {m c : Nat} {xs zs : List Nat} {cy j n : Nat} (h : MulI m c xs zs cy j) (hx : Digs xs) (hj : j < xs.length) (hn : n = m * xs.getD j 0 + cy) : MulI m c xs (zs.set j (n % 65536)) (n / 65536) (j + 1) := by
  obtain ⟨h1, h2, h3, h4, h5⟩ := h
  have g : xs[j]? = some (xs.getD j 0) := by rw [List.getD_eq_getElem?_getD, List.getElem?_eq_getElem hj]; rfl
  have hd := getD_dig hx j
  refine ⟨by simp [h1], set_digs h2 _ _ (Nat.mod_lt _ (by omega)), ?_, ?_, fun i hi => ?_⟩
  · have : m * xs.getD j 0 ≤ m * 65535 := Nat.mul_le_mul_left _ (by omega)
    rw [Nat.div_lt_iff_lt_mul (by omega)]
    omega
  · have h6 := dv_set zs j (n % 65536) _ ((h5 j (Nat.le_refl _)).trans g)
    rw [dv_take_succ xs j _ g]
    have h7 := Nat.div_add_mod n 65536
    generalize xs.getD j 0 = x at *
    generalize n % 65536 = r at *
    generalize n / 65536 = q at *
    rw [Nat.pow_succ]
    generalize 65536 ^ j = P at *
    have h8 : (65536 * q + r) * P = (m * x + cy) * P := by rw [h7, hn]
    have h9 : q * (P * 65536) = 65536 * q * P := by rw [Nat.mul_comm P, ← Nat.mul_assoc, Nat.mul_comm q]
    rw [Nat.add_mul, Nat.add_mul, Nat.mul_assoc m] at h8
    rw [h9, Nat.mul_add]
    omega
  · rw [List.getElem?_set_ne (by omega)]; exact h5 i (by omega)
theorem MulI.end_ {m c : Nat} {xs zs : List Nat} {cy L : Nat} (h : MulI m c xs zs cy L) (hL : xs.length = L) (hm : m * dv xs + c < 65536 ^ L) : zs.length = L ∧ Digs zs ∧ dv zs = m * dv xs + c := by
  obtain ⟨h1, h2, h3, h4, h5⟩ := h
  rw [List.take_of_length_le (by omega)] at h4
  refine ⟨by omega, h2, ?_⟩
  have hc : cy = 0 := by
    by_cases h0 : cy = 0
    · exact h0
    · exfalso
      have : 1 * 65536 ^ L ≤ cy * 65536 ^ L := Nat.mul_le_mul_right _ (by omega)
      omega
  rw [hc] at h4
  omega
/-- The decimal digits of the order's lower part, as letters. -/
def SD : List Nat := [50, 55, 55, 52, 50, 51, 49, 55, 55, 55, 55, 51, 55, 50, 51, 53, 51, 53, 51, 53, 56, 53, 49, 57, 51, 55, 55, 57, 48, 56, 56, 51, 54, 52, 56, 52, 57, 51]
def pv (k : Nat) : Nat := (SD.take k).foldl (fun v d => 10 * v + (d - 48)) 0
theorem pv_step {k : Nat} (h : k < 38) : pv (k + 1) = 10 * pv k + (SD.getD k 0 - 48) := by
  unfold pv
  rw [List.take_add_one, List.foldl_append]
  have : SD[k]? = some (SD.getD k 0) := by rw [List.getD_eq_getElem?_getD, List.getElem?_eq_getElem h]; rfl
  rw [this]; rfl
theorem sd_at : ∀ k, k < 38 → 48 ≤ SD.getD k 0 ∧ SD.getD k 0 ≤ 57 := by
  have h : ∀ k : Fin 38, 48 ≤ SD.getD k.val 0 ∧ SD.getD k.val 0 ≤ 57 := by decide
  exact fun k hk => h ⟨k, hk⟩
theorem pv_lt : ∀ k, k ≤ 38 → pv k < 10 ^ k
  | 0, _ => by decide
  | k + 1, h => by
    have h1 := pv_lt k (by omega)
    have h2 := sd_at k (by omega)
    rw [pv_step (by omega), Nat.pow_succ]
    omega
theorem pv_all : dv ((dgN (pv 38) 16).set 15 ((dgN (pv 38) 16).getD 15 0 + 4096)) = QN ∧ (dgN (pv 38) 16).set 15 ((dgN (pv 38) 16).getD 15 0 + 4096) = dgN QN 16 ∧ (dgN (pv 38) 16).getD 15 0 = 0 := by decide +kernel
abbrev SB : ByteArray := { data := #[50, 55, 55, 52, 50, 51, 49, 55, 55, 55, 55, 51, 55, 50, 51, 53, 51, 53, 51, 53, 56, 53, 49, 57, 51, 55, 55, 57, 48, 56, 56, 51, 54, 52, 56, 52, 57, 51] }
theorem sb_size : SB.size = 38 := rfl
theorem sb_at (k : Nat) (hk : k < 38) (w : World) : (Instr.index 9 (.string SB) (.int .i64 (k : Int))).run Tryd.prog w = .ok (.int .u8 ((SD.getD k 0 : Nat) : Int)) w := by
  rw [run_index_string (P := Tryd.prog) w 9 SB .i64 (k : Int) Tryd.underlying9, dif_pos ⟨by omega, by rw [sb_size]; omega⟩]
  congr 2
  have h : ∀ k : Fin 38, ((SB[k.val]'(by rw [sb_size]; exact k.isLt)).toNat : Int) = ((SD.getD k.val 0 : Nat) : Int) := by decide +kernel
  exact h ⟨k, hk⟩
set_option maxRecDepth 4000 in
set_option maxHeartbeats 2000000 in
theorem q_walk (w : World) : Calls Tryd.prog 35 #[] w fun e w' => ∃ g c, e = .returned (.slice (some ⟨g, 0, none⟩) 16 c) ∧ Owns w' w.heap.size 3 .i64 (.slice (some ⟨g, 0, none⟩) 16 c) (nl (dgN QN 16)) ∧ Below w.heap.size w w' := by
  have HSB : Hid (∀ k : Nat, k < 38 → ∀ w, (Instr.index 9 (.string { data := #[50, 55, 55, 52, 50, 51, 49, 55, 55, 55, 55, 51, 55, 50, 51, 53, 51, 53, 51, 53, 56, 53, 49, 57, 51, 55, 55, 57, 48, 56, 56, 51, 54, 52, 56, 52, 57, 51] }) (.int .i64 (k : Int))).run Tryd.prog w = .ok (.int .u8 ((SD.getD k 0 : Nat) : Int)) w) := hid sb_at
  have HSZ : ({ data := #[50, 55, 55, 52, 50, 51, 49, 55, 55, 55, 55, 51, 55, 50, 51, 53, 51, 53, 51, 53, 56, 53, 49, 57, 51, 55, 55, 57, 48, 56, 56, 51, 54, 52, 56, 52, 57, 51] } : ByteArray).size = 38 := sb_size
  obtain ⟨z16, hz⟩ : ∃ z, z = List.replicate 16 0 := ⟨_, rfl⟩
  have hmk : ∀ w : World, (Instr.makeSlice 32 (.int .i64 16) (.int .i64 16)).run Tryd.prog w = .ok (.slice (some ⟨w.heap.size, 0, none⟩) 16 16) (w.alloc (.cells (ints .i64 (nl z16)).toArray 3)) := by rw [hz]; exact make28 16 (by omega)
  have HO : Hid (Owns (w.alloc (.cells (ints .i64 (nl z16)).toArray 3)) w.heap.size 3 .i64 (.slice (some ⟨w.heap.size, 0, none⟩) 16 16) (nl (dgN (pv 0) 16))) := by rw [hz]; exact hid (Owns.new w w.heap.size 3 .i64 (nl (List.replicate 16 0)) (Nat.le_refl _) (by simp [maxLen]))
  have hW := below_new w (.cells (ints .i64 (nl z16)).toArray 3)
  clear hz
  have HPV := hid (fun k => @pv_lt k)
  have HPS : Hid (∀ k, k < 38 → pv (k + 1) = 10 * pv k + (SD.getD k 0 - 48)) := hid fun k h => pv_step h
  have HD : Hid (∀ k, k < 38 → 48 ≤ SD.getD k 0 ∧ SD.getD k 0 ≤ 57) := hid sd_at
  have HALL := hid pv_all
  go_enter Tryd.func35, Tryd.ntmps35
  go_wp2
  have HP0 : Hid (pv 0 < 10 ^ 0) := hid (HPV.out 0 (by omega))
  clear hmk
  generalize w.alloc (.cells (ints .i64 (nl z16)).toArray 3) = W0 at *
  generalize ({ data := #[50, 55, 55, 52, 50, 51, 49, 55, 55, 55, 55, 51, 55, 50, 51, 53, 51, 53, 51, 53, 56, 53, 49, 57, 51, 55, 55, 57, 48, 56, 56, 51, 54, 52, 56, 52, 57, 51] } : ByteArray) = sb at *
  go_loopw [3] (fun i wr => ∃ k : Nat, k ≤ 38 ∧ i = .int .i64 k ∧ Owns wr w.heap.size 3 .i64 (.slice (some ⟨w.heap.size, 0, none⟩) 16 16) (nl (dgN (pv k) 16)) ∧ Below w.heap.size w wr) (fun i _ => 38 - (intOf i).toNat)
  case atStart => exact ⟨0, by omega, rfl, HO.out, hW⟩
  case round =>
    clear HO hW
    obtain ⟨k, hk, rfl, hO, hW⟩ := hrel
    rename World => W1
    by_cases hlt : k < 38
    · have hix := HSB.out k hlt
      have hd := HD.out k hlt
      have HPN := hid (HPS.out k hlt)
      have HPK := hid (HPV.out k hk)
      have HPK1 := hid (HPV.out (k + 1) (by omega))
      generalize SD.getD k 0 = x at *
      obtain ⟨hXL, hXD, hXV⟩ := dgN_rp 16 (pv k) (by have := HPK.out; have : 10 ^ k ≤ 10 ^ 38 := Nat.pow_le_pow_right (by omega) hk; omega)
      have HX := hid (And.intro hXL (And.intro hXD hXV))
      have HNX : Hid (∀ zs, zs.length = 16 ∧ Digs zs ∧ dv zs = pv (k + 1) → zs = dgN (pv (k + 1)) 16) := hid fun zs h => (show Rp zs (pv (k + 1)) from h).eq
      have HLT : Hid (10 * pv k + (x - 48) < 65536 ^ 16) := hid (by have h1 := HPK1.out; rw [HPN.out] at h1; have : 10 ^ (k + 1) ≤ 10 ^ 38 := Nat.pow_le_pow_right (by omega) (by omega); omega)
      obtain ⟨p1, hp1⟩ : ∃ p1, pv (k + 1) = p1 := ⟨_, rfl⟩
      rw [hp1] at HPN HPK1 HNX
      have HP1 := hid hp1
      clear hp1
      generalize dgN (pv k) 16 = xs at *
      obtain ⟨c, hc⟩ : ∃ c, c = x - 48 := ⟨_, rfl⟩
      rw [← hc] at HPN HLT
      have HMI := hid (MulI.start (m := 10) (c := c) HX.out.2.1 (by omega))
      have hx64 : IntKind.i64.wrap (x : Int) = (x : Int) := IntWalk.i64_in _ (by omega)
      have hxc : IntKind.i64.wrap ((x : Int) - 48) = (c : Int) := by rw [IntWalk.i64_in _ (by omega)]; omega
      have k0 : (0 : Int) ≤ k := by omega
      have k38 : (k : Int) < 38 := by omega
      have HC := hid hc
      clear hXL hXD hXV hd hc
      go_wp2
      go_loopw [4, 5] (fun v j wr => ∃ (m cy : Nat) (zs : List Nat), m ≤ 16 ∧ j = .int .i64 m ∧ v = .int .i64 cy ∧ Hid (MulI 10 c xs zs cy m) ∧ Owns wr w.heap.size 3 .i64 (.slice (some ⟨w.heap.size, 0, none⟩) 16 16) (nl zs) ∧ Below w.heap.size w wr) (fun _ j _ => 16 - (intOf j).toNat)
      case atStart => exact ⟨0, c, xs, by omega, rfl, rfl, HMI, hO, hW⟩
      case round =>
        clear hO hW HMI
        obtain ⟨m, cy, zs, hm, rfl, rfl, HI, hO, hW⟩ := hrel
        rename World => W2
        by_cases hlt2 : m < 16
        · have hzl : (nl zs).length = 16 := by rw [nl_length, HI.out.1]; exact HX.out.1
          have hzm : zs[m]? = some (xs.getD m 0) := by rw [HI.out.2.2.2.2 m (Nat.le_refl _), List.getD_eq_getElem?_getD, List.getElem?_eq_getElem (by rw [HX.out.1]; exact hlt2)]; rfl
          obtain ⟨y, cy0, fy0, HY⟩ := hO.spot (j := m) (by rw [hzl]; exact hlt2)
          have hyx : y = ((xs.getD m 0 : Nat) : Int) := by
            have h := HY.out
            unfold nl at h
            rw [List.getElem?_map, hzm] at h
            exact (Option.some.inj h).symm
          subst hyx
          have hdx := getD_dig HX.out.2.1 m
          have hcy := HI.out.2.2.1
          obtain ⟨n, hn⟩ : ∃ n, n = 10 * xs.getD m 0 + cy := ⟨_, rfl⟩
          have HN := hid (HI.out.step HX.out.2.1 (by rw [HX.out.1]; exact hlt2) hn)
          generalize xs.getD m 0 = x0 at *
          have w1 : IntKind.i64.wrap (10 * (x0 : Int)) = 10 * (x0 : Int) := IntWalk.i64_in _ (by omega)
          have w2 : IntKind.i64.wrap (10 * (x0 : Int) + cy) = (n : Int) := by rw [IntWalk.i64_in _ (by omega)]; omega
          have hnm : (n : Int) % 65536 = ((n % 65536 : Nat) : Int) := by omega
          have hnd : (n : Int) / 65536 = ((n / 65536 : Nat) : Int) := by omega
          have hnt : Int.tmod (n : Int) 65536 = ((n % 65536 : Nat) : Int) := by rw [Int.tmod_eq_emod_of_nonneg (by omega)]; omega
          have hnq : Int.tdiv (n : Int) 65536 = ((n / 65536 : Nat) : Int) := by rw [Int.tdiv_eq_ediv_of_nonneg (by omega)]; omega
          have HNB : Hid (n / 65536 < 10) := hid (by omega)
          have hO9 := hO.store m ((n % 65536 : Nat) : Int)
          rw [nl_set] at hO9
          generalize n % 65536 = r at *
          generalize n / 65536 = q at *
          have hqw : IntKind.i64.wrap (q : Int) = (q : Int) := IntWalk.i64_in _ (by have := HNB.out; omega)
          have hrw : IntKind.i64.wrap (r : Int) = (r : Int) := IntWalk.i64_in _ (by omega)
          have hW9 := hW.setCell (p := ⟨w.heap.size, m, none⟩) (Nat.le_refl _) (.int .i64 (r : Int))
          have m0 : (0 : Int) ≤ m := by omega
          have m16 : (m : Int) < 16 := by omega
          clear hn HY hdx hcy hzl hzm HI
          go_wp2
          go_roundw
          case rel => exact ⟨m + 1, q, zs.set m r, by omega, by go_num, rfl, HN, hO9, hW9⟩
          case measure => simp [intOf]; omega
        · have e : m = 16 := by omega
          subst e
          have HE : Hid (zs = dgN p1 16) := hid (HNX.out zs (by
            have h := HI.out.end_ HX.out.1 (by rw [HX.out.2.2]; exact HLT.out)
            rw [HX.out.2.2, ← HPN.out] at h
            exact h))
          rw [HE.out] at hO
          clear HI
          go_wp2
          go_roundw
          case rel => exact ⟨k + 1, by omega, by go_num, (by rw [HP1.out]; exact hO), hW⟩
          case measure => simp [intOf]; omega
    · have e : k = 38 := by omega
      rw [e] at hO
      have hk38 : ¬ (k : Int) < 38 := by omega
      have HA := hid HALL.out
      have HXL : Hid ((dgN (pv 38) 16).length = 16) := hid (dgN_length _ _)
      clear e HPV HPS HD HSB HALL hlt
      generalize dgN (pv 38) 16 = xs at *
      obtain ⟨y, cy0, fy0, HY⟩ := hO.spot (j := 15) (by rw [nl_length, HXL.out]; omega)
      have hyx : y = 0 := by
        have h := HY.out
        unfold nl at h
        have h3 := HA.out.2.2
        rw [List.getD_eq_getElem?_getD] at h3
        rw [List.getElem?_map] at h
        cases hx : xs[15]? with
        | none => rw [hx] at h; cases h
        | some v =>
          rw [hx] at h h3
          simp at h h3
          omega
      subst hyx
      have hO9 := hO.store 15 ((4096 : Nat) : Int)
      have HS := hid HA.out.2.1
      rw [HA.out.2.2, Nat.zero_add] at HS
      rw [nl_set, HS.out] at hO9
      have hW9 := hW.setCell (p := ⟨w.heap.size, 15, none⟩) (Nat.le_refl _) (.int .i64 4096)
      clear HA HY HS
      go_wp2
      go_ret
      exact ⟨w.heap.size, 16, rfl, hO9, hW9⟩
end Go.Proofs.YtpaopdjbhmdfjaaDoor
