/- The reference's digits of bytes, bytes of a number, and sums. -/
import Derived.Test.YthohfhloobmlpaaPMod
namespace Go.Proofs.Ythohfhloobmlpaa
open Go Go.RowKit

set_option maxRecDepth 4000 in
set_option maxHeartbeats 2000000 in
theorem digits_walk (A : Option Addr) (L c : Nat) (bs : List Int) (w : World) (hl : bs.length = L) (hn : L ≤ 1000) (hb : Byt bs) (hA : Nums w .u8 A bs) : Calls Try.prog 8 #[.slice A L c] w fun e w' => ∃ B d, e = .returned (.slice B ((L + 1) / 2) d) ∧ NumsF w.heap.size w' .i64 B (pr bs) ∧ Below w.heap.size w w' := by
  have HL := hid hl
  have HB := hid hb
  have HPL : Hid ((pr bs).length = (L + 1) / 2) := hid (by rw [pr_length, hl])
  have hA0 := hA
  clear hl hb hA
  go_enter Try.func8, Try.ntmps8
  go_wp2
  go_loopw [3, 4] (fun v i wr => ∃ (k : Nat) (R : Option Addr) (n d : Nat), k ≤ (L + 1) / 2 ∧ v = .slice R n d ∧ i = .int .i64 ((2 * k : Nat) : Int) ∧ Owns wr w.heap.size 3 .i64 (.slice R n d) ((pr bs).take k) ∧ Below w.heap.size w wr) (fun _ i _ => L + 1 - (intOf i).toNat)
  case atStart => exact ⟨0, none, 0, 0, Nat.zero_le _, rfl, rfl, Owns.none_ _ _ _ _, Below.refl _ _⟩
  case round =>
    obtain ⟨k, R, n, d, hk, rfl, rfl, hO, hb⟩ := hrel
    rename World => W1
    have hsz := hb.size
    by_cases hlt : 2 * k < L
    · have hlk : 2 * k < bs.length := by rw [HL.out]; exact hlt
      obtain ⟨g, o, rfl, _, cA⟩ := (hA0.below hb).num (by omega)
      have hx : bs[2 * k]? = some (bs.getD (2 * k) 0) := by rw [List.getD_eq_getElem?_getD, List.getElem?_eq_getElem hlk]; rfl
      have cx := cA _ _ hx
      have hxb := HB.out.at_ hx
      have HV := hid (pr_at bs k hlk)
      have HT : Hid ((pr bs).take (k + 1) = (pr bs).take k ++ [bs.getD (2 * k) 0 + 256 * bs.getD (2 * k + 1) 0]) := hid (by rw [List.take_add_one, HV.out]; rfl)
      have HTL : Hid (((pr bs).take k).length ≤ 1000) := hid (by rw [List.length_take, HPL.out]; omega)
      have HW5 : Hid (∀ A' n' c' w2, Grew W1 w2 (Value.slice R n d) (Value.slice A' n' c') → Below w.heap.size w w2) := hid fun A' n' c' w2 hG => hb.trans (hG.below hsz (fun g hg => (hO.lt g hg).1))
      by_cases hlt2 : 2 * k + 1 < L
      · have hlk2 : 2 * k + 1 < bs.length := by rw [HL.out]; exact hlt2
        have hy : bs[2 * k + 1]? = some (bs.getD (2 * k + 1) 0) := by rw [List.getD_eq_getElem?_getD, List.getElem?_eq_getElem hlk2]; rfl
        have cy0 := cA _ _ hy
        have hyb := HB.out.at_ hy
        clear hx hy hlk hlk2 cA HV
        generalize bs.getD (2 * k) 0 = x at *
        generalize bs.getD (2 * k + 1) 0 = y at *
        obtain ⟨p, hp⟩ : ∃ p, p = 2 * k := ⟨_, rfl⟩
        obtain ⟨q, hq⟩ : ∃ q, q = 2 * k + 1 := ⟨_, rfl⟩
        have hwq : IntKind.i64.wrap ((p : Int) + 1) = (q : Int) := by rw [IntWalk.i64_in _ (by omega)]; omega
        have hw2 : IntKind.i64.wrap ((p : Int) + 2) = ((2 * (k + 1) : Nat) : Int) := by rw [IntWalk.i64_in _ (by omega)]; omega
        rw [← hp] at cx ⊢
        rw [← hq] at cy0
        have p0 : (0 : Int) ≤ p := by omega
        have pL : (p : Int) < L := by omega
        have q0 : (0 : Int) ≤ q := by omega
        have qL : (q : Int) < L := by omega
        have hx64 : IntKind.i64.wrap x = x := IntWalk.i64_in _ (by omega)
        have hy64 : IntKind.i64.wrap y = y := IntWalk.i64_in _ (by omega)
        have hs8 : IntKind.i64.wrap (256 * y) = 256 * y := by rw [IntWalk.i64_in _ (by omega)]
        have hsv : IntKind.i64.wrap (x + 256 * y) = x + 256 * y := by rw [IntWalk.i64_in _ (by omega)]
        have HPQ := hid (And.intro hp hq)
        clear hp hq
        go_wp2_with (at_builtin; refine app_oneG rfl (.tmp 31) (.tmp 33) 26 rfl w.heap.size 3 .i64 8 Try.underlying26 Try.info3 (by omega) R n d ((pr bs).take k) rfl hO _ 1 rfl (by have := HTL.out; omega) hsz ?_; intro A' n' c' w2 hO2 hG2)
        go_roundw
        case rel =>
          rw [← HT.out] at hO2
          exact ⟨k + 1, A', n', c', by omega, rfl, by congr 1, hO2, HW5.out _ _ _ _ hG2⟩
        case measure => simp [intOf]; have := HPQ.out.1; omega
      · have hy0 : bs.getD (2 * k + 1) 0 = 0 := by rw [List.getD_eq_getElem?_getD, List.getElem?_eq_none (by rw [HL.out]; omega)]; rfl
        rw [hy0] at HT
        clear hx hy0 hlk cA HV
        generalize bs.getD (2 * k) 0 = x at *
        obtain ⟨p, hp⟩ : ∃ p, p = 2 * k := ⟨_, rfl⟩
        have hwq : IntKind.i64.wrap ((p : Int) + 1) = (p : Int) + 1 := IntWalk.i64_in _ (by omega)
        have hw2 : IntKind.i64.wrap ((p : Int) + 2) = ((2 * (k + 1) : Nat) : Int) := by rw [IntWalk.i64_in _ (by omega)]; omega
        rw [← hp] at cx ⊢
        have p0 : (0 : Int) ≤ p := by omega
        have pL : (p : Int) < L := by omega
        have qL : ¬ (p : Int) + 1 < L := by omega
        have hx64 : IntKind.i64.wrap x = x := IntWalk.i64_in _ (by omega)
        have HXV : Hid (x + 256 * 0 = x) := hid (by omega)
        rw [HXV.out] at HT
        have HPQ := hid hp
        clear hp
        go_wp2_with (at_builtin; refine app_oneG rfl (.tmp 31) (.tmp 33) 26 rfl w.heap.size 3 .i64 8 Try.underlying26 Try.info3 (by omega) R n d ((pr bs).take k) rfl hO _ 1 rfl (by have := HTL.out; omega) hsz ?_; intro A' n' c' w2 hO2 hG2)
        go_roundw
        case rel =>
          rw [← HT.out] at hO2
          exact ⟨k + 1, A', n', c', by omega, rfl, by congr 1, hO2, HW5.out _ _ _ _ hG2⟩
        case measure => simp [intOf]; have := HPQ.out; omega
    · have e : k = (L + 1) / 2 := by omega
      have hf : (pr bs).take k = pr bs := List.take_of_length_le (by rw [HPL.out]; omega)
      rw [hf] at hO
      have hm := hO.len
      rw [HPL.out] at hm
      subst hm
      have hNF := hO.fresh
      obtain ⟨p, hp⟩ : ∃ p, p = 2 * k := ⟨_, rfl⟩
      have hpL : ¬ (p : Int) < L := by omega
      rw [← hp]
      clear hf e hO hlt hp hsz
      go_wp2
      go_ret
      exact ⟨R, ⟨d, rfl⟩, hNF, hb⟩
/-- The number of any bytes, modulo the prime. -/
theorem modd_any (A : Option Addr) (L c : Nat) (bs : List Int) (w : World) (hl : bs.length = L) (hn : L ≤ 1000) (hb : Byt bs) (hA : Nums w .i64 A (pr bs)) : Calls Try.prog 7 #[.slice A ((L + 1) / 2) c] w (ROut (bn bs % PN) w) := by
  obtain ⟨a, h1, h2, h3, h4⟩ := pr_nl hb
  rw [← h1] at hA
  have := mod_walk A c ((L + 1) / 2) w a (by rw [h2, hl]) (by omega) h3 hA
  rwa [h4] at this
/-- A number's byte, out of its digits. -/
theorem byte_dig {a : List Nat} {m : Nat} (h : R10 a m) {i : Nat} (hi : i < 17) : a.getD (i / 2) 0 / 256 ^ (i % 2) % 256 = m / 256 ^ i % 256 := by
  have h1 := dig_at h.2.1 (i := i / 2) (by rw [h.1]; omega)
  rw [h.2.2] at h1
  rw [← h1]
  have e : m / 256 ^ i = m / 65536 ^ (i / 2) / 256 ^ (i % 2) := by
    rw [Nat.div_div_eq_div_mul]
    have : (65536 : Nat) = 256 ^ 2 := by decide
    rw [this, ← Nat.pow_mul, ← Nat.pow_add, Nat.div_add_mod]
  rw [e]
  generalize m / 65536 ^ (i / 2) = x
  have : i % 2 = 0 ∨ i % 2 = 1 := by omega
  rcases this with h | h <;> rw [h] <;> omega
set_option maxRecDepth 4000 in
set_option maxHeartbeats 2000000 in
theorem rbytes_core {A : Option Addr} {cA m : Nat} {a : List Nat} {r : List Int} {w : World} (HA : Hid (R10 a m)) (hA : Nums w .i64 A (nl a)) (HR : Hid (pb m = r)) (HRL : Hid (r.length = 17)) : Calls Try.prog 10 #[.slice A 10 cA] w fun e w' => e = .returned (.agg (ints .u8 r).toArray) ∧ Below w.heap.size w w' := by
  obtain ⟨z22, s22⟩ := zero_of_info inf22
  have hR := (Arr.made w .u8 (zeros 17) 22).alloc (.cells (ints .u8 (zeros 17)).toArray 22)
  have hD := Arr.made (w.alloc (.cells (ints .u8 (zeros 17)).toArray 22)) .u8 (zeros 17) 22
  have hW := (below_new w (.cells (ints .u8 (zeros 17)).toArray 22)).alloc (by simp) (.cells (ints .u8 (zeros 17)).toArray 22)
  rw [World.size_alloc] at hD
  have HBY : Hid (∀ i, i < 17 → r[i]? = some (((a.getD (i / 2) 0 / 256 ^ (i % 2) % 256 : Nat)) : Int)) := hid fun i hi => by rw [← HR.out, pb_at m hi, byte_dig HA.out hi]
  obtain ⟨g, o, rfl, hg, hc⟩ := hA.num (by rw [nl_length, HA.out.1]; omega)
  have hgn : g ≠ w.heap.size + 1 := by omega
  have HZF := hid (fill_0 (n := 17) HRL.out)
  have hA0 := hA
  clear hc hA
  go_enter Try.func10, Try.ntmps10
  go_wp2
  have hN := hA0.below hW
  generalize ((w.alloc (.cells (ints .u8 (zeros 17)).toArray 22)).alloc (.cells (ints .u8 (zeros 17)).toArray 22)) = W0 at *
  rw [HZF.out] at hD
  go_loopw [4] (fun i wr => ∃ k : Nat, k ≤ 17 ∧ i = .int .i64 k ∧ Arr wr w.heap.size 0 .u8 (zeros 17) ∧ Arr wr (w.heap.size + 1) 0 .u8 (fillK r k) ∧ Below w.heap.size w wr) (fun i _ => 17 - (intOf i).toNat)
  case atStart => exact ⟨0, by omega, rfl, hR, hD, hW⟩
  case round =>
    clear hR hD hW hN
    obtain ⟨k, hk, rfl, hR, hD, hW⟩ := hrel
    rename World => W1
    by_cases hlt : k < 17
    · have HV := hid (HBY.out k hlt)
      have hdl := getD_dig HA.out.2.1 (k / 2)
      have hcd : W1.cell? ⟨g, o + k / 2, none⟩ = some (.int .i64 ((a.getD (k / 2) 0 : Nat) : Int)) := by
        obtain ⟨g2, o2, e2, _, hc⟩ := (hA0.below hW).num (by rw [nl_length, HA.out.1]; omega)
        injection e2 with e2
        injection e2 with e2 e3
        subst e2 e3
        exact hc _ _ (nl_at (by rw [HA.out.1]; omega))
      generalize a.getD (k / 2) 0 = d at *
      obtain ⟨z, cz, fz, _⟩ := hD.spot (i := k) (by rw [fillK_length, HRL.out]; exact hlt)
      rw [Nat.zero_add] at cz fz
      obtain ⟨h, hh⟩ : ∃ h, h = k / 2 := ⟨_, rfl⟩
      rw [← hh] at hcd
      have hk1 : (k : Int) / 2 = (h : Int) := by omega
      have hk2 : Int.tdiv (k : Int) 2 = (h : Int) := by rw [Int.tdiv_eq_ediv_of_nonneg (by omega)]; omega
      have hk3 : IntKind.i64.wrap (h : Int) = (h : Int) := IntWalk.i64_in _ (by omega)
      have h0 : (0 : Int) ≤ h := by omega
      have h10 : (h : Int) < 10 := by omega
      have k0 : (0 : Int) ≤ k := by omega
      have k17 : (k : Int) < 17 := by omega
      have hwk : IntKind.i64.wrap ((k : Int) + 1) = (k : Int) + 1 := IntWalk.i64_in _ (by omega)
      by_cases hpar : k % 2 = 1
      · rw [hpar, Nat.pow_one] at HV
        have p1 : (k : Int) % 2 = 1 := by omega
        have p2 : Int.tmod (k : Int) 2 = 1 := by rw [Int.tmod_eq_emod_of_nonneg (by omega)]; omega
        obtain ⟨q, hq⟩ : ∃ q, q = d / 256 := ⟨_, rfl⟩
        have q1 : (d : Int) / 256 = (q : Int) := by omega
        have q2 : Int.tdiv (d : Int) 256 = (q : Int) := by rw [Int.tdiv_eq_ediv_of_nonneg (by omega)]; omega
        have q3 : IntKind.i64.wrap (q : Int) = (q : Int) := IntWalk.i64_in _ (by omega)
        rw [← hq] at HV
        obtain ⟨y, hy⟩ : ∃ y, y = q % 256 := ⟨_, rfl⟩
        have y1 : (q : Int) % 256 = (y : Int) := by omega
        have y2 : Int.tmod (q : Int) 256 = (y : Int) := by rw [Int.tmod_eq_emod_of_nonneg (by omega)]; omega
        have y3 : IntKind.u8.wrap (y : Int) = (y : Int) := IntWalk.u8_in _ (by omega)
        rw [← hy] at HV
        have hD1 := hD.set k (y : Int)
        rw [Nat.zero_add, fillK_set _ HV.out] at hD1
        have HXX := hid (And.intro hh (And.intro hq (And.intro hy hdl)))
        clear hh hq hy hdl hpar
        go_wp2
        go_roundw
        case rel => exact ⟨k + 1, by omega, by go_num, hR.apart _ (.inl (by show w.heap.size + 1 ≠ w.heap.size; omega)), hD1, hW.setCell (by show w.heap.size ≤ w.heap.size + 1; omega) _⟩
        case measure => simp [intOf]; omega
      · have hp0 : k % 2 = 0 := by omega
        rw [hp0, Nat.pow_zero, Nat.div_one] at HV
        have p1 : (k : Int) % 2 = 0 := by omega
        have p2 : Int.tmod (k : Int) 2 = 0 := by rw [Int.tmod_eq_emod_of_nonneg (by omega)]; omega
        obtain ⟨y, hy⟩ : ∃ y, y = d % 256 := ⟨_, rfl⟩
        have y1 : (d : Int) % 256 = (y : Int) := by omega
        have y2 : Int.tmod (d : Int) 256 = (y : Int) := by rw [Int.tmod_eq_emod_of_nonneg (by omega)]; omega
        have y3 : IntKind.u8.wrap (y : Int) = (y : Int) := IntWalk.u8_in _ (by omega)
        rw [← hy] at HV
        have hD1 := hD.set k (y : Int)
        rw [Nat.zero_add, fillK_set _ HV.out] at hD1
        have HXX := hid (And.intro hh (And.intro hy hdl))
        clear hh hy hdl hpar hp0
        go_wp2
        go_roundw
        case rel => exact ⟨k + 1, by omega, by go_num, hR.apart _ (.inl (by show w.heap.size + 1 ≠ w.heap.size; omega)), hD1, hW.setCell (by show w.heap.size ≤ w.heap.size + 1; omega) _⟩
        case measure => simp [intOf]; omega
    · have e : k = 17 := by omega
      subst e
      rw [fill_id HRL.out] at hD
      have hs1 : W1.there w.heap.size 0 (ints .u8 r).toArray.size := hR.room (by rw [zeros_len]; exact HRL.out)
      have hR2 := hR.stored (l' := r) (by rw [zeros_len]; exact HRL.out)
      have hW2 := Below.setCells hW (g := w.heap.size) (by omega) 0 (ints .u8 r).toArray.toList
      go_wp2_with (first
        | (with_reducible refine wpList_load_mid (op := ⟨some 25, .load 22 (.tmp 3), _, _, _, _⟩) rfl 22 (.tmp 3) rfl (w.heap.size + 1) 0 rfl (ints .u8 r) _ (hD.range) Try.underlying22 rfl (l22 HRL.out) ?_)
        | (with_reducible refine wpList_store_mid (op := ⟨none, .store 22 (.tmp 2) (.tmp 25), _, _, _, _⟩) rfl 22 (.tmp 2) (.tmp 25) rfl w.heap.size 0 (ints .u8 r).toArray rfl rfl hs1 (a22 HRL.out) (ints_all _ _) ?_))
      exact ret_rows rfl w.heap.size 0 rfl (ints .u8 r) _ hR2.range Try.underlying22 rfl (l22 HRL.out) rfl ⟨rfl, hW2⟩
theorem rbytes_any {A : Option Addr} {cA m : Nat} {a : List Nat} {w : World} (h : R10 a m) (hA : Nums w .i64 A (nl a)) : Calls Try.prog 10 #[.slice A 10 cA] w fun e w' => e = .returned (.agg (ints .u8 (pb m)).toArray) ∧ Below w.heap.size w w' :=
  rbytes_core (hid h) hA (hid rfl) (hid (pb_length m))
theorem SumI.end_ {l m ys : List Nat} {cy : Nat} (h : SumI l m ys cy 10) (hl : l.length = 10) (hm : m.length = 10) (hs : dv l + dv m < 65536 ^ 10) : R10 ys (dv l + dv m) := by
  obtain ⟨a, b, c, e⟩ := h
  rw [List.take_of_length_le (by omega), List.take_of_length_le (by omega)] at e
  refine ⟨a, b, ?_⟩
  cases cy with
  | zero => omega
  | succ cy =>
    have : 65536 ^ 10 ≤ (cy + 1) * 65536 ^ 10 := Nat.le_mul_of_pos_left _ (by omega)
    omega
set_option maxRecDepth 4000 in
set_option maxHeartbeats 2000000 in
theorem radd_any {A B : Option Addr} {cA cB m n : Nat} {a b : List Nat} {w : World} (ha : R10 a m) (hb : R10 b n) (hs : m + n < 65536 ^ 10) (hA : Nums w .i64 A (nl a)) (hB : Nums w .i64 B (nl b)) : Calls Try.prog 12 #[.slice A 10 cA, .slice B 10 cB] w (ROut ((m + n) % PN) w) := by
  have HA := hid ha
  have HB := hid hb
  have HSE : Hid (∀ ys cy, SumI a b ys cy 10 → R10 ys (m + n)) := hid fun ys cy h => by
    have := h.end_ HA.out.1 HB.out.1 (by rw [HA.out.2.2, HB.out.2.2]; exact hs)
    rwa [HA.out.2.2, HB.out.2.2] at this
  clear ha hb hs
  go_enter Try.func12, Try.ntmps12
  go_wp2
  go_loopw [5, 6, 7] (fun v b' i wr => ∃ (k : Nat) (ys : List Nat) (cy : Nat) (R : Option Addr) (n c : Nat), k ≤ 10 ∧ v = .slice R n c ∧ b' = .int .i64 cy ∧ i = .int .i64 k ∧ Hid (SumI a b ys cy k) ∧ Owns wr w.heap.size 3 .i64 (.slice R n c) (nl ys) ∧ Below w.heap.size w wr) (fun _ _ i _ => 10 - (intOf i).toNat)
  case atStart => exact ⟨0, [], 0, none, 0, 0, Nat.zero_le _, rfl, rfl, rfl, hid ⟨rfl, fun v hv => by simp at hv, by omega, by simp [dv]⟩, Owns.none_ _ _ _ _, Below.refl _ _⟩
  case round =>
    obtain ⟨k, ys, cy, R, n', c, hk, rfl, rfl, rfl, HI, hO, hbl⟩ := hrel
    have hsz := hbl.size
    have HY : Hid ((nl ys).length = k) := hid (by rw [nl_length]; exact HI.out.1)
    have hcy := HI.out.2.2.1
    by_cases hlt : k < 10
    · have hil : k < a.length := by rw [HA.out.1]; omega
      have him : k < b.length := by rw [HB.out.1]; omega
      obtain ⟨g, o, rfl, _, cA0⟩ := (hA.below hbl).num (by rw [nl_length, HA.out.1]; omega)
      obtain ⟨g2, o2, rfl, _, cB0⟩ := (hB.below hbl).num (by rw [nl_length, HB.out.1]; omega)
      have cl := cA0 k _ (nl_at hil)
      have cm := cB0 k _ (nl_at him)
      have hx := getD_dig HA.out.2.1 k
      have hy := getD_dig HB.out.2.1 k
      have HS := hid (HI.out.step hil him HA.out.2.1 HB.out.2.1)
      clear cA0 cB0 hil him
      generalize a.getD k 0 = x at *
      generalize b.getD k 0 = y at *
      have k0 : (0 : Int) ≤ k := by omega
      have k1 : (k : Int) < 10 := by omega
      obtain ⟨t, ht⟩ : ∃ t, t = x + y + cy := ⟨_, rfl⟩
      have w1 : IntKind.i64.wrap ((x : Int) + y) = (x : Int) + y := IntWalk.i64_in _ (by omega)
      have w2 : IntKind.i64.wrap ((x : Int) + y + cy) = t := by rw [IntWalk.i64_in _ (by omega)]; omega
      have htl : t < 200000 := by omega
      rw [← ht] at HS
      clear ht
      have e1 : ((t % 65536 : Nat) : Int) = (t : Int) % 65536 := by omega
      have e2 : Value.int .i64 ((t : Int) / 65536) = Value.int .i64 ((t / 65536 : Nat) : Int) := by congr 1
      have E1 := hid e1
      have E2 := hid e2
      clear e1 e2
      go_wp2
      go_quiet (fail)
      clear w1 w2
      go_wp2_with (at_builtin; refine app_one _ rfl (.tmp 24) (.tmp 27) 26 rfl w.heap.size 3 .i64 8 Try.underlying26 Try.info3 R n' c (nl ys) rfl (hO.drewN _) _ 1 rfl (by rw [HY.out]; omega) (by omega) (by simpa using hsz) ?_; intro A' n2 c' w2 hO2 hb2)
      go_roundw
      case rel => exact ⟨k + 1, _, t / 65536, A', n2, c', by omega, rfl, E2.out, by go_num, HS, by rw [← nl_snoc, E1.out]; exact hO2, (below_drewN hbl nq).trans hb2⟩
      case measure => simp [intOf]; omega
    · have e : k = 10 := by omega
      subst e
      have HE := hid (HSE.out ys cy HI.out)
      have hn' := hO.len
      rw [nl_length, HI.out.1] at hn'
      subst hn'
      go_wp2_with (fail)
      refine (mod_walk R c 10 _ ys HE.out.1 (by omega) HE.out.2.1 hO.nums).mono ?_
      rw [HE.out.2.2]
      rintro e3 w3 ⟨A3, c3, ys3, rfl, HY3, hN3, hb3⟩
      go_wp2
      go_ret
      exact ROut.mk HY3.out (hN3.less hbl.size) (hbl.trans (hb3.mono hbl.size))
end Go.Proofs.Ythohfhloobmlpaa
