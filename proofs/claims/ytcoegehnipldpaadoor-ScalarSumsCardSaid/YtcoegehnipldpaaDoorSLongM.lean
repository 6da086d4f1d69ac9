/- long: a product and a sum, 64 bytes. -/
import Derived.Test.YtcoegehnipldpaaDoorSConvM
import Derived.Test.YtcoegehnipldpaaDoorSStepM
namespace Go.Proofs.YtcoegehnipldpaaDoor
open Go.RowKit

theorem inf46 : (Tryd.prog.info? 46).map (fun i => (i.zero, i.size)) = some (some (.agg (ints .u8 (zeros 64)).toArray), 64) := by kernel_rfl
theorem l46 {q : List Int} (h : q.length = 64) : (Tryd.prog.info? 46).map (·.size) = some (ints .u8 q).length := (siz inf46 h).1
theorem a46 {q : List Int} (h : q.length = 64) : (Tryd.prog.info? 46).map (·.size) = some (ints .u8 q).toArray.size := (siz inf46 h).2
theorem zeros_nl (n : Nat) : zeros n = nl (List.replicate n 0) := by simp [zeros, nl]
/-- The worlds of the walk: three arguments, the result, the number so far. -/
def LM (w0 w : World) (a b c : List Int) (xs : List Int) : Prop :=
  Arr w w0.heap.size 0 .u8 a ∧ Arr w (w0.heap.size + 1) 0 .u8 b ∧ Arr w (w0.heap.size + 1 + 1) 0 .u8 c ∧ Arr w (w0.heap.size + 1 + 1 + 1) 0 .u8 (zeros 64) ∧ Arr w (w0.heap.size + 1 + 1 + 1 + 1) 0 .u8 xs ∧ Below w0.heap.size w0 w
theorem LM.drewN {w0 w : World} {a b c xs : List Int} (h : LM w0 w a b c xs) (n : Nat) : LM w0 (w.drewN n) a b c xs := ⟨h.1, h.2.1, h.2.2.1, h.2.2.2.1, h.2.2.2.2.1, below_drewN h.2.2.2.2.2 n⟩
theorem LM.set {w0 w : World} {a b c xs : List Int} (h : LM w0 w a b c xs) (k : Nat) (v : Int) : LM w0 (w.setCell ⟨w0.heap.size + 1 + 1 + 1 + 1, k, none⟩ (.int .u8 v)) a b c (xs.set k v) := by
  have h5 := h.2.2.2.2.1.set k v
  rw [Nat.zero_add] at h5
  exact ⟨h.1.apart _ (.inl (by show w0.heap.size + 1 + 1 + 1 + 1 ≠ w0.heap.size; omega)), h.2.1.apart _ (.inl (by show w0.heap.size + 1 + 1 + 1 + 1 ≠ w0.heap.size + 1; omega)), h.2.2.1.apart _ (.inl (by show w0.heap.size + 1 + 1 + 1 + 1 ≠ w0.heap.size + 1 + 1; omega)), h.2.2.2.1.apart _ (.inl (by show w0.heap.size + 1 + 1 + 1 + 1 ≠ w0.heap.size + 1 + 1 + 1; omega)), h5, h.2.2.2.2.2.setCell (by show w0.heap.size ≤ w0.heap.size + 1 + 1 + 1 + 1; omega) _⟩
set_option maxRecDepth 4000 in
set_option maxHeartbeats 4000000 in
theorem long_walk (a b c : List Nat) (w : World) (ha : a.length = 32) (hb : b.length = 32) (hc : c.length = 32) (ya : Bys a) (yb : Bys b) (yc : Bys c) :
    Calls Tryd.prog 24 #[.agg (ints .u8 (nl a)).toArray, .agg (ints .u8 (nl b)).toArray, .agg (ints .u8 (nl c)).toArray] w fun e w' => ∃ zs, e = .returned (.agg (ints .u8 (nl zs)).toArray) ∧ Hid (zs.length = 64 ∧ Bys zs ∧ bnn zs = bnn a * bnn b + bnn c) ∧ Below w.heap.size w w' := by
  obtain ⟨z46, s46⟩ := zero_of_info inf46
  have HA := hid (And.intro ha ya)
  have HB := hid (And.intro hb yb)
  have HC := hid (And.intro hc yc)
  have HPB : Hid (∀ t j, ps a b t j ≤ j * 65025) := hid fun t j => ps_bd a b ya yb t j
  have HPL : Hid (∀ t j, j + 31 ≤ t → ps a b t j = 0) := hid fun t j => ps_low a b hb t j
  have HPE : Hid (∀ t j, j ≤ 32 → j ≤ t + 1 → ¬ (j < 32 ∧ j ≤ t) → ps a b t j = cvl a b t) := hid fun t j => ps_end a b ha t j
  have HEND : Hid (∀ ns o, LongI a b c ns o 64 → bnn ns = bnn a * bnn b + bnn c) := hid fun ns o h => h.end_ ha hb hc ya yb yc
  clear ha hb hc ya yb yc
  have hM : LM w (((((w.alloc (.cells (ints .u8 (nl a)).toArray 23)).alloc (.cells (ints .u8 (nl b)).toArray 23)).alloc (.cells (ints .u8 (nl c)).toArray 23)).alloc (.cells (ints .u8 (zeros 64)).toArray 46)).alloc (.cells (ints .u8 (zeros 64)).toArray 46)) (nl a) (nl b) (nl c) (zeros 64) := by
    have h1 := ((((Arr.made w .u8 (nl a) 23).alloc (.cells (ints .u8 (nl b)).toArray 23)).alloc (.cells (ints .u8 (nl c)).toArray 23)).alloc (.cells (ints .u8 (zeros 64)).toArray 46)).alloc (.cells (ints .u8 (zeros 64)).toArray 46)
    have h2 := (((Arr.made (w.alloc (.cells (ints .u8 (nl a)).toArray 23)) .u8 (nl b) 23).alloc (.cells (ints .u8 (nl c)).toArray 23)).alloc (.cells (ints .u8 (zeros 64)).toArray 46)).alloc (.cells (ints .u8 (zeros 64)).toArray 46)
    have h3 := ((Arr.made ((w.alloc (.cells (ints .u8 (nl a)).toArray 23)).alloc (.cells (ints .u8 (nl b)).toArray 23)) .u8 (nl c) 23).alloc (.cells (ints .u8 (zeros 64)).toArray 46)).alloc (.cells (ints .u8 (zeros 64)).toArray 46)
    have h4 := (Arr.made (((w.alloc (.cells (ints .u8 (nl a)).toArray 23)).alloc (.cells (ints .u8 (nl b)).toArray 23)).alloc (.cells (ints .u8 (nl c)).toArray 23)) .u8 (zeros 64) 46).alloc (.cells (ints .u8 (zeros 64)).toArray 46)
    have h5 := Arr.made ((((w.alloc (.cells (ints .u8 (nl a)).toArray 23)).alloc (.cells (ints .u8 (nl b)).toArray 23)).alloc (.cells (ints .u8 (nl c)).toArray 23)).alloc (.cells (ints .u8 (zeros 64)).toArray 46)) .u8 (zeros 64) 46
    simp only [World.size_alloc] at h2 h3 h4 h5
    exact ⟨h1, h2, h3, h4, h5, ((((below_new w (.cells (ints .u8 (nl a)).toArray 23)).alloc (by simp) (.cells (ints .u8 (nl b)).toArray 23)).alloc (by simp; omega) (.cells (ints .u8 (nl c)).toArray 23)).alloc (by simp; omega) (.cells (ints .u8 (zeros 64)).toArray 46)).alloc (by simp; omega) (.cells (ints .u8 (zeros 64)).toArray 46)⟩
  go_enter Tryd.func24, Tryd.ntmps24
  go_wp2
  go_loopw [8, 11] (fun v i wr => ∃ (k o : Nat) (ns : List Nat), k ≤ 64 ∧ i = .int .i64 k ∧ v = .int .i64 o ∧ Hid (LongI a b c ns o k) ∧ LM w wr (nl a) (nl b) (nl c) (nl ns)) (fun _ i _ => 64 - (intOf i).toNat)
  case atStart => exact ⟨0, 0, List.replicate 64 0, by omega, rfl, rfl, hid (LongI.start a b c), by rw [← zeros_nl]; exact hM⟩
  case round =>
    clear hM
    obtain ⟨k, o, ns, hk, rfl, rfl, HI, hM⟩ := hrel
    rename World => W1
    by_cases hlt : k < 64
    · have k0 : (0 : Int) ≤ k := by omega
      have k64 : (k : Int) < 64 := by omega
      have ho := HI.out.2.2.1
      obtain ⟨o1, ho1⟩ : ∃ o1, o1 = o + c.getD k 0 := ⟨_, rfl⟩
      have HO1 : Hid (o1 ≤ 8455) := hid (by have := bys_at HC.out.2 k; omega)
      have HST : Hid (∀ T, T = o1 + cvl a b k → T ≤ 2089300 → LongI a b c (ns.set k (T % 256)) (T / 256) (k + 1)) := hid fun T hT hb => HI.out.step hlt (by rw [hT, ho1]) hb
      have HNL := hid HI.out.1
      clear HI
      have w1 : IntKind.i64.wrap ((k : Int) - 32) = (k : Int) - 32 := IntWalk.i64_in _ (by omega)
      have w2 : IntKind.i64.wrap ((k : Int) - 32 + 1) = (k : Int) - 32 + 1 := IntWalk.i64_in _ (by omega)
      by_cases h32 : k < 32
      · have hk32 : (k : Int) < 32 := by omega
        have cx := hM.2.2.1.at_ (nl_at (l := c) (i := k) (by rw [HC.out.1]; exact h32))
        rw [Nat.zero_add] at cx
        have hxl := bys_at HC.out.2 k
        generalize c.getD k 0 = x at *
        have hx64 : IntKind.i64.wrap (x : Int) = (x : Int) := IntWalk.i64_in _ (by omega)
        have hxo : IntKind.i64.wrap ((o : Int) + x) = (o1 : Int) := by rw [IntWalk.i64_in _ (by omega)]; omega
        have HOX := hid ho1
        clear ho1 hxl ho
        go_wp2
        go_loopw [8, 10] (fun v j wr => ∃ m : Nat, m ≤ 32 ∧ m ≤ k + 1 ∧ k ≤ m + 31 ∧ j = .int .i64 m ∧ v = .int .i64 ((o1 + ps a b k m : Nat) : Int) ∧ LM w wr (nl a) (nl b) (nl c) (nl ns)) (fun _ j _ => 33 - (intOf j).toNat)
        case atStart => exact ⟨0, by omega, by omega, by omega, rfl, by simp [ps], hM⟩
        case round =>
          clear hM
          obtain ⟨m, hm1, hm2, hm3, rfl, rfl, hM⟩ := hrel
          rename World => W2
          by_cases hc1 : m < 32
          · by_cases hc2 : m ≤ k
            · have hc1i : (m : Int) < 32 := by omega
              have hc2i : (m : Int) ≤ k := by omega
              obtain ⟨q, hq⟩ : ∃ q, q = k - m := ⟨_, rfl⟩
              have HPS : Hid (ps a b k (m + 1) = ps a b k m + a.getD m 0 * b.getD q 0) := hid (by rw [ps, hq])
              have HPM := hid (HPB.out k m)
              have HQ : Hid (q < 32 ∨ b.getD q 0 = 0 ∧ ¬ q < 32) := hid (by
                by_cases h : q < 32
                · exact .inl h
                · exact .inr ⟨by rw [List.getD_eq_getElem?_getD, List.getElem?_eq_none (by rw [HB.out.1]; omega)]; rfl, h⟩)
              have hq32 : q < 32 := by omega
              have cx := hM.1.at_ (nl_at (l := a) (i := m) (by rw [HA.out.1]; exact hc1))
              have cy := hM.2.1.at_ (nl_at (l := b) (i := q) (by rw [HB.out.1]; exact hq32))
              rw [Nat.zero_add] at cx cy
              have hxl := bys_at HA.out.2 m
              have hyl := bys_at HB.out.2 q
              generalize a.getD m 0 = x at *
              generalize b.getD q 0 = y at *
              generalize ps a b k m = pm at *
              have HXY : Hid (x * y ≤ 65025) := hid (Nat.mul_le_mul (show x ≤ 255 by omega) (show y ≤ 255 by omega))
              have hx64 : IntKind.i64.wrap (x : Int) = (x : Int) := IntWalk.i64_in _ (by omega)
              have hy64 : IntKind.i64.wrap (y : Int) = (y : Int) := IntWalk.i64_in _ (by omega)
              have hqw : IntKind.i64.wrap ((k : Int) - m) = (q : Int) := by rw [IntWalk.i64_in _ (by omega)]; omega
              have hpw : IntKind.i64.wrap ((x : Int) * y) = ((x * y : Nat) : Int) := by rw [Int.natCast_mul]; exact IntWalk.i64_in _ (by have := HXY.out; rw [← Int.natCast_mul]; omega)
              obtain ⟨u, hu⟩ : ∃ u, u = o1 + pm := ⟨_, rfl⟩
              rw [← hu]
              obtain ⟨v, hv⟩ : ∃ v, v = o1 + (pm + x * y) := ⟨_, rfl⟩
              have hsw : IntKind.i64.wrap ((u : Int) + ((x * y : Nat) : Int)) = (v : Int) := by rw [IntWalk.i64_in _ (by have := HXY.out; have := HPM.out; have := HO1.out; omega)]; omega
              generalize x * y = xy at *
              have m0 : (0 : Int) ≤ m := by omega
              have q0 : (0 : Int) ≤ q := by omega
              have q32 : (q : Int) < 32 := by omega
              have HUV := hid (And.intro hq (And.intro hu hv))
              clear hq hu hv hxl hyl hq32
              go_wp2
              go_quiet (fail)
              have hM9 := hM.drewN nq
              clear cx cy hM
              generalize W2.drewN nq = W3 at *
              go_wp2
              go_roundw
              case rel => exact ⟨m + 1, by omega, by omega, by omega, by go_num, by rw [HPS.out, HUV.out.2.2], hM9⟩
              case measure => simp [intOf]; omega
            · have hc1i : (m : Int) < 32 := by omega
              have hc2i : ¬ (m : Int) ≤ k := by omega
              have hnn : ¬ (m < 32 ∧ m ≤ k) := by omega
              have HTE := hid (HPE.out k m hm1 hm2 hnn)
              have HTB := hid (HPB.out k m)
              rw [HTE.out] at HTB
              obtain ⟨T, hT⟩ : ∃ T, T = o1 + cvl a b k := ⟨_, rfl⟩
              have HN := hid (HST.out T hT (by have := HTB.out; have := HO1.out; omega))
              rw [HTE.out, ← hT]
              have HTL : Hid (T ≤ 2089300) := hid (by have := HTB.out; have := HO1.out; omega)
              have h0 : (nl ns)[k]? = some (((ns.getD k 0 : Nat)) : Int) := nl_at (by rw [HNL.out]; exact hlt)
              have cz := hM.2.2.2.2.1.at_ h0
              have fz := hM.2.2.2.2.1.free (i := k) (by rw [nl_length, HNL.out]; exact hlt)
              rw [Nat.zero_add] at cz fz
              generalize ns.getD k 0 = z at *
              have hT8 : IntKind.u8.wrap (T : Int) = ((T % 256 : Nat) : Int) := by rw [IntKind.wrap_u8]; omega
              have hTs : (T : Int) / 256 = ((T / 256 : Nat) : Int) := by omega
              have hM9 := hM.set k ((T % 256 : Nat) : Int)
              rw [nl_set] at hM9
              generalize T % 256 = t8 at *
              generalize T / 256 = ts at *
              have HTT := hid hT
              clear HTE HTB HST hT h0 hM
              go_wp2
              go_roundw
              case rel => exact ⟨k + 1, ts, ns.set k t8, by omega, by go_num, rfl, HN, hM9⟩
              case measure => simp [intOf]; omega
          · have hc1i : ¬ (m : Int) < 32 := by omega
            have hnn : ¬ (m < 32 ∧ m ≤ k) := by omega
            have HTE := hid (HPE.out k m hm1 hm2 hnn)
            have HTB := hid (HPB.out k m)
            rw [HTE.out] at HTB
            obtain ⟨T, hT⟩ : ∃ T, T = o1 + cvl a b k := ⟨_, rfl⟩
            have HN := hid (HST.out T hT (by have := HTB.out; have := HO1.out; omega))
            rw [HTE.out, ← hT]
            have HTL : Hid (T ≤ 2089300) := hid (by have := HTB.out; have := HO1.out; omega)
            have h0 : (nl ns)[k]? = some (((ns.getD k 0 : Nat)) : Int) := nl_at (by rw [HNL.out]; exact hlt)
            have cz := hM.2.2.2.2.1.at_ h0
            have fz := hM.2.2.2.2.1.free (i := k) (by rw [nl_length, HNL.out]; exact hlt)
            rw [Nat.zero_add] at cz fz
            generalize ns.getD k 0 = z at *
            have hT8 : IntKind.u8.wrap (T : Int) = ((T % 256 : Nat) : Int) := by rw [IntKind.wrap_u8]; omega
            have hTs : (T : Int) / 256 = ((T / 256 : Nat) : Int) := by omega
            have hM9 := hM.set k ((T % 256 : Nat) : Int)
            rw [nl_set] at hM9
            generalize T % 256 = t8 at *
            generalize T / 256 = ts at *
            have HTT := hid hT
            clear HTE HTB HST hT h0 hM
            go_wp2
            go_roundw
            case rel => exact ⟨k + 1, ts, ns.set k t8, by omega, by go_num, rfl, HN, hM9⟩
            case measure => simp [intOf]; omega
      · have hk32 : ¬ (k : Int) < 32 := by omega
        have ho1' : o1 = o := by
          rw [ho1, List.getD_eq_getElem?_getD, List.getElem?_eq_none (by rw [HC.out.1]; omega)]; rfl
        subst ho1'
        obtain ⟨j0, hj0⟩ : ∃ j0, j0 + 31 = k := ⟨k - 31, by omega⟩
        have w3 : IntKind.i64.wrap ((k : Int) - 32 + 1) = (j0 : Int) := by rw [w2]; omega
        have j00 : (0 : Int) < (j0 : Int) := by omega
        have HJ0 := hid hj0
        clear w2 ho1 hj0 ho
        go_wp2
        go_loopw [8, 10] (fun v j wr => ∃ m : Nat, m ≤ 32 ∧ m ≤ k + 1 ∧ k ≤ m + 31 ∧ j = .int .i64 m ∧ v = .int .i64 ((o1 + ps a b k m : Nat) : Int) ∧ LM w wr (nl a) (nl b) (nl c) (nl ns)) (fun _ j _ => 33 - (intOf j).toNat)
        case atStart => exact ⟨j0, by have := HJ0.out; omega, by have := HJ0.out; omega, by have := HJ0.out; omega, rfl, by rw [HPL.out k j0 (by have := HJ0.out; omega)]; rfl, hM⟩
        case round =>
          clear hM
          obtain ⟨m, hm1, hm2, hm3, rfl, rfl, hM⟩ := hrel
          rename World => W2
          by_cases hc1 : m < 32
          · by_cases hc2 : m ≤ k
            · have hc1i : (m : Int) < 32 := by omega
              have hc2i : (m : Int) ≤ k := by omega
              obtain ⟨q, hq⟩ : ∃ q, q = k - m := ⟨_, rfl⟩
              have HPS : Hid (ps a b k (m + 1) = ps a b k m + a.getD m 0 * b.getD q 0) := hid (by rw [ps, hq])
              have HPM := hid (HPB.out k m)
              have HQ : Hid (q < 32 ∨ b.getD q 0 = 0 ∧ ¬ q < 32) := hid (by
                by_cases h : q < 32
                · exact .inl h
                · exact .inr ⟨by rw [List.getD_eq_getElem?_getD, List.getElem?_eq_none (by rw [HB.out.1]; omega)]; rfl, h⟩)
              have hq32 : q < 32 := by omega
              have cx := hM.1.at_ (nl_at (l := a) (i := m) (by rw [HA.out.1]; exact hc1))
              have cy := hM.2.1.at_ (nl_at (l := b) (i := q) (by rw [HB.out.1]; exact hq32))
              rw [Nat.zero_add] at cx cy
              have hxl := bys_at HA.out.2 m
              have hyl := bys_at HB.out.2 q
              generalize a.getD m 0 = x at *
              generalize b.getD q 0 = y at *
              generalize ps a b k m = pm at *
              have HXY : Hid (x * y ≤ 65025) := hid (Nat.mul_le_mul (show x ≤ 255 by omega) (show y ≤ 255 by omega))
              have hx64 : IntKind.i64.wrap (x : Int) = (x : Int) := IntWalk.i64_in _ (by omega)
              have hy64 : IntKind.i64.wrap (y : Int) = (y : Int) := IntWalk.i64_in _ (by omega)
              have hqw : IntKind.i64.wrap ((k : Int) - m) = (q : Int) := by rw [IntWalk.i64_in _ (by omega)]; omega
              have hpw : IntKind.i64.wrap ((x : Int) * y) = ((x * y : Nat) : Int) := by rw [Int.natCast_mul]; exact IntWalk.i64_in _ (by have := HXY.out; rw [← Int.natCast_mul]; omega)
              obtain ⟨u, hu⟩ : ∃ u, u = o1 + pm := ⟨_, rfl⟩
              rw [← hu]
              obtain ⟨v, hv⟩ : ∃ v, v = o1 + (pm + x * y) := ⟨_, rfl⟩
              have hsw : IntKind.i64.wrap ((u : Int) + ((x * y : Nat) : Int)) = (v : Int) := by rw [IntWalk.i64_in _ (by have := HXY.out; have := HPM.out; have := HO1.out; omega)]; omega
              generalize x * y = xy at *
              have m0 : (0 : Int) ≤ m := by omega
              have q0 : (0 : Int) ≤ q := by omega
              have q32 : (q : Int) < 32 := by omega
              have HUV := hid (And.intro hq (And.intro hu hv))
              clear hq hu hv hxl hyl hq32
              go_wp2
              go_quiet (fail)
              have hM9 := hM.drewN nq
              clear cx cy hM
              generalize W2.drewN nq = W3 at *
              go_wp2
              go_roundw
              case rel => exact ⟨m + 1, by omega, by omega, by omega, by go_num, by rw [HPS.out, HUV.out.2.2], hM9⟩
              case measure => simp [intOf]; omega
            · have hc1i : (m : Int) < 32 := by omega
              have hc2i : ¬ (m : Int) ≤ k := by omega
              have hnn : ¬ (m < 32 ∧ m ≤ k) := by omega
              exfalso; omega
          · have hc1i : ¬ (m : Int) < 32 := by omega
            have hnn : ¬ (m < 32 ∧ m ≤ k) := by omega
            have HTE := hid (HPE.out k m hm1 hm2 hnn)
            have HTB := hid (HPB.out k m)
            rw [HTE.out] at HTB
            obtain ⟨T, hT⟩ : ∃ T, T = o1 + cvl a b k := ⟨_, rfl⟩
            have HN := hid (HST.out T hT (by have := HTB.out; have := HO1.out; omega))
            rw [HTE.out, ← hT]
            have HTL : Hid (T ≤ 2089300) := hid (by have := HTB.out; have := HO1.out; omega)
            have h0 : (nl ns)[k]? = some (((ns.getD k 0 : Nat)) : Int) := nl_at (by rw [HNL.out]; exact hlt)
            have cz := hM.2.2.2.2.1.at_ h0
            have fz := hM.2.2.2.2.1.free (i := k) (by rw [nl_length, HNL.out]; exact hlt)
            rw [Nat.zero_add] at cz fz
            generalize ns.getD k 0 = z at *
            have hT8 : IntKind.u8.wrap (T : Int) = ((T % 256 : Nat) : Int) := by rw [IntKind.wrap_u8]; omega
            have hTs : (T : Int) / 256 = ((T / 256 : Nat) : Int) := by omega
            have hM9 := hM.set k ((T % 256 : Nat) : Int)
            rw [nl_set] at hM9
            generalize T % 256 = t8 at *
            generalize T / 256 = ts at *
            have HTT := hid hT
            clear HTE HTB HST hT h0 hM
            go_wp2
            go_roundw
            case rel => exact ⟨k + 1, ts, ns.set k t8, by omega, by go_num, rfl, HN, hM9⟩
            case measure => simp [intOf]; omega
    · have e : k = 64 := by omega
      subst e
      have HE := hid (HEND.out ns o HI.out)
      have HL : Hid ((nl ns).length = 64) := hid (by rw [nl_length]; exact HI.out.1)
      have HNS : Hid (ns.length = 64 ∧ Bys ns) := hid ⟨HI.out.1, HI.out.2.1⟩
      obtain ⟨_, _, _, hR, hN, hW⟩ := hM
      have hs1 : W1.there (w.heap.size + 1 + 1 + 1) 0 (ints .u8 (nl ns)).toArray.size := hR.room (by rw [zeros_len]; exact HL.out)
      have hR2 := hR.stored (l' := nl ns) (by rw [zeros_len]; exact HL.out)
      have hW2 := Below.setCells hW (g := w.heap.size + 1 + 1 + 1) (by omega) 0 (ints .u8 (nl ns)).toArray.toList
      clear hlt hk HI HEND hR hW
      go_wp2_with (first
        | (with_reducible refine wpList_load_mid (op := ⟨some 55, .load 46 (.tmp 7), _, _, _, _⟩) rfl 46 (.tmp 7) rfl (w.heap.size + 1 + 1 + 1 + 1) 0 rfl (ints .u8 (nl ns)) _ (hN.range) Tryd.underlying46 rfl (l46 HL.out) ?_)
        | (with_reducible refine wpList_store_mid (op := ⟨none, .store 46 (.tmp 6) (.tmp 55), _, _, _, _⟩) rfl 46 (.tmp 6) (.tmp 55) rfl (w.heap.size + 1 + 1 + 1) 0 (ints .u8 (nl ns)).toArray rfl rfl hs1 (a46 HL.out) (ints_all _ _) ?_; generalize W1.setCells (w.heap.size + 1 + 1 + 1) 0 (ints .u8 (nl ns)).toArray.toList = W5 at *))
      exact ret_rows rfl (w.heap.size + 1 + 1 + 1) 0 rfl (ints .u8 (nl ns)) _ hR2.range Tryd.underlying46 rfl (l46 HL.out) rfl ⟨ns, rfl, hid ⟨HNS.out.1, HNS.out.2, HE.out⟩, hW2⟩
end Go.Proofs.YtcoegehnipldpaaDoor
