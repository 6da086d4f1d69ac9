/- The law of the kinds: each number of the table is the part of the cube root of its prime; those at the begin are parts of square roots. -/
import Derived.Test.YtjgojbjehedpaaaDoorPrimes
import Derived.Test.YtjgojbjehedpaaaDoorRefA
namespace Go.Proofs.YtjgojbjehedpaaaDoor
open Go.RowKit

/-- v is the part of the k-th root of p. -/
def IsPart (k p : Nat) (v : Int) : Prop := 0 ≤ v ∧ v < 18446744073709551616 ∧ partOf k p v = true
theorem IsPart.eq {k p : Nat} {v : Int} (h : IsPart k p v) {whole part : Nat} (hr : part < 18446744073709551616 ∧ (whole * 18446744073709551616 + part) ^ k ≤ p * 18446744073709551616 ^ k ∧ p * 18446744073709551616 ^ k < (whole * 18446744073709551616 + part + 1) ^ k) : v = part :=
  part_is h.1 h.2.1 h.2.2 hr.1 hr.2.1 hr.2.2
theorem zip_at {xs : List Int} {k : Nat} (h : (xs.zip PRIMES).all (fun x => partOf k x.2 x.1 && decide (0 ≤ x.1 ∧ x.1 < 18446744073709551616 ∧ 2 ≤ x.2 ∧ x.2 ≤ 500)) = true) {i : Nat} (hi : i < xs.length) (hi2 : i < PRIMES.length) :
    ∃ (p : Nat) (v : Int), PRIMES[i]? = some p ∧ xs[i]? = some v ∧ (2 ≤ p ∧ p ≤ 500) ∧ Hid (IsPart k p v) := by
  refine ⟨PRIMES[i], xs[i], by simp [hi2], by simp [hi], ?_⟩
  have h1 := List.all_eq_true.1 h (xs[i], PRIMES[i]) (by rw [List.mem_iff_getElem]; exact ⟨i, by simp; omega, by simp⟩)
  simp only [Bool.and_eq_true, decide_eq_true_eq] at h1
  exact ⟨h1.2.2.2, hid ⟨h1.2.1, h1.2.2.1, h1.1⟩⟩
theorem nl_get {l : List Nat} {i p : Nat} (h : l[i]? = some p) : (nl l)[i]? = some (p : Int) := by simp [nl, h]

theorem Nums.open_ {w : World} {k : IntKind} {A : Option Addr} {xs : List Int} (h : Nums w k A xs) (hp : 0 < xs.length) : ∃ g o, A = some ⟨g, o, none⟩ ∧ Nums w k (some ⟨g, o, none⟩) xs := by
  obtain ⟨b, off, e, h2⟩ := h hp
  exact ⟨b, off, e, e ▸ h⟩
theorem rroot3 (p : Nat) (w : World) (hp : 2 ≤ p ∧ p ≤ 500) :
    Calls Tryd.prog 16 #[.int .i64 p, .int .i64 3] w fun e w' => (∃ whole r : Nat, e = .returned (.int .u64 r) ∧ Hid (r < 18446744073709551616 ∧ (whole * 18446744073709551616 + r) ^ 3 ≤ p * 18446744073709551616 ^ 3 ∧ p * 18446744073709551616 ^ 3 < (whole * 18446744073709551616 + r + 1) ^ 3)) ∧ Below w.heap.size w w' := rroot_any p 3 w hp (by omega)
theorem rroot2 (p : Nat) (w : World) (hp : 2 ≤ p ∧ p ≤ 500) :
    Calls Tryd.prog 16 #[.int .i64 p, .int .i64 2] w fun e w' => (∃ whole r : Nat, e = .returned (.int .u64 r) ∧ Hid (r < 18446744073709551616 ∧ (whole * 18446744073709551616 + r) ^ 2 ≤ p * 18446744073709551616 ^ 2 ∧ p * 18446744073709551616 ^ 2 < (whole * 18446744073709551616 + r + 1) ^ 2)) ∧ Below w.heap.size w w' := rroot_any p 2 w hp (by omega)
theorem kinds_of {ks : List Int} (h : Hid (KINDS = ks)) (w : World) (ht : Tabs w) : Calls Tryd.prog 17 #[] w fun e w' => e = .returned (.agg (ints .u64 ks).toArray) ∧ Below w.heap.size w w' := h.out ▸ kinds_any w ht
theorem told_of {ks : List Int} (h : Hid (KINDS = ks)) (w : World) : Calls Tryd.prog 19 #[] w fun e w' => ∃ g, e = .returned (.slice (some ⟨g, 0, none⟩) 80 80) ∧ Nums w' .u64 (some ⟨g, 0, none⟩) ks ∧ Below w.heap.size w w' := h.out ▸ told_any w
theorem begin_of {fs : List Int} (h : Hid (FIRST = fs)) (w : World) : Calls Tryd.prog 20 #[] w fun e w' => ∃ g, e = .returned (.slice (some ⟨g, 0, none⟩) 8 8) ∧ Nums w' .u64 (some ⟨g, 0, none⟩) fs ∧ Below w.heap.size w w' := h.out ▸ begin_any w
theorem primes_of {ps : List Int} (h : Hid (nl PRIMES = ps)) (w : World) : Calls Tryd.prog 18 #[.int .i64 80] w fun e w' => ∃ A c, e = .returned (.slice A 80 c) ∧ NumsF w.heap.size w' .i64 A ps ∧ Below w.heap.size w w' := h.out ▸ primes_any w

set_option maxRecDepth 4000 in
set_option maxHeartbeats 2000000 in
theorem shaKinds_walk (w : World) (ht : Tabs w) (t : Int) (h0 : (Lit.int .u8 t).wf = true) :
    Calls Tryd.prog 6 #[.int .u8 t] w fun e w' => e = .returned (.bool true) ∧ Below w.heap.size w w' := by
  have hb8 := bounds_u8 h0
  have t0 : 0 ≤ t := hb8.1
  have t1 : t < 256 := by omega
  clear hb8 h0
  obtain ⟨i, hi⟩ : ∃ i : Nat, t % 80 = i := ⟨(t % 80).toNat, by omega⟩
  obtain ⟨j, hj⟩ : ∃ j : Nat, (i : Int) % 8 = j := ⟨i % 8, by omega⟩
  have i0 : (0 : Int) ≤ i := by omega
  have i8 : (i : Int) < 80 := by omega
  have j0 : (0 : Int) ≤ j := by omega
  have j8 : (j : Int) < 8 := by omega
  have j80 : (j : Int) < 80 := by omega
  have hw : IntKind.i64.wrap t = t := IntWalk.i64_in _ (by omega)
  obtain ⟨z42, s42⟩ := zero_of_info Tryd.info42
  have hsz2 : (Tryd.prog.info? 42).map (·.size) = some (ints .u64 KINDS).toArray.size := by rw [s42]; rfl
  obtain ⟨p, v, Hp, Hv, hp, HP⟩ := zip_at kinds_parts (i := i) (by show i < 80; omega) (by rw [primes_length]; omega)
  obtain ⟨q, u, Hq, Hu, hq, HQ⟩ := zip_at first_parts (i := j) (by show j < 8; omega) (by rw [primes_length]; omega)
  have hth : ∀ W : World, (W.alloc (.cells (ints .u64 (zeros 80)).toArray 42)).there W.heap.size 0 (ints .u64 KINDS).toArray.size := fun W => (Arr.made W .u64 (zeros 80) 42).there
  have hAK : ∀ W : World, ((W.alloc (.cells (ints .u64 (zeros 80)).toArray 42)).setCells W.heap.size 0 (ints .u64 KINDS).toArray.toList).cell? ⟨W.heap.size, i, none⟩ = some (.int .u64 v) := fun W => by
    have h := ((Arr.made W .u64 (zeros 80) 42).all (ys := KINDS) rfl).at_ Hv
    rw [Nat.zero_add] at h
    exact h
  have HPL : Hid ((nl PRIMES).length = 80) := hid (by rw [nl_length, primes_length])
  have HPi := hid (nl_get Hp)
  have HPj := hid (nl_get Hq)
  clear Hp Hq
  have HKI := hid Hv
  have HFI := hid Hu
  clear Hv Hu
  have hf8 : FIRST.length = 8 := rfl
  have HF8 := hid hf8
  clear hf8
  generalize hks : KINDS = ks at *
  have HKS := hid hks
  clear hks
  generalize hfs : FIRST = fs at *
  have HFS := hid hfs
  clear hfs
  generalize hN : nl PRIMES = ps at *
  have HNP := hid hN
  clear hN
  go_enter Tryd.func6, Tryd.ntmps6
  go_wp2_with (first
    | (go_at_call 7; refine (awake_any _ ht).mono ?_; rintro e w1 ⟨rfl, hb1⟩; have ht1 := ht.next hb1)
    | (go_at_call 17; refine (kinds_of HKS _ ht1).mono ?_; rintro e w2 ⟨rfl, hb2⟩; have hbb2 := hb1.trans (hb2.mono hb1.size))
    | (with_reducible refine wpList_store_mid (op := ⟨none, .store 42 (.tmp 4) (.tmp 15), _, _, _, _⟩) rfl 42 (.tmp 4) (.tmp 15) rfl _ 0 (ints .u64 ks).toArray rfl rfl (hth w2) hsz2 (ints_all _ _) ?_))
  have ck := hAK w2
  have hb := Below.setCells (hbb2.alloc hbb2.size (.cells (ints .u64 (zeros 80)).toArray 42)) (g := w2.heap.size) hbb2.size 0 (ints .u64 ks).toArray.toList
  have kl := World.block_lt_of_cell? _ _ ck
  generalize ((w2.alloc (.cells (ints .u64 (zeros 80)).toArray 42)).setCells w2.heap.size 0 (ints .u64 ks).toArray.toList) = w3 at *
  generalize w2.heap.size = K0 at *
  clear hAK hth ht hb1 hb2 hbb2
  go_wp2_with (first
    | (go_at_call 18; refine (primes_of HNP _).mono ?_; rintro e w4 ⟨A, c, rfl, hN, hb4⟩; obtain ⟨g, o, rfl, HN⟩ := hN.nums.open_ (by rw [HPL.out]; omega); replace ck := (hb4.cell (p := ⟨K0, i, none⟩) kl).trans ck; replace kl := Nat.lt_of_lt_of_le kl hb4.size; replace hb := hb.trans (hb4.mono hb.size); clear hN; have cp := num_cell HN HPi.out; have cq := num_cell HN HPj.out)
    | (go_at_call 15; (with_reducible refine (root2 q _ hq).mono ?_); rintro e w6 ⟨⟨whole2, part2, rfl, HR2⟩, hb6⟩; replace HN := HN.below hb6; replace ck := (hb6.cell (p := ⟨K0, i, none⟩) kl).trans ck; replace kl := Nat.lt_of_lt_of_le kl hb6.size; replace hb := hb.trans (hb6.mono hb.size); clear cp cq; have cp := num_cell HN HPi.out; have cq := num_cell HN HPj.out; obtain rfl := HQ.out.eq HR2.out)
    | (go_at_call 15; (with_reducible refine (root3 p _ hp).mono ?_); rintro e w5 ⟨⟨whole, part, rfl, HR⟩, hb5⟩; replace HN := HN.below hb5; replace ck := (hb5.cell (p := ⟨K0, i, none⟩) kl).trans ck; replace kl := Nat.lt_of_lt_of_le kl hb5.size; replace hb := hb.trans (hb5.mono hb.size); clear cp cq; have cp := num_cell HN HPi.out; have cq := num_cell HN HPj.out; obtain rfl := HP.out.eq HR.out)
    | (go_at_call 19; refine (told_of HKS _).mono ?_; rintro e w7 ⟨g7, rfl, hN7, hb7⟩; have ck7 := num_cell hN7 HKI.out; rw [Nat.zero_add] at ck7; replace HN := HN.below hb7; replace hb := hb.trans (hb7.mono hb.size); clear cp cq; have cp := num_cell HN HPi.out; have cq := num_cell HN HPj.out)
    | (go_at_call 16; (with_reducible refine (rroot2 q _ hq).mono ?_); rintro e w10 ⟨⟨whole10, r10, rfl, HR10⟩, hb10⟩; replace hb := hb.trans (hb10.mono hb.size); obtain rfl : part2 = r10 := root_unique HR2.out.1 HR10.out.1 HR2.out.2.1 HR2.out.2.2 HR10.out.2.1 HR10.out.2.2)
    | (go_at_call 16; (with_reducible refine (rroot3 p _ hp).mono ?_); rintro e w8 ⟨⟨whole8, r8, rfl, HR8⟩, hb8⟩; replace HN := HN.below hb8; replace hb := hb.trans (hb8.mono hb.size); clear cp cq; have cp := num_cell HN HPi.out; have cq := num_cell HN HPj.out; obtain rfl : part = r8 := root_unique HR.out.1 HR8.out.1 HR.out.2.1 HR.out.2.2 HR8.out.2.1 HR8.out.2.2)
    | (go_at_call 20; refine (begin_of HFS _).mono ?_; rintro e w9 ⟨g9, rfl, hN9, hb9⟩; have cf9 := num_cell hN9 HFI.out; rw [Nat.zero_add] at cf9; replace HN := HN.below hb9; replace hb := hb.trans (hb9.mono hb.size); clear cp cq; have cp := num_cell HN HPi.out; have cq := num_cell HN HPj.out))
  go_ret
  exact ⟨rfl, hb⟩
end Go.Proofs.YtjgojbjehedpaaaDoor
