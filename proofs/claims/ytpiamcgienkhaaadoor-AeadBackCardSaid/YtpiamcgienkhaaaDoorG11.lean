/- Texts of this proof, laid together: DHide, LZero. -/
import Derived.Test.YtpiamcgienkhaaaDoorDBlockM
import Derived.Test.YtpiamcgienkhaaaDoorG7
/- What the reference hides. -/
namespace Go.Proofs.YtpiamcgienkhaaaDoor
open Go Go.RowKit

set_option maxRecDepth 50000 in
theorem Nums.spot1 {w : World} {k : IntKind} {g o : Nat} {xs : List Int} (h : Nums w k (some ⟨g, o, none⟩) xs) {i : Nat} {x : Int} (hx : xs[i]? = some x) : w.cell? ⟨g, o + i, none⟩ = some (.int k x) := by
  have hi := (List.getElem?_eq_some_iff.1 hx).1
  obtain ⟨b, off, e, _, hc⟩ := h (by omega)
  injection e with e; injection e with e1 e2
  subst e1 e2
  rw [hc i hi, List.getD_eq_getElem?_getD, hx]; rfl
set_option maxRecDepth 4000 in
set_option maxHeartbeats 4000000 in
theorem rhide_own (key nonce b : List Int) (c0 n lb cb gb ob : Nat) (w : World) (hk : Hid (key.length = 4 * 8)) (hn : Hid (nonce.length = 4 * 3)) (hkb : HByt key) (hnb : HByt nonce) (hb : HByt b) (hl : Hid (b.length = lb)) (h5 : lb ≤ 500) (hp : 0 < lb)
    (hcn : c0 + n ≤ 4294967296) (hbn : lb ≤ 64 * n) (hA : Nums w .u8 (some ⟨gb, ob, none⟩) b) :
    Calls Tryd.prog 17 #[.agg (ints .u8 key).toArray, .agg (ints .u8 nonce).toArray, .int .u32 (c0 : Int), .slice (some ⟨gb, ob, none⟩) lb cb] w fun e w' => ∃ A d, e = .returned (.slice A lb d) ∧ Owns w' w.heap.size 5 .u8 (.slice A lb d) (hideL b (strm key nonce c0 n)) ∧ Below w.heap.size w w' := by
  have hgb : gb < w.heap.size := by
    obtain ⟨g, o, e, hlt, _⟩ := hA (by rw [hl.out]; exact hp)
    injection e with e; injection e with e1 e2
    rw [e1]; exact hlt
  have HLH : Hid ((hideL b (strm key nonce c0 n)).length = lb) := hid (by rw [hideL_length (by rw [hl.out, strm_length hk.out hn.out]; exact hbn), hl.out])
  obtain ⟨hd, hhd⟩ : ∃ h, hideL b (strm key nonce c0 n) = h := ⟨_, rfl⟩
  have HD := hid hhd
  rw [hhd] at HLH ⊢
  clear hhd
  obtain ⟨W1, hW1⟩ : ∃ W, (w.alloc (.cells (ints .u8 key).toArray 22)).alloc (.cells (ints .u8 nonce).toArray 23) = W := ⟨_, rfl⟩
  have hK : Arr W1 w.heap.size 0 .u8 key := by rw [← hW1]; exact (Arr.made w .u8 key 22).alloc _
  have hN : Arr W1 (w.heap.size + 1) 0 .u8 nonce := by rw [← hW1]; have := Arr.made (w.alloc (.cells (ints .u8 key).toArray 22)) .u8 nonce 23; rwa [World.size_alloc] at this
  have hB : Below w.heap.size w W1 := by rw [← hW1]; exact ((Below.refl _ w).alloc (Nat.le_refl _) _).alloc (by simp) _
  have hz1 : W1.heap.size = w.heap.size + 2 := by rw [← hW1]; simp
  have HW := hid hW1
  have HZ := hid hz1
  clear hW1 hz1
  go_enter Tryd.func17, Tryd.ntmps17
  go_wp2
  rw [HW.out]
  obtain ⟨bk, hbk⟩ : ∃ b, w.heap.size = b := ⟨_, rfl⟩
  obtain ⟨bn, hbn2⟩ : ∃ b, w.heap.size + 1 = b := ⟨_, rfl⟩
  rw [hbn2] at hN ⊢
  rw [hbk] at hK hB hgb ⊢
  have l1 : bk < W1.heap.size := by rw [HZ.out]; omega
  have l2 : bn < W1.heap.size := by rw [HZ.out]; omega
  have l3 : gb < W1.heap.size := by rw [HZ.out]; omega
  have hA1 : Nums W1 .u8 (some ⟨gb, ob, none⟩) b := hA.below (by rw [hbk]; exact hB)
  have HBK := hid hbk
  clear hbk hbn2 HW hA
  have i22 : (Tryd.prog.info? 22).map (·.size) = some (ints .u8 key).length := by rw [ints_length, hk.out]; exact info22
  have i23 : (Tryd.prog.info? 23).map (·.size) = some (ints .u8 nonce).length := by rw [ints_length, hn.out]; exact info23
  have hlb0 : (0 : Int) < lb := by omega
  have hbz : bk ≤ W1.heap.size := by omega
  go_loopw [2, 9, 10] (fun v2 v9 v10 wr => ∃ (k : Nat) (A : Option Addr) (m c : Nat), 64 * k ≤ lb + 63 ∧ v10 = .int .i64 ((64 * k : Nat) : Int) ∧ v2 = .int .u32 (((c0 + k) % 4294967296 : Nat) : Int) ∧ v9 = .slice A m c ∧ Owns wr W1.heap.size 5 .u8 (.slice A m c) (hd.take (64 * k)) ∧ Below W1.heap.size W1 wr) (fun _ _ i _ => 600 - (intOf i).toNat)
  case atStart => exact ⟨0, none, 0, 0, by omega, rfl, by rw [Nat.add_zero, Nat.mod_eq_of_lt (by omega)], rfl, by rw [Nat.mul_zero, List.take_zero]; exact Owns.none_ _ _ _ _, Below.refl _ _⟩
  case round =>
    obtain ⟨k, A, m, c, hk64, rfl, rfl, rfl, hO, hBr⟩ := hrel
    obtain ⟨p, hpk⟩ : ∃ p, 64 * k = p := ⟨_, rfl⟩
    rw [hpk] at hO hk64 ⊢
    have HPK := hid hpk
    clear hpk
    have hp0 : (0 : Int) ≤ p := by omega
    by_cases hlt : p < lb
    · have hlt' : (p : Int) < lb := by omega
      have hkn : k < n := by have := HPK.out; omega
      have hcc : (c0 + k) % 4294967296 = c0 + k := Nat.mod_eq_of_lt (by omega)
      rw [hcc]
      have hK2 := (hK.below hBr l1).range
      have hN2 := (hN.below hBr l2).range
      have hzr := hBr.size
      have hwc : Hid (Wd ((c0 + k : Nat) : Int)) := hid ⟨by omega, by omega⟩
      go_wp2_with (first
        | (with_reducible refine wpList_load_mid (op := ⟨some 19, .load 22 (.tmp 4), _, _, _, _⟩) rfl 22 (.tmp 4) rfl bk 0 rfl (ints .u8 key) _ hK2 Tryd.underlying22 rfl i22 ?_)
        | (with_reducible refine wpList_load_mid (op := ⟨some 20, .load 23 (.tmp 5), _, _, _, _⟩) rfl 23 (.tmp 5) rfl bn 0 rfl (ints .u8 nonce) _ hN2 Tryd.underlying23 rfl i23 ?_)
        | (go_at_call 22; refine (rblock_any key nonce ((c0 + k : Nat) : Int) _ hk hn hkb hnb hwc).mono ?_; rintro e w2 ⟨AS, ds, rfl, hOS, hb2⟩))
      obtain ⟨bl, hbl⟩ : ∃ l, blockL key nonce ((c0 + k : Nat) : Int) = l := ⟨_, rfl⟩
      have hbl64 : Hid (bl.length = 64) := hid (by rw [← hbl]; exact blockL_length hk.out hn.out)
      have hblb : HByt bl := by rw [← hbl]; exact blockL_byt _ _ _
      have hat : ∀ j, j < 64 → (strm key nonce c0 n)[p + j]? = bl[j]? := fun j hj => by rw [← hbl, ← HPK.out]; exact strm_at hk.out hn.out n hkn hj
      have HAT := hid hat
      rw [hbl] at hOS
      obtain ⟨gs, rfl, hg1, hg2⟩ := hOS.at0 (by rw [hbl64.out]; omega)
      have hO2 := hO.stay hb2
      have hne : (Value.slice A m c).ownBlock ≠ some gs := fun e => by have := (hO.lt gs e).2; omega
      have hB2 : Below W1.heap.size W1 w2 := hBr.trans (hb2.mono hzr)
      have hAS := hOS.arr
      clear hO hOS hat hBr hb2 hg1 hK2 hN2
      generalize wr = wo at *
      go_loopw [9, 12] (fun v9 v12 wr => ∃ (j : Nat) (A : Option Addr) (m c : Nat), j ≤ 64 ∧ p + j ≤ lb ∧ v12 = .int .i64 j ∧ v9 = .slice A m c ∧ Owns wr W1.heap.size 5 .u8 (.slice A m c) (hd.take (p + j)) ∧ (Value.slice A m c).ownBlock ≠ some gs ∧ Arr wr gs 0 .u8 bl ∧ Below W1.heap.size W1 wr) (fun _ i _ => 64 - (intOf i).toNat)
      case atStart => exact ⟨0, A, m, c, by omega, by omega, rfl, rfl, hO2, hne, hAS, hB2⟩
      case round =>
        clear hO2 hne hAS hB2
        obtain ⟨j, A, m, c, hj, hpj, rfl, rfl, hO, hne, hAS, hB⟩ := hrel
        by_cases hj64 : j < 64
        · have hj1 : (j : Int) < 64 := by omega
          have hj0 : (0 : Int) ≤ j := by omega
          by_cases hlj : p + j < lb
          · have hlj1 : (p : Int) + (j : Int) < lb := by omega
            have hlj0 : 0 ≤ (p : Int) + (j : Int) := by omega
            have hwj : IntKind.i64.wrap ((p : Int) + (j : Int)) = (p : Int) + (j : Int) := IntWalk.i64_in _ (by omega)
            have htj : ((p : Int) + (j : Int)).toNat = p + j := by omega
            obtain ⟨x, hx⟩ : ∃ x, b[p + j]? = some x := ⟨b[p + j]'(by rw [hl.out]; exact hlj), by simp [hl.out, hlj]⟩
            obtain ⟨y, hy⟩ : ∃ y, bl[j]? = some y := ⟨bl[j]'(by rw [hbl64.out]; exact hj64), by simp [hbl64.out, hj64]⟩
            obtain ⟨z, hz⟩ : ∃ z, bits .xor .u8 x y = z := ⟨_, rfl⟩
            have hdz : hd[p + j]? = some z := by rw [← HD.out, ← hz]; exact hideL_at hx ((HAT.out j hj64).trans hy)
            have HMORE := hid (take_more hdz)
            have c0 : ∀ ww, Cl wr ww → ww.cell? ⟨gb, ob + (p + j), none⟩ = some (.int .u8 x) := fun ww h => (hA1.below (hB.trans (h.mono hB.size))).spot1 hx
            have c1 : ∀ ww, Cl wr ww → ww.cell? ⟨gs, j, none⟩ = some (.int .u8 y) := fun ww h => by have := (hAS.cl (hAS.lt (by rw [hbl64.out]; omega)) h).at_ hy; rwa [Nat.zero_add] at this
            have HLT : Hid ((hd.take (p + j)).length ≤ 600) := hid (by rw [List.length_take]; omega)
            have hgsl := hAS.lt (by rw [hbl64.out]; omega)
            clear hx hy hdz
            go_wp2
            refine region_spec2 13 52 (fun i => i == 12) [Is (.slice A m c), Is (.slice (some ⟨gb, ob, none⟩) lb cb), Is (.int .i64 (p : Int)), Is (.int .i64 (j : Int)), Is (.int .i64 ((p : Int) + (j : Int))), Is (.pointer (some ⟨gb, ob + (p + j), none⟩)), Is (.int .u8 x), Is (.slice (some ⟨gs, 0, none⟩) 64 ds), Is (.int .i64 (j : Int)), Is (.pointer (some ⟨gs, j, none⟩)), Is (.int .u8 y), Is (.int .u8 z), IsRowV wr.heap.size 1 [.int .u8 z]] [35, 36, 37, 38, 39, 40, 41, 42, 43, 44, 45, 46, 47] (by kernel_rfl) (by kernel_rfl) (by kernel_rfl) (Nat.le_of_eq rfl) (grows_cons (Is.grows _) (grows_cons (Is.grows _) (grows_cons (Is.grows _) (grows_cons (Is.grows _) (grows_cons (Is.grows _) (grows_cons (Is.grows _) (grows_cons (Is.grows _) (grows_cons (Is.grows _) (grows_cons (Is.grows _) (grows_cons (Is.grows _) (grows_cons (Is.grows _) (grows_cons (Is.grows _) (grows_cons (IsRowV.grows _ _ _) grows_nil)))))))))))))
              ⟨(step_ex (.slice A m c) rfl (.inl rfl) rfl fun a ww hw hf hd => by
                   have h9 : a.eval (.tmp 9) = (.slice A m c) := ((knows_out (v := (.slice A m c)) 9 (by kernel_rfl) rfl) : Knows _ _ wr _ 13 _ 0 _ _) a ww hw hf hd
                   revert h9
                   generalize a.eval = ev
                   intro h9
                   unfold execOp
                   simp only [h9]
                   go_simp),
               (step_ex (.slice (some ⟨gb, ob, none⟩) lb cb) rfl (.inl rfl) rfl fun a ww hw hf hd => by
                   have h3 : a.eval (.tmp 3) = (.slice (some ⟨gb, ob, none⟩) lb cb) := ((knows_out (v := (.slice (some ⟨gb, ob, none⟩) lb cb)) 3 (by kernel_rfl) rfl) : Knows _ _ wr _ 13 _ 1 _ _) a ww hw hf hd
                   revert h3
                   generalize a.eval = ev
                   intro h3
                   unfold execOp
                   simp only [h3]
                   go_simp),
               (step_ex (.int .i64 (p : Int)) rfl (.inl rfl) rfl fun a ww hw hf hd => by
                   have h10 : a.eval (.tmp 10) = (.int .i64 (p : Int)) := ((knows_out (v := (.int .i64 (p : Int))) 10 (by kernel_rfl) rfl) : Knows _ _ wr _ 13 _ 2 _ _) a ww hw hf hd
                   revert h10
                   generalize a.eval = ev
                   intro h10
                   unfold execOp
                   simp only [h10]
                   go_simp),
               (step_ex (.int .i64 (j : Int)) rfl (.inl rfl) rfl fun a ww hw hf hd => by
                   have h12 : a.eval (.tmp 12) = (.int .i64 (j : Int)) := ((knows_out (v := (.int .i64 (j : Int))) 12 (by kernel_rfl) rfl) : Knows _ _ wr _ 13 _ 3 _ _) a ww hw hf hd
                   revert h12
                   generalize a.eval = ev
                   intro h12
                   unfold execOp
                   simp only [h12]
                   go_simp),
               (step_ex (.int .i64 ((p : Int) + (j : Int))) rfl (.inl rfl) rfl fun a ww hw hf hd => by
                   have h37 : a.eval (.tmp 37) = (.int .i64 (p : Int)) := ((knows_in (v := (.int .i64 (p : Int))) 2 37 (by decide) (by kernel_rfl) rfl rfl) : Knows _ _ wr _ 13 _ 4 _ _) a ww hw hf hd
                   have h38 : a.eval (.tmp 38) = (.int .i64 (j : Int)) := ((knows_in (v := (.int .i64 (j : Int))) 3 38 (by decide) (by kernel_rfl) rfl rfl) : Knows _ _ wr _ 13 _ 4 _ _) a ww hw hf hd
                   revert h37 h38
                   generalize a.eval = ev
                   intro h37 h38
                   unfold execOp
                   simp only [h37, h38]
                   go_simp),
               (step_ex (.pointer (some ⟨gb, ob + (p + j), none⟩)) rfl (.inl rfl) rfl fun a ww hw hf hd => by
                   have h36 : a.eval (.tmp 36) = (.slice (some ⟨gb, ob, none⟩) lb cb) := ((knows_in (v := (.slice (some ⟨gb, ob, none⟩) lb cb)) 1 36 (by decide) (by kernel_rfl) rfl rfl) : Knows _ _ wr _ 13 _ 5 _ _) a ww hw hf hd
                   have h39 : a.eval (.tmp 39) = (.int .i64 ((p : Int) + (j : Int))) := ((knows_in (v := (.int .i64 ((p : Int) + (j : Int)))) 4 39 (by decide) (by kernel_rfl) rfl rfl) : Knows _ _ wr _ 13 _ 5 _ _) a ww hw hf hd
                   revert h36 h39
                   generalize a.eval = ev
                   intro h36 h39
                   unfold execOp
                   simp only [h36, h39]
                   go_simp),
               (step_ex (.int .u8 x) rfl (.inl rfl) rfl fun a ww hw hf hd => by
                   have h40 : a.eval (.tmp 40) = (.pointer (some ⟨gb, ob + (p + j), none⟩)) := ((knows_in (v := (.pointer (some ⟨gb, ob + (p + j), none⟩))) 5 40 (by decide) (by kernel_rfl) rfl rfl) : Knows _ _ wr _ 13 _ 6 _ _) a ww hw hf hd
                   have hcc := c0 ww hw
                   revert h40
                   generalize a.eval = ev
                   intro h40
                   unfold execOp
                   simp only [h40]
                   go_simp),
               (step_ex (.slice (some ⟨gs, 0, none⟩) 64 ds) rfl (.inl rfl) rfl fun a ww hw hf hd => by
                   have h11 : a.eval (.tmp 11) = (.slice (some ⟨gs, 0, none⟩) 64 ds) := ((knows_out (v := (.slice (some ⟨gs, 0, none⟩) 64 ds)) 11 (by kernel_rfl) rfl) : Knows _ _ wr _ 13 _ 7 _ _) a ww hw hf hd
                   revert h11
                   generalize a.eval = ev
                   intro h11
                   unfold execOp
                   simp only [h11]
                   go_simp),
               (step_ex (.int .i64 (j : Int)) rfl (.inl rfl) rfl fun a ww hw hf hd => by
                   have h12 : a.eval (.tmp 12) = (.int .i64 (j : Int)) := ((knows_out (v := (.int .i64 (j : Int))) 12 (by kernel_rfl) rfl) : Knows _ _ wr _ 13 _ 8 _ _) a ww hw hf hd
                   revert h12
                   generalize a.eval = ev
                   intro h12
                   unfold execOp
                   simp only [h12]
                   go_simp),
               (step_ex (.pointer (some ⟨gs, j, none⟩)) rfl (.inl rfl) rfl fun a ww hw hf hd => by
                   have h42 : a.eval (.tmp 42) = (.slice (some ⟨gs, 0, none⟩) 64 ds) := ((knows_in (v := (.slice (some ⟨gs, 0, none⟩) 64 ds)) 7 42 (by decide) (by kernel_rfl) rfl rfl) : Knows _ _ wr _ 13 _ 9 _ _) a ww hw hf hd
                   have h43 : a.eval (.tmp 43) = (.int .i64 (j : Int)) := ((knows_in (v := (.int .i64 (j : Int))) 8 43 (by decide) (by kernel_rfl) rfl rfl) : Knows _ _ wr _ 13 _ 9 _ _) a ww hw hf hd
                   revert h42 h43
                   generalize a.eval = ev
                   intro h42 h43
                   unfold execOp
                   simp only [h42, h43]
                   go_simp),
               (step_ex (.int .u8 y) rfl (.inl rfl) rfl fun a ww hw hf hd => by
                   have h44 : a.eval (.tmp 44) = (.pointer (some ⟨gs, j, none⟩)) := ((knows_in (v := (.pointer (some ⟨gs, j, none⟩))) 9 44 (by decide) (by kernel_rfl) rfl rfl) : Knows _ _ wr _ 13 _ 10 _ _) a ww hw hf hd
                   have hcc := c1 ww hw
                   revert h44
                   generalize a.eval = ev
                   intro h44
                   unfold execOp
                   simp only [h44]
                   go_simp),
               (step_ex (.int .u8 z) rfl (.inl rfl) rfl fun a ww hw hf hd => by
                   have h41 : a.eval (.tmp 41) = (.int .u8 x) := ((knows_in (v := (.int .u8 x)) 6 41 (by decide) (by kernel_rfl) rfl rfl) : Knows _ _ wr _ 13 _ 11 _ _) a ww hw hf hd
                   have h45 : a.eval (.tmp 45) = (.int .u8 y) := ((knows_in (v := (.int .u8 y)) 10 45 (by decide) (by kernel_rfl) rfl rfl) : Knows _ _ wr _ 13 _ 11 _ _) a ww hw hf hd
                   revert h41 h45
                   generalize a.eval = ev
                   intro h41 h45
                   unfold execOp
                   simp only [h41, h45]
                   go_simp),
               (step_bsl (.inl rfl) rfl Tryd.underlying24 inf5 (by decide) (by decide) (by kernel_rfl) rfl (parts1 (knows_in (v := (.int .u8 z)) 11 46 (by decide) (by kernel_rfl) rfl rfl))), trivial⟩ ?_
            intro val w9 hw hS hap hla
            have e35 : val 35 = (.slice A m c) := hS 0 35 (by decide) rfl
            have e36 : val 36 = (.slice (some ⟨gb, ob, none⟩) lb cb) := hS 1 36 (by decide) rfl
            have e37 : val 37 = (.int .i64 (p : Int)) := hS 2 37 (by decide) rfl
            have e38 : val 38 = (.int .i64 (j : Int)) := hS 3 38 (by decide) rfl
            have e39 : val 39 = (.int .i64 ((p : Int) + (j : Int))) := hS 4 39 (by decide) rfl
            have e40 : val 40 = (.pointer (some ⟨gb, ob + (p + j), none⟩)) := hS 5 40 (by decide) rfl
            have e41 : val 41 = (.int .u8 x) := hS 6 41 (by decide) rfl
            have e42 : val 42 = (.slice (some ⟨gs, 0, none⟩) 64 ds) := hS 7 42 (by decide) rfl
            have e43 : val 43 = (.int .i64 (j : Int)) := hS 8 43 (by decide) rfl
            have e44 : val 44 = (.pointer (some ⟨gs, j, none⟩)) := hS 9 44 (by decide) rfl
            have e45 : val 45 = (.int .u8 y) := hS 10 45 (by decide) rfl
            have e46 : val 46 = (.int .u8 z) := hS 11 46 (by decide) rfl
            simp only [putVals, List.foldl_cons, List.foldl_nil, List.drop_succ_cons, List.drop_zero, Act.put, List.setIfInBounds_toArray, List.set_cons_succ, List.set_cons_zero, e35, e36, e37, e38, e39, e40, e41, e42, e43, e44, e45, e46]
            obtain ⟨g1, hg1, hg1b, hR1⟩ : IsRowV wr.heap.size 1 [.int .u8 z] (val 47) w9 := hS 12 47 (by decide) rfl
            rw [hg1]
            clear hS hap hla e35 e36 e37 e38 e39 e40 e41 e42 e43 e44 e45 e46
            have hOw := hO.stay hw
            have hASw := hAS.cl hgsl hw
            have hBw := hB.trans (hw.mono hB.size)
            have hgw : gs < w9.heap.size := Nat.lt_of_lt_of_le hgsl hw.size
            have h63 : ((hd.take (p + j)).length + [z].length) * 1 ≤ 140737488355328 := by have := HLT.out; simp only [List.length_cons, List.length_nil]; omega
            have hX := one_row hR1
            refine app_nums rfl (.tmp 35) (.tmp 47) 24 rfl W1.heap.size 5 .u8 1 Tryd.underlying24 Tryd.info5 (by omega) A m c (hd.take (p + j)) rfl hOw (some ⟨g1, 0, none⟩) 1 [z] rfl hX h63 hBw.size ?_
            intro A' n' c' w3 hO3 hG
            rw [← HMORE.out] at hO3
            have hAS3 := hASw.grew hG hne hgw
            have hne3 := hG.far hne hgw
            have hB3 : Below W1.heap.size W1 w3 := hBw.trans (hG.below hBw.size fun g e => (hOw.lt g e).1)
            clear hO hne hAS hB hOw hASw hBw h63 hX hG hR1 hw c0 c1
            go_wp2
            go_roundw
            case rel => exact ⟨j + 1, A', n', c', by omega, by omega, by go_num, rfl, hO3, hne3, hAS3, hB3⟩
            case measure => simp [intOf]; omega
          · have hlj1 : ¬ (p : Int) + (j : Int) < lb := by omega
            have hwj : IntKind.i64.wrap ((p : Int) + (j : Int)) = (p : Int) + (j : Int) := IntWalk.i64_in _ (by omega)
            have et : hd.take (p + j) = hd.take (64 * (k + 1)) := by
              rw [List.take_of_length_le (by rw [HLH.out]; omega), List.take_of_length_le (by rw [HLH.out]; have := HPK.out; omega)]
            rw [et] at hO
            clear et
            go_wp2
            go_roundw
            case rel => exact ⟨k + 1, A, m, c, by have := HPK.out; omega, congrArg (Value.int .i64) (by have := HPK.out; omega), congrArg (Value.int .u32) (by omega), rfl, hO, hB⟩
            case measure => simp [intOf]; omega
        · have hj1 : ¬ (j : Int) < 64 := by omega
          have e : j = 64 := by omega
          rw [e] at hO
          have et : p + 64 = 64 * (k + 1) := by have := HPK.out; omega
          rw [et] at hO
          clear et e
          go_wp2
          go_roundw
          case rel => exact ⟨k + 1, A, m, c, by have := HPK.out; omega, congrArg (Value.int .i64) (by have := HPK.out; omega), congrArg (Value.int .u32) (by omega), rfl, hO, hB⟩
          case measure => simp [intOf]; omega
    · have hge : ¬ (p : Int) < lb := by omega
      have et : hd.take p = hd := List.take_of_length_le (by rw [HLH.out]; omega)
      rw [et] at hO
      have hm := hO.len
      rw [HLH.out] at hm
      subst hm
      clear et
      have hBw : Below bk w wr := hB.trans (hBr.mono hbz)
      go_wp2
      go_ret
      exact ⟨A, c, rfl, hO.lower (by rw [HBK.out]; exact hbz), by rw [HBK.out]; exact hBw⟩
set_option maxRecDepth 50000 in
theorem rhide_any (key nonce b : List Int) (c0 n lb cb gb ob : Nat) (w : World) (hk : Hid (key.length = 4 * 8)) (hn : Hid (nonce.length = 4 * 3)) (hkb : HByt key) (hnb : HByt nonce) (hb : HByt b) (hl : Hid (b.length = lb)) (h5 : lb ≤ 500) (hp : 0 < lb)
    (hcn : c0 + n ≤ 4294967296) (hbn : lb ≤ 64 * n) (hA : Nums w .u8 (some ⟨gb, ob, none⟩) b) :
    Calls Tryd.prog 17 #[.agg (ints .u8 key).toArray, .agg (ints .u8 nonce).toArray, .int .u32 (c0 : Int), .slice (some ⟨gb, ob, none⟩) lb cb] w fun e w' => ∃ A d, e = .returned (.slice A lb d) ∧ Nums w' .u8 A (hideL b (strm key nonce c0 n)) ∧ Below w.heap.size w w' :=
  (rhide_own key nonce b c0 n lb cb gb ob w hk hn hkb hnb hb hl h5 hp hcn hbn hA).mono fun e w' ⟨A, d, he, hO, hb2⟩ => ⟨A, d, he, hO.nums, hb2⟩
end Go.Proofs.YtpiamcgienkhaaaDoor

/- What the reference hides of nothing, and of all. -/
namespace Go.Proofs.YtpiamcgienkhaaaDoor
open Go Go.RowKit
set_option maxRecDepth 4000 in
set_option maxHeartbeats 4000000 in
theorem rhide_zero (key nonce : List Int) (c : Int) (A : Option Addr) (cb : Nat) (w : World) :
    Calls Tryd.prog 17 #[.agg (ints .u8 key).toArray, .agg (ints .u8 nonce).toArray, .int .u32 c, .slice A 0 cb] w fun e w' => e = .returned (.slice none 0 0) ∧ Below w.heap.size w w' := by
  obtain ⟨W1, hW1⟩ : ∃ W, (w.alloc (.cells (ints .u8 key).toArray 22)).alloc (.cells (ints .u8 nonce).toArray 23) = W := ⟨_, rfl⟩
  have hB : Below w.heap.size w W1 := by rw [← hW1]; exact ((Below.refl _ w).alloc (Nat.le_refl _) _).alloc (by simp) _
  have HW := hid hW1
  clear hW1
  go_enter Tryd.func17, Tryd.ntmps17
  go_wp2
  rw [HW.out]
  go_loopw [2, 9, 10] (fun v2 v9 v10 wr => v10 = .int .i64 0 ∧ v9 = .slice none 0 0 ∧ wr = W1) (fun _ _ _ _ => 0)
  case atStart => exact ⟨rfl, rfl, rfl⟩
  case round =>
    obtain ⟨rfl, rfl, rfl⟩ := hrel
    go_wp2
    go_ret
    exact ⟨rfl, hB⟩
set_option maxRecDepth 50000 in
theorem rhide_allown (key nonce b : List Int) (c0 n lb cb : Nat) (A0 : Option Addr) (w : World) (hk : Hid (key.length = 32)) (hn : Hid (nonce.length = 12)) (hkb : HByt key) (hnb : HByt nonce) (hb : HByt b) (hl : Hid (b.length = lb)) (h5 : lb ≤ 500)
    (hcn : c0 + n ≤ 4294967296) (hbn : lb ≤ 64 * n) (hA : Nums w .u8 A0 b) :
    Calls Tryd.prog 17 #[.agg (ints .u8 key).toArray, .agg (ints .u8 nonce).toArray, .int .u32 (c0 : Int), .slice A0 lb cb] w fun e w' => ∃ A d, e = .returned (.slice A lb d) ∧ Owns w' w.heap.size 5 .u8 (.slice A lb d) (hideL b (strm key nonce c0 n)) ∧ Below w.heap.size w w' := by
  by_cases hp : 0 < lb
  · obtain ⟨g, o, rfl, _⟩ := hA (by rw [hl.out]; exact hp)
    exact rhide_own key nonce b c0 n lb cb g o w hk hn hkb hnb hb hl h5 hp hcn hbn hA
  · obtain rfl : lb = 0 := by omega
    have e : b = [] := List.eq_nil_of_length_eq_zero hl.out
    subst e
    refine (rhide_zero key nonce c0 A0 cb w).mono ?_
    rintro e w' ⟨rfl, hB⟩
    exact ⟨none, 0, rfl, Owns.none_ _ _ _ _, hB⟩
set_option maxRecDepth 50000 in
theorem rhide_all (key nonce b : List Int) (c0 n lb cb : Nat) (A0 : Option Addr) (w : World) (hk : Hid (key.length = 32)) (hn : Hid (nonce.length = 12)) (hkb : HByt key) (hnb : HByt nonce) (hb : HByt b) (hl : Hid (b.length = lb)) (h5 : lb ≤ 500)
    (hcn : c0 + n ≤ 4294967296) (hbn : lb ≤ 64 * n) (hA : Nums w .u8 A0 b) :
    Calls Tryd.prog 17 #[.agg (ints .u8 key).toArray, .agg (ints .u8 nonce).toArray, .int .u32 (c0 : Int), .slice A0 lb cb] w fun e w' => ∃ A d, e = .returned (.slice A lb d) ∧ Nums w' .u8 A (hideL b (strm key nonce c0 n)) ∧ Below w.heap.size w w' :=
  (rhide_allown key nonce b c0 n lb cb A0 w hk hn hkb hnb hb hl h5 hcn hbn hA).mono fun e w' ⟨A, d, he, hO, hb2⟩ => ⟨A, d, he, hO.nums, hb2⟩
end Go.Proofs.YtpiamcgienkhaaaDoor
