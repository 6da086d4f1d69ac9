/- Of: the number of bytes. -/
import Derived.Test.YthohfhloobmlpaaPMul
namespace Go.Proofs.Ythohfhloobmlpaa
open Go Go.RowKit

/-- Numbers are copied into a row that has room. -/
theorem run_copyN {w : World} {b o m c L c' : Nat} {A : Option Addr} {xs : List Int} (hX : Nums w .u8 A xs) (hl : xs.length = L) (hm : L ≤ m) (ht : w.there b o L) :
    (Builtin.copy_ #[23, 23] 3 #[.slice (some ⟨b, o, none⟩) m c, .slice A L c']).run Try.prog w = .ok (.int .i64 (L : Int)) (w.setCells b o (ints .u8 xs)) := by
  subst hl
  rcases Nat.eq_zero_or_pos xs.length with h0 | hp
  · have e := List.eq_nil_of_length_eq_zero h0
    subst e
    exact run_copy_none w 23 23 3 5 _ A m c 0 c' Try.underlying23 (by kernel_rfl) (Nat.zero_min m)
  · obtain ⟨b2, f2, rfl, hlt, hc⟩ := hX hp
    have h := run_copy_cells (P := Try.prog) w 23 23 3 5 b o m c ⟨b2, f2, none⟩ xs.length c' (ints .u8 xs) Try.underlying23 (by kernel_rfl) (by rw [ints_length]; exact (Nat.min_eq_left hm).symm) (fun j v hv => by
      simp only [ints, List.getElem?_map, Option.map_eq_some_iff] at hv
      obtain ⟨x, hx, rfl⟩ := hv
      have hj := (List.getElem?_eq_some_iff.1 hx).1
      rw [Addr.add_mid, hc j hj, List.getD_eq_getElem?_getD, hx]; rfl) (fun j hj => (ht j (by rwa [ints_length] at hj)).1) (fun j hj => (ht j (by rwa [ints_length] at hj)).2) (ints_one _ _)
    rw [ints_length] at h
    exact h
/-- Two results: a row in memory, and a slot. -/
theorem results_row2 {P : Program} {fn : Func} {p s : Tmp} {ty : TypeId} (h : fn.results = #[.cell p ty, .tmp s]) (tmps : Array Value) (w : World) (b o : Nat) (hp : tmps.getD p undef = .pointer (some ⟨b, o, none⟩)) (v : Value) (hs : tmps.getD s undef = v)
    (cs : List Value) (d : TypeDesc) (hc : w.rangeAt b o cs) (hu : P.underlying ty = some d) (hd : d.isRow = true) (hi : (P.info? ty).map (·.size) = some cs.length) :
    (results fn tmps).run P w = .ok (.tuple #[.agg cs.toArray, v]) w := by
  simp only [results, h]
  have hp2 : tmps[p]?.getD undef = .pointer (some ⟨b, o, none⟩) := by rw [← hp]; simp
  have hs2 : tmps[s]?.getD undef = v := by rw [← hs]; simp
  simp [hp2, hs2, asAddr, run_loadVar_mid w b o ty cs d hc hu hd hi]
theorem over_zeros {xs : List Int} {n : Nat} (h : xs.length ≤ n) : over (zeros n) 0 xs = xs ++ zeros (n - xs.length) := by
  simp [over, zeros]
theorem bn_pad (xs : List Int) (n : Nat) : bn (xs ++ zeros n) = bn xs := by
  unfold bn
  rw [bv_append, bv_zeros, Int.mul_zero, Int.add_zero]
set_option maxRecDepth 4000 in
set_option maxHeartbeats 2000000 in
theorem of_core (A : Option Addr) (L c : Nat) (bs cs r : List Int) (w : World) (hl : bs.length = L) (hn : L ≤ 17) (hA : Nums w .u8 A bs) (HC : Hid (over (zeros 17) 0 bs = cs)) (HCL : Hid (cs.length = 17))
    (HK : Hid (∀ w, Calls Try.prog 24 #[.agg (ints .u8 cs).toArray] w fun e w' => e = .returned (.agg (ints .u8 r).toArray) ∧ Below w.heap.size w w')) (HRL : Hid (r.length = 17)) :
    Calls Try.prog 18 #[.slice A L c] w fun e w' => e = .returned (.tuple #[.agg (ints .u8 r).toArray, .int .i64 0]) ∧ Below w.heap.size w w' := by
  obtain ⟨z25, s25⟩ := zero_of_info inf25
  have hR := (Arr.made w .u8 (zeros 17) 25).alloc (.cells (ints .u8 (zeros 17)).toArray 25)
  have hD := Arr.made (w.alloc (.cells (ints .u8 (zeros 17)).toArray 25)) .u8 (zeros 17) 25
  rw [World.size_alloc] at hD
  have hW := (below_new w (.cells (ints .u8 (zeros 17)).toArray 25)).alloc (by simp) (.cells (ints .u8 (zeros 17)).toArray 25)
  have hA0 := hA.below hW
  have hth : ((w.alloc (.cells (ints .u8 (zeros 17)).toArray 25)).alloc (.cells (ints .u8 (zeros 17)).toArray 25)).there (w.heap.size + 1) 0 L := fun j hj => hD.there j (by rw [zeros_len]; omega)
  have hcp := run_copyN (m := 17) (c := 17) (c' := c) hA0 hl hn hth
  have hD1 := hD.over (j := 0) (ys := bs) (by rw [zeros_len]; omega)
  rw [Nat.add_zero, HC.out] at hD1
  have hR1 := hR.past (b' := w.heap.size + 1) (o' := 0) (ints .u8 bs) (.inl (by omega))
  have hW1 := Below.setCells hW (g := w.heap.size + 1) (by omega) 0 (ints .u8 bs)
  have hL : ¬ (17 : Int) < (L : Int) := by omega
  have HL := hid hl
  clear hA hA0 hR hD hW hth hl hn
  go_enter Try.func18, Try.ntmps18
  go_wp2_with (first
    | (with_reducible refine wpList_load_mid (op := ⟨some 12, .load 25 (.tmp 4), _, _, _, _⟩) rfl 25 (.tmp 4) rfl (w.heap.size + 1) 0 rfl (ints .u8 cs) _ (hD1.range) Try.underlying25 rfl (l25 HCL.out) ?_))
  clear hcp
  generalize (((w.alloc (.cells (ints .u8 (zeros 17)).toArray 25)).alloc (.cells (ints .u8 (zeros 17)).toArray 25)).setCells (w.heap.size + 1) 0 (ints .u8 bs)) = W1 at *
  refine (HK.out _).mono ?_
  rintro e w1 ⟨rfl, hb1⟩
  replace hR1 := hR1.next hb1
  replace hW1 := hW1.trans (Below.mono hb1 hW1.size)
  clear hD1 hb1
  have hs1 : w1.there w.heap.size 0 (ints .u8 r).toArray.size := hR1.room (by rw [zeros_len]; exact HRL.out)
  have hR2 := hR1.stored (l' := r) (by rw [zeros_len]; exact HRL.out)
  have hW2 := Below.setCells hW1 (g := w.heap.size) (by omega) 0 (ints .u8 r).toArray.toList
  go_wp2_with (first
    | (with_reducible refine wpList_store_mid (op := ⟨none, .store 25 (.tmp 2) (.tmp 13), _, _, _, _⟩) rfl 25 (.tmp 2) (.tmp 13) rfl w.heap.size 0 (ints .u8 r).toArray rfl rfl hs1 (a25 HRL.out) (ints_all _ _) ?_; generalize w1.setCells w.heap.size 0 (ints .u8 r).toArray.toList = W5 at *))
  exact bodyPost_ret (results_row2 rfl _ _ w.heap.size 0 rfl (.int .i64 0) rfl (ints .u8 r) _ hR2.range Try.underlying25 rfl (l25 HRL.out)) rfl ⟨rfl, hW2⟩
theorem of_yes (A : Option Addr) (L c : Nat) (bs : List Int) (w : World) (hl : bs.length = L) (hn : L ≤ 17) (hb : Byt bs) (hA : Nums w .u8 A bs) :
    Calls Try.prog 18 #[.slice A L c] w fun e w' => e = .returned (.tuple #[.agg (ints .u8 (pb (bn bs % PN))).toArray, .int .i64 0]) ∧ Below w.heap.size w w' := by
  have ho := over_zeros (xs := bs) (n := 17) (by omega)
  have hlen : (bs ++ zeros (17 - bs.length)).length = 17 := by simp [zeros]; omega
  refine of_core A L c bs (bs ++ zeros (17 - bs.length)) _ w hl hn hA (hid ho) (hid hlen) (hid fun w => ?_) (hid (pb_length _))
  have := reduced_any (bs ++ zeros (17 - bs.length)) w hlen (hb.app (byt_zeros _))
  rwa [bn_pad] at this
set_option maxRecDepth 4000 in
set_option maxHeartbeats 2000000 in
theorem of_no (A : Option Addr) (L c : Nat) (w : World) (hn : 17 < L) : Calls Try.prog 18 #[.slice A L c] w fun e w' => e = .returned (.tuple #[.agg (ints .u8 (zeros 17)).toArray, .int .i64 3]) ∧ Below w.heap.size w w' := by
  obtain ⟨z25, s25⟩ := zero_of_info inf25
  have hR := Arr.made w .u8 (zeros 17) 25
  have hW := below_new w (.cells (ints .u8 (zeros 17)).toArray 25)
  have hL : (17 : Int) < (L : Int) := by omega
  have hs1 : (w.alloc (.cells (ints .u8 (zeros 17)).toArray 25)).there w.heap.size 0 (ints .u8 (zeros 17)).toArray.size := hR.room rfl
  have hR3 := hR.stored (l' := zeros 17) rfl
  have hW2 := Below.setCells hW (g := w.heap.size) (Nat.le_refl _) 0 (ints .u8 (zeros 17)).toArray.toList
  clear hn hR hW
  go_enter Try.func18, Try.ntmps18
  go_wp2_with (first
    | (with_reducible refine wpList_built (o := ⟨some 8, .build 25 #[], _, _, _, _⟩) rfl 25 #[] rfl [] (ints .u8 (zeros 17)).toArray rfl built25 ?_)
    | (with_reducible refine wpList_store_mid (op := ⟨none, .store 25 (.tmp 2) (.tmp 8), _, _, _, _⟩) rfl 25 (.tmp 2) (.tmp 8) rfl w.heap.size 0 (ints .u8 (zeros 17)).toArray rfl rfl hs1 (a25 (zeros_len 17)) (ints_all _ _) ?_; generalize (w.alloc (.cells (ints .u8 (zeros 17)).toArray 25)).setCells w.heap.size 0 (ints .u8 (zeros 17)).toArray.toList = W5 at *))
  exact bodyPost_ret (results_row2 rfl _ _ w.heap.size 0 rfl (.int .i64 3) rfl (ints .u8 (zeros 17)) _ hR3.range Try.underlying25 rfl (l25 (zeros_len 17))) rfl ⟨rfl, hW2⟩
end Go.Proofs.Ythohfhloobmlpaa
