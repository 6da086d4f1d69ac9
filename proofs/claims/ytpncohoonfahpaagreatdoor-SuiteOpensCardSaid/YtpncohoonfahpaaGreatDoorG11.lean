/- Texts of this proof, laid together: VFill, VRow. -/
import Derived.Test.YtpncohoonfahpaaGreatDoorG9
import Derived.Test.YtpncohoonfahpaaGreatDoorG10
import Derived.Lib.AppendZerosOnto
import Derived.Deep.Onto
/- fill: the block of a key. -/
namespace Go.Proofs.YtpncohoonfahpaaGreatDoor
open Go Go.RowKit

set_option maxRecDepth 50000 in
/-- Numbers are copied into a row that has room. -/
theorem run_copyV {w : World} {b o m c L c' : Nat} {A : Option Addr} {xs : List Int} (hX : Nums w .u8 A xs) (hl : xs.length = L) (hm : L ≤ m) (ht : w.there b o L) :
    (Builtin.copy_ #[23, 23] 3 #[.slice (some ⟨b, o, none⟩) m c, .slice A L c']).run Tryz.prog w = .ok (.int .i64 (L : Int)) (w.setCells b o (ints .u8 xs)) := by
  subst hl
  rcases Nat.eq_zero_or_pos xs.length with h0 | hp
  · have e := List.eq_nil_of_length_eq_zero h0
    subst e
    exact run_copy_none w 23 23 3 5 _ A m c 0 c' Tryz.underlying23 (by kernel_rfl) (Nat.zero_min m)
  · obtain ⟨b2, f2, rfl, hlt, hc⟩ := hX hp
    have h := run_copy_cells (P := Tryz.prog) w 23 23 3 5 b o m c ⟨b2, f2, none⟩ xs.length c' (ints .u8 xs) Tryz.underlying23 (by kernel_rfl) (by rw [ints_length]; exact (Nat.min_eq_left hm).symm) (fun j v hv => by
      simp only [ints, List.getElem?_map, Option.map_eq_some_iff] at hv
      obtain ⟨x, hx, rfl⟩ := hv
      have hj := (List.getElem?_eq_some_iff.1 hx).1
      rw [Addr.add_mid, hc j hj, List.getD_eq_getElem?_getD, hx]; rfl) (fun j hj => (ht j (by rwa [ints_length] at hj)).1) (fun j hj => (ht j (by rwa [ints_length] at hj)).2) (ints_one _ _)
    rw [ints_length] at h
    exact h
set_option maxRecDepth 50000 in
theorem infF : (Tryz.prog.info? 176).map (fun i => (i.zero, i.size)) = some (some (.agg (ints .u8 (hzeros 128)).toArray), 128) := by kernel_rfl
set_option maxRecDepth 50000 in
theorem infH : (Tryz.prog.info? 38).map (fun i => (i.zero, i.size)) = some (some (.agg (ints .u8 (hzeros 64)).toArray), 64) := by kernel_rfl
set_option maxRecDepth 50000 in
theorem infS32 : (Tryz.prog.info? 22).map (fun i => (i.zero, i.size)) = some (some (.agg (ints .u8 (hzeros 32)).toArray), 32) := by kernel_rfl
set_option maxRecDepth 50000 in
theorem over_hz {xs : List Int} {n : Nat} (h : xs.length ≤ n) : over (hzeros n) 0 xs = xs ++ hzeros (n - xs.length) := by
  simp [over, hzeros]
set_option maxRecDepth 50000 in
/-- The hash of parts, its bytes named. -/
theorem vsum (PA : Option Addr) (pc m : Nat) (ps : List (Option Addr × Nat × List Int)) (T r : List Int) (w : World) (ht : TabsH w) (hP : Parts w PA ps) (hok : ∀ q ∈ ps, PartOk w q) (hm : Hid (ps.length = m)) (hm2 : m ≤ 1000) (hT : Hid (flat ps = T)) (hl : Hid (T.length ≤ 100000)) (hr : Hid (hash T = r)) :
    Calls Tryz.prog 104 #[.slice PA m pc] w fun e w' => e = .returned (.agg (ints .u8 r).toArray) ∧ Below w.heap.size w w' := by
  have h := sum_any PA pc ps w ht hP hok (by rw [hT.out]; exact hl.out) (by rw [hm.out]; exact hm2)
  rw [hm.out] at h
  refine h.mono ?_
  rintro e w' ⟨ys, rfl, HY, _, hb⟩
  have e : ys = r := by rw [← hr.out, ← hT.out]; exact HY.out
  subst e
  exact ⟨rfl, hb⟩
set_option maxRecDepth 50000 in
theorem vsum_one (g c l : Nat) (A : Option Addr) (xs r : List Int) (w : World) (ht : TabsH w) (hg : g < w.heap.size) (hc : w.cell? ⟨g, 0, none⟩ = some (.slice A l c)) (hl : Hid (xs.length = l)) (hlc : l ≤ c) (h1 : l ≤ 1000) (hb : HByt xs) (hA : Nums w .u8 A xs) (hr : Hid (hash xs = r)) :
    Calls Tryz.prog 104 #[.slice (some ⟨g, 0, none⟩) 1 1] w fun e w' => e = .returned (.agg (ints .u8 r).toArray) ∧ Below w.heap.size w w' := by
  refine vsum (some ⟨g, 0, none⟩) 1 1 [(A, c, xs)] xs r w ht (fun _ => ⟨g, 0, rfl, hg, fun i q hi => ?_⟩) (fun q hq => ?_) (hid rfl) (by omega) (hid (by simp [flat])) (hid (by rw [hl.out]; omega)) hr
  · have : i = 0 := by have := (List.getElem?_eq_some_iff.1 hi).1; simp at this; exact this
    subst this
    simp at hi
    subst hi
    show w.cell? ⟨g, 0, none⟩ = some (.slice A xs.length c)
    rw [hl.out]; exact hc
  · simp at hq
    subst hq
    exact ⟨hA, by show xs.length ≤ c; rw [hl.out]; exact hlc, by show xs.length ≤ 1000; rw [hl.out]; exact h1, hb⟩
set_option maxRecDepth 50000 in
set_option maxHeartbeats 2000000 in
theorem fill_small (A : Option Addr) (l c : Nat) (key F : List Int) (w : World) (hl : Hid (key.length = l)) (h1 : l ≤ 128) (hA : Nums w .u8 A key) (HF : Hid (over (hzeros 128) 0 key = F)) (HFL : Hid (F.length = 128)) :
    Calls Tryz.prog 204 #[.slice A l c] w fun e w' => e = .returned (.agg (ints .u8 F).toArray) ∧ Below w.heap.size w w' := by
  obtain ⟨z46, s46⟩ := zero_of_info infF
  have hR := (Arr.made w .u8 (hzeros 128) 176).alloc (.cells (ints .u8 (hzeros 128)).toArray 176)
  have hD := Arr.made (w.alloc (.cells (ints .u8 (hzeros 128)).toArray 176)) .u8 (hzeros 128) 176
  rw [World.size_alloc] at hD
  have hW := (below_new w (.cells (ints .u8 (hzeros 128)).toArray 176)).alloc (by simp) (.cells (ints .u8 (hzeros 128)).toArray 176)
  have hA0 := hA.below hW
  have hth : ((w.alloc (.cells (ints .u8 (hzeros 128)).toArray 176)).alloc (.cells (ints .u8 (hzeros 128)).toArray 176)).there (w.heap.size + 1) 0 l := fun j hj => hD.there j (by rw [hz_len]; omega)
  have hcp := run_copyV (m := 128) (c := 128) (c' := c) hA0 hl.out h1 hth
  have hD1 := hD.over (j := 0) (ys := key) (by rw [hz_len, hl.out]; omega)
  rw [Nat.add_zero, HF.out] at hD1
  have hR1 := hR.past (b' := w.heap.size + 1) (o' := 0) (ints .u8 key) (.inl (by omega))
  have hW1 := Below.setCells hW (g := w.heap.size + 1) (by omega) 0 (ints .u8 key)
  have R2 := hR1.rw.roomA (us := ints .u8 F) ((il HFL.out).trans (il (hz_len 128)).symm)
  have X2 := hR1.rw.storedA (us := ints .u8 F) ((il HFL.out).trans (il (hz_len 128)).symm)
  have hW2 := Below.setCells hW1 (g := w.heap.size) (Nat.le_refl _) 0 (ints .u8 F).toArray.toList
  have hL : ¬ (128 : Int) < (l : Int) := by omega
  clear hA hA0 hR hD hW hth hR1 hW1
  go_enter Tryz.func204, Tryz.ntmps204
  go_wp2_with (first
    | (with_reducible refine wpList_load_mid (op := ⟨some 15, .load 176 (.tmp 4), _, _, _, _⟩) rfl 176 (.tmp 4) rfl (w.heap.size + 1) 0 rfl (ints .u8 F) _ (hD1.range) Tryz.underlying176 rfl (szV infF (il HFL.out)) ?_)
    | (with_reducible refine wpList_store_mid (op := ⟨none, .store 176 (.tmp 2) (.tmp 15), _, _, _, _⟩) rfl 176 (.tmp 2) (.tmp 15) rfl w.heap.size 0 (ints .u8 F).toArray rfl rfl R2 (szA infF (il HFL.out)) (ints_all _ _) ?_; clear R2 hcp hD1; generalize (((w.alloc (.cells (ints .u8 (hzeros 128)).toArray 176)).alloc (.cells (ints .u8 (hzeros 128)).toArray 176)).setCells (w.heap.size + 1) 0 (ints .u8 key)).setCells w.heap.size 0 (ints .u8 F).toArray.toList = W5 at *))
  exact ret_rows rfl w.heap.size 0 rfl (ints .u8 F) _ X2.range Tryz.underlying176 rfl (szV infF (il HFL.out)) rfl ⟨rfl, hW2⟩
set_option maxRecDepth 50000 in
set_option maxHeartbeats 2000000 in
theorem fill_big (A : Option Addr) (l c : Nat) (key r F : List Int) (w : World) (ht : TabsH w) (hl : Hid (key.length = l)) (h0 : 128 < l) (h1 : l ≤ 1000) (hlc : l ≤ c) (hkb : HByt key) (hA : Nums w .u8 A key) (HR : Hid (hash key = r)) (HRL : Hid (r.length = 64)) (HF : Hid (over (hzeros 128) 0 r = F)) (HFL : Hid (F.length = 128)) :
    Calls Tryz.prog 204 #[.slice A l c] w fun e w' => e = .returned (.agg (ints .u8 F).toArray) ∧ Below w.heap.size w w' := by
  obtain ⟨z46, s46⟩ := zero_of_info infF
  obtain ⟨z25, s25⟩ := zero_of_info infH
  have hL : (128 : Int) < (l : Int) := by omega
  have hR := (Arr.made w .u8 (hzeros 128) 176).alloc (.cells #[.slice A l c] 23)
  have hW := (below_new w (.cells (ints .u8 (hzeros 128)).toArray 176)).alloc (by simp) (.cells #[.slice A l c] 23)
  have hA0 := hA.below hW
  have hT0 := ht.next hW
  have hc0 : ((w.alloc (.cells (ints .u8 (hzeros 128)).toArray 176)).alloc (.cells #[.slice A l c] 23)).cell? ⟨w.heap.size + 1, 0, none⟩ = some (.slice A l c) := by
    have h := cell_one_new (w.alloc (.cells (ints .u8 (hzeros 128)).toArray 176)) (.slice A l c) 23 0 _ rfl
    rw [World.size_alloc] at h
    exact h
  have hg0 : w.heap.size + 1 < ((w.alloc (.cells (ints .u8 (hzeros 128)).toArray 176)).alloc (.cells #[.slice A l c] 23)).heap.size := by simp
  have hs0 : w.heap.size < ((w.alloc (.cells (ints .u8 (hzeros 128)).toArray 176)).alloc (.cells #[.slice A l c] 23)).heap.size := by simp; omega
  clear hA ht
  go_enter Tryz.func204, Tryz.ntmps204
  go_wp2_with (first
    | (go_at_call 104
       refine (vsum_one (w.heap.size + 1) c l A key r _ hT0 hg0 hc0 hl hlc h1 hkb hA0 HR).mono ?_
       rintro e w2 ⟨rfl, hb2⟩
       replace hR := hR.next' hb2
       replace hW := hW.trans (Below.mono hb2 hW.size)
       have hw2 := Nat.lt_of_lt_of_le hs0 hb2.size
       have hG := Rw.new w2 (ints .u8 (hzeros 64)) 38
       have R3 := hG.roomA (us := ints .u8 r) ((il HRL.out).trans (il (hz_len 64)).symm)
       have X3 := (hG.storedA (us := ints .u8 r) ((il HRL.out).trans (il (hz_len 64)).symm)).nums
       have hb3 := Below.setCells (below_new w2 (.cells (ints .u8 (hzeros 64)).toArray 38)) (Nat.le_refl _) 0 (ints .u8 r).toArray.toList
       replace hR := hR.next' hb3
       replace hW := hW.trans (Below.mono hb3 hW.size)
       have hw3 := Nat.lt_of_lt_of_le hw2 hb3.size
       clear hb2 hT0 hg0 hc0 hA0 hs0 hG hb3 hw2)
    | (with_reducible refine wpList_store_mid (op := ⟨none, .store 38 (.tmp 3) (.tmp 10), _, _, _, _⟩) rfl 38 (.tmp 3) (.tmp 10) rfl w2.heap.size 0 (ints .u8 r).toArray rfl rfl R3 (szA infH (il HRL.out)) (ints_all _ _) ?_
       generalize (w2.alloc (.cells (ints .u8 (hzeros 64)).toArray 38)).setCells w2.heap.size 0 (ints .u8 r).toArray.toList = W at *
       generalize w2.heap.size = g3 at *
       clear R3
       have hD := Arr.made W .u8 (hzeros 128) 176
       have hb4 := below_new W (.cells (ints .u8 (hzeros 128)).toArray 176)
       have hR4 := hR.next' hb4
       have hA4 := X3.below hb4
       have hW4 := hW.trans (Below.mono hb4 hW.size)
       have hth : (W.alloc (.cells (ints .u8 (hzeros 128)).toArray 176)).there W.heap.size 0 64 := fun j hj => hD.there j (by rw [hz_len]; omega)
       have hcp := run_copyV (m := 128) (c := 128) (c' := 64) hA4 HRL.out (by omega) hth
       have hD1 := hD.over (j := 0) (ys := r) (by rw [hz_len, HRL.out]; omega)
       rw [Nat.add_zero, HF.out] at hD1
       have hR1 := hR4.past (b' := W.heap.size) (o' := 0) (ints .u8 r) (.inl (by omega))
       have hW1 := Below.setCells hW4 (g := W.heap.size) (by omega) 0 (ints .u8 r)
       have R2 := hR1.rw.roomA (us := ints .u8 F) ((il HFL.out).trans (il (hz_len 128)).symm)
       have X2 := hR1.rw.storedA (us := ints .u8 F) ((il HFL.out).trans (il (hz_len 128)).symm)
       have hW2 := Below.setCells hW1 (g := w.heap.size) (Nat.le_refl _) 0 (ints .u8 F).toArray.toList
       clear hR hD hb4 hR4 hA4 hW4 hth X3 hR1 hW1)
    | (with_reducible refine wpList_load_mid (op := ⟨some 15, .load 176 (.tmp 4), _, _, _, _⟩) rfl 176 (.tmp 4) rfl W.heap.size 0 rfl (ints .u8 F) _ (hD1.range) Tryz.underlying176 rfl (szV infF (il HFL.out)) ?_)
    | (with_reducible refine wpList_store_mid (op := ⟨none, .store 176 (.tmp 2) (.tmp 15), _, _, _, _⟩) rfl 176 (.tmp 2) (.tmp 15) rfl w.heap.size 0 (ints .u8 F).toArray rfl rfl R2 (szA infF (il HFL.out)) (ints_all _ _) ?_; clear R2 hcp hD1; generalize ((W.alloc (.cells (ints .u8 (hzeros 128)).toArray 176)).setCells W.heap.size 0 (ints .u8 r)).setCells w.heap.size 0 (ints .u8 F).toArray.toList = W5 at *))
  exact ret_rows rfl w.heap.size 0 rfl (ints .u8 F) _ X2.range Tryz.underlying176 rfl (szV infF (il HFL.out)) rfl ⟨rfl, hW2⟩
set_option maxRecDepth 50000 in
theorem fill_any (A : Option Addr) (l c : Nat) (key : List Int) (w : World) (ht : TabsH w) (hl : Hid (key.length = l)) (h1 : l ≤ 1000) (hlc : l ≤ c) (hkb : HByt key) (hA : Nums w .u8 A key) :
    Calls Tryz.prog 204 #[.slice A l c] w fun e w' => e = .returned (.agg (ints .u8 (fillV key)).toArray) ∧ Below w.heap.size w w' := by
  by_cases h : 128 < l
  · have e : keyV key = hash key := by unfold keyV; rw [if_pos (by rw [hl.out]; exact h)]
    have hF : fillV key = over (hzeros 128) 0 (hash key) := by rw [over_hz (by rw [hash_len]; omega)]; unfold fillV; rw [e]
    exact fill_big A l c key (hash key) (fillV key) w ht hl h h1 hlc hkb hA (hid rfl) (hid (hash_len _)) (hid hF.symm) (hid (fillV_len _))
  · have e : keyV key = key := by unfold keyV; rw [if_neg (by rw [hl.out]; exact h)]
    have hF : fillV key = over (hzeros 128) 0 key := by rw [over_hz (by rw [hl.out]; omega)]; unfold fillV; rw [e]
    exact fill_small A l c key (fillV key) w hl (by omega) hA (hid hF.symm) (hid (fillV_len _))
end Go.Proofs.YtpncohoonfahpaaGreatDoor

/- Rows of slices that a call itself fills. -/
namespace Go.Proofs.YtpncohoonfahpaaGreatDoor
open Go Go.RowKit Go.Lib

abbrev Part := Option Addr × Nat × List Int
/-- A part as a slice. -/
def sv (q : Part) : Value := .slice q.1 q.2.2.length q.2.1
set_option maxRecDepth 50000 in
theorem infSlV : (Tryz.prog.info? 23).map (fun i => (i.zero, i.size, i.bytes)) = some (some (.slice none 0 0), 1, 24) := by kernel_rfl
set_option maxRecDepth 50000 in
theorem info_partsV {P : Program} {e bytes : Nat} {z : Value} (h : (P.info? e).map (fun i => (i.zero, i.size, i.bytes)) = some (some z, 1, bytes)) : ∃ i, P.info? e = some i ∧ i.zero = some z ∧ i.size = 1 ∧ i.bytes = bytes := by
  cases hq : P.info? e with
  | none => rw [hq] at h; simp at h
  | some i =>
    rw [hq] at h
    simp only [Option.map_some, Option.some.injEq, Prod.mk.injEq] at h
    exact ⟨i, rfl, h.1, h.2.1, h.2.2⟩
/-- The slice v is a row of the call's own, from block base on; it holds the parts ps. -/
def OwnsP (w : World) (base : Nat) (v : Value) (ps : List Part) : Prop := w.ownsRow base 23 1 v ps.length (ps.map sv)
section
variable {w w' : World} {base : Nat} {v : Value} {ps qs : List Part}
set_option maxRecDepth 50000 in
theorem OwnsP.none_ (w : World) (base : Nat) : OwnsP w base (.slice none 0 0) [] := World.ownsRow_nil w base 23 1
set_option maxRecDepth 50000 in
theorem OwnsP.stay (h : OwnsP w base v ps) (hb : Below w.heap.size w w') : OwnsP w' base v ps := by
  refine ⟨h.1, ?_⟩
  rcases h.2 with h2 | ⟨g, cap, cur, hv, hg, hh, r⟩
  · exact .inl h2
  · refine .inr ⟨g, cap, cur, hv, hg, (hb.block g ?_).trans hh, r⟩
    rcases Nat.lt_or_ge g w.heap.size with hlt | hge
    · exact hlt
    · rw [Array.getElem?_eq_none hge] at hh; cases hh
set_option maxRecDepth 50000 in
theorem OwnsP.low {base' : Nat} (h : OwnsP w base v ps) (hb : base' ≤ base) : OwnsP w base' v ps := World.ownsRow.mono h hb
set_option maxRecDepth 50000 in
theorem OwnsP.lt (h : OwnsP w base v ps) : ∀ g, v.ownBlock = some g → base ≤ g ∧ g < w.heap.size := World.ownsRow.lt h
set_option maxRecDepth 50000 in
theorem OwnsP.len {A : Option Addr} {n c : Nat} (h : OwnsP w base (.slice A n c) ps) : n = ps.length := by
  rcases h.2 with ⟨hv, hn⟩ | ⟨g, cap, cur, hv, _⟩
  · injection hv with h1 h2 h3; omega
  · injection hv
set_option maxRecDepth 50000 in
theorem OwnsP.parts {A : Option Addr} {n c : Nat} (h : OwnsP w base (.slice A n c) ps) : Parts w A ps := fun hp => by
  have h0 : w.ownsRow base 23 1 (.slice A n c) ps.length (ps.map sv) := h
  have hlt := h0.lt
  rcases h.2 with ⟨hv, hn⟩ | ⟨g, cap, cur, hv, hg, hh, r⟩
  · omega
  · injection hv with h1 h2 h3
    subst h1; subst h2; subst h3
    refine ⟨g, 0, rfl, (hlt g rfl).2, fun i q hi => ?_⟩
    have hil := (List.getElem?_eq_some_iff.1 hi).1
    rw [Nat.zero_add, World.ownsRow.cellAt h0 i (by omega)]
    simp [hi, sv]
set_option maxRecDepth 50000 in
theorem run_appP_nil (t ty : TypeId) (ht : Tryz.prog.underlying t = some (.slice 23)) (v : Value) (hown : OwnsP w base v ps) (c : Nat) : (Builtin.append_ #[t, t] ty #[v, .slice none 0 c]).run Tryz.prog w = .ok v w := by
  obtain ⟨i, hi, _, _, _⟩ := info_partsV infSlV
  rcases hown.2 with ⟨rfl, _⟩ | ⟨g, cap, cur, rfl, _, _, hnc, _⟩
  · simp [Builtin.append_, run_underlying ht, sizeOf, typeInfo, hi, Builtin.lenOf, Builtin.firstCells]
  · simp [Builtin.append_, run_underlying ht, sizeOf, typeInfo, hi, Builtin.lenOf, Builtin.firstCells, hnc, storeCells]
set_option maxRecDepth 50000 in
theorem run_appP (t ty : TypeId) (ht : Tryz.prog.underlying t = some (.slice 23)) (A : Option Addr) (n c : Nat) (hown : OwnsP w base (.slice A n c) ps) (B : Option Addr) (d : Nat) (hB : Parts w B qs) (h63 : ps.length + qs.length ≤ 100000) (hbase : base ≤ w.heap.size) :
    ∃ A' n' c' w', (Builtin.append_ #[t, t] ty #[.slice A n c, .slice B qs.length d]).run Tryz.prog w = .ok (.slice A' n' c') w' ∧ OwnsP w' base (.slice A' n' c') (ps ++ qs) ∧ Grew w w' (.slice A n c) (.slice A' n' c') := by
  by_cases h0 : qs.length = 0 ∧ B = none
  · obtain ⟨h1, rfl⟩ := h0
    obtain rfl := List.eq_nil_of_length_eq_zero h1
    exact ⟨A, n, c, w, run_appP_nil t ty ht _ hown d, by rw [List.append_nil]; exact hown, Grew.refl _ _⟩
  · obtain ⟨i, hi, hz, hsize, hby⟩ := info_partsV infSlV
    obtain ⟨ad, rfl⟩ : ∃ ad, B = some ad := by
      cases B with
      | some ad => exact ⟨ad, rfl⟩
      | none =>
        exfalso
        have hp : 0 < qs.length := by
          rcases Nat.eq_zero_or_pos qs.length with h | h
          · exact absurd ⟨h, rfl⟩ h0
          · exact h
        obtain ⟨b, off, he, _⟩ := hB hp
        cases he
    obtain ⟨v', w', hrun, h2, h3, _, h5⟩ := run_append_own_at (P := Tryz.prog) w base t ty 23 i (.slice none 0 0) 1 24 ht hi hz hsize hby rfl (by omega) (.slice A n c) ps.length (ps.map sv) hown ad qs.length d (qs.map sv) (by simp)
      (fun j u hu => by
        rw [List.getElem?_map, Option.map_eq_some_iff] at hu
        obtain ⟨q, hq, rfl⟩ := hu
        obtain ⟨b, off, he, _, hc⟩ := hB (by have := (List.getElem?_eq_some_iff.1 hq).1; omega)
        injection he with he
        subst he
        rw [Addr.add_mid]
        exact hc j q hq) (fun u hu => by
        obtain ⟨y, _, rfl⟩ := List.mem_map.1 hu
        rfl) (by unfold maxLen; omega) (by omega) hbase
    have hform : ∃ A' n' c', v' = .slice A' n' c' := by
      rcases h2.2 with ⟨hv, _⟩ | ⟨g, cap, cur, hv, _⟩
      · exact ⟨_, _, _, hv⟩
      · exact ⟨_, _, _, hv⟩
    obtain ⟨A', n', c', rfl⟩ := hform
    refine ⟨A', n', c', w', hrun, ?_, h3, ?_⟩
    · unfold OwnsP
      rw [List.map_append, List.length_append]
      exact h2
    · rcases h5 with h | h
      · exact .inl h
      · exact .inr fun g hg => by rw [h] at hg; injection hg with hg; omega
set_option maxRecDepth 50000 in
theorem app_parts {ops : Array Oper} {rest : List Oper} {o : Oper} {a : Act} {Q : Exit → Act → World → Prop} (hgd : o.guard = none) (s x : Operand)
    (ho : o.op = .call { callee := .builtin .append, args := #[s, x], argTypes := #[57, 57] }) (base : Nat) (A : Option Addr) (n c : Nat) (ps : List Part) (hs : a.eval s = .slice A n c)
    (hown : OwnsP w base (.slice A n c) ps) (B : Option Addr) (m d : Nat) (qs : List Part) (hx : a.eval x = .slice B m d) (hm : qs.length = m) (hB : Parts w B qs) (h63 : ps.length + m ≤ 100000) (hbase : base ≤ w.heap.size)
    (h : ∀ A' n' c' w', OwnsP w' base (.slice A' n' c') (ps ++ qs) → Grew w w' (.slice A n c) (.slice A' n' c') → wpList Tryz.prog ops Q rest (a.put o.dst (.slice A' n' c')) w') : wpList Tryz.prog ops Q (o :: rest) a w := by
  subst hm
  obtain ⟨A', n', c', w', hrun, h2, h3⟩ := run_appP (w := w) (base := base) 57 o.type (by kernel_rfl) A n c hown B d hB h63 hbase
  refine wpList_plain hgd fun _ hK => ?_
  unfold Oper.wp execOp
  simp only [ho, resolve, invoke, builtin, Sem.run_bind, Sem.run_pure, Result.andThen_ok, List.map_toArray, List.map_cons, List.map_nil, hs, hx, hrun]
  exact hK _ _ (h A' n' c' w' h2 h3)
end
set_option maxRecDepth 50000 in
theorem PartOk.below {w w' : World} {q : Part} (h : PartOk w q) (hb : Below w.heap.size w w') : PartOk w' q := ⟨h.1.below hb, h.2⟩
set_option maxRecDepth 50000 in
theorem Parts.below {w w' : World} {A : Option Addr} {ps : List (Option Addr × Nat × List Int)} (h : Parts w A ps) (hb : Below w.heap.size w w') : Parts w' A ps := fun hp => by
  obtain ⟨g, off, e, hlt, hc⟩ := h hp
  exact ⟨g, off, e, Nat.lt_of_lt_of_le hlt hb.size, fun i q hi => (hb.cell (p := ⟨g, off + i, none⟩) hlt).trans (hc i q hi)⟩
set_option maxRecDepth 50000 in
/-- A row that was just made, which holds nothing yet. -/
theorem OwnsP.room (w : World) (base G : Nat) (cs : Array Value) (hb : base ≤ w.heap.size) (hs : cs.size = G) (hG : G ≤ maxLen) : OwnsP (w.alloc (.cells cs 23)) base (.slice (some ⟨w.heap.size, 0, none⟩) 0 G) [] :=
  ⟨rfl, .inr ⟨w.heap.size, G, cs, rfl, hb, heap_alloc_new w _, Nat.zero_le _, hG, by rw [hs]; simp, by simp⟩⟩
set_option maxRecDepth 50000 in
set_option maxHeartbeats 2000000 in
theorem grow_any (n : Nat) (w : World) (h1 : 1 ≤ n) (h2 : n ≤ 1000) :
    Calls Tryz.prog 230 #[.slice none 0 0, .int .i64 n] w fun e w' => ∃ A c, e = .returned (.slice A 0 c) ∧ OwnsP w' w.heap.size (.slice A 0 c) [] ∧ Below w.heap.size w w' := by
  obtain ⟨i, hi, hz, hsize, hby⟩ := info_partsV infSlV
  have hold : (Builtin.firstCells i.size 0 (.slice none 0 0)).run Tryz.prog w.drew = .ok ([] : List Value).toArray w.drew := by
    rw [hsize]
    exact run_firstCells_none w.drew 1 0 0 0
  have hrz : ∀ ty, (Builtin.append_ #[57, 3] ty #[.slice none 0 0, .int .i64 n]).run Tryz.prog w = _ := fun ty =>
    run_append_grow_zeros w 57 3 ty 23 i (.slice none 0 0) .i64 .i64 (by kernel_rfl) (by kernel_rfl) hi hz none 0 0 [] hold n (by omega) (by omega) (by omega) (by omega) (by rw [hby]; omega)
      (growslice_fits (by omega) (by rw [hby]; omega))
  have hGn : 0 + n ≤ grownCap w (0 + n) 0 23 := grownCap_ge w _ _ _
  have hGm : grownCap w (0 + n) 0 23 ≤ maxLen := grownCap_le_maxLen w (0 + n) 0 23 (by unfold maxLen; omega)
  rw [Nat.zero_add] at hrz hGn hGm
  obtain ⟨G, hG⟩ : ∃ G, G = grownCap w n 0 23 := ⟨_, rfl⟩
  rw [← hG] at hrz hGn hGm
  obtain ⟨cs, hcs⟩ : ∃ cs, cs = ([] : List Value).toArray ++ Builtin.zeroCells (Value.slice none 0 0).cells n ++ Builtin.zeroCells (Value.slice none 0 0).cells (G - n) := ⟨_, rfl⟩
  rw [← hcs] at hrz
  have hcl : cs.size = G := by
    rw [hcs]
    simp [Builtin.zeroCells, Value.cells]
    omega
  have hP := OwnsP.room w.drew w.heap.size G cs (Nat.le_refl _) hcl hGm
  have hW : Below w.heap.size w (w.drew.alloc (.cells cs 23)) := ((Below.refl _ w).drew).alloc (Nat.le_refl _) _
  have hn1 : (1 : Int) ≤ n := by omega
  have hn2 : (n : Int) ≤ 1000 := by omega
  have hG1 : (G : Int) ≤ 9223372036854775807 := by unfold maxLen at hGm; omega
  clear hold hG hcs hcl hi hz hsize hby hGm
  go_enter Tryz.func230, Tryz.ntmps230
  go_wp2_with (at_builtin; refine Lib.wpList_append_run _ rfl (.tmp 20) (.tmp 21) 57 3 rfl (.slice none 0 0) (.int .i64 n) rfl rfl _ _ (hrz _) ?_)
  go_ret
  exact ⟨_, _, rfl, hP, hW⟩
end Go.Proofs.YtpncohoonfahpaaGreatDoor
