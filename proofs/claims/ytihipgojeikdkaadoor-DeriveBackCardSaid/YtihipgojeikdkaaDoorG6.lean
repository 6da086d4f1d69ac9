/- Texts of this proof, laid together: VNext, VBack, VChain. -/
import Derived.Test.YtihipgojeikdkaaDoorG4
import Derived.Test.YtihipgojeikdkaaDoorG5
/- Keys derived from a state for a label alone: Next, Item. -/
namespace Go.Proofs.YtihipgojeikdkaaDoor
open Go Go.RowKit

theorem parts_none (w : World) : Parts w none [] := fun h => absurd h (by simp)
set_option maxRecDepth 50000 in
set_option maxHeartbeats 4000000 in
theorem labelled_core (st r : List Int) (s : ByteArray) (w : World) (hT : TabsH w) (hst : Hid (st.length = 32)) (hb : HByt st) (hs : Hid (s.size ≤ 64)) (HR : Hid (keyD st (strL s) [] = r)) (HRL : Hid (r.length = 32)) :
    Calls Tryd.prog 27 #[.agg (ints .u8 st).toArray, .string s] w fun e w' => e = .returned (.agg (ints .u8 r).toArray) ∧ Below w.heap.size w w' := by
  obtain ⟨z32, s32⟩ := zero_of_info infS32
  have h2 := (Rw.new w (ints .u8 st) 30).next (below_new (w.alloc (.cells (ints .u8 st).toArray 30)) (.cells (ints .u8 (hzeros 32)).toArray 30))
  have h4 := Rw.new (w.alloc (.cells (ints .u8 st).toArray 30)) (ints .u8 (hzeros 32)) 30
  rw [World.size_alloc] at h4
  have hW := (below_new w (.cells (ints .u8 st).toArray 30)).alloc (by simp) (.cells (ints .u8 (hzeros 32)).toArray 30)
  replace hT := hT.next hW
  go_enter Tryd.func27, Tryd.ntmps27
  go_wp2_with (first
    | (go_at_call 9; generalize (w.alloc (.cells (ints .u8 st).toArray 30)).alloc (.cells (ints .u8 (hzeros 32)).toArray 30) = w1 at *
       refine (key_any st (some ⟨w.heap.size, 0, none⟩) none 32 32 0 0 s [] _ hT hst (by omega) (by omega) (by omega) hb h2.nums hs.out (parts_none _) (hid rfl) (by omega) (fun q hq => absurd hq (by simp))).mono ?_; rintro e w2 ⟨rfl, hb2⟩
       rw [List.map_nil, HR.out]
       have R5 := (Rw.new w2 (ints .u8 (hzeros 32)) 30).roomA (us := ints .u8 r) ((il HRL.out).trans (il (hz_len 32)).symm)
       have X5 := ((Rw.new w2 (ints .u8 (hzeros 32)) 30).storedA (us := ints .u8 r) ((il HRL.out).trans (il (hz_len 32)).symm)).range
       have hb3 := hb2.trans (Below.mono (Below.setCells (below_new w2 (.cells (ints .u8 (hzeros 32)).toArray 30)) (Nat.le_refl _) 0 (ints .u8 r).toArray.toList) hb2.size)
       replace h4 := h4.next hb3
       replace hW := hW.trans (Below.mono hb3 hW.size)
       have R4 := h4.roomA (us := ints .u8 r) ((il HRL.out).trans (il (hz_len 32)).symm)
       have X4 := h4.storedA (us := ints .u8 r) ((il HRL.out).trans (il (hz_len 32)).symm)
       have hW2 := Below.setCells hW (g := w.heap.size + 1) (by omega) 0 (ints .u8 r).toArray.toList
       clear hb2 hb3 h2 h4 hW hT)
    | (with_reducible refine wpList_store_mid (op := ⟨none, .store 30 (.tmp 5) (.tmp 11), _, _, _, _⟩) rfl 30 (.tmp 5) (.tmp 11) rfl w2.heap.size 0 (ints .u8 r).toArray rfl rfl R5 (szA infS32 (il HRL.out)) (ints_all _ _) ?_
       generalize (w2.alloc (.cells (ints .u8 (hzeros 32)).toArray 30)).setCells w2.heap.size 0 (ints .u8 r).toArray.toList = w3 at *
       generalize w2.heap.size = b5 at *
       clear R5)
    | (with_reducible refine wpList_load_mid (op := ⟨some 13, .load 30 (.tmp 5), _, _, _, _⟩) rfl 30 (.tmp 5) rfl b5 0 rfl (ints .u8 r) _ X5 Tryd.underlying30 rfl (szV infS32 (il HRL.out)) ?_)
    | (with_reducible refine wpList_store_mid (op := ⟨none, .store 30 (.tmp 4) (.tmp 13), _, _, _, _⟩) rfl 30 (.tmp 4) (.tmp 13) rfl (w.heap.size + 1) 0 (ints .u8 r).toArray rfl rfl R4 (szA infS32 (il HRL.out)) (ints_all _ _) ?_
       clear R4))
  exact ret_rows rfl (w.heap.size + 1) 0 rfl (ints .u8 r) _ X4.range Tryd.underlying30 rfl (szV infS32 (il HRL.out)) rfl ⟨rfl, hW2⟩
theorem labelled_any (st : List Int) (s : ByteArray) (w : World) (hT : TabsH w) (hst : st.length = 32) (hb : HByt st) (hs : s.size ≤ 64) :
    Calls Tryd.prog 27 #[.agg (ints .u8 st).toArray, .string s] w fun e w' => e = .returned (.agg (ints .u8 (keyD st (strL s) [])).toArray) ∧ Below w.heap.size w w' :=
  labelled_core st (keyD st (strL s) []) s w hT (hid hst) hb (hid hs) (hid rfl) (hid (keyD_len _ _ _))
/-- The labels of the code. -/
def sREG : ByteArray := { data := #[114, 101, 103, 114, 101, 115, 115] }
def sITM : ByteArray := { data := #[105, 116, 101, 109] }
theorem strL_reg : strL sREG = REG := by rfl
theorem strL_itm : strL sITM = ITM := by rfl
set_option maxRecDepth 50000 in
set_option maxHeartbeats 4000000 in
theorem next_core (st r : List Int) (w : World) (hT : TabsH w) (hst : Hid (st.length = 32)) (HK : Hid (∀ w : World, TabsH w → Calls Tryd.prog 27 #[.agg (ints .u8 st).toArray, .string { data := #[114, 101, 103, 114, 101, 115, 115] }] w fun e w' => e = .returned (.agg (ints .u8 r).toArray) ∧ Below w.heap.size w w')) (HRL : Hid (r.length = 32)) :
    Calls Tryd.prog 12 #[.agg (ints .u8 st).toArray] w fun e w' => e = .returned (.agg (ints .u8 r).toArray) ∧ Below w.heap.size w w' := by
  obtain ⟨z32, s32⟩ := zero_of_info infS32
  have h1 := ((Rw.new w (ints .u8 st) 30).next (below_new (w.alloc (.cells (ints .u8 st).toArray 30)) (.cells (ints .u8 (hzeros 32)).toArray 30))).range
  have h2 := Rw.new (w.alloc (.cells (ints .u8 st).toArray 30)) (ints .u8 (hzeros 32)) 30
  rw [World.size_alloc] at h2
  have hW := (below_new w (.cells (ints .u8 st).toArray 30)).alloc (by simp) (.cells (ints .u8 (hzeros 32)).toArray 30)
  replace hT := hT.next hW
  go_enter Tryd.func12, Tryd.ntmps12
  go_wp2_with (first
    | (with_reducible refine wpList_load_mid (op := ⟨some 3, .load 30 (.tmp 1), _, _, _, _⟩) rfl 30 (.tmp 1) rfl w.heap.size 0 rfl (ints .u8 st) _ h1 Tryd.underlying30 rfl (szV infS32 (il hst.out)) ?_)
    | (go_at_call 27; generalize (w.alloc (.cells (ints .u8 st).toArray 30)).alloc (.cells (ints .u8 (hzeros 32)).toArray 30) = w1 at *
       refine (HK.out _ hT).mono ?_; rintro e w2 ⟨rfl, hb2⟩
       replace h2 := h2.next hb2
       replace hW := hW.trans (Below.mono hb2 hW.size)
       have R4 := h2.roomA (us := ints .u8 r) ((il HRL.out).trans (il (hz_len 32)).symm)
       have X4 := h2.storedA (us := ints .u8 r) ((il HRL.out).trans (il (hz_len 32)).symm)
       have hW2 := Below.setCells hW (g := w.heap.size + 1) (by omega) 0 (ints .u8 r).toArray.toList
       clear hb2 h1 h2 hW hT)
    | (with_reducible refine wpList_store_mid (op := ⟨none, .store 30 (.tmp 2) (.tmp 4), _, _, _, _⟩) rfl 30 (.tmp 2) (.tmp 4) rfl (w.heap.size + 1) 0 (ints .u8 r).toArray rfl rfl R4 (szA infS32 (il HRL.out)) (ints_all _ _) ?_
       clear R4))
  exact ret_rows rfl (w.heap.size + 1) 0 rfl (ints .u8 r) _ X4.range Tryd.underlying30 rfl (szV infS32 (il HRL.out)) rfl ⟨rfl, hW2⟩
theorem next_any (st : List Int) (w : World) (hT : TabsH w) (hst : st.length = 32) (hb : HByt st) :
    Calls Tryd.prog 12 #[.agg (ints .u8 st).toArray] w fun e w' => e = .returned (.agg (ints .u8 (nextV st)).toArray) ∧ Below w.heap.size w w' :=
  next_core st (nextV st) w hT (hid hst) (hid fun w hT => by
    have h := labelled_any st sREG w hT hst hb (by decide)
    rw [strL_reg] at h
    exact h) (hid (nextV_len _))
set_option maxRecDepth 50000 in
set_option maxHeartbeats 4000000 in
theorem item_core (st r : List Int) (w : World) (hT : TabsH w) (hst : Hid (st.length = 32)) (HK : Hid (∀ w : World, TabsH w → Calls Tryd.prog 27 #[.agg (ints .u8 st).toArray, .string { data := #[105, 116, 101, 109] }] w fun e w' => e = .returned (.agg (ints .u8 r).toArray) ∧ Below w.heap.size w w')) (HRL : Hid (r.length = 32)) :
    Calls Tryd.prog 11 #[.agg (ints .u8 st).toArray] w fun e w' => e = .returned (.agg (ints .u8 r).toArray) ∧ Below w.heap.size w w' := by
  obtain ⟨z32, s32⟩ := zero_of_info infS32
  have h1 := ((Rw.new w (ints .u8 st) 30).next (below_new (w.alloc (.cells (ints .u8 st).toArray 30)) (.cells (ints .u8 (hzeros 32)).toArray 30))).range
  have h2 := Rw.new (w.alloc (.cells (ints .u8 st).toArray 30)) (ints .u8 (hzeros 32)) 30
  rw [World.size_alloc] at h2
  have hW := (below_new w (.cells (ints .u8 st).toArray 30)).alloc (by simp) (.cells (ints .u8 (hzeros 32)).toArray 30)
  replace hT := hT.next hW
  go_enter Tryd.func11, Tryd.ntmps11
  go_wp2_with (first
    | (with_reducible refine wpList_load_mid (op := ⟨some 3, .load 30 (.tmp 1), _, _, _, _⟩) rfl 30 (.tmp 1) rfl w.heap.size 0 rfl (ints .u8 st) _ h1 Tryd.underlying30 rfl (szV infS32 (il hst.out)) ?_)
    | (go_at_call 27; generalize (w.alloc (.cells (ints .u8 st).toArray 30)).alloc (.cells (ints .u8 (hzeros 32)).toArray 30) = w1 at *
       refine (HK.out _ hT).mono ?_; rintro e w2 ⟨rfl, hb2⟩
       replace h2 := h2.next hb2
       replace hW := hW.trans (Below.mono hb2 hW.size)
       have R4 := h2.roomA (us := ints .u8 r) ((il HRL.out).trans (il (hz_len 32)).symm)
       have X4 := h2.storedA (us := ints .u8 r) ((il HRL.out).trans (il (hz_len 32)).symm)
       have hW2 := Below.setCells hW (g := w.heap.size + 1) (by omega) 0 (ints .u8 r).toArray.toList
       clear hb2 h1 h2 hW hT)
    | (with_reducible refine wpList_store_mid (op := ⟨none, .store 30 (.tmp 2) (.tmp 4), _, _, _, _⟩) rfl 30 (.tmp 2) (.tmp 4) rfl (w.heap.size + 1) 0 (ints .u8 r).toArray rfl rfl R4 (szA infS32 (il HRL.out)) (ints_all _ _) ?_
       clear R4))
  exact ret_rows rfl (w.heap.size + 1) 0 rfl (ints .u8 r) _ X4.range Tryd.underlying30 rfl (szV infS32 (il HRL.out)) rfl ⟨rfl, hW2⟩
theorem item_any (st : List Int) (w : World) (hT : TabsH w) (hst : st.length = 32) (hb : HByt st) :
    Calls Tryd.prog 11 #[.agg (ints .u8 st).toArray] w fun e w' => e = .returned (.agg (ints .u8 (itemV st)).toArray) ∧ Below w.heap.size w w' :=
  item_core st (itemV st) w hT (hid hst) (hid fun w hT => by
    have h := labelled_any st sITM w hT hst hb (by decide)
    rw [strL_itm] at h
    exact h) (hid (itemV_len _))
end Go.Proofs.YtihipgojeikdkaaDoor

/- The reference's Next, and Back. -/
namespace Go.Proofs.YtihipgojeikdkaaDoor
open Go Go.RowKit

set_option maxRecDepth 50000 in
set_option maxHeartbeats 4000000 in
theorem rnext_core (st r : List Int) (w : World) (hst : Hid (st.length = 32)) (HK : Hid (∀ (A : Option Addr) (d : Nat) (w : World), Nums w .u8 A st → Calls Tryd.prog 10 #[.slice A 32 d, .string { data := #[114, 101, 103, 114, 101, 115, 115] }, .slice none 0 0] w fun e w' => e = .returned (.tuple #[.agg (ints .u8 r).toArray, .int .i64 0]) ∧ Below w.heap.size w w')) (HRL : Hid (r.length = 32)) :
    Calls Tryd.prog 13 #[.agg (ints .u8 st).toArray] w fun e w' => e = .returned (.agg (ints .u8 r).toArray) ∧ Below w.heap.size w w' := by
  obtain ⟨z32, s32⟩ := zero_of_info infS32
  have h1 := ((Rw.new w (ints .u8 st) 30).next (below_new (w.alloc (.cells (ints .u8 st).toArray 30)) (.cells (ints .u8 (hzeros 32)).toArray 30))).range
  have h2 := Rw.new (w.alloc (.cells (ints .u8 st).toArray 30)) (ints .u8 (hzeros 32)) 30
  rw [World.size_alloc] at h2
  have hW := (below_new w (.cells (ints .u8 st).toArray 30)).alloc (by simp) (.cells (ints .u8 (hzeros 32)).toArray 30)
  go_enter Tryd.func13, Tryd.ntmps13
  go_wp2_with (first
    | (with_reducible refine wpList_load_mid (op := ⟨some 6, .load 30 (.tmp 1), _, _, _, _⟩) rfl 30 (.tmp 1) rfl w.heap.size 0 rfl (ints .u8 st) _ h1 Tryd.underlying30 rfl (szV infS32 (il hst.out)) ?_)
    | (go_at_call 28; clear h1; generalize (w.alloc (.cells (ints .u8 st).toArray 30)).alloc (.cells (ints .u8 (hzeros 32)).toArray 30) = w1 at *
       refine (rbyt_any st _ hst).mono ?_; rintro e w2 ⟨A2, d2, rfl, hO2, hb2⟩
       replace h2 := h2.next hb2
       replace hW := hW.trans (Below.mono hb2 hW.size)
       clear hb2)
    | (go_at_call 10; refine (HK.out A2 d2 _ hO2.nums).mono ?_; rintro e w3 ⟨rfl, hb3⟩
       have R3 := (Rw.new w3 (ints .u8 (hzeros 32)) 30).roomA (us := ints .u8 r) ((il HRL.out).trans (il (hz_len 32)).symm)
       have X3 := ((Rw.new w3 (ints .u8 (hzeros 32)) 30).storedA (us := ints .u8 r) ((il HRL.out).trans (il (hz_len 32)).symm)).range
       have hb4 := hb3.trans (Below.mono (Below.setCells (below_new w3 (.cells (ints .u8 (hzeros 32)).toArray 30)) (Nat.le_refl _) 0 (ints .u8 r).toArray.toList) hb3.size)
       replace h2 := h2.next hb4
       replace hW := hW.trans (Below.mono hb4 hW.size)
       have R4 := h2.roomA (us := ints .u8 r) ((il HRL.out).trans (il (hz_len 32)).symm)
       have X4 := h2.storedA (us := ints .u8 r) ((il HRL.out).trans (il (hz_len 32)).symm)
       have hW2 := Below.setCells hW (g := w.heap.size + 1) (by omega) 0 (ints .u8 r).toArray.toList
       clear hb3 hb4 h2 hW hO2)
    | (with_reducible refine wpList_store_mid (op := ⟨none, .store 30 (.tmp 3) (.tmp 9), _, _, _, _⟩) rfl 30 (.tmp 3) (.tmp 9) rfl w3.heap.size 0 (ints .u8 r).toArray rfl rfl R3 (szA infS32 (il HRL.out)) (ints_all _ _) ?_
       generalize (w3.alloc (.cells (ints .u8 (hzeros 32)).toArray 30)).setCells w3.heap.size 0 (ints .u8 r).toArray.toList = w5 at *
       generalize w3.heap.size = b3 at *
       clear R3)
    | (with_reducible refine wpList_load_mid (op := ⟨some 11, .load 30 (.tmp 3), _, _, _, _⟩) rfl 30 (.tmp 3) rfl b3 0 rfl (ints .u8 r) _ X3 Tryd.underlying30 rfl (szV infS32 (il HRL.out)) ?_)
    | (with_reducible refine wpList_store_mid (op := ⟨none, .store 30 (.tmp 2) (.tmp 11), _, _, _, _⟩) rfl 30 (.tmp 2) (.tmp 11) rfl (w.heap.size + 1) 0 (ints .u8 r).toArray rfl rfl R4 (szA infS32 (il HRL.out)) (ints_all _ _) ?_
       clear R4))
  exact ret_rows rfl (w.heap.size + 1) 0 rfl (ints .u8 r) _ X4.range Tryd.underlying30 rfl (szV infS32 (il HRL.out)) rfl ⟨rfl, hW2⟩
theorem rnext_any (st : List Int) (w : World) (hst : st.length = 32) (hb : HByt st) :
    Calls Tryd.prog 13 #[.agg (ints .u8 st).toArray] w fun e w' => e = .returned (.agg (ints .u8 (nextV st)).toArray) ∧ Below w.heap.size w w' :=
  rnext_core st (nextV st) w (hid hst) (hid fun A d w hA => by
    have h := rkey_any st A none 32 d 0 0 sREG [] w (hid hst) (by omega) (by omega) hb hA (by decide) (parts_none _) (hid rfl) (by omega) (fun q hq => absurd hq (by simp)) (fun q hq => absurd hq (by simp))
    rw [List.map_nil, strL_reg] at h
    exact h) (hid (nextV_len _))
set_option maxRecDepth 50000 in
set_option maxHeartbeats 2000000 in
theorem back_bad (st : List Int) (n : Int) (w : World) (h : n < 0 ∨ 4096 < n) :
    Calls Tryd.prog 14 #[.agg (ints .u8 st).toArray, .int .i64 n] w fun e w' => e = .returned (.tuple #[.agg (ints .u8 (hzeros 32)).toArray, .int .i64 2]) ∧ Below w.heap.size w w' := by
  obtain ⟨z32, s32⟩ := zero_of_info infS32
  have h4 := Rw.new (w.alloc (.cells (ints .u8 st).toArray 30)) (ints .u8 (hzeros 32)) 30
  rw [World.size_alloc] at h4
  have hW := (below_new w (.cells (ints .u8 st).toArray 30)).alloc (by simp) (.cells (ints .u8 (hzeros 32)).toArray 30)
  have R4 := h4.roomA (us := ints .u8 (hzeros 32)) rfl
  have X4 := h4.storedA (us := ints .u8 (hzeros 32)) rfl
  have hW2 := Below.setCells hW (g := w.heap.size + 1) (by omega) 0 (ints .u8 (hzeros 32)).toArray.toList
  clear h4 hW
  by_cases hn : n < 0
  · have e0 : decide (n < 0) = true := decide_eq_true hn
    clear h hn
    go_enter Tryd.func14, Tryd.ntmps14
    go_wp2_with (first
      | (with_reducible refine wpList_build_eq (o := ⟨some 12, .build 30 #[], _, _, _, _⟩) rfl 30 #[] rfl (ints .u8 (hzeros 32)).toArray ?hb ?_; (case hb => exact builtV32))
      | (with_reducible refine wpList_store_mid (op := ⟨none, .store 30 (.tmp 4) (.tmp 12), _, _, _, _⟩) rfl 30 (.tmp 4) (.tmp 12) rfl (w.heap.size + 1) 0 (ints .u8 (hzeros 32)).toArray rfl rfl R4 (szA infS32 (il (hz_len 32))) (ints_all _ _) ?_; clear R4; generalize ((w.alloc (.cells (ints .u8 st).toArray 30)).alloc (.cells (ints .u8 (hzeros 32)).toArray 30)).setCells (w.heap.size + 1) 0 (ints .u8 (hzeros 32)).toArray.toList = W5 at *))
    exact bodyPost_ret (results_rowV rfl _ _ (w.heap.size + 1) 0 rfl (.int .i64 2) rfl (ints .u8 (hzeros 32)) _ X4.range Tryd.underlying30 rfl (szV infS32 (il (hz_len 32)))) rfl ⟨rfl, hW2⟩
  · have e0 : decide (n < 0) = false := decide_eq_false hn
    have e1 : decide ((4096 : Int) < n) = true := decide_eq_true (by omega)
    clear h hn
    go_enter Tryd.func14, Tryd.ntmps14
    go_wp2_with (first
      | (with_reducible refine wpList_build_eq (o := ⟨some 12, .build 30 #[], _, _, _, _⟩) rfl 30 #[] rfl (ints .u8 (hzeros 32)).toArray ?hb ?_; (case hb => exact builtV32))
      | (with_reducible refine wpList_store_mid (op := ⟨none, .store 30 (.tmp 4) (.tmp 12), _, _, _, _⟩) rfl 30 (.tmp 4) (.tmp 12) rfl (w.heap.size + 1) 0 (ints .u8 (hzeros 32)).toArray rfl rfl R4 (szA infS32 (il (hz_len 32))) (ints_all _ _) ?_; clear R4; generalize ((w.alloc (.cells (ints .u8 st).toArray 30)).alloc (.cells (ints .u8 (hzeros 32)).toArray 30)).setCells (w.heap.size + 1) 0 (ints .u8 (hzeros 32)).toArray.toList = W5 at *))
    exact bodyPost_ret (results_rowV rfl _ _ (w.heap.size + 1) 0 rfl (.int .i64 2) rfl (ints .u8 (hzeros 32)) _ X4.range Tryd.underlying30 rfl (szV infS32 (il (hz_len 32)))) rfl ⟨rfl, hW2⟩
set_option maxRecDepth 50000 in
set_option maxHeartbeats 4000000 in
theorem back_any (st : List Int) (n : Nat) (w : World) (hT : TabsH w) (hst : st.length = 32) (hb : HByt st) (hn : n ≤ 4096) :
    Calls Tryd.prog 14 #[.agg (ints .u8 st).toArray, .int .i64 n] w fun e w' => e = .returned (.tuple #[.agg (ints .u8 (backV st n)).toArray, .int .i64 0]) ∧ Below w.heap.size w w' := by
  obtain ⟨z32, s32⟩ := zero_of_info infS32
  have h2 := (Rw.new w (ints .u8 st) 30).next (below_new (w.alloc (.cells (ints .u8 st).toArray 30)) (.cells (ints .u8 (hzeros 32)).toArray 30))
  have h4 := Rw.new (w.alloc (.cells (ints .u8 st).toArray 30)) (ints .u8 (hzeros 32)) 30
  rw [World.size_alloc] at h4
  have hW := (below_new w (.cells (ints .u8 st).toArray 30)).alloc (by simp) (.cells (ints .u8 (hzeros 32)).toArray 30)
  have n0 : ¬ (n : Int) < 0 := by omega
  have n1 : ¬ (4096 : Int) < (n : Int) := by omega
  have HL : Hid (∀ k, (backV st k).length = 32) := hid (backV_len hst)
  have HB : Hid (∀ k, HByt (backV st k)) := hid (backV_byt hb)
  clear hst hb
  go_enter Tryd.func14, Tryd.ntmps14
  go_wp2
  generalize (w.alloc (.cells (ints .u8 st).toArray 30)).alloc (.cells (ints .u8 (hzeros 32)).toArray 30) = W at *
  go_loopw [14] (fun i wr => ∃ k : Nat, k ≤ n ∧ i = .int .i64 k ∧ Below w.heap.size w wr ∧ Rw wr w.heap.size 0 (ints .u8 (backV st k)) ∧ Rw wr (w.heap.size + 1) 0 (ints .u8 (hzeros 32))) (fun i _ => n - (intOf i).toNat)
  case atStart => exact ⟨0, Nat.zero_le _, rfl, hW, h2, h4⟩
  case round =>
    clear hW h2 h4
    obtain ⟨k, hk, rfl, hW, h2, h4⟩ := hrel
    have HT := hT.next hW
    by_cases hlt : k < n
    · have k1 : (k : Int) < n := by omega
      obtain ⟨x, hx⟩ : ∃ x, backV st k = x := ⟨_, rfl⟩
      obtain ⟨y, hy⟩ : ∃ y, backV st (k + 1) = y := ⟨_, rfl⟩
      have HXL : Hid (x.length = 32) := hid (by rw [← hx]; exact HL.out k)
      have HYL : Hid (y.length = 32) := hid (by rw [← hy]; exact HL.out (k + 1))
      have HN : Hid (∀ w : World, TabsH w → Calls Tryd.prog 12 #[.agg (ints .u8 x).toArray] w fun e w' => e = .returned (.agg (ints .u8 y).toArray) ∧ Below w.heap.size w w') := hid fun w hT => by
        have h := next_any x w hT HXL.out (by rw [← hx]; exact HB.out k)
        have e : nextV x = y := by rw [← hx, ← hy]; rfl
        rw [e] at h
        exact h
      rw [hx] at h2
      have HY := hid hy
      have r2 := h2.range
      clear hx hy
      go_wp2_with (first
        | (with_reducible refine wpList_load_mid (op := ⟨some 16, .load 30 (.tmp 2), _, _, _, _⟩) rfl 30 (.tmp 2) rfl w.heap.size 0 rfl (ints .u8 x) _ r2 Tryd.underlying30 rfl (szV infS32 (il HXL.out)) ?_)
        | (go_at_call 12; refine (HN.out _ HT).mono ?_; rintro e w2 ⟨rfl, hb2⟩
           replace h2 := h2.next hb2
           replace h4 := h4.next hb2
           replace hW := hW.trans (Below.mono hb2 hW.size)
           have R2 := h2.roomA (us := ints .u8 y) ((il HYL.out).trans (il HXL.out).symm)
           have X2 := h2.storedA (us := ints .u8 y) ((il HYL.out).trans (il HXL.out).symm)
           have X4 := h4.pastA (b' := w.heap.size) (by omega) 0 (ints .u8 y)
           have hW2 := Below.setCells hW (g := w.heap.size) (Nat.le_refl _) 0 (ints .u8 y).toArray.toList
           clear hb2 h2 h4 hW r2)
        | (with_reducible refine wpList_store_mid (op := ⟨none, .store 30 (.tmp 2) (.tmp 17), _, _, _, _⟩) rfl 30 (.tmp 2) (.tmp 17) rfl w.heap.size 0 (ints .u8 y).toArray rfl rfl R2 (szA infS32 (il HYL.out)) (ints_all _ _) ?_
           generalize w2.setCells w.heap.size 0 (ints .u8 y).toArray.toList = w3 at *
           clear R2))
      go_roundw
      case rel => exact ⟨k + 1, by omega, by go_num, hW2, by rw [HY.out]; exact X2, X4⟩
      case measure => simp [intOf]; omega
    · have e : k = n := by omega
      subst e
      obtain ⟨x, hx⟩ : ∃ x, backV st k = x := ⟨_, rfl⟩
      have HXL : Hid (x.length = 32) := hid (by rw [← hx]; exact HL.out k)
      rw [hx] at h2
      have HX := hid hx
      have r2 := h2.range
      have R4 := h4.roomA (us := ints .u8 x) ((il HXL.out).trans (il (hz_len 32)).symm)
      have X4 := h4.storedA (us := ints .u8 x) ((il HXL.out).trans (il (hz_len 32)).symm)
      have hW2 := Below.setCells hW (g := w.heap.size + 1) (by omega) 0 (ints .u8 x).toArray.toList
      clear hx h2 h4 hW hlt
      go_wp2_with (first
        | (with_reducible refine wpList_load_mid (op := ⟨some 19, .load 30 (.tmp 2), _, _, _, _⟩) rfl 30 (.tmp 2) rfl w.heap.size 0 rfl (ints .u8 x) _ r2 Tryd.underlying30 rfl (szV infS32 (il HXL.out)) ?_)
        | (with_reducible refine wpList_store_mid (op := ⟨none, .store 30 (.tmp 4) (.tmp 19), _, _, _, _⟩) rfl 30 (.tmp 4) (.tmp 19) rfl (w.heap.size + 1) 0 (ints .u8 x).toArray rfl rfl R4 (szA infS32 (il HXL.out)) (ints_all _ _) ?_
           clear R4 r2))
      exact bodyPost_ret (results_rowV rfl _ _ (w.heap.size + 1) 0 rfl (.int .i64 0) rfl (ints .u8 x) _ X4.range Tryd.underlying30 rfl (szV infS32 (il HXL.out))) rfl ⟨by rw [HX.out], hW2⟩
end Go.Proofs.YtihipgojeikdkaaDoor

/- Chain: states in a row of arrays. -/
namespace Go.Proofs.YtihipgojeikdkaaDoor
open Go Go.RowKit

theorem Rw.aside {w : World} {b o o' : Nat} {vs us : List Value} (h : Rw w b o vs) (hd : o' + us.length ≤ o ∨ o + vs.length ≤ o') : Rw (w.setCells b o' us) b o vs := fun i v hi => by
  have hl := (List.getElem?_eq_some_iff.1 hi).1
  rw [World.frozen?_setCells, World.cell?_setCells_out _ _ _ _ _ (fun _ _ => by simp; omega)]
  exact h i v hi
theorem there_at {w : World} {g m o l : Nat} (h : w.there g 0 m) (ho : o + l ≤ m) : w.there g o l := fun j hj => by
  have := h (o + j) (by omega)
  rwa [Nat.zero_add] at this
theorem there_next {w w' : World} {g m : Nat} (h : w.there g 0 m) (hb : Below w.heap.size w w') : w'.there g 0 m := fun j hj => by
  obtain ⟨h1, h2⟩ := h j hj
  have hlt : g < w.heap.size := by
    cases hc : w.cell? ⟨g, 0 + j, none⟩ with
    | none => rw [hc] at h1; cases h1
    | some v => exact World.block_lt_of_cell? w _ hc
  have he := hb.block g hlt
  rw [World.cell?_of_block (a := ⟨g, 0 + j, none⟩) he, World.frozen?_of_block (a := ⟨g, 0 + j, none⟩) he]
  exact ⟨h1, h2⟩
/-- The states of a chain from place i on. -/
def ChainK (w : World) (g n : Nat) (st : List Int) (i : Nat) : Prop := ∀ j, i ≤ j → j < n → Rw w g (j * 32) (ints .u8 (backV st (n - 1 - j)))
theorem ChainK.next {w w' : World} {g n i : Nat} {st : List Int} (h : ChainK w g n st i) (hb : Below w.heap.size w w') : ChainK w' g n st i := fun j h1 h2 => (h j h1 h2).next hb
theorem ChainK.put {w : World} {g n i m : Nat} {st x : List Int} (h : ChainK w g n st (i + 1)) (ht : w.there g 0 m) (hm : 32 * n ≤ m) (hi : i < n) (hx : backV st (n - 1 - i) = x) (hl : x.length = 32) : ChainK (w.setCells g (i * 32) (ints .u8 x).toArray.toList) g n st i := fun j h1 h2 => by
  by_cases e : j = i
  · subst e
    rw [hx]
    have h0 : w.there g (j * 32) (ints .u8 x).length := there_at ht (by rw [ints_length, hl]; omega)
    exact Rw.of (World.rangeAt_setCells_same w g (j * 32) (ints .u8 x) h0) (World.there_setCells h0 g (j * 32) (ints .u8 x))
  · exact (h j (by omega) h2).aside (.inl (by show i * 32 + (ints .u8 x).length ≤ j * 32; rw [ints_length, hl]; omega))
set_option maxRecDepth 50000 in
set_option maxHeartbeats 2000000 in
theorem chain_bad (st : List Int) (n : Int) (w : World) (h : n < 1 ∨ 4096 < n) :
    Calls Tryd.prog 15 #[.agg (ints .u8 st).toArray, .int .i64 n] w fun e w' => e = .returned (.tuple #[.slice none 0 0, .int .i64 2]) ∧ Below w.heap.size w w' := by
  have hW := below_new w (.cells (ints .u8 st).toArray 30)
  by_cases hn : n < 1
  · have e0 : decide (n < 1) = true := decide_eq_true hn
    clear h hn
    go_enter Tryd.func15, Tryd.ntmps15
    go_wp2
    go_ret2
    exact ⟨rfl, hW⟩
  · have e0 : decide (n < 1) = false := decide_eq_false hn
    have e1 : decide ((4096 : Int) < n) = true := decide_eq_true (by omega)
    clear h hn
    go_enter Tryd.func15, Tryd.ntmps15
    go_wp2
    go_ret2
    exact ⟨rfl, hW⟩
set_option maxRecDepth 50000 in
set_option maxHeartbeats 4000000 in
theorem chain_any (st : List Int) (n : Nat) (w : World) (hT : TabsH w) (hst : st.length = 32) (hb : HByt st) (hn1 : 1 ≤ n) (hn : n ≤ 4096) :
    Calls Tryd.prog 15 #[.agg (ints .u8 st).toArray, .int .i64 n] w fun e w' => ∃ g, e = .returned (.tuple #[.slice (some ⟨g, 0, none⟩) n n, .int .i64 0]) ∧ ChainK w' g n st 0 ∧ Below w.heap.size w w' := by
  obtain ⟨i0, hi0, hz0, hs0, hy0⟩ : ∃ i, Tryd.prog.info? 30 = some i ∧ i.zero = some (.agg (ints .u8 (hzeros 32)).toArray) ∧ i.size = 32 ∧ i.bytes = 32 := by
    have h : (Tryd.prog.info? 30).map (fun i => (i.zero, i.size, i.bytes)) = some (some (.agg (ints .u8 (hzeros 32)).toArray), 32, 32) := by kernel_rfl
    cases hq : Tryd.prog.info? 30 with
    | none => rw [hq] at h; simp at h
    | some i =>
      rw [hq] at h
      simp only [Option.map_some, Option.some.injEq, Prod.mk.injEq] at h
      exact ⟨i, rfl, h.1, h.2.1, h.2.2⟩
  have hT0 := hT
  have h2 := Rw.new w (ints .u8 st) 30
  have hW := below_new w (.cells (ints .u8 st).toArray 30)
  have n0 : ¬ (n : Int) < 1 := by omega
  have n1 : ¬ (4096 : Int) < (n : Int) := by omega
  have HL : Hid (∀ k, (backV st k).length = 32) := hid (backV_len hst)
  have HB : Hid (∀ k, HByt (backV st k)) := hid (backV_byt hb)
  have HS := hid hst
  clear hst hb
  go_enter Tryd.func15, Tryd.ntmps15
  go_wp2_with (at_make; refine wpList_make_full _ rfl _ _ 39 rfl (w.heap.size + 1) 30 i0 _ 32 (by kernel_rfl) hi0 hz0 hs0 .i64 .i64 _ _ n rfl rfl ?_ ?_ ?_ ?_ ?_ ?_)
  · rfl
  · rfl
  · omega
  · unfold maxLen; omega
  intro w1 hown hgrow
  have hb1 : Below w.heap.size w w1 := hW.grown hgrow hW.size (by simp)
  have h21 := h2.grown hgrow (by simp)
  have hth : w1.there (w.heap.size + 1) 0 (32 * n) := fun j hj => by
    have hl := hown.1
    rw [Nat.zero_add]
    refine ⟨?_, World.ownsRow.frozenAt hown j⟩
    rw [World.ownsRow.cellAt hown j (by omega), List.getElem?_eq_getElem (by omega)]
    rfl
  have hT1 := hT.next hb1
  have r2 := h21.range
  have R0 : w1.there (w.heap.size + 1) ((n - 1) * 32) (ints .u8 st).toArray.size := there_at hth (by show (n - 1) * 32 + (ints .u8 st).length ≤ _; rw [ints_length, HS.out]; omega)
  have e1 : (n : Int) - 1 = ((n - 1 : Nat) : Int) := by omega
  have hK0 : ChainK w1 (w.heap.size + 1) n st (n - 1 + 1) := fun j h1 h2 => absurd h1 (by omega)
  have hK1 := hK0.put hth (Nat.le_refl _) (show n - 1 < n by omega) (x := st) (by rw [show n - 1 - (n - 1) = 0 by omega]; rfl) HS.out
  have hth1 := World.there_setCells hth (w.heap.size + 1) ((n - 1) * 32) (ints .u8 st).toArray.toList
  have hb2 := Below.setCells hb1 (g := w.heap.size + 1) (by omega) ((n - 1) * 32) (ints .u8 st).toArray.toList
  have hT2 : TabsH (w1.setCells (w.heap.size + 1) ((n - 1) * 32) (ints .u8 st).toArray.toList) := hT0.next hb2
  clear hown hgrow hW h2 hT hb1 hT1 hK0 hth h21
  go_wp2_with (first
    | (with_reducible refine wpList_load_mid (op := ⟨some 19, .load 30 (.tmp 2), _, _, _, _⟩) rfl 30 (.tmp 2) rfl w.heap.size 0 rfl (ints .u8 st) _ r2 Tryd.underlying30 rfl (szV infS32 (il HS.out)) ?_)
    | (with_reducible refine wpList_store_mid (op := ⟨none, .store 30 (.tmp 20) (.tmp 19), _, _, _, _⟩) rfl 30 (.tmp 20) (.tmp 19) rfl (w.heap.size + 1) ((n - 1) * 32) (ints .u8 st).toArray rfl rfl R0 (szA infS32 (il HS.out)) (ints_all _ _) ?_
       clear R0 r2
       generalize w1.setCells (w.heap.size + 1) ((n - 1) * 32) (ints .u8 st).toArray.toList = w2 at *))
  go_loopw [7] (fun i wr => ∃ k : Nat, 1 ≤ k ∧ k ≤ n ∧ i = .int .i64 ((n : Int) - 1 - k) ∧ ChainK wr (w.heap.size + 1) n st (n - k) ∧ wr.there (w.heap.size + 1) 0 (32 * n) ∧ Below w.heap.size w wr) (fun i _ => (intOf i + 1).toNat)
  case atStart => exact ⟨1, Nat.le_refl _, hn1, by congr 1; omega, hK1, hth1, hb2⟩
  case round =>
    clear hK1 hth1 hb2 hT2
    obtain ⟨k, hk1, hk, rfl, hK, hth, hW⟩ := hrel
    have hTr := hT0.next hW
    by_cases hlt : k < n
    · obtain ⟨m, hm⟩ : ∃ m, m + k + 1 = n := ⟨n - 1 - k, by omega⟩
      have ei : (n : Int) - 1 - (k : Int) = (m : Int) := by omega
      have m0 : (0 : Int) ≤ m := by omega
      have m1 : (m : Int) + 1 < n := by omega
      obtain ⟨x, hx⟩ : ∃ x, backV st (k - 1) = x := ⟨_, rfl⟩
      obtain ⟨y, hy⟩ : ∃ y, backV st k = y := ⟨_, rfl⟩
      have HXL : Hid (x.length = 32) := hid (by rw [← hx]; exact HL.out (k - 1))
      have HYL : Hid (y.length = 32) := hid (by rw [← hy]; exact HL.out k)
      have HN : Hid (∀ w : World, TabsH w → Calls Tryd.prog 12 #[.agg (ints .u8 x).toArray] w fun e w' => e = .returned (.agg (ints .u8 y).toArray) ∧ Below w.heap.size w w') := hid fun w hT => by
        have h := next_any x w hT HXL.out (by rw [← hx]; exact HB.out _)
        have e : nextV x = y := by
          obtain ⟨q, rfl⟩ : ∃ q, k = q + 1 := ⟨k - 1, by omega⟩
          rw [← hx, ← hy]; rfl
        rw [e] at h
        exact h
      have hx1 := (hK (m + 1) (by omega) (by omega)).range
      rw [show n - 1 - (m + 1) = k - 1 by omega, hx] at hx1
      have HY := hid hy
      rw [ei]
      rw [show n - k = m + 1 by omega] at hK
      clear hx hy
      go_wp2_with (first
        | (with_reducible refine wpList_load_mid (op := ⟨some 33, .load 30 (.tmp 32), _, _, _, _⟩) rfl 30 (.tmp 32) rfl (w.heap.size + 1) ((m + 1) * 32) rfl (ints .u8 x) _ hx1 Tryd.underlying30 rfl (szV infS32 (il HXL.out)) ?_)
        | (go_at_call 12; refine (HN.out _ hTr).mono ?_; rintro e w3 ⟨rfl, hb3⟩
           have hth3 := there_next hth hb3
           have hW3 := hW.trans (Below.mono hb3 hW.size)
           have R0 : w3.there (w.heap.size + 1) (m * 32) (ints .u8 y).toArray.size := there_at hth3 (by show m * 32 + (ints .u8 y).length ≤ _; rw [ints_length, HYL.out]; omega)
           have hK3 := (hK.next hb3).put hth3 (Nat.le_refl _) (show m < n by omega) (x := y) (by rw [show n - 1 - m = k by omega]; exact HY.out) HYL.out
           have hth4 := World.there_setCells hth3 (w.heap.size + 1) (m * 32) (ints .u8 y).toArray.toList
           have hW4 := Below.setCells hW3 (g := w.heap.size + 1) (by omega) (m * 32) (ints .u8 y).toArray.toList
           clear hb3 hK hth hW hx1 hth3 hW3 hTr)
        | (with_reducible refine wpList_store_mid (op := ⟨none, .store 30 (.tmp 35) (.tmp 34), _, _, _, _⟩) rfl 30 (.tmp 35) (.tmp 34) rfl (w.heap.size + 1) (m * 32) (ints .u8 y).toArray rfl rfl R0 (szA infS32 (il HYL.out)) (ints_all _ _) ?_
           clear R0
           generalize w3.setCells (w.heap.size + 1) (m * 32) (ints .u8 y).toArray.toList = w4 at *))
      go_roundw
      case rel => exact ⟨k + 1, by omega, by omega, by congr 1; omega, by rw [show n - (k + 1) = m by omega]; exact hK3, hth4, hW4⟩
      case measure => simp [intOf]
    · have e : k = n := by omega
      subst e
      have ei : (k : Int) - 1 - (k : Int) = -1 := by omega
      rw [ei]
      rw [Nat.sub_self] at hK
      go_wp2
      go_ret2
      exact ⟨w.heap.size + 1, rfl, hK, hW⟩
end Go.Proofs.YtihipgojeikdkaaDoor
