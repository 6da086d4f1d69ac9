/- Texts of this proof, laid together: VTag, VIdx. -/
import Derived.Test.YtpncohoonfahpaaGreatDoorG12
import Derived.Test.YtpncohoonfahpaaGreatDoorG11
import Derived.Lib.ConvBytes
/- Tag: the tag of parts under a key. -/
namespace Go.Proofs.YtpncohoonfahpaaGreatDoor
open Go Go.RowKit

set_option maxRecDepth 50000 in
set_option maxHeartbeats 4000000 in
theorem vtag_core (key T F I O h r : List Int) (A PA : Option Addr) (l c m pc : Nat) (ps : List Part) (w : World) (hT : TabsH w) (HK : Hid (key.length = l)) (h1 : l ≤ 1000) (hlc : l ≤ c) (hkb : HByt key) (hA : Nums w .u8 A key) (hP : Parts w PA ps) (hok : ∀ q ∈ ps, PartOk w q) (hm : Hid (ps.length = m)) (hm2 : m ≤ 500) (HT : Hid (flat ps = T)) (HTL : Hid ((I ++ T).length ≤ 100000))
    (HF : Hid (fillV key = F)) (HFL : Hid (F.length = 128)) (HI : Hid (vxl 54 F = I)) (HIL : Hid (PL 128 I)) (HO : Hid (vxl 92 F = O)) (HOL : Hid (PL 128 O)) (Hh : Hid (hash (I ++ T) = h)) (HhL : Hid (PL 64 h)) (HhN : Hid (h.length = 64)) (HOH : Hid ((O ++ h).length ≤ 100000)) (Hr : Hid (hash (O ++ h) = r)) (HrL : Hid (r.length = 64)) :
    Calls Tryz.prog 154 #[.slice A l c, .slice PA m pc] w fun e w' => e = .returned (.agg (ints .u8 r).toArray) ∧ Below w.heap.size w w' := by
  obtain ⟨z64, s64⟩ := zero_of_info infH
  obtain ⟨z128, s128⟩ := zero_of_info infF
  have h4 := Rw.new w (ints .u8 (hzeros 64)) 38
  have hW := below_new w (.cells (ints .u8 (hzeros 64)).toArray 38)
  replace hT := hT.next hW
  replace hA := hA.below hW
  replace hP := hP.below hW
  have hok1 : ∀ q ∈ ps, PartOk (w.alloc (.cells (ints .u8 (hzeros 64)).toArray 38)) q := fun q hq => (hok q hq).below hW
  clear hok
  go_enter Tryz.func154, Tryz.ntmps154
  go_wp2_with (first
    | (go_at_call 204; generalize w.alloc (.cells (ints .u8 (hzeros 64)).toArray 38) = w0 at *; refine (fill_any A l c key _ hT HK h1 hlc hkb hA).mono ?_; rintro e w1 ⟨rfl, hb1⟩
       rw [HF.out]
       have R5 := (Rw.new w1 (ints .u8 (hzeros 128)) 176).roomA (us := ints .u8 F) ((il HFL.out).trans (il (hz_len 128)).symm)
       have h5 := (Rw.new w1 (ints .u8 (hzeros 128)) 176).storedA (us := ints .u8 F) ((il HFL.out).trans (il (hz_len 128)).symm)
       have hb2 := hb1.trans (Below.mono (Below.setCells (below_new w1 (.cells (ints .u8 (hzeros 128)).toArray 176)) (Nat.le_refl _) 0 (ints .u8 F).toArray.toList) hb1.size)
       replace h4 := h4.next hb2
       replace hT := hT.next hb2
       replace hP := hP.below hb2
       have hok2 : ∀ q ∈ ps, PartOk ((w1.alloc (.cells (ints .u8 (hzeros 128)).toArray 176)).setCells w1.heap.size 0 (ints .u8 F).toArray.toList) q := fun q hq => (hok1 q hq).below hb2
       replace hW := hW.trans (Below.mono hb2 hW.size)
       clear hb1 hb2 hA hok1)
    | (with_reducible refine wpList_store_mid (op := ⟨none, .store 176 (.tmp 5) (.tmp 8), _, _, _, _⟩) rfl 176 (.tmp 5) (.tmp 8) rfl w1.heap.size 0 (ints .u8 F).toArray rfl rfl R5 (szA infF (il HFL.out)) (ints_all _ _) ?_
       generalize (w1.alloc (.cells (ints .u8 (hzeros 128)).toArray 176)).setCells w1.heap.size 0 (ints .u8 F).toArray.toList = w2 at *
       generalize w1.heap.size = b5 at *
       clear R5
       have r5 := h5.range)
    | (with_reducible refine wpList_load_mid (op := ⟨some 9, .load 176 (.tmp 5), _, _, _, _⟩) rfl 176 (.tmp 5) rfl b5 0 rfl (ints .u8 F) _ r5 Tryz.underlying176 rfl (szV infF (il HFL.out)) ?_)
    | (go_at_call 206; clear r5; refine (comb_any F 54 _ HFL).mono ?_; rintro e w3 ⟨g1, rfl, _, hC, hb3⟩
       rw [HI.out] at hC
       have hb4 := (below_new w3 (.cells #[.slice (some ⟨g1, 0, none⟩) 128 128] 23)).alloc (by simp) (.cells #[.slice (some ⟨w3.heap.size, 0, none⟩) 1 1, .slice PA m pc] 57)
       have hb5 := hb3.trans (Below.mono hb4 hb3.size)
       have hC4 := hC.nums.below hb4
       have hg0 : w3.heap.size + 1 < ((w3.alloc (.cells #[.slice (some ⟨g1, 0, none⟩) 128 128] 23)).alloc (.cells #[.slice (some ⟨w3.heap.size, 0, none⟩) 1 1, .slice PA m pc] 57)).heap.size := by simp
       have hc0 : ((w3.alloc (.cells #[.slice (some ⟨g1, 0, none⟩) 128 128] 23)).alloc (.cells #[.slice (some ⟨w3.heap.size, 0, none⟩) 1 1, .slice PA m pc] 57)).cell? ⟨w3.heap.size + 1, 0, none⟩ = some (.slice (some ⟨w3.heap.size, 0, none⟩) 1 1) := by
         have h := World.cell?_alloc_new (w := w3.alloc (.cells #[.slice (some ⟨g1, 0, none⟩) 128 128] 23)) #[.slice (some ⟨w3.heap.size, 0, none⟩) 1 1, .slice PA m pc] 57 0
         rw [World.size_alloc] at h
         exact h
       have hc1 : ((w3.alloc (.cells #[.slice (some ⟨g1, 0, none⟩) 128 128] 23)).alloc (.cells #[.slice (some ⟨w3.heap.size, 0, none⟩) 1 1, .slice PA m pc] 57)).cell? ⟨w3.heap.size + 1, 1, none⟩ = some (.slice PA m pc) := by
         have h := World.cell?_alloc_new (w := w3.alloc (.cells #[.slice (some ⟨g1, 0, none⟩) 128 128] 23)) #[.slice (some ⟨w3.heap.size, 0, none⟩) 1 1, .slice PA m pc] 57 1
         rw [World.size_alloc] at h
         exact h
       have hc2 : ((w3.alloc (.cells #[.slice (some ⟨g1, 0, none⟩) 128 128] 23)).alloc (.cells #[.slice (some ⟨w3.heap.size, 0, none⟩) 1 1, .slice PA m pc] 57)).cell? ⟨w3.heap.size, 0, none⟩ = some (.slice (some ⟨g1, 0, none⟩) 128 128) := by
         have h := ((below_new (w3.alloc (.cells #[.slice (some ⟨g1, 0, none⟩) 128 128] 23)) (.cells #[.slice (some ⟨w3.heap.size, 0, none⟩) 1 1, .slice PA m pc] 57)).cell (p := ⟨w3.heap.size, 0, none⟩) (by simp)).trans (World.cell?_alloc_new (w := w3) #[.slice (some ⟨g1, 0, none⟩) 128 128] 23 0)
         exact h
       have hQ : Parts ((w3.alloc (.cells #[.slice (some ⟨g1, 0, none⟩) 128 128] 23)).alloc (.cells #[.slice (some ⟨w3.heap.size, 0, none⟩) 1 1, .slice PA m pc] 57)) (some ⟨w3.heap.size, 0, none⟩) [(some ⟨g1, 0, none⟩, 128, I)] := fun _ => ⟨w3.heap.size, 0, rfl, by simp; omega, fun i q hi => by
         have h0 : i = 0 := by have := (List.getElem?_eq_some_iff.1 hi).1; simpa using this
         subst h0
         simp at hi
         subst hi
         show ((w3.alloc (.cells #[.slice (some ⟨g1, 0, none⟩) 128 128] 23)).alloc (.cells #[.slice (some ⟨w3.heap.size, 0, none⟩) 1 1, .slice PA m pc] 57)).cell? ⟨w3.heap.size, 0, none⟩ = some (.slice (some ⟨g1, 0, none⟩) I.length 128)
         rw [HIL.out.1]; exact hc2⟩
       have hqo : PartOk ((w3.alloc (.cells #[.slice (some ⟨g1, 0, none⟩) 128 128] 23)).alloc (.cells #[.slice (some ⟨w3.heap.size, 0, none⟩) 1 1, .slice PA m pc] 57)) (some ⟨g1, 0, none⟩, 128, I) := ⟨hC4, by show I.length ≤ 128; rw [HIL.out.1]; omega, by show I.length ≤ 1000; rw [HIL.out.1]; omega, HIL.out.2.2⟩
       have hok4 : ∀ q ∈ [(some ⟨g1, 0, none⟩, 128, I)] ++ ps, PartOk ((w3.alloc (.cells #[.slice (some ⟨g1, 0, none⟩) 128 128] 23)).alloc (.cells #[.slice (some ⟨w3.heap.size, 0, none⟩) 1 1, .slice PA m pc] 57)) q := fun q hq => by
         rcases List.mem_append.1 hq with hq | hq
         · rw [List.mem_singleton.1 hq]; exact hqo
         · exact (hok2 q hq).below hb5
       obtain ⟨q1, hq1⟩ : ∃ q1 : Part, q1 = (some ⟨g1, 0, none⟩, 128, I) := ⟨_, rfl⟩
       rw [← hq1] at hQ hok4
       have HQ1 : Hid (q1.2.2 = I) := hid (by rw [hq1])
       replace h4 := h4.next hb5
       replace h5 := h5.next hb5
       replace hT := hT.next hb5
       replace hP := hP.below hb5
       replace hW := hW.trans (Below.mono hb5 hW.size)
       clear hb3 hb4 hb5 hC hC4 hc2 hqo hok2 hq1)
    | (go_at_call 205; generalize ((w3.alloc (.cells #[.slice (some ⟨g1, 0, none⟩) 128 128] 23)).alloc (.cells #[.slice (some ⟨w3.heap.size, 0, none⟩) 1 1, .slice PA m pc] 57)) = w4 at *; generalize w3.heap.size = g3 at *
       refine (cat_any (g3 + 1) m 1 pc (some ⟨g3, 0, none⟩) PA q1 ps _ hg0 hc0 hc1 hQ hP hm hm2).mono ?_; rintro e w5 ⟨B5, d5, rfl, hO5, hb5⟩
       have hP5 := hO5.parts
       have hok5 : ∀ q ∈ [q1] ++ ps, PartOk w5 q := fun q hq => (hok4 q hq).below hb5
       have hm5 : Hid (([q1] ++ ps).length = 1 + m) := hid (by rw [List.length_append, hm.out, List.length_singleton])
       have hf5 : Hid (flat ([q1] ++ ps) = I ++ T) := hid (by rw [← HT.out]; unfold flat; rw [List.map_append, List.flatten_append, List.map_cons, List.map_nil, List.flatten_cons, List.flatten_nil, List.append_nil, HQ1.out])
       replace h4 := h4.next hb5
       replace h5 := h5.next hb5
       replace hT := hT.next hb5
       replace hW := hW.trans (Below.mono hb5 hW.size)
       clear hb5 hg0 hc0 hc1 hQ hP hok4 hO5)
    | (go_at_call 104; refine (vsum B5 d5 (1 + m) _ (I ++ T) h _ hT hP5 hok5 hm5 (by omega) hf5 HTL Hh).mono ?_; rintro e w6 ⟨rfl, hb6⟩
       have R6 := (Rw.new w6 (ints .u8 (hzeros 64)) 38).roomA (us := ints .u8 h) ((il HhN.out).trans (il (hz_len 64)).symm)
       have h6 := (Rw.new w6 (ints .u8 (hzeros 64)) 38).storedA (us := ints .u8 h) ((il HhN.out).trans (il (hz_len 64)).symm)
       have hb7 := hb6.trans (Below.mono (Below.setCells (below_new w6 (.cells (ints .u8 (hzeros 64)).toArray 38)) (Nat.le_refl _) 0 (ints .u8 h).toArray.toList) hb6.size)
       replace h4 := h4.next hb7
       replace h5 := h5.next hb7
       replace hT := hT.next hb7
       replace hW := hW.trans (Below.mono hb7 hW.size)
       clear hb6 hb7 hP5 hok5 hm5 hf5)
    | (with_reducible refine wpList_store_mid (op := ⟨none, .store 38 (.tmp 6) (.tmp 15), _, _, _, _⟩) rfl 38 (.tmp 6) (.tmp 15) rfl w6.heap.size 0 (ints .u8 h).toArray rfl rfl R6 (szA infH (il HhN.out)) (ints_all _ _) ?_
       generalize (w6.alloc (.cells (ints .u8 (hzeros 64)).toArray 38)).setCells w6.heap.size 0 (ints .u8 h).toArray.toList = w7 at *
       generalize w6.heap.size = b6 at *
       clear R6))
  have s7 := hW.size
  refine region_spec2 5 21 (fun _ => false) [Is (.agg (ints .u8 F).toArray), IsPart 128 O, Is (.slice (some ⟨b6, 0, none⟩) 64 64), IsPs 2 (O ++ h), Is (.agg (ints .u8 r).toArray)] [16, 17, 18, 19, 20] (by kernel_rfl) (by kernel_rfl) (by kernel_rfl) (Nat.le_of_eq rfl) (grows_cons (Is.grows _) (grows_cons (IsPart.grows _ _) (grows_cons (Is.grows _) (grows_cons (IsPs.grows _ _) (grows_cons (Is.grows _) grows_nil)))))
    ⟨step_ldV rfl (.inl rfl) (fun _ hw => (h5.next hw).range) rfl Tryz.underlying176 rfl (szV infF (il HFL.out)) rfl (knows_out 5 (by kernel_rfl) rfl),
     step_comb rfl (.inl rfl) rfl HFL.out HO.out rfl (knows_in 0 16 (by decide) (by kernel_rfl) rfl rfl) (knows_const _),
     step_one rfl (.inl rfl) (fun ev w h hc => ex_slA (P := Tryz.prog) uaV64 zeV64 (m := 64) rfl rfl ev w h hc) rfl (knows_out 6 (by kernel_rfl) rfl),
     step_lit2 rfl (.inl rfl) rfl HOL.out HhL.out rfl rfl (knowsW_in 1 17 (by decide) (by kernel_rfl) rfl rfl) ((knows_in 2 18 (by decide) (by kernel_rfl) rfl rfl).part (Nat.le_refl _) (fun w hw => (h6.next hw).nums)),
     step_sumP rfl (.inl rfl) rfl hT (by decide) HOH.out Hr.out rfl (knowsW_in 3 19 (by decide) (by kernel_rfl) rfl rfl), trivial⟩ ?_
  intro val w8 hw hS hap hla
  have e16 : val 16 = (.agg (ints .u8 F).toArray) := hS 0 16 (by decide) rfl
  have e18 : val 18 = (.slice (some ⟨b6, 0, none⟩) 64 64) := hS 2 18 (by decide) rfl
  have e20 : val 20 = (.agg (ints .u8 r).toArray) := hS 4 20 (by decide) rfl
  simp only [putVals, List.foldl_cons, List.foldl_nil, List.drop_succ_cons, List.drop_zero, Act.put, List.setIfInBounds_toArray, List.set_cons_succ, List.set_cons_zero, e16, e18, e20]
  generalize val 17 = g17
  generalize val 19 = g19
  clear hS hap hla e16 e18 e20 
  replace h4 := h4.next hw
  replace hW := hW.trans (Below.mono hw hW.size)
  clear hw
  have R8 := h4.roomA (us := ints .u8 r) ((il HrL.out).trans (il (hz_len 64)).symm)
  have X8 := h4.storedA (us := ints .u8 r) ((il HrL.out).trans (il (hz_len 64)).symm)
  have hW2 := Below.setCells hW (g := w.heap.size) (Nat.le_refl _) 0 (ints .u8 r).toArray.toList
  with_reducible refine wpList_store_mid (op := ⟨none, .store 38 (.tmp 4) (.tmp 20), _, _, _, _⟩) rfl 38 (.tmp 4) (.tmp 20) rfl w.heap.size 0 (ints .u8 r).toArray rfl rfl R8 (szA infH (il HrL.out)) (ints_all _ _) ?_
  go_wp2_with (fail)
  exact ret_rows rfl w.heap.size 0 rfl (ints .u8 r) _ X8.range Tryz.underlying38 rfl (szV infH (il HrL.out)) rfl ⟨rfl, hW2⟩
set_option maxRecDepth 50000 in
theorem pl_in (key : List Int) : PL 128 (inV key) := ⟨inV_len key, by omega, inV_byt key⟩
set_option maxRecDepth 50000 in
theorem pl_out (key : List Int) : PL 128 (outV key) := ⟨outV_len key, by omega, outV_byt key⟩
set_option maxRecDepth 50000 in
theorem pl_hash (m : List Int) : PL 64 (hash m) := ⟨hash_len m, by omega, hash_byt m⟩
set_option maxRecDepth 50000 in
/-- The tag of parts, whatever they are. -/
theorem vtag_any (key T r : List Int) (A PA : Option Addr) (l c m pc : Nat) (ps : List Part) (w : World) (hT : TabsH w) (HK : Hid (key.length = l)) (h1 : l ≤ 1000) (hlc : l ≤ c) (hkb : HByt key) (hA : Nums w .u8 A key) (hP : Parts w PA ps) (hok : ∀ q ∈ ps, PartOk w q) (hm : Hid (ps.length = m)) (hm2 : m ≤ 500) (HT : Hid (flat ps = T)) (HTL : Hid (T.length ≤ 90000)) (Hr : Hid (tagV key T = r)) :
    Calls Tryz.prog 154 #[.slice A l c, .slice PA m pc] w fun e w' => e = .returned (.agg (ints .u8 r).toArray) ∧ Below w.heap.size w w' := by
  have e1 := inV_len key
  have e2 := outV_len key
  have e3 := HTL.out
  exact vtag_core key T (fillV key) (inV key) (outV key) (hash (inV key ++ T)) r A PA l c m pc ps w hT HK h1 hlc hkb hA hP hok hm hm2 HT (hid (by rw [List.length_append]; omega)) (hid rfl) (hid (fillV_len _)) (hid rfl) (hid (pl_in _)) (hid rfl) (hid (pl_out _)) (hid rfl) (hid (pl_hash _)) (hid (hash_len _)) (hid (by rw [List.length_append, hash_len]; omega)) Hr (hid (by rw [← Hr.out]; exact tagV_len _ _))
end Go.Proofs.YtpncohoonfahpaaGreatDoor

/- No context is too long; the bytes of a string. -/
namespace Go.Proofs.YtpncohoonfahpaaGreatDoor
open Go Go.RowKit

set_option maxRecDepth 50000 in
theorem toolong_no (A : Option Addr) (n c : Nat) (w : World) (h : n ≤ 1000) : Calls Tryz.prog 152 #[.slice A n c] w fun e w' => e = .returned (.bool false) ∧ Below w.heap.size w w' := by
  have h1 : (n : Int) ≤ 1048576 := by omega
  go_enter Tryz.func152, Tryz.ntmps152
  go_wp2
  go_ret
  exact ⟨ret_bool (decide_eq_false (by omega)), Below.refl _ _⟩
set_option maxRecDepth 50000 in
set_option maxHeartbeats 2000000 in
theorem index_no (PA : Option Addr) (n pc : Nat) (cs : List Part) (w : World) (hP : Parts w PA cs) (hn : Hid (cs.length = n)) (hn2 : n ≤ 1000) (hok : ∀ q ∈ cs, q.2.2.length ≤ 1000) :
    Calls Tryz.prog 203 #[.slice PA n pc, .func (.func 152) #[] #[]] w fun e w' => e = .returned (.int .i64 (-1)) ∧ Below w.heap.size w w' := by
  have n1 : (n : Int) ≤ 1000 := by omega
  go_enter Tryz.func203, Tryz.ntmps203
  go_wp2
  go_loopw [8] (fun i wr => ∃ k : Nat, k ≤ n ∧ i = .int .i64 k ∧ Below w.heap.size w wr) (fun i _ => n - (intOf i).toNat)
  case atStart => exact ⟨0, Nat.zero_le _, rfl, Below.refl _ _⟩
  case round =>
    obtain ⟨k, hk, rfl, hb⟩ := hrel
    by_cases hlt : k < n
    · obtain ⟨q, hq⟩ : ∃ q, cs[k]? = some q := ⟨cs[k]'(by rw [hn.out]; exact hlt), by simp [hn.out, hlt]⟩
      obtain ⟨g, off, rfl, hg, hc⟩ := (hP.below hb) (by rw [hn.out]; omega)
      have hck := hc k q hq
      have hql := hok q (List.mem_of_getElem? hq)
      have k0 : (0 : Int) ≤ k := by omega
      have k1 : (k : Int) < n := by omega
      clear hq hc hP
      generalize q.2.2.length = ql at *
      go_wp2_with (go_at_call 152; refine (toolong_no q.1 ql q.2.1 _ hql).mono ?_; rintro e w2 ⟨rfl, hb2⟩)
      go_roundw
      case rel => exact ⟨k + 1, by omega, by go_num, hb.trans (Below.mono hb2 hb.size)⟩
      case measure => simp [intOf]; omega
    · have e : k = n := by omega
      subst e
      go_wp2
      go_ret
      exact ⟨rfl, hb⟩
set_option maxRecDepth 50000 in
theorem contains_no (PA : Option Addr) (n pc : Nat) (cs : List Part) (w : World) (hP : Parts w PA cs) (hn : Hid (cs.length = n)) (hn2 : n ≤ 1000) (hok : ∀ q ∈ cs, q.2.2.length ≤ 1000) :
    Calls Tryz.prog 151 #[.slice PA n pc, .func (.func 152) #[] #[]] w fun e w' => e = .returned (.bool false) ∧ Below w.heap.size w w' := by
  go_enter Tryz.func151, Tryz.ntmps151
  go_wp2_with (go_at_call 203; refine (index_no PA n pc cs _ hP hn hn2 hok).mono ?_; rintro e w2 ⟨rfl, hb2⟩)
  go_ret
  exact ⟨rfl, hb2⟩
/-- A string's bytes. -/
def strL (s : ByteArray) : List Int := s.data.toList.map fun b => (b.toNat : Int)
set_option maxRecDepth 50000 in
theorem strL_len (s : ByteArray) : (strL s).length = s.size := by simp [strL]
set_option maxRecDepth 50000 in
theorem strL_byt (s : ByteArray) : HByt (strL s) := fun x hx => by
  simp only [strL, List.mem_map] at hx
  obtain ⟨b, _, rfl⟩ := hx
  have := b.toNat_lt
  omega
set_option maxRecDepth 50000 in
theorem strL_at (s : ByteArray) {i : Nat} (h : i < s.size) : (strL s)[i]? = some ((s.data.toList.getD i 0).toNat : Int) := by
  simp [strL, List.getD, h]
set_option maxRecDepth 50000 in
theorem str_nums (w : World) (s : ByteArray) : Nums (Lib.bytesWorld w 5 s) .u8 (some ⟨w.heap.size, 0, none⟩) (strL s) := fun hp => by
  rw [strL_len] at hp
  refine ⟨w.heap.size, 0, rfl, by rw [Lib.bytesWorld_size]; omega, fun i hi => ?_⟩
  rw [strL_len] at hi
  have h2 : (strL s).getD i 0 = ((s.data.toList.getD i 0).toNat : Int) := by rw [List.getD_eq_getElem?_getD, strL_at s hi]; rfl
  rw [Nat.zero_add, Lib.bytesWorld_cell w _ s i hi, h2]
set_option maxRecDepth 50000 in
theorem str_below (w : World) (s : ByteArray) : Below w.heap.size w (Lib.bytesWorld w 5 s) :=
  ⟨rfl, rfl, rfl, by rw [Lib.bytesWorld_size]; omega, fun k hk => Lib.bytesWorld_at_old w _ s k hk⟩
set_option maxRecDepth 50000 in
theorem str_cap (w : World) (s : ByteArray) : s.size ≤ grownCap w s.size 0 5 := grownCap_ge w _ _ _
end Go.Proofs.YtpncohoonfahpaaGreatDoor
