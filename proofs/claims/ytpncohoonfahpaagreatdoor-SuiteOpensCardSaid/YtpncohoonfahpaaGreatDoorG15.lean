/- Texts of this proof, laid together: VKeyW, VNext. -/
import Derived.Test.YtpncohoonfahpaaGreatDoorG14
/- Key: the good case. -/
namespace Go.Proofs.YtpncohoonfahpaaGreatDoor
open Go Go.RowKit

set_option maxRecDepth 50000 in
set_option maxHeartbeats 4000000 in
theorem key_core (src r1 r2 : List Int) (A PA : Option Addr) (l c n pc z : Nat) (s : ByteArray) (cs : List Part) (w : World) (hT : TabsH w) (HK : Hid (src.length = l)) (h0 : 0 < l) (h1 : l ≤ 1000) (hlc : l ≤ c) (hkb : HByt src) (hA : Nums w .u8 A src) (hz : Hid (s.size = z)) (hz6 : z ≤ 64)
    (hP : Parts w PA cs) (hn : Hid (cs.length = n)) (hn6 : n ≤ 16) (hok : ∀ q ∈ cs, PartOk w q) (HR : Hid (tagV src (textV (strL s) (cs.map (·.2.2))) = r1 ++ r2)) (HRL : Hid ((r1 ++ r2).length = 64)) (H1 : Hid (r1.length = 32)) :
    Calls Tryz.prog 98 #[.slice A l c, .string s, .slice PA n pc] w fun e w' => e = .returned (.tuple #[.agg (ints .u8 r1).toArray, .int .i64 0]) ∧ Below w.heap.size w w' := by
  obtain ⟨z32, s32⟩ := zero_of_info infS32
  obtain ⟨z64, s64⟩ := zero_of_info infH
  have h6 := Rw.new w (ints .u8 (hzeros 32)) 22
  have hW := below_new w (.cells (ints .u8 (hzeros 32)).toArray 22)
  have hS : w.heap.size + 1 ≤ (w.alloc (.cells (ints .u8 (hzeros 32)).toArray 22)).heap.size := by simp
  have hl : ¬ (l : Int) = 0 := by omega
  have i1 : ¬ (64 : Int) < (z : Int) := by omega
  have i2 : ¬ (16 : Int) < (n : Int) := by omega
  have hzs : (s.size : Int) = (z : Int) := by rw [hz.out]
  have hcv : ∀ w : World, (convert 9 23 (.string s)).run Tryz.prog w = .ok (.slice (some ⟨w.heap.size, 0, none⟩) z (grownCap w s.size 0 5)) (Lib.bytesWorld w 5 s) := fun w => by
    have h := Lib.run_convert_string_bytes (P := Tryz.prog) w 9 23 5 s (u := .string) (by kernel_rfl) (by kernel_rfl) (by kernel_rfl)
    rw [h, hz.out]
  go_enter Tryz.func98, Tryz.ntmps98
  go_wp2_with (first
    | (go_at_call 151; generalize w.alloc (.cells (ints .u8 (hzeros 32)).toArray 22) = w0 at *
       refine (contains_no PA n pc cs _ (hP.below hW) hn (by omega) (fun q hq => (hok q hq).2.2.1)).mono ?_; rintro e w1 ⟨rfl, hb1⟩
       replace h6 := h6.next hb1
       replace hW := hW.trans (Below.mono hb1 hW.size)
       replace hS := Nat.le_trans hS hb1.size
       clear hb1)
    | (go_at_call 153; refine (count_any z 1 _ (by omega) (by omega) (fits1 hz6)).mono ?_; rintro e w2 ⟨B2, d2, rfl, hd2, hN2, hb2⟩))
  have h21 := hb2.trans (Below.mono (str_below w2 s) hb2.size)
  replace h6 := h6.next h21
  replace hW := hW.trans (Below.mono h21 hW.size)
  replace hS := Nat.le_trans hS h21.size
  have hP1 : PartOk (Lib.bytesWorld w2 5 s) (B2, d2, splitB true 1 [(z : Int)]) := ⟨hN2.nums.below (str_below w2 s), by show (splitB true 1 [(z : Int)]).length ≤ d2; rw [split_len]; exact hd2, by show (splitB true 1 [(z : Int)]).length ≤ 1000; rw [split_len]; omega, splitB_byt _ _ _⟩
  have hP2 : PartOk (Lib.bytesWorld w2 5 s) (some ⟨w2.heap.size, 0, none⟩, grownCap w2 s.size 0 5, strL s) := ⟨str_nums w2 s, by show (strL s).length ≤ _; rw [strL_len]; exact str_cap w2 s, by show (strL s).length ≤ 1000; rw [strL_len, hz.out]; omega, strL_byt s⟩
  clear h21 hN2 hd2 hb2
  generalize grownCap w2 s.size 0 5 = cap at *
  generalize Lib.bytesWorld w2 5 s = w3 at *
  have hO := owns_new2 w3 (w.heap.size + 1) (B2, d2, splitB true 1 [(z : Int)]) (some ⟨w2.heap.size, 0, none⟩, cap, strL s) 1 z (split_len _ _ _) (by show (strL s).length = z; rw [strL_len, hz.out]) hS
  have hb4 := below_new w3 (.cells #[.slice B2 1 d2, .slice (some ⟨w2.heap.size, 0, none⟩) z cap] 23)
  have hKp : PKeep (w3.alloc (.cells #[.slice B2 1 d2, .slice (some ⟨w2.heap.size, 0, none⟩) z cap] 23)) (.slice (some ⟨w3.heap.size, 0, none⟩) 2 2) [(B2, d2, splitB true 1 [(z : Int)]), (some ⟨w2.heap.size, 0, none⟩, cap, strL s)] :=
    PKeep.app (pkeep_old (D := w3.heap.size) (v := .slice (some ⟨w3.heap.size, 0, none⟩) 2 2) hP1 hb4 (fun g (e : some w3.heap.size = some g) => Nat.le_of_eq (Option.some.inj e)) (Nat.le_refl _)) (pkeep_old (D := w3.heap.size) (v := .slice (some ⟨w3.heap.size, 0, none⟩) 2 2) hP2 hb4 (fun g (e : some w3.heap.size = some g) => Nat.le_of_eq (Option.some.inj e)) (Nat.le_refl _))
  obtain ⟨ps0, hps⟩ : ∃ ps0 : List Part, ps0 = [(B2, d2, splitB true 1 [(z : Int)]), (some ⟨w2.heap.size, 0, none⟩, cap, strL s)] := ⟨_, rfl⟩
  obtain ⟨lbl, hlbl⟩ : ∃ lbl, lbl = strL s := ⟨_, rfl⟩
  obtain ⟨L, hL⟩ : ∃ L, L = cs.map (·.2.2) := ⟨_, rfl⟩
  have HF0 : Hid (flat ps0 = textK lbl L 0) := hid (by rw [hps, flat_two, textK_zero, hlbl, strL_len, hz.out])
  have HPL0 : Hid (ps0.length = 2 + 2 * 0) := hid (by rw [hps]; rfl)
  have hO0 : OwnsP (w3.alloc (.cells #[.slice B2 1 d2, .slice (some ⟨w2.heap.size, 0, none⟩) z cap] 23)) (w.heap.size + 1) (.slice (some ⟨w3.heap.size, 0, none⟩) 2 2) ps0 := by rw [hps]; exact hO
  rw [← hps] at hKp
  have HLL : Hid (L.length = n) := hid (by rw [hL, List.length_map, hn.out])
  have HLK : Hid (∀ (k : Nat) q, cs[k]? = some q → L[k]? = some q.2.2) := hid (fun k q h => by rw [hL, List.getElem?_map, h]; rfl)
  have HTL : Hid ((textV lbl L).length ≤ 90000) := hid (by
    have h := textV_le (lbl := lbl) (L := L) (b := 1000) (n := n) (by rw [hlbl, strL_len, hz.out]; exact hz6) HLL.out (fun c hc => by rw [hL] at hc; obtain ⟨q, hq, rfl⟩ := List.mem_map.1 hc; exact (hok q hq).2.2.1)
    omega)
  rw [← hlbl, ← hL] at HR
  replace h6 := h6.next hb4
  replace hW := hW.trans (Below.mono hb4 hW.size)
  replace hS := Nat.le_trans hS hb4.size
  clear hO hP1 hP2 hb4 hps hL hlbl hzs hcv
  generalize w3.alloc (.cells #[.slice B2 1 d2, .slice (some ⟨w2.heap.size, 0, none⟩) z cap] 23) = w4 at *
  generalize w3.heap.size = g4 at *
  have n1 : (n : Int) ≤ 16 := by omega
  go_loopw [8, 37] (fun v i wr => ∃ (k : Nat) (A8 : Option Addr) (m8 d8 : Nat) (ps : List Part), k ≤ n ∧ v = .slice A8 m8 d8 ∧ i = .int .i64 k ∧ OwnsP wr (w.heap.size + 1) (.slice A8 m8 d8) ps ∧ Hid (ps.length = 2 + 2 * k) ∧ PKeep wr (.slice A8 m8 d8) ps ∧ Hid (flat ps = textK lbl L k) ∧ Below w.heap.size w wr ∧ w.heap.size + 1 ≤ wr.heap.size ∧ Rw wr w.heap.size 0 (ints .u8 (hzeros 32))) (fun _ i _ => n - (intOf i).toNat)
  case atStart => exact ⟨0, _, _, _, ps0, Nat.zero_le _, rfl, rfl, hO0, HPL0, hKp, HF0, hW, hS, h6⟩
  case round =>
    clear hO0 HPL0 hKp HF0 hW hS h6
    obtain ⟨k, A8, m8, d8, ps, hk, rfl, rfl, hO, HPL, hKp, HF, hW, hS, h6⟩ := hrel
    by_cases hlt : k < n
    · obtain ⟨q, hq⟩ : ∃ q, cs[k]? = some q := ⟨cs[k]'(by rw [hn.out]; exact hlt), by simp [hn.out, hlt]⟩
      obtain ⟨g, off, rfl, hg, hc⟩ := hP (by rw [hn.out]; omega)
      have hck : _ = _ := (hW.cell (p := ⟨g, off + k, none⟩) hg).trans (hc k q hq)
      have hqo := hok q (List.mem_of_getElem? hq)
      have HQ := hid (textK_succ lbl L (HLK.out k q hq))
      have hql : q.2.2.length ≤ 1000 := hqo.2.2.1
      obtain ⟨ql, hqe⟩ : ∃ ql, q.2.2.length = ql := ⟨_, rfl⟩
      rw [hqe] at hck hql
      have HQL := hid hqe
      have k0 : (0 : Int) ≤ k := by omega
      have k1 : (k : Int) < n := by omega
      clear hqe hq hc
      go_wp2_with (first
        | (go_at_call 153; refine (count_any ql 4 _ (by omega) (by omega) (fits4 (by omega))).mono ?_; rintro e w5 ⟨B4, d4, rfl, hd4, hN4, hb4⟩
           have hb6 := below_new w5 (.cells #[.slice B4 4 d4, .slice q.1 ql q.2.1] 23)
           have hK5 := ((hKp.stay hb4).app ((pkeep_new (d := d4) hN4 (by rw [split_len]; exact hd4) (by rw [split_len]; omega) (splitB_byt _ _ _) (fun g e => (hO.lt g e).2)).app (pkeep_old (D := w.heap.size + 1) hqo (hW.trans (Below.mono hb4 hW.size)) (fun g e => (hO.lt g e).1) (by omega)))).stay hb6
           have hO5 := (hO.stay hb4).stay hb6
           have hQ5 := parts_new2 w5 (B4, d4, splitB true 4 [(ql : Int)]) q 4 ql (split_len _ _ _) HQL.out
           have hb56 := hb4.trans (Below.mono hb6 hb4.size)
           replace hS := Nat.le_trans hS hb56.size
           replace hW := hW.trans (Below.mono hb56 hW.size)
           replace h6 := h6.next hb56
           clear hO hKp hb4 hb6 hb56 hN4 hd4 hck)
        | (at_builtin; refine app_parts rfl (.tmp 41) (.tmp 46) rfl (w.heap.size + 1) A8 m8 d8 ps rfl hO5 (some ⟨w5.heap.size, 0, none⟩) 2 2 [(B4, d4, splitB true 4 [(ql : Int)]), q] rfl rfl hQ5 (by rw [HPL.out]; omega) hS ?_
           intro A9 n9 c9 w7 hO7 hG7
           have hK7 := hK5.grew hG7
           have hb7 : Below (w.heap.size + 1) _ w7 := hG7.below hS fun g e => (hO5.lt g e).1
           replace h6 := h6.same (hb7.block w.heap.size (by omega))
           replace hW := hW.trans (Below.mono hb7 (by omega))
           replace hS := Nat.le_trans hS hb7.size
           clear hO5 hK5 hQ5 hG7 hb7))
      go_roundw
      case rel => exact ⟨k + 1, A9, n9, c9, _, by omega, rfl, by go_num, hO7, hid (by rw [List.length_append, HPL.out]; show 2 + 2 * k + 2 = _; omega), hK7, hid (by rw [flat_app, flat_two, HF.out, HQ.out]; unfold ctxV; rw [HQL.out]), hW, hS, h6⟩
      case measure => simp [intOf]; omega
    · have e : k = n := by omega
      subst e
      have hm := hO.len
      rw [HPL.out] at hm
      subst hm
      have HF2 : Hid (flat ps = textV lbl L) := hid (by rw [HF.out, textK_end lbl L _ (by rw [HLL.out]; omega)])
      have hT8 : TabsH _ := hT.next hW
      have hA8 := hA.below hW
      have hP8 := hO.parts
      have hk8 := hKp.ok
      have harr : ∀ (W : World) (A : Option Addr), (Instr.arrayAt 22 (.slice A 32 64)).run Tryz.prog W = .ok (.pointer A) W := fun W A => run_arrayAt W 22 5 32 A 32 64 (by kernel_rfl) (Nat.le_refl _)
      clear hO hKp hlt HF
      go_wp2_with (first
        | (go_at_call 154; refine (vtag_any src (textV lbl L) (r1 ++ r2) A A8 l c _ d8 ps _ hT8 HK h1 hlc hkb hA8 hP8 hk8 HPL (by omega) HF2 HTL HR).mono ?_; rintro e w7 ⟨rfl, hb7⟩
           have R11 := (Rw.new w7 (ints .u8 (hzeros 64)) 38).roomA (us := ints .u8 (r1 ++ r2)) ((il HRL.out).trans (il (hz_len 64)).symm)
           have X11 := ((Rw.new w7 (ints .u8 (hzeros 64)) 38).storedA (us := ints .u8 (r1 ++ r2)) ((il HRL.out).trans (il (hz_len 64)).symm)).lo.range
           have hb8 := hb7.trans (Below.mono (Below.setCells (below_new w7 (.cells (ints .u8 (hzeros 64)).toArray 38)) (Nat.le_refl _) 0 (ints .u8 (r1 ++ r2)).toArray.toList) hb7.size)
           replace h6 := h6.next hb8
           replace hW := hW.trans (Below.mono hb8 hW.size)
           have R6 := h6.roomA (us := ints .u8 r1) ((il H1.out).trans (il (hz_len 32)).symm)
           have X6 := h6.storedA (us := ints .u8 r1) ((il H1.out).trans (il (hz_len 32)).symm)
           have hW2 := Below.setCells hW (g := w.heap.size) (Nat.le_refl _) 0 (ints .u8 r1).toArray.toList
           clear hb7 hb8 h6 hW hP8 hk8 hA8 hT8)
        | (with_reducible refine wpList_store_mid (op := ⟨none, .store 38 (.tmp 11) (.tmp 51), _, _, _, _⟩) rfl 38 (.tmp 11) (.tmp 51) rfl w7.heap.size 0 (ints .u8 (r1 ++ r2)).toArray rfl rfl R11 (szA infH (il HRL.out)) (ints_all _ _) ?_
           generalize (w7.alloc (.cells (ints .u8 (hzeros 64)).toArray 38)).setCells w7.heap.size 0 (ints .u8 (r1 ++ r2)).toArray.toList = w8 at *
           generalize w7.heap.size = b11 at *
           clear R11)
        | (with_reducible refine wpList_load_mid (op := ⟨some 54, .load 22 (.tmp 53), _, _, _, _⟩) rfl 22 (.tmp 53) rfl b11 0 rfl (ints .u8 r1) _ X11 Tryz.underlying22 rfl (szV infS32 (il H1.out)) ?_)
        | (with_reducible refine wpList_store_mid (op := ⟨none, .store 22 (.tmp 6) (.tmp 54), _, _, _, _⟩) rfl 22 (.tmp 6) (.tmp 54) rfl w.heap.size 0 (ints .u8 r1).toArray rfl rfl R6 (szA infS32 (il H1.out)) (ints_all _ _) ?_
           clear R6
           generalize w8.setCells w.heap.size 0 (ints .u8 r1).toArray.toList = w9 at *))
      exact bodyPost_ret (results_rowV rfl _ _ w.heap.size 0 rfl (.int .i64 0) rfl (ints .u8 r1) _ X6.range Tryz.underlying22 rfl (szV infS32 (il H1.out))) rfl ⟨rfl, hW2⟩
set_option maxRecDepth 50000 in
/-- A derived key. -/
theorem key_any (src : List Int) (A PA : Option Addr) (l c n pc : Nat) (s : ByteArray) (cs : List Part) (w : World) (hT : TabsH w) (HK : Hid (src.length = l)) (h0 : 0 < l) (h1 : l ≤ 1000) (hlc : l ≤ c) (hkb : HByt src) (hA : Nums w .u8 A src) (hz6 : s.size ≤ 64)
    (hP : Parts w PA cs) (hn : Hid (cs.length = n)) (hn6 : n ≤ 16) (hok : ∀ q ∈ cs, PartOk w q) :
    Calls Tryz.prog 98 #[.slice A l c, .string s, .slice PA n pc] w fun e w' => e = .returned (.tuple #[.agg (ints .u8 (keyD src (strL s) (cs.map (·.2.2)))).toArray, .int .i64 0]) ∧ Below w.heap.size w w' := by
  obtain ⟨t, ht⟩ : ∃ t, t = tagV src (textV (strL s) (cs.map (·.2.2))) := ⟨_, rfl⟩
  have e : keyD src (strL s) (cs.map (·.2.2)) = t.take 32 := by rw [ht]; unfold keyD; rfl
  have hl : t.length = 64 := by rw [ht]; exact tagV_len _ _
  have h32 : (t.take 32).length = 32 := by rw [List.length_take, hl]; rfl
  have h2 : t.take 32 ++ t.drop 32 = t := List.take_append_drop 32 t
  have h3 : (t.take 32 ++ t.drop 32).length = 64 := by rw [h2, hl]
  have h4 : tagV src (textV (strL s) (cs.map (·.2.2))) = t.take 32 ++ t.drop 32 := by rw [h2, ht]
  rw [e]
  clear e ht h2
  generalize t.take 32 = r1 at *
  generalize t.drop 32 = r2 at *
  exact key_core src r1 r2 A PA l c n pc s.size s cs w hT HK h0 h1 hlc hkb hA (hid rfl) hz6 hP hn hn6 hok (hid h4) (hid h3) (hid h32)
end Go.Proofs.YtpncohoonfahpaaGreatDoor

/- Keys derived from a state for a label alone: Next, Item. -/
namespace Go.Proofs.YtpncohoonfahpaaGreatDoor
open Go Go.RowKit

set_option maxRecDepth 50000 in
theorem parts_none (w : World) : Parts w none [] := fun h => absurd h (by simp)
set_option maxRecDepth 50000 in
set_option maxHeartbeats 4000000 in
theorem labelled_core (st r : List Int) (s : ByteArray) (w : World) (hT : TabsH w) (hst : Hid (st.length = 32)) (hb : HByt st) (hs : Hid (s.size ≤ 64)) (HR : Hid (keyD st (strL s) [] = r)) (HRL : Hid (r.length = 32)) :
    Calls Tryz.prog 111 #[.agg (ints .u8 st).toArray, .string s] w fun e w' => e = .returned (.agg (ints .u8 r).toArray) ∧ Below w.heap.size w w' := by
  obtain ⟨z32, s32⟩ := zero_of_info infS32
  have h2 := (Rw.new w (ints .u8 st) 22).next (below_new (w.alloc (.cells (ints .u8 st).toArray 22)) (.cells (ints .u8 (hzeros 32)).toArray 22))
  have h4 := Rw.new (w.alloc (.cells (ints .u8 st).toArray 22)) (ints .u8 (hzeros 32)) 22
  rw [World.size_alloc] at h4
  have hW := (below_new w (.cells (ints .u8 st).toArray 22)).alloc (by simp) (.cells (ints .u8 (hzeros 32)).toArray 22)
  replace hT := hT.next hW
  go_enter Tryz.func111, Tryz.ntmps111
  go_wp2_with (first
    | (go_at_call 98; generalize (w.alloc (.cells (ints .u8 st).toArray 22)).alloc (.cells (ints .u8 (hzeros 32)).toArray 22) = w1 at *
       refine (key_any st (some ⟨w.heap.size, 0, none⟩) none 32 32 0 0 s [] _ hT hst (by omega) (by omega) (by omega) hb h2.nums hs.out (parts_none _) (hid rfl) (by omega) (fun q hq => absurd hq (by simp))).mono ?_; rintro e w2 ⟨rfl, hb2⟩
       rw [List.map_nil, HR.out]
       have R5 := (Rw.new w2 (ints .u8 (hzeros 32)) 22).roomA (us := ints .u8 r) ((il HRL.out).trans (il (hz_len 32)).symm)
       have X5 := ((Rw.new w2 (ints .u8 (hzeros 32)) 22).storedA (us := ints .u8 r) ((il HRL.out).trans (il (hz_len 32)).symm)).range
       have hb3 := hb2.trans (Below.mono (Below.setCells (below_new w2 (.cells (ints .u8 (hzeros 32)).toArray 22)) (Nat.le_refl _) 0 (ints .u8 r).toArray.toList) hb2.size)
       replace h4 := h4.next hb3
       replace hW := hW.trans (Below.mono hb3 hW.size)
       have R4 := h4.roomA (us := ints .u8 r) ((il HRL.out).trans (il (hz_len 32)).symm)
       have X4 := h4.storedA (us := ints .u8 r) ((il HRL.out).trans (il (hz_len 32)).symm)
       have hW2 := Below.setCells hW (g := w.heap.size + 1) (by omega) 0 (ints .u8 r).toArray.toList
       clear hb2 hb3 h2 h4 hW hT)
    | (with_reducible refine wpList_store_mid (op := ⟨none, .store 22 (.tmp 5) (.tmp 11), _, _, _, _⟩) rfl 22 (.tmp 5) (.tmp 11) rfl w2.heap.size 0 (ints .u8 r).toArray rfl rfl R5 (szA infS32 (il HRL.out)) (ints_all _ _) ?_
       generalize (w2.alloc (.cells (ints .u8 (hzeros 32)).toArray 22)).setCells w2.heap.size 0 (ints .u8 r).toArray.toList = w3 at *
       generalize w2.heap.size = b5 at *
       clear R5)
    | (with_reducible refine wpList_load_mid (op := ⟨some 13, .load 22 (.tmp 5), _, _, _, _⟩) rfl 22 (.tmp 5) rfl b5 0 rfl (ints .u8 r) _ X5 Tryz.underlying22 rfl (szV infS32 (il HRL.out)) ?_)
    | (with_reducible refine wpList_store_mid (op := ⟨none, .store 22 (.tmp 4) (.tmp 13), _, _, _, _⟩) rfl 22 (.tmp 4) (.tmp 13) rfl (w.heap.size + 1) 0 (ints .u8 r).toArray rfl rfl R4 (szA infS32 (il HRL.out)) (ints_all _ _) ?_
       clear R4))
  exact ret_rows rfl (w.heap.size + 1) 0 rfl (ints .u8 r) _ X4.range Tryz.underlying22 rfl (szV infS32 (il HRL.out)) rfl ⟨rfl, hW2⟩
set_option maxRecDepth 50000 in
theorem labelled_any (st : List Int) (s : ByteArray) (w : World) (hT : TabsH w) (hst : st.length = 32) (hb : HByt st) (hs : s.size ≤ 64) :
    Calls Tryz.prog 111 #[.agg (ints .u8 st).toArray, .string s] w fun e w' => e = .returned (.agg (ints .u8 (keyD st (strL s) [])).toArray) ∧ Below w.heap.size w w' :=
  labelled_core st (keyD st (strL s) []) s w hT (hid hst) hb (hid hs) (hid rfl) (hid (keyD_len _ _ _))
/-- The labels of the code. -/
def sREG : ByteArray := { data := #[114, 101, 103, 114, 101, 115, 115] }
def sITM : ByteArray := { data := #[105, 116, 101, 109] }
set_option maxRecDepth 50000 in
theorem strL_reg : strL sREG = REG := by rfl
set_option maxRecDepth 50000 in
theorem strL_itm : strL sITM = ITM := by rfl
set_option maxRecDepth 50000 in
set_option maxHeartbeats 4000000 in
theorem next_core (st r : List Int) (w : World) (hT : TabsH w) (hst : Hid (st.length = 32)) (HK : Hid (∀ w : World, TabsH w → Calls Tryz.prog 111 #[.agg (ints .u8 st).toArray, .string { data := #[114, 101, 103, 114, 101, 115, 115] }] w fun e w' => e = .returned (.agg (ints .u8 r).toArray) ∧ Below w.heap.size w w')) (HRL : Hid (r.length = 32)) :
    Calls Tryz.prog 65 #[.agg (ints .u8 st).toArray] w fun e w' => e = .returned (.agg (ints .u8 r).toArray) ∧ Below w.heap.size w w' := by
  obtain ⟨z32, s32⟩ := zero_of_info infS32
  have h1 := ((Rw.new w (ints .u8 st) 22).next (below_new (w.alloc (.cells (ints .u8 st).toArray 22)) (.cells (ints .u8 (hzeros 32)).toArray 22))).range
  have h2 := Rw.new (w.alloc (.cells (ints .u8 st).toArray 22)) (ints .u8 (hzeros 32)) 22
  rw [World.size_alloc] at h2
  have hW := (below_new w (.cells (ints .u8 st).toArray 22)).alloc (by simp) (.cells (ints .u8 (hzeros 32)).toArray 22)
  replace hT := hT.next hW
  go_enter Tryz.func65, Tryz.ntmps65
  go_wp2_with (first
    | (with_reducible refine wpList_load_mid (op := ⟨some 3, .load 22 (.tmp 1), _, _, _, _⟩) rfl 22 (.tmp 1) rfl w.heap.size 0 rfl (ints .u8 st) _ h1 Tryz.underlying22 rfl (szV infS32 (il hst.out)) ?_)
    | (go_at_call 111; generalize (w.alloc (.cells (ints .u8 st).toArray 22)).alloc (.cells (ints .u8 (hzeros 32)).toArray 22) = w1 at *
       refine (HK.out _ hT).mono ?_; rintro e w2 ⟨rfl, hb2⟩
       replace h2 := h2.next hb2
       replace hW := hW.trans (Below.mono hb2 hW.size)
       have R4 := h2.roomA (us := ints .u8 r) ((il HRL.out).trans (il (hz_len 32)).symm)
       have X4 := h2.storedA (us := ints .u8 r) ((il HRL.out).trans (il (hz_len 32)).symm)
       have hW2 := Below.setCells hW (g := w.heap.size + 1) (by omega) 0 (ints .u8 r).toArray.toList
       clear hb2 h1 h2 hW hT)
    | (with_reducible refine wpList_store_mid (op := ⟨none, .store 22 (.tmp 2) (.tmp 4), _, _, _, _⟩) rfl 22 (.tmp 2) (.tmp 4) rfl (w.heap.size + 1) 0 (ints .u8 r).toArray rfl rfl R4 (szA infS32 (il HRL.out)) (ints_all _ _) ?_
       clear R4))
  exact ret_rows rfl (w.heap.size + 1) 0 rfl (ints .u8 r) _ X4.range Tryz.underlying22 rfl (szV infS32 (il HRL.out)) rfl ⟨rfl, hW2⟩
set_option maxRecDepth 50000 in
theorem next_any (st : List Int) (w : World) (hT : TabsH w) (hst : st.length = 32) (hb : HByt st) :
    Calls Tryz.prog 65 #[.agg (ints .u8 st).toArray] w fun e w' => e = .returned (.agg (ints .u8 (nextV st)).toArray) ∧ Below w.heap.size w w' :=
  next_core st (nextV st) w hT (hid hst) (hid fun w hT => by
    have h := labelled_any st sREG w hT hst hb (by decide)
    rw [strL_reg] at h
    exact h) (hid (nextV_len _))
set_option maxRecDepth 50000 in
set_option maxHeartbeats 4000000 in
theorem item_core (st r : List Int) (w : World) (hT : TabsH w) (hst : Hid (st.length = 32)) (HK : Hid (∀ w : World, TabsH w → Calls Tryz.prog 111 #[.agg (ints .u8 st).toArray, .string { data := #[105, 116, 101, 109] }] w fun e w' => e = .returned (.agg (ints .u8 r).toArray) ∧ Below w.heap.size w w')) (HRL : Hid (r.length = 32)) :
    Calls Tryz.prog 66 #[.agg (ints .u8 st).toArray] w fun e w' => e = .returned (.agg (ints .u8 r).toArray) ∧ Below w.heap.size w w' := by
  obtain ⟨z32, s32⟩ := zero_of_info infS32
  have h1 := ((Rw.new w (ints .u8 st) 22).next (below_new (w.alloc (.cells (ints .u8 st).toArray 22)) (.cells (ints .u8 (hzeros 32)).toArray 22))).range
  have h2 := Rw.new (w.alloc (.cells (ints .u8 st).toArray 22)) (ints .u8 (hzeros 32)) 22
  rw [World.size_alloc] at h2
  have hW := (below_new w (.cells (ints .u8 st).toArray 22)).alloc (by simp) (.cells (ints .u8 (hzeros 32)).toArray 22)
  replace hT := hT.next hW
  go_enter Tryz.func66, Tryz.ntmps66
  go_wp2_with (first
    | (with_reducible refine wpList_load_mid (op := ⟨some 3, .load 22 (.tmp 1), _, _, _, _⟩) rfl 22 (.tmp 1) rfl w.heap.size 0 rfl (ints .u8 st) _ h1 Tryz.underlying22 rfl (szV infS32 (il hst.out)) ?_)
    | (go_at_call 111; generalize (w.alloc (.cells (ints .u8 st).toArray 22)).alloc (.cells (ints .u8 (hzeros 32)).toArray 22) = w1 at *
       refine (HK.out _ hT).mono ?_; rintro e w2 ⟨rfl, hb2⟩
       replace h2 := h2.next hb2
       replace hW := hW.trans (Below.mono hb2 hW.size)
       have R4 := h2.roomA (us := ints .u8 r) ((il HRL.out).trans (il (hz_len 32)).symm)
       have X4 := h2.storedA (us := ints .u8 r) ((il HRL.out).trans (il (hz_len 32)).symm)
       have hW2 := Below.setCells hW (g := w.heap.size + 1) (by omega) 0 (ints .u8 r).toArray.toList
       clear hb2 h1 h2 hW hT)
    | (with_reducible refine wpList_store_mid (op := ⟨none, .store 22 (.tmp 2) (.tmp 4), _, _, _, _⟩) rfl 22 (.tmp 2) (.tmp 4) rfl (w.heap.size + 1) 0 (ints .u8 r).toArray rfl rfl R4 (szA infS32 (il HRL.out)) (ints_all _ _) ?_
       clear R4))
  exact ret_rows rfl (w.heap.size + 1) 0 rfl (ints .u8 r) _ X4.range Tryz.underlying22 rfl (szV infS32 (il HRL.out)) rfl ⟨rfl, hW2⟩
set_option maxRecDepth 50000 in
theorem item_any (st : List Int) (w : World) (hT : TabsH w) (hst : st.length = 32) (hb : HByt st) :
    Calls Tryz.prog 66 #[.agg (ints .u8 st).toArray] w fun e w' => e = .returned (.agg (ints .u8 (itemV st)).toArray) ∧ Below w.heap.size w w' :=
  item_core st (itemV st) w hT (hid hst) (hid fun w hT => by
    have h := labelled_any st sITM w hT hst hb (by decide)
    rw [strL_itm] at h
    exact h) (hid (itemV_len _))
end Go.Proofs.YtpncohoonfahpaaGreatDoor
