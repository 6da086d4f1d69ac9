/- Texts of this proof, laid together: HTake, HPad. -/
import Derived.Test.YtkblmdakejmmhaaDoorG15
import Derived.Test.YtkblmdakejmmhaaDoorG4
import Derived.Lib.AppendZerosOnto
/- A hasher takes bytes. -/
namespace Go.Proofs.YtkblmdakejmmhaaDoor
open Go.RowKit

set_option maxRecDepth 50000 in
theorem not_at {A : Option Addr} {b : Nat} {w : World} {k : IntKind} {xs : List Int} (h : Nums w k A xs) (hp : 0 < xs.length) (hA : ∀ g o s, A = some ⟨g, o, s⟩ → g ≠ b) : ∃ g off, A = some ⟨g, off, none⟩ ∧ g ≠ b ∧ g < w.heap.size ∧ ∀ i, i < xs.length → w.cell? ⟨g, off + i, none⟩ = some (.int k (xs.getD i 0)) := by
  obtain ⟨g, off, e, hlt, hc⟩ := h hp
  exact ⟨g, off, e, hA g off none e, hlt, hc⟩

set_option maxRecDepth 4000 in
set_option maxHeartbeats 1000000 in
theorem take_any (b : Nat) (A : Option Addr) (c : Nat) (m p : List Int) (w : World) (ht : TabsH w) (h2 : 2 < b ∧ 0 < b) (hh : Abs w b m) (hA : Nums w .u8 A p) (hne : 0 < p.length → ∀ g o s, A = some ⟨g, o, s⟩ → g ≠ b) (hpc : p.length ≤ c) (hp : p.length ≤ 100000) (hby : HByt p) :
    Calls Tryd.prog 64 #[.pointer (some ⟨b, 0, none⟩), .slice A p.length c] w fun e w' => e = .returned (.tuple #[]) ∧ Abs w' b (m ++ p) ∧ Only b w w' := by
  go_enter Tryd.func64, Tryd.ntmps64
  go_wp2
  go_loopw [1] (fun v wr => ∃ (k : Nat) (B : Option Addr) (d : Nat) (r : List Int), k ≤ p.length ∧ v = .slice B r.length d ∧ Hid (r = p.drop k) ∧ r.length ≤ d ∧ Nums wr .u8 B r ∧ (0 < r.length → ∀ g o s, B = some ⟨g, o, s⟩ → g ≠ b) ∧ Abs wr b (m ++ p.take k) ∧ Only b w wr) (fun v _ => match v with | .slice _ n _ => n | _ => 0)
  case atStart => exact ⟨0, A, c, p, by omega, rfl, hid rfl, hpc, hA, hne, by simpa using hh, Only.refl _ _⟩
  case round =>
    obtain ⟨k, B, d, r, hk, rfl, HR, hrd, hN, hnB, ⟨blk, hH, hT⟩, hO⟩ := hrel
    have hrl : r.length = p.length - k := by rw [HR.out]; simp
    have hrle : r.length ≤ 100000 := by omega
    have HRL := hid hrl
    clear hrl
    have hrby : HByt r := by rw [HR.out]; exact hby.drop k
    by_cases hlt : 0 < r.length
    · obtain ⟨g, off, rfl, hgb, hgl, hc⟩ := not_at hN hlt (hnB hlt)
      obtain ⟨fl, hfl⟩ : ∃ fl, fl = (m ++ p.take k).length % 128 := ⟨_, rfl⟩
      have hf1 : fl < 128 := by omega
      obtain ⟨n, hn⟩ : ∃ n, n = min r.length (128 - fl) := ⟨_, rfl⟩
      have hn0 : 0 < n := by omega
      have hnr : n ≤ r.length := by omega
      have hnf : n ≤ 128 - fl := by omega
      rw [← hfl] at hH hT
      obtain ⟨A', hsl, hN', hg'⟩ := nums_from hN 23 5 Tryd.underlying23 (by kernel_rfl) d n hnr hlt hrd
      have fc := hH.fc
      have fz := hH.fz
      obtain ⟨x, hx⟩ : ∃ x, x = r.take n := ⟨_, rfl⟩
      have hxl : x.length = n := by rw [hx]; simp; omega
      have hcp : (Builtin.copy_ #[23, 23] 3 #[.slice (some ⟨b, 8 + fl, none⟩) (128 - fl) (128 - fl), .slice (some ⟨g, off, none⟩) r.length d]).run Tryd.prog wr.drew = .ok (.int .i64 n) (wr.drew.setCells b (8 + fl) (ints .u8 x)) := by
        have h := run_copy_cells (P := Tryd.prog) wr.drew 23 23 3 5 b (8 + fl) (128 - fl) (128 - fl) ⟨g, off, none⟩ r.length d (ints .u8 x) Tryd.underlying23 (by kernel_rfl) (by rw [ints_length, hxl, hn]) ?_ ?_ ?_ (ints_one _ _)
        · rw [ints_length, hxl] at h; exact h
        · intro j v hv
          simp only [ints, List.getElem?_map, Option.map_eq_some_iff] at hv
          obtain ⟨y, hy, rfl⟩ := hv
          have hj := (List.getElem?_eq_some_iff.1 hy).1
          have := hc j (by omega)
          rw [Addr.add_mid]
          show wr.cell? _ = _
          rw [this]
          rw [hx, List.getElem?_take] at hy
          split at hy
          · simp [List.getD, hy]
          · cases hy
        · intro j hj
          have := (hH.bk.there (fl + j) (by rw [hH.len]; rw [ints_length] at hj; omega)).1
          rw [← Nat.add_assoc] at this; exact this
        · intro j hj
          have := (hH.bk.there (fl + j) (by rw [hH.len]; rw [ints_length] at hj; omega)).2
          rw [← Nat.add_assoc] at this; exact this
      have hn128 : ¬ 128 = fl := by omega
      have f0 : (0 : Int) ≤ fl := by omega
      have f1 : (fl : Int) ≤ 128 := by omega
      have n1 : (n : Int) ≤ 128 := by omega
      have HN := hid hn
      have HX := hid hx
      have HXL := hid hxl
      have HFL := hid hfl
      clear hn hx hxl hfl
      go_wp2
      go_still_tail 9, (by kernel_rfl)
      change wpList _ _ _ _ _ wr.drew
      have hbk1 : Arr (wr.drew.setCells b (8 + fl) (ints .u8 x)) b 8 .u8 (over blk fl x) := hH.bk.drew.over (by rw [hH.len, HXL.out]; omega)
      have hns1 : Arr (wr.drew.setCells b (8 + fl) (ints .u8 x)) b 0 .u64 (hdgs (m ++ p.take k)).list := hH.ns.drew.past _ (.inr (.inr (by show 0 + 8 ≤ 8 + fl; omega)))
      have hfc1 : (wr.drew.setCells b (8 + fl) (ints .u8 x)).cell? ⟨b, 136, none⟩ = some (.int .i64 fl) := by
        rw [World.cell?_setCells_out _ _ _ _ _ (fun _ _ => .inr (by rw [ints_length, HXL.out]; show 8 + fl + n ≤ 136; omega))]
        exact fc
      have hfz1 : (wr.drew.setCells b (8 + fl) (ints .u8 x)).frozen? ⟨b, 136, none⟩ = false := by rw [World.frozen?_setCells]; exact fz
      have hO1 : Only b w (wr.drew.setCells b (8 + fl) (ints .u8 x)) := hO.drew.setCells (.inl rfl) _ _
      have hO2 : Only b wr (wr.drew.setCells b (8 + fl) (ints .u8 x)) := (Only.refl b wr).drew.setCells (.inl rfl) _ _
      have hlen := hH.len
      have hbyt := hH.byt
      clear fc fz hH
      generalize wr.drew.setCells b (8 + fl) (ints .u8 x) = wc at *
      have s1 : IntKind.i64.wrap ((fl : Int) + n) = (fl : Int) + n := IntWalk.i64_in _ (by omega)
      have hTw : TabsH wc := ht.only hO1 h2
      have hpx : m ++ p.take (k + n) = m ++ p.take k ++ x := by rw [List.append_assoc, HX.out, HR.out, ← List.take_add]
      have hkn : k + n ≤ p.length := by have := HRL.out; omega
      have hdrop : Hid (r.drop n = p.drop (k + n)) := by show _ = _; rw [HR.out, List.drop_drop]
      have hdl : r.length - n = (r.drop n).length := by simp
      have HDL := hid hdl
      have HPX := hid hpx
      have hneA : ∀ g' o s, A' = some ⟨g', o, s⟩ → g' ≠ b := fun g' o s e => by
        obtain ⟨o', e2⟩ := hg' g off none rfl
        rw [e2] at e; injection e with e; injection e with e1; omega
      have hov := over_byt hbyt (x := x) (by rw [HX.out]; exact hrby.take n) fl
      have hovl : (over blk fl x).length = 128 := by rw [over_length (by rw [hlen, HXL.out]; omega)]; exact hlen
      have hT2 := hid hT
      clear hdl hpx hT
      by_cases hfull : fl + n = 128
      · have hf128 : (fl : Int) + n = 128 := by omega
        obtain ⟨q1, q2, q3⟩ := more_full (m := m ++ p.take k) (x := x) hlen (by rw [← HFL.out]; exact hT2.out) (by rw [← HFL.out, HXL.out]; exact hfull)
        rw [← HFL.out] at q1 q3
        have Q1 := hid q1
        have Q2 := hid q2
        have Q3 := hid q3
        have hH1 : Hsh (wc.setCell ⟨b, 136, none⟩ (.int .i64 128)) b (hdgs (m ++ p.take k)) (over blk fl x) 128 :=
          ⟨hns1.apart _ (.inr (.inr (by show 0 + 8 ≤ 136; omega))), hbk1.apart _ (.inr (.inr (by show 8 + (over blk fl x).length ≤ 136; omega))), World.cell?_setCell_same _ _ _ hfc1, by rw [World.frozen?_setCell]; exact hfz1, dgs_ok _, hovl, hov⟩
        have hT1 : TabsH (wc.setCell ⟨b, 136, none⟩ (.int .i64 128)) := hTw.only ((Only.refl b wc).setCell (.inl rfl) _) h2
        clear q1 q2 q3 hfull hov hovl
        go_wp2_with (go_at_call 75; refine (mix_any b (hdgs (m ++ p.take k)) (over blk fl x) 128 _ hT1 hH1).mono ?_; rintro e w3 ⟨rfl, hH3, hO3⟩; have fc3 := hH3.fc; have fz3 := hH3.fz)
        go_roundw
        case rel =>
          have hfin : Only b wc (w3.setCell ⟨b, 136, none⟩ (.int .i64 0)) := (((Only.refl b wc).setCell (.inl rfl) _).trans hO3).setCell (.inl rfl) _
          refine ⟨k + n, A', d - n, r.drop n, hkn, by rw [HDL.out], hdrop, by rw [← HDL.out]; omega, (hN'.only hO2 hneA).only hfin hneA, fun _ => hneA, ⟨over blk fl x, ?_, ?_⟩, hO1.trans hfin⟩
          · have e0 : (m ++ p.take (k + n)).length % 128 = 0 := by rw [HPX.out]; exact Q2.out
            rw [e0, HPX.out, Q1.out]
            exact ⟨hH3.ns.apart _ (.inr (.inr (by show 0 + 8 ≤ 136; omega))), hH3.bk.apart _ (.inr (.inr (by show 8 + (over blk fl x).length ≤ 136; rw [hH3.len]; omega))), World.cell?_setCell_same _ _ _ hH3.fc, by rw [World.frozen?_setCell]; exact hH3.fz, comp_ok _ _, hH3.len, hH3.byt⟩
          · rw [HPX.out]; exact Q3.out
        case measure => show r.length - n < r.length; omega
      · have hf128 : ((fl : Int) + n == 128) = false := by simp; omega
        obtain ⟨q1, q2, q3⟩ := more_part (m := m ++ p.take k) (x := x) hlen (by rw [← HFL.out]; exact hT2.out) (by rw [← HFL.out, HXL.out]; omega)
        rw [← HFL.out] at q2 q3
        have Q1 := hid q1
        have Q2 := hid q2
        have Q3 := hid q3
        clear q1 q2 q3 hfull
        go_wp2
        go_roundw
        case rel =>
          have hfin : Only b wc (wc.setCell ⟨b, 136, none⟩ (.int .i64 ((fl : Int) + n))) := (Only.refl b wc).setCell (.inl rfl) _
          refine ⟨k + n, A', d - n, r.drop n, hkn, by rw [HDL.out], hdrop, by rw [← HDL.out]; omega, (hN'.only hO2 hneA).only hfin hneA, fun _ => hneA, ⟨over blk fl x, ?_, ?_⟩, hO1.trans hfin⟩
          · have e0 : (m ++ p.take (k + n)).length % 128 = fl + n := by rw [HPX.out, Q2.out, HXL.out]
            rw [e0, HPX.out, Q1.out]
            exact ⟨hns1.apart _ (.inr (.inr (by show 0 + 8 ≤ 136; omega))), hbk1.apart _ (.inr (.inr (by show 8 + (over blk fl x).length ≤ 136; omega))), by rw [World.cell?_setCell_same _ _ _ hfc1]; rfl, by rw [World.frozen?_setCell]; exact hfz1, dgs_ok _, hovl, hov⟩
          · rw [HPX.out]; exact Q3.out
        case measure => show r.length - n < r.length; omega
    · have hr0 : r.length = 0 := by omega
      have hk2 : p.take k = p := List.take_of_length_le (by have := HRL.out; omega)
      have HK2 := hid hk2
      clear hk2 hr0
      go_wp2
      go_end0
      have h : Abs wr b (m ++ p.take k) := ⟨blk, hH, hT⟩
      rw [HK2.out] at h
      exact ⟨rfl, h, hO⟩
end Go.Proofs.YtkblmdakejmmhaaDoor

/- The padding. -/
namespace Go.Proofs.YtkblmdakejmmhaaDoor
open Go.RowKit Go.ChangeShapes Go.WideShapes

/-- What follows n bytes. -/
def padB (n : Nat) : List Int := [128] ++ hzeros (127 - (n + 16) % 128) ++ splitB true 8 [0, 8 * (n : Int)]
set_option maxRecDepth 50000 in
theorem padB_length (n : Nat) : (padB n).length = 144 - (n + 16) % 128 := by
  simp [padB, hzeros, splitB_length]; omega

set_option maxRecDepth 50000 in
theorem zeroCells_u8 (n : Nat) : (Builtin.zeroCells #[.int .u8 0] n).toList = (hzeros n).map (Value.int .u8) := by
  apply List.ext_getElem?
  intro i
  by_cases h : i < n <;> simp [Builtin.zeroCells, hzeros, h, Nat.mod_one]

set_option maxRecDepth 50000 in
theorem run_zeros {P : Program} (w : World) (t tn ty e : TypeId) (kn : IntKind) (ht : P.underlying t = some (.slice e)) (htn : P.underlying tn = some (.int kn))
    (hinf : (P.info? e).map (fun i => (i.zero, i.size, i.bytes)) = some (some (.int .u8 0), 1, 1)) (base g k : Nat) (x : Int) (hO : Owns w base e .u8 (.slice (some ⟨g, 0, none⟩) 1 1) [x]) (hb : base ≤ w.heap.size) (hk : k ≤ 1000) :
    ∃ A' c' w', (Builtin.append_ #[t, tn] ty #[.slice (some ⟨g, 0, none⟩) 1 1, .int kn (k : Int)]).run P w = .ok (.slice A' (k + 1) c') w' ∧ Owns w' base e .u8 (.slice A' (k + 1) c') ([x] ++ hzeros k) ∧ Below w.heap.size w w' := by
  obtain ⟨i, hi, hz, hsize, hby⟩ := info_parts hinf
  obtain ⟨y, hy, _, hy2⟩ := hO.spot (j := 0) (by simp)
  have hyx : y = x := by have := hy2.out; simpa using this.symm
  subst hyx
  by_cases h0 : k = 0
  · subst h0
    refine ⟨_, _, w, ?_, by simpa [hzeros] using hO, Below.refl _ _⟩
    have hw : IntKind.i64.wrap 0 = 0 := rfl
    simp [Builtin.append_, run_underlying ht, run_underlying htn, sizeOf, typeInfo, hi, asInt, asIntOf, hw, storeCells]
  · have hold : (Builtin.firstCells i.size 1 (.slice (some ⟨g, 0, none⟩) 1 1)).run P w.drew = .ok [Value.int .u8 y].toArray w.drew := by
      have hl := run_loadCells_list (P := P) w.drew ⟨g, 0, none⟩ [Value.int .u8 y] (fun j v hv => by
        have hj : j = 0 := by have := (List.getElem?_eq_some_iff.1 hv).1; simpa using this
        subst hj
        simp at hv; subst hv
        rw [Addr.add_mid]; exact hy)
      simpa [Builtin.firstCells, hsize] using hl
    have hns := nextslicecap_le (need := 1 + k) (old := 1) (by omega)
    have h := Lib.run_append_grow_zeros (P := P) w t tn ty e i (.int .u8 0) kn kn ht htn hi hz (some ⟨g, 0, none⟩) 1 1 [.int .u8 y] hold k (by omega) (by omega) (by omega) (by omega) (by rw [hby]; omega) (by rw [hby]; omega)
    have hge := grownCap_ge w (1 + k) 1 e
    have hle := grownCap_le_maxLen w (1 + k) 1 e (by unfold maxLen; omega)
    generalize grownCap w (1 + k) 1 e = G at *
    have hzc : (Value.int .u8 0).cells.size = 1 := rfl
    refine ⟨_, _, _, by rw [h, Nat.add_comm 1 k], ?_, ((Below.refl _ _).drew).alloc (Nat.le_refl _) _⟩
    refine ⟨by simp [hzeros], .inr ⟨w.heap.size, G, _, ?_, hb, heap_alloc_new w.drew _, ?_, hle, ?_, ?_⟩⟩
    · rw [List.length_append, List.length_singleton]; simp [hzeros, Nat.add_comm k 1]
    · simp [hzeros]; omega
    · rw [Array.size_append, Array.size_append, size_zeroCells, size_zeroCells, hzc]; simp; omega
    · rw [Array.toList_append, Array.toList_append, List.take_append_of_le_length (by simp only [List.length_append, Array.length_toList, size_zeroCells, Value.cells]; simp [hzeros]), List.take_of_length_le (by simp only [List.length_append, Array.length_toList, size_zeroCells, Value.cells]; simp [hzeros])]
      simp only [Value.cells, List.map_append, zeroCells_u8]; rfl

set_option maxRecDepth 50000 in
theorem pad_byt {n : Nat} {y : List Int} (h : Hid (y = padB n)) : HByt y := by
  rw [h.out]
  intro x hx
  simp only [padB, List.mem_append, List.mem_singleton] at hx
  rcases hx with (rfl | hx) | hx
  · exact ⟨by omega, by omega⟩
  · have := List.eq_of_mem_replicate hx
    subst this; exact ⟨by omega, by omega⟩
  · exact splitB_byt _ _ _ x hx
set_option maxRecDepth 50000 in
set_option maxHeartbeats 1000000 in
theorem pad_yes (n : Nat) (w : World) (h : n ≤ 1099511627776) :
    Calls Tryd.prog 65 #[.int .i64 n] w fun e w' => ∃ A c ys, e = .returned (.slice A ys.length c) ∧ Hid (ys = padB n) ∧ ys.length ≤ c ∧ NumsF w.heap.size w' .u8 A ys ∧ Below w.heap.size w w' := by
  obtain ⟨k, hk⟩ : ∃ k, k = 127 - (n + 16) % 128 := ⟨_, rfl⟩
  have HK := hid hk
  have hk127 : k ≤ 127 := by omega
  have hm1 : ((n : Int) + 16) % 128 = 127 - (k : Int) := by omega
  clear hk
  have hd : decide ((n : Int) < 0) = false := by simp
  have hd2 : ¬ (1099511627776 < (n : Int)) := by omega
  have hm2 : (127 - ((n : Int) + 17 - 1) % 128) = (k : Int) := by omega
  have hwn : IntKind.u64.wrap (n : Int) = (n : Int) := IntWalk.u64_in _ (by omega)
  have hw8 : IntKind.u64.wrap (8 * (n : Int)) = 8 * (n : Int) := IntWalk.u64_in _ (by omega)
  clear hm1
  obtain ⟨A1, c1, w1, hr1, hO1, hb1⟩ := run_zeros (P := Tryd.prog) (w.alloc (.cells #[.int .u8 128] 5)) 23 3 23 5 .i64 Tryd.underlying23 Tryd.underlying3 Tryd.info5 w.heap.size w.heap.size k 128 (Owns.new w w.heap.size 5 .u8 [128] (Nat.le_refl _) (by unfold maxLen; simp)) (by simp) (by omega)
  have hs1 := hb1.size
  rw [World.size_alloc] at hs1
  go_enter Tryd.func65, Tryd.ntmps65
  go_wp2_with (first
    | (go_at_call 66; refine (wBytes64 _ 2 [0, 8 * (n : Int)] _ (by simp) (nums_two w1 .u64 0 (8 * (n : Int)) 103)).mono ?_; rintro e w2 ⟨B2, d2, ys2, rfl, HY2, hN2, hb2⟩; have hy8 : ys2.length = 16 := (by rw [HY2.out, splitB_length]; rfl); have HY8 := hid hy8; have hy16 : ys2.length ≤ 16 := (by omega); clear hy8; have hO2 := (hO1.alloc (.cells #[.int .u64 0, .int .u64 (8 * (n : Int))] 103)).stay hb2)
    | (at_builtin; refine Lib.wpList_append_run _ rfl (.tmp 16) (.tmp 17) 23 3 rfl (.slice (some ⟨w.heap.size, 0, none⟩) 1 1) (.int .i64 k) rfl rfl _ w1 hr1 ?_)
    | (at_builtin; refine app_nums rfl (.tmp 19) (.tmp 24) 23 rfl w.heap.size 5 .u8 1 Tryd.underlying23 Tryd.info5 (by omega) A1 (k + 1) c1 ([128] ++ hzeros k) rfl hO2 B2 d2 ys2 rfl hN2.nums (by simp [hzeros]; omega) (by have := hb2.size; rw [World.size_alloc] at this; omega) ?_; intro A3 n3 c3 w3 hO3 hG3))
  go_ret
  have hn3 := hO3.len
  have hpd : [128] ++ hzeros k ++ ys2 = padB n := by rw [HY2.out]; unfold padB; rw [← HK.out]
  rw [hpd] at hO3 hn3
  have hc3 : n3 ≤ c3 := by
    rcases hO3.2 with ⟨hv, h0⟩ | ⟨g, cap, cur, hv, _, _, hle, _⟩
    · injection hv; omega
    · injection hv; omega
  refine ⟨A3, c3, padB n, by rw [← hn3]; rfl, hid rfl, by omega, hO3.fresh, ?_⟩
  have hG : Below w.heap.size w1 w3 := ((((Below.refl _ _).alloc (by omega) _)).trans (hb2.mono (by rw [World.size_alloc]; omega))).trans (hG3.below (by have := hb2.size; rw [World.size_alloc] at this; omega) (fun g hg => (hO2.lt g hg).1))
  exact ((below_new w _).trans (hb1.mono (by simp))).trans hG
end Go.Proofs.YtkblmdakejmmhaaDoor
