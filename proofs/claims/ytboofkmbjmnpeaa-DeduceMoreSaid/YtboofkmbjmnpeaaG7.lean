/- Texts of this proof, laid together: TGet, TBytes, HWSame. -/
import Derived.Test.YtboofkmbjmnpeaaTTextM
import Derived.Test.YtboofkmbjmnpeaaRows
import Derived.Test.YtboofkmbjmnpeaaBase
import Derived.BigQuiet
import Derived.Deep.QuietTactic
/- Get, Size and Bytes on the code's store. -/
namespace Go.Proofs.Ytboofkmbjmnpeaa
open Go Go.RowKit Go.Maps

set_option maxRecDepth 50000 in
/-- Two results, the first a row in memory. -/
theorem results_row_tmp {P : Program} {fn : Func} {p t : Tmp} {ty : TypeId} (h : fn.results = #[.cell p ty, .tmp t]) (tmps : Array Value) (w : World) (b o : Nat) (hp : tmps.getD p undef = .pointer (some ⟨b, o, none⟩))
    (cs : List Value) (d : TypeDesc) (hc : w.rangeAt b o cs) (hu : P.underlying ty = some d) (hd : d.isRow = true) (hi : (P.info? ty).map (·.size) = some cs.length) :
    (results fn tmps).run P w = .ok (.tuple #[.agg cs.toArray, tmps.getD t undef]) w := by
  simp only [results, h]
  have hp2 : tmps[p]?.getD undef = .pointer (some ⟨b, o, none⟩) := by rw [← hp]; simp
  simp [hp2, asAddr, run_loadVar_mid w b o ty cs d hc hu hd hi]
set_option maxRecDepth 50000 in
theorem ret_row_tmp {P : Program} {fn : Func} {R : Ending → World → Prop} {a : Act} {w : World} {p t : Tmp} {ty : TypeId} (h : fn.results = #[.cell p ty, .tmp t]) (b o : Nat) (hp : a.tmps.getD p undef = .pointer (some ⟨b, o, none⟩))
    (cs : List Value) (d : TypeDesc) (hc : w.rangeAt b o cs) (hu : P.underlying ty = some d) (hd : d.isRow = true) (hi : (P.info? ty).map (·.size) = some cs.length) (hf : a.defers = [])
    (hR : R (.returned (.tuple #[.agg cs.toArray, a.tmps.getD t undef])) w) : bodyPost P fn R .ret a w :=
  bodyPost_ret (results_row_tmp h a.tmps w b o hp cs d hc hu hd hi) hf hR
set_option maxRecDepth 50000 in
/-- A new block for a term, and what lies there once a term is stored. -/
theorem zero_world (w : World) : ∃ W, w.alloc (.cells #[.int .i64 0, .int .i64 0, .int .i64 0] 50) = W ∧ Below w.heap.size w W ∧ Blk W w.heap.size 50 [.int .i64 0, .int .i64 0, .int .i64 0] :=
  ⟨_, rfl, below_new w _, Blk.new w 50 [.int .i64 0, .int .i64 0, .int .i64 0]⟩
set_option maxRecDepth 50000 in
theorem tone (k a b : Int) : (#[.int .i64 k, .int .i64 a, .int .i64 b] : Array Value).all (·.oneCell') = true := by simp [Value.oneCell']
set_option maxRecDepth 50000 in
theorem tsz (k a b : Int) : (Try.prog.info? 50).map (·.size) = some (#[.int .i64 k, .int .i64 a, .int .i64 b] : Array Value).size := szV infT (vs := tc (k, a, b)) (tc_len _)
set_option maxRecDepth 50000 in
theorem tstore {W : World} {b0 B : Nat} {zs : List Value} (hB : Blk W B 50 zs) (hz : zs.length = 3) (hb : Below b0 W W) (h0 : b0 ≤ B) (k a b : Int) : W.there B 0 (#[.int .i64 k, .int .i64 a, .int .i64 b] : Array Value).size ∧ (W.setCells B 0 (#[.int .i64 k, .int .i64 a, .int .i64 b] : Array Value).toList).rangeAt B 0 [.int .i64 k, .int .i64 a, .int .i64 b] ∧ Below b0 W (W.setCells B 0 (#[.int .i64 k, .int .i64 a, .int .i64 b] : Array Value).toList) := by
  have h1 := hB.rw.roomA (us := [.int .i64 k, .int .i64 a, .int .i64 b]) (by rw [hz]; rfl)
  have h2 := hB.rw.storedA (us := [.int .i64 k, .int .i64 a, .int .i64 b]) (by rw [hz]; rfl)
  exact ⟨h1, h2.range, Below.setCells hb h0 0 _⟩

set_option maxRecDepth 50000 in
set_option maxHeartbeats 2000000 in
theorem get_yes (F : Nat → Prop) (p : Nat) (L : List T3) (X : List (List Int)) (n : Nat) (k a b : Int) (w : World) (h : CS F w p L X) (hn : L[n]? = some (k, a, b)) :
    Calls Try.prog 36 #[.pointer (some ⟨p, 0, none⟩), .int .i64 n] w fun e w' => e = .returned (.tuple #[tv (k, a, b), .bool true]) ∧ Below w.heap.size w w' := by
  obtain ⟨W, hW, hB, hB4⟩ := zero_world w
  obtain ⟨A, c, AX, cX, c0, c1, c4, hA, hc, hcm⟩ := (h.next hB).cells
  obtain ⟨g, rfl, hg, hcell⟩ := hA (by have := get_lt hn; omega)
  obtain ⟨x0, x1, x2⟩ := hcell n _ hn
  have hnl := get_lt hn
  have hnl2 : (n : Int) < L.length := by omega
  have hn0 : (0 : Int) ≤ n := by omega
  have Hh : Hid (true = decide (0 ≤ (n : Int) ∧ (n : Int) < L.length)) := hid (decide_eq_true ⟨hn0, hnl2⟩).symm
  obtain ⟨t1, t2, t3⟩ := tstore hB4 rfl (Below.refl w.heap.size W) (Nat.le_refl _) k a b
  have hsz := tsz k a b
  have hone := tone k a b
  have HW := hid hW
  have HB := hid (hB.trans t3)
  dsimp only at x0 x1 x2
  clear hW hB hB4 hA hcell h hn t3
  go_enter Try.func36, Try.ntmps36
  go_upto_region 1 with (fail)
  rw [HW.out]
  go_wp2_with (first
    | (go_at_call 48; refine (has_any p L.length c (some ⟨g, 0, none⟩) n true _ c0 c1 Hh).mono ?_; rintro e w2 ⟨rfl, rfl⟩)
    | (with_reducible refine wpList_store_mid (op := ⟨none, .store 50 (.tmp 4) (.tmp 17), _, _, _, _⟩) rfl 50 (.tmp 4) (.tmp 17) rfl w.heap.size 0 #[.int .i64 k, .int .i64 a, .int .i64 b] rfl rfl t1 hsz hone ?_))
  refine ret_row_tmp rfl w.heap.size 0 rfl [.int .i64 k, .int .i64 a, .int .i64 b] _ t2 Try.underlying50 rfl hsz rfl ?_
  exact ⟨rfl, HB.out⟩
set_option maxRecDepth 50000 in
set_option maxHeartbeats 2000000 in
theorem get_no (F : Nat → Prop) (p : Nat) (L : List T3) (X : List (List Int)) (n : Int) (w : World) (h : CS F w p L X) (hn : ¬ (0 ≤ n ∧ n < L.length)) :
    Calls Try.prog 36 #[.pointer (some ⟨p, 0, none⟩), .int .i64 n] w fun e w' => e = .returned (.tuple #[tv (0, 0, 0), .bool false]) ∧ Below w.heap.size w w' := by
  obtain ⟨W, hW, hB, hB4⟩ := zero_world w
  obtain ⟨A, c, AX, cX, c0, c1, c4, hA, hc, hcm⟩ := (h.next hB).cells
  have Hh : Hid (false = decide (0 ≤ n ∧ n < L.length)) := hid (decide_eq_false hn).symm
  obtain ⟨t1, t2, t3⟩ := tstore hB4 rfl (Below.refl w.heap.size W) (Nat.le_refl _) 0 0 0
  have hsz := tsz 0 0 0
  have hone := tone 0 0 0
  have HW := hid hW
  have HB := hid (hB.trans t3)
  clear hW hB hB4 hA h hn t3
  go_enter Try.func36, Try.ntmps36
  go_upto_region 1 with (fail)
  rw [HW.out]
  go_wp2_with (first
    | (go_at_call 48; refine (has_any p L.length c A n false _ c0 c1 Hh).mono ?_; rintro e w2 ⟨rfl, rfl⟩)
    | (with_reducible refine wpList_store_mid (op := ⟨none, .store 50 (.tmp 4) (.tmp 10), _, _, _, _⟩) rfl 50 (.tmp 4) (.tmp 10) rfl w.heap.size 0 #[.int .i64 0, .int .i64 0, .int .i64 0] rfl rfl t1 hsz hone ?_))
  refine ret_row_tmp rfl w.heap.size 0 rfl [.int .i64 0, .int .i64 0, .int .i64 0] _ t2 Try.underlying50 rfl hsz rfl ?_
  exact ⟨rfl, HB.out⟩
set_option maxRecDepth 50000 in
theorem CS.sizes {F : Nat → Prop} {w : World} {p : Nat} {L : List T3} {X : List (List Int)} (h : CS F w p L X) : ∃ A c, w.cell? ⟨p, 2, none⟩ = some (.slice A L.length c) ∧ Nums w .i64 A (szsOf L) ∧ L.length ≤ c := by
  obtain ⟨s, DN, DI, hT, hP, hF, hN⟩ := h
  have hO : Owns w 0 3 .i64 (.slice s.AS L.length s.cS) (szsOf L) := by
    have := hT.rS
    rw [← szsOf_length L] at this
    have e : s.vS (szsOf L).length = .slice s.AS L.length s.cS := by rw [szsOf_length]; rfl
    rw [e] at this
    exact this
  exact ⟨s.AS, s.cS, hT.blk.cell (i := 2) rfl, hO.nums, (rowcap hT.rS).1⟩
end Go.Proofs.Ytboofkmbjmnpeaa

/- Bytes on the code's store. -/
namespace Go.Proofs.Ytboofkmbjmnpeaa
open Go Go.RowKit Go.Maps

set_option maxRecDepth 50000 in
theorem bstr_get {x : List Int} (hx : TByt x) {j : Nat} (hj : j < x.length) : (((bstr x).data.toList.getD j 0).toNat : Int) = x.getD j 0 := by
  have hb := hx x[j] (List.getElem_mem hj)
  simp only [bstr, List.getD_eq_getElem?_getD, List.getElem?_map, List.getElem?_eq_getElem hj, Option.map_some, Option.getD_some, UInt8.toNat_ofNat']
  omega
set_option maxRecDepth 50000 in
theorem bytes_nums (w : World) {x : List Int} (hx : TByt x) : Nums (Lib.bytesWorld w 5 (bstr x)) .u8 (some ⟨w.heap.size, 0, none⟩) x := fun hp => by
  refine ⟨w.heap.size, 0, rfl, by rw [Lib.bytesWorld_size]; omega, fun i hi => ?_⟩
  rw [Nat.zero_add, Lib.bytesWorld_cell w _ _ i (by rw [bstr_size]; exact hi), bstr_get hx hi]
set_option maxRecDepth 50000 in
theorem bytes_below (w : World) (s : ByteArray) : Below w.heap.size w (Lib.bytesWorld w 5 s) :=
  ⟨rfl, rfl, rfl, by rw [Lib.bytesWorld_size]; omega, fun k hk => Lib.bytesWorld_at_old w _ s k hk⟩
set_option maxRecDepth 50000 in
theorem CS.texts {F : Nat → Prop} {w : World} {p : Nat} {L : List T3} {X : List (List Int)} (h : CS F w p L X) : ∃ A c, w.cell? ⟨p, 4, none⟩ = some (.slice A X.length c) ∧ X.length ≤ c ∧ c ≤ maxLen ∧ ∀ (j : Nat) x, X[j]? = some x → ∃ g, A = some ⟨g, 0, none⟩ ∧ w.cell? ⟨g, j, none⟩ = some (.string (bstr x)) := by
  obtain ⟨s, DN, DI, hT, hP, hF, hN⟩ := h
  have hc := rowcap hT.rX
  refine ⟨s.AX, s.cX, hT.blk.cell (i := 4) rfl, hc.1, hc.2, fun j x hj => ?_⟩
  have hjl := get_lt hj
  rcases hT.rX.2 with ⟨hv, hn⟩ | ⟨g, cap, cur, hv, hb, hg, hn, hm, hs, ht⟩
  · omega
  · injection hv with h1 h2 h3
    refine ⟨g, h1, ?_⟩
    have hv : (X.map fun x => Value.string (bstr x))[j]? = some (.string (bstr x)) := by simp [hj]
    have e : cur[j]? = some (.string (bstr x)) := by
      rw [← ht, List.getElem?_take, if_pos (by omega)] at hv
      simpa using hv
    simp [World.cell?, hg, e]
set_option maxRecDepth 50000 in
theorem CS.pure {F : Nat → Prop} {w : World} {p : Nat} {L : List T3} {X : List (List Int)} (h : CS F w p L X) : ∃ nx DN DI, PF nx DN DI L X := by
  obtain ⟨s, DN, DI, hT, hP, hF, hN⟩ := h
  exact ⟨s.nx, DN, DI, hP⟩
end Go.Proofs.Ytboofkmbjmnpeaa

/- The reference functions of layer 1 on rows of bytes. No condition. -/
namespace Go.Proofs.Ytboofkmbjmnpeaa
open Go.RowKit


set_option maxRecDepth 50000 in
set_option maxHeartbeats 400000 in
theorem same_eq (A B : Option Addr) (c d : Nat) (xs ys : List Int) (w : World) (he : xs = ys) (hm : xs.length ≤ maxLen) (hA : Nums w .u8 A xs) (hB : Nums w .u8 B ys) :
    Calls Try.prog 46 #[.slice A xs.length c, .slice B ys.length d] w fun e w' => e = .returned (.bool true) ∧ Below w.heap.size w w' := by
  subst he
  unfold maxLen at hm
  go_enter Try.func46, Try.ntmps46
  go_wp2
  go_loopw [5] (fun i wr => ∃ k : Nat, k ≤ xs.length ∧ i = .int .i64 k ∧ Below w.heap.size w wr) (fun i _ => xs.length - (intOf i).toNat)
  case atStart => exact ⟨0, Nat.zero_le _, rfl, Below.refl _ _⟩
  case round =>
    obtain ⟨k, hk, rfl, hb⟩ := hrel
    by_cases hlt : k < xs.length
    · obtain ⟨b1, o1, x, rfl, _, hc1, H1⟩ := (hA.below hb).get hlt
      obtain ⟨b2, o2, y, rfl, _, hc2, H2⟩ := (hB.below hb).get hlt
      have hxy : x = y := by have := H1.out.symm.trans H2.out; injection this
      subst hxy
      have hpos : (0 : Int) ≤ k := by omega
      have hlt' : (k : Int) < xs.length := by omega
      go_wp2
      go_quiet (fail)
      go_wp2
      go_roundw
      case rel => exact ⟨k + 1, by omega, by go_num, below_drewN hb _⟩
      case measure => simp [intOf]; omega
    · go_wp2
      go_ret
      exact ⟨rfl, hb⟩
end Go.Proofs.Ytboofkmbjmnpeaa
