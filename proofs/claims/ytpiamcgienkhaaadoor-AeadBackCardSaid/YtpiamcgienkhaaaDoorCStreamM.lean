/- The key stream as a range over a function: what the iterator gives to the loop, whatever the loop does. -/
import Derived.RangeFuncNested
import Derived.RangeFuncBound
import Derived.RangeFuncCalls
import Derived.RangeFuncLeaves
import Derived.Shelf.Abstract
import Derived.WalkKit
import Derived.OwnWalkIn
import Derived.TacticsInMore
import Derived.LoopNIn
import Derived.LoopIn
import Derived.Test.YtpiamcgienkhaaaDoorCBlockM
import Derived.Test.YtpiamcgienkhaaaDoorG7
namespace Go.Proofs.YtpiamcgienkhaaaDoor
open Go Go.RowKit

/-- A byte. -/
abbrev B8 := { x : Int // 0 ≤ x ∧ x < 256 }
def bvals (l : List B8) : List Int := l.map (·.1)
set_option maxRecDepth 50000 in
theorem bvals_app (l : List B8) (x : B8) : bvals (l ++ [x]) = bvals l ++ [x.1] := by simp [bvals]
set_option maxRecDepth 50000 in
theorem bvals_len (l : List B8) : (bvals l).length = l.length := by simp [bvals]
set_option maxRecDepth 50000 in
theorem bvals_byt (l : List B8) : HByt (bvals l) := fun x hx => by
  obtain ⟨y, _, rfl⟩ := List.mem_map.1 hx
  exact y.2
/-- What a round keeps: all below n₀, and the blocks from L to H. -/
def KpS (n₀ L H : Nat) (W W' : World) : Prop := Below n₀ W W' ∧ ∀ b, L ≤ b → b < H → W'.heap[b]? = W.heap[b]?
set_option maxRecDepth 50000 in
theorem KpS.t {n₀ L H : Nat} {A B C : World} (h : KpS n₀ L H A B) (k : KpS n₀ L H B C) : KpS n₀ L H A C := ⟨h.1.trans k.1, fun b h1 h2 => (k.2 b h1 h2).trans (h.2 b h1 h2)⟩
set_option maxRecDepth 50000 in
theorem KpS.b {n₀ L H : Nat} {w : World} (hn : n₀ ≤ w.heap.size) (hH : H ≤ w.heap.size) (W : World) (l : Nat) (o o' : Obj) (hl : w.heap.size ≤ l) (h : W.heap[l]? = some o) (h1 : o.isCells = false) (h2 : o.isWalk = false) : KpS n₀ L H W (W.putObj l o') :=
  ⟨belowK_b hn W l o o' hl h h1 h2, fun b _ hb => World.putObj_heap_other (by omega)⟩
/-- What the iterator reads lies there. -/
structure Lay (n₀ L H bk bn : Nat) (key nonce : List Int) (W : World) : Prop where
  tab : Tabs W
  k : Arr W bk 0 .u8 key
  n : Arr W bn 0 .u8 nonce
set_option maxRecDepth 50000 in
theorem Lay.kp {n₀ L H bk bn : Nat} {key nonce : List Int} {W W' : World} (h : Lay n₀ L H bk bn key nonce W) (h0 : 0 < n₀) (hk : L ≤ bk ∧ bk < H) (hn : L ≤ bn ∧ bn < H) (hW : KpS n₀ L H W W') : Lay n₀ L H bk bn key nonce W' :=
  ⟨h.tab.below hW.1 h0, h.k.same (hW.2 bk hk.1 hk.2), h.n.same (hW.2 bn hn.1 hn.2)⟩
set_option maxRecDepth 50000 in
theorem Lay.next {n₀ L H bk bn : Nat} {key nonce : List Int} {W W' : World} (h : Lay n₀ L H bk bn key nonce W) (hk : key.length = 32) (hn : nonce.length = 12) (hW : Below W.heap.size W W') : Lay n₀ L H bk bn key nonce W' :=
  ⟨h.tab.next hW, h.k.below hW (h.k.lt (by omega)), h.n.below hW (h.n.lt (by omega))⟩

set_option maxRecDepth 50000 in
theorem info5s : (Tryd.prog.info? 5).map (·.size) = some 1 := by kernel_rfl
set_option maxRecDepth 4000 in
set_option maxHeartbeats 2000000 in
theorem stream_any (key nonce : List Int) (c : Int) (w : World) :
    Calls Tryd.prog 25 #[.agg (ints .u8 key).toArray, .agg (ints .u8 nonce).toArray, .int .u32 c] w fun e w' => e = .returned (.func (.func 41) #[] #[.pointer (some ⟨w.heap.size + 1 + 1, 0, none⟩), .pointer (some ⟨w.heap.size, 0, none⟩), .pointer (some ⟨w.heap.size + 1, 0, none⟩)]) ∧ w' = ((w.alloc (.cells (ints .u8 key).toArray 22)).alloc (.cells (ints .u8 nonce).toArray 23)).alloc (.cells #[.int .u32 c] 42) := by
  go_enter Tryd.func25, Tryd.ntmps25
  go_wp2
  go_ret
  exact ⟨rfl, rfl⟩

set_option maxRecDepth 4000 in
set_option maxHeartbeats 4000000 in
theorem stream1_in (n : Nat) (hn1 : 1 ≤ n) (l n₀ L H bk bn bc c : Nat) (key nonce : List Int) (J Jx : List B8 → World → Prop) (W0 : World)
    (hk : Hid (key.length = 32)) (hn : Hid (nonce.length = 12)) (hkb : HByt key) (hnb : HByt nonce) (hc : c < 4294967296) (h0 : 0 < n₀) (hLk : L ≤ bk ∧ bk < H) (hLn : L ≤ bn ∧ bn < H)
    (hJ : AbidesFrom W0.heap.size J)
    (hY : ∀ pre x W, J pre W → pre.length < 64 * (4294967296 - c) → YieldAt Fence.wide (n - 1) Tryd.prog l #[.int .u8 x.1] W fun e W' =>
      (e = .returned (.bool true) ∧ J (pre ++ [x]) W' ∧ KpS n₀ L H W W') ∨ (e = .returned (.bool false) ∧ Jx (pre ++ [x]) W'))
    (hcc : W0.cell? ⟨bc, 0, none⟩ = some (.int .u32 (c : Int))) (hLay : Lay n₀ L H bk bn key nonce W0) (hJ0 : J [] W0) :
    Calls Tryd.prog 41 #[.func (.yield l) #[] #[], .pointer (some ⟨bc, 0, none⟩), .pointer (some ⟨bk, 0, none⟩), .pointer (some ⟨bn, 0, none⟩)] W0 fun e W' => (∃ v, e = .returned v) ∧
      ((∃ xs, bvals xs = strm key nonce c (4294967296 - c) ∧ J xs W') ∨ (∃ pre, bvals pre <+: strm key nonce c (4294967296 - c) ∧ Jx pre W')) := by
  have hJn : ∀ pre A B, J pre A → Below A.heap.size A B → J pre B := fun pre A B h hb => hJ pre A B none h (grown_of_below hb none) (fun r e => by cases e)
  have i22 : (Tryd.prog.info? 22).map (·.size) = some (ints .u8 key).length := by rw [ints_length, hk.out]; exact info22
  have i23 : (Tryd.prog.info? 23).map (·.size) = some (ints .u8 nonce).length := by rw [ints_length, hn.out]; exact info23
  clear hJ
  go_enter Tryd.func41, Tryd.ntmps41
  go_wp2
  go_loopw [5] (fun v wr => ∃ (m : Nat) (pre : List B8), c + m ≤ 4294967296 ∧ v = .int .i64 ((c + m : Nat) : Int) ∧ bvals pre = strm key nonce c m ∧ J pre wr ∧ Lay n₀ L H bk bn key nonce wr) (fun i _ => 4294967296 - (intOf i).toNat)
  case atStart => exact ⟨0, [], by omega, rfl, rfl, hJ0, hLay⟩
  case round =>
    clear hJ0 hLay hcc
    obtain ⟨m, pre, hm, rfl, hpre, hJr, hLr⟩ := hrel
    obtain ⟨q, hq⟩ : ∃ q, c + m = q := ⟨_, rfl⟩
    rw [hq] at hm ⊢
    have HQ := hid hq
    have HPRE := hid hpre
    clear hq hpre
    have hq0 : (0 : Int) ≤ q := by omega
    by_cases hlt : q < 4294967296
    · have hlt' : (q : Int) < 4294967296 := by omega
      have hwq : IntKind.u32.wrap (q : Int) = q := IntWalk.u32_in _ ⟨by omega, by omega⟩
      have hwq2 : (q : Int) % 4294967296 = q := by omega
      have hK2 := hLr.k.range
      have hN2 := hLr.n.range
      have hwc : Hid (Wd (q : Int)) := hid ⟨by omega, by omega⟩
      go_wp2_with (first
        | (with_reducible refine wpList_load_mid (op := ⟨some 14, .load 22 (.tmp 2), _, _, _, _⟩) rfl 22 (.tmp 2) rfl bk 0 rfl (ints .u8 key) _ hK2 Tryd.underlying22 rfl i22 ?_)
        | (with_reducible refine wpList_load_mid (op := ⟨some 15, .load 23 (.tmp 3), _, _, _, _⟩) rfl 23 (.tmp 3) rfl bn 0 rfl (ints .u8 nonce) _ hN2 Tryd.underlying23 rfl i23 ?_)
        | (go_at_call 18; refine (block_any key nonce (q : Int) _ hLr.tab hk hn hkb hnb hwc).mono ?_; rintro e w2 ⟨rfl, hb2⟩))
      obtain ⟨bl, hbl⟩ : ∃ l, blockL key nonce (q : Int) = l := ⟨_, rfl⟩
      have hbl64 : Hid (bl.length = 64) := hid (by rw [← hbl]; exact blockL_length hk.out hn.out)
      have hblb : HByt bl := by rw [← hbl]; exact blockL_byt _ _ _
      have HS : Hid (strm key nonce c (m + 1) = strm key nonce c m ++ bl) := hid (by rw [← hbl, ← HQ.out]; rfl)
      rw [hbl]
      have hJ2 := hJn pre wr w2 hJr hb2
      have hL2 := hLr.next hk.out hn.out hb2
      clear hJr hLr hb2 hK2 hN2 hbl
      generalize wr = wo at *
      refine (wpIn_wide (n := n)).1 ?_
      gi_loopw [19] (fun i wr => ∃ (j : Nat) (pr : List B8), j ≤ 64 ∧ i = .int .i64 j ∧ bvals pr = strm key nonce c m ++ bl.take j ∧ J pr wr ∧ Lay n₀ L H bk bn key nonce wr) (fun i _ => 64 - (intOf i).toNat)
      case atStart => exact ⟨0, pre, by omega, rfl, by rw [HPRE.out, List.take_zero, List.append_nil], hJ2, hL2⟩
      case round =>
        clear hJ2 hL2
        obtain ⟨j, pr, hj, rfl, hpr, hJr, hLr⟩ := hrel
        have HPR := hid hpr
        clear hpr
        by_cases hlj : j < 64
        · have hlj' : (j : Int) < 64 := by omega
          have hj0 : (0 : Int) ≤ j := by omega
          obtain ⟨y, hy⟩ : ∃ y, bl[j]? = some y := ⟨bl[j]'(by rw [hbl64.out]; exact hlj), by simp [hbl64.out, hlj]⟩
          have hix := fun W : World => run_index_row (P := Tryd.prog) (w := W) 44 5 64 (ints .u8 bl) .i64 j (.int .u8 y) _ Tryd.underlying44 Tryd.underlying5 rfl info5s hlj (by simp [ints, hy])
          have hyb := hblb.at_ hy
          have hlen : pr.length < 64 * (4294967296 - c) := by
            have h1 := congrArg List.length HPR.out
            rw [bvals_len, List.length_append, strm_length hk.out hn.out, List.length_take, hbl64.out] at h1
            have := HQ.out
            omega
          have HT := hid (take_succ_at hy)
          obtain ⟨fn, tmps, assign, body, hyl, hR⟩ := hY pr ⟨y, hyb⟩ wr hJr hlen
          dsimp only at hyl
          clear hy
          gi_wp2
          refine hR.mono ?_
          rintro e W3 (⟨rfl, hJ3, hk3⟩ | ⟨rfl, hJx3⟩)
          · have hL3 := hLr.kp h0 hLk hLn hk3
            clear hR hyl hJr hLr hk3 hlen
            gi_wp2
            go_roundw
            case rel => exact ⟨j + 1, pr ++ [⟨y, hyb⟩], by omega, by go_num, by rw [bvals_app, HPR.out, HT.out, List.append_assoc], hJ3, hL3⟩
            case measure => simp [intOf]; omega
          · have hpx : bvals (pr ++ [⟨y, hyb⟩]) <+: strm key nonce c (4294967296 - c) := by
              rw [bvals_app, HPR.out, List.append_assoc, ← HT.out]
              refine List.IsPrefix.trans ?_ (strm_pre key nonce c (m := m + 1) (by have := HQ.out; omega))
              rw [HS.out]
              exact (List.prefix_append_right_inj _).2 (List.take_prefix _ _)
            clear hR hyl hJr hLr hlen
            gi_wp2
            refine bodyPost_ret (results_none rfl _ _ _) rfl ?_
            exact ⟨⟨_, rfl⟩, .inr ⟨_, hpx, hJx3⟩⟩
        · have hge : ¬ (j : Int) < 64 := by omega
          have hpn : bvals pr = strm key nonce c (m + 1) := by
            rw [HPR.out, HS.out, List.take_of_length_le (by rw [hbl64.out]; omega)]
          have HPN := hid hpn
          clear hpn
          gi_wp2
          go_wp2
          go_roundw
          case rel => exact ⟨m + 1, pr, by have := HQ.out; omega, congrArg (Value.int .i64) (by have := HQ.out; omega), HPN.out, hJr, hLr⟩
          case measure => simp [intOf]; omega
    · have hge : ¬ (q : Int) < 4294967296 := by omega
      have e : m = 4294967296 - c := by have := HQ.out; omega
      have hp2 : bvals pre = strm key nonce c (4294967296 - c) := by rw [← e]; exact HPRE.out
      have HP2 := hid hp2
      clear e hp2
      go_wp2
      go_end0
      exact ⟨⟨_, rfl⟩, .inl ⟨pre, HP2.out, hJr⟩⟩
end Go.Proofs.YtpiamcgienkhaaaDoor
