/- Texts of this proof, laid together: VMath, VList, VPad. -/
import Derived.Test.YtihipgojeikdkaaDoorHSum
import Derived.Test.YtihipgojeikdkaaDoorHRefSum
import Derived.Test.YtihipgojeikdkaaDoorMRow
import Derived.Test.YtihipgojeikdkaaDoorApp
import Derived.Deep.Onto
/- Tags and derived keys, as lists of bytes. -/
namespace Go.Proofs.YtihipgojeikdkaaDoor
open Go Go.RowKit

/-- A byte combined with another. -/
def vx (x c : Int) : Int := bits .xor .u8 x c
theorem vx_bd (x c : Int) : 0 ≤ vx x c ∧ vx x c < 256 := by
  show 0 ≤ IntKind.u8.wrap _ ∧ IntKind.u8.wrap _ < 256
  rw [IntKind.wrap_u8]
  omega
theorem vx_zero {c : Int} (h : 0 ≤ c ∧ c < 256) : vx 0 c = c := by
  have key : ∀ n : Fin 256, vx 0 (n.val : Int) = (n.val : Int) := by decide +kernel
  obtain ⟨n, rfl⟩ := Int.eq_ofNat_of_zero_le h.1
  exact key ⟨n, by omega⟩
theorem hz_len (n : Nat) : (hzeros n).length = n := by simp [hzeros]
theorem hz_byt (n : Nat) : HByt (hzeros n) := fun x hx => by rw [List.eq_of_mem_replicate hx]; omega
theorem HByt.app {a b : List Int} (h : HByt a) (k : HByt b) : HByt (a ++ b) := fun x hx => by
  rcases List.mem_append.1 hx with e | e
  · exact h x e
  · exact k x e
theorem hbyt_of_wf {bs : List Int} (h : ∀ x ∈ bs, (Lit.int .u8 x).wf = true) : HByt bs := fun x hx => by
  have h1 := h x hx
  simp [Lit.wf, IntKind.min, IntKind.max, IntKind.bits, IntKind.signed] at h1
  omega
def vxl (c : Int) (l : List Int) : List Int := l.map fun x => vx x c
theorem vxl_len (c : Int) (l : List Int) : (vxl c l).length = l.length := by simp [vxl]
theorem vxl_byt (c : Int) (l : List Int) : HByt (vxl c l) := fun x hx => by
  simp only [vxl, List.mem_map] at hx
  obtain ⟨y, _, rfl⟩ := hx
  exact vx_bd _ _
theorem vxl_at (c : Int) (l : List Int) {i : Nat} {x : Int} (h : l[i]? = some x) : (vxl c l)[i]? = some (vx x c) := by simp [vxl, h]
theorem hash_len (m : List Int) : (hash m).length = 64 := by
  unfold hash
  rw [splitB_length]; rfl
theorem hash_byt (m : List Int) : HByt (hash m) := splitB_byt _ _ _
/-- The key that fills a block. -/
def keyV (key : List Int) : List Int := if 128 < key.length then hash key else key
theorem keyV_le (key : List Int) : (keyV key).length ≤ 128 := by
  unfold keyV
  split
  · rw [hash_len]; omega
  · omega
theorem keyV_byt {key : List Int} (h : HByt key) : HByt (keyV key) := by
  unfold keyV
  split
  · exact hash_byt _
  · exact h
/-- The block of a key. -/
def fillV (key : List Int) : List Int := keyV key ++ hzeros (128 - (keyV key).length)
theorem fillV_len (key : List Int) : (fillV key).length = 128 := by
  unfold fillV
  have := keyV_le key
  rw [List.length_append, hz_len]; omega
theorem fillV_byt {key : List Int} (h : HByt key) : HByt (fillV key) := (keyV_byt h).app (hz_byt _)
def inV (key : List Int) : List Int := vxl 54 (fillV key)
def outV (key : List Int) : List Int := vxl 92 (fillV key)
theorem inV_len (key : List Int) : (inV key).length = 128 := by unfold inV; rw [vxl_len, fillV_len]
theorem outV_len (key : List Int) : (outV key).length = 128 := by unfold outV; rw [vxl_len, fillV_len]
theorem inV_byt (key : List Int) : HByt (inV key) := vxl_byt _ _
theorem outV_byt (key : List Int) : HByt (outV key) := vxl_byt _ _
/-- The tag of bytes under a key. -/
def tagV (key b : List Int) : List Int := hash (outV key ++ hash (inV key ++ b))
theorem tagV_len (key b : List Int) : (tagV key b).length = 64 := hash_len _
theorem tagV_byt (key b : List Int) : HByt (tagV key b) := hash_byt _
/-- A context, behind its number of bytes. -/
def ctxV (c : List Int) : List Int := splitB true 4 [(c.length : Int)] ++ c
def textV (label : List Int) (cs : List (List Int)) : List Int := splitB true 1 [(label.length : Int)] ++ label ++ (cs.map ctxV).flatten
/-- A derived key. -/
def keyD (src label : List Int) (cs : List (List Int)) : List Int := (tagV src (textV label cs)).take 32
theorem keyD_len (src label : List Int) (cs : List (List Int)) : (keyD src label cs).length = 32 := by
  unfold keyD
  rw [List.length_take, tagV_len]; rfl
theorem keyD_byt (src label : List Int) (cs : List (List Int)) : HByt (keyD src label cs) := (tagV_byt _ _).take _
def REG : List Int := [114, 101, 103, 114, 101, 115, 115]
def ITM : List Int := [105, 116, 101, 109]
def nextV (s : List Int) : List Int := keyD s REG []
def itemV (s : List Int) : List Int := keyD s ITM []
theorem nextV_len (s : List Int) : (nextV s).length = 32 := keyD_len _ _ _
theorem itemV_len (s : List Int) : (itemV s).length = 32 := keyD_len _ _ _
theorem nextV_byt (s : List Int) : HByt (nextV s) := keyD_byt _ _ _
theorem itemV_byt (s : List Int) : HByt (itemV s) := keyD_byt _ _ _
/-- So many steps back. -/
def backV (s : List Int) : Nat → List Int
  | 0 => s
  | n + 1 => nextV (backV s n)
theorem backV_len {s : List Int} (h : s.length = 32) : ∀ n, (backV s n).length = 32
  | 0 => h
  | _ + 1 => nextV_len _
theorem backV_byt {s : List Int} (h : HByt s) : ∀ n, HByt (backV s n)
  | 0 => h
  | _ + 1 => nextV_byt _
theorem backV_add (s : List Int) (m : Nat) : ∀ n, backV s (m + n) = backV (backV s m) n
  | 0 => rfl
  | n + 1 => by rw [← Nat.add_assoc]; show nextV _ = nextV _; rw [backV_add s m n]
end Go.Proofs.YtihipgojeikdkaaDoor

/- The reference's lists of the bytes of arrays. -/
namespace Go.Proofs.YtihipgojeikdkaaDoor
open Go Go.RowKit

theorem Owns.low {w : World} {b b' : Nat} {e : TypeId} {k : IntKind} {v : Value} {xs : List Int} (h : Owns w b e k v xs) (hb : b' ≤ b) : Owns w b' e k v xs := World.ownsRow.mono h hb
set_option maxRecDepth 50000 in
set_option maxHeartbeats 1000000 in
theorem rlist_any (xs : List Int) (w : World) (hl : Hid (xs.length = 64)) : Calls Tryd.prog 17 #[.agg (ints .u8 xs).toArray] w fun e w' => ∃ A d, e = .returned (.slice A 64 d) ∧ Owns w' w.heap.size 5 .u8 (.slice A 64 d) xs ∧ Below w.heap.size w w' := by
  have hA := Arr.made w .u8 xs 25
  have hW := below_new w (.cells (ints .u8 xs).toArray 25)
  have hS : w.heap.size + 1 ≤ (w.alloc (.cells (ints .u8 xs).toArray 25)).heap.size := by simp
  go_enter Tryd.func17, Tryd.ntmps17
  go_wp2
  generalize w.alloc (.cells (ints .u8 xs).toArray 25) = W at *
  go_loopw [3, 4] (fun v i wr => ∃ (k : Nat) (A : Option Addr) (m c : Nat), k ≤ 64 ∧ v = .slice A m c ∧ i = .int .i64 k ∧ Owns wr (w.heap.size + 1) 5 .u8 (.slice A m c) (xs.take k) ∧ Below w.heap.size w wr ∧ Arr wr w.heap.size 0 .u8 xs ∧ w.heap.size + 1 ≤ wr.heap.size) (fun _ i _ => 64 - (intOf i).toNat)
  case atStart => exact ⟨0, none, 0, 0, Nat.zero_le _, rfl, rfl, Owns.none_ _ _ _ _, hW, hA, hS⟩
  case round =>
    clear hA hW hS
    obtain ⟨k, A, m, c, hk, rfl, rfl, hO, hW, hA, hS⟩ := hrel
    by_cases hlt : k < 64
    · obtain ⟨x, hx⟩ : ∃ x, xs[k]? = some x := ⟨xs[k]'(by rw [hl.out]; exact hlt), by simp [hl.out, hlt]⟩
      have hx1 := hA.at_ hx
      rw [Nat.zero_add] at hx1
      have HX := hid (take_succ_at hx)
      have HL : Hid ((xs.take k).length = k) := hid (by rw [List.length_take, hl.out]; omega)
      have k0 : (0 : Int) ≤ k := by omega
      have k1 : (k : Int) < 64 := by omega
      clear hx
      go_wp2_with (at_builtin; refine app_one _ rfl (.tmp 9) (.tmp 13) 22 rfl (w.heap.size + 1) 5 .u8 1 Tryd.underlying22 Tryd.info5 A m c (xs.take k) rfl hO _ 1 rfl (by rw [HL.out]; omega) (by omega) hS ?_; intro A' n' c' w2 hO2 hb2)
      go_roundw
      case rel => exact ⟨k + 1, A', n', c', by omega, rfl, by go_num, by rw [HX.out]; exact hO2, hW.trans (hb2.mono (by omega)), hA.below hb2 (by omega), Nat.le_trans hS hb2.size⟩
      case measure => simp [intOf]; omega
    · have e : k = 64 := by omega
      subst e
      have hm := hO.len
      have he : xs.take 64 = xs := List.take_of_length_le (by rw [hl.out]; omega)
      rw [he] at hO hm
      rw [hl.out] at hm
      clear he
      subst hm
      go_wp2
      go_ret
      exact ⟨A, c, rfl, hO.low (by omega), hW⟩
set_option maxRecDepth 50000 in
set_option maxHeartbeats 1000000 in
theorem rbyt_any (xs : List Int) (w : World) (hl : Hid (xs.length = 32)) : Calls Tryd.prog 28 #[.agg (ints .u8 xs).toArray] w fun e w' => ∃ A d, e = .returned (.slice A 32 d) ∧ Owns w' w.heap.size 5 .u8 (.slice A 32 d) xs ∧ Below w.heap.size w w' := by
  have hA := Arr.made w .u8 xs 30
  have hW := below_new w (.cells (ints .u8 xs).toArray 30)
  have hS : w.heap.size + 1 ≤ (w.alloc (.cells (ints .u8 xs).toArray 30)).heap.size := by simp
  go_enter Tryd.func28, Tryd.ntmps28
  go_wp2
  generalize w.alloc (.cells (ints .u8 xs).toArray 30) = W at *
  go_loopw [3, 4] (fun v i wr => ∃ (k : Nat) (A : Option Addr) (m c : Nat), k ≤ 32 ∧ v = .slice A m c ∧ i = .int .i64 k ∧ Owns wr (w.heap.size + 1) 5 .u8 (.slice A m c) (xs.take k) ∧ Below w.heap.size w wr ∧ Arr wr w.heap.size 0 .u8 xs ∧ w.heap.size + 1 ≤ wr.heap.size) (fun _ i _ => 32 - (intOf i).toNat)
  case atStart => exact ⟨0, none, 0, 0, Nat.zero_le _, rfl, rfl, Owns.none_ _ _ _ _, hW, hA, hS⟩
  case round =>
    clear hA hW hS
    obtain ⟨k, A, m, c, hk, rfl, rfl, hO, hW, hA, hS⟩ := hrel
    by_cases hlt : k < 32
    · obtain ⟨x, hx⟩ : ∃ x, xs[k]? = some x := ⟨xs[k]'(by rw [hl.out]; exact hlt), by simp [hl.out, hlt]⟩
      have hx1 := hA.at_ hx
      rw [Nat.zero_add] at hx1
      have HX := hid (take_succ_at hx)
      have HL : Hid ((xs.take k).length = k) := hid (by rw [List.length_take, hl.out]; omega)
      have k0 : (0 : Int) ≤ k := by omega
      have k1 : (k : Int) < 32 := by omega
      clear hx
      go_wp2_with (at_builtin; refine app_one _ rfl (.tmp 9) (.tmp 13) 22 rfl (w.heap.size + 1) 5 .u8 1 Tryd.underlying22 Tryd.info5 A m c (xs.take k) rfl hO _ 1 rfl (by rw [HL.out]; omega) (by omega) hS ?_; intro A' n' c' w2 hO2 hb2)
      go_roundw
      case rel => exact ⟨k + 1, A', n', c', by omega, rfl, by go_num, by rw [HX.out]; exact hO2, hW.trans (hb2.mono (by omega)), hA.below hb2 (by omega), Nat.le_trans hS hb2.size⟩
      case measure => simp [intOf]; omega
    · have e : k = 32 := by omega
      subst e
      have hm := hO.len
      have he : xs.take 32 = xs := List.take_of_length_le (by rw [hl.out]; omega)
      rw [he] at hO hm
      rw [hl.out] at hm
      clear he
      subst hm
      go_wp2
      go_ret
      exact ⟨A, c, rfl, hO.low (by omega), hW⟩
end Go.Proofs.YtihipgojeikdkaaDoor

/- The reference's block of a key, each byte combined with another. -/
namespace Go.Proofs.YtihipgojeikdkaaDoor
open Go Go.RowKit

theorem padV_in {key : List Int} {c : Int} {k : Nat} {x : Int} (h : (keyV key)[k]? = some x) : (vxl c (fillV key))[k]? = some (vx x c) := by
  refine vxl_at c _ ?_
  unfold fillV
  rw [List.getElem?_append_left (List.getElem?_eq_some_iff.1 h).1, h]
theorem padV_out {key : List Int} {c : Int} {k : Nat} (hc : 0 ≤ c ∧ c < 256) (h : (keyV key).length ≤ k) (hk : k < 128) : (vxl c (fillV key))[k]? = some c := by
  have e : (fillV key)[k]? = some 0 := by
    unfold fillV
    rw [List.getElem?_append_right h]
    unfold hzeros
    rw [List.getElem?_replicate, if_pos (by omega)]
  rw [vxl_at c _ e, vx_zero hc]
/-- The reference's hash, its length by itself. -/
theorem rsum_len (A : Option Addr) (c l : Nat) (b : List Int) (w : World) (hl : Hid (b.length = l)) (h1 : l ≤ 4000) (hby : HByt b) (hA : Nums w .u8 A b) :
    Calls Tryd.prog 18 #[.slice A l c] w fun e w' => ∃ ys, e = .returned (.agg (ints .u8 ys).toArray) ∧ Hid (ys = hash b) ∧ Hid (ys.length = 64) ∧ Below w.heap.size w w' := by
  have h := rsum_any A c b w (by rw [hl.out]; exact h1) hby hA
  rw [hl.out] at h
  exact h
set_option maxRecDepth 50000 in
set_option maxHeartbeats 2000000 in
theorem rblk_any (A0 : Option Addr) (c0 l : Nat) (key P : List Int) (c : Int) (w : World) (hl : Hid (key.length = l)) (h1 : l ≤ 1000) (hkb : HByt key) (hc0 : 0 ≤ c) (hc1 : c < 256) (hA : Nums w .u8 A0 key) (hP : Hid (vxl c (fillV key) = P)) :
    Calls Tryd.prog 16 #[.slice A0 l c0, .int .u8 c] w fun e w' => ∃ A d, e = .returned (.slice A 128 d) ∧ Owns w' w.heap.size 5 .u8 (.slice A 128 d) P ∧ Below w.heap.size w w' := by
  obtain ⟨kk, hkk⟩ : ∃ kk, keyV key = kk := ⟨_, rfl⟩
  have HP : Hid (P.length = 128 ∧ (∀ (k : Nat) x, kk[k]? = some x → P[k]? = some (vx x c)) ∧ ∀ k : Nat, kk.length ≤ k → k < 128 → P[k]? = some c) := hid (by
    subst hkk
    rw [← hP.out]
    exact ⟨by rw [vxl_len, fillV_len], fun k x h => padV_in h, fun k h h2 => padV_out ⟨hc0, hc1⟩ h h2⟩)
  clear hP
  by_cases hbig : 128 < l
  · have e : kk = hash key := by rw [← hkk]; unfold keyV; rw [if_pos (by rw [hl.out]; exact hbig)]
    have hkl : kk.length = 64 := by rw [e, hash_len]
    have HK := hid e
    have HKL0 := hid hkl
    clear e hkl hkk
    have hi1 : (128 : Int) < l := by omega
    go_enter Tryd.func16, Tryd.ntmps16
    go_wp2_with (first
      | (go_at_call 18; refine (rsum_len A0 c0 l key _ hl (by omega) hkb hA).mono ?_; rintro e w1 ⟨ys, rfl, HY, HYL, hb1⟩)
      | (go_at_call 17; refine (rlist_any ys _ HYL).mono ?_; rintro e W0 ⟨KA, kd, rfl, hKO, hb2⟩))
    have hW : Below w.heap.size w W0 := hb1.trans (Below.mono hb2 hb1.size)
    have hN : Nums W0 .u8 KA kk := by have := hKO.nums; rw [HY.out] at this; rw [HK.out]; exact this
    obtain ⟨n, hn⟩ : ∃ n, n = 64 := ⟨_, rfl⟩
    have HKL : Hid (kk.length = n) := hid (by rw [HKL0.out, hn])
    have e64 : Value.slice KA 64 kd = .slice KA n kd := by rw [hn]
    have hn2 : n ≤ 64 := by omega
    rw [e64]
    clear e64 hKO hb1 hb2 hn HKL0
    go_loopw [6, 7] (fun v i wr => ∃ (k : Nat) (A : Option Addr) (m d : Nat), k ≤ 128 ∧ v = .slice A m d ∧ i = .int .i64 k ∧ Owns wr W0.heap.size 5 .u8 (.slice A m d) (P.take k) ∧ Below W0.heap.size W0 wr) (fun _ i _ => 128 - (intOf i).toNat)
    case atStart => exact ⟨0, none, 0, 0, Nat.zero_le _, rfl, rfl, Owns.none_ _ _ _ _, Below.refl _ _⟩
    case round =>

      obtain ⟨k, A, m, d, hk, rfl, rfl, hO, hV⟩ := hrel
      by_cases hlt : k < 128
      · have hS := hV.size
        have HL : Hid ((P.take k).length = k) := hid (by rw [List.length_take, HP.out.1]; omega)
        have k0 : (0 : Int) ≤ k := by omega
        by_cases hin : k < n
        · obtain ⟨b1, o1, x, rfl, hb1, hc1, H1⟩ := (hN.below hV).get (i := k) (by rw [HKL.out]; exact hin)
          have HX : Hid (P.take (k + 1) = P.take k ++ [vx x c]) := hid (take_succ_at (HP.out.2.1 k x H1.out))
          have k1 : (k : Int) < n := by omega
          obtain ⟨y, hy⟩ : ∃ y, bits .xor .u8 x c = y := ⟨_, rfl⟩
          have hyx : vx x c = y := hy
          rw [hyx] at HX
          clear hyx H1
          go_wp2_with (at_builtin; refine app_one _ rfl (.tmp 23) (.tmp 30) 22 rfl W0.heap.size 5 .u8 1 Tryd.underlying22 Tryd.info5 A m d (P.take k) rfl hO _ 1 rfl (by rw [HL.out]; omega) (by omega) hS ?_; intro A' n' c' w2 hO2 hb2)
          go_roundw
          case rel => exact ⟨k + 1, A', n', c', by omega, rfl, by go_num, by rw [HX.out]; exact hO2, hV.trans hb2⟩
          case measure => simp [intOf]; omega
        · have k1 : (n : Int) ≤ k := by omega
          have HX : Hid (P.take (k + 1) = P.take k ++ [c]) := hid (take_succ_at (HP.out.2.2 k (by rw [HKL.out]; omega) hlt))
          go_wp2_with (at_builtin; refine app_one _ rfl (.tmp 32) (.tmp 34) 22 rfl W0.heap.size 5 .u8 1 Tryd.underlying22 Tryd.info5 A m d (P.take k) rfl hO _ 1 rfl (by rw [HL.out]; omega) (by omega) hS ?_; intro A' n' c' w2 hO2 hb2)
          go_roundw
          case rel => exact ⟨k + 1, A', n', c', by omega, rfl, by go_num, by rw [HX.out]; exact hO2, hV.trans hb2⟩
          case measure => simp [intOf]; omega
      · have e : k = 128 := by omega
        subst e
        have hm := hO.len
        have he : P.take 128 = P := List.take_of_length_le (by rw [HP.out.1]; omega)
        rw [he] at hO hm
        rw [HP.out.1] at hm
        clear he
        subst hm
        go_wp2
        go_ret
        exact ⟨A, d, rfl, hO.low hW.size, hW.trans (Below.mono hV hW.size)⟩
  · have e : kk = key := by rw [← hkk]; unfold keyV; rw [if_neg (by rw [hl.out]; exact hbig)]
    have hi1 : (l : Int) ≤ 128 := by omega
    obtain ⟨W0, hW0⟩ : ∃ W0, W0 = w := ⟨_, rfl⟩
    obtain ⟨n, hn⟩ : ∃ n, n = l := ⟨_, rfl⟩
    have HKL : Hid (kk.length = n) := hid (by rw [e, hl.out, hn])
    have hN : Nums W0 .u8 A0 kk := by rw [e, hW0]; exact hA
    have hW : Below w.heap.size w W0 := by rw [hW0]; exact Below.refl _ _
    suffices h : Calls Tryd.prog 16 #[.slice A0 l c0, .int .u8 c] W0 fun e w' => ∃ A d, e = .returned (.slice A 128 d) ∧ Owns w' w.heap.size 5 .u8 (.slice A 128 d) P ∧ Below w.heap.size w w' by rw [hW0] at h; exact h
    clear hW0
    have hn2 : n ≤ 128 := by omega
    rw [← hn] at hi1 ⊢
    obtain ⟨KA, hKA⟩ : ∃ KA, KA = A0 := ⟨_, rfl⟩
    rw [← hKA] at hN ⊢
    clear e hkk hl hA h1 hn hKA hbig
    go_enter Tryd.func16, Tryd.ntmps16
    go_wp2
    go_loopw [6, 7] (fun v i wr => ∃ (k : Nat) (A : Option Addr) (m d : Nat), k ≤ 128 ∧ v = .slice A m d ∧ i = .int .i64 k ∧ Owns wr W0.heap.size 5 .u8 (.slice A m d) (P.take k) ∧ Below W0.heap.size W0 wr) (fun _ i _ => 128 - (intOf i).toNat)
    case atStart => exact ⟨0, none, 0, 0, Nat.zero_le _, rfl, rfl, Owns.none_ _ _ _ _, Below.refl _ _⟩
    case round =>

      obtain ⟨k, A, m, d, hk, rfl, rfl, hO, hV⟩ := hrel
      by_cases hlt : k < 128
      · have hS := hV.size
        have HL : Hid ((P.take k).length = k) := hid (by rw [List.length_take, HP.out.1]; omega)
        have k0 : (0 : Int) ≤ k := by omega
        by_cases hin : k < n
        · obtain ⟨b1, o1, x, rfl, hb1, hc1, H1⟩ := (hN.below hV).get (i := k) (by rw [HKL.out]; exact hin)
          have HX : Hid (P.take (k + 1) = P.take k ++ [vx x c]) := hid (take_succ_at (HP.out.2.1 k x H1.out))
          have k1 : (k : Int) < n := by omega
          obtain ⟨y, hy⟩ : ∃ y, bits .xor .u8 x c = y := ⟨_, rfl⟩
          have hyx : vx x c = y := hy
          rw [hyx] at HX
          clear hyx H1
          go_wp2_with (at_builtin; refine app_one _ rfl (.tmp 23) (.tmp 30) 22 rfl W0.heap.size 5 .u8 1 Tryd.underlying22 Tryd.info5 A m d (P.take k) rfl hO _ 1 rfl (by rw [HL.out]; omega) (by omega) hS ?_; intro A' n' c' w2 hO2 hb2)
          go_roundw
          case rel => exact ⟨k + 1, A', n', c', by omega, rfl, by go_num, by rw [HX.out]; exact hO2, hV.trans hb2⟩
          case measure => simp [intOf]; omega
        · have k1 : (n : Int) ≤ k := by omega
          have HX : Hid (P.take (k + 1) = P.take k ++ [c]) := hid (take_succ_at (HP.out.2.2 k (by rw [HKL.out]; omega) hlt))
          go_wp2_with (at_builtin; refine app_one _ rfl (.tmp 32) (.tmp 34) 22 rfl W0.heap.size 5 .u8 1 Tryd.underlying22 Tryd.info5 A m d (P.take k) rfl hO _ 1 rfl (by rw [HL.out]; omega) (by omega) hS ?_; intro A' n' c' w2 hO2 hb2)
          go_roundw
          case rel => exact ⟨k + 1, A', n', c', by omega, rfl, by go_num, by rw [HX.out]; exact hO2, hV.trans hb2⟩
          case measure => simp [intOf]; omega
      · have e : k = 128 := by omega
        subst e
        have hm := hO.len
        have he : P.take 128 = P := List.take_of_length_le (by rw [HP.out.1]; omega)
        rw [he] at hO hm
        rw [HP.out.1] at hm
        clear he
        subst hm
        go_wp2
        go_ret
        exact ⟨A, d, rfl, hO.low hW.size, hW.trans (Below.mono hV hW.size)⟩
end Go.Proofs.YtihipgojeikdkaaDoor
