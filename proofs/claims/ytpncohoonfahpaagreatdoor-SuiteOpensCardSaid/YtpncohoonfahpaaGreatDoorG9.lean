/- Texts of this proof, laid together: VMath, VPut. -/
import Derived.Test.YtpncohoonfahpaaGreatDoorG6
import Derived.Test.YtpncohoonfahpaaGreatDoorHRefSumM
import Derived.Test.YtpncohoonfahpaaGreatDoorMRowM
import Derived.Test.YtpncohoonfahpaaGreatDoorG5
import Derived.Test.YtpncohoonfahpaaGreatDoorG1
/- Tags and derived keys, as lists of bytes. -/
namespace Go.Proofs.YtpncohoonfahpaaGreatDoor
open Go Go.RowKit

/-- A byte combined with another. -/
def vx (x c : Int) : Int := bits .xor .u8 x c
set_option maxRecDepth 50000 in
theorem vx_bd (x c : Int) : 0 ≤ vx x c ∧ vx x c < 256 := by
  show 0 ≤ IntKind.u8.wrap _ ∧ IntKind.u8.wrap _ < 256
  rw [IntKind.wrap_u8]
  omega
set_option maxRecDepth 50000 in
theorem vx_zero {c : Int} (h : 0 ≤ c ∧ c < 256) : vx 0 c = c := by
  have key : ∀ n : Fin 256, vx 0 (n.val : Int) = (n.val : Int) := by decide +kernel
  obtain ⟨n, rfl⟩ := Int.eq_ofNat_of_zero_le h.1
  exact key ⟨n, by omega⟩
set_option maxRecDepth 50000 in
theorem hz_len (n : Nat) : (hzeros n).length = n := by simp [hzeros]
set_option maxRecDepth 50000 in
theorem hz_byt (n : Nat) : HByt (hzeros n) := fun x hx => by rw [List.eq_of_mem_replicate hx]; omega
set_option maxRecDepth 50000 in
theorem HByt.app {a b : List Int} (h : HByt a) (k : HByt b) : HByt (a ++ b) := fun x hx => by
  rcases List.mem_append.1 hx with e | e
  · exact h x e
  · exact k x e
set_option maxRecDepth 50000 in
theorem hbyt_of_wf {bs : List Int} (h : ∀ x ∈ bs, (Lit.int .u8 x).wf = true) : HByt bs := fun x hx => by
  have h1 := h x hx
  simp [Lit.wf, IntKind.min, IntKind.max, IntKind.bits, IntKind.signed] at h1
  omega
def vxl (c : Int) (l : List Int) : List Int := l.map fun x => vx x c
set_option maxRecDepth 50000 in
theorem vxl_len (c : Int) (l : List Int) : (vxl c l).length = l.length := by simp [vxl]
set_option maxRecDepth 50000 in
theorem vxl_byt (c : Int) (l : List Int) : HByt (vxl c l) := fun x hx => by
  simp only [vxl, List.mem_map] at hx
  obtain ⟨y, _, rfl⟩ := hx
  exact vx_bd _ _
set_option maxRecDepth 50000 in
theorem vxl_at (c : Int) (l : List Int) {i : Nat} {x : Int} (h : l[i]? = some x) : (vxl c l)[i]? = some (vx x c) := by simp [vxl, h]
set_option maxRecDepth 50000 in
theorem hash_len (m : List Int) : (hash m).length = 64 := by
  unfold hash
  rw [splitB_length]; rfl
set_option maxRecDepth 50000 in
theorem hash_byt (m : List Int) : HByt (hash m) := splitB_byt _ _ _
/-- The key that fills a block. -/
def keyV (key : List Int) : List Int := if 128 < key.length then hash key else key
set_option maxRecDepth 50000 in
theorem keyV_le (key : List Int) : (keyV key).length ≤ 128 := by
  unfold keyV
  split
  · rw [hash_len]; omega
  · omega
set_option maxRecDepth 50000 in
theorem keyV_byt {key : List Int} (h : HByt key) : HByt (keyV key) := by
  unfold keyV
  split
  · exact hash_byt _
  · exact h
/-- The block of a key. -/
def fillV (key : List Int) : List Int := keyV key ++ hzeros (128 - (keyV key).length)
set_option maxRecDepth 50000 in
theorem fillV_len (key : List Int) : (fillV key).length = 128 := by
  unfold fillV
  have := keyV_le key
  rw [List.length_append, hz_len]; omega
set_option maxRecDepth 50000 in
theorem fillV_byt {key : List Int} (h : HByt key) : HByt (fillV key) := (keyV_byt h).app (hz_byt _)
def inV (key : List Int) : List Int := vxl 54 (fillV key)
def outV (key : List Int) : List Int := vxl 92 (fillV key)
set_option maxRecDepth 50000 in
theorem inV_len (key : List Int) : (inV key).length = 128 := by unfold inV; rw [vxl_len, fillV_len]
set_option maxRecDepth 50000 in
theorem outV_len (key : List Int) : (outV key).length = 128 := by unfold outV; rw [vxl_len, fillV_len]
set_option maxRecDepth 50000 in
theorem inV_byt (key : List Int) : HByt (inV key) := vxl_byt _ _
set_option maxRecDepth 50000 in
theorem outV_byt (key : List Int) : HByt (outV key) := vxl_byt _ _
/-- The tag of bytes under a key. -/
def tagV (key b : List Int) : List Int := hash (outV key ++ hash (inV key ++ b))
set_option maxRecDepth 50000 in
theorem tagV_len (key b : List Int) : (tagV key b).length = 64 := hash_len _
set_option maxRecDepth 50000 in
theorem tagV_byt (key b : List Int) : HByt (tagV key b) := hash_byt _
/-- A context, behind its number of bytes. -/
def ctxV (c : List Int) : List Int := splitB true 4 [(c.length : Int)] ++ c
def textV (label : List Int) (cs : List (List Int)) : List Int := splitB true 1 [(label.length : Int)] ++ label ++ (cs.map ctxV).flatten
/-- A derived key. -/
def keyD (src label : List Int) (cs : List (List Int)) : List Int := (tagV src (textV label cs)).take 32
set_option maxRecDepth 50000 in
theorem keyD_len (src label : List Int) (cs : List (List Int)) : (keyD src label cs).length = 32 := by
  unfold keyD
  rw [List.length_take, tagV_len]; rfl
set_option maxRecDepth 50000 in
theorem keyD_byt (src label : List Int) (cs : List (List Int)) : HByt (keyD src label cs) := (tagV_byt _ _).take _
def REG : List Int := [114, 101, 103, 114, 101, 115, 115]
def ITM : List Int := [105, 116, 101, 109]
def nextV (s : List Int) : List Int := keyD s REG []
def itemV (s : List Int) : List Int := keyD s ITM []
set_option maxRecDepth 50000 in
theorem nextV_len (s : List Int) : (nextV s).length = 32 := keyD_len _ _ _
set_option maxRecDepth 50000 in
theorem itemV_len (s : List Int) : (itemV s).length = 32 := keyD_len _ _ _
set_option maxRecDepth 50000 in
theorem nextV_byt (s : List Int) : HByt (nextV s) := keyD_byt _ _ _
set_option maxRecDepth 50000 in
theorem itemV_byt (s : List Int) : HByt (itemV s) := keyD_byt _ _ _
/-- So many steps back. -/
def backV (s : List Int) : Nat → List Int
  | 0 => s
  | n + 1 => nextV (backV s n)
set_option maxRecDepth 50000 in
theorem backV_len {s : List Int} (h : s.length = 32) : ∀ n, (backV s n).length = 32
  | 0 => h
  | _ + 1 => nextV_len _
set_option maxRecDepth 50000 in
theorem backV_byt {s : List Int} (h : HByt s) : ∀ n, HByt (backV s n)
  | 0 => h
  | _ + 1 => nextV_byt _
set_option maxRecDepth 50000 in
theorem backV_add (s : List Int) (m : Nat) : ∀ n, backV s (m + n) = backV (backV s m) n
  | 0 => rfl
  | n + 1 => by rw [← Nat.add_assoc]; show nextV _ = nextV _; rw [backV_add s m n]
end Go.Proofs.YtpncohoonfahpaaGreatDoor

/- A number as so many bytes, the highest first: count of the code, and the reference's Put. -/
namespace Go.Proofs.YtpncohoonfahpaaGreatDoor
open Go Go.RowKit

set_option maxRecDepth 50000 in
set_option maxHeartbeats 400000 in
theorem split64c (hi : Bool) (A : Option Addr) (c s : Nat) (l : List Int) (w : World) (h1 : 1 ≤ s) (h8 : s ≤ 8) (hn : l.length * s ≤ 4096) (hA : Nums w .u64 A l) :
    Calls Tryz.prog 202 #[.slice A l.length c, .int .i64 s, .int .i64 (ordN hi)] w fun e w' => ∃ B d ys, e = .returned (.slice B ys.length d) ∧ ys.length ≤ d ∧ Hid (ys = splitB hi s l) ∧ NumsF w.heap.size w' .u8 B ys ∧ Below w.heap.size w w' := by
  obtain ⟨i0, hi0, hz0, hz1, hz2⟩ := info_parts Tryz.info5
  obtain ⟨S, hS⟩ : ∃ S, S = splitB hi s l := ⟨_, rfl⟩
  have hSl : S.length = l.length * s := by rw [hS, splitB_length]
  have HS := hid hS
  have HSl := hid hSl
  have hSb : S.length ≤ 4096 := by omega
  have hi1 : ((l.length * s : Nat) : Int) = (l.length : Int) * (s : Int) := by simp
  have hi2 : 0 ≤ (l.length : Int) * (s : Int) := by omega
  have hi3 : (l.length : Int) * (s : Int) ≤ 4096 := by omega
  have HI := hid hi1
  have hll : l.length ≤ 4096 := Nat.le_trans (Nat.le_mul_of_pos_right _ (by omega)) hn
  clear hS hSl hi1
  go_enter Tryz.func202, Tryz.ntmps202
  go_wp2_with (at_make; refine wpList_make_full _ rfl _ _ 23 rfl w.heap.size 5 i0 _ 1 Tryz.underlying23 hi0 hz0 hz1 .i64 .i64 _ _ S.length rfl rfl ?_ ?_ ?_ ?_ ?_ ?_)
  · rw [HSl.out]; exact HI.out.symm
  · rw [HSl.out]; exact HI.out.symm
  · rw [hz2]; omega
  · unfold maxLen; omega
  · omega
  intro w1 hown hgrow
  have hb1 : Below w.heap.size w w1 := (Below.refl _ _).grown hgrow (Nat.le_refl _) (by simp)
  have hO : Owns w1 w.heap.size 5 .u8 (.slice (some ⟨w.heap.size, 0, none⟩) S.length S.length) (fillK S 0) := by
    rw [fillK_zero]
    unfold Owns
    rw [List.length_replicate, List.map_replicate, ← toList_madeCells_one]
    exact hown
  clear hown hgrow
  go_wp2
  go_loopw [16] (fun i wr => ∃ k : Nat, k ≤ S.length ∧ i = .int .i64 k ∧ Below w.heap.size w wr ∧ Owns wr w.heap.size 5 .u8 (.slice (some ⟨w.heap.size, 0, none⟩) S.length S.length) (fillK S k)) (fun i _ => S.length - (intOf i).toNat)
  case atStart => exact ⟨0, Nat.zero_le _, rfl, hb1, hO⟩
  case round =>
    clear hb1 hO
    obtain ⟨k, hk, rfl, hb, hO⟩ := hrel
    by_cases hlt : k < S.length
    · have hq : k / s < l.length := by
        have := HSl.out
        rw [Nat.div_lt_iff_lt_mul (by omega)]; omega
      have hr : k % s < s := Nat.mod_lt _ (by omega)
      obtain ⟨b1, o1, x, rfl, _, hc1, H1⟩ := (hA.below hb).get hq
      obtain ⟨q, hqe⟩ : ∃ q, q = k / s := ⟨_, rfl⟩
      obtain ⟨r, hre⟩ : ∃ r, r = k % s := ⟨_, rfl⟩
      rw [← hqe] at hq hc1 H1
      rw [← hre] at hr
      have hqi : (k : Int) / (s : Int) = (q : Int) := by rw [hqe]; simp
      have hri : (k : Int) % (s : Int) = (r : Int) := by rw [hre]; simp
      have HQ := hid hqe
      have HR := hid hre
      clear hqe hre
      have hpos : (0 : Int) ≤ k := by omega
      have hlt' : (k : Int) < S.length := by omega
      have hs1 : (1 : Int) ≤ s := by omega
      go_wp2
      have hs0 : ¬ s = 0 := by omega
      have hwq : IntKind.i64.wrap (q : Int) = (q : Int) := IntWalk.i64_in _ (by omega)
      have hti : (k : Int).tmod (s : Int) = (r : Int) := by rw [Int.tmod_eq_emod_of_nonneg (by omega)]; exact hri
      have hwr : IntKind.i64.wrap (r : Int) = (r : Int) := IntWalk.i64_in _ (by omega)
      have hq0 : (0 : Int) ≤ q := by omega
      have hq1 : (q : Int) < l.length := by omega
      obtain ⟨P, hP⟩ : ∃ P, P = 8 * plc hi r s := ⟨_, rfl⟩
      have HP := hid hP
      have hP1 : (P : Int) ≤ 64 := by unfold plc at hP; split at hP <;> omega
      have hP0 : (0 : Int) ≤ P := by omega
      clear hP
      go_still_tail 16, (by kernel_rfl)
      still_call (shift_any hi r s P _ HP.out hr h8)
      repeat still_step
      refine wpStill_nil ?_
      obtain ⟨y, hy, hyf, _⟩ := hO.spot (j := k) (by rw [fillK_length]; exact hlt)
      change wpList _ _ _ _ _ wr.drew
      have hy1 : wr.drew.cell? ⟨w.heap.size, k, none⟩ = some (.int .u8 y) := hy
      have hyf1 : wr.drew.frozen? ⟨w.heap.size, k, none⟩ = false := hyf
      have hb1 : Below w.heap.size w wr.drew := hb.drew
      have hO1 := hO.drew
      clear hO hb hy hyf hc1
      generalize wr.drew = w2 at *
      go_wp2
      go_roundw
      case rel =>
        have hsk : S[k]? = some (x / 2 ^ P % 256) := by
          rw [HS.out, splitB_at hi s l (by have := HSl.out; omega), ← HQ.out, ← HR.out, HP.out]
          simp [List.getD, H1.out, dig]
        exact ⟨k + 1, by omega, by go_num, hb1.setCell (Nat.le_refl _) _, by have h := hO1.store k (x / 2 ^ P % 256); rw [fillK_set S hsk] at h; exact h⟩
      case measure => simp [intOf]; omega
    · go_wp2
      go_ret
      have e : k = S.length := by omega
      subst e
      rw [fillK_end] at hO
      exact ⟨_, _, S, rfl, Nat.le_refl _, HS, hO.fresh, hb⟩
/-- The greatest number of s bytes. -/
def grt (s : Nat) : Int := if s = 8 then 4611686018427387904 else 2 ^ (8 * s) - 1

set_option maxRecDepth 50000 in
theorem greatest_any (s : Nat) (w : World) (h1 : 1 ≤ s) (h8 : s ≤ 8) : Calls Tryz.prog 201 #[.int .i64 s] w fun e w' => e = .returned (.int .i64 (grt s)) ∧ w = w' := by
  have hs : s = 1 ∨ s = 2 ∨ s = 3 ∨ s = 4 ∨ s = 5 ∨ s = 6 ∨ s = 7 ∨ s = 8 := by omega
  rcases hs with rfl | rfl | rfl | rfl | rfl | rfl | rfl | rfl
  all_goals
    go_enter Tryz.func201, Tryz.ntmps201
    go_wp2
    go_ret
    exact ⟨by simp [grt], rfl⟩

/-- Does n fit into so many bytes? -/
def Fits (n s : Int) : Prop := 1 ≤ s ∧ s ≤ 8 ∧ 0 ≤ n ∧ n ≤ grt s.toNat

set_option maxRecDepth 50000 in
theorem grt_bd (s : Nat) (h1 : 1 ≤ s) (h8 : s ≤ 8) : 0 ≤ grt s ∧ grt s ≤ 4611686018427387904 := by
  have hs : s = 1 ∨ s = 2 ∨ s = 3 ∨ s = 4 ∨ s = 5 ∨ s = 6 ∨ s = 7 ∨ s = 8 := by omega
  rcases hs with rfl | rfl | rfl | rfl | rfl | rfl | rfl | rfl <;> simp [grt]

set_option maxRecDepth 50000 in
theorem split64_one (hi : Bool) (b : Nat) (s : Nat) (n : Int) (w : World) (h1 : 1 ≤ s) (h8 : s ≤ 8) (hb : b < w.heap.size) (hc : w.cell? ⟨b, 0, none⟩ = some (.int .u64 n)) :
    Calls Tryz.prog 202 #[.slice (some ⟨b, 0, none⟩) 1 1, .int .i64 s, .int .i64 (ordN hi)] w fun e w' => ∃ B d ys, e = .returned (.slice B ys.length d) ∧ ys.length ≤ d ∧ Hid (ys = splitB hi s [n]) ∧ NumsF w.heap.size w' .u8 B ys ∧ Below w.heap.size w w' :=
  split64c hi (some ⟨b, 0, none⟩) 1 s [n] w h1 h8 (by simp; omega) (fun _ => ⟨b, 0, rfl, hb, fun i hi => by
    have : i = 0 := by simpa using hi
    subst this
    exact hc⟩)

set_option maxRecDepth 50000 in
set_option maxHeartbeats 400000 in
theorem put_yes (hi : Bool) (n : Int) (s : Nat) (w : World) (h : Fits n s) :
    Calls Tryz.prog 150 #[.int .i64 n, .int .i64 s, .int .i64 (ordN hi)] w fun e w' => ∃ B d ys, e = .returned (.tuple #[.slice B ys.length d, .int .i64 0]) ∧ ys.length ≤ d ∧ Hid (ys = splitB hi s [n]) ∧ NumsF w.heap.size w' .u8 B ys ∧ Below w.heap.size w w' := by
  obtain ⟨h1, h8, h0, hg⟩ := h
  rw [Int.toNat_natCast] at hg
  have hgb := (grt_bd s (by omega) (by omega)).2
  have hwn : IntKind.u64.wrap n = n := IntWalk.u64_in _ (by omega)
  go_enter Tryz.func150, Tryz.ntmps150
  go_wp2_with (first | (go_at_call 201; refine (greatest_any s _ (by omega) (by omega)).mono ?_; rintro e w' ⟨rfl, rfl⟩) | (go_at_call 202; refine (split64_one hi _ s n _ (by omega) (by omega) (by simp) (by go_simp)).mono ?_; rintro e w' ⟨B, d, ys, rfl, hyd, HY, hN, hb⟩))
  go_ret2
  exact ⟨B, d, ys, rfl, hyd, HY, hN.less (by simp), ((Below.refl _ _).alloc (Nat.le_refl _) _).trans (hb.mono (by simp))⟩

/-- What the reference gives for a number from 0 to 2^62 and a size from 1 to 8. -/
def LowPost (n : Int) (s : Nat) (w : World) (e : Ending) (w' : World) : Prop :=
  (n / 2 ^ (8 * s) = 0 ∧ ∃ B d ys, e = .returned (.tuple #[.slice B ys.length d, .int .i64 0]) ∧ Hid (ys = splitB false s [n]) ∧ NumsF w.heap.size w' .u8 B ys ∧ Below w.heap.size w w') ∨
  (n / 2 ^ (8 * s) ≠ 0 ∧ e = .returned (.tuple #[.slice none 0 0, .int .i64 2]) ∧ Below w.heap.size w w')

set_option maxRecDepth 50000 in
set_option maxHeartbeats 400000 in
theorem refLow_loop (n : Int) (s : Nat) (w : World) (h1 : 1 ≤ s) (h8 : s ≤ 8) (h0 : 0 ≤ n) (h62 : n ≤ 4611686018427387904) :
    Calls Tryz.prog 102 #[.int .i64 n, .int .i64 s] w (LowPost n s w) := by
  obtain ⟨S, hS⟩ : ∃ S, S = splitB false s [n] := ⟨_, rfl⟩
  have hSl : S.length = s := by rw [hS, splitB_length]; simp
  have HS := hid hS
  have HSl := hid hSl
  clear hS hSl
  go_enter Tryz.func102, Tryz.ntmps102
  go_wp2
  go_loopw [0, 6, 7] (fun a v i wr => ∃ (k : Nat) (A : Option Addr) (m c : Nat) (nk : Int), k ≤ s ∧ a = .int .i64 nk ∧ Hid (nk = n / 2 ^ (8 * k)) ∧ 0 ≤ nk ∧ nk ≤ 4611686018427387904 ∧ v = .slice A m c ∧ i = .int .i64 k ∧ Owns wr w.heap.size 5 .u8 (.slice A m c) (S.take k) ∧ Below w.heap.size w wr) (fun _ _ i _ => s - (intOf i).toNat)
  case atStart => exact ⟨0, none, 0, 0, n, Nat.zero_le _, rfl, hid (by simp), h0, h62, rfl, rfl, Owns.none_ _ _ _ _, Below.refl _ _⟩
  case round =>
    obtain ⟨k, A, m, c, nk, hk, rfl, HN, hk0, hk62, rfl, rfl, hO, hb⟩ := hrel
    by_cases hlt : k < s
    · have hsz := hb.size
      have hl : (S.take k).length = k := by have := HSl.out; simp; omega
      have HL := hid hl
      clear hl
      go_wp2_with (at_builtin; refine app_one _ rfl (.tmp 27) (.tmp 31) 23 rfl w.heap.size 5 .u8 1 Tryz.underlying23 Tryz.info5 A m c (S.take k) rfl hO _ 1 rfl (by rw [HL.out]; omega) (by omega) hsz ?_; intro A' n' c' w2 hO2 hb2)
      go_roundw
      case rel =>
        have hsk : S[k]? = some (nk % 256) := by rw [HS.out, split_one false s n hlt, HN.out]; rfl
        exact ⟨k + 1, A', n', c', nk / 256, by omega, rfl, hid (by rw [HN.out]; exact div_step n k), by omega, by omega, rfl, by go_num, by rw [take_succ_at hsk]; exact hO2, hb.trans hb2⟩
      case measure => simp [intOf]; omega
    · have e : k = s := by omega
      subst e
      have hm := hO.len
      have hS : S.take k = S := List.take_of_length_le (by rw [HSl.out]; omega)
      rw [hS] at hO hm
      clear hS
      subst hm
      by_cases hz : 0 < nk
      · go_wp2
        go_ret2
        exact .inr ⟨by rw [← HN.out]; omega, rfl, hb⟩
      · go_wp2
        go_ret2
        exact .inl ⟨by rw [← HN.out]; omega, A, c, S, rfl, HS, hO.fresh, hb⟩


set_option maxRecDepth 50000 in
set_option maxHeartbeats 400000 in
theorem turned_any (A : Option Addr) (c : Nat) (b : List Int) (w : World) (hn : b.length ≤ 4096) (hA : Nums w .u8 A b) :
    Calls Tryz.prog 103 #[.slice A b.length c] w fun e w' => ∃ B d ys, e = .returned (.slice B ys.length d) ∧ Hid (ys = b.reverse) ∧ NumsF w.heap.size w' .u8 B ys ∧ Below w.heap.size w w' := by
  go_enter Tryz.func103, Tryz.ntmps103
  go_wp2
  go_loopw [3, 4] (fun v i wr => ∃ (k : Nat) (B : Option Addr) (m d : Nat), k ≤ b.length ∧ i = .int .i64 ((k : Int) - 1) ∧ v = .slice B m d ∧ Owns wr w.heap.size 5 .u8 (.slice B m d) (b.drop k).reverse ∧ Below w.heap.size w wr) (fun _ i _ => (intOf i + 1).toNat)
  case atStart => exact ⟨b.length, none, 0, 0, Nat.le_refl _, rfl, rfl, by rw [List.drop_length]; exact Owns.none_ _ _ _ _, Below.refl _ _⟩
  case round =>
    obtain ⟨k, B, m, d, hk, rfl, rfl, hO, hb⟩ := hrel
    by_cases hlt : 0 < k
    · have hsz := hb.size
      obtain ⟨j, rfl⟩ : ∃ j, k = j + 1 := ⟨k - 1, by omega⟩
      have hl : (b.drop (j + 1)).reverse.length ≤ 4096 := by simp; omega
      have HL := hid hl
      clear hl
      obtain ⟨b1, o1, x, rfl, _, hc1, H1⟩ := (hA.below hb).get (i := j) (by omega)
      have e1 : ((j + 1 : Nat) : Int) - 1 = (j : Int) := by omega
      have hj0 : (0 : Int) ≤ j := by omega
      have hj1 : (j : Int) < b.length := by omega
      rw [e1]
      clear e1
      go_wp2_with (at_builtin; refine app_one _ rfl (.tmp 12) (.tmp 17) 23 rfl w.heap.size 5 .u8 1 Tryz.underlying23 Tryz.info5 B m d (b.drop (j + 1)).reverse rfl hO _ 1 rfl (by have := HL.out; omega) (by omega) hsz ?_; intro A' n' c' w2 hO2 hb2)
      go_roundw
      case rel =>
        have hd : b.drop j = x :: b.drop (j + 1) := by
          have h2 := H1.out
          obtain ⟨h3, h4⟩ := List.getElem?_eq_some_iff.1 h2
          rw [List.drop_eq_getElem_cons h3, h4]
        exact ⟨j, A', n', c', by omega, rfl, rfl, by rw [hd, List.reverse_cons]; exact hO2, hb.trans hb2⟩
      case measure => simp [intOf]
    · have e : k = 0 := by omega
      subst e
      have hm := hO.len
      rw [List.drop_zero] at hO hm
      subst hm
      go_wp2
      go_ret
      exact ⟨B, d, b.reverse, rfl, hid rfl, hO.fresh, hb⟩


set_option maxRecDepth 50000 in
theorem count_any (n s : Nat) (w : World) (h1 : 1 ≤ s) (h8 : s ≤ 8) (hf : Fits (n : Int) (s : Int)) :
    Calls Tryz.prog 153 #[.int .i64 n, .int .i64 s] w fun e w' => ∃ B d, e = .returned (.slice B s d) ∧ s ≤ d ∧ NumsF w.heap.size w' .u8 B (splitB true s [(n : Int)]) ∧ Below w.heap.size w w' := by
  have HL := hid (split_len true s n)
  suffices h : Calls Tryz.prog 97 #[.int .i64 n, .int .i64 s] w fun e w' => ∃ B d, e = .returned (.tuple #[.slice B s d, .int .i64 0]) ∧ s ≤ d ∧ NumsF w.heap.size w' .u8 B (splitB true s [(n : Int)]) ∧ Below w.heap.size w w' by
    go_enter Tryz.func153, Tryz.ntmps153
    go_wp2_with (go_at_call 97; refine h.mono ?_; rintro e w' ⟨B, d, rfl, hd, hN, hb⟩)
    go_ret
    exact ⟨B, d, rfl, hd, hN, hb⟩
  go_enter Tryz.func97, Tryz.ntmps97
  go_wp2_with (go_at_call 150; refine (put_yes true n s _ hf).mono ?_; rintro e w' ⟨B, d, ys, rfl, hyd, HY, hN, hb⟩)
  obtain ⟨m, hm⟩ : ∃ m, ys.length = m := ⟨_, rfl⟩
  have hy : ys = splitB true s [(n : Int)] := HY.out
  rw [hm] at hyd ⊢
  rw [hy, HL.out] at hm
  rw [hy] at hN
  subst hm
  go_wp2
  go_ret2
  exact ⟨B, d, rfl, hyd, hN, hb⟩
set_option maxRecDepth 50000 in
theorem fits1 {n : Nat} (h : n ≤ 64) : Fits (n : Int) ((1 : Nat) : Int) := by
  unfold Fits
  rw [Int.toNat_natCast]
  simp [grt]
  omega
set_option maxRecDepth 50000 in
theorem fits4 {n : Nat} (h : n ≤ 1000000) : Fits (n : Int) ((4 : Nat) : Int) := by
  unfold Fits
  rw [Int.toNat_natCast]
  simp [grt]
  omega
set_option maxRecDepth 50000 in
theorem split_rev (s : Nat) (n : Int) : (splitB false s [n]).reverse = splitB true s [n] := by
  apply List.ext_getElem?
  intro i
  by_cases h : i < s
  · rw [List.getElem?_reverse (by rw [split_len]; exact h), split_len, split_one false s n (by omega), split_one true s n h]
    simp only [plc, if_true]
    rfl
  · rw [List.getElem?_eq_none (by rw [List.length_reverse, split_len]; omega), List.getElem?_eq_none (by rw [split_len]; omega)]
set_option maxRecDepth 50000 in
theorem rput4 (n : Nat) (w : World) (hn : n ≤ 1000000) : Calls Tryz.prog 51 #[.int .i64 n, .int .i64 4] w fun e w' => ∃ B d, e = .returned (.tuple #[.slice B 4 d, .int .i64 0]) ∧ NumsF w.heap.size w' .u8 B (splitB true 4 [(n : Int)]) ∧ Below w.heap.size w w' := by
  have hl : Calls Tryz.prog 102 #[.int .i64 n, .int .i64 4] w fun e w' => ∃ B d, e = .returned (.tuple #[.slice B 4 d, .int .i64 0]) ∧ NumsF w.heap.size w' .u8 B (splitB false 4 [(n : Int)]) ∧ Below w.heap.size w w' := by
    refine (refLow_loop n 4 w (by omega) (by omega) (by omega) (by omega)).mono ?_
    rintro e w' (⟨h, B, d, ys, rfl, HY, hN, hb⟩ | ⟨h, rfl, hb⟩)
    · have hy : ys = splitB false 4 [(n : Int)] := HY.out
      subst hy
      rw [split_len]
      exact ⟨B, d, rfl, hN, hb⟩
    · exact absurd (by have : (2 : Int) ^ (8 * 4) = 4294967296 := by decide
                       rw [this]; omega) h
  have ht : ∀ (B : Option Addr) (d : Nat) (w0 : World), Nums w0 .u8 B (splitB false 4 [(n : Int)]) → Calls Tryz.prog 103 #[.slice B 4 d] w0 fun e w' => ∃ B d, e = .returned (.slice B 4 d) ∧ NumsF w0.heap.size w' .u8 B (splitB true 4 [(n : Int)]) ∧ Below w0.heap.size w0 w' := fun B d w0 hN => by
    have h := turned_any B d (splitB false 4 [(n : Int)]) w0 (by rw [split_len]; omega) hN
    rw [split_len] at h
    refine h.mono ?_
    rintro e w' ⟨B2, d2, ys, rfl, HY, hN2, hb⟩
    have hy : ys = splitB true 4 [(n : Int)] := HY.out.trans (split_rev _ _)
    subst hy
    rw [split_len]
    exact ⟨B2, d2, rfl, hN2, hb⟩
  go_enter Tryz.func51, Tryz.ntmps51
  go_wp2_with (first | (go_at_call 102; refine hl.mono ?_; rintro e w1 ⟨B, d, rfl, hN, hb⟩) | (go_at_call 103; refine (ht B d _ hN.nums).mono ?_; rintro e w2 ⟨B2, d2, rfl, hN2, hb2⟩))
  go_ret2
  exact ⟨B2, d2, rfl, hN2.less hb.size, hb.trans (hb2.mono hb.size)⟩
end Go.Proofs.YtpncohoonfahpaaGreatDoor
