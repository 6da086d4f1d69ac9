/- Texts of this proof, laid together: VPut, VText, VKey, VKeyW. -/
import Derived.Test.YtkblmdakejmmhaaDoorG14
import Derived.Test.YtkblmdakejmmhaaDoorG18
import Derived.Test.YtkblmdakejmmhaaDoorG20
/- A number as so many bytes, the highest first: count of the code, and the reference's Put. -/
namespace Go.Proofs.YtkblmdakejmmhaaDoor
open Go Go.RowKit

set_option maxRecDepth 50000 in
set_option maxHeartbeats 400000 in
theorem split64c (hi : Bool) (A : Option Addr) (c s : Nat) (l : List Int) (w : World) (h1 : 1 ≤ s) (h8 : s ≤ 8) (hn : l.length * s ≤ 4096) (hA : Nums w .u64 A l) :
    Calls Tryd.prog 74 #[.slice A l.length c, .int .i64 s, .int .i64 (ordN hi)] w fun e w' => ∃ B d ys, e = .returned (.slice B ys.length d) ∧ ys.length ≤ d ∧ Hid (ys = splitB hi s l) ∧ NumsF w.heap.size w' .u8 B ys ∧ Below w.heap.size w w' := by
  obtain ⟨i0, hi0, hz0, hz1, hz2⟩ := info_parts Tryd.info5
  obtain ⟨S, hS⟩ : ∃ S, S = splitB hi s l := ⟨_, rfl⟩
  have hSl : S.length = l.length * s := by rw [hS, splitB_length]
  have HS := hid hS
  have HSl := hid hSl
  have hSb : S.length ≤ 4096 := by omega
  have hi1 : ((l.length * s : Nat) : Int) = (l.length : Int) * (s : Int) := by simp
  have hi2 : 0 ≤ (l.length : Int) * (s : Int) := by omega
  have hi3 : (l.length : Int) * (s : Int) ≤ 4096 := by omega
  have HI := hid hi1
  have hll : l.length ≤ 4096 := Nat.le_trans (Nat.le_mul_of_pos_right _ (by omega)) hn
  clear hS hSl hi1
  go_enter Tryd.func74, Tryd.ntmps74
  go_wp2_with (at_make; refine wpList_make_full _ rfl _ _ 23 rfl w.heap.size 5 i0 _ 1 Tryd.underlying23 hi0 hz0 hz1 .i64 .i64 _ _ S.length rfl rfl ?_ ?_ ?_ ?_ ?_ ?_)
  · rw [HSl.out]; exact HI.out.symm
  · rw [HSl.out]; exact HI.out.symm
  · rw [hz2]; omega
  · unfold maxLen; omega
  · omega
  intro w1 hown hgrow
  have hb1 : Below w.heap.size w w1 := (Below.refl _ _).grown hgrow (Nat.le_refl _) (by simp)
  have hO : Owns w1 w.heap.size 5 .u8 (.slice (some ⟨w.heap.size, 0, none⟩) S.length S.length) (fillK S 0) := by
    rw [fillK_zero]
    unfold Owns
    rw [List.length_replicate, List.map_replicate, ← toList_madeCells_one]
    exact hown
  clear hown hgrow
  go_wp2
  go_loopw [16] (fun i wr => ∃ k : Nat, k ≤ S.length ∧ i = .int .i64 k ∧ Below w.heap.size w wr ∧ Owns wr w.heap.size 5 .u8 (.slice (some ⟨w.heap.size, 0, none⟩) S.length S.length) (fillK S k)) (fun i _ => S.length - (intOf i).toNat)
  case atStart => exact ⟨0, Nat.zero_le _, rfl, hb1, hO⟩
  case round =>
    clear hb1 hO
    obtain ⟨k, hk, rfl, hb, hO⟩ := hrel
    by_cases hlt : k < S.length
    · have hq : k / s < l.length := by
        have := HSl.out
        rw [Nat.div_lt_iff_lt_mul (by omega)]; omega
      have hr : k % s < s := Nat.mod_lt _ (by omega)
      obtain ⟨b1, o1, x, rfl, _, hc1, H1⟩ := (hA.below hb).get hq
      obtain ⟨q, hqe⟩ : ∃ q, q = k / s := ⟨_, rfl⟩
      obtain ⟨r, hre⟩ : ∃ r, r = k % s := ⟨_, rfl⟩
      rw [← hqe] at hq hc1 H1
      rw [← hre] at hr
      have hqi : (k : Int) / (s : Int) = (q : Int) := by rw [hqe]; simp
      have hri : (k : Int) % (s : Int) = (r : Int) := by rw [hre]; simp
      have HQ := hid hqe
      have HR := hid hre
      clear hqe hre
      have hpos : (0 : Int) ≤ k := by omega
      have hlt' : (k : Int) < S.length := by omega
      have hs1 : (1 : Int) ≤ s := by omega
      go_wp2
      have hs0 : ¬ s = 0 := by omega
      have hwq : IntKind.i64.wrap (q : Int) = (q : Int) := IntWalk.i64_in _ (by omega)
      have hti : (k : Int).tmod (s : Int) = (r : Int) := by rw [Int.tmod_eq_emod_of_nonneg (by omega)]; exact hri
      have hwr : IntKind.i64.wrap (r : Int) = (r : Int) := IntWalk.i64_in _ (by omega)
      have hq0 : (0 : Int) ≤ q := by omega
      have hq1 : (q : Int) < l.length := by omega
      obtain ⟨P, hP⟩ : ∃ P, P = 8 * plc hi r s := ⟨_, rfl⟩
      have HP := hid hP
      have hP1 : (P : Int) ≤ 64 := by unfold plc at hP; split at hP <;> omega
      have hP0 : (0 : Int) ≤ P := by omega
      clear hP
      go_still_tail 16, (by kernel_rfl)
      still_call (shift_any hi r s P _ HP.out hr h8)
      repeat still_step
      refine wpStill_nil ?_
      obtain ⟨y, hy, hyf, _⟩ := hO.spot (j := k) (by rw [fillK_length]; exact hlt)
      change wpList _ _ _ _ _ wr.drew
      have hy1 : wr.drew.cell? ⟨w.heap.size, k, none⟩ = some (.int .u8 y) := hy
      have hyf1 : wr.drew.frozen? ⟨w.heap.size, k, none⟩ = false := hyf
      have hb1 : Below w.heap.size w wr.drew := hb.drew
      have hO1 := hO.drew
      clear hO hb hy hyf hc1
      generalize wr.drew = w2 at *
      go_wp2
      go_roundw
      case rel =>
        have hsk : S[k]? = some (x / 2 ^ P % 256) := by
          rw [HS.out, splitB_at hi s l (by have := HSl.out; omega), ← HQ.out, ← HR.out, HP.out]
          simp [List.getD, H1.out, dig]
        exact ⟨k + 1, by omega, by go_num, hb1.setCell (Nat.le_refl _) _, by have h := hO1.store k (x / 2 ^ P % 256); rw [fillK_set S hsk] at h; exact h⟩
      case measure => simp [intOf]; omega
    · go_wp2
      go_ret
      have e : k = S.length := by omega
      subst e
      rw [fillK_end] at hO
      exact ⟨_, _, S, rfl, Nat.le_refl _, HS, hO.fresh, hb⟩
/-- The greatest number of s bytes. -/
def grt (s : Nat) : Int := if s = 8 then 4611686018427387904 else 2 ^ (8 * s) - 1

set_option maxRecDepth 50000 in
theorem greatest_any (s : Nat) (w : World) (h1 : 1 ≤ s) (h8 : s ≤ 8) : Calls Tryd.prog 73 #[.int .i64 s] w fun e w' => e = .returned (.int .i64 (grt s)) ∧ w = w' := by
  have hs : s = 1 ∨ s = 2 ∨ s = 3 ∨ s = 4 ∨ s = 5 ∨ s = 6 ∨ s = 7 ∨ s = 8 := by omega
  rcases hs with rfl | rfl | rfl | rfl | rfl | rfl | rfl | rfl
  all_goals
    go_enter Tryd.func73, Tryd.ntmps73
    go_wp2
    go_ret
    exact ⟨by simp [grt], rfl⟩

/-- Does n fit into so many bytes? -/
def Fits (n s : Int) : Prop := 1 ≤ s ∧ s ≤ 8 ∧ 0 ≤ n ∧ n ≤ grt s.toNat

set_option maxRecDepth 50000 in
theorem grt_bd (s : Nat) (h1 : 1 ≤ s) (h8 : s ≤ 8) : 0 ≤ grt s ∧ grt s ≤ 4611686018427387904 := by
  have hs : s = 1 ∨ s = 2 ∨ s = 3 ∨ s = 4 ∨ s = 5 ∨ s = 6 ∨ s = 7 ∨ s = 8 := by omega
  rcases hs with rfl | rfl | rfl | rfl | rfl | rfl | rfl | rfl <;> simp [grt]

set_option maxRecDepth 50000 in
theorem split64_one (hi : Bool) (b : Nat) (s : Nat) (n : Int) (w : World) (h1 : 1 ≤ s) (h8 : s ≤ 8) (hb : b < w.heap.size) (hc : w.cell? ⟨b, 0, none⟩ = some (.int .u64 n)) :
    Calls Tryd.prog 74 #[.slice (some ⟨b, 0, none⟩) 1 1, .int .i64 s, .int .i64 (ordN hi)] w fun e w' => ∃ B d ys, e = .returned (.slice B ys.length d) ∧ ys.length ≤ d ∧ Hid (ys = splitB hi s [n]) ∧ NumsF w.heap.size w' .u8 B ys ∧ Below w.heap.size w w' :=
  split64c hi (some ⟨b, 0, none⟩) 1 s [n] w h1 h8 (by simp; omega) (fun _ => ⟨b, 0, rfl, hb, fun i hi => by
    have : i = 0 := by simpa using hi
    subst this
    exact hc⟩)

set_option maxRecDepth 50000 in
set_option maxHeartbeats 400000 in
theorem put_yes (hi : Bool) (n : Int) (s : Nat) (w : World) (h : Fits n s) :
    Calls Tryd.prog 63 #[.int .i64 n, .int .i64 s, .int .i64 (ordN hi)] w fun e w' => ∃ B d ys, e = .returned (.tuple #[.slice B ys.length d, .int .i64 0]) ∧ ys.length ≤ d ∧ Hid (ys = splitB hi s [n]) ∧ NumsF w.heap.size w' .u8 B ys ∧ Below w.heap.size w w' := by
  obtain ⟨h1, h8, h0, hg⟩ := h
  rw [Int.toNat_natCast] at hg
  have hgb := (grt_bd s (by omega) (by omega)).2
  have hwn : IntKind.u64.wrap n = n := IntWalk.u64_in _ (by omega)
  go_enter Tryd.func63, Tryd.ntmps63
  go_wp2_with (first | (go_at_call 73; refine (greatest_any s _ (by omega) (by omega)).mono ?_; rintro e w' ⟨rfl, rfl⟩) | (go_at_call 74; refine (split64_one hi _ s n _ (by omega) (by omega) (by simp) (by go_simp)).mono ?_; rintro e w' ⟨B, d, ys, rfl, hyd, HY, hN, hb⟩))
  go_ret2
  exact ⟨B, d, ys, rfl, hyd, HY, hN.less (by simp), ((Below.refl _ _).alloc (Nat.le_refl _) _).trans (hb.mono (by simp))⟩

/-- What the reference gives for a number from 0 to 2^62 and a size from 1 to 8. -/
def LowPost (n : Int) (s : Nat) (w : World) (e : Ending) (w' : World) : Prop :=
  (n / 2 ^ (8 * s) = 0 ∧ ∃ B d ys, e = .returned (.tuple #[.slice B ys.length d, .int .i64 0]) ∧ Hid (ys = splitB false s [n]) ∧ NumsF w.heap.size w' .u8 B ys ∧ Below w.heap.size w w') ∨
  (n / 2 ^ (8 * s) ≠ 0 ∧ e = .returned (.tuple #[.slice none 0 0, .int .i64 2]) ∧ Below w.heap.size w w')

set_option maxRecDepth 50000 in
theorem count_any (n s : Nat) (w : World) (h1 : 1 ≤ s) (h8 : s ≤ 8) (hf : Fits (n : Int) (s : Int)) :
    Calls Tryd.prog 33 #[.int .i64 n, .int .i64 s] w fun e w' => ∃ B d, e = .returned (.slice B s d) ∧ s ≤ d ∧ NumsF w.heap.size w' .u8 B (splitB true s [(n : Int)]) ∧ Below w.heap.size w w' := by
  have HL := hid (split_len true s n)
  suffices h : Calls Tryd.prog 49 #[.int .i64 n, .int .i64 s] w fun e w' => ∃ B d, e = .returned (.tuple #[.slice B s d, .int .i64 0]) ∧ s ≤ d ∧ NumsF w.heap.size w' .u8 B (splitB true s [(n : Int)]) ∧ Below w.heap.size w w' by
    go_enter Tryd.func33, Tryd.ntmps33
    go_wp2_with (go_at_call 49; refine h.mono ?_; rintro e w' ⟨B, d, rfl, hd, hN, hb⟩)
    go_ret
    exact ⟨B, d, rfl, hd, hN, hb⟩
  go_enter Tryd.func49, Tryd.ntmps49
  go_wp2_with (go_at_call 63; refine (put_yes true n s _ hf).mono ?_; rintro e w' ⟨B, d, ys, rfl, hyd, HY, hN, hb⟩)
  obtain ⟨m, hm⟩ : ∃ m, ys.length = m := ⟨_, rfl⟩
  have hy : ys = splitB true s [(n : Int)] := HY.out
  rw [hm] at hyd ⊢
  rw [hy, HL.out] at hm
  rw [hy] at hN
  subst hm
  go_wp2
  go_ret2
  exact ⟨B, d, rfl, hyd, hN, hb⟩
set_option maxRecDepth 50000 in
theorem fits1 {n : Nat} (h : n ≤ 64) : Fits (n : Int) ((1 : Nat) : Int) := by
  unfold Fits
  rw [Int.toNat_natCast]
  simp [grt]
  omega
set_option maxRecDepth 50000 in
theorem fits4 {n : Nat} (h : n ≤ 1000000) : Fits (n : Int) ((4 : Nat) : Int) := by
  unfold Fits
  rw [Int.toNat_natCast]
  simp [grt]
  omega
end Go.Proofs.YtkblmdakejmmhaaDoor

/- Parts that lie apart from the row that lists them; the text of a derived key, part by part. -/
namespace Go.Proofs.YtkblmdakejmmhaaDoor
open Go Go.RowKit

/-- Parts in memory, none of them in the row's own block. -/
def PKeep (w : World) (v : Value) (ps : List Part) : Prop := ∀ q ∈ ps, PartOk w q ∧ (0 < q.2.2.length → ∀ g o s, q.1 = some ⟨g, o, s⟩ → v.ownBlock ≠ some g)
section
variable {w w' : World} {v v' : Value} {ps qs : List Part}
set_option maxRecDepth 50000 in
theorem PKeep.stay (h : PKeep w v ps) (hb : Below w.heap.size w w') : PKeep w' v ps := fun q hq => ⟨(h q hq).1.below hb, (h q hq).2⟩
set_option maxRecDepth 50000 in
theorem PKeep.app (h : PKeep w v ps) (k : PKeep w v qs) : PKeep w v (ps ++ qs) := fun q hq => by
  rcases List.mem_append.1 hq with e | e
  · exact h q e
  · exact k q e
set_option maxRecDepth 50000 in
theorem PKeep.grew (h : PKeep w v ps) (hG : Grew w w' v v') : PKeep w' v' ps := fun q hq => by
  obtain ⟨⟨hN, hr⟩, hne⟩ := h q hq
  refine ⟨⟨fun hp => ?_, hr⟩, fun hp g o s e => ?_⟩
  · obtain ⟨b, off, e, hlt, hc⟩ := hN hp
    have hb := hne hp b off none e
    exact ⟨b, off, e, Nat.lt_of_lt_of_le hlt hG.1.size, fun i hi => (hG.cell (p := ⟨b, off + i, none⟩) hlt hb).trans (hc i hi)⟩
  · obtain ⟨b, off, e2, hlt, _⟩ := hN hp
    rw [e2] at e
    injection e with e
    injection e with e1 e3 e4
    subst e1
    rcases hG.2 with h2 | h2
    · rw [h2]
      exact hne hp b off none e2
    · exact fun h3 => by have := h2 b h3; omega
set_option maxRecDepth 50000 in
theorem PKeep.ok (h : PKeep w v ps) : ∀ q ∈ ps, PartOk w q := fun q hq => (h q hq).1
end
set_option maxRecDepth 50000 in
theorem pkeep_old {w w' : World} {D : Nat} {v : Value} {q : Part} (h : PartOk w q) (hb : Below w.heap.size w w') (hv : ∀ g, v.ownBlock = some g → D ≤ g) (hD : w.heap.size ≤ D) : PKeep w' v [q] := fun q' hq => by
  rw [List.mem_singleton.1 hq]
  refine ⟨h.below hb, fun hp g o s e h2 => ?_⟩
  obtain ⟨b, off, e2, hlt, _⟩ := h.1 hp
  rw [e2] at e
  injection e with e
  injection e with e1
  have := hv g h2
  omega
set_option maxRecDepth 50000 in
theorem pkeep_new {w : World} {D : Nat} {v : Value} {A : Option Addr} {d : Nat} {xs : List Int} (h : NumsF D w .u8 A xs) (hl : xs.length ≤ d) (h1 : xs.length ≤ 1000) (hb : HByt xs) (hv : ∀ g, v.ownBlock = some g → g < D) : PKeep w v [(A, d, xs)] := fun q' hq => by
  rw [List.mem_singleton.1 hq]
  refine ⟨⟨h.nums, hl, h1, hb⟩, fun hp g o s e h2 => ?_⟩
  obtain ⟨b, off, e2, hlo, _⟩ := h hp
  have e : A = some ⟨g, o, s⟩ := e
  rw [e2] at e
  injection e with e
  injection e with e1
  have := hv g h2
  omega
set_option maxRecDepth 50000 in
/-- A slice literal of two parts. -/
theorem parts_new2 (w : World) (q1 q2 : Part) (m1 m2 : Nat) (h1 : q1.2.2.length = m1) (h2 : q2.2.2.length = m2) : Parts (w.alloc (.cells #[.slice q1.1 m1 q1.2.1, .slice q2.1 m2 q2.2.1] 23)) (some ⟨w.heap.size, 0, none⟩) [q1, q2] := fun _ =>
  ⟨w.heap.size, 0, rfl, by simp, fun j q hj => by
    subst h1 h2
    rw [Nat.zero_add, World.cell?_alloc_new]
    have hj6 := (List.getElem?_eq_some_iff.1 hj).1
    have : j = 0 ∨ j = 1 := by simp at hj6; omega
    rcases this with rfl | rfl <;> (simp at hj; subst hj; rfl)⟩
set_option maxRecDepth 50000 in
theorem owns_new2 (w : World) (base : Nat) (q1 q2 : Part) (m1 m2 : Nat) (h1 : q1.2.2.length = m1) (h2 : q2.2.2.length = m2) (hb : base ≤ w.heap.size) : OwnsP (w.alloc (.cells #[.slice q1.1 m1 q1.2.1, .slice q2.1 m2 q2.2.1] 23)) base (.slice (some ⟨w.heap.size, 0, none⟩) 2 2) [q1, q2] := by
  subst h1 h2
  exact ⟨rfl, .inr ⟨w.heap.size, 2, _, rfl, hb, heap_alloc_new w _, Nat.le_refl _, by unfold maxLen; omega, rfl, rfl⟩⟩
/-- The text as far as k contexts. -/
def textK (lbl : List Int) (L : List (List Int)) (k : Nat) : List Int := splitB true 1 [(lbl.length : Int)] ++ lbl ++ ((L.take k).map ctxV).flatten
set_option maxRecDepth 50000 in
theorem textK_zero (lbl : List Int) (L : List (List Int)) : textK lbl L 0 = splitB true 1 [(lbl.length : Int)] ++ lbl := by simp [textK]
set_option maxRecDepth 50000 in
theorem textK_end (lbl : List Int) (L : List (List Int)) (k : Nat) (h : L.length ≤ k) : textK lbl L k = textV lbl L := by
  unfold textK textV
  rw [List.take_of_length_le h]
set_option maxRecDepth 50000 in
theorem textK_succ (lbl : List Int) (L : List (List Int)) {k : Nat} {c : List Int} (h : L[k]? = some c) : textK lbl L (k + 1) = textK lbl L k ++ ctxV c := by
  unfold textK
  rw [List.take_add_one, h]
  simp
set_option maxRecDepth 50000 in
theorem ctxV_len (c : List Int) : (ctxV c).length = 4 + c.length := by unfold ctxV; rw [List.length_append, split_len]
set_option maxRecDepth 50000 in
theorem flat_ctx_le (b : Nat) : ∀ L : List (List Int), (∀ c ∈ L, c.length ≤ b) → (L.map ctxV).flatten.length ≤ (4 + b) * L.length
  | [], _ => by simp
  | c :: L, h => by
    have h1 := flat_ctx_le b L fun c hc => h c (List.mem_cons_of_mem _ hc)
    have h2 := h c (List.mem_cons_self ..)
    rw [List.map_cons, List.flatten_cons, List.length_append, ctxV_len, List.length_cons, Nat.mul_add]
    omega
set_option maxRecDepth 50000 in
theorem textV_le {lbl : List Int} {L : List (List Int)} {b n : Nat} (h1 : lbl.length ≤ 64) (hL : L.length = n) (h : ∀ c ∈ L, c.length ≤ b) : (textV lbl L).length ≤ 65 + (4 + b) * n := by
  have := flat_ctx_le b L h
  unfold textV
  rw [List.length_append, List.length_append, split_len]
  rw [hL] at this
  omega
set_option maxRecDepth 50000 in
theorem flat_app (ps qs : List Part) : flat (ps ++ qs) = flat ps ++ flat qs := by
  unfold flat
  rw [List.map_append, List.flatten_append]
set_option maxRecDepth 50000 in
theorem flat_two (q1 q2 : Part) : flat [q1, q2] = q1.2.2 ++ q2.2.2 := by simp [flat]
end Go.Proofs.YtkblmdakejmmhaaDoor

/- Key: a derived key. -/
namespace Go.Proofs.YtkblmdakejmmhaaDoor
open Go Go.RowKit

set_option maxRecDepth 50000 in
/-- Two results: a row in memory, and a slot. -/
theorem results_rowV {P : Program} {fn : Func} {p s : Tmp} {ty : TypeId} (h : fn.results = #[.cell p ty, .tmp s]) (tmps : Array Value) (w : World) (b o : Nat) (hp : tmps.getD p undef = .pointer (some ⟨b, o, none⟩)) (v : Value) (hs : tmps.getD s undef = v)
    (cs : List Value) (d : TypeDesc) (hc : w.rangeAt b o cs) (hu : P.underlying ty = some d) (hd : d.isRow = true) (hi : (P.info? ty).map (·.size) = some cs.length) :
    (results fn tmps).run P w = .ok (.tuple #[.agg cs.toArray, v]) w := by
  simp only [results, h]
  have hp2 : tmps[p]?.getD undef = .pointer (some ⟨b, o, none⟩) := by rw [← hp]; simp
  have hs2 : tmps[s]?.getD undef = v := by rw [← hs]; simp
  simp [hp2, hs2, asAddr, run_loadVar_mid w b o ty cs d hc hu hd hi]
set_option maxRecDepth 50000 in
theorem builtV32 : Tryd.prog.built 22 [] = some (ints .u8 (hzeros 32)).toArray := by kernel_rfl
end Go.Proofs.YtkblmdakejmmhaaDoor

/- Key: the good case. -/
namespace Go.Proofs.YtkblmdakejmmhaaDoor
open Go Go.RowKit

set_option maxRecDepth 50000 in
set_option maxHeartbeats 4000000 in
theorem key_core (src r1 r2 : List Int) (A PA : Option Addr) (l c n pc z : Nat) (s : ByteArray) (cs : List Part) (w : World) (hT : TabsH w) (HK : Hid (src.length = l)) (h0 : 0 < l) (h1 : l ≤ 1000) (hlc : l ≤ c) (hkb : HByt src) (hA : Nums w .u8 A src) (hz : Hid (s.size = z)) (hz6 : z ≤ 64)
    (hP : Parts w PA cs) (hn : Hid (cs.length = n)) (hn6 : n ≤ 16) (hok : ∀ q ∈ cs, PartOk w q) (HR : Hid (tagV src (textV (strL s) (cs.map (·.2.2))) = r1 ++ r2)) (HRL : Hid ((r1 ++ r2).length = 64)) (H1 : Hid (r1.length = 32)) :
    Calls Tryd.prog 18 #[.slice A l c, .string s, .slice PA n pc] w fun e w' => e = .returned (.tuple #[.agg (ints .u8 r1).toArray, .int .i64 0]) ∧ Below w.heap.size w w' := by
  obtain ⟨z32, s32⟩ := zero_of_info infS32
  obtain ⟨z64, s64⟩ := zero_of_info infH
  have h6 := Rw.new w (ints .u8 (hzeros 32)) 22
  have hW := below_new w (.cells (ints .u8 (hzeros 32)).toArray 22)
  have hS : w.heap.size + 1 ≤ (w.alloc (.cells (ints .u8 (hzeros 32)).toArray 22)).heap.size := by simp
  have hl : ¬ (l : Int) = 0 := by omega
  have i1 : ¬ (64 : Int) < (z : Int) := by omega
  have i2 : ¬ (16 : Int) < (n : Int) := by omega
  have hzs : (s.size : Int) = (z : Int) := by rw [hz.out]
  have hcv : ∀ w : World, (convert 9 23 (.string s)).run Tryd.prog w = .ok (.slice (some ⟨w.heap.size, 0, none⟩) z (grownCap w s.size 0 5)) (Lib.bytesWorld w 5 s) := fun w => by
    have h := Lib.run_convert_string_bytes (P := Tryd.prog) w 9 23 5 s (u := .string) (by kernel_rfl) (by kernel_rfl) (by kernel_rfl)
    rw [h, hz.out]
  go_enter Tryd.func18, Tryd.ntmps18
  go_wp2_with (first
    | (go_at_call 31; generalize w.alloc (.cells (ints .u8 (hzeros 32)).toArray 22) = w0 at *
       refine (contains_no PA n pc cs _ (hP.below hW) hn (by omega) (fun q hq => (hok q hq).2.2.1)).mono ?_; rintro e w1 ⟨rfl, hb1⟩
       replace h6 := h6.next hb1
       replace hW := hW.trans (Below.mono hb1 hW.size)
       replace hS := Nat.le_trans hS hb1.size
       clear hb1)
    | (go_at_call 33; refine (count_any z 1 _ (by omega) (by omega) (fits1 hz6)).mono ?_; rintro e w2 ⟨B2, d2, rfl, hd2, hN2, hb2⟩))
  have h21 := hb2.trans (Below.mono (str_below w2 s) hb2.size)
  replace h6 := h6.next h21
  replace hW := hW.trans (Below.mono h21 hW.size)
  replace hS := Nat.le_trans hS h21.size
  have hP1 : PartOk (Lib.bytesWorld w2 5 s) (B2, d2, splitB true 1 [(z : Int)]) := ⟨hN2.nums.below (str_below w2 s), by show (splitB true 1 [(z : Int)]).length ≤ d2; rw [split_len]; exact hd2, by show (splitB true 1 [(z : Int)]).length ≤ 1000; rw [split_len]; omega, splitB_byt _ _ _⟩
  have hP2 : PartOk (Lib.bytesWorld w2 5 s) (some ⟨w2.heap.size, 0, none⟩, grownCap w2 s.size 0 5, strL s) := ⟨str_nums w2 s, by show (strL s).length ≤ _; rw [strL_len]; exact str_cap w2 s, by show (strL s).length ≤ 1000; rw [strL_len, hz.out]; omega, strL_byt s⟩
  clear h21 hN2 hd2 hb2
  generalize grownCap w2 s.size 0 5 = cap at *
  generalize Lib.bytesWorld w2 5 s = w3 at *
  have hO := owns_new2 w3 (w.heap.size + 1) (B2, d2, splitB true 1 [(z : Int)]) (some ⟨w2.heap.size, 0, none⟩, cap, strL s) 1 z (split_len _ _ _) (by show (strL s).length = z; rw [strL_len, hz.out]) hS
  have hb4 := below_new w3 (.cells #[.slice B2 1 d2, .slice (some ⟨w2.heap.size, 0, none⟩) z cap] 23)
  have hKp : PKeep (w3.alloc (.cells #[.slice B2 1 d2, .slice (some ⟨w2.heap.size, 0, none⟩) z cap] 23)) (.slice (some ⟨w3.heap.size, 0, none⟩) 2 2) [(B2, d2, splitB true 1 [(z : Int)]), (some ⟨w2.heap.size, 0, none⟩, cap, strL s)] :=
    PKeep.app (pkeep_old (D := w3.heap.size) (v := .slice (some ⟨w3.heap.size, 0, none⟩) 2 2) hP1 hb4 (fun g (e : some w3.heap.size = some g) => Nat.le_of_eq (Option.some.inj e)) (Nat.le_refl _)) (pkeep_old (D := w3.heap.size) (v := .slice (some ⟨w3.heap.size, 0, none⟩) 2 2) hP2 hb4 (fun g (e : some w3.heap.size = some g) => Nat.le_of_eq (Option.some.inj e)) (Nat.le_refl _))
  obtain ⟨ps0, hps⟩ : ∃ ps0 : List Part, ps0 = [(B2, d2, splitB true 1 [(z : Int)]), (some ⟨w2.heap.size, 0, none⟩, cap, strL s)] := ⟨_, rfl⟩
  obtain ⟨lbl, hlbl⟩ : ∃ lbl, lbl = strL s := ⟨_, rfl⟩
  obtain ⟨L, hL⟩ : ∃ L, L = cs.map (·.2.2) := ⟨_, rfl⟩
  have HF0 : Hid (flat ps0 = textK lbl L 0) := hid (by rw [hps, flat_two, textK_zero, hlbl, strL_len, hz.out])
  have HPL0 : Hid (ps0.length = 2 + 2 * 0) := hid (by rw [hps]; rfl)
  have hO0 : OwnsP (w3.alloc (.cells #[.slice B2 1 d2, .slice (some ⟨w2.heap.size, 0, none⟩) z cap] 23)) (w.heap.size + 1) (.slice (some ⟨w3.heap.size, 0, none⟩) 2 2) ps0 := by rw [hps]; exact hO
  rw [← hps] at hKp
  have HLL : Hid (L.length = n) := hid (by rw [hL, List.length_map, hn.out])
  have HLK : Hid (∀ (k : Nat) q, cs[k]? = some q → L[k]? = some q.2.2) := hid (fun k q h => by rw [hL, List.getElem?_map, h]; rfl)
  have HTL : Hid ((textV lbl L).length ≤ 90000) := hid (by
    have h := textV_le (lbl := lbl) (L := L) (b := 1000) (n := n) (by rw [hlbl, strL_len, hz.out]; exact hz6) HLL.out (fun c hc => by rw [hL] at hc; obtain ⟨q, hq, rfl⟩ := List.mem_map.1 hc; exact (hok q hq).2.2.1)
    omega)
  rw [← hlbl, ← hL] at HR
  replace h6 := h6.next hb4
  replace hW := hW.trans (Below.mono hb4 hW.size)
  replace hS := Nat.le_trans hS hb4.size
  clear hO hP1 hP2 hb4 hps hL hlbl hzs hcv
  generalize w3.alloc (.cells #[.slice B2 1 d2, .slice (some ⟨w2.heap.size, 0, none⟩) z cap] 23) = w4 at *
  generalize w3.heap.size = g4 at *
  have n1 : (n : Int) ≤ 16 := by omega
  go_loopw [8, 37] (fun v i wr => ∃ (k : Nat) (A8 : Option Addr) (m8 d8 : Nat) (ps : List Part), k ≤ n ∧ v = .slice A8 m8 d8 ∧ i = .int .i64 k ∧ OwnsP wr (w.heap.size + 1) (.slice A8 m8 d8) ps ∧ Hid (ps.length = 2 + 2 * k) ∧ PKeep wr (.slice A8 m8 d8) ps ∧ Hid (flat ps = textK lbl L k) ∧ Below w.heap.size w wr ∧ w.heap.size + 1 ≤ wr.heap.size ∧ Rw wr w.heap.size 0 (ints .u8 (hzeros 32))) (fun _ i _ => n - (intOf i).toNat)
  case atStart => exact ⟨0, _, _, _, ps0, Nat.zero_le _, rfl, rfl, hO0, HPL0, hKp, HF0, hW, hS, h6⟩
  case round =>
    clear hO0 HPL0 hKp HF0 hW hS h6
    obtain ⟨k, A8, m8, d8, ps, hk, rfl, rfl, hO, HPL, hKp, HF, hW, hS, h6⟩ := hrel
    by_cases hlt : k < n
    · obtain ⟨q, hq⟩ : ∃ q, cs[k]? = some q := ⟨cs[k]'(by rw [hn.out]; exact hlt), by simp [hn.out, hlt]⟩
      obtain ⟨g, off, rfl, hg, hc⟩ := hP (by rw [hn.out]; omega)
      have hck : _ = _ := (hW.cell (p := ⟨g, off + k, none⟩) hg).trans (hc k q hq)
      have hqo := hok q (List.mem_of_getElem? hq)
      have HQ := hid (textK_succ lbl L (HLK.out k q hq))
      have hql : q.2.2.length ≤ 1000 := hqo.2.2.1
      obtain ⟨ql, hqe⟩ : ∃ ql, q.2.2.length = ql := ⟨_, rfl⟩
      rw [hqe] at hck hql
      have HQL := hid hqe
      have k0 : (0 : Int) ≤ k := by omega
      have k1 : (k : Int) < n := by omega
      clear hqe hq hc
      go_wp2_with (first
        | (go_at_call 33; refine (count_any ql 4 _ (by omega) (by omega) (fits4 (by omega))).mono ?_; rintro e w5 ⟨B4, d4, rfl, hd4, hN4, hb4⟩
           have hb6 := below_new w5 (.cells #[.slice B4 4 d4, .slice q.1 ql q.2.1] 23)
           have hK5 := ((hKp.stay hb4).app ((pkeep_new (d := d4) hN4 (by rw [split_len]; exact hd4) (by rw [split_len]; omega) (splitB_byt _ _ _) (fun g e => (hO.lt g e).2)).app (pkeep_old (D := w.heap.size + 1) hqo (hW.trans (Below.mono hb4 hW.size)) (fun g e => (hO.lt g e).1) (by omega)))).stay hb6
           have hO5 := (hO.stay hb4).stay hb6
           have hQ5 := parts_new2 w5 (B4, d4, splitB true 4 [(ql : Int)]) q 4 ql (split_len _ _ _) HQL.out
           have hb56 := hb4.trans (Below.mono hb6 hb4.size)
           replace hS := Nat.le_trans hS hb56.size
           replace hW := hW.trans (Below.mono hb56 hW.size)
           replace h6 := h6.next hb56
           clear hO hKp hb4 hb6 hb56 hN4 hd4 hck)
        | (at_builtin; refine app_parts rfl (.tmp 41) (.tmp 46) rfl (w.heap.size + 1) A8 m8 d8 ps rfl hO5 (some ⟨w5.heap.size, 0, none⟩) 2 2 [(B4, d4, splitB true 4 [(ql : Int)]), q] rfl rfl hQ5 (by rw [HPL.out]; omega) hS ?_
           intro A9 n9 c9 w7 hO7 hG7
           have hK7 := hK5.grew hG7
           have hb7 : Below (w.heap.size + 1) _ w7 := hG7.below hS fun g e => (hO5.lt g e).1
           replace h6 := h6.same (hb7.block w.heap.size (by omega))
           replace hW := hW.trans (Below.mono hb7 (by omega))
           replace hS := Nat.le_trans hS hb7.size
           clear hO5 hK5 hQ5 hG7 hb7))
      go_roundw
      case rel => exact ⟨k + 1, A9, n9, c9, _, by omega, rfl, by go_num, hO7, hid (by rw [List.length_append, HPL.out]; show 2 + 2 * k + 2 = _; omega), hK7, hid (by rw [flat_app, flat_two, HF.out, HQ.out]; unfold ctxV; rw [HQL.out]), hW, hS, h6⟩
      case measure => simp [intOf]; omega
    · have e : k = n := by omega
      subst e
      have hm := hO.len
      rw [HPL.out] at hm
      subst hm
      have HF2 : Hid (flat ps = textV lbl L) := hid (by rw [HF.out, textK_end lbl L _ (by rw [HLL.out]; omega)])
      have hT8 : TabsH _ := hT.next hW
      have hA8 := hA.below hW
      have hP8 := hO.parts
      have hk8 := hKp.ok
      have harr : ∀ (W : World) (A : Option Addr), (Instr.arrayAt 22 (.slice A 32 64)).run Tryd.prog W = .ok (.pointer A) W := fun W A => run_arrayAt W 22 5 32 A 32 64 (by kernel_rfl) (Nat.le_refl _)
      clear hO hKp hlt HF
      go_wp2_with (first
        | (go_at_call 34; refine (vtag_any src (textV lbl L) (r1 ++ r2) A A8 l c _ d8 ps _ hT8 HK h1 hlc hkb hA8 hP8 hk8 HPL (by omega) HF2 HTL HR).mono ?_; rintro e w7 ⟨rfl, hb7⟩
           have R11 := (Rw.new w7 (ints .u8 (hzeros 64)) 64).roomA (us := ints .u8 (r1 ++ r2)) ((il HRL.out).trans (il (hz_len 64)).symm)
           have X11 := ((Rw.new w7 (ints .u8 (hzeros 64)) 64).storedA (us := ints .u8 (r1 ++ r2)) ((il HRL.out).trans (il (hz_len 64)).symm)).lo.range
           have hb8 := hb7.trans (Below.mono (Below.setCells (below_new w7 (.cells (ints .u8 (hzeros 64)).toArray 64)) (Nat.le_refl _) 0 (ints .u8 (r1 ++ r2)).toArray.toList) hb7.size)
           replace h6 := h6.next hb8
           replace hW := hW.trans (Below.mono hb8 hW.size)
           have R6 := h6.roomA (us := ints .u8 r1) ((il H1.out).trans (il (hz_len 32)).symm)
           have X6 := h6.storedA (us := ints .u8 r1) ((il H1.out).trans (il (hz_len 32)).symm)
           have hW2 := Below.setCells hW (g := w.heap.size) (Nat.le_refl _) 0 (ints .u8 r1).toArray.toList
           clear hb7 hb8 h6 hW hP8 hk8 hA8 hT8)
        | (with_reducible refine wpList_store_mid (op := ⟨none, .store 64 (.tmp 11) (.tmp 51), _, _, _, _⟩) rfl 64 (.tmp 11) (.tmp 51) rfl w7.heap.size 0 (ints .u8 (r1 ++ r2)).toArray rfl rfl R11 (szA infH (il HRL.out)) (ints_all _ _) ?_
           generalize (w7.alloc (.cells (ints .u8 (hzeros 64)).toArray 64)).setCells w7.heap.size 0 (ints .u8 (r1 ++ r2)).toArray.toList = w8 at *
           generalize w7.heap.size = b11 at *
           clear R11)
        | (with_reducible refine wpList_load_mid (op := ⟨some 54, .load 22 (.tmp 53), _, _, _, _⟩) rfl 22 (.tmp 53) rfl b11 0 rfl (ints .u8 r1) _ X11 Tryd.underlying22 rfl (szV infS32 (il H1.out)) ?_)
        | (with_reducible refine wpList_store_mid (op := ⟨none, .store 22 (.tmp 6) (.tmp 54), _, _, _, _⟩) rfl 22 (.tmp 6) (.tmp 54) rfl w.heap.size 0 (ints .u8 r1).toArray rfl rfl R6 (szA infS32 (il H1.out)) (ints_all _ _) ?_
           clear R6
           generalize w8.setCells w.heap.size 0 (ints .u8 r1).toArray.toList = w9 at *))
      exact bodyPost_ret (results_rowV rfl _ _ w.heap.size 0 rfl (.int .i64 0) rfl (ints .u8 r1) _ X6.range Tryd.underlying22 rfl (szV infS32 (il H1.out))) rfl ⟨rfl, hW2⟩
set_option maxRecDepth 50000 in
/-- A derived key. -/
theorem key_any (src : List Int) (A PA : Option Addr) (l c n pc : Nat) (s : ByteArray) (cs : List Part) (w : World) (hT : TabsH w) (HK : Hid (src.length = l)) (h0 : 0 < l) (h1 : l ≤ 1000) (hlc : l ≤ c) (hkb : HByt src) (hA : Nums w .u8 A src) (hz6 : s.size ≤ 64)
    (hP : Parts w PA cs) (hn : Hid (cs.length = n)) (hn6 : n ≤ 16) (hok : ∀ q ∈ cs, PartOk w q) :
    Calls Tryd.prog 18 #[.slice A l c, .string s, .slice PA n pc] w fun e w' => e = .returned (.tuple #[.agg (ints .u8 (keyD src (strL s) (cs.map (·.2.2)))).toArray, .int .i64 0]) ∧ Below w.heap.size w w' := by
  obtain ⟨t, ht⟩ : ∃ t, t = tagV src (textV (strL s) (cs.map (·.2.2))) := ⟨_, rfl⟩
  have e : keyD src (strL s) (cs.map (·.2.2)) = t.take 32 := by rw [ht]; unfold keyD; rfl
  have hl : t.length = 64 := by rw [ht]; exact tagV_len _ _
  have h32 : (t.take 32).length = 32 := by rw [List.length_take, hl]; rfl
  have h2 : t.take 32 ++ t.drop 32 = t := List.take_append_drop 32 t
  have h3 : (t.take 32 ++ t.drop 32).length = 64 := by rw [h2, hl]
  have h4 : tagV src (textV (strL s) (cs.map (·.2.2))) = t.take 32 ++ t.drop 32 := by rw [h2, ht]
  rw [e]
  clear e ht h2
  generalize t.take 32 = r1 at *
  generalize t.drop 32 = r2 at *
  exact key_core src r1 r2 A PA l c n pc s.size s cs w hT HK h0 h1 hlc hkb hA (hid rfl) hz6 hP hn hn6 hok (hid h4) (hid h3) (hid h32)
end Go.Proofs.YtkblmdakejmmhaaDoor
