/- Texts of this proof, laid together: UWord, MApp, MCopy. -/
import Derived.Test.YtpncohoonfahpaaGreatDoorG1
import Derived.Test.YtpncohoonfahpaaGreatDoorG9
import Derived.Test.YtpncohoonfahpaaGreatDoorMRowM
import Derived.Laws.IdiomCopy
/- Numbers of eight bytes: Put and Get; what represents a term. -/
namespace Go.Proofs.YtpncohoonfahpaaGreatDoor
open Go Go.RowKit

/-- The number of l bytes that give v, and why there is none. -/
def gnum (l : Nat) (v : Int) : Int := if l = 0 then 0 else if 8 < l then 0 else if 4611686018427387904 < v then 0 else v
def gerr (l : Nat) (v : Int) : Int := if l = 0 then 10 else if 8 < l then 2 else if 4611686018427387904 < v then 11 else 0
def bval (hi : Bool) (b : List Int) : Int := if hi then hiv b else hiv b.reverse

set_option maxRecDepth 50000 in
theorem bval_pval (hi : Bool) (b : List Int) : pval hi b.length b b.length = bval hi b := by
  cases hi <;> simp [pval, bval]
set_option maxRecDepth 50000 in
theorem bval_bd (hi : Bool) (b : List Int) (h : HByt b) : 0 ≤ bval hi b ∧ bval hi b < 2 ^ (8 * b.length) := by
  have := hiv_bd b h
  have h2 := hiv_bd _ h.rev
  rw [List.length_reverse] at h2
  cases hi <;> simp [bval] <;> omega
set_option maxRecDepth 50000 in
theorem chunk_whole (b : List Int) : chunk b.length b 0 = b := by simp [chunk]

def GetPost (hi : Bool) (b : List Int) (w : World) (e : Ending) (w' : World) : Prop :=
  e = .returned (.tuple #[.int .i64 (gnum b.length (bval hi b)), .int .i64 (gerr b.length (bval hi b))]) ∧ Below w.heap.size w w'

set_option maxRecDepth 50000 in
theorem join64_one (hi : Bool) (A : Option Addr) (c : Nat) (b : List Int) (w : World) (h1 : 1 ≤ b.length) (h8 : b.length ≤ 8) (hby : HByt b) (hA : Nums w .u8 A b) :
    Calls Tryz.prog 200 #[.slice A b.length c, .int .i64 b.length, .int .i64 (ordN hi)] w fun e w' => ∃ g off d v, e = .returned (.slice (some ⟨g, off, none⟩) 1 d) ∧ Hid (v = bval hi b) ∧ w'.cell? ⟨g, off, none⟩ = some (.int .u64 v) ∧ 0 ≤ v ∧ v < 18446744073709551616 ∧ Below w.heap.size w w' := by
  refine (join64 hi A c b.length b w h1 h8 (by omega) (Nat.mod_self _) hby hA).mono fun e w' ⟨B, d, ys, he, hy, hN, hb⟩ => ?_
  have hl : ys.length = 1 := by rw [hy.out, joinB_length]; exact Nat.div_self (by omega)
  have h0 : ys[0]? = some (bval hi b) := by
    rw [hy.out, joinB_at _ _ _ (by rw [Nat.div_self (by omega)]; omega), chunk_whole, bval_pval]
  obtain ⟨g, off, x, rfl, _, hc, hx⟩ := hN.get (i := 0) (by omega)
  have hxe : x = bval hi b := by have := hx.out.symm.trans h0; injection this
  have hbd := bval_bd hi b hby
  have hp := pow_mono2 (a := 8 * b.length) (b := 64) (by omega)
  exact ⟨g, off, d, x, by rw [he, hl], hid hxe, hc, by omega, by omega, hb⟩

set_option maxRecDepth 50000 in
set_option maxHeartbeats 400000 in
theorem get_any (hi : Bool) (A : Option Addr) (c : Nat) (b : List Int) (w : World) (hn : b.length ≤ 4096) (hby : HByt b) (hA : Nums w .u8 A b) :
    Calls Tryz.prog 149 #[.slice A b.length c, .int .i64 (ordN hi)] w (GetPost hi b w) := by
  by_cases c1 : b.length = 0
  · have hg : GetPost hi b w (.returned (.tuple #[.int .i64 0, .int .i64 10])) w := ⟨by simp [gnum, gerr, c1], Below.refl _ _⟩
    have HG := hid hg
    clear hg
    go_enter Tryz.func149, Tryz.ntmps149
    go_wp2
    go_ret2
    exact HG.out
  by_cases c2 : 8 < b.length
  · have hg : GetPost hi b w (.returned (.tuple #[.int .i64 0, .int .i64 2])) w := ⟨by simp [gnum, gerr, c1, c2], Below.refl _ _⟩
    have HG := hid hg
    clear hg
    go_enter Tryz.func149, Tryz.ntmps149
    go_wp2
    go_ret2
    exact HG.out
  have hp : (0 : Int) < b.length := by omega
  have hq : (b.length : Int) ≤ 8 := by omega
  have hr : ((b.length : Int) == 0) = false := by rw [beq_eq_false_iff_ne]; omega
  go_enter Tryz.func149, Tryz.ntmps149
  go_wp2_with (go_at_call 200; refine (join64_one hi A c b _ (by omega) (by omega) hby hA).mono ?_; rintro e w' ⟨g, off, d, v, rfl, HV, hc, hv0, hv1, hb⟩)
  · have hgt : 4611686018427387904 < v := by assumption
    go_ret2
    refine ⟨?_, hb⟩
    rw [← HV.out]
    simp only [gnum, gerr, c1, c2, hgt, if_true, if_false]
    rfl
  · have hle : ¬ 4611686018427387904 < v := by omega
    go_ret2
    refine ⟨?_, hb⟩
    rw [← HV.out]
    simp only [gnum, gerr, c1, c2, hle, if_false]
    rfl


set_option maxRecDepth 50000 in
theorem wGet_any (A : Option Addr) (c : Nat) (b : List Int) (w : World) (hn : b.length ≤ 4096) (hby : HByt b) (hA : Nums w .u8 A b) : Calls Tryz.prog 93 #[.slice A b.length c] w (GetPost true b w) := by
  go_enter Tryz.func93, Tryz.ntmps93
  go_wp2_with (go_at_call 149; refine (get_any true A c b _ hn hby hA).mono ?_; rintro e w' ⟨rfl, hb⟩)
  go_ret2
  exact ⟨rfl, hb⟩
set_option maxRecDepth 50000 in
theorem wput_any (n s : Nat) (w : World) (h1 : 1 ≤ s) (h8 : s ≤ 8) (hf : Fits (n : Int) (s : Int)) :
    Calls Tryz.prog 97 #[.int .i64 n, .int .i64 s] w fun e w' => ∃ B d, e = .returned (.tuple #[.slice B s d, .int .i64 0]) ∧ s ≤ d ∧ NumsF w.heap.size w' .u8 B (splitB true s [(n : Int)]) ∧ Below w.heap.size w w' := by
  have HL := hid (split_len true s n)
  go_enter Tryz.func97, Tryz.ntmps97
  go_wp2_with (go_at_call 150; refine (put_yes true n s _ hf).mono ?_; rintro e w' ⟨B, d, ys, rfl, hyd, HY, hN, hb⟩)
  obtain ⟨m, hm⟩ : ∃ m, ys.length = m := ⟨_, rfl⟩
  have hy : ys = splitB true s [(n : Int)] := HY.out
  rw [hm] at hyd ⊢
  rw [hy, HL.out] at hm
  rw [hy] at hN
  subst hm
  go_wp2
  go_ret2
  exact ⟨B, d, rfl, hyd, hN, hb⟩

/-- What represents the term of a number. -/
def valL (n : Nat) : List Int := 247 :: splitB true 8 [(n : Int)]
set_option maxRecDepth 50000 in
theorem valL_len (n : Nat) : (valL n).length = 9 := by rw [valL, List.length_cons, split_len]
set_option maxRecDepth 50000 in
theorem valL_byt (n : Nat) : HByt (valL n) := fun x hx => by
  rcases List.mem_cons.1 hx with rfl | h
  · exact ⟨by omega, by omega⟩
  · exact splitB_byt _ _ _ x h
set_option maxRecDepth 50000 in
theorem fits8 {n : Nat} (h : n ≤ 100000) : Fits (n : Int) ((8 : Nat) : Int) := by
  unfold Fits
  rw [Int.toNat_natCast]
  simp [grt]
  omega
set_option maxRecDepth 50000 in
theorem get8 {n : Nat} (h : n ≤ 100000) : gnum (splitB true 8 [(n : Int)]).length (bval true (splitB true 8 [(n : Int)])) = n ∧ gerr (splitB true 8 [(n : Int)]).length (bval true (splitB true 8 [(n : Int)])) = 0 := by
  have hv : bval true (splitB true 8 [(n : Int)]) = n := by
    simp only [bval, if_true]
    exact hiv_split 8 n (by omega) (by simp; omega)
  have a : ¬ (4611686018427387904 : Int) < n := by omega
  rw [hv, split_len]
  refine ⟨?_, ?_⟩
  · simp only [gnum]; rw [if_neg (by decide), if_neg (by decide), if_neg a]
  · simp only [gerr]; rw [if_neg (by decide), if_neg (by decide), if_neg a]
set_option maxRecDepth 50000 in
/-- The number in eight bytes. -/
theorem get8_any (n c : Nat) (A : Option Addr) (w : World) (h : n ≤ 100000) (hA : Nums w .u8 A (splitB true 8 [(n : Int)])) :
    Calls Tryz.prog 93 #[.slice A 8 c] w fun e w' => e = .returned (.tuple #[.int .i64 n, .int .i64 0]) ∧ Below w.heap.size w w' := by
  have h1 := wGet_any A c (splitB true 8 [(n : Int)]) w (by rw [split_len]; omega) (splitB_byt _ _ _) hA
  rw [split_len] at h1
  refine h1.mono fun e w' ⟨he, hb⟩ => ⟨?_, hb⟩
  have h2 := get8 h
  rw [split_len] at h2
  rw [he, split_len, h2.1, h2.2]
end Go.Proofs.YtpncohoonfahpaaGreatDoor

/- A slice without room is appended to; a slice as an array. No program is named. -/
namespace Go.Proofs.YtpncohoonfahpaaGreatDoor
open Go Go.RowKit

/-- A slice of known cells, from a block's beginning on. -/
def IsSlV (m : Nat) (vs : List Value) : Value → World → Prop := fun v w => ∃ b c, v = .slice (some ⟨b, 0, none⟩) m c ∧ m ≤ c ∧ Rw w b 0 vs
theorem IsSlV.grows (m : Nat) (vs : List Value) : Grows (IsSlV m vs) := fun _ _ _ ⟨b, c, h1, h0, h2⟩ hb => ⟨b, c, h1, h0, h2.next hb⟩
/-- A pointer to known cells. -/
def IsPt (vs : List Value) : Value → World → Prop := fun v w => ∃ b f, v = .pointer (some ⟨b, f, none⟩) ∧ Rw w b f vs
theorem IsPt.grows (vs : List Value) : Grows (IsPt vs) := fun _ _ _ ⟨b, f, h1, h2⟩ hb => ⟨b, f, h1, h2.next hb⟩
section
variable {P : Program} {ops : Array Oper} {md : Region.Mode} {W : World} {a0 : Act} {n : Nat} {al : Nat → Bool} {S : Nat → Value → World → Prop} {Q : Exit → Act → World → Prop} {i : Nat} {o : Oper}
theorem step_arrW (hal : al i = false) (hg : GuardOn ops md n S i o) {T e k m : Nat} {vs : List Value} (hT : P.underlying T = some (.array k e)) (hk : k ≤ m) {x : Operand} (ho : o.op = .sliceToArrayPointer T x) (hS : S i = IsPt vs) (hx : KnowsW ops md W a0 n S i x (IsSlV m vs)) : StepOk P ops md W a0 n al S Q i o :=
  step_run hal hg fun a w hw hf hd => by
    obtain ⟨b, c, h1, h0, h2⟩ := hx a w hw hf hd
    refine ⟨.pointer (some ⟨b, 0, none⟩), ?_, by rw [hS]; exact ⟨b, 0, rfl, h2⟩⟩
    exact ex_arrP hT hk ho a.eval w h1 (fun _ => rfl)
theorem step_ldP (hal : al i = false) (hg : GuardOn ops md n S i o) {T : TypeId} {x : Operand} {vs : List Value} {d : TypeDesc} (ho : o.op = .load T x) (hU : P.underlying T = some d) (hR : d.isRow = true) (hs : (P.info? T).map (·.size) = some vs.length) (hS : S i = Is (.agg vs.toArray)) (hx : KnowsW ops md W a0 n S i x (IsPt vs)) : StepOk P ops md W a0 n al S Q i o :=
  step_ldW hal hg ho hU hR hs hS (hx.and fun _ _ _ ⟨b, f, h1, h2⟩ => ⟨b, f, h1, h2.range⟩)
theorem app_full {w : World} {t ty e : TypeId} {k : IntKind} {bytes : Nat} (ht : P.underlying t = some (.slice e)) (hinf : (P.info? e).map (fun i => (i.zero, i.size, i.bytes)) = some (some (.int k 0), 1, bytes)) {b f m l c : Nat} {B : Option Addr} {xs ys : List Int}
    (hm : xs.length = m) (hl : ys.length = l) (hp : 0 < l) (hxs : Nums w k (some ⟨b, f, none⟩) xs) (hm0 : 0 < m) (hys : Nums w k B ys) (h63 : (m + l) * bytes ≤ 140737488355328) (hbt : 0 < bytes) :
    ∃ c' w', (Builtin.append_ #[t, t] ty #[.slice (some ⟨b, f, none⟩) m m, .slice B l c]).run P w = .ok (.slice (some ⟨w.heap.size, 0, none⟩) (m + l) c') w' ∧ m + l ≤ c' ∧ Rw w' w.heap.size 0 (ints k (xs ++ ys)) ∧ Below w.heap.size w w' ∧ w.heap.size < w'.heap.size := by
  obtain ⟨i, hi, hz, hsize, hby⟩ := info_parts hinf
  subst hm hl
  have hmx : xs.length + ys.length ≤ maxLen := by
    have : xs.length + ys.length ≤ (xs.length + ys.length) * bytes := Nat.le_mul_of_pos_right _ hbt
    unfold maxLen; omega
  obtain ⟨bb, ff, hB, hlt, hc⟩ := hys hp
  obtain ⟨b2, f2, e2, hlt2, hc2⟩ := hxs hm0
  injection e2 with e2
  injection e2 with e2 e3
  subst e2 e3
  subst hB
  have hrun := run_append_grow (P := P) w t ty e i (.int k 0) ht hi hz ⟨b, f, none⟩ xs.length xs.length (xs.map (Value.int k)) (by rw [hsize]; simp) (fun j v hv => by
      rw [List.getElem?_map, Option.map_eq_some_iff] at hv
      obtain ⟨x, hx, rfl⟩ := hv
      have hj := (List.getElem?_eq_some_iff.1 hx).1
      rw [Addr.add_mid, hc2 j hj, List.getD_eq_getElem?_getD, hx]; rfl) ⟨bb, ff, none⟩ ys.length c (ys.map (Value.int k)) (by rw [hsize]; simp) (fun j v hv => by
      rw [List.getElem?_map, Option.map_eq_some_iff] at hv
      obtain ⟨x, hx, rfl⟩ := hv
      have hj := (List.getElem?_eq_some_iff.1 hx).1
      rw [Addr.add_mid, hc j hj, List.getD_eq_getElem?_getD, hx]; rfl) (by omega) (by simp only [maxLen] at hmx; omega) (by rw [hby]; exact growslice_fits (by omega) h63)
  refine ⟨_, _, hrun, grownCap_ge _ _ _ _, ?_, ((Below.refl _ _).drew).alloc (Nat.le_refl _) _, by simp⟩
  intro j v hv
  rw [Nat.zero_add]
  have h1 := World.cell?_alloc_new (w := w.drew) ((xs.map (Value.int k)).toArray ++ (ys.map (Value.int k)).toArray ++ Builtin.zeroCells (Value.int k 0).cells (grownCap w (xs.length + ys.length) xs.length e - (xs.length + ys.length))) e j
  have h2 := World.frozen?_alloc_new (w := w.drew) ((xs.map (Value.int k)).toArray ++ (ys.map (Value.int k)).toArray ++ Builtin.zeroCells (Value.int k 0).cells (grownCap w (xs.length + ys.length) xs.length e - (xs.length + ys.length))) e j
  refine ⟨h1.trans ?_, h2⟩
  have hj := (List.getElem?_eq_some_iff.1 hv).1
  rw [ints_length, List.length_append] at hj
  rw [Array.getElem?_append_left (by simp; omega), ← hv]
  simp [ints]
/-- Numbers are appended to a slice that has no room. -/
theorem step_appF (hg : GuardOn ops md n S i o) {s x : Operand} {t e : TypeId} {k : IntKind} {bytes : Nat} (ho : o.op = .call { callee := .builtin .append, args := #[s, x], argTypes := #[t, t] }) (ht : P.underlying t = some (.slice e)) (hinf : (P.info? e).map (fun i => (i.zero, i.size, i.bytes)) = some (some (.int k 0), 1, bytes)) {b f m l c q : Nat} {B : Option Addr} {xs ys : List Int}
    (hm : xs.length = m) (hl : ys.length = l) (hm0 : 0 < m) (hp : 0 < l) (hxs : ∀ w, Cl W w → Nums w k (some ⟨b, f, none⟩) xs) (hys : ∀ w, Cl W w → Nums w k B ys) (h63 : (m + l) * bytes ≤ 140737488355328) (hbt : 0 < bytes) (hq : m + l = q) (hS : S i = IsSlV q (ints k (xs ++ ys)))
    (h1 : Knows ops md W a0 n S i s (.slice (some ⟨b, f, none⟩) m m)) (h2 : Knows ops md W a0 n S i x (.slice B l c)) : StepOk P ops md W a0 n al S Q i o := fun a w hw hf hd => by
  rw [if_pos (hg.wanted hd)]
  subst hq
  obtain ⟨c', w', hrun, hc', hR, hb, hlt⟩ := app_full (w := w) (ty := o.type) (c := c) ht hinf hm hl hp (hxs w hw) hm0 (hys w hw) h63 hbt
  have e1 := h1 a w hw hf hd
  have e2 := h2 a w hw hf hd
  unfold Oper.wp execOp
  simp only [ho, resolve, invoke, builtin, Sem.run_bind, Sem.run_pure, Result.andThen_ok, List.map_toArray, List.map_cons, List.map_nil, e1, e2, hrun]
  exact ⟨_, rfl, by rw [hS]; exact ⟨_, c', rfl, hc', hR⟩, hb, fun _ => ⟨_, rfl, Nat.le_refl _, hlt⟩⟩
end
end Go.Proofs.YtpncohoonfahpaaGreatDoor

/- Numbers are copied into a row that may be written; operands that are slices of numbers. No program is named. -/
namespace Go.Proofs.YtpncohoonfahpaaGreatDoor
open Go Go.RowKit

theorem wpList_copyR {P : Program} {w : World} {ops : Array Oper} {rest : List Oper} {o : Oper} {a : Act} {Q : Exit → Act → World → Prop} (hgd : o.guard = none) (d s : Operand) (dT sT : TypeId) (ho : o.op = .call { callee := .builtin .copy, args := #[d, s], argTypes := #[dT, sT] }) {elem : TypeId} (hu : P.underlying dT = some (.slice elem)) (hs : (P.info? elem).map (·.size) = some 1)
    {b f m c c' : Nat} {A : Option Addr} {k : IntKind} {old : List Value} {xs : List Int} (hd : a.eval d = .slice (some ⟨b, f, none⟩) m c) (hsl : a.eval s = .slice A m c') (hR : Rw w b f old) (hl : old.length = m) (hx : xs.length = m) (hp : 0 < m) (hX : Nums w k A xs)
    (h : wpList P ops Q rest (a.put o.dst (.int .i64 (m : Int))) (w.setCells b f (ints k xs).toArray.toList)) : wpList P ops Q (o :: rest) a w := by
  obtain ⟨b2, f2, hA, hlt, hc⟩ := hX (by omega)
  subst hA
  have ht := hR.there
  have hrun := run_copy_cells (P := P) w dT sT o.type elem b f m c ⟨b2, f2, none⟩ m c' (ints k xs) hu hs (by rw [ints_length, hx]; exact (Nat.min_self m).symm) (fun j v hv => by
    simp only [ints, List.getElem?_map, Option.map_eq_some_iff] at hv
    obtain ⟨x, hxx, rfl⟩ := hv
    have hj := (List.getElem?_eq_some_iff.1 hxx).1
    rw [Addr.add_mid, hc j hj, List.getD_eq_getElem?_getD, hxx]; rfl) (fun j hj => (ht j (by rw [ints_length] at hj; omega)).1) (fun j hj => (ht j (by rw [ints_length] at hj; omega)).2) (ints_one k xs)
  rw [ints_length, hx] at hrun
  refine wpList_plain hgd fun K hK => ?_
  unfold Oper.wp execOp
  simp only [ho, resolve, invoke, builtin, Sem.run_bind, Sem.run_pure, Result.andThen_ok, List.map_toArray, List.map_cons, List.map_nil, hd, hsl, hrun]
  exact hK _ _ h
section
variable {P : Program} {ops : Array Oper} {md : Region.Mode} {W : World} {a0 : Act} {n : Nat} {S : Nat → Value → World → Prop} {i : Nat}
theorem Knows.nm {x : Operand} {A : Option Addr} {m c : Nat} {k : IntKind} {ys : List Int} (h : Knows ops md W a0 n S i x (.slice A m c)) (hl : ys.length = m) (hN : ∀ w, Cl W w → Nums w k A ys) : KnowsW ops md W a0 n S i x (fun v w => ∃ B c, v = .slice B ys.length c ∧ Nums w k B ys) := fun a w hw hf hd => ⟨A, c, by rw [h a w hw hf hd, hl], hN w hw⟩
end
end Go.Proofs.YtpncohoonfahpaaGreatDoor
