/- Of the layers before: PRef0. -/
import Derived.Test.YthohfhloobmlpaaPMul
import Derived.Test.YthohfhloobmlpaaApp
import Derived.Test.YthohfhloobmlpaaDigMath
import Derived.Laws.OwnMore
import Derived.Lib.Hide
namespace Go.Proofs.Ythohfhloobmlpaa
open Go Go.RowKit

/-- The number that digits make, each of any size. -/
def ev : List Int → Int
  | [] => 0
  | a :: l => a + 65536 * ev l
theorem ev_nl (l : List Nat) : ev (nl l) = (dv l : Int) := by
  induction l with
  | nil => rfl
  | cons a l ih => simp only [nl, List.map_cons, ev, dv] at ih ⊢; rw [ih]; omega
def Q : Int := 57896044618658097711785492504343953926634992332820282019728792003956564819968
def P : Int := 57896044618658097711785492504343953926634992332820282019728792003956564819949
theorem Try.info3 : (Try.prog.info? 3).map (fun i => (i.zero, i.size, i.bytes)) = some (some (.int .i64 0), 1, 8) := by kernel_rfl
theorem Owns.block {w : World} {base : Nat} {e : TypeId} {k : IntKind} {A : Option Addr} {n c : Nat} {xs : List Int} (h : Owns w base e k (.slice A n c) xs) (hp : 0 < xs.length) : ∃ g, A = some ⟨g, 0, none⟩ ∧ base ≤ g := by
  rcases h.2 with ⟨hv, hn⟩ | ⟨g, cap, cur, hv, hg, _⟩
  · omega
  · injection hv with h1 h2 h3
    exact ⟨g, h1, hg⟩
theorem drop_step {l : List Nat} {i : Nat} (h : i < l.length) : l.drop i = l.getD i 0 :: l.drop (i + 1) := by
  rw [List.drop_eq_getElem_cons h]
  simp [h]
theorem dv_cut {l : List Nat} {i : Nat} (h : i < l.length) : dv l = dv (l.take i) + 65536 ^ i * (l.getD i 0 + 65536 * dv (l.drop (i + 1))) := by
  rw [dv_split l i (by omega), drop_step h, dv]
theorem cmp_at {l m : List Nat} {i : Nat} (hl : Digs l) (hm : Digs m) (h1 : i < l.length) (h2 : i < m.length) (he : l.drop (i + 1) = m.drop (i + 1)) (hne : l.getD i 0 ≠ m.getD i 0) : (dv m ≤ dv l ↔ m.getD i 0 < l.getD i 0) := by
  rw [dv_cut h1, dv_cut h2, he]
  have t1 := dv_lt (l.take i) (fun v hv => hl v (List.mem_of_mem_take hv))
  have t2 := dv_lt (m.take i) (fun v hv => hm v (List.mem_of_mem_take hv))
  rw [List.length_take, Nat.min_eq_left (by omega)] at t1 t2
  generalize l.getD i 0 = x at *
  generalize m.getD i 0 = y at *
  generalize dv (l.take i) = a at *
  generalize dv (m.take i) = b at *
  generalize 65536 * dv (m.drop (i + 1)) = D at *
  generalize 65536 ^ i = P at *
  constructor
  · intro h
    refine Nat.lt_of_not_le fun hle => ?_
    have : P * (x + D + 1) ≤ P * (y + D) := Nat.mul_le_mul_left _ (by omega)
    rw [Nat.mul_add] at this
    omega
  · intro h
    have : P * (y + D + 1) ≤ P * (x + D) := Nat.mul_le_mul_left _ (by omega)
    rw [Nat.mul_add] at this
    omega
theorem Nums.num {w : World} {k : IntKind} {A : Option Addr} {xs : List Int} (h : Nums w k A xs) (hp : 0 < xs.length) : ∃ g o, A = some ⟨g, o, none⟩ ∧ g < w.heap.size ∧ ∀ (i : Nat) x, xs[i]? = some x → w.cell? ⟨g, o + i, none⟩ = some (.int k x) := by
  obtain ⟨b, off, e, hlt, hc⟩ := h hp
  refine ⟨b, off, e, hlt, fun i x hx => ?_⟩
  obtain ⟨hi, hxe⟩ := List.getElem?_eq_some_iff.1 hx
  rw [hc i hi]
  simp [List.getD, hx]
/-- The same world behind some draws. -/
def Drawn (w w' : World) : Prop := ∃ n, w' = w.drewN n
theorem Drawn.refl (w : World) : Drawn w w := ⟨0, rfl⟩
theorem Drawn.more {w w' : World} (h : Drawn w w') (n : Nat) : Drawn w (w'.drewN n) := by
  obtain ⟨m, rfl⟩ := h
  exact ⟨m + n, by simp⟩
theorem Drawn.cell {w w' : World} (h : Drawn w w') {p : Addr} {v : Option Value} (hc : w.cell? p = v) : w'.cell? p = v := by
  obtain ⟨m, rfl⟩ := h
  exact hc
theorem Drawn.below {w w' : World} (h : Drawn w w') : Below w.heap.size w w' := by
  obtain ⟨m, rfl⟩ := h
  exact below_drewN (Below.refl _ _) m
theorem Nums.drewN {w : World} {k : IntKind} {A : Option Addr} {xs : List Int} (h : Nums w k A xs) (n : Nat) : Nums (w.drewN n) k A xs := h
set_option maxRecDepth 4000 in
set_option maxHeartbeats 1000000 in
theorem al_any (A B : Option Addr) (cA cB L : Nat) (l m : List Nat) (w : World) (hl : l.length = L) (hm : m.length = L) (hn : L ≤ 1000) (dl : Digs l) (dm : Digs m) (hA : Nums w .i64 A (nl l)) (hB : Nums w .i64 B (nl m)) :
    Calls Try.prog 21 #[.slice A L cA, .slice B L cB] w fun e w' => ∃ b, e = .returned (.bool b) ∧ Hid (b = decide (dv m ≤ dv l)) ∧ Drawn w w' := by
  have HL := hid hl
  have HM := hid hm
  have DL := hid dl
  have DM := hid dm
  clear dl dm hl hm
  have hlw : IntKind.i64.wrap ((L : Int) - 1) = (L : Int) - 1 := IntWalk.i64_in _ (by omega)
  go_enter Try.func21, Try.ntmps21
  go_wp2
  go_loopw [5] (fun i wr => ∃ j : Nat, j ≤ L ∧ i = .int .i64 ((j : Int) - 1) ∧ Hid (l.drop j = m.drop j) ∧ Drawn w wr) (fun i _ => (intOf i + 1).toNat)
  case atStart => exact ⟨L, by omega, rfl, hid (by rw [List.drop_of_length_le (by rw [HL.out]; omega), List.drop_of_length_le (by rw [HM.out]; omega)]), Drawn.refl _⟩
  case round =>
    obtain ⟨j, hj, rfl, HD, HW⟩ := hrel
    cases j with
    | zero =>
      have hz : ((0 : Nat) : Int) - 1 = -1 := by omega
      rw [hz]
      have HE : Hid (l = m) := HD
      go_wp2
      go_ret
      exact ⟨true, rfl, hid (by rw [HE.out]; simp), HW⟩
    | succ i =>
      have hz : ((i + 1 : Nat) : Int) - 1 = (i : Int) := by omega
      rw [hz]
      have hil : i < l.length := by rw [HL.out]; omega
      have him : i < m.length := by rw [HM.out]; omega
      obtain ⟨g, o, rfl, _, cA0⟩ := hA.num (by rw [nl_length, HL.out]; omega)
      obtain ⟨g2, o2, rfl, _, cB0⟩ := hB.num (by rw [nl_length, HM.out]; omega)
      have cl := HW.cell (cA0 i _ (nl_at hil))
      have cm := HW.cell (cB0 i _ (nl_at him))
      have HC : Hid (l.getD i 0 ≠ m.getD i 0 → (dv m ≤ dv l ↔ m.getD i 0 < l.getD i 0)) := hid fun h => cmp_at DL.out DM.out hil him HD.out h
      have HS : Hid (l.getD i 0 = m.getD i 0 → l.drop i = m.drop i) := hid fun h => by rw [drop_step hil, drop_step him, h, HD.out]
      clear cA0 cB0 hil him
      generalize l.getD i 0 = x at *
      generalize m.getD i 0 = y at *
      have i0 : (0 : Int) ≤ i := by omega
      have i1 : (i : Int) < L := by omega
      have iw : IntKind.i64.wrap ((i : Int) - 1) = (i : Int) - 1 := IntWalk.i64_in _ (by omega)
      by_cases hxy : x = y
      · have hne : ((x : Int) != (y : Int)) = false := by simp [hxy]
        have HT := hid (HS.out hxy)
        clear HC HS hz hxy
        go_wp2
        go_quiet (fail)
        go_wp2
        go_roundw
        case rel => exact ⟨i, by omega, rfl, HT, HW.more _⟩
        case measure => simp [intOf]
      · have hne : ((x : Int) != (y : Int)) = true := by simp only [bne_iff_ne]; omega
        have HT := hid (HC.out hxy)
        clear HC HS hz hxy
        go_wp2
        go_quiet (fail)
        go_wp2
        go_quiet (fail)
        go_wp2
        go_ret
        exact ⟨decide (y < x), by simp, hid (decide_eq_decide.2 HT.out).symm, (HW.more _).more _⟩
theorem dv_snoc (l : List Nat) (v : Nat) : dv (l ++ [v]) = dv l + v * 65536 ^ l.length := by
  induction l with
  | nil => simp [dv]
  | cons a l ih =>
    simp only [List.cons_append, dv, ih, List.length_cons, Nat.pow_succ]
    have e : v * (65536 ^ l.length * 65536) = 65536 * (v * 65536 ^ l.length) := by rw [← Nat.mul_assoc, Nat.mul_comm]
    omega
theorem digs_snoc {l : List Nat} {v : Nat} (h : Digs l) (hv : v < 65536) : Digs (l ++ [v]) := fun x hx => by
  rcases List.mem_append.1 hx with h1 | h1
  · exact h x h1
  · simp at h1; omega
/-- What has been taken away, digit by digit. -/
def LessI (l m ys : List Nat) (bo k : Nat) : Prop := ys.length = k ∧ Digs ys ∧ bo ≤ 1 ∧ dv ys + dv (m.take k) = dv (l.take k) + bo * 65536 ^ k
theorem LessI.step {l m ys : List Nat} {bo k d bo' : Nat} (h : LessI l m ys bo k) (h1 : k < l.length) (h2 : k < m.length) (hd : d < 65536) (hb : bo' ≤ 1) (he : d + m.getD k 0 + bo = l.getD k 0 + 65536 * bo') : LessI l m (ys ++ [d]) bo' (k + 1) := by
  obtain ⟨a, b, c, e⟩ := h
  have g1 : l[k]? = some (l.getD k 0) := by rw [List.getD_eq_getElem?_getD, List.getElem?_eq_getElem h1]; rfl
  have g2 : m[k]? = some (m.getD k 0) := by rw [List.getD_eq_getElem?_getD, List.getElem?_eq_getElem h2]; rfl
  refine ⟨by simp [a], digs_snoc b hd, hb, ?_⟩
  rw [dv_snoc, a, dv_take_succ l k _ g1, dv_take_succ m k _ g2, Nat.pow_succ]
  generalize l.getD k 0 = x at *
  generalize m.getD k 0 = y at *
  generalize 65536 ^ k = P at *
  have h3 : (d + y + bo) * P = (x + 65536 * bo') * P := by rw [he]
  have h4 : bo' * (P * 65536) = 65536 * bo' * P := by rw [Nat.mul_comm P, ← Nat.mul_assoc, Nat.mul_comm bo']
  rw [Nat.add_mul, Nat.add_mul, Nat.add_mul] at h3
  rw [h4]
  omega
theorem LessI.end_ {l m ys : List Nat} {bo L : Nat} (h : LessI l m ys bo L) (hl : l.length = L) (hm : m.length = L) (hle : dv m ≤ dv l) : dv ys = dv l - dv m := by
  obtain ⟨a, b, c, e⟩ := h
  rw [List.take_of_length_le (by omega), List.take_of_length_le (by omega)] at e
  have := dv_lt ys b
  rw [a] at this
  have hb : bo = 0 ∨ bo = 1 := by omega
  rcases hb with rfl | rfl
  · omega
  · omega
theorem dv_zeros (l : List Nat) (n : Nat) : dv (l ++ List.replicate n 0) = dv l := by
  induction n with
  | zero => simp
  | succ n ih => rw [List.replicate_succ', ← List.append_assoc, dv_snoc, ih]; omega
theorem app_oneG {P : Program} {w : World} {ops : Array Oper} {rest : List Oper} {o : Oper} {a : Act} {Q : Exit → Act → World → Prop} (hgd : o.guard = none) (s x : Operand) (t : TypeId)
    (ho : o.op = .call { callee := .builtin .append, args := #[s, x], argTypes := #[t, t] }) (base : Nat) (e : TypeId) (k : IntKind) (bytes : Nat) (ht : P.underlying t = some (.slice e))
    (hinf : (P.info? e).map (fun i => (i.zero, i.size, i.bytes)) = some (some (.int k 0), 1, bytes)) (hbt : 0 < bytes) (A : Option Addr) (n c : Nat) (xs : List Int) (hs : a.eval s = .slice A n c)
    (hown : Owns w base e k (.slice A n c) xs) (y : Int) (m : Nat) (hx : a.eval x = .slice (some ⟨w.heap.size, 0, none⟩) 1 m) (h63 : (xs.length + 1) * bytes ≤ 140737488355328) (hbase : base ≤ w.heap.size)
    (h : ∀ A' n' c' w', Owns w' base e k (.slice A' n' c') (xs ++ [y]) → Grew w w' (.slice A n c) (.slice A' n' c') → wpList P ops Q rest (a.put o.dst (.slice A' n' c')) w') :
    wpList P ops Q (o :: rest) a (w.alloc (.cells #[.int k y] e)) :=
  app_nums hgd s x t ho base e k bytes ht hinf hbt A n c xs hs (hown.alloc _) (some ⟨w.heap.size, 0, none⟩) m [y] hx (nums_one w k y e) h63 (by simp; omega) fun A' n' c' w' h1 h2 => h A' n' c' w' h1 (Grew.after (below_new w _) h2)
theorem Nums.grew {w w' : World} {k : IntKind} {g o : Nat} {xs : List Int} {v v' : Value} (h : Nums w k (some ⟨g, o, none⟩) xs) (hG : Grew w w' v v') (hne : v.ownBlock ≠ some g) : Nums w' k (some ⟨g, o, none⟩) xs := fun hp => by
  obtain ⟨b, off, e, hlt, hc⟩ := h hp
  injection e with e
  injection e with e1 e2
  subst e1 e2
  exact ⟨g, o, rfl, Nat.lt_of_lt_of_le hlt hG.1.size, fun i hi => (hG.cell (p := ⟨g, o + i, none⟩) hlt hne).trans (hc i hi)⟩
theorem Grew.far {w w' : World} {v v' : Value} {g : Nat} (hG : Grew w w' v v') (hne : v.ownBlock ≠ some g) (hg : g < w.heap.size) : v'.ownBlock ≠ some g := fun e => by
  rcases hG.2 with h | h
  · exact hne (by rw [← h, e])
  · have := h g e; omega
theorem Nums.setOff {w : World} {k : IntKind} {g o : Nat} {xs : List Int} (h : Nums w k (some ⟨g, o, none⟩) xs) {p : Addr} (v : Value) (hp : p.block ≠ g) : Nums (w.setCell p v) k (some ⟨g, o, none⟩) xs := fun hl => by
  obtain ⟨b, off, e, hb, hc⟩ := h hl
  injection e with e
  injection e with e1 e2
  subst e1 e2
  refine ⟨g, o, rfl, by simpa using hb, fun i hi => ?_⟩
  rw [World.cell?_setCell_other _ _ _ _ (by intro q; rw [q] at hp; exact hp rfl)]
  exact hc i hi
theorem Nums.at0 {w : World} {k : IntKind} {g : Nat} {xs : List Int} (h : Nums w k (some ⟨g, 0, none⟩) xs) {i : Nat} {x : Int} (hx : xs[i]? = some x) : w.cell? ⟨g, i, none⟩ = some (.int k x) := by
  obtain ⟨hi, _⟩ := List.getElem?_eq_some_iff.1 hx
  obtain ⟨g2, o2, e, _, hc⟩ := h.num (by omega)
  injection e with e
  injection e with e1 e2
  subst e1 e2
  have := hc i x hx
  rwa [Nat.zero_add] at this
theorem Nums.lt0 {w : World} {k : IntKind} {g o : Nat} {xs : List Int} (h : Nums w k (some ⟨g, o, none⟩) xs) (hp : 0 < xs.length) : g < w.heap.size := by
  obtain ⟨g2, o2, e, hl, _⟩ := h.num hp
  injection e with e
  injection e with e1 e2
  subst e1; exact hl
set_option maxRecDepth 50000 in
theorem make28 (n : Nat) (h : n ≤ 1000) (w : World) : (Instr.makeSlice 26 (.int .i64 (n : Int)) (.int .i64 (n : Int))).run Try.prog w = .ok (.slice (some ⟨w.heap.size, 0, none⟩) n n) (w.alloc (.cells (ints .i64 (nl (List.replicate n 0))).toArray 3)) := by
  have hi := Try.info3
  cases hc : Try.prog.info? 3 with
  | none => rw [hc] at hi; simp at hi
  | some i =>
    rw [hc] at hi
    simp only [Option.map_some, Option.some.injEq, Prod.mk.injEq] at hi
    have h2 := run_make (P := Try.prog) w 26 3 i (.int .i64 0) (by kernel_rfl) hc hi.1 .i64 .i64 n n (by omega) (by omega) (by rw [hi.2.2]; omega) (by omega)
    rw [h2, hi.2.1]
    simp only [Int.toNat_natCast, Nat.mul_one]
    congr 3
    apply Array.toList_inj.1
    show (madeCells #[.int .i64 0] n).toList = _
    rw [toList_madeCells_one]
    simp [ints, nl]
/-- What has been added, digit by digit. -/
def SumI (l m ys : List Nat) (cy k : Nat) : Prop := ys.length = k ∧ Digs ys ∧ cy ≤ 1 ∧ dv ys + cy * 65536 ^ k = dv (l.take k) + dv (m.take k)
theorem SumI.step {l m ys : List Nat} {cy k : Nat} (h : SumI l m ys cy k) (h1 : k < l.length) (h2 : k < m.length) (dl : Digs l) (dm : Digs m) : SumI l m (ys ++ [(l.getD k 0 + m.getD k 0 + cy) % 65536]) ((l.getD k 0 + m.getD k 0 + cy) / 65536) (k + 1) := by
  obtain ⟨a, b, c, e⟩ := h
  have g1 : l[k]? = some (l.getD k 0) := by rw [List.getD_eq_getElem?_getD, List.getElem?_eq_getElem h1]; rfl
  have g2 : m[k]? = some (m.getD k 0) := by rw [List.getD_eq_getElem?_getD, List.getElem?_eq_getElem h2]; rfl
  have hx := getD_dig dl k
  have hy := getD_dig dm k
  refine ⟨by simp [a], digs_snoc b (Nat.mod_lt _ (by omega)), by omega, ?_⟩
  rw [dv_snoc, a, dv_take_succ l k _ g1, dv_take_succ m k _ g2, Nat.pow_succ]
  generalize l.getD k 0 = x at *
  generalize m.getD k 0 = y at *
  have hdm := Nat.div_add_mod (x + y + cy) 65536
  generalize (x + y + cy) % 65536 = r at *
  generalize (x + y + cy) / 65536 = q at *
  generalize 65536 ^ k = P at *
  have h3 : (65536 * q + r) * P = (x + y + cy) * P := by rw [hdm]
  have h4 : q * (P * 65536) = 65536 * q * P := by rw [Nat.mul_comm P, ← Nat.mul_assoc, Nat.mul_comm q]
  rw [Nat.add_mul, Nat.add_mul, Nat.add_mul] at h3
  rw [h4]
  omega
def dgN (m : Nat) : Nat → List Nat
  | 0 => []
  | k + 1 => m % 65536 :: dgN (m / 65536) k
theorem dgN_rp (k : Nat) : ∀ m, m < 65536 ^ k → (dgN m k).length = k ∧ Digs (dgN m k) ∧ dv (dgN m k) = m := by
  induction k with
  | zero => intro m h; simp at h; subst h; exact ⟨rfl, fun v hv => by simp [dgN] at hv, rfl⟩
  | succ k ih =>
    intro m h
    rw [Nat.pow_succ, Nat.mul_comm] at h
    obtain ⟨h1, h2, h3⟩ := ih (m / 65536) (by omega)
    refine ⟨by simp [dgN, h1], fun v hv => ?_, ?_⟩
    · rcases List.mem_cons.1 hv with e | e
      · omega
      · exact h2 v e
    · simp only [dgN, dv, h3]; omega
/-- The first k of r, the others of o. -/
def half (r o : List Int) (k : Nat) : List Int := r.take k ++ o.drop k
/-- The order. -/
def QN : Nat := 7237005577332262213973186563042994240857116359379907606001950938285454250989
/-- Bytes, two by two. -/
def pr : List Int → List Int
  | [] => []
  | [a] => [a]
  | a :: b :: r => (a + 256 * b) :: pr r
theorem pr_ev : ∀ l, ev (pr l) = bv l
  | [] => rfl
  | [a] => by simp [pr, ev, bv]
  | a :: b :: r => by simp only [pr, ev, bv, pr_ev r]; omega
theorem pr_length : ∀ l : List Int, (pr l).length = (l.length + 1) / 2
  | [] => rfl
  | [a] => by simp [pr]
  | a :: b :: r => by simp only [pr, List.length_cons, pr_length r]; omega
theorem pr_at : ∀ (l : List Int) (i : Nat), 2 * i < l.length → (pr l)[i]? = some (l.getD (2 * i) 0 + 256 * l.getD (2 * i + 1) 0)
  | [], i, h => by simp at h
  | [a], i, h => by
    have : i = 0 := by simp at h; omega
    subst this
    simp [pr]
  | a :: b :: r, 0, h => by simp [pr]
  | a :: b :: r, i + 1, h => by
    have h1 := pr_at r i (by simp at h; omega)
    simp only [pr, List.getElem?_cons_succ, h1]
    have e : 2 * (i + 1) = 2 * i + 1 + 1 := by omega
    rw [e]
    simp
theorem pr_byt : ∀ l : List Int, Byt l → ∀ x ∈ pr l, 0 ≤ x ∧ x < 65536
  | [], _, x, hx => by simp [pr] at hx
  | [a], h, x, hx => by
    have := h a (by simp)
    simp [pr] at hx
    omega
  | a :: b :: r, h, x, hx => by
    have h1 := h a (by simp)
    have h2 := h b (by simp)
    rcases List.mem_cons.1 hx with e | e
    · omega
    · exact pr_byt r (fun y hy => h y (by simp [hy])) x e
theorem nl_of {l : List Int} (h : ∀ x ∈ l, 0 ≤ x ∧ x < 65536) : ∃ a : List Nat, nl a = l ∧ a.length = l.length ∧ Digs a ∧ dv a = (ev l).toNat := by
  have h1 : nl (l.map Int.toNat) = l := by
    unfold nl
    rw [List.map_map]
    conv => rhs; rw [← List.map_id l]
    refine List.map_congr_left fun x hx => ?_
    have := h x hx
    simp; omega
  refine ⟨l.map Int.toNat, h1, by rw [List.length_map], fun v hv => ?_, ?_⟩
  · obtain ⟨x, hx, rfl⟩ := List.mem_map.1 hv
    have := h x hx
    omega
  · have h2 := ev_nl (l.map Int.toNat)
    rw [h1] at h2
    rw [h2]; simp
theorem pr_nl {l : List Int} (h : Byt l) : ∃ a : List Nat, nl a = pr l ∧ a.length = (l.length + 1) / 2 ∧ Digs a ∧ dv a = bn l := by
  obtain ⟨a, h1, h2, h3, h4⟩ := nl_of (pr_byt l h)
  exact ⟨a, h1, by rw [h2, pr_length], h3, by rw [h4, pr_ev]; rfl⟩
theorem dgN_length (m k : Nat) : (dgN m k).length = k := by
  induction k generalizing m with
  | zero => rfl
  | succ k ih => simp [dgN, ih]
def DL : List Int := [163, 120, 89, 19, 202, 77, 235, 117, 171, 216, 65, 65, 77, 10, 112, 0, 152, 232, 121, 119, 121, 64, 199, 140, 115, 254, 111, 43, 238, 108, 3, 82]
set_option maxRecDepth 4000 in
set_option maxHeartbeats 1000000 in
theorem le_own (A B : Option Addr) (cA cB L : Nat) (l m : List Nat) (w : World) (hl : l.length = L) (hm : m.length = L) (hn : L ≤ 1000) (dl : Digs l) (dm : Digs m) (hle : dv m ≤ dv l) (hA : Nums w .i64 A (nl l)) (hB : Nums w .i64 B (nl m)) :
    Calls Try.prog 23 #[.slice A L cA, .slice B L cB] w fun e w' => ∃ A' c ys, e = .returned (.slice A' L c) ∧ Hid (ys.length = L ∧ Digs ys ∧ dv ys = dv l - dv m) ∧ Owns w' w.heap.size 3 .i64 (.slice A' L c) (nl ys) ∧ Below w.heap.size w w' := by
  have HL := hid hl
  have HM := hid hm
  have DL := hid dl
  have DM := hid dm
  have HLE := hid hle
  clear dl dm hl hm hle
  go_enter Try.func23, Try.ntmps23
  go_wp2
  go_loopw [5, 6, 7] (fun v b i wr => ∃ (k : Nat) (ys : List Nat) (bo : Nat) (R : Option Addr) (n c : Nat), k ≤ L ∧ v = .slice R n c ∧ b = .int .i64 bo ∧ i = .int .i64 k ∧ Hid (LessI l m ys bo k) ∧ Owns wr w.heap.size 3 .i64 (.slice R n c) (nl ys) ∧ Below w.heap.size w wr) (fun _ _ i _ => L - (intOf i).toNat)
  case atStart => exact ⟨0, [], 0, none, 0, 0, Nat.zero_le _, rfl, rfl, rfl, hid ⟨rfl, fun v hv => by simp at hv, by omega, by simp [dv]⟩, Owns.none_ _ _ _ _, Below.refl _ _⟩
  case round =>
    obtain ⟨k, ys, bo, R, n, c, hk, rfl, rfl, rfl, HI, hO, hb⟩ := hrel
    by_cases hlt : k < L
    · have hsz := hb.size
      have hil : k < l.length := by rw [HL.out]; omega
      have him : k < m.length := by rw [HM.out]; omega
      obtain ⟨g, o, rfl, _, cA0⟩ := (hA.below hb).num (by rw [nl_length, HL.out]; omega)
      obtain ⟨g2, o2, rfl, _, cB0⟩ := (hB.below hb).num (by rw [nl_length, HM.out]; omega)
      have cl := cA0 k _ (nl_at hil)
      have cm := cB0 k _ (nl_at him)
      have hx := getD_dig DL.out k
      have hy := getD_dig DM.out k
      have hbo := HI.out.2.2.1
      have HS : Hid (∀ d bo', d < 65536 → bo' ≤ 1 → d + m.getD k 0 + bo = l.getD k 0 + 65536 * bo' → LessI l m (ys ++ [d]) bo' (k + 1)) := hid fun d bo' h1 h2 h3 => HI.out.step hil him h1 h2 h3
      have HY : Hid ((nl ys).length = k) := hid (by rw [nl_length]; exact HI.out.1)
      clear cA0 cB0 hil him
      generalize l.getD k 0 = x at *
      generalize m.getD k 0 = y at *
      have k0 : (0 : Int) ≤ k := by omega
      have k1 : (k : Int) < L := by omega
      have w1 : IntKind.i64.wrap ((x : Int) - y) = (x : Int) - y := IntWalk.i64_in _ (by omega)
      have w2 : IntKind.i64.wrap ((x : Int) - y - bo) = (x : Int) - y - bo := IntWalk.i64_in _ (by omega)
      by_cases hneg : x < y + bo
      · obtain ⟨d, hd⟩ : ∃ d : Nat, d = x + 65536 - (y + bo) := ⟨_, rfl⟩
        have hz : (x : Int) - y - bo = (d : Int) - 65536 := by omega
        have hdl : d < 65536 := by omega
        have HT := hid (HS.out d 1 hdl (by omega) (by omega))
        have hdn : (d : Int) - 65536 < 0 := by omega
        have hdw : IntKind.i64.wrap ((d : Int) - 65536 + 65536) = d := by rw [IntWalk.i64_in _ (by omega)]; omega
        rw [hz] at w2
        clear HS hneg hd hx hy hbo hdl
        go_wp2
        go_quiet (fail)
        clear w1 w2 hz
        go_wp2_with (at_builtin; refine app_one _ rfl (.tmp 30) (.tmp 32) 26 rfl w.heap.size 3 .i64 8 Try.underlying26 Try.info3 R n c (nl ys) rfl (hO.drewN _) _ 1 rfl (by rw [HY.out]; omega) (by omega) (by simpa using hsz) ?_; intro A' n' c' w2 hO2 hb2)
        go_roundw
        case rel => exact ⟨k + 1, ys ++ [d], 1, A', n', c', by omega, rfl, rfl, by go_num, HT, by rw [← nl_snoc]; exact hO2, (below_drewN hb nq).trans hb2⟩
        case measure => simp [intOf]; omega
      · obtain ⟨d, hd⟩ : ∃ d : Nat, d = x - (y + bo) := ⟨_, rfl⟩
        have hz : (x : Int) - y - bo = (d : Int) := by omega
        have hdl : d < 65536 := by omega
        have HT := hid (HS.out d 0 hdl (by omega) (by omega))
        have hdn : ¬ (d : Int) < 0 := by omega
        rw [hz] at w2
        clear HS hneg hd hx hy hbo hdl
        go_wp2
        go_quiet (fail)
        clear w1 w2 hz
        go_wp2_with (at_builtin; refine app_one _ rfl (.tmp 30) (.tmp 32) 26 rfl w.heap.size 3 .i64 8 Try.underlying26 Try.info3 R n c (nl ys) rfl (hO.drewN _) _ 1 rfl (by rw [HY.out]; omega) (by omega) (by simpa using hsz) ?_; intro A' n' c' w2 hO2 hb2)
        go_roundw
        case rel => exact ⟨k + 1, ys ++ [d], 0, A', n', c', by omega, rfl, rfl, by go_num, HT, by rw [← nl_snoc]; exact hO2, (below_drewN hb nq).trans hb2⟩
        case measure => simp [intOf]; omega
    · have e : k = L := by omega
      subst e
      have hm := hO.len
      rw [nl_length, HI.out.1] at hm
      subst hm
      have HE : Hid (dv ys = dv l - dv m) := hid (HI.out.end_ HL.out HM.out HLE.out)
      go_wp2
      go_ret
      exact ⟨R, c, ys, rfl, hid ⟨HI.out.1, HI.out.2.1, HE.out⟩, hO, hb⟩
/-- Digits times m and a number below m, digit by digit. -/
def MulI (m c : Nat) (xs zs : List Nat) (cy j : Nat) : Prop := zs.length = xs.length ∧ Digs zs ∧ cy < m ∧ dv zs + cy * 65536 ^ j + dv (xs.take j) = dv xs + m * dv (xs.take j) + c ∧ ∀ i, j ≤ i → zs[i]? = xs[i]?
theorem MulI.start {m c : Nat} {xs : List Nat} (hx : Digs xs) (hc : c < m) : MulI m c xs xs c 0 := ⟨rfl, hx, hc, by simp [dv], fun _ _ => rfl⟩
theorem MulI.step {m c : Nat} {xs zs : List Nat} {cy j n : Nat} (h : MulI m c xs zs cy j) (hx : Digs xs) (hj : j < xs.length) (hn : n = m * xs.getD j 0 + cy) : MulI m c xs (zs.set j (n % 65536)) (n / 65536) (j + 1) := by
  obtain ⟨h1, h2, h3, h4, h5⟩ := h
  have g : xs[j]? = some (xs.getD j 0) := by rw [List.getD_eq_getElem?_getD, List.getElem?_eq_getElem hj]; rfl
  have hd := getD_dig hx j
  refine ⟨by simp [h1], set_digs h2 _ _ (Nat.mod_lt _ (by omega)), ?_, ?_, fun i hi => ?_⟩
  · have : m * xs.getD j 0 ≤ m * 65535 := Nat.mul_le_mul_left _ (by omega)
    rw [Nat.div_lt_iff_lt_mul (by omega)]
    omega
  · have h6 := dv_set zs j (n % 65536) _ ((h5 j (Nat.le_refl _)).trans g)
    rw [dv_take_succ xs j _ g]
    have h7 := Nat.div_add_mod n 65536
    generalize xs.getD j 0 = x at *
    generalize n % 65536 = r at *
    generalize n / 65536 = q at *
    rw [Nat.pow_succ]
    generalize 65536 ^ j = P at *
    have h8 : (65536 * q + r) * P = (m * x + cy) * P := by rw [h7, hn]
    have h9 : q * (P * 65536) = 65536 * q * P := by rw [Nat.mul_comm P, ← Nat.mul_assoc, Nat.mul_comm q]
    rw [Nat.add_mul, Nat.add_mul, Nat.mul_assoc m] at h8
    rw [h9, Nat.mul_add]
    omega
  · rw [List.getElem?_set_ne (by omega)]; exact h5 i (by omega)
theorem MulI.end_ {m c : Nat} {xs zs : List Nat} {cy L : Nat} (h : MulI m c xs zs cy L) (hL : xs.length = L) (hm : m * dv xs + c < 65536 ^ L) : zs.length = L ∧ Digs zs ∧ dv zs = m * dv xs + c := by
  obtain ⟨h1, h2, h3, h4, h5⟩ := h
  rw [List.take_of_length_le (by omega)] at h4
  refine ⟨by omega, h2, ?_⟩
  have hc : cy = 0 := by
    by_cases h0 : cy = 0
    · exact h0
    · exfalso
      have : 1 * 65536 ^ L ≤ cy * 65536 ^ L := Nat.mul_le_mul_right _ (by omega)
      omega
  rw [hc] at h4
  omega
theorem mod_step (X b : Nat) : (2 * (X % QN) + b) % QN = (2 * X + b) % QN := by
  rw [Nat.add_mod, Nat.mul_mod, Nat.mod_mod, ← Nat.mul_mod, ← Nat.add_mod]
theorem half_step (N t : Nat) : 2 * (N / 2 ^ (t + 1)) + N / 2 ^ t % 2 = N / 2 ^ t := by
  rw [Nat.pow_succ, ← Nat.div_div_eq_div_mul]
  omega
theorem Owns.lessB {w : World} {base base' : Nat} {e : TypeId} {k : IntKind} {v : Value} {xs : List Int} (h : Owns w base e k v xs) (hb : base' ≤ base) : Owns w base' e k v xs := by
  refine ⟨h.1, ?_⟩
  rcases h.2 with h2 | ⟨g, cap, cur, hv, hg, r⟩
  · exact .inl h2
  · exact .inr ⟨g, cap, cur, hv, Nat.le_trans hb hg, r⟩
theorem Owns.capL {w : World} {base : Nat} {e : TypeId} {k : IntKind} {A : Option Addr} {n c : Nat} {xs : List Int} (h : Owns w base e k (.slice A n c) xs) : n ≤ c ∧ c ≤ maxLen := by
  rcases h.2 with ⟨hv, hn⟩ | ⟨g, cap, cur, hv, hg, hh, h1, h2, _⟩
  · injection hv with h1 h2 h3; subst h2 h3; exact ⟨Nat.le_refl _, by unfold maxLen; omega⟩
  · injection hv with h3 h4 h5; subst h5; exact ⟨by omega, h2⟩
theorem cell_same_of {W w : World} {b o : Nat} {v : Option Value} (h : Below W.heap.size W w) (hb : b < W.heap.size) (hc : W.cell? ⟨b, o, none⟩ = v) : w.cell? ⟨b, o, none⟩ = v := (h.cell (p := ⟨b, o, none⟩) hb).trans hc
theorem dig_at {l : List Nat} (hd : Digs l) {i : Nat} (h : i < l.length) : dv l / 65536 ^ i % 65536 = l.getD i 0 := by
  have h1 := dv_split l i (by omega)
  have h2 := dv_lt (l.take i) (fun v hv => hd v (List.mem_of_mem_take hv))
  rw [List.length_take, Nat.min_eq_left (by omega)] at h2
  have h3 := drop_step h
  have h4 := getD_dig hd i
  rw [h3, dv] at h1
  have hp : 0 < 65536 ^ i := Nat.pow_pos (by omega)
  rw [h1, Nat.add_mul_div_left _ _ hp, Nat.div_eq_of_lt h2]
  omega
theorem bit_of (X t d : Nat) (ht : t < 16) (hd : X % 65536 = d) : X / 2 ^ t % 2 = d / 2 ^ t % 2 := by
  rw [← hd]
  have : t = 0 ∨ t = 1 ∨ t = 2 ∨ t = 3 ∨ t = 4 ∨ t = 5 ∨ t = 6 ∨ t = 7 ∨ t = 8 ∨ t = 9 ∨ t = 10 ∨ t = 11 ∨ t = 12 ∨ t = 13 ∨ t = 14 ∨ t = 15 := by omega
  rcases this with rfl | rfl | rfl | rfl | rfl | rfl | rfl | rfl | rfl | rfl | rfl | rfl | rfl | rfl | rfl | rfl <;> simp only [Nat.reducePow, Nat.div_one] <;> omega
/-- The mask of t bits: half of 2 to the t. -/
def bt (t : Nat) : Nat := 2 ^ t / 2
theorem bt_succ (t : Nat) : bt (t + 1) = 2 ^ t := by unfold bt; rw [Nat.pow_succ]; omega
theorem bt_half (t : Nat) : bt (t + 1) / 2 = bt t := by rw [bt_succ]; rfl
end Go.Proofs.Ythohfhloobmlpaa
