/- Texts of this proof, laid together: PRef0, PMod, PRef1, PRef2. -/
import Derived.Test.YtpiamcgienkhaaaDoorG1
import Derived.Test.YtpiamcgienkhaaaDoorApp
import Derived.Test.YtpiamcgienkhaaaDoorDigMath
import Derived.Laws.OwnMore
import Derived.Lib.Hide
/- Of the layers before: PRef0. -/
namespace Go.Proofs.YtpiamcgienkhaaaDoor
open Go Go.RowKit

/-- The number that digits make, each of any size. -/
def ev : List Int → Int
  | [] => 0
  | a :: l => a + 65536 * ev l
set_option maxRecDepth 50000 in
theorem ev_nl (l : List Nat) : ev (nl l) = (dv l : Int) := by
  induction l with
  | nil => rfl
  | cons a l ih => simp only [nl, List.map_cons, ev, dv] at ih ⊢; rw [ih]; omega
def Q : Int := 57896044618658097711785492504343953926634992332820282019728792003956564819968
def P : Int := 57896044618658097711785492504343953926634992332820282019728792003956564819949
set_option maxRecDepth 50000 in
theorem Tryd.info3 : (Tryd.prog.info? 3).map (fun i => (i.zero, i.size, i.bytes)) = some (some (.int .i64 0), 1, 8) := by kernel_rfl
set_option maxRecDepth 50000 in
theorem Owns.block {w : World} {base : Nat} {e : TypeId} {k : IntKind} {A : Option Addr} {n c : Nat} {xs : List Int} (h : Owns w base e k (.slice A n c) xs) (hp : 0 < xs.length) : ∃ g, A = some ⟨g, 0, none⟩ ∧ base ≤ g := by
  rcases h.2 with ⟨hv, hn⟩ | ⟨g, cap, cur, hv, hg, _⟩
  · omega
  · injection hv with h1 h2 h3
    exact ⟨g, h1, hg⟩
set_option maxRecDepth 50000 in
theorem drop_step {l : List Nat} {i : Nat} (h : i < l.length) : l.drop i = l.getD i 0 :: l.drop (i + 1) := by
  rw [List.drop_eq_getElem_cons h]
  simp [h]
set_option maxRecDepth 50000 in
theorem dv_cut {l : List Nat} {i : Nat} (h : i < l.length) : dv l = dv (l.take i) + 65536 ^ i * (l.getD i 0 + 65536 * dv (l.drop (i + 1))) := by
  rw [dv_split l i (by omega), drop_step h, dv]
set_option maxRecDepth 50000 in
theorem cmp_at {l m : List Nat} {i : Nat} (hl : Digs l) (hm : Digs m) (h1 : i < l.length) (h2 : i < m.length) (he : l.drop (i + 1) = m.drop (i + 1)) (hne : l.getD i 0 ≠ m.getD i 0) : (dv m ≤ dv l ↔ m.getD i 0 < l.getD i 0) := by
  rw [dv_cut h1, dv_cut h2, he]
  have t1 := dv_lt (l.take i) (fun v hv => hl v (List.mem_of_mem_take hv))
  have t2 := dv_lt (m.take i) (fun v hv => hm v (List.mem_of_mem_take hv))
  rw [List.length_take, Nat.min_eq_left (by omega)] at t1 t2
  generalize l.getD i 0 = x at *
  generalize m.getD i 0 = y at *
  generalize dv (l.take i) = a at *
  generalize dv (m.take i) = b at *
  generalize 65536 * dv (m.drop (i + 1)) = D at *
  generalize 65536 ^ i = P at *
  constructor
  · intro h
    refine Nat.lt_of_not_le fun hle => ?_
    have : P * (x + D + 1) ≤ P * (y + D) := Nat.mul_le_mul_left _ (by omega)
    rw [Nat.mul_add] at this
    omega
  · intro h
    have : P * (y + D + 1) ≤ P * (x + D) := Nat.mul_le_mul_left _ (by omega)
    rw [Nat.mul_add] at this
    omega
set_option maxRecDepth 50000 in
theorem Nums.num {w : World} {k : IntKind} {A : Option Addr} {xs : List Int} (h : Nums w k A xs) (hp : 0 < xs.length) : ∃ g o, A = some ⟨g, o, none⟩ ∧ g < w.heap.size ∧ ∀ (i : Nat) x, xs[i]? = some x → w.cell? ⟨g, o + i, none⟩ = some (.int k x) := by
  obtain ⟨b, off, e, hlt, hc⟩ := h hp
  refine ⟨b, off, e, hlt, fun i x hx => ?_⟩
  obtain ⟨hi, hxe⟩ := List.getElem?_eq_some_iff.1 hx
  rw [hc i hi]
  simp [List.getD, hx]
/-- The same world behind some draws. -/
def Drawn (w w' : World) : Prop := ∃ n, w' = w.drewN n
set_option maxRecDepth 50000 in
theorem Drawn.refl (w : World) : Drawn w w := ⟨0, rfl⟩
set_option maxRecDepth 50000 in
theorem Drawn.more {w w' : World} (h : Drawn w w') (n : Nat) : Drawn w (w'.drewN n) := by
  obtain ⟨m, rfl⟩ := h
  exact ⟨m + n, by simp⟩
set_option maxRecDepth 50000 in
theorem Drawn.cell {w w' : World} (h : Drawn w w') {p : Addr} {v : Option Value} (hc : w.cell? p = v) : w'.cell? p = v := by
  obtain ⟨m, rfl⟩ := h
  exact hc
set_option maxRecDepth 50000 in
theorem Drawn.below {w w' : World} (h : Drawn w w') : Below w.heap.size w w' := by
  obtain ⟨m, rfl⟩ := h
  exact below_drewN (Below.refl _ _) m
set_option maxRecDepth 50000 in
theorem Nums.drewN {w : World} {k : IntKind} {A : Option Addr} {xs : List Int} (h : Nums w k A xs) (n : Nat) : Nums (w.drewN n) k A xs := h
set_option maxRecDepth 4000 in
set_option maxHeartbeats 1000000 in
theorem al_any (A B : Option Addr) (cA cB L : Nat) (l m : List Nat) (w : World) (hl : l.length = L) (hm : m.length = L) (hn : L ≤ 1000) (dl : Digs l) (dm : Digs m) (hA : Nums w .i64 A (nl l)) (hB : Nums w .i64 B (nl m)) :
    Calls Tryd.prog 51 #[.slice A L cA, .slice B L cB] w fun e w' => ∃ b, e = .returned (.bool b) ∧ Hid (b = decide (dv m ≤ dv l)) ∧ Drawn w w' := by
  have HL := hid hl
  have HM := hid hm
  have DL := hid dl
  have DM := hid dm
  clear dl dm hl hm
  have hlw : IntKind.i64.wrap ((L : Int) - 1) = (L : Int) - 1 := IntWalk.i64_in _ (by omega)
  go_enter Tryd.func51, Tryd.ntmps51
  go_wp2
  go_loopw [5] (fun i wr => ∃ j : Nat, j ≤ L ∧ i = .int .i64 ((j : Int) - 1) ∧ Hid (l.drop j = m.drop j) ∧ Drawn w wr) (fun i _ => (intOf i + 1).toNat)
  case atStart => exact ⟨L, by omega, rfl, hid (by rw [List.drop_of_length_le (by rw [HL.out]; omega), List.drop_of_length_le (by rw [HM.out]; omega)]), Drawn.refl _⟩
  case round =>
    obtain ⟨j, hj, rfl, HD, HW⟩ := hrel
    cases j with
    | zero =>
      have hz : ((0 : Nat) : Int) - 1 = -1 := by omega
      rw [hz]
      have HE : Hid (l = m) := HD
      go_wp2
      go_ret
      exact ⟨true, rfl, hid (by rw [HE.out]; simp), HW⟩
    | succ i =>
      have hz : ((i + 1 : Nat) : Int) - 1 = (i : Int) := by omega
      rw [hz]
      have hil : i < l.length := by rw [HL.out]; omega
      have him : i < m.length := by rw [HM.out]; omega
      obtain ⟨g, o, rfl, _, cA0⟩ := hA.num (by rw [nl_length, HL.out]; omega)
      obtain ⟨g2, o2, rfl, _, cB0⟩ := hB.num (by rw [nl_length, HM.out]; omega)
      have cl := HW.cell (cA0 i _ (nl_at hil))
      have cm := HW.cell (cB0 i _ (nl_at him))
      have HC : Hid (l.getD i 0 ≠ m.getD i 0 → (dv m ≤ dv l ↔ m.getD i 0 < l.getD i 0)) := hid fun h => cmp_at DL.out DM.out hil him HD.out h
      have HS : Hid (l.getD i 0 = m.getD i 0 → l.drop i = m.drop i) := hid fun h => by rw [drop_step hil, drop_step him, h, HD.out]
      clear cA0 cB0 hil him
      generalize l.getD i 0 = x at *
      generalize m.getD i 0 = y at *
      have i0 : (0 : Int) ≤ i := by omega
      have i1 : (i : Int) < L := by omega
      have iw : IntKind.i64.wrap ((i : Int) - 1) = (i : Int) - 1 := IntWalk.i64_in _ (by omega)
      by_cases hxy : x = y
      · have hne : ((x : Int) != (y : Int)) = false := by simp [hxy]
        have HT := hid (HS.out hxy)
        clear HC HS hz hxy
        go_wp2
        go_quiet (fail)
        go_wp2
        go_roundw
        case rel => exact ⟨i, by omega, rfl, HT, HW.more _⟩
        case measure => simp [intOf]
      · have hne : ((x : Int) != (y : Int)) = true := by simp only [bne_iff_ne]; omega
        have HT := hid (HC.out hxy)
        clear HC HS hz hxy
        go_wp2
        go_quiet (fail)
        go_wp2
        go_quiet (fail)
        go_wp2
        go_ret
        exact ⟨decide (y < x), by simp, hid (decide_eq_decide.2 HT.out).symm, (HW.more _).more _⟩
set_option maxRecDepth 50000 in
theorem dv_snoc (l : List Nat) (v : Nat) : dv (l ++ [v]) = dv l + v * 65536 ^ l.length := by
  induction l with
  | nil => simp [dv]
  | cons a l ih =>
    simp only [List.cons_append, dv, ih, List.length_cons, Nat.pow_succ]
    have e : v * (65536 ^ l.length * 65536) = 65536 * (v * 65536 ^ l.length) := by rw [← Nat.mul_assoc, Nat.mul_comm]
    omega
set_option maxRecDepth 50000 in
theorem digs_snoc {l : List Nat} {v : Nat} (h : Digs l) (hv : v < 65536) : Digs (l ++ [v]) := fun x hx => by
  rcases List.mem_append.1 hx with h1 | h1
  · exact h x h1
  · simp at h1; omega
/-- What has been taken away, digit by digit. -/
def LessI (l m ys : List Nat) (bo k : Nat) : Prop := ys.length = k ∧ Digs ys ∧ bo ≤ 1 ∧ dv ys + dv (m.take k) = dv (l.take k) + bo * 65536 ^ k
set_option maxRecDepth 50000 in
theorem LessI.step {l m ys : List Nat} {bo k d bo' : Nat} (h : LessI l m ys bo k) (h1 : k < l.length) (h2 : k < m.length) (hd : d < 65536) (hb : bo' ≤ 1) (he : d + m.getD k 0 + bo = l.getD k 0 + 65536 * bo') : LessI l m (ys ++ [d]) bo' (k + 1) := by
  obtain ⟨a, b, c, e⟩ := h
  have g1 : l[k]? = some (l.getD k 0) := by rw [List.getD_eq_getElem?_getD, List.getElem?_eq_getElem h1]; rfl
  have g2 : m[k]? = some (m.getD k 0) := by rw [List.getD_eq_getElem?_getD, List.getElem?_eq_getElem h2]; rfl
  refine ⟨by simp [a], digs_snoc b hd, hb, ?_⟩
  rw [dv_snoc, a, dv_take_succ l k _ g1, dv_take_succ m k _ g2, Nat.pow_succ]
  generalize l.getD k 0 = x at *
  generalize m.getD k 0 = y at *
  generalize 65536 ^ k = P at *
  have h3 : (d + y + bo) * P = (x + 65536 * bo') * P := by rw [he]
  have h4 : bo' * (P * 65536) = 65536 * bo' * P := by rw [Nat.mul_comm P, ← Nat.mul_assoc, Nat.mul_comm bo']
  rw [Nat.add_mul, Nat.add_mul, Nat.add_mul] at h3
  rw [h4]
  omega
set_option maxRecDepth 50000 in
theorem LessI.end_ {l m ys : List Nat} {bo L : Nat} (h : LessI l m ys bo L) (hl : l.length = L) (hm : m.length = L) (hle : dv m ≤ dv l) : dv ys = dv l - dv m := by
  obtain ⟨a, b, c, e⟩ := h
  rw [List.take_of_length_le (by omega), List.take_of_length_le (by omega)] at e
  have := dv_lt ys b
  rw [a] at this
  have hb : bo = 0 ∨ bo = 1 := by omega
  rcases hb with rfl | rfl
  · omega
  · omega
set_option maxRecDepth 50000 in
theorem dv_zeros (l : List Nat) (n : Nat) : dv (l ++ List.replicate n 0) = dv l := by
  induction n with
  | zero => simp
  | succ n ih => rw [List.replicate_succ', ← List.append_assoc, dv_snoc, ih]; omega
set_option maxRecDepth 50000 in
theorem app_oneP {P : Program} {w : World} {ops : Array Oper} {rest : List Oper} {o : Oper} {a : Act} {Q : Exit → Act → World → Prop} (hgd : o.guard = none) (s x : Operand) (t : TypeId)
    (ho : o.op = .call { callee := .builtin .append, args := #[s, x], argTypes := #[t, t] }) (base : Nat) (e : TypeId) (k : IntKind) (bytes : Nat) (ht : P.underlying t = some (.slice e))
    (hinf : (P.info? e).map (fun i => (i.zero, i.size, i.bytes)) = some (some (.int k 0), 1, bytes)) (hbt : 0 < bytes) (A : Option Addr) (n c : Nat) (xs : List Int) (hs : a.eval s = .slice A n c)
    (hown : Owns w base e k (.slice A n c) xs) (y : Int) (m : Nat) (hx : a.eval x = .slice (some ⟨w.heap.size, 0, none⟩) 1 m) (h63 : (xs.length + 1) * bytes ≤ 140737488355328) (hbase : base ≤ w.heap.size)
    (h : ∀ A' n' c' w', Owns w' base e k (.slice A' n' c') (xs ++ [y]) → Grew w w' (.slice A n c) (.slice A' n' c') → wpList P ops Q rest (a.put o.dst (.slice A' n' c')) w') :
    wpList P ops Q (o :: rest) a (w.alloc (.cells #[.int k y] e)) :=
  app_nums hgd s x t ho base e k bytes ht hinf hbt A n c xs hs (hown.alloc _) (some ⟨w.heap.size, 0, none⟩) m [y] hx (nums_one w k y e) h63 (by simp; omega) fun A' n' c' w' h1 h2 => h A' n' c' w' h1 (Grew.after (below_new w _) h2)
set_option maxRecDepth 50000 in
theorem Nums.grewP {w w' : World} {k : IntKind} {g o : Nat} {xs : List Int} {v v' : Value} (h : Nums w k (some ⟨g, o, none⟩) xs) (hG : Grew w w' v v') (hne : v.ownBlock ≠ some g) : Nums w' k (some ⟨g, o, none⟩) xs := fun hp => by
  obtain ⟨b, off, e, hlt, hc⟩ := h hp
  injection e with e
  injection e with e1 e2
  subst e1 e2
  exact ⟨g, o, rfl, Nat.lt_of_lt_of_le hlt hG.1.size, fun i hi => (hG.cell (p := ⟨g, o + i, none⟩) hlt hne).trans (hc i hi)⟩
set_option maxRecDepth 50000 in
theorem Grew.farP {w w' : World} {v v' : Value} {g : Nat} (hG : Grew w w' v v') (hne : v.ownBlock ≠ some g) (hg : g < w.heap.size) : v'.ownBlock ≠ some g := fun e => by
  rcases hG.2 with h | h
  · exact hne (by rw [← h, e])
  · have := h g e; omega
set_option maxRecDepth 50000 in
theorem Nums.setOff {w : World} {k : IntKind} {g o : Nat} {xs : List Int} (h : Nums w k (some ⟨g, o, none⟩) xs) {p : Addr} (v : Value) (hp : p.block ≠ g) : Nums (w.setCell p v) k (some ⟨g, o, none⟩) xs := fun hl => by
  obtain ⟨b, off, e, hb, hc⟩ := h hl
  injection e with e
  injection e with e1 e2
  subst e1 e2
  refine ⟨g, o, rfl, by simpa using hb, fun i hi => ?_⟩
  rw [World.cell?_setCell_other _ _ _ _ (by intro q; rw [q] at hp; exact hp rfl)]
  exact hc i hi
set_option maxRecDepth 50000 in
theorem Nums.at0 {w : World} {k : IntKind} {g : Nat} {xs : List Int} (h : Nums w k (some ⟨g, 0, none⟩) xs) {i : Nat} {x : Int} (hx : xs[i]? = some x) : w.cell? ⟨g, i, none⟩ = some (.int k x) := by
  obtain ⟨hi, _⟩ := List.getElem?_eq_some_iff.1 hx
  obtain ⟨g2, o2, e, _, hc⟩ := h.num (by omega)
  injection e with e
  injection e with e1 e2
  subst e1 e2
  have := hc i x hx
  rwa [Nat.zero_add] at this
set_option maxRecDepth 50000 in
theorem Nums.lt0 {w : World} {k : IntKind} {g o : Nat} {xs : List Int} (h : Nums w k (some ⟨g, o, none⟩) xs) (hp : 0 < xs.length) : g < w.heap.size := by
  obtain ⟨g2, o2, e, hl, _⟩ := h.num hp
  injection e with e
  injection e with e1 e2
  subst e1; exact hl
set_option maxRecDepth 50000 in
theorem make28 (n : Nat) (h : n ≤ 1000) (w : World) : (Instr.makeSlice 70 (.int .i64 (n : Int)) (.int .i64 (n : Int))).run Tryd.prog w = .ok (.slice (some ⟨w.heap.size, 0, none⟩) n n) (w.alloc (.cells (ints .i64 (nl (List.replicate n 0))).toArray 3)) := by
  have hi := Tryd.info3
  cases hc : Tryd.prog.info? 3 with
  | none => rw [hc] at hi; simp at hi
  | some i =>
    rw [hc] at hi
    simp only [Option.map_some, Option.some.injEq, Prod.mk.injEq] at hi
    have h2 := run_make (P := Tryd.prog) w 70 3 i (.int .i64 0) (by kernel_rfl) hc hi.1 .i64 .i64 n n (by omega) (by omega) (by rw [hi.2.2]; omega) (by omega)
    rw [h2, hi.2.1]
    simp only [Int.toNat_natCast, Nat.mul_one]
    congr 3
    apply Array.toList_inj.1
    show (madeCells #[.int .i64 0] n).toList = _
    rw [toList_madeCells_one]
    simp [ints, nl]
/-- What has been added, digit by digit. -/
def SumI (l m ys : List Nat) (cy k : Nat) : Prop := ys.length = k ∧ Digs ys ∧ cy ≤ 1 ∧ dv ys + cy * 65536 ^ k = dv (l.take k) + dv (m.take k)
set_option maxRecDepth 50000 in
theorem SumI.step {l m ys : List Nat} {cy k : Nat} (h : SumI l m ys cy k) (h1 : k < l.length) (h2 : k < m.length) (dl : Digs l) (dm : Digs m) : SumI l m (ys ++ [(l.getD k 0 + m.getD k 0 + cy) % 65536]) ((l.getD k 0 + m.getD k 0 + cy) / 65536) (k + 1) := by
  obtain ⟨a, b, c, e⟩ := h
  have g1 : l[k]? = some (l.getD k 0) := by rw [List.getD_eq_getElem?_getD, List.getElem?_eq_getElem h1]; rfl
  have g2 : m[k]? = some (m.getD k 0) := by rw [List.getD_eq_getElem?_getD, List.getElem?_eq_getElem h2]; rfl
  have hx := getD_dig dl k
  have hy := getD_dig dm k
  refine ⟨by simp [a], digs_snoc b (Nat.mod_lt _ (by omega)), by omega, ?_⟩
  rw [dv_snoc, a, dv_take_succ l k _ g1, dv_take_succ m k _ g2, Nat.pow_succ]
  generalize l.getD k 0 = x at *
  generalize m.getD k 0 = y at *
  have hdm := Nat.div_add_mod (x + y + cy) 65536
  generalize (x + y + cy) % 65536 = r at *
  generalize (x + y + cy) / 65536 = q at *
  generalize 65536 ^ k = P at *
  have h3 : (65536 * q + r) * P = (x + y + cy) * P := by rw [hdm]
  have h4 : q * (P * 65536) = 65536 * q * P := by rw [Nat.mul_comm P, ← Nat.mul_assoc, Nat.mul_comm q]
  rw [Nat.add_mul, Nat.add_mul, Nat.add_mul] at h3
  rw [h4]
  omega
def dgN (m : Nat) : Nat → List Nat
  | 0 => []
  | k + 1 => m % 65536 :: dgN (m / 65536) k
set_option maxRecDepth 50000 in
theorem dgN_rp (k : Nat) : ∀ m, m < 65536 ^ k → (dgN m k).length = k ∧ Digs (dgN m k) ∧ dv (dgN m k) = m := by
  induction k with
  | zero => intro m h; simp at h; subst h; exact ⟨rfl, fun v hv => by simp [dgN] at hv, rfl⟩
  | succ k ih =>
    intro m h
    rw [Nat.pow_succ, Nat.mul_comm] at h
    obtain ⟨h1, h2, h3⟩ := ih (m / 65536) (by omega)
    refine ⟨by simp [dgN, h1], fun v hv => ?_, ?_⟩
    · rcases List.mem_cons.1 hv with e | e
      · omega
      · exact h2 v e
    · simp only [dgN, dv, h3]; omega
/-- The first k of r, the others of o. -/
def half (r o : List Int) (k : Nat) : List Int := r.take k ++ o.drop k
/-- The order. -/
def QN : Nat := 7237005577332262213973186563042994240857116359379907606001950938285454250989
/-- Bytes, two by two. -/
def pr : List Int → List Int
  | [] => []
  | [a] => [a]
  | a :: b :: r => (a + 256 * b) :: pr r
set_option maxRecDepth 50000 in
theorem pr_ev : ∀ l, ev (pr l) = bv l
  | [] => rfl
  | [a] => by simp [pr, ev, bv]
  | a :: b :: r => by simp only [pr, ev, bv, pr_ev r]; omega
set_option maxRecDepth 50000 in
theorem pr_length : ∀ l : List Int, (pr l).length = (l.length + 1) / 2
  | [] => rfl
  | [a] => by simp [pr]
  | a :: b :: r => by simp only [pr, List.length_cons, pr_length r]; omega
set_option maxRecDepth 50000 in
theorem pr_at : ∀ (l : List Int) (i : Nat), 2 * i < l.length → (pr l)[i]? = some (l.getD (2 * i) 0 + 256 * l.getD (2 * i + 1) 0)
  | [], i, h => by simp at h
  | [a], i, h => by
    have : i = 0 := by simp at h; omega
    subst this
    simp [pr]
  | a :: b :: r, 0, h => by simp [pr]
  | a :: b :: r, i + 1, h => by
    have h1 := pr_at r i (by simp at h; omega)
    simp only [pr, List.getElem?_cons_succ, h1]
    have e : 2 * (i + 1) = 2 * i + 1 + 1 := by omega
    rw [e]
    simp
set_option maxRecDepth 50000 in
theorem pr_byt : ∀ l : List Int, Byt l → ∀ x ∈ pr l, 0 ≤ x ∧ x < 65536
  | [], _, x, hx => by simp [pr] at hx
  | [a], h, x, hx => by
    have := h a (by simp)
    simp [pr] at hx
    omega
  | a :: b :: r, h, x, hx => by
    have h1 := h a (by simp)
    have h2 := h b (by simp)
    rcases List.mem_cons.1 hx with e | e
    · omega
    · exact pr_byt r (fun y hy => h y (by simp [hy])) x e
set_option maxRecDepth 50000 in
theorem nl_of {l : List Int} (h : ∀ x ∈ l, 0 ≤ x ∧ x < 65536) : ∃ a : List Nat, nl a = l ∧ a.length = l.length ∧ Digs a ∧ dv a = (ev l).toNat := by
  have h1 : nl (l.map Int.toNat) = l := by
    unfold nl
    rw [List.map_map]
    conv => rhs; rw [← List.map_id l]
    refine List.map_congr_left fun x hx => ?_
    have := h x hx
    simp; omega
  refine ⟨l.map Int.toNat, h1, by rw [List.length_map], fun v hv => ?_, ?_⟩
  · obtain ⟨x, hx, rfl⟩ := List.mem_map.1 hv
    have := h x hx
    omega
  · have h2 := ev_nl (l.map Int.toNat)
    rw [h1] at h2
    rw [h2]; simp
set_option maxRecDepth 50000 in
theorem pr_nl {l : List Int} (h : Byt l) : ∃ a : List Nat, nl a = pr l ∧ a.length = (l.length + 1) / 2 ∧ Digs a ∧ dv a = bn l := by
  obtain ⟨a, h1, h2, h3, h4⟩ := nl_of (pr_byt l h)
  exact ⟨a, h1, by rw [h2, pr_length], h3, by rw [h4, pr_ev]; rfl⟩
set_option maxRecDepth 50000 in
theorem dgN_length (m k : Nat) : (dgN m k).length = k := by
  induction k generalizing m with
  | zero => rfl
  | succ k ih => simp [dgN, ih]
def DL : List Int := [163, 120, 89, 19, 202, 77, 235, 117, 171, 216, 65, 65, 77, 10, 112, 0, 152, 232, 121, 119, 121, 64, 199, 140, 115, 254, 111, 43, 238, 108, 3, 82]
set_option maxRecDepth 4000 in
set_option maxHeartbeats 1000000 in
theorem le_own (A B : Option Addr) (cA cB L : Nat) (l m : List Nat) (w : World) (hl : l.length = L) (hm : m.length = L) (hn : L ≤ 1000) (dl : Digs l) (dm : Digs m) (hle : dv m ≤ dv l) (hA : Nums w .i64 A (nl l)) (hB : Nums w .i64 B (nl m)) :
    Calls Tryd.prog 53 #[.slice A L cA, .slice B L cB] w fun e w' => ∃ A' c ys, e = .returned (.slice A' L c) ∧ Hid (ys.length = L ∧ Digs ys ∧ dv ys = dv l - dv m) ∧ Owns w' w.heap.size 3 .i64 (.slice A' L c) (nl ys) ∧ Below w.heap.size w w' := by
  have HL := hid hl
  have HM := hid hm
  have DL := hid dl
  have DM := hid dm
  have HLE := hid hle
  clear dl dm hl hm hle
  go_enter Tryd.func53, Tryd.ntmps53
  go_wp2
  go_loopw [5, 6, 7] (fun v b i wr => ∃ (k : Nat) (ys : List Nat) (bo : Nat) (R : Option Addr) (n c : Nat), k ≤ L ∧ v = .slice R n c ∧ b = .int .i64 bo ∧ i = .int .i64 k ∧ Hid (LessI l m ys bo k) ∧ Owns wr w.heap.size 3 .i64 (.slice R n c) (nl ys) ∧ Below w.heap.size w wr) (fun _ _ i _ => L - (intOf i).toNat)
  case atStart => exact ⟨0, [], 0, none, 0, 0, Nat.zero_le _, rfl, rfl, rfl, hid ⟨rfl, fun v hv => by simp at hv, by omega, by simp [dv]⟩, Owns.none_ _ _ _ _, Below.refl _ _⟩
  case round =>
    obtain ⟨k, ys, bo, R, n, c, hk, rfl, rfl, rfl, HI, hO, hb⟩ := hrel
    by_cases hlt : k < L
    · have hsz := hb.size
      have hil : k < l.length := by rw [HL.out]; omega
      have him : k < m.length := by rw [HM.out]; omega
      obtain ⟨g, o, rfl, _, cA0⟩ := (hA.below hb).num (by rw [nl_length, HL.out]; omega)
      obtain ⟨g2, o2, rfl, _, cB0⟩ := (hB.below hb).num (by rw [nl_length, HM.out]; omega)
      have cl := cA0 k _ (nl_at hil)
      have cm := cB0 k _ (nl_at him)
      have hx := getD_dig DL.out k
      have hy := getD_dig DM.out k
      have hbo := HI.out.2.2.1
      have HS : Hid (∀ d bo', d < 65536 → bo' ≤ 1 → d + m.getD k 0 + bo = l.getD k 0 + 65536 * bo' → LessI l m (ys ++ [d]) bo' (k + 1)) := hid fun d bo' h1 h2 h3 => HI.out.step hil him h1 h2 h3
      have HY : Hid ((nl ys).length = k) := hid (by rw [nl_length]; exact HI.out.1)
      clear cA0 cB0 hil him
      generalize l.getD k 0 = x at *
      generalize m.getD k 0 = y at *
      have k0 : (0 : Int) ≤ k := by omega
      have k1 : (k : Int) < L := by omega
      have w1 : IntKind.i64.wrap ((x : Int) - y) = (x : Int) - y := IntWalk.i64_in _ (by omega)
      have w2 : IntKind.i64.wrap ((x : Int) - y - bo) = (x : Int) - y - bo := IntWalk.i64_in _ (by omega)
      by_cases hneg : x < y + bo
      · obtain ⟨d, hd⟩ : ∃ d : Nat, d = x + 65536 - (y + bo) := ⟨_, rfl⟩
        have hz : (x : Int) - y - bo = (d : Int) - 65536 := by omega
        have hdl : d < 65536 := by omega
        have HT := hid (HS.out d 1 hdl (by omega) (by omega))
        have hdn : (d : Int) - 65536 < 0 := by omega
        have hdw : IntKind.i64.wrap ((d : Int) - 65536 + 65536) = d := by rw [IntWalk.i64_in _ (by omega)]; omega
        rw [hz] at w2
        clear HS hneg hd hx hy hbo hdl
        go_wp2
        go_quiet (fail)
        clear w1 w2 hz
        go_wp2_with (at_builtin; refine app_one _ rfl (.tmp 30) (.tmp 32) 70 rfl w.heap.size 3 .i64 8 Tryd.underlying70 Tryd.info3 R n c (nl ys) rfl (hO.drewN _) _ 1 rfl (by rw [HY.out]; omega) (by omega) (by simpa using hsz) ?_; intro A' n' c' w2 hO2 hb2)
        go_roundw
        case rel => exact ⟨k + 1, ys ++ [d], 1, A', n', c', by omega, rfl, rfl, by go_num, HT, by rw [← nl_snoc]; exact hO2, (below_drewN hb nq).trans hb2⟩
        case measure => simp [intOf]; omega
      · obtain ⟨d, hd⟩ : ∃ d : Nat, d = x - (y + bo) := ⟨_, rfl⟩
        have hz : (x : Int) - y - bo = (d : Int) := by omega
        have hdl : d < 65536 := by omega
        have HT := hid (HS.out d 0 hdl (by omega) (by omega))
        have hdn : ¬ (d : Int) < 0 := by omega
        rw [hz] at w2
        clear HS hneg hd hx hy hbo hdl
        go_wp2
        go_quiet (fail)
        clear w1 w2 hz
        go_wp2_with (at_builtin; refine app_one _ rfl (.tmp 30) (.tmp 32) 70 rfl w.heap.size 3 .i64 8 Tryd.underlying70 Tryd.info3 R n c (nl ys) rfl (hO.drewN _) _ 1 rfl (by rw [HY.out]; omega) (by omega) (by simpa using hsz) ?_; intro A' n' c' w2 hO2 hb2)
        go_roundw
        case rel => exact ⟨k + 1, ys ++ [d], 0, A', n', c', by omega, rfl, rfl, by go_num, HT, by rw [← nl_snoc]; exact hO2, (below_drewN hb nq).trans hb2⟩
        case measure => simp [intOf]; omega
    · have e : k = L := by omega
      subst e
      have hm := hO.len
      rw [nl_length, HI.out.1] at hm
      subst hm
      have HE : Hid (dv ys = dv l - dv m) := hid (HI.out.end_ HL.out HM.out HLE.out)
      go_wp2
      go_ret
      exact ⟨R, c, ys, rfl, hid ⟨HI.out.1, HI.out.2.1, HE.out⟩, hO, hb⟩
/-- Digits times m and a number below m, digit by digit. -/
def MulI (m c : Nat) (xs zs : List Nat) (cy j : Nat) : Prop := zs.length = xs.length ∧ Digs zs ∧ cy < m ∧ dv zs + cy * 65536 ^ j + dv (xs.take j) = dv xs + m * dv (xs.take j) + c ∧ ∀ i, j ≤ i → zs[i]? = xs[i]?
set_option maxRecDepth 50000 in
theorem MulI.start {m c : Nat} {xs : List Nat} (hx : Digs xs) (hc : c < m) : MulI m c xs xs c 0 := ⟨rfl, hx, hc, by simp [dv], fun _ _ => rfl⟩
set_option maxRecDepth 50000 in
theorem MulI.step {m c : Nat} {xs zs : List Nat} {cy j n : Nat} (h : MulI m c xs zs cy j) (hx : Digs xs) (hj : j < xs.length) (hn : n = m * xs.getD j 0 + cy) : MulI m c xs (zs.set j (n % 65536)) (n / 65536) (j + 1) := by
  obtain ⟨h1, h2, h3, h4, h5⟩ := h
  have g : xs[j]? = some (xs.getD j 0) := by rw [List.getD_eq_getElem?_getD, List.getElem?_eq_getElem hj]; rfl
  have hd := getD_dig hx j
  refine ⟨by simp [h1], set_digs h2 _ _ (Nat.mod_lt _ (by omega)), ?_, ?_, fun i hi => ?_⟩
  · have : m * xs.getD j 0 ≤ m * 65535 := Nat.mul_le_mul_left _ (by omega)
    rw [Nat.div_lt_iff_lt_mul (by omega)]
    omega
  · have h6 := dv_set zs j (n % 65536) _ ((h5 j (Nat.le_refl _)).trans g)
    rw [dv_take_succ xs j _ g]
    have h7 := Nat.div_add_mod n 65536
    generalize xs.getD j 0 = x at *
    generalize n % 65536 = r at *
    generalize n / 65536 = q at *
    rw [Nat.pow_succ]
    generalize 65536 ^ j = P at *
    have h8 : (65536 * q + r) * P = (m * x + cy) * P := by rw [h7, hn]
    have h9 : q * (P * 65536) = 65536 * q * P := by rw [Nat.mul_comm P, ← Nat.mul_assoc, Nat.mul_comm q]
    rw [Nat.add_mul, Nat.add_mul, Nat.mul_assoc m] at h8
    rw [h9, Nat.mul_add]
    omega
  · rw [List.getElem?_set_ne (by omega)]; exact h5 i (by omega)
set_option maxRecDepth 50000 in
theorem MulI.end_ {m c : Nat} {xs zs : List Nat} {cy L : Nat} (h : MulI m c xs zs cy L) (hL : xs.length = L) (hm : m * dv xs + c < 65536 ^ L) : zs.length = L ∧ Digs zs ∧ dv zs = m * dv xs + c := by
  obtain ⟨h1, h2, h3, h4, h5⟩ := h
  rw [List.take_of_length_le (by omega)] at h4
  refine ⟨by omega, h2, ?_⟩
  have hc : cy = 0 := by
    by_cases h0 : cy = 0
    · exact h0
    · exfalso
      have : 1 * 65536 ^ L ≤ cy * 65536 ^ L := Nat.mul_le_mul_right _ (by omega)
      omega
  rw [hc] at h4
  omega
set_option maxRecDepth 50000 in
theorem mod_step (X b : Nat) : (2 * (X % QN) + b) % QN = (2 * X + b) % QN := by
  rw [Nat.add_mod, Nat.mul_mod, Nat.mod_mod, ← Nat.mul_mod, ← Nat.add_mod]
set_option maxRecDepth 50000 in
theorem half_step (N t : Nat) : 2 * (N / 2 ^ (t + 1)) + N / 2 ^ t % 2 = N / 2 ^ t := by
  rw [Nat.pow_succ, ← Nat.div_div_eq_div_mul]
  omega
set_option maxRecDepth 50000 in
theorem Owns.lessB {w : World} {base base' : Nat} {e : TypeId} {k : IntKind} {v : Value} {xs : List Int} (h : Owns w base e k v xs) (hb : base' ≤ base) : Owns w base' e k v xs := by
  refine ⟨h.1, ?_⟩
  rcases h.2 with h2 | ⟨g, cap, cur, hv, hg, r⟩
  · exact .inl h2
  · exact .inr ⟨g, cap, cur, hv, Nat.le_trans hb hg, r⟩
set_option maxRecDepth 50000 in
theorem Owns.capL {w : World} {base : Nat} {e : TypeId} {k : IntKind} {A : Option Addr} {n c : Nat} {xs : List Int} (h : Owns w base e k (.slice A n c) xs) : n ≤ c ∧ c ≤ maxLen := by
  rcases h.2 with ⟨hv, hn⟩ | ⟨g, cap, cur, hv, hg, hh, h1, h2, _⟩
  · injection hv with h1 h2 h3; subst h2 h3; exact ⟨Nat.le_refl _, by unfold maxLen; omega⟩
  · injection hv with h3 h4 h5; subst h5; exact ⟨by omega, h2⟩
set_option maxRecDepth 50000 in
theorem cell_same_of {W w : World} {b o : Nat} {v : Option Value} (h : Below W.heap.size W w) (hb : b < W.heap.size) (hc : W.cell? ⟨b, o, none⟩ = v) : w.cell? ⟨b, o, none⟩ = v := (h.cell (p := ⟨b, o, none⟩) hb).trans hc
set_option maxRecDepth 50000 in
theorem dig_at {l : List Nat} (hd : Digs l) {i : Nat} (h : i < l.length) : dv l / 65536 ^ i % 65536 = l.getD i 0 := by
  have h1 := dv_split l i (by omega)
  have h2 := dv_lt (l.take i) (fun v hv => hd v (List.mem_of_mem_take hv))
  rw [List.length_take, Nat.min_eq_left (by omega)] at h2
  have h3 := drop_step h
  have h4 := getD_dig hd i
  rw [h3, dv] at h1
  have hp : 0 < 65536 ^ i := Nat.pow_pos (by omega)
  rw [h1, Nat.add_mul_div_left _ _ hp, Nat.div_eq_of_lt h2]
  omega
set_option maxRecDepth 50000 in
theorem bit_of (X t d : Nat) (ht : t < 16) (hd : X % 65536 = d) : X / 2 ^ t % 2 = d / 2 ^ t % 2 := by
  rw [← hd]
  have : t = 0 ∨ t = 1 ∨ t = 2 ∨ t = 3 ∨ t = 4 ∨ t = 5 ∨ t = 6 ∨ t = 7 ∨ t = 8 ∨ t = 9 ∨ t = 10 ∨ t = 11 ∨ t = 12 ∨ t = 13 ∨ t = 14 ∨ t = 15 := by omega
  rcases this with rfl | rfl | rfl | rfl | rfl | rfl | rfl | rfl | rfl | rfl | rfl | rfl | rfl | rfl | rfl | rfl <;> simp only [Nat.reducePow, Nat.div_one] <;> omega
/-- The mask of t bits: half of 2 to the t. -/
def bt (t : Nat) : Nat := 2 ^ t / 2
set_option maxRecDepth 50000 in
theorem bt_succ (t : Nat) : bt (t + 1) = 2 ^ t := by unfold bt; rw [Nat.pow_succ]; omega
set_option maxRecDepth 50000 in
theorem bt_half (t : Nat) : bt (t + 1) / 2 = bt t := by rw [bt_succ]; rfl
end Go.Proofs.YtpiamcgienkhaaaDoor

/- The reference's prime and its remainder. -/
namespace Go.Proofs.YtpiamcgienkhaaaDoor
open Go Go.RowKit

def PD : List Nat := [65531, 65535, 65535, 65535, 65535, 65535, 65535, 65535, 3, 0]
/-- Ten digits of a number. -/
def R10 (l : List Nat) (m : Nat) : Prop := l.length = 10 ∧ Digs l ∧ dv l = m
set_option maxRecDepth 50000 in
theorem pd_r : R10 PD PN := ⟨rfl, fun v hv => by
  have h : PD.all (fun v => decide (v < 65536)) = true := by decide
  exact of_decide_eq_true (List.all_eq_true.1 h v hv), by decide⟩
/-- A call returns new digits of a number. -/
def ROut (n : Nat) (w : World) (e : Ending) (w' : World) : Prop := ∃ A c ys, e = .returned (.slice A 10 c) ∧ Hid (R10 ys n) ∧ NumsF w.heap.size w' .i64 A (nl ys) ∧ Below w.heap.size w w'
set_option maxRecDepth 50000 in
theorem ROut.mk {n : Nat} {w w' : World} {A : Option Addr} {c : Nat} {ys : List Nat} (h : R10 ys n) (hN : NumsF w.heap.size w' .i64 A (nl ys)) (hb : Below w.heap.size w w') : ROut n w (.returned (.slice A 10 c)) w' := ⟨A, c, ys, rfl, h, hN, hb⟩
set_option maxRecDepth 4000 in
theorem p_any (w : World) : Calls Tryd.prog 52 #[] w fun e w' => ∃ g, e = .returned (.slice (some ⟨g, 0, none⟩) 10 10) ∧ Owns w' w.heap.size 3 .i64 (.slice (some ⟨g, 0, none⟩) 10 10) (nl PD) ∧ Below w.heap.size w w' := by
  have hO := Owns.new w w.heap.size 3 .i64 (nl PD) (Nat.le_refl _) (by unfold maxLen; decide)
  have hW := below_new w (.cells ((nl PD).map (Value.int .i64)).toArray 3)
  go_enter Tryd.func52, Tryd.ntmps52
  go_wp2
  go_ret
  exact ⟨w.heap.size, rfl, hO, hW⟩
set_option maxRecDepth 50000 in
theorem pmod_step (X b : Nat) : (2 * (X % PN) + b) % PN = (2 * X + b) % PN := by
  rw [Nat.add_mod, Nat.mul_mod, Nat.mod_mod, ← Nat.mul_mod, ← Nat.add_mod]
set_option maxRecDepth 50000 in
theorem prem_step (X b : Nat) : (if PN ≤ 2 * (X % PN) + b then 2 * (X % PN) + b - PN else 2 * (X % PN) + b) = (2 * X + b) % PN ∨ 1 < b := by
  by_cases hb : 1 < b
  · exact .inr hb
  · left
    rw [← pmod_step]
    have h := Nat.mod_lt X pn_pos
    generalize X % PN = x at *
    by_cases hq : PN ≤ 2 * x + b
    · rw [if_pos hq, Nat.mod_eq_sub_mod hq, Nat.mod_eq_of_lt (by unfold PN at *; omega)]
    · rw [if_neg hq, Nat.mod_eq_of_lt (by omega)]
set_option maxRecDepth 50000 in
theorem lt10 {x b : Nat} (hx : x < PN) (hb : b < 2) : 2 * x + b < 65536 ^ 10 := by
  have h2 : 65536 ^ 10 = 1461501637330902918203684832716283019655932542976 := by decide
  rw [h2]
  unfold PN at hx
  omega
set_option maxRecDepth 4000 in
set_option maxHeartbeats 2000000 in
theorem mod_walk (A : Option Addr) (c L : Nat) (w : World) (l : List Nat) (hl : l.length = L) (hn : L ≤ 1000) (hd : Digs l) (hA : Nums w .i64 A (nl l)) : Calls Tryd.prog 36 #[.slice A L c] w (ROut (dv l % PN) w) := by
  have HL := hid hl
  have HD := hid hd
  have HM0 : Hid (dv l / 65536 ^ L % PN = 0) := hid (by
    have := dv_lt l hd
    rw [hl] at this
    rw [Nat.div_eq_of_lt this]; rfl)
  obtain ⟨z10, hz⟩ : ∃ z, z = List.replicate 10 0 := ⟨_, rfl⟩
  have hmk : ∀ w : World, (Instr.makeSlice 70 (.int .i64 10) (.int .i64 10)).run Tryd.prog w = .ok (.slice (some ⟨w.heap.size, 0, none⟩) 10 10) (w.alloc (.cells (ints .i64 (nl z10)).toArray 3)) := by rw [hz]; exact make28 10 (by omega)
  have HO0 : Hid (∀ w : World, Owns (w.alloc (.cells (ints .i64 (nl z10)).toArray 3)) w.heap.size 3 .i64 (.slice (some ⟨w.heap.size, 0, none⟩) 10 10) (nl z10)) := by
    rw [hz]; exact hid fun w => Owns.new w w.heap.size 3 .i64 (nl (List.replicate 10 0)) (Nat.le_refl _) (by simp [maxLen])
  have HZ0 : Hid (R10 z10 0) := by
    rw [hz]; exact hid ⟨by simp, fun v hv => by have := List.eq_of_mem_replicate hv; omega, by have := dv_zeros [] 10; rw [List.nil_append] at this; rw [this]; rfl⟩
  have HQ := hid pd_r
  clear hl hd hz
  have hlw : IntKind.i64.wrap ((L : Int) - 1) = (L : Int) - 1 := IntWalk.i64_in _ (by omega)
  have hO := HO0.out w
  have hbD := below_new w (.cells (ints .i64 (nl z10)).toArray 3)
  go_enter Tryd.func36, Tryd.ntmps36
  go_wp2
  clear hmk
  generalize w.alloc (.cells (ints .i64 (nl z10)).toArray 3) = W0 at *
  have hA2 := hA
  go_loopw [3, 4] (fun v i wr => ∃ (j g cr : Nat) (rs : List Nat), j ≤ L ∧ i = .int .i64 ((j : Int) - 1) ∧ v = .slice (some ⟨g, 0, none⟩) 10 cr ∧ Hid (R10 rs (dv l / 65536 ^ j % PN)) ∧ Owns wr w.heap.size 3 .i64 (.slice (some ⟨g, 0, none⟩) 10 cr) (nl rs) ∧ Below w.heap.size w wr) (fun _ i _ => (intOf i + 1).toNat)
  case atStart => exact ⟨L, w.heap.size, 10, z10, Nat.le_refl _, rfl, rfl, (by rw [HM0.out]; exact HZ0), hO, hbD⟩
  case round =>
    clear hO hbD HZ0 HO0 HM0
    obtain ⟨j, g, cr, rs, hj, rfl, rfl, HR, hO, hB⟩ := hrel
    rename World => W1
    cases j with
    | zero =>
      have hz : ((0 : Nat) : Int) - 1 = -1 := by omega
      rw [hz]
      have HR0 : Hid (R10 rs (dv l % PN)) := hid (by have := HR.out; rwa [Nat.pow_zero, Nat.div_one] at this)
      have hNF := hO.fresh
      clear hO hA2 hA hz HR
      go_wp2
      go_ret
      exact ROut.mk HR0.out hNF hB
    | succ i =>
      have hz : ((i + 1 : Nat) : Int) - 1 = (i : Int) := by omega
      rw [hz]
      have HRT : Hid (R10 rs (dv l / 65536 ^ i / 2 ^ 16 % PN)) := hid (by have := HR.out; rw [Nat.pow_succ, ← Nat.div_div_eq_div_mul] at this; exact this)
      have hil : i < l.length := by rw [HL.out]; omega
      have HDI := hid (dig_at HD.out hil)
      have hdl := getD_dig HD.out i
      obtain ⟨gA, oA, rfl, hgA, cA⟩ := hA2.num (by rw [nl_length, HL.out]; omega)
      have cd := cA i _ (nl_at hil)
      clear cA hil HR
      generalize l.getD i 0 = d at *
      have i0 : (0 : Int) ≤ i := by omega
      have iL : (i : Int) < L := by omega
      have iw : IntKind.i64.wrap ((i : Int) - 1) = (i : Int) - 1 := IntWalk.i64_in _ (by omega)
      go_wp2
      go_loopw [3, 5] (fun v b wr => ∃ (t g cr : Nat) (rs : List Nat), t ≤ 16 ∧ b = .int .i64 (bt t : Int) ∧ v = .slice (some ⟨g, 0, none⟩) 10 cr ∧ Hid (R10 rs (dv l / 65536 ^ i / 2 ^ t % PN)) ∧ Owns wr w.heap.size 3 .i64 (.slice (some ⟨g, 0, none⟩) 10 cr) (nl rs) ∧ Below w.heap.size w wr) (fun _ b _ => (intOf b).toNat)
      case atStart => exact ⟨16, g, cr, rs, by omega, (by rw [show bt 16 = 32768 from rfl]; rfl), rfl, HRT, hO, hB⟩
      case round =>
        clear hO hB HRT
        obtain ⟨t, g, cr, rs, ht, rfl, rfl, HR, hO, hB⟩ := hrel
        rename World => W2
        cases t with
        | zero =>
          have hb0 : ((bt 0 : Nat) : Int) = 0 := rfl
          rw [hb0]
          have HR0 : Hid (R10 rs (dv l / 65536 ^ i % PN)) := hid (by have := HR.out; rwa [Nat.pow_zero, Nat.div_one] at this)
          clear HR
          go_wp2
          go_roundw
          case rel => exact ⟨i, g, cr, rs, by omega, by go_num, rfl, HR0, hO, hB⟩
          case measure => simp [intOf]
        | succ t =>
          obtain ⟨p, hp⟩ : ∃ p, bt (t + 1) = p := ⟨_, rfl⟩
          have HPT := hid (show p = 2 ^ t by rw [← hp, bt_succ])
          have HPH := hid (show p / 2 = bt t by rw [← hp, bt_half])
          rw [hp]
          have hpp : 0 < p := by rw [HPT.out]; exact Nat.pow_pos (by omega)
          have hpl : p ≤ 32768 := by
            rw [HPT.out]
            exact Nat.le_trans (Nat.pow_le_pow_right (by omega) (show t ≤ 15 by omega)) (by decide)
          obtain ⟨e, he⟩ : ∃ e, d / p = e := ⟨_, rfl⟩
          obtain ⟨b, hb⟩ : ∃ b, e % 2 = b := ⟨_, rfl⟩
          have HST : Hid ((if PN ≤ 2 * (dv l / 65536 ^ i / 2 ^ (t + 1) % PN) + b then 2 * (dv l / 65536 ^ i / 2 ^ (t + 1) % PN) + b - PN else 2 * (dv l / 65536 ^ i / 2 ^ (t + 1) % PN) + b) = dv l / 65536 ^ i / 2 ^ t % PN) := hid (by
            have h1 := bit_of (dv l / 65536 ^ i) t d (by omega) HDI.out
            rw [← HPT.out, he, hb] at h1
            have h2 := half_step (dv l / 65536 ^ i) t
            rw [← HPT.out, h1] at h2
            rcases prem_step (dv l / 65536 ^ i / 2 ^ (t + 1)) b with h | h
            · rw [h, h2, HPT.out]
            · omega)
          have HXL : Hid (dv l / 65536 ^ i / 2 ^ (t + 1) % PN < PN) := hid (Nat.mod_lt _ pn_pos)
          have hel : e ≤ 65535 := by rw [← he]; exact Nat.le_trans (Nat.div_le_self _ _) (by omega)
          have hei : (d : Int) / (p : Int) = (e : Int) := by rw [← he]; simp
          have het : Int.tdiv (d : Int) (p : Int) = (e : Int) := by rw [Int.tdiv_eq_ediv_of_nonneg (by omega)]; exact hei
          have hew : IntKind.i64.wrap (e : Int) = (e : Int) := IntWalk.i64_in _ (by omega)
          have hbi : (e : Int) % 2 = (b : Int) := by omega
          have hbt : Int.tmod (e : Int) 2 = (b : Int) := by rw [Int.tmod_eq_emod_of_nonneg (by omega)]; omega
          have hp0 : ¬ (p : Int) = 0 := by omega
          have hp1 : (0 : Int) < (p : Int) := by omega
          have hph : (p : Int) / 2 = ((p / 2 : Nat) : Int) := by omega
          have hpht : Int.tdiv (p : Int) 2 = ((p / 2 : Nat) : Int) := by rw [Int.tdiv_eq_ediv_of_nonneg (by omega)]; omega
          have hphw : IntKind.i64.wrap ((p / 2 : Nat) : Int) = ((p / 2 : Nat) : Int) := IntWalk.i64_in _ (by omega)
          have HBL : Hid (b < 2) := hid (by omega)
          rw [HPH.out] at hph hpht hphw
          have HBT : Hid (bt t < p) := hid (by rw [← HPH.out]; omega)
          have hcd := cell_same_of hB hgA cd
          have HEB := hid (And.intro he hb)
          generalize dv l / 65536 ^ i / 2 ^ (t + 1) % PN = x at *
          obtain ⟨btt, hbtt⟩ : ∃ q, bt t = q := ⟨_, rfl⟩
          rw [hbtt] at hph hpht hphw HBT
          have HBTT := hid hbtt
          have HMI := hid (MulI.start (m := 2) (c := b) HR.out.2.1 HBL.out)
          clear hp hpl he hb hel hpp HPH HPT hbtt
          go_wp2
          go_loopw [6, 7] (fun cv kv wr => ∃ (m cy : Nat) (zs : List Nat), m ≤ 10 ∧ kv = .int .i64 m ∧ cv = .int .i64 cy ∧ Hid (MulI 2 b rs zs cy m) ∧ Owns wr w.heap.size 3 .i64 (.slice (some ⟨g, 0, none⟩) 10 cr) (nl zs) ∧ Below w.heap.size w wr) (fun _ kv _ => 10 - (intOf kv).toNat)
          case atStart => exact ⟨0, b, rs, by omega, rfl, rfl, HMI, hO, hB⟩
          case round =>
            clear hO hB HMI hcd
            obtain ⟨m, cy, zs, hm, rfl, rfl, HI, hO, hB⟩ := hrel
            rename World => W3
            by_cases hlt2 : m < 10
            · have hzl : (nl zs).length = 10 := by rw [nl_length, HI.out.1]; exact HR.out.1
              have hzm : zs[m]? = some (rs.getD m 0) := by rw [HI.out.2.2.2.2 m (Nat.le_refl _), List.getD_eq_getElem?_getD, List.getElem?_eq_getElem (by rw [HR.out.1]; exact hlt2)]; rfl
              obtain ⟨y, cy0, fy0, HY⟩ := hO.spot (j := m) (by rw [hzl]; exact hlt2)
              have hyx : y = ((rs.getD m 0 : Nat) : Int) := by
                have h := HY.out
                unfold nl at h
                rw [List.getElem?_map, hzm] at h
                exact (Option.some.inj h).symm
              subst hyx
              have hdx := getD_dig HR.out.2.1 m
              have hcy := HI.out.2.2.1
              obtain ⟨n, hn2⟩ : ∃ n, n = 2 * rs.getD m 0 + cy := ⟨_, rfl⟩
              have HN := hid (HI.out.step HR.out.2.1 (by rw [HR.out.1]; exact hlt2) hn2)
              generalize rs.getD m 0 = x0 at *
              have w1 : IntKind.i64.wrap (2 * (x0 : Int)) = 2 * (x0 : Int) := IntWalk.i64_in _ (by omega)
              have w2' : IntKind.i64.wrap (2 * (x0 : Int) + cy) = (n : Int) := by rw [IntWalk.i64_in _ (by omega)]; omega
              have hnm : (n : Int) % 65536 = ((n % 65536 : Nat) : Int) := by omega
              have hnd : (n : Int) / 65536 = ((n / 65536 : Nat) : Int) := by omega
              have hnt : Int.tmod (n : Int) 65536 = ((n % 65536 : Nat) : Int) := by rw [Int.tmod_eq_emod_of_nonneg (by omega)]; omega
              have hnq : Int.tdiv (n : Int) 65536 = ((n / 65536 : Nat) : Int) := by rw [Int.tdiv_eq_ediv_of_nonneg (by omega)]; omega
              have HNB : Hid (n / 65536 < 2) := hid (by omega)
              have hO9 := hO.store m ((n % 65536 : Nat) : Int)
              have hgD := (hO.lt g rfl).1
              rw [nl_set] at hO9
              generalize n % 65536 = r at *
              generalize n / 65536 = q at *
              have hqw : IntKind.i64.wrap (q : Int) = (q : Int) := IntWalk.i64_in _ (by have := HNB.out; omega)
              have hB9 := hB.setCell (p := ⟨g, m, none⟩) hgD (.int .i64 (r : Int))
              have m0 : (0 : Int) ≤ m := by omega
              have m16 : (m : Int) < 10 := by omega
              clear hn2 HY hdx hcy hzl hzm HI hO hB hgD
              go_wp2
              go_roundw
              case rel => exact ⟨m + 1, q, zs.set m r, by omega, by go_num, rfl, HN, hO9, hB9⟩
              case measure => simp [intOf]; omega
            · have e : m = 10 := by omega
              subst e
              have HZ : Hid (R10 zs (2 * x + b)) := hid (by
                have h := HI.out.end_ HR.out.1 (by rw [HR.out.2.2]; exact lt10 HXL.out HBL.out)
                rw [HR.out.2.2] at h
                exact h)
              clear HI
              go_wp2_with (fail)
              refine (p_any _).mono ?_
              rintro e2 w4 ⟨g4, rfl, hQ4, hb4⟩
              have hO4 := hO.stay hb4
              have hB4 := hB.trans (Below.mono hb4 hB.size)
              clear hO hB hb4
              go_wp2_with (fail)
              refine (al_any (some ⟨g, 0, none⟩) (some ⟨g4, 0, none⟩) cr 10 10 zs PD w4 HZ.out.1 HQ.out.1 (by omega) HZ.out.2.1 HQ.out.2.1 hO4.nums hQ4.nums).mono ?_
              rintro e2 w5 ⟨bb, rfl, HBB, nd, rfl⟩
              rw [HZ.out.2.2, HQ.out.2.2] at HBB
              have hO5 := hO4.drewN nd
              have hB5 := below_drewN hB4 nd
              clear hO4 hB4 hQ4
              generalize w4.drewN nd = W4 at *
              by_cases hge : PN ≤ 2 * x + b
              · have hbb : bb = true := by rw [HBB.out]; exact decide_eq_true hge
                subst hbb
                have HS2 := HST.out
                rw [if_pos hge] at HS2
                replace HS2 := hid HS2
                have HGE := hid hge
                clear hge HST
                go_wp2_with (fail)
                refine (p_any _).mono ?_
                rintro e2 w6 ⟨g6, rfl, hQ6, hb6⟩
                have hO6 := hO5.stay hb6
                have hB6 := hB5.trans (Below.mono hb6 hB5.size)
                clear hO5 hB5 hb6
                go_wp2_with (fail)
                refine (le_own (some ⟨g, 0, none⟩) (some ⟨g6, 0, none⟩) cr 10 10 zs PD w6 HZ.out.1 HQ.out.1 (by omega) HZ.out.2.1 HQ.out.2.1 (by rw [HZ.out.2.2, HQ.out.2.2]; exact HGE.out) hO6.nums hQ6.nums).mono ?_
                rintro e3 w7 ⟨A7, c7, ys, rfl, HY, hO7, hb7⟩
                obtain ⟨g7, rfl, _⟩ := hO7.block (by rw [nl_length, HY.out.1]; omega)
                have hO8 := hO7.lessB hB6.size
                have hB8 := hB6.trans (Below.mono hb7 hB6.size)
                have HR8 : Hid (R10 ys (dv l / 65536 ^ i / 2 ^ t % PN)) := hid ⟨HY.out.1, HY.out.2.1, by rw [HY.out.2.2, HZ.out.2.2, HQ.out.2.2, HS2.out]⟩
                clear hO6 hB6 hQ6 hO7 hb7
                go_wp2
                go_roundw
                case rel => exact ⟨t, g7, c7, ys, by omega, by rw [HBTT.out], rfl, HR8, hO8, hB8⟩
                case measure => have := HBT.out; simp [intOf]; omega
              · have hbb : bb = false := by rw [HBB.out]; exact decide_eq_false hge
                subst hbb
                have HS2 := HST.out
                rw [if_neg hge] at HS2
                rw [HS2] at HZ
                clear hge HST HS2
                go_wp2
                go_roundw
                case rel => exact ⟨t, g, cr, zs, by omega, by rw [HBTT.out], rfl, HZ, hO5, hB5⟩
                case measure => have := HBT.out; simp [intOf]; omega
end Go.Proofs.YtpiamcgienkhaaaDoor

/- The reference's digits of bytes, bytes of a number, and sums. -/
namespace Go.Proofs.YtpiamcgienkhaaaDoor
open Go Go.RowKit

set_option maxRecDepth 4000 in
set_option maxHeartbeats 2000000 in
theorem digits_walk (A : Option Addr) (L c : Nat) (bs : List Int) (w : World) (hl : bs.length = L) (hn : L ≤ 1000) (hb : Byt bs) (hA : Nums w .u8 A bs) : Calls Tryd.prog 37 #[.slice A L c] w fun e w' => ∃ B d, e = .returned (.slice B ((L + 1) / 2) d) ∧ NumsF w.heap.size w' .i64 B (pr bs) ∧ Below w.heap.size w w' := by
  have HL := hid hl
  have HB := hid hb
  have HPL : Hid ((pr bs).length = (L + 1) / 2) := hid (by rw [pr_length, hl])
  have hA0 := hA
  clear hl hb hA
  go_enter Tryd.func37, Tryd.ntmps37
  go_wp2
  go_loopw [3, 4] (fun v i wr => ∃ (k : Nat) (R : Option Addr) (n d : Nat), k ≤ (L + 1) / 2 ∧ v = .slice R n d ∧ i = .int .i64 ((2 * k : Nat) : Int) ∧ Owns wr w.heap.size 3 .i64 (.slice R n d) ((pr bs).take k) ∧ Below w.heap.size w wr) (fun _ i _ => L + 1 - (intOf i).toNat)
  case atStart => exact ⟨0, none, 0, 0, Nat.zero_le _, rfl, rfl, Owns.none_ _ _ _ _, Below.refl _ _⟩
  case round =>
    obtain ⟨k, R, n, d, hk, rfl, rfl, hO, hb⟩ := hrel
    rename World => W1
    have hsz := hb.size
    by_cases hlt : 2 * k < L
    · have hlk : 2 * k < bs.length := by rw [HL.out]; exact hlt
      obtain ⟨g, o, rfl, _, cA⟩ := (hA0.below hb).num (by omega)
      have hx : bs[2 * k]? = some (bs.getD (2 * k) 0) := by rw [List.getD_eq_getElem?_getD, List.getElem?_eq_getElem hlk]; rfl
      have cx := cA _ _ hx
      have hxb := HB.out.at_ hx
      have HV := hid (pr_at bs k hlk)
      have HT : Hid ((pr bs).take (k + 1) = (pr bs).take k ++ [bs.getD (2 * k) 0 + 256 * bs.getD (2 * k + 1) 0]) := hid (by rw [List.take_add_one, HV.out]; rfl)
      have HTL : Hid (((pr bs).take k).length ≤ 1000) := hid (by rw [List.length_take, HPL.out]; omega)
      have HW5 : Hid (∀ A' n' c' w2, Grew W1 w2 (Value.slice R n d) (Value.slice A' n' c') → Below w.heap.size w w2) := hid fun A' n' c' w2 hG => hb.trans (hG.below hsz (fun g hg => (hO.lt g hg).1))
      by_cases hlt2 : 2 * k + 1 < L
      · have hlk2 : 2 * k + 1 < bs.length := by rw [HL.out]; exact hlt2
        have hy : bs[2 * k + 1]? = some (bs.getD (2 * k + 1) 0) := by rw [List.getD_eq_getElem?_getD, List.getElem?_eq_getElem hlk2]; rfl
        have cy0 := cA _ _ hy
        have hyb := HB.out.at_ hy
        clear hx hy hlk hlk2 cA HV
        generalize bs.getD (2 * k) 0 = x at *
        generalize bs.getD (2 * k + 1) 0 = y at *
        obtain ⟨p, hp⟩ : ∃ p, p = 2 * k := ⟨_, rfl⟩
        obtain ⟨q, hq⟩ : ∃ q, q = 2 * k + 1 := ⟨_, rfl⟩
        have hwq : IntKind.i64.wrap ((p : Int) + 1) = (q : Int) := by rw [IntWalk.i64_in _ (by omega)]; omega
        have hw2 : IntKind.i64.wrap ((p : Int) + 2) = ((2 * (k + 1) : Nat) : Int) := by rw [IntWalk.i64_in _ (by omega)]; omega
        rw [← hp] at cx ⊢
        rw [← hq] at cy0
        have p0 : (0 : Int) ≤ p := by omega
        have pL : (p : Int) < L := by omega
        have q0 : (0 : Int) ≤ q := by omega
        have qL : (q : Int) < L := by omega
        have hx64 : IntKind.i64.wrap x = x := IntWalk.i64_in _ (by omega)
        have hy64 : IntKind.i64.wrap y = y := IntWalk.i64_in _ (by omega)
        have hs8 : IntKind.i64.wrap (256 * y) = 256 * y := by rw [IntWalk.i64_in _ (by omega)]
        have hsv : IntKind.i64.wrap (x + 256 * y) = x + 256 * y := by rw [IntWalk.i64_in _ (by omega)]
        have HPQ := hid (And.intro hp hq)
        clear hp hq
        go_wp2_with (at_builtin; refine app_oneP rfl (.tmp 31) (.tmp 33) 70 rfl w.heap.size 3 .i64 8 Tryd.underlying70 Tryd.info3 (by omega) R n d ((pr bs).take k) rfl hO _ 1 rfl (by have := HTL.out; omega) hsz ?_; intro A' n' c' w2 hO2 hG2)
        go_roundw
        case rel =>
          rw [← HT.out] at hO2
          exact ⟨k + 1, A', n', c', by omega, rfl, by congr 1, hO2, HW5.out _ _ _ _ hG2⟩
        case measure => simp [intOf]; have := HPQ.out.1; omega
      · have hy0 : bs.getD (2 * k + 1) 0 = 0 := by rw [List.getD_eq_getElem?_getD, List.getElem?_eq_none (by rw [HL.out]; omega)]; rfl
        rw [hy0] at HT
        clear hx hy0 hlk cA HV
        generalize bs.getD (2 * k) 0 = x at *
        obtain ⟨p, hp⟩ : ∃ p, p = 2 * k := ⟨_, rfl⟩
        have hwq : IntKind.i64.wrap ((p : Int) + 1) = (p : Int) + 1 := IntWalk.i64_in _ (by omega)
        have hw2 : IntKind.i64.wrap ((p : Int) + 2) = ((2 * (k + 1) : Nat) : Int) := by rw [IntWalk.i64_in _ (by omega)]; omega
        rw [← hp] at cx ⊢
        have p0 : (0 : Int) ≤ p := by omega
        have pL : (p : Int) < L := by omega
        have qL : ¬ (p : Int) + 1 < L := by omega
        have hx64 : IntKind.i64.wrap x = x := IntWalk.i64_in _ (by omega)
        have HXV : Hid (x + 256 * 0 = x) := hid (by omega)
        rw [HXV.out] at HT
        have HPQ := hid hp
        clear hp
        go_wp2_with (at_builtin; refine app_oneP rfl (.tmp 31) (.tmp 33) 70 rfl w.heap.size 3 .i64 8 Tryd.underlying70 Tryd.info3 (by omega) R n d ((pr bs).take k) rfl hO _ 1 rfl (by have := HTL.out; omega) hsz ?_; intro A' n' c' w2 hO2 hG2)
        go_roundw
        case rel =>
          rw [← HT.out] at hO2
          exact ⟨k + 1, A', n', c', by omega, rfl, by congr 1, hO2, HW5.out _ _ _ _ hG2⟩
        case measure => simp [intOf]; have := HPQ.out; omega
    · have e : k = (L + 1) / 2 := by omega
      have hf : (pr bs).take k = pr bs := List.take_of_length_le (by rw [HPL.out]; omega)
      rw [hf] at hO
      have hm := hO.len
      rw [HPL.out] at hm
      subst hm
      have hNF := hO.fresh
      obtain ⟨p, hp⟩ : ∃ p, p = 2 * k := ⟨_, rfl⟩
      have hpL : ¬ (p : Int) < L := by omega
      rw [← hp]
      clear hf e hO hlt hp hsz
      go_wp2
      go_ret
      exact ⟨R, ⟨d, rfl⟩, hNF, hb⟩
set_option maxRecDepth 50000 in
/-- The number of any bytes, modulo the prime. -/
theorem modd_any (A : Option Addr) (L c : Nat) (bs : List Int) (w : World) (hl : bs.length = L) (hn : L ≤ 1000) (hb : Byt bs) (hA : Nums w .i64 A (pr bs)) : Calls Tryd.prog 36 #[.slice A ((L + 1) / 2) c] w (ROut (bn bs % PN) w) := by
  obtain ⟨a, h1, h2, h3, h4⟩ := pr_nl hb
  rw [← h1] at hA
  have := mod_walk A c ((L + 1) / 2) w a (by rw [h2, hl]) (by omega) h3 hA
  rwa [h4] at this
set_option maxRecDepth 50000 in
/-- A number's byte, out of its digits. -/
theorem byte_dig {a : List Nat} {m : Nat} (h : R10 a m) {i : Nat} (hi : i < 17) : a.getD (i / 2) 0 / 256 ^ (i % 2) % 256 = m / 256 ^ i % 256 := by
  have h1 := dig_at h.2.1 (i := i / 2) (by rw [h.1]; omega)
  rw [h.2.2] at h1
  rw [← h1]
  have e : m / 256 ^ i = m / 65536 ^ (i / 2) / 256 ^ (i % 2) := by
    rw [Nat.div_div_eq_div_mul]
    have : (65536 : Nat) = 256 ^ 2 := by decide
    rw [this, ← Nat.pow_mul, ← Nat.pow_add, Nat.div_add_mod]
  rw [e]
  generalize m / 65536 ^ (i / 2) = x
  have : i % 2 = 0 ∨ i % 2 = 1 := by omega
  rcases this with h | h <;> rw [h] <;> omega
set_option maxRecDepth 50000 in
theorem SumI.end_ {l m ys : List Nat} {cy : Nat} (h : SumI l m ys cy 10) (hl : l.length = 10) (hm : m.length = 10) (hs : dv l + dv m < 65536 ^ 10) : R10 ys (dv l + dv m) := by
  obtain ⟨a, b, c, e⟩ := h
  rw [List.take_of_length_le (by omega), List.take_of_length_le (by omega)] at e
  refine ⟨a, b, ?_⟩
  cases cy with
  | zero => omega
  | succ cy =>
    have : 65536 ^ 10 ≤ (cy + 1) * 65536 ^ 10 := Nat.le_mul_of_pos_left _ (by omega)
    omega
set_option maxRecDepth 4000 in
set_option maxHeartbeats 2000000 in
theorem radd_any {A B : Option Addr} {cA cB m n : Nat} {a b : List Nat} {w : World} (ha : R10 a m) (hb : R10 b n) (hs : m + n < 65536 ^ 10) (hA : Nums w .i64 A (nl a)) (hB : Nums w .i64 B (nl b)) : Calls Tryd.prog 40 #[.slice A 10 cA, .slice B 10 cB] w (ROut ((m + n) % PN) w) := by
  have HA := hid ha
  have HB := hid hb
  have HSE : Hid (∀ ys cy, SumI a b ys cy 10 → R10 ys (m + n)) := hid fun ys cy h => by
    have := h.end_ HA.out.1 HB.out.1 (by rw [HA.out.2.2, HB.out.2.2]; exact hs)
    rwa [HA.out.2.2, HB.out.2.2] at this
  clear ha hb hs
  go_enter Tryd.func40, Tryd.ntmps40
  go_wp2
  go_loopw [5, 6, 7] (fun v b' i wr => ∃ (k : Nat) (ys : List Nat) (cy : Nat) (R : Option Addr) (n c : Nat), k ≤ 10 ∧ v = .slice R n c ∧ b' = .int .i64 cy ∧ i = .int .i64 k ∧ Hid (SumI a b ys cy k) ∧ Owns wr w.heap.size 3 .i64 (.slice R n c) (nl ys) ∧ Below w.heap.size w wr) (fun _ _ i _ => 10 - (intOf i).toNat)
  case atStart => exact ⟨0, [], 0, none, 0, 0, Nat.zero_le _, rfl, rfl, rfl, hid ⟨rfl, fun v hv => by simp at hv, by omega, by simp [dv]⟩, Owns.none_ _ _ _ _, Below.refl _ _⟩
  case round =>
    obtain ⟨k, ys, cy, R, n', c, hk, rfl, rfl, rfl, HI, hO, hbl⟩ := hrel
    have hsz := hbl.size
    have HY : Hid ((nl ys).length = k) := hid (by rw [nl_length]; exact HI.out.1)
    have hcy := HI.out.2.2.1
    by_cases hlt : k < 10
    · have hil : k < a.length := by rw [HA.out.1]; omega
      have him : k < b.length := by rw [HB.out.1]; omega
      obtain ⟨g, o, rfl, _, cA0⟩ := (hA.below hbl).num (by rw [nl_length, HA.out.1]; omega)
      obtain ⟨g2, o2, rfl, _, cB0⟩ := (hB.below hbl).num (by rw [nl_length, HB.out.1]; omega)
      have cl := cA0 k _ (nl_at hil)
      have cm := cB0 k _ (nl_at him)
      have hx := getD_dig HA.out.2.1 k
      have hy := getD_dig HB.out.2.1 k
      have HS := hid (HI.out.step hil him HA.out.2.1 HB.out.2.1)
      clear cA0 cB0 hil him
      generalize a.getD k 0 = x at *
      generalize b.getD k 0 = y at *
      have k0 : (0 : Int) ≤ k := by omega
      have k1 : (k : Int) < 10 := by omega
      obtain ⟨t, ht⟩ : ∃ t, t = x + y + cy := ⟨_, rfl⟩
      have w1 : IntKind.i64.wrap ((x : Int) + y) = (x : Int) + y := IntWalk.i64_in _ (by omega)
      have w2 : IntKind.i64.wrap ((x : Int) + y + cy) = t := by rw [IntWalk.i64_in _ (by omega)]; omega
      have htl : t < 200000 := by omega
      rw [← ht] at HS
      clear ht
      have e1 : ((t % 65536 : Nat) : Int) = (t : Int) % 65536 := by omega
      have e2 : Value.int .i64 ((t : Int) / 65536) = Value.int .i64 ((t / 65536 : Nat) : Int) := by congr 1
      have E1 := hid e1
      have E2 := hid e2
      clear e1 e2
      go_wp2
      go_quiet (fail)
      clear w1 w2
      go_wp2_with (at_builtin; refine app_one _ rfl (.tmp 24) (.tmp 27) 70 rfl w.heap.size 3 .i64 8 Tryd.underlying70 Tryd.info3 R n' c (nl ys) rfl (hO.drewN _) _ 1 rfl (by rw [HY.out]; omega) (by omega) (by simpa using hsz) ?_; intro A' n2 c' w2 hO2 hb2)
      go_roundw
      case rel => exact ⟨k + 1, _, t / 65536, A', n2, c', by omega, rfl, E2.out, by go_num, HS, by rw [← nl_snoc, E1.out]; exact hO2, (below_drewN hbl nq).trans hb2⟩
      case measure => simp [intOf]; omega
    · have e : k = 10 := by omega
      subst e
      have HE := hid (HSE.out ys cy HI.out)
      have hn' := hO.len
      rw [nl_length, HI.out.1] at hn'
      subst hn'
      go_wp2_with (fail)
      refine (mod_walk R c 10 _ ys HE.out.1 (by omega) HE.out.2.1 hO.nums).mono ?_
      rw [HE.out.2.2]
      rintro e3 w3 ⟨A3, c3, ys3, rfl, HY3, hN3, hb3⟩
      go_wp2
      go_ret
      exact ROut.mk HY3.out (hN3.less hbl.size) (hbl.trans (hb3.mono hbl.size))
end Go.Proofs.YtpiamcgienkhaaaDoor

/- The reference's products. -/
namespace Go.Proofs.YtpiamcgienkhaaaDoor
open Go Go.RowKit

set_option maxRecDepth 50000 in
theorem e64 (T : Nat) (h : T < 4294967296) : Value.int .i64 (wrap64 ((T : Int) / 65536)) = Value.int .i64 ((T / 65536 : Nat) : Int) := by
  have e : ((T : Int) / 65536) = ((T / 65536 : Nat) : Int) := by omega
  rw [e]
  congr 1
  unfold wrap64
  omega
set_option maxRecDepth 4000 in
set_option maxHeartbeats 2000000 in
theorem rmul_any {A B : Option Addr} {cA cB m n : Nat} {xs ys : List Nat} {w : World} (ha : R10 xs m) (hb : R10 ys n) (hA : Nums w .i64 A (nl xs)) (hB0 : Nums w .i64 B (nl ys)) : Calls Tryd.prog 39 #[.slice A 10 cA, .slice B 10 cB] w (ROut (m * n % PN) w) := by
  have hX2 := hA
  have hY2 := hB0
  have HXL := hid ha.1
  have HYL := hid hb.1
  have HXD := hid ha.2.1
  have HYD := hid hb.2.1
  have HDE : Hid ((digs xs ys).length = 20 ∧ Digs (digs xs ys) ∧ dv (digs xs ys) = m * n) := hid ⟨by rw [digs_length, HXL.out, HYL.out], digs_digs xs ys HXD.out HYD.out, by rw [digs_dv, ha.2.2, hb.2.2]⟩
  have HDC : Hid (digs xs ys = colD xs ys 10) := hid (by unfold digs; rw [HXL.out])
  obtain ⟨z0, hz0⟩ : ∃ z, z = colD xs ys 0 := ⟨_, rfl⟩
  have hmk : ∀ w : World, (Instr.makeSlice 70 (.int .i64 20) (.int .i64 20)).run Tryd.prog w = .ok (.slice (some ⟨w.heap.size, 0, none⟩) 20 20) (w.alloc (.cells (ints .i64 (nl z0)).toArray 3)) := by
    have e : colD xs ys 0 = List.replicate 20 0 := by rw [colD, HXL.out, HYL.out]
    rw [hz0, e]; exact make28 20 (by omega)
  have HZ0 := hid hz0
  clear hz0 ha hb hA hB0
  go_enter Tryd.func39, Tryd.ntmps39
  go_wp2
  have hB := below_new w (.cells (ints .i64 (nl z0)).toArray 3)
  have hZ : Arr (w.alloc (.cells (ints .i64 (nl z0)).toArray 3)) w.heap.size 0 .i64 (nl (colD xs ys 0)) := by have := Arr.made w .i64 (nl z0) 3; rw [HZ0.out] at this ⊢; exact this
  clear hmk
  generalize w.alloc (.cells (ints .i64 (nl z0)).toArray 3) = W0 at *
  go_loopw [6] (fun i wr => ∃ k : Nat, k ≤ 10 ∧ i = .int .i64 k ∧ Below w.heap.size w wr ∧ Arr wr w.heap.size 0 .i64 (nl (colD xs ys k))) (fun i _ => 10 - (intOf i).toNat)
  case atStart => exact ⟨0, by omega, rfl, hB, hZ⟩
  case round =>
    clear hB hZ
    obtain ⟨k, hk, rfl, hB, hZ⟩ := hrel
    by_cases hlt : k < 10
    · have HXi : Hid (xs.getD k 0 < 65536) := hid (getD_dig HXD.out k)
      have hnx := nl_at (l := xs) (i := k) (by rw [HXL.out]; exact hlt)
      obtain ⟨gx, ox, rfl, hgx, cA⟩ := hX2.num (by rw [nl_length, HXL.out]; omega)
      have cx0 := cA k _ hnx
      have HZL : Hid ((colD xs ys k).length = 20) := hid (by rw [colD_length, HXL.out, HYL.out])
      have HZW := hid (colD_digs xs ys HXD.out HYD.out k)
      have HCN : Hid (colD xs ys (k + 1) = (rowD (xs.getD k 0) ys k (colD xs ys k) 10).1.set (k + 10) ((rowD (xs.getD k 0) ys k (colD xs ys k) 10).1.getD (k + 10) 0 + (rowD (xs.getD k 0) ys k (colD xs ys k) 10).2)) := hid (by rw [colD, HYL.out])
      have HCP : Hid ((rowD (xs.getD k 0) ys k (colD xs ys k) 10).1.getD (k + 10) 0 = 0) := hid (by rw [rowD_past _ _ _ _ _ _ (Nat.le_refl _), colD_past _ _ _ _ (by rw [HYL.out]; exact Nat.le_refl _)])
      clear cA hnx
      generalize colD xs ys k = z at *
      generalize xs.getD k 0 = xi at *
      have hZ0 : Arr wr w.heap.size 0 .i64 (nl (rowD xi ys k z 0).1) := hZ
      clear hZ
      have k0 : (0 : Int) ≤ k := by omega
      have k4 : (k : Int) < 10 := by omega
      rename World => W1
      go_wp2
      go_loopw [7, 8] (fun c j wr => ∃ m : Nat, m ≤ 10 ∧ j = .int .i64 m ∧ c = .int .i64 ((rowD xi ys k z m).2 : Nat) ∧ Below w.heap.size w wr ∧ Arr wr w.heap.size 0 .i64 (nl (rowD xi ys k z m).1)) (fun _ j _ => 10 - (intOf j).toNat)
      case atStart => exact ⟨0, by omega, rfl, rfl, hB, hZ0⟩
      case round =>
        clear hB hZ0
        obtain ⟨m, hm, rfl, rfl, hB, hZ⟩ := hrel
        by_cases hlt2 : m < 10
        · rename World => W2
          have HYM : Hid (ys.getD m 0 < 65536) := hid (getD_dig HYD.out m)
          have cx1 := cell_same_of hB hgx cx0
          obtain ⟨gy, oy, rfl, hgy, cB⟩ := (hY2.below hB).num (by rw [nl_length, HYL.out]; omega)
          have cy0 := cB m _ (nl_at (by rw [HYL.out]; exact hlt2))
          have HRN : Hid (rowD xi ys k z (m + 1) = stepD xi (ys.getD m 0) (k + m) (rowD xi ys k z m)) := hid rfl
          have HRL := hid (rowD_length xi ys k z m)
          have HRW := hid (rowD_digsL xi ys k z HXi.out HYD.out HZW.out m)
          clear cB
          generalize ys.getD m 0 = yj at *
          generalize rowD xi ys k z m = st at *
          rcases st with ⟨zz, cc⟩
          dsimp only at *
          have hzz : k + m < zz.length := by rw [HRL.out, HZL.out]; omega
          have cz := hZ.at_ (i := k + m) (nl_at hzz)
          have fz := hZ.free (i := k + m) (by rw [nl_length]; exact hzz)
          rw [Nat.zero_add] at cz fz
          have HP : Hid (zz.getD (k + m) 0 < 65536) := hid (getD_dig HRW.out.1 _)
          have HS : Hid (stepD xi yj (k + m) (zz, cc) = (zz.set (k + m) ((xi * yj + cc + zz.getD (k + m) 0) % 65536), (xi * yj + cc + zz.getD (k + m) 0) / 65536)) := hid rfl
          generalize zz.getD (k + m) 0 = q at *
          have HC : Hid (cc < 65536) := hid HRW.out.2
          have HT : Hid (xi * yj ≤ 4294836225) := hid (Nat.mul_le_mul (Nat.le_pred_of_lt HXi.out) (Nat.le_pred_of_lt HYM.out))
          have w1 : IntKind.i64.wrap ((xi : Int) * yj) = ((xi * yj : Nat) : Int) := by have := HT.out; rw [IntWalk.i64_in _ (by omega)]; omega
          generalize xi * yj = P at *
          have w2 : IntKind.i64.wrap ((q : Int) + P) = ((q + P : Nat) : Int) := by rw [IntWalk.i64_in _ (by have := HT.out; have := HP.out; omega)]; omega
          have w3 : IntKind.i64.wrap (((q + P : Nat) : Int) + cc) = ((P + cc + q : Nat) : Int) := by rw [IntWalk.i64_in _ (by have := HT.out; have := HP.out; have := HC.out; omega)]; omega
          have HQ : Hid (P + cc + q < 4294967296) := hid (by have := HT.out; have := HP.out; have := HC.out; omega)
          generalize q + P = q1 at *
          generalize P + cc + q = T at *
          have HE : Hid (rowD xi ys k z (m + 1) = (zz.set (k + m) (T % 65536), T / 65536)) := hid (by rw [HRN.out, HS.out])
          have hT0 : (0 : Int) ≤ T := by omega
          have km0 : (0 : Int) ≤ (k : Int) + m := by omega
          have kmw : IntKind.i64.wrap ((k : Int) + m) = (k : Int) + m := IntWalk.i64_in _ (by omega)
          have kmn : ((k : Int) + m).toNat = k + m := by omega
          have kml : (k : Int) + m < 20 := by omega
          have m0 : (0 : Int) ≤ m := by omega
          have m4 : (m : Int) < 10 := by omega
          go_wp2
          go_quiet (fail)
          replace hZ := hZ.drewN nq
          replace hB := below_drewN hB nq
          replace cz : (W2.drewN nq).cell? _ = _ := cz
          replace fz : (W2.drewN nq).frozen? _ = _ := fz
          clear cx1 cy0
          generalize W2.drewN nq = W3 at *
          go_wp2
          go_roundw
          case rel =>
            refine ⟨m + 1, by omega, by go_num, by rw [HE.out, e64 T HQ.out], hB.setCell (Nat.le_refl _) _, ?_⟩
            have h := hZ.set (k + m) ((T % 65536 : Nat) : Int)
            rw [nl_set, Nat.zero_add] at h
            rw [HE.out]
            exact h
          case measure => simp [intOf]; omega
        · have e : m = 10 := by omega
          subst e
          have HRL := hid (rowD_length xi ys k z 10)
          have HRW := hid (rowD_digsL xi ys k z HXi.out HYD.out HZW.out 10)
          rw [HCP.out, Nat.zero_add] at HCN
          generalize rowD xi ys k z 10 = st at *
          rcases st with ⟨zz, cc⟩
          dsimp only at *
          have hzz : k + 10 < zz.length := by rw [HRL.out, HZL.out]; omega
          have cz := hZ.at_ (i := k + 10) (nl_at hzz)
          have fz := hZ.free (i := k + 10) (by rw [nl_length]; exact hzz)
          rw [HCP.out] at cz
          rw [Nat.zero_add] at cz fz
          have kmw : IntKind.i64.wrap ((k : Int) + 10) = (k : Int) + 10 := IntWalk.i64_in _ (by omega)
          have kmn : ((k : Int) + 10).toNat = k + 10 := by omega
          have km0 : (0 : Int) ≤ (k : Int) + 10 := by omega
          have kml : (k : Int) + 10 < 20 := by omega
          have hcw : IntKind.i64.wrap (cc : Int) = cc := IntWalk.i64_in _ (by have := HRW.out.2; omega)
          clear hlt2
          go_wp2
          go_roundw
          case rel =>
            refine ⟨k + 1, by omega, by go_num, hB.setCell (Nat.le_refl _) _, ?_⟩
            have h := hZ.set (k + 10) ((cc : Nat) : Int)
            rw [nl_set, Nat.zero_add] at h
            rw [HCN.out]
            exact h
          case measure => simp [intOf]; omega
    · have e : k = 10 := by omega
      rw [e, ← HDC.out] at hZ
      have hk16 : ¬ (k : Int) < 10 := by omega
      have hNZ : Nums wr .i64 (some ⟨w.heap.size, 0, none⟩) (nl (digs xs ys)) := hZ.nums
      generalize digs xs ys = ds at *
      clear hZ hlt e HDC HXD HYD
      go_wp2_with (fail)
      refine (mod_walk (some ⟨w.heap.size, 0, none⟩) 20 20 _ ds HDE.out.1 (by omega) HDE.out.2.1 hNZ).mono ?_
      rw [HDE.out.2.2]
      rintro e w6 ⟨A2, c2, ys2, rfl, HY, hN2, hb6⟩
      go_wp2
      go_ret
      exact ROut.mk HY.out (hN2.less hB.size) (hB.trans (Below.mono hb6 hB.size))
end Go.Proofs.YtpiamcgienkhaaaDoor
