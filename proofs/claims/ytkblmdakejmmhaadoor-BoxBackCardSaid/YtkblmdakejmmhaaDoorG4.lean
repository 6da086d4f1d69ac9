/- Texts of this proof, laid together: App, RefA, RefB, Prime, Cert, ModMath. -/
import Derived.Test.YtkblmdakejmmhaaDoorG1
import Derived.Maps.AppendAt
import Derived.Maps.Range
import Derived.Deep.AppendLies
import Derived.WideShapes
import Derived.Test.YtkblmdakejmmhaaDoorG2
import Derived.Laws.OwnMore
import Derived.KernelRfl
/- A row of numbers is appended to a row of the call's own, wherever it lies; what then has turned. No program is named. -/
namespace Go.Proofs.YtkblmdakejmmhaaDoor
open Go.RowKit Go.WideShapes Go.ChangeShapes

/-- From w to w' nothing old has turned but the row v, and the row is now v': the same block, or a new one. -/
def Grew (w w' : World) (v v' : Value) : Prop := w.grownBy w' v.ownBlock ∧ (v'.ownBlock = v.ownBlock ∨ ∀ g, v'.ownBlock = some g → w.heap.size ≤ g)
theorem Grew.refl (w : World) (v : Value) : Grew w w v v := ⟨World.grownBy.refl w _, .inl rfl⟩
theorem grown_of_below {w w' : World} (h : Below w.heap.size w w') (row : Option Nat) : w.grownBy w' row := ⟨h.os, h.tape, h.output, h.size, fun k hk _ => h.block k hk⟩
theorem Grew.below {w w' : World} {v v' : Value} {base : Nat} (h : Grew w w' v v') (hb : base ≤ w.heap.size) (hv : ∀ g, v.ownBlock = some g → base ≤ g) : Below base w w' :=
  (Below.refl base w).grown h.1 hb hv
theorem Grew.cell {w w' : World} {v v' : Value} (h : Grew w w' v v') {p : Addr} (hp : p.block < w.heap.size) (hne : v.ownBlock ≠ some p.block) : w'.cell? p = w.cell? p :=
  World.cell?_of_block (h.1.block p.block hp (fun e => hne e.symm))

section
variable {P : Program} {w : World} {base : Nat} {e : TypeId} {k : IntKind}

theorem run_app_nil (t ty : TypeId) (bytes : Nat) (ht : P.underlying t = some (.slice e)) (hinf : (P.info? e).map (fun i => (i.zero, i.size, i.bytes)) = some (some (.int k 0), 1, bytes))
    (v : Value) (xs : List Int) (hown : Owns w base e k v xs) (c : Nat) : (Builtin.append_ #[t, t] ty #[v, .slice none 0 c]).run P w = .ok v w := by
  obtain ⟨i, hi, _, _, _⟩ := info_parts hinf
  rcases hown.2 with ⟨rfl, _⟩ | ⟨g, cap, cur, rfl, _, _, hnc, _⟩
  · simp [Builtin.append_, run_underlying ht, sizeOf, typeInfo, hi, Builtin.lenOf, Builtin.firstCells]
  · simp [Builtin.append_, run_underlying ht, sizeOf, typeInfo, hi, Builtin.lenOf, Builtin.firstCells, hnc, storeCells]

theorem run_app (t ty : TypeId) (bytes : Nat) (ht : P.underlying t = some (.slice e)) (hinf : (P.info? e).map (fun i => (i.zero, i.size, i.bytes)) = some (some (.int k 0), 1, bytes)) (hbt : 0 < bytes)
    (A : Option Addr) (n c : Nat) (xs : List Int) (hown : Owns w base e k (.slice A n c) xs) (B : Option Addr) (d : Nat) (ys : List Int) (hB : Nums w k B ys)
    (h63 : (xs.length + ys.length) * bytes ≤ 140737488355328) (hbase : base ≤ w.heap.size) :
    ∃ A' n' c' w', (Builtin.append_ #[t, t] ty #[.slice A n c, .slice B ys.length d]).run P w = .ok (.slice A' n' c') w' ∧ Owns w' base e k (.slice A' n' c') (xs ++ ys) ∧ Grew w w' (.slice A n c) (.slice A' n' c') := by
  by_cases h0 : ys.length = 0 ∧ B = none
  · obtain ⟨h1, rfl⟩ := h0
    obtain rfl := List.eq_nil_of_length_eq_zero h1
    exact ⟨A, n, c, w, run_app_nil t ty bytes ht hinf _ xs hown d, by rw [List.append_nil]; exact hown, Grew.refl _ _⟩
  · obtain ⟨i, hi, hz, hsize, hby⟩ := info_parts hinf
    have hm : xs.length + ys.length ≤ maxLen := by
      have : xs.length + ys.length ≤ (xs.length + ys.length) * bytes := Nat.le_mul_of_pos_right _ hbt
      unfold maxLen; omega
    obtain ⟨ad, rfl⟩ : ∃ ad, B = some ad := by
      cases B with
      | some ad => exact ⟨ad, rfl⟩
      | none =>
        exfalso
        have hp : 0 < ys.length := by
          rcases Nat.eq_zero_or_pos ys.length with h | h
          · exact absurd ⟨h, rfl⟩ h0
          · exact h
        obtain ⟨b, off, he, _⟩ := hB hp
        cases he
    obtain ⟨v', w', hrun, h2, h3, _, h5⟩ := run_append_own_at (P := P) w base t ty e i (.int k 0) 1 bytes ht hi hz hsize hby rfl (by omega) (.slice A n c) xs.length (xs.map (Value.int k)) hown ad ys.length d (ys.map (Value.int k)) (by simp)
      (fun j u hu => by
        have hj : j < ys.length := by have := (List.getElem?_eq_some_iff.1 hu).1; simpa using this
        obtain ⟨b, off, he, _, hc⟩ := hB (by omega)
        injection he with he
        subst he
        rw [add_plain, hc j hj]
        simp [hj] at hu
        simp [hj, ← hu]) (fun u hu => by
        obtain ⟨y, _, rfl⟩ := List.mem_map.1 hu
        rfl) hm h63 hbase
    have hform : ∃ A' n' c', v' = .slice A' n' c' := by
      rcases h2.2 with ⟨hv, _⟩ | ⟨g, cap, cur, hv, _⟩
      · exact ⟨_, _, _, hv⟩
      · exact ⟨_, _, _, hv⟩
    obtain ⟨A', n', c', rfl⟩ := hform
    refine ⟨A', n', c', w', hrun, ?_, h3, ?_⟩
    · unfold Owns
      rw [List.map_append, List.length_append]
      exact h2
    · rcases h5 with h | h
      · exact .inl h
      · exact .inr fun g hg => by rw [h] at hg; injection hg with hg; omega

theorem wp_app {o : Oper} {a : Act} {K : Act → World → Prop} {Q : Exit → Act → World → Prop} (s x : Operand) (t : TypeId)
    (ho : o.op = .call { callee := .builtin .append, args := #[s, x], argTypes := #[t, t] }) (base : Nat) (e : TypeId) (k : IntKind) (bytes : Nat) (ht : P.underlying t = some (.slice e))
    (hinf : (P.info? e).map (fun i => (i.zero, i.size, i.bytes)) = some (some (.int k 0), 1, bytes)) (hbt : 0 < bytes) (A : Option Addr) (n c : Nat) (xs : List Int) (hs : a.eval s = .slice A n c)
    (hown : Owns w base e k (.slice A n c) xs) (B : Option Addr) (d : Nat) (ys : List Int) (hx : a.eval x = .slice B ys.length d) (hB : Nums w k B ys) (h63 : (xs.length + ys.length) * bytes ≤ 140737488355328) (hbase : base ≤ w.heap.size)
    (h : ∀ A' n' c' w', Owns w' base e k (.slice A' n' c') (xs ++ ys) → Grew w w' (.slice A n c) (.slice A' n' c') → K (a.put o.dst (.slice A' n' c')) w') : o.wp P a w K Q := by
  obtain ⟨A', n', c', w', hrun, h2, h3⟩ := run_app (P := P) t o.type bytes ht hinf hbt A n c xs hown B d ys hB h63 hbase
  unfold Oper.wp execOp
  simp only [ho, resolve, invoke, builtin, Sem.run_bind, Sem.run_pure, Result.andThen_ok, List.map_toArray, List.map_cons, List.map_nil, hs, hx, hrun]
  exact h A' n' c' w' h2 h3

theorem app_nums {ops : Array Oper} {rest : List Oper} {o : Oper} {a : Act} {Q : Exit → Act → World → Prop} (hgd : o.guard = none) (s x : Operand) (t : TypeId)
    (ho : o.op = .call { callee := .builtin .append, args := #[s, x], argTypes := #[t, t] }) (base : Nat) (e : TypeId) (k : IntKind) (bytes : Nat) (ht : P.underlying t = some (.slice e))
    (hinf : (P.info? e).map (fun i => (i.zero, i.size, i.bytes)) = some (some (.int k 0), 1, bytes)) (hbt : 0 < bytes) (A : Option Addr) (n c : Nat) (xs : List Int) (hs : a.eval s = .slice A n c)
    (hown : Owns w base e k (.slice A n c) xs) (B : Option Addr) (d : Nat) (ys : List Int) (hx : a.eval x = .slice B ys.length d) (hB : Nums w k B ys) (h63 : (xs.length + ys.length) * bytes ≤ 140737488355328) (hbase : base ≤ w.heap.size)
    (h : ∀ A' n' c' w', Owns w' base e k (.slice A' n' c') (xs ++ ys) → Grew w w' (.slice A n c) (.slice A' n' c') → wpList P ops Q rest (a.put o.dst (.slice A' n' c')) w') : wpList P ops Q (o :: rest) a w :=
  wpList_plain hgd fun _ hK => wp_app s x t ho base e k bytes ht hinf hbt A n c xs hs hown B d ys hx hB h63 hbase fun A' n' c' w' h2 h3 => hK _ _ (h A' n' c' w' h2 h3)

end

theorem Owns.stay {w w' : World} {base : Nat} {e : TypeId} {k : IntKind} {v : Value} {xs : List Int} (h : Owns w base e k v xs) (hb : Below w.heap.size w w') : Owns w' base e k v xs := by
  refine ⟨h.1, ?_⟩
  rcases h.2 with h2 | ⟨g, cap, cur, hv, hg, hh, r⟩
  · exact .inl h2
  · refine .inr ⟨g, cap, cur, hv, hg, (hb.block g ?_).trans hh, r⟩
    rcases Nat.lt_or_ge g w.heap.size with hlt | hge
    · exact hlt
    · rw [Array.getElem?_eq_none hge] at hh; cases hh

/-- A row that was just written out. -/
theorem Owns.new (w : World) (base : Nat) (e : TypeId) (k : IntKind) (xs : List Int) (hb : base ≤ w.heap.size) (hm : xs.length ≤ maxLen) : Owns (w.alloc (.cells (xs.map (Value.int k)).toArray e)) base e k (.slice (some ⟨w.heap.size, 0, none⟩) xs.length xs.length) xs := by
  refine ⟨by simp, .inr ⟨w.heap.size, xs.length, (xs.map (Value.int k)).toArray, rfl, hb, heap_alloc_new w _, Nat.le_refl _, hm, by simp, by simp [List.take_of_length_le]⟩⟩

theorem nums_two (w : World) (k : IntKind) (x y : Int) (t : TypeId) : Nums (w.alloc (.cells #[.int k x, .int k y] t)) k (some ⟨w.heap.size, 0, none⟩) [x, y] := fun _ =>
  ⟨w.heap.size, 0, rfl, by simp, fun i hi => by
    have : i = 0 ∨ i = 1 := by simp at hi; omega
    rcases this with rfl | rfl <;> go_simp⟩
end Go.Proofs.YtkblmdakejmmhaaDoor

/- The reference's prime, comparison and difference. -/
namespace Go.Proofs.YtkblmdakejmmhaaDoor
open Go.RowKit

def PD : List Nat := 65517 :: (List.replicate 14 65535 ++ [32767])
theorem drop_step {l : List Nat} {i : Nat} (h : i < l.length) : l.drop i = l.getD i 0 :: l.drop (i + 1) := by
  rw [List.drop_eq_getElem_cons h]
  simp [h]
theorem dv_cut {l : List Nat} {i : Nat} (h : i < l.length) : dv l = dv (l.take i) + 65536 ^ i * (l.getD i 0 + 65536 * dv (l.drop (i + 1))) := by
  rw [dv_split l i (by omega), drop_step h, dv]
/-- The same world behind some draws. -/
def Drawn (w w' : World) : Prop := ∃ n, w' = w.drewN n
end Go.Proofs.YtkblmdakejmmhaaDoor

/- The reference's difference. -/
namespace Go.Proofs.YtkblmdakejmmhaaDoor
open Go.RowKit
/-- What has been taken away, digit by digit. -/
def LessI (l m ys : List Nat) (bo k : Nat) : Prop := ys.length = k ∧ Digs ys ∧ bo ≤ 1 ∧ dv ys + dv (m.take k) = dv (l.take k) + bo * 65536 ^ k
end Go.Proofs.YtkblmdakejmmhaaDoor

/- Orders of numbers modulo m; a number with an element of full order is prime; every number that is not 0 is a power of such an element. No program. -/
namespace Go.Proofs.YtkblmdakejmmhaaDoor.NT

theorem least {p : Nat → Prop} (h : ∃ n, p n) : ∃ n, p n ∧ ∀ k, k < n → ¬ p k := by
  obtain ⟨n, hn⟩ := h
  induction n using Nat.strongRecOn with
  | _ n ih =>
    by_cases hk : ∃ k, k < n ∧ p k
    · obtain ⟨k, h1, h2⟩ := hk
      exact ih k h1 h2
    · exact ⟨n, hn, fun k h1 h2 => hk ⟨k, h1, h2⟩⟩
def Pr (p : Nat) : Prop := 1 < p ∧ ∀ d, d ∣ p → d = 1 ∨ d = p
theorem prime_factor {e : Nat} (he : 1 < e) : ∃ p, Pr p ∧ p ∣ e := by
  obtain ⟨p, ⟨h1, h2⟩, h3⟩ := least (p := fun p => 1 < p ∧ p ∣ e) ⟨e, he, Nat.dvd_refl e⟩
  refine ⟨p, ⟨h1, fun d hd => ?_⟩, h2⟩
  have hdp := Nat.le_of_dvd (by omega) hd
  have hd0 : 0 < d := Nat.pos_of_dvd_of_pos hd (by omega)
  by_cases e1 : d = 1
  · exact .inl e1
  · by_cases e2 : d = p
    · exact .inr e2
    · exact absurd ⟨by omega, Nat.dvd_trans hd h2⟩ (h3 d (by omega))
theorem euclid {p a b : Nat} (hp : Pr p) (h : p ∣ a * b) : p ∣ a ∨ p ∣ b := by
  rcases hp.2 _ (Nat.gcd_dvd_left p a) with h1 | h1
  · exact .inr (Nat.Coprime.dvd_of_dvd_mul_left h1 h)
  · exact .inl (h1 ▸ Nat.gcd_dvd_right p a)
def prod : List Nat → Nat
  | [] => 1
  | x :: l => x * prod l
theorem in_prod {p : Nat} (hp : Pr p) : ∀ l : List Nat, (∀ f ∈ l, Pr f) → p ∣ prod l → p ∈ l
  | [], _, h => by
    have := Nat.le_of_dvd (by decide) h
    have := hp.1
    simp [prod] at *; omega
  | x :: l, hl, h => by
    rcases euclid hp h with h1 | h1
    · rcases (hl x (by simp)).2 p h1 with h2 | h2
      · have := hp.1; omega
      · simp [h2]
    · exact List.mem_cons_of_mem _ (in_prod hp l (fun f hf => hl f (by simp [hf])) h1)
theorem pow_mod_mul {a m i j : Nat} : a ^ (i + j) % m = (a ^ i % m) * (a ^ j % m) % m := by rw [Nat.pow_add, Nat.mul_mod]
theorem one_pow_mod {b m : Nat} (hm : 1 < m) (h : b % m = 1) (n : Nat) : b ^ n % m = 1 := by
  induction n with
  | zero => rw [Nat.pow_zero]; exact Nat.mod_eq_of_lt hm
  | succ n ih => rw [Nat.pow_succ, Nat.mul_mod, ih, h]; exact Nat.mod_eq_of_lt hm
/-- The order of a is N. -/
theorem order_is {a m N : Nat} {fs : List Nat} (hm : 1 < m) (hN : a ^ N % m = 1) (hpf : prod fs = N) (hfs : ∀ f ∈ fs, Pr f) (hne : ∀ f ∈ fs, a ^ (N / f) % m ≠ 1) (h0 : 0 < N) :
    ∀ d, 0 < d → d < N → a ^ d % m ≠ 1 := by
  obtain ⟨d, ⟨hd0, hd1⟩, hmin⟩ := least (p := fun d => 0 < d ∧ a ^ d % m = 1) ⟨N, h0, hN⟩
  have hdN : d ∣ N := by
    have e := Nat.div_add_mod N d
    have hr : a ^ (N % d) % m = 1 := by
      have h1 : a ^ N % m = (a ^ (d * (N / d)) % m) * (a ^ (N % d) % m) % m := by rw [← pow_mod_mul, e]
      rw [Nat.pow_mul, one_pow_mod hm hd1, Nat.one_mul, Nat.mod_mod, hN] at h1
      exact h1.symm
    rcases Nat.eq_zero_or_pos (N % d) with h | h
    · exact Nat.dvd_of_mod_eq_zero h
    · exact absurd ⟨h, hr⟩ (hmin _ (Nat.mod_lt _ hd0))
  have hd : d = N := by
    obtain ⟨e, he⟩ := hdN
    by_cases e1 : e = 1
    · subst e1; omega
    · exfalso
      have hepos : 1 < e := by
        rcases Nat.eq_zero_or_pos e with h | h
        · subst h; omega
        · omega
      obtain ⟨p, hp, e', rfl⟩ := prime_factor hepos
      have hpN : p ∣ prod fs := by rw [hpf, he]; exact ⟨d * e', by rw [← Nat.mul_assoc, ← Nat.mul_assoc, Nat.mul_comm d p]⟩
      have hmem := in_prod hp fs hfs hpN
      refine hne p hmem ?_
      have e2 : N / p = d * e' := by
        rw [he, ← Nat.mul_assoc, Nat.mul_comm d p, Nat.mul_assoc]
        exact Nat.mul_div_cancel_left _ (by have := hp.1; omega)
      rw [e2, Nat.pow_mul]
      exact one_pow_mod hm hd1 _
  intro k hk0 hkN hk1
  exact hmin k (by omega) ⟨hk0, hk1⟩
theorem nodup_le : ∀ (n : Nat) (L : List Nat), L.Nodup → (∀ x ∈ L, 1 ≤ x ∧ x ≤ n) → L.length ≤ n
  | 0, L, _, h => by
    cases L with
    | nil => simp
    | cons x L => have := h x (by simp); omega
  | n + 1, L, hn, h => by
    have h1 := nodup_le n (L.erase (n + 1)) (hn.erase _) (fun x hx => by
      have h2 := h x (List.mem_of_mem_erase hx)
      have h3 : x ≠ n + 1 := fun e => by subst e; exact (List.Nodup.not_mem_erase hn) hx
      omega)
    have h2 : L.length ≤ (L.erase (n + 1)).length + 1 := by
      rw [List.length_erase]; split <;> omega
    omega
/-- Where a's order is m - 1, each number from 1 on is a power of a. -/
theorem all_powers {a m N : Nat} (hm : m = N + 1) (h0 : 0 < N) (hN : a ^ N % m = 1) (ho : ∀ d, 0 < d → d < N → a ^ d % m ≠ 1) (x : Nat) (hx0 : 0 < x) (hx : x < m) : ∃ i, a ^ i % m = x := by
  have hm1 : 1 < m := by omega
  refine Classical.byContradiction fun hno => ?_
  have hcancel : ∀ i j, i < j → j < N → a ^ i % m ≠ a ^ j % m := fun i j hij hj he => by
    refine ho (j - i) (by omega) (by omega) ?_
    have h1 : a ^ (N - j + i) % m = a ^ (N - j + j) % m := by rw [pow_mod_mul, he, ← pow_mod_mul]
    rw [show N - j + j = N by omega, hN] at h1
    -- a^(N - j + i) = 1, and a^N = 1, so a^(j - i) = 1
    have h2 : a ^ (N - j + i + (j - i)) % m = (a ^ (N - j + i) % m) * (a ^ (j - i) % m) % m := pow_mod_mul
    rw [show N - j + i + (j - i) = N by omega, hN, h1, Nat.one_mul, Nat.mod_mod] at h2
    exact h2.symm
  have hnz : ∀ i, i < N → 1 ≤ a ^ i % m ∧ a ^ i % m ≤ N := fun i hi => by
    have h1 := Nat.mod_lt (a ^ i) (show 0 < m by omega)
    refine ⟨?_, by omega⟩
    rcases Nat.eq_zero_or_pos (a ^ i % m) with h | h
    · have h2 : a ^ (i + (N - i)) % m = (a ^ i % m) * (a ^ (N - i) % m) % m := pow_mod_mul
      rw [show i + (N - i) = N by omega, hN, h, Nat.zero_mul, Nat.zero_mod] at h2
      omega
    · exact h
  have hnd : (x :: (List.range N).map fun i => a ^ i % m).Nodup := by
    rw [List.nodup_cons]
    refine ⟨fun hmem => ?_, ?_⟩
    · obtain ⟨i, _, hi⟩ := List.mem_map.1 hmem
      exact hno ⟨i, hi⟩
    · rw [List.nodup_iff_pairwise_ne, List.pairwise_map]
      refine List.Pairwise.imp_of_mem ?_ (List.pairwise_lt_range (n := N))
      intro i j hi hj hij
      exact hcancel i j hij (List.mem_range.1 hj)
  have := nodup_le N _ hnd (fun y hy => by
    rcases List.mem_cons.1 hy with h | h
    · subst h; omega
    · obtain ⟨i, hi, rfl⟩ := List.mem_map.1 h
      exact hnz i (List.mem_range.1 hi))
  simp at this; omega
/-- So it is prime. -/
theorem prime_of_order {a m N : Nat} (hm : m = N + 1) (h0 : 0 < N) (hN : a ^ N % m = 1) (ho : ∀ d, 0 < d → d < N → a ^ d % m ≠ 1) : Pr m := by
  refine ⟨by omega, fun d hd => ?_⟩
  have hd0 : 0 < d := Nat.pos_of_dvd_of_pos hd (by omega)
  have hdm := Nat.le_of_dvd (by omega) hd
  by_cases e : d = m
  · exact .inr e
  · left
    obtain ⟨i, hi⟩ := all_powers hm h0 hN ho d hd0 (by omega)
    -- d^N = 1 modulo m
    have h1 : d ^ N % m = 1 := by
      rw [← hi, ← Nat.pow_mod, ← Nat.pow_mul, Nat.mul_comm, Nat.pow_mul]
      exact one_pow_mod (by omega) hN i
    have h2 : d ∣ d ^ N := by
      obtain ⟨k, rfl⟩ : ∃ k, N = k + 1 := ⟨N - 1, by omega⟩
      exact ⟨d ^ k, by rw [Nat.pow_succ, Nat.mul_comm]⟩
    have h3 : d ∣ d ^ N % m := (Nat.dvd_mod_iff hd).2 h2
    rw [h1] at h3
    exact Nat.dvd_one.1 h3
theorem fermat_of_order {a m N : Nat} (hm : m = N + 1) (h0 : 0 < N) (hN : a ^ N % m = 1) (ho : ∀ d, 0 < d → d < N → a ^ d % m ≠ 1) (x : Nat) (hx0 : 0 < x) (hx : x < m) : x ^ N % m = 1 := by
  obtain ⟨i, hi⟩ := all_powers hm h0 hN ho x hx0 hx
  rw [← hi, ← Nat.pow_mod, ← Nat.pow_mul, Nat.mul_comm, Nat.pow_mul]
  exact one_pow_mod (by omega) hN i

/-- Powers modulo m, by halves. -/
def pm (m : Nat) : Nat → Nat → Nat → Nat → Nat
  | 0, _, _, r => r
  | f + 1, a, n, r => pm m f (a * a % m) (n / 2) (if n % 2 = 1 then r * a % m else r)
theorem pm_is (m : Nat) : ∀ (f a n r : Nat), n < 2 ^ f → pm m f a n r % m = r * a ^ n % m
  | 0, a, n, r, h => by
    have : n = 0 := by simpa using h
    subst this; simp [pm]
  | f + 1, a, n, r, h => by
    have h2 : n / 2 < 2 ^ f := by rw [Nat.pow_succ] at h; omega
    rw [pm, pm_is m f _ _ _ h2, Nat.mul_mod, ← Nat.pow_mod, ← Nat.mul_mod]
    have e : (a * a) ^ (n / 2) = a ^ (n / 2 + n / 2) := by rw [Nat.mul_pow, ← Nat.pow_add]
    by_cases hn : n % 2 = 1
    · rw [if_pos hn, Nat.mul_mod, Nat.mod_mod, ← Nat.mul_mod, e, Nat.mul_assoc, Nat.mul_comm a, ← Nat.pow_succ]
      congr 3; omega
    · rw [if_neg hn, e]
      congr 3; omega
theorem pow_is {m a n v : Nat} (f : Nat) (hn : n < 2 ^ f) (h : pm m f a n 1 % m = v) : a ^ n % m = v := by
  rw [pm_is m f a n 1 hn, Nat.one_mul] at h; exact h
/-- What a certificate has to show. -/
def certB (m a f : Nat) (fs : List Nat) : Bool :=
  decide (1 < m) && decide (prod fs = m - 1) && decide (m - 1 < 2 ^ f) && decide (pm m f a (m - 1) 1 % m = 1) && fs.all fun q => decide (pm m f a ((m - 1) / q) 1 % m ≠ 1)
theorem cert_order {m a f : Nat} {fs : List Nat} (h : certB m a f fs = true) (hfs : ∀ q ∈ fs, Pr q) (h0 : 1 < m - 1) : a ^ (m - 1) % m = 1 ∧ ∀ d, 0 < d → d < m - 1 → a ^ d % m ≠ 1 := by
  simp only [certB, Bool.and_eq_true, decide_eq_true_eq] at h
  obtain ⟨⟨⟨⟨h1, h2⟩, h3⟩, h4⟩, h5⟩ := h
  have hN := pow_is f h3 h4
  refine ⟨hN, order_is h1 hN h2 hfs (fun q hq he => ?_) (by omega)⟩
  have h6 := List.all_eq_true.1 h5 q hq
  simp only [decide_eq_true_eq] at h6
  refine h6 ?_
  have hlt : (m - 1) / q < 2 ^ f := Nat.lt_of_le_of_lt (Nat.div_le_self _ _) h3
  rw [pm_is m f a _ 1 hlt, Nat.one_mul]
  exact he
theorem cert_prime {m a f : Nat} {fs : List Nat} (h : certB m a f fs = true) (hfs : ∀ q ∈ fs, Pr q) (h0 : 1 < m - 1) : Pr m := by
  have h1 : 1 < m := by simp only [certB, Bool.and_eq_true, decide_eq_true_eq] at h; exact h.1.1.1.1
  obtain ⟨h2, h3⟩ := cert_order h hfs h0
  exact prime_of_order (N := m - 1) (by omega) (by omega) h2 h3
/-- Small primes, by trial. -/
def smallB (p : Nat) : Bool := decide (1 < p) && (List.range p).all fun d => decide (d < 2) || decide (p % d ≠ 0)
theorem small_prime {p : Nat} (h : smallB p = true) : Pr p := by
  simp only [smallB, Bool.and_eq_true, decide_eq_true_eq] at h
  refine ⟨h.1, fun d hd => ?_⟩
  have hle := Nat.le_of_dvd (by omega) hd
  have hd0 := Nat.pos_of_dvd_of_pos hd (show 0 < p by omega)
  by_cases e : d = p
  · exact .inr e
  · left
    have h1 := List.all_eq_true.1 h.2 d (List.mem_range.2 (by omega))
    simp only [Bool.or_eq_true, decide_eq_true_eq] at h1
    rcases h1 with h1 | h1
    · omega
    · exact absurd (Nat.mod_eq_zero_of_dvd hd) h1
end Go.Proofs.YtkblmdakejmmhaaDoor.NT

/- The prime 2^255 - 19: its certificate, and Fermat's theorem for it. No program. -/
namespace Go.Proofs.YtkblmdakejmmhaaDoor.NT
theorem pr_2 : Pr 2 := small_prime (by kernel_rfl)
theorem pr_17 : Pr 17 := small_prime (by kernel_rfl)
theorem pr_479 : Pr 479 := small_prime (by kernel_rfl)
theorem pr_32573 : Pr 32573 :=
  cert_prime (a := 2) (f := 15) (fs := [2, 2, 17, 479]) (by kernel_rfl) (by intro q hq; simp only [List.mem_cons, List.not_mem_nil, or_false] at hq; rcases hq with rfl | rfl | rfl | rfl <;> first | exact pr_2 | exact pr_17 | exact pr_479) (by decide)
theorem pr_65147 : Pr 65147 :=
  cert_prime (a := 2) (f := 16) (fs := [2, 32573]) (by kernel_rfl) (by intro q hq; simp only [List.mem_cons, List.not_mem_nil, or_false] at hq; rcases hq with rfl | rfl <;> first | exact pr_2 | exact pr_32573) (by decide)
theorem pr_353 : Pr 353 := small_prime (by kernel_rfl)
theorem pr_3 : Pr 3 := small_prime (by kernel_rfl)
theorem pr_5 : Pr 5 := small_prime (by kernel_rfl)
theorem pr_13 : Pr 13 := small_prime (by kernel_rfl)
theorem pr_97 : Pr 97 := small_prime (by kernel_rfl)
theorem pr_419 : Pr 419 := small_prime (by kernel_rfl)
theorem pr_7 : Pr 7 := small_prime (by kernel_rfl)
theorem pr_569003 : Pr 569003 :=
  cert_prime (a := 2) (f := 20) (fs := [2, 7, 97, 419]) (by kernel_rfl) (by intro q hq; simp only [List.mem_cons, List.not_mem_nil, or_false] at hq; rcases hq with rfl | rfl | rfl | rfl <;> first | exact pr_2 | exact pr_7 | exact pr_97 | exact pr_419) (by decide)
theorem pr_2437 : Pr 2437 := small_prime (by kernel_rfl)
theorem pr_2773320623 : Pr 2773320623 :=
  cert_prime (a := 5) (f := 32) (fs := [2, 2437, 569003]) (by kernel_rfl) (by intro q hq; simp only [List.mem_cons, List.not_mem_nil, or_false] at hq; rcases hq with rfl | rfl | rfl <;> first | exact pr_2 | exact pr_2437 | exact pr_569003) (by decide)
theorem pr_72106336199 : Pr 72106336199 :=
  cert_prime (a := 7) (f := 37) (fs := [2, 13, 2773320623]) (by kernel_rfl) (by intro q hq; simp only [List.mem_cons, List.not_mem_nil, or_false] at hq; rcases hq with rfl | rfl | rfl <;> first | exact pr_2 | exact pr_13 | exact pr_2773320623) (by decide)
theorem pr_47 : Pr 47 := small_prime (by kernel_rfl)
theorem pr_19 : Pr 19 := small_prime (by kernel_rfl)
theorem pr_103 : Pr 103 := small_prime (by kernel_rfl)
theorem pr_991 : Pr 991 := small_prime (by kernel_rfl)
theorem pr_8574133 : Pr 8574133 :=
  cert_prime (a := 2) (f := 24) (fs := [2, 2, 3, 7, 103, 991]) (by kernel_rfl) (by intro q hq; simp only [List.mem_cons, List.not_mem_nil, or_false] at hq; rcases hq with rfl | rfl | rfl | rfl | rfl | rfl <;> first | exact pr_2 | exact pr_3 | exact pr_7 | exact pr_103 | exact pr_991) (by decide)
theorem pr_127 : Pr 127 := small_prime (by kernel_rfl)
theorem pr_1919519569386763 : Pr 1919519569386763 :=
  cert_prime (a := 2) (f := 51) (fs := [2, 3, 7, 19, 47, 47, 127, 8574133]) (by kernel_rfl) (by intro q hq; simp only [List.mem_cons, List.not_mem_nil, or_false] at hq; rcases hq with rfl | rfl | rfl | rfl | rfl | rfl | rfl | rfl <;> first | exact pr_2 | exact pr_3 | exact pr_7 | exact pr_19 | exact pr_47 | exact pr_127 | exact pr_8574133) (by decide)
theorem pr_83 : Pr 83 := small_prime (by kernel_rfl)
theorem pr_9463 : Pr 9463 :=
  cert_prime (a := 3) (f := 14) (fs := [2, 3, 19, 83]) (by kernel_rfl) (by intro q hq; simp only [List.mem_cons, List.not_mem_nil, or_false] at hq; rcases hq with rfl | rfl | rfl | rfl <;> first | exact pr_2 | exact pr_3 | exact pr_19 | exact pr_83) (by decide)
theorem pr_37853 : Pr 37853 :=
  cert_prime (a := 2) (f := 16) (fs := [2, 2, 9463]) (by kernel_rfl) (by intro q hq; simp only [List.mem_cons, List.not_mem_nil, or_false] at hq; rcases hq with rfl | rfl | rfl <;> first | exact pr_2 | exact pr_9463) (by decide)
theorem pr_75707 : Pr 75707 :=
  cert_prime (a := 2) (f := 17) (fs := [2, 37853]) (by kernel_rfl) (by intro q hq; simp only [List.mem_cons, List.not_mem_nil, or_false] at hq; rcases hq with rfl | rfl <;> first | exact pr_2 | exact pr_37853) (by decide)
theorem pr_75445702479781427272750846543864801 : Pr 75445702479781427272750846543864801 :=
  cert_prime (a := 7) (f := 116) (fs := [2, 2, 2, 2, 2, 3, 3, 5, 5, 75707, 72106336199, 1919519569386763]) (by kernel_rfl) (by intro q hq; simp only [List.mem_cons, List.not_mem_nil, or_false] at hq; rcases hq with rfl | rfl | rfl | rfl | rfl | rfl | rfl | rfl | rfl | rfl | rfl | rfl <;> first | exact pr_2 | exact pr_3 | exact pr_5 | exact pr_75707 | exact pr_72106336199 | exact pr_1919519569386763) (by decide)
theorem pr_131 : Pr 131 := small_prime (by kernel_rfl)
theorem pr_132049 : Pr 132049 :=
  cert_prime (a := 26) (f := 18) (fs := [2, 2, 2, 2, 3, 3, 7, 131]) (by kernel_rfl) (by intro q hq; simp only [List.mem_cons, List.not_mem_nil, or_false] at hq; rcases hq with rfl | rfl | rfl | rfl | rfl | rfl | rfl | rfl <;> first | exact pr_2 | exact pr_3 | exact pr_7 | exact pr_131) (by decide)
theorem pr_107 : Pr 107 := small_prime (by kernel_rfl)
theorem pr_1723 : Pr 1723 := small_prime (by kernel_rfl)
theorem pr_430751 : Pr 430751 :=
  cert_prime (a := 17) (f := 19) (fs := [2, 5, 5, 5, 1723]) (by kernel_rfl) (by intro q hq; simp only [List.mem_cons, List.not_mem_nil, or_false] at hq; rcases hq with rfl | rfl | rfl | rfl | rfl <;> first | exact pr_2 | exact pr_5 | exact pr_1723) (by decide)
theorem pr_173 : Pr 173 := small_prime (by kernel_rfl)
theorem pr_4153 : Pr 4153 :=
  cert_prime (a := 5) (f := 13) (fs := [2, 2, 2, 3, 173]) (by kernel_rfl) (by intro q hq; simp only [List.mem_cons, List.not_mem_nil, or_false] at hq; rcases hq with rfl | rfl | rfl | rfl | rfl <;> first | exact pr_2 | exact pr_3 | exact pr_173) (by decide)
theorem pr_31 : Pr 31 := small_prime (by kernel_rfl)
theorem pr_223 : Pr 223 := small_prime (by kernel_rfl)
theorem pr_31757755568855353 : Pr 31757755568855353 :=
  cert_prime (a := 10) (f := 55) (fs := [2, 2, 2, 3, 31, 107, 223, 4153, 430751]) (by kernel_rfl) (by intro q hq; simp only [List.mem_cons, List.not_mem_nil, or_false] at hq; rcases hq with rfl | rfl | rfl | rfl | rfl | rfl | rfl | rfl | rfl <;> first | exact pr_2 | exact pr_3 | exact pr_31 | exact pr_107 | exact pr_223 | exact pr_4153 | exact pr_430751) (by decide)
theorem pr_59 : Pr 59 := small_prime (by kernel_rfl)
theorem pr_487 : Pr 487 := small_prime (by kernel_rfl)
theorem pr_57467 : Pr 57467 :=
  cert_prime (a := 2) (f := 16) (fs := [2, 59, 487]) (by kernel_rfl) (by intro q hq; simp only [List.mem_cons, List.not_mem_nil, or_false] at hq; rcases hq with rfl | rfl | rfl <;> first | exact pr_2 | exact pr_59 | exact pr_487) (by decide)
theorem pr_43 : Pr 43 := small_prime (by kernel_rfl)
theorem pr_23 : Pr 23 := small_prime (by kernel_rfl)
theorem pr_3727 : Pr 3727 :=
  cert_prime (a := 3) (f := 12) (fs := [2, 3, 3, 3, 3, 23]) (by kernel_rfl) (by intro q hq; simp only [List.mem_cons, List.not_mem_nil, or_false] at hq; rcases hq with rfl | rfl | rfl | rfl | rfl | rfl <;> first | exact pr_2 | exact pr_3 | exact pr_23) (by decide)
theorem pr_1923133 : Pr 1923133 :=
  cert_prime (a := 2) (f := 21) (fs := [2, 2, 3, 43, 3727]) (by kernel_rfl) (by intro q hq; simp only [List.mem_cons, List.not_mem_nil, or_false] at hq; rcases hq with rfl | rfl | rfl | rfl | rfl <;> first | exact pr_2 | exact pr_3 | exact pr_43 | exact pr_3727) (by decide)
theorem pr_74058212732561358302231226437062788676166966415465897661863160754340907 : Pr 74058212732561358302231226437062788676166966415465897661863160754340907 :=
  cert_prime (a := 2) (f := 236) (fs := [2, 3, 353, 57467, 132049, 1923133, 31757755568855353, 75445702479781427272750846543864801]) (by kernel_rfl) (by intro q hq; simp only [List.mem_cons, List.not_mem_nil, or_false] at hq; rcases hq with rfl | rfl | rfl | rfl | rfl | rfl | rfl | rfl <;> first | exact pr_2 | exact pr_3 | exact pr_353 | exact pr_57467 | exact pr_132049 | exact pr_1923133 | exact pr_31757755568855353 | exact pr_75445702479781427272750846543864801) (by decide)
/-- The prime. -/
def PN : Nat := 57896044618658097711785492504343953926634992332820282019728792003956564819949
/-- The order of 2 modulo the prime. -/
theorem two_order : (2 : Nat) ^ (PN - 1) % PN = 1 ∧ ∀ d, 0 < d → d < PN - 1 → (2 : Nat) ^ d % PN ≠ 1 :=
  cert_order (m := PN) (a := 2) (f := 255) (fs := [2, 2, 3, 65147, 74058212732561358302231226437062788676166966415465897661863160754340907]) (by kernel_rfl) (by intro q hq; simp only [List.mem_cons, List.not_mem_nil, or_false] at hq; rcases hq with rfl | rfl | rfl | rfl | rfl <;> first | exact pr_2 | exact pr_3 | exact pr_65147 | exact pr_74058212732561358302231226437062788676166966415465897661863160754340907) (by decide)
theorem fermat (x : Nat) (hx0 : 0 < x) (hx : x < PN) : x ^ (PN - 1) % PN = 1 :=
  fermat_of_order (a := 2) (N := PN - 1) (by decide) (by decide) two_order.1 two_order.2 x hx0 hx
theorem two_half : (2 : Nat) ^ ((PN - 1) / 2) % PN = PN - 1 := pow_is 255 (by decide) (by kernel_rfl)
end Go.Proofs.YtkblmdakejmmhaaDoor.NT

/- What is above bit 254 of a number of digits, and what is below. -/
namespace Go.Proofs.YtkblmdakejmmhaaDoor

/-- What is above the lowest fifteen bits, as digits. -/
def hiL : List Nat → List Nat
  | [] => []
  | a :: r => (a / 32768 + r.getD 0 0 % 32768 * 2) :: hiL r
def lows (xs : List Nat) : List Nat := xs.take 15 ++ [xs.getD 15 0 % 32768]
def highs (xs : List Nat) : List Nat := hiL (xs.drop 15)
def Q255 : Nat := 57896044618658097711785492504343953926634992332820282019728792003956564819968
/-- Nineteen times what is above, added digit by digit. -/
def AddI (low hs zs : List Nat) (cy i : Nat) : Prop := zs.length = low.length ∧ Digs zs ∧ cy ≤ 20 ∧ dv zs + cy * 65536 ^ i = dv low + 19 * dv (hs.take i)
end Go.Proofs.YtkblmdakejmmhaaDoor
