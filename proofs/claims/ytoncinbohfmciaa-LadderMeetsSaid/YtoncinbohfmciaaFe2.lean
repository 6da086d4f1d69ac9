/- What carrying does to the number that the digits make; elements; all modulo the prime. -/
import Derived.Test.YtoncinbohfmciaaMul
namespace Go.Proofs.Ytoncinbohfmciaa

/-- Sixteen digits, the last one of fifteen bits. -/
def Dg (l : List Int) : Prop := l.length = 16 ∧ ∀ (i : Nat) (x : Int), l[i]? = some x → 0 ≤ x ∧ x < 65536 ∧ (i = 15 → x < 32768)
def sg : Nat → Int
  | 0 => 0
  | n + 1 => 1 + 65536 * sg n
theorem ev_bd (b : Int) : ∀ l : List Int, Bd b l → -(b * sg l.length) ≤ ev l ∧ ev l ≤ b * sg l.length
  | [], _ => by simp [ev, sg]
  | x :: l, h => by
    have h1 := ev_bd b l (fun y hy => h y (by simp [hy]))
    have h2 := h x (by simp)
    simp only [ev, List.length_cons, sg, Int.mul_add, Int.mul_one]
    have e : b * (65536 * sg l.length) = 65536 * (b * sg l.length) := by rw [← Int.mul_assoc, Int.mul_comm b, Int.mul_assoc]
    rw [e]; omega
theorem ev_digits : ∀ l : List Int, (∀ x ∈ l, 0 ≤ x ∧ x < 65536) → 0 ≤ ev l ∧ ev l < 65536 ^ l.length
  | [], _ => by simp [ev]
  | x :: l, h => by
    have h1 := ev_digits l (fun y hy => h y (by simp [hy]))
    have h2 := h x (by simp)
    simp only [ev, List.length_cons, Int.pow_succ]
    omega
def Q : Int := 57896044618658097711785492504343953926634992332820282019728792003956564819968
def P : Int := 57896044618658097711785492504343953926634992332820282019728792003956564819949
theorem Dg.split {l : List Int} (h : Dg l) : ∃ d m, l[0]? = some d ∧ 0 ≤ d ∧ d < 65536 ∧ ev l = d + 65536 * m ∧ 0 ≤ m ∧ 65536 * m + 65536 ≤ Q := by
  obtain ⟨hl, hd⟩ := h
  match l, hl with
  | d :: l, hl =>
    have h0 := hd 0 d rfl
    refine ⟨d, ev l, rfl, h0.1, h0.2.1, rfl, ?_⟩
    have hl15 : l.length = 15 := by simpa using hl
    obtain ⟨a, b, rfl⟩ : ∃ a b, l = a ++ [b] := ⟨l.dropLast, l.getLast (by intro e; rw [e] at hl15; simp at hl15), (List.dropLast_concat_getLast _).symm⟩
    have ha : a.length = 14 := by simpa using hl15
    have hb := hd 15 b (by simp [ha])
    have hda := ev_digits a (fun y hy => by
      obtain ⟨i, hi⟩ := List.getElem?_of_mem hy
      have hil := (List.getElem?_eq_some_iff.1 hi).1
      have := hd (i + 1) y (by simp [List.getElem?_append_left hil, hi])
      omega)
    rw [ev_append, ha]
    rw [ha] at hda
    have e14 : (65536 : Int) ^ 14 = 26959946667150639794667015087019630673637144422540572481103610249216 := by decide
    rw [e14] at hda ⊢
    have hb3 := hb.2.2 rfl
    simp only [ev]
    unfold Q
    omega
theorem Dg.bd {l : List Int} (h : Dg l) : 0 ≤ ev l ∧ ev l < Q := by
  obtain ⟨d, m, _, h1, h2, h3, h4, h5⟩ := h.split
  omega
theorem cyA_dg {xs : List Int} (hl : xs.length = 16) : Dg (cyA xs) := by
  refine ⟨by simp [cyA, cl_length, hl], fun i x hi => ?_⟩
  by_cases e : 15 = i
  · subst e
    rw [cyA, List.getElem?_set_self (by rw [cl_length]; omega)] at hi
    injection hi with hi; omega
  · rw [cyA, List.getElem?_set_ne e] at hi
    have hi2 := (List.getElem?_eq_some_iff.1 hi).1
    rw [cl_length] at hi2
    have := cl_below xs 15 i x (by omega) hi
    omega
theorem cyA_ev {xs : List Int} (hl : xs.length = 16) : ev (cyA xs) + Q * (lastOf xs / 32768) = ev xs := by
  have h1 := cl_ev xs 15 (by omega)
  have hs := ev_set (cl xs 15).1 15 (lastOf xs % 32768) _ (getD_some (by rw [cl_length]; omega))
  unfold cyA
  rw [hs]
  have e15 : (65536 : Int) ^ 15 = 1766847064778384329583297500742918515827483896875618958121606201292619776 := by decide
  rw [e15] at h1 ⊢
  unfold lastOf Q
  omega
theorem cy_q {xs : List Int} (hl : xs.length = 16) : lastOf xs / 32768 = ev xs / Q := by
  have h1 := cyA_ev hl
  have h2 := (cyA_dg hl).bd
  unfold Q at *
  omega
theorem cy_set {xs : List Int} (hl : xs.length = 16) {d : Int} (hd : (cyA xs)[0]? = some d) : cy xs = (cyA xs).set 0 (d + 19 * (ev xs / Q)) := by
  unfold cy
  rw [cy_q hl]
  simp [List.getD, hd]
theorem cy_ev {xs : List Int} (hl : xs.length = 16) : ev (cy xs) = ev xs - P * (ev xs / Q) := by
  obtain ⟨d, m, hd, _⟩ := (cyA_dg hl).split
  have h1 := cyA_ev hl
  rw [cy_q hl] at h1
  rw [cy_set hl hd, ev_set _ _ _ _ hd]
  unfold P
  unfold Q at *
  omega
/-- An element as the code keeps it. -/
def El (a : List Int) : Prop := a.length = 16 ∧ ∃ l q, Dg l ∧ ∃ d, l[0]? = some d ∧ a = l.set 0 (d + q) ∧ -19 ≤ d + q ∧ d + q ≤ 65554
theorem El.len {a : List Int} (h : El a) : a.length = 16 := h.1
theorem El.bd {a : List Int} (h : El a) : Bd 70000 a := by
  obtain ⟨_, l, q, hl, d, hd, rfl, h1, h2⟩ := h
  refine Bd.set (fun x hx => ?_) 0 _ (by omega)
  obtain ⟨i, hi⟩ := List.getElem?_of_mem hx
  have := hl.2 i x hi
  omega
theorem El.ev {a : List Int} (h : El a) : -19 ≤ ev a ∧ ev a ≤ Q + 18 := by
  obtain ⟨_, l, q, hl, d, hd, rfl, h1, h2⟩ := h
  obtain ⟨d', m, hd', b1, b2, b3, b4, b5⟩ := hl.split
  obtain rfl : d = d' := Option.some.inj (hd.symm.trans hd')
  rw [ev_set _ _ _ _ hd, b3]
  omega
theorem cy_el {xs : List Int} (hl : xs.length = 16) (h1 : -(Q + 1000) ≤ ev xs) (h2 : ev xs ≤ 2 * Q + 1000) : El (cy xs) := by
  obtain ⟨d, m, hd, b1, b2, b3, b4, b5⟩ := (cyA_dg hl).split
  have h3 := cyA_ev hl
  rw [cy_q hl] at h3
  refine ⟨by rw [cy_length]; exact hl, cyA xs, 19 * (Proofs.Ytoncinbohfmciaa.ev xs / Q), cyA_dg hl, d, hd, cy_set hl hd, ?_⟩
  have hq : Proofs.Ytoncinbohfmciaa.ev xs / Q = -2 ∨ Proofs.Ytoncinbohfmciaa.ev xs / Q = -1 ∨ Proofs.Ytoncinbohfmciaa.ev xs / Q = 0 ∨ Proofs.Ytoncinbohfmciaa.ev xs / Q = 1 ∨ Proofs.Ytoncinbohfmciaa.ev xs / Q = 2 := by unfold Q at *; omega
  rcases hq with e | e | e | e | e <;> rw [e] at h3 ⊢ <;> omega
theorem plus_ev {a b : List Int} (ha : a.length = 16) (hb : b.length = 16) {d : List Int} (hd : d.length = 16) {c : Int} (h : ∀ (i : Nat) (x y : Int), a[i]? = some x → b[i]? = some y → d[i]? = some (x + c * y)) : ev d = ev a + c * ev b := ev_zip 16 c a b d ha hb hd h
theorem mod_sub_mul (x q : Int) : (x - P * q) % P = x % P := by
  rw [Int.sub_eq_add_neg, ← Int.mul_neg, Int.add_mul_emod_self_left]
theorem cy_mod {xs : List Int} (hl : xs.length = 16) : ev (cy xs) % P = ev xs % P := by rw [cy_ev hl, mod_sub_mul]
/-- A product is an element, and is the product modulo the prime. -/
theorem mulL_el {xs ys : List Int} (hx : El xs) (hy : El ys) : El (mulL xs ys) ∧ ev (mulL xs ys) % P = ev xs * ev ys % P := by
  have hz := colA_bd xs ys hx.bd hy.bd hx.len hy.len 16 (by omega)
  have hzl := colA_length xs ys 16
  have he := colA_ev xs ys hx.len hy.len 16 (by omega)
  rw [List.take_of_length_le (by rw [hx.len]; omega)] at he
  have hf := foldL_bd (colA xs ys 16) (fun v hv => by have := hz v hv; omega) hzl
  have hfl := foldL_length (colA xs ys 16)
  have hfe := foldL_ev (colA xs ys 16) hzl
  have hsp : ev (colA xs ys 16) = ev ((colA xs ys 16).take 16) + 65536 ^ 16 * ev ((colA xs ys 16).drop 16) := by
    have h := ev_append ((colA xs ys 16).take 16) ((colA xs ys 16).drop 16)
    rw [List.take_append_drop, List.length_take, hzl] at h
    exact h
  have hfb := ev_bd _ _ hf
  rw [hfl] at hfb
  unfold mulL
  generalize foldL (colA xs ys 16) = fs at *
  generalize colA xs ys 16 = z at *
  have h1 := cy_ev hfl
  have hcl : (cy fs).length = 16 := by rw [cy_length]; exact hfl
  have e16 : (65536 : Int) ^ 16 = 2 * Q := by decide
  have hs : 4000000000000 * sg 16 ≤ 130000000 * Q := by decide
  refine ⟨cy_el hcl ?_ ?_, ?_⟩
  · rw [h1]; unfold Q P at *; omega
  · rw [h1]; unfold Q P at *; omega
  · rw [cy_mod hcl, cy_mod hfl, hfe, ← he, hsp, e16]
    have e : ev (z.take 16) + 2 * Q * ev (z.drop 16) = ev (z.take 16) + 38 * ev (z.drop 16) - P * (-2 * ev (z.drop 16)) := by
      have : 2 * Q * ev (z.drop 16) = 38 * ev (z.drop 16) - P * (-2 * ev (z.drop 16)) := by
        generalize ev (z.drop 16) = t
        unfold Q P; omega
      omega
    rw [e, mod_sub_mul]
/-- Sums, differences, negatives. -/
theorem addL_el {xs ys : List Int} (hx : El xs) (hy : El ys) : El (cy (plus xs ys)) ∧ ev (cy (plus xs ys)) % P = (ev xs + ev ys) % P := by
  have e : ev (plus xs ys) = ev xs + 1 * ev ys := plus_ev hx.len hy.len (plus_length xs ys) (fun i x y h1 h2 => by
    have hi := (List.getElem?_eq_some_iff.1 h1).1
    rw [hx.len] at hi
    rw [plus_at hi h1 h2]; congr 1; omega)
  have h1 := hx.ev
  have h2 := hy.ev
  refine ⟨cy_el (plus_length _ _) ?_ ?_, ?_⟩
  · unfold Q at *; omega
  · unfold Q at *; omega
  · rw [cy_mod (plus_length _ _), e, Int.one_mul]
theorem subL_el {xs ys : List Int} (hx : El xs) (hy : El ys) : El (cy (minus xs ys)) ∧ ev (cy (minus xs ys)) % P = (ev xs - ev ys) % P := by
  have e : ev (minus xs ys) = ev xs + (-1) * ev ys := plus_ev hx.len hy.len (minus_length xs ys) (fun i x y h1 h2 => by
    have hi := (List.getElem?_eq_some_iff.1 h1).1
    rw [hx.len] at hi
    rw [minus_at hi h1 h2]; congr 1; omega)
  have h1 := hx.ev
  have h2 := hy.ev
  refine ⟨cy_el (minus_length _ _) ?_ ?_, ?_⟩
  · unfold Q at *; omega
  · unfold Q at *; omega
  · rw [cy_mod (minus_length _ _), e]; congr 1; omega
theorem el_set {l : List Int} (h : Dg l) : El l := by
  obtain ⟨d, m, hd, b1, b2, _⟩ := h.split
  refine ⟨h.1, l, 0, h, d, hd, ?_, by omega, by omega⟩
  apply List.ext_getElem?
  intro i
  rw [List.getElem?_set]
  split
  · rename_i e; subst e
    rw [hd]; simp
    intro e; rw [e] at hd; simp at hd
  · rfl
theorem zeros_dg : Dg (zeros 16) := ⟨rfl, fun i x hi => by
  have := List.eq_of_mem_replicate (List.mem_of_getElem? hi)
  omega⟩
theorem zeros_el : El (zeros 16) := el_set zeros_dg
theorem negL_el {xs : List Int} (hx : El xs) : El (cy (minus (zeros 16) xs)) ∧ ev (cy (minus (zeros 16) xs)) % P = (- ev xs) % P := by
  have h := subL_el zeros_el hx
  rw [ev_zeros, Int.zero_sub] at h
  exact h
theorem small_dg (n : Int) : Dg (smallL n) := by
  unfold smallL
  split
  · rename_i h
    refine ⟨rfl, fun i x hi => ?_⟩
    cases i with
    | zero => simp at hi; omega
    | succ i =>
      have := List.eq_of_mem_replicate (List.mem_of_getElem? (show (zeros 15)[i]? = some x by simpa using hi))
      omega
  · exact zeros_dg
theorem small_ev (n : Int) (h : 0 ≤ n ∧ n ≤ 65535) : ev (smallL n) = n := by
  unfold smallL
  rw [if_pos h]
  simp only [ev, ev_zeros]; omega
theorem small_ev0 (n : Int) (h : ¬ (0 ≤ n ∧ n ≤ 65535)) : ev (smallL n) = 0 := by
  unfold smallL
  rw [if_neg h]
  exact ev_zeros 16
/-- The digits below the prime. -/
theorem red_dg {xs : List Int} (hx : El xs) : Dg (red xs) ∧ ev (red xs) = ev xs % P := by
  have hb := hx.ev
  have hl := hx.len
  have hx0 : xs[0]? = some (xs.getD 0 0) := getD_some (by omega)
  have l1 : (xs.set 0 (xs.getD 0 0 + 19)).length = 16 := by simp [hl]
  have e1 : ev (xs.set 0 (xs.getD 0 0 + 19)) = ev xs + 19 := by rw [ev_set _ _ _ _ hx0]; omega
  unfold red
  generalize xs.set 0 (xs.getD 0 0 + 19) = x1 at *
  have l2 : (cy x1).length = 16 := by rw [cy_length]; exact l1
  have e2 := cy_ev l1
  have hy0 : (cy x1)[0]? = some ((cy x1).getD 0 0) := getD_some (by omega)
  have l3 : ((cy x1).set 0 ((cy x1).getD 0 0 - 19)).length = 16 := by simp [l2]
  have e3 : ev ((cy x1).set 0 ((cy x1).getD 0 0 - 19)) = ev (cy x1) - 19 := by rw [ev_set _ _ _ _ hy0]; omega
  generalize (cy x1).set 0 ((cy x1).getD 0 0 - 19) = x2 at *
  have e4 := cy_ev l3
  obtain ⟨d, m, hd, b1, b2, b3, b4, b5⟩ := (cyA_dg l3).split
  have e5 := cyA_ev l3
  rw [cy_q l3] at e5
  have hZ : ev x2 = ev xs - P * ((ev xs + 19) / Q) := by rw [e3, e2, e1]; omega
  have hmod : ev (cy x2) % P = ev xs % P := by rw [cy_mod l3, hZ, mod_sub_mul]
  have hq : (ev xs + 19) / Q = 0 ∨ (ev xs + 19) / Q = 1 := by unfold Q at *; omega
  have hz : -19 ≤ ev x2 ∧ ev x2 < P := by
    rcases hq with h | h
    · rw [hZ, h]; unfold Q P at *; omega
    · rw [hZ, h]; unfold Q P at *; omega
  have hq2 : (ev x2 / Q = -1 ∧ ev x2 < 0) ∨ (ev x2 / Q = 0 ∧ 0 ≤ ev x2) := by unfold Q P at *; omega
  have hr : 0 ≤ ev (cy x2) ∧ ev (cy x2) < P := by
    rcases hq2 with h | h
    · rw [e4, h.1]; unfold P at *; omega
    · rw [e4, h.1]; omega
  have hd1 : 0 ≤ d + 19 * (ev x2 / Q) ∧ d + 19 * (ev x2 / Q) < 65536 := by
    rcases hq2 with h | h
    · rw [h.1] at e5 ⊢; omega
    · rw [h.1]; omega
  refine ⟨?_, ?_⟩
  · rw [cy_set l3 hd]
    refine ⟨by simp [cyA, cl_length, l3], fun i x hi => ?_⟩
    by_cases e0 : 0 = i
    · subst e0
      rw [List.getElem?_set_self (by rw [(cyA_dg l3).1]; omega)] at hi
      rw [← Option.some.inj hi]
      exact ⟨hd1.1, hd1.2, fun h => by omega⟩
    · rw [List.getElem?_set_ne e0] at hi
      exact (cyA_dg l3).2 i x hi
  · rw [← hmod]
    exact (Int.emod_eq_of_lt hr.1 hr.2).symm
/-- Digits are told by their number. -/
theorem digits_inj : ∀ (a b : List Int), a.length = b.length → (∀ x ∈ a, 0 ≤ x ∧ x < 65536) → (∀ x ∈ b, 0 ≤ x ∧ x < 65536) → ev a = ev b → a = b
  | [], [], _, _, _, _ => rfl
  | x :: a, y :: b, hl, ha, hb, he => by
    have h1 := ha x (by simp)
    have h2 := hb y (by simp)
    simp only [ev] at he
    have e1 : x = y := by omega
    have e2 : ev a = ev b := by omega
    rw [e1, digits_inj a b (by simpa using hl) (fun v hv => ha v (by simp [hv])) (fun v hv => hb v (by simp [hv])) e2]
  | [], y :: b, hl, _, _, _ => by simp at hl
  | x :: a, [], hl, _, _, _ => by simp at hl
theorem Dg.all {l : List Int} (h : Dg l) : ∀ x ∈ l, 0 ≤ x ∧ x < 65536 := fun x hx => by
  obtain ⟨i, hi⟩ := List.getElem?_of_mem hx
  have := h.2 i x hi
  omega
theorem Dg.inj {a b : List Int} (ha : Dg a) (hb : Dg b) (h : ev a = ev b) : a = b := digits_inj a b (by rw [ha.1, hb.1]) ha.all hb.all h
theorem red_eq {xs ys : List Int} (hx : El xs) (hy : El ys) : red xs = red ys ↔ ev xs % P = ev ys % P := by
  have h1 := red_dg hx
  have h2 := red_dg hy
  exact ⟨fun h => by rw [← h1.2, ← h2.2, h], fun h => h1.1.inj h2.1 (by rw [h1.2, h2.2, h])⟩
end Go.Proofs.Ytoncinbohfmciaa
