/- The steps of the laws: digits, numbers of digits, rows of bytes, parts. -/
import Derived.Test.YtpiamcgienkhaaaDoorG4
import Derived.Test.YtpiamcgienkhaaaDoorG5
import Derived.Test.YtpiamcgienkhaaaDoorHWSame
import Derived.Test.YtpiamcgienkhaaaDoorOpenArr
import Derived.Deep.Cut
namespace Go.Proofs.YtpiamcgienkhaaaDoor
open Go Go.RowKit

/-- A row of numbers. -/
def IsRw (k : IntKind) (q : Nat) (l : List Int) : Value → World → Prop := fun v w => ∃ B d, v = .slice B q d ∧ Nums w k B l
set_option maxRecDepth 50000 in
theorem IsRw.grows (k : IntKind) (q : Nat) (l : List Int) : Grows (IsRw k q l) := fun _ _ _ ⟨B, d, h1, h2⟩ hb => ⟨B, d, h1, h2.below hb⟩
/-- Ten digits of a number. -/
def IsN (m : Nat) : Value → World → Prop := fun v w => ∃ A c ys, v = .slice A 10 c ∧ Hid (R10 ys m) ∧ Nums w .i64 A (nl ys)
set_option maxRecDepth 50000 in
theorem IsN.grows (m : Nat) : Grows (IsN m) := fun _ _ _ ⟨A, c, ys, h1, h2, h3⟩ hb => ⟨A, c, ys, h1, h2, h3.below hb⟩
section
variable {ops : Array Oper} {md : Region.Mode} {W : World} {a0 : Act} {n : Nat} {al : Nat → Bool} {S : Nat → Value → World → Prop} {Q : Exit → Act → World → Prop} {i : Nat} {o : Oper}
set_option maxRecDepth 50000 in
theorem Knows.rw {x : Operand} {A : Option Addr} {q c : Nat} {k : IntKind} {l : List Int} (h : Knows ops md W a0 n S i x (.slice A q c)) (hN : ∀ w, Cl W w → Nums w k A l) : KnowsW ops md W a0 n S i x (IsRw k q l) := fun a w hw hf hd => ⟨A, c, h a w hw hf hd, hN w hw⟩
set_option maxRecDepth 50000 in
theorem Knows.nn {x : Operand} {A : Option Addr} {c m : Nat} {ys : List Nat} (h : Knows ops md W a0 n S i x (.slice A 10 c)) (hR : Hid (R10 ys m)) (hN : ∀ w, Cl W w → Nums w .i64 A (nl ys)) : KnowsW ops md W a0 n S i x (IsN m) := fun a w hw hf hd => ⟨A, c, ys, h a w hw hf hd, hR, hN w hw⟩
set_option maxRecDepth 50000 in
theorem step_dig (hal : al i = false) (hg : GuardOn ops md n S i o) {x : Operand} {ts : Array TypeId} (ho : o.op = .call { callee := .value (.func 37), args := #[x], argTypes := ts }) {L q : Nat} {bs : List Int} (hl : bs.length = L) (hn : L ≤ 1000) (hq : (L + 1) / 2 = q) (hb : Byt bs) (hS : S i = IsRw .i64 q (pr bs)) (hx : KnowsW ops md W a0 n S i x (IsRw .u8 L bs)) : StepOk Tryd.prog ops md W a0 n al S Q i o :=
  step_call hal hg fun a w hw hf hd => by
    obtain ⟨B, d, h1, h2⟩ := hx a w hw hf hd
    refine ⟨37, #[.slice B L d], ex_fn rfl cx8 ho _ (by rw [map1, h1]) w, (digits_q B L d q bs w hl hn hq hb h2).mono fun e w' ⟨B', d', he, hN, hbl⟩ => ⟨_, he, ?_, hbl⟩⟩
    rw [hS]; exact ⟨B', d', rfl, hN.nums⟩
set_option maxRecDepth 50000 in
theorem step_mod (hal : al i = false) (hg : GuardOn ops md n S i o) {x : Operand} {ts : Array TypeId} (ho : o.op = .call { callee := .value (.func 36), args := #[x], argTypes := ts }) {L q m : Nat} {bs : List Int} (hl : bs.length = L) (hn : L ≤ 1000) (hq : (L + 1) / 2 = q) (hb : Byt bs) (hm : bn bs % PN = m) (hS : S i = IsN m) (hx : KnowsW ops md W a0 n S i x (IsRw .i64 q (pr bs))) : StepOk Tryd.prog ops md W a0 n al S Q i o :=
  step_call hal hg fun a w hw hf hd => by
    obtain ⟨B, d, h1, h2⟩ := hx a w hw hf hd
    subst hm
    refine ⟨36, #[.slice B q d], ex_fn rfl cx7 ho _ (by rw [map1, h1]) w, (modd_q B L d q bs w hl hn hq hb h2).mono fun e w' ⟨B', d', ys, he, hR, hN, hbl⟩ => ⟨_, he, ?_, hbl⟩⟩
    rw [hS]; exact ⟨B', d', ys, rfl, hR, hN.nums⟩
set_option maxRecDepth 50000 in
theorem step_rad (hal : al i = false) (hg : GuardOn ops md n S i o) {x y : Operand} {ts : Array TypeId} (ho : o.op = .call { callee := .value (.func 40), args := #[x, y], argTypes := ts }) {m k s : Nat} (hm : m < PN) (hk : k < PN) (hs : (m + k) % PN = s) (hS : S i = IsN s) (hx : KnowsW ops md W a0 n S i x (IsN m)) (hy : KnowsW ops md W a0 n S i y (IsN k)) : StepOk Tryd.prog ops md W a0 n al S Q i o :=
  step_call hal hg fun a w hw hf hd => by
    obtain ⟨B, d, ys, h1, h2, h3⟩ := hx a w hw hf hd
    obtain ⟨B', d', ys', h1', h2', h3'⟩ := hy a w hw hf hd
    subst hs
    refine ⟨40, #[.slice B 10 d, .slice B' 10 d'], ex_fn rfl cx12 ho _ (by rw [map2, h1, h1']) w, (radd_any (cA := d) (cB := d') h2.out h2'.out (two_pn hm hk) h3 h3').mono fun e w' ⟨B2, d2, zs, he, hR, hN, hbl⟩ => ⟨_, he, ?_, hbl⟩⟩
    rw [hS]; exact ⟨B2, d2, zs, rfl, hR, hN.nums⟩
set_option maxRecDepth 50000 in
theorem step_rmu (hal : al i = false) (hg : GuardOn ops md n S i o) {x y : Operand} {ts : Array TypeId} (ho : o.op = .call { callee := .value (.func 39), args := #[x, y], argTypes := ts }) {m k s : Nat} (hs : m * k % PN = s) (hS : S i = IsN s) (hx : KnowsW ops md W a0 n S i x (IsN m)) (hy : KnowsW ops md W a0 n S i y (IsN k)) : StepOk Tryd.prog ops md W a0 n al S Q i o :=
  step_call hal hg fun a w hw hf hd => by
    obtain ⟨B, d, ys, h1, h2, h3⟩ := hx a w hw hf hd
    obtain ⟨B', d', ys', h1', h2', h3'⟩ := hy a w hw hf hd
    subst hs
    refine ⟨39, #[.slice B 10 d, .slice B' 10 d'], ex_fn rfl cx14 ho _ (by rw [map2, h1, h1']) w, (rmul_any (cA := d) (cB := d') h2.out h2'.out h3 h3').mono fun e w' ⟨B2, d2, zs, he, hR, hN, hbl⟩ => ⟨_, he, ?_, hbl⟩⟩
    rw [hS]; exact ⟨B2, d2, zs, rfl, hR, hN.nums⟩
set_option maxRecDepth 50000 in
theorem step_rcl (hal : al i = false) (hg : GuardOn ops md n S i o) {x : Operand} {ts : Array TypeId} (ho : o.op = .call { callee := .value (.func 38), args := #[x], argTypes := ts }) {bs l : List Int} (hl : bs.length = 16) (hb : Byt bs) (hc : clampL bs = l) (hS : S i = IsRw .u8 16 l) (hx : KnowsW ops md W a0 n S i x (IsRw .u8 16 bs)) : StepOk Tryd.prog ops md W a0 n al S Q i o :=
  step_call hal hg fun a w hw hf hd => by
    obtain ⟨B, d, h1, h2⟩ := hx a w hw hf hd
    subst hc
    refine ⟨38, #[.slice B 16 d], ex_fn rfl cx17 ho _ (by rw [map1, h1]) w, (rclamp_any (cA := d) hl hb h2).mono fun e w' ⟨B', d', he, hN, hbl⟩ => ⟨_, he, ?_, hbl⟩⟩
    rw [hS]; exact ⟨B', d', rfl, hN.nums⟩
set_option maxRecDepth 50000 in
theorem step_sam (hal : al i = false) (hg : GuardOn ops md n S i o) {x y : Operand} {ts : Array TypeId} (ho : o.op = .call { callee := .value (.func 8), args := #[x, y], argTypes := ts }) {q : Nat} {l : List Int} (hl : l.length = q) (hq : q ≤ 1000) (hS : S i = Is (.bool true)) (hx : KnowsW ops md W a0 n S i x (IsRw .u8 q l)) (hy : KnowsW ops md W a0 n S i y (IsRw .u8 q l)) : StepOk Tryd.prog ops md W a0 n al S Q i o :=
  step_call hal hg fun a w hw hf hd => by
    obtain ⟨B, d, h1, h2⟩ := hx a w hw hf hd
    obtain ⟨B', d', h1', h2'⟩ := hy a w hw hf hd
    subst hl
    exact ⟨8, #[.slice B l.length d, .slice B' l.length d'], ex_fn rfl cx16 ho _ (by rw [map2, h1, h1']) w, (same_eq B B' d d' l l w rfl (by unfold maxLen; omega) h2 h2').mono fun e w' ⟨he, hbl⟩ => ⟨_, he, by rw [hS]; exact rfl, hbl⟩⟩
set_option maxRecDepth 50000 in
/-- The tag of parts that an operation before it laid. -/
theorem step_tag (hal : al i = false) (hg : GuardOn ops md n S i o) {x y : Operand} {ts : Array TypeId} (ho : o.op = .call { callee := .value (.func 19), args := #[x, y], argTypes := ts }) {key r : List Int} {q : Nat} {ps : List (Option Addr × Nat × List Int)} {vs : List Value} (hl : key.length = 32) (hb : Byt key) (hq : ps.length = q) (hq2 : q ≤ 1000) (hr : tagL key (flat ps) = r) (hS : S i = Is (.agg (ints .u8 r).toArray)) (hx : Knows ops md W a0 n S i x (.agg (ints .u8 key).toArray)) (hy : KnowsW ops md W a0 n S i y (IsRowV W.heap.size q vs))
    (hv : vs = ps.map fun p => .slice p.1 p.2.2.length p.2.1) (hok : ∀ w, Cl W w → ∀ p ∈ ps, PartOk w p) : StepOk Tryd.prog ops md W a0 n al S Q i o :=
  step_call hal hg fun a w hw hf hd => by
    obtain ⟨b, h1, _, h2⟩ := hy a w hw hf hd
    subst hq hr hv
    refine ⟨19, #[.agg (ints .u8 key).toArray, .slice (some ⟨b, 0, none⟩) ps.length ps.length], ex_fn rfl cx20 ho _ (by rw [map2, h1, hx a w hw hf hd]) w, (tag_any key (some ⟨b, 0, none⟩) ps.length ps w hl hb (fun hp => ⟨b, 0, rfl, h2.lt (by simpa using hp), fun i p hi => ?_⟩) (hok w hw) hq2).mono fun e w' ⟨he, hbl⟩ => ⟨_, he, by rw [hS]; exact rfl, hbl⟩⟩
    exact (h2 i _ (by rw [List.getElem?_map, hi]; rfl)).1
set_option maxRecDepth 50000 in
/-- A slice's beginning, and its rest. -/
theorem step_pre (hal : al i = false) (hg : GuardOn ops md n S i o) {x y : Operand} {A : Option Addr} {m c h : Nat} (ho : o.op = .slice 24 x none (some y) none) (hh : h ≤ c) (hS : S i = Is (.slice A h c)) (hx : Knows ops md W a0 n S i x (.slice A m c)) (hy : Knows ops md W a0 n S i y (.int .i64 (h : Int))) : StepOk Tryd.prog ops md W a0 n al S Q i o :=
  step_two hal hg (fun ev w h1 h2 _ => by
    unfold execOp
    simp only [ho, h1, Option.map_none, Option.map_some, h2, Sem.run_bind, run_sliceAt_slice w 24 _ _ _ _ ua23, run_slice_h w 24 A m c ua23 .i64 (h : Int) (by omega) (by omega), ze23, Result.andThen_ok, Sem.run_pure]
    cases A with
    | none => simp [sliced]
    | some a =>
      have : a.add 0 = a := by unfold Addr.add; simp
      simp [sliced, this]) hS hx hy
set_option maxRecDepth 50000 in
theorem step_suf (hal : al i = false) (hg : GuardOn ops md n S i o) {x y : Operand} {A A' : Option Addr} {m c h k d : Nat} (ho : o.op = .slice 24 x (some y) none none) (hrun : ∀ w : World, (Instr.slice 24 (.slice A m c) (some (.int .i64 (h : Int))) none none).run Tryd.prog w = .ok (.slice A' k d) w) (hS : S i = Is (.slice A' k d)) (hx : Knows ops md W a0 n S i x (.slice A m c)) (hy : Knows ops md W a0 n S i y (.int .i64 (h : Int))) : StepOk Tryd.prog ops md W a0 n al S Q i o :=
  step_two hal hg (fun ev w h1 h2 _ => by
    unfold execOp
    simp only [ho, h1, Option.map_none, Option.map_some, h2, Sem.run_bind, run_sliceAt_slice w 24 _ _ _ _ ua23, hrun, Result.andThen_ok, Sem.run_pure]) hS hx hy
end
set_option maxRecDepth 50000 in
/-- The rest of a slice, wherever it is cut. -/
theorem rest_any {w : World} {A : Option Addr} {b : List Int} {c h L : Nat} (hA : Nums w .u8 A b) (hl : b.length = L) (hc : L ≤ c) (hh : h ≤ L) : ∃ A', (∀ W : World, (Instr.slice 24 (.slice A L c) (some (.int .i64 (h : Int))) none none).run Tryd.prog W = .ok (.slice A' (L - h) (c - h)) W) ∧ Nums w .u8 A' (b.drop h) := by
  subst hl
  rcases Nat.eq_zero_or_pos b.length with h0 | hp
  · have e : h = 0 := by omega
    subst e
    have e2 := List.eq_nil_of_length_eq_zero h0
    subst e2
    refine ⟨A, fun W => ?_, Nums.nil⟩
    have h1 := run_slice_l (P := Tryd.prog) W 24 A 0 c ua23 .i64 (0 : Int) (by omega) (by omega)
    show (Instr.slice 24 (.slice A 0 c) (some (.int .i64 (0 : Int))) none none).run Tryd.prog W = _
    rw [h1, ze23]
    cases A with
    | none => simp [Result.andThen, sliced]
    | some a =>
      have : a.add 0 = a := by unfold Addr.add; simp
      by_cases hc0 : c = 0
      · simp [Result.andThen, sliced, hc0]
      · simp [Result.andThen, sliced, this]
  · obtain ⟨A', h1, h2, _⟩ := nums_from hA 24 5 Tryd.underlying24 (by kernel_rfl) c h hh hp hc
    exact ⟨A', h1, h2⟩

/-- The chapter's example. -/
def kA : List Int := 1 :: (zeros 15 ++ 7 :: zeros 15)
set_option maxRecDepth 50000 in
theorem kA_len : kA.length = 32 := rfl
set_option maxRecDepth 50000 in
theorem kA_byt : Byt kA := fun x hx => by
  simp only [kA, List.mem_cons, List.mem_append] at hx
  rcases hx with h | h | h | h
  · omega
  · exact byt_zeros 15 x h
  · omega
  · exact byt_zeros 15 x h
set_option maxRecDepth 50000 in
theorem one_len (x : Int) (n : Nat) : (x :: zeros n).length = n + 1 := by simp [zeros]
set_option maxRecDepth 50000 in
theorem small_byt {x : Int} (h : 0 ≤ x ∧ x < 256) (n : Nat) : Byt (x :: zeros n) := fun y hy => by
  rcases List.mem_cons.1 hy with h1 | h1
  · omega
  · exact byt_zeros n y h1
set_option maxRecDepth 50000 in
theorem bn_one (x : Int) (n : Nat) : bn (x :: zeros n) = x.toNat := by
  unfold bn
  rw [bv, bv_zeros]; simp
set_option maxRecDepth 50000 in
theorem builtA : Tryd.prog.built 22 [(0, .int .u8 1), (16, .int .u8 7)] = some (ints .u8 kA).toArray := by kernel_rfl
set_option maxRecDepth 50000 in
theorem built25_1 : Tryd.prog.built 61 [(0, .int .u8 1)] = some (ints .u8 (1 :: zeros 16)).toArray := by kernel_rfl
set_option maxRecDepth 50000 in
theorem built25_2 : Tryd.prog.built 61 [(0, .int .u8 2)] = some (ints .u8 (2 :: zeros 16)).toArray := by kernel_rfl
set_option maxRecDepth 50000 in
theorem built25_3 : Tryd.prog.built 61 [(0, .int .u8 3)] = some (ints .u8 (3 :: zeros 16)).toArray := by kernel_rfl
set_option maxRecDepth 50000 in
theorem built33_7 : Tryd.prog.built 33 [(0, .int .u8 7)] = some (ints .u8 (7 :: zeros 15)).toArray := by kernel_rfl
set_option maxRecDepth 50000 in
theorem built22_6 : Tryd.prog.built 60 [(0, .int .u8 6)] = some (ints .u8 (6 :: zeros 16)).toArray := by kernel_rfl
set_option maxRecDepth 50000 in
theorem tag_A : tagL kA [] = 7 :: zeros 15 := by decide +kernel
set_option maxRecDepth 50000 in
theorem pb_6 : pb 6 = 6 :: zeros 16 := by decide +kernel
set_option maxRecDepth 50000 in
theorem k_tagA : CallsTo 19 #[.agg (ints .u8 kA).toArray, .slice none 0 0] (.agg (ints .u8 (7 :: zeros 15)).toArray) := fun w => by
  have := tag_any kA none 0 [] w kA_len kA_byt (fun hp => absurd hp (by simp)) (fun p hp => by simp at hp) (by simp)
  have e : flat [] = [] := rfl
  rw [e, tag_A] at this
  exact this
set_option maxRecDepth 50000 in
theorem k_mul6 : CallsTo 46 #[.agg (ints .u8 (2 :: zeros 16)).toArray, .agg (ints .u8 (3 :: zeros 16)).toArray] (.agg (ints .u8 (6 :: zeros 16)).toArray) := by
  have := c_mul (one_len 2 16) (one_len 3 16) (small_byt (x := 2) (by omega) 16) (small_byt (x := 3) (by omega) 16)
  rw [bn_one, bn_one] at this
  have e : (2 : Int).toNat * (3 : Int).toNat % PN = 6 := by decide
  rw [e, pb_6] at this
  exact this
end Go.Proofs.YtpiamcgienkhaaaDoor
