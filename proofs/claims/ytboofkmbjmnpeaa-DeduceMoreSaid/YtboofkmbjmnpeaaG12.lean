/- Texts of this proof, laid together: DMem, DHas, DMakes. -/
import Derived.Test.YtboofkmbjmnpeaaG11
import Derived.Test.YtboofkmbjmnpeaaG10
import Derived.Laws.OwnMore
import Derived.BigQuiet
import Derived.Deep.QuietTactic
/- Facts in memory. -/
namespace Go.Proofs.Ytboofkmbjmnpeaa
open Go Go.RowKit Go.Maps

def Fa.vs (f : Fa) : Value := .slice f.A f.sv.length f.c
def Fa.cells (f : Fa) : List Value := [.int .i64 f.t.1, .int .i64 f.t.2.1, .int .i64 f.t.2.2, .int .i64 f.key, .bool f.kn, .bool f.ca, .slice f.A f.sv.length f.c]
def flatF (F : List Fa) : List Value := F.flatMap Fa.cells
theorem flatF_app (F G : List Fa) : flatF (F ++ G) = flatF F ++ flatF G := by simp [flatF]
theorem flatF_one (f : Fa) : flatF [f] = f.cells := by simp [flatF]
theorem flatF_cons (f : Fa) (F : List Fa) : flatF (f :: F) = f.cells ++ flatF F := by simp [flatF]
theorem Fa.cells_len (f : Fa) : f.cells.length = 7 := rfl
theorem Fa.cells_one (f : Fa) : ∀ u ∈ f.cells, u.oneCell' = true := by simp [Fa.cells, Value.oneCell']
theorem flatF_length : ∀ F : List Fa, (flatF F).length = F.length * 7
  | [] => rfl
  | f :: F => by
    have := flatF_length F
    rw [flatF_cons, List.length_append, Fa.cells_len, this, List.length_cons]; omega
theorem flatF_at : ∀ (F : List Fa) (i j : Nat) (f : Fa) (v : Value), F[i]? = some f → f.cells[j]? = some v → (flatF F)[i * 7 + j]? = some v
  | [], i, j, f, v, h, _ => by simp at h
  | g :: F, 0, j, f, v, h, hv => by
    simp at h; subst h
    rw [flatF_cons, Nat.zero_mul, Nat.zero_add, List.getElem?_append_left (get_lt hv)]; exact hv
  | g :: F, i + 1, j, f, v, h, hv => by
    have := flatF_at F i j f v (by simpa using h) hv
    rw [flatF_cons, List.getElem?_append_right (by rw [Fa.cells_len]; omega), Fa.cells_len, show (i + 1) * 7 + j - 7 = i * 7 + j by omega]
    exact this
theorem flatF_set : ∀ (F : List Fa) (i j : Nat) (f g : Fa) (v : Value), F[i]? = some f → j < 7 → g.cells = f.cells.set j v → flatF (F.set i g) = (flatF F).set (i * 7 + j) v
  | [], i, j, f, g, v, h, _, _ => by simp at h
  | x :: F, 0, j, f, g, v, h, hj, hg => by
    simp at h; subst h
    rw [List.set_cons_zero, flatF_cons, flatF_cons, hg, Nat.zero_mul, Nat.zero_add, List.set_append_left _ _ (by rw [Fa.cells_len]; exact hj)]
  | x :: F, i + 1, j, f, g, v, h, hj, hg => by
    have := flatF_set F i j f g v (by simpa using h) hj hg
    rw [List.set_cons_succ, flatF_cons, flatF_cons, this, List.set_append_right _ _ (by rw [Fa.cells_len]; omega), Fa.cells_len, show (i + 1) * 7 + j - 7 = i * 7 + j by omega]

def fblk (Af : Option Addr) (b : Nat) : Prop := (Value.slice Af 0 0).ownBlock = some b
structure KS (w : World) (p : Nat) (Af : Option Addr) (cf : Nat) (F : List Fa) : Prop where
  blk : Blk w p 59 [.bool true, .slice Af F.length cf]
  rF : w.ownsRow 0 82 7 (.slice Af F.length cf) F.length (flatF F)
  rS : ∀ (i : Nat) f, F[i]? = some f → w.ownsRow 0 3 1 f.vs f.sv.length (ints .i64 f.sv)
  dis : ∀ (i j : Nat) f g b, F[i]? = some f → F[j]? = some g → f.vs.ownBlock = some b → g.vs.ownBlock = some b → i = j
def kfoot (p : Nat) (Af : Option Addr) (F : List Fa) (b : Nat) : Prop := b = p ∨ fblk Af b ∨ ∃ (i : Nat) (f : Fa), F[i]? = some f ∧ f.vs.ownBlock = some b
section
variable {w w' : World} {p : Nat} {Af : Option Addr} {cf : Nat} {F : List Fa} {G : Nat → Prop}
theorem KS.chg (h : KS w p Af cf F) (hc : Chg G w w') (hG : ∀ b, kfoot p Af F b → ¬ G b) : KS w' p Af cf F :=
  ⟨h.blk.chg hc (hG _ (.inl rfl)), row_chg h.rF hc (fun g hg => hG g (.inr (.inl ((own00 _ _ _).symm.trans hg)))), fun i f hf => row_chg (h.rS i f hf) hc (fun g hg => hG g (.inr (.inr ⟨i, f, hf, hg⟩))), h.dis⟩
theorem KS.next (h : KS w p Af cf F) (hb : Below w.heap.size w w') : KS w' p Af cf F := h.chg (Chg.of hb (fun _ => False)) (fun _ _ h => h)
theorem KS.lt (h : KS w p Af cf F) : ∀ b, kfoot p Af F b → b < w.heap.size := fun b hb => by
  rcases hb with rfl | e | ⟨i, f, hf, e⟩
  · exact h.blk.lt
  · exact rowlt h.rF b ((own00 _ _ _).trans e)
  · exact rowlt (h.rS i f hf) b e
theorem KS.c0 (h : KS w p Af cf F) : w.cell? ⟨p, 0, none⟩ = some (.bool true) := h.blk.cell (i := 0) rfl
theorem KS.c1 (h : KS w p Af cf F) : w.cell? ⟨p, 1, none⟩ = some (.slice Af F.length cf) := h.blk.cell (i := 1) rfl
/-- The cells of a fact. -/
def FCells (w : World) (g : Nat) (F : List Fa) : Prop := ∀ (i : Nat) f, F[i]? = some f → ∀ j v, f.cells[j]? = some v → w.cell? ⟨g, i * 7 + j, none⟩ = some v ∧ w.frozen? ⟨g, i * 7 + j, none⟩ = false
theorem KS.addr (h : KS w p Af cf F) (hp : 0 < F.length) : ∃ g, Af = some ⟨g, 0, none⟩ ∧ g < w.heap.size ∧ F.length ≤ cf ∧ cf ≤ maxLen ∧ g ≠ p ∧ FCells w g F := by
  have h1 := rowcap h.rF
  rcases h.rF.2 with ⟨_, hn⟩ | ⟨g, cap, cur, hv, hb, hg, hn, hm, hs, ht⟩
  · omega
  · injection hv with e1 e2 e3
    subst e1; subst e3
    have hrow : w.ownsRow 0 82 7 (.slice (some ⟨g, 0, none⟩) F.length cf) F.length (flatF F) := h.rF
    refine ⟨g, rfl, (Array.getElem?_eq_some_iff.1 hg).1, h1.1, h1.2, fun e => ?_, fun i f hf j v hv => ⟨?_, hrow.frozenAt _⟩⟩
    · subst e
      have h3 := h.blk
      rw [show w.heap[g]? = _ from h3] at hg
      cases hg
    · have hi := get_lt hf
      have hj := get_lt hv
      rw [Fa.cells_len] at hj
      rw [hrow.cellAt _ (by omega)]
      exact flatF_at F i j f v hf hv
theorem FCells.next {g : Nat} (h : FCells w g F) (hb : Below w.heap.size w w') (hg : g < w.heap.size) : FCells w' g F := fun i f hf j v hv => by
  obtain ⟨a, b⟩ := h i f hf j v hv
  have := hb.block g hg
  exact ⟨(World.cell?_of_block (a := ⟨g, i * 7 + j, none⟩) this).trans a, (World.frozen?_of_block (a := ⟨g, i * 7 + j, none⟩) this).trans b⟩
/-- A flag of one fact is set. -/
theorem KS.set {g : Nat} (h : KS w p (some ⟨g, 0, none⟩) cf F) {i j : Nat} {f f' : Fa} {v : Value} (hf : F[i]? = some f) (hj : j < 7) (hc : f'.cells = f.cells.set j v) (h1 : f'.A = f.A) (h2 : f'.c = f.c) (h3 : f'.sv = f.sv) :
    KS (w.setCell ⟨g, i * 7 + j, none⟩ v) p (some ⟨g, 0, none⟩) cf (F.set i f') := by
  have hi := get_lt hf
  obtain ⟨g', e, _, _, _, hgp, _⟩ := h.addr (by omega)
  injection e with e; injection e with e; subst e
  have hv : f'.vs = f.vs := by simp [Fa.vs, h1, h2, h3]
  have at_ : ∀ (q : Nat) (x : Fa), (F.set i f')[q]? = some x → ∃ y : Fa, F[q]? = some y ∧ x.vs = y.vs ∧ x.sv = y.sv := fun q x hx => by
    by_cases e : q = i
    · subst e
      rw [List.getElem?_set_self hi] at hx
      injection hx with hx; subst hx
      exact ⟨f, hf, hv, h3⟩
    · rw [List.getElem?_set_ne (Ne.symm e)] at hx
      exact ⟨x, hx, rfl, rfl⟩
  have hr := (h.rF.stored (i * 7 + j) v).1
  rw [← flatF_set F i j f f' v hf hj hc] at hr
  refine ⟨?_, ?_, fun q x hx => ?_, fun q r x y b hx hy e1 e2 => ?_⟩
  · rw [List.length_set]; exact h.blk.other (a := ⟨g, i * 7 + j, none⟩) hgp v
  · rw [List.length_set]; exact hr
  · obtain ⟨y, hy, e1, e2⟩ := at_ q x hx
    rw [e1, e2]
    have h5 := h.rS q y hy
    exact ownsRow_setCell_other h5 (a := ⟨g, i * 7 + j, none⟩) (fun e => by
      rcases row_ne h.rF h5 (by decide) with h6 | h6
      · simp [Value.ownBlock] at h6
      · exact h6 (by rw [e]; rfl)) v
  · obtain ⟨x', hx', e3, _⟩ := at_ q x hx
    obtain ⟨y', hy', e4, _⟩ := at_ r y hy
    exact h.dis q r x' y' b hx' hy' (e3 ▸ e1) (e4 ▸ e2)
end
/-- The footprint does not hang on flags. -/
theorem kfoot_adv {S : (Nat → Bool) → (Nat → Bool) → Prop} {p : Nat} {Af : Option Addr} {F F' : List Fa} {new : List Int} (h : Adv S F F' new) (b : Nat) : kfoot p Af F' b ↔ kfoot p Af F b := by
  constructor
  · rintro (e | e | ⟨i, f, hf, e⟩)
    · exact .inl e
    · exact .inr (.inl e)
    · have hl : i < F.length := by rw [← h.len]; exact get_lt hf
      obtain ⟨k, c, e2, _⟩ := h.same i F[i] (by simp [hl])
      rw [hf] at e2
      injection e2 with e2
      refine .inr (.inr ⟨i, F[i], by simp [hl], ?_⟩)
      rw [e2] at e; exact e
  · rintro (e | e | ⟨i, f, hf, e⟩)
    · exact .inl e
    · exact .inr (.inl e)
    · obtain ⟨k, c, e2, _⟩ := h.same i f hf
      exact .inr (.inr ⟨i, _, e2, e⟩)
end Go.Proofs.Ytboofkmbjmnpeaa

/- What is asked of facts: are there any, is it about a term, is it known, can it be made. -/
namespace Go.Proofs.Ytboofkmbjmnpeaa
open Go Go.RowKit Go.Maps

set_option maxRecDepth 50000 in
set_option maxHeartbeats 1000000 in
theorem kexists_any (p : Nat) (w : World) (c0 : w.cell? ⟨p, 0, none⟩ = some (.bool true)) :
    Calls Try.prog 33 #[.pointer (some ⟨p, 0, none⟩)] w fun e w' => e = .returned (.bool true) ∧ w = w' := by
  go_enter Try.func33, Try.ntmps33
  go_wp2
  go_ret
  exact ⟨rfl, rfl⟩
set_option maxRecDepth 50000 in
set_option maxHeartbeats 1000000 in
theorem kexists_nil (w : World) :
    Calls Try.prog 33 #[.pointer none] w fun e w' => e = .returned (.bool false) ∧ w = w' := by
  go_enter Try.func33, Try.ntmps33
  go_wp2
  go_ret
  exact ⟨rfl, rfl⟩
set_option maxRecDepth 50000 in
set_option maxHeartbeats 1000000 in
theorem covers_any (p n c : Nat) (A : Option Addr) (k : Int) (b : Bool) (w : World) (c0 : w.cell? ⟨p, 0, none⟩ = some (.bool true)) (c1 : w.cell? ⟨p, 1, none⟩ = some (.slice A n c)) (hb : Hid (b = decide (0 ≤ k ∧ k < n))) :
    Calls Try.prog 32 #[.pointer (some ⟨p, 0, none⟩), .int .i64 k] w fun e w' => e = .returned (.bool b) ∧ w = w' := by
  by_cases h0 : 0 ≤ k
  · by_cases h1 : k < n
    · obtain rfl : b = true := by rw [hb.out]; exact decide_eq_true ⟨h0, h1⟩
      go_enter Try.func32, Try.ntmps32
      go_wp2_with (go_at_call 33; refine (kexists_any p _ c0).mono ?_; rintro e w2 ⟨rfl, rfl⟩)
      go_ret
      exact ⟨rfl, rfl⟩
    · obtain rfl : b = false := by rw [hb.out]; exact decide_eq_false (fun h => h1 h.2)
      go_enter Try.func32, Try.ntmps32
      go_wp2_with (go_at_call 33; refine (kexists_any p _ c0).mono ?_; rintro e w2 ⟨rfl, rfl⟩)
      go_ret
      exact ⟨congrArg _ (congrArg _ (decide_eq_false (Int.not_lt.2 h1))), rfl⟩
  · obtain rfl : b = false := by rw [hb.out]; exact decide_eq_false (fun h => h0 h.1)
    go_enter Try.func32, Try.ntmps32
    go_wp2_with (go_at_call 33; refine (kexists_any p _ c0).mono ?_; rintro e w2 ⟨rfl, rfl⟩)
    go_ret
    exact ⟨rfl, rfl⟩
set_option maxRecDepth 50000 in
set_option maxHeartbeats 1000000 in
theorem covers_nil (k : Int) (w : World) :
    Calls Try.prog 32 #[.pointer none, .int .i64 k] w fun e w' => e = .returned (.bool false) ∧ w = w' := by
  go_enter Try.func32, Try.ntmps32
  go_wp2_with (go_at_call 33; refine (kexists_nil _).mono ?_; rintro e w2 ⟨rfl, rfl⟩)
  go_ret
  exact ⟨rfl, rfl⟩
set_option maxRecDepth 50000 in
set_option maxHeartbeats 1000000 in
theorem khas_nil (k : Int) (w : World) :
    Calls Try.prog 14 #[.pointer none, .int .i64 k] w fun e w' => e = .returned (.bool false) ∧ w = w' := by
  go_enter Try.func14, Try.ntmps14
  go_wp2_with (go_at_call 32; refine (covers_nil k _).mono ?_; rintro e w2 ⟨rfl, rfl⟩)
  go_ret
  exact ⟨rfl, rfl⟩
set_option maxRecDepth 50000 in
set_option maxHeartbeats 1000000 in
theorem kcan_nil (k : Int) (w : World) :
    Calls Try.prog 15 #[.pointer none, .int .i64 k] w fun e w' => e = .returned (.bool false) ∧ w = w' := by
  go_enter Try.func15, Try.ntmps15
  go_wp2_with (go_at_call 32; refine (covers_nil k _).mono ?_; rintro e w2 ⟨rfl, rfl⟩)
  go_ret
  exact ⟨rfl, rfl⟩
set_option maxRecDepth 50000 in
set_option maxHeartbeats 1000000 in
theorem khas_any (p cf : Nat) (Af : Option Addr) (F : List Fa) (k : Int) (b : Bool) (w : World) (h : KS w p Af cf F) (hb : Hid (b = (decide (0 ≤ k) && kF F k.toNat))) :
    Calls Try.prog 14 #[.pointer (some ⟨p, 0, none⟩), .int .i64 k] w fun e w' => e = .returned (.bool b) ∧ w = w' := by
  have c0 := h.c0
  have c1 := h.c1
  by_cases hk : 0 ≤ k ∧ k < F.length
  · obtain ⟨k0, k1⟩ := hk
    obtain ⟨m, rfl⟩ : ∃ m : Nat, k = m := ⟨k.toNat, by omega⟩
    obtain ⟨g, rfl, _, _, _, _, hC⟩ := h.addr (by omega)
    obtain ⟨f, hf⟩ : ∃ f, F[m]? = some f := ⟨F[m]'(by omega), by simp [show m < F.length by omega]⟩
    have x4 := (hC m f hf 4 _ rfl).1
    obtain rfl : b = f.kn := by rw [hb.out, decide_eq_true k0, Bool.true_and, Int.toNat_natCast, kF_at hf]
    have Hh : Hid (true = decide (0 ≤ (m : Int) ∧ (m : Int) < F.length)) := hid (decide_eq_true ⟨k0, k1⟩).symm
    clear hC hb h
    go_enter Try.func14, Try.ntmps14
    go_wp2_with (go_at_call 32; refine (covers_any p F.length cf _ m true _ c0 c1 Hh).mono ?_; rintro e w2 ⟨rfl, rfl⟩)
    go_ret
    exact ⟨rfl, rfl⟩
  · have Hh : Hid (false = decide (0 ≤ k ∧ k < F.length)) := hid (decide_eq_false hk).symm
    obtain rfl : b = false := by
      rw [hb.out]
      by_cases h0 : 0 ≤ k
      · rw [decide_eq_true h0, Bool.true_and]
        cases hq : kF F k.toNat with
        | false => rfl
        | true => exact absurd ⟨h0, by have := kF_lt hq; omega⟩ hk
      · rw [decide_eq_false h0, Bool.false_and]
    clear h hb hk
    go_enter Try.func14, Try.ntmps14
    go_wp2_with (go_at_call 32; refine (covers_any p F.length cf _ k false _ c0 c1 Hh).mono ?_; rintro e w2 ⟨rfl, rfl⟩)
    go_ret
    exact ⟨rfl, rfl⟩
set_option maxRecDepth 50000 in
set_option maxHeartbeats 1000000 in
theorem kcan_any (p cf : Nat) (Af : Option Addr) (F : List Fa) (k : Int) (b : Bool) (w : World) (h : KS w p Af cf F) (hb : Hid (b = (decide (0 ≤ k) && cF F k.toNat))) :
    Calls Try.prog 15 #[.pointer (some ⟨p, 0, none⟩), .int .i64 k] w fun e w' => e = .returned (.bool b) ∧ w = w' := by
  have c0 := h.c0
  have c1 := h.c1
  by_cases hk : 0 ≤ k ∧ k < F.length
  · obtain ⟨k0, k1⟩ := hk
    obtain ⟨m, rfl⟩ : ∃ m : Nat, k = m := ⟨k.toNat, by omega⟩
    obtain ⟨g, rfl, _, _, _, _, hC⟩ := h.addr (by omega)
    obtain ⟨f, hf⟩ : ∃ f, F[m]? = some f := ⟨F[m]'(by omega), by simp [show m < F.length by omega]⟩
    have x4 := (hC m f hf 5 _ rfl).1
    obtain rfl : b = f.ca := by rw [hb.out, decide_eq_true k0, Bool.true_and, Int.toNat_natCast, cF_at hf]
    have Hh : Hid (true = decide (0 ≤ (m : Int) ∧ (m : Int) < F.length)) := hid (decide_eq_true ⟨k0, k1⟩).symm
    clear hC hb h
    go_enter Try.func15, Try.ntmps15
    go_wp2_with (go_at_call 32; refine (covers_any p F.length cf _ m true _ c0 c1 Hh).mono ?_; rintro e w2 ⟨rfl, rfl⟩)
    go_ret
    exact ⟨rfl, rfl⟩
  · have Hh : Hid (false = decide (0 ≤ k ∧ k < F.length)) := hid (decide_eq_false hk).symm
    obtain rfl : b = false := by
      rw [hb.out]
      by_cases h0 : 0 ≤ k
      · rw [decide_eq_true h0, Bool.true_and]
        cases hq : cF F k.toNat with
        | false => rfl
        | true => exact absurd ⟨h0, by have := cF_lt hq; omega⟩ hk
      · rw [decide_eq_false h0, Bool.false_and]
    clear h hb hk
    go_enter Try.func15, Try.ntmps15
    go_wp2_with (go_at_call 32; refine (covers_any p F.length cf _ k false _ c0 c1 Hh).mono ?_; rintro e w2 ⟨rfl, rfl⟩)
    go_ret
    exact ⟨rfl, rfl⟩
end Go.Proofs.Ytboofkmbjmnpeaa

/- Can a term be made; does a known term show its B. -/
namespace Go.Proofs.Ytboofkmbjmnpeaa
open Go Go.RowKit Go.Maps

set_option maxRecDepth 50000 in
set_option maxHeartbeats 2000000 in
theorem makes_text (p cf : Nat) (Af : Option Addr) (F : List Fa) (k a b : Int) (hk : k = 9) (w : World) (h : KS w p Af cf F) :
    Calls Try.prog 41 #[.pointer (some ⟨p, 0, none⟩), tv (k, a, b)] w fun e w' => e = .returned (.bool true) ∧ Below w.heap.size w w' := by
  subst hk
  obtain ⟨W, hW, d0, d1, d2, hB, _⟩ := term_world (9, a, b) w
  have HB := hid hB
  dsimp only at hW d0 d1 d2
  have HW := hid hW
  clear hW hB h
  unfold tv
  go_enter Try.func41, Try.ntmps41
  go_upto_region 1 with (fail)
  rw [HW.out]
  go_wp2
  go_ret
  exact ⟨rfl, HB.out⟩
set_option maxRecDepth 50000 in
set_option maxHeartbeats 2000000 in
theorem makes_none (p cf : Nat) (Af : Option Addr) (F : List Fa) (k a b : Int) (hk : k = 1) (w : World) (h : KS w p Af cf F) :
    Calls Try.prog 41 #[.pointer (some ⟨p, 0, none⟩), tv (k, a, b)] w fun e w' => e = .returned (.bool false) ∧ Below w.heap.size w w' := by
  subst hk
  obtain ⟨W, hW, d0, d1, d2, hB, _⟩ := term_world (1, a, b) w
  have HB := hid hB
  dsimp only at hW d0 d1 d2
  have HW := hid hW
  clear hW hB h
  unfold tv
  go_enter Try.func41, Try.ntmps41
  go_upto_region 1 with (fail)
  rw [HW.out]
  go_wp2
  go_ret
  exact ⟨rfl, HB.out⟩
set_option maxRecDepth 50000 in
set_option maxHeartbeats 2000000 in
theorem makes_one (p cf : Nat) (Af : Option Addr) (F : List Fa) (k b : Int) (a : Nat) (f : Fa) (hk : isOne k = true) (hf : F[a]? = some f) (w : World) (h : KS w p Af cf F) :
    Calls Try.prog 41 #[.pointer (some ⟨p, 0, none⟩), tv (k, a, b)] w fun e w' => e = .returned (.bool f.ca) ∧ Below w.heap.size w w' := by
  obtain ⟨W, hW, d0, d1, d2, hB, _⟩ := term_world (k, a, b) w
  have h2 := h.next hB
  have ha := get_lt hf
  obtain ⟨g, rfl, _, _, _, _, hC⟩ := h2.addr (by omega)
  have x5 := (hC a f hf 5 _ rfl).1
  have c1 := h2.c1
  have a0 : (0 : Int) ≤ a := by omega
  have a1 : (a : Int) < F.length := by omega
  have HB := hid hB
  dsimp only at hW d0 d1 d2
  have HW := hid hW
  clear hW hB h hC h2 hf ha
  simp only [isOne, Bool.or_eq_true, beq_iff_eq] at hk
  rcases hk with (((rfl | rfl) | rfl) | rfl) | rfl
  all_goals
    unfold tv
    go_enter Try.func41, Try.ntmps41
    go_upto_region 1 with (fail)
    rw [HW.out]
    go_upto_region 9 with (fail)
    go_quiet (fail)
    go_wp2
    go_ret
    exact ⟨rfl, HB.out.trans (below_drewN (Below.refl _ _) _)⟩
set_option maxRecDepth 50000 in
set_option maxHeartbeats 2000000 in
theorem makes_two (p cf : Nat) (Af : Option Addr) (F : List Fa) (k : Int) (a b : Nat) (f f' : Fa) (hk : isTwo k = true) (hf : F[a]? = some f) (hf' : F[b]? = some f') (r : Bool) (w : World) (h : KS w p Af cf F) (hr : Hid ((f.ca && f'.ca) = r)) :
    Calls Try.prog 41 #[.pointer (some ⟨p, 0, none⟩), tv (k, a, b)] w fun e w' => e = .returned (.bool r) ∧ Below w.heap.size w w' := by
  obtain ⟨W, hW, d0, d1, d2, hB, _⟩ := term_world (k, a, b) w
  have h2 := h.next hB
  have ha := get_lt hf
  have hb := get_lt hf'
  obtain ⟨g, rfl, _, _, _, _, hC⟩ := h2.addr (by omega)
  have x5 := (hC a f hf 5 _ rfl).1
  have y5 := (hC b f' hf' 5 _ rfl).1
  have c1 := h2.c1
  have a0 : (0 : Int) ≤ a := by omega
  have a1 : (a : Int) < F.length := by omega
  have b0 : (0 : Int) ≤ b := by omega
  have b1 : (b : Int) < F.length := by omega
  obtain ⟨u, hu⟩ : ∃ u, f.ca = u := ⟨_, rfl⟩
  obtain ⟨u', hu'⟩ : ∃ u, f'.ca = u := ⟨_, rfl⟩
  rw [hu] at x5
  rw [hu'] at y5
  have Hr : Hid ((u && u') = r) := hid (by rw [← hu, ← hu']; exact hr.out)
  have HB := hid hB
  dsimp only at hW d0 d1 d2
  have HW := hid hW
  clear hW hB h hC h2 hf hf' ha hb hr hu hu'
  simp only [isTwo, Bool.or_eq_true, beq_iff_eq] at hk
  cases u
  all_goals
    simp only [Bool.false_and, Bool.true_and] at Hr
    obtain rfl := Hr.out
    clear Hr
    rcases hk with (rfl | rfl) | rfl
  all_goals
    unfold tv
    go_enter Try.func41, Try.ntmps41
    go_upto_region 1 with (fail)
    rw [HW.out]
    go_upto_region 13 with (fail)
    go_quiet (fail)
    go_wp2
    go_ret
    exact ⟨rfl, HB.out.trans (below_drewN (Below.refl _ _) _)⟩
/-- A term as the store has it: what it refers to is there. -/
def Fits (n : Nat) (t : T3) : Prop := t.1 = 1 ∨ t.1 = 9 ∨ (isOne t.1 = true ∧ 0 ≤ t.2.1 ∧ t.2.1 < n) ∨ (isTwo t.1 = true ∧ 0 ≤ t.2.1 ∧ t.2.1 < n ∧ 0 ≤ t.2.2 ∧ t.2.2 < n)
theorem makes_any (p cf : Nat) (Af : Option Addr) (F : List Fa) (t : T3) (r : Bool) (w : World) (h : KS w p Af cf F) (ht : Fits F.length t) (hr : mkB t (cF F) = r) :
    Calls Try.prog 41 #[.pointer (some ⟨p, 0, none⟩), tv t] w fun e w' => e = .returned (.bool r) ∧ Below w.heap.size w w' := by
  obtain ⟨k, a, b⟩ := t
  subst hr
  rcases ht with h1 | h1 | ⟨h1, h2, h3⟩ | ⟨h1, h2, h3, h4, h5⟩
  · dsimp only at h1
    have e : mkB (k, a, b) (cF F) = false := by subst h1; rfl
    rw [e]; exact makes_none p cf Af F k a b h1 w h
  · dsimp only at h1
    have e : mkB (k, a, b) (cF F) = true := by subst h1; rfl
    rw [e]; exact makes_text p cf Af F k a b h1 w h
  · dsimp only at h1 h2 h3
    obtain ⟨n, rfl⟩ : ∃ n : Nat, a = n := ⟨a.toNat, by omega⟩
    have hl : n < F.length := by omega
    have hf : F[n]? = some F[n] := by simp [hl]
    have e : mkB (k, (n : Int), b) (cF F) = F[n].ca := by
      have e1 : isTwo k = false := by
        simp only [isOne, Bool.or_eq_true, beq_iff_eq] at h1
        rcases h1 with (((rfl | rfl) | rfl) | rfl) | rfl <;> rfl
      have e2 : (k == 9) = false := by
        simp only [isOne, Bool.or_eq_true, beq_iff_eq] at h1
        rcases h1 with (((rfl | rfl) | rfl) | rfl) | rfl <;> rfl
      simp only [mkB, h1, e1, e2, Bool.false_or, Bool.true_and, Bool.false_and, Bool.or_false, Int.toNat_natCast, cF_at hf]
    rw [e]; exact makes_one p cf Af F k b n F[n] h1 hf w h
  · dsimp only at h1 h2 h3 h4 h5
    obtain ⟨n, rfl⟩ : ∃ n : Nat, a = n := ⟨a.toNat, by omega⟩
    obtain ⟨m, rfl⟩ : ∃ n : Nat, b = n := ⟨b.toNat, by omega⟩
    have hl : n < F.length := by omega
    have hm : m < F.length := by omega
    have hf : F[n]? = some F[n] := by simp [hl]
    have hf' : F[m]? = some F[m] := by simp [hm]
    have e : mkB (k, (n : Int), (m : Int)) (cF F) = (F[n].ca && F[m].ca) := by
      have e1 : isOne k = false := by
        simp only [isTwo, Bool.or_eq_true, beq_iff_eq] at h1
        rcases h1 with (rfl | rfl) | rfl <;> rfl
      have e2 : (k == 9) = false := by
        simp only [isTwo, Bool.or_eq_true, beq_iff_eq] at h1
        rcases h1 with (rfl | rfl) | rfl <;> rfl
      simp only [mkB, h1, e1, e2, Bool.false_or, Bool.true_and, Bool.false_and, Bool.or_false, Int.toNat_natCast, cF_at hf, cF_at hf']
    exact makes_two p cf Af F k n m F[n] F[m] h1 hf hf' _ w h (hid e.symm)
theorem wf_fits {T : List T3} (hW : WF T) {m n : Nat} {t : T3} (ht : T[m]? = some t) (hn : m ≤ n) : Fits n t := by
  rcases hW m t ht with h | h | ⟨h, h1, h2⟩ | ⟨h, h1, h2, h3, h4, h5⟩
  · exact .inl h
  · exact .inr (.inl h)
  · exact .inr (.inr (.inl ⟨h, h1, by omega⟩))
  · exact .inr (.inr (.inr ⟨h, h1, by omega, h3, by omega⟩))

/-! ### shows -/
def Fa.val (f : Fa) : Value := .agg f.cells.toArray
theorem fact_world (f : Fa) (w : World) : ∃ W, w.alloc (.cells #[.int .i64 f.t.1, .int .i64 f.t.2.1, .int .i64 f.t.2.2, .int .i64 f.key, .bool f.kn, .bool f.ca, .slice f.A f.sv.length f.c] 82) = W ∧ Blk W w.heap.size 82 f.cells ∧ Below w.heap.size w W :=
  ⟨_, rfl, Blk.new w 82 f.cells, below_new w _⟩
set_option maxRecDepth 50000 in
set_option maxHeartbeats 2000000 in
theorem shows_lock (p cf : Nat) (Af : Option Addr) (F : List Fa) (f f' : Fa) (key : Nat) (hk : f.t.1 = 4 ∨ f.t.1 = 5) (hkey : f.key = key) (hf' : F[key]? = some f') (w : World) (h : KS w p Af cf F) :
    Calls Try.prog 53 #[.pointer (some ⟨p, 0, none⟩), f.val] w fun e w' => e = .returned (.bool f'.ca) ∧ Below w.heap.size w w' := by
  obtain ⟨W, hW, hB0, hB⟩ := fact_world f w
  have h2 := h.next hB
  have ha := get_lt hf'
  obtain ⟨g, rfl, _, _, _, _, hC⟩ := h2.addr (by omega)
  have x5 := (hC key f' hf' 5 _ rfl).1
  have c1 := h2.c1
  have a0 : (0 : Int) ≤ key := by omega
  have a1 : (key : Int) < F.length := by omega
  have d0 := hB0.cell (i := 0) rfl
  have d3 := hB0.cell (i := 3) rfl
  rw [hkey] at d3
  obtain ⟨k, hk2⟩ : ∃ k, f.t.1 = k := ⟨_, rfl⟩
  rw [hk2] at d0 hk
  have HB := hid hB
  have HW := hid hW
  clear hW hB h hC h2 hf' ha hB0 hk2 hkey
  unfold Fa.val Fa.cells
  rcases hk with rfl | rfl
  all_goals
    go_enter Try.func53, Try.ntmps53
    go_upto_region 1 with (fail)
    rw [HW.out]
    go_upto_region 4 with (fail)
    go_quiet (fail)
    go_wp2
    go_ret
    exact ⟨rfl, HB.out.trans (below_drewN (Below.refl _ _) _)⟩
set_option maxRecDepth 50000 in
set_option maxHeartbeats 2000000 in
theorem shows_sign (p cf : Nat) (Af : Option Addr) (F : List Fa) (f : Fa) (hk : f.t.1 = 8) (w : World) (h : KS w p Af cf F) :
    Calls Try.prog 53 #[.pointer (some ⟨p, 0, none⟩), f.val] w fun e w' => e = .returned (.bool true) ∧ Below w.heap.size w w' := by
  obtain ⟨W, hW, hB0, hB⟩ := fact_world f w
  have d0 := hB0.cell (i := 0) rfl
  rw [hk] at d0
  have HB := hid hB
  have HW := hid hW
  clear hW hB h hB0 hk
  unfold Fa.val Fa.cells
  go_enter Try.func53, Try.ntmps53
  go_upto_region 1 with (fail)
  rw [HW.out]
  go_wp2
  go_ret
  exact ⟨rfl, HB.out⟩
set_option maxRecDepth 50000 in
set_option maxHeartbeats 2000000 in
theorem shows_none (p cf : Nat) (Af : Option Addr) (F : List Fa) (f : Fa) (h4 : (f.t.1 == 4) = false) (h5 : (f.t.1 == 5) = false) (h8 : (f.t.1 == 8) = false) (w : World) (h : KS w p Af cf F) :
    Calls Try.prog 53 #[.pointer (some ⟨p, 0, none⟩), f.val] w fun e w' => e = .returned (.bool false) ∧ Below w.heap.size w w' := by
  obtain ⟨W, hW, hB0, hB⟩ := fact_world f w
  have d0 := hB0.cell (i := 0) rfl
  obtain ⟨k, hk2⟩ : ∃ k, f.t.1 = k := ⟨_, rfl⟩
  rw [hk2] at d0 h4 h5 h8
  have HB := hid hB
  have HW := hid hW
  clear hW hB h hB0 hk2
  unfold Fa.val Fa.cells
  go_enter Try.func53, Try.ntmps53
  go_upto_region 1 with (fail)
  rw [HW.out]
  go_wp2
  go_ret
  exact ⟨rfl, HB.out⟩
theorem shows_any (p cf : Nat) (Af : Option Addr) (F : List Fa) (f : Fa) (r : Bool) (w : World) (h : KS w p Af cf F) (hkey : f.t.1 = 4 ∨ f.t.1 = 5 → 0 ≤ f.key ∧ f.key < F.length) (hr : shB f.t f.key (cF F) = r) :
    Calls Try.prog 53 #[.pointer (some ⟨p, 0, none⟩), f.val] w fun e w' => e = .returned (.bool r) ∧ Below w.heap.size w w' := by
  subst hr
  by_cases hk : f.t.1 = 4 ∨ f.t.1 = 5
  · obtain ⟨h1, h2⟩ := hkey hk
    have hl : f.key.toNat < F.length := by omega
    have hf : F[f.key.toNat]? = some F[f.key.toNat] := by simp [hl]
    have e : shB f.t f.key (cF F) = F[f.key.toNat].ca := by
      have h8 : (f.t.1 == 8) = false := beq_false_of_ne (by omega)
      have h45 : (f.t.1 == 4 || f.t.1 == 5) = true := by
        simp only [Bool.or_eq_true, beq_iff_eq]; exact hk
      simp only [shB, h8, h45, Bool.true_and, Bool.or_false, cF_at hf]
    rw [e]; exact shows_lock p cf Af F f _ f.key.toNat hk (by omega) hf w h
  · have h4 : (f.t.1 == 4) = false := beq_false_of_ne (fun e => hk (.inl e))
    have h5 : (f.t.1 == 5) = false := beq_false_of_ne (fun e => hk (.inr e))
    by_cases h8 : f.t.1 = 8
    · have e : shB f.t f.key (cF F) = true := by simp [shB, h8]
      rw [e]; exact shows_sign p cf Af F f h8 w h
    · have h8 : (f.t.1 == 8) = false := beq_false_of_ne h8
      have e : shB f.t f.key (cF F) = false := by simp [shB, h4, h5, h8]
      rw [e]; exact shows_none p cf Af F f h4 h5 h8 w h
end Go.Proofs.Ytboofkmbjmnpeaa
