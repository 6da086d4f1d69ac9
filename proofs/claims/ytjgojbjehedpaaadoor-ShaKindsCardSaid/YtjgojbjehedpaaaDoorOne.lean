/- The hash of one string and its half; the equality of two hashes; operations that are quiet in a class of worlds. -/
import Derived.Test.YtjgojbjehedpaaaDoorSum
import Derived.Test.YtjgojbjehedpaaaDoorQTail
import Derived.Test.YtjgojbjehedpaaaDoorWSame
import Derived.ChangeKeysEq
namespace Go.Proofs.YtjgojbjehedpaaaDoor
open Go.RowKit

/-- One part, at the row of one element. -/
structure OnePart (w : World) (g : Nat) (A : Option Addr) (c : Nat) (b : List Int) : Prop where
  cell : w.cell? ⟨g, 0, none⟩ = some (.slice A b.length c)
  nums : Nums w .u8 A b
  cap : b.length ≤ c
  len : b.length ≤ 1000
  byt : Byt b
theorem OnePart.parts {w : World} {g : Nat} {A : Option Addr} {c : Nat} {b : List Int} (h : OnePart w g A c b) : Parts w (some ⟨g, 0, none⟩) [(A, c, b)] := fun _ =>
  ⟨g, 0, rfl, World.block_lt_of_cell? w _ h.cell, fun i q hi => by
    match i, hi with
    | 0, hi => simp at hi; subst hi; exact h.cell⟩
theorem OnePart.ok {w : World} {g : Nat} {A : Option Addr} {c : Nat} {b : List Int} (h : OnePart w g A c b) : ∀ q ∈ [(A, c, b)], PartOk w q := fun q hq => by
  simp at hq; subst hq; exact ⟨h.nums, h.cap, h.len, h.byt⟩
theorem flat_one (A : Option Addr) (c : Nat) (b : List Int) : flat [(A, c, b)] = b := by simp [flat]
theorem sum_one (g : Nat) (A : Option Addr) (c : Nat) (b : List Int) (w : World) (ht : Tabs w) (h : OnePart w g A c b) :
    Calls Tryd.prog 8 #[.slice (some ⟨g, 0, none⟩) 1 1] w fun e w' => ∃ ys, e = .returned (.agg (ints .u8 ys).toArray) ∧ Hid (ys = hash b) ∧ Hid (ys.length = 64) ∧ Below w.heap.size w w' := by
  have := sum_any (some ⟨g, 0, none⟩) 1 [(A, c, b)] w ht h.parts h.ok (by rw [flat_one]; have := h.len; omega) (by simp)
  rw [flat_one] at this
  exact this

theorem zeros_len (n : Nat) : (zeros n).length = n := by simp [zeros]
theorem Tryd.info26 : (Tryd.prog.info? 26).map (fun i => (i.zero, i.size)) = some (some (.agg (ints .u8 (zeros 32)).toArray), 32) := by kernel_rfl
theorem store_new (w : World) (k : IntKind) (n : Nat) (t : TypeId) (ys : List Int) (h : ys.length = n) :
    (w.alloc (.cells (ints k (zeros n)).toArray t)).there w.heap.size 0 (ints k ys).toArray.size ∧ Arr ((w.alloc (.cells (ints k (zeros n)).toArray t)).setCells w.heap.size 0 (ints k ys).toArray.toList) w.heap.size 0 k ys := by
  have ha := Arr.made w k (zeros n) t
  refine ⟨?_, ?_⟩
  · have := ha.there; simpa [zeros, h] using this
  · have := ha.all (ys := ys) (by simp [zeros, h]); simpa using this

set_option maxHeartbeats 1000000 in
theorem half_one (g : Nat) (A : Option Addr) (c : Nat) (b : List Int) (w : World) (ht : Tabs w) (h : OnePart w g A c b) :
    Calls Tryd.prog 9 #[.slice (some ⟨g, 0, none⟩) 1 1] w fun e w' => ∃ ys, e = .returned (.agg (ints .u8 ys).toArray) ∧ Hid (ys = (hash b).take 32) ∧ Hid (ys.length = 32) ∧ Below w.heap.size w w' := by
  obtain ⟨z24, s24⟩ := zero_of_info Tryd.info24
  obtain ⟨z26, s26⟩ := zero_of_info Tryd.info26
  have hb0 := below_new w (.cells (ints .u8 (zeros 32)).toArray 26)
  have ht0 := ht.next hb0
  have hg := World.block_lt_of_cell? w _ h.cell
  have h0 : OnePart (w.alloc (.cells (ints .u8 (zeros 32)).toArray 26)) g A c b := ⟨(hb0.cell (p := ⟨g, 0, none⟩) hg).trans h.cell, h.nums.below hb0, h.cap, h.len, h.byt⟩
  have harr : ∀ (W : World) (A : Option Addr) (d : Nat), (Instr.arrayAt 26 (.slice A 32 d)).run Tryd.prog W = .ok (.pointer A) W := fun W A d => by simp [Instr.arrayAt, run_underlying Tryd.underlying26]
  go_enter Tryd.func9, Tryd.ntmps9
  go_wp2_with (first
    | (go_at_call 8; refine (sum_one g A c b _ ht0 h0).mono ?_; rintro e w1 ⟨ys, rfl, HY, HL, hb1⟩; obtain ⟨hth, hA1⟩ := store_new w1 .u8 64 24 ys HL.out; have hsz : (Tryd.prog.info? 24).map (·.size) = some (ints .u8 ys).toArray.size := (by rw [s24]; simp [HL.out]); obtain ⟨y2, hy2⟩ : ∃ y2, y2 = (ys.drop 0).take 32 := ⟨_, rfl⟩; have hrg := (hA1.cut (lo := 0) (m := 32) (by rw [HL.out]; omega)); rw [← hy2] at hrg; replace hrg := hrg.range; have hl2 : y2.length = 32 := (by rw [hy2]; simp [HL.out]); have HL2 := hid hl2; have HY2 := hid hy2; clear hl2 hy2; have hsz2 : (Tryd.prog.info? 26).map (·.size) = some (ints .u8 y2).length := (by rw [s26, ints_length, HL2.out]); have hsz3 : (Tryd.prog.info? 26).map (·.size) = some (ints .u8 y2).toArray.size := (by rw [s26]; simp [HL2.out]); have hR := ((((Arr.made w .u8 (zeros 32) 26).next' hb1).alloc (.cells (ints .u8 (zeros 64)).toArray 24)).past (b' := w1.heap.size) (o' := 0) (ints .u8 ys).toArray.toList (.inl (by have := hb1.size; simp at this; omega))); have hth3 := hR.there; have hth4 : World.there _ w.heap.size 0 (ints .u8 y2).toArray.size := (by have h3 := hth3; rw [zeros_len] at h3; rw [show (ints .u8 y2).toArray.size = 32 by simp [HL2.out]]; exact h3); clear hth3)
    | (with_reducible refine wpList_store_mid (op := ⟨none, .store 24 (.tmp 3) (.tmp 5), _, _, _, _⟩) rfl 24 (.tmp 3) (.tmp 5) rfl _ 0 (ints .u8 ys).toArray rfl rfl hth hsz (ints_all _ _) ?_)
    | (with_reducible refine wpList_load_mid (op := ⟨some 8, .load 26 (.tmp 7), _, _, _, _⟩) rfl 26 (.tmp 7) rfl w1.heap.size 0 rfl (ints .u8 y2) _ hrg Tryd.underlying26 rfl hsz2 ?_)
    | (with_reducible refine wpList_store_mid (op := ⟨none, .store 26 (.tmp 2) (.tmp 8), _, _, _, _⟩) rfl 26 (.tmp 2) (.tmp 8) rfl _ 0 (ints .u8 y2).toArray rfl rfl hth4 hsz3 (ints_all _ _) ?_))
  have hfin := hR.all (ys := y2) (by simp [zeros, HL2.out])
  refine ret_rows rfl w.heap.size 0 rfl (ints .u8 y2) _ ?_ Tryd.underlying26 rfl hsz2 rfl ⟨y2, rfl, by show _ = _; rw [HY2.out, HY.out]; rfl, HL2, ?_⟩
  · exact hfin.range
  · have h1 : Below w.heap.size w w1 := hb0.trans (hb1.mono (by simp))
    exact Below.setCells (Below.setCells (h1.alloc h1.size _) h1.size _ _) (Nat.le_refl _) _ _

theorem hash_eq_run (t e n : Nat) (xs : List Int) (hu : Tryd.prog.underlying t = some (.array n e)) (he : Tryd.prog.underlying e = some (.int .u8)) (hs : (Tryd.prog.info? e).map (·.size) = some 1) (hn : n = xs.length) (d : Nat) (W : World) :
    (Op.equalIn (d + 2) t (.agg (ints .u8 xs).toArray) (.agg (ints .u8 xs).toArray)).run Tryd.prog W = .ok true W := by
  cases hq : Tryd.prog.info? e with
  | none => simp [hq] at hs
  | some j =>
    have hj : j.size = 1 := by simpa [hq] using hs
    rw [run_equalIn_array W (d + 1) _ _ hu hq]
    have hc : Tryd.prog.cellsOf e = 1 := by simp [Program.cellsOf, hq, hj]
    rw [hc]
    have hall : ∀ i ∈ List.range n, i < xs.length := fun i hi => by rw [← hn]; exact List.mem_range.1 hi
    generalize List.range n = l at hall
    induction l with
    | nil => simp [Op.eqItems]
    | cons i l ih =>
      have hi := hall i (by simp)
      have hag : (isAgg e).run Tryd.prog W = .ok false W := by
        unfold isAgg
        rw [Sem.run_bind, run_underlying he W]
        simp
      have hp : (part e (ints .u8 xs).toArray (i * 1)).run Tryd.prog W = .ok (.int .u8 xs[i]) W := by
        simp [part, hag, ints, hi]
      simp only [Op.eqItems, Sem.run_bind, hp, Result.andThen_ok, run_equalIn_int W d e .u8 .u8 _ _ he, beq_self_eq_true, Bool.not_true, Bool.false_eq_true, if_false]
      exact ih (fun k hk => hall k (by simp [hk]))
end Go.Proofs.YtjgojbjehedpaaaDoor
