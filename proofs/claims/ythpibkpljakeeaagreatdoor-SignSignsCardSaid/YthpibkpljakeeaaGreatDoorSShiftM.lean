import Derived.Test.YthpibkpljakeeaaGreatDoorG7
import Derived.Test.YthpibkpljakeeaaGreatDoorSWordM
import Derived.Test.YthpibkpljakeeaaGreatDoorSLateM
import Derived.Shelf.Spec.BitsCarry
namespace Go.Proofs.YthpibkpljakeeaaGreatDoor
open Go.RowKit
theorem inf44 : (Tryz.prog.info? 108).map (fun i => (i.zero, i.size)) = some (some (.agg (ints .u64 (zeros 4)).toArray), 4) := by kernel_rfl
theorem l44 {q : List Int} (h : q.length = 4) : (Tryz.prog.info? 108).map (·.size) = some (ints .u64 q).length := (siz inf44 h).1
theorem a44 {q : List Int} (h : q.length = 4) : (Tryz.prog.info? 108).map (·.size) = some (ints .u64 q).toArray.size := (siz inf44 h).2
def ORD : List Int := nl (wdN QN 4)
def TabsQ (w : World) : Prop := 4 < w.heap.size ∧ ∀ i x, ORD[i]? = some x → w.cell? ⟨4, i, none⟩ = some (.int .u64 x)
theorem TabsQ.below {w w' : World} {B : Nat} (h : TabsQ w) (hb : Below B w w') (hB : 4 < B) : TabsQ w' :=
 ⟨Nat.lt_of_lt_of_le h.1 hb.size, fun i x hi => (World.cell?_of_block (a := ⟨4, i, none⟩) (hb.block 4 hB)).trans (h.2 i x hi)⟩
theorem TabsQ.next {w w' : World} (h : TabsQ w) (hb : Below w.heap.size w w') : TabsQ w' := h.below hb h.1
theorem TabsQ.alloc {w : World} (h : TabsQ w) (ob : Obj) : TabsQ (w.alloc ob) := h.next (below_new w ob)
theorem run_sub64' (x y b : Nat) (hb : b ≤ 1) (w : World) : (callFunc 94 #[.int .u64 (x : Int), .int .u64 (y : Int), .int .u64 (b : Int)]).run Tryz.prog w =
     .ok (.value (.tuple #[.int .u64 (((x + 18446744073709551616 - y - b) % 18446744073709551616 : Nat) : Int), .int .u64 ((if x < y + b then 1 else 0 : Nat) : Int)])) w := by
 rw [run_callFunc_extern Tryz.func94 (by kernel_rfl) (by kernel_rfl) (by kernel_rfl) (e := sub64Entry) (by kernel_rfl), run_sub64 x y b hb]
 rfl
section
variable {P : Program} {ops : Array Oper} {md : Region.Mode} {W : World} {a0 : Act} {n : Nat} {al : Nat → Bool} {S : Nat → Value → World → Prop} {Q : Exit → Act → World → Prop} {i : Nat} {o : Oper}
theorem step_ex (v : Value) (hal : al i = false) (hg : GuardOn ops md n S i o) (hS : S i = Is v) (h : ∀ (a : Act) (w : World), Cl W w → Fr ops n a0 a → Dp ops md n S i a w → (execOp a.eval o).run P w = .ok (.value v) w) : StepOk P ops md W a0 n al S Q i o :=
 step_run hal hg fun a w hw hf hd => ⟨v, h a w hw hf hd, by rw [hS]; exact rfl⟩
theorem no_waitL {ops : Array Oper} {n j : Nat} (h : Region.waitsFor .any ops n j = false) (k : Region.waitsFor .any ops n j = true) : False := by rw [h] at k; cases k
end
theorem cl_cell {W w : World} {b o : Nat} {v : Option Value} (h : Cl W w) (hb : b < W.heap.size) (hc : W.cell? ⟨b, o, none⟩ = v) : w.cell? ⟨b, o, none⟩ = v := (h.cell (p := ⟨b, o, none⟩) hb).trans hc
theorem cl_frozen {W w : World} {b o : Nat} {v : Bool} (h : Cl W w) (hb : b < W.heap.size) (hc : W.frozen? ⟨b, o, none⟩ = v) : w.frozen? ⟨b, o, none⟩ = v := by
 have := h.block b hb
 unfold World.frozen? at *
 rw [this]; exact hc
theorem wp_st42 {o : Oper} {a : Act} {w : World} {K : Act → World → Prop} {Q : Exit → Act → World → Prop} (x y : Operand) (ho : o.op = .store 75 x y) (hd : o.dst = none) {b off : Nat} {v : Int} {u : Int} (hx : a.eval x = .pointer (some ⟨b, off, none⟩)) (hy : a.eval y = .int .u64 v)
   (hc : w.cell? ⟨b, off, none⟩ = some (.int .u64 u)) (hf : w.frozen? ⟨b, off, none⟩ = false) (hK : K a (w.setCell ⟨b, off, none⟩ (.int .u64 v))) : o.wp Tryz.prog a w K Q := by
 have hr : (execOp a.eval o).run Tryz.prog w = .ok .skip (w.setCell ⟨b, off, none⟩ (.int .u64 v)) := by
   generalize a.eval = ev at hx hy
   unfold execOp
   simp only [ho, hx, hy]
   go_simp
 unfold Oper.wp
 rw [hr]
 simp only [Oper.upon, hd]
 exact hK
theorem SbI.start (ns qs : List Nat) : SbI ns qs [0, 0, 0, 0] 0 0 :=
 ⟨rfl, fun v hv => by simp at hv; omega, by omega, by simp [wv], fun i h1 h2 => by
   have : i = 0 ∨ i = 1 ∨ i = 2 ∨ i = 3 := by omega
   rcases this with rfl | rfl | rfl | rfl <;> rfl⟩
theorem qn2 {m b : Nat} (hm : m < QN) (hb : b ≤ 1) : 2 * m + b - QN < QN := by unfold QN at *; omega
theorem pick_all {zs ys : List Nat} {bo t : Nat} (ht : t - QN < QN) (hy : Wds ys) (hz : W4 zs t) (h : (bo = 1 ∧ t < QN) ∨ (bo = 0 ∧ QN ≤ t ∧ W4 ys (t - QN))) : ∃ (kp : Int) (ss : List Nat), IntKind.u64.wrap (-(bo : Int)) = kp ∧ W4 ss (t % QN) ∧ ∀ k, k < 4 → bits .or .u64 (bits .and .u64 ((zs.getD k 0 : Nat) : Int) kp) (bits .andNot .u64 ((ys.getD k 0 : Nat) : Int) kp) = ((ss.getD k 0 : Nat) : Int) := by
 rcases h with ⟨rfl, h⟩ | ⟨rfl, h, hw⟩
 · refine ⟨18446744073709551615, zs, rfl, by rw [Nat.mod_eq_of_lt h]; exact hz, fun k _ => keep_yes _ _ (wds_at hz.2.1 k) (wds_at hy k)⟩
 · refine ⟨0, ys, rfl, ?_, fun k _ => keep_no _ _ (wds_at hz.2.1 k) (wds_at hy k)⟩
   have e : t % QN = t - QN := by
     rw [Nat.mod_eq_sub_mod h, Nat.mod_eq_of_lt ht]
   rw [e]; exact hw
def MixI (zs ss zz : List Nat) (k : Nat) : Prop := zz.length = 4 ∧ ∀ i : Nat, zz[i]? = if i < k then ss[i]? else zs[i]?
theorem MixI.step {zs ss zz : List Nat} {k : Nat} (h : MixI zs ss zz k) (hs : ss.length = 4) (hk : k < 4) : MixI zs ss (zz.set k (ss.getD k 0)) (k + 1) := by
 refine ⟨by rw [List.length_set]; exact h.1, fun i => ?_⟩
 by_cases e : k = i
 · subst e
   rw [List.getElem?_set_self (by rw [h.1]; exact hk), if_pos (by omega), getD_of (by omega)]
 · rw [List.getElem?_set_ne e, h.2 i]
   by_cases h1 : i < k
   · rw [if_pos h1, if_pos (by omega)]
   · rw [if_neg h1, if_neg (by omega)]
theorem MixI.end_ {zs ss zz : List Nat} (h : MixI zs ss zz 4) (hs : ss.length = 4) : zz = ss := by
 apply List.ext_getElem?
 intro i
 rw [h.2 i]
 by_cases h1 : i < 4
 · rw [if_pos h1]
 · have h2 := h.2 i
   rw [if_neg h1, List.getElem?_eq_none (by rw [h.1]; omega)] at h2
   rw [if_neg h1, ← h2, List.getElem?_eq_none (l := ss) (by omega)]
theorem sh2 (x y : Nat) (h : 2 * x % 18446744073709551616 = y) : IntKind.u64.wrap ((x : Int) * 2) = (y : Int) := by
 rw [IntKind.wrap_u64]; omega
theorem sh63 (x t : Nat) (h : x / 9223372036854775808 = t) : (x : Int) / 9223372036854775808 = (t : Int) := by omega
set_option maxRecDepth 4000 in
set_option maxHeartbeats 4000000 in
theorem shift_walk (ns : List Nat) (b0 m : Nat) (w : World) (hT : TabsQ w) (hn : W4 ns m) (hm : m < QN) (hb : b0 ≤ 1) :
   Calls Tryz.prog 75 #[.agg (ints .u64 (nl ns)).toArray, .int .u64 (b0 : Int)] w fun e w' => ∃ zs, e = .returned (.agg (ints .u64 (nl zs)).toArray) ∧ Hid (W4 zs ((2 * m + b0) % QN)) ∧ Below w.heap.size w w' := by
 obtain ⟨z44, s44⟩ := zero_of_info inf44
 have HN := hid hn
 have HM := hid hm
 have HB := hid hb
 clear hn hm hb
 have hZ := (Arr.made w .u64 (nl ns) 108).alloc (.cells (ints .u64 (zeros 4)).toArray 108)
 have hR := Arr.made (w.alloc (.cells (ints .u64 (nl ns)).toArray 108)) .u64 (zeros 4) 108
 have hW := (below_new w (.cells (ints .u64 (nl ns)).toArray 108)).alloc (by simp) (.cells (ints .u64 (zeros 4)).toArray 108)
 rw [World.size_alloc] at hR
 go_enter Tryz.func75, Tryz.ntmps75
 go_wp2
 go_loopw [1, 11] (fun b i wr => ∃ (k bb : Nat) (zs : List Nat), k ≤ 4 ∧ i = .int .i64 k ∧ b = .int .u64 bb ∧ Hid (ShI ns b0 zs bb k) ∧ Arr wr w.heap.size 0 .u64 (nl zs) ∧ Arr wr (w.heap.size + 1) 0 .u64 (zeros 4) ∧ Below w.heap.size w wr) (fun _ i _ => 4 - (intOf i).toNat)
 case atStart => exact ⟨0, b0, ns, by omega, rfl, rfl, hid ⟨rfl, HN.out.2.1, HB.out, by simp [wv], fun _ _ => rfl⟩, hZ, hR, hW⟩
 case round =>
   clear hZ hR hW
   obtain ⟨k, bb, zs, hk, rfl, rfl, HI, hZ, hR, hW⟩ := hrel
   rename World => W1
   by_cases hlt : k < 4
   · have k0 : (0 : Int) ≤ k := by omega
     have k4 : (k : Int) < 4 := by omega
     have HX := hid (HI.out.at_ (k := k) (by rw [HN.out.1]; omega))
     have HL : Hid (ns.getD k 0 < 18446744073709551616) := hid (wds_at HN.out.2.1 k)
     have HS := fun x hx hl => HI.out.step (x := x) (by rw [HN.out.1]; omega) hx hl
     have hz : (nl zs)[k]? = some ((ns.getD k 0 : Nat) : Int) := by unfold nl; rw [List.getElem?_map, HX.out]; rfl
     have hlb := hZ.lt (by have := (List.getElem?_eq_some_iff.1 hz).1; omega)
     have cx := hZ.at_ hz
     have fx := hZ.free (i := k) (List.getElem?_eq_some_iff.1 hz).1
     rw [Nat.zero_add] at cx fx
     replace HS := hid (HS _ rfl HL.out)
     have hbb := HI.out.2.2.1
     clear HX hz
     generalize ns.getD k 0 = x at *
     have hor := or_bit x bb HL.out hbb
     obtain ⟨y, hy⟩ : ∃ y, 2 * x % 18446744073709551616 = y := ⟨_, rfl⟩
     obtain ⟨z, hz⟩ : ∃ z, y + bb = z := ⟨_, rfl⟩
     obtain ⟨t, ht⟩ : ∃ t, x / 9223372036854775808 = t := ⟨_, rfl⟩
     have hsh := sh2 x y hy
     have hsr := sh63 x t ht
     rw [hy, hz] at hor HS
     rw [ht] at HS
     clear hy hz ht hbb
     have cxC : ∀ w0, Cl W1 w0 → w0.cell? ⟨w.heap.size, k, none⟩ = some (.int .u64 (x : Int)) := fun w0 h => cl_cell h hlb cx
     have fxC : ∀ w0, Cl W1 w0 → w0.frozen? ⟨w.heap.size, k, none⟩ = false := fun w0 h => cl_frozen h hlb fx
     go_wp2
     refine region_late 12 64 [Is ((.int .i64 (k : Int))), Is ((.int .i64 (k : Int))), Is ((.pointer (some ⟨w.heap.size, k, none⟩))), Is ((.int .u64 (x : Int))), Is ((.int .u64 (y : Int))), Is ((.int .u64 (bb : Int))), Is ((.int .u64 (z : Int))), Is ((.int .i64 (k : Int))), Is ((.pointer (some ⟨w.heap.size, k, none⟩))), Is ((.int .u64 (x : Int))), Is ((.int .u64 (t : Int))), Is ((.pointer (some ⟨w.heap.size, k, none⟩)))] [14, 15, 16, 17, 18, 19, 20, 21, 22, 23, 24, 25] (by kernel_rfl) (by kernel_rfl) (by kernel_rfl) (Nat.le_of_eq rfl) (gC (gC (gC (gC (gC (gC (gC (gC (gC (gC (gC (gC grows_nil))))))))))))
       ⟨(step_ex (.int .i64 (k : Int)) rfl (.inl rfl) rfl fun a ww hw hf hd => by
            have h5 : a.eval (.tmp 5) = (.int .i64 (k : Int)) := (knows_out (v := (.int .i64 (k : Int))) 5 (by kernel_rfl) rfl : Knows _ _ W1 _ 12 _ 0 _ _) a ww hw hf hd
            revert h5
            generalize a.eval = ev
            intro h5
            unfold execOp
            simp only [h5]
            go_simp),
        (step_ex (.int .i64 (k : Int)) rfl (.inl rfl) rfl fun a ww hw hf hd => by
            have h5 : a.eval (.tmp 5) = (.int .i64 (k : Int)) := (knows_out (v := (.int .i64 (k : Int))) 5 (by kernel_rfl) rfl : Knows _ _ W1 _ 12 _ 1 _ _) a ww hw hf hd
            revert h5
            generalize a.eval = ev
            intro h5
            unfold execOp
            simp only [h5]
            go_simp),
        (step_ex (.pointer (some ⟨w.heap.size, k, none⟩)) rfl (.inl rfl) rfl fun a ww hw hf hd => by
            have h2 : a.eval (.tmp 2) = (.pointer (some ⟨w.heap.size, 0, none⟩)) := (knows_out (v := (.pointer (some ⟨w.heap.size, 0, none⟩))) 2 (by kernel_rfl) rfl : Knows _ _ W1 _ 12 _ 2 _ _) a ww hw hf hd
            have h15 : a.eval (.tmp 15) = (.int .i64 (k : Int)) := (knows_in (v := (.int .i64 (k : Int))) 1 15 (by decide) (by kernel_rfl) rfl rfl : Knows _ _ W1 _ 12 _ 2 _ _) a ww hw hf hd
            revert h2 h15
            generalize a.eval = ev
            intro h2 h15
            unfold execOp
            simp only [h2, h15]
            go_simp),
        (step_ex (.int .u64 (x : Int)) rfl (.inl rfl) rfl fun a ww hw hf hd => by
            have h16 : a.eval (.tmp 16) = (.pointer (some ⟨w.heap.size, k, none⟩)) := (knows_in (v := (.pointer (some ⟨w.heap.size, k, none⟩))) 2 16 (by decide) (by kernel_rfl) rfl rfl : Knows _ _ W1 _ 12 _ 3 _ _) a ww hw hf hd
            have hcc := cxC ww hw
            revert h16
            generalize a.eval = ev
            intro h16
            unfold execOp
            simp only [h16]
            go_simp),
        (step_ex (.int .u64 (y : Int)) rfl (.inl rfl) rfl fun a ww hw hf hd => by
            have h17 : a.eval (.tmp 17) = (.int .u64 (x : Int)) := (knows_in (v := (.int .u64 (x : Int))) 3 17 (by decide) (by kernel_rfl) rfl rfl : Knows _ _ W1 _ 12 _ 4 _ _) a ww hw hf hd
            have c0 : a.eval (.const (.int .u64 (1))) = .int .u64 (1) := rfl
            revert h17 c0
            generalize a.eval = ev
            intro h17 c0
            unfold execOp
            simp only [h17, c0]
            go_simp),
        (step_ex (.int .u64 (bb : Int)) rfl (.inl rfl) rfl fun a ww hw hf hd => by
            have h1 : a.eval (.tmp 1) = (.int .u64 (bb : Int)) := (knows_out (v := (.int .u64 (bb : Int))) 1 (by kernel_rfl) rfl : Knows _ _ W1 _ 12 _ 5 _ _) a ww hw hf hd
            revert h1
            generalize a.eval = ev
            intro h1
            unfold execOp
            simp only [h1]
            go_simp),
        (step_ex (.int .u64 (z : Int)) rfl (.inl rfl) rfl fun a ww hw hf hd => by
            have h18 : a.eval (.tmp 18) = (.int .u64 (y : Int)) := (knows_in (v := (.int .u64 (y : Int))) 4 18 (by decide) (by kernel_rfl) rfl rfl : Knows _ _ W1 _ 12 _ 6 _ _) a ww hw hf hd
            have h19 : a.eval (.tmp 19) = (.int .u64 (bb : Int)) := (knows_in (v := (.int .u64 (bb : Int))) 5 19 (by decide) (by kernel_rfl) rfl rfl : Knows _ _ W1 _ 12 _ 6 _ _) a ww hw hf hd
            revert h18 h19
            generalize a.eval = ev
            intro h18 h19
            unfold execOp
            simp only [h18, h19]
            go_simp),
        (step_ex (.int .i64 (k : Int)) rfl (.inl rfl) rfl fun a ww hw hf hd => by
            have h5 : a.eval (.tmp 5) = (.int .i64 (k : Int)) := (knows_out (v := (.int .i64 (k : Int))) 5 (by kernel_rfl) rfl : Knows _ _ W1 _ 12 _ 7 _ _) a ww hw hf hd
            revert h5
            generalize a.eval = ev
            intro h5
            unfold execOp
            simp only [h5]
            go_simp),
        (step_ex (.pointer (some ⟨w.heap.size, k, none⟩)) rfl (.inl rfl) rfl fun a ww hw hf hd => by
            have h2 : a.eval (.tmp 2) = (.pointer (some ⟨w.heap.size, 0, none⟩)) := (knows_out (v := (.pointer (some ⟨w.heap.size, 0, none⟩))) 2 (by kernel_rfl) rfl : Knows _ _ W1 _ 12 _ 8 _ _) a ww hw hf hd
            have h21 : a.eval (.tmp 21) = (.int .i64 (k : Int)) := (knows_in (v := (.int .i64 (k : Int))) 7 21 (by decide) (by kernel_rfl) rfl rfl : Knows _ _ W1 _ 12 _ 8 _ _) a ww hw hf hd
            revert h2 h21
            generalize a.eval = ev
            intro h2 h21
            unfold execOp
            simp only [h2, h21]
            go_simp),
        (step_ex (.int .u64 (x : Int)) rfl (.inl rfl) rfl fun a ww hw hf hd => by
            have h22 : a.eval (.tmp 22) = (.pointer (some ⟨w.heap.size, k, none⟩)) := (knows_in (v := (.pointer (some ⟨w.heap.size, k, none⟩))) 8 22 (by decide) (by kernel_rfl) rfl rfl : Knows _ _ W1 _ 12 _ 9 _ _) a ww hw hf hd
            have hcc := cxC ww hw
            revert h22
            generalize a.eval = ev
            intro h22
            unfold execOp
            simp only [h22]
            go_simp),
        (step_ex (.int .u64 (t : Int)) rfl (.inl rfl) rfl fun a ww hw hf hd => by
            have h23 : a.eval (.tmp 23) = (.int .u64 (x : Int)) := (knows_in (v := (.int .u64 (x : Int))) 9 23 (by decide) (by kernel_rfl) rfl rfl : Knows _ _ W1 _ 12 _ 10 _ _) a ww hw hf hd
            have c0 : a.eval (.const (.int .u64 (63))) = .int .u64 (63) := rfl
            revert h23 c0
            generalize a.eval = ev
            intro h23 c0
            unfold execOp
            simp only [h23, c0]
            go_simp),
        (step_ex (.pointer (some ⟨w.heap.size, k, none⟩)) rfl (.inl rfl) rfl fun a ww hw hf hd => by
            have h2 : a.eval (.tmp 2) = (.pointer (some ⟨w.heap.size, 0, none⟩)) := (knows_out (v := (.pointer (some ⟨w.heap.size, 0, none⟩))) 2 (by kernel_rfl) rfl : Knows _ _ W1 _ 12 _ 11 _ _) a ww hw hf hd
            have h14 : a.eval (.tmp 14) = (.int .i64 (k : Int)) := (knows_in (v := (.int .i64 (k : Int))) 0 14 (by decide) (by kernel_rfl) rfl rfl : Knows _ _ W1 _ 12 _ 11 _ _) a ww hw hf hd
            revert h2 h14
            generalize a.eval = ev
            intro h2 h14
            unfold execOp
            simp only [h2, h14]
            go_simp), trivial⟩ (fun w0 => w0.setCell ⟨w.heap.size, k, none⟩ (.int .u64 (z : Int))) _ rfl rfl
       (fun a ww K hw hf hd hK => by
         have hp : a.eval (.tmp 25) = (.pointer (some ⟨w.heap.size, k, none⟩)) := hd 11 25 (by decide) (by kernel_rfl) rfl
         have hv : a.eval (.tmp 20) = (.int .u64 (z : Int)) := hd 6 20 (by decide) (by kernel_rfl) rfl
         have hs0 := cxC ww hw
         have hs1 := fxC ww hw
         exact wp_st42 (.tmp 25) (.tmp 20) rfl rfl hp hv hs0 hs1 hK)
       (fun i o hi ho hf => by
         have hc : i = 0 ∨ i = 1 ∨ i = 2 ∨ i = 3 ∨ i = 4 ∨ i = 5 ∨ i = 6 ∨ i = 7 ∨ i = 8 ∨ i = 9 ∨ i = 10 ∨ i = 11 := by omega
         rcases hc with e | e | e | e | e | e | e | e | e | e | e | e <;> subst e
         · exact (no_waitL hf (by kernel_rfl)).elim
         · exact (no_waitL hf (by kernel_rfl)).elim
         · exact (no_waitL hf (by kernel_rfl)).elim
         · exact (no_waitL hf (by kernel_rfl)).elim
         · exact (no_waitL hf (by kernel_rfl)).elim
         · exact (no_waitL hf (by kernel_rfl)).elim
         · exact (no_waitL hf (by kernel_rfl)).elim
         · injection ho with ho; subst ho
           refine ⟨rfl, fun a w0 ww hw hf hd => ⟨(.int .i64 (k : Int)), ?_, rfl⟩⟩
           have h5 : a.eval (.tmp 5) = (.int .i64 (k : Int)) := (knows_out (v := (.int .i64 (k : Int))) 5 (by kernel_rfl) rfl : Knows _ _ W1 _ 12 _ 7 _ _) a w0 hw hf hd
           revert h5
           generalize a.eval = ev
           intro h5
           unfold execOp
           simp only [h5]
           go_simp
         · exact (no_waitL hf (by kernel_rfl)).elim
         · exact (no_waitL hf (by kernel_rfl)).elim
         · injection ho with ho; subst ho
           refine ⟨rfl, fun a w0 ww hw hf hd => ⟨(.int .u64 (t : Int)), ?_, rfl⟩⟩
           have h23 : a.eval (.tmp 23) = (.int .u64 (x : Int)) := (knows_in (v := (.int .u64 (x : Int))) 9 23 (by decide) (by kernel_rfl) rfl rfl : Knows _ _ W1 _ 12 _ 10 _ _) a w0 hw hf hd
           have c0 : a.eval (.const (.int .u64 (63))) = .int .u64 (63) := rfl
           revert h23 c0
           generalize a.eval = ev
           intro h23 c0
           unfold execOp
           simp only [h23, c0]
           go_simp
         · exact (no_waitL hf (by kernel_rfl)).elim) ?_
     intro val w9 hw hS
     have e14 := eVal hS 0 14 rfl rfl
     have e15 := eVal hS 1 15 rfl rfl
     have e16 := eVal hS 2 16 rfl rfl
     have e17 := eVal hS 3 17 rfl rfl
     have e18 := eVal hS 4 18 rfl rfl
     have e19 := eVal hS 5 19 rfl rfl
     have e20 := eVal hS 6 20 rfl rfl
     have e21 := eVal hS 7 21 rfl rfl
     have e22 := eVal hS 8 22 rfl rfl
     have e23 := eVal hS 9 23 rfl rfl
     have e24 := eVal hS 10 24 rfl rfl
     have e25 := eVal hS 11 25 rfl rfl
     simp only [pA, pB, pC, pD, pE, Act.put, pG, pH, pI, e14, e15, e16, e17, e18, e19, e20, e21, e22, e23, e24, e25]
     clear hS e14 e15 e16 e17 e18 e19 e20 e21 e22 e23 e24 e25
     have hZ9 := (hZ.below hw hlb).set k (z : Int)
     have hR9 := (hR.below hw (hR.lt (by rw [zeros_len]; omega))).apart (p := ⟨w.heap.size, k, none⟩) (.int .u64 (z : Int)) (.inl (by show w.heap.size ≠ w.heap.size + 1; omega))
     have hW9 := (bT hW hw).setCell (p := ⟨w.heap.size, k, none⟩) (Nat.le_refl _) (.int .u64 (z : Int))
     rw [Nat.zero_add, nl_set] at hZ9
     clear cxC fxC cx fx hZ hR hW hw
     generalize w9.setCell _ _ = w8 at *
     go_wp2
     go_roundw
     case rel => exact ⟨k + 1, t, zs.set k z, by omega, by go_num, rfl, HS, hZ9, hR9, hW9⟩
     case measure => simp [intOf]; omega
   · have e : k = 4 := by omega
     have hk4 : ¬ (k : Int) < 4 := by omega
     rw [e] at HI
     clear e
     have HZ := hid (HI.out.end_ HN.out HM.out HB.out)
     have HT2 := hid (qn2 HM.out HB.out)
     have hT1 := hT.below hW hT.1
     have hsz : w.heap.size + 1 < W1.heap.size := hR.lt (by rw [zeros_len]; omega)
     obtain ⟨d, hd⟩ : ∃ d, d = W1.heap.size := ⟨_, rfl⟩
     have hZ2 := hZ.alloc (.cells (ints .u64 (zeros 4)).toArray 108)
     have hR2 := hR.alloc (.cells (ints .u64 (zeros 4)).toArray 108)
     have hD2 := Arr.made W1 .u64 (zeros 4) 108
     have hW2 := hW.alloc hW.size (.cells (ints .u64 (zeros 4)).toArray 108)
     have hT2 := hT1.alloc (.cells (ints .u64 (zeros 4)).toArray 108)
     go_wp2
     rw [← hd] at hD2 hsz ⊢
     clear HI HN HM HB hlt hk hZ hR hW hT1 hd
     generalize W1.alloc _ = W2 at *
     go_loopw [7, 27] (fun c i wr => ∃ (k bo : Nat) (ys : List Nat), k ≤ 4 ∧ i = .int .i64 k ∧ c = .int .u64 bo ∧ Hid (SbI zs (wdN QN 4) ys bo k) ∧ Arr wr w.heap.size 0 .u64 (nl zs) ∧ Arr wr (w.heap.size + 1) 0 .u64 (zeros 4) ∧ Arr wr d 0 .u64 (nl ys) ∧ Below w.heap.size w wr ∧ TabsQ wr) (fun _ i _ => 4 - (intOf i).toNat)
     case atStart => exact ⟨0, 0, [0, 0, 0, 0], by omega, rfl, rfl, hid (SbI.start _ _), hZ2, hR2, hD2, hW2, hT2⟩
     case round =>
       clear hZ2 hR2 hD2 hW2 hT2
       obtain ⟨k, bo, ys, hk, rfl, rfl, HI, hZ, hR, hD, hW, hT2⟩ := hrel
       rename World => W1
       by_cases hlt : k < 4
       · have k0 : (0 : Int) ≤ k := by omega
         have k4 : (k : Int) < 4 := by omega
         have HL : Hid (zs.getD k 0 < 18446744073709551616) := hid (wds_at HZ.out.2.1 k)
         have HQL : Hid ((wdN QN 4).getD k 0 < 18446744073709551616) := hid (wds_at (W4.of qn_w).2.1 k)
         have HS := HI.out.step (x := zs.getD k 0) (y := (wdN QN 4).getD k 0) hlt HZ.out.1 (W4.of qn_w).1 rfl rfl HL.out HQL.out
         have hz : (nl zs)[k]? = some ((zs.getD k 0 : Nat) : Int) := nl_at (by rw [HZ.out.1]; omega)
         have hy : ORD[k]? = some (((wdN QN 4).getD k 0 : Nat) : Int) := nl_at (by rw [(W4.of qn_w).1]; omega)
         have hys : (nl ys)[k]? = some (((0 : Nat)) : Int) := by unfold nl; rw [List.getElem?_map, HI.out.2.2.2.2 k (Nat.le_refl _) hlt]; rfl
         have hlb := hZ.lt (by have := (List.getElem?_eq_some_iff.1 hz).1; omega)
         have hdl := hD.lt (by have := (List.getElem?_eq_some_iff.1 hys).1; omega)
         have cx := hZ.at_ hz
         have cy := hT2.2 k _ hy
         have cz := hD.at_ hys
         have fz := hD.free (i := k) (List.getElem?_eq_some_iff.1 hys).1
         rw [Nat.zero_add] at cx cz fz
         have hbb := HI.out.2.2.1
         clear hz hy hys
         generalize zs.getD k 0 = x at *
         generalize (wdN QN 4).getD k 0 = y at *
         have HSB := hid (fun w0 => run_sub64' x y bo hbb w0)
         obtain ⟨v, hv⟩ : ∃ v, (x + 18446744073709551616 - y - bo) % 18446744073709551616 = v := ⟨_, rfl⟩
         obtain ⟨c, hc⟩ : ∃ c, (if x < y + bo then 1 else 0) = c := ⟨_, rfl⟩
         rw [hv, hc] at HS HSB
         replace HS := hid HS
         clear hv hc hbb HL HQL
         have cxC : ∀ w0, Cl W1 w0 → w0.cell? ⟨w.heap.size, k, none⟩ = some (.int .u64 (x : Int)) := fun w0 h => cl_cell h hlb cx
         have cyC : ∀ w0, Cl W1 w0 → w0.cell? ⟨4, k, none⟩ = some (.int .u64 (y : Int)) := fun w0 h => cl_cell h hT2.1 cy
         have czC : ∀ w0, Cl W1 w0 → w0.cell? ⟨d, k, none⟩ = some (.int .u64 ((0 : Nat) : Int)) := fun w0 h => cl_cell h hdl cz
         have fzC : ∀ w0, Cl W1 w0 → w0.frozen? ⟨d, k, none⟩ = false := fun w0 h => cl_frozen h hdl fz
         go_wp2
         refine region_late 13 64 [Is ((.int .i64 (k : Int))), Is ((.int .i64 (k : Int))), Is ((.pointer (some ⟨w.heap.size, k, none⟩))), Is ((.int .u64 (x : Int))), Is ((.int .i64 (k : Int))), Is ((.pointer (some ⟨4, k, none⟩))), Is ((.int .u64 (y : Int))), Is ((.int .u64 (bo : Int))), Is ((.tuple #[.int .u64 (v : Int), .int .u64 (c : Int)])), Is ((.tuple #[.int .u64 (v : Int), .int .u64 (c : Int)])), Is ((.int .u64 (v : Int))), Is ((.int .u64 (c : Int))), Is ((.pointer (some ⟨d, k, none⟩)))] [31, 32, 33, 34, 35, 36, 37, 38, 39, 30, 40, 41, 42] (by kernel_rfl) (by kernel_rfl) (by kernel_rfl) (Nat.le_of_eq rfl) (gC (gC (gC (gC (gC (gC (gC (gC (gC (gC (gC (gC (gC grows_nil)))))))))))))
           ⟨(step_ex (.int .i64 (k : Int)) rfl (.inl rfl) rfl fun a ww hw hf hd => by
                have h8 : a.eval (.tmp 8) = (.int .i64 (k : Int)) := (knows_out (v := (.int .i64 (k : Int))) 8 (by kernel_rfl) rfl : Knows _ _ W1 _ 13 _ 0 _ _) a ww hw hf hd
                revert h8
                generalize a.eval = ev
                intro h8
                unfold execOp
                simp only [h8]
                go_simp),
            (step_ex (.int .i64 (k : Int)) rfl (.inl rfl) rfl fun a ww hw hf hd => by
                have h8 : a.eval (.tmp 8) = (.int .i64 (k : Int)) := (knows_out (v := (.int .i64 (k : Int))) 8 (by kernel_rfl) rfl : Knows _ _ W1 _ 13 _ 1 _ _) a ww hw hf hd
                revert h8
                generalize a.eval = ev
                intro h8
                unfold execOp
                simp only [h8]
                go_simp),
            (step_ex (.pointer (some ⟨w.heap.size, k, none⟩)) rfl (.inl rfl) rfl fun a ww hw hf hd => by
                have h2 : a.eval (.tmp 2) = (.pointer (some ⟨w.heap.size, 0, none⟩)) := (knows_out (v := (.pointer (some ⟨w.heap.size, 0, none⟩))) 2 (by kernel_rfl) rfl : Knows _ _ W1 _ 13 _ 2 _ _) a ww hw hf hd
                have h32 : a.eval (.tmp 32) = (.int .i64 (k : Int)) := (knows_in (v := (.int .i64 (k : Int))) 1 32 (by decide) (by kernel_rfl) rfl rfl : Knows _ _ W1 _ 13 _ 2 _ _) a ww hw hf hd
                revert h2 h32
                generalize a.eval = ev
                intro h2 h32
                unfold execOp
                simp only [h2, h32]
                go_simp),
            (step_ex (.int .u64 (x : Int)) rfl (.inl rfl) rfl fun a ww hw hf hd => by
                have h33 : a.eval (.tmp 33) = (.pointer (some ⟨w.heap.size, k, none⟩)) := (knows_in (v := (.pointer (some ⟨w.heap.size, k, none⟩))) 2 33 (by decide) (by kernel_rfl) rfl rfl : Knows _ _ W1 _ 13 _ 3 _ _) a ww hw hf hd
                have hcc := cxC ww hw
                revert h33
                generalize a.eval = ev
                intro h33
                unfold execOp
                simp only [h33]
                go_simp),
            (step_ex (.int .i64 (k : Int)) rfl (.inl rfl) rfl fun a ww hw hf hd => by
                have h8 : a.eval (.tmp 8) = (.int .i64 (k : Int)) := (knows_out (v := (.int .i64 (k : Int))) 8 (by kernel_rfl) rfl : Knows _ _ W1 _ 13 _ 4 _ _) a ww hw hf hd
                revert h8
                generalize a.eval = ev
                intro h8
                unfold execOp
                simp only [h8]
                go_simp),
            (step_ex (.pointer (some ⟨4, k, none⟩)) rfl (.inl rfl) rfl fun a ww hw hf hd => by
                have h35 : a.eval (.tmp 35) = (.int .i64 (k : Int)) := (knows_in (v := (.int .i64 (k : Int))) 4 35 (by decide) (by kernel_rfl) rfl rfl : Knows _ _ W1 _ 13 _ 5 _ _) a ww hw hf hd
                have g0 : a.eval (.global 4) = .pointer (some ⟨4, 0, none⟩) := rfl
                revert h35 g0
                generalize a.eval = ev
                intro h35 g0
                unfold execOp
                simp only [h35, g0]
                go_simp),
            (step_ex (.int .u64 (y : Int)) rfl (.inl rfl) rfl fun a ww hw hf hd => by
                have h36 : a.eval (.tmp 36) = (.pointer (some ⟨4, k, none⟩)) := (knows_in (v := (.pointer (some ⟨4, k, none⟩))) 5 36 (by decide) (by kernel_rfl) rfl rfl : Knows _ _ W1 _ 13 _ 6 _ _) a ww hw hf hd
                have hcc := cyC ww hw
                revert h36
                generalize a.eval = ev
                intro h36
                unfold execOp
                simp only [h36]
                go_simp),
            (step_ex (.int .u64 (bo : Int)) rfl (.inl rfl) rfl fun a ww hw hf hd => by
                have h7 : a.eval (.tmp 7) = (.int .u64 (bo : Int)) := (knows_out (v := (.int .u64 (bo : Int))) 7 (by kernel_rfl) rfl : Knows _ _ W1 _ 13 _ 7 _ _) a ww hw hf hd
                revert h7
                generalize a.eval = ev
                intro h7
                unfold execOp
                simp only [h7]
                go_simp),
            (step_ex (.tuple #[.int .u64 (v : Int), .int .u64 (c : Int)]) rfl (.inl rfl) rfl fun a ww hw hf hd => by
                have h34 : a.eval (.tmp 34) = (.int .u64 (x : Int)) := (knows_in (v := (.int .u64 (x : Int))) 3 34 (by decide) (by kernel_rfl) rfl rfl : Knows _ _ W1 _ 13 _ 8 _ _) a ww hw hf hd
                have h37 : a.eval (.tmp 37) = (.int .u64 (y : Int)) := (knows_in (v := (.int .u64 (y : Int))) 6 37 (by decide) (by kernel_rfl) rfl rfl : Knows _ _ W1 _ 13 _ 8 _ _) a ww hw hf hd
                have h38 : a.eval (.tmp 38) = (.int .u64 (bo : Int)) := (knows_in (v := (.int .u64 (bo : Int))) 7 38 (by decide) (by kernel_rfl) rfl rfl : Knows _ _ W1 _ 13 _ 8 _ _) a ww hw hf hd
                have f27 : a.eval (.func 94) = .func (.func 94) #[] #[] := rfl
                have hsb := HSB.out ww
                revert h34 h37 h38 f27
                generalize a.eval = ev
                intro h34 h37 h38 f27
                unfold execOp
                simp only [h34, h37, h38, f27]
                go_simp),
            (step_ex (.tuple #[.int .u64 (v : Int), .int .u64 (c : Int)]) rfl (.inl rfl) rfl fun a ww hw hf hd => by
                have h39 : a.eval (.tmp 39) = (.tuple #[.int .u64 (v : Int), .int .u64 (c : Int)]) := (knows_in (v := (.tuple #[.int .u64 (v : Int), .int .u64 (c : Int)])) 8 39 (by decide) (by kernel_rfl) rfl rfl : Knows _ _ W1 _ 13 _ 9 _ _) a ww hw hf hd
                revert h39
                generalize a.eval = ev
                intro h39
                unfold execOp
                simp only [h39]
                go_simp),
            (step_ex (.int .u64 (v : Int)) rfl (.inl rfl) rfl fun a ww hw hf hd => by
                have h30 : a.eval (.tmp 30) = (.tuple #[.int .u64 (v : Int), .int .u64 (c : Int)]) := (knows_in (v := (.tuple #[.int .u64 (v : Int), .int .u64 (c : Int)])) 9 30 (by decide) (by kernel_rfl) rfl rfl : Knows _ _ W1 _ 13 _ 10 _ _) a ww hw hf hd
                revert h30
                generalize a.eval = ev
                intro h30
                unfold execOp
                simp only [h30]
                go_simp),
            (step_ex (.int .u64 (c : Int)) rfl (.inl rfl) rfl fun a ww hw hf hd => by
                have h30 : a.eval (.tmp 30) = (.tuple #[.int .u64 (v : Int), .int .u64 (c : Int)]) := (knows_in (v := (.tuple #[.int .u64 (v : Int), .int .u64 (c : Int)])) 9 30 (by decide) (by kernel_rfl) rfl rfl : Knows _ _ W1 _ 13 _ 11 _ _) a ww hw hf hd
                revert h30
                generalize a.eval = ev
                intro h30
                unfold execOp
                simp only [h30]
                go_simp),
            (step_ex (.pointer (some ⟨d, k, none⟩)) rfl (.inl rfl) rfl fun a ww hw hf hd => by
                have h6 : a.eval (.tmp 6) = (.pointer (some ⟨d, 0, none⟩)) := (knows_out (v := (.pointer (some ⟨d, 0, none⟩))) 6 (by kernel_rfl) rfl : Knows _ _ W1 _ 13 _ 12 _ _) a ww hw hf hd
                have h31 : a.eval (.tmp 31) = (.int .i64 (k : Int)) := (knows_in (v := (.int .i64 (k : Int))) 0 31 (by decide) (by kernel_rfl) rfl rfl : Knows _ _ W1 _ 13 _ 12 _ _) a ww hw hf hd
                revert h6 h31
                generalize a.eval = ev
                intro h6 h31
                unfold execOp
                simp only [h6, h31]
                go_simp), trivial⟩ (fun w0 => w0.setCell ⟨d, k, none⟩ (.int .u64 (v : Int))) _ rfl rfl
           (fun a ww K hw hf hd hK => by
             have hp : a.eval (.tmp 42) = (.pointer (some ⟨d, k, none⟩)) := hd 12 42 (by decide) (by kernel_rfl) rfl
             have hv : a.eval (.tmp 40) = (.int .u64 (v : Int)) := hd 10 40 (by decide) (by kernel_rfl) rfl
             have hs0 := czC ww hw
             have hs1 := fzC ww hw
             exact wp_st42 (.tmp 42) (.tmp 40) rfl rfl hp hv hs0 hs1 hK)
           (fun i o hi ho hf => by
             have hc : i = 0 ∨ i = 1 ∨ i = 2 ∨ i = 3 ∨ i = 4 ∨ i = 5 ∨ i = 6 ∨ i = 7 ∨ i = 8 ∨ i = 9 ∨ i = 10 ∨ i = 11 ∨ i = 12 := by omega
             rcases hc with e | e | e | e | e | e | e | e | e | e | e | e | e <;> subst e
             · exact (no_waitL hf (by kernel_rfl)).elim
             · exact (no_waitL hf (by kernel_rfl)).elim
             · exact (no_waitL hf (by kernel_rfl)).elim
             · exact (no_waitL hf (by kernel_rfl)).elim
             · exact (no_waitL hf (by kernel_rfl)).elim
             · exact (no_waitL hf (by kernel_rfl)).elim
             · exact (no_waitL hf (by kernel_rfl)).elim
             · exact (no_waitL hf (by kernel_rfl)).elim
             · exact (no_waitL hf (by kernel_rfl)).elim
             · exact (no_waitL hf (by kernel_rfl)).elim
             · exact (no_waitL hf (by kernel_rfl)).elim
             · injection ho with ho; subst ho
               refine ⟨rfl, fun a w0 ww hw hf hd => ⟨(.int .u64 (c : Int)), ?_, rfl⟩⟩
               have h30 : a.eval (.tmp 30) = (.tuple #[.int .u64 (v : Int), .int .u64 (c : Int)]) := (knows_in (v := (.tuple #[.int .u64 (v : Int), .int .u64 (c : Int)])) 9 30 (by decide) (by kernel_rfl) rfl rfl : Knows _ _ W1 _ 13 _ 11 _ _) a w0 hw hf hd
               revert h30
               generalize a.eval = ev
               intro h30
               unfold execOp
               simp only [h30]
               go_simp
             · exact (no_waitL hf (by kernel_rfl)).elim) ?_
         intro val w9 hw hS
         have e31 := eVal hS 0 31 rfl rfl
         have e32 := eVal hS 1 32 rfl rfl
         have e33 := eVal hS 2 33 rfl rfl
         have e34 := eVal hS 3 34 rfl rfl
         have e35 := eVal hS 4 35 rfl rfl
         have e36 := eVal hS 5 36 rfl rfl
         have e37 := eVal hS 6 37 rfl rfl
         have e38 := eVal hS 7 38 rfl rfl
         have e39 := eVal hS 8 39 rfl rfl
         have e30 := eVal hS 9 30 rfl rfl
         have e40 := eVal hS 10 40 rfl rfl
         have e41 := eVal hS 11 41 rfl rfl
         have e42 := eVal hS 12 42 rfl rfl
         simp only [pA, pB, pC, pD, pE, Act.put, pG, pH, pI, e31, e32, e33, e34, e35, e36, e37, e38, e39, e30, e40, e41, e42]
         clear hS e31 e32 e33 e34 e35 e36 e37 e38 e39 e30 e40 e41 e42
         have hD9 := (hD.below hw hdl).set k (v : Int)
         have hZ9 := (hZ.below hw hlb).apart (p := ⟨d, k, none⟩) (.int .u64 (v : Int)) (.inl (by show d ≠ w.heap.size; omega))
         have hR9 := (hR.below hw (hR.lt (by rw [zeros_len]; omega))).apart (p := ⟨d, k, none⟩) (.int .u64 (v : Int)) (.inl (by show d ≠ w.heap.size + 1; omega))
         have hW9 := (bT hW hw).setCell (p := ⟨d, k, none⟩) (by show w.heap.size ≤ d; omega) (.int .u64 (v : Int))
         have hT9 := hT.below hW9 hT.1
         rw [Nat.zero_add, nl_set] at hD9
         clear cxC cyC czC fzC cx cy cz fz hZ hR hD hW hw hT2 HSB
         generalize w9.setCell _ _ = w8 at *
         go_wp2
         go_roundw
         case rel => exact ⟨k + 1, c, ys.set k v, by omega, by go_num, rfl, HS, hZ9, hR9, hD9, hW9, hT9⟩
         case measure => simp [intOf]; omega
       · have e : k = 4 := by omega
         have hk4 : ¬ (k : Int) < 4 := by omega
         rw [e] at HI
         clear e
         have HE := hid (HI.out.end_ HZ.out (W4.of qn_w))
         obtain ⟨kp, ss, hkn, HSS, HSEL⟩ := pick_all HT2.out HI.out.2.1 HZ.out HE.out
         replace HSS := hid HSS
         replace HSEL := hid HSEL
         have HYL := hid HI.out.1
         have hZ0 := hZ
         clear HI HE hlt hk hT2
         go_wp2
         go_loopw [46] (fun i wr => ∃ (k : Nat) (zz : List Nat), k ≤ 4 ∧ i = .int .i64 k ∧ Hid (MixI zs ss zz k) ∧ Arr wr w.heap.size 0 .u64 (nl zz) ∧ Arr wr (w.heap.size + 1) 0 .u64 (zeros 4) ∧ Arr wr d 0 .u64 (nl ys) ∧ Below w.heap.size w wr) (fun i _ => 4 - (intOf i).toNat)
         case atStart => exact ⟨0, zs, by omega, rfl, hid ⟨HZ.out.1, fun i => by simp⟩, hZ0, hR, hD, hW⟩
         case round =>
           clear hZ hZ0 hR hD hW
           obtain ⟨k, zz, hk, rfl, HI, hZ, hR, hD, hW⟩ := hrel
           rename World => W1
           by_cases hlt : k < 4
           · have k0 : (0 : Int) ≤ k := by omega
             have k4 : (k : Int) < 4 := by omega
             have hz : (nl zz)[k]? = some ((zs.getD k 0 : Nat) : Int) := by unfold nl; rw [List.getElem?_map, HI.out.2 k, if_neg (Nat.lt_irrefl _), getD_of (by rw [HZ.out.1]; exact hlt)]; rfl
             have hys : (nl ys)[k]? = some ((ys.getD k 0 : Nat) : Int) := nl_at (by rw [HYL.out]; exact hlt)
             have hsel := HSEL.out k hlt
             have HN := hid (HI.out.step HSS.out.1 hlt)
             have hlb := hZ.lt (by have := (List.getElem?_eq_some_iff.1 hz).1; omega)
             have cx := hZ.at_ hz
             have fx := hZ.free (i := k) (List.getElem?_eq_some_iff.1 hz).1
             have cy := hD.at_ hys
             rw [Nat.zero_add] at cx fx cy
             clear hz hys HI
             generalize zs.getD k 0 = x at *
             generalize ys.getD k 0 = y at *
             generalize ss.getD k 0 = s at *
             go_wp2
             go_still_tail 13, (by kernel_rfl)
             change wpList _ _ _ _ _ W1.drew
             have hZ9 := hZ.drew.set k (s : Int)
             have hD9 := hD.drew.apart (p := ⟨w.heap.size, k, none⟩) (.int .u64 (s : Int)) (.inl (by show w.heap.size ≠ d; omega))
             have hR9 := hR.drew.apart (p := ⟨w.heap.size, k, none⟩) (.int .u64 (s : Int)) (.inl (by show w.heap.size ≠ w.heap.size + 1; omega))
             have hW9 := hW.drew.setCell (p := ⟨w.heap.size, k, none⟩) (Nat.le_refl _) (.int .u64 (s : Int))
             rw [Nat.zero_add, nl_set] at hZ9
             have cx1 : W1.drew.cell? ⟨w.heap.size, k, none⟩ = some (.int .u64 (x : Int)) := cx
             have fx1 : W1.drew.frozen? ⟨w.heap.size, k, none⟩ = false := fx
             clear cx cy fx hZ hR hD hW
             generalize W1.drew = W9 at *
             go_wp2
             go_roundw
             case rel => exact ⟨k + 1, zz.set k s, by omega, by go_num, HN, hZ9, hR9, hD9, hW9⟩
             case measure => simp [intOf]; omega
           · have e : k = 4 := by omega
             subst e
             have HE : Hid (zz = ss) := hid (HI.out.end_ HSS.out.1)
             rw [HE.out] at hZ
             have HL : Hid ((nl ss).length = 4) := hid (by rw [nl_length]; exact HSS.out.1)
             have hs1 : W1.there (w.heap.size + 1) 0 (ints .u64 (nl ss)).toArray.size := hR.room (by rw [zeros_len]; exact HL.out)
             have hR2 := hR.stored (l' := nl ss) (by rw [zeros_len]; exact HL.out)
             have hW2 := Below.setCells hW (g := w.heap.size + 1) (by omega) 0 (ints .u64 (nl ss)).toArray.toList
             clear HI HE hlt hk hR hW HSEL
             go_wp2_with (first
               | (with_reducible refine wpList_load_mid (op := ⟨some 63, .load 108 (.tmp 2), _, _, _, _⟩) rfl 108 (.tmp 2) rfl w.heap.size 0 rfl (ints .u64 (nl ss)) _ (hZ.range) Tryz.underlying108 rfl (l44 HL.out) ?_)
               | (with_reducible refine wpList_store_mid (op := ⟨none, .store 108 (.tmp 4) (.tmp 63), _, _, _, _⟩) rfl 108 (.tmp 4) (.tmp 63) rfl (w.heap.size + 1) 0 (ints .u64 (nl ss)).toArray rfl rfl hs1 (a44 HL.out) (ints_all _ _) ?_; generalize W1.setCells (w.heap.size + 1) 0 (ints .u64 (nl ss)).toArray.toList = W5 at *))
             exact ret_rows rfl (w.heap.size + 1) 0 rfl (ints .u64 (nl ss)) _ hR2.range Tryz.underlying108 rfl (l44 HL.out) rfl ⟨ss, rfl, HSS, hW2⟩
theorem cs_shift {m b : Nat} (hm : m < QN) (hb : b ≤ 1) (w : World) (hT : TabsQ w) :
   Calls Tryz.prog 75 #[.agg (ints .u64 (nl (wdN m 4))).toArray, .int .u64 (b : Int)] w fun e w' => e = .returned (.agg (ints .u64 (nl (wdN ((2 * m + b) % QN) 4))).toArray) ∧ Below w.heap.size w w' :=
 (shift_walk (wdN m 4) b m w hT (W4.of (Nat.lt_trans hm qn_w)) hm hb).mono fun _ _ ⟨zs, he, hz, hW⟩ => ⟨by rw [he, hz.out.eq], hW⟩
end Go.Proofs.YthpibkpljakeeaaGreatDoor
