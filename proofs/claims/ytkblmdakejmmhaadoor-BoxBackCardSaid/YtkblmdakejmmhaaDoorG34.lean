/- Texts of this proof, laid together: AStep, ATag, AStep2. -/
import Derived.Test.YtkblmdakejmmhaaDoorG20
import Derived.Test.YtkblmdakejmmhaaDoorG19
import Derived.Test.YtkblmdakejmmhaaDoorG31
import Derived.Test.YtkblmdakejmmhaaDoorG33
import Derived.Test.YtkblmdakejmmhaaDoorCHideM
/- Steps of regions: parts of a tagged text, what calls give, slices cut. -/
namespace Go.Proofs.YtkblmdakejmmhaaDoor
open Go Go.RowKit

set_option maxRecDepth 50000 in
theorem PartOkZ.below {w w' : World} {q : Option Addr × Nat × List Int} (h : PartOkZ w q) (hb : Below w.heap.size w w') : PartOkZ w' q := ⟨h.1.below hb, h.2⟩
/-- Parts that make up a text. -/
def IsPsZ (m : Nat) (T : List Int) : Value → World → Prop := fun v w => ∃ PA pc ps, v = .slice PA m pc ∧ ps.length = m ∧ Parts w PA ps ∧ (∀ q ∈ ps, PartOkZ w q) ∧ flat ps = T
set_option maxRecDepth 50000 in
theorem IsPsZ.grows (m : Nat) (T : List Int) : Grows (IsPsZ m T) := fun _ _ _ ⟨PA, pc, ps, h1, h2, h3, h4, h5⟩ hb => ⟨PA, pc, ps, h1, h2, h3.below hb, fun q hq => (h4 q hq).below hb, h5⟩
/-- A part's length, and that it is bytes. -/
def PLZ (n : Nat) (l : List Int) : Prop := l.length = n ∧ n ≤ 1000 ∧ Byt l
section
variable {ops : Array Oper} {md : Region.Mode} {W : World} {a0 : Act} {n : Nat} {al : Nat → Bool} {S : Nat → Value → World → Prop} {Q : Exit → Act → World → Prop} {i : Nat} {o : Oper}
set_option maxRecDepth 50000 in
theorem uaBk : Tryd.prog.underlying 64 = some (.array (Tryd.prog.arrayLen 64) (Tryd.prog.elem 64)) := by kernel_rfl
set_option maxRecDepth 50000 in
theorem zeBk : ∀ w, (sizeOf (Tryd.prog.elem 64)).run Tryd.prog w = .ok 1 w := fun w => by kernel_rfl
set_option maxRecDepth 50000 in
theorem infNo : (Tryd.prog.info? 36).map (fun i => (i.zero, i.size)) = some (some (.agg (ints .u8 (zeros 12)).toArray), 12) := by kernel_rfl
set_option maxRecDepth 50000 in
theorem cxFil (vs : Array Value) (w : World) : (callFunc 38 vs).run Tryd.prog w = .ok (.enter 38 vs) w := by go_simp
set_option maxRecDepth 50000 in
theorem cxLen (vs : Array Value) (w : World) : (callFunc 39 vs).run Tryd.prog w = .ok (.enter 39 vs) w := by go_simp
set_option maxRecDepth 50000 in
theorem step_fil (hal : al i = false) (hg : GuardOn ops md n S i o) {x : Operand} {ts : Array TypeId} {A : Option Addr} {q c f : Nat} (ho : o.op = .call { callee := .value (.func 38), args := #[x], argTypes := ts }) (hq : q ≤ 4096) (hf : fillN q = f) (hS : S i = IsPart f (zeros f)) (hx : Knows ops md W a0 n S i x (.slice A q c)) : StepOk Tryd.prog ops md W a0 n al S Q i o :=
  step_callR hal hg ho cxFil hS fun a w hw hfr hd => ⟨_, by rw [map1, hx a w hw hfr hd], (afill_any A q c f w hq hf).mono fun e w' ⟨B, he, hN, hb⟩ => ⟨_, he, ⟨B, f, rfl, Nat.le_refl _, hN⟩, hb⟩⟩
set_option maxRecDepth 50000 in
theorem step_ale (hal : al i = false) (hg : GuardOn ops md n S i o) {x : Operand} {ts : Array TypeId} {A : Option Addr} {q c : Nat} (ho : o.op = .call { callee := .value (.func 39), args := #[x], argTypes := ts }) (hq : q ≤ 4096) (hS : S i = IsPart 8 (le8 q)) (hx : Knows ops md W a0 n S i x (.slice A q c)) : StepOk Tryd.prog ops md W a0 n al S Q i o :=
  step_callR hal hg ho cxLen hS fun a w hw hfr hd => ⟨_, by rw [map1, hx a w hw hfr hd], (alen_any A q c w hq).mono fun e w' ⟨B, d, he, h8, hN, hb⟩ => ⟨_, he, ⟨B, d, rfl, h8, hN⟩, hb⟩⟩
set_option maxRecDepth 50000 in
theorem part_atZ {w : World} {q : Nat} {l : List Int} {v : Value} (h : IsPart q l v w) (hp : PLZ q l) : ∃ p : Option Addr × Nat × List Int, v = .slice p.1 p.2.2.length p.2.1 ∧ PartOkZ w p ∧ p.2.2 = l := by
  obtain ⟨B, d, h1, h2, h3⟩ := h
  obtain ⟨h4, h5, h6⟩ := hp
  exact ⟨(B, d, l), by rw [h1, ← h4], ⟨h3, by rw [← h4] at h2; exact h2, by show l.length ≤ 1000; omega, h6⟩, rfl⟩
set_option maxRecDepth 50000 in
/-- A slice literal of six parts. -/
theorem step_six (hal : al i = false) (hg : GuardOn ops md n S i o) {x1 x2 x3 x4 x5 x6 : Operand} {q1 q2 q3 q4 q5 q6 : Nat} {l1 l2 l3 l4 l5 l6 T : List Int} (ho : o.op = .buildSlice 47 6 #[(0, x1), (1, x2), (2, x3), (3, x4), (4, x5), (5, x6)])
    (p1 : PLZ q1 l1) (p2 : PLZ q2 l2) (p3 : PLZ q3 l3) (p4 : PLZ q4 l4) (p5 : PLZ q5 l5) (p6 : PLZ q6 l6) (hT : l1 ++ (l2 ++ (l3 ++ (l4 ++ (l5 ++ l6)))) = T) (hS : S i = IsPsZ 6 T)
    (h1 : KnowsW ops md W a0 n S i x1 (IsPart q1 l1)) (h2 : KnowsW ops md W a0 n S i x2 (IsPart q2 l2)) (h3 : KnowsW ops md W a0 n S i x3 (IsPart q3 l3)) (h4 : KnowsW ops md W a0 n S i x4 (IsPart q4 l4)) (h5 : KnowsW ops md W a0 n S i x5 (IsPart q5 l5)) (h6 : KnowsW ops md W a0 n S i x6 (IsPart q6 l6)) : StepOk Tryd.prog ops md W a0 n al S Q i o := fun a w hw hf' hd => by
  rw [if_pos (hg.wanted hd)]
  obtain ⟨r1, e1, o1, t1⟩ := part_atZ (h1 a w hw hf' hd) p1
  obtain ⟨r2, e2, o2, t2⟩ := part_atZ (h2 a w hw hf' hd) p2
  obtain ⟨r3, e3, o3, t3⟩ := part_atZ (h3 a w hw hf' hd) p3
  obtain ⟨r4, e4, o4, t4⟩ := part_atZ (h4 a w hw hf' hd) p4
  obtain ⟨r5, e5, o5, t5⟩ := part_atZ (h5 a w hw hf' hd) p5
  obtain ⟨r6, e6, o6, t6⟩ := part_atZ (h6 a w hw hf' hd) p6
  have hI := infSl
  cases hq : Tryd.prog.info? 23 with
  | none => rw [hq] at hI; simp at hI
  | some ie =>
    rw [hq] at hI
    simp only [Option.map_some, Option.some.injEq, Prod.mk.injEq] at hI
    obtain ⟨hz, hs1⟩ := hI
    have hfill : ∀ (A1 A2 A3 A4 A5 A6 : Option Addr) (n1 n2 n3 n4 n5 n6 c1 c2 c3 c4 c5 c6 : Nat), Instr.fill (fun i => some (i * 1, 1)) ((Array.range (6 * 1)).map (fun i => (Value.slice none 0 0).cells[i % (Value.slice none 0 0).cells.size]!)) [(0, Value.slice A1 n1 c1), (1, Value.slice A2 n2 c2), (2, Value.slice A3 n3 c3), (3, Value.slice A4 n4 c4), (4, Value.slice A5 n5 c5), (5, Value.slice A6 n6 c6)] = some #[Value.slice A1 n1 c1, Value.slice A2 n2 c2, Value.slice A3 n3 c3, Value.slice A4 n4 c4, Value.slice A5 n5 c5, Value.slice A6 n6 c6] := fun A1 A2 A3 A4 A5 A6 n1 n2 n3 n4 n5 n6 c1 c2 c3 c4 c5 c6 => by kernel_rfl
    have hv : (#[(0, x1), (1, x2), (2, x3), (3, x4), (4, x5), (5, x6)].map fun ((i : Nat), (x : Operand)) => (i, a.eval x)).toList = [(0, a.eval x1), (1, a.eval x2), (2, a.eval x3), (3, a.eval x4), (4, a.eval x5), (5, a.eval x6)] := by simp
    rw [e1, e2, e3, e4, e5, e6] at hv
    refine wp_buildSlice 47 23 6 _ ho _ ie _ (by kernel_rfl) hq hz (by rw [hs1]; decide) (by rw [hs1]; decide) (by rw [hs1]; rw [hv]; exact hfill _ _ _ _ _ _ _ _ _ _ _ _ _ _ _ _ _ _) ?_
    refine ⟨_, rfl, ?_, below_new w _, fun e => by rw [hal] at e; cases e⟩
    rw [hS]
    have hb := below_new w (.cells #[.slice r1.1 r1.2.2.length r1.2.1, .slice r2.1 r2.2.2.length r2.2.1, .slice r3.1 r3.2.2.length r3.2.1, .slice r4.1 r4.2.2.length r4.2.1, .slice r5.1 r5.2.2.length r5.2.1, .slice r6.1 r6.2.2.length r6.2.1] 23)
    refine ⟨_, 6, [r1, r2, r3, r4, r5, r6], rfl, rfl, fun _ => ⟨w.heap.size, 0, rfl, by simp, fun j q hj => ?_⟩, fun q hq => ?_, ?_⟩
    · rw [Nat.zero_add, World.cell?_alloc_new]
      have hj6 := (List.getElem?_eq_some_iff.1 hj).1
      have : j = 0 ∨ j = 1 ∨ j = 2 ∨ j = 3 ∨ j = 4 ∨ j = 5 := by simp at hj6; omega
      rcases this with rfl | rfl | rfl | rfl | rfl | rfl <;> (simp at hj; subst hj; rfl)
    · simp only [List.mem_cons, List.not_mem_nil, or_false] at hq
      rcases hq with rfl | rfl | rfl | rfl | rfl | rfl
      · exact o1.below hb
      · exact o2.below hb
      · exact o3.below hb
      · exact o4.below hb
      · exact o5.below hb
      · exact o6.below hb
    · simp only [flat, List.map_cons, List.map_nil, List.flatten_cons, List.flatten_nil, List.append_nil, t1, t2, t3, t4, t5, t6]
      exact hT
set_option maxRecDepth 50000 in
/-- The tag of parts. -/
theorem step_tagP (hal : al i = false) (hg : GuardOn ops md n S i o) {x y : Operand} {ts : Array TypeId} {key r T : List Int} {q : Nat} (ho : o.op = .call { callee := .value (.func 37), args := #[x, y], argTypes := ts }) (hl : key.length = 32) (hb : Byt key) (hq2 : q ≤ 1000) (hr : tagL key T = r) (hS : S i = Is (.agg (ints .u8 r).toArray))
    (hx : Knows ops md W a0 n S i x (.agg (ints .u8 key).toArray)) (hy : KnowsW ops md W a0 n S i y (IsPsZ q T)) : StepOk Tryd.prog ops md W a0 n al S Q i o :=
  step_call hal hg fun a w hw hf hd => by
    obtain ⟨PA, pc, ps, h1, h2, h3, h4, h5⟩ := hy a w hw hf hd
    subst h2 hr h5
    refine ⟨37, #[.agg (ints .u8 key).toArray, .slice PA ps.length pc], ex_fn rfl cx20 ho _ (by rw [map2, h1, hx a w hw hf hd]) w, (tag_any key PA pc ps w hl hb h3 h4 hq2).mono fun e w' ⟨he, hbl⟩ => ⟨_, he, by rw [hS]; exact rfl, hbl⟩⟩
end
end Go.Proofs.YtkblmdakejmmhaaDoor

/- Tag: the tag of what is beside and of what is hidden. -/
namespace Go.Proofs.YtkblmdakejmmhaaDoor
open Go Go.RowKit

set_option maxRecDepth 50000 in
set_option maxHeartbeats 4000000 in
theorem atag_core (key nonce be hi k1 k2 r T : List Int) (AB AH : Option Addr) (lb cb lh ch f g : Nat) (w : World) (hT : Tabs w) (hk : Hid (key.length = 32)) (hn : Hid (nonce.length = 12)) (hkb : HByt key) (hnb : HByt nonce) (HBL : Hid (blockL key nonce 0 = k1 ++ k2)) (H1 : Hid (k1.length = 32)) (HB1 : Hid (Byt k1)) (HKL : Hid ((k1 ++ k2).length = 64))
    (PB : Hid (PLZ lb be)) (PH : Hid (PLZ lh hi)) (hcb : lb ≤ cb) (hch : lh ≤ ch) (hlb4 : lb ≤ 4096) (hlh4 : lh ≤ 4096) (HF : Hid (fillN lb = f)) (HG : Hid (fillN lh = g)) (PF : Hid (PLZ f (zeros f))) (PG : Hid (PLZ g (zeros g))) (P8 : Hid (PLZ 8 (le8 lb))) (P9 : Hid (PLZ 8 (le8 lh)))
    (HTT : Hid (be ++ (zeros f ++ (hi ++ (zeros g ++ (le8 lb ++ le8 lh)))) = T)) (HR : Hid (tagL k1 T = r)) (HRL : Hid (r.length = 16)) (hB : Nums w .u8 AB be) (hH : Nums w .u8 AH hi) :
    Calls Tryd.prog 20 #[.agg (ints .u8 key).toArray, .agg (ints .u8 nonce).toArray, .slice AB lb cb, .slice AH lh ch] w fun e w' => e = .returned (.agg (ints .u8 r).toArray) ∧ Below w.heap.size w w' := by
  obtain ⟨z33, s33⟩ := zero_of_info inf33
  obtain ⟨z44, s44⟩ := zero_of_info info33
  have hK := ((Arr.made w .u8 key 22).alloc (.cells (ints .u8 nonce).toArray 36)).alloc (.cells (ints .u8 (zeros 16)).toArray 45)
  have hN := (Arr.made (w.alloc (.cells (ints .u8 key).toArray 22)) .u8 nonce 36).alloc (.cells (ints .u8 (zeros 16)).toArray 45)
  have h8 := Rw.new ((w.alloc (.cells (ints .u8 key).toArray 22)).alloc (.cells (ints .u8 nonce).toArray 36)) (ints .u8 (zeros 16)) 45
  have hW := ((below_new w (.cells (ints .u8 key).toArray 22)).alloc (by simp) (.cells (ints .u8 nonce).toArray 36)).alloc (by simp; omega) (.cells (ints .u8 (zeros 16)).toArray 45)
  rw [World.size_alloc] at hN
  rw [World.size_alloc, World.size_alloc] at h8
  replace hT := hT.next hW
  replace hB := hB.below hW
  replace hH := hH.below hW
  have r4 := hK.range
  have r5 := hN.range
  clear hK hN
  have i32 : (Tryd.prog.info? 22).map (·.size) = some (ints .u8 key).length := szV inf41 (il hk.out)
  have i12 : (Tryd.prog.info? 36).map (·.size) = some (ints .u8 nonce).length := szV infNo (il hn.out)
  have hcw : Hid (WdZ 0) := hid ⟨by omega, by omega⟩
  go_enter Tryd.func20, Tryd.ntmps20
  go_wp2_with (first
    | (with_reducible refine wpList_load_mid (op := ⟨some 10, .load 22 (.tmp 4), _, _, _, _⟩) rfl 22 (.tmp 4) rfl w.heap.size 0 rfl (ints .u8 key) _ r4 Tryd.underlying22 rfl i32 ?_)
    | (with_reducible refine wpList_load_mid (op := ⟨some 11, .load 36 (.tmp 5), _, _, _, _⟩) rfl 36 (.tmp 5) rfl (w.heap.size + 1) 0 rfl (ints .u8 nonce) _ r5 Tryd.underlying36 rfl i12 ?_)
    | (go_at_call 36; clear r4 r5; generalize ((w.alloc (.cells (ints .u8 key).toArray 22)).alloc (.cells (ints .u8 nonce).toArray 36)).alloc (.cells (ints .u8 (zeros 16)).toArray 45) = w8 at *; refine (block_any key nonce 0 _ hT hk hn hkb hnb hcw).mono ?_; rintro e w9 ⟨rfl, hb9⟩
       rw [HBL.out]
       replace h8 := h8.next hb9
       replace hB := hB.below hb9
       replace hH := hH.below hb9
       replace hW := hW.trans (Below.mono hb9 hW.size)
       have h9a := Rw.new w9 (ints .u8 z64) 64
       have hB9 := below_new w9 (.cells (ints .u8 z64).toArray 64)
       have R9 := h9a.roomA (us := ints .u8 (k1 ++ k2)) ((il HKL.out).trans (il (zeros_len 64)).symm)
       have h9 := h9a.storedA (us := ints .u8 (k1 ++ k2)) ((il HKL.out).trans (il (zeros_len 64)).symm)
       have hB9 := Below.setCells (below_new w9 (.cells (ints .u8 z64).toArray 64)) (Nat.le_refl _) 0 (ints .u8 (k1 ++ k2)).toArray.toList
       replace h8 := h8.next hB9
       replace hB := hB.below hB9
       replace hH := hH.below hB9
       replace hW := hW.trans (Below.mono hB9 hW.size)
       clear hb9 hB9 h9a)
    | (with_reducible refine wpList_store_mid (op := ⟨none, .store 64 (.tmp 9) (.tmp 12), _, _, _, _⟩) rfl 64 (.tmp 9) (.tmp 12) rfl w9.heap.size 0 (ints .u8 (k1 ++ k2)).toArray rfl rfl R9 (szA info33 (il HKL.out)) (ints_all _ _) ?_
       generalize (w9.alloc (.cells (ints .u8 z64).toArray 64)).setCells w9.heap.size 0 (ints .u8 (k1 ++ k2)).toArray.toList = w0 at *
       generalize w9.heap.size = b9 at *
       clear R9))
  have s0 := hW.size
  refine region_spec2 15 28 (fun _ => false) [Is (.slice (some ⟨b9, 0, none⟩) 32 64), Is (.pointer (some ⟨b9, 0, none⟩)), Is (.agg (ints .u8 k1).toArray), Is (.slice AB lb cb), Is (.slice AB lb cb), IsPart f (zeros f), Is (.slice AH lh ch), Is (.slice AH lh ch), IsPart g (zeros g), Is (.slice AB lb cb), IsPart 8 (le8 lb), Is (.slice AH lh ch), IsPart 8 (le8 lh), IsPsZ 6 T, Is (.agg (ints .u8 r).toArray)] [13, 14, 15, 16, 17, 18, 19, 20, 21, 22, 23, 24, 25, 26, 27] (by kernel_rfl) (by kernel_rfl) (by kernel_rfl) (Nat.le_of_eq rfl) (grows_cons (Is.grows _) (grows_cons (Is.grows _) (grows_cons (Is.grows _) (grows_cons (Is.grows _) (grows_cons (Is.grows _) (grows_cons (IsPart.grows _ _) (grows_cons (Is.grows _) (grows_cons (Is.grows _) (grows_cons (IsPart.grows _ _) (grows_cons (Is.grows _) (grows_cons (IsPart.grows _ _) (grows_cons (Is.grows _) (grows_cons (IsPart.grows _ _) (grows_cons (IsPsZ.grows _ _) (grows_cons (Is.grows _) grows_nil)))))))))))))))
    ⟨step_one rfl (.inl rfl) (fun ev w h hc => ex_slAh (P := Tryd.prog) uaBk zeBk (m := 64) (h := 32) rfl (by decide) rfl ev w h hc) rfl (knows_out 9 (by kernel_rfl) rfl),
     step_one rfl (.inl rfl) (fun ev w h hc => ex_arrP (P := Tryd.prog) Tryd.underlying22 (by decide) rfl ev w h hc) rfl (knows_in 0 13 (by decide) (by kernel_rfl) rfl rfl),
     step_ldV rfl (.inl rfl) (fun _ hw => (((h9.next hw)).lo).range) rfl Tryd.underlying22 rfl (szV inf41 (il H1.out)) rfl (knows_in 1 14 (by decide) (by kernel_rfl) rfl rfl),
     step_mvP rfl (.inl rfl) rfl rfl (knows_out 2 (by kernel_rfl) rfl),
     step_mvP rfl (.inl rfl) rfl rfl (knows_out 2 (by kernel_rfl) rfl),
     step_fil rfl (.inl rfl) rfl hlb4 HF.out rfl (knows_in 4 17 (by decide) (by kernel_rfl) rfl rfl),
     step_mvP rfl (.inl rfl) rfl rfl (knows_out 3 (by kernel_rfl) rfl),
     step_mvP rfl (.inl rfl) rfl rfl (knows_out 3 (by kernel_rfl) rfl),
     step_fil rfl (.inl rfl) rfl hlh4 HG.out rfl (knows_in 7 20 (by decide) (by kernel_rfl) rfl rfl),
     step_mvP rfl (.inl rfl) rfl rfl (knows_out 2 (by kernel_rfl) rfl),
     step_ale rfl (.inl rfl) rfl hlb4 rfl (knows_in 9 22 (by decide) (by kernel_rfl) rfl rfl),
     step_mvP rfl (.inl rfl) rfl rfl (knows_out 3 (by kernel_rfl) rfl),
     step_ale rfl (.inl rfl) rfl hlh4 rfl (knows_in 11 24 (by decide) (by kernel_rfl) rfl rfl),
     step_six rfl (.inl rfl) rfl PB.out PF.out PH.out PG.out P8.out P9.out HTT.out rfl ((knows_in 3 16 (by decide) (by kernel_rfl) rfl rfl).part hcb (fun w hw => hB.below hw)) (knowsW_in 5 18 (by decide) (by kernel_rfl) rfl rfl) ((knows_in 6 19 (by decide) (by kernel_rfl) rfl rfl).part hch (fun w hw => hH.below hw)) (knowsW_in 8 21 (by decide) (by kernel_rfl) rfl rfl) (knowsW_in 10 23 (by decide) (by kernel_rfl) rfl rfl) (knowsW_in 12 25 (by decide) (by kernel_rfl) rfl rfl),
     step_tagP rfl (.inl rfl) rfl H1.out HB1.out (by decide) HR.out rfl (knows_in 2 15 (by decide) (by kernel_rfl) rfl rfl) (knowsW_in 13 26 (by decide) (by kernel_rfl) rfl rfl), trivial⟩ ?_
  intro val w1 hw hS hap hla
  have e13 : val 13 = (.slice (some ⟨b9, 0, none⟩) 32 64) := hS 0 13 (by decide) rfl
  have e14 : val 14 = (.pointer (some ⟨b9, 0, none⟩)) := hS 1 14 (by decide) rfl
  have e15 : val 15 = (.agg (ints .u8 k1).toArray) := hS 2 15 (by decide) rfl
  have e16 : val 16 = (.slice AB lb cb) := hS 3 16 (by decide) rfl
  have e17 : val 17 = (.slice AB lb cb) := hS 4 17 (by decide) rfl
  have e19 : val 19 = (.slice AH lh ch) := hS 6 19 (by decide) rfl
  have e20 : val 20 = (.slice AH lh ch) := hS 7 20 (by decide) rfl
  have e22 : val 22 = (.slice AB lb cb) := hS 9 22 (by decide) rfl
  have e24 : val 24 = (.slice AH lh ch) := hS 11 24 (by decide) rfl
  have e27 : val 27 = (.agg (ints .u8 r).toArray) := hS 14 27 (by decide) rfl
  simp only [putVals, List.foldl_cons, List.foldl_nil, List.drop_succ_cons, List.drop_zero, Act.put, List.setIfInBounds_toArray, List.set_cons_succ, List.set_cons_zero, e13, e14, e15, e16, e17, e19, e20, e22, e24, e27]
  generalize val 18 = g18
  generalize val 21 = g21
  generalize val 23 = g23
  generalize val 25 = g25
  generalize val 26 = g26
  clear hS hap hla e13 e14 e15 e16 e17 e19 e20 e22 e24 e27 
  replace h8 := h8.next hw
  replace hB := hB.below hw
  replace hH := hH.below hw
  replace hW := hW.trans (Below.mono hw hW.size)
  clear hw
  have R8 := h8.roomA (us := ints .u8 r) ((il HRL.out).trans (il (zeros_len 16)).symm)
  have X8 := h8.storedA (us := ints .u8 r) ((il HRL.out).trans (il (zeros_len 16)).symm)
  have hW2 := Below.setCells hW (g := w.heap.size + 1 + 1) (by omega) 0 (ints .u8 r).toArray.toList
  with_reducible refine wpList_store_mid (op := ⟨none, .store 45 (.tmp 8) (.tmp 27), _, _, _, _⟩) rfl 45 (.tmp 8) (.tmp 27) rfl (w.heap.size + 1 + 1) 0 (ints .u8 r).toArray rfl rfl R8 (szA inf33 (il HRL.out)) (ints_all _ _) ?_
  go_wp2_with (fail)
  exact ret_rows rfl (w.heap.size + 1 + 1) 0 rfl (ints .u8 r) _ X8.range Tryd.underlying45 rfl (szV inf33 (il HRL.out)) rfl ⟨rfl, hW2⟩
set_option maxRecDepth 50000 in
theorem pl_zeros {f : Nat} (h : f ≤ 1000) : PLZ f (zeros f) := ⟨zeros_len f, h, byt_zeros f⟩
set_option maxRecDepth 50000 in
theorem pl_le8 (n : Nat) : PLZ 8 (le8 n) := ⟨le8_length n, by decide, le8_byt n⟩
set_option maxRecDepth 50000 in
theorem atag_any (key nonce be hi : List Int) (AB AH : Option Addr) (lb cb lh ch : Nat) (w : World) (hT : Tabs w) (hk : Hid (key.length = 32)) (hn : Hid (nonce.length = 12)) (hkb : HByt key) (hnb : HByt nonce) (PB : Hid (PLZ lb be)) (PH : Hid (PLZ lh hi)) (hcb : lb ≤ cb) (hch : lh ≤ ch) (hB : Nums w .u8 AB be) (hH : Nums w .u8 AH hi) :
    Calls Tryd.prog 20 #[.agg (ints .u8 key).toArray, .agg (ints .u8 nonce).toArray, .slice AB lb cb, .slice AH lh ch] w fun e w' => e = .returned (.agg (ints .u8 (atag key nonce be hi)).toArray) ∧ Below w.heap.size w w' := by
  have hl := blockL_length (count := 0) hk.out hn.out
  have h1 := fillN_lt lb
  have h2 := fillN_lt lh
  exact atag_core key nonce be hi (onceL key nonce) ((blockL key nonce 0).drop 32) (atag key nonce be hi) (tagT be hi) AB AH lb cb lh ch (fillN lb) (fillN lh) w hT hk hn hkb hnb (hid (List.take_append_drop 32 _).symm) (hid (onceL_len hk.out hn.out)) (hid (onceL_byt _ _)) (hid (by unfold onceL; rw [List.take_append_drop]; exact hl))
    PB PH hcb hch (by have := PB.out.2.1; omega) (by have := PH.out.2.1; omega) (hid rfl) (hid rfl) (hid (pl_zeros (by omega))) (hid (pl_zeros (by omega))) (hid (pl_le8 _)) (hid (pl_le8 _)) (hid (by unfold tagT; rw [PB.out.1, PH.out.1])) (hid rfl) (hid (atag_len _ _ _ _)) hB hH
end Go.Proofs.YtkblmdakejmmhaaDoor

/- More steps of regions: calls of the layer's functions, tuples taken apart. -/
namespace Go.Proofs.YtkblmdakejmmhaaDoor
open Go Go.RowKit

/-- Bytes and no error. -/
def IsTup (m : Nat) (l : List Int) : Value → World → Prop := fun v w => ∃ B d, v = .tuple #[.slice B m d, .int .i64 0] ∧ m ≤ d ∧ Nums w .u8 B l
set_option maxRecDepth 50000 in
theorem IsTup.grows (m : Nat) (l : List Int) : Grows (IsTup m l) := fun _ _ _ ⟨B, d, h1, h2, h3⟩ hb => ⟨B, d, h1, h2, h3.below hb⟩
section
variable {ops : Array Oper} {md : Region.Mode} {W : World} {a0 : Act} {n : Nat} {al : Nat → Bool} {S : Nat → Value → World → Prop} {Q : Exit → Act → World → Prop} {i : Nat} {o : Oper}
set_option maxRecDepth 50000 in
theorem four_args {x y z u : Operand} {v1 v2 v3 v4 : Value} (h1 : Knows ops md W a0 n S i x v1) (h2 : Knows ops md W a0 n S i y v2) (h3 : Knows ops md W a0 n S i z v3) (h4 : Knows ops md W a0 n S i u v4) : ∀ (a : Act) (w : World), Cl W w → Fr ops n a0 a → Dp ops md n S i a w → #[x, y, z, u].map a.eval = #[v1, v2, v3, v4] := fun a w hw hf hd => by
  have e1 := h1 a w hw hf hd
  have e2 := h2 a w hw hf hd
  have e3 := h3 a w hw hf hd
  have e4 := h4 a w hw hf hd
  simp [e1, e2, e3, e4]
set_option maxRecDepth 50000 in
theorem step_fstZ (hal : al i = false) (hg : GuardOn ops md n S i o) {x : Operand} {u v : Value} (ho : o.op = .extract x 0) (hS : S i = Is u) (hx : Knows ops md W a0 n S i x (.tuple #[u, v])) : StepOk Tryd.prog ops md W a0 n al S Q i o :=
  step_one hal hg (fun ev w h _ => by
    unfold execOp
    simp only [ho, h]
    go_simp) hS hx
set_option maxRecDepth 50000 in
theorem step_sndZ (hal : al i = false) (hg : GuardOn ops md n S i o) {x : Operand} {u v : Value} (ho : o.op = .extract x 1) (hS : S i = Is v) (hx : Knows ops md W a0 n S i x (.tuple #[u, v])) : StepOk Tryd.prog ops md W a0 n al S Q i o :=
  step_one hal hg (fun ev w h _ => by
    unfold execOp
    simp only [ho, h]
    go_simp) hS hx
set_option maxRecDepth 50000 in
theorem tup_fst (hal : al i = false) (hg : GuardOn ops md n S i o) {x : Operand} {m : Nat} {l : List Int} (ho : o.op = .extract x 0) (hS : S i = IsPart m l) (hx : KnowsW ops md W a0 n S i x (IsTup m l)) : StepOk Tryd.prog ops md W a0 n al S Q i o :=
  step_run hal hg fun a w hw hf hd => by
    obtain ⟨B, d, h1, h2, h3⟩ := hx a w hw hf hd
    refine ⟨.slice B m d, ?_, by rw [hS]; exact ⟨B, d, rfl, h2, h3⟩⟩
    generalize a.eval = ev at *
    unfold execOp
    simp only [ho, h1]
    go_simp
set_option maxRecDepth 50000 in
theorem tup_snd (hal : al i = false) (hg : GuardOn ops md n S i o) {x : Operand} {m : Nat} {l : List Int} (ho : o.op = .extract x 1) (hS : S i = Is (.int .i64 0)) (hx : KnowsW ops md W a0 n S i x (IsTup m l)) : StepOk Tryd.prog ops md W a0 n al S Q i o :=
  step_run hal hg fun a w hw hf hd => by
    obtain ⟨B, d, h1, h2, h3⟩ := hx a w hw hf hd
    refine ⟨.int .i64 0, ?_, by rw [hS]; exact rfl⟩
    generalize a.eval = ev at *
    unfold execOp
    simp only [ho, h1]
    go_simp
end
set_option maxRecDepth 50000 in
theorem cxTag (vs : Array Value) (w : World) : (callFunc 20 vs).run Tryd.prog w = .ok (.enter 20 vs) w := by go_simp
set_option maxRecDepth 50000 in
theorem cxHid (vs : Array Value) (w : World) : (callFunc 19 vs).run Tryd.prog w = .ok (.enter 19 vs) w := by go_simp
set_option maxRecDepth 50000 in
theorem cxEqu (vs : Array Value) (w : World) : (callFunc 30 vs).run Tryd.prog w = .ok (.enter 30 vs) w := by go_simp
set_option maxRecDepth 50000 in
theorem aequal_dec (A B : Option Addr) (n c d : Nat) (xs ys : List Int) (g : Bool) (w : World) (hn : n ≤ 4096) (hx : Hid (xs.length = n)) (hy : Hid (ys.length = n)) (bx : HByt xs) (by_ : HByt ys) (hA : Nums w .u8 A xs) (hB : Nums w .u8 B ys) (hg : decide (xs = ys) = g) :
    Calls Tryd.prog 30 #[.slice A n c, .slice B n d] w fun e w' => e = .returned (.bool g) ∧ Below w.heap.size w w' :=
  (aequal_same A B n c d xs ys w hn hx hy bx by_ hA hB).mono fun e w' ⟨r, he, hr, hb⟩ => ⟨by rw [he, hr.out, hg], hb⟩
end Go.Proofs.YtkblmdakejmmhaaDoor
