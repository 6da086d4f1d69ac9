/- Texts laid together. -/
import Derived.Test.YthpibkpljakeeaaGreatDoorG7
import Derived.Test.YthpibkpljakeeaaGreatDoorG14
import Derived.Test.YthpibkpljakeeaaGreatDoorG13
import Derived.Test.YthpibkpljakeeaaGreatDoorG20
import Derived.Test.YthpibkpljakeeaaGreatDoorG17
import Derived.Test.YthpibkpljakeeaaGreatDoorClampM
import Derived.Test.YthpibkpljakeeaaGreatDoorG19
namespace Go.Proofs.YthpibkpljakeeaaGreatDoor
open Go Go.RowKit
structure TabsA (w : World) : Prop where
 q : TabsQ w
 p : TabsP w
 h : TabsH w
theorem TabsA.next {w w' : World} (h : TabsA w) (hb : Below w.heap.size w w') : TabsA w' := ⟨h.q.next hb, h.p.next hb, h.h.next hb⟩
theorem TabsA.alloc {w : World} (h : TabsA w) (ob : Obj) : TabsA (w.alloc ob) := h.next (below_new w ob)
def CallsA (f : FuncId) (args : Array Value) (v : Value) : Prop := ∀ w, TabsA w → Calls Tryz.prog f args w fun e w' => e = .returned v ∧ Below w.heap.size w w'
section
variable {ops : Array Oper} {md : Region.Mode} {W : World} {a0 : Act} {n : Nat} {al : Nat → Bool} {S : Nat → Value → World → Prop} {Q : Exit → Act → World → Prop} {i : Nat} {o : Oper}
theorem step_toA (hal : al i = false) (hg : GuardOn ops md n S i o) {f : FuncId} {xs : Array Operand} {ts : Array TypeId} {vs : Array Value} {v : Value} (ho : o.op = .call { callee := .value (.func f), args := xs, argTypes := ts }) (hcf : ∀ vs w, (callFunc f vs).run Tryz.prog w = .ok (.enter f vs) w)
   (hT : TabsA W) (hc : CallsA f vs v) (hS : S i = Is v) (hv : ∀ (a : Act) (w : World), Cl W w → Fr ops n a0 a → Dp ops md n S i a w → xs.map a.eval = vs) : StepOk Tryz.prog ops md W a0 n al S Q i o :=
 step_call hal hg fun a w hw hf hd => ⟨f, vs, ex_fn rfl hcf ho vs (hv a w hw hf hd) w, (hc w (hT.next hw)).mono fun _ _ ⟨he, hb⟩ => ⟨v, he, by rw [hS]; exact rfl, hb⟩⟩
end
theorem cx4 (vs : Array Value) (w : World) : (callFunc 4 vs).run Tryz.prog w = .ok (.enter 4 vs) w := by go_simp
theorem cx13 (vs : Array Value) (w : World) : (callFunc 13 vs).run Tryz.prog w = .ok (.enter 13 vs) w := by go_simp
theorem cx30 (vs : Array Value) (w : World) : (callFunc 30 vs).run Tryz.prog w = .ok (.enter 30 vs) w := by go_simp
theorem cx26 (vs : Array Value) (w : World) : (callFunc 26 vs).run Tryz.prog w = .ok (.enter 26 vs) w := by go_simp
theorem cx32 (vs : Array Value) (w : World) : (callFunc 32 vs).run Tryz.prog w = .ok (.enter 32 vs) w := by go_simp
theorem cx17 (vs : Array Value) (w : World) : (callFunc 17 vs).run Tryz.prog w = .ok (.enter 17 vs) w := by go_simp
theorem cx18 (vs : Array Value) (w : World) : (callFunc 18 vs).run Tryz.prog w = .ok (.enter 18 vs) w := by go_simp
theorem cx8 (vs : Array Value) (w : World) : (callFunc 8 vs).run Tryz.prog w = .ok (.enter 8 vs) w := by go_simp
theorem cx9 (vs : Array Value) (w : World) : (callFunc 9 vs).run Tryz.prog w = .ok (.enter 9 vs) w := by go_simp
theorem cx31 (vs : Array Value) (w : World) : (callFunc 31 vs).run Tryz.prog w = .ok (.enter 31 vs) w := by go_simp
theorem cx15 (vs : Array Value) (w : World) : (callFunc 15 vs).run Tryz.prog w = .ok (.enter 15 vs) w := by go_simp
theorem cx16 (vs : Array Value) (w : World) : (callFunc 16 vs).run Tryz.prog w = .ok (.enter 16 vs) w := by go_simp
theorem cx33 (vs : Array Value) (w : World) : (callFunc 33 vs).run Tryz.prog w = .ok (.enter 33 vs) w := by go_simp
theorem cx58 (vs : Array Value) (w : World) : (callFunc 58 vs).run Tryz.prog w = .ok (.enter 58 vs) w := by go_simp
theorem cx59 (vs : Array Value) (w : World) : (callFunc 59 vs).run Tryz.prog w = .ok (.enter 59 vs) w := by go_simp
theorem cx49 (vs : Array Value) (w : World) : (callFunc 49 vs).run Tryz.prog w = .ok (.enter 49 vs) w := by go_simp
theorem cx7 (vs : Array Value) (w : World) : (callFunc 7 vs).run Tryz.prog w = .ok (.enter 7 vs) w := by go_simp
theorem cx6 (vs : Array Value) (w : World) : (callFunc 6 vs).run Tryz.prog w = .ok (.enter 6 vs) w := by go_simp
theorem cx5 (vs : Array Value) (w : World) : (callFunc 5 vs).run Tryz.prog w = .ok (.enter 5 vs) w := by go_simp
theorem cx20 (vs : Array Value) (w : World) : (callFunc 20 vs).run Tryz.prog w = .ok (.enter 20 vs) w := by go_simp
theorem cx34 (vs : Array Value) (w : World) : (callFunc 34 vs).run Tryz.prog w = .ok (.enter 34 vs) w := by go_simp
theorem cx21 (vs : Array Value) (w : World) : (callFunc 21 vs).run Tryz.prog w = .ok (.enter 21 vs) w := by go_simp
theorem cx14 (vs : Array Value) (w : World) : (callFunc 14 vs).run Tryz.prog w = .ok (.enter 14 vs) w := by go_simp
theorem cx19 (vs : Array Value) (w : World) : (callFunc 19 vs).run Tryz.prog w = .ok (.enter 19 vs) w := by go_simp
theorem cx22 (vs : Array Value) (w : World) : (callFunc 22 vs).run Tryz.prog w = .ok (.enter 22 vs) w := by go_simp
theorem cx27 (vs : Array Value) (w : World) : (callFunc 27 vs).run Tryz.prog w = .ok (.enter 27 vs) w := by go_simp
theorem cx10 (vs : Array Value) (w : World) : (callFunc 10 vs).run Tryz.prog w = .ok (.enter 10 vs) w := by go_simp
theorem cx12 (vs : Array Value) (w : World) : (callFunc 12 vs).run Tryz.prog w = .ok (.enter 12 vs) w := by go_simp
theorem cx29 (vs : Array Value) (w : World) : (callFunc 29 vs).run Tryz.prog w = .ok (.enter 29 vs) w := by go_simp
theorem cx28 (vs : Array Value) (w : World) : (callFunc 28 vs).run Tryz.prog w = .ok (.enter 28 vs) w := by go_simp
theorem cx11 (vs : Array Value) (w : World) : (callFunc 11 vs).run Tryz.prog w = .ok (.enter 11 vs) w := by go_simp
theorem inf64 : (Tryz.prog.info? 29).map (fun i => (i.zero, i.size)) = some (some (.agg (ints .u8 (zeros 64)).toArray), 64) := by kernel_rfl
theorem inf32 : (Tryz.prog.info? 22).map (fun i => (i.zero, i.size)) = some (some (.agg (ints .u8 (zeros 32)).toArray), 32) := by kernel_rfl
theorem infP : (Tryz.prog.info? 46).map (fun i => (i.zero, i.size)) = some (some (.agg (ints .i64 (zeros 64)).toArray), 64) := by kernel_rfl
def sgz : List Value := .bool false :: ints .u8 (zeros 96)
theorem infSl : (Tryz.prog.info? 23).map (fun i => (i.zero, i.size)) = some (some (.slice none 0 0), 1) := by kernel_rfl
theorem infB : (Tryz.prog.info? 5).map (fun i => (i.zero, i.size)) = some (some (.int .u8 0), 1) := by kernel_rfl
theorem infB3 : (Tryz.prog.info? 5).map (fun i => (i.zero, i.size, i.bytes)) = some (some (.int .u8 0), 1, 1) := by kernel_rfl
theorem u32 : Tryz.prog.underlying 22 = some (.array (Tryz.prog.arrayLen 22) (Tryz.prog.elem 22)) := by kernel_rfl
theorem u64 : Tryz.prog.underlying 29 = some (.array (Tryz.prog.arrayLen 29) (Tryz.prog.elem 29)) := by kernel_rfl
theorem usl : Tryz.prog.underlying 23 = some (.slice (Tryz.prog.elem 23)) := by kernel_rfl
theorem z32 : ∀ w, (sizeOf (Tryz.prog.elem 22)).run Tryz.prog w = .ok 1 w := fun w => by kernel_rfl
theorem z64 : ∀ w, (sizeOf (Tryz.prog.elem 29)).run Tryz.prog w = .ok 1 w := fun w => by kernel_rfl
theorem zsl : ∀ w, (sizeOf (Tryz.prog.elem 23)).run Tryz.prog w = .ok 1 w := fun w => by kernel_rfl
theorem eq32 : Tryz.prog.underlying 22 = some (.array 32 5) ∧ Tryz.prog.underlying 5 = some (.int .u8) ∧ (Tryz.prog.info? 5).map (·.size) = some 1 ∧ Tryz.prog.eqGuardType Tryz.prog.depth 22 = false := ⟨by kernel_rfl, by kernel_rfl, by kernel_rfl, by kernel_rfl⟩
theorem eq64 : Tryz.prog.underlying 29 = some (.array 64 5) ∧ Tryz.prog.underlying 5 = some (.int .u8) ∧ (Tryz.prog.info? 5).map (·.size) = some 1 ∧ Tryz.prog.eqGuardType Tryz.prog.depth 29 = false := ⟨by kernel_rfl, by kernel_rfl, by kernel_rfl, by kernel_rfl⟩
theorem zv (k : IntKind) (m : Nat) : (ints k (zeros m)).length = m := il (zeros_len m)
def scal (m : List Int) : List Int := rbytes (bn (hash m) % QN)
theorem scal_len (m : List Int) : (scal m).length = 32 := rbytes_length _
theorem scal_byt (m : List Int) : Byt (scal m) := rbytes_byt _
theorem hash_len (m : List Int) : (hash m).length = 64 := by unfold hash; rw [splitB_length]; rfl
theorem hash_byt (m : List Int) : Byt (hash m) := fun x hx => splitB_byt _ _ _ x hx
theorem Parts.next {w w' : World} {A : Option Addr} {ps : List (Option Addr × Nat × List Int)} (h : Parts w A ps) (hb : Below w.heap.size w w') : Parts w' A ps := fun hp => by
 obtain ⟨g, off, e, hlt, hc⟩ := h hp
 exact ⟨g, off, e, Nat.lt_of_lt_of_le hlt hb.size, fun i q hq => (hb.cell (p := ⟨g, off + i, none⟩) hlt).trans (hc i q hq)⟩
theorem PartOk.next {w w' : World} {q : Option Addr × Nat × List Int} (h : PartOk w q) (hb : Below w.heap.size w w') : PartOk w' q := ⟨h.1.below hb, h.2⟩
theorem of_done {w : World} {f : FuncId} {args : Array Value} {l m : List Int} {v : Value} (h : Calls Tryz.prog f args w fun e w' => e = .returned (.tuple #[.agg (ints .u8 l).toArray, v]) ∧ Below w.heap.size w w') (e : l = m) : Calls Tryz.prog f args w fun e w' => e = .returned (.tuple #[.agg (ints .u8 m).toArray, v]) ∧ Below w.heap.size w w' := by rw [← e]; exact h
set_option maxRecDepth 4000 in
set_option maxHeartbeats 4000000 in
theorem sgs_any (PA : Option Addr) (pc : Nat) (ps : List (Option Addr × Nat × List Int)) (w : World) (hT : TabsA w) (hP : Parts w PA ps) (hok : ∀ q ∈ ps, PartOk w q) (hl : (flat ps).length ≤ 100000) (hpl : ps.length ≤ 1000) :
   Calls Tryz.prog 15 #[.slice PA ps.length pc] w fun e w' => e = .returned (.agg (ints .u8 (scal (flat ps))).toArray) ∧ Below w.heap.size w w' := by
 obtain ⟨za, sa⟩ := zero_of_info inf32
 have h2 := Rw.new w (ints .u8 (zeros 32)) 22
 have hW := below_new w (.cells (ints .u8 (zeros 32)).toArray 22)
 have HL := hid (hash_len (flat ps))
 have HB := hid (hash_byt (flat ps))
 have HS : Hid (∀ w', Cl w w' → Calls Tryz.prog 20 #[.slice PA ps.length pc] w' fun e w2 => e = .returned (.agg (ints .u8 (hash (flat ps))).toArray) ∧ Below w'.heap.size w' w2) := hid fun w' hc =>
   (sum_any PA pc ps w' (hT.next hc).h (hP.next hc) (fun q hq => (hok q hq).next hc) hl hpl).mono fun e w2 ⟨ys, he, hy, _, hb⟩ => ⟨by rw [he, hy.out], hb⟩
 have HR : Hid (rbytes (bn (hash (flat ps)) % QN) = scal (flat ps)) := hid rfl
 have HSL := hid (scal_len (flat ps))
 generalize scal (flat ps) = sc at *
 generalize hash (flat ps) = hs at *
 replace hT := hT.alloc (.cells (ints .u8 (zeros 32)).toArray 22)
 clear hP hok hl hpl
 go_enter Tryz.func15, Tryz.ntmps15
 go_upto_region 1 with (fail)
 generalize w.alloc (.cells (ints .u8 (zeros 32)).toArray 22) = w0 at *
 have s0 := hW.size
 refine rSeq 3 14 (fun i => i == 2) [Is (.slice PA ps.length pc), Is (.agg (ints .u8 hs).toArray), IsZV w0.heap.size (ints .u8 (zeros 64))] [6, 7, 3] (gC (gC (grows_cons (IsZV.grows _ _) grows_nil)))
   ⟨step_mvP rfl (.inl rfl) rfl rfl (kO 0 rfl),
    step_cw rfl (.inl rfl) rfl cx20 rfl (fun aa ww hw hf hd => ⟨_, (one_arg (kI 0 6 rfl rfl)) aa ww hw hf hd, HS.out ww (Cl.trans hW hw)⟩),
    step_allocV (.inl rfl) inf64 rfl rfl, trivial⟩ ?_
 intro val w1 hw hS hap hla
 obtain ⟨b3, e3, L3, Z3⟩ := hS 2 3 (by decide) rfl
 simp only [pA, pB, pC, pD, pE, Act.put, pG, pH, pI, eVal hS 0 6 rfl rfl, eVal hS 1 7 rfl rfl, e3]
 clear hS hap hla e3
 have LL3 := hid (show ((ints .u8 hs)).length = 64 from (il HL.out))
 have R3 := Z3.roomA (us := (ints .u8 hs)) (LL3.out.trans (zv .u8 64).symm)
 have h3 := Z3.storedA (us := (ints .u8 hs)) (LL3.out.trans (zv .u8 64).symm)
 have hu := Below.setCells hw L3 0 (ints .u8 hs).toArray.toList
 replace hT := hT.next hu
 replace h2 := h2.next hu
 replace hW := bT hW hu
 clear hu
 with_reducible refine wpList_store_mid (op := ⟨none, .store 29 (.tmp 3) (.tmp 7), _, _, _, _⟩) rfl 29 (.tmp 3) (.tmp 7) rfl b3 0 (ints .u8 hs).toArray rfl rfl R3 (szA inf64 LL3.out) (ints_all _ _) ?_
 generalize (w1.setCells b3 0 (ints .u8 hs).toArray.toList) = w2 at *
 clear hw R3 LL3 Z3 L3
 go_upto_region 2 with (fail)
 have s2 := hW.size
 refine rSeq 6 14 (fun i => i == 5) [Is (.slice (some ⟨b3, 0, none⟩) 64 64), Is (.tuple #[(.agg (ints .u8 sc).toArray), (.int .i64 0)]), Is (.tuple #[(.agg (ints .u8 sc).toArray), (.int .i64 0)]), Is (.agg (ints .u8 sc).toArray), Is (.int .i64 0), IsZV w2.heap.size (ints .u8 (zeros 32))] [9, 10, 8, 11, 12, 4] (gC (gC (gC (gC (gC (grows_cons (IsZV.grows _ _) grows_nil))))))
   ⟨step_one rfl (.inl rfl) (fun ev w h hc => ex_slA (P := Tryz.prog) u64 z64 (m := 64) rfl rfl ev w h hc) rfl (kO 3 rfl),
    step_cw rfl (.inl rfl) rfl cx34 rfl (fun aa ww hw hf hd => ⟨_, (one_arg (kI 0 9 rfl rfl)) aa ww hw hf hd, of_done (of_yes (some ⟨b3, 0, none⟩) 64 64 hs ww (hT.next hw).q HL.out (by omega) HB.out ((h3.next hw).nums)) HR.out⟩),
    step_mvP rfl (.inl rfl) rfl rfl (kI 1 10 rfl rfl),
    step_fst rfl (.inl rfl) rfl rfl (kI 2 8 rfl rfl),
    step_snd rfl (.inl rfl) rfl rfl (kI 2 8 rfl rfl),
    step_allocV (.inl rfl) inf32 rfl rfl, trivial⟩ ?_
 intro val w3 hw hS hap hla
 obtain ⟨b4, e4, L4, Z4⟩ := hS 5 4 (by decide) rfl
 simp only [pA, pB, pC, pD, pE, Act.put, pG, pH, pI, eVal hS 0 9 rfl rfl, eVal hS 1 10 rfl rfl, eVal hS 2 8 rfl rfl, eVal hS 3 11 rfl rfl, eVal hS 4 12 rfl rfl, e4]
 clear hS hap hla e4
 have LL4 := hid (show ((ints .u8 sc)).length = 32 from (il HSL.out))
 have R4 := Z4.roomA (us := (ints .u8 sc)) (LL4.out.trans (zv .u8 32).symm)
 have h4 := Z4.storedA (us := (ints .u8 sc)) (LL4.out.trans (zv .u8 32).symm)
 have hu := Below.setCells hw L4 0 (ints .u8 sc).toArray.toList
 replace hT := hT.next hu
 replace h2 := h2.next hu
 replace h3 := h3.next hu
 replace hW := bT hW hu
 clear hu
 with_reducible refine wpList_store_mid (op := ⟨none, .store 22 (.tmp 4) (.tmp 11), _, _, _, _⟩) rfl 22 (.tmp 4) (.tmp 11) rfl b4 0 (ints .u8 sc).toArray rfl rfl R4 (szA inf32 LL4.out) (ints_all _ _) ?_
 generalize (w3.setCells b4 0 (ints .u8 sc).toArray.toList) = w4 at *
 clear hw R4 LL4 Z4 L4
 go_upto_region 3 with (fail)
 have s4 := hW.size
 refine rSeq 1 14 (fun _ => false) [Is (.agg (ints .u8 sc).toArray)] [13] (gC grows_nil)
   ⟨step_ldV rfl (.inl rfl) (fun _ hw => (h4.next hw).range) rfl Tryz.underlying22 rfl (szV inf32 (il HSL.out)) rfl (kO 4 rfl), trivial⟩ ?_
 intro val w5 hw hS hap hla
 simp only [pA, pB, pC, pD, pE, Act.put, pG, pH, pI, eVal hS 0 13 rfl rfl]
 clear hS hap hla
 have LL2 := hid (show ((ints .u8 sc)).length = 32 from (il HSL.out))
 have Y2 := h2.next hw
 have R2 := Y2.roomA (us := (ints .u8 sc)) (LL2.out.trans (zv .u8 32).symm)
 have X2 := Y2.storedA (us := (ints .u8 sc)) (LL2.out.trans (zv .u8 32).symm)
 replace hT := hT.next hw
 replace h2 := h2.next hw
 replace h3 := h3.next hw
 replace h4 := h4.next hw
 replace hW := bT hW hw
 with_reducible refine wpList_store_mid (op := ⟨none, .store 22 (.tmp 2) (.tmp 13), _, _, _, _⟩) rfl 22 (.tmp 2) (.tmp 13) rfl w.heap.size 0 (ints .u8 sc).toArray rfl rfl R2 (szA inf32 LL2.out) (ints_all _ _) ?_
 replace hW := Below.setCells hW (g := w.heap.size) (by omega) 0 (ints .u8 sc).toArray.toList
 generalize (w5.setCells w.heap.size 0 (ints .u8 sc).toArray.toList) = w6 at *
 clear hw R2 LL2 Y2
 go_wp2_with (fail)
 exact ret_rows rfl w.heap.size 0 rfl (ints .u8 sc) _ X2.range Tryz.underlying22 rfl (szV inf32 (il HSL.out)) rfl ⟨rfl, hW⟩
def Pt (w : World) (A : Option Addr) (n c : Nat) (x : List Int) : Prop := x.length = n ∧ n ≤ c ∧ n ≤ 1000 ∧ Byt x ∧ Nums w .u8 A x
theorem Pt.ok {w : World} {A : Option Addr} {n c : Nat} {x : List Int} (h : Pt w A n c x) : PartOk w (A, c, x) := ⟨h.2.2.2.2, by rw [h.1]; exact h.2.1, by rw [h.1]; exact h.2.2.1, h.2.2.2.1⟩
theorem rows_parts {w : World} {b : Nat} {ps : List (Option Addr × Nat × List Int)} (hR : Rw w b 0 (ps.map fun q => .slice q.1 q.2.2.length q.2.1)) (hp : 0 < ps.length) : Parts w (some ⟨b, 0, none⟩) ps := fun _ =>
 ⟨b, 0, rfl, hR.lt (by simpa using hp), fun i q hq => (hR i _ (by rw [List.getElem?_map, hq]; rfl)).1⟩
theorem sum1 {w : World} {b : Nat} {A : Option Addr} {n c : Nat} {x : List Int} (hT : TabsH w) (hR : Rw w b 0 [.slice A n c]) (h : Pt w A n c x) : Calls Tryz.prog 20 #[.slice (some ⟨b, 0, none⟩) 1 1] w fun e w' => e = .returned (.agg (ints .u8 (hash x)).toArray) ∧ Below w.heap.size w w' := by
 have hn := h.1
 subst hn
 refine (sum_any (some ⟨b, 0, none⟩) 1 [(A, c, x)] w hT (rows_parts hR (by simp)) (fun q hq => by
   simp only [List.mem_cons, List.not_mem_nil, or_false] at hq
   subst hq; exact h.ok) (by simp [flat]; have := h.2.2.1; omega) (by simp)).mono fun e w2 ⟨ys, he, hy, _, hb⟩ => ⟨by
     rw [he, hy.out]; simp [flat], hb⟩
theorem sc2 {w : World} {b : Nat} {A B : Option Addr} {n m c d : Nat} {x y : List Int} (hT : TabsA w) (hR : Rw w b 0 [.slice A n c, .slice B m d]) (h : Pt w A n c x) (k : Pt w B m d y) : Calls Tryz.prog 15 #[.slice (some ⟨b, 0, none⟩) 2 2] w fun e w' => e = .returned (.agg (ints .u8 (scal (x ++ y))).toArray) ∧ Below w.heap.size w w' := by
 have hn := h.1
 have hm := k.1
 subst hn hm
 refine (sgs_any (some ⟨b, 0, none⟩) 2 [(A, c, x), (B, d, y)] w hT (rows_parts hR (by simp)) (fun q hq => by
   simp only [List.mem_cons, List.not_mem_nil, or_false] at hq
   rcases hq with rfl | rfl
   · exact h.ok
   · exact k.ok) (by simp [flat]; have := h.2.2.1; have := k.2.2.1; omega) (by simp)).mono fun e w2 ⟨he, hb⟩ => ⟨by
     rw [he]; simp [flat], hb⟩
theorem sc3 {w : World} {b : Nat} {A B C : Option Addr} {n m l c d f : Nat} {x y z : List Int} (hT : TabsA w) (hR : Rw w b 0 [.slice A n c, .slice B m d, .slice C l f]) (h : Pt w A n c x) (k : Pt w B m d y) (j : Pt w C l f z) : Calls Tryz.prog 15 #[.slice (some ⟨b, 0, none⟩) 3 3] w fun e w' => e = .returned (.agg (ints .u8 (scal (x ++ (y ++ z)))).toArray) ∧ Below w.heap.size w w' := by
 have hn := h.1
 have hm := k.1
 have hl := j.1
 subst hn hm hl
 refine (sgs_any (some ⟨b, 0, none⟩) 3 [(A, c, x), (B, d, y), (C, f, z)] w hT (rows_parts hR (by simp)) (fun q hq => by
   simp only [List.mem_cons, List.not_mem_nil, or_false] at hq
   rcases hq with rfl | rfl | rfl
   · exact h.ok
   · exact k.ok
   · exact j.ok) (by simp [flat]; have := h.2.2.1; have := k.2.2.1; have := j.2.2.1; omega) (by simp)).mono fun e w2 ⟨he, hb⟩ => ⟨by
     rw [he]; simp [flat], hb⟩
def sgv (num pre pub : List Int) : List Value := [.bool true] ++ (ints .u8 num ++ (ints .u8 pre ++ ints .u8 pub))
section
variable {w : World} {b : Nat} {num pre pub : List Int}
theorem Rw.sg0 (h : Rw w b 0 (sgv num pre pub)) : w.cell? ⟨b, 0, none⟩ = some (.bool true) := (h 0 (.bool true) rfl).1
theorem Rw.sg1 (h : Rw w b 0 (sgv num pre pub)) : Rw w b 1 (ints .u8 num) := (Rw.right (o' := 1) h rfl).left
theorem Rw.sg2 (h : Rw w b 0 (sgv num pre pub)) (h1 : num.length = 32) : Rw w b 33 (ints .u8 pre) := (Rw.right (o' := 33) (Rw.right (o' := 1) h rfl) (by rw [ints_length, h1])).left
theorem Rw.sg3 (h : Rw w b 0 (sgv num pre pub)) (h1 : num.length = 32) (h2 : pre.length = 32) : Rw w b 65 (ints .u8 pub) := Rw.right (o' := 65) (Rw.right (o' := 33) (Rw.right (o' := 1) h rfl) (by rw [ints_length, h1])) (by rw [ints_length, h2])
end
theorem cells32 {l : List Int} (h : l.length = 32) : ∃ a0 a1 a2 a3 a4 a5 a6 a7 a8 a9 a10 a11 a12 a13 a14 a15 a16 a17 a18 a19 a20 a21 a22 a23 a24 a25 a26 a27 a28 a29 a30 a31 : Int, l = [a0, a1, a2, a3, a4, a5, a6, a7, a8, a9, a10, a11, a12, a13, a14, a15, a16, a17, a18, a19, a20, a21, a22, a23, a24, a25, a26, a27, a28, a29, a30, a31] := by
 match l, h with
 | [a0, a1, a2, a3, a4, a5, a6, a7, a8, a9, a10, a11, a12, a13, a14, a15, a16, a17, a18, a19, a20, a21, a22, a23, a24, a25, a26, a27, a28, a29, a30, a31], _ => exact ⟨a0, a1, a2, a3, a4, a5, a6, a7, a8, a9, a10, a11, a12, a13, a14, a15, a16, a17, a18, a19, a20, a21, a22, a23, a24, a25, a26, a27, a28, a29, a30, a31, rfl⟩
theorem built_sg {num pre pub : List Int} (h1 : num.length = 32) (h2 : pre.length = 32) (h3 : pub.length = 32) : Tryz.prog.built 40 [(0, .bool true), (1, .agg (ints .u8 num).toArray), (2, .agg (ints .u8 pre).toArray), (3, .agg (ints .u8 pub).toArray)] = some (sgv num pre pub).toArray := by
 obtain ⟨a0, a1, a2, a3, a4, a5, a6, a7, a8, a9, a10, a11, a12, a13, a14, a15, a16, a17, a18, a19, a20, a21, a22, a23, a24, a25, a26, a27, a28, a29, a30, a31, rfl⟩ := cells32 h1
 obtain ⟨b0, b1, b2, b3, b4, b5, b6, b7, b8, b9, b10, b11, b12, b13, b14, b15, b16, b17, b18, b19, b20, b21, b22, b23, b24, b25, b26, b27, b28, b29, b30, b31, rfl⟩ := cells32 h2
 obtain ⟨c0, c1, c2, c3, c4, c5, c6, c7, c8, c9, c10, c11, c12, c13, c14, c15, c16, c17, c18, c19, c20, c21, c22, c23, c24, c25, c26, c27, c28, c29, c30, c31, rfl⟩ := cells32 h3
 kernel_rfl
theorem fldS1 (b : Nat) : ∀ w, (Instr.fieldAt 40 (.pointer (some ⟨b, 0, none⟩)) 1).run Tryz.prog w = .ok (.pointer (some ⟨b, 1, none⟩)) w := fun w => by go_simp
theorem fldS2 (b : Nat) : ∀ w, (Instr.fieldAt 40 (.pointer (some ⟨b, 0, none⟩)) 2).run Tryz.prog w = .ok (.pointer (some ⟨b, 33, none⟩)) w := fun w => by go_simp
theorem fldS3 (b : Nat) : ∀ w, (Instr.fieldAt 40 (.pointer (some ⟨b, 0, none⟩)) 3).run Tryz.prog w = .ok (.pointer (some ⟨b, 65, none⟩)) w := fun w => by go_simp
theorem parts4 {ops : Array Oper} {md : Region.Mode} {W : World} {a0 : Act} {n : Nat} {S : Nat → Value → World → Prop} {i : Nat} {x y z v : Operand} {u t q r : Value} (hx : Knows ops md W a0 n S i x u) (hy : Knows ops md W a0 n S i y t) (hz : Knows ops md W a0 n S i z q) (hv : Knows ops md W a0 n S i v r) : ∀ (a : Act) (w : World), Cl W w → Fr ops n a0 a → Dp ops md n S i a w → (#[(0, x), (1, y), (2, z), (3, v)].map fun ((i : Nat), (x : Operand)) => (i, a.eval x)).toList = [(0, u), (1, t), (2, q), (3, r)] := fun a w hw hf hd => by
 simp [hx a w hw hf hd, hy a w hw hf hd, hz a w hw hf hd, hv a w hw hf hd]
set_option maxRecDepth 8000 in
set_option maxHeartbeats 8000000 in
theorem key_core {sd lo hi num pub bb m1 : List Int} (HSD : Hid (sd.length = 32)) (HSB : Hid (Byt sd)) (HS : Hid (hash sd = lo ++ hi)) (HL : Hid ((lo ++ hi).length = 64)) (HB : Hid (Byt (lo ++ hi))) (HLO : Hid (lo.length = 32)) (HLB : Hid (Byt lo)) (HHI : Hid (hi.length = 32)) (HHB : Hid (Byt hi)) (HN : Hid (num.length = 32)) (HNB : Hid (Byt num)) (HBB : Hid (bb.length = 64)) (HM1 : Hid (m1.length = 64)) (HP : Hid (pub.length = 32))
   (kcl : CallsTo 21 #[.agg (ints .u8 lo).toArray] (.agg (ints .u8 num).toArray)) (kb : CallsP 16 #[] (.agg (ints .i64 bb).toArray)) (km : CallsP 17 #[.agg (ints .i64 bb).toArray, .agg (ints .u8 num).toArray] (.agg (ints .i64 m1).toArray)) (kby : CallsTo 18 #[.agg (ints .i64 m1).toArray] (.agg (ints .u8 pub).toArray)) (w : World) (hT : TabsA w) :
   Calls Tryz.prog 7 #[.agg (ints .u8 sd).toArray] w fun e w' => ∃ b, e = .returned (.pointer (some ⟨b, 0, none⟩)) ∧ w.heap.size ≤ b ∧ Rw w' b 0 (sgv num hi pub) ∧ Below w.heap.size w w' := by
 obtain ⟨za, sa⟩ := zero_of_info inf32
 have h1 := Rw.new w (ints .u8 sd) 22
 have hW := below_new w (.cells (ints .u8 sd).toArray 22)
 have HSG := hid (built_sg HN.out HHI.out HP.out)
 replace hT := hT.alloc (.cells (ints .u8 sd).toArray 22)
 go_enter Tryz.func7, Tryz.ntmps7
 go_upto_region 1 with (fail)
 generalize w.alloc (.cells (ints .u8 sd).toArray 22) = w0 at *
 have s0 := hW.size
 refine rSeq 4 22 (fun i => i == 1 || i == 3) [Is (.slice (some ⟨w.heap.size, 0, none⟩) 32 32), IsRowV w0.heap.size 1 [(.slice (some ⟨w.heap.size, 0, none⟩) 32 32)], Is (.agg (ints .u8 (lo ++ hi)).toArray), IsZV w0.heap.size (ints .u8 (zeros 64))] [5, 6, 7, 3] (gC (grows_cons (IsRowV.grows _ _ _) (gC (grows_cons (IsZV.grows _ _) grows_nil))))
   ⟨step_one rfl (.inl rfl) (fun ev w h hc => ex_slA (P := Tryz.prog) u32 z32 (m := 32) rfl rfl ev w h hc) rfl (kO 1 rfl),
    step_bsl (.inl rfl) rfl Tryz.underlying67 infSl (by decide) (by decide) (vs := [(.slice (some ⟨w.heap.size, 0, none⟩) 32 32)]) (by kernel_rfl) rfl (parts1 (kI 0 5 rfl rfl)),
    step_cw rfl (.inl rfl) rfl cx20 rfl (fun aa ww hw hf hd => by
      obtain ⟨b, e, _, hR⟩ := ((knowsW_in 1 6 (by decide) (by kernel_rfl) rfl rfl) : KnowsW _ _ _ _ _ _ _ _ (IsRowV _ 1 [(.slice (some ⟨w.heap.size, 0, none⟩) 32 32)])) aa ww hw hf hd
      have h := sum1 (hT.next hw).h hR ⟨HSD.out, by decide, by decide, HSB.out, ((h1.next hw)).nums⟩
      rw [HS.out] at h
      exact ⟨_, by rw [map1, e], h⟩),
    step_allocV (.inl rfl) inf64 rfl rfl, trivial⟩ ?_
 intro val w1 hw hS hap hla
 have e5 := eVal hS 0 5 rfl rfl
 obtain ⟨b6, e6, L6, Z6⟩ := hS 1 6 (by decide) rfl
 have e7 := eVal hS 2 7 rfl rfl
 obtain ⟨b3, e3, L3, Z3⟩ := hS 3 3 (by decide) rfl
 simp only [pA, pB, pC, pD, pE, Act.put, pG, pH, pI, e5, e6, e7, e3]
 clear hS hap hla e5 e6 e7 e3 L6 Z6
 have LL3 := hid (show ((ints .u8 (lo ++ hi))).length = 64 from (il HL.out))
 have R3 := Z3.roomA (us := (ints .u8 (lo ++ hi))) (LL3.out.trans (zv .u8 64).symm)
 have h3 := Z3.storedA (us := (ints .u8 (lo ++ hi))) (LL3.out.trans (zv .u8 64).symm)
 have hu := Below.setCells hw L3 0 (ints .u8 (lo ++ hi)).toArray.toList
 replace hT := hT.next hu
 replace h1 := h1.next hu
 replace hW := bT hW hu
 clear hu
 with_reducible refine wpList_store_mid (op := ⟨none, .store 29 (.tmp 3) (.tmp 7), _, _, _, _⟩) rfl 29 (.tmp 3) (.tmp 7) rfl b3 0 (ints .u8 (lo ++ hi)).toArray rfl rfl R3 (szA inf64 LL3.out) (ints_all _ _) ?_
 generalize (w1.setCells b3 0 (ints .u8 (lo ++ hi)).toArray.toList) = w2 at *
 clear hw R3 LL3 Z3 L3
 go_upto_region 2 with (fail)
 have s2 := hW.size
 refine rSeq 5 22 (fun i => i == 4) [Is (.slice (some ⟨b3, 0, none⟩) 32 64), Is (.pointer (some ⟨b3, 0, none⟩)), Is (.agg (ints .u8 lo).toArray), Is (.agg (ints .u8 num).toArray), IsZV w2.heap.size (ints .u8 (zeros 32))] [8, 9, 10, 11, 4] (gC (gC (gC (gC (grows_cons (IsZV.grows _ _) grows_nil)))))
   ⟨step_one rfl (.inl rfl) (fun ev w h hc => ex_slAh (P := Tryz.prog) u64 z64 (m := 64) (h := 32) rfl (by decide) rfl ev w h hc) rfl (kO 3 rfl),
    step_one rfl (.inl rfl) (fun ev w h hc => ex_arrP (P := Tryz.prog) Tryz.underlying22 (by decide) rfl ev w h hc) rfl (kI 0 8 rfl rfl),
    step_ldV rfl (.inl rfl) (fun _ hw => (((h3.next hw)).lo).range) rfl Tryz.underlying22 rfl (szV inf32 (il HLO.out)) rfl (kI 1 9 rfl rfl),
    step_to rfl (.inl rfl) rfl cx21 kcl rfl (one_arg (kI 2 10 rfl rfl)),
    step_allocV (.inl rfl) inf32 rfl rfl, trivial⟩ ?_
 intro val w3 hw hS hap hla
 obtain ⟨b4, e4, L4, Z4⟩ := hS 4 4 (by decide) rfl
 simp only [pA, pB, pC, pD, pE, Act.put, pG, pH, pI, eVal hS 0 8 rfl rfl, eVal hS 1 9 rfl rfl, eVal hS 2 10 rfl rfl, eVal hS 3 11 rfl rfl, e4]
 clear hS hap hla e4
 have LL4 := hid (show ((ints .u8 num)).length = 32 from (il HN.out))
 have R4 := Z4.roomA (us := (ints .u8 num)) (LL4.out.trans (zv .u8 32).symm)
 have h4 := Z4.storedA (us := (ints .u8 num)) (LL4.out.trans (zv .u8 32).symm)
 have hu := Below.setCells hw L4 0 (ints .u8 num).toArray.toList
 replace hT := hT.next hu
 replace h1 := h1.next hu
 replace h3 := h3.next hu
 replace hW := bT hW hu
 clear hu
 with_reducible refine wpList_store_mid (op := ⟨none, .store 22 (.tmp 4) (.tmp 11), _, _, _, _⟩) rfl 22 (.tmp 4) (.tmp 11) rfl b4 0 (ints .u8 num).toArray rfl rfl R4 (szA inf32 LL4.out) (ints_all _ _) ?_
 generalize (w3.setCells b4 0 (ints .u8 num).toArray.toList) = w4 at *
 clear hw R4 LL4 Z4 L4
 go_wp2_with (fail)
 have s4 := hW.size
 refine rSpec 10 22 (fun i => i == 9) [Is (.agg (ints .u8 num).toArray), Is (.slice (some ⟨b3, 32, none⟩) 32 32), Is (.pointer (some ⟨b3, 32, none⟩)), Is (.agg (ints .u8 hi).toArray), IsL bb, Is (.agg (ints .u8 num).toArray), IsL m1, Is (.agg (ints .u8 pub).toArray), Is (.agg (sgv num hi pub).toArray), IsZV w4.heap.size (sgv num hi pub)] [12, 13, 14, 15, 16, 17, 18, 19, 20, 21] (gC (gC (gC (gC (gC (gC (gC (gC (gC (grows_cons (IsZV.grows _ _) grows_nil))))))))))
   ⟨step_ldV rfl (.inl rfl) (fun _ hw => (h4.next hw).range) rfl Tryz.underlying22 rfl (szV inf32 (il HN.out)) rfl (kO 4 rfl),
    step_one rfl (.inl rfl) (fun ev w h hc => ex_slAl (P := Tryz.prog) u64 z64 (m := 64) (l := 32) rfl (by decide) rfl rfl rfl ev w h hc) rfl (kO 3 rfl),
    step_one rfl (.inl rfl) (fun ev w h hc => ex_arrP (P := Tryz.prog) Tryz.underlying22 (by decide) rfl ev w h hc) rfl (kI 1 13 rfl rfl),
    step_ldV rfl (.inl rfl) (fun _ hw => (Rw.hi (o' := 32) ((h3.next hw)) (by have := HLO.out; omega)).range) rfl Tryz.underlying22 rfl (szV inf32 (il HHI.out)) rfl (kI 2 14 rfl rfl),
    step_toP rfl (.inl rfl) rfl cx16 hT.p kb rfl (no_args),
    step_ldV rfl (.inl rfl) (fun _ hw => (h4.next hw).range) rfl Tryz.underlying22 rfl (szV inf32 (il HN.out)) rfl (kO 4 rfl),
    step_toP rfl (.inl rfl) rfl cx17 hT.p km rfl (two_args (kI 4 16 rfl rfl) (kI 5 17 rfl rfl)),
    step_to rfl (.inl rfl) rfl cx18 kby rfl (one_arg (kI 6 18 rfl rfl)),
    step_buildP rfl (.inl rfl) rfl HSG.out rfl (parts4 (knows_const _) (kI 0 12 rfl rfl) (kI 3 15 rfl rfl) (kI 7 19 rfl rfl)),
    step_boxV (.inl rfl) rfl rfl (kI 8 20 rfl rfl), trivial⟩ ?_
 intro val w5 hw hS hap hla
 obtain ⟨b21, e21, L21, Z21⟩ := hS 9 21 (by decide) rfl
 simp only [pA, pB, pC, pD, pE, Act.put, pG, pH, pI, eVal hS 0 12 rfl rfl, eVal hS 1 13 rfl rfl, eVal hS 2 14 rfl rfl, eVal hS 3 15 rfl rfl, eVal hS 4 16 rfl rfl, eVal hS 5 17 rfl rfl, eVal hS 6 18 rfl rfl, eVal hS 7 19 rfl rfl, eVal hS 8 20 rfl rfl, e21]
 clear hS hap hla e21
 replace hT := hT.next hw
 replace h1 := h1.next hw
 replace h3 := h3.next hw
 replace h4 := h4.next hw
 replace hW := bT hW hw
 clear hw
 go_wp2_with (fail)
 go_ret
 exact ⟨b21, rfl, Nat.le_trans s4 L21, Z21, hW⟩
end Go.Proofs.YthpibkpljakeeaaGreatDoor
