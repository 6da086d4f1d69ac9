/- Texts of this proof, laid together: DFols, DLoose. -/
import Derived.Test.YtboofkmbjmnpeaaG13
import Derived.ArgAppend
import Derived.Laws.Slices
/- A term that was found is followed: it, and all that it is needed for, are looked at. -/
namespace Go.Proofs.Ytboofkmbjmnpeaa
open Go Go.RowKit Go.Maps

theorem looks_back {S : (Nat → Bool) → (Nat → Bool) → Prop} {F F' : List Fa} {new : List Int} (h : Adv S F F' new) {j : Int} {m : Nat} (hl : looks F' j m) : looks F j m := by
  rcases hl with e | ⟨f', hf, hm⟩
  · exact .inl e
  · have hl : j.toNat < F.length := by rw [← h.len]; exact get_lt hf
    obtain ⟨k, c, e, _⟩ := h.same j.toNat F[j.toNat] (by simp [hl])
    rw [hf] at e
    injection e with e
    refine .inr ⟨F[j.toNat], by simp [hl], ?_⟩
    rw [e] at hm; exact hm
/-- What holds between the rounds. -/
structure FI (T : List T3) (G : Nat → Prop) (D p : Nat) (Af : Option Addr) (cf : Nat) (F : List Fa) (n : Nat) (sv : List Int) (j : Nat) (v : Value) (F' : List Fa) (new : List Int) (w wr : World) : Prop where
  adv : Adv (Closed T G) F F' new
  cnt : new.length + unset F' ≤ unset F
  own : Owns wr D 3 .i64 v new
  ks : KS wr p Af cf F'
  chg : Chg (fun b => fblk Af b ∨ D ≤ b) w wr
  cln : ∀ m, m < T.length → ((n : Int) = m ∨ (m : Int) ∈ sv.take j) → Clean T F' m ∨ ∃ q ∈ new, looks F q m
section
variable {T : List T3} {G : Nat → Prop} {D p : Nat} {Af : Option Addr} {cf : Nat} {F F' F2 : List Fa} {n : Nat} {sv : List Int} {j : Nat} {v v' : Value} {new new2 : List Int} {w wr w2 : World}
theorem FI.step (hW : WF T) (hF : FOK T F) (h : FI T G D p Af cf F n sv j v F' new w wr) {m : Nat} (hm : sv[j]? = some (m : Int)) (hA : Adv (Closed T G) F' F2 new2) (hc : new2.length + unset F2 ≤ unset F') (hcl : Clean T F2 m) (hO : Owns w2 D 3 .i64 v' (new ++ new2)) (hK : KS w2 p Af cf F2) (hC : Chg (fun b => fblk Af b ∨ D ≤ b) wr w2) : FI T G D p Af cf F n sv (j + 1) v' F2 (new ++ new2) w w2 := by
  refine ⟨h.adv.trans hA, ?_, hO, hK, h.chg.trans hC (fun _ _ e => e), fun q hq hl => ?_⟩
  · have := h.cnt
    rw [List.length_append]; omega
  · rw [List.take_add_one, hm] at hl
    simp only [Option.toList_some, List.mem_append, List.mem_singleton] at hl
    by_cases e : q = m
    · subst e; exact .inl hcl
    · have hl2 : (n : Int) = q ∨ (q : Int) ∈ sv.take j := by
        rcases hl with h1 | h1 | h1
        · exact .inl h1
        · exact .inr h1
        · exact absurd (by omega) e
      rcases h.cln q hq hl2 with h1 | ⟨z, hz, hl3⟩
      · rcases clean_adv hW (hF.adv h.adv) hA h1 with h2 | ⟨z, hz, hl3⟩
        · exact .inl h2
        · exact .inr ⟨z, List.mem_append_right _ hz, looks_back h.adv hl3⟩
      · exact .inr ⟨z, List.mem_append_left _ hz, hl3⟩
end
set_option maxRecDepth 50000 in
set_option maxHeartbeats 4000000 in
theorem follows_any (T : List T3) (G : Nat → Prop) (D p : Nat) (Af : Option Addr) (cf : Nat) (F : List Fa) (n : Nat) (f : Fa) (w : World) (hW : WF T) (hF : FOK T F) (hkc : ∀ i, kF F i = true → cF F i = true) (h : KS w p Af cf F) (hf : F[n]? = some f) (hD : ∀ b, kfoot p Af F b → b < D) (hDw : D ≤ w.heap.size) (hU : unset F ≤ 1000) :
    Calls Try.prog 47 #[.pointer (some ⟨p, 0, none⟩), .int .i64 n] w (AdvQ (Closed T G) D p Af cf F [] (fun F' new => ∀ m, m < T.length → looks F n m → Clean T F' m ∨ ∃ q ∈ new, looks F q m) w) := by
  have hn := get_lt hf
  obtain ⟨g, rfl, hgl, hcap, hcm, hgp, _⟩ := h.addr (by omega)
  have n0 : (0 : Int) ≤ n := by omega
  have n1 : (n : Int) < F.length := by omega
  have HL := hid (look_any T G D p _ cf F n f none 0 [] w hW hF hkc h hf hD hDw (Owns.none_ _ _ _ _) (by simp))
  have hsl := (hF.sv n f hf).2
  -- behind the first look
  have H1 : Hid (∀ A1 n1 c1 F1 new w1, Adv (Closed T G) F F1 new → new.length + unset F1 ≤ unset F → Clean T F1 n → Owns w1 D 3 .i64 (.slice A1 n1 c1) new → KS w1 p (some ⟨g, 0, none⟩) cf F1 → Chg (fun b => fblk (some ⟨g, 0, none⟩) b ∨ D ≤ b) w w1 →
      FI T G D p (some ⟨g, 0, none⟩) cf F n f.sv 0 (.slice A1 n1 c1) F1 new w w1 ∧ w1.cell? ⟨p, 1, none⟩ = some (.slice (some ⟨g, 0, none⟩) F.length cf) ∧ w1.cell? ⟨g, n * 7 + 6, none⟩ = some (.slice f.A f.sv.length f.c)) := hid fun A1 n1 c1 F1 new w1 hA hc hcl hO hK hC => by
    refine ⟨⟨hA, hc, hO, hK, hC, fun m hm hl => .inl ?_⟩, ?_, ?_⟩
    · have e : m = n := by
        rcases hl with h1 | h1
        · omega
        · simp at h1
      rw [e]; exact hcl
    · have := hK.c1; rw [hA.len] at this; exact this
    · obtain ⟨k, c, e, _⟩ := hA.same n f hf
      obtain ⟨g', e2, _, _, _, _, hCl⟩ := hK.addr (by rw [hA.len]; omega)
      injection e2 with e2; injection e2 with e2; subst e2
      exact (hCl n _ e 6 _ rfl).1
  -- one round
  have HR : Hid (∀ j A' n' c' F' new wr, j < f.sv.length → FI T G D p (some ⟨g, 0, none⟩) cf F n f.sv j (.slice A' n' c') F' new w wr → ∃ (b off m : Nat), f.A = some ⟨b, off, none⟩ ∧ wr.cell? ⟨b, off + j, none⟩ = some (.int .i64 (m : Int)) ∧
      Calls Try.prog 52 #[.pointer (some ⟨p, 0, none⟩), .int .i64 m, .slice A' n' c'] wr (fun e w2 => ∃ A2 n2 c2 F2 new2, e = .returned (.slice A2 n2 c2) ∧ FI T G D p (some ⟨g, 0, none⟩) cf F n f.sv (j + 1) (.slice A2 n2 c2) F2 new2 w w2)) := hid fun j A' n' c' F' new wr hj hI => by
    obtain ⟨k, c, e, _⟩ := hI.adv.same n f hf
    have hr := hI.ks.rS n _ e
    have hN : Nums wr .i64 f.A f.sv := Owns.nums (n := f.sv.length) (c := f.c) (show Owns wr 0 3 .i64 (.slice f.A f.sv.length f.c) f.sv from hr)
    obtain ⟨b, off, x, e1, _, hc, hx⟩ := hN.get hj
    obtain ⟨s0, s1⟩ := (hF.sv n f hf).1 x (List.mem_of_getElem? hx.out)
    obtain ⟨m, rfl⟩ : ∃ m : Nat, x = m := ⟨x.toNat, by omega⟩
    refine ⟨b, off, m, e1, hc, ?_⟩
    have hF' := hF.adv hI.adv
    have hml : m < F'.length := by rw [hF'.len]; omega
    have hn' := hI.own.len3
    subst hn'
    refine (look_any T G D p _ cf F' m F'[m] A' c' new wr hW hF' (hI.adv.kc hkc) hI.ks (by simp [hml]) (fun b hb => hD b ((kfoot_adv hI.adv b).1 hb)) (Nat.le_trans hDw hI.chg.size) hI.own (by have := hI.cnt; omega)).mono ?_
    rintro e w2 ⟨A2, n2, c2, F2, new2, rfl, hA2, hc2, hcl2, hO2, hK2, hC2⟩
    exact ⟨A2, n2, c2, F2, new ++ new2, rfl, hI.step hW hF hx.out hA2 hc2 hcl2 hO2 hK2 hC2⟩
  have HE : Hid (∀ A' n' c' F' new wr, FI T G D p (some ⟨g, 0, none⟩) cf F n f.sv f.sv.length (.slice A' n' c') F' new w wr → AdvQ (Closed T G) D p (some ⟨g, 0, none⟩) cf F [] (fun F' new => ∀ m, m < T.length → looks F n m → Clean T F' m ∨ ∃ q ∈ new, looks F q m) w (.returned (.slice A' n' c')) wr) := hid fun A' n' c' F' new wr hI => by
    refine ⟨A', n', c', F', new, rfl, hI.adv, hI.cnt, fun m hm hl => hI.cln m hm ?_, by rw [List.nil_append]; exact hI.own, hI.ks, hI.chg⟩
    rw [List.take_length]
    rcases hl with h1 | ⟨f2, h1, h2⟩
    · exact .inl h1
    · rw [Int.toNat_natCast, hf] at h1
      injection h1 with h1; subst h1
      exact .inr h2
  obtain ⟨sl, hslen⟩ : ∃ sl, f.sv.length = sl := ⟨_, rfl⟩
  obtain ⟨sA, hsA⟩ : ∃ sA, f.A = sA := ⟨_, rfl⟩
  rw [hslen] at hsl H1 HR HE
  rw [hsA] at H1 HR
  clear hW hF hkc h hf hD hDw hn hgl hcap hcm hgp hslen hsA hU
  go_enter Try.func47, Try.ntmps47
  go_upto_region 2 with (go_at_call 52; refine HL.out.mono ?_; rintro e w1 ⟨A1, n1', c1', F1, new, rfl, hA, hc, hcl, hO, hK, hC⟩)
  rw [List.nil_append] at hO
  obtain ⟨hI, y1, y6⟩ := H1.out A1 n1' c1' F1 new w1 hA hc hcl hO hK hC
  clear HL H1 hA hc hcl hO hK hC
  go_wp2
  clear y1 y6
  go_loopw [5, 20] (fun u v wr => ∃ (j : Nat) (A' : Option Addr) (n' c' : Nat) (F' : List Fa) (new : List Int), j ≤ sl ∧ u = .slice A' n' c' ∧ v = .int .i64 j ∧ FI T G D p (some ⟨g, 0, none⟩) cf F n f.sv j (.slice A' n' c') F' new w wr) (fun _ v _ => sl - (intOf v).toNat)
  case atStart => exact ⟨0, A1, n1', c1', F1, new, Nat.zero_le _, rfl, rfl, hI⟩
  case round =>
    clear hI
    obtain ⟨j, A', n', c', F', new', hj, rfl, rfl, hI⟩ := hrel
    by_cases hlt : j < sl
    · obtain ⟨b, off, m, hA, hcell, hcall⟩ := HR.out j A' n' c' F' new' wr hlt hI
      have hlt' : (j : Int) < sl := by omega
      have j0 : (0 : Int) ≤ j := by omega
      have j1 : j + 1 ≤ sl := by omega
      subst hA
      clear hI HR HE hlt hj
      go_wp2_with (go_at_call 52; refine hcall.mono ?_; rintro e w2 ⟨A2, n2, c2, F2, new2, rfl, hI2⟩)
      go_roundw
      case rel => exact ⟨j + 1, A2, n2, c2, F2, new2, j1, rfl, by go_num, hI2⟩
      case measure => simp [intOf]; omega
    · have e : j = sl := by omega
      subst e
      go_wp2
      go_ret
      exact HE.out _ _ _ _ _ _ hI
end Go.Proofs.Ytboofkmbjmnpeaa

/- A row of numbers that was cut at its front, and to which more are appended. -/
namespace Go.Proofs.Ytboofkmbjmnpeaa
open Go Go.RowKit Go.Maps

/-- The slice at A, of as many elements as xs has and room for c, holds the numbers xs; its block is D or newer; it may be written. -/
def LR (D : Nat) (w : World) (A : Option Addr) (c : Nat) (xs : List Int) : Prop :=
  (A = none ∧ xs = [] ∧ c = 0) ∨ ∃ g off, A = some ⟨g, off, none⟩ ∧ D ≤ g ∧ g < w.heap.size ∧ xs.length ≤ c ∧ c ≤ maxLen ∧ w.rangeAt g off (ints .i64 xs) ∧ w.there g off c
theorem lr_own {D : Nat} {w : World} {A : Option Addr} {n c : Nat} {xs : List Int} (h : Owns w D 3 .i64 (.slice A n c) xs) : LR D w A c xs := by
  rcases h.2 with ⟨hv, hn⟩ | ⟨g, cap, cur, hv, hb, hg, hn, hm, hs, ht⟩
  · injection hv with h1 h2 h3
    exact .inl ⟨h1, List.eq_nil_of_length_eq_zero hn, h3⟩
  · injection hv with h1 h2 h3
    subst h3
    have hown : w.ownsRow D 3 1 (.slice (some ⟨g, 0, none⟩) xs.length c) xs.length (xs.map (Value.int .i64)) := ⟨h.1, .inr ⟨g, c, cur, rfl, hb, hg, hn, hm, hs, ht⟩⟩
    refine .inr ⟨g, 0, h1, hb, (Array.getElem?_eq_some_iff.1 hg).1, hn, hm, fun j v hj => ?_, fun j hj => ⟨?_, ?_⟩⟩
    · rw [Nat.zero_add, hown.cellAt j (by have := get_lt hj; simp [ints] at this; omega)]
      exact hj
    · rw [Nat.zero_add]
      simp [World.cell?, hg, show j < cur.size by omega]
    · simp [World.frozen?, hg]
theorem LR.nums {D : Nat} {w : World} {A : Option Addr} {c : Nat} {xs : List Int} (h : LR D w A c xs) : Nums w .i64 A xs := fun hp => by
  rcases h with ⟨_, h2, _⟩ | ⟨g, off, e, _, hlt, _, _, hr, _⟩
  · subst h2; simp at hp
  · refine ⟨g, off, e, hlt, fun i hi => hr i _ ?_⟩
    simp [ints, hi]
theorem LR.cap {D : Nat} {w : World} {A : Option Addr} {c : Nat} {xs : List Int} (h : LR D w A c xs) : xs.length ≤ c := by
  rcases h with ⟨_, h2, h3⟩ | ⟨g, off, _, _, _, h1, _⟩
  · subst h2; subst h3; exact Nat.le_refl _
  · exact h1
theorem LR.chg {D : Nat} {G : Nat → Prop} {w w' : World} {A : Option Addr} {c : Nat} {xs : List Int} (h : LR D w A c xs) (hc : Chg G w w') (hG : ∀ a, A = some a → ¬ G a.block) : LR D w' A c xs := by
  rcases h with h | ⟨g, off, e, h1, h2, h3, h4, h5, h6⟩
  · exact .inl h
  · have hb := hc.block g h2 (hG _ e)
    refine .inr ⟨g, off, e, h1, Nat.lt_of_lt_of_le h2 hc.size, h3, h4, fun j v hj => ?_, fun j hj => ?_⟩
    · exact (World.cell?_of_block (a := ⟨g, off + j, none⟩) hb).trans (h5 j v hj)
    · rw [World.cell?_of_block (a := ⟨g, off + j, none⟩) hb, World.frozen?_of_block (a := ⟨g, off + j, none⟩) hb]
      exact h6 j hj
/-- A piece at the end. -/
theorem LR.cut {D : Nat} {w : World} {A : Option Addr} {c : Nat} {xs : List Int} (h : LR D w A c xs) {l : Nat} (hl : l ≤ xs.length) :
    ∃ A' c', (∀ w', (Instr.sliceAt 23 (.slice A xs.length c) (some (.int .i64 (l : Int))) none none).run Try.prog w' = .ok (.slice A' (xs.length - l) c') w') ∧ LR D w A' c' (xs.drop l) := by
  have hr := fun w' => run_slice_l (P := Try.prog) w' 23 A xs.length c Try.underlying23 .i64 (l : Int) (by omega) (by omega)
  have hs := fun w' => run_sliceAt_slice (P := Try.prog) w' 23 (.slice A xs.length c) (some (.int .i64 (l : Int))) none none Try.underlying23
  have hz : ∀ w', (sizeOf (Try.prog.elem 23)).run Try.prog w' = .ok 1 w' := fun w' => by
    obtain ⟨i, hi, _, hsz, _⟩ := info_parts infIb
    have e : Try.prog.elem 23 = 3 := by kernel_rfl
    rw [e]
    simp [sizeOf, typeInfo, hi, hsz]
  have hcap := h.cap
  refine ⟨if c = l then A else A.map (·.add l), c - l, fun w' => ?_, ?_⟩
  · rw [hs, hr, hz]
    simp [sliced]
  · rcases h with ⟨h1, h2, h3⟩ | ⟨g, off, e, h1, h2, h3, h4, h5, h6⟩
    · subst h1; subst h2; subst h3
      exact .inl ⟨by split <;> rfl, by simp, by simp⟩
    · subst e
      by_cases hcl : c = l
      · rw [if_pos hcl]
        refine .inr ⟨g, off, rfl, h1, h2, by rw [List.length_drop]; omega, by omega, ?_, fun j hj => by omega⟩
        rw [List.drop_eq_nil_of_le (by omega)]
        intro j v hj; simp [ints] at hj
      · rw [if_neg hcl]
        refine .inr ⟨g, off + l, by simp [Addr.add_mid], h1, h2, by rw [List.length_drop]; omega, by omega, fun j v hj => ?_, fun j hj => ?_⟩
        · have := h5 (l + j) v (by simp only [ints, List.map_drop, List.getElem?_drop] at hj ⊢; exact hj)
          rw [Nat.add_assoc]; exact this
        · have := h6 (l + j) (by omega)
          rw [Nat.add_assoc]; exact this
theorem LR.app {D : Nat} {w : World} {A : Option Addr} {n c : Nat} {xs : List Int} (h : LR D w A c xs) (hn : n = xs.length) {B : Option Addr} {m d : Nat} {ys : List Int} (hm : m = ys.length) (hB : Nums w .i64 B ys) (hp : 0 < ys.length) (hl : xs.length + ys.length ≤ 1000) (hD : D ≤ w.heap.size) (ty : TypeId) :
    ∃ A' n' c' w', (Builtin.append_ #[23, 23] ty #[.slice A n c, .slice B m d]).run Try.prog w = .ok (.slice A' n' c') w' ∧ n' = (xs ++ ys).length ∧ LR D w' A' c' (xs ++ ys) ∧ Chg (fun b => D ≤ b) w w' := by
  subst hn; subst hm
  obtain ⟨i, hi, hz, hsize, hby⟩ := info_parts infIb
  rcases h with ⟨h1, h2, h3⟩ | ⟨g, off, e, h1, h2, h3, h4, h5, h6⟩
  · subst h1; subst h2; subst h3
    obtain ⟨A', n', c', w', hrun, hO, hG⟩ := run_app (P := Try.prog) 23 ty 8 Try.underlying23 infIb (by decide) none 0 0 [] (Owns.none_ w D 3 .i64) B d ys hB (by simp at hl ⊢; omega) hD
    exact ⟨A', n', c', w', hrun, hO.len3, lr_own hO, (Chg.refl _ w).grown hG.1 (fun g e => by cases e)⟩
  · subst e
    obtain ⟨bb, bo, rfl, hbl, hbc⟩ := hB hp
    have hnews : ∀ j u, (ints .i64 ys)[j]? = some u → w.cell? ((⟨bb, bo, none⟩ : Addr).add j) = some u := fun j u hj => by
      have hjl : j < ys.length := by have := get_lt hj; simp [ints] at this; exact this
      rw [Addr.add_mid, hbc j hjl]
      simp only [ints, List.getElem?_map] at hj
      simpa [hjl] using hj
    have hone := ints_one .i64 ys
    have hil : (ints .i64 ys).length = ys.length := by simp [ints]
    by_cases hroom : xs.length + ys.length ≤ c
    · have hr := run_append_room_cells (P := Try.prog) w 23 ty 3 i Try.underlying23 hi g off xs.length c ⟨bb, bo, none⟩ ys.length d (ints .i64 ys) (by rw [hil, hsize, Nat.mul_one]) hnews hone hroom
        (fun j hj => by rw [hsize, Nat.mul_one, Nat.add_assoc]; exact (h6 _ (by omega)).1) (fun j hj => by rw [hsize, Nat.mul_one, Nat.add_assoc]; exact (h6 _ (by omega)).2)
      rw [hsize, Nat.mul_one] at hr
      have hth : w.there g (off + xs.length) (ints .i64 ys).length := fun j hj => by rw [Nat.add_assoc]; exact h6 _ (by omega)
      refine ⟨_, _, _, _, hr, by simp, .inr ⟨g, off, rfl, h1, by rw [setCells_size]; exact h2, by rw [List.length_append]; exact hroom, h4, ?_, World.there_setCells h6 g _ _⟩, ?_⟩
      · rw [ints_app]
        intro j v hj
        by_cases hjl : j < xs.length
        · rw [List.getElem?_append_left (by simp [ints]; exact hjl)] at hj
          rw [World.cell?_setCells_out g _ _ _ _ (fun _ _ => .inl (by show off + j < off + xs.length; omega))]
          exact h5 j v hj
        · rw [List.getElem?_append_right (by simp [ints]; omega)] at hj
          have := World.rangeAt_setCells_same w g (off + xs.length) (ints .i64 ys) hth (j - xs.length) v (by simpa [ints] using hj)
          rw [show off + xs.length + (j - xs.length) = off + j by omega] at this
          exact this
      · have hf := setCells_frame g (ints .i64 ys) (off + xs.length) w
        exact ⟨hf.1, hf.2.1, hf.2.2.1, by rw [hf.2.2.2.1]; exact Nat.le_refl _, fun k _ hk => hf.2.2.2.2 k (fun e => hk (by subst e; exact h1))⟩
    · obtain ⟨v', w', hr, hO, hG⟩ := run_append_arg_grows (P := Try.prog) w 23 ty 3 i (.int .i64 0) 1 8 Try.underlying23 hi hz hsize hby rfl (by decide) ⟨g, off, none⟩ xs.length c (ints .i64 xs) (by simp [ints]) (fun j u hj => by rw [Addr.add_mid]; exact h5 j u hj) ⟨bb, bo, none⟩ ys.length d (ints .i64 ys) (by rw [hil]; omega) hnews (by omega) (by unfold maxLen; omega) (by omega)
      obtain ⟨A', n', c', rfl⟩ : ∃ A' n' c', v' = .slice A' n' c' := by
        rcases hO.2 with ⟨hv, _⟩ | ⟨g, cap, cur, hv, _⟩
        · exact ⟨_, _, _, hv⟩
        · exact ⟨_, _, _, hv⟩
      have hO2 : Owns w' D 3 .i64 (.slice A' n' c') (xs ++ ys) := by
        unfold Owns
        rw [List.length_append, List.map_append]
        exact ⟨hO.1, hO.2.imp id fun ⟨g, cap, cur, h1, h2, h3⟩ => ⟨g, cap, cur, h1, Nat.le_trans hD h2, h3⟩⟩
      exact ⟨A', n', c', w', hr, hO2.len3, lr_own hO2, (Chg.refl _ w).grown hG (fun g e => by cases e)⟩
theorem wpList_appL {D : Nat} {w : World} {A : Option Addr} {n c : Nat} {xs : List Int} {ops : Array Oper} {rest : List Oper} {o : Oper} {a : Act} {Q : Exit → Act → World → Prop} (hgd : o.guard = none) (s x : Operand) (ho : o.op = .call { callee := .builtin .append, args := #[s, x], argTypes := #[23, 23] })
    (h : LR D w A c xs) (hn : n = xs.length) (hs : a.eval s = .slice A n c) {B : Option Addr} {m d : Nat} {ys : List Int} (hx : a.eval x = .slice B m d) (hm : m = ys.length) (hB : Nums w .i64 B ys) (hp : 0 < ys.length) (hl : xs.length + ys.length ≤ 1000) (hD : D ≤ w.heap.size)
    (hk : ∀ A' n' c' w', n' = (xs ++ ys).length → LR D w' A' c' (xs ++ ys) → Chg (fun b => D ≤ b) w w' → wpList Try.prog ops Q rest (a.put o.dst (.slice A' n' c')) w') : wpList Try.prog ops Q (o :: rest) a w := by
  obtain ⟨A', n', c', w', hr, h2, h3, h4⟩ := h.app hn hm hB hp hl hD o.type
  refine wpList_plain hgd fun _ hK => ?_
  unfold Oper.wp execOp
  simp only [ho, resolve, invoke, builtin, Sem.run_bind, Sem.run_pure, Result.andThen_ok, List.map_toArray, List.map_cons, List.map_nil, hs, hx]
  erw [hr]
  exact hK _ _ (hk A' n' c' w' h2 h3 h4)
end Go.Proofs.Ytboofkmbjmnpeaa
