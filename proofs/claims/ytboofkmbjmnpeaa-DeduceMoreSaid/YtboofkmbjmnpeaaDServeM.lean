/- A term is noted as needed for another one. -/
import Derived.Test.YtboofkmbjmnpeaaG16
namespace Go.Proofs.Ytboofkmbjmnpeaa
open Go Go.RowKit Go.Maps

section
variable {P : Program} {ops : Array Oper} {md : Region.Mode} {W : World} {a0 : Act} {n : Nat} {S : Nat → Value → World → Prop} {R : World → Value → World → Prop} {i : Nat} {o : Oper}
theorem pure_exR (v : Value) (hg : o.guard = none) (hS : S i = Is v) (h : ∀ (a : Act) (w0 w : World), Cl W w0 → (w = w0 ∨ ∃ u, R w0 u w) → Fr ops n a0 a → Dp ops md n S i a w0 → (execOp a.eval o).run P w = .ok (.value v) w) : PureR P ops md W a0 n S R i o :=
  ⟨hg, fun a w0 w hw hR hf hd => ⟨v, h a w0 w hw hR hf hd, by rw [hS]; exact rfl⟩⟩
end
section
variable {w w1 : World} {p g cf n : Nat} {F : List Fa} {f : Fa} {A' : Option Addr} {c' : Nat} {o : Int}
theorem KS.serve (h : KS w p (some ⟨g, 0, none⟩) cf F) (hf : F[n]? = some f) (hr : w1.ownsRow 0 3 1 (.slice A' (f.sv.length + 1) c') (f.sv.length + 1) (ints .i64 f.sv ++ [.int .i64 o])) (hg : w.grownBy w1 f.vs.ownBlock) (ho : (Value.slice A' (f.sv.length + 1) c').ownBlock = f.vs.ownBlock ∨ (Value.slice A' (f.sv.length + 1) c').ownBlock = some w.heap.size) :
    KS (w1.setCell ⟨g, n * 7 + 6, none⟩ (.slice A' (f.sv.length + 1) c')) p (some ⟨g, 0, none⟩) cf (F.set n { f with A := A', c := c', sv := f.sv ++ [o] }) ∧
      Chg (kfoot p (some ⟨g, 0, none⟩) F) w (w1.setCell ⟨g, n * 7 + 6, none⟩ (.slice A' (f.sv.length + 1) c')) ∧
      (∀ b, kfoot p (some ⟨g, 0, none⟩) (F.set n { f with A := A', c := c', sv := f.sv ++ [o] }) b → kfoot p (some ⟨g, 0, none⟩) F b ∨ w.heap.size ≤ b) := by
  have hn := get_lt hf
  have hown := h.rS n f hf
  obtain ⟨g', e, _, _, _, hgp, _⟩ := h.addr (by omega)
  injection e with e; injection e with e; subst e
  have hl : (f.sv ++ [o]).length = f.sv.length + 1 := by simp
  have hblk := h.blk.grown hg (blk_ne h.blk hown (by decide))
  have hrF := h.rF.kept hg (row_ne h.rF hown (by decide))
  have hself : (F.set n { f with A := A', c := c', sv := f.sv ++ [o] })[n]? = some { f with A := A', c := c', sv := f.sv ++ [o] } := by simp [hn]
  have hoth : ∀ q, q ≠ n → (F.set n { f with A := A', c := c', sv := f.sv ++ [o] })[q]? = F[q]? := fun q hq => by rw [List.getElem?_set_ne (Ne.symm hq)]
  have hvs : (Fa.mk f.t f.key f.kn f.ca A' c' (f.sv ++ [o])).vs = .slice A' (f.sv.length + 1) c' := by simp [Fa.vs]
  have hr2 := (hrF.stored (n * 7 + 6) (.slice A' (f.sv.length + 1) c')).1
  rw [← flatF_set F n 6 f { f with A := A', c := c', sv := f.sv ++ [o] } (.slice A' (f.sv.length + 1) c') hf (by decide) (by simp [Fa.cells])] at hr2
  have far : ∀ {v : Value} {m : Nat} {xs : List Value}, w1.ownsRow 0 3 1 v m xs → (w1.setCell ⟨g, n * 7 + 6, none⟩ (.slice A' (f.sv.length + 1) c')).ownsRow 0 3 1 v m xs := fun hx =>
    ownsRow_setCell_other hx (a := ⟨g, n * 7 + 6, none⟩) (fun e => by
      rcases row_ne hrF hx (by decide) with h6 | h6
      · simp [Value.ownBlock] at h6
      · exact h6 (by rw [e]; rfl)) _
  have hlt : ∀ (q : Nat) x b, F[q]? = some x → x.vs.ownBlock = some b → b < w.heap.size := fun q x b hq hb => rowlt (h.rS q x hq) b hb
  refine ⟨⟨?_, ?_, fun q x hx => ?_, fun q r x y b hx hy e1 e2 => ?_⟩, ⟨hg.os, hg.tape, hg.output, by simp [World.setCell]; exact hg.size, fun k hk hnk => ?_⟩, fun b hb => ?_⟩
  · rw [List.length_set]; exact hblk.other (a := ⟨g, n * 7 + 6, none⟩) hgp _
  · rw [List.length_set]; exact hr2
  · by_cases e : q = n
    · subst e
      rw [hself] at hx
      injection hx with hx; subst hx
      rw [hvs, hl, ints_app]
      exact far hr
    · rw [hoth q e] at hx
      refine far ((h.rS q x hx).kept hg ?_)
      cases hq : x.vs.ownBlock with
      | none => exact .inl rfl
      | some b => exact .inr fun e2 => e (h.dis q n x f b hx hf hq e2.symm)
  · by_cases eq : q = n
    · by_cases er : r = n
      · rw [eq, er]
      · exfalso
        subst eq
        rw [hself] at hx; injection hx with hx; subst hx
        rw [hoth r er] at hy
        rw [hvs] at e1
        rcases ho with h1 | h1
        · exact er (h.dis r q y f b hy hf e2 (h1.symm.trans e1))
        · rw [e1] at h1; injection h1 with h1
          have := hlt r y b hy e2; omega
    · by_cases er : r = n
      · exfalso
        subst er
        rw [hself] at hy; injection hy with hy; subst hy
        rw [hoth q eq] at hx
        rw [hvs] at e2
        rcases ho with h1 | h1
        · exact eq (h.dis q r x f b hx hf e1 (h1.symm.trans e2))
        · rw [e2] at h1; injection h1 with h1
          have := hlt q x b hx e1; omega
      · rw [hoth q eq] at hx
        rw [hoth r er] at hy
        exact h.dis q r x y b hx hy e1 e2
  · rw [Below.heap_setCell _ _ _ _ (show k ≠ g from fun e => hnk (by rw [e]; exact .inr (.inl rfl)))]
    exact hg.block k hk (fun e => hnk (.inr (.inr ⟨n, f, hf, e.symm⟩)))
  · rcases hb with h1 | h1 | ⟨q, x, hx, h1⟩
    · exact .inl (.inl h1)
    · exact .inl (.inr (.inl h1))
    · by_cases e : q = n
      · subst e
        rw [hself] at hx; injection hx with hx; subst hx
        rw [hvs] at h1
        rcases ho with h2 | h2
        · exact .inl (.inr (.inr ⟨q, f, hf, h2.symm.trans h1⟩))
        · rw [h1] at h2; injection h2 with h2; exact .inr (by omega)
      · rw [hoth q e] at hx
        exact .inl (.inr (.inr ⟨q, x, hx, h1⟩))
end
set_option maxRecDepth 50000 in
set_option maxHeartbeats 4000000 in
theorem serve_any (p : Nat) (Af : Option Addr) (cf : Nat) (F : List Fa) (n : Nat) (f : Fa) (o : Int) (w : World) (h : KS w p Af cf F) (hf : F[n]? = some f) (hsv : f.sv.length ≤ 900) :
    Calls Try.prog 42 #[.pointer (some ⟨p, 0, none⟩), .int .i64 n, .int .i64 o] w fun e w' => (∃ v, e = .returned v) ∧ ∃ A' c', KS w' p Af cf (F.set n { f with A := A', c := c', sv := f.sv ++ [o] }) ∧ Chg (kfoot p Af F) w w' ∧ (∀ b, kfoot p Af (F.set n { f with A := A', c := c', sv := f.sv ++ [o] }) b → kfoot p Af F b ∨ w.heap.size ≤ b) := by
  have hn := get_lt hf
  obtain ⟨g, rfl, hgl, hcap, hcm, hgp, hC⟩ := h.addr (by omega)
  have n0 : (0 : Int) ≤ n := by omega
  have n1 : (n : Int) < F.length := by omega
  have H1 : Hid (∀ ww, Cl w ww → ww.cell? ⟨p, 1, none⟩ = some (.slice (some ⟨g, 0, none⟩) F.length cf) ∧ ww.cell? ⟨g, n * 7 + 6, none⟩ = some (.slice f.A f.sv.length f.c) ∧ ww.ownsRow 0 3 1 (.slice f.A f.sv.length f.c) f.sv.length (ints .i64 f.sv)) := hid fun ww hw =>
    ⟨(h.next hw).c1, cellB (hC n f hf 6 _ rfl).1 hw, row_next (h.rS n f hf) hw⟩
  have H2 : Hid (∀ w0 ww, Cl w w0 → (ww = w0 ∨ ∃ u, AppR 3 1 (.slice f.A f.sv.length f.c) f.sv.length (ints .i64 f.sv) [.int .i64 o] w0 u ww) → ww.cell? ⟨p, 1, none⟩ = some (.slice (some ⟨g, 0, none⟩) F.length cf)) := hid fun w0 ww hw hR => by
    rcases hR with rfl | ⟨u, A', c', _, _, _, _, hg, _⟩
    · exact (h.next hw).c1
    · have h0 := h.next hw
      have hb := h0.blk.grown hg (blk_ne h0.blk (h0.rS n f hf) (by decide))
      exact hb.cell (i := 1) rfl
  have H3 : Hid (∀ w0 A' c' w1, Cl w w0 → w1.ownsRow 0 3 1 (.slice A' (f.sv.length + 1) c') (f.sv.length + 1) (ints .i64 f.sv ++ [.int .i64 o]) → w0.grownBy w1 (Value.slice f.A f.sv.length f.c).ownBlock → ((Value.slice A' (f.sv.length + 1) c').ownBlock = (Value.slice f.A f.sv.length f.c).ownBlock ∨ (Value.slice A' (f.sv.length + 1) c').ownBlock = some w0.heap.size) →
      w1.cell? ⟨g, n * 7 + 6, none⟩ = some (.slice f.A f.sv.length f.c) ∧ w1.frozen? ⟨g, n * 7 + 6, none⟩ = false ∧
      KS (w1.setCell ⟨g, n * 7 + 6, none⟩ (.slice A' (f.sv.length + 1) c')) p (some ⟨g, 0, none⟩) cf (F.set n { f with A := A', c := c', sv := f.sv ++ [o] }) ∧ Chg (kfoot p (some ⟨g, 0, none⟩) F) w (w1.setCell ⟨g, n * 7 + 6, none⟩ (.slice A' (f.sv.length + 1) c')) ∧ (∀ b, kfoot p (some ⟨g, 0, none⟩) (F.set n { f with A := A', c := c', sv := f.sv ++ [o] }) b → kfoot p (some ⟨g, 0, none⟩) F b ∨ w.heap.size ≤ b)) := hid fun w0 A' c' w1 hw hr hg ho => by
    have h0 := h.next hw
    obtain ⟨s1, s2, s3⟩ := h0.serve hf hr hg ho
    have hne : some g ≠ (Value.slice f.A f.sv.length f.c).ownBlock := fun e => by
      rcases row_ne h0.rF (h0.rS n f hf) (by decide) with h6 | h6
      · simp [Value.ownBlock] at h6
      · exact h6 e
    have hb := hg.block g (Nat.lt_of_lt_of_le hgl hw.size) hne
    have hc := (hC.next hw hgl) n f hf 6 _ rfl
    exact ⟨(World.cell?_of_block (a := ⟨g, n * 7 + 6, none⟩) hb).trans hc.1, (World.frozen?_of_block (a := ⟨g, n * 7 + 6, none⟩) hb).trans hc.2, s1, (Chg.of hw _).trans s2 (fun _ _ e => e), fun b hb => (s3 b hb).imp id (fun e => Nat.le_trans hw.size e)⟩
  have hs10 : f.sv.length ≤ 1000 := by omega
  clear hC hgl hcap hcm hgp hn
  go_enter Try.func42, Try.ntmps42
  skip
  refine region_evtR 16 15 24 [false, false, false, false, false, true, true, true, true, true, true, true, true, true, true, false] [Is (Value.pointer (some ⟨p, 0, none⟩)), Is (Value.pointer (some ⟨p, 0, none⟩)), Is (Value.pointer (some ⟨p, 1, none⟩)), Is (Value.slice (some ⟨g, 0, none⟩) F.length cf), Is (Value.int .i64 (n : Nat)), Is (Value.pointer (some ⟨p, 0, none⟩)), Is (Value.pointer (some ⟨p, 0, none⟩)), Is (Value.pointer (some ⟨p, 1, none⟩)), Is (Value.slice (some ⟨g, 0, none⟩) F.length cf), Is (Value.int .i64 (n : Nat)), Is (Value.pointer (some ⟨g, n * 7, none⟩)), Is (Value.pointer (some ⟨g, n * 7 + 6, none⟩)), Is (Value.slice f.A f.sv.length f.c), Is (Value.int .i64 o), IsRowV w.heap.size 1 [Value.int .i64 o], (fun _ _ => True)] [6, 7, 8, 9, 10, 11, 12, 13, 14, 15, 16, 17, 18, 19, 20, 21] (AppR 3 1 (.slice f.A f.sv.length f.c) f.sv.length (ints .i64 f.sv) [.int .i64 o]) (by kernel_rfl) (by kernel_rfl) (by kernel_rfl) (Nat.le_of_eq rfl) (grows_cons (Is.grows _) (grows_cons (Is.grows _) (grows_cons (Is.grows _) (grows_cons (Is.grows _) (grows_cons (Is.grows _) (grows_cons (Is.grows _) (grows_cons (Is.grows _) (grows_cons (Is.grows _) (grows_cons (Is.grows _) (grows_cons (Is.grows _) (grows_cons (Is.grows _) (grows_cons (Is.grows _) (grows_cons (Is.grows _) (grows_cons (Is.grows _) (grows_cons (IsRowV.grows _ _ _) (grows_cons (fun _ _ _ _ _ => trivial) grows_nil))))))))))))))))
    ⟨.inr (.inr ⟨rfl, pure_exR (Value.pointer (some ⟨p, 0, none⟩)) rfl rfl (fun a w0 ww hw hR hf hd => by
   have h0 : a.eval (.tmp 0) = Value.pointer (some ⟨p, 0, none⟩) := ((knows_out 0 (by kernel_rfl) rfl) : Knows _ _ _ _ _ _ 0 _ _) a w0 hw hf hd
   revert h0
   generalize a.eval = ev
   intro h0
   unfold execOp
   simp only [h0]
   go_simp)⟩),
     .inr (.inr ⟨rfl, pure_exR (Value.pointer (some ⟨p, 0, none⟩)) rfl rfl (fun a w0 ww hw hR hf hd => by
   have h6 : a.eval (.tmp 6) = Value.pointer (some ⟨p, 0, none⟩) := ((knows_in 0 6 (by decide) (by kernel_rfl) rfl rfl) : Knows _ _ _ _ _ _ 1 _ _) a w0 hw hf hd
   revert h6
   generalize a.eval = ev
   intro h6
   unfold execOp
   simp only [h6]
   go_simp)⟩),
     .inr (.inr ⟨rfl, pure_exR (Value.pointer (some ⟨p, 1, none⟩)) rfl rfl (fun a w0 ww hw hR hf hd => by
   have h7 : a.eval (.tmp 7) = Value.pointer (some ⟨p, 0, none⟩) := ((knows_in 1 7 (by decide) (by kernel_rfl) rfl rfl) : Knows _ _ _ _ _ _ 2 _ _) a w0 hw hf hd
   revert h7
   generalize a.eval = ev
   intro h7
   unfold execOp
   simp only [h7]
   go_simp)⟩),
     .inr (.inr ⟨rfl, pure_exR (Value.slice (some ⟨g, 0, none⟩) F.length cf) rfl rfl (fun a w0 ww hw hR hf hd => by
   have h8 : a.eval (.tmp 8) = Value.pointer (some ⟨p, 1, none⟩) := ((knows_in 2 8 (by decide) (by kernel_rfl) rfl rfl) : Knows _ _ _ _ _ _ 3 _ _) a w0 hw hf hd
   have f0 : ww.cell? ⟨p, 1, none⟩ = some (Value.slice (some ⟨g, 0, none⟩) F.length cf) := H2.out w0 ww hw hR
   revert h8
   generalize a.eval = ev
   intro h8
   unfold execOp
   simp only [h8]
   go_simp)⟩),
     .inr (.inr ⟨rfl, pure_exR (Value.int .i64 (n : Nat)) rfl rfl (fun a w0 ww hw hR hf hd => by
   have h1 : a.eval (.tmp 1) = Value.int .i64 (n : Nat) := ((knows_out 1 (by kernel_rfl) rfl) : Knows _ _ _ _ _ _ 4 _ _) a w0 hw hf hd
   revert h1
   generalize a.eval = ev
   intro h1
   unfold execOp
   simp only [h1]
   go_simp)⟩),
     .inr (.inl ⟨rfl, step_ex _ rfl (.inl rfl) rfl (fun a ww hw hf hd => by
   have h0 : a.eval (.tmp 0) = Value.pointer (some ⟨p, 0, none⟩) := ((knows_out 0 (by kernel_rfl) rfl) : Knows _ _ _ _ _ _ 5 _ _) a ww hw hf hd
   revert h0
   generalize a.eval = ev
   intro h0
   unfold execOp
   simp only [h0]
   go_simp)⟩),
     .inr (.inl ⟨rfl, step_ex _ rfl (.inl rfl) rfl (fun a ww hw hf hd => by
   have h11 : a.eval (.tmp 11) = Value.pointer (some ⟨p, 0, none⟩) := ((knows_in 5 11 (by decide) (by kernel_rfl) rfl rfl) : Knows _ _ _ _ _ _ 6 _ _) a ww hw hf hd
   revert h11
   generalize a.eval = ev
   intro h11
   unfold execOp
   simp only [h11]
   go_simp)⟩),
     .inr (.inl ⟨rfl, step_ex _ rfl (.inl rfl) rfl (fun a ww hw hf hd => by
   have h12 : a.eval (.tmp 12) = Value.pointer (some ⟨p, 0, none⟩) := ((knows_in 6 12 (by decide) (by kernel_rfl) rfl rfl) : Knows _ _ _ _ _ _ 7 _ _) a ww hw hf hd
   revert h12
   generalize a.eval = ev
   intro h12
   unfold execOp
   simp only [h12]
   go_simp)⟩),
     .inr (.inl ⟨rfl, step_ex _ rfl (.inl rfl) rfl (fun a ww hw hf hd => by
   have h13 : a.eval (.tmp 13) = Value.pointer (some ⟨p, 1, none⟩) := ((knows_in 7 13 (by decide) (by kernel_rfl) rfl rfl) : Knows _ _ _ _ _ _ 8 _ _) a ww hw hf hd
   have f0 : ww.cell? ⟨p, 1, none⟩ = some (Value.slice (some ⟨g, 0, none⟩) F.length cf) := (H1.out ww hw).1
   revert h13
   generalize a.eval = ev
   intro h13
   unfold execOp
   simp only [h13]
   go_simp)⟩),
     .inr (.inl ⟨rfl, step_ex _ rfl (.inl rfl) rfl (fun a ww hw hf hd => by
   have h1 : a.eval (.tmp 1) = Value.int .i64 (n : Nat) := ((knows_out 1 (by kernel_rfl) rfl) : Knows _ _ _ _ _ _ 9 _ _) a ww hw hf hd
   revert h1
   generalize a.eval = ev
   intro h1
   unfold execOp
   simp only [h1]
   go_simp)⟩),
     .inr (.inl ⟨rfl, step_ex _ rfl (.inl rfl) rfl (fun a ww hw hf hd => by
   have h14 : a.eval (.tmp 14) = Value.slice (some ⟨g, 0, none⟩) F.length cf := ((knows_in 8 14 (by decide) (by kernel_rfl) rfl rfl) : Knows _ _ _ _ _ _ 10 _ _) a ww hw hf hd
   have h15 : a.eval (.tmp 15) = Value.int .i64 (n : Nat) := ((knows_in 9 15 (by decide) (by kernel_rfl) rfl rfl) : Knows _ _ _ _ _ _ 10 _ _) a ww hw hf hd
   have f0 := n0
   have f1 := n1
   revert h14 h15
   generalize a.eval = ev
   intro h14 h15
   unfold execOp
   simp only [h14, h15]
   go_simp)⟩),
     .inr (.inl ⟨rfl, step_ex _ rfl (.inl rfl) rfl (fun a ww hw hf hd => by
   have h16 : a.eval (.tmp 16) = Value.pointer (some ⟨g, n * 7, none⟩) := ((knows_in 10 16 (by decide) (by kernel_rfl) rfl rfl) : Knows _ _ _ _ _ _ 11 _ _) a ww hw hf hd
   revert h16
   generalize a.eval = ev
   intro h16
   unfold execOp
   simp only [h16]
   go_simp)⟩),
     .inr (.inl ⟨rfl, step_ex _ rfl (.inl rfl) rfl (fun a ww hw hf hd => by
   have h17 : a.eval (.tmp 17) = Value.pointer (some ⟨g, n * 7 + 6, none⟩) := ((knows_in 11 17 (by decide) (by kernel_rfl) rfl rfl) : Knows _ _ _ _ _ _ 12 _ _) a ww hw hf hd
   have f0 : ww.cell? ⟨g, n * 7 + 6, none⟩ = some (Value.slice f.A f.sv.length f.c) := (H1.out ww hw).2.1
   revert h17
   generalize a.eval = ev
   intro h17
   unfold execOp
   simp only [h17]
   go_simp)⟩),
     .inr (.inl ⟨rfl, step_ex _ rfl (.inl rfl) rfl (fun a ww hw hf hd => by
   have h2 : a.eval (.tmp 2) = Value.int .i64 o := ((knows_out 2 (by kernel_rfl) rfl) : Knows _ _ _ _ _ _ 13 _ _) a ww hw hf hd
   revert h2
   generalize a.eval = ev
   intro h2
   unfold execOp
   simp only [h2]
   go_simp)⟩),
     .inr (.inl ⟨rfl, step_bsl (.inl rfl) rfl Try.underlying23 infI (by decide) (by decide) (vs := [Value.int .i64 o]) (by first | kernel_rfl | rfl) rfl (parts1 (knows_in 13 19 (by decide) (by kernel_rfl) rfl rfl))⟩),
     .inl rfl, trivial⟩ _ rfl rfl ?_ ?_
  · intro a ww hw hf hd
    have h18 : a.eval (.tmp 18) = Value.slice f.A f.sv.length f.c := hd 12 18 (by decide) (by kernel_rfl) rfl
    obtain ⟨b, hb1, hb0, hb2⟩ := hd 14 20 (by decide) (by kernel_rfl) rfl
    exact evt_app rfl rfl Try.underlying23 infIb rfl (by decide) (by decide) (H1.out ww hw).2.2 h18 ⟨b, hb1, hb2⟩ rfl (by simp [Value.oneCell']) hs10
  intro val W2 W3 hw hS hR
  have e6 : val 6 = Value.pointer (some ⟨p, 0, none⟩) := hS 0 6 (by decide) (by decide) rfl
  have e7 : val 7 = Value.pointer (some ⟨p, 0, none⟩) := hS 1 7 (by decide) (by decide) rfl
  have e8 : val 8 = Value.pointer (some ⟨p, 1, none⟩) := hS 2 8 (by decide) (by decide) rfl
  have e9 : val 9 = Value.slice (some ⟨g, 0, none⟩) F.length cf := hS 3 9 (by decide) (by decide) rfl
  have e10 : val 10 = Value.int .i64 (n : Nat) := hS 4 10 (by decide) (by decide) rfl
  have e11 : val 11 = Value.pointer (some ⟨p, 0, none⟩) := hS 5 11 (by decide) (by decide) rfl
  have e12 : val 12 = Value.pointer (some ⟨p, 0, none⟩) := hS 6 12 (by decide) (by decide) rfl
  have e13 : val 13 = Value.pointer (some ⟨p, 1, none⟩) := hS 7 13 (by decide) (by decide) rfl
  have e14 : val 14 = Value.slice (some ⟨g, 0, none⟩) F.length cf := hS 8 14 (by decide) (by decide) rfl
  have e15 : val 15 = Value.int .i64 (n : Nat) := hS 9 15 (by decide) (by decide) rfl
  have e16 : val 16 = Value.pointer (some ⟨g, n * 7, none⟩) := hS 10 16 (by decide) (by decide) rfl
  have e17 : val 17 = Value.pointer (some ⟨g, n * 7 + 6, none⟩) := hS 11 17 (by decide) (by decide) rfl
  have e18 : val 18 = Value.slice f.A f.sv.length f.c := hS 12 18 (by decide) (by decide) rfl
  have e19 : val 19 = Value.int .i64 o := hS 13 19 (by decide) (by decide) rfl
  have hR := hR 21 rfl
  obtain ⟨A21, c21, e21, hl21, hm21, hr21, hg21, ho21⟩ := hR
  rw [e21] at hr21 ho21
  simp only [putVals, List.foldl_cons, List.foldl_nil, List.drop_succ_cons, List.drop_zero, Act.put, List.setIfInBounds_toArray, List.set_cons_succ, List.set_cons_zero, e6, e7, e8, e9, e10, e11, e12, e13, e14, e15, e16, e17, e18, e19, e21]
  generalize val 20 = g20
  clear e6 e7 e8 e9 e10 e11 e12 e13 e14 e15 e16 e17 e18 e19 e21 hS
  obtain ⟨y6, f6, k1, k2, k3⟩ := H3.out W2 A21 c21 W3 hw hr21 hg21 ho21
  have HK := hid (And.intro k1 (And.intro k2 k3))
  clear hr21 hg21 ho21 hw k1 k2 k3 H1 H2 H3 h hf
  go_wp2
  first | (refine bodyPost_end (results_none rfl _ _ _) rfl ?_) | (refine bodyPost_ret (results_none rfl _ _ _) rfl ?_)
  exact ⟨⟨_, rfl⟩, A21, c21, HK.out⟩
end Go.Proofs.Ytboofkmbjmnpeaa
