/- The next term is taken up. -/
import Derived.Test.YtboofkmbjmnpeaaDServeM
namespace Go.Proofs.Ytboofkmbjmnpeaa
open Go Go.RowKit Go.Maps

theorem infF : (Try.prog.info? 82).map (fun i => (i.zero, i.size)) = some (some (.agg #[.int .i64 0, .int .i64 0, .int .i64 0, .int .i64 0, .bool false, .bool false, .slice none 0 0]), 7) := by kernel_rfl
theorem infFb : (Try.prog.info? 82).map (fun i => (i.zero, i.size, i.bytes)) = some (some (.agg #[.int .i64 0, .int .i64 0, .int .i64 0, .int .i64 0, .bool false, .bool false, .slice none 0 0]), 7, 64) := by kernel_rfl
theorem built82 (t : T3) (d : Int) (r : Bool) : Try.prog.built 82 [(0, .agg (tc t).toArray), (1, .int .i64 d), (3, .bool r)] = some #[.int .i64 t.1, .int .i64 t.2.1, .int .i64 t.2.2, .int .i64 d, .bool false, .bool r, .slice none 0 0] := by
  obtain ⟨a, b, c⟩ := t
  kernel_rfl
theorem cxT41 : ∀ vs w, (callFunc 41 vs).run Try.prog w = .ok (.enter 41 vs) w := enters_of Try.func41 (by kernel_rfl) rfl
section
variable {P : Program} {ops : Array Oper} {md : Region.Mode} {W : World} {a0 : Act} {n : Nat} {S : Nat → Value → World → Prop} {i : Nat}
theorem parts3q {p q u : Nat} {x y z : Operand} {v v' v'' : Value} (h : Knows ops md W a0 n S i x v) (h' : Knows ops md W a0 n S i y v') (h'' : Knows ops md W a0 n S i z v'') : ∀ (a : Act) (w : World), Cl W w → Fr ops n a0 a → Dp ops md n S i a w → ((#[(p, x), (q, y), (u, z)] : Array (Nat × Operand)).map fun (i, x) => (i, a.eval x)).toList = [(p, v), (q, v'), (u, v'')] := fun a w hw hf hd => by
  simp [h a w hw hf hd, h' a w hw hf hd, h'' a w hw hf hd]
end
/-- The fact of a term that nothing is known of. -/
def newFa (t : T3) (key : Int) (r : Bool) : Fa := ⟨t, key, false, r, none, 0, []⟩
section
variable {w w1 : World} {p cf n : Nat} {Af : Option Addr} {F : List Fa} {f : Fa} {A' : Option Addr} {c' : Nat}
theorem KS.add (h : KS w p Af cf F) (hsv : f.sv = []) (hA : f.A = none) (hc : f.c = 0) (hr : w1.ownsRow 0 82 7 (.slice A' (F.length + 1) c') (F.length + 1) (flatF F ++ f.cells)) (hg : w.grownBy w1 (Value.slice Af F.length cf).ownBlock) (ho : (Value.slice A' (F.length + 1) c').ownBlock = (Value.slice Af F.length cf).ownBlock ∨ (Value.slice A' (F.length + 1) c').ownBlock = some w.heap.size) :
    Blk w1 p 59 [.bool true, .slice Af F.length cf] ∧
    KS (w1.setCell ⟨p, 1, none⟩ (.slice A' (F.length + 1) c')) p A' c' (F ++ [f]) ∧
      Chg (kfoot p Af F) w (w1.setCell ⟨p, 1, none⟩ (.slice A' (F.length + 1) c')) ∧
      (∀ b, kfoot p A' (F ++ [f]) b → kfoot p Af F b ∨ w.heap.size ≤ b) := by
  have hl : (F ++ [f]).length = F.length + 1 := by simp
  have hblk := h.blk.grown hg (blk_ne h.blk h.rF (by decide))
  have hvs : f.vs = .slice none 0 0 := by simp [Fa.vs, hsv, hA, hc]
  have at_ : ∀ (q : Nat) x, (F ++ [f])[q]? = some x → F[q]? = some x ∨ x = f := fun q x hq => (get_app hq).imp id (·.2)
  refine ⟨hblk, ⟨?_, ?_, fun q x hx => ?_, fun q r x y b hx hy e1 e2 => ?_⟩, ⟨hg.os, hg.tape, hg.output, by simp [World.setCell]; exact hg.size, fun k hk hnk => ?_⟩, fun b hb => ?_⟩
  · rw [hl]; exact hblk.set 1 _
  · rw [hl, flatF_app, flatF_one]; exact row_setC hr hblk (by decide) 1 _
  · rcases at_ q x hx with h1 | h1
    · exact row_setC ((h.rS q x h1).kept hg (row_ne (h.rS q x h1) h.rF (by decide))) hblk (by decide) 1 _
    · subst h1
      rw [hvs, hsv]; exact World.ownsRow_nil _ _ _ _
  · rcases at_ q x hx with h1 | h1
    · rcases at_ r y hy with h2 | h2
      · exact h.dis q r x y b h1 h2 e1 e2
      · subst h2; rw [hvs] at e2; simp [Value.ownBlock] at e2
    · subst h1; rw [hvs] at e1; simp [Value.ownBlock] at e1
  · rw [Below.heap_setCell _ _ _ _ (show k ≠ p from fun e => hnk (.inl e))]
    exact hg.block k hk (fun e => hnk (.inr (.inl ((own00 _ _ _).symm.trans e.symm))))
  · rcases hb with h1 | h1 | ⟨q, x, hx, h1⟩
    · exact .inl (.inl h1)
    · rcases ho with h2 | h2
      · exact .inl (.inr (.inl ((own00 _ _ _).symm.trans (h2.symm.trans ((own00 _ _ _).trans h1)))))
      · have h3 := (own00 A' (F.length + 1) c').trans h1
        rw [h2] at h3; injection h3 with h3; exact .inr (by omega)
    · rcases at_ q x hx with h2 | h2
      · exact .inl (.inr (.inr ⟨q, x, h2, h1⟩))
      · subst h2; rw [hvs] at h1; simp [Value.ownBlock] at h1
end
/-- The term o is noted for each of these. -/
def SvTo : List Fa → List Fa → List Int → Int → Prop
  | F, F', [], _ => F' = F
  | F, F', j :: js, o => ∃ f A c, F[j.toNat]? = some f ∧ SvTo (F.set j.toNat { f with A := A, c := c, sv := f.sv ++ [o] }) F' js o
/-- The terms that a term is noted for. -/
def jsOf (t : T3) (key : Int) : List Int := if t.1 = 4 then [key, t.2.2, t.2.1] else if t.1 = 5 ∨ t.1 = 8 then [t.2.2, t.2.1] else if isOne t.1 = true then [t.2.1] else []
/-- What holds while it is taken up. -/
structure ST (p : Nat) (Af : Option Addr) (F : List Fa) (W : World) (k : Nat) (F' : List Fa) (wx : World) : Prop where
  ks : ∃ A' c', KS wx p A' c' F' ∧ (∀ b, kfoot p A' F' b → kfoot p Af F b ∨ W.heap.size ≤ b)
  chg : Chg (kfoot p Af F) W wx
  bd : ∀ (i : Nat) f, F'[i]? = some f → f.sv.length ≤ k
theorem ST.serve {p : Nat} {Af : Option Addr} {F F' : List Fa} {W wx : World} {k : Nat} (h : ST p Af F W k F' wx) (n : Nat) (f : Fa) (o : Int) (hf : F'[n]? = some f) (hk : k ≤ 900) :
    Calls Try.prog 42 #[.pointer (some ⟨p, 0, none⟩), .int .i64 n, .int .i64 o] wx fun e w' => (∃ v, e = .returned v) ∧ ∃ A' c', ST p Af F W (k + 1) (F'.set n { f with A := A', c := c', sv := f.sv ++ [o] }) w' := by
  obtain ⟨A, c, hK, hb⟩ := h.ks
  refine (serve_any p A c F' n f o wx hK hf (Nat.le_trans (h.bd n f hf) hk)).mono ?_
  rintro e w2 ⟨hv, A', c', hK2, hC2, hb2⟩
  refine ⟨hv, A', c', ⟨A, c, hK2, fun b hq => ?_⟩, h.chg.trans hC2 (fun b hl hq => ?_), fun i g hi => ?_⟩
  · rcases hb2 b hq with h1 | h1
    · exact hb b h1
    · exact .inr (Nat.le_trans h.chg.size h1)
  · rcases hb b hq with h1 | h1
    · exact h1
    · omega
  · by_cases e : i = n
    · subst e
      rw [List.getElem?_set_self (get_lt hf)] at hi
      injection hi with hi; subst hi
      have := h.bd i f hf
      simp; omega
    · rw [List.getElem?_set_ne (Ne.symm e)] at hi
      have := h.bd i g hi
      omega
/-- What taking up leaves. -/
def AddQ (p : Nat) (Af : Option Addr) (F : List Fa) (t : T3) (key : Int) (r : Bool) (w w' : World) : Prop := ∃ F', SvTo (F ++ [newFa t key r]) F' (jsOf t key) F.length ∧ ∃ A' c', KS w' p A' c' F' ∧ Chg (kfoot p Af F) w w' ∧ (∀ b, kfoot p A' F' b → kfoot p Af F b ∨ w.heap.size ≤ b)
theorem ST.done {p : Nat} {Af : Option Addr} {F F' : List Fa} {w W wx : World} {k : Nat} {t : T3} {key : Int} {r : Bool} (h : ST p Af F W k F' wx) (hb : Below w.heap.size w W) (hs : SvTo (F ++ [newFa t key r]) F' (jsOf t key) F.length) : AddQ p Af F t key r w wx := by
  obtain ⟨A, c, hK, hq⟩ := h.ks
  exact ⟨F', hs, A, c, hK, (Chg.of hb _).trans h.chg (fun _ _ e => e), fun b hb2 => (hq b hb2).imp id (fun e => Nat.le_trans hb.size e)⟩
set_option maxRecDepth 50000 in
set_option maxHeartbeats 4000000 in
theorem kadd_any (p : Nat) (Af : Option Addr) (cf : Nat) (F : List Fa) (t : T3) (key : Int) (r : Bool) (w : World) (h : KS w p Af cf F) (ht : Fits F.length t) (hF : F.length ≤ 100) (hr : mkB t (cF F) = r) (hbd : ∀ (i : Nat) f, F[i]? = some f → f.sv.length ≤ 800) (hkey : t.1 = 4 → 0 ≤ key ∧ key < F.length) :
    Calls Try.prog 26 #[.pointer (some ⟨p, 0, none⟩), tv t, .int .i64 key] w fun e w' => (∃ v, e = .returned v) ∧ AddQ p Af F t key r w w' := by
  obtain ⟨W, hW, d0, d1, d2, hB, hB3⟩ := term_world t w
  have h1 := h.next hB
  have c1 := h1.c1
  have H1 : Hid (∀ ww, Cl W ww → ww.cell? ⟨p, 1, none⟩ = some (.slice Af F.length cf) ∧ ww.ownsRow 0 82 7 (.slice Af F.length cf) F.length (flatF F) ∧ Calls Try.prog 41 #[.pointer (some ⟨p, 0, none⟩), .agg (tc t).toArray] ww fun e w' => e = .returned (.bool r) ∧ Below ww.heap.size ww w') := hid fun ww hw =>
    ⟨(h1.next hw).c1, row_next h1.rF hw, makes_any p cf Af F t r ww (h1.next hw) ht hr⟩
  have hltp : p < w.heap.size := h.blk.lt
  have hfl := h.lt
  -- behind the append
  have H2 : Hid (∀ W2 A' c' W3, Cl W W2 → W3.ownsRow 0 82 7 (.slice A' (F.length + 1) c') (F.length + 1) (flatF F ++ [.int .i64 t.1, .int .i64 t.2.1, .int .i64 t.2.2, .int .i64 key, .bool false, .bool r, .slice none 0 0]) → W2.grownBy W3 (Value.slice Af F.length cf).ownBlock → ((Value.slice A' (F.length + 1) c').ownBlock = (Value.slice Af F.length cf).ownBlock ∨ (Value.slice A' (F.length + 1) c').ownBlock = some W2.heap.size) →
      W3.cell? ⟨p, 1, none⟩ = some (.slice Af F.length cf) ∧ W3.frozen? ⟨p, 1, none⟩ = false ∧ ∀ W4, W3.setCell ⟨p, 1, none⟩ (.slice A' (F.length + 1) c') = W4 → ST p Af F W 800 (F ++ [newFa t key r]) W4) := hid fun W2 A' c' W3 hw hr hg ho => by
    obtain ⟨s1, s2, s3, s4⟩ := (h1.next hw).add (f := newFa t key r) rfl rfl rfl hr hg ho
    refine ⟨s1.cell (i := 1) rfl, s1.free 1, fun W4 hW4 => ?_⟩
    rw [hW4] at s2 s3
    refine ⟨⟨A', c', s2, fun b hb => (s4 b hb).imp id (fun e => Nat.le_trans hw.size e)⟩, (Chg.of hw _).trans s3 (fun _ _ e => e), fun i f hi => ?_⟩
    rcases get_app hi with h5 | ⟨_, h5⟩
    · exact hbd i f h5
    · subst h5; exact Nat.zero_le _
  have HBX : Hid (∀ k F' wx, ST p Af F W k F' wx → wx.cell? ⟨w.heap.size, 0, none⟩ = some (.int .i64 t.1) ∧ wx.cell? ⟨w.heap.size, 1, none⟩ = some (.int .i64 t.2.1) ∧ wx.cell? ⟨w.heap.size, 2, none⟩ = some (.int .i64 t.2.2)) := hid fun k F' wx hS => by
    have hb := hB3.chg hS.chg (fun e => by have := hfl _ e; omega)
    exact ⟨hb.cell (i := 0) rfl, hb.cell (i := 1) rfl, hb.cell (i := 2) rfl⟩
  have HE : Hid (∀ k F' wx, ST p Af F W k F' wx → SvTo (F ++ [newFa t key r]) F' (jsOf t key) F.length → AddQ p Af F t key r w wx) := hid fun k F' wx hS hv => hS.done hB hv
  have HW := hid hW
  have hF10 : F.length ≤ 1000 := by omega
  clear hW
  unfold tv
  go_enter Try.func26, Try.ntmps26
  go_upto_region 1 with (fail)
  rw [HW.out]
  clear HW
  go_upto_region 2 with (fail)
  clear c1
  refine region_evtR 13 12 54 [false, true, true, true, true, true, true, true, true, true, true, true, false] [Is (Value.pointer (some ⟨p, 0, none⟩)), Is (Value.pointer (some ⟨p, 0, none⟩)), Is (Value.pointer (some ⟨p, 0, none⟩)), Is (Value.pointer (some ⟨p, 1, none⟩)), Is (Value.slice Af F.length cf), Is (Value.agg (tc t).toArray), Is (Value.int .i64 key), Is (Value.pointer (some ⟨p, 0, none⟩)), Is (Value.agg (tc t).toArray), Is (Value.bool r), Is (Value.agg [Value.int .i64 t.1, Value.int .i64 t.2.1, Value.int .i64 t.2.2, Value.int .i64 key, Value.bool false, Value.bool r, Value.slice none 0 0].toArray), IsRowV W.heap.size 1 [Value.int .i64 t.1, Value.int .i64 t.2.1, Value.int .i64 t.2.2, Value.int .i64 key, Value.bool false, Value.bool r, Value.slice none 0 0], (fun _ _ => True)] [12, 13, 14, 15, 16, 17, 18, 19, 20, 21, 22, 23, 24] (AppR 82 7 (.slice Af F.length cf) F.length (flatF F) [Value.int .i64 t.1, Value.int .i64 t.2.1, Value.int .i64 t.2.2, Value.int .i64 key, Value.bool false, Value.bool r, Value.slice none 0 0]) (by kernel_rfl) (by kernel_rfl) (by kernel_rfl) (Nat.le_of_eq rfl) (grows_cons (Is.grows _) (grows_cons (Is.grows _) (grows_cons (Is.grows _) (grows_cons (Is.grows _) (grows_cons (Is.grows _) (grows_cons (Is.grows _) (grows_cons (Is.grows _) (grows_cons (Is.grows _) (grows_cons (Is.grows _) (grows_cons (Is.grows _) (grows_cons (Is.grows _) (grows_cons (IsRowV.grows _ _ _) (grows_cons (fun _ _ _ _ _ => trivial) grows_nil)))))))))))))
    ⟨.inr (.inr ⟨rfl, pure_exR (Value.pointer (some ⟨p, 0, none⟩)) rfl rfl (fun a w0 ww hw hR hf hd => by
   have h0 : a.eval (.tmp 0) = Value.pointer (some ⟨p, 0, none⟩) := ((knows_out 0 (by kernel_rfl) rfl) : Knows _ _ _ _ _ _ 0 _ _) a w0 hw hf hd
   revert h0
   generalize a.eval = ev
   intro h0
   unfold execOp
   simp only [h0]
   go_simp)⟩),
     .inr (.inl ⟨rfl, step_ex _ rfl (.inl rfl) rfl (fun a ww hw hf hd => by
   have h0 : a.eval (.tmp 0) = Value.pointer (some ⟨p, 0, none⟩) := ((knows_out 0 (by kernel_rfl) rfl) : Knows _ _ _ _ _ _ 1 _ _) a ww hw hf hd
   revert h0
   generalize a.eval = ev
   intro h0
   unfold execOp
   simp only [h0]
   go_simp)⟩),
     .inr (.inl ⟨rfl, step_ex _ rfl (.inl rfl) rfl (fun a ww hw hf hd => by
   have h13 : a.eval (.tmp 13) = Value.pointer (some ⟨p, 0, none⟩) := ((knows_in 1 13 (by decide) (by kernel_rfl) rfl rfl) : Knows _ _ _ _ _ _ 2 _ _) a ww hw hf hd
   revert h13
   generalize a.eval = ev
   intro h13
   unfold execOp
   simp only [h13]
   go_simp)⟩),
     .inr (.inl ⟨rfl, step_ex _ rfl (.inl rfl) rfl (fun a ww hw hf hd => by
   have h14 : a.eval (.tmp 14) = Value.pointer (some ⟨p, 0, none⟩) := ((knows_in 2 14 (by decide) (by kernel_rfl) rfl rfl) : Knows _ _ _ _ _ _ 3 _ _) a ww hw hf hd
   revert h14
   generalize a.eval = ev
   intro h14
   unfold execOp
   simp only [h14]
   go_simp)⟩),
     .inr (.inl ⟨rfl, step_ex _ rfl (.inl rfl) rfl (fun a ww hw hf hd => by
   have h15 : a.eval (.tmp 15) = Value.pointer (some ⟨p, 1, none⟩) := ((knows_in 3 15 (by decide) (by kernel_rfl) rfl rfl) : Knows _ _ _ _ _ _ 4 _ _) a ww hw hf hd
   have f0 : ww.cell? ⟨p, 1, none⟩ = some (Value.slice Af F.length cf) := (H1.out ww hw).1
   revert h15
   generalize a.eval = ev
   intro h15
   unfold execOp
   simp only [h15]
   go_simp)⟩),
     .inr (.inl ⟨rfl, step_ldV rfl (.inl rfl) (fun _ hw => (hB3.next hw).rw.range) rfl Try.underlying50 rfl (szV infT (tc_len _)) rfl (knows_out 4 (by kernel_rfl) rfl)⟩),
     .inr (.inl ⟨rfl, step_ex _ rfl (.inl rfl) rfl (fun a ww hw hf hd => by
   have h2 : a.eval (.tmp 2) = Value.int .i64 key := ((knows_out 2 (by kernel_rfl) rfl) : Knows _ _ _ _ _ _ 6 _ _) a ww hw hf hd
   revert h2
   generalize a.eval = ev
   intro h2
   unfold execOp
   simp only [h2]
   go_simp)⟩),
     .inr (.inl ⟨rfl, step_ex _ rfl (.inl rfl) rfl (fun a ww hw hf hd => by
   have h0 : a.eval (.tmp 0) = Value.pointer (some ⟨p, 0, none⟩) := ((knows_out 0 (by kernel_rfl) rfl) : Knows _ _ _ _ _ _ 7 _ _) a ww hw hf hd
   revert h0
   generalize a.eval = ev
   intro h0
   unfold execOp
   simp only [h0]
   go_simp)⟩),
     .inr (.inl ⟨rfl, step_ldV rfl (.inl rfl) (fun _ hw => (hB3.next hw).rw.range) rfl Try.underlying50 rfl (szV infT (tc_len _)) rfl (knows_out 4 (by kernel_rfl) rfl)⟩),
     .inr (.inl ⟨rfl, step_cw rfl (.inl rfl) rfl cxT41 rfl (fun aa ww hw hf hd => ⟨_, (two_args (knows_in 7 19 (by decide) (by kernel_rfl) rfl rfl) (knows_in 8 20 (by decide) (by kernel_rfl) rfl rfl)) aa ww hw hf hd, (H1.out ww hw).2.2⟩)⟩),
     .inr (.inl ⟨rfl, step_buildP rfl (.inl rfl) rfl (built82 t key r) rfl (parts3q (knows_in 5 17 (by decide) (by kernel_rfl) rfl rfl) (knows_in 6 18 (by decide) (by kernel_rfl) rfl rfl) (knows_in 9 21 (by decide) (by kernel_rfl) rfl rfl))⟩),
     .inr (.inl ⟨rfl, step_bsl (.inl rfl) rfl Try.underlying57 infF (by decide) (by decide) (vs := [Value.int .i64 t.1, Value.int .i64 t.2.1, Value.int .i64 t.2.2, Value.int .i64 key, Value.bool false, Value.bool r, Value.slice none 0 0]) (by first | kernel_rfl | rfl) rfl (parts1 (knows_in 10 22 (by decide) (by kernel_rfl) rfl rfl))⟩),
     .inl rfl, trivial⟩ _ rfl rfl ?_ ?_
  · intro a ww hw hf hd
    have h16 : a.eval (.tmp 16) = Value.slice Af F.length cf := hd 4 16 (by decide) (by kernel_rfl) rfl
    obtain ⟨b, hb1, hb0, hb2⟩ := hd 11 23 (by decide) (by kernel_rfl) rfl
    exact evt_app rfl rfl Try.underlying57 infFb rfl (by decide) (by decide) (H1.out ww hw).2.1 h16 ⟨b, hb1, hb2⟩ rfl (by simp [Value.oneCell']) hF10
  intro val W2 W3 hw hS hR
  have e12 : val 12 = Value.pointer (some ⟨p, 0, none⟩) := hS 0 12 (by decide) (by decide) rfl
  have e13 : val 13 = Value.pointer (some ⟨p, 0, none⟩) := hS 1 13 (by decide) (by decide) rfl
  have e14 : val 14 = Value.pointer (some ⟨p, 0, none⟩) := hS 2 14 (by decide) (by decide) rfl
  have e15 : val 15 = Value.pointer (some ⟨p, 1, none⟩) := hS 3 15 (by decide) (by decide) rfl
  have e16 : val 16 = Value.slice Af F.length cf := hS 4 16 (by decide) (by decide) rfl
  have e17 : val 17 = Value.agg (tc t).toArray := hS 5 17 (by decide) (by decide) rfl
  have e18 : val 18 = Value.int .i64 key := hS 6 18 (by decide) (by decide) rfl
  have e19 : val 19 = Value.pointer (some ⟨p, 0, none⟩) := hS 7 19 (by decide) (by decide) rfl
  have e20 : val 20 = Value.agg (tc t).toArray := hS 8 20 (by decide) (by decide) rfl
  have e21 : val 21 = Value.bool r := hS 9 21 (by decide) (by decide) rfl
  have e22 : val 22 = Value.agg [Value.int .i64 t.1, Value.int .i64 t.2.1, Value.int .i64 t.2.2, Value.int .i64 key, Value.bool false, Value.bool r, Value.slice none 0 0].toArray := hS 10 22 (by decide) (by decide) rfl
  have hR := hR 24 rfl
  obtain ⟨A24, c24, e24, hl24, hm24, hr24, hg24, ho24⟩ := hR
  rw [e24] at hr24 ho24
  simp only [putVals, List.foldl_cons, List.foldl_nil, List.drop_succ_cons, List.drop_zero, Act.put, List.setIfInBounds_toArray, List.set_cons_succ, List.set_cons_zero, e12, e13, e14, e15, e16, e17, e18, e19, e20, e21, e22, e24]
  generalize val 23 = g23
  clear e12 e13 e14 e15 e16 e17 e18 e19 e20 e21 e22 e24 hS
  obtain ⟨y1, f1, hST⟩ := H2.out W2 A24 c24 W3 hw hr24 hg24 ho24
  obtain ⟨W4, hW4⟩ : ∃ W4, W3.setCell ⟨p, 1, none⟩ (.slice A24 (F.length + 1) c24) = W4 := ⟨_, rfl⟩
  have hS4 := hST W4 hW4
  have HW4 := hid hW4
  clear hr24 hg24 ho24 hw H1 H2 hST hW4 hbd h h1 hB hB3 d0 d1 d2 hr hfl
  go_upto_region 3 with (fail)
  rw [HW4.out]
  clear HW4 y1 f1
  obtain ⟨k, a, b⟩ := t
  clear hR
  obtain ⟨d0, d1, d2⟩ := HBX.out _ _ _ hS4
  dsimp only at d0 d1 d2
  have hlF : (F ++ [newFa (k, a, b) key r]).length = F.length + 1 := by simp
  obtain ⟨F1, hF1⟩ : ∃ F1, F ++ [newFa (k, a, b) key r] = F1 := ⟨_, rfl⟩
  have HF1 := hid hF1
  rw [hF1] at hS4 HE hlF
  clear hF1
  rcases ht with h1 | h1 | ⟨h1, h2, h3⟩ | ⟨h1, h2, h3, h4, h5⟩
  · dsimp only at h1
    subst h1
    have HQ := hid (HE.out _ _ _ hS4 rfl)
    clear HE HBX hS4 hkey
    go_wp2
    first | (refine bodyPost_end (results_none rfl _ _ _) rfl ?_) | (refine bodyPost_ret (results_none rfl _ _ _) rfl ?_)
    exact ⟨⟨_, rfl⟩, HQ.out⟩
  · dsimp only at h1
    subst h1
    have HQ := hid (HE.out _ _ _ hS4 rfl)
    clear HE HBX hS4 hkey
    go_wp2
    first | (refine bodyPost_end (results_none rfl _ _ _) rfl ?_) | (refine bodyPost_ret (results_none rfl _ _ _) rfl ?_)
    exact ⟨⟨_, rfl⟩, HQ.out⟩
  · dsimp only at h1 h2 h3
    obtain ⟨n, rfl⟩ : ∃ n : Nat, a = n := ⟨a.toNat, by omega⟩
    have hnl : n < F1.length := by omega
    have hf : F1[n]? = some F1[n] := by simp [hnl]
    have hj : jsOf (k, (n : Int), b) key = [(n : Int)] := by
      simp only [isOne, Bool.or_eq_true, beq_iff_eq] at h1
      rcases h1 with (((rfl | rfl) | rfl) | rfl) | rfl <;> rfl
    have HQ : Hid (∀ A' c' wx, ST p Af F W 801 (F1.set n { F1[n] with A := A', c := c', sv := F1[n].sv ++ [(F.length : Int)] }) wx → AddQ p Af F (k, (n : Int), b) key r w wx) := hid fun A' c' wx hS => HE.out _ _ _ hS (by rw [hj]; exact ⟨F1[n], A', c', hf, rfl⟩)
    have HS := hid (hS4.serve n F1[n] F.length hf (by decide))
    clear HE HBX hS4 hkey hf hj hlF h2 h3
    simp only [isOne, Bool.or_eq_true, beq_iff_eq] at h1
    rcases h1 with (((rfl | rfl) | rfl) | rfl) | rfl
    all_goals
      go_wp2_with (go_at_call 42; refine HS.out.mono ?_; rintro e w5 ⟨⟨v, rfl⟩, A', c', hS5⟩)
      first | (refine bodyPost_end (results_none rfl _ _ _) rfl ?_) | (refine bodyPost_ret (results_none rfl _ _ _) rfl ?_)
      exact ⟨⟨_, rfl⟩, HQ.out _ _ _ hS5⟩
  · dsimp only at h1 h2 h3 h4 h5
    obtain ⟨n, rfl⟩ : ∃ n : Nat, a = n := ⟨a.toNat, by omega⟩
    obtain ⟨m, rfl⟩ : ∃ n : Nat, b = n := ⟨b.toNat, by omega⟩
    have hnl : n < F1.length := by omega
    have hml : m < F1.length := by omega
    -- the last two
    have H45 : Hid (∀ k' F2 wx, k' ≤ 801 → F2.length = F1.length → ST p Af F W k' F2 wx → ∃ f, F2[m]? = some f ∧
        (wx.cell? ⟨w.heap.size, 1, none⟩ = some (.int .i64 (n : Int)) ∧ wx.cell? ⟨w.heap.size, 2, none⟩ = some (.int .i64 (m : Int))) ∧
        Calls Try.prog 42 #[.pointer (some ⟨p, 0, none⟩), .int .i64 m, .int .i64 F.length] wx fun e w5 => (∃ v, e = .returned v) ∧ ∃ A5 c5 f2,
          w5.cell? ⟨w.heap.size, 1, none⟩ = some (.int .i64 (n : Int)) ∧
          (F2.set m { f with A := A5, c := c5, sv := f.sv ++ [(F.length : Int)] })[n]? = some f2 ∧
          Calls Try.prog 42 #[.pointer (some ⟨p, 0, none⟩), .int .i64 n, .int .i64 F.length] w5 fun e w6 => (∃ v, e = .returned v) ∧ ∃ A6 c6, ST p Af F W (k' + 1 + 1) ((F2.set m { f with A := A5, c := c5, sv := f.sv ++ [(F.length : Int)] }).set n { f2 with A := A6, c := c6, sv := f2.sv ++ [(F.length : Int)] }) w6) := hid fun k' F2 wx hk' hl2 hS => by
      have hm2 : m < F2.length := by omega
      obtain ⟨e0, e1, e2⟩ := HBX.out _ _ _ hS
      refine ⟨F2[m], by simp [hm2], ⟨e1, e2⟩, (hS.serve m F2[m] F.length (by simp [hm2]) (by omega)).mono ?_⟩
      rintro e w5 ⟨hv, A5, c5, hS5⟩
      obtain ⟨_, e3, _⟩ := HBX.out _ _ _ hS5
      have hn2 : n < (F2.set m { F2[m] with A := A5, c := c5, sv := F2[m].sv ++ [(F.length : Int)] }).length := by rw [List.length_set]; omega
      obtain ⟨f2, hf2⟩ : ∃ f2, (F2.set m { F2[m] with A := A5, c := c5, sv := F2[m].sv ++ [(F.length : Int)] })[n]? = some f2 := ⟨_, List.getElem?_eq_getElem hn2⟩
      exact ⟨hv, A5, c5, f2, e3, hf2, hS5.serve n f2 F.length hf2 (by omega)⟩
    by_cases h4 : k = 4
    · subst h4
      obtain ⟨q0, q1⟩ := hkey rfl
      obtain ⟨q, rfl⟩ : ∃ q : Nat, key = q := ⟨key.toNat, by omega⟩
      have hql : q < F1.length := by omega
      have hfq : F1[q]? = some F1[q] := by simp [hql]
      have HS := hid (hS4.serve q F1[q] F.length hfq (by decide))
      have HQ : Hid (∀ A4 c4 A5 c5 A6 c6 f f2 wx, ST p Af F W 803 (((F1.set q { F1[q] with A := A4, c := c4, sv := F1[q].sv ++ [(F.length : Int)] }).set m { f with A := A5, c := c5, sv := f.sv ++ [(F.length : Int)] }).set n { f2 with A := A6, c := c6, sv := f2.sv ++ [(F.length : Int)] }) wx → (F1.set q { F1[q] with A := A4, c := c4, sv := F1[q].sv ++ [(F.length : Int)] })[m]? = some f → ((F1.set q { F1[q] with A := A4, c := c4, sv := F1[q].sv ++ [(F.length : Int)] }).set m { f with A := A5, c := c5, sv := f.sv ++ [(F.length : Int)] })[n]? = some f2 → AddQ p Af F (4, (n : Int), (m : Int)) q r w wx) := hid fun A4 c4 A5 c5 A6 c6 f f2 wx hS e1 e2 => HE.out _ _ _ hS ⟨F1[q], A4, c4, hfq, f, A5, c5, e1, f2, A6, c6, e2, rfl⟩
      clear HE HBX hS4 hkey hlF h1 h2 h3 h5 hfq
      go_upto_region 13 with (go_at_call 42; refine HS.out.mono ?_; rintro e w4 ⟨⟨v, rfl⟩, A4, c4, hS4⟩)
      obtain ⟨f, hf, ⟨e1, e2⟩, hc1⟩ := H45.out 801 _ _ (by decide) (by rw [List.length_set]) hS4
      have HC1 := hid hc1
      clear hc1 hS4 H45 d0 d1 d2
      go_upto_region 14 with (go_at_call 42; refine HC1.out.mono ?_; rintro e w5 ⟨⟨v, rfl⟩, A5, c5, f2, e3, hf2, hc2⟩)
      have HC2 := hid hc2
      clear hc2 HC1 e1 e2
      go_wp2_with (go_at_call 42; refine HC2.out.mono ?_; rintro e w6 ⟨⟨v, rfl⟩, A6, c6, hS6⟩)
      first | (refine bodyPost_end (results_none rfl _ _ _) rfl ?_) | (refine bodyPost_ret (results_none rfl _ _ _) rfl ?_)
      exact ⟨⟨_, rfl⟩, HQ.out _ _ _ _ _ _ _ _ _ hS6 hf hf2⟩
    · have hk : k = 5 ∨ k = 8 := by
        simp only [isTwo, Bool.or_eq_true, beq_iff_eq] at h1
        omega
      have hj : jsOf (k, (n : Int), (m : Int)) key = [(m : Int), (n : Int)] := by
        rcases hk with rfl | rfl <;> rfl
      have HQ : Hid (∀ A5 c5 A6 c6 f f2 wx, ST p Af F W 802 ((F1.set m { f with A := A5, c := c5, sv := f.sv ++ [(F.length : Int)] }).set n { f2 with A := A6, c := c6, sv := f2.sv ++ [(F.length : Int)] }) wx → F1[m]? = some f → (F1.set m { f with A := A5, c := c5, sv := f.sv ++ [(F.length : Int)] })[n]? = some f2 → AddQ p Af F (k, (n : Int), (m : Int)) key r w wx) := hid fun A5 c5 A6 c6 f f2 wx hS e1 e2 => HE.out _ _ _ hS (by rw [hj]; exact ⟨f, A5, c5, e1, f2, A6, c6, e2, rfl⟩)
      obtain ⟨f, hf, ⟨e1, e2⟩, hc1⟩ := H45.out 800 _ _ (by decide) rfl hS4
      have HC1 := hid hc1
      clear HE HBX hS4 hkey hlF h1 h2 h3 h5 hj hc1 H45 d1 d2 h4
      rcases hk with rfl | rfl
      all_goals
        go_upto_region 14 with (go_at_call 42; refine HC1.out.mono ?_; rintro e w5 ⟨⟨v, rfl⟩, A5, c5, f2, e3, hf2, hc2⟩)
        have HC2 := hid hc2
        clear hc2 HC1 e1 e2
        go_wp2_with (go_at_call 42; refine HC2.out.mono ?_; rintro e w6 ⟨⟨v, rfl⟩, A6, c6, hS6⟩)
        first | (refine bodyPost_end (results_none rfl _ _ _) rfl ?_) | (refine bodyPost_ret (results_none rfl _ _ _) rfl ?_)
        exact ⟨⟨_, rfl⟩, HQ.out _ _ _ _ _ _ _ hS6 hf hf2⟩
end Go.Proofs.Ytboofkmbjmnpeaa
