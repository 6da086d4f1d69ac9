/- One thing is done to a disk and to the document's. -/
import Derived.Test.YtdfalneiapeegaaLDo
import Derived.Test.YtdfalneiapeegaaKEvtR
namespace Go.Proofs.Ytdfalneiapeegaa
open Go Go.RowKit Go.Maps

section
variable {P : Program} {ops : Array Oper} {md : Region.Mode} {W : World} {a0 : Act} {n : Nat} {S : Nat → Value → World → Prop} {R : World → Value → World → Prop} {Q : Exit → Act → World → Prop} {i : Nat} {o : Oper}
theorem pure_exR (v : Value) (hg : o.guard = none) (hS : S i = Is v) (h : ∀ (a : Act) (w0 w : World), Cl W w0 → (w = w0 ∨ ∃ u, R w0 u w) → Fr ops n a0 a → Dp ops md n S i a w0 → (execOp a.eval o).run P w = .ok (.value v) w) : PureR P ops md W a0 n S R i o :=
  ⟨hg, fun a w0 w hw hR hf hd => ⟨v, h a w0 w hw hR hf hd, by rw [hS]; exact rfl⟩⟩
/-- A call of three arguments, that turns memory. -/
theorem evt_call3 {a : Act} {w : World} {f : FuncId} {x y z : Operand} {u v t : Value} {ts : Array TypeId} (ho : o.op = .call { callee := .value (.func f), args := #[x, y, z], argTypes := ts }) (hcf : ∀ vs w, (callFunc f vs).run P w = .ok (.enter f vs) w)
    (hx : a.eval x = u) (hy : a.eval y = v) (hz : a.eval z = t) (h : Calls P f #[u, v, t] w fun e w' => ∃ r, e = .returned r ∧ R w r w') : o.wp P a w (fun a' w' => ∃ v, a' = a.put o.dst v ∧ R w v w') Q := by
  have hr : (execOp a.eval o).run P w = .ok (.enter f #[u, v, t]) w := ex_fnP rfl hcf ho _ (by simp [hx, hy, hz]) w
  unfold Oper.wp
  rw [hr, Oper.upon_enter]
  refine h.mono fun e w' ⟨r, he, hk⟩ => ?_
  subst he
  exact ⟨r, rfl, hk⟩
end
theorem cxW : ∀ vs w, (callFunc 14 vs).run Try.prog w = .ok (.enter 14 vs) w := enters_of Try.func14 (by kernel_rfl) rfl

/-- The code's disk at p and the document's at q, both D, apart; all of it from block lo on. -/
structure Prs (lo : Nat) (Fd Fx B : Nat → Prop) (w : World) (p q : Nat) (D : DK) : Prop where
  ds : DS Fd w p D
  rs : RS Fx B w q D
  ap : ∀ b, Fd b → ¬ Fx b ∧ ¬ B b
  inn : ∀ b, Fd b ∨ Fx b ∨ B b → lo ≤ b ∧ b < w.heap.size
  low : lo ≤ w.heap.size
/-- The same, behind what was done. -/
def Prn (lo : Nat) (Fd Fx B : Nat → Prop) (w w' : World) (p q : Nat) (D : DK) : Prop := ∃ Fd' Fx' B', Prs lo Fd' Fx' B' w' p q D ∧ (∀ b, (Fd' b ∨ Fx' b → Fd b ∨ Fx b ∨ w.heap.size ≤ b) ∧ (B' b → B b ∨ w.heap.size ≤ b)) ∧ Chg (fun b => Fd b ∨ Fx b) w w'
section
variable {lo : Nat} {Fd Fx B : Nat → Prop} {w w1 w2 w' : World} {p q : Nat} {D D' : DK}
theorem Prs.next (h : Prs lo Fd Fx B w p q D) (hb : Below w.heap.size w w') : Prs lo Fd Fx B w' p q D :=
  ⟨h.ds.next hb, h.rs.next hb, h.ap, fun b hb' => ⟨(h.inn b hb').1, Nat.lt_of_lt_of_le (h.inn b hb').2 hb.size⟩, Nat.le_trans h.low hb.size⟩
theorem Prs.chg {G : Nat → Prop} (h : Prs lo Fd Fx B w p q D) (hc : Chg G w w') (hG : ∀ b, Fd b ∨ Fx b ∨ B b → ¬ G b) : Prs lo Fd Fx B w' p q D :=
  ⟨h.ds.chg hc (fun b hb => hG b (.inl hb)), h.rs.chg hc (fun b hb => hG b (.inr (.inl hb))) (fun b hb => hG b (.inr (.inr hb))), h.ap, fun b hb' => ⟨(h.inn b hb').1, Nat.lt_of_lt_of_le (h.inn b hb').2 hc.size⟩, Nat.le_trans h.low hc.size⟩
theorem Prs.stay (h : Prs lo Fd Fx B w p q D) (hb : Below w.heap.size w w') : Prn lo Fd Fx B w w' p q D :=
  ⟨Fd, Fx, B, h.next hb, fun _ => ⟨fun hb => hb.elim .inl (fun e => .inr (.inl e)), .inl⟩, Chg.of hb _⟩
/-- The document's disk, behind what was done to the code's. -/
theorem Prs.mid (h : Prs lo Fd Fx B w p q D) (hc : Chg Fd w w1) : RS Fx B w1 q D := h.rs.chg hc (fun b hb e => (h.ap b e).1 hb) (fun b hb e => (h.ap b e).2 hb)
theorem Prs.two (h : Prs lo Fd Fx B w p q D) (d1 : DS (Grw Fd w w1) w1 p D') (c1 : Chg Fd w w1) (r2 : RSn Fx B w1 w2 q D') (c2 : Chg Fx w1 w2) : Prn lo Fd Fx B w w2 p q D' := by
  obtain ⟨F', B', r3, hF, hB⟩ := r2
  have s1 := c1.size
  have s2 := c2.size
  refine ⟨Grw Fd w w1, F', B', ⟨d1.chg c2 (fun b hb e => ?_), r3, fun b hb => ⟨fun e => ?_, fun e => ?_⟩, fun b hb => ?_, Nat.le_trans h.low (Nat.le_trans s1 s2)⟩, fun b => ⟨fun hb => ?_, fun hb => ?_⟩, ?_⟩
  · have := (h.inn b (.inr (.inl e))).2
    rcases hb with h1 | h1
    · exact (h.ap b h1).1 e
    · omega
  · rcases hF b e with h2 | h2
    · have := (h.inn b (.inr (.inl h2))).2
      rcases hb with h1 | h1
      · exact (h.ap b h1).1 h2
      · omega
    · rcases hb with h1 | h1
      · have := (h.inn b (.inl h1)).2; omega
      · omega
  · rcases hB b e with h2 | h2
    · have := (h.inn b (.inr (.inr h2))).2
      rcases hb with h1 | h1
      · exact (h.ap b h1).2 h2
      · omega
    · rcases hb with h1 | h1
      · have := (h.inn b (.inl h1)).2; omega
      · omega
  · have hl := h.low
    rcases hb with h1 | h1 | h1
    · rcases h1 with h2 | h2
      · have := h.inn b (.inl h2); omega
      · omega
    · rcases hF b h1 with h2 | h2
      · have := h.inn b (.inr (.inl h2)); omega
      · omega
    · rcases hB b h1 with h2 | h2
      · have := h.inn b (.inr (.inr h2)); omega
      · omega
  · rcases hb with h1 | h1
    · rcases h1 with h2 | h2
      · exact .inl h2
      · exact .inr (.inr h2.1)
    · rcases hF b h1 with h2 | h2
      · exact .inr (.inl h2)
      · exact .inr (.inr (by omega))
  · rcases hB b hb with h2 | h2
    · exact .inl h2
    · exact .inr (by omega)
  · exact (c1.sub (fun b _ hb => .inl hb)).trans (c2.sub (fun b _ hb => .inr hb)) (fun b _ hb => hb)
theorem Prn.from (h : Prn lo Fd Fx B w1 w2 p q D) (hb : Below w.heap.size w w1) : Prn lo Fd Fx B w w2 p q D := by
  obtain ⟨Fd', Fx', B', h1, h2, h3⟩ := h
  refine ⟨Fd', Fx', B', h1, fun b => ⟨fun hb' => ?_, fun hb' => ?_⟩, (Chg.of hb _).trans h3 (fun b _ e => e)⟩
  · rcases (h2 b).1 hb' with h4 | h4 | h4
    · exact .inl h4
    · exact .inr (.inl h4)
    · exact .inr (.inr (Nat.le_trans hb.size h4))
  · rcases (h2 b).2 hb' with h4 | h4
    · exact .inl h4
    · exact .inr (Nat.le_trans hb.size h4)
theorem Prn.then (h : Prn lo Fd Fx B w w1 p q D) (hb : Below w1.heap.size w1 w2) : Prn lo Fd Fx B w w2 p q D := by
  obtain ⟨Fd', Fx', B', h1, h2, h3⟩ := h
  exact ⟨Fd', Fx', B', h1.next hb, h2, h3.next hb⟩
end
theorem doA_low {lo : Nat} {w : World} {A : Option Addr} {x : List Int} {F : Nat → Prop} (h : NumsD lo w .u8 A x) (hl : lo ≤ w.heap.size) (hF : ∀ b, F b → lo ≤ b) : NumsS (fun b => ¬ F b ∧ b < w.heap.size) w .u8 A x := h.sub fun b hb => ⟨fun e => by have := hF b e; omega, by omega⟩
/-- What is done to D. -/
def OneP (lo : Nat) (Fd Fx B : Nat → Prop) (m : Nat) (w w' : World) (p q : Nat) (D : DK) : Prop := ∃ D', Prn lo Fd Fx B w w' p q D' ∧ Dok (m + 1) D' ∧ D'.K.length = D.K.length

set_option maxHeartbeats 4000000 in
theorem one_write (lo : Nat) (Fd Fx B : Nat → Prop) (p q m : Nat) (D : DK) (d : DoV) (w : World) (h : Prs lo Fd Fx B w p q D) (hD : Dok m D) (hm : m ≤ 800) (hk : d.kind = 1) (hb : NumsD lo w .u8 d.A d.x) :
    Calls Try.prog 12 #[.pointer (some ⟨p, 0, none⟩), .pointer (some ⟨q, 0, none⟩), .agg d.cells.toArray] w fun e w' => e = .returned (.bool true) ∧ OneP lo Fd Fx B m w w' p q D := by
  obtain ⟨dk, dn, dA, dc, dx⟩ := d
  dsimp only at hk hb
  subst hk
  obtain ⟨W1, hW1, hBk, hb1⟩ := do_world ⟨1, dn, dA, dc, dx⟩ w
  have h1 := h.next hb1
  have hbx1 := hb.stay (hb1.mono h.low)
  obtain ⟨er, her⟩ : ∃ er, (writeR D dn dx).1 = er := ⟨_, rfl⟩
  obtain ⟨D1, hD1⟩ : ∃ D1, (writeR D dn dx).2 = D1 := ⟨_, rfl⟩
  have x0 := hBk.cell (i := 0) rfl
  have HBx : Hid (∀ ww, (Cl W1 ww ∨ ∃ w0, Cl W1 w0 ∧ Chg Fd w0 ww) → ww.cell? ⟨w.heap.size, 1, none⟩ = some (.int .i64 dn) ∧ ww.cell? ⟨w.heap.size, 2, none⟩ = some (.slice dA dx.length dc)) := hid (fun ww hw => by
    have : Blk ww w.heap.size 34 (DoV.cells ⟨1, dn, dA, dc, dx⟩) := by
      rcases hw with hw | ⟨w0, hw, hc⟩
      · exact hBk.next hw
      · exact (hBk.next hw).chg hc (fun e => by have := (h.inn _ (.inl e)).2; omega)
    exact ⟨this.cell (i := 1) rfl, this.cell (i := 2) rfl⟩)
  have HWr : Hid (∀ ww, Cl W1 ww → Calls Try.prog 14 #[.pointer (some ⟨p, 0, none⟩), .int .i64 dn, .slice dA dx.length dc] ww fun e w' => ∃ r, e = .returned r ∧ (r = .int .i64 er ∧ DS (Grw Fd ww w') w' p D1 ∧ Chg Fd ww w')) := hid (fun ww hw => by
    have hww := h1.next hw
    refine (dwrite_any Fd p m D dn dA dc dx ww hww.ds hD (by omega) ((hbx1.stay (hw.mono h1.low)).nums hww.low)).mono ?_
    rintro e w' ⟨he, h2, h3⟩
    rw [her] at he
    rw [hD1] at h2
    exact ⟨_, he, rfl, h2, h3⟩)
  have HP1 := hid h1
  have HDD : Hid (Dok (m + 1) D1 ∧ D1.K.length = D.K.length) := hid (by rw [← hD1]; exact ⟨hD.write dn dx, write_len D dn dx⟩)
  have Her := hid her
  have HD1 := hid hD1
  have HDk := hid hD
  have HW := hid hW1
  have Hbx := hid hbx1
  have Hb1 := hid hb1
  obtain ⟨dl, hdl⟩ : ∃ dl, dx.length = dl := ⟨_, rfl⟩
  have Hdl := hid hdl
  unfold DoV.cells
  dsimp only
  rw [hdl] at HBx HWr HW ⊢
  clear hW1 hBk hb1 h1 hbx1 her hD1 h hb hD hdl
  go_enter Try.func12, Try.ntmps12
  go_upto_region 1 with (fail)
  rw [HW.out]
  clear HW
  go_upto_region 3 with (fail)
  clear x0
  refine region_evtR 11 5 82 [true, true, true, true, true, false, false, false, false, false, false] [Is (Value.pointer (some ⟨p, 0, none⟩)), Is (Value.pointer (some ⟨w.heap.size, 1, none⟩)), Is (Value.int .i64 dn), Is (Value.pointer (some ⟨w.heap.size, 2, none⟩)), Is (Value.slice dA dl dc), (fun _ _ => True), Is (Value.pointer (some ⟨q, 0, none⟩)), Is (Value.pointer (some ⟨w.heap.size, 1, none⟩)), Is (Value.int .i64 dn), Is (Value.pointer (some ⟨w.heap.size, 2, none⟩)), Is (Value.slice dA dl dc)] [16, 17, 18, 19, 20, 21, 22, 23, 24, 25, 26] (fun w0 v w1 => v = .int .i64 er ∧ DS (Grw Fd w0 w1) w1 p D1 ∧ Chg Fd w0 w1) (by kernel_rfl) (by kernel_rfl) (by kernel_rfl) (Nat.le_of_eq rfl) (grows_cons (Is.grows _) (grows_cons (Is.grows _) (grows_cons (Is.grows _) (grows_cons (Is.grows _) (grows_cons (Is.grows _) (grows_cons (fun _ _ _ _ _ => trivial) (grows_cons (Is.grows _) (grows_cons (Is.grows _) (grows_cons (Is.grows _) (grows_cons (Is.grows _) (grows_cons (Is.grows _) grows_nil)))))))))))
    ⟨.inr (.inl ⟨rfl, step_ex _ rfl (.inl rfl) rfl (fun a ww hw hf hd => by
   have h0 : a.eval (.tmp 0) = Value.pointer (some ⟨p, 0, none⟩) := ((knows_out 0 (by kernel_rfl) rfl) : Knows _ _ _ _ _ _ 0 _ _) a ww hw hf hd
   revert h0
   generalize a.eval = ev
   intro h0
   unfold execOp
   simp only [h0]
   go_simp)⟩),
     .inr (.inl ⟨rfl, step_ex _ rfl (.inl rfl) rfl (fun a ww hw hf hd => by
   have h5 : a.eval (.tmp 5) = Value.pointer (some ⟨w.heap.size, 0, none⟩) := ((knows_out 5 (by kernel_rfl) rfl) : Knows _ _ _ _ _ _ 1 _ _) a ww hw hf hd
   revert h5
   generalize a.eval = ev
   intro h5
   unfold execOp
   simp only [h5]
   go_simp)⟩),
     .inr (.inl ⟨rfl, step_ex _ rfl (.inl rfl) rfl (fun a ww hw hf hd => by
   have h17 : a.eval (.tmp 17) = Value.pointer (some ⟨w.heap.size, 1, none⟩) := ((knows_in 1 17 (by decide) (by kernel_rfl) rfl rfl) : Knows _ _ _ _ _ _ 2 _ _) a ww hw hf hd
   have f0 : ww.cell? ⟨w.heap.size, 1, none⟩ = some (Value.int .i64 dn) := (HBx.out ww (.inl hw)).1
   revert h17
   generalize a.eval = ev
   intro h17
   unfold execOp
   simp only [h17]
   go_simp)⟩),
     .inr (.inl ⟨rfl, step_ex _ rfl (.inl rfl) rfl (fun a ww hw hf hd => by
   have h5 : a.eval (.tmp 5) = Value.pointer (some ⟨w.heap.size, 0, none⟩) := ((knows_out 5 (by kernel_rfl) rfl) : Knows _ _ _ _ _ _ 3 _ _) a ww hw hf hd
   revert h5
   generalize a.eval = ev
   intro h5
   unfold execOp
   simp only [h5]
   go_simp)⟩),
     .inr (.inl ⟨rfl, step_ex _ rfl (.inl rfl) rfl (fun a ww hw hf hd => by
   have h19 : a.eval (.tmp 19) = Value.pointer (some ⟨w.heap.size, 2, none⟩) := ((knows_in 3 19 (by decide) (by kernel_rfl) rfl rfl) : Knows _ _ _ _ _ _ 4 _ _) a ww hw hf hd
   have f0 : ww.cell? ⟨w.heap.size, 2, none⟩ = some (Value.slice dA dl dc) := (HBx.out ww (.inl hw)).2
   revert h19
   generalize a.eval = ev
   intro h19
   unfold execOp
   simp only [h19]
   go_simp)⟩),
     .inl rfl,
     .inr (.inr ⟨rfl, pure_exR (Value.pointer (some ⟨q, 0, none⟩)) rfl rfl (fun a w0 ww hw hR hf hd => by
   have h1 : a.eval (.tmp 1) = Value.pointer (some ⟨q, 0, none⟩) := ((knows_out 1 (by kernel_rfl) rfl) : Knows _ _ _ _ _ _ 6 _ _) a w0 hw hf hd
   revert h1
   generalize a.eval = ev
   intro h1
   unfold execOp
   simp only [h1]
   go_simp)⟩),
     .inr (.inr ⟨rfl, pure_exR (Value.pointer (some ⟨w.heap.size, 1, none⟩)) rfl rfl (fun a w0 ww hw hR hf hd => by
   have h5 : a.eval (.tmp 5) = Value.pointer (some ⟨w.heap.size, 0, none⟩) := ((knows_out 5 (by kernel_rfl) rfl) : Knows _ _ _ _ _ _ 7 _ _) a w0 hw hf hd
   revert h5
   generalize a.eval = ev
   intro h5
   unfold execOp
   simp only [h5]
   go_simp)⟩),
     .inr (.inr ⟨rfl, pure_exR (Value.int .i64 dn) rfl rfl (fun a w0 ww hw hR hf hd => by
   have h23 : a.eval (.tmp 23) = Value.pointer (some ⟨w.heap.size, 1, none⟩) := ((knows_in 7 23 (by decide) (by kernel_rfl) rfl rfl) : Knows _ _ _ _ _ _ 8 _ _) a w0 hw hf hd
   have f0 : ww.cell? ⟨w.heap.size, 1, none⟩ = some (Value.int .i64 dn) := (HBx.out ww (hR.elim (fun e => .inl (by rw [e]; exact hw)) (fun ⟨u, hu⟩ => .inr ⟨w0, hw, hu.2.2⟩))).1
   revert h23
   generalize a.eval = ev
   intro h23
   unfold execOp
   simp only [h23]
   go_simp)⟩),
     .inr (.inr ⟨rfl, pure_exR (Value.pointer (some ⟨w.heap.size, 2, none⟩)) rfl rfl (fun a w0 ww hw hR hf hd => by
   have h5 : a.eval (.tmp 5) = Value.pointer (some ⟨w.heap.size, 0, none⟩) := ((knows_out 5 (by kernel_rfl) rfl) : Knows _ _ _ _ _ _ 9 _ _) a w0 hw hf hd
   revert h5
   generalize a.eval = ev
   intro h5
   unfold execOp
   simp only [h5]
   go_simp)⟩),
     .inr (.inr ⟨rfl, pure_exR (Value.slice dA dl dc) rfl rfl (fun a w0 ww hw hR hf hd => by
   have h25 : a.eval (.tmp 25) = Value.pointer (some ⟨w.heap.size, 2, none⟩) := ((knows_in 9 25 (by decide) (by kernel_rfl) rfl rfl) : Knows _ _ _ _ _ _ 10 _ _) a w0 hw hf hd
   have f0 : ww.cell? ⟨w.heap.size, 2, none⟩ = some (Value.slice dA dl dc) := (HBx.out ww (hR.elim (fun e => .inl (by rw [e]; exact hw)) (fun ⟨u, hu⟩ => .inr ⟨w0, hw, hu.2.2⟩))).2
   revert h25
   generalize a.eval = ev
   intro h25
   unfold execOp
   simp only [h25]
   go_simp)⟩), trivial⟩ _ rfl rfl ?_ ?_
  · intro a ww hw hf hd
    have h16 : a.eval (.tmp 16) = Value.pointer (some ⟨p, 0, none⟩) := hd 0 16 (by decide) (by kernel_rfl) rfl
    have h18 : a.eval (.tmp 18) = Value.int .i64 dn := hd 2 18 (by decide) (by kernel_rfl) rfl
    have h20 : a.eval (.tmp 20) = Value.slice dA dl dc := hd 4 20 (by decide) (by kernel_rfl) rfl
    exact evt_call3 (R := fun w0 v w1 => v = .int .i64 er ∧ DS (Grw Fd w0 w1) w1 p D1 ∧ Chg Fd w0 w1) rfl cxW h16 h18 h20 (HWr.out ww hw)
  intro val W2 W3 hw hS hR
  have e16 : val 16 = Value.pointer (some ⟨p, 0, none⟩) := hS 0 16 (by decide) (by decide) rfl
  have e17 : val 17 = Value.pointer (some ⟨w.heap.size, 1, none⟩) := hS 1 17 (by decide) (by decide) rfl
  have e18 : val 18 = Value.int .i64 dn := hS 2 18 (by decide) (by decide) rfl
  have e19 : val 19 = Value.pointer (some ⟨w.heap.size, 2, none⟩) := hS 3 19 (by decide) (by decide) rfl
  have e20 : val 20 = Value.slice dA dl dc := hS 4 20 (by decide) (by decide) rfl
  have e22 : val 22 = Value.pointer (some ⟨q, 0, none⟩) := hS 6 22 (by decide) (by decide) rfl
  have e23 : val 23 = Value.pointer (some ⟨w.heap.size, 1, none⟩) := hS 7 23 (by decide) (by decide) rfl
  have e24 : val 24 = Value.int .i64 dn := hS 8 24 (by decide) (by decide) rfl
  have e25 : val 25 = Value.pointer (some ⟨w.heap.size, 2, none⟩) := hS 9 25 (by decide) (by decide) rfl
  have e26 : val 26 = Value.slice dA dl dc := hS 10 26 (by decide) (by decide) rfl
  have hR := hR 21 rfl
  obtain ⟨e21, hd21, hc21⟩ := hR
  simp only [putVals, List.foldl_cons, List.foldl_nil, List.drop_succ_cons, List.drop_zero, Act.put, List.setIfInBounds_toArray, List.set_cons_succ, List.set_cons_zero, e16, e17, e18, e19, e20, e22, e23, e24, e25, e26, e21]
  clear e16 e17 e18 e19 e20 e22 e23 e24 e25 e26 e21 hS
  have hP2 := HP1.out.next hw
  have hr3 := hP2.mid hc21
  have hN3 : Nums W3 .u8 dA dx := ((Hbx.out.stay (hw.mono HP1.out.low)).stay (hc21.below hP2.low (fun b hb => (HP1.out.inn b (.inl hb)).1))).nums (Nat.le_trans hP2.low hc21.size)
  have HR := rwrite_any Fx B q m D dn dA dc dx W3 hr3 HDk.out (by omega) hN3
  rw [Her.out, HD1.out, Hdl.out] at HR
  have HP2 := hid hP2
  have Hd21 := hid hd21
  have Hc21 := hid hc21
  have HB2 : Hid (Below w.heap.size w W2) := hid (Hb1.out.trans (Below.mono hw Hb1.out.size))
  clear hP2 hr3 hN3 hd21 hc21 HBx HWr hw
  go_wp2_with (go_at_call 26; refine HR.mono ?_; rintro e w4 ⟨rfl, hr4, hc4⟩)
  go_ret
  exact ⟨rfl, D1, (HP2.out.two Hd21.out Hc21.out hr4 hc4).from HB2.out, HDD.out.1, HDD.out.2⟩
end Go.Proofs.Ytdfalneiapeegaa
