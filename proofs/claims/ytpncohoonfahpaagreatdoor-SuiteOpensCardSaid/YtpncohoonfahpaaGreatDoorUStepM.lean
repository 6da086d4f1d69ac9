/- Steps of the laws' regions. -/
import Derived.Test.YtpncohoonfahpaaGreatDoorG24
import Derived.Test.YtpncohoonfahpaaGreatDoorG12
import Derived.Test.YtpncohoonfahpaaGreatDoorG21
namespace Go.Proofs.YtpncohoonfahpaaGreatDoor
open Go Go.RowKit

section
variable {P : Program} {ops : Array Oper} {md : Region.Mode} {W : World} {a0 : Act} {n : Nat} {al : Nat → Bool} {S : Nat → Value → World → Prop} {Q : Exit → Act → World → Prop} {i : Nat} {o : Oper}
set_option maxRecDepth 50000 in
theorem step_ext0 (hal : al i = false) (hg : GuardOn ops md n S i o) (j d : Nat) {R R' : Value → World → Prop} (ho : o.op = .extract (.tmp d) 0) (hS : S i = R') (hj : j < n) (hw : Region.waitsFor md ops i j = true) (hd : dstOf ops j = some d) (hSj : S j = R) (h : ∀ v w, R v w → ∃ u t, v = .tuple #[u, t] ∧ R' u w) : StepOk P ops md W a0 n al S Q i o :=
  step_run hal hg fun a w _ _ hdp => by
    have h1 := hdp j d hj hw hd
    rw [hSj] at h1
    obtain ⟨u, t, e, h2⟩ := h _ _ h1
    refine ⟨u, ?_, by rw [hS]; exact h2⟩
    generalize a.eval = ev at *
    unfold execOp
    simp only [ho, e]
    go_simp
set_option maxRecDepth 50000 in
theorem step_ext1 (hal : al i = false) (hg : GuardOn ops md n S i o) (j d : Nat) {R R' : Value → World → Prop} (ho : o.op = .extract (.tmp d) 1) (hS : S i = R') (hj : j < n) (hw : Region.waitsFor md ops i j = true) (hd : dstOf ops j = some d) (hSj : S j = R) (h : ∀ v w, R v w → ∃ u t, v = .tuple #[u, t] ∧ R' t w) : StepOk P ops md W a0 n al S Q i o :=
  step_run hal hg fun a w _ _ hdp => by
    have h1 := hdp j d hj hw hd
    rw [hSj] at h1
    obtain ⟨u, t, e, h2⟩ := h _ _ h1
    refine ⟨t, ?_, by rw [hS]; exact h2⟩
    generalize a.eval = ev at *
    unfold execOp
    simp only [ho, e]
    go_simp
end
/-- Any pair; any value. -/
def AnyT : Value → World → Prop := fun v _ => ∃ u t, v = .tuple #[u, t]
def AnyV : Value → World → Prop := fun _ _ => True
set_option maxRecDepth 50000 in
theorem AnyT.grows : Grows AnyT := fun _ _ _ h _ => h
set_option maxRecDepth 50000 in
theorem AnyV.grows : Grows AnyV := fun _ _ _ h _ => h
set_option maxRecDepth 50000 in
theorem AnyT.ext (v : Value) (w : World) (h : AnyT v w) : ∃ u t, v = .tuple #[u, t] ∧ AnyV u w := by obtain ⟨u, t, e⟩ := h; exact ⟨u, t, e, trivial⟩
set_option maxRecDepth 50000 in
theorem AnyT.ext1 (v : Value) (w : World) (h : AnyT v w) : ∃ u t, v = .tuple #[u, t] ∧ AnyV t w := by obtain ⟨u, t, e⟩ := h; exact ⟨u, t, e, trivial⟩
/-- The bytes x as a slice; and that there are some. -/
def BySl (x : List Int) : Value → World → Prop := fun v w => ∃ A c, v = .slice A x.length c ∧ Nums w .u8 A x
def ByTx (x : List Int) : Value → World → Prop := fun v w => ∃ u t, v = .tuple #[u, t] ∧ BySl x u w
set_option maxRecDepth 50000 in
theorem BySl.grows (x : List Int) : Grows (BySl x) := fun _ _ _ ⟨A, c, h1, h2⟩ hb => ⟨A, c, h1, h2.below hb⟩
set_option maxRecDepth 50000 in
theorem ByTx.grows (x : List Int) : Grows (ByTx x) := fun _ _ _ ⟨u, t, h1, h2⟩ hb => ⟨u, t, h1, BySl.grows x _ _ _ h2 hb⟩
set_option maxRecDepth 50000 in
theorem ByTx.ext (x : List Int) (v : Value) (w : World) (h : ByTx x v w) : ∃ u t, v = .tuple #[u, t] ∧ BySl x u w := h
set_option maxRecDepth 50000 in
theorem ByTx.ext1 (x : List Int) (v : Value) (w : World) (h : ByTx x v w) : ∃ u t, v = .tuple #[u, t] ∧ AnyV t w := by obtain ⟨u, t, e, _⟩ := h; exact ⟨u, t, e, trivial⟩
section
variable (F : Nat → Prop) (p : Nat) (L : List T3) (X : List (List Int))
set_option maxRecDepth 50000 in
theorem bytes_tx (n : Nat) (x : List Int) (w : World) (h : CS F w p L X) (hx : IsTx x L X n) :
    Calls Tryz.prog 46 #[.pointer (some ⟨p, 0, none⟩), .int .i64 n] w fun e w' => ∃ v, e = .returned v ∧ ByTx x v w' ∧ Below w.heap.size w w' := by
  obtain ⟨j, hj, hi⟩ := hx
  exact (bytes_yes F p L X n j x w h hi hj).mono fun e w' ⟨A, c, he, hb, hN⟩ => ⟨_, he, ⟨_, _, rfl, A, c, rfl, hN⟩, hb⟩
set_option maxRecDepth 50000 in
theorem bytes_all (n : Int) (w : World) (h : CS F w p L X) :
    Calls Tryz.prog 46 #[.pointer (some ⟨p, 0, none⟩), .int .i64 n] w fun e w' => ∃ v, e = .returned v ∧ AnyT v w' ∧ Below w.heap.size w w' := by
  by_cases hx : ∃ (m : Nat) (t : T3), n = m ∧ L[m]? = some t ∧ t.1 = 9
  · obtain ⟨m, ⟨k, a, b⟩, rfl, ht, hk⟩ := hx
    obtain ⟨nx, DN, DI, hP⟩ := h.pure
    have hw := (hP.wf m _ ht).2
    have hk : k = 9 := hk
    subst hk
    rcases hw with ⟨h1, _⟩ | ⟨h1, _⟩ | ⟨h1, _⟩ | ⟨_, h2, h3, h4⟩
    · exact absurd h1 (by simp)
    · exact absurd h1 (by simp)
    · exact absurd h1 (by simp)
    · have h2 : 0 ≤ a := h2
      have h3 : a < X.length := h3
      have h4 : b = 0 := h4
      obtain ⟨j, rfl⟩ : ∃ j : Nat, a = j := ⟨a.toNat, by omega⟩
      subst h4
      have hj : j < X.length := by omega
      exact (bytes_yes F p L X m j X[j] w h ht (by simp [hj])).mono fun e w' ⟨A, c, he, hb, hN⟩ => ⟨_, he, ⟨_, _, rfl⟩, hb⟩
  · exact (bytes_no F p L X n w h (fun m t e ht hk => hx ⟨m, t, e, ht, hk⟩)).mono fun e w' ⟨he, hw⟩ => ⟨_, he, ⟨_, _, rfl⟩, by subst hw; exact Below.refl _ _⟩
end
set_option maxRecDepth 50000 in
theorem get_gen (F : Nat → Prop) (p : Nat) (L : List T3) (X : List (List Int)) (n : Int) (w : World) (h : CS F w p L X) :
    Calls Tryz.prog 45 #[.pointer (some ⟨p, 0, none⟩), .int .i64 n] w fun e w' => ∃ (u : T3) (b : Bool), e = .returned (.tuple #[.agg #[.int .i64 u.1, .int .i64 u.2.1, .int .i64 u.2.2], .bool b]) ∧ Below w.heap.size w w' ∧ Twf u ∧ (∀ (i : Nat) t, n = i → L[i]? = some t → u = t ∧ b = true) := by
  by_cases hn : 0 ≤ n ∧ n < L.length
  · obtain ⟨m, rfl⟩ : ∃ m : Nat, n = m := ⟨n.toNat, by omega⟩
    have hm : m < L.length := by omega
    obtain ⟨t, ht⟩ : ∃ t, L[m]? = some t := ⟨L[m], by simp [hm]⟩
    obtain ⟨nx, DN, DI, hP⟩ := h.pure
    refine (get_yes F p L X m t.1 t.2.1 t.2.2 w h ht).mono fun e w' ⟨he, hb⟩ => ⟨t, true, he, hb, (hP.wf m t ht).1, fun i u hi hu => ?_⟩
    obtain rfl : m = i := by omega
    rw [ht] at hu
    exact ⟨Option.some.inj hu, rfl⟩
  · refine (get_no F p L X n w h hn).mono fun e w' ⟨he, hb⟩ => ⟨(0, 0, 0), false, he, hb, ⟨by decide, by decide, by decide⟩, fun i u hi hu => ?_⟩
    have := get_lt hu
    omega
/-- What pick hands back. -/
def PkQ (x : Option Nat) (w : World) (e : Ending) (w' : World) : Prop := ∃ v, e = .returned v ∧ Vl w' v x ∧ Below w.heap.size w w'
section
variable {F : Nat → Prop} {w0 w ww : World} {q p : Nat} {ns : List Nat} {L : List T3} {X : List (List Int)} {ps : List Part} {PA : Option Addr} {pc m : Nat}
set_option maxRecDepth 50000 in
theorem TI.pk (h : TI F w0 q p ns L X (.slice PA m pc) ps w) (hm : ns.length = m) (h1 : m ≤ 1000) {i : Int} {x : Option Nat} (hx : pickO ns i = x) (hw : Below w.heap.size w ww) :
    Calls Tryz.prog 42 #[.slice PA m pc, .int .i64 i] ww fun e w' => ∃ v, e = .returned v ∧ Vl w' v x ∧ Below ww.heap.size ww w' := by
  subst hx
  exact pick_any PA m pc ps ns i ww ((h.next hw).row.parts) (h.vs.next hw) hm h1
set_option maxRecDepth 50000 in
theorem TI.num (h : Su F w q p L X) {v : Value} {x : Option Nat} (hv : Vl w v x) (hx : ∀ n, x = some n → n < L.length) (hL : L.length ≤ 40) {nx : Int} {bx : Bool} (hn : nOf x = nx) (hb : x.isSome = bx) :
    Calls Tryz.prog 43 #[.pointer (some ⟨q, 0, none⟩), v] w fun e w' => e = .returned (.tuple #[.int .i64 nx, .bool bx]) ∧ Below w.heap.size w w' := by
  subst hn hb
  exact number_any F q p L X v x w h hv hx hL
set_option maxRecDepth 50000 in
theorem TI.do_ (h : TI F w0 q p ns L X (.slice PA m pc) ps w) {va vb : Value} {x y : Option Nat} (hx : Vl w va x) (hy : Vl w vb y) (hxl : ∀ n, x = some n → n < L.length) (hyl : ∀ n, y = some n → n < L.length) {d : DoS} {dl : Nat} (hdl : d.x.length = dl) (hb : TByt d.x) (h100 : d.x.length ≤ 100) (hA : NumsD w0.heap.size w .u8 d.A d.x) (hL : L.length ≤ 38) (hX : X.length ≤ 38) :
    Calls Tryz.prog 44 #[.pointer (some ⟨q, 0, none⟩), .agg #[.int .i64 d.kind, .int .i64 d.a, .int .i64 d.b, .slice d.A dl d.c], va, vb] w fun e w' => ∃ v er, e = .returned (.tuple #[v, .int .i64 er]) ∧ DoP F w q p L X d.kind d.a x y d.x v er w' := by
  subst hdl
  exact do_any F q p w0.heap.size L X d.kind d.a d.b d.A d.c d.x va vb x y w h.su hx hy hxl hyl h.at' hb h100 hA h.bel.size h.fb hL hX
end
/-- The value last made. -/
structure VA (F : Nat → Prop) (rv : Value) (A : Option Addr) (c i : Nat) (w : World) : Prop where
  cap : 9 ≤ c
  num : Nums w .u8 A (valL i)
  ap : ∀ g o s, A = some ⟨g, o, s⟩ → g < w.heap.size ∧ ¬ F g ∧ rv.ownBlock ≠ some g
section
variable {F : Nat → Prop} {w0 w w' wz : World} {q p : Nat} {ns : List Nat} {L L' : List T3} {X X' : List (List Int)} {ps : List Part} {PA A A9 : Option Addr} {pc m c i n9 c9 k : Nat} {rv : Value}
set_option maxRecDepth 50000 in
theorem VA.next (h : VA F rv A c i w) (hb : Below w.heap.size w w') : VA F rv A c i w' := ⟨h.cap, h.num.below hb, fun g o s e => ⟨Nat.lt_of_lt_of_le (h.ap g o s e).1 hb.size, (h.ap g o s e).2⟩⟩
set_option maxRecDepth 50000 in
theorem VA.vl (h : VA F rv A c i w) (hi : i ≤ 40) : Vl w (.slice A 9 c) (some i) := ⟨hi, A, c, rfl, h.cap, h.num⟩
set_option maxRecDepth 50000 in
theorem TI.made2 (h : TI F w0 q p ns L X rv ps w) (hM : Mv F w q p L L' X X' A c i w') : ∃ F', TI F' w0 q p ns L' X' rv ps w' ∧ VA F' rv A c i w' ∧ i < L'.length := by
  obtain ⟨F', h1, h2, h3, h4, h5⟩ := h.made hM
  exact ⟨F', h1, ⟨h4, h2, h5⟩, h3⟩
set_option maxRecDepth 50000 in
theorem TI.app2 (h : TI F w0 q p ns L X (.slice PA m pc) ps wz) (hv : VA F (.slice PA m pc) A c i wz) (hm : ns.length = m) (hi : i < L.length) (hL : L.length ≤ 40)
    (hO : OwnsP w' w0.heap.size (.slice A9 n9 c9) (ps ++ [(A, c, valL i)])) (hG : Grew (wz.alloc (.cells #[.slice A 9 c] 23)) w' (.slice PA m pc) (.slice A9 n9 c9)) :
    Hid ((ns ++ [i]).length = n9) ∧ TI F w0 q p (ns ++ [i]) L X (.slice A9 n9 c9) (ps ++ [(A, c, valL i)]) w' ∧ n9 = m + 1 := by
  have hb := below_new wz (.cells #[.slice A 9 c] 23)
  have hl := hO.len
  have hv2 := hv.next hb
  rw [List.length_append, h.vs.len, hm] at hl
  have hl : n9 = m + 1 := hl
  exact ⟨hid (by rw [List.length_append, hm, hl]; rfl), (h.next hb).app hi (by omega) hv2.num hv2.cap hv2.ap hO hG, hl⟩
end
set_option maxRecDepth 50000 in
theorem same_dl {A B : Option Addr} {c d n : Nat} {xs : List Int} {w : World} (hn : xs.length = n) (h1 : n ≤ 1000) (hA : Nums w .u8 A xs) (hB : Nums w .u8 B xs) :
    Calls Tryz.prog 11 #[.slice A n c, .slice B n d] w fun e w' => e = .returned (.bool true) ∧ Below w.heap.size w w' := by
  subst hn
  exact same_eq A B c d xs xs w rfl (by unfold maxLen; omega) hA hB
set_option maxRecDepth 50000 in
theorem get_t {F : Nat → Prop} {p : Nat} {L : List T3} {X : List (List Int)} {n : Nat} {k a b : Int} {w : World} (h : CS F w p L X) (hn : L[n]? = some (k, a, b)) :
    Calls Tryz.prog 45 #[.pointer (some ⟨p, 0, none⟩), .int .i64 n] w fun e w' => e = .returned (.tuple #[.agg #[.int .i64 k, .int .i64 a, .int .i64 b], .bool true]) ∧ Below w.heap.size w w' := get_yes F p L X n k a b w h hn
set_option maxRecDepth 50000 in
theorem nOf_some {x : Option Nat} {nx : Int} {bx : Bool} {m : Nat} (hn : nOf x = nx) (hb : x.isSome = bx) (hx : x = some m) : nx = (m : Int) ∧ bx = true := by
  subst hx
  exact ⟨hn.symm, hb.symm⟩
set_option maxRecDepth 50000 in
theorem cxT42 : ∀ vs w, (callFunc 42 vs).run Tryz.prog w = .ok (.enter 42 vs) w := enters_of Tryz.func42 (by kernel_rfl) rfl
set_option maxRecDepth 50000 in
theorem cxT15 : ∀ vs w, (callFunc 15 vs).run Tryz.prog w = .ok (.enter 15 vs) w := enters_of Tryz.func15 (by kernel_rfl) rfl
set_option maxRecDepth 50000 in
theorem cxT46 : ∀ vs w, (callFunc 46 vs).run Tryz.prog w = .ok (.enter 46 vs) w := enters_of Tryz.func46 (by kernel_rfl) rfl
set_option maxRecDepth 50000 in
theorem cxT45 : ∀ vs w, (callFunc 45 vs).run Tryz.prog w = .ok (.enter 45 vs) w := enters_of Tryz.func45 (by kernel_rfl) rfl
set_option maxRecDepth 50000 in
theorem cxT44 : ∀ vs w, (callFunc 44 vs).run Tryz.prog w = .ok (.enter 44 vs) w := enters_of Tryz.func44 (by kernel_rfl) rfl
end Go.Proofs.YtpncohoonfahpaaGreatDoor
