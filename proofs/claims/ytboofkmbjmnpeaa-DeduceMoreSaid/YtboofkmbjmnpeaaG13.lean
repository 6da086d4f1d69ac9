/- Texts of this proof, laid together: DKnow, DLook. -/
import Derived.Test.YtboofkmbjmnpeaaG12
/- A term becomes known. -/
namespace Go.Proofs.Ytboofkmbjmnpeaa
open Go Go.RowKit Go.Maps

theorem app_oneG {P : Program} {w : World} {ops : Array Oper} {rest : List Oper} {o : Oper} {a : Act} {Q : Exit → Act → World → Prop} (hgd : o.guard = none) (s x : Operand) (t : TypeId)
    (ho : o.op = .call { callee := .builtin .append, args := #[s, x], argTypes := #[t, t] }) (base : Nat) (e : TypeId) (k : IntKind) (bytes : Nat) (ht : P.underlying t = some (.slice e))
    (hinf : (P.info? e).map (fun i => (i.zero, i.size, i.bytes)) = some (some (.int k 0), 1, bytes)) (hbt : 0 < bytes) (A : Option Addr) (n c : Nat) (xs : List Int) (hs : a.eval s = .slice A n c)
    (hown : Owns w base e k (.slice A n c) xs) (y : Int) (m : Nat) (hx : a.eval x = .slice (some ⟨w.heap.size, 0, none⟩) 1 m) (h63 : (xs.length + 1) * bytes ≤ 140737488355328) (hbase : base ≤ w.heap.size)
    (h : ∀ A' n' c' w', Owns w' base e k (.slice A' n' c') (xs ++ [y]) → Grew w w' (.slice A n c) (.slice A' n' c') → wpList P ops Q rest (a.put o.dst (.slice A' n' c')) w') :
    wpList P ops Q (o :: rest) a (w.alloc (.cells #[.int k y] e)) :=
  app_nums hgd s x t ho base e k bytes ht hinf hbt A n c xs hs (hown.alloc _) (some ⟨w.heap.size, 0, none⟩) m [y] hx (nums_one w k y e) h63 (by simp; omega) fun A' n' c' w' h1 h2 => h A' n' c' w' h1 (Grew.after (below_new w _) h2)
theorem Owns.len3 {w : World} {base : Nat} {e : TypeId} {k : IntKind} {A : Option Addr} {n c : Nat} {xs : List Int} (h : Owns w base e k (.slice A n c) xs) : n = xs.length := by
  rcases h.2 with ⟨hv, hn⟩ | ⟨g, cap, cur, hv, _⟩
  · injection hv with _ h2 _; omega
  · injection hv with _ h2 _
theorem Owns.ge {w : World} {base : Nat} {e : TypeId} {k : IntKind} {v : Value} {xs : List Int} (h : Owns w base e k v xs) : ∀ g, v.ownBlock = some g → base ≤ g ∧ g < w.heap.size := fun g hg => h.lt g hg

theorem cell_set_other {w : World} {g i j : Nat} {v : Value} (h : i ≠ j) : (w.setCell ⟨g, i, none⟩ v).cell? ⟨g, j, none⟩ = w.cell? ⟨g, j, none⟩ := by
  apply World.cell?_setCell_other
  intro e
  injection e with _ e _
  exact h e
/-- What a step of following leaves: flags that have turned, and the row of what was found. -/
def AdvQ (S : (Nat → Bool) → (Nat → Bool) → Prop) (D p : Nat) (Af : Option Addr) (cf : Nat) (F : List Fa) (xs : List Int) (X : List Fa → List Int → Prop) (w : World) (e : Ending) (w' : World) : Prop :=
  ∃ A' n' c' F' new, e = .returned (.slice A' n' c') ∧ Adv S F F' new ∧ new.length + unset F' ≤ unset F ∧ X F' new ∧ Owns w' D 3 .i64 (.slice A' n' c') (xs ++ new) ∧ KS w' p Af cf F' ∧ Chg (fun b => fblk Af b ∨ D ≤ b) w w'
/-- What was found lies apart from the facts. -/
theorem KS.grew {w w' : World} {p : Nat} {Af : Option Addr} {cf D : Nat} {F : List Fa} {v v' : Value} (h : KS w p Af cf F) (hG : Grew w w' v v') (hv : ∀ g, v.ownBlock = some g → D ≤ g) (hD : ∀ b, kfoot p Af F b → b < D) : KS w' p Af cf F :=
  h.chg ((Chg.refl (fun b => D ≤ b) w).grown hG.1 (fun g hg => .inl (hv g hg))) (fun b hb e => by have := hD b hb; omega)
set_option maxRecDepth 50000 in
set_option maxHeartbeats 2000000 in
theorem know_any (S : (Nat → Bool) → (Nat → Bool) → Prop) (D p : Nat) (Af : Option Addr) (cf : Nat) (F : List Fa) (n : Nat) (f : Fa) (A : Option Addr) (c : Nat) (xs : List Int) (w : World) (h : KS w p Af cf F) (hf : F[n]? = some f) (hD : ∀ b, kfoot p Af F b → b < D) (hDw : D ≤ w.heap.size)
    (hO : Owns w D 3 .i64 (.slice A xs.length c) xs) (hx : xs.length ≤ 1000)
    (hs : (∀ k' c', S k' c' → (∀ i, kF F i = true → k' i = true) ∧ (∀ i, cF F i = true → c' i = true)) → ∀ k' c', S k' c' → k' n = true ∧ c' n = true) :
    Calls Try.prog 34 #[.pointer (some ⟨p, 0, none⟩), .int .i64 n, .slice A xs.length c] w (AdvQ S D p Af cf F xs (fun F' new => kF F' n = true ∧ new.length ≤ 1) w) := by
  have hn := get_lt hf
  obtain ⟨g, rfl, hgl, hcap, hcm, hgp, hC⟩ := h.addr (by omega)
  obtain ⟨x4, f4⟩ := hC n f hf 4 _ rfl
  obtain ⟨x5, f5⟩ := hC n f hf 5 _ rfl
  have c1 := h.c1
  have n0 : (0 : Int) ≤ n := by omega
  have n1 : (n : Int) < F.length := by omega
  cases hk : f.kn with
  | true =>
    rw [hk] at x4
    have HH := hid (And.intro h (And.intro hO (And.intro (show kF F n = true by rw [kF_at hf]; exact hk) hDw)))
    clear h hO hf hs hD hC hk hn x5 hx
    go_enter Try.func34, Try.ntmps34
    go_wp2
    go_ret
    obtain ⟨h, hO, hkn, _⟩ := HH.out
    refine ⟨A, xs.length, c, F, [], rfl, Adv.refl S F, by simp, ⟨hkn, by simp⟩, by rw [List.append_nil]; exact hO, h, Chg.refl _ _⟩
  | false =>
    rw [hk] at x4
    obtain ⟨W1, hW1⟩ : ∃ W1, w.setCell ⟨g, n * 7 + 4, none⟩ (.bool true) = W1 := ⟨_, rfl⟩
    have h1 := h.set hf (j := 4) (f' := { f with kn := true }) (v := .bool true) (by decide) rfl rfl rfl rfl
    rw [hW1] at h1
    have hf1 : (F.set n { f with kn := true })[n]? = some { f with kn := true } := by simp [hn]
    obtain ⟨g', e, _, _, _, _, hC1⟩ := h1.addr (by rw [List.length_set]; omega)
    injection e with e; injection e with e; subst e
    obtain ⟨y5, e5⟩ := hC1 n _ hf1 5 _ rfl
    obtain ⟨W2, hW2⟩ : ∃ W2, W1.setCell ⟨g, n * 7 + 5, none⟩ (.bool true) = W2 := ⟨_, rfl⟩
    have h2 := h1.set hf1 (j := 5) (f' := { f with kn := true, ca := true }) (v := .bool true) (by decide) rfl rfl rfl rfl
    rw [hW2, List.set_set] at h2
    have hC2 : Chg (fun b => fblk (some ⟨g, 0, none⟩) b ∨ D ≤ b) w W2 := by
      rw [← hW2, ← hW1]
      exact ((Chg.refl _ w).setCell (.inl (.inl rfl)) _).setCell (.inl (.inl rfl)) _
    have hgD : g < D := hD g (.inr (.inl rfl))
    have hCg : Chg (fun b => b = g) w W2 := by
      rw [← hW2, ← hW1]
      exact ((Chg.refl (fun b => b = g) w).setCell (p := ⟨g, n * 7 + 4, none⟩) (.inl rfl) _).setCell (p := ⟨g, n * 7 + 5, none⟩) (.inl rfl) _
    have hO2 : Owns W2 D 3 .i64 (.slice A xs.length c) xs := row_chg hO hCg (fun q hq (e : q = g) => by subst e; have := (hO.ge _ hq).1; omega)
    have hA := adv_set (S := S) (k := true) (c := true) hf (fun _ => rfl) (fun _ => rfl) (fun _ => rfl) (fun h0 k' c' hS => ⟨fun _ => (hs h0 k' c' hS).1, fun _ => (hs h0 k' c' hS).2⟩)
    have hU := unset_set F n f { f with kn := true, ca := true } hf
    have hK : kF (F.set n { f with kn := true, ca := true }) n = true := by
      have : (F.set n { f with kn := true, ca := true })[n]? = some { f with kn := true, ca := true } := by simp [hn]
      rw [kF_at this]
    have hD2 : ∀ b, kfoot p (some ⟨g, 0, none⟩) (F.set n { f with kn := true, ca := true }) b → b < D := fun b hb => hD b ((kfoot_adv hA b).1 hb)
    have HA := hid hA
    have HU : Hid (1 + unset (F.set n { f with kn := true, ca := true }) ≤ unset F) := hid (by rw [hk] at hU; simp at hU; omega)
    have HK := hid hK
    have HD2 := hid hD2
    have hz : D ≤ W2.heap.size := Nat.le_trans hDw hC2.size
    have hx8 : (xs.length + 1) * 8 ≤ 140737488355328 := by omega
    have HW1 := hid hW1
    have HW2 := hid hW2
    clear hCg h1 hf1 hC1 hA hU hK hD2 hW1 hW2 hs hD hf hC h hO hk hDw hx hn
    go_enter Try.func34, Try.ntmps34
    go_upto_region 5 with (fail)
    rw [HW1.out, HW2.out]
    clear x4 f4 x5 f5 y5 c1 HW1 HW2
    go_wp2_with (at_builtin; refine app_oneG rfl (.tmp 25) (.tmp 27) 23 rfl D 3 .i64 8 Try.underlying23 infIb (by decide) A xs.length c xs rfl hO2 n 1 rfl hx8 hz ?_; intro A' n' c' W3 hO3 hG3)
    go_ret
    have hv := fun q hq => (hO2.ge q hq).1
    refine ⟨A', n', c', _, [(n : Int)], rfl, HA.out, HU.out, ⟨HK.out, by simp⟩, hO3, h2.grew hG3 hv HD2.out, hC2.grown hG3.1 (fun q hq => .inl (.inr (hv q hq)))⟩
end Go.Proofs.Ytboofkmbjmnpeaa

/- A term is looked at: what can be told of it by now. -/
namespace Go.Proofs.Ytboofkmbjmnpeaa
open Go Go.RowKit Go.Maps

theorem AdvQ.from {S : (Nat → Bool) → (Nat → Bool) → Prop} {D p : Nat} {Af : Option Addr} {cf : Nat} {F : List Fa} {xs : List Int} {X Y : List Fa → List Int → Prop} {w0 w w' : World} {e : Ending} (hb : Below w0.heap.size w0 w) (h : AdvQ S D p Af cf F xs X w e w') (hX : ∀ F' new, Adv S F F' new → X F' new → Y F' new) : AdvQ S D p Af cf F xs Y w0 e w' := by
  obtain ⟨A', n', c', F', new, h1, h2, h3, h4, h5, h6, h7⟩ := h
  exact ⟨A', n', c', F', new, h1, h2, h3, hX F' new h2 h4, h5, h6, (Chg.of hb _).trans h7 (fun _ _ h => h)⟩
/-- Nothing was found. -/
theorem AdvQ.none {S : (Nat → Bool) → (Nat → Bool) → Prop} {D p : Nat} {Af : Option Addr} {cf : Nat} {F : List Fa} {A : Option Addr} {c : Nat} {xs : List Int} {X : List Fa → List Int → Prop} {w0 w : World} (hb : Below w0.heap.size w0 w) (hO : Owns w0 D 3 .i64 (.slice A xs.length c) xs) (h : KS w0 p Af cf F) (hX : X F []) : AdvQ S D p Af cf F xs X w0 (.returned (.slice A xs.length c)) w :=
  ⟨A, xs.length, c, F, [], rfl, Adv.refl S F, by simp, hX, by rw [List.append_nil]; exact hO.stay hb, h.next hb, Chg.of hb _⟩
section
variable {T : List T3} {G : Nat → Prop} {F : List Fa} {n : Nat} {f : Fa}
theorem clean_of (hF : FOK T F) (hf : F[n]? = some f) (h1 : f.ca = true ∨ mkB f.t (cF F) = false) (h2 : f.kn = false ∨ shB f.t f.key (cF F) = false) : Clean T F n := fun t ht => by
  obtain ⟨e1, e2⟩ := hF.tk n f hf
  obtain rfl : f.t = t := Option.some.inj (e1.symm.trans ht)
  rw [← e2, cF_at hf, kF_at hf]
  refine ⟨fun hm => ?_, fun hk hs => ?_⟩
  · rcases h1 with h | h
    · exact h
    · rw [hm] at h; cases h
  · rcases h2 with h | h
    · rw [hk] at h; cases h
    · rw [hs] at h; cases h
theorem look_wf (hW : WF T) (hF : FOK T F) (hf : F[n]? = some f) : Fits F.length f.t ∧ (f.t.1 = 4 ∨ f.t.1 = 5 → 0 ≤ f.key ∧ f.key < F.length) ∧ (shB f.t f.key (cF F) = true → 0 ≤ f.t.2.2 ∧ f.t.2.2 < F.length) := by
  obtain ⟨e1, e2⟩ := hF.tk n f hf
  have hl := get_lt hf
  have hl2 := hF.len
  obtain ⟨r1, r2⟩ := wf_refs hW e1
  refine ⟨wf_fits hW e1 (by omega), fun h => ?_, fun h => ?_⟩
  · have : isTwo f.t.1 = true := by
      simp only [isTwo, Bool.or_eq_true, beq_iff_eq]
      rcases h with h | h <;> simp [h]
    have := r2 this
    rw [e2]; omega
  · have : isTwo f.t.1 = true := by
      simp only [shB, isTwo, Bool.or_eq_true, Bool.and_eq_true] at h ⊢
      rcases h with ⟨h, _⟩ | h
      · exact .inl h
      · exact .inr h
    have := r2 this
    omega
end
set_option maxRecDepth 50000 in
set_option maxHeartbeats 4000000 in
theorem look_any (T : List T3) (G : Nat → Prop) (D p : Nat) (Af : Option Addr) (cf : Nat) (F : List Fa) (n : Nat) (f : Fa) (A : Option Addr) (c : Nat) (xs : List Int) (w : World) (hW : WF T) (hF : FOK T F) (hkc : ∀ i, kF F i = true → cF F i = true) (h : KS w p Af cf F) (hf : F[n]? = some f) (hD : ∀ b, kfoot p Af F b → b < D) (hDw : D ≤ w.heap.size)
    (hO : Owns w D 3 .i64 (.slice A xs.length c) xs) (hx : xs.length ≤ 1000) :
    Calls Try.prog 52 #[.pointer (some ⟨p, 0, none⟩), .int .i64 n, .slice A xs.length c] w (AdvQ (Closed T G) D p Af cf F xs (fun F' _ => Clean T F' n) w) := by
  have hn := get_lt hf
  obtain ⟨hfit, hkey, hB⟩ := look_wf hW hF hf
  obtain ⟨g, rfl, hgl, hcap, hcm, hgp, hC⟩ := h.addr (by omega)
  obtain ⟨x0, _⟩ := hC n f hf 0 _ rfl
  obtain ⟨x1, _⟩ := hC n f hf 1 _ rfl
  obtain ⟨x2, _⟩ := hC n f hf 2 _ rfl
  obtain ⟨x3, _⟩ := hC n f hf 3 _ rfl
  obtain ⟨x4, f4⟩ := hC n f hf 4 _ rfl
  obtain ⟨x5, f5⟩ := hC n f hf 5 _ rfl
  obtain ⟨x6, _⟩ := hC n f hf 6 _ rfl
  simp only [Nat.add_zero] at x0
  have c1 := h.c1
  have n0 : (0 : Int) ≤ n := by omega
  have n1 : (n : Int) < F.length := by omega
  have hgD : g < D := hD g (.inr (.inl rfl))
  obtain ⟨e1, e2⟩ := hF.tk n f hf
  cases hca : f.ca with
  | true =>
    rw [hca] at x5
    cases hkn : f.kn with
    | false =>
      rw [hkn] at x4
      have HQ := hid (AdvQ.none (S := Closed T G) (Below.refl _ w) hO h (X := fun F' _ => Clean T F' n) (clean_of hF hf (.inl hca) (.inl hkn)))
      clear hW hF hkc h hf hD hDw hO hx hn hfit hkey hB hC f4 f5 e1 e2 hca hkn x0 x1 x2 x3 x6 hgD
      go_enter Try.func52, Try.ntmps52
      go_wp2
      go_ret
      exact HQ.out
    | true =>
      rw [hkn] at x4
      cases hsh : shB f.t f.key (cF F) with
      | false =>
        have hsh2 := shows_any p cf _ F f false w h hkey hsh
        have HQ := hid (fun (w' : World) (hb : Below w.heap.size w w') => AdvQ.none (S := Closed T G) hb hO h (X := fun F' _ => Clean T F' n) (clean_of hF hf (.inl hca) (.inr hsh)))
        unfold Fa.val Fa.cells at hsh2
        rw [hca, hkn] at hsh2
        have HS := hid hsh2
        clear hsh2 hW hF hkc h hf hD hDw hO hx hn hfit hkey hB hC f4 f5 e1 e2 hca hkn hsh hgD
        go_enter Try.func52, Try.ntmps52
        go_wp2_with (go_at_call 53; refine HS.out.mono ?_; rintro e w2 ⟨rfl, hb2⟩)
        go_ret
        exact HQ.out _ hb2
      | true =>
        have hsh2 := shows_any p cf _ F f true w h hkey hsh
        unfold Fa.val Fa.cells at hsh2
        rw [hca, hkn] at hsh2
        have HS := hid hsh2
        obtain ⟨b0, b1⟩ := hB hsh
        obtain ⟨m, hm⟩ : ∃ m : Nat, f.t.2.2 = m := ⟨f.t.2.2.toNat, by omega⟩
        have hml : m < F.length := by omega
        have hfm : F[m]? = some F[m] := by simp [hml]
        have HQ := hid (fun (w' : World) (hb : Below w.heap.size w w') => know_any (Closed T G) D p _ cf F m F[m] A c xs w' (h.next hb) hfm hD (Nat.le_trans hDw hb.size) (hO.stay hb) hx (fun h0 k' c' hS => by
          have hk' : k' m = true := by
            have h9 := hS.sh n f.t e1 ((h0 k' c' hS).1 n (by rw [kF_at hf]; exact hkn)) (shB_mono (h0 k' c' hS).2 (by rw [← e2]; exact hsh))
            rw [hm] at h9; exact h9
          exact ⟨hk', hS.kc m hk'⟩))
        have HX : Hid (∀ F' new, Adv (Closed T G) F F' new → kF F' m = true → Clean T F' n) := hid fun F' new hA hk t ht => by
          obtain rfl : f.t = t := Option.some.inj (e1.symm.trans ht)
          refine ⟨fun _ => hA.cmono (by rw [cF_at hf]; exact hca), fun _ _ => ?_⟩
          rw [hm]; exact hk
        rw [hm] at x2
        rw [hm] at HS
        clear hsh2 hW hF hkc h hf hD hDw hO hx hn hfit hkey hB hC f4 f5 e1 e2 hca hkn hsh hfm hml hm b0 b1 hgD
        go_enter Try.func52, Try.ntmps52
        go_wp2_with (first
          | (go_at_call 53; refine HS.out.mono ?_; rintro e w2 ⟨rfl, hb2⟩; have y2 := cellB x2 hb2)
          | (go_at_call 34; refine (HQ.out _ hb2).mono ?_; rintro e w3 hq; have HQ3 := hid hq; obtain ⟨A', n', c', F', new, rfl, hrest⟩ := hq; clear hrest))
        go_ret
        refine AdvQ.from hb2 HQ3.out ?_
        intro F' new hA hX
        exact HX.out F' new hA hX.1
  | false =>
    rw [hca] at x5
    have hkn : f.kn = false := by
      cases hq : f.kn with
      | false => rfl
      | true =>
        have := hkc n (by rw [kF_at hf]; exact hq)
        rw [cF_at hf, hca] at this
        cases this
    rw [hkn] at x4
    cases hmk : mkB f.t (cF F) with
    | false =>
      have HS := hid (makes_any p cf _ F f.t false w h hfit hmk)
      unfold tv at HS
      have HQ := hid (fun (w' : World) (hb : Below w.heap.size w w') => AdvQ.none (S := Closed T G) hb hO h (X := fun F' _ => Clean T F' n) (clean_of hF hf (.inr hmk) (.inl hkn)))
      have HX4 : Hid (∀ w', Below w.heap.size w w' → w'.cell? ⟨g, n * 7 + 4, none⟩ = some (.bool false)) := hid fun w' hb => cellB x4 hb
      clear hW hF hkc h hf hD hDw hO hx hn hfit hkey hB hC f4 f5 e1 e2 hca hkn hmk x3 x6 hgD
      go_enter Try.func52, Try.ntmps52
      go_wp2_with (go_at_call 41; refine HS.out.mono ?_; rintro e w2 ⟨rfl, hb2⟩; have y4 := HX4.out _ hb2)
      go_ret
      exact HQ.out _ hb2
    | true =>
      have HS := hid (makes_any p cf _ F f.t true w h hfit hmk)
      unfold tv at HS
      have hA := adv_set (S := Closed T G) (k := f.kn) (c := true) hf id (fun _ => rfl) (fun _ => rfl) (fun h0 k' c' hS => ⟨fun hk => (by rw [hkn] at hk; cases hk), fun _ => hS.mak n f.t e1 (mkB_mono (h0 k' c' hS).2 hmk)⟩)
      have hU := unset_set F n f { f with ca := true } hf
      have hsn : (F.set n { f with ca := true })[n]? = some { f with ca := true } := by simp [hn]
      have hcl : Clean T (F.set n { f with ca := true }) n := fun t ht => by
        refine ⟨fun _ => by rw [cF_at hsn], fun hk => ?_⟩
        rw [kF_at hsn] at hk
        dsimp only at hk
        rw [hkn] at hk; cases hk
      have HQ : Hid (∀ (w2 W2 W3 : World) A' n' c', Below w.heap.size w w2 → w2.setCell ⟨g, n * 7 + 5, none⟩ (.bool true) = W2 → Owns W3 D 3 .i64 (.slice A' n' c') (xs ++ [(n : Int)]) → Grew W2 W3 (.slice A xs.length c) (.slice A' n' c') → AdvQ (Closed T G) D p (some ⟨g, 0, none⟩) cf F xs (fun F' _ => Clean T F' n) w (.returned (.slice A' n' c')) W3) := hid fun w2 W2 W3 A' n' c' hb hW2 hO3 hG3 => by
        have h2 := (h.next hb).set hf (j := 5) (f' := { f with ca := true }) (v := .bool true) (by decide) rfl rfl rfl rfl
        have hC2 : Chg (fun b => fblk (some ⟨g, 0, none⟩) b ∨ D ≤ b) w (w2.setCell ⟨g, n * 7 + 5, none⟩ (.bool true)) := (Chg.of hb _).setCell (.inl (.inl rfl)) _
        rw [hW2] at h2 hC2
        have hv : ∀ q, (Value.slice A xs.length c).ownBlock = some q → D ≤ q := fun q hq => (hO.ge q hq).1
        refine ⟨A', n', c', _, [(n : Int)], rfl, hA, ?_, hcl, hO3, h2.grew hG3 hv (fun b hb => hD b ((kfoot_adv hA b).1 hb)), hC2.grown hG3.1 (fun q hq => .inl (.inr (hv q hq)))⟩
        rw [hca] at hU; simp at hU ⊢; omega
      have HO2 : Hid (∀ (w2 W2 : World), Below w.heap.size w w2 → w2.setCell ⟨g, n * 7 + 5, none⟩ (.bool true) = W2 → Owns W2 D 3 .i64 (.slice A xs.length c) xs ∧ D ≤ W2.heap.size ∧ W2.cell? ⟨g, n * 7 + 4, none⟩ = some (.bool false)) := hid fun w2 W2 hb hW2 => by
        have hCg : Chg (fun b => b = g) w (w2.setCell ⟨g, n * 7 + 5, none⟩ (.bool true)) := (Chg.of hb (fun b => b = g)).setCell (p := ⟨g, n * 7 + 5, none⟩) (.inl rfl) _
        rw [hW2] at hCg
        refine ⟨row_chg hO hCg (fun q hq (e : q = g) => by subst e; have := (hO.ge _ hq).1; omega), Nat.le_trans hDw hCg.size, ?_⟩
        rw [← hW2]
        rw [show (w2.setCell ⟨g, n * 7 + 5, none⟩ (.bool true)).cell? ⟨g, n * 7 + 4, none⟩ = w2.cell? ⟨g, n * 7 + 4, none⟩ from cell_set_other (by omega)]
        exact cellB x4 hb
      have HX4 : Hid (∀ w', Below w.heap.size w w' → w'.cell? ⟨g, n * 7 + 4, none⟩ = some (.bool false) ∧ w'.cell? ⟨g, n * 7 + 5, none⟩ = some (.bool false) ∧ w'.frozen? ⟨g, n * 7 + 5, none⟩ = false) := hid fun w' hb => ⟨cellB x4 hb, cellB x5 hb, by
        have := hb.block g hgl
        exact (World.frozen?_of_block (a := ⟨g, n * 7 + 5, none⟩) this).trans f5⟩
      have HN : Hid ((Value.slice A xs.length c).ownBlock ≠ some g ∧ g < w.heap.size) := hid ⟨fun e => by have := (hO.ge g e).1; omega, hgl⟩
      have hx8 : (xs.length + 1) * 8 ≤ 140737488355328 := by omega
      clear hW hF hkc h hf hD hDw hO hx hn hfit hkey hB hC f4 f5 e1 e2 hca hkn hmk x3 x6 hgD hA hU hsn hcl
      go_enter Try.func52, Try.ntmps52
      go_upto_region 4 with (go_at_call 41; refine HS.out.mono ?_; rintro e w2 ⟨rfl, hb2⟩; obtain ⟨y4, y5, y6⟩ := HX4.out _ hb2)
      obtain ⟨W2, hW2⟩ : ∃ W2, w2.setCell ⟨g, n * 7 + 5, none⟩ (.bool true) = W2 := ⟨_, rfl⟩
      rw [hW2]
      have HW2 := hid hW2
      obtain ⟨hO2, hz2, z4⟩ := HO2.out w2 W2 hb2 hW2
      clear hW2 y4 y5 y6 x0 x1 x2 x4 x5 c1 HX4 HO2 HS
      go_upto_region 5 with (at_builtin; refine app_oneG rfl (.tmp 30) (.tmp 32) 23 rfl D 3 .i64 8 Try.underlying23 infIb (by decide) A xs.length c xs rfl hO2 n 1 rfl hx8 hz2 ?_; intro A' n' c' W3 hO3 hG3)
      have z43 : W3.cell? ⟨g, n * 7 + 4, none⟩ = some (.bool false) := by
        have hlt : g < W2.heap.size := by
          rw [← HW2.out]
          exact Nat.lt_of_lt_of_le HN.out.2 (by simpa [World.setCell] using hb2.size)
        exact (hG3.cell (p := ⟨g, n * 7 + 4, none⟩) hlt HN.out.1).trans z4
      have HO3 := hid hO3
      have HG3 := hid hG3
      clear hO3 hG3 z4 hO2
      go_wp2
      go_ret
      exact HQ.out _ _ _ _ _ _ hb2 HW2.out HO3.out HG3.out
end Go.Proofs.Ytboofkmbjmnpeaa
