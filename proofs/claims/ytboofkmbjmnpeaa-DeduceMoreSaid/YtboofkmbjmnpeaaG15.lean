/- Texts of this proof, laid together: DFollow, DMore. -/
import Derived.Test.YtboofkmbjmnpeaaG14
import Derived.Deep.LoopGhost
import Derived.WalkMore
/- All that follows from what was found is found. -/
namespace Go.Proofs.Ytboofkmbjmnpeaa
open Go Go.RowKit Go.Maps

/-- What holds between the rounds: the facts so far, and what is still to be followed. -/
structure FW (T : List T3) (G : Nat → Prop) (D p : Nat) (Af : Option Addr) (cf : Nat) (F : List Fa) (A : Option Addr) (c : Nat) (ps : List Int) (i : Nat) (F' : List Fa) (w wr : World) : Prop where
  adv : ∃ new, Adv (Closed T G) F F' new
  cnt : ps.length + unset F' ≤ 1000
  row : LR D wr A c ps
  ks : KS wr p Af cf F'
  chg : Chg (fun b => fblk Af b ∨ D ≤ b) w wr
  rng : ∀ x ∈ ps, 0 ≤ x ∧ x < T.length
  pend : Pend T F' (ps.drop i)
/-- What it leaves. -/
def FollowQ (T : List T3) (G : Nat → Prop) (D p : Nat) (Af : Option Addr) (cf : Nat) (F : List Fa) (w : World) (w' : World) : Prop :=
  ∃ F' new, Adv (Closed T G) F F' new ∧ (∀ m, m < T.length → Clean T F' m) ∧ KS w' p Af cf F' ∧ Chg (fun b => fblk Af b ∨ D ≤ b) w w'
section
variable {T : List T3} {G : Nat → Prop} {D p : Nat} {Af A A2 : Option Addr} {cf c c2 n2 : Nat} {F F' F2 : List Fa} {ps new2 : List Int} {i : Nat} {x : Int} {w wr w2 : World}
theorem FW.done (h : FW T G D p Af cf F A c ps ps.length F' w wr) : FollowQ T G D p Af cf F w wr := by
  obtain ⟨new, hA⟩ := h.adv
  have hp := h.pend
  rw [List.drop_length] at hp
  exact ⟨F', new, hA, hp.clean, h.ks, h.chg⟩
theorem drop_at' {α : Type} {l : List α} {i : Nat} {x : α} (h : l[i]? = some x) : l.drop i = x :: l.drop (i + 1) := by
  obtain ⟨hl, e⟩ := List.getElem?_eq_some_iff.1 h
  rw [List.drop_eq_getElem_cons hl, e]
/-- Nothing new was found. -/
theorem FW.none (hW : WF T) (hF : FOK T F) (h : FW T G D p Af cf F A c ps i F' w wr) (hx : ps[i]? = some x) (hA : Adv (Closed T G) F' F2 []) (hl : ∀ m, m < T.length → looks F' x m → Clean T F2 m ∨ ∃ q ∈ ([] : List Int), looks F' q m) (hK : KS w2 p Af cf F2) (hC : Chg (fun b => fblk Af b ∨ D ≤ b) wr w2) (hR : LR D w2 A c ps) : FW T G D p Af cf F A c ps (i + 1) F' w w2 := by
  obtain ⟨new, hA1⟩ := h.adv
  have hp := h.pend
  rw [drop_at' hx] at hp
  have h2 := pend_next hW (hF.adv hA1) hA hp hl
  rw [List.append_nil] at h2
  obtain rfl := hA.nothing
  exact ⟨⟨new, hA1⟩, h.cnt, hR, hK, h.chg.trans hC (fun _ _ e => e), h.rng, h2⟩
/-- Something new was found: a round more. -/
theorem FW.more {A3 : Option Addr} {c3 : Nat} {w3 : World} (hW : WF T) (hF : FOK T F) (h : FW T G D p Af cf F A c ps i F' w wr) (hx : ps[i]? = some x) (hA : Adv (Closed T G) F' F2 new2) (hc : new2.length + unset F2 ≤ unset F') (hl : ∀ m, m < T.length → looks F' x m → Clean T F2 m ∨ ∃ q ∈ new2, looks F' q m) (hK : KS w3 p Af cf F2) (hC : Chg (fun b => fblk Af b ∨ D ≤ b) wr w3) (hR : LR D w3 A3 c3 (ps.drop (i + 1) ++ new2)) : FW T G D p Af cf F A3 c3 (ps.drop (i + 1) ++ new2) 0 F2 w w3 := by
  obtain ⟨new, hA1⟩ := h.adv
  have hp := h.pend
  rw [drop_at' hx] at hp
  have h2 := pend_next hW (hF.adv hA1) hA hp hl
  have hcn := h.cnt
  have hF1 := hF.adv hA1
  refine ⟨⟨_, hA1.trans hA⟩, ?_, hR, hK, h.chg.trans hC (fun _ _ e => e), fun y hy => ?_, by rw [List.drop_zero]; exact h2⟩
  · rw [List.length_append, List.length_drop]; omega
  · rcases List.mem_append.1 hy with h3 | h3
    · exact h.rng y (List.mem_of_mem_drop h3)
    · have := hA.rng y h3
      rw [hF1.len] at this; exact this
end
set_option maxRecDepth 50000 in
set_option maxHeartbeats 4000000 in
theorem follow_any (T : List T3) (G : Nat → Prop) (D p : Nat) (Af : Option Addr) (cf : Nat) (F : List Fa) (A : Option Addr) (c n : Nat) (xs : List Int) (w : World) (hW : WF T) (hF : FOK T F) (hkc : ∀ i, kF F i = true → cF F i = true) (hD : ∀ b, kfoot p Af F b → b < D) (hDw : D ≤ w.heap.size)
    (hn : n = xs.length) (hI : FW T G D p Af cf F A c xs 0 F w w) :
    Calls Try.prog 35 #[.pointer (some ⟨p, 0, none⟩), .slice A n c] w (fun e w' => (∃ v, e = .returned v) ∧ FollowQ T G D p Af cf F w w') := by
  have HN := hid hn
  -- a round of the inner loop
  have HR : Hid (∀ A c ps i F' wr, i < ps.length → FW T G D p Af cf F A c ps i F' w wr → ∃ (b off m : Nat), A = some ⟨b, off, none⟩ ∧ wr.cell? ⟨b, off + i, none⟩ = some (.int .i64 (m : Int)) ∧
      Calls Try.prog 47 #[.pointer (some ⟨p, 0, none⟩), .int .i64 m] wr (fun e w2 => ∃ A2 n2 c2, e = .returned (.slice A2 n2 c2) ∧
        ((n2 = 0 ∧ FW T G D p Af cf F A c ps (i + 1) F' w w2) ∨
         (0 < n2 ∧ ∃ A1 c1 ys, (∀ w', (Instr.sliceAt 23 (.slice A ps.length c) (some (.int .i64 ((i : Int) + 1))) none none).run Try.prog w' = .ok (.slice A1 (ps.length - (i + 1)) c1) w') ∧ LR D w2 A1 c1 (ps.drop (i + 1)) ∧ n2 = ys.length ∧ Nums w2 .i64 A2 ys ∧ ps.length - (i + 1) + ys.length ≤ 1000 ∧ D ≤ w2.heap.size ∧
           ∀ A3 c3 w3, LR D w3 A3 c3 (ps.drop (i + 1) ++ ys) → Chg (fun b => D ≤ b) w2 w3 → ∃ F2, unset F2 < unset F' ∧ FW T G D p Af cf F A3 c3 (ps.drop (i + 1) ++ ys) 0 F2 w w3)))) := hid fun A c ps i F' wr hi hI => by
    obtain ⟨new, hA1⟩ := hI.adv
    have hF1 := hF.adv hA1
    obtain ⟨b, off, x, rfl, hbl, hcell, hx⟩ := hI.row.nums.get hi
    obtain ⟨s0, s1⟩ := hI.rng x (List.mem_of_getElem? hx.out)
    obtain ⟨m, rfl⟩ : ∃ m : Nat, x = m := ⟨x.toNat, by omega⟩
    have hml : m < F'.length := by rw [hF1.len]; omega
    refine ⟨b, off, m, rfl, hcell, ?_⟩
    have hcn := hI.cnt
    have hD2 : ∀ b, kfoot p Af F' b → b < D := fun b hb => hD b ((kfoot_adv hA1 b).1 hb)
    have hDr : D ≤ wr.heap.size := Nat.le_trans hDw hI.chg.size
    refine (follows_any T G wr.heap.size p Af cf F' m F'[m] wr hW hF1 (hA1.kc hkc) hI.ks (by simp [hml]) (fun b hb => Nat.lt_of_lt_of_le (hD2 b hb) hDr) (Nat.le_refl _) (by omega)).mono ?_
    rintro e w2 ⟨A2, n2, c2, F2, new2, rfl, hA2, hc2, hl2, hO2, hK2, hC2⟩
    rw [List.nil_append] at hO2
    have hn2 := hO2.len3
    have hC3 : Chg (fun b => fblk Af b ∨ D ≤ b) wr w2 := hC2.sub (fun b _ e => e.imp id (fun h => Nat.le_trans hDr h))
    have hR2 : LR D w2 (some ⟨b, off, none⟩) c ps := hI.row.chg hC2 (fun a ha e => by
      injection ha with ha; subst ha
      have hbD : D ≤ b := by
        rcases hI.row with ⟨h1, _⟩ | ⟨g, o, e, h1, _⟩
        · cases h1
        · injection e with e; injection e with e; subst e; exact h1
      rcases e with e | e
      · have := hD b (.inr (.inl e)); omega
      · have e : wr.heap.size ≤ b := e
        omega)
    refine ⟨A2, n2, c2, rfl, ?_⟩
    by_cases h0 : n2 = 0
    · refine .inl ⟨h0, ?_⟩
      obtain rfl : new2 = [] := List.eq_nil_of_length_eq_zero (by omega)
      exact hI.none hW hF hx.out hA2 hl2 hK2 hC3 hR2
    · obtain ⟨A1, c1, hsl, hR1⟩ := hR2.cut (l := i + 1) (by omega)
      refine .inr ⟨by omega, A1, c1, new2, by simpa using hsl, hR1, hn2, hO2.nums, by omega, Nat.le_trans hDr hC3.size, fun A3 c3 w3 hR3 hC4 => ⟨F2, by omega, ?_⟩⟩
      have hA12 := hA1.trans hA2
      refine hI.more hW hF hx.out hA2 hc2 hl2 (hK2.chg hC4 (fun b hb e => ?_)) (hC3.trans hC4 (fun _ _ e => .inr e)) hR3
      have := hD b ((kfoot_adv hA12 b).1 hb)
      have e : D ≤ b := e
      omega
  have HE : Hid (∀ A c ps F' wr, FW T G D p Af cf F A c ps ps.length F' w wr → FollowQ T G D p Af cf F w wr) := hid fun A c ps F' wr h => h.done
  have hI0 := hid (And.intro hI (show xs.length ≤ 1000 by have := hI.cnt; omega))
  have HU : Hid (∀ A c ps i F' wr, FW T G D p Af cf F A c ps i F' w wr → ps.length ≤ 1000) := hid fun A c ps i F' wr h => by have := h.cnt; omega
  clear hW hF hkc hD hDw hI hn
  go_enter Try.func35, Try.ntmps35
  go_wp2
  go_step3
  go_wp2
  go_step3
  go_wp2
  go_loopg [1] (unset F + 1) (fun g s1 wy => ∃ (A' : Option Addr) (n' c' : Nat) (ps : List Int) (F' : List Fa), s1 = .slice A' n' c' ∧ Aside (n' = ps.length ∧ unset F' < g) ∧ n' ≤ 1000 ∧ FW T G D p Af cf F A' c' ps 0 F' w wy)
  case atStart => exact ⟨A, n, c, xs, F, rfl, ⟨HN.out, Nat.lt_succ_self _⟩, by rw [HN.out]; exact hI0.out.2, hI0.out.1⟩
  case round =>
    obtain ⟨A', n', c', ps, F', rfl, HG, hn1, hI⟩ := hrel
    clear hI0
    have hn2 : (n' : Int) ≤ 1000 := by omega
    go_wp2
    go_loopg [1, 9] n' (fun g2 s1 s9 wz => ∃ (i : Nat), s1 = .slice A' n' c' ∧ s9 = .int .i64 i ∧ i ≤ n' ∧ Aside (i + g2 = n') ∧ FW T G D p Af cf F A' c' ps i F' w wz)
    case atStart => exact ⟨0, rfl, rfl, Nat.zero_le _, Nat.zero_add _, hI⟩
    case round =>
      clear hI
      obtain ⟨i, rfl, rfl, hi, HI, hI⟩ := hrel
      by_cases hlt : i < n'
      · obtain ⟨b, off, m, rfl, hcell, hcall⟩ := HR.out A' c' ps i F' _ (by have := HG.out.1; omega) hI
        have hlt' : (i : Int) < n' := by omega
        have i0 : (0 : Int) ≤ i := by omega
        have HC := hid hcall
        clear hI HR HE hlt hcall
        go_upto_region 4 with (go_at_call 47; refine HC.out.mono ?_; rintro e w2 ⟨A2, n2, c2, rfl, hcase⟩)
        rcases hcase with ⟨rfl, hI2⟩ | ⟨hpos, A1, c1, ys, hsl, hR1, hn2y, hN, hle, hD2, hnext⟩
        · have hi1 : i + 1 ≤ n' := by omega
          go_wp2
          go_roundg (n' - (i + 1))
          case measure => have := HI.out; omega
          case rel => exact ⟨i + 1, rfl, by go_num, hi1, (by show i + 1 + (n' - (i + 1)) = n'; omega), hI2⟩
        · have hpos' : (0 : Int) < n2 := by omega
          have HNX := hid hnext
          have hi1 : (i : Int) + 1 ≤ 1000 := by omega
          have hnl : n' - (i + 1) = (ps.drop (i + 1)).length := by rw [List.length_drop, ← HG.out.1]
          rw [← HG.out.1] at hsl
          have HNL := hid hnl
          have hys : 0 < ys.length := by omega
          have hle2 : (ps.drop (i + 1)).length + ys.length ≤ 1000 := by rw [List.length_drop]; exact hle
          have HY := hid (And.intro hn2y (And.intro hys hle2))
          clear hnext hpos hcell HC hnl hle hn2y hys hle2
          go_wp2_with (at_builtin; refine wpList_appL rfl (.tmp 23) (.tmp 24) rfl hR1 HNL.out rfl rfl HY.out.1 hN HY.out.2.1 HY.out.2.2 hD2 ?_; intro A3 n3 c3 w3 hn3 hR3 hC3; have HN3 := hid hn3; clear hn3)
          obtain ⟨F2, hU2, hI3⟩ := HNX.out A3 c3 w3 hR3 hC3
          clear hR3 hC3 HNX hR1 hN HY HNL hsl
          go_wp2
          go_roundg (unset F')
          case measure => exact HG.out.2
          case rel => exact ⟨A3, n3, c3, _, F2, rfl, ⟨HN3.out, hU2⟩, by rw [HN3.out]; exact HU.out _ _ _ _ _ _ hI3, hI3⟩
      · have e : i = n' := by omega
        subst e
        have h9 : FollowQ T G D p Af cf F w wr := HE.out _ _ _ _ _ (by rw [← HG.out.1]; exact hI)
        go_wp2
        rw [Exit.noGoto_ret]
        refine bodyPost_ret (results_none rfl _ _ _) rfl ?_
        exact ⟨⟨_, rfl⟩, h9⟩
end Go.Proofs.Ytboofkmbjmnpeaa

/- More is given. -/
namespace Go.Proofs.Ytboofkmbjmnpeaa
open Go Go.RowKit Go.Maps

/-- What is known and can be made of terms, at rest. -/
structure KR (T : List T3) (G : Nat → Prop) (w : World) (p : Nat) (Af : Option Addr) (cf : Nat) (F : List Fa) : Prop where
  ok : FOK T F
  least : Least T G (kF F) (cF F)
  ks : KS w p Af cf F
/-- What is given. -/
def Gv (gs : List Int) (i : Nat) : Prop := (i : Int) ∈ gs
/-- What is given, and more. -/
def Wth (G : Nat → Prop) (xs : List Int) (i : Nat) : Prop := G i ∨ (i : Int) ∈ xs
section
variable {T : List T3} {G : Nat → Prop} {p : Nat} {Af : Option Addr} {cf : Nat} {F F' F2 : List Fa} {new new2 : List Int} {w w' : World}
theorem KR.next (h : KR T G w p Af cf F) (hb : Below w.heap.size w w') : KR T G w' p Af cf F := ⟨h.ok, h.least, h.ks.next hb⟩
theorem KR.clean (h : KR T G w p Af cf F) (m : Nat) : Clean T F m := fun t ht => ⟨fun hm => h.least.1.mak m t ht hm, fun hk hs => h.least.1.sh m t ht hk hs⟩
theorem KR.pend (h : KR T G w p Af cf F) : Pend T F [] := fun m _ => .inl (h.clean m)
end
/-- What holds while what is given is taken up. -/
structure MI (T : List T3) (G : Nat → Prop) (D p : Nat) (Af : Option Addr) (cf : Nat) (F : List Fa) (xs : List Int) (j : Nat) (v : Value) (F' : List Fa) (new : List Int) (w wr : World) : Prop where
  adv : Adv (Closed T (Wth G xs)) F F' new
  cnt : new.length + unset F' ≤ unset F
  own : Owns wr D 3 .i64 v new
  ks : KS wr p Af cf F'
  chg : Chg (fun b => fblk Af b ∨ D ≤ b) w wr
  got : ∀ i : Nat, (i : Int) ∈ xs.take j → kF F' i = true
section
variable {T : List T3} {G : Nat → Prop} {D p : Nat} {Af A : Option Addr} {cf c n : Nat} {F F' F2 : List Fa} {xs new new2 : List Int} {v v' : Value} {j : Nat} {w wr w2 : World}
theorem MI.step (h : MI T G D p Af cf F xs j v F' new w wr) {m : Nat} (hm : xs[j]? = some (m : Int)) (hA : Adv (Closed T (Wth G xs)) F' F2 new2) (hc : new2.length + unset F2 ≤ unset F') (hk : kF F2 m = true) (hO : Owns w2 D 3 .i64 v' (new ++ new2)) (hK : KS w2 p Af cf F2) (hC : Chg (fun b => fblk Af b ∨ D ≤ b) wr w2) : MI T G D p Af cf F xs (j + 1) v' F2 (new ++ new2) w w2 := by
  refine ⟨h.adv.trans hA, ?_, hO, hK, h.chg.trans hC (fun _ _ e => e), fun i hi => ?_⟩
  · have := h.cnt
    rw [List.length_append]; omega
  · rw [List.take_add_one, hm] at hi
    simp only [Option.toList_some, List.mem_append, List.mem_singleton] at hi
    rcases hi with h1 | h1
    · exact hA.kmono (h.got i h1)
    · obtain rfl : i = m := by omega
      exact hk
theorem MI.follow (hW : WF T) (hK : KR T G w p Af cf F) (hU : unset F ≤ 1000) (h : MI T G D p Af cf F xs xs.length (.slice A n c) F' new w wr) : n = new.length ∧ FW T (Wth G xs) D p Af cf F' A c new 0 F' wr wr := by
  refine ⟨h.own.len3, ⟨[], Adv.refl _ _⟩, by have := h.cnt; omega, lr_own h.own, h.ks, Chg.refl _ _, fun x hx => ?_, ?_⟩
  · have := h.adv.rng x hx
    rw [hK.ok.len] at this; exact this
  · have := pend_adv hW hK.ok h.adv hK.pend
    rw [List.nil_append] at this
    rw [List.drop_zero]; exact this
theorem MI.done (hK : KR T G w p Af cf F) (h : MI T G D p Af cf F xs xs.length v F' new w wr) (hQ : FollowQ T (Wth G xs) D p Af cf F' wr w2) : ∃ F2, KR T (Wth G xs) w2 p Af cf F2 ∧ (∃ n2, Adv (Closed T (Wth G xs)) F F2 n2) ∧ Chg (fun b => fblk Af b ∨ D ≤ b) w w2 := by
  obtain ⟨F2, n2, hA2, hcl, hK2, hC2⟩ := hQ
  have hA := h.adv.trans hA2
  refine ⟨F2, ⟨hK.ok.adv hA, least_of (hK.ok.adv hA) (fun i hi => ?_) (hA.kc hK.least.1.kc) hcl (hA.sound fun k' c' hS => hK.least.2 k' c' (hS.less fun i hi => hS.giv i (.inl hi))), hK2⟩, ⟨_, hA⟩, h.chg.trans hC2 (fun _ _ e => e)⟩
  rcases hi with h1 | h1
  · exact hA.kmono (hK.least.1.giv i h1)
  · exact hA2.kmono (h.got i (by rw [List.take_length]; exact h1))
end
set_option maxRecDepth 50000 in
set_option maxHeartbeats 4000000 in
theorem more_yes (T : List T3) (G : Nat → Prop) (p : Nat) (Af : Option Addr) (cf : Nat) (F : List Fa) (A : Option Addr) (c n : Nat) (xs : List Int) (w : World) (hW : WF T) (hK : KR T G w p Af cf F) (hn : n = xs.length) (hA : Nums w .i64 A xs) (hAp : 0 < xs.length → ∀ g o sp, A = some ⟨g, o, sp⟩ → ¬ fblk Af g) (hx : ∀ x ∈ xs, 0 ≤ x ∧ x < T.length) (hl : xs.length ≤ 200) (hT : T.length ≤ 100) :
    Calls Try.prog 19 #[.pointer (some ⟨p, 0, none⟩), .slice A n c] w fun e w' => e = .returned (.int .i64 0) ∧ ∃ F2, KR T (Wth G xs) w' p Af cf F2 ∧ (∃ n2, Adv (Closed T (Wth G xs)) F F2 n2) ∧ Chg (fun b => fblk Af b ∨ w.heap.size ≤ b) w w' := by
  have HN := hid hn
  have c0 := hK.ks.c0
  have c1 := hK.ks.c1
  have hD : ∀ b, kfoot p Af F b → b < w.heap.size := hK.ks.lt
  have hU : unset F ≤ 1000 := by have := unset_le F; have := hK.ok.len; omega
  have hn1 : (n : Int) ≤ 200 := by omega
  -- a round of the first loop
  have HR1 : Hid (∀ j, j < n → ∃ b off x, A = some ⟨b, off, none⟩ ∧ w.cell? ⟨b, off + j, none⟩ = some (.int .i64 x) ∧ Calls Try.prog 32 #[.pointer (some ⟨p, 0, none⟩), .int .i64 x] w fun e w' => e = .returned (.bool true) ∧ w = w') := hid fun j hj => by
    obtain ⟨b, off, x, h1, _, h2, h3⟩ := hA.get (i := j) (by omega)
    obtain ⟨s0, s1⟩ := hx x (List.mem_of_getElem? h3.out)
    exact ⟨b, off, x, h1, h2, covers_any p F.length cf Af x true w c0 c1 (hid (decide_eq_true ⟨s0, by rw [hK.ok.len]; exact s1⟩).symm)⟩
  -- a round of the second
  have HR2 : Hid (∀ j A' n' c' F' new wr, j < n → MI T G w.heap.size p Af cf F xs j (.slice A' n' c') F' new w wr → ∃ (b off m : Nat), A = some ⟨b, off, none⟩ ∧ wr.cell? ⟨b, off + j, none⟩ = some (.int .i64 (m : Int)) ∧
      Calls Try.prog 34 #[.pointer (some ⟨p, 0, none⟩), .int .i64 m, .slice A' n' c'] wr (fun e w2 => ∃ A2 n2 c2 F2 new2, e = .returned (.slice A2 n2 c2) ∧ MI T G w.heap.size p Af cf F xs (j + 1) (.slice A2 n2 c2) F2 new2 w w2)) := hid fun j A' n' c' F' new wr hj hI => by
    have hA2 := nums_chg hA hI.chg (fun g o sp e k => by
      rcases k with k | k
      · exact hAp (by omega) g o sp e k
      · obtain ⟨b, off, e2, hlt, _⟩ := hA (by omega)
        rw [e] at e2
        injection e2 with e2; injection e2 with e2
        have k : w.heap.size ≤ g := k
        omega)
    obtain ⟨b, off, x, h1, _, h2, h3⟩ := hA2.get (i := j) (by omega)
    have hmem := List.mem_of_getElem? h3.out
    obtain ⟨s0, s1⟩ := hx x hmem
    obtain ⟨m, rfl⟩ : ∃ m : Nat, x = m := ⟨x.toNat, by omega⟩
    refine ⟨b, off, m, h1, h2, ?_⟩
    have hml : m < F'.length := by rw [hI.adv.len, hK.ok.len]; omega
    have hn' := hI.own.len3
    subst hn'
    refine (know_any (Closed T (Wth G xs)) w.heap.size p Af cf F' m F'[m] A' c' new wr hI.ks (by simp [hml]) (fun b hb => hD b ((kfoot_adv hI.adv b).1 hb)) hI.chg.size hI.own (by have := hI.cnt; omega) (fun _ k' c' hS => ⟨hS.giv m (.inr hmem), hS.kc m (hS.giv m (.inr hmem))⟩)).mono ?_
    rintro e w2 ⟨A2, n2, c2, F2, new2, rfl, hA3, hc2, hk2, hO2, hK2, hC2⟩
    exact ⟨A2, n2, c2, F2, new ++ new2, rfl, hI.step h3.out hA3 hc2 hk2.1 hO2 hK2 hC2⟩
  have HF : Hid (∀ A' n' c' F' new wr, MI T G w.heap.size p Af cf F xs n (.slice A' n' c') F' new w wr → Calls Try.prog 35 #[.pointer (some ⟨p, 0, none⟩), .slice A' n' c'] wr (fun e w2 => (∃ v, e = .returned v) ∧ ∃ F2, KR T (Wth G xs) w2 p Af cf F2 ∧ (∃ n2, Adv (Closed T (Wth G xs)) F F2 n2) ∧ Chg (fun b => fblk Af b ∨ w.heap.size ≤ b) w w2)) := hid fun A' n' c' F' new wr hI => by
    rw [hn] at hI
    obtain ⟨h1, h2⟩ := hI.follow hW hK hU
    refine (follow_any T (Wth G xs) w.heap.size p Af cf F' A' c' n' new wr hW (hK.ok.adv hI.adv) (hI.adv.kc hK.least.1.kc) (fun b hb => hD b ((kfoot_adv hI.adv b).1 hb)) hI.chg.size h1 h2).mono ?_
    rintro e w2 ⟨hv, hQ⟩
    exact ⟨hv, hI.done hK hQ⟩
  have HM := hid (show MI T G w.heap.size p Af cf F xs 0 (.slice none 0 0) F [] w w from ⟨Adv.refl _ _, by simp, Owns.none_ _ _ _ _, hK.ks, Chg.refl _ _, fun i hi => by simp at hi⟩)
  have hex := kexists_any p w c0
  clear hn hW hK hA hAp hx hl hT hD hU c1
  go_enter Try.func19, Try.ntmps19
  go_upto_region 4 with (go_at_call 33; refine hex.mono ?_; rintro e w2 ⟨rfl, rfl⟩)
  go_loopw [15] (fun v wr => ∃ j : Nat, j ≤ n ∧ v = .int .i64 j ∧ Hid (w = wr)) (fun v _ => n - (intOf v).toNat)
  case atStart => exact ⟨0, Nat.zero_le _, rfl, by first | exact hid rfl | exact hid trivial⟩
  case round =>
    obtain ⟨j, hj, rfl, HWW⟩ := hrel
    obtain rfl := HWW.out
    clear HWW
    by_cases hlt : j < n
    · obtain ⟨b, off, x, rfl, hcell, hcall⟩ := HR1.out j hlt
      have hlt' : (j : Int) < n := by omega
      have j0 : (0 : Int) ≤ j := by omega
      have j1 : j + 1 ≤ n := by omega
      clear hlt hj HR2 HF HM
      go_wp2_with (go_at_call 32; refine hcall.mono ?_; rintro e w2 ⟨rfl, rfl⟩)
      go_roundw
      case rel => exact ⟨j + 1, j1, by go_num, by first | exact hid rfl | exact hid trivial⟩
      case measure => simp [intOf]; omega
    · obtain rfl : n = j := by omega
      clear HR1 hlt hj
      go_wp2
      go_loopw [7, 26] (fun u v wy => ∃ (j : Nat) (A' : Option Addr) (n' c' : Nat) (F' : List Fa) (new : List Int), j ≤ n ∧ u = .slice A' n' c' ∧ v = .int .i64 j ∧ MI T G w.heap.size p Af cf F xs j (.slice A' n' c') F' new w wy) (fun _ v _ => n - (intOf v).toNat)
      case atStart => exact ⟨0, none, 0, 0, F, [], Nat.zero_le _, rfl, rfl, HM.out⟩
      case round =>
        obtain ⟨j, A', n', c', F', new, hj, rfl, rfl, hI⟩ := hrel
        clear HM
        by_cases hlt : j < n
        · obtain ⟨b, off, m, rfl, hcell, hcall⟩ := HR2.out j A' n' c' F' new _ hlt hI
          have hlt' : (j : Int) < n := by omega
          have j0 : (0 : Int) ≤ j := by omega
          have j1 : j + 1 ≤ n := by omega
          clear hlt hj HR2 HF hI
          go_wp2_with (go_at_call 34; refine hcall.mono ?_; rintro e w2 ⟨A2, n2, c2, F2, new2, rfl, hI2⟩)
          go_roundw
          case rel => exact ⟨j + 1, A2, n2, c2, F2, new2, j1, rfl, by go_num, hI2⟩
          case measure => simp [intOf]; omega
        · obtain rfl : n = j := by omega
          have hcall := HF.out A' n' c' F' new _ hI
          clear HR2 HF hI hlt hj
          go_wp2_with (go_at_call 35; refine hcall.mono ?_; rintro e w2 ⟨⟨v, rfl⟩, hQ⟩)
          go_ret
          exact ⟨rfl, hQ⟩
set_option maxRecDepth 50000 in
set_option maxHeartbeats 4000000 in
theorem more_no (p : Nat) (Af : Option Addr) (cf : Nat) (F : List Fa) (A : Option Addr) (c n : Nat) (xs : List Int) (w : World) (h : KS w p Af cf F) (hn : n = xs.length) (hA : Nums w .i64 A xs) (hx : ¬ ∀ x ∈ xs, 0 ≤ x ∧ x < F.length) (hl : xs.length ≤ 200) :
    Calls Try.prog 19 #[.pointer (some ⟨p, 0, none⟩), .slice A n c] w fun e w' => e = .returned (.int .i64 2) ∧ w = w' := by
  have c0 := h.c0
  have c1 := h.c1
  have hn1 : (n : Int) ≤ 200 := by omega
  have HR1 : Hid (∀ j, j < n → ∃ b off x, A = some ⟨b, off, none⟩ ∧ w.cell? ⟨b, off + j, none⟩ = some (.int .i64 x) ∧ xs[j]? = some x ∧ ∀ r, r = decide (0 ≤ x ∧ x < F.length) → Calls Try.prog 32 #[.pointer (some ⟨p, 0, none⟩), .int .i64 x] w fun e w' => e = .returned (.bool r) ∧ w = w') := hid fun j hj => by
    obtain ⟨b, off, x, h1, _, h2, h3⟩ := hA.get (i := j) (by omega)
    exact ⟨b, off, x, h1, h2, h3.out, fun r hr => covers_any p F.length cf Af x r w c0 c1 (hid hr)⟩
  have HX := hid hx
  have HN := hid hn
  have hex := kexists_any p w c0
  clear hn h hA hx hl c1
  go_enter Try.func19, Try.ntmps19
  go_upto_region 4 with (go_at_call 33; refine hex.mono ?_; rintro e w2 ⟨rfl, rfl⟩)
  go_loopw [15] (fun v wr => ∃ j : Nat, j ≤ n ∧ v = .int .i64 j ∧ Hid (w = wr) ∧ Hid (∀ x ∈ xs.take j, 0 ≤ x ∧ x < F.length)) (fun v _ => n - (intOf v).toNat)
  case atStart => exact ⟨0, Nat.zero_le _, rfl, by first | exact hid rfl | exact hid trivial, hid fun x hx => by simp at hx⟩
  case round =>
    obtain ⟨j, hj, rfl, HWW, HJ⟩ := hrel
    obtain rfl := HWW.out
    clear HWW
    by_cases hlt : j < n
    · obtain ⟨b, off, x, rfl, hcell, hxj, hcall⟩ := HR1.out j hlt
      have hlt' : (j : Int) < n := by omega
      have j0 : (0 : Int) ≤ j := by omega
      have j1 : j + 1 ≤ n := by omega
      have HXJ := hid hxj
      clear hlt hj hxj
      by_cases hd : 0 ≤ x ∧ x < F.length
      · have hc := hcall true (decide_eq_true hd).symm
        have HJ2 : Hid (∀ x ∈ xs.take (j + 1), 0 ≤ x ∧ x < F.length) := hid fun y hy => by
          rw [List.take_add_one, HXJ.out] at hy
          simp only [Option.toList_some, List.mem_append, List.mem_singleton] at hy
          rcases hy with h1 | h1
          · exact HJ.out y h1
          · rw [h1]; exact hd
        clear hcall hd
        go_wp2_with (go_at_call 32; refine hc.mono ?_; rintro e w2 ⟨rfl, rfl⟩)
        go_roundw
        case rel => exact ⟨j + 1, j1, by go_num, by first | exact hid rfl | exact hid trivial, HJ2⟩
        case measure => simp [intOf]; omega
      · have hc := hcall false (decide_eq_false hd).symm
        clear hcall hd
        go_wp2_with (go_at_call 32; refine hc.mono ?_; rintro e w2 ⟨rfl, rfl⟩)
        go_ret
        exact ⟨rfl, rfl⟩
    · exfalso
      refine HX.out fun x hx => HJ.out x ?_
      rw [List.take_of_length_le (by have := HN.out; omega)]
      exact hx
set_option maxRecDepth 50000 in
set_option maxHeartbeats 4000000 in
theorem more_nil (A : Option Addr) (c n : Nat) (w : World) :
    Calls Try.prog 19 #[.pointer none, .slice A n c] w fun e w' => e = .returned (.int .i64 1) ∧ w = w' := by
  go_enter Try.func19, Try.ntmps19
  go_wp2_with (go_at_call 33; refine (kexists_nil _).mono ?_; rintro e w2 ⟨rfl, rfl⟩)
  go_ret
  exact ⟨rfl, rfl⟩
end Go.Proofs.Ytboofkmbjmnpeaa
