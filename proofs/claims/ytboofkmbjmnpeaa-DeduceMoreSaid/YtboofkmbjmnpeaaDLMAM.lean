/- What the law of more given goes by. -/
import Derived.Test.YtboofkmbjmnpeaaDLOpensM
namespace Go.Proofs.Ytboofkmbjmnpeaa
open Go Go.RowKit Go.Maps

section
variable {L : List T3} {G G' : Nat → Prop} {p cf p' cf' : Nat} {Af Af' : Option Addr} {F F' : List Fa} {w w' w0 W : World}
theorem KR.same (h : KR L G w p Af cf F) (hG : ∀ i, G i ↔ G' i) : KR L G' w p Af cf F := ⟨h.ok, h.least.same hG, h.ks⟩
theorem KR.eq (h : KR L G w p Af cf F) (h' : KR L G' w' p' Af' cf' F') (hG : ∀ i, G i ↔ G' i) : kF F = kF F' := ((h.least.same hG).unique h'.least).1
theorem KR.nofblk (h : KR L G w p Af cf F) : ∀ b, fblk Af b → b < w.heap.size := fun b hb => h.ks.lt b (.inr (.inl hb))
theorem NumsF.chgF {lo : Nat} {k : IntKind} {A : Option Addr} {xs : List Int} {H : Nat → Prop} (h : NumsF lo w k A xs) (hc : Chg H w w') (hG : ∀ b, lo ≤ b → b < w.heap.size → ¬ H b) : NumsF lo w' k A xs := fun hp => by
  obtain ⟨b, off, e, h1, h2, h3⟩ := h hp
  exact ⟨b, off, e, h1, Nat.lt_of_lt_of_le h2 hc.size, fun i hi => (cell_same (hc.block b h2 (hG b h1 h2))).trans (h3 i hi)⟩
/-- One more is given. -/
theorem more_one {x : Int} (hW : WF L) (hK : KR L G w p Af cf F) (hx : 0 ≤ x ∧ x < L.length) (hL : L.length ≤ 30) (hb : Below w0.heap.size w0 w) (hf : ∀ b, fblk Af b → w0.heap.size ≤ b) (hG : ∀ i : Nat, (G i ∨ (i : Int) = x) ↔ G' i) :
    Calls Try.prog 19 #[.pointer (some ⟨p, 0, none⟩), .slice (some ⟨w.heap.size, 0, none⟩) 1 1] (w.alloc (.cells #[.int .i64 x] 3)) fun e w' => e = .returned (.int .i64 0) ∧ (∃ F2, KR L G' w' p Af cf F2) ∧ Below w0.heap.size w0 w' := by
  have hb1 := below_new w (.cells #[.int .i64 x] 3)
  refine (more_yes L G p Af cf F _ 1 1 [x] _ hW (hK.next hb1) rfl (nums_one w .i64 x 3) (fun _ g o sp he hfg => ?_) (by simpa using hx) (by simp) (by omega)).mono ?_
  · injection he with he
    injection he with h1
    have := hK.nofblk _ hfg
    omega
  · rintro e w' ⟨he, F2, hK2, _, hC⟩
    refine ⟨he, ⟨F2, hK2.same fun i => ?_⟩, (hb.trans (Below.mono hb1 hb.size)).trans (hC.below (Nat.le_trans hb.size hb1.size) fun b h => ?_)⟩
    · rw [← hG i]; simp [Wth]
    · rcases h with h | h
      · exact hf b h
      · exact Nat.le_trans (Nat.le_trans hb.size hb1.size) h
/-- What is known, listed. -/
theorem list_kr (h : KR L G w p Af cf F) (hL : L.length ≤ 30) {xs : List Int} {n : Nat} (hx : fl (kF F) L.length = xs) (hn : n = xs.length) (hb : Below w.heap.size w W) :
    Calls Try.prog 18 #[.pointer (some ⟨p, 0, none⟩)] W fun e w' => ∃ A3 c3, e = .returned (.slice A3 n c3) ∧ NumsF W.heap.size w' .i64 A3 xs ∧ Below W.heap.size W w' :=
  (list_any p Af cf F W (h.ks.next hb) (by rw [h.ok.len]; omega)).mono fun e w' ⟨A3, n3, c3, h1, h2, h3⟩ => by
    rw [h.ok.len, hx] at h2
    have h4 := h2.len3
    rw [← hn] at h4
    subst h4
    exact ⟨A3, c3, h1, h2.fresh, h3⟩
/-- More is given, of a row that lies elsewhere. -/
theorem more_args {gs hs : List Int} {B : Option Addr} {n d : Nat} (hW : WF L) (hK : KR L (Gv gs) w p Af cf F) (hn : n = hs.length) (hB : Nums w0 .i64 B hs) (hb : Below w0.heap.size w0 w) (hf : ∀ b, fblk Af b → w0.heap.size ≤ b) (hx : ∀ x ∈ hs, 0 ≤ x ∧ x < L.length) (hl : hs.length ≤ 30) (hL : L.length ≤ 30) :
    Calls Try.prog 19 #[.pointer (some ⟨p, 0, none⟩), .slice B n d] w fun e w' => e = .returned (.int .i64 0) ∧ ∃ F2, KR L (Wth (Gv gs) hs) w' p Af cf F2 ∧ (∀ i, kF F i = true → kF F2 i = true) ∧ Chg (fun b => fblk Af b ∨ w.heap.size ≤ b) w w' := by
  refine (more_yes L (Gv gs) p Af cf F B d n hs w hW hK hn (hB.below hb) (fun hp g o sp he hfg => ?_) hx (by omega) (by omega)).mono ?_
  · obtain ⟨b, off, e, hlt, _⟩ := hB hp
    rw [e] at he
    injection he with he
    injection he with h1
    have := hf g hfg
    omega
  · rintro e w' ⟨he, F2, hK2, _, hC⟩
    exact ⟨he, F2, hK2, (hK.least.more hK2.least fun i h => .inl h).1, hC⟩
/-- Something is given of a store. -/
theorem from_kr {Fc : Nat → Prop} {X : List (List Int)} {q n c : Nat} {B : Option Addr} {xs : List Int} (hW : WF L) (hC : CS Fc w q L X) (hL : L.length ≤ 30) (hb : Below w.heap.size w W) (hn : n = xs.length) (hN : Nums W .i64 B xs) (hr : ∀ x ∈ xs, 0 ≤ x ∧ x < L.length) (hl : xs.length ≤ 200) :
    Calls Try.prog 7 #[.pointer (some ⟨q, 0, none⟩), .slice B n c] W fun e w' => ∃ pk A c F, e = .returned (.tuple #[.pointer (some ⟨pk, 0, none⟩), .int .i64 0]) ∧ KR L (Gv xs) w' pk A c F ∧ (∀ b, kfoot pk A F b → W.heap.size ≤ b) ∧ Below W.heap.size W w' :=
  (from_any Fc q L X B n c xs W hW (hC.next hb) hn hN hL hl).mono fun _ _ h => fromQ_yes hr h
/-- What is known, given again, makes the same known. -/
theorem KR.again (h : KR L G w p Af cf F) (h' : KR L (Gv (fl (kF F) L.length)) w' p' Af' cf' F') : kF F' = kF F :=
  ((h'.least.same fun i => by
    constructor
    · intro hi
      obtain ⟨k, e, _, hk⟩ := fl_mem.1 hi
      have : i = k := by omega
      rw [this]; exact hk
    · intro hi
      exact fl_mem.2 ⟨i, rfl, by have := kF_lt hi; rw [h.ok.len] at this; exact this, hi⟩).unique h.least.again).1
end
/-- What the law has at hand once more is given. -/
structure LM (L : List T3) (gs hs xs : List Int) (Fc : Nat → Prop) (q : Nat) (X : List (List Int)) (p : Nat) (Af : Option Addr) (cf : Nat) (F : List Fa) (w : World) : Prop where
  wf : WF L
  cs : CS Fc w q L X
  l30 : L.length ≤ 30
  kr : KR L (Wth (Gv gs) hs) w p Af cf F
  kx : fl (kF F) L.length = xs
  g : ∀ x ∈ gs, 0 ≤ x ∧ x < L.length
  h : ∀ x ∈ hs, 0 ≤ x ∧ x < L.length
  gl : gs.length ≤ 30
  hl : hs.length ≤ 30
theorem take_next {xs : List Int} {j : Nat} {x : Int} (hx : xs[j]? = some x) (y : Int) : (y ∈ xs.take j ∨ y = x) ↔ y ∈ xs.take (j + 1) := by
  rw [List.take_add_one, hx]
  simp
theorem rev_at {xs : List Int} {j k : Nat} {x : Int} (hj : j + k + 1 = xs.length) (hx : xs[k]? = some x) : xs.reverse[j]? = some x := by
  rw [List.getElem?_reverse (by omega)]
  rw [show xs.length - 1 - j = k by omega]
  exact hx
end Go.Proofs.Ytboofkmbjmnpeaa
