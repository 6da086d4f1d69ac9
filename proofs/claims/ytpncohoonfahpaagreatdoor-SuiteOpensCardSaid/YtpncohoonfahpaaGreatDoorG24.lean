/- Texts of this proof, laid together: ULawB, UTI. -/
import Derived.Test.YtpncohoonfahpaaGreatDoorULawAM
/- What do leaves: a value of the right term, or an error where it is one. -/
namespace Go.Proofs.YtpncohoonfahpaaGreatDoor
open Go Go.RowKit

/-- Where there is an error. -/
def Bad (kind a : Int) (L : List T3) (x y : Option Nat) : Prop :=
  (kind = 1 ∧ ¬ (1 ≤ a ∧ a ≤ 4)) ∨ (2 ≤ kind ∧ kind ≤ 8 ∧ x = none) ∨ ((kind = 4 ∨ kind = 5) ∧ y = none) ∨ (kind = 4 ∧ ∃ (n : Nat) (k a b : Int), x = some n ∧ L[n]? = some (k, a, b) ∧ k ≠ 2)
/-- What stands in the store. -/
def Right (kind a : Int) (x y : Option Nat) (tx : List Int) (L : List T3) (X : List (List Int)) (n : Nat) : Prop :=
  if kind = 1 then ∃ b : Int, L[n]? = some (1, a, b)
  else if kind = 2 ∨ kind = 3 ∨ kind = 6 ∨ kind = 7 then ∃ m : Nat, x = some m ∧ L[n]? = some (kind, (m : Int), 0)
  else if kind = 4 ∨ kind = 5 then ∃ m k : Nat, x = some m ∧ y = some k ∧ L[n]? = some (kind, (m : Int), (k : Int))
  else if kind = 8 then ∃ m : Nat, x = some m ∧ IsSg m tx L X n
  else if kind = 9 then IsTx tx L X n
  else IsDg tx L X n
def DoP (F : Nat → Prop) (w : World) (q p : Nat) (L : List T3) (X : List (List Int)) (kind a : Int) (x y : Option Nat) (tx : List Int) (v : Value) (er : Int) (w' : World) : Prop :=
  (v = .slice none 0 0 ∧ (er != 0) = true ∧ Bad kind a L x y ∧ ∃ F', Su F' w' q p L X ∧ (∀ b, F' b → Grw F w w' b) ∧ Chg F w w') ∨
  (er = 0 ∧ ∃ A c n L' X', v = .slice A 9 c ∧ Mv F w q p L L' X X' A c n w' ∧ Right kind a x y tx L' X' n ∧ L'.length ≤ L.length + 2 ∧ X'.length ≤ X.length + 1)
section
variable {F : Nat → Prop} {w w1 w' : World} {q p : Nat} {L : List T3} {X : List (List Int)} {kind a : Int} {x y : Option Nat} {tx : List Int} {v : Value} {er : Int}
set_option maxRecDepth 50000 in
theorem Grw.back {b : Nat} (hb : Below w.heap.size w w1) (h : Grw F w1 w' b) : Grw F w w' b := by
  rcases h with e | e
  · exact .inl e
  · exact .inr ⟨Nat.le_trans hb.size e.1, e.2⟩
set_option maxRecDepth 50000 in
theorem DoP.back (hb : Below w.heap.size w w1) (h : DoP F w1 q p L X kind a x y tx v er w') : DoP F w q p L X kind a x y tx v er w' := by
  rcases h with ⟨h1, h2, h3, F', h4, h5, h6⟩ | ⟨h1, A, c, n, L', X', h2, h3, h4⟩
  · exact .inl ⟨h1, h2, h3, F', h4, fun b hf => (h5 b hf).back hb, (Chg.of hb F).trans h6 (fun _ _ h => h)⟩
  · exact .inr ⟨h1, A, c, n, L', X', h2, h3.back hb, h4⟩
set_option maxRecDepth 50000 in
theorem bad_of {k : Int} (hk : (k != 0) = true) (hB : Bad kind a L x y) (h : Su F w q p L X) {e : Ending} (hQ : BadQ w k e w') : ∃ v er, e = .returned (.tuple #[v, .int .i64 er]) ∧ DoP F w q p L X kind a x y tx v er w' :=
  ⟨_, _, hQ.1, .inl ⟨rfl, hk, hB, F, h.next hQ.2, fun _ hf => .inl hf, Chg.of hQ.2 F⟩⟩
set_option maxRecDepth 50000 in
theorem put_of {t : T3} (hR : ∀ L' : List T3, ∀ n : Nat, L'[n]? = some t → Right kind a x y tx L' X n) {e : Ending} (hQ : PutQ F w q p L X t e w') : ∃ v er, e = .returned (.tuple #[v, .int .i64 er]) ∧ DoP F w q p L X kind a x y tx v er w' := by
  obtain ⟨A, c, n, L', he, hM, hn, hl⟩ := hQ
  exact ⟨_, _, he, .inr ⟨rfl, A, c, n, L', X, rfl, hM, hR L' n hn, by omega, by omega⟩⟩
set_option maxRecDepth 50000 in
theorem txt_of {P : List T3 → List (List Int) → Nat → Prop} (hR : ∀ (L' : List T3) X' (n : Nat), P L' X' n → Right kind a x y tx L' X' n) {e : Ending} (hQ : TxQ F w q p L X tx P e w') : ∃ v er, e = .returned (.tuple #[v, .int .i64 er]) ∧ DoP F w q p L X kind a x y tx v er w' := by
  obtain ⟨A, c, n, L', X', he, hM, hP, hl, hl2⟩ := hQ
  exact ⟨_, _, he, .inr ⟨rfl, A, c, n, L', X', rfl, hM, hR L' X' n hP, hl, hl2⟩⟩
end
set_option maxRecDepth 50000 in
/-- What do leaves, whatever the kind. -/
theorem do_any (F : Nat → Prop) (q p B : Nat) (L : List T3) (X : List (List Int)) (kind a b : Int) (A : Option Addr) (c : Nat) (tx : List Int) (va vb : Value) (x y : Option Nat) (w : World)
    (h : Su F w q p L X) (hx : Vl w va x) (hy : Vl w vb y) (hxl : ∀ n, x = some n → n < L.length) (hyl : ∀ n, y = some n → n < L.length) (hat : Atoms L) (hb : TByt tx) (h100 : tx.length ≤ 100) (hA : NumsD B w .u8 A tx) (hB : B ≤ w.heap.size) (hF : ∀ b, F b → B ≤ b) (hL : L.length ≤ 38) (hX : X.length ≤ 38) :
    Calls Tryz.prog 44 #[.pointer (some ⟨q, 0, none⟩), .agg #[.int .i64 kind, .int .i64 a, .int .i64 b, .slice A tx.length c], va, vb] w fun e w' => ∃ v er, e = .returned (.tuple #[v, .int .i64 er]) ∧ DoP F w q p L X kind a x y tx v er w' := by
  have hS := fun W (hW : Below w.heap.size w W) => h.next hW
  have hxW := fun W (hW : Below w.heap.size w W) => hx.next hW
  have hyW := fun W (hW : Below w.heap.size w W) => hy.next hW
  have hAW := fun W (hW : Below w.heap.size w W) => hA.stay (Below.mono hW hB)
  have hBW := fun W (hW : Below w.heap.size w W) => Nat.le_trans hB hW.size
  have bk : ∀ {W e w'}, Below w.heap.size w W → (∃ v er, e = Ending.returned (.tuple #[v, .int .i64 er]) ∧ DoP F W q p L X kind a x y tx v er w') → ∃ v er, e = Ending.returned (.tuple #[v, .int .i64 er]) ∧ DoP F w q p L X kind a x y tx v er w' := fun hW ⟨v, er, he, hP⟩ => ⟨v, er, he, hP.back hW⟩
  by_cases h1 : kind = 1
  · subst h1
    refine do_draw q a b A tx.length c va vb w (DoP F w q p L X 1 a x y tx) fun W hW => ?_
    by_cases hs : 1 ≤ a ∧ a ≤ 4
    · refine (drawT_ok F q p L X a W (hS W hW) hs hat (by omega) (by omega)).mono fun e w' ⟨A, c, b, L', he, hM, hL'⟩ => bk hW ⟨_, _, he, .inr ⟨rfl, A, c, L.length, L', X, rfl, hM, ?_, by rw [hL']; simp, by omega⟩⟩
      rw [Right, if_pos rfl, hL']
      exact ⟨b, get_new L _⟩
    · refine (drawT_bad F q p L X a W (hS W hW) hs (by omega) (by omega)).mono fun e w' ⟨he, hs', hC⟩ => bk hW ⟨_, _, he, .inl ⟨rfl, by decide, .inl ⟨rfl, hs⟩, _, hs', fun _ h => h, hC⟩⟩
  by_cases h2 : kind = 2
  · subst h2
    refine do_public q a b A tx.length c va vb w (DoP F w q p L X 2 a x y tx) fun W hW => ?_
    cases x with
    | some n => exact (public_ok F q p L X va n W (hS W hW) (hxW W hW) (hxl n rfl) (by omega)).mono fun e w' hQ => bk hW (put_of (fun L' i hi => by rw [Right, if_neg (by decide), if_pos (by decide)]; exact ⟨n, rfl, hi⟩) hQ)
    | none => exact (public_bad F q p L X va W (hS W hW) (hxW W hW) (by omega)).mono fun e w' hQ => bk hW (bad_of (by decide) (.inr (.inl ⟨by decide, by decide, rfl⟩)) (hS W hW) hQ)
  by_cases h3 : kind = 3
  · subst h3
    refine do_verifier q a b A tx.length c va vb w (DoP F w q p L X 3 a x y tx) fun W hW => ?_
    cases x with
    | some n => exact (verifier_ok F q p L X va n W (hS W hW) (hxW W hW) (hxl n rfl) (by omega)).mono fun e w' hQ => bk hW (put_of (fun L' i hi => by rw [Right, if_neg (by decide), if_pos (by decide)]; exact ⟨n, rfl, hi⟩) hQ)
    | none => exact (verifier_bad F q p L X va W (hS W hW) (hxW W hW) (by omega)).mono fun e w' hQ => bk hW (bad_of (by decide) (.inr (.inl ⟨by decide, by decide, rfl⟩)) (hS W hW) hQ)
  by_cases h6 : kind = 6
  · subst h6
    refine do_next q a b A tx.length c va vb w (DoP F w q p L X 6 a x y tx) fun W hW => ?_
    cases x with
    | some n => exact (next_ok F q p L X va n W (hS W hW) (hxW W hW) (hxl n rfl) (by omega)).mono fun e w' hQ => bk hW (put_of (fun L' i hi => by rw [Right, if_neg (by decide), if_pos (by decide)]; exact ⟨n, rfl, hi⟩) hQ)
    | none => exact (next_bad F q p L X va W (hS W hW) (hxW W hW) (by omega)).mono fun e w' hQ => bk hW (bad_of (by decide) (.inr (.inl ⟨by decide, by decide, rfl⟩)) (hS W hW) hQ)
  by_cases h7 : kind = 7
  · subst h7
    refine do_item q a b A tx.length c va vb w (DoP F w q p L X 7 a x y tx) fun W hW => ?_
    cases x with
    | some n => exact (item_ok F q p L X va n W (hS W hW) (hxW W hW) (hxl n rfl) (by omega)).mono fun e w' hQ => bk hW (put_of (fun L' i hi => by rw [Right, if_neg (by decide), if_pos (by decide)]; exact ⟨n, rfl, hi⟩) hQ)
    | none => exact (item_bad F q p L X va W (hS W hW) (hxW W hW) (by omega)).mono fun e w' hQ => bk hW (bad_of (by decide) (.inr (.inl ⟨by decide, by decide, rfl⟩)) (hS W hW) hQ)
  by_cases h4 : kind = 4
  · subst h4
    refine do_wrap q a b A tx.length c va vb w (DoP F w q p L X 4 a x y tx) fun W hW => ?_
    cases x with
    | none => exact (wrap_none F q p L X va vb W (hS W hW) (hxW W hW) (by omega)).mono fun e w' hQ => bk hW (bad_of (by decide) (.inr (.inl ⟨by decide, by decide, rfl⟩)) (hS W hW) hQ)
    | some n =>
      have hn := hxl n rfl
      obtain ⟨⟨k, a', b'⟩, ht⟩ : ∃ t, L[n]? = some t := ⟨L[n], by simp [hn]⟩
      by_cases hk : k = 2
      · subst hk
        cases y with
        | none => exact (wrap_in F q p L X va vb n a' b' W (hS W hW) (hxW W hW) (hyW W hW) ht (by omega)).mono fun e w' hQ => bk hW (bad_of (by decide) (.inr (.inr (.inl ⟨.inl rfl, rfl⟩))) (hS W hW) hQ)
        | some m => exact (wrap_ok F q p L X va vb n m a' b' W (hS W hW) (hxW W hW) (hyW W hW) ht (hyl m rfl) (by omega)).mono fun e w' hQ => bk hW (put_of (fun L' i hi => by rw [Right, if_neg (by decide), if_neg (by decide), if_pos (by decide)]; exact ⟨n, m, rfl, rfl, hi⟩) hQ)
      · exact (wrap_else F q p L X va vb n k a' b' W (hS W hW) (hxW W hW) ht (bne_iff_ne.2 hk) (by omega)).mono fun e w' hQ => bk hW (bad_of (by decide) (.inr (.inr (.inr ⟨rfl, n, k, a', b', rfl, ht, hk⟩))) (hS W hW) hQ)
  by_cases h5 : kind = 5
  · subst h5
    refine do_lock q a b A tx.length c va vb w (DoP F w q p L X 5 a x y tx) fun W hW => ?_
    by_cases hxy : x = none ∨ y = none
    · refine (lock_bad F q p L X va vb x y W (hS W hW) (hxW W hW) (hyW W hW) hxl hyl hxy (by omega)).mono fun e w' hQ => bk hW (bad_of (by decide) ?_ (hS W hW) hQ)
      rcases hxy with e | e
      · exact .inr (.inl ⟨by decide, by decide, e⟩)
      · exact .inr (.inr (.inl ⟨.inr rfl, e⟩))
    · cases x with
      | none => exact absurd (.inl rfl) hxy
      | some n =>
        cases y with
        | none => exact absurd (.inr rfl) hxy
        | some m => exact (lock_ok F q p L X va vb n m W (hS W hW) (hxW W hW) (hyW W hW) (hxl n rfl) (hyl m rfl) (by omega)).mono fun e w' hQ => bk hW (put_of (fun L' i hi => by rw [Right, if_neg (by decide), if_neg (by decide), if_pos (by decide)]; exact ⟨n, m, rfl, rfl, hi⟩) hQ)
  by_cases h8 : kind = 8
  · subst h8
    refine do_sign q a b A tx.length c va vb w (DoP F w q p L X 8 a x y tx) fun W hW => ?_
    cases x with
    | none => exact (sign_bad F q p L X va _ W (hS W hW) (hxW W hW) (by omega)).mono fun e w' hQ => bk hW (bad_of (by decide) (.inr (.inl ⟨by decide, by decide, rfl⟩)) (hS W hW) hQ)
    | some n => exact (sign_ok F q p L X B va n A c tx W (hS W hW) (hxW W hW) (hxl n rfl) hb h100 (hAW W hW) (hBW W hW) hF (by omega) (by omega)).mono fun e w' hQ => bk hW (txt_of (fun L' X' i hi => by rw [Right, if_neg (by decide), if_neg (by decide), if_neg (by decide), if_pos rfl]; exact ⟨n, rfl, hi⟩) hQ)
  by_cases h9 : kind = 9
  · subst h9
    refine do_data q a b A tx.length c va vb w (DoP F w q p L X 9 a x y tx) fun W hW => ?_
    exact (data_any F q p L X B A c tx W (hS W hW) hb h100 (hAW W hW) (hBW W hW) hF (by omega) (by omega)).mono fun e w' hQ => bk hW (txt_of (fun L' X' i hi => by rw [Right, if_neg (by decide), if_neg (by decide), if_neg (by decide), if_neg (by decide), if_pos rfl]; exact hi) hQ)
  refine do_digest q a b A tx.length c va vb w (DoP F w q p L X kind a x y tx) kind (fun i hi1 hi9 => by omega) fun W hW => ?_
  exact (digest_any F q p L X B A c tx W (hS W hW) hb h100 (hAW W hW) (hBW W hW) hF (by omega) (by omega)).mono fun e w' hQ => bk hW (txt_of (fun L' X' i hi => by rw [Right, if_neg h1, if_neg (by omega), if_neg (by omega), if_neg h8, if_neg h9]; exact hi) hQ)
end Go.Proofs.YtpncohoonfahpaaGreatDoor

/- The suite and the values so far, between the rounds. -/
namespace Go.Proofs.YtpncohoonfahpaaGreatDoor
open Go Go.RowKit

structure TI (F : Nat → Prop) (w0 : World) (q p : Nat) (ns : List Nat) (L : List T3) (X : List (List Int)) (rv : Value) (ps : List Part) (w : World) : Prop where
  su : Su F w q p L X
  row : OwnsP w w0.heap.size rv ps
  vs : IsVs w ps ns
  lt : ∀ m ∈ ns, m < L.length
  at' : Atoms L
  bel : Below w0.heap.size w0 w
  fb : ∀ b, F b → w0.heap.size ≤ b
  qb : w0.heap.size ≤ q
  rap : ∀ g, rv.ownBlock = some g → ¬ F g ∧ g ≠ q
  pap : ∀ pq ∈ ps, ∀ g o s, pq.1 = some ⟨g, o, s⟩ → g < w.heap.size ∧ ¬ F g ∧ rv.ownBlock ≠ some g
section
variable {F F' : Nat → Prop} {w0 w w' : World} {q p : Nat} {ns : List Nat} {L L' : List T3} {X X' : List (List Int)} {rv : Value} {ps : List Part}
set_option maxRecDepth 50000 in
theorem TI.next (h : TI F w0 q p ns L X rv ps w) (hb : Below w.heap.size w w') : TI F w0 q p ns L X rv ps w' :=
  ⟨h.su.next hb, h.row.stay hb, h.vs.next hb, h.lt, h.at', h.bel.trans (Below.mono hb h.bel.size), h.fb, h.qb, h.rap, fun pq hp g o s e => by
    obtain ⟨h1, h2⟩ := h.pap pq hp g o s e
    exact ⟨Nat.lt_of_lt_of_le h1 hb.size, h2⟩⟩
set_option maxRecDepth 50000 in
theorem IsVs.chg {G : Nat → Prop} (h : IsVs w ps ns) (hc : Chg G w w') (hG : ∀ pq ∈ ps, ∀ g o s, pq.1 = some ⟨g, o, s⟩ → ¬ G g) : IsVs w' ps ns :=
  ⟨h.len, fun i pq hi => by
    obtain ⟨m, h1, h2, h3, h4, h5⟩ := h.each i pq hi
    refine ⟨m, h1, h2, h3, h4, fun hp => ?_⟩
    obtain ⟨b, off, e, hlt, hcl⟩ := h5 hp
    have hg := hG pq (List.mem_of_getElem? hi) b off none e
    exact ⟨b, off, e, Nat.lt_of_lt_of_le hlt hc.size, fun j hj => (hc.cell (a := ⟨b, off + j, none⟩) hlt hg).trans (hcl j hj)⟩⟩
set_option maxRecDepth 50000 in
/-- The store has turned. -/
theorem TI.turn (h : TI F w0 q p ns L X rv ps w) (hS : Su F' w' q p L' X') (hF : ∀ b, F' b → Grw F w w' b) (hc : Chg F w w') (hL : L.length ≤ L'.length) (ha : Atoms L') : TI F' w0 q p ns L' X' rv ps w' := by
  have hs := h.bel.size
  refine ⟨hS, row_chg h.row hc (fun g hg => (h.rap g hg).1), h.vs.chg hc (fun pq hp g o s e => (h.pap pq hp g o s e).2.1), fun m hm => Nat.lt_of_lt_of_le (h.lt m hm) hL, ha, h.bel.trans (hc.below hs h.fb), fun b hb => ?_, h.qb, fun g hg => ⟨fun hf => ?_, (h.rap g hg).2⟩, fun pq hp g o s e => ?_⟩
  · rcases hF b hb with e | e
    · exact h.fb b e
    · omega
  · rcases hF g hf with e | e
    · exact (h.rap g hg).1 e
    · have := (h.row.lt g hg).2; omega
  · obtain ⟨h1, h2, h3⟩ := h.pap pq hp g o s e
    refine ⟨Nat.lt_of_lt_of_le h1 hc.size, fun hf => ?_, h3⟩
    rcases hF g hf with e | e
    · exact h2 e
    · omega
set_option maxRecDepth 50000 in
theorem TI.made {A : Option Addr} {c n : Nat} (h : TI F w0 q p ns L X rv ps w) (hM : Mv F w q p L L' X X' A c n w') : ∃ F', TI F' w0 q p ns L' X' rv ps w' ∧ Nums w' .u8 A (valL n) ∧ n < L'.length ∧ 9 ≤ c ∧ (∀ g o s, A = some ⟨g, o, s⟩ → g < w'.heap.size ∧ ¬ F' g ∧ rv.ownBlock ≠ some g) := by
  obtain ⟨F', h1, h2, h3⟩ := hM.up
  refine ⟨F', h.turn h1 h2 hM.chg hM.more (hM.at' h.at'), hM.num.nums, hM.lt, hM.cap, fun g o s e => ?_⟩
  obtain ⟨b, off, e2, hlo, hlt, _⟩ := hM.num (by rw [valL_len]; omega)
  rw [e2] at e
  injection e with e
  injection e with e1 _ _
  subst e1
  exact ⟨hlt, h3 b off none e2, fun hr => by have := (h.row.lt b hr).2; omega⟩
set_option maxRecDepth 50000 in
/-- A value has been appended. -/
theorem TI.app {A : Option Addr} {c n : Nat} {rv' : Value} (h : TI F w0 q p ns L X rv ps w) (hn : n < L.length) (hn40 : n ≤ 40) (hN : Nums w .u8 A (valL n)) (hc : 9 ≤ c) (hA : ∀ g o s, A = some ⟨g, o, s⟩ → g < w.heap.size ∧ ¬ F g ∧ rv.ownBlock ≠ some g)
    (hO : OwnsP w' w0.heap.size rv' (ps ++ [(A, c, valL n)])) (hG : Grew w w' rv rv') : TI F w0 q p (ns ++ [n]) L X rv' (ps ++ [(A, c, valL n)]) w' := by
  have hC : Chg (fun b => rv.ownBlock = some b) w w' := (Chg.refl _ w).grown hG.1 (fun g hg => .inl hg)
  have hV : IsVs w (ps ++ [(A, c, valL n)]) (ns ++ [n]) := by
    refine ⟨by rw [List.length_append, List.length_append, h.vs.len]; rfl, fun i pq hi => ?_⟩
    rcases get_app hi with h1 | ⟨rfl, rfl⟩
    · obtain ⟨m, k1, k2⟩ := h.vs.each i pq h1
      exact ⟨m, get_old k1, k2⟩
    · exact ⟨n, by rw [h.vs.len]; exact get_new ns n, hn40, rfl, hc, hN⟩
  have hap : ∀ pq ∈ ps ++ [(A, c, valL n)], ∀ g o s, pq.1 = some ⟨g, o, s⟩ → g < w.heap.size ∧ ¬ F g ∧ rv.ownBlock ≠ some g := fun pq hp g o s e => by
    rcases List.mem_append.1 hp with h1 | h1
    · exact h.pap pq h1 g o s e
    · rw [List.mem_singleton.1 h1] at e
      exact hA g o s e
  refine ⟨h.su.chg hC (fun b hb e => (h.rap b e).1 hb) (fun e => (h.rap q e).2 rfl), hO, hV.chg hC (fun pq hp g o s e => (hap pq hp g o s e).2.2), fun m hm => ?_, h.at', h.bel.trans (hC.below h.bel.size (fun b e => (h.row.lt b e).1)), h.fb, h.qb, fun g hg => ?_, fun pq hp g o s e => ?_⟩
  · rcases List.mem_append.1 hm with h1 | h1
    · exact h.lt m h1
    · rw [List.mem_singleton.1 h1]; exact hn
  · rcases hG.2 with e | e
    · rw [e] at hg; exact h.rap g hg
    · have := e g hg
      exact ⟨fun hf => by have := h.su.bd g hf; omega, fun e2 => by have := h.su.is.lt; omega⟩
  · obtain ⟨h1, h2, h3⟩ := hap pq hp g o s e
    refine ⟨Nat.lt_of_lt_of_le h1 hC.size, h2, ?_⟩
    rcases hG.2 with e2 | e2
    · rw [e2]; exact h3
    · intro h4
      have := e2 g h4
      omega
set_option maxRecDepth 50000 in
theorem TI.pick (h : TI F w0 q p ns L X rv ps w) {i : Int} : ∀ n, pickO ns i = some n → n < L.length := fun n hn => by
  unfold pickO at hn
  split at hn
  · exact h.lt n (List.mem_of_getElem? hn)
  · cases hn
set_option maxRecDepth 50000 in
/-- A row of values as a slice. -/
theorem TI.slice (h : TI F w0 q p ns L X rv ps w) : ∃ A c, rv = .slice A ns.length c ∧ Parts w A ps := by
  have hl := h.vs.len
  rcases h.row.2 with ⟨hv, hn⟩ | ⟨g, cap, cur, hv, _⟩
  · subst hv
    have h0 : ps.length = 0 := hn
    exact ⟨none, 0, by rw [← hl, h0], fun hp => by omega⟩
  · subst hv
    rw [hl] at *
    exact ⟨_, _, rfl, (show OwnsP w w0.heap.size (.slice (some ⟨g, 0, none⟩) ns.length cap) ps by rw [hl] at h; exact h.row).parts⟩
end
end Go.Proofs.YtpncohoonfahpaaGreatDoor
