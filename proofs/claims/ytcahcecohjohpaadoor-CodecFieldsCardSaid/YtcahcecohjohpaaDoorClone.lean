/- Copies of bytes and of lists. -/
import Derived.Test.YtcahcecohjohpaaDoorEncodes
namespace Go.Proofs.YtcahcecohjohpaaDoor
open Go.RowKit Go.WideShapes Go.ChangeShapes

theorem info25 : (Tryd.prog.info? 25).map (fun i => (i.zero, i.size, i.bytes)) = some (some (.agg #[.int .i64 0, .int .i64 0, .slice none 0 0, .slice none 0 0]), 4, 64) := by kernel_rfl

theorem bclone_any (A : Option Addr) (c : Nat) (xs : List Int) (w : World) (hl : xs.length ≤ 2000000) (hA : Nums w .u8 A xs) :
    Calls Tryd.prog 34 #[.slice A xs.length c] w fun e w' => ∃ B d ys, e = .returned (.slice B ys.length d) ∧ Hid (ys = xs) ∧ NumsF w.heap.size w' .u8 B ys ∧ Below w.heap.size w w' := by
  cases A with
  | none =>
    have h0 : xs.length = 0 := by
      rcases Nat.eq_zero_or_pos xs.length with h | h
      · exact h
      · obtain ⟨b, off, e, _⟩ := hA h; cases e
    obtain rfl := List.eq_nil_of_length_eq_zero h0
    have q := fun (w : World) => Lib.run_eql_slice_nil (P := Tryd.prog) w 22 5 none 0 c 0 0 Tryd.underlying22
    go_enter Tryd.func34, Tryd.ntmps34
    go_wp2
    go_ret
    exact ⟨none, 0, [], rfl, hid rfl, NumsF.nil, Below.refl _ _⟩
  | some a =>
    have q := fun (w : World) => Lib.run_eql_slice_nil (P := Tryd.prog) w 22 5 (some a) xs.length c 0 0 Tryd.underlying22
    have hO := Owns.new w w.heap.size 5 .u8 [] (Nat.le_refl _) (by simp)
    have hN := hA.below (below_new w (.cells #[] 5))
    go_enter Tryd.func34, Tryd.ntmps34
    go_wp2_with (at_builtin; refine app_nums rfl (.tmp 5) (.tmp 6) 22 rfl w.heap.size 5 .u8 1 Tryd.underlying22 Tryd.info5 (by omega) _ _ _ [] rfl hO (some a) c xs rfl hN (by simp; omega) (by simp) ?_; intro A2 n2 c2 w2 hO2 hG2)
    go_ret
    have hl2 := hO2.len
    subst hl2
    exact ⟨A2, c2, _, rfl, hid (by simp), hO2.fresh, (below_new w _).trans (hG2.below (by simp) (fun g hg => (hO.lt g hg).1))⟩

theorem Box4.soft {w wr : World} {v0 v1 v2 v3 : Value} {t : TypeId} (h : Box4 w v0 v1 v2 v3 t wr) (i : Nat) : wr.frozen? ⟨w.heap.size, i, none⟩ = false := by
  rw [h.frozen (p := ⟨w.heap.size, i, none⟩) (by show w.heap.size < _; omega)]
  go_simp
/-- Where a list's items lie, cell by cell. -/
theorem Has.cell4 {D : Nat} {w : World} {k n : Int} {b : List Int} {l : List V} {A : Option Addr} {g off : Nat} (h : Has D w (.mk k n b l) A (some ⟨g, off, none⟩)) (hl : 0 < l.length) :
    g < D ∧ ∀ j, j < l.length * 4 → ∃ u, w.cell? ⟨g, off + j, none⟩ = some u ∧ u.oneCell' = true := by
  obtain ⟨hD, h⟩ := h
  cases h with
  | nil h1 h2 hbm => simp at hl
  | items As Bs cs ds h1 h2 hbm hg hm hc hh =>
    refine ⟨hg, fun j hj => ?_⟩
    have hi : j / 4 < l.length := by omega
    obtain ⟨a0, a1, a2, a3⟩ := hc (j / 4) _ (List.getElem?_eq_getElem hi)
    have hr : j % 4 = 0 ∨ j % 4 = 1 ∨ j % 4 = 2 ∨ j % 4 = 3 := by omega
    rcases hr with hr | hr | hr | hr
    · rw [show off + j = off + j / 4 * 4 by omega]; exact ⟨_, a0, rfl⟩
    · rw [show off + j = off + j / 4 * 4 + 1 by omega]; exact ⟨_, a1, rfl⟩
    · rw [show off + j = off + j / 4 * 4 + 2 by omega]; exact ⟨_, a2, rfl⟩
    · rw [show off + j = off + j / 4 * 4 + 3 by omega]; exact ⟨_, a3, rfl⟩

/-- The same items, copied to another block. -/
theorem Has.copied {D : Nat} {w w' : World} {k n : Int} {b : List Int} {l : List V} {A : Option Addr} {g off g' : Nat} (h : Has D w (.mk k n b l) A (some ⟨g, off, none⟩)) (hl : 0 < l.length) (hb : Below D w w') (hg' : g' < w'.heap.size)
    (hc : ∀ j, j < l.length * 4 → w'.cell? ⟨g', j, none⟩ = w.cell? ⟨g, off + j, none⟩) (k2 n2 : Int) : Has w'.heap.size w' (.mk k2 n2 [] l) none (some ⟨g', 0, none⟩) := by
  have h' := h.grow hb
  obtain ⟨hD, h0⟩ := h
  obtain ⟨hD', h1⟩ := h'
  refine ⟨Nat.le_refl _, ?_⟩
  cases h0 with
  | nil => simp at hl
  | items As Bs cs ds _ _ _ hg hm hcl hh =>
    refine .items As Bs cs ds (fun hp => absurd hp (by simp)) (fun x hx => by cases hx) (by simp) hg' hm (fun i x hx => ?_) (fun i x hx => ((hh i x hx).stay hb).more hD')
    have hi := (List.getElem?_eq_some_iff.1 hx).1
    obtain ⟨a0, a1, a2, a3⟩ := hcl i x hx
    simp only [Nat.zero_add]
    refine ⟨(hc (i * 4) (by omega)).trans a0, (hc (i * 4 + 1) (by omega)).trans ?_, (hc (i * 4 + 2) (by omega)).trans ?_, (hc (i * 4 + 3) (by omega)).trans ?_⟩
    · rw [← Nat.add_assoc]; exact a1
    · rw [← Nat.add_assoc]; exact a2
    · rw [← Nat.add_assoc]; exact a3

/-- B' is a copy of the list at B, in memory from block lo on. -/
def CopyAt (l : List V) (w w' : World) (B B' : Option Addr) (lo : Nat) : Prop :=
  0 < l.length → ∃ g off g', B = some ⟨g, off, none⟩ ∧ B' = some ⟨g', 0, none⟩ ∧ lo ≤ g' ∧ g' < w'.heap.size ∧ ∀ j, j < l.length * 4 → w'.cell? ⟨g', j, none⟩ = w.cell? ⟨g, off + j, none⟩
theorem CopyAt.has {l : List V} {w w' : World} {B B' : Option Addr} {lo D : Nat} {k n : Int} {b : List Int} {A : Option Addr} (h : CopyAt l w w' B B' lo) (hH : Has D w (.mk k n b l) A B) (hb : Below D w w') (k2 n2 : Int) : Has w'.heap.size w' (.mk k2 n2 [] l) none B' := by
  by_cases h0 : 0 < l.length
  · obtain ⟨g, off, g', rfl, rfl, _, hlt, hc⟩ := h h0
    exact Has.copied hH h0 hb hlt hc k2 n2
  · obtain rfl := List.eq_nil_of_length_eq_zero (Nat.eq_zero_of_not_pos h0)
    exact ⟨Nat.le_refl _, .nil (fun h => absurd h (by simp)) (fun x hx => by cases hx) (by simp)⟩
theorem CopyAt.set {l : List V} {w w' : World} {B B' : Option Addr} {lo : Nat} (h : CopyAt l w w' B B' lo) (p : Addr) (u : Value) (hp : p.block < lo) : CopyAt l w (w'.setCell p u) B B' lo := fun h0 => by
  obtain ⟨g, off, g', h1, h2, h3, hlt, hc⟩ := h h0
  refine ⟨g, off, g', h1, h2, h3, by simpa [World.setCell] using hlt, fun j hj => ?_⟩
  rw [World.cell?_setCell_other _ _ _ _ (fun e => by subst e; exact absurd hp (by simp; omega))]
  exact hc j hj
/-- What a copy of a list gives. -/
def Copy (l : List V) (B : Option Addr) (w : World) (e : Ending) (w' : World) : Prop :=
  ∃ B' d, e = .returned (.slice B' l.length d) ∧ CopyAt l w w' B B' w.heap.size ∧ Below w.heap.size w w'

theorem owns_empty (w : World) : (w.alloc (.cells #[] 25)).ownsRow w.heap.size 25 4 (.slice (some ⟨w.heap.size, 0, none⟩) 0 0) 0 [] := World.ownsRow_made w #[] 0 (Nat.le_refl _) (by unfold maxLen; omega) (by simp)

theorem copy_end {l : List V} {B : Option Addr} {w w2 : World} {v2 : Value} {news : List Value} (ha : 0 < l.length → ∃ g off, B = some ⟨g, off, none⟩) (hnew : Below w.heap.size w (w.alloc (.cells #[] 25)))
    (hO : w2.ownsRow w.heap.size 25 4 v2 (0 + l.length) ([] ++ news)) (hG : (w.alloc (.cells #[] 25)).grownBy w2 (Value.slice (some ⟨w.heap.size, 0, none⟩) 0 0).ownBlock) (hnl : news.length = l.length * 4)
    (hc : 0 < l.length → ∀ g off, B = some ⟨g, off, none⟩ → ∀ j, j < l.length * 4 → news[j]? = w.cell? ⟨g, off + j, none⟩) : Copy l B w (.returned v2) w2 := by
  have hb : Below w.heap.size w w2 := hnew.trans ((Below.refl _ _).grown hG (by simp) (fun g hg => by simp [Value.ownBlock] at hg; omega))
  have hlt := hO.lt
  rcases hO.2 with ⟨rfl, hn⟩ | ⟨g, cap, cur, rfl, hg, hh, _⟩
  · have h0 : l.length = 0 := by omega
    obtain rfl := List.eq_nil_of_length_eq_zero h0
    exact ⟨none, 0, rfl, fun h => absurd h (by simp), hb⟩
  · rw [Nat.zero_add]
    refine ⟨some ⟨g, 0, none⟩, cap, rfl, fun h0 => ?_, hb⟩
    obtain ⟨g0, off, rfl⟩ := ha h0
    refine ⟨g0, off, g, rfl, rfl, hg, (hlt g rfl).2, fun j hj => ?_⟩
    rw [← hc h0 g0 off rfl j hj]
    obtain ⟨u, hu⟩ : ∃ u, news[j]? = some u := ⟨_, List.getElem?_eq_getElem (by omega)⟩
    have := hO.cells (g := g) rfl j u (by simpa using hu)
    rw [hu, ← this, add_plain, Nat.zero_add]

set_option maxHeartbeats 1000000 in
theorem vclone_any (k n : Int) (b : List Int) (l : List V) (D : Nat) (A B : Option Addr) (d : Nat) (w : World) (hl : l.length ≤ 1000000) (hH : Has D w (.mk k n b l) A B) :
    Calls Tryd.prog 33 #[.slice B l.length d] w (Copy l B w) := by
  have hnew := below_new w (.cells #[] 25)
  cases B with
  | none =>
    have h0 : l = [] := by
      obtain ⟨_, h⟩ := hH
      cases h
      rfl
    subst h0
    have q := fun (w : World) => Lib.run_eql_slice_nil (P := Tryd.prog) w 23 25 none 0 d 0 0 Tryd.underlying23
    go_enter Tryd.func33, Tryd.ntmps33
    go_wp2
    go_ret
    exact ⟨none, 0, rfl, fun h => absurd h (by simp), Below.refl _ _⟩
  | some a =>
    obtain ⟨i0, hi0, hz0, hz1, hz2⟩ := info_parts info25
    have q := fun (w : World) => Lib.run_eql_slice_nil (P := Tryd.prog) w 23 25 (some a) l.length d 0 0 Tryd.underlying23
    have hO := owns_empty w
    by_cases h0 : l.length = 0
    · obtain rfl := List.eq_nil_of_length_eq_zero h0
      clear h0 q
      have q0 := fun (w : World) => Lib.run_eql_slice_nil (P := Tryd.prog) w 23 25 (some a) 0 d 0 0 Tryd.underlying23
      show Calls Tryd.prog 33 #[.slice (some a) 0 d] w (Copy [] (some a) w)
      go_enter Tryd.func33, Tryd.ntmps33
      go_wp2_with (at_builtin; refine wpList_append_own_at _ rfl (.tmp 5) (.tmp 6) 23 rfl w.heap.size 25 i0 _ 4 64 Tryd.underlying23 hi0 hz0 hz1 hz2 rfl (by omega) _ 0 [] rfl hO a 0 d [] rfl rfl (by simp) (by simp) (by unfold maxLen; omega) (by omega) (by simp) ?_; intro v2 w2 hO2 hG2 _ _)
      go_ret
      exact copy_end (l := []) (fun h => absurd h (by simp)) hnew hO2 hG2 rfl (fun h => absurd h (by simp))
    · obtain ⟨g, off, rfl⟩ : ∃ g off, a = ⟨g, off, none⟩ := by
        obtain ⟨_, h⟩ := hH
        cases h with
        | nil => simp at h0
        | items => exact ⟨_, _, rfl⟩
      obtain ⟨hg, hcells⟩ := hH.cell4 (by omega)
      have hD := hH.1
      obtain ⟨news, hN⟩ : ∃ news, news = (List.range (l.length * 4)).map (fun j => (w.cell? ⟨g, off + j, none⟩).getD undef) := ⟨_, rfl⟩
      have hnl : news.length = l.length * 4 := by rw [hN]; simp
      have hget : ∀ j u, news[j]? = some u → j < l.length * 4 ∧ w.cell? ⟨g, off + j, none⟩ = some u ∧ u.oneCell' = true := by
        intro j u hu
        have hj : j < l.length * 4 := by rw [← hnl]; exact (List.getElem?_eq_some_iff.1 hu).1
        obtain ⟨u2, h1, h2⟩ := hcells j hj
        rw [hN] at hu
        simp [hj, h1] at hu
        subst hu
        exact ⟨hj, h1, h2⟩
      have hnews : ∀ j u, news[j]? = some u → (w.alloc (.cells #[] 25)).cell? ((⟨g, off, none⟩ : Addr).add j) = some u := fun j u hu => by
        rw [add_plain, hnew.cell (p := ⟨g, off + j, none⟩) (by show g < _; omega)]
        exact (hget j u hu).2.1
      have hone : ∀ u ∈ news, u.oneCell' = true := fun u hu => by
        obtain ⟨j, hj⟩ := List.getElem?_of_mem hu
        exact (hget j u hj).2.2
      have hb1 : 0 + l.length ≤ maxLen := by unfold maxLen; omega
      have hb2 : (0 + l.length) * 64 ≤ 140737488355328 := by omega
      have HN := hid hN
      have HG := hid hget
      clear hN hget hcells
      go_enter Tryd.func33, Tryd.ntmps33
      go_wp2_with (at_builtin; refine wpList_append_own_at _ rfl (.tmp 5) (.tmp 6) 23 rfl w.heap.size 25 i0 _ 4 64 Tryd.underlying23 hi0 hz0 hz1 hz2 rfl (by omega) _ 0 [] rfl hO ⟨g, off, none⟩ l.length d news rfl hnl hnews hone hb1 hb2 (by simp) ?_; intro v2 w2 hO2 hG2 _ _)
      go_ret
      refine copy_end (fun _ => ⟨g, off, rfl⟩) hnew hO2 hG2 hnl (fun _ g2 off2 he j hj => ?_)
      injection he with he
      injection he with he1 he2
      subst he1; subst he2
      obtain ⟨u, hu⟩ : ∃ u, news[j]? = some u := ⟨_, List.getElem?_eq_getElem (by omega)⟩
      exact hu.trans (HG.out j u hu).2.1.symm
end Go.Proofs.YtcahcecohjohpaaDoor
