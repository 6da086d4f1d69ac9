/- The reader: lists. -/
import Derived.Test.YtcahcecohjohpaaDoorRows4
namespace Go.Proofs.YtcahcecohjohpaaDoor
open Go.RowKit

/-- Bytes, and not too many. -/
def Fine (bs : List Int) : Prop := Byt bs ∧ bs.length ≤ 2000000

/-- The blocks that are new from w to w'. -/
def New (w w' : World) (x : Nat) : Prop := w.heap.size ≤ x ∧ x < w'.heap.size
def zeroV : Value := .agg #[.int .i64 0, .int .i64 0, .slice none 0 0, .slice none 0 0]

/-- What reading a value answers, the decoding being p. -/
def ReadPost (R D : Nat) (p : Res V) (w : World) (e : Ending) (w' : World) : Prop :=
  ((∃ k n b l r A c B d, p = .ok (.mk k n b l, r) ∧ e = .returned (.tuple #[.agg #[.int .i64 k, .int .i64 n, .slice A (b : List Int).length c, .slice B (l : List V).length d], .int .i64 0]) ∧ Rd R D w' r ∧ Fine r ∧ Holds (New w w') w' (.mk k n b l) A B) ∨
    (∃ er : Int, p = .error er ∧ er ≠ 0 ∧ e = .returned (.tuple #[.agg #[.int .i64 0, .int .i64 0, .slice none 0 0, .slice none 0 0], .int .i64 er]))) ∧ w.grownBy w' (some R)
theorem ReadPost.yes {R D : Nat} {p : Res V} {w w' : World} {e : Ending} (h : ReadPost R D p w e w') {v : V} {r : List Int} (hp : p = .ok (v, r)) :
    ∃ k n b l A c B d, v = .mk k n b l ∧ e = .returned (.tuple #[.agg #[.int .i64 k, .int .i64 n, .slice A (b : List Int).length c, .slice B (l : List V).length d], .int .i64 0]) ∧ Rd R D w' r ∧ Fine r ∧ Holds (New w w') w' (.mk k n b l) A B ∧ w.grownBy w' (some R) := by
  rcases h with ⟨⟨k, n, b, l, r', A, c, B, d, h1, h2, h3, h4, h5⟩ | ⟨er, h1, _⟩, hg⟩
  · rw [hp] at h1
    injection h1 with h1
    injection h1 with h1 h6
    subst h6
    exact ⟨k, n, b, l, A, c, B, d, h1, h2, h3, h4, h5, hg⟩
  · rw [hp] at h1; cases h1
theorem ReadPost.no {R D : Nat} {p : Res V} {w w' : World} {e : Ending} (h : ReadPost R D p w e w') {er : Int} (hp : p = .error er) : er ≠ 0 ∧ e = .returned (.tuple #[.agg #[.int .i64 0, .int .i64 0, .slice none 0 0, .slice none 0 0], .int .i64 er]) ∧ w.grownBy w' (some R) := by
  rcases h with ⟨⟨k, n, b, l, r', A, c, B, d, h1, _⟩ | ⟨er', h1, h2, h3⟩, hg⟩
  · rw [hp] at h1; cases h1
  · rw [hp] at h1
    injection h1 with h1
    subst h1
    exact ⟨h2, h3, hg⟩

/-- Reading a value within t lists is as it should be. -/
def ValueOK (t : Nat) : Prop := ∀ (R D : Nat) (bs : List Int) (w : World), Fine bs → Tabs w → 1 < D → Rd R D w bs → Calls Tryd.prog 28 #[.pointer (some ⟨R, 0, none⟩), .int .i64 t] w (ReadPost R D (parse t bs) w)

def listP (t n : Nat) (bs : List Int) : Res V := match parseN (parse t) n bs with
  | .error e => .error e
  | .ok (l, r') => .ok (.mk 3 0 [] l, r')

theorem box_far {w wr : World} {R : Nat} {v0 v1 v2 v3 : Value} {t : TypeId} (hg : (w.alloc (.cells #[v0, v1, v2, v3] t)).grownBy wr (some R)) (hR : R < w.heap.size) :
    (wr.cell? ⟨w.heap.size, 0, none⟩ = some v0 ∧ wr.cell? ⟨w.heap.size, 1, none⟩ = some v1 ∧ wr.cell? ⟨w.heap.size, 2, none⟩ = some v2 ∧ wr.cell? ⟨w.heap.size, 3, none⟩ = some v3) ∧ ∀ i, wr.frozen? ⟨w.heap.size, i, none⟩ = false := by
  have hb : wr.heap[w.heap.size]? = (w.alloc (.cells #[v0, v1, v2, v3] t)).heap[w.heap.size]? := hg.block w.heap.size (by simp) (fun e => by injection e with e; omega)
  have hx := (Box4.start w v0 v1 v2 v3 t)
  obtain ⟨c0, c1, c2, c3⟩ := hx.cells
  exact ⟨⟨(cell_same hb).trans c0, (cell_same hb).trans c1, (cell_same hb).trans c2, (cell_same hb).trans c3⟩, fun i => (World.frozen?_of_block (a := ⟨w.heap.size, i, none⟩) hb).trans (hx.soft i)⟩

theorem row_keep {w w' : World} {base : Nat} {e : TypeId} {size : Nat} {v : Value} {n : Nat} {xs : List Value} (h : w.ownsRow base e size v n xs) (hh : ∀ g, v.ownBlock = some g → w'.heap[g]? = w.heap[g]?) : w'.ownsRow base e size v n xs := by
  refine ⟨h.1, ?_⟩
  rcases h.2 with h2 | ⟨g, cap, cur, hv, hg, hc, r⟩
  · exact .inl h2
  · exact .inr ⟨g, cap, cur, hv, hg, (hh g (by rw [hv]; rfl)).trans hc, r⟩
theorem news4 (w : World) (o : Obj) (v0 v1 v2 v3 : Value) : ∀ (j : Nat) (u : Value), [v0, v1, v2, v3][j]? = some u → ((w.alloc o).alloc (.cells #[v0, v1, v2, v3] 25)).cell? ((⟨w.heap.size + 1, 0, none⟩ : Addr).add j) = some u := by
  have e : (w.alloc o).heap.size = w.heap.size + 1 := by simp
  rw [← e]
  exact World.news_of_block (cs := #[v0, v1, v2, v3]) (t := 25) (fr := (0, 0)) (heap_alloc_new (w.alloc o) _)
theorem old_keep {W wr : World} {R : Nat} (hg : W.grownBy wr (some R)) {g : Nat} (h1 : g < W.heap.size) (h2 : g ≠ R) : wr.heap[g]? = W.heap[g]? := hg.block g h1 (fun e => h2 (by injection e))

theorem own_stored (w1 : World) (p : Nat) (v0 v1 v2 v3 : Value) : w1.grownBy (stored4 w1 p v0 v1 v2 v3) (some p) :=
  ⟨rfl, rfl, rfl, Nat.le_of_eq (stored4_size w1 p v0 v1 v2 v3).symm, fun k _ hk => stored4_heap w1 p k v0 v1 v2 v3 (fun e => hk (by rw [e]))⟩
theorem grow_box {w W w2 : World} {R : Nat} {o : Obj} (hW : W = w.alloc o) (h : W.grownBy w2 (some R)) (v0 v1 v2 v3 : Value) : w.grownBy (stored4 w2 w.heap.size v0 v1 v2 v3) (some R) := by
  have h1 : w.grownBy w2 (some R) := by rw [hW] at h; exact (World.grownBy_alloc w o (some R)).trans h
  exact h1.andThen (own_stored w2 w.heap.size v0 v1 v2 v3) (fun j hj => .inl (by injection hj with hj; omega))
theorem grow_boxA {w W w2 : World} {R : Nat} {o : Obj} (hW : W = w.alloc o) (h : W.grownBy w2 (some R)) (v0 v1 v2 v3 : Value) (o2 : Obj) : w.grownBy ((stored4 w2 w.heap.size v0 v1 v2 v3).alloc o2) (some R) :=
  (grow_box hW h v0 v1 v2 v3).trans (World.grownBy_alloc _ _ _)
theorem row_slice {w : World} {base : Nat} {e : TypeId} {size : Nat} {v : Value} {n : Nat} {xs : List Value} (h : w.ownsRow base e size v n xs) : ∃ A m c, v = .slice A m c := by
  rcases h.2 with ⟨h, _⟩ | ⟨g, cap, cur, hv, _⟩
  · exact ⟨_, _, _, h⟩
  · exact ⟨_, _, _, hv⟩
theorem base_le {B : Nat} {w2 : World} (h : B ≤ w2.heap.size) (o o2 : Obj) : B ≤ ((w2.alloc o).alloc o2).heap.size := by simp; omega
theorem one4 (k n : Int) (A : Option Addr) (m c : Nat) (B : Option Addr) (m2 d : Nat) : ∀ u ∈ [Value.int .i64 k, .int .i64 n, .slice A m c, .slice B m2 d], u.oneCell' = true := by
  intro u hu
  simp at hu
  rcases hu with rfl | rfl | rfl | rfl <;> rfl

theorem items_next {W wr w2 W4 w3 : World} {R : Nat} {v v3 : Value} {es : List Ent} {e : Ent} (hWr : W.heap.size ≤ wr.heap.size) (hR : R < W.heap.size) (hO : ∀ g, v.ownBlock = some g → W.heap.size ≤ g ∧ g < wr.heap.size)
    (hH : ∀ e ∈ es, Holds (fun x => New W wr x ∧ v.ownBlock ≠ some x) wr e.v e.A e.B) (hg2 : wr.grownBy w2 (some R)) (hH2 : Holds (New wr w2) w2 e.v e.A e.B) (hg3 : w2.grownBy W4 none) (hg4 : W4.grownBy w3 v.ownBlock)
    (hat : v3.ownBlock = v.ownBlock ∨ v3.ownBlock = some W4.heap.size) : ∀ x ∈ es ++ [e], Holds (fun x => New W w3 x ∧ v3.ownBlock ≠ some x) w3 x.v x.A x.B := by
  have s2 := hg2.size
  have s3 := hg3.size
  have s4 := hg4.size
  have hstep : ∀ b, W.heap.size ≤ b → b < w2.heap.size → v.ownBlock ≠ some b → w3.heap[b]? = w2.heap[b]? := fun b h1 h2 h3 =>
    (hg4.block b (by omega) (fun h => h3 h.symm)).trans (hg3.block b h2 (by simp))
  have hnew : ∀ b, W.heap.size ≤ b → b < w2.heap.size → v.ownBlock ≠ some b → New W w3 b ∧ v3.ownBlock ≠ some b := fun b h1 h2 h3 =>
    ⟨⟨h1, by omega⟩, by rcases hat with h | h <;> rw [h]; exact h3; intro h; injection h with h; omega⟩
  intro x hx
  rcases List.mem_append.1 hx with hx | hx
  · refine ((hH x hx).sub (S' := fun b => (New W wr b ∧ v.ownBlock ≠ some b)) (fun b hb => hb)).keep (w' := w3) (fun b hb => ?_) |>.sub (fun b hb => ?_)
    · obtain ⟨⟨h1, h2⟩, h3⟩ := hb
      exact (hstep b h1 (by omega) h3).trans (hg2.block b h2 (fun e => by injection e with e; omega))
    · obtain ⟨⟨h1, h2⟩, h3⟩ := hb
      exact hnew b h1 (by omega) h3
  · obtain rfl : x = e := by simpa using hx
    have hne : ∀ b, wr.heap.size ≤ b → v.ownBlock ≠ some b := fun b h1 h => by have := (hO b h).2; omega
    refine hH2.keep (w' := w3) (fun b hb => ?_) |>.sub (fun b hb => ?_)
    · exact hstep b (by have := hb.1; omega) hb.2 (hne b hb.1)
    · exact hnew b (by have := hb.1; omega) hb.2 (hne b hb.1)
theorem grown_next {W wr w2 W4 w3 : World} {R : Nat} {v : Value} (hgr : W.grownBy wr (some R)) (hO : ∀ g, v.ownBlock = some g → W.heap.size ≤ g ∧ g < wr.heap.size) (hg2 : wr.grownBy w2 (some R)) (hg3 : w2.grownBy W4 none) (hg4 : W4.grownBy w3 v.ownBlock) : W.grownBy w3 (some R) :=
  ((hgr.trans hg2).trans (hg3.but _)).andThen hg4 (fun j hj => .inl (hO j hj).1)
theorem rd_next {W wr w2 W4 w3 : World} {R D : Nat} {v : Value} {r : List Int} (hRW : R < W.heap.size) (h : Rd R D w2 r) (hO : ∀ g, v.ownBlock = some g → W.heap.size ≤ g ∧ g < wr.heap.size) (hg3 : w2.grownBy W4 none) (hg4 : W4.grownBy w3 v.ownBlock) : Rd R D w3 r := by
  have h2 := h.lt.1
  have h3 : Below (R + 1) w2 W4 := (Below.refl _ _).grown hg3 (by omega) (fun k hk => by cases hk)
  have h4 := hg3.size
  exact (h.stay h3).stay ((Below.refl _ _).grown hg4 (by omega) (fun k hk => by have := (hO k hk).1; omega))
theorem alloc2_grown (w : World) (o o2 : Obj) : w.grownBy ((w.alloc o).alloc o2) none := (World.grownBy_alloc w o none).trans (World.grownBy_alloc _ o2 none)

set_option maxHeartbeats 2000000 in
theorem rlist_any (t : Nat) (hv : ValueOK t) (R D n : Nat) (bs : List Int) (w : World) (hn : n ≤ 4096) (hb : Fine bs) (ht : Tabs w) (hD : 1 < D) (hR : Rd R D w bs) :
    Calls Tryd.prog 42 #[.pointer (some ⟨R, 0, none⟩), .int .i64 n, .int .i64 t] w (ReadPost R D (listP t n bs) w) := by
  obtain ⟨i0, hi0, hz0, hz1, hz2⟩ := info_parts info25
  have hlt := hR.lt
  have hnew := below_new w (.cells #[.int .i64 0, .int .i64 0, .slice none 0 0, .slice none 0 0] 25)
  have hnn : (0 : Int) ≤ n := by omega
  have hn4 : (n : Int) ≤ 4096 := by omega
  obtain ⟨W, hW⟩ : ∃ W, W = w.alloc (.cells #[.int .i64 0, .int .i64 0, .slice none 0 0, .slice none 0 0] 25) := ⟨_, rfl⟩
  have HW := hid hW
  have hRW : Rd R D W bs := by rw [hW]; exact hR.later hnew
  have htW : Tabs W := by rw [hW]; exact ht.stay hnew
  have hsW : W.heap.size = w.heap.size + 1 := by rw [hW]; simp
  have HSW := hid hsW
  clear hsW
  go_enter Tryd.func42, Tryd.ntmps42
  go_wp2
  rw [← hW]
  clear hW
  go_loopw [8, 12] (fun s i wr => ∃ (j : Nat) (es : List Ent) (A' : Option Addr) (n' c' : Nat) (rest : List Int), j ≤ n ∧ i = .int .i64 j ∧ s = .slice A' n' c' ∧ Hid (j = es.length) ∧ wr.ownsRow W.heap.size 25 4 (.slice A' n' c') es.length (es.flatMap cells4) ∧
      Hid (∀ e ∈ es, Holds (fun x => New W wr x ∧ (Value.slice A' n' c').ownBlock ≠ some x) wr e.v e.A e.B) ∧ Hid (parseN (parse t) n bs = joinL (es.map (·.v)) (parseN (parse t) (n - j) rest)) ∧ Rd R D wr rest ∧ Hid (Fine rest) ∧ W.grownBy wr (some R)) (fun _ i _ => n - (intOf i).toNat)
  case atStart => exact ⟨0, [], none, 0, 0, bs, Nat.zero_le _, rfl, rfl, hid rfl, World.ownsRow_nil _ _ _ _, hid (fun e he => by cases he), hid (by rw [List.map_nil, joinL_nil, Nat.sub_zero]), hRW, hid hb, World.grownBy.refl _ _⟩
  case round =>
    obtain ⟨j, es, A', n', c', rest, hj, rfl, rfl, HJ, hO, HH, HP, hRr, HB, hgr⟩ := hrel
    obtain ⟨⟨c0, c1, c2, c3⟩, hfz⟩ := box_far (by rw [← HW.out]; exact hgr) hlt.1
    have f0 := hfz 0
    have f1 := hfz 1
    have f2 := hfz 2
    have f3 := hfz 3
    clear hfz
    by_cases hlt2 : j < n
    · have htr := htW.grown hgr (by omega)
      have hm : n - j = (n - (j + 1)) + 1 := by omega
      cases hp : parse t rest with
      | error er =>
        have HER := hid hp
        have HPE : Hid (listP t n bs = .error er) := hid (by unfold listP; rw [HP.out, hm, parseN_fail hp]; rfl)
        clear hp hm
        go_wp2_with (go_at_call 28; refine ((hv R D rest _ HB.out htr hD hRr).mono fun e w' h => h.no HER.out).mono ?_; rintro e w2 ⟨he0, rfl, hg2⟩; have hE0 : (er != 0) = true := (by rw [bne_iff_ne]; exact he0); have hgr2 := hgr.trans hg2; have hl2 : w.heap.size < w2.heap.size := Nat.lt_of_lt_of_le (by rw [HSW.out]; exact Nat.lt_succ_self _) hgr2.size; obtain ⟨⟨d0, d1, d2, d3⟩, dfz⟩ := box_far (by rw [← HW.out]; exact hgr2) hlt.1; have e0 := dfz 0; have e1 := dfz 1; have e2 := dfz 2; have e3 := dfz 3; clear dfz)
        exact bodyPost_ret (v := .tuple #[.agg #[.int .i64 0, .int .i64 0, .slice none 0 0, .slice none 0 0], .int .i64 er]) (by simp [results, Tryd.results42, go_sem, d0, d1, d2, d3, hl2]) rfl ⟨.inr ⟨er, HPE.out, he0, rfl⟩, grow_boxA HW.out hgr2 _ _ _ _ _⟩
      | ok p =>
        obtain ⟨⟨k1, n1, b1, l1⟩, r⟩ := p
        have HOK := hid hp
        have HST : Hid (parseN (parse t) n bs = joinL (es.map (·.v) ++ [.mk k1 n1 b1 l1]) (parseN (parse t) (n - (j + 1)) r)) := hid (by rw [HP.out, hm, parseN_step hp, joinL_join])
        clear hp hm
        have hesl : es.length + 1 ≤ 4096 := by have := HJ.out; omega
        have hb1' : es.length + 1 ≤ maxLen := by unfold maxLen; omega
        have hb2' : (es.length + 1) * 64 ≤ 140737488355328 := by omega
        have HLT : Hid (∀ g, (Value.slice A' n' c').ownBlock = some g → W.heap.size ≤ g ∧ g < wr.heap.size) := hid (fun g hg => hO.lt g hg)
        go_wp2_with (first
          | (at_builtin; refine wpList_append_own_at _ rfl (.tmp 24) (.tmp 26) 23 rfl W.heap.size 25 i0 _ 4 64 Tryd.underlying23 hi0 hz0 hz1 hz2 rfl (by omega) (.slice A' n' c') es.length (es.flatMap cells4) rfl (World.ownsRow.alloc (World.ownsRow.alloc hO2 _) _) ⟨w2.heap.size + 1, 0, none⟩ 1 1 [.int .i64 k1, .int .i64 n1, .slice A1 b1.length c1', .slice B1 l1.length d1] rfl rfl (news4 w2 _ _ _ _ _) hone hb1' hb2' (base_le hWs2 _ _) ?_; intro v3 w3 hO4 hG4 _ hat; obtain ⟨A3, n3, c3, rfl⟩ := row_slice hO4)
          | (go_at_call 28; refine ((hv R D rest _ HB.out htr hD hRr).mono fun e w' h => h.yes HOK.out).mono ?_; rintro e w2 ⟨k1', n1', b1', l1', A1, c1', B1, d1, hv1, rfl, hR2, hB2, hH2, hg2⟩; injection hv1 with hv1 hv2 hv3 hv4; subst hv1; subst hv2; subst hv3; subst hv4; have hO2 := row_keep hO (fun g hg => old_keep hg2 (hO.lt g hg).2 (by have := (hO.lt g hg).1; have := HSW.out; omega)); have hWs2 := (hgr.trans hg2).size; have hone := one4 k1 n1 A1 b1.length c1' B1 l1.length d1))
        have hg3 := alloc2_grown w2 (.cells #[.int .i64 k1, .int .i64 n1, .slice A1 b1.length c1', .slice B1 l1.length d1] 25) (.cells #[.int .i64 k1, .int .i64 n1, .slice A1 b1.length c1', .slice B1 l1.length d1] 25)
        have hes : (es ++ [(⟨.mk k1 n1 b1 l1, A1, c1', B1, d1⟩ : Ent)]).length = es.length + 1 := by simp
        go_roundw
        case rel =>
          refine ⟨j + 1, es ++ [⟨.mk k1 n1 b1 l1, A1, c1', B1, d1⟩], A3, n3, c3, r, hlt2, by go_num, rfl, hid (by rw [hes, HJ.out]), ?_, hid (items_next hgr.size (by have := HSW.out; omega) HLT.out HH.out hg2 hH2 hg3 hG4 hat), hid (by rw [HST.out, List.map_append]; rfl), rd_next (by have := HSW.out; omega) hR2 HLT.out hg3 hG4, hid hB2, grown_next hgr HLT.out hg2 hg3 hG4⟩
          rw [hes, List.flatMap_append]
          exact hO4
        case measure => simp [intOf]; omega
    · have e : j = n := by omega
      subst e
      have hcmp : decide ((j : Int) < j) = false := by simp
      have hP : listP t j bs = .ok (.mk 3 0 [] (es.map (·.v)), rest) := by
        unfold listP
        rw [HP.out, Nat.sub_self]
        simp [parseN, joinL]
      have HPO := hid hP
      have hjm : es.length ≤ maxLen := by have := HJ.out; unfold maxLen; omega
      obtain ⟨rfl, hHo⟩ := rows_hold (S := New W wr) hO (fun g hg => hO.lt g hg) hjm (fun e he => (HH.out e he).sub (fun b hb => hb.1)) 3 0
      clear hP
      go_wp2
      refine bodyPost_ret (v := .tuple #[.agg #[.int .i64 3, .int .i64 0, .slice none 0 0, .slice A' es.length c'], .int .i64 0]) (by simp [results, Tryd.results42, go_sem, c0, c1, c2, c3]) rfl
        ⟨.inl ⟨3, 0, [], es.map (·.v), rest, none, 0, A', c', HPO.out, by rw [List.length_map]; rfl, hRr.stay (stored4_below wr w.heap.size (R + 1) _ _ _ _ hlt.1), HB.out, ?_⟩, grow_box HW.out hgr _ _ _ _⟩
      refine (hHo.keep (w' := stored4 wr w.heap.size (.int .i64 3) (.int .i64 0) (.slice none 0 0) (.slice A' es.length c')) (fun b hb => stored4_heap wr w.heap.size b _ _ _ _ (by have := hb.1; have := HSW.out; omega))).sub (fun b hb => ⟨by have := hb.1; have := HSW.out; omega, ?_⟩)
      show b < (stored4 wr w.heap.size (.int .i64 3) (.int .i64 0) (.slice none 0 0) (.slice A' es.length c')).heap.size
      rw [stored4_size]
      exact hb.2
end Go.Proofs.YtcahcecohjohpaaDoor
