/- The reader: numbers. -/
import Derived.Test.YtcahcecohjohpaaDoorReadB
import Derived.Test.YtcahcecohjohpaaDoorFields
namespace Go.Proofs.YtcahcecohjohpaaDoor
open Go.RowKit

/-- A struct of four cells was stored into the result's box, which was laid when the call began. -/
def stored4 (w1 : World) (p : Nat) (v0 v1 v2 v3 : Value) : World := (((w1.setCell ⟨p, 0, none⟩ v0).setCell ⟨p, 1, none⟩ v1).setCell ⟨p, 2, none⟩ v2).setCell ⟨p, 3, none⟩ v3
theorem stored4_below (w1 : World) (p D : Nat) (v0 v1 v2 v3 : Value) (h : D ≤ p) : Below D w1 (stored4 w1 p v0 v1 v2 v3) :=
  ((((Below.refl D w1).setCell (p := ⟨p, 0, none⟩) h _).setCell (p := ⟨p, 1, none⟩) h _).setCell (p := ⟨p, 2, none⟩) h _).setCell (p := ⟨p, 3, none⟩) h _
theorem stored4_heap (w1 : World) (p b : Nat) (v0 v1 v2 v3 : Value) (h : b ≠ p) : (stored4 w1 p v0 v1 v2 v3).heap[b]? = w1.heap[b]? := by
  unfold stored4
  rw [Below.heap_setCell _ _ _ _ h, Below.heap_setCell _ _ _ _ h, Below.heap_setCell _ _ _ _ h, Below.heap_setCell _ _ _ _ h]
theorem stored4_size (w1 : World) (p : Nat) (v0 v1 v2 v3 : Value) : (stored4 w1 p v0 v1 v2 v3).heap.size = w1.heap.size := by simp [stored4, World.setCell]

theorem get2_any (A : Option Addr) (c : Nat) (bs : List Int) (w : World) (hl : bs.length ≤ 4096) (hb : Byt bs) (hA : Nums w .u8 A bs) :
    Calls Tryd.prog 48 #[.slice A bs.length c] w fun e w' => ∃ N E, e = .returned (.tuple #[.int .i64 N, .int .i64 E]) ∧ Hid (N = gnum bs.length (hiv bs)) ∧ Hid (E = gerr bs.length (hiv bs)) ∧ Below w.heap.size w w' :=
  (wGet_any A c bs w hl hb hA).mono fun _ _ h => ⟨_, _, h.1, hid rfl, hid rfl, h.2⟩

def NumPost (bs : List Int) (w : World) (e : Ending) (w' : World) : Prop :=
  ((∃ N, numP bs = .ok (.mk 1 N [] []) ∧ e = .returned (.tuple #[.agg #[.int .i64 1, .int .i64 N, .slice none 0 0, .slice none 0 0], .int .i64 0])) ∨ (∃ er, numP bs = .error er ∧ er ≠ 0 ∧ e = .returned (.tuple #[.agg #[.int .i64 0, .int .i64 0, .slice none 0 0, .slice none 0 0], .int .i64 er]))) ∧ Below w.heap.size w w'

set_option maxHeartbeats 1000000 in
theorem number_any (A : Option Addr) (c : Nat) (bs : List Int) (w : World) (hl : bs.length ≤ 8) (hb : Byt bs) (hA : Nums w .u8 A bs) : Calls Tryd.prog 44 #[.slice A bs.length c] w (NumPost bs w) := by
  have hx := Box4.start w (.int .i64 0) (.int .i64 0) (.slice none 0 0) (.slice none 0 0) 25
  obtain ⟨x0, x1, x2, x3⟩ := hx.cells
  by_cases h0 : bs.length = 0
  · obtain rfl := List.eq_nil_of_length_eq_zero h0
    have HP : Hid (numP [] = .ok (.mk 1 0 [] [])) := hid rfl
    clear h0
    show Calls Tryd.prog 44 #[.slice A 0 c] w (NumPost [] w)
    go_enter Tryd.func44, Tryd.ntmps44
    go_wp2_with (go_at_call 20; refine (num_any 0 _).mono ?_; rintro e w1 ⟨rfl, hb1⟩; have hx1 := hx.next hb1; obtain ⟨c0, c1, c2, c3⟩ := hx1.cells; have f0 := hx1.soft 0; have f1 := hx1.soft 1; have f2 := hx1.soft 2; have f3 := hx1.soft 3)
    refine bodyPost_ret (v := .tuple #[.agg #[.int .i64 1, .int .i64 0, .slice none 0 0, .slice none 0 0], .int .i64 0]) (by simp [results, Tryd.results44, go_sem, c0, c1, c2, c3]) rfl ⟨.inl ⟨0, HP.out, rfl⟩, ?_⟩
    exact hx1.below.trans (stored4_below w1 w.heap.size w.heap.size (.int .i64 1) (.int .i64 0) (.slice none 0 0) (.slice none 0 0) (Nat.le_refl _))
  · obtain ⟨g, off, y, rfl, hg, hcy, HY⟩ := hA.get (i := 0) (by omega)
    have hcy2 : w.cell? ⟨g, off, none⟩ = some (.int .u8 y) := hcy
    clear hcy
    have hgd : bs.getD 0 0 = y := by rw [List.getD, HY.out]; rfl
    have hlb : ((bs.length : Int) == 0) = false := by rw [beq_eq_false_iff_ne]; omega
    have hpos : (0 : Int) < bs.length := by omega
    by_cases hy0 : y = 0
    · have hyb : (y == 0) = true := by simp [hy0]
      have HP : Hid (numP bs = .error 11) := hid (by unfold numP; rw [if_neg h0, hgd, if_pos hy0])
      clear hy0 hgd h0
      go_enter Tryd.func44, Tryd.ntmps44
      go_wp2
      exact bodyPost_ret (v := .tuple #[.agg #[.int .i64 0, .int .i64 0, .slice none 0 0, .slice none 0 0], .int .i64 11]) (by simp [results, Tryd.results44, go_sem]) rfl ⟨.inr ⟨11, HP.out, by decide, rfl⟩, hx.below⟩
    · have hyb : (y == 0) = false := by rw [beq_eq_false_iff_ne]; exact hy0
      by_cases he : gerr bs.length (hiv bs) = 0
      · have HP : Hid (numP bs = .ok (.mk 1 (hiv bs) [] [])) := hid (by unfold numP; rw [if_neg h0, hgd, if_neg hy0, if_pos he])
        have HE := hid he
        have HG : Hid (gnum bs.length (hiv bs) = hiv bs) := hid (by
          unfold gerr at he
          unfold gnum
          split at he
          · simp at he
          · split at he
            · simp at he
            · split at he
              · simp at he
              · rename_i q1 q2 q3
                rw [if_neg q1, if_neg q2, if_neg q3])
        clear hy0 he hgd h0
        go_enter Tryd.func44, Tryd.ntmps44
        go_wp2_with (first
          | (go_at_call 48; refine (get2_any _ c bs _ (by omega) hb (hA.below hx.below)).mono ?_; rintro e w1 ⟨N, E, rfl, HN, HEE, hb1⟩; obtain rfl : E = 0 := HEE.out.trans HE.out; have hx1 := hx.next hb1)
          | (go_at_call 20; refine (num_any N _).mono ?_; rintro e w2 ⟨rfl, hb2⟩; have hx2 := hx1.next hb2; obtain ⟨c0, c1, c2, c3⟩ := hx2.cells; have f0 := hx2.soft 0; have f1 := hx2.soft 1; have f2 := hx2.soft 2; have f3 := hx2.soft 3))
        have hN := HN.out.trans HG.out
        exact bodyPost_ret (v := .tuple #[.agg #[.int .i64 1, .int .i64 N, .slice none 0 0, .slice none 0 0], .int .i64 0]) (by simp [results, Tryd.results44, go_sem, c0, c1, c2, c3]) rfl
          ⟨.inl ⟨N, by rw [HP.out, hN], rfl⟩, hx2.below.trans (stored4_below w2 w.heap.size w.heap.size (.int .i64 1) (.int .i64 N) (.slice none 0 0) (.slice none 0 0) (Nat.le_refl _))⟩
      · have HP : Hid (numP bs = .error (gerr bs.length (hiv bs))) := hid (by unfold numP; rw [if_neg h0, hgd, if_neg hy0, if_neg he])
        have HE := hid he
        clear hy0 he hgd h0
        go_enter Tryd.func44, Tryd.ntmps44
        go_wp2_with (go_at_call 48; refine (get2_any _ c bs _ (by omega) hb (hA.below hx.below)).mono ?_; rintro e w1 ⟨N, E, rfl, HN, HEE, hb1⟩; have hE0 : (E != 0) = true := (by rw [bne_iff_ne, HEE.out]; exact HE.out); have hx1 := hx.next hb1; obtain ⟨c0, c1, c2, c3⟩ := hx1.cells; have f0 := hx1.soft 0; have f1 := hx1.soft 1; have f2 := hx1.soft 2; have f3 := hx1.soft 3)
        exact bodyPost_ret (v := .tuple #[.agg #[.int .i64 0, .int .i64 0, .slice none 0 0, .slice none 0 0], .int .i64 E]) (by simp [results, Tryd.results44, go_sem, c0, c1, c2, c3]) rfl
          ⟨.inr ⟨E, by rw [HP.out, HEE.out], by rw [HEE.out]; exact HE.out, rfl⟩, hx1.below.trans (stored4_below w1 w.heap.size w.heap.size (.int .i64 0) (.int .i64 0) (.slice none 0 0) (.slice none 0 0) (Nat.le_refl _))⟩
end Go.Proofs.YtcahcecohjohpaaDoor
