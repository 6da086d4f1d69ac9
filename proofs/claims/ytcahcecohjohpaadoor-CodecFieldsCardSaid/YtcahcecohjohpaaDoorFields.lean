/- Of, Raw, and a list's items by their kinds. -/
import Derived.Test.YtcahcecohjohpaaDoorClone
import Derived.Test.YtcahcecohjohpaaDoorSame
namespace Go.Proofs.YtcahcecohjohpaaDoor
open Go.RowKit

def Listed (l : List V) (w : World) (e : Ending) (w' : World) : Prop :=
  ∃ B d, e = .returned (.agg #[.int .i64 3, .int .i64 0, .slice none 0 0, .slice B l.length d]) ∧ (∀ k n : Int, Has w'.heap.size w' (.mk k n [] l) none B) ∧ Below w.heap.size w w'

theorem of_any (k n : Int) (b : List Int) (l : List V) (D : Nat) (A B : Option Addr) (d : Nat) (w : World) (hl : l.length ≤ 1000000) (hH : Has D w (.mk k n b l) A B) : Calls Tryd.prog 19 #[.slice B l.length d] w (Listed l w) := by
  have hnew := below_new w (.cells #[.int .i64 0, .int .i64 0, .slice none 0 0, .slice none 0 0] 25)
  go_enter Tryd.func19, Tryd.ntmps19
  go_wp2_with (go_at_call 33; refine (vclone_any k n b l D A B d _ hl (hH.stay hnew)).mono ?_; rintro e w1 ⟨B1, d1, rfl, hC1, hb1⟩; have hx := (Box4.start w (.int .i64 0) (.int .i64 0) (.slice none 0 0) (.slice none 0 0) 25).next hb1; obtain ⟨c0, c1, c2, c3⟩ := hx.cells; have f0 := hx.soft 0; have f1 := hx.soft 1; have f2 := hx.soft 2; have f3 := hx.soft 3)
  have hlw := hx.lt
  have hbs : Below w.heap.size w ((((w1.setCell ⟨w.heap.size, 0, none⟩ (.int .i64 3)).setCell ⟨w.heap.size, 1, none⟩ (.int .i64 0)).setCell ⟨w.heap.size, 2, none⟩ (.slice none 0 0)).setCell ⟨w.heap.size, 3, none⟩ (.slice B1 l.length d1)) :=
    (((hx.below.setCell (p := ⟨w.heap.size, 0, none⟩) (Nat.le_refl _) _).setCell (p := ⟨w.heap.size, 1, none⟩) (Nat.le_refl _) _).setCell (p := ⟨w.heap.size, 2, none⟩) (Nat.le_refl _) _).setCell (p := ⟨w.heap.size, 3, none⟩) (Nat.le_refl _) _
  have hC2 := (((hC1.set ⟨w.heap.size, 0, none⟩ (.int .i64 3) (by simp)).set ⟨w.heap.size, 1, none⟩ (.int .i64 0) (by simp)).set ⟨w.heap.size, 2, none⟩ (.slice none 0 0) (by simp)).set ⟨w.heap.size, 3, none⟩ (.slice B1 l.length d1) (by simp)
  refine bodyPost_ret (v := .agg #[.int .i64 3, .int .i64 0, .slice none 0 0, .slice B1 l.length d1]) (by simp [results, Tryd.results19, go_sem, c0, c1, c2, c3]) rfl ⟨B1, d1, rfl, fun k2 n2 => ?_, hbs⟩
  have hD := hH.1
  refine hC2.has (hH.stay hnew) ?_ k2 n2
  exact ((((hb1.mono (by simp; omega)).setCell (p := ⟨w.heap.size, 0, none⟩) hD _).setCell (p := ⟨w.heap.size, 1, none⟩) hD _).setCell (p := ⟨w.heap.size, 2, none⟩) hD _).setCell (p := ⟨w.heap.size, 3, none⟩) hD _

def Rawed (xs : List Int) (w : World) (e : Ending) (w' : World) : Prop :=
  ∃ B d ys, e = .returned (.agg #[.int .i64 2, .int .i64 0, .slice B (ys : List Int).length d, .slice none 0 0]) ∧ Hid (ys = xs) ∧ NumsF w.heap.size w' .u8 B ys ∧ Below w.heap.size w w'
theorem raw_any (A : Option Addr) (c : Nat) (xs : List Int) (w : World) (hl : xs.length ≤ 2000000) (hA : Nums w .u8 A xs) : Calls Tryd.prog 21 #[.slice A xs.length c] w (Rawed xs w) := by
  have hnew := below_new w (.cells #[.int .i64 0, .int .i64 0, .slice none 0 0, .slice none 0 0] 25)
  go_enter Tryd.func21, Tryd.ntmps21
  go_wp2_with (go_at_call 34; refine (bclone_any A c xs _ hl (hA.below hnew)).mono ?_; rintro e w1 ⟨B1, d1, ys1, rfl, HY1, hN1, hb1⟩; have hx := (Box4.start w (.int .i64 0) (.int .i64 0) (.slice none 0 0) (.slice none 0 0) 25).next hb1; obtain ⟨c0, c1, c2, c3⟩ := hx.cells; have f0 := hx.soft 0; have f1 := hx.soft 1; have f2 := hx.soft 2; have f3 := hx.soft 3)
  have hlw := hx.lt
  have hbs : Below w.heap.size w ((((w1.setCell ⟨w.heap.size, 0, none⟩ (.int .i64 2)).setCell ⟨w.heap.size, 1, none⟩ (.int .i64 0)).setCell ⟨w.heap.size, 2, none⟩ (.slice B1 ys1.length d1)).setCell ⟨w.heap.size, 3, none⟩ (.slice none 0 0)) :=
    (((hx.below.setCell (p := ⟨w.heap.size, 0, none⟩) (Nat.le_refl _) _).setCell (p := ⟨w.heap.size, 1, none⟩) (Nat.le_refl _) _).setCell (p := ⟨w.heap.size, 2, none⟩) (Nat.le_refl _) _).setCell (p := ⟨w.heap.size, 3, none⟩) (Nat.le_refl _) _
  have hN2 := (((hN1.set ⟨w.heap.size, 0, none⟩ (.int .i64 2) (by simp)).set ⟨w.heap.size, 1, none⟩ (.int .i64 0) (by simp)).set ⟨w.heap.size, 2, none⟩ (.slice B1 ys1.length d1) (by simp)).set ⟨w.heap.size, 3, none⟩ (.slice none 0 0) (by simp)
  exact bodyPost_ret (v := .agg #[.int .i64 2, .int .i64 0, .slice B1 ys1.length d1, .slice none 0 0]) (by simp [results, Tryd.results21, go_sem, c0, c1, c2, c3]) rfl ⟨B1, d1, ys1, rfl, HY1, hN2.less (by simp), hbs⟩

theorem isOf_any (k n : Int) (b : List Int) (l : List V) (A B : Option Addr) (c d : Nat) (x : Int) (w : World) :
    Calls Tryd.prog 32 #[.agg #[.int .i64 k, .int .i64 n, .slice A b.length c, .slice B l.length d], .int .i64 x] w (Says (decide (k = x)) w) := by
  go_enter Tryd.func32, Tryd.ntmps32
  go_wp2
  go_ret
  exact ⟨ret_bool (by rw [Bool.eq_iff_iff]; simp), below_new _ _⟩

def kindsB : List V → List Int → Bool
  | [], [] => true
  | x :: l, c :: ks => decide (x.k = c) && kindsB l ks
  | [], _ :: _ => false
  | _ :: _, [] => false
theorem kindsB_len : ∀ (l : List V) (ks : List Int), l.length ≠ ks.length → kindsB l ks = false
  | [], [], h => absurd rfl h
  | [], _ :: _, _ => rfl
  | _ :: _, [], _ => rfl
  | x :: l, y :: ks, h => by rw [kindsB, kindsB_len l ks (fun e => h (by simp [e])), Bool.and_false]
theorem drop_int {l : List Int} {i : Nat} {x : Int} (h : l[i]? = some x) : l.drop i = x :: l.drop (i + 1) := by
  obtain ⟨h1, h2⟩ := List.getElem?_eq_some_iff.1 h
  rw [List.drop_eq_getElem_cons h1, h2]

set_option maxHeartbeats 1000000 in
theorem kinds_any (k n : Int) (b : List Int) (l : List V) (D : Nat) (A B K : Option Addr) (d c : Nat) (ks : List Int) (w : World) (hH : Has D w (.mk k n b l) A B) (hK : Nums w .i64 K ks) :
    Calls Tryd.prog 31 #[.slice B l.length d, .slice K ks.length c, .func (.func 32) #[] #[]] w (Says (kindsB l ks) w) := by
  have hll := hH.len
  unfold maxLen at hll
  by_cases hl : l.length = ks.length
  · have HL := hid hl
    have hlb : ((l.length : Int) != (ks.length : Int)) = false := by simp [hl]
    clear hl
    go_enter Tryd.func31, Tryd.ntmps31
    go_wp2
    go_loopw [17] (fun i wr => ∃ (j : Nat), j ≤ l.length ∧ i = .int .i64 j ∧ Hid (kindsB l ks = kindsB (l.drop j) (ks.drop j)) ∧ Below w.heap.size w wr) (fun i _ => l.length - (intOf i).toNat)
    case atStart => exact ⟨0, Nat.zero_le _, rfl, hid (by simp), Below.refl _ _⟩
    case round =>
      obtain ⟨j, hj, rfl, HQ, hbw⟩ := hrel
      by_cases hlt : j < l.length
      · obtain ⟨g, off, k1, n1, b1, l1, A1, c1, B1, d1, rfl, hg, _, HX, q0, q1, q2, q3, hX⟩ := (hH.stay hbw).item hlt
        obtain ⟨g', off', x, rfl, hg', r0, HX'⟩ := (hK.below hbw).get (show j < ks.length by rw [← HL.out]; exact hlt)
        have hjp : (j : Int) < l.length := by omega
        have hjp' : (j : Int) < ks.length := by rw [← HL.out]; exact hjp
        have hnew := below_new wr (.cells #[.int .i64 k1, .int .i64 n1, .slice A1 b1.length c1, .slice B1 l1.length d1] 25)
        have hdrop : kindsB l ks = (decide (k1 = x) && kindsB (l.drop (j + 1)) (ks.drop (j + 1))) := by rw [HQ.out, drop_at HX.out, drop_int HX'.out, kindsB]; rfl
        have HDR := hid hdrop
        clear hdrop
        cases hsx : decide (k1 = x) with
        | true =>
          have HSX := hid hsx
          clear hsx
          go_wp2_with (go_at_call 32; refine (isOf_any k1 n1 b1 l1 A1 B1 c1 d1 x _).mono ?_; rw [HSX.out]; rintro e w2 ⟨rfl, hb2⟩)
          go_roundw
          case rel => exact ⟨j + 1, by omega, by go_num, hid (by rw [HDR.out, HSX.out, Bool.true_and]), nextB (nextB hbw hnew) hb2⟩
          case measure => simp [intOf]; omega
        | false =>
          have HSX := hid hsx
          clear hsx
          go_wp2_with (go_at_call 32; refine (isOf_any k1 n1 b1 l1 A1 B1 c1 d1 x _).mono ?_; rw [HSX.out]; rintro e w2 ⟨rfl, hb2⟩)
          go_ret
          exact ⟨ret_bool (by rw [HDR.out, HSX.out]; rfl), nextB (nextB hbw hnew) hb2⟩
      · have e : j = l.length := by omega
        subst e
        go_wp2
        go_ret
        exact ⟨ret_bool (by rw [HQ.out, List.drop_length, HL.out, List.drop_length]; rfl), hbw⟩
  · have HP := hid (kindsB_len l ks hl)
    have hlb : ((l.length : Int) != (ks.length : Int)) = true := by simp; omega
    clear hl
    go_enter Tryd.func31, Tryd.ntmps31
    go_wp2
    go_ret
    exact ⟨ret_bool HP.out.symm, Below.refl _ _⟩

/-- What Fields answers. -/
def FieldsPost (k : Int) (l : List V) (ks : List Int) (w : World) (e : Ending) (w' : World) : Prop :=
  (((k = 3 ∧ kindsB l ks = true) ∧ ∃ B' d, e = .returned (.tuple #[.slice B' l.length d, .bool true]) ∧ ∀ k n : Int, Has w'.heap.size w' (.mk k n [] l) none B') ∨ (¬ (k = 3 ∧ kindsB l ks = true) ∧ e = .returned (.tuple #[.slice none 0 0, .bool false]))) ∧ Below w.heap.size w w'

set_option maxHeartbeats 1000000 in
theorem fields_any (k n : Int) (b : List Int) (l : List V) (D : Nat) (A B K : Option Addr) (d c c' : Nat) (ks : List Int) (w : World) (hl : l.length ≤ 1000000) (hH : Has D w (.mk k n b l) A B) (hK : Nums w .i64 K ks) :
    Calls Tryd.prog 18 #[.agg #[.int .i64 k, .int .i64 n, .slice A b.length c, .slice B l.length d], .slice K ks.length c'] w (FieldsPost k l ks w) := by
  have hx := Box4.start w (.int .i64 k) (.int .i64 n) (.slice A b.length c) (.slice B l.length d) 25
  have hHx := hH.stay hx.below
  by_cases h3 : k = 3
  · have hb3 : (k != 3) = false := by simp [h3]
    cases hkb : kindsB l ks with
    | true =>
      have HK := hid hkb
      have HY : Hid (k = 3 ∧ kindsB l ks = true) := hid ⟨h3, hkb⟩
      clear hkb h3
      go_enter Tryd.func18, Tryd.ntmps18
      go_wp2_with (first
        | (go_at_call 31; refine (kinds_any k n b l D A B K d c' ks _ hHx (hK.below hx.below)).mono ?_; rw [HK.out]; rintro e w1 ⟨rfl, hb1⟩; have hx1 := hx.next hb1; obtain ⟨c0, c1, c2, c3⟩ := hx1.cells)
        | (go_at_call 33; refine (vclone_any k n b l D A B d _ hl (hH.stay hx1.below)).mono ?_; rintro e w2 ⟨B2, d2, rfl, hC2, hb2⟩))
      go_ret2
      exact ⟨.inl ⟨HY.out, B2, d2, rfl, fun k2 n2 => hC2.has (hH.stay hx1.below) (hb2.mono (hH.stay hx1.below).1) k2 n2⟩, nextB hx1.below hb2⟩
    | false =>
      have HK := hid hkb
      have HY : Hid (¬ (k = 3 ∧ kindsB l ks = true)) := hid (fun h => by rw [hkb] at h; cases h.2)
      clear hkb h3
      go_enter Tryd.func18, Tryd.ntmps18
      go_wp2_with (go_at_call 31; refine (kinds_any k n b l D A B K d c' ks _ hHx (hK.below hx.below)).mono ?_; rw [HK.out]; rintro e w1 ⟨rfl, hb1⟩; have hx1 := hx.next hb1)
      go_ret2
      exact ⟨.inr ⟨HY.out, rfl⟩, hx1.below⟩
  · have hb3 : (k != 3) = true := by simp [h3]
    have HY : Hid (¬ (k = 3 ∧ kindsB l ks = true)) := hid (fun h => h3 h.1)
    clear h3
    go_enter Tryd.func18, Tryd.ntmps18
    go_wp2
    go_ret2
    exact ⟨.inr ⟨HY.out, rfl⟩, hx.below⟩
end Go.Proofs.YtcahcecohjohpaaDoor
