/- A value's bytes are written: bytes. -/
import Derived.Test.YtcahcecohjohpaaDoorHead
import Derived.Test.YtcahcecohjohpaaDoorBytes
import Derived.Deep.RegionHeld3
namespace Go.Proofs.YtcahcecohjohpaaDoor
open Go.RowKit

theorem keep_cell {w0 w1 : World} {v v' : Value} (hG : Grew w0 w1 v v') {g o : Nat} {x : Value} (h : w0.cell? ⟨g, o, none⟩ = some x) (hg : g < w0.heap.size) (hne : ∀ r, v.ownBlock = some r → r ≠ g) : w1.cell? ⟨g, o, none⟩ = some x :=
  (hG.cell (p := ⟨g, o, none⟩) hg (fun e => hne _ e rfl)).trans h
theorem keep_ne {w0 w1 : World} {v v' : Value} (hG : Grew w0 w1 v v') {g : Nat} (hg : g < w0.heap.size) (hne : ∀ r, v.ownBlock = some r → r ≠ g) : ∀ r, v'.ownBlock = some r → r ≠ g := fun r hr => by
  rcases hG.2 with e | e
  · exact hne r (by rw [← e]; exact hr)
  · have := e r hr; omega
theorem keep_base {base : Nat} {w0 w1 : World} {v v' : Value} (hG : Grew w0 w1 v v') (h : base ≤ w0.heap.size) : base ≤ w1.heap.size := Nat.le_trans h hG.1.size
theorem keep_has {D base : Nat} {w0 w1 : World} {v v' : Value} {x : V} {A B : Option Addr} (h : Has D w0 x A B) (hG : Grew w0 w1 v v') (hD : D ≤ base) (hb : base ≤ w0.heap.size) (hne : ∀ r, v.ownBlock = some r → base ≤ r) : Has D w1 x A B :=
  h.grow ((hG.below hb hne).mono hD)
theorem Has.nums {D : Nat} {w : World} {k n : Int} {b : List Int} {l : List V} {A B : Option Addr} (h : Has D w (.mk k n b l) A B) : Nums w .u8 A b := h.bytes.1.nums h.1
theorem head_len (k n : Int) (xs : List Int) : (xs ++ k :: pbytes true n (wid k)).length ≤ xs.length + 9 := by have := pbytes_length true n (wid k); simp; omega
theorem room_one {p q : Nat} (h : p + q ≤ 3000000) : (p + q) * 1 ≤ 140737488355328 := by omega

set_option maxHeartbeats 1000000 in
theorem write_raw (A' : Option Addr) (m' c' : Nat) (xs : List Int) (n : Int) (b : List Int) (l : List V) (D : Nat) (A B : Option Addr) (c d base : Nat) (w : World) (hb : b.length ≤ 1048576) (ht : Tabs w) (hH : Has D w (.mk 2 n b l) A B)
    (hD : D ≤ base) (hbase : base ≤ w.heap.size) (hO : Owns w base 5 .u8 (.slice A' m' c') xs) (hx : xs.length + b.length ≤ 1999990) :
    Calls Tryd.prog 24 #[.slice A' m' c', .agg #[.int .i64 2, .int .i64 n, .slice A b.length c, .slice B l.length d]] w (Adds base A' m' c' xs (bytesV (.mk 2 n b l)) w) := by
  have HV : Hid (bytesV (.mk 2 n b l) = (2 :: pbytes true b.length (wid 2)) ++ b) := hid (by unfold bytesV; rw [if_neg (by decide), if_pos rfl]; rfl)
  have hne : ∀ g, (Value.slice A' m' c').ownBlock = some g → g ≠ w.heap.size := fun g hg => Nat.ne_of_lt (hO.lt g hg).2
  have hnb : ∀ g, (Value.slice A' m' c').ownBlock = some g → base ≤ g := fun g hg => (hO.lt g hg).1
  have hnew := below_new w (.cells #[.int .i64 2, .int .i64 n, .slice A b.length c, .slice B l.length d] 25)
  have hO1 := hO.alloc (.cells #[.int .i64 2, .int .i64 n, .slice A b.length c, .slice B l.length d] 25)
  have hH1 := hH.stay hnew
  have ht1 := ht.stay hnew
  obtain ⟨hc0, _, hc2, _⟩ := (Box4.start w (.int .i64 2) (.int .i64 n) (.slice A b.length c) (.slice B l.length d) 25).cells
  have hlw := (Box4.start w (.int .i64 2) (.int .i64 n) (.slice A b.length c) (.slice B l.length d) 25).lt
  have hbs1 : base ≤ (w.alloc (.cells #[.int .i64 2, .int .i64 n, .slice A b.length c, .slice B l.length d] 25)).heap.size := by omega
  have hx1 : xs.length ≤ 2000000 := by omega
  have hh := head_len 2 b.length xs
  have hroom : ((xs ++ 2 :: pbytes true b.length (wid 2)).length + b.length) * 1 ≤ 140737488355328 := room_one (by omega)
  clear hh
  go_enter Tryd.func24, Tryd.ntmps24
  go_wp2
  generalize w.alloc (.cells #[.int .i64 2, .int .i64 n, .slice A b.length c, .slice B l.length d] 25) = W at hnew hO1 hH1 ht1 hc0 hc2 hlw hbs1 ⊢
  have ht2 : Tabs W.drew := ht1
  have hO2 : Owns W.drew base 5 .u8 (.slice A' m' c') xs := hO1
  have hH2 : Has D W.drew (.mk 2 n b l) A B := hH1.stay ((Below.refl _ _).drew)
  go_region_held3 (fun w' => w'.cell? ⟨w.heap.size, 0, none⟩ = some (.int .i64 2) ∧ w'.cell? ⟨w.heap.size, 2, none⟩ = some (.slice A b.length c))
    (first | go_keep | exact And.intro (keep_cell hG2 hc0 hlw hne) (keep_cell hG2 hc2 hlw hne) | exact And.intro (keep_cell (hG2.trans hG3) hc0 hlw hne) (keep_cell (hG2.trans hG3) hc2 hlw hne))
    (first
      | (go_at_call 38; refine (head_any 2 A' m' c' xs b.length base _ (.inr (.inl rfl)) ht2 hbs1 hO2 hx1).mono ?_; rintro e w1 ⟨A2, n2, c2, rfl, hO3, hG2⟩)
      | (refine step_app (by rfl) _ _ 22 (by rfl) base 5 .u8 1 Tryd.underlying22 Tryd.info5 Nat.zero_lt_one A2 n2 c2 (xs ++ 2 :: pbytes true b.length (wid 2)) (by rfl) hO3 A c b (by rfl) (keep_has hH2 hG2 hD hbs1 hnb).nums hroom (keep_base hG2 hbs1) ?_; intro A3 n3 c3 w3 hO4 hG3))
  go_wp2
  go_ret
  have hfin := hG2.trans hG3
  refine ⟨A3, n3, c3, rfl, ?_, Grew.after (hnew.trans ((Below.refl _ _).drew)) hfin⟩
  rw [HV.out, ← List.append_assoc]
  exact hO4
end Go.Proofs.YtcahcecohjohpaaDoor
