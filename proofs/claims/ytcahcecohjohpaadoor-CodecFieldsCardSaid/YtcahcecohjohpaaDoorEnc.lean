/- Encode. -/
import Derived.Test.YtcahcecohjohpaaDoorWriteC
namespace Go.Proofs.YtcahcecohjohpaaDoor
open Go.RowKit

theorem make_bytes (N : Nat) (h : N ≤ 3000000) (w : World) : (Instr.makeSlice 22 (.int .i64 0) (.int .i64 (N : Int))).run Tryd.prog w = .ok (.slice (some ⟨w.heap.size, 0, none⟩) 0 N) (w.alloc (.cells (madeCells #[.int .u8 0] N) 5)) := by
  obtain ⟨i, hi, hz, hs, hb⟩ := info_parts Tryd.info5
  have := run_make (P := Tryd.prog) w 22 5 i (.int .u8 0) Tryd.underlying22 hi hz .i64 .i64 0 (N : Int) (by omega) (by omega) (by rw [hb]; omega) (by omega)
  rw [hs] at this
  simpa [Value.cells] using this
theorem made_owned (w : World) (base N : Nat) (hb : base ≤ w.heap.size) (h : N ≤ 3000000) : Owns (w.alloc (.cells (madeCells #[.int .u8 0] N) 5)) base 5 .u8 (.slice (some ⟨w.heap.size, 0, none⟩) 0 N) [] :=
  World.ownsRow_made w _ N hb (by unfold maxLen; omega) (by rw [size_madeCells, Nat.mul_one])

theorem Owns.caps {w : World} {base : Nat} {e : TypeId} {k : IntKind} {A : Option Addr} {n c : Nat} {xs : List Int} (h : Owns w base e k (.slice A n c) xs) : n ≤ c ∧ c ≤ maxLen := by
  rcases h.2 with ⟨hv, _⟩ | ⟨g, cap, cur, hv, hg, hc, hn, hm, _⟩
  · injection hv with _ h2 h3
    subst h2; subst h3
    exact ⟨Nat.le_refl _, by unfold maxLen; omega⟩
  · injection hv with _ h2 h3
    subst h2; subst h3
    exact ⟨hn, hm⟩

def EncPost (v : V) (w : World) (e : Ending) (w' : World) : Prop :=
  ((Fit v 16 1048576 ∧ ∃ B d ys, e = .returned (.tuple #[.slice B ys.length d, .int .i64 0]) ∧ Hid (ys = bytesV v) ∧ NumsF w.heap.size w' .u8 B ys ∧ Hid (ys.length ≤ d ∧ d ≤ maxLen)) ∨ (¬ Fit v 16 1048576 ∧ e = .returned (.tuple #[.slice none 0 0, .int .i64 2]))) ∧ Below w.heap.size w w'

set_option maxHeartbeats 1000000 in
theorem encode_any (k n : Int) (b : List Int) (l : List V) (D : Nat) (A B : Option Addr) (c d : Nat) (w : World) (htm : tameV (.mk k n b l)) (ht : Tabs w) (hD1 : 1 < D) (hH : Has D w (.mk k n b l) A B) :
    Calls Tryd.prog 9 #[.agg #[.int .i64 k, .int .i64 n, .slice A b.length c, .slice B l.length d]] w (EncPost (.mk k n b l) w) := by
  have hnew := below_new w (.cells #[.int .i64 k, .int .i64 n, .slice A b.length c, .slice B l.length d] 25)
  by_cases hf : Fit (.mk k n b l) 16 1048576
  · have HF := hid hf
    have hle : ((bytesV (.mk k n b l)).length : Int) ≤ 1048576 := hf.2.2
    clear hf
    obtain ⟨N, hN⟩ : ∃ N, N = (bytesV (.mk k n b l)).length := ⟨_, rfl⟩
    have HN := hid hN
    have hN2 : N ≤ 1048576 := by omega
    clear hN
    have hb4 := Box4.start w (.int .i64 k) (.int .i64 n) (.slice A b.length c) (.slice B l.length d) 25
    go_enter Tryd.func9, Tryd.ntmps9
    go_wp2_with (go_at_call 8; refine ((cSize_any k n b l D A B c d _ htm (ht.stay hnew) (hH.stay hnew)).mono fun e w' hh => hh.of_fit HF.out).mono ?_; rw [← HN.out]; rintro e w1 ⟨rfl, hb1⟩)
    have hx := hb4.next hb1
    obtain ⟨hc0, hc1, hc2, hc3⟩ := hx.cells
    have hlw := hx.lt
    have ht1 := (ht.stay hnew).stay hb1
    have hH1 := (hH.stay hnew).stay hb1
    have hbw := hnew.trans (hb1.mono hnew.size)
    clear hb4 hb1 hnew hx
    have hmk := make_bytes N (by omega)
    have hown := made_owned w1.drew (w.heap.size + 1) N hlw (by omega)
    have hna := (below_new w1.drew (.cells (madeCells #[.int .u8 0] N) 5))
    have hnd : Below w1.heap.size w1 (w1.drew.alloc (.cells (madeCells #[.int .u8 0] N) 5)) := ((Below.refl _ _).drew).trans hna
    have ht2 := ht1.stay hnd
    have hH2 := hH1.stay hnd
    have hpu := HF.out.1
    have hroom : ([] : List Int).length + (bytesV (.mk k n b l)).length ≤ 1999990 := by rw [← HN.out]; show 0 + N ≤ _; omega
    have hDD : D ≤ w.heap.size + 1 := Nat.le_succ_of_le hH.1
    have hsz : w.heap.size + 1 ≤ (w1.drew.alloc (.cells (madeCells #[.int .u8 0] N) 5)).heap.size := Nat.le_trans hlw hnd.size
    have k0 := (hnd.cell (p := ⟨w.heap.size, 0, none⟩) hlw).trans hc0
    have k1 := (hnd.cell (p := ⟨w.heap.size, 1, none⟩) hlw).trans hc1
    have k2 := (hnd.cell (p := ⟨w.heap.size, 2, none⟩) hlw).trans hc2
    have k3 := (hnd.cell (p := ⟨w.heap.size, 3, none⟩) hlw).trans hc3
    have hbase : ∀ g, (Value.slice (some ⟨w1.drew.heap.size, 0, none⟩) 0 N).ownBlock = some g → w.heap.size + 1 ≤ g := fun g hg => (hown.lt g hg).1
    have hne : ∀ g, (Value.slice (some ⟨w1.drew.heap.size, 0, none⟩) 0 N).ownBlock = some g → g ≠ w.heap.size := fun g hg => by have := hbase g hg; omega
    go_region_held3 (fun w' => w'.cell? ⟨w.heap.size, 0, none⟩ = some (.int .i64 k) ∧ w'.cell? ⟨w.heap.size, 1, none⟩ = some (.int .i64 n) ∧ w'.cell? ⟨w.heap.size, 2, none⟩ = some (.slice A b.length c) ∧ w'.cell? ⟨w.heap.size, 3, none⟩ = some (.slice B l.length d))
      (first | go_keep | exact ⟨keep_cell hG2 k0 hsz hne, keep_cell hG2 k1 hsz hne, keep_cell hG2 k2 hsz hne, keep_cell hG2 k3 hsz hne⟩)
      (first | (go_at_call 24; refine (write_any _ k n b l rfl (some ⟨w1.drew.heap.size, 0, none⟩) 0 N [] D A B c d (w.heap.size + 1) _ hpu htm hroom ht2 hH2 hDD (Nat.lt_of_lt_of_le hD1 hDD) hsz hown).mono ?_; rintro e w2 ⟨A2, n2, c2, rfl, hO2, hG2⟩))
    go_wp2
    go_ret2
    have hl := hO2.len
    subst hl
    refine ⟨.inl ⟨HF.out, A2, c2, _, rfl, hid rfl, hO2.fresh.less (by omega), hid hO2.caps⟩, hbw.trans ((hnd.mono (by omega)).trans ((hG2.below hsz hbase).mono (by omega)))⟩
  · have HF := hid hf
    clear hf
    go_enter Tryd.func9, Tryd.ntmps9
    go_wp2_with (go_at_call 8; refine ((cSize_any k n b l D A B c d _ htm (ht.stay hnew) (hH.stay hnew)).mono fun e w' hh => hh.of_not HF.out).mono ?_; rintro e w1 ⟨rfl, hb1⟩)
    go_ret2
    exact ⟨.inr ⟨HF.out, rfl⟩, nextB hnew hb1⟩
end Go.Proofs.YtcahcecohjohpaaDoor
