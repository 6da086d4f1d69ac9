/- take: bytes go into the block. -/
import Derived.Test.YthohfhloobmlpaaPMix
namespace Go.Proofs.Ythohfhloobmlpaa
open Go Go.RowKit

theorem not_at {A : Option Addr} {b : Nat} {w : World} {k : IntKind} {xs : List Int} (h : Nums w k A xs) (hp : 0 < xs.length) (hA : ∀ g o s, A = some ⟨g, o, s⟩ → g ≠ b) : ∃ g off, A = some ⟨g, off, none⟩ ∧ g ≠ b ∧ g < w.heap.size ∧ ∀ i, i < xs.length → w.cell? ⟨g, off + i, none⟩ = some (.int k (xs.getD i 0)) := by
  obtain ⟨g, off, e, hlt, hc⟩ := h hp
  exact ⟨g, off, e, hA g off none e, hlt, hc⟩
theorem alen25 : Try.prog.arrayLen 25 = 17 := by kernel_rfl
theorem slice25 (b fl : Nat) (h : fl < 16) (W : World) : (Instr.sliceAt 25 (.pointer (some ⟨b, 34, none⟩)) (some (.int .i64 (fl : Int))) (some (.int .i64 16)) none).run Try.prog W = .ok (.slice (some ⟨b, 34 + fl, none⟩) (16 - fl) (17 - fl)) W := by
  rw [run_sliceAt_array_lh W 25 ⟨b, 34, none⟩ ua25 .i64 .i64 (fl : Int) 16 (by omega) (by omega) (by rw [alen25]; omega), ze25, alen25]
  have e2 : ¬ (17 = fl) := by omega
  simp [Result.andThen, slicedAt, Addr.add_mid, e2]
set_option maxRecDepth 4000 in
set_option maxHeartbeats 2000000 in
theorem take_any (b : Nat) (A : Option Addr) (c : Nat) (t m p : List Int) (w : World) (hh : Abs w b t m) (hA : Nums w .u8 A p) (hne : 0 < p.length → ∀ g o s, A = some ⟨g, o, s⟩ → g ≠ b) (hpc : p.length ≤ c) (hp : p.length ≤ 100000) (hby : Byt p) :
    Calls Try.prog 26 #[.pointer (some ⟨b, 0, none⟩), .slice A p.length c] w fun e w' => e = .returned (.tuple #[]) ∧ Abs w' b t (m ++ p) ∧ Only b w w' := by
  go_enter Try.func26, Try.ntmps26
  go_wp2
  go_loopw [1] (fun v wr => ∃ (k : Nat) (B : Option Addr) (d : Nat) (r : List Int), k ≤ p.length ∧ v = .slice B r.length d ∧ Hid (r = p.drop k) ∧ r.length ≤ d ∧ Nums wr .u8 B r ∧ (0 < r.length → ∀ g o s, B = some ⟨g, o, s⟩ → g ≠ b) ∧ Abs wr b t (m ++ p.take k) ∧ Only b w wr) (fun v _ => match v with | .slice _ n _ => n | _ => 0)
  case atStart => exact ⟨0, A, c, p, by omega, rfl, hid rfl, hpc, hA, hne, by simpa using hh, Only.refl _ _⟩
  case round =>
    obtain ⟨k, B, d, r, hk, rfl, HR, hrd, hN, hnB, hH0, hO⟩ := hrel
    have hrl : r.length = p.length - k := by rw [HR.out]; simp
    have hrle : r.length ≤ 100000 := by omega
    have HRL := hid hrl
    clear hrl
    have hrby : Byt r := by rw [HR.out]; exact hby.drop k
    by_cases hlt : 0 < r.length
    · obtain ⟨g, off, rfl, hgb, hgl, hc⟩ := not_at hN hlt (hnB hlt)
      obtain ⟨mk, hmk⟩ : ∃ mk, mk = m ++ p.take k := ⟨_, rfl⟩
      rw [← hmk] at hH0
      obtain ⟨fl, hfl⟩ : ∃ fl, fl = mk.length % 16 := ⟨_, rfl⟩
      have hf1 : fl < 16 := by omega
      obtain ⟨n, hn⟩ : ∃ n, n = min r.length (16 - fl) := ⟨_, rfl⟩
      have hn0 : 0 < n := by omega
      have hnr : n ≤ r.length := by omega
      have hnf : n ≤ 16 - fl := by omega
      have hH : Tgr wr b (pb (accN (bn t) mk (mk.length / 16))) t (padB (tailB mk)) fl := by rw [hfl]; exact hH0
      have HTL := hid (tailB_length mk)
      rw [← hfl] at HTL
      obtain ⟨A', hsl, hN', hg'⟩ := nums_from hN 23 5 Try.underlying23 (by kernel_rfl) d n hnr hlt hrd
      have fc := hH.fc
      have fz := hH.fz
      obtain ⟨x, hx⟩ : ∃ x, x = r.take n := ⟨_, rfl⟩
      have hxl : x.length = n := by rw [hx]; simp; omega
      have hxb : Byt x := by rw [hx]; exact hrby.take n
      have hsl2 := fun W => slice25 b fl hf1 W
      have hcp : (Builtin.copy_ #[23, 23] 3 #[.slice (some ⟨b, 34 + fl, none⟩) (16 - fl) (17 - fl), .slice (some ⟨g, off, none⟩) r.length d]).run Try.prog wr.drew = .ok (.int .i64 n) (wr.drew.setCells b (34 + fl) (ints .u8 x)) := by
        have h := run_copy_cells (P := Try.prog) wr.drew 23 23 3 5 b (34 + fl) (16 - fl) (17 - fl) ⟨g, off, none⟩ r.length d (ints .u8 x) Try.underlying23 (by kernel_rfl) (by rw [ints_length, hxl, hn]) ?_ ?_ ?_ (ints_one _ _)
        · rw [ints_length, hxl] at h; exact h
        · intro j v hv
          simp only [ints, List.getElem?_map, Option.map_eq_some_iff] at hv
          obtain ⟨y, hy, rfl⟩ := hv
          have hj := (List.getElem?_eq_some_iff.1 hy).1
          have := hc j (by omega)
          rw [Addr.add_mid]
          show wr.cell? _ = _
          rw [this]
          rw [hx, List.getElem?_take] at hy
          split at hy
          · simp [List.getD, hy]
          · cases hy
        · intro j hj
          have := (hH.bk.there (fl + j) (by rw [hH.bl]; rw [ints_length] at hj; omega)).1
          rw [← Nat.add_assoc] at this; exact this
        · intro j hj
          have := (hH.bk.there (fl + j) (by rw [hH.bl]; rw [ints_length] at hj; omega)).2
          rw [← Nat.add_assoc] at this; exact this
      have f0 : (0 : Int) ≤ fl := by omega
      have f1 : (fl : Int) ≤ 16 := by omega
      have n1 : (n : Int) ≤ 16 := by omega
      have hlay := hH.drew.lay (j := fl) (x := x) (by omega) hxb
      have hov : over (padB (tailB mk)) fl x = padB (tailB mk ++ x) := by
        have := padB_over (a := tailB mk) (x := x) (by rw [HTL.out]; omega)
        rwa [HTL.out] at this
      rw [hov] at hlay
      have HN := hid hn
      have HX := hid hx
      have HXL := hid hxl
      have HFL := hid hfl
      have HMK := hid hmk
      clear hn hx hxl hfl hmk hov hH0
      go_wp2
      go_still_tail 9, (by kernel_rfl)
      change wpList _ _ _ _ _ wr.drew
      have hO1 : Only b w (wr.drew.setCells b (34 + fl) (ints .u8 x)) := hO.drew.setCells (.inl rfl) _ _
      have hO2 : Only b wr (wr.drew.setCells b (34 + fl) (ints .u8 x)) := (Only.refl b wr).drew.setCells (.inl rfl) _ _
      have hfc1 := hlay.fc
      have hfz1 := hlay.fz
      clear fc fz hH
      generalize wr.drew.setCells b (34 + fl) (ints .u8 x) = wc at *
      have s1 : IntKind.i64.wrap ((fl : Int) + n) = (fl : Int) + n := IntWalk.i64_in _ (by omega)
      have HPX : Hid (m ++ p.take (k + n) = mk ++ x) := hid (by rw [HMK.out, List.append_assoc, HX.out, HR.out, ← List.take_add])
      have hkn : k + n ≤ p.length := by have := HRL.out; omega
      have hdrop : Hid (r.drop n = p.drop (k + n)) := by show _ = _; rw [HR.out, List.drop_drop]
      have HDL : Hid (r.length - n = (r.drop n).length) := hid (by simp)
      have hneA : ∀ g' o s, A' = some ⟨g', o, s⟩ → g' ≠ b := fun g' o s e => by
        obtain ⟨o', e2⟩ := hg' g off none rfl
        rw [e2] at e; injection e with e; injection e with e1; omega
      by_cases hfull : fl + n = 16
      · have hf16 : (fl : Int) + n = 16 := by omega
        obtain ⟨q1, q2, q3⟩ := more_full (r := bn t) (m := mk) (x := x) (by rw [← HFL.out, HXL.out]; exact hfull)
        have Q1 := hid q1
        have Q2 := hid q2
        have Q3 := hid q3
        have hH1 := hlay.fill 16
        have HTX : Hid ((tailB mk ++ x).length = 16) := hid (by rw [List.length_append, HTL.out, HXL.out]; exact hfull)
        clear q1 q2 q3 hfull hlay
        go_wp2_with (go_at_call 27; refine (mix_any b (accN (bn t) mk (mk.length / 16)) t (tailB mk ++ x) 16 _ (accN_lt _ _ _) HTX.out (by omega) hH1).mono ?_; rintro e w3 ⟨rfl, hH3, hO3⟩)
        go_roundw
        case rel =>
          have hfin : Only b wc w3 := ((Only.refl b wc).setCell (.inl rfl) _).trans hO3
          refine ⟨k + n, A', d - n, r.drop n, hkn, by rw [HDL.out], hdrop, by rw [← HDL.out]; omega, (hN'.only hO2 hneA).only hfin hneA, fun _ => hneA, ?_, hO1.trans hfin⟩
          unfold Abs
          rw [HPX.out, Q1.out, Q2.out, Q3.out]
          exact hH3
        case measure => show r.length - n < r.length; omega
      · have hf16 : ((fl : Int) + n == 16) = false := by simp; omega
        obtain ⟨q1, q2, q3⟩ := more_part (r := bn t) (m := mk) (x := x) (by rw [← HFL.out, HXL.out]; omega)
        rw [← HFL.out, HXL.out] at q3
        have Q1 := hid q1
        have Q2 := hid q2
        have Q3 := hid q3
        have hH1 := hlay.fill (fl + n)
        clear q1 q2 q3 hfull hlay
        go_wp2
        go_roundw
        case rel =>
          have hfin : Only b wc (wc.setCell ⟨b, 51, none⟩ (.int .i64 ((fl : Int) + n))) := (Only.refl b wc).setCell (.inl rfl) _
          refine ⟨k + n, A', d - n, r.drop n, hkn, by rw [HDL.out], hdrop, by rw [← HDL.out]; omega, (hN'.only hO2 hneA).only hfin hneA, fun _ => hneA, ?_, hO1.trans hfin⟩
          unfold Abs
          rw [HPX.out, Q1.out, Q2.out, Q3.out]
          exact hH1
        case measure => show r.length - n < r.length; omega
    · have hr0 : r.length = 0 := by omega
      have hk2 : p.take k = p := List.take_of_length_le (by have := HRL.out; omega)
      have HK2 := hid hk2
      clear hk2 hr0
      go_wp2
      go_end0
      rw [HK2.out] at hH0
      exact ⟨rfl, hH0, hO⟩
end Go.Proofs.Ythohfhloobmlpaa
