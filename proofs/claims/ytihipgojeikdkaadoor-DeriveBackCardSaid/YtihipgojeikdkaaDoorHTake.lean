/- A hasher takes bytes. -/
import Derived.Test.YtihipgojeikdkaaDoorHDig
import Derived.Test.YtihipgojeikdkaaDoorHMix
namespace Go.Proofs.YtihipgojeikdkaaDoor
open Go.RowKit

set_option maxRecDepth 50000 in
theorem not_at {A : Option Addr} {b : Nat} {w : World} {k : IntKind} {xs : List Int} (h : Nums w k A xs) (hp : 0 < xs.length) (hA : ∀ g o s, A = some ⟨g, o, s⟩ → g ≠ b) : ∃ g off, A = some ⟨g, off, none⟩ ∧ g ≠ b ∧ g < w.heap.size ∧ ∀ i, i < xs.length → w.cell? ⟨g, off + i, none⟩ = some (.int k (xs.getD i 0)) := by
  obtain ⟨g, off, e, hlt, hc⟩ := h hp
  exact ⟨g, off, e, hA g off none e, hlt, hc⟩

set_option maxRecDepth 4000 in
set_option maxHeartbeats 1000000 in
theorem take_any (b : Nat) (A : Option Addr) (c : Nat) (m p : List Int) (w : World) (ht : TabsH w) (h2 : 1 < b ∧ 0 < b) (hh : Abs w b m) (hA : Nums w .u8 A p) (hne : 0 < p.length → ∀ g o s, A = some ⟨g, o, s⟩ → g ≠ b) (hpc : p.length ≤ c) (hp : p.length ≤ 100000) (hby : HByt p) :
    Calls Tryd.prog 35 #[.pointer (some ⟨b, 0, none⟩), .slice A p.length c] w fun e w' => e = .returned (.tuple #[]) ∧ Abs w' b (m ++ p) ∧ Only b w w' := by
  go_enter Tryd.func35, Tryd.ntmps35
  go_wp2
  go_loopw [1] (fun v wr => ∃ (k : Nat) (B : Option Addr) (d : Nat) (r : List Int), k ≤ p.length ∧ v = .slice B r.length d ∧ Hid (r = p.drop k) ∧ r.length ≤ d ∧ Nums wr .u8 B r ∧ (0 < r.length → ∀ g o s, B = some ⟨g, o, s⟩ → g ≠ b) ∧ Abs wr b (m ++ p.take k) ∧ Only b w wr) (fun v _ => match v with | .slice _ n _ => n | _ => 0)
  case atStart => exact ⟨0, A, c, p, by omega, rfl, hid rfl, hpc, hA, hne, by simpa using hh, Only.refl _ _⟩
  case round =>
    obtain ⟨k, B, d, r, hk, rfl, HR, hrd, hN, hnB, ⟨blk, hH, hT⟩, hO⟩ := hrel
    have hrl : r.length = p.length - k := by rw [HR.out]; simp
    have hrle : r.length ≤ 100000 := by omega
    have HRL := hid hrl
    clear hrl
    have hrby : HByt r := by rw [HR.out]; exact hby.drop k
    by_cases hlt : 0 < r.length
    · obtain ⟨g, off, rfl, hgb, hgl, hc⟩ := not_at hN hlt (hnB hlt)
      obtain ⟨fl, hfl⟩ : ∃ fl, fl = (m ++ p.take k).length % 128 := ⟨_, rfl⟩
      have hf1 : fl < 128 := by omega
      obtain ⟨n, hn⟩ : ∃ n, n = min r.length (128 - fl) := ⟨_, rfl⟩
      have hn0 : 0 < n := by omega
      have hnr : n ≤ r.length := by omega
      have hnf : n ≤ 128 - fl := by omega
      rw [← hfl] at hH hT
      obtain ⟨A', hsl, hN', hg'⟩ := nums_from hN 22 5 Tryd.underlying22 (by kernel_rfl) d n hnr hlt hrd
      have fc := hH.fc
      have fz := hH.fz
      obtain ⟨x, hx⟩ : ∃ x, x = r.take n := ⟨_, rfl⟩
      have hxl : x.length = n := by rw [hx]; simp; omega
      have hcp : (Builtin.copy_ #[22, 22] 3 #[.slice (some ⟨b, 8 + fl, none⟩) (128 - fl) (128 - fl), .slice (some ⟨g, off, none⟩) r.length d]).run Tryd.prog wr.drew = .ok (.int .i64 n) (wr.drew.setCells b (8 + fl) (ints .u8 x)) := by
        have h := run_copy_cells (P := Tryd.prog) wr.drew 22 22 3 5 b (8 + fl) (128 - fl) (128 - fl) ⟨g, off, none⟩ r.length d (ints .u8 x) Tryd.underlying22 (by kernel_rfl) (by rw [ints_length, hxl, hn]) ?_ ?_ ?_ (ints_one _ _)
        · rw [ints_length, hxl] at h; exact h
        · intro j v hv
          simp only [ints, List.getElem?_map, Option.map_eq_some_iff] at hv
          obtain ⟨y, hy, rfl⟩ := hv
          have hj := (List.getElem?_eq_some_iff.1 hy).1
          have := hc j (by omega)
          rw [Addr.add_mid]
          show wr.cell? _ = _
          rw [this]
          rw [hx, List.getElem?_take] at hy
          split at hy
          · simp [List.getD, hy]
          · cases hy
        · intro j hj
          have := (hH.bk.there (fl + j) (by rw [hH.len]; rw [ints_length] at hj; omega)).1
          rw [← Nat.add_assoc] at this; exact this
        · intro j hj
          have := (hH.bk.there (fl + j) (by rw [hH.len]; rw [ints_length] at hj; omega)).2
          rw [← Nat.add_assoc] at this; exact this
      have hn128 : ¬ 128 = fl := by omega
      have f0 : (0 : Int) ≤ fl := by omega
      have f1 : (fl : Int) ≤ 128 := by omega
      have n1 : (n : Int) ≤ 128 := by omega
      have HN := hid hn
      have HX := hid hx
      have HXL := hid hxl
      have HFL := hid hfl
      clear hn hx hxl hfl
      go_wp2
      go_still_tail 9, (by kernel_rfl)
      change wpList _ _ _ _ _ wr.drew
      have hbk1 : Arr (wr.drew.setCells b (8 + fl) (ints .u8 x)) b 8 .u8 (over blk fl x) := hH.bk.drew.over (by rw [hH.len, HXL.out]; omega)
      have hns1 : Arr (wr.drew.setCells b (8 + fl) (ints .u8 x)) b 0 .u64 (hdgs (m ++ p.take k)).list := hH.ns.drew.past _ (.inr (.inr (by show 0 + 8 ≤ 8 + fl; omega)))
      have hfc1 : (wr.drew.setCells b (8 + fl) (ints .u8 x)).cell? ⟨b, 136, none⟩ = some (.int .i64 fl) := by
        rw [World.cell?_setCells_out _ _ _ _ _ (fun _ _ => .inr (by rw [ints_length, HXL.out]; show 8 + fl + n ≤ 136; omega))]
        exact fc
      have hfz1 : (wr.drew.setCells b (8 + fl) (ints .u8 x)).frozen? ⟨b, 136, none⟩ = false := by rw [World.frozen?_setCells]; exact fz
      have hO1 : Only b w (wr.drew.setCells b (8 + fl) (ints .u8 x)) := hO.drew.setCells (.inl rfl) _ _
      have hO2 : Only b wr (wr.drew.setCells b (8 + fl) (ints .u8 x)) := (Only.refl b wr).drew.setCells (.inl rfl) _ _
      have hlen := hH.len
      have hbyt := hH.byt
      clear fc fz hH
      generalize wr.drew.setCells b (8 + fl) (ints .u8 x) = wc at *
      have s1 : IntKind.i64.wrap ((fl : Int) + n) = (fl : Int) + n := IntWalk.i64_in _ (by omega)
      have hTw : TabsH wc := ht.only hO1 h2
      have hpx : m ++ p.take (k + n) = m ++ p.take k ++ x := by rw [List.append_assoc, HX.out, HR.out, ← List.take_add]
      have hkn : k + n ≤ p.length := by have := HRL.out; omega
      have hdrop : Hid (r.drop n = p.drop (k + n)) := by show _ = _; rw [HR.out, List.drop_drop]
      have hdl : r.length - n = (r.drop n).length := by simp
      have HDL := hid hdl
      have HPX := hid hpx
      have hneA : ∀ g' o s, A' = some ⟨g', o, s⟩ → g' ≠ b := fun g' o s e => by
        obtain ⟨o', e2⟩ := hg' g off none rfl
        rw [e2] at e; injection e with e; injection e with e1; omega
      have hov := over_byt hbyt (x := x) (by rw [HX.out]; exact hrby.take n) fl
      have hovl : (over blk fl x).length = 128 := by rw [over_length (by rw [hlen, HXL.out]; omega)]; exact hlen
      have hT2 := hid hT
      clear hdl hpx hT
      by_cases hfull : fl + n = 128
      · have hf128 : (fl : Int) + n = 128 := by omega
        obtain ⟨q1, q2, q3⟩ := more_full (m := m ++ p.take k) (x := x) hlen (by rw [← HFL.out]; exact hT2.out) (by rw [← HFL.out, HXL.out]; exact hfull)
        rw [← HFL.out] at q1 q3
        have Q1 := hid q1
        have Q2 := hid q2
        have Q3 := hid q3
        have hH1 : Hsh (wc.setCell ⟨b, 136, none⟩ (.int .i64 128)) b (hdgs (m ++ p.take k)) (over blk fl x) 128 :=
          ⟨hns1.apart _ (.inr (.inr (by show 0 + 8 ≤ 136; omega))), hbk1.apart _ (.inr (.inr (by show 8 + (over blk fl x).length ≤ 136; omega))), World.cell?_setCell_same _ _ _ hfc1, by rw [World.frozen?_setCell]; exact hfz1, dgs_ok _, hovl, hov⟩
        have hT1 : TabsH (wc.setCell ⟨b, 136, none⟩ (.int .i64 128)) := hTw.only ((Only.refl b wc).setCell (.inl rfl) _) h2
        clear q1 q2 q3 hfull hov hovl
        go_wp2_with (go_at_call 43; refine (mix_any b (hdgs (m ++ p.take k)) (over blk fl x) 128 _ hT1 hH1).mono ?_; rintro e w3 ⟨rfl, hH3, hO3⟩; have fc3 := hH3.fc; have fz3 := hH3.fz)
        go_roundw
        case rel =>
          have hfin : Only b wc (w3.setCell ⟨b, 136, none⟩ (.int .i64 0)) := (((Only.refl b wc).setCell (.inl rfl) _).trans hO3).setCell (.inl rfl) _
          refine ⟨k + n, A', d - n, r.drop n, hkn, by rw [HDL.out], hdrop, by rw [← HDL.out]; omega, (hN'.only hO2 hneA).only hfin hneA, fun _ => hneA, ⟨over blk fl x, ?_, ?_⟩, hO1.trans hfin⟩
          · have e0 : (m ++ p.take (k + n)).length % 128 = 0 := by rw [HPX.out]; exact Q2.out
            rw [e0, HPX.out, Q1.out]
            exact ⟨hH3.ns.apart _ (.inr (.inr (by show 0 + 8 ≤ 136; omega))), hH3.bk.apart _ (.inr (.inr (by show 8 + (over blk fl x).length ≤ 136; rw [hH3.len]; omega))), World.cell?_setCell_same _ _ _ hH3.fc, by rw [World.frozen?_setCell]; exact hH3.fz, comp_ok _ _, hH3.len, hH3.byt⟩
          · rw [HPX.out]; exact Q3.out
        case measure => show r.length - n < r.length; omega
      · have hf128 : ((fl : Int) + n == 128) = false := by simp; omega
        obtain ⟨q1, q2, q3⟩ := more_part (m := m ++ p.take k) (x := x) hlen (by rw [← HFL.out]; exact hT2.out) (by rw [← HFL.out, HXL.out]; omega)
        rw [← HFL.out] at q2 q3
        have Q1 := hid q1
        have Q2 := hid q2
        have Q3 := hid q3
        clear q1 q2 q3 hfull
        go_wp2
        go_roundw
        case rel =>
          have hfin : Only b wc (wc.setCell ⟨b, 136, none⟩ (.int .i64 ((fl : Int) + n))) := (Only.refl b wc).setCell (.inl rfl) _
          refine ⟨k + n, A', d - n, r.drop n, hkn, by rw [HDL.out], hdrop, by rw [← HDL.out]; omega, (hN'.only hO2 hneA).only hfin hneA, fun _ => hneA, ⟨over blk fl x, ?_, ?_⟩, hO1.trans hfin⟩
          · have e0 : (m ++ p.take (k + n)).length % 128 = fl + n := by rw [HPX.out, Q2.out, HXL.out]
            rw [e0, HPX.out, Q1.out]
            exact ⟨hns1.apart _ (.inr (.inr (by show 0 + 8 ≤ 136; omega))), hbk1.apart _ (.inr (.inr (by show 8 + (over blk fl x).length ≤ 136; omega))), by rw [World.cell?_setCell_same _ _ _ hfc1]; rfl, by rw [World.frozen?_setCell]; exact hfz1, dgs_ok _, hovl, hov⟩
          · rw [HPX.out]; exact Q3.out
        case measure => show r.length - n < r.length; omega
    · have hr0 : r.length = 0 := by omega
      have hk2 : p.take k = p := List.take_of_length_le (by have := HRL.out; omega)
      have HK2 := hid hk2
      clear hk2 hr0
      go_wp2
      go_end0
      have h : Abs wr b (m ++ p.take k) := ⟨blk, hH, hT⟩
      rw [HK2.out] at h
      exact ⟨rfl, h, hO⟩
end Go.Proofs.YtihipgojeikdkaaDoor
