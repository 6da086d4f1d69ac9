/- The schedule, word by word. -/
import Derived.Test.YtihipgojeikdkaaDoorHSum
namespace Go.Proofs.YtihipgojeikdkaaDoor
open Go.RowKit

set_option maxRecDepth 50000 in
theorem ext_more (l : List Int) (n k : Nat) : ∃ r, ext l (n + k) = ext l n ++ r := by
  induction k with
  | zero => exact ⟨[], by simp⟩
  | succ k ih =>
    obtain ⟨r, hr⟩ := ih
    exact ⟨r ++ [nxt (ext l (n + k))], by rw [← Nat.add_assoc, ext, hr, List.append_assoc]⟩
set_option maxRecDepth 50000 in
theorem ext_take (l : List Int) (n k : Nat) : (ext l (n + k)).take (l.length + n) = ext l n := by
  obtain ⟨r, hr⟩ := ext_more l n k
  rw [hr, ← ext_length l n, List.take_left]
set_option maxRecDepth 50000 in
theorem sch_len {blk : List Int} (h : blk.length = 128) : (sch blk).length = 80 := by
  unfold sch; rw [ext_length, joinB_length, h]
set_option maxRecDepth 50000 in
theorem sch_low {blk : List Int} (h : blk.length = 128) {t : Nat} (ht : t < 16) : (sch blk)[t]? = some (hiv (chunk 8 blk t)) := by
  obtain ⟨r, hr⟩ := ext_more (joinB true 8 blk) 0 64
  rw [Nat.zero_add] at hr
  have hl : (joinB true 8 blk).length = 16 := by rw [joinB_length, h]
  have e : (sch blk)[t]? = (joinB true 8 blk)[t]? := by
    unfold sch
    rw [hr]
    show (joinB true 8 blk ++ r)[t]? = _
    rw [List.getElem?_append_left (by omega)]
  rw [e]
  have hj : (joinB true 8 blk)[t]? = some ((joinB true 8 blk)[t]'(by omega)) := by simp [hl, ht]
  rw [hj, (join_get true 8 blk hj).2]
  rfl
set_option maxRecDepth 50000 in
theorem sch_high {blk : List Int} (h : blk.length = 128) {t : Nat} (ht : 16 ≤ t) (h80 : t < 80) : (sch blk)[t]? = some (nxt ((sch blk).take t)) := by
  have hl : (joinB true 8 blk).length = 16 := by rw [joinB_length, h]
  obtain ⟨n, rfl⟩ : ∃ n, t = 16 + n := ⟨t - 16, by omega⟩
  have e1 : (sch blk).take (16 + n) = ext (joinB true 8 blk) n := by
    have := ext_take (joinB true 8 blk) n (64 - n)
    rw [hl, show n + (64 - n) = 64 by omega] at this
    exact this
  have e2 : (sch blk).take (16 + n + 1) = ext (joinB true 8 blk) (n + 1) := by
    have := ext_take (joinB true 8 blk) (n + 1) (64 - (n + 1))
    rw [hl, show n + 1 + (64 - (n + 1)) = 64 by omega] at this
    exact this
  rw [e1]
  have e3 : ((sch blk).take (16 + n + 1))[16 + n]? = (sch blk)[16 + n]? := by rw [List.getElem?_take, if_pos (by omega)]
  rw [← e3, e2]
  show (ext (joinB true 8 blk) n ++ [nxt (ext (joinB true 8 blk) n)])[16 + n]? = _
  have hel : (ext (joinB true 8 blk) n).length = 16 + n := by rw [ext_length, hl]
  rw [List.getElem?_append_right (by omega), hel, Nat.sub_self]
  rfl
set_option maxRecDepth 50000 in
theorem sch_wd {blk : List Int} (h : blk.length = 128) (hb : HByt blk) : AllWd (sch blk) := by
  refine ext_wd _ ?_ 64
  intro x hx
  obtain ⟨i, hi, rfl⟩ := List.mem_iff_getElem.1 hx
  have h2 := join_get true 8 blk (j := i) (x := (joinB true 8 blk)[i]) (by simp [hi])
  have hc := hiv_bd _ (chunk_byt hb 8 i)
  have hl : (chunk 8 blk i).length = 8 := by have := h2.1; simp [chunk]; omega
  rw [hl] at hc
  rw [h2.2]
  exact hc
set_option maxRecDepth 50000 in
/-- What comes behind t words, from sixteen on. -/
theorem nxt_take {ws : List Int} {t : Nat} (ht : 16 ≤ t) (hl : t ≤ ws.length) : nxt (ws.take t) = hplus (hplus (hplus (ws.getD (t - 16) 0) (sg0 (ws.getD (t - 15) 0))) (ws.getD (t - 7) 0)) (sg1 (ws.getD (t - 2) 0)) := by
  have hlen : (ws.take t).length = t := by simp; omega
  have e : ∀ i, i < t → (ws.take t).getD i 0 = ws.getD i 0 := fun i hi => by
    simp [List.getD, hi]
  unfold nxt
  rw [hlen, e _ (by omega), e _ (by omega), e _ (by omega), e _ (by omega)]
set_option maxRecDepth 50000 in
theorem chunk_chunk {m : List Int} {q t : Nat} (ht : t < 16) : chunk 8 (chunk 128 m q) t = (m.drop (q * 128 + t * 8)).take 8 := by
  unfold chunk
  rw [List.drop_take, List.drop_drop, List.take_take]
  congr 1
  omega
set_option maxRecDepth 50000 in
theorem Owns.addr {w : World} {base : Nat} {e : TypeId} {k : IntKind} {A : Option Addr} {n c : Nat} {xs : List Int} (h : Owns w base e k (.slice A n c) xs) (hp : 0 < xs.length) : ∃ g, A = some ⟨g, 0, none⟩ ∧ n ≤ c := by
  have hn := h.len
  rcases h.2 with ⟨hv, h0⟩ | ⟨g, cap, cur, hv, _, _, hle, _⟩
  · omega
  · injection hv with h1 h2 h3
    exact ⟨g, h1, by omega⟩
end Go.Proofs.YtihipgojeikdkaaDoor
