/- Texts of this proof, laid together: HTake, App. -/
import Derived.Test.YtpncohoonfahpaaGreatDoorG4
import Derived.Test.YtpncohoonfahpaaGreatDoorBase
import Derived.Maps.AppendAt
import Derived.Maps.Range
import Derived.Deep.AppendLies
import Derived.WideShapes
/- A hasher takes bytes. -/
namespace Go.Proofs.YtpncohoonfahpaaGreatDoor
open Go.RowKit

set_option maxRecDepth 50000 in
theorem not_at {A : Option Addr} {b : Nat} {w : World} {k : IntKind} {xs : List Int} (h : Nums w k A xs) (hp : 0 < xs.length) (hA : ∀ g o s, A = some ⟨g, o, s⟩ → g ≠ b) : ∃ g off, A = some ⟨g, off, none⟩ ∧ g ≠ b ∧ g < w.heap.size ∧ ∀ i, i < xs.length → w.cell? ⟨g, off + i, none⟩ = some (.int k (xs.getD i 0)) := by
  obtain ⟨g, off, e, hlt, hc⟩ := h hp
  exact ⟨g, off, e, hA g off none e, hlt, hc⟩

set_option maxRecDepth 4000 in
set_option maxHeartbeats 1000000 in
theorem take_any (b : Nat) (A : Option Addr) (c : Nat) (m p : List Int) (w : World) (ht : TabsH w) (h2 : 4 < b ∧ 0 < b) (hh : Abs w b m) (hA : Nums w .u8 A p) (hne : 0 < p.length → ∀ g o s, A = some ⟨g, o, s⟩ → g ≠ b) (hpc : p.length ≤ c) (hp : p.length ≤ 100000) (hby : HByt p) :
    Calls Tryz.prog 156 #[.pointer (some ⟨b, 0, none⟩), .slice A p.length c] w fun e w' => e = .returned (.tuple #[]) ∧ Abs w' b (m ++ p) ∧ Only b w w' := by
  go_enter Tryz.func156, Tryz.ntmps156
  go_wp2
  go_loopw [1] (fun v wr => ∃ (k : Nat) (B : Option Addr) (d : Nat) (r : List Int), k ≤ p.length ∧ v = .slice B r.length d ∧ Hid (r = p.drop k) ∧ r.length ≤ d ∧ Nums wr .u8 B r ∧ (0 < r.length → ∀ g o s, B = some ⟨g, o, s⟩ → g ≠ b) ∧ Abs wr b (m ++ p.take k) ∧ Only b w wr) (fun v _ => match v with | .slice _ n _ => n | _ => 0)
  case atStart => exact ⟨0, A, c, p, by omega, rfl, hid rfl, hpc, hA, hne, by simpa using hh, Only.refl _ _⟩
  case round =>
    obtain ⟨k, B, d, r, hk, rfl, HR, hrd, hN, hnB, ⟨blk, hH, hT⟩, hO⟩ := hrel
    have hrl : r.length = p.length - k := by rw [HR.out]; simp
    have hrle : r.length ≤ 100000 := by omega
    have HRL := hid hrl
    clear hrl
    have hrby : HByt r := by rw [HR.out]; exact hby.drop k
    by_cases hlt : 0 < r.length
    · obtain ⟨g, off, rfl, hgb, hgl, hc⟩ := not_at hN hlt (hnB hlt)
      obtain ⟨fl, hfl⟩ : ∃ fl, fl = (m ++ p.take k).length % 128 := ⟨_, rfl⟩
      have hf1 : fl < 128 := by omega
      obtain ⟨n, hn⟩ : ∃ n, n = min r.length (128 - fl) := ⟨_, rfl⟩
      have hn0 : 0 < n := by omega
      have hnr : n ≤ r.length := by omega
      have hnf : n ≤ 128 - fl := by omega
      rw [← hfl] at hH hT
      obtain ⟨A', hsl, hN', hg'⟩ := nums_from hN 23 5 Tryz.underlying23 (by kernel_rfl) d n hnr hlt hrd
      have fc := hH.fc
      have fz := hH.fz
      obtain ⟨x, hx⟩ : ∃ x, x = r.take n := ⟨_, rfl⟩
      have hxl : x.length = n := by rw [hx]; simp; omega
      have hcp : (Builtin.copy_ #[23, 23] 3 #[.slice (some ⟨b, 8 + fl, none⟩) (128 - fl) (128 - fl), .slice (some ⟨g, off, none⟩) r.length d]).run Tryz.prog wr.drew = .ok (.int .i64 n) (wr.drew.setCells b (8 + fl) (ints .u8 x)) := by
        have h := run_copy_cells (P := Tryz.prog) wr.drew 23 23 3 5 b (8 + fl) (128 - fl) (128 - fl) ⟨g, off, none⟩ r.length d (ints .u8 x) Tryz.underlying23 (by kernel_rfl) (by rw [ints_length, hxl, hn]) ?_ ?_ ?_ (ints_one _ _)
        · rw [ints_length, hxl] at h; exact h
        · intro j v hv
          simp only [ints, List.getElem?_map, Option.map_eq_some_iff] at hv
          obtain ⟨y, hy, rfl⟩ := hv
          have hj := (List.getElem?_eq_some_iff.1 hy).1
          have := hc j (by omega)
          rw [Addr.add_mid]
          show wr.cell? _ = _
          rw [this]
          rw [hx, List.getElem?_take] at hy
          split at hy
          · simp [List.getD, hy]
          · cases hy
        · intro j hj
          have := (hH.bk.there (fl + j) (by rw [hH.len]; rw [ints_length] at hj; omega)).1
          rw [← Nat.add_assoc] at this; exact this
        · intro j hj
          have := (hH.bk.there (fl + j) (by rw [hH.len]; rw [ints_length] at hj; omega)).2
          rw [← Nat.add_assoc] at this; exact this
      have hn128 : ¬ 128 = fl := by omega
      have f0 : (0 : Int) ≤ fl := by omega
      have f1 : (fl : Int) ≤ 128 := by omega
      have n1 : (n : Int) ≤ 128 := by omega
      have HN := hid hn
      have HX := hid hx
      have HXL := hid hxl
      have HFL := hid hfl
      clear hn hx hxl hfl
      go_wp2
      go_still_tail 9, (by kernel_rfl)
      change wpList _ _ _ _ _ wr.drew
      have hbk1 : Arr (wr.drew.setCells b (8 + fl) (ints .u8 x)) b 8 .u8 (over blk fl x) := hH.bk.drew.over (by rw [hH.len, HXL.out]; omega)
      have hns1 : Arr (wr.drew.setCells b (8 + fl) (ints .u8 x)) b 0 .u64 (hdgs (m ++ p.take k)).list := hH.ns.drew.past _ (.inr (.inr (by show 0 + 8 ≤ 8 + fl; omega)))
      have hfc1 : (wr.drew.setCells b (8 + fl) (ints .u8 x)).cell? ⟨b, 136, none⟩ = some (.int .i64 fl) := by
        rw [World.cell?_setCells_out _ _ _ _ _ (fun _ _ => .inr (by rw [ints_length, HXL.out]; show 8 + fl + n ≤ 136; omega))]
        exact fc
      have hfz1 : (wr.drew.setCells b (8 + fl) (ints .u8 x)).frozen? ⟨b, 136, none⟩ = false := by rw [World.frozen?_setCells]; exact fz
      have hO1 : Only b w (wr.drew.setCells b (8 + fl) (ints .u8 x)) := hO.drew.setCells (.inl rfl) _ _
      have hO2 : Only b wr (wr.drew.setCells b (8 + fl) (ints .u8 x)) := (Only.refl b wr).drew.setCells (.inl rfl) _ _
      have hlen := hH.len
      have hbyt := hH.byt
      clear fc fz hH
      generalize wr.drew.setCells b (8 + fl) (ints .u8 x) = wc at *
      have s1 : IntKind.i64.wrap ((fl : Int) + n) = (fl : Int) + n := IntWalk.i64_in _ (by omega)
      have hTw : TabsH wc := ht.only hO1 h2
      have hpx : m ++ p.take (k + n) = m ++ p.take k ++ x := by rw [List.append_assoc, HX.out, HR.out, ← List.take_add]
      have hkn : k + n ≤ p.length := by have := HRL.out; omega
      have hdrop : Hid (r.drop n = p.drop (k + n)) := by show _ = _; rw [HR.out, List.drop_drop]
      have hdl : r.length - n = (r.drop n).length := by simp
      have HDL := hid hdl
      have HPX := hid hpx
      have hneA : ∀ g' o s, A' = some ⟨g', o, s⟩ → g' ≠ b := fun g' o s e => by
        obtain ⟨o', e2⟩ := hg' g off none rfl
        rw [e2] at e; injection e with e; injection e with e1; omega
      have hov := over_byt hbyt (x := x) (by rw [HX.out]; exact hrby.take n) fl
      have hovl : (over blk fl x).length = 128 := by rw [over_length (by rw [hlen, HXL.out]; omega)]; exact hlen
      have hT2 := hid hT
      clear hdl hpx hT
      by_cases hfull : fl + n = 128
      · have hf128 : (fl : Int) + n = 128 := by omega
        obtain ⟨q1, q2, q3⟩ := more_full (m := m ++ p.take k) (x := x) hlen (by rw [← HFL.out]; exact hT2.out) (by rw [← HFL.out, HXL.out]; exact hfull)
        rw [← HFL.out] at q1 q3
        have Q1 := hid q1
        have Q2 := hid q2
        have Q3 := hid q3
        have hH1 : Hsh (wc.setCell ⟨b, 136, none⟩ (.int .i64 128)) b (hdgs (m ++ p.take k)) (over blk fl x) 128 :=
          ⟨hns1.apart _ (.inr (.inr (by show 0 + 8 ≤ 136; omega))), hbk1.apart _ (.inr (.inr (by show 8 + (over blk fl x).length ≤ 136; omega))), World.cell?_setCell_same _ _ _ hfc1, by rw [World.frozen?_setCell]; exact hfz1, dgs_ok _, hovl, hov⟩
        have hT1 : TabsH (wc.setCell ⟨b, 136, none⟩ (.int .i64 128)) := hTw.only ((Only.refl b wc).setCell (.inl rfl) _) h2
        clear q1 q2 q3 hfull hov hovl
        go_wp2_with (go_at_call 207; refine (mix_any b (hdgs (m ++ p.take k)) (over blk fl x) 128 _ hT1 hH1).mono ?_; rintro e w3 ⟨rfl, hH3, hO3⟩; have fc3 := hH3.fc; have fz3 := hH3.fz)
        go_roundw
        case rel =>
          have hfin : Only b wc (w3.setCell ⟨b, 136, none⟩ (.int .i64 0)) := (((Only.refl b wc).setCell (.inl rfl) _).trans hO3).setCell (.inl rfl) _
          refine ⟨k + n, A', d - n, r.drop n, hkn, by rw [HDL.out], hdrop, by rw [← HDL.out]; omega, (hN'.only hO2 hneA).only hfin hneA, fun _ => hneA, ⟨over blk fl x, ?_, ?_⟩, hO1.trans hfin⟩
          · have e0 : (m ++ p.take (k + n)).length % 128 = 0 := by rw [HPX.out]; exact Q2.out
            rw [e0, HPX.out, Q1.out]
            exact ⟨hH3.ns.apart _ (.inr (.inr (by show 0 + 8 ≤ 136; omega))), hH3.bk.apart _ (.inr (.inr (by show 8 + (over blk fl x).length ≤ 136; rw [hH3.len]; omega))), World.cell?_setCell_same _ _ _ hH3.fc, by rw [World.frozen?_setCell]; exact hH3.fz, comp_ok _ _, hH3.len, hH3.byt⟩
          · rw [HPX.out]; exact Q3.out
        case measure => show r.length - n < r.length; omega
      · have hf128 : ((fl : Int) + n == 128) = false := by simp; omega
        obtain ⟨q1, q2, q3⟩ := more_part (m := m ++ p.take k) (x := x) hlen (by rw [← HFL.out]; exact hT2.out) (by rw [← HFL.out, HXL.out]; omega)
        rw [← HFL.out] at q2 q3
        have Q1 := hid q1
        have Q2 := hid q2
        have Q3 := hid q3
        clear q1 q2 q3 hfull
        go_wp2
        go_roundw
        case rel =>
          have hfin : Only b wc (wc.setCell ⟨b, 136, none⟩ (.int .i64 ((fl : Int) + n))) := (Only.refl b wc).setCell (.inl rfl) _
          refine ⟨k + n, A', d - n, r.drop n, hkn, by rw [HDL.out], hdrop, by rw [← HDL.out]; omega, (hN'.only hO2 hneA).only hfin hneA, fun _ => hneA, ⟨over blk fl x, ?_, ?_⟩, hO1.trans hfin⟩
          · have e0 : (m ++ p.take (k + n)).length % 128 = fl + n := by rw [HPX.out, Q2.out, HXL.out]
            rw [e0, HPX.out, Q1.out]
            exact ⟨hns1.apart _ (.inr (.inr (by show 0 + 8 ≤ 136; omega))), hbk1.apart _ (.inr (.inr (by show 8 + (over blk fl x).length ≤ 136; omega))), by rw [World.cell?_setCell_same _ _ _ hfc1]; rfl, by rw [World.frozen?_setCell]; exact hfz1, dgs_ok _, hovl, hov⟩
          · rw [HPX.out]; exact Q3.out
        case measure => show r.length - n < r.length; omega
    · have hr0 : r.length = 0 := by omega
      have hk2 : p.take k = p := List.take_of_length_le (by have := HRL.out; omega)
      have HK2 := hid hk2
      clear hk2 hr0
      go_wp2
      go_end0
      have h : Abs wr b (m ++ p.take k) := ⟨blk, hH, hT⟩
      rw [HK2.out] at h
      exact ⟨rfl, h, hO⟩
end Go.Proofs.YtpncohoonfahpaaGreatDoor

/- A row of numbers is appended to a row of the call's own, wherever it lies; what then has turned. No program is named. -/
namespace Go.Proofs.YtpncohoonfahpaaGreatDoor
open Go.RowKit Go.WideShapes Go.ChangeShapes

theorem len_app {α : Type} (a b : List α) : (a ++ b).length = a.length + b.length := List.length_append

/-- From w to w' nothing old has turned but the row v, and the row is now v': the same block, or a new one. -/
def Grew (w w' : World) (v v' : Value) : Prop := w.grownBy w' v.ownBlock ∧ (v'.ownBlock = v.ownBlock ∨ ∀ g, v'.ownBlock = some g → w.heap.size ≤ g)
theorem Grew.refl (w : World) (v : Value) : Grew w w v v := ⟨World.grownBy.refl w _, .inl rfl⟩
theorem Grew.trans {a b c : World} {v v' v'' : Value} (h : Grew a b v v') (k : Grew b c v' v'') : Grew a c v v'' := by
  refine ⟨h.1.andThen k.1 (fun j hj => ?_), ?_⟩
  · rcases h.2 with e | e
    · exact .inr (by rw [← e, hj])
    · exact .inl (e j hj)
  · rcases k.2 with e | e
    · rcases h.2 with e2 | e2
      · exact .inl (e.trans e2)
      · exact .inr fun g hg => e2 g (by rw [← e, hg])
    · exact .inr fun g hg => Nat.le_trans h.1.size (e g hg)
theorem grown_of_below {w w' : World} (h : Below w.heap.size w w') (row : Option Nat) : w.grownBy w' row := ⟨h.os, h.tape, h.output, h.size, fun k hk _ => h.block k hk⟩
/-- New memory ahead of it. -/
theorem Grew.after {a b c : World} {v v' : Value} (h : Below a.heap.size a b) (k : Grew b c v v') : Grew a c v v' := by
  refine ⟨(grown_of_below h _).andThen k.1 (fun j hj => .inr hj), ?_⟩
  rcases k.2 with e | e
  · exact .inl e
  · exact .inr fun g hg => Nat.le_trans h.size (e g hg)
/-- New memory behind it. -/
theorem Grew.before {a b c : World} {v v' : Value} (k : Grew a b v v') (h : Below b.heap.size b c) : Grew a c v v' :=
  ⟨k.1.andThen (grown_of_below h none) (fun j hj => by cases hj), k.2⟩
theorem Grew.below {w w' : World} {v v' : Value} {base : Nat} (h : Grew w w' v v') (hb : base ≤ w.heap.size) (hv : ∀ g, v.ownBlock = some g → base ≤ g) : Below base w w' :=
  (Below.refl base w).grown h.1 hb hv
theorem Grew.cell {w w' : World} {v v' : Value} (h : Grew w w' v v') {p : Addr} (hp : p.block < w.heap.size) (hne : v.ownBlock ≠ some p.block) : w'.cell? p = w.cell? p :=
  World.cell?_of_block (h.1.block p.block hp (fun e => hne e.symm))

section
variable {P : Program} {w : World} {base : Nat} {e : TypeId} {k : IntKind}

theorem run_app_nil (t ty : TypeId) (bytes : Nat) (ht : P.underlying t = some (.slice e)) (hinf : (P.info? e).map (fun i => (i.zero, i.size, i.bytes)) = some (some (.int k 0), 1, bytes))
    (v : Value) (xs : List Int) (hown : Owns w base e k v xs) (c : Nat) : (Builtin.append_ #[t, t] ty #[v, .slice none 0 c]).run P w = .ok v w := by
  obtain ⟨i, hi, _, _, _⟩ := info_parts hinf
  rcases hown.2 with ⟨rfl, _⟩ | ⟨g, cap, cur, rfl, _, _, hnc, _⟩
  · simp [Builtin.append_, run_underlying ht, sizeOf, typeInfo, hi, Builtin.lenOf, Builtin.firstCells]
  · simp [Builtin.append_, run_underlying ht, sizeOf, typeInfo, hi, Builtin.lenOf, Builtin.firstCells, hnc, storeCells]

theorem run_app (t ty : TypeId) (bytes : Nat) (ht : P.underlying t = some (.slice e)) (hinf : (P.info? e).map (fun i => (i.zero, i.size, i.bytes)) = some (some (.int k 0), 1, bytes)) (hbt : 0 < bytes)
    (A : Option Addr) (n c : Nat) (xs : List Int) (hown : Owns w base e k (.slice A n c) xs) (B : Option Addr) (d : Nat) (ys : List Int) (hB : Nums w k B ys)
    (h63 : (xs.length + ys.length) * bytes ≤ 140737488355328) (hbase : base ≤ w.heap.size) :
    ∃ A' n' c' w', (Builtin.append_ #[t, t] ty #[.slice A n c, .slice B ys.length d]).run P w = .ok (.slice A' n' c') w' ∧ Owns w' base e k (.slice A' n' c') (xs ++ ys) ∧ Grew w w' (.slice A n c) (.slice A' n' c') := by
  by_cases h0 : ys.length = 0 ∧ B = none
  · obtain ⟨h1, rfl⟩ := h0
    obtain rfl := List.eq_nil_of_length_eq_zero h1
    exact ⟨A, n, c, w, run_app_nil t ty bytes ht hinf _ xs hown d, by rw [List.append_nil]; exact hown, Grew.refl _ _⟩
  · obtain ⟨i, hi, hz, hsize, hby⟩ := info_parts hinf
    have hm : xs.length + ys.length ≤ maxLen := by
      have : xs.length + ys.length ≤ (xs.length + ys.length) * bytes := Nat.le_mul_of_pos_right _ hbt
      unfold maxLen; omega
    obtain ⟨ad, rfl⟩ : ∃ ad, B = some ad := by
      cases B with
      | some ad => exact ⟨ad, rfl⟩
      | none =>
        exfalso
        have hp : 0 < ys.length := by
          rcases Nat.eq_zero_or_pos ys.length with h | h
          · exact absurd ⟨h, rfl⟩ h0
          · exact h
        obtain ⟨b, off, he, _⟩ := hB hp
        cases he
    obtain ⟨v', w', hrun, h2, h3, _, h5⟩ := run_append_own_at (P := P) w base t ty e i (.int k 0) 1 bytes ht hi hz hsize hby rfl (by omega) (.slice A n c) xs.length (xs.map (Value.int k)) hown ad ys.length d (ys.map (Value.int k)) (by simp)
      (fun j u hu => by
        have hj : j < ys.length := by have := (List.getElem?_eq_some_iff.1 hu).1; simpa using this
        obtain ⟨b, off, he, _, hc⟩ := hB (by omega)
        injection he with he
        subst he
        rw [add_plain, hc j hj]
        simp [hj] at hu
        simp [hj, ← hu]) (fun u hu => by
        obtain ⟨y, _, rfl⟩ := List.mem_map.1 hu
        rfl) hm h63 hbase
    have hform : ∃ A' n' c', v' = .slice A' n' c' := by
      rcases h2.2 with ⟨hv, _⟩ | ⟨g, cap, cur, hv, _⟩
      · exact ⟨_, _, _, hv⟩
      · exact ⟨_, _, _, hv⟩
    obtain ⟨A', n', c', rfl⟩ := hform
    refine ⟨A', n', c', w', hrun, ?_, h3, ?_⟩
    · unfold Owns
      rw [List.map_append, List.length_append]
      exact h2
    · rcases h5 with h | h
      · exact .inl h
      · exact .inr fun g hg => by rw [h] at hg; injection hg with hg; omega

theorem wp_app {o : Oper} {a : Act} {K : Act → World → Prop} {Q : Exit → Act → World → Prop} (s x : Operand) (t : TypeId)
    (ho : o.op = .call { callee := .builtin .append, args := #[s, x], argTypes := #[t, t] }) (base : Nat) (e : TypeId) (k : IntKind) (bytes : Nat) (ht : P.underlying t = some (.slice e))
    (hinf : (P.info? e).map (fun i => (i.zero, i.size, i.bytes)) = some (some (.int k 0), 1, bytes)) (hbt : 0 < bytes) (A : Option Addr) (n c : Nat) (xs : List Int) (hs : a.eval s = .slice A n c)
    (hown : Owns w base e k (.slice A n c) xs) (B : Option Addr) (d : Nat) (ys : List Int) (hx : a.eval x = .slice B ys.length d) (hB : Nums w k B ys) (h63 : (xs.length + ys.length) * bytes ≤ 140737488355328) (hbase : base ≤ w.heap.size)
    (h : ∀ A' n' c' w', Owns w' base e k (.slice A' n' c') (xs ++ ys) → Grew w w' (.slice A n c) (.slice A' n' c') → K (a.put o.dst (.slice A' n' c')) w') : o.wp P a w K Q := by
  obtain ⟨A', n', c', w', hrun, h2, h3⟩ := run_app (P := P) t o.type bytes ht hinf hbt A n c xs hown B d ys hB h63 hbase
  unfold Oper.wp execOp
  simp only [ho, resolve, invoke, builtin, Sem.run_bind, Sem.run_pure, Result.andThen_ok, List.map_toArray, List.map_cons, List.map_nil, hs, hx, hrun]
  exact h A' n' c' w' h2 h3

theorem app_nums {ops : Array Oper} {rest : List Oper} {o : Oper} {a : Act} {Q : Exit → Act → World → Prop} (hgd : o.guard = none) (s x : Operand) (t : TypeId)
    (ho : o.op = .call { callee := .builtin .append, args := #[s, x], argTypes := #[t, t] }) (base : Nat) (e : TypeId) (k : IntKind) (bytes : Nat) (ht : P.underlying t = some (.slice e))
    (hinf : (P.info? e).map (fun i => (i.zero, i.size, i.bytes)) = some (some (.int k 0), 1, bytes)) (hbt : 0 < bytes) (A : Option Addr) (n c : Nat) (xs : List Int) (hs : a.eval s = .slice A n c)
    (hown : Owns w base e k (.slice A n c) xs) (B : Option Addr) (d : Nat) (ys : List Int) (hx : a.eval x = .slice B ys.length d) (hB : Nums w k B ys) (h63 : (xs.length + ys.length) * bytes ≤ 140737488355328) (hbase : base ≤ w.heap.size)
    (h : ∀ A' n' c' w', Owns w' base e k (.slice A' n' c') (xs ++ ys) → Grew w w' (.slice A n c) (.slice A' n' c') → wpList P ops Q rest (a.put o.dst (.slice A' n' c')) w') : wpList P ops Q (o :: rest) a w :=
  wpList_plain hgd fun _ hK => wp_app s x t ho base e k bytes ht hinf hbt A n c xs hs hown B d ys hx hB h63 hbase fun A' n' c' w' h2 h3 => hK _ _ (h A' n' c' w' h2 h3)

theorem step_app {ops : Array Oper} {o : Oper} {a : Act} {K : Act → World → Prop} {Q : Exit → Act → World → Prop} {E : Prop} (hgd : o.guard = none) (s x : Operand) (t : TypeId)
    (ho : o.op = .call { callee := .builtin .append, args := #[s, x], argTypes := #[t, t] }) (base : Nat) (e : TypeId) (k : IntKind) (bytes : Nat) (ht : P.underlying t = some (.slice e))
    (hinf : (P.info? e).map (fun i => (i.zero, i.size, i.bytes)) = some (some (.int k 0), 1, bytes)) (hbt : 0 < bytes) (A : Option Addr) (n c : Nat) (xs : List Int) (hs : a.eval s = .slice A n c)
    (hown : Owns w base e k (.slice A n c) xs) (B : Option Addr) (d : Nat) (ys : List Int) (hx : a.eval x = .slice B ys.length d) (hB : Nums w k B ys) (h63 : (xs.length + ys.length) * bytes ≤ 140737488355328) (hbase : base ≤ w.heap.size)
    (h : ∀ A' n' c' w', Owns w' base e k (.slice A' n' c') (xs ++ ys) → Grew w w' (.slice A n c) (.slice A' n' c') → K (a.put o.dst (.slice A' n' c')) w') :
    if Region.wanted o (yielded ops a.tmps) = true then Oper.wp P o a w K Q else E := by
  have hw : Region.wanted o (yielded ops a.tmps) = true := by simp [Region.wanted, hgd]
  rw [if_pos hw]
  exact wp_app s x t ho base e k bytes ht hinf hbt A n c xs hs hown B d ys hx hB h63 hbase h
end

theorem Owns.stay {w w' : World} {base : Nat} {e : TypeId} {k : IntKind} {v : Value} {xs : List Int} (h : Owns w base e k v xs) (hb : Below w.heap.size w w') : Owns w' base e k v xs := by
  refine ⟨h.1, ?_⟩
  rcases h.2 with h2 | ⟨g, cap, cur, hv, hg, hh, r⟩
  · exact .inl h2
  · refine .inr ⟨g, cap, cur, hv, hg, (hb.block g ?_).trans hh, r⟩
    rcases Nat.lt_or_ge g w.heap.size with hlt | hge
    · exact hlt
    · rw [Array.getElem?_eq_none hge] at hh; cases hh

theorem Owns.keep {w w' : World} {base : Nat} {e : TypeId} {k : IntKind} {v : Value} {xs : List Int} (h : Owns w base e k v xs) (hh : ∀ g, v.ownBlock = some g → w'.heap[g]? = w.heap[g]?) : Owns w' base e k v xs := by
  refine ⟨h.1, ?_⟩
  rcases h.2 with h2 | ⟨g, cap, cur, hv, hg, hc, r⟩
  · exact .inl h2
  · exact .inr ⟨g, cap, cur, hv, hg, (hh g (by rw [hv]; rfl)).trans hc, r⟩
theorem Owns.set {w : World} {base : Nat} {e : TypeId} {k : IntKind} {v : Value} {xs : List Int} (h : Owns w base e k v xs) (p : Addr) (u : Value) (hne : ∀ g, v.ownBlock = some g → g ≠ p.block) : Owns (w.setCell p u) base e k v xs :=
  h.keep fun g hg => Below.heap_setCell w p u g (hne g hg)
theorem NumsF.set {lo : Nat} {w : World} {k : IntKind} {A : Option Addr} {xs : List Int} (h : NumsF lo w k A xs) (p : Addr) (u : Value) (hp : p.block < lo) : NumsF lo (w.setCell p u) k A xs := fun hx => by
  obtain ⟨b, off, e, h1, hlt, hc⟩ := h hx
  refine ⟨b, off, e, h1, ?_, fun i hi => ?_⟩
  · simpa [World.setCell] using hlt
  · rw [World.cell?_setCell_other _ _ _ _ (fun e => by subst e; exact absurd hp (by simp; omega))]
    exact hc i hi

/-- Fresh memory is not turned by an append to an older row. -/
theorem NumsF.far {lo : Nat} {w w' : World} {k : IntKind} {A : Option Addr} {xs : List Int} {v v' : Value} (h : NumsF lo w k A xs) (hv : ∀ g, v.ownBlock = some g → g < lo) {w0 : World} (hw : Below w.heap.size w w0) (hG : Grew w0 w' v v') : NumsF lo w' k A xs := fun hp => by
  obtain ⟨b, off, e, h1, hlt, hc⟩ := h hp
  have hs := hw.size
  refine ⟨b, off, e, h1, Nat.lt_of_lt_of_le hlt (Nat.le_trans hs hG.1.size), fun i hi => ?_⟩
  rw [hG.cell (p := ⟨b, off + i, none⟩) (Nat.lt_of_lt_of_le hlt hs) (fun e => by have := hv b e; omega), hw.cell (p := ⟨b, off + i, none⟩) hlt]
  exact hc i hi

/-- A row that was just written out. -/
theorem Owns.new (w : World) (base : Nat) (e : TypeId) (k : IntKind) (xs : List Int) (hb : base ≤ w.heap.size) (hm : xs.length ≤ maxLen) : Owns (w.alloc (.cells (xs.map (Value.int k)).toArray e)) base e k (.slice (some ⟨w.heap.size, 0, none⟩) xs.length xs.length) xs := by
  refine ⟨by simp, .inr ⟨w.heap.size, xs.length, (xs.map (Value.int k)).toArray, rfl, hb, heap_alloc_new w _, Nat.le_refl _, hm, by simp, by simp [List.take_of_length_le]⟩⟩

/-- A block of one number that was just laid. -/
theorem nums_one (w : World) (k : IntKind) (x : Int) (t : TypeId) : Nums (w.alloc (.cells #[.int k x] t)) k (some ⟨w.heap.size, 0, none⟩) [x] := fun _ =>
  ⟨w.heap.size, 0, rfl, by simp, fun i hi => by
    have : i = 0 := by simp at hi; exact hi
    subst this
    go_simp⟩
theorem nums_two (w : World) (k : IntKind) (x y : Int) (t : TypeId) : Nums (w.alloc (.cells #[.int k x, .int k y] t)) k (some ⟨w.heap.size, 0, none⟩) [x, y] := fun _ =>
  ⟨w.heap.size, 0, rfl, by simp, fun i hi => by
    have : i = 0 ∨ i = 1 := by simp at hi; omega
    rcases this with rfl | rfl <;> go_simp⟩
end Go.Proofs.YtpncohoonfahpaaGreatDoor
