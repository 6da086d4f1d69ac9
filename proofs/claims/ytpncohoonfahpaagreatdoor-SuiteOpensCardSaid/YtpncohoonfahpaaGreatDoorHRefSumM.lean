/- The reference's hash. -/
import Derived.Test.YtpncohoonfahpaaGreatDoorG7
import Derived.Test.YtpncohoonfahpaaGreatDoorG8
namespace Go.Proofs.YtpncohoonfahpaaGreatDoor
open Go.RowKit

set_option maxRecDepth 50000 in
theorem slice_mid (g o n c : Nat) (lo hi : Int) (l h : Nat) (hlo : lo = l) (hhi : hi = h) (h1 : l < h) (h2 : h ≤ c) (W : World) :
    (Instr.slice 23 (.slice (some ⟨g, o, none⟩) n c) (some (.int .i64 lo)) (some (.int .i64 hi)) none).run Tryz.prog W = .ok (.slice (some ⟨g, o + l, none⟩) (h - l) (c - l)) W := by
  subst hlo hhi
  have hT : Tryz.prog.underlying 23 = some (.slice (Tryz.prog.elem 23)) := by kernel_rfl
  have hs : (sizeOf (Tryz.prog.elem 23)).run Tryz.prog W = .ok 1 W := by kernel_rfl
  rw [run_slice_lh W 23 (some ⟨g, o, none⟩) n c hT .i64 .i64 (l : Int) (h : Int) (by omega) (by omega) (by omega), hs]
  have hcl : ¬ c = l := by omega
  have hadd : (⟨g, o, none⟩ : Addr).add l = ⟨g, o + l, none⟩ := Addr.add_mid g o l
  simp [sliced, hcl, hadd, Result.andThen]
set_option maxRecDepth 50000 in
theorem spot_at {w : World} {base : Nat} {e : TypeId} {k : IntKind} {g n c : Nat} {xs : List Int} (h : Owns w base e k (.slice (some ⟨g, 0, none⟩) n c) xs) {i : Nat} {x : Int} (hx : xs[i]? = some x) : w.cell? ⟨g, i, none⟩ = some (.int k x) := by
  obtain ⟨y, hy, _, hy2⟩ := h.spot (j := i) (List.getElem?_eq_some_iff.1 hx).1
  have := hy2.out.symm.trans hx
  injection this with this
  rw [hy, this]
set_option maxRecDepth 50000 in
theorem Nums.at8 {w : World} {k : IntKind} {g : Nat} {xs : List Int} (h : Nums w k (some ⟨g, 0, none⟩) xs) {i : Nat} {x : Int} (hx : xs[i]? = some x) : w.cell? ⟨g, i, none⟩ = some (.int k x) := by
  have hi := (List.getElem?_eq_some_iff.1 hx).1
  obtain ⟨b, off, e, _, hc⟩ := h (by omega)
  injection e with e; injection e with e1 e2
  subst e1; subst e2
  have := hc i hi
  rw [Nat.zero_add] at this
  rw [this]; simp [List.getD, hx]
set_option maxRecDepth 50000 in
theorem wide8 (A : Option Addr) (d : Nat) (b : List Int) (w : World) (h8 : b.length = 8) (hby : HByt b) (hA : Nums w .u8 A b) :
    Calls Tryz.prog 59 #[.slice A 8 d] w fun e w' => ∃ v, e = .returned (.int .u64 v) ∧ Hid (v = hiv b) ∧ Below w.heap.size w w' := by
  have h := wide_any A d b w (by omega) hby hA
  rw [h8] at h; exact h
set_option maxRecDepth 50000 in
theorem quiet_more {P : Program} {f : FuncId} {args : Array Value} {w : World} {n : Nat} {v : Value}
    (h : Calls P f args (w.drewN n) fun e w' => e = .returned v ∧ ∃ m, w' = (w.drewN n).drewN m) : Calls P f args (w.drewN n) fun e w' => e = .returned v ∧ ∃ m, w' = w.drewN m :=
  Calls.quiet_of h
set_option maxRecDepth 50000 in
theorem get_of2 (l : List Int) {i : Nat} (h : i < l.length) : l[i]? = some (l.getD i 0) := by simp [h]

set_option maxRecDepth 50000 in
theorem tq_14 {x : Int} {w : World} {j : Nat} (h : Hid (Wd x)) : Calls Tryz.prog 60 #[.int .u64 x, .int .i64 14] (w.drewN j) fun e w' => e = .returned (.int .u64 (rot x 14)) ∧ ∃ m, w' = w.drewN m :=
  Calls.quiet_of (turn_any x 14 14 _ rfl h (by omega) (by omega))
set_option maxRecDepth 50000 in
theorem tq_18 {x : Int} {w : World} {j : Nat} (h : Hid (Wd x)) : Calls Tryz.prog 60 #[.int .u64 x, .int .i64 18] (w.drewN j) fun e w' => e = .returned (.int .u64 (rot x 18)) ∧ ∃ m, w' = w.drewN m :=
  Calls.quiet_of (turn_any x 18 18 _ rfl h (by omega) (by omega))
set_option maxRecDepth 50000 in
theorem tq_41 {x : Int} {w : World} {j : Nat} (h : Hid (Wd x)) : Calls Tryz.prog 60 #[.int .u64 x, .int .i64 41] (w.drewN j) fun e w' => e = .returned (.int .u64 (rot x 41)) ∧ ∃ m, w' = w.drewN m :=
  Calls.quiet_of (turn_any x 41 41 _ rfl h (by omega) (by omega))
set_option maxRecDepth 50000 in
theorem tq_28 {x : Int} {w : World} {j : Nat} (h : Hid (Wd x)) : Calls Tryz.prog 60 #[.int .u64 x, .int .i64 28] (w.drewN j) fun e w' => e = .returned (.int .u64 (rot x 28)) ∧ ∃ m, w' = w.drewN m :=
  Calls.quiet_of (turn_any x 28 28 _ rfl h (by omega) (by omega))
set_option maxRecDepth 50000 in
theorem tq_34 {x : Int} {w : World} {j : Nat} (h : Hid (Wd x)) : Calls Tryz.prog 60 #[.int .u64 x, .int .i64 34] (w.drewN j) fun e w' => e = .returned (.int .u64 (rot x 34)) ∧ ∃ m, w' = w.drewN m :=
  Calls.quiet_of (turn_any x 34 34 _ rfl h (by omega) (by omega))
set_option maxRecDepth 50000 in
theorem tq_39 {x : Int} {w : World} {j : Nat} (h : Hid (Wd x)) : Calls Tryz.prog 60 #[.int .u64 x, .int .i64 39] (w.drewN j) fun e w' => e = .returned (.int .u64 (rot x 39)) ∧ ∃ m, w' = w.drewN m :=
  Calls.quiet_of (turn_any x 39 39 _ rfl h (by omega) (by omega))
set_option maxRecDepth 50000 in
theorem tq_1 {x : Int} {w : World} {j : Nat} (h : Hid (Wd x)) : Calls Tryz.prog 60 #[.int .u64 x, .int .i64 1] (w.drewN j) fun e w' => e = .returned (.int .u64 (rot x 1)) ∧ ∃ m, w' = w.drewN m :=
  Calls.quiet_of (turn_any x 1 1 _ rfl h (by omega) (by omega))
set_option maxRecDepth 50000 in
theorem tq_8 {x : Int} {w : World} {j : Nat} (h : Hid (Wd x)) : Calls Tryz.prog 60 #[.int .u64 x, .int .i64 8] (w.drewN j) fun e w' => e = .returned (.int .u64 (rot x 8)) ∧ ∃ m, w' = w.drewN m :=
  Calls.quiet_of (turn_any x 8 8 _ rfl h (by omega) (by omega))
set_option maxRecDepth 50000 in
theorem tq_19 {x : Int} {w : World} {j : Nat} (h : Hid (Wd x)) : Calls Tryz.prog 60 #[.int .u64 x, .int .i64 19] (w.drewN j) fun e w' => e = .returned (.int .u64 (rot x 19)) ∧ ∃ m, w' = w.drewN m :=
  Calls.quiet_of (turn_any x 19 19 _ rfl h (by omega) (by omega))
set_option maxRecDepth 50000 in
theorem tq_61 {x : Int} {w : World} {j : Nat} (h : Hid (Wd x)) : Calls Tryz.prog 60 #[.int .u64 x, .int .i64 61] (w.drewN j) fun e w' => e = .returned (.int .u64 (rot x 61)) ∧ ∃ m, w' = w.drewN m :=
  Calls.quiet_of (turn_any x 61 61 _ rfl h (by omega) (by omega))
set_option maxRecDepth 50000 in
theorem tr_28 (x : Int) (w : World) (h : Hid (Wd x)) : Calls Tryz.prog 60 #[.int .u64 x, .int .i64 28] w fun e w' => e = .returned (.int .u64 (rot x 28)) ∧ ∃ m, w' = w.drewN m :=
  turn_any x 28 28 _ rfl h (by omega) (by omega)
set_option maxRecDepth 50000 in
theorem tr_34 (x : Int) (w : World) (h : Hid (Wd x)) : Calls Tryz.prog 60 #[.int .u64 x, .int .i64 34] w fun e w' => e = .returned (.int .u64 (rot x 34)) ∧ ∃ m, w' = w.drewN m :=
  turn_any x 34 34 _ rfl h (by omega) (by omega)
set_option maxRecDepth 50000 in
theorem tr_39 (x : Int) (w : World) (h : Hid (Wd x)) : Calls Tryz.prog 60 #[.int .u64 x, .int .i64 39] w fun e w' => e = .returned (.int .u64 (rot x 39)) ∧ ∃ m, w' = w.drewN m :=
  turn_any x 39 39 _ rfl h (by omega) (by omega)
set_option maxRecDepth 50000 in
theorem sq_6 {x : Int} {w : World} {j : Nat} (h : Hid (Wd x)) : Calls Tryz.prog 61 #[.int .u64 x, .int .i64 6] (w.drewN j) fun e w' => e = .returned (.int .u64 (x / 64)) ∧ ∃ m, w' = w.drewN m :=
  quiet_left (rshift_any x 6 6 _ rfl h (by omega))
set_option maxRecDepth 50000 in
theorem sq_7 {x : Int} {w : World} {j : Nat} (h : Hid (Wd x)) : Calls Tryz.prog 61 #[.int .u64 x, .int .i64 7] (w.drewN j) fun e w' => e = .returned (.int .u64 (x / 128)) ∧ ∃ m, w' = w.drewN m :=
  quiet_left (rshift_any x 7 7 _ rfl h (by omega))
set_option maxRecDepth 100000 in
set_option maxHeartbeats 4000000 in
theorem rsum_any (A : Option Addr) (c : Nat) (b : List Int) (w : World) (hl : b.length ≤ 4000) (hby : HByt b) (hA : Nums w .u8 A b) :
    Calls Tryz.prog 20 #[.slice A b.length c] w fun e w' => ∃ ys, e = .returned (.agg (ints .u8 ys).toArray) ∧ Hid (ys = hash b) ∧ Hid (ys.length = 64) ∧ Below w.heap.size w w' := by
  obtain ⟨z24, s24⟩ := zero_of_info Tryz.info38
  have i36 : (Tryz.prog.info? 89).map (fun i => (i.zero, i.size, i.bytes)) = some (some (.int .u64 0), 1, 8) := by kernel_rfl
  have I36 := hid i36
  clear i36
  obtain ⟨m, hm⟩ : ∃ m, m = b ++ padB b.length := ⟨_, rfl⟩
  have HM := hid hm
  have hmb : HByt m := by
    rw [hm]; intro x hx
    rcases List.mem_append.1 hx with h | h
    · exact hby x h
    · exact pad_byt (hid rfl) x h
  have hml : m.length % 128 = 0 := by rw [hm, List.length_append, padB_length]; omega
  have hml2 : m.length ≤ 4144 := by rw [hm, List.length_append, padB_length]; omega
  have HML := hid hml
  clear hm hml
  go_enter Tryz.func20, Tryz.ntmps20
  go_wp2_with (first
    | (go_at_call 56; refine (told_any _).mono ?_; rintro e w1 ⟨gK, rfl, hK, hb1⟩; have hbx1 := nextB (below_new w (.cells (ints .u8 (hzeros 64)).toArray 38)) hb1; have hs1 := hbx1.size; have hA1 := hA.below hbx1)
    | (at_builtin; refine app_nums rfl (.tmp 27) (.tmp 28) 23 rfl w1.heap.size 5 .u8 1 Tryz.underlying23 Tryz.info5 (by omega) none 0 0 [] rfl (Owns.none_ _ _ _ _) A c b rfl hA1 (by simp; omega) (Nat.le_refl _) ?_; intro A2 n2 c2 w2 hO2 hG2; have hbx2 : Below w1.heap.size w1 w2 := hG2.below (Nat.le_refl _) (fun g hg => by cases hg))
    | (go_at_call 57; refine (rpad_any b.length _ (by omega)).mono ?_; rintro e w3 ⟨A3, c3, y3, rfl, HY3, hN3, hb3⟩; have hO3 := hO2.stay hb3; have hbx3 := nextB hbx2 hb3; have hs3 := hbx3.size; have hy3 : y3.length ≤ 144 := (by rw [HY3.out, padB_length]; omega))
    | (at_builtin; refine app_nums rfl (.tmp 30) (.tmp 33) 23 rfl w1.heap.size 5 .u8 1 Tryz.underlying23 Tryz.info5 (by omega) A2 n2 c2 ([] ++ b) rfl hO3 A3 c3 y3 rfl hN3.nums (by simp; omega) hs3 ?_; intro A4 n4 c4 w4 hO4 hG4; have hbx4 : Below w1.heap.size w1 w4 := hbx3.trans (hG4.below hs3 (fun g hg => (hO3.lt g hg).1)))
    | (go_at_call 58; refine (begin_any _).mono ?_; rintro e W ⟨gS, rfl, hS, hb5⟩))
  have hbx5 : Below w1.heap.size w1 W := nextB hbx4 hb5
  have hBW : Below w.heap.size w W := hbx1.trans (hbx5.mono hs1)
  have hKW := hK.below hbx5
  have hR : Arr W w.heap.size 0 .u8 (hzeros 64) := by
    have h := (Arr.made w .u8 (hzeros 64) 38).below hb1 (by simp)
    exact h.below hbx5 (by have := hb1.size; simp at this; omega)
  have hm0 : ([] : List Int) ++ b ++ y3 = m := by rw [HY3.out, HM.out]; rfl
  rw [hm0] at hO4
  have hmp : 0 < m.length := by rw [HM.out, List.length_append, padB_length]; omega
  have hn4 := hO4.len
  obtain ⟨gM, rfl, hnc4⟩ := hO4.addr hmp
  subst hn4
  have hMW := hO4.nums.below hb5
  clear hm0 hO4 hG4 hb5 hbx4 hbx3 hO3 hO2 hG2 hbx2 hb3 hN3 hA1 hK hb1 hbx5 hbx1 hs1 hs3
  go_loopw [5, 6] (fun v5 v6 wr => ∃ (q p g : Nat), p ≤ m.length ∧ Hid (p = q * 128) ∧ v6 = .int .i64 p ∧ v5 = .slice (some ⟨g, 0, none⟩) 8 8 ∧ Nums wr .u64 (some ⟨g, 0, none⟩) (dgsN m q).list ∧ Below W.heap.size W wr) (fun _ v _ => m.length - (intOf v).toNat)
  case atStart => exact ⟨0, 0, gS, by omega, hid rfl, rfl, rfl, hS, Below.refl _ _⟩
  case round =>
    obtain ⟨q, p, gs, hp, HP, rfl, rfl, hs, hb⟩ := hrel
    rename World => W1
    by_cases hlt : p < m.length
    · have hp128 : p + 128 ≤ m.length := by have h1 := HP.out; have h2 := HML.out; omega
      have p0 : (0 : Int) ≤ p := by omega
      have p1 : (p : Int) < m.length := by omega
      obtain ⟨blk, hblk⟩ : ∃ blk, blk = chunk 128 m q := ⟨_, rfl⟩
      have hbl : blk.length = 128 := by rw [hblk]; unfold chunk; simp; have := HP.out; omega
      have hbb : HByt blk := by rw [hblk]; exact chunk_byt hmb _ _
      obtain ⟨ws, hws⟩ : ∃ ws, ws = sch blk := ⟨_, rfl⟩
      have hwl : ws.length = 80 := by rw [hws]; exact sch_len hbl
      have hww : AllWd ws := by rw [hws]; exact sch_wd hbl hbb
      have hMr := hMW.below hb
      have HB := hid hblk
      have HW := hid hws
      have HWL := hid hwl
      have HBL := hid hbl
      clear hblk hws hwl hbl
      go_wp2
      go_loopw [7, 8] (fun v7 v8 wx => ∃ (t : Nat) (A7 : Option Addr) (c7 : Nat), t ≤ 80 ∧ v8 = .int .i64 t ∧ v7 = .slice A7 t c7 ∧ Owns wx W1.heap.size 89 .u64 (.slice A7 t c7) (ws.take t) ∧ Below W1.heap.size W1 wx) (fun _ v _ => 80 - (intOf v).toNat)
      case atStart => exact ⟨0, none, 0, by omega, rfl, rfl, Owns.none_ _ _ _ _, Below.refl _ _⟩
      case round =>
        obtain ⟨t, A7, c7, ht, rfl, rfl, hO7, hbx⟩ := hrel
        have hsx := hbx.size
        by_cases ht80 : t < 80
        · have t0 : (0 : Int) ≤ t := by omega
          have t1 : (t : Int) < 80 := by omega
          have htl : (ws.take t).length ≤ 80 := by simp; omega
          by_cases ht16 : t < 16
          · have t2 : (t : Int) < 16 := by omega
            have hck := (hMr.below hbx).cut (lo := p + 8 * t) (m := 8) (by omega)
            rw [Nat.zero_add] at hck
            have hcb : HByt ((m.drop (p + 8 * t)).take 8) := (hmb.drop _).take _
            have hcl : ((m.drop (p + 8 * t)).take 8).length = 8 := by simp; omega
            have hval : Hid (ws[t]? = some (hiv ((m.drop (p + 8 * t)).take 8))) := by
              show _ = _
              rw [HW.out, sch_low HBL.out ht16, HB.out, chunk_chunk ht16, HP.out, Nat.mul_comm t 8]
            have hsl : ∀ W, (Instr.slice 23 (.slice (some ⟨gM, 0, none⟩) m.length c4) (some (.int .i64 ((p : Int) + 8 * (t : Int)))) (some (.int .i64 ((p : Int) + 8 * (t : Int) + 8))) none).run Tryz.prog W = .ok (.slice (some ⟨gM, p + 8 * t, none⟩) 8 (c4 - (p + 8 * t))) W := fun W => by
              have h := slice_mid gM 0 m.length c4 ((p : Int) + 8 * (t : Int)) ((p : Int) + 8 * (t : Int) + 8) (p + 8 * t) (p + 8 * t + 8) (by omega) (by omega) (by omega) (by omega) W
              rw [Nat.add_sub_cancel_left, Nat.zero_add] at h
              exact h
            have HCL := hid hcl
            clear hcl
            go_wp2_with (first
              | (go_at_call 59; ((with_reducible refine (wide8 _ _ _ _ HCL.out hcb hck).mono ?_)); rintro e w6 ⟨x6, rfl, HX6, hb6⟩; have hO6 := hO7.stay hb6; have hs6 := hb6.size)
              | (at_builtin; refine app_nums rfl (.tmp 48) (.tmp 61) 86 rfl W1.heap.size 89 .u64 8 Tryz.underlying86 I36.out (by omega) A7 t c7 (ws.take t) rfl (hO6.alloc _) _ 1 [x6] rfl (nums_one _ _ _ _) (by simp; omega) (by simp; omega) ?_; intro A8 n8 c8 w8 hO8 hG8))
            go_roundw
            case rel =>
              have hn8 := hO8.len
              rw [HX6.out, ← take_succ_at hval.out] at hO8
              have e8 : n8 = t + 1 := by rw [hn8]; simp [HWL.out]; omega
              rw [e8] at hO8
              exact ⟨t + 1, A8, c8, by omega, by go_num, by rw [e8], hO8, ((hbx.trans (hb6.mono hsx)).alloc (by omega) _).trans (hG8.below (by simp; omega) (fun g hg => (hO6.lt g hg).1))⟩
            case measure => simp [intOf]; omega
          · obtain ⟨k, rfl⟩ : ∃ k, t = k + 16 := ⟨t - 16, by omega⟩
            have hx : Hid (ws[k + 16]? = some (nxt (ws.take (k + 16)))) := by show _ = _; rw [HW.out]; exact sch_high HBL.out (by omega) (by omega)
            have hnx := nxt_take (ws := ws) (t := k + 16) (by omega) (by rw [HWL.out]; omega)
            rw [show k + 16 - 16 = k by omega, show k + 16 - 15 = k + 1 by omega, show k + 16 - 7 = k + 9 by omega, show k + 16 - 2 = k + 14 by omega] at hnx
            obtain ⟨g7, rfl, hnc7⟩ := hO7.addr (by simp [HWL.out]; omega)
            have gt : ∀ i, i < k + 16 → (ws.take (k + 16))[i]? = some (ws.getD i 0) := fun i hi => by rw [List.getElem?_take, if_pos hi]; exact get_of2 ws (by rw [HWL.out]; omega)
            have cAt : ∀ i, i < k + 16 → _ := fun i hi => spot_at hO7 (gt i hi)
            have c15 := cAt (k + 1) (by omega)
            have c2 := cAt (k + 14) (by omega)
            have c16 := cAt k (by omega)
            have c7' := cAt (k + 9) (by omega)
            have w15 := hid (getD_wd hww (k + 1))
            have w2' := hid (getD_wd hww (k + 14))
            have HN := hid hnx
            have z15 := w15.out.1
            have z2 := w2'.out.1
            generalize ws.getD (k + 1) 0 = x15 at *
            generalize ws.getD (k + 14) 0 = x2 at *
            generalize ws.getD k 0 = x16 at *
            generalize ws.getD (k + 9) 0 = x7 at *
            clear hnx gt cAt
            have s15 : IntKind.i64.wrap ((k : Int) + 16 - 15) = (k : Int) + 1 := by rw [IntWalk.i64_in _ (by omega)]; omega
            have s2 : IntKind.i64.wrap ((k : Int) + 16 - 2) = (k : Int) + 14 := by rw [IntWalk.i64_in _ (by omega)]; omega
            have s16 : IntKind.i64.wrap (k : Int) = (k : Int) := IntWalk.i64_in _ (by omega)
            have s7 : IntKind.i64.wrap ((k : Int) + 16 - 7) = (k : Int) + 9 := by rw [IntWalk.i64_in _ (by omega)]; omega
            have b1 : (0 : Int) ≤ k := by omega
            have b2 : (k : Int) < 80 := by omega
            have b3 : (0 : Int) ≤ (k : Int) + 9 := by omega
            have b5 : (0 : Int) ≤ (k : Int) + 16 := by omega
            have b9 : (k : Int) < (k : Int) + 16 := by omega
            have b10 : (k : Int) + 9 < (k : Int) + 16 := by omega
            have b11 : (k : Int) < ((k + 16 : Nat) : Int) := by omega
            have b12 : (k : Int) + 9 < ((k + 16 : Nat) : Int) := by omega
            have b6 : ((k : Int) + 9).toNat = k + 9 := by omega
            have b7 : ((k : Int) + 1).toNat = k + 1 := by omega
            have b8 : ((k : Int) + 14).toNat = k + 14 := by omega
            go_wp2
            refine region_quiet_tail_one 30 (fun w' => ∃ j, w' = wr.drewN j) (.slice (some ⟨g7, 0, none⟩) (k + 16) c7) (by kernel_rfl) (by kernel_rfl) (by kernel_rfl) (fun _ _ _ h => h) (Or.inl ⟨rfl, fun w => by go_simp⟩) ⟨1, rfl⟩ ?_
            simp only [List.take_succ_cons, List.take_zero, List.drop_succ_cons, List.drop_zero, Nat.reduceSub]
            go_simp
            repeat (quiet_step (with_reducible first | exact tq_1 w15 | exact tq_8 w15 | exact tq_19 w2' | exact tq_61 w2' | exact sq_7 w15 | exact sq_6 w2'))
            refine wpQuiet_nil ?_
            intro nq
            replace hO7 := hO7.drewN nq
            replace hbx := below_drewN hbx nq
            have hsx2 := hbx.size
            clear c15 c2 c16 c7'
            generalize wr.drewN nq = wz at *
            go_wp2_with (at_builtin; refine app_nums rfl (.tmp 73) (.tmp 103) 86 rfl W1.heap.size 89 .u64 8 Tryz.underlying86 I36.out (by omega) (some ⟨g7, 0, none⟩) (k + 16) c7 (ws.take (k + 16)) rfl (hO7.alloc _) _ 1 [hplus (hplus (hplus x16 (sg0 x15)) x7) (sg1 x2)] rfl (nums_one _ _ _ _) (by simp; omega) (by simp; omega) ?_; intro A8 n8 c8 w8 hO8 hG8)
            go_roundw
            case rel =>
              have hn8 := hO8.len
              rw [← HN.out, ← take_succ_at hx.out] at hO8
              have e8 : n8 = k + 16 + 1 := by rw [hn8]; simp [HWL.out]; omega
              rw [e8] at hO8
              exact ⟨k + 16 + 1, A8, c8, by omega, by go_num, by rw [e8], hO8, (hbx.alloc (by omega) _).trans (hG8.below (by simp; omega) (fun g hg => (hO7.lt g hg).1))⟩
            case measure => simp [intOf]; omega
        · have e80 : t = 80 := by omega
          rw [e80, List.take_of_length_le (by rw [HWL.out]; omega)] at hO7
          have ht80i : (80 : Int) ≤ t := by omega
          obtain ⟨g7, rfl, hnc7⟩ := hO7.addr (by rw [HWL.out]; omega)
          have hWs := hO7.nums
          obtain ⟨S0, hS0⟩ : ∃ S0, S0 = dgsN m q := ⟨_, rfl⟩
          have HS0 := hid hS0
          have ok0 : S0.ok := by rw [hS0]; exact dgsN_ok m q
          rw [← hS0] at hs
          have hsr := hs.below hbx
          have hKr := (hKW.below hb).below hbx
          have d0 : _ := hsr.at8 (i := 0) (x := S0.a) rfl
          have d1 : _ := hsr.at8 (i := 1) (x := S0.b) rfl
          have d2 : _ := hsr.at8 (i := 2) (x := S0.c) rfl
          have d3 : _ := hsr.at8 (i := 3) (x := S0.d) rfl
          have d4 : _ := hsr.at8 (i := 4) (x := S0.e) rfl
          have d5 : _ := hsr.at8 (i := 5) (x := S0.f) rfl
          have d6 : _ := hsr.at8 (i := 6) (x := S0.g) rfl
          have d7 : _ := hsr.at8 (i := 7) (x := S0.h) rfl
          have htn : Hid (t = 80) := hid e80
          clear hO7 e80 hS0
          rename World => W2
          go_wp2
          go_loopw [11, 12, 13, 14, 15, 16, 17, 18, 19] (fun v1 v2 v3 v4 v5 v6 v7 v8 i wx => ∃ (k : Nat) (S : HSt), k ≤ 80 ∧ i = .int .i64 k ∧ Hid (S = rounds ws S0 k) ∧ v1 = .int .u64 S.a ∧ v2 = .int .u64 S.b ∧ v3 = .int .u64 S.c ∧ v4 = .int .u64 S.d ∧ v5 = .int .u64 S.e ∧ v6 = .int .u64 S.f ∧ v7 = .int .u64 S.g ∧ v8 = .int .u64 S.h ∧ Below W2.heap.size W2 wx) (fun _ _ _ _ _ _ _ _ i _ => 80 - (intOf i).toNat)
          case atStart => exact ⟨0, S0, by omega, rfl, hid rfl, rfl, rfl, rfl, rfl, rfl, rfl, rfl, rfl, Below.refl _ _⟩
          case round =>
            obtain ⟨k, S, hk, rfl, HS, rfl, rfl, rfl, rfl, rfl, rfl, rfl, rfl, hby2⟩ := hrel
            by_cases hk80 : k < 80
            · have x1 := (hWs.below hby2).at8 (i := k) (x := ws.getD k 0) (get_of2 ws (by rw [HWL.out]; exact hk80))
              have x2 := (hKr.below hby2).at8 (i := k) (x := KINDS.getD k 0) (get_of2 KINDS (by rw [KINDS_length]; exact hk80))
              have okS : S.ok := by rw [HS.out]; exact rounds_ok _ ok0 _
              have e0 := hid okS.2.2.2.2.1
              have a0 := hid okS.1
              have hinv : IntKind.u64.wrap (18446744073709551615 - S.e) = hinv S.e := by
                have h1 := e0.out.1
                have h2 := e0.out.2
                rw [IntWalk.u64_in _ (by omega)]; rfl
              have HN : Hid (step S (KINDS.getD k 0) (ws.getD k 0) = rounds ws S0 (k + 1)) := by show _ = _; rw [HS.out]; rfl
              generalize KINDS.getD k 0 = kk at *
              generalize ws.getD k 0 = xx at *
              have k0 : (0 : Int) ≤ k := by omega
              have k1 : (k : Int) < 80 := by omega
              have k2 : (k : Int) < t := by omega
              clear HS d0 d1 d2 d3 d4 d5 d6 d7
              go_wp2
              go_quiet (with_reducible first | exact tq_14 e0 | exact tq_18 e0 | exact tq_41 e0)
              have hb3 := below_drewN hby2 nq
              generalize wr.drewN nq = wy at *
              go_wp2_with (go_at_call 60; (first | (with_reducible refine (tr_28 _ _ a0).mono ?_) | (with_reducible refine (tr_34 _ _ a0).mono ?_) | (with_reducible refine (tr_39 _ _ a0).mono ?_)); rintro e w' ⟨rfl, nd, rfl⟩)
              go_roundw
              case rel => exact ⟨k + 1, step S kk xx, by omega, by go_num, HN, rfl, rfl, rfl, rfl, rfl, rfl, rfl, rfl, below_drewN hb3 _⟩
              case measure => simp [intOf]; omega
            · have ek : k = 80 := by omega
              have HE : Hid (add8 S0 S = dgsN m (q + 1)) := by show _ = _; rw [HS.out, ek, HW.out, dgsN_succ, ← HS0.out, ← HB.out]; rfl
              have hk80i : (80 : Int) ≤ k := by omega
              have hsr2 := hsr.below hby2
              have d0 := hsr2.at8 (i := 0) (x := S0.a) rfl
              have d1 := hsr2.at8 (i := 1) (x := S0.b) rfl
              have d2 := hsr2.at8 (i := 2) (x := S0.c) rfl
              have d3 := hsr2.at8 (i := 3) (x := S0.d) rfl
              have d4 := hsr2.at8 (i := 4) (x := S0.e) rfl
              have d5 := hsr2.at8 (i := 5) (x := S0.f) rfl
              have d6 := hsr2.at8 (i := 6) (x := S0.g) rfl
              have d7 := hsr2.at8 (i := 7) (x := S0.h) rfl
              clear ek HS
              go_wp2
              refine region_quiet_tail 40 (fun w' => ∃ j, w' = wr.drewN j) (by kernel_rfl) (by kernel_rfl) ⟨1, rfl⟩ ?_
              simp only [List.take_succ_cons, List.take_zero, List.drop_succ_cons, List.drop_zero]
              repeat (quiet_step (fail))
              refine wpQuiet_nil ?_
              rintro _ ⟨nq, rfl⟩
              have hb4 := below_drewN hby2 nq
              have hbT := (hb.trans (hbx.mono hb.size)).trans (hb4.mono (Nat.le_trans hb.size hbx.size))
              clear d0 d1 d2 d3 d4 d5 d6 d7
              generalize wr.drewN nq = wz at *
              have p3 : IntKind.i64.wrap ((p : Int) + 128) = (p : Int) + 128 := IntWalk.i64_in _ (by omega)
              go_wp2
              go_roundw
              case rel =>
                refine ⟨q + 1, p + 128, wz.heap.size, by omega, by show _ = _; rw [HP.out]; omega, by go_num, rfl, ?_, hbT.alloc hbT.size _⟩
                rw [← HE.out]
                exact nums_lits wz .u64 (add8 S0 S).list 89 _ rfl
              case measure => simp [intOf]; omega
    · have hpe : p = m.length := by omega
      have hqe : Hid (dgsN m q = hdgs m) := by show _ = _; unfold hdgs; congr 1; have h1 := HP.out; omega
      obtain ⟨S0, hS0⟩ : ∃ S0, S0 = hdgs m := ⟨_, rfl⟩
      rw [hqe.out, ← hS0] at hs
      have HS0 := hid hS0
      obtain ⟨F, hF⟩ : ∃ F, F = splitB true 8 S0.list := ⟨_, rfl⟩
      have hFl : F.length = 64 := by rw [hF, splitB_length]; rfl
      have HF := hid hF
      have HFL := hid hFl
      have ok0 : S0.ok := by rw [hS0]; exact dgs_ok m
      have hpi : (m.length : Int) ≤ p := by omega
      clear hpe hS0 hF hFl hlt
      rename World => W2
      obtain ⟨r2, hr2⟩ : ∃ r2, r2 = W2.heap.size := ⟨_, rfl⟩
      have hA0 : Arr (W2.alloc (.cells (ints .u8 (hzeros 64)).toArray 38)) r2 0 .u8 (fillK F (8 * 0)) := by
        rw [Nat.mul_zero, fillK_zero, HFL.out, hr2]; exact Arr.made W2 .u8 (hzeros 64) 38
      have hB0 := (below_new W2 (.cells (ints .u8 (hzeros 64)).toArray 38))
      have hwW : w.heap.size ≤ W2.heap.size := (hBW.trans (hb.mono hBW.size)).size
      have hRW : w.heap.size < W2.heap.size := Nat.lt_of_lt_of_le (hR.lt (by simp [hzeros])) hb.size
      have hR2 : Arr W2 w.heap.size 0 .u8 (hzeros 64) := hR.next' hb
      have hbT : Below w.heap.size w W2 := hBW.trans (hb.mono hBW.size)
      go_wp2
      rw [← hr2] at hB0 ⊢
      have HR2 := hid hr2
      clear hr2
      go_loopw [23] (fun v wx => ∃ i : Nat, i ≤ 8 ∧ v = .int .i64 i ∧ Below r2 W2 wx ∧ Arr wx r2 0 .u8 (fillK F (8 * i))) (fun v _ => 8 - (intOf v).toNat)
      case atStart => exact ⟨0, by omega, rfl, hB0, hA0⟩
      case round =>
        clear hB0 hA0
        obtain ⟨i, hi, rfl, hbi, hAi⟩ := hrel
        by_cases hi8 : i < 8
        · obtain ⟨x, hx⟩ : ∃ x, S0.list[i]? = some x := ⟨_, get_of2 S0.list (i := i) hi8⟩
          have hxw : Wd x := by
            have : i = 0 ∨ i = 1 ∨ i = 2 ∨ i = 3 ∨ i = 4 ∨ i = 5 ∨ i = 6 ∨ i = 7 := by omega
            obtain ⟨o1, o2, o3, o4, o5, o6, o7, o8⟩ := ok0
            rcases this with rfl | rfl | rfl | rfl | rfl | rfl | rfl | rfl <;> (injection hx with hx; subst hx; assumption)
          have hgx : ∀ wy, Below r2 W2 wy → wy.cell? ⟨gs, i, none⟩ = some (.int .u64 x) := fun wy h => (hs.below (by rw [HR2.out] at h; exact h)).at8 hx
          have i0 : (0 : Int) ≤ i := by omega
          have i1 : (i : Int) < 8 := by omega
          have HX := hid hx
          have HXW := hid hxw
          have HGX := hid hgx
          clear hx hxw hgx
          go_wp2
          go_loopw [24, 25] (fun v24 v25 wx => ∃ (k : Nat) (S : Int), k ≤ 8 ∧ v25 = .int .i64 k ∧ v24 = .int .u64 S ∧ Hid (S = sc k) ∧ Below r2 W2 wx ∧ Arr wx r2 0 .u8 (fillK F (8 * i + k))) (fun _ v _ => 8 - (intOf v).toNat)
          case atStart => exact ⟨0, 72057594037927936, by omega, rfl, rfl, hid sc_zero, hbi, hAi⟩
          case round =>
            clear hbi hAi
            obtain ⟨k, S, hk, rfl, rfl, HS, hbk, hAk⟩ := hrel
            by_cases hk8 : k < 8
            · have hSe : S = 2 ^ (8 * (7 - k)) := by rw [HS.out]; exact sc_at hk8
              have hS1 : 1 ≤ S := by have := Int.pow_pos (n := 2) (m := 8 * (7 - k)) (by omega); omega
              have hS2 : S ≤ 72057594037927936 := by have := pow_mono2 (a := 8 * (7 - k)) (b := 56) (by omega); rw [hSe]; exact this
              have hS0' : ¬ S = 0 := by omega
              have hc := HGX.out _ hbk
              have hx0 := HXW.out.1
              have hx1 := HXW.out.2
              have hFk : F[8 * i + k]? = some (x / S % 256) := by
                rw [HF.out, splitB_at true 8 _ (by show 8 * i + k < 8 * 8; omega)]
                have e1 : (8 * i + k) / 8 = i := by omega
                have e2 : (8 * i + k) % 8 = k := by omega
                have e3 : S0.list.getD i 0 = x := by rw [List.getD_eq_getElem?_getD, HX.out]; rfl
                rw [e1, e2, e3, hSe]; rfl
              obtain ⟨y, hy⟩ : ∃ y, y = x / S := ⟨_, rfl⟩
              have hy0 : 0 ≤ y := by rw [hy]; exact Int.ediv_nonneg hx0 (by omega)
              have hy1 : y < 18446744073709551616 := by have := Int.ediv_le_self S hx0; omega
              rw [← hy] at hFk
              have HFK := hid hFk
              have HS3 := hid (sc_succ k)
              have hyw : IntKind.u8.wrap (y % 256) = y % 256 := IntWalk.u8_in _ (by omega)
              have hym : 0 ≤ y % 256 := by omega
              have hq0 : 0 ≤ S / 256 := by omega
              have hyq : x / S = y := hy.symm
              obtain ⟨z, hz, hzf, _⟩ := hAk.spot (i := 8 * i + k) (by rw [fillK_length, HFL.out]; omega)
              rw [Nat.zero_add] at hz hzf
              have n0 : (0 : Int) ≤ 8 * (i : Int) + (k : Int) := by omega
              have n1 : 8 * (i : Int) + (k : Int) < 64 := by omega
              have n2 : (8 * (i : Int) + (k : Int)).toNat = 8 * i + k := by omega
              clear hFk hSe hy
              go_wp2
              go_roundw
              case rel =>
                have h := hAk.set (8 * i + k) (y % 256)
                rw [fillK_set F HFK.out, Nat.zero_add] at h
                exact ⟨k + 1, S / 256, by omega, by go_num, rfl, by show _ = _; rw [HS.out]; exact HS3.out, hbk.setCell (Nat.le_refl _) _, h⟩
              case measure => simp [intOf]; omega
            · have ek : k = 8 := by omega
              have hk8i : (8 : Int) ≤ k := by omega
              rw [ek] at hAk
              clear ek
              go_wp2
              go_roundw
              case rel => exact ⟨i + 1, by omega, by go_num, hbk, by rw [show 8 * (i + 1) = 8 * i + 8 by omega]; exact hAk⟩
              case measure => simp [intOf]; omega
        · have ei : i = 8 := by omega
          have hi8i : (8 : Int) ≤ i := by omega
          rw [ei, show 8 * 8 = F.length by rw [HFL.out], fillK_end] at hAi
          clear ei
          rename World => wf
          have hrg := hAi.range
          have hRf : Arr wf w.heap.size 0 .u8 (hzeros 64) := hR2.below hbi (by rw [HR2.out]; exact hRW)
          have hthf : wf.there w.heap.size 0 (ints .u8 F).toArray.size := by have := hRf.there; simpa [hzeros, HFL.out] using this
          have hszf : (Tryz.prog.info? 38).map (·.size) = some (ints .u8 F).length := by rw [s24, ints_length, HFL.out]
          have hszg : (Tryz.prog.info? 38).map (·.size) = some (ints .u8 F).toArray.size := by rw [s24]; simp [HFL.out]
          have HR3 : Hid (w.heap.size ≤ r2) := by show _ ≤ _; rw [HR2.out]; omega
          go_wp2_with (first
            | (with_reducible refine wpList_load_mid (op := ⟨some 258, .load 38 (.tmp 22), _, _, _, _⟩) rfl 38 (.tmp 22) rfl r2 0 rfl (ints .u8 F) _ hrg Tryz.underlying38 rfl hszf ?_)
            | (with_reducible refine wpList_store_mid (op := ⟨none, .store 38 (.tmp 2) (.tmp 258), _, _, _, _⟩) rfl 38 (.tmp 2) (.tmp 258) rfl w.heap.size 0 (ints .u8 F).toArray rfl rfl hthf hszg (ints_all _ _) ?_))
          have hfin := hRf.all (ys := F) (by simp [hzeros, HFL.out])
          have hBf : Below w.heap.size w (wf.setCells w.heap.size 0 (ints .u8 F)) := Below.setCells (hbT.trans (hbi.mono HR3.out)) (Nat.le_refl _) _ _
          exact ret_rows rfl w.heap.size 0 rfl (ints .u8 F) _ hfin.range Tryz.underlying38 rfl hszf rfl ⟨F, rfl, by show _ = _; rw [HF.out, HS0.out, HM.out]; rfl, HFL, hBf⟩
end Go.Proofs.YtpncohoonfahpaaGreatDoor
